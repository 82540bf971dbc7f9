/-
  The table and the document's, side by side, for every script.
-/
import Derived.Test.YtmohfblkfdkloaaStl
import Derived.Deep.RegionHeld3
namespace Go.Proofs.Ytmohfblkfdkloaa
open Go.RowKit
set_option linter.unusedVariables false
theorem PA.okk {w0 : World} {B : Nat} {F : Nat → Prop} {tb mb rb k : Nat} {wr : World} {T R : Tb} (h : PA w0 B F tb mb rb k wr T R) : Ok k T := by
  obtain ⟨C, E, v, x, u, us, h⟩ := h
  exact h.okt
set_option maxRecDepth 100000 in
set_option maxHeartbeats 4000000 in
theorem wplays (most idle : Int) (a : Option Addr) (len cap : Nat) (L : List Ac) (w : World) (hA : AcArg w a len cap L) (hr : len ≤ 2199023255552) :
    Calls Try.prog 3 #[.int .i64 most, .int .i64 idle, .slice a len cap] w fun e w' => e = .returned (.bool true) ∧ Below w.heap.size w w' := by
  by_cases hw : 1 ≤ most ∧ most ≤ 64 ∧ 1 ≤ idle ∧ idle ≤ 1048576
  · obtain ⟨hlen, hlc, hcm, hnil, hAc⟩ := hA
    have hAc' : Hid (Acs w a L) := hAc
    have hlen' : Hid (L.length = len) := hlen
    have hr' : Hid (len ≤ 2199023255552) := hr
    have hw' : Hid (1 ≤ most ∧ most ≤ 64 ∧ 1 ≤ idle ∧ idle ≤ 1048576) := hw
    clear hAc hlen hr hw
    go_enter Try.func3, Try.ntmps3
    go_wp2_with fail
    refine (ta_new most idle w hw'.out.1 hw'.out.2.1 hw'.out.2.2.1 hw'.out.2.2.2).mono ?_
    rintro e w1 ⟨rfl, hT1⟩
    generalize hB : w.heap.size = B at *
    have hBB : Hid (w.heap.size = B) := hB
    clear hB
    generalize B + 1 = tb at *
    go_wp2_with fail
    refine (xnew_yes most idle w1 hw'.out.1 hw'.out.2.1 hw'.out.2.2.1 hw'.out.2.2.2).mono ?_
    rintro e w2 ⟨rfl, hb2⟩
    have hP2 : Hid (PA w B (fun _ => False) tb B w2.heap.size 0 (w2.alloc (.cells #[.int .i64 most, .int .i64 idle, .int .i64 0, .slice none 0 0, .slice none 0 0] 30)) (t0 most idle) (t0 most idle)) := pa_new most idle hw'.out.1 hw'.out.2.1 hw'.out.2.2.1 hw'.out.2.2.2 hT1.out hb2.out
    clear hT1 hb2
    go_wp2_with (go_at_call 11; refine (alive_any _).mono ?_; rintro e w3 ⟨rfl, hb3⟩; have hP3 : Hid (PA w B (fun _ => False) tb B w2.heap.size 0 w3 (t0 most idle) (t0 most idle)) := hP2.out.step hb3.out; clear hP2 hb3)
    generalize w2.heap.size = rb at *
    go_loopw [12, 13, 14, 15, 16, 17, 18, 19, 20, 21, 22, 23, 54] (fun _ _ _ _ _ _ _ _ _ _ _ _ s54 wr => ∃ (i : Nat) (S : Tb), i ≤ len ∧ s54 = .int .i64 (i : Nat) ∧ Hid (PA w B (fun _ => False) tb B rb (2 * i) wr S S)) (fun _ _ _ _ _ _ _ _ _ _ _ _ i _ => len - (intOf i).toNat)
    case atStart => exact ⟨0, _, Nat.zero_le _, rfl, hP3⟩
    case round =>
      obtain ⟨i, S, hi, rfl, hP⟩ := hrel
      clear hP3
      by_cases hlt2 : i < len
      · have hd : decide ((i : Int) < (len : Int)) = true := by simp; omega
        obtain ⟨x, hx⟩ : ∃ x, L[i]? = some x := ⟨L[i]'(by rw [hlen'.out]; exact hlt2), List.getElem?_eq_getElem _⟩
        obtain ⟨b, off, rfl, hbl, hc, hV⟩ := acs_at (hAc'.out.kept (by rw [hBB.out]; exact hP.out.bel)) hx
        have d0 : wr.cell? ⟨b, off + i * 12, none⟩ = some (.int .i64 x.kind) := hc 0 (by decide)
        have d1 : wr.cell? ⟨b, off + i * 12 + 1, none⟩ = some (.int .i64 x.now) := hc 1 (by decide)
        have d2 : wr.cell? ⟨b, off + i * 12 + 2, none⟩ = some (.int .i64 x.m.k) := hc 2 (by decide)
        have d3 : wr.cell? ⟨b, off + i * 12 + 3, none⟩ = some (.int .u64 x.m.t) := hc 3 (by decide)
        have d4 : wr.cell? ⟨b, off + i * 12 + 4, none⟩ = some (.int .i64 x.m.e) := hc 4 (by decide)
        have d5 : wr.cell? ⟨b, off + i * 12 + 5, none⟩ = some (.int .i64 x.m.s) := hc 5 (by decide)
        have d6 : wr.cell? ⟨b, off + i * 12 + 6, none⟩ = some (.int .i64 x.m.a) := hc 6 (by decide)
        have d7 : wr.cell? ⟨b, off + i * 12 + 7, none⟩ = some (.int .u64 x.m.b) := hc 7 (by decide)
        have d8 : wr.cell? ⟨b, off + i * 12 + 8, none⟩ = some (.int .i64 x.m.c) := hc 8 (by decide)
        have d9 : wr.cell? ⟨b, off + i * 12 + 9, none⟩ = some (.int .i64 x.m.f) := hc 9 (by decide)
        have d10 : wr.cell? ⟨b, off + i * 12 + 10, none⟩ = some (.slice x.m.la x.m.ln x.m.lc) := hc 10 (by decide)
        have d11 : wr.cell? ⟨b, off + i * 12 + 11, none⟩ = some (.int .u64 x.d) := hc 11 (by decide)
        have hV' : Hid (AcV x) := hV
        have hP1 : Hid (PA w B (fun q => q = wr.heap.size) tb B rb (2 * i) (wr.alloc (.cells #[.int .i64 x.kind, .int .i64 x.now, .int .i64 x.m.k, .int .u64 x.m.t, .int .i64 x.m.e, .int .i64 x.m.s, .int .i64 x.m.a, .int .u64 x.m.b, .int .i64 x.m.c, .int .i64 x.m.f, .slice x.m.la x.m.ln x.m.lc, .int .u64 x.d] 39)) S S) := (hP.out.box _).weak fun q hq => .inr hq
        have hg1 : Hid (Blk (wr.alloc (.cells #[.int .i64 x.kind, .int .i64 x.now, .int .i64 x.m.k, .int .u64 x.m.t, .int .i64 x.m.e, .int .i64 x.m.s, .int .i64 x.m.a, .int .u64 x.m.b, .int .i64 x.m.c, .int .i64 x.m.f, .slice x.m.la x.m.ln x.m.lc, .int .u64 x.d] 39)) wr.heap.size #[.int .i64 x.kind, .int .i64 x.now, .int .i64 x.m.k, .int .u64 x.m.t, .int .i64 x.m.e, .int .i64 x.m.s, .int .i64 x.m.a, .int .u64 x.m.b, .int .i64 x.m.c, .int .i64 x.m.f, .slice x.m.la x.m.ln x.m.lc, .int .u64 x.d] 39) := blk_new wr _ _
        have hik : Hid (2 * i + 1 ≤ 5000000000000) := by have := hr'.out; show 2 * i + 1 ≤ _; omega
        have wi : IntKind.i64.wrap ((i : Int) + 1) = (i : Int) + 1 := by rw [IntKind.wrap_i64]; have := hr'.out; omega
        clear hc hV hx hbl hP
        have hkd : (Go.bits .and .i64 x.kind 3 == 0) = true ∨ ((Go.bits .and .i64 x.kind 3 == 0) = false ∧ ((Go.bits .and .i64 x.kind 3 == 1) = true ∨ ((Go.bits .and .i64 x.kind 3 == 1) = false ∧ ((Go.bits .and .i64 x.kind 3 == 2) = true ∨ (Go.bits .and .i64 x.kind 3 == 2) = false)))) := by
          cases (Go.bits .and .i64 x.kind 3 == 0) <;> cases (Go.bits .and .i64 x.kind 3 == 1) <;> cases (Go.bits .and .i64 x.kind 3 == 2) <;> simp
        have e10' := hg1.out.cell 0
        rcases hkd with q0 | ⟨q0, q1 | ⟨q1, q2 | q2⟩⟩
        · clear e10'
          obtain ⟨k0, t0, e0, s0, a0, b0, c0, f0, hM0⟩ := hel_form (goA S x.now) x.m x.d
          have hM : Hid (helM (goA S x.now) x.m x.d = ⟨k0, t0, e0, s0, a0, b0, c0, f0, none, 0, 0⟩) := hM0
          obtain ⟨E0, hE0⟩ : ∃ E0, greE (goA S x.now) x.m x.d = E0 := ⟨_, rfl⟩
          have hE : Hid (greE (goA S x.now) x.m x.d = E0) := hE0
          obtain ⟨f1, f2, f3, hF0⟩ := find_form (greA (goA S x.now) x.m x.d).L x.m.t
          have hF : Hid (findA (greA (goA S x.now) x.m x.d).L x.m.t = (f1, f2, f3)) := hF0
          clear hM0 hE0 hF0
          have e10 := hg1.out.cell 0
          have e11 := hg1.out.cell 1
          have e12 := hg1.out.cell 2
          have e13 := hg1.out.cell 3
          have e14 := hg1.out.cell 4
          have e15 := hg1.out.cell 5
          have e16 := hg1.out.cell 6
          have e17 := hg1.out.cell 7
          have e18 := hg1.out.cell 8
          have e19 := hg1.out.cell 9
          have e110 := hg1.out.cell 10
          have e111 := hg1.out.cell 11
          go_wp2_with (first
            | (go_at_call 12; refine (hP1.out.hello_as x.m x.d x.now (by have := hik.out; omega) hV'.out.1 hM.out hE.out).mono ?_; rintro e w4 ⟨rfl, hP4, hk4⟩; have hg4 : Hid (Blk w4 wr.heap.size #[.int .i64 x.kind, .int .i64 x.now, .int .i64 x.m.k, .int .u64 x.m.t, .int .i64 x.m.e, .int .i64 x.m.s, .int .i64 x.m.a, .int .u64 x.m.b, .int .i64 x.m.c, .int .i64 x.m.f, .slice x.m.la x.m.ln x.m.lc, .int .u64 x.d] 39) := hg1.out.kf hk4.out rfl; have hP5 : Hid (PA w B (fun q => q = wr.heap.size ∨ q = w4.heap.size) tb B rb (2 * i + 1) (w4.alloc (.cells #[.int .i64 k0, .int .u64 t0, .int .i64 e0, .int .i64 s0, .int .i64 a0, .int .u64 b0, .int .i64 c0, .int .i64 f0, .slice none 0 0] 37)) (greA (goA S x.now) x.m x.d) S) := hP4.out.box _; have hg5 : Hid (Blk (w4.alloc (.cells #[.int .i64 k0, .int .u64 t0, .int .i64 e0, .int .i64 s0, .int .i64 a0, .int .u64 b0, .int .i64 c0, .int .i64 f0, .slice none 0 0] 37)) wr.heap.size #[.int .i64 x.kind, .int .i64 x.now, .int .i64 x.m.k, .int .u64 x.m.t, .int .i64 x.m.e, .int .i64 x.m.s, .int .i64 x.m.a, .int .u64 x.m.b, .int .i64 x.m.c, .int .i64 x.m.f, .slice x.m.la x.m.ln x.m.lc, .int .u64 x.d] 39) := hg4.out.kept ((Below.refl _ _).alloc (Nat.le_refl _) _); have hm5 : Hid (Blk (w4.alloc (.cells #[.int .i64 k0, .int .u64 t0, .int .i64 e0, .int .i64 s0, .int .i64 a0, .int .u64 b0, .int .i64 c0, .int .i64 f0, .slice none 0 0] 37)) w4.heap.size #[.int .i64 k0, .int .u64 t0, .int .i64 e0, .int .i64 s0, .int .i64 a0, .int .u64 b0, .int .i64 c0, .int .i64 f0, .slice none 0 0] 37) := blk_new w4 _ _; have e51 := hg5.out.cell 1; have e52 := hg5.out.cell 2; have e53 := hg5.out.cell 3; have e54 := hg5.out.cell 4; have e55 := hg5.out.cell 5; have e56 := hg5.out.cell 6; have e57 := hg5.out.cell 7; have e58 := hg5.out.cell 8; have e59 := hg5.out.cell 9; have e510 := hg5.out.cell 10; have e511 := hg5.out.cell 11; clear hP1 hg1 e10 e11 e12 e13 e14 e15 e16 e17 e18 e19 e110 e111 hP4 hg4 hk4)
            | (go_at_call 13; refine (hP5.out.xhello_as x.m x.d x.now (by have := hik.out; omega) hV'.out.1 hM.out hE.out).mono ?_; rintro e w6 ⟨rfl, hP6, hk6⟩; have hg6 : Hid (Blk w6 wr.heap.size #[.int .i64 x.kind, .int .i64 x.now, .int .i64 x.m.k, .int .u64 x.m.t, .int .i64 x.m.e, .int .i64 x.m.s, .int .i64 x.m.a, .int .u64 x.m.b, .int .i64 x.m.c, .int .i64 x.m.f, .slice x.m.la x.m.ln x.m.lc, .int .u64 x.d] 39) := hg5.out.kf hk6.out (.inl rfl); have hm6 : Hid (Blk w6 w4.heap.size #[.int .i64 k0, .int .u64 t0, .int .i64 e0, .int .i64 s0, .int .i64 a0, .int .u64 b0, .int .i64 c0, .int .i64 f0, .slice none 0 0] 37) := hm5.out.kf hk6.out (.inr rfl); have hP7 : Hid (PA w B (fun q => (q = wr.heap.size ∨ q = w4.heap.size) ∨ q = w6.heap.size) tb B rb (2 * i + 1 + 1) (w6.alloc (.cells #[.int .i64 k0, .int .u64 t0, .int .i64 e0, .int .i64 s0, .int .i64 a0, .int .u64 b0, .int .i64 c0, .int .i64 f0, .slice none 0 0] 37)) (greA (goA S x.now) x.m x.d) (greA (goA S x.now) x.m x.d)) := hP6.out.box _; have hg7 : Hid (Blk (w6.alloc (.cells #[.int .i64 k0, .int .u64 t0, .int .i64 e0, .int .i64 s0, .int .i64 a0, .int .u64 b0, .int .i64 c0, .int .i64 f0, .slice none 0 0] 37)) wr.heap.size #[.int .i64 x.kind, .int .i64 x.now, .int .i64 x.m.k, .int .u64 x.m.t, .int .i64 x.m.e, .int .i64 x.m.s, .int .i64 x.m.a, .int .u64 x.m.b, .int .i64 x.m.c, .int .i64 x.m.f, .slice x.m.la x.m.ln x.m.lc, .int .u64 x.d] 39) := hg6.out.kept ((Below.refl _ _).alloc (Nat.le_refl _) _); have hm7 : Hid (Blk (w6.alloc (.cells #[.int .i64 k0, .int .u64 t0, .int .i64 e0, .int .i64 s0, .int .i64 a0, .int .u64 b0, .int .i64 c0, .int .i64 f0, .slice none 0 0] 37)) w4.heap.size #[.int .i64 k0, .int .u64 t0, .int .i64 e0, .int .i64 s0, .int .i64 a0, .int .u64 b0, .int .i64 c0, .int .i64 f0, .slice none 0 0] 37) := hm6.out.kept ((Below.refl _ _).alloc (Nat.le_refl _) _); have hn7 : Hid (Blk (w6.alloc (.cells #[.int .i64 k0, .int .u64 t0, .int .i64 e0, .int .i64 s0, .int .i64 a0, .int .u64 b0, .int .i64 c0, .int .i64 f0, .slice none 0 0] 37)) w6.heap.size #[.int .i64 k0, .int .u64 t0, .int .i64 e0, .int .i64 s0, .int .i64 a0, .int .u64 b0, .int .i64 c0, .int .i64 f0, .slice none 0 0] 37) := blk_new w6 _ _; have m70 := hm7.out.cell 0; have m71 := hm7.out.cell 1; have m72 := hm7.out.cell 2; have m73 := hm7.out.cell 3; have m74 := hm7.out.cell 4; have m75 := hm7.out.cell 5; have m76 := hm7.out.cell 6; have m77 := hm7.out.cell 7; have m78 := hm7.out.cell 8; have n70 := hn7.out.cell 0; have n71 := hn7.out.cell 1; have n72 := hn7.out.cell 2; have n73 := hn7.out.cell 3; have n74 := hn7.out.cell 4; have n75 := hn7.out.cell 5; have n76 := hn7.out.cell 6; have n77 := hn7.out.cell 7; have n78 := hn7.out.cell 8; clear hP5 hg5 hm5 e51 e52 e53 e54 e55 e56 e57 e58 e59 e510 e511 hP6 hg6 hm6 hk6)
            | (go_at_call 14; refine (one_like (⟨k0, t0, e0, s0, a0, b0, c0, f0, none, 0, 0⟩ : Mg) _ rfl rfl rfl).mono ?_; rintro e w8 ⟨rfl, hb8⟩; have hP8 : Hid (PA w B (fun q => q = wr.heap.size) tb B rb (2 * i + 1 + 1) w8 (greA (goA S x.now) x.m x.d) (greA (goA S x.now) x.m x.d)) := (hP7.out.step hb8.out).weak (fun q h => .inl (.inl h)); have hg8 : Hid (Blk w8 wr.heap.size #[.int .i64 x.kind, .int .i64 x.now, .int .i64 x.m.k, .int .u64 x.m.t, .int .i64 x.m.e, .int .i64 x.m.s, .int .i64 x.m.a, .int .u64 x.m.b, .int .i64 x.m.c, .int .i64 x.m.f, .slice x.m.la x.m.ln x.m.lc, .int .u64 x.d] 39) := hg7.out.kept hb8.out; have e83 := hg8.out.cell 3; clear hP7 hg7 hm7 hn7 m70 m71 m72 m73 m74 m75 m76 m77 m78 n70 n71 n72 n73 n74 n75 n76 n77 n78 hb8)
            | (go_at_call 22; refine (hP8.out.find x.m.t hF.out).mono ?_; rintro e w9 ⟨rfl, hP9, hb9⟩; have hg9 : Hid (Blk w9 wr.heap.size #[.int .i64 x.kind, .int .i64 x.now, .int .i64 x.m.k, .int .u64 x.m.t, .int .i64 x.m.e, .int .i64 x.m.s, .int .i64 x.m.a, .int .u64 x.m.b, .int .i64 x.m.c, .int .i64 x.m.f, .slice x.m.la x.m.ln x.m.lc, .int .u64 x.d] 39) := hg8.out.kept hb9.out; have e93 := hg9.out.cell 3; clear hP8 hg8 hb9 e83)
            | (go_at_call 23; refine (hP9.out.xfind x.m.t hF.out).mono ?_; rintro e wa ⟨rfl, hPa, hba⟩; obtain ⟨aL, cL, hcL⟩ := hPa.out.rlen; clear hP9 hg9 hba e93)
            | fail)
          go_region_held3 (fun wX => wX.cell? ⟨rb, 3, none⟩ = some (.slice aL (greA (goA S x.now) x.m x.d).L.length cL)) (first | exact hcL) (first
            | (go_at_call 24; refine ((hPa.out.step (Below.refl _ _).drew).live).mono ?_; rintro e wb ⟨rfl, hwb⟩; obtain rfl := hwb.symm))
          go_wp2_with (first
            | fail)
          exact ⟨⟨i + 1, _, by omega, by simp, ((hPa.out.step (Below.refl _ _).drew).weak (fun _ f => f.elim)).more (by omega)⟩, by simp [intOf]; omega⟩
        · clear e10'
          obtain ⟨E0, hE0⟩ : ∃ E0, heaE (goA S x.now) x.m = E0 := ⟨_, rfl⟩
          have hE : Hid (heaE (goA S x.now) x.m = E0) := hE0
          obtain ⟨f1, f2, f3, hF0⟩ := find_form (heaA (goA S x.now) x.m).L x.m.t
          have hF : Hid (findA (heaA (goA S x.now) x.m).L x.m.t = (f1, f2, f3)) := hF0
          clear hE0 hF0
          have SK : Hid (∀ wx, Blk wx wr.heap.size #[.int .i64 x.kind, .int .i64 x.now, .int .i64 x.m.k, .int .u64 x.m.t, .int .i64 x.m.e, .int .i64 x.m.s, .int .i64 x.m.a, .int .u64 x.m.b, .int .i64 x.m.c, .int .i64 x.m.f, .slice x.m.la x.m.ln x.m.lc, .int .u64 x.d] 39 → wx.cell? ⟨wr.heap.size, 1, none⟩ = some (.int .i64 x.now) ∧ wx.cell? ⟨wr.heap.size, 2, none⟩ = some (.int .i64 x.m.k) ∧ wx.cell? ⟨wr.heap.size, 3, none⟩ = some (.int .u64 x.m.t) ∧ wx.cell? ⟨wr.heap.size, 4, none⟩ = some (.int .i64 x.m.e) ∧ wx.cell? ⟨wr.heap.size, 5, none⟩ = some (.int .i64 x.m.s) ∧ wx.cell? ⟨wr.heap.size, 6, none⟩ = some (.int .i64 x.m.a) ∧ wx.cell? ⟨wr.heap.size, 7, none⟩ = some (.int .u64 x.m.b) ∧ wx.cell? ⟨wr.heap.size, 8, none⟩ = some (.int .i64 x.m.c) ∧ wx.cell? ⟨wr.heap.size, 9, none⟩ = some (.int .i64 x.m.f) ∧ wx.cell? ⟨wr.heap.size, 10, none⟩ = some (.slice x.m.la x.m.ln x.m.lc) ∧ wx.cell? ⟨wr.heap.size, 11, none⟩ = some (.int .u64 x.d)) := fun wx hx => ⟨hx.cell 1, hx.cell 2, hx.cell 3, hx.cell 4, hx.cell 5, hx.cell 6, hx.cell 7, hx.cell 8, hx.cell 9, hx.cell 10, hx.cell 11⟩
          have e10 := hg1.out.cell 0
          go_wp2_with fail
          go_region_held3 (fun wX => wX.cell? ⟨wr.heap.size, 1, none⟩ = some (.int .i64 x.now) ∧ wX.cell? ⟨wr.heap.size, 2, none⟩ = some (.int .i64 x.m.k) ∧ wX.cell? ⟨wr.heap.size, 3, none⟩ = some (.int .u64 x.m.t) ∧ wX.cell? ⟨wr.heap.size, 4, none⟩ = some (.int .i64 x.m.e) ∧ wX.cell? ⟨wr.heap.size, 5, none⟩ = some (.int .i64 x.m.s) ∧ wX.cell? ⟨wr.heap.size, 6, none⟩ = some (.int .i64 x.m.a) ∧ wX.cell? ⟨wr.heap.size, 7, none⟩ = some (.int .u64 x.m.b) ∧ wX.cell? ⟨wr.heap.size, 8, none⟩ = some (.int .i64 x.m.c) ∧ wX.cell? ⟨wr.heap.size, 9, none⟩ = some (.int .i64 x.m.f) ∧ wX.cell? ⟨wr.heap.size, 10, none⟩ = some (.slice x.m.la x.m.ln x.m.lc) ∧ wX.cell? ⟨wr.heap.size, 11, none⟩ = some (.int .u64 x.d)) (((with_reducible refine SK.out _ ?_); (first | exact hg8.out | exact hg4.out | exact hg1.out))) (first
            | (go_at_call 15; refine ((hP1.out.step (Below.refl _ _).drew).hear x.m x.now hE.out).mono ?_; rintro e w4 ⟨rfl, hP4, hk4⟩; have hg4 : Hid (Blk w4 wr.heap.size #[.int .i64 x.kind, .int .i64 x.now, .int .i64 x.m.k, .int .u64 x.m.t, .int .i64 x.m.e, .int .i64 x.m.s, .int .i64 x.m.a, .int .u64 x.m.b, .int .i64 x.m.c, .int .i64 x.m.f, .slice x.m.la x.m.ln x.m.lc, .int .u64 x.d] 39) := Blk.kf (w := (wr.alloc (.cells #[.int .i64 x.kind, .int .i64 x.now, .int .i64 x.m.k, .int .u64 x.m.t, .int .i64 x.m.e, .int .i64 x.m.s, .int .i64 x.m.a, .int .u64 x.m.b, .int .i64 x.m.c, .int .i64 x.m.f, .slice x.m.la x.m.ln x.m.lc, .int .u64 x.d] 39)).drew) hg1.out hk4.out rfl; clear hk4)
            | (go_at_call 16; refine (hP4.out.xhear x.m x.now hE.out).mono ?_; rintro e w8 ⟨rfl, hP8, hk8⟩; have hg8 : Hid (Blk w8 wr.heap.size #[.int .i64 x.kind, .int .i64 x.now, .int .i64 x.m.k, .int .u64 x.m.t, .int .i64 x.m.e, .int .i64 x.m.s, .int .i64 x.m.a, .int .u64 x.m.b, .int .i64 x.m.c, .int .i64 x.m.f, .slice x.m.la x.m.ln x.m.lc, .int .u64 x.d] 39) := hg4.out.kf hk8.out rfl; clear hk8))
          clear SK
          have e83 := hg8.out.cell 3
          go_wp2_with (first
            | (go_at_call 22; refine (hP8.out.find x.m.t hF.out).mono ?_; rintro e w9 ⟨rfl, hP9, hb9⟩; have hg9 : Hid (Blk w9 wr.heap.size #[.int .i64 x.kind, .int .i64 x.now, .int .i64 x.m.k, .int .u64 x.m.t, .int .i64 x.m.e, .int .i64 x.m.s, .int .i64 x.m.a, .int .u64 x.m.b, .int .i64 x.m.c, .int .i64 x.m.f, .slice x.m.la x.m.ln x.m.lc, .int .u64 x.d] 39) := hg8.out.kept hb9.out; have e93 := hg9.out.cell 3; clear hP8 hg8 hb9 e83)
            | (go_at_call 23; refine (hP9.out.xfind x.m.t hF.out).mono ?_; rintro e wa ⟨rfl, hPa, hba⟩; obtain ⟨aL, cL, hcL⟩ := hPa.out.rlen; clear hP9 hg9 hba e93)
            | fail)
          go_region_held3 (fun wX => wX.cell? ⟨rb, 3, none⟩ = some (.slice aL (heaA (goA S x.now) x.m).L.length cL)) (first | exact hcL) (first
            | (go_at_call 24; refine ((hPa.out.step (Below.refl _ _).drew).live).mono ?_; rintro e wb ⟨rfl, hwb⟩; obtain rfl := hwb.symm))
          go_wp2_with (first
            | fail)
          exact ⟨⟨i + 1, _, by omega, by simp, ((hPa.out.step (Below.refl _ _).drew).weak (fun _ f => f.elim)).more (by omega)⟩, by simp [intOf]; omega⟩
        · clear e10'
          obtain ⟨E0, hE0⟩ : ∃ E0, cloE (goA S x.now) x.d = E0 := ⟨_, rfl⟩
          have hE : Hid (cloE (goA S x.now) x.d = E0) := hE0
          obtain ⟨f1, f2, f3, hF0⟩ := find_form (remA (goA S x.now) x.d).L x.m.t
          have hF : Hid (findA (remA (goA S x.now) x.d).L x.m.t = (f1, f2, f3)) := hF0
          clear hE0 hF0
          have SK : Hid (∀ wx, Blk wx wr.heap.size #[.int .i64 x.kind, .int .i64 x.now, .int .i64 x.m.k, .int .u64 x.m.t, .int .i64 x.m.e, .int .i64 x.m.s, .int .i64 x.m.a, .int .u64 x.m.b, .int .i64 x.m.c, .int .i64 x.m.f, .slice x.m.la x.m.ln x.m.lc, .int .u64 x.d] 39 → wx.cell? ⟨wr.heap.size, 1, none⟩ = some (.int .i64 x.now) ∧ wx.cell? ⟨wr.heap.size, 2, none⟩ = some (.int .i64 x.m.k) ∧ wx.cell? ⟨wr.heap.size, 3, none⟩ = some (.int .u64 x.m.t) ∧ wx.cell? ⟨wr.heap.size, 4, none⟩ = some (.int .i64 x.m.e) ∧ wx.cell? ⟨wr.heap.size, 5, none⟩ = some (.int .i64 x.m.s) ∧ wx.cell? ⟨wr.heap.size, 6, none⟩ = some (.int .i64 x.m.a) ∧ wx.cell? ⟨wr.heap.size, 7, none⟩ = some (.int .u64 x.m.b) ∧ wx.cell? ⟨wr.heap.size, 8, none⟩ = some (.int .i64 x.m.c) ∧ wx.cell? ⟨wr.heap.size, 9, none⟩ = some (.int .i64 x.m.f) ∧ wx.cell? ⟨wr.heap.size, 10, none⟩ = some (.slice x.m.la x.m.ln x.m.lc) ∧ wx.cell? ⟨wr.heap.size, 11, none⟩ = some (.int .u64 x.d)) := fun wx hx => ⟨hx.cell 1, hx.cell 2, hx.cell 3, hx.cell 4, hx.cell 5, hx.cell 6, hx.cell 7, hx.cell 8, hx.cell 9, hx.cell 10, hx.cell 11⟩
          have e10 := hg1.out.cell 0
          go_wp2_with fail
          go_region_held3 (fun wX => wX.cell? ⟨wr.heap.size, 1, none⟩ = some (.int .i64 x.now) ∧ wX.cell? ⟨wr.heap.size, 2, none⟩ = some (.int .i64 x.m.k) ∧ wX.cell? ⟨wr.heap.size, 3, none⟩ = some (.int .u64 x.m.t) ∧ wX.cell? ⟨wr.heap.size, 4, none⟩ = some (.int .i64 x.m.e) ∧ wX.cell? ⟨wr.heap.size, 5, none⟩ = some (.int .i64 x.m.s) ∧ wX.cell? ⟨wr.heap.size, 6, none⟩ = some (.int .i64 x.m.a) ∧ wX.cell? ⟨wr.heap.size, 7, none⟩ = some (.int .u64 x.m.b) ∧ wX.cell? ⟨wr.heap.size, 8, none⟩ = some (.int .i64 x.m.c) ∧ wX.cell? ⟨wr.heap.size, 9, none⟩ = some (.int .i64 x.m.f) ∧ wX.cell? ⟨wr.heap.size, 10, none⟩ = some (.slice x.m.la x.m.ln x.m.lc) ∧ wX.cell? ⟨wr.heap.size, 11, none⟩ = some (.int .u64 x.d)) (((with_reducible refine SK.out _ ?_); (first | exact hg8.out | exact hg4.out | exact hg1.out))) (first
            | (go_at_call 17; refine ((hP1.out.step (Below.refl _ _).drew).close x.d x.now hE.out).mono ?_; rintro e w4 ⟨rfl, hP4, hk4⟩; have hg4 : Hid (Blk w4 wr.heap.size #[.int .i64 x.kind, .int .i64 x.now, .int .i64 x.m.k, .int .u64 x.m.t, .int .i64 x.m.e, .int .i64 x.m.s, .int .i64 x.m.a, .int .u64 x.m.b, .int .i64 x.m.c, .int .i64 x.m.f, .slice x.m.la x.m.ln x.m.lc, .int .u64 x.d] 39) := Blk.kf (w := (wr.alloc (.cells #[.int .i64 x.kind, .int .i64 x.now, .int .i64 x.m.k, .int .u64 x.m.t, .int .i64 x.m.e, .int .i64 x.m.s, .int .i64 x.m.a, .int .u64 x.m.b, .int .i64 x.m.c, .int .i64 x.m.f, .slice x.m.la x.m.ln x.m.lc, .int .u64 x.d] 39)).drew) hg1.out hk4.out rfl; clear hk4)
            | (go_at_call 18; refine (hP4.out.xclose x.d x.now hE.out).mono ?_; rintro e w8 ⟨rfl, hP8, hk8⟩; have hg8 : Hid (Blk w8 wr.heap.size #[.int .i64 x.kind, .int .i64 x.now, .int .i64 x.m.k, .int .u64 x.m.t, .int .i64 x.m.e, .int .i64 x.m.s, .int .i64 x.m.a, .int .u64 x.m.b, .int .i64 x.m.c, .int .i64 x.m.f, .slice x.m.la x.m.ln x.m.lc, .int .u64 x.d] 39) := hg4.out.kf hk8.out rfl; clear hk8))
          clear SK
          have e83 := hg8.out.cell 3
          go_wp2_with (first
            | (go_at_call 22; refine (hP8.out.find x.m.t hF.out).mono ?_; rintro e w9 ⟨rfl, hP9, hb9⟩; have hg9 : Hid (Blk w9 wr.heap.size #[.int .i64 x.kind, .int .i64 x.now, .int .i64 x.m.k, .int .u64 x.m.t, .int .i64 x.m.e, .int .i64 x.m.s, .int .i64 x.m.a, .int .u64 x.m.b, .int .i64 x.m.c, .int .i64 x.m.f, .slice x.m.la x.m.ln x.m.lc, .int .u64 x.d] 39) := hg8.out.kept hb9.out; have e93 := hg9.out.cell 3; clear hP8 hg8 hb9 e83)
            | (go_at_call 23; refine (hP9.out.xfind x.m.t hF.out).mono ?_; rintro e wa ⟨rfl, hPa, hba⟩; obtain ⟨aL, cL, hcL⟩ := hPa.out.rlen; clear hP9 hg9 hba e93)
            | fail)
          go_region_held3 (fun wX => wX.cell? ⟨rb, 3, none⟩ = some (.slice aL (remA (goA S x.now) x.d).L.length cL)) (first | exact hcL) (first
            | (go_at_call 24; refine ((hPa.out.step (Below.refl _ _).drew).live).mono ?_; rintro e wb ⟨rfl, hwb⟩; obtain rfl := hwb.symm))
          go_wp2_with (first
            | fail)
          exact ⟨⟨i + 1, _, by omega, by simp, ((hPa.out.step (Below.refl _ _).drew).weak (fun _ f => f.elim)).more (by omega)⟩, by simp [intOf]; omega⟩
        · clear e10'
          obtain ⟨f1, f2, f3, hF0⟩ := find_form (goA S x.now).L x.m.t
          have hF : Hid (findA (goA S x.now).L x.m.t = (f1, f2, f3)) := hF0
          have hOS : Hid (Ok (2 * i) S) := hP1.out.okk
          clear hF0
          have SK : Hid (∀ wx, Blk wx wr.heap.size #[.int .i64 x.kind, .int .i64 x.now, .int .i64 x.m.k, .int .u64 x.m.t, .int .i64 x.m.e, .int .i64 x.m.s, .int .i64 x.m.a, .int .u64 x.m.b, .int .i64 x.m.c, .int .i64 x.m.f, .slice x.m.la x.m.ln x.m.lc, .int .u64 x.d] 39 → wx.cell? ⟨wr.heap.size, 1, none⟩ = some (.int .i64 x.now) ∧ wx.cell? ⟨wr.heap.size, 2, none⟩ = some (.int .i64 x.m.k) ∧ wx.cell? ⟨wr.heap.size, 3, none⟩ = some (.int .u64 x.m.t) ∧ wx.cell? ⟨wr.heap.size, 4, none⟩ = some (.int .i64 x.m.e) ∧ wx.cell? ⟨wr.heap.size, 5, none⟩ = some (.int .i64 x.m.s) ∧ wx.cell? ⟨wr.heap.size, 6, none⟩ = some (.int .i64 x.m.a) ∧ wx.cell? ⟨wr.heap.size, 7, none⟩ = some (.int .u64 x.m.b) ∧ wx.cell? ⟨wr.heap.size, 8, none⟩ = some (.int .i64 x.m.c) ∧ wx.cell? ⟨wr.heap.size, 9, none⟩ = some (.int .i64 x.m.f) ∧ wx.cell? ⟨wr.heap.size, 10, none⟩ = some (.slice x.m.la x.m.ln x.m.lc) ∧ wx.cell? ⟨wr.heap.size, 11, none⟩ = some (.int .u64 x.d)) := fun wx hx => ⟨hx.cell 1, hx.cell 2, hx.cell 3, hx.cell 4, hx.cell 5, hx.cell 6, hx.cell 7, hx.cell 8, hx.cell 9, hx.cell 10, hx.cell 11⟩
          have e10 := hg1.out.cell 0
          go_wp2_with fail
          go_region_held3 (fun wX => wX.cell? ⟨wr.heap.size, 1, none⟩ = some (.int .i64 x.now) ∧ wX.cell? ⟨wr.heap.size, 2, none⟩ = some (.int .i64 x.m.k) ∧ wX.cell? ⟨wr.heap.size, 3, none⟩ = some (.int .u64 x.m.t) ∧ wX.cell? ⟨wr.heap.size, 4, none⟩ = some (.int .i64 x.m.e) ∧ wX.cell? ⟨wr.heap.size, 5, none⟩ = some (.int .i64 x.m.s) ∧ wX.cell? ⟨wr.heap.size, 6, none⟩ = some (.int .i64 x.m.a) ∧ wX.cell? ⟨wr.heap.size, 7, none⟩ = some (.int .u64 x.m.b) ∧ wX.cell? ⟨wr.heap.size, 8, none⟩ = some (.int .i64 x.m.c) ∧ wX.cell? ⟨wr.heap.size, 9, none⟩ = some (.int .i64 x.m.f) ∧ wX.cell? ⟨wr.heap.size, 10, none⟩ = some (.slice x.m.la x.m.ln x.m.lc) ∧ wX.cell? ⟨wr.heap.size, 11, none⟩ = some (.int .u64 x.d)) (((with_reducible refine SK.out _ ?_); (first | exact hg8.out | exact hg6.out | exact hg4.out | exact hg1.out))) (first
            | (go_at_call 20; refine ((hP1.out.step (Below.refl _ _).drew).tick x.now).mono ?_; rintro e w4 ⟨v1, rfl, hv1, hP4, hk4⟩; have hg4 : Hid (Blk w4 wr.heap.size #[.int .i64 x.kind, .int .i64 x.now, .int .i64 x.m.k, .int .u64 x.m.t, .int .i64 x.m.e, .int .i64 x.m.s, .int .i64 x.m.a, .int .u64 x.m.b, .int .i64 x.m.c, .int .i64 x.m.f, .slice x.m.la x.m.ln x.m.lc, .int .u64 x.d] 39) := Blk.kf (w := (wr.alloc (.cells #[.int .i64 x.kind, .int .i64 x.now, .int .i64 x.m.k, .int .u64 x.m.t, .int .i64 x.m.e, .int .i64 x.m.s, .int .i64 x.m.a, .int .u64 x.m.b, .int .i64 x.m.c, .int .i64 x.m.f, .slice x.m.la x.m.ln x.m.lc, .int .u64 x.d] 39)).drew) hg1.out hk4.out rfl; clear hk4)
            | (go_at_call 21; refine (hP4.out.xtick x.now).mono ?_; rintro e w6 ⟨v2, rfl, hv2, hP6, hk6⟩; have hg6 : Hid (Blk w6 wr.heap.size #[.int .i64 x.kind, .int .i64 x.now, .int .i64 x.m.k, .int .u64 x.m.t, .int .i64 x.m.e, .int .i64 x.m.s, .int .i64 x.m.a, .int .u64 x.m.b, .int .i64 x.m.c, .int .i64 x.m.f, .slice x.m.la x.m.ln x.m.lc, .int .u64 x.d] 39) := hg4.out.kf hk6.out (.inl rfl); have hv16 : Hid (OwnsW w6 0 v1 (endA S x.now)) := hv1.out.kf hk6.out (fun g hg => .inr hg); clear hk6 hv1)
            | (go_at_call 19; refine (PA.alike x.now _ _ hOS.out hv16.out hv2.out).mono ?_; rintro e w8 ⟨rfl, hb8⟩; have hg8 : Hid (Blk w8 wr.heap.size #[.int .i64 x.kind, .int .i64 x.now, .int .i64 x.m.k, .int .u64 x.m.t, .int .i64 x.m.e, .int .i64 x.m.s, .int .i64 x.m.a, .int .u64 x.m.b, .int .i64 x.m.c, .int .i64 x.m.f, .slice x.m.la x.m.ln x.m.lc, .int .u64 x.d] 39) := hg6.out.kept hb8; have hP8 : Hid (PA w B (fun q => q = wr.heap.size) tb B rb (2 * i) w8 (goA S x.now) (goA S x.now)) := (hP6.out.step hb8).weak (fun q h => .inl (.inl h)); clear hb8))
          clear SK
          have e83 := hg8.out.cell 3
          go_wp2_with (first
            | (go_at_call 22; refine (hP8.out.find x.m.t hF.out).mono ?_; rintro e w9 ⟨rfl, hP9, hb9⟩; have hg9 : Hid (Blk w9 wr.heap.size #[.int .i64 x.kind, .int .i64 x.now, .int .i64 x.m.k, .int .u64 x.m.t, .int .i64 x.m.e, .int .i64 x.m.s, .int .i64 x.m.a, .int .u64 x.m.b, .int .i64 x.m.c, .int .i64 x.m.f, .slice x.m.la x.m.ln x.m.lc, .int .u64 x.d] 39) := hg8.out.kept hb9.out; have e93 := hg9.out.cell 3; clear hP8 hg8 hb9 e83)
            | (go_at_call 23; refine (hP9.out.xfind x.m.t hF.out).mono ?_; rintro e wa ⟨rfl, hPa, hba⟩; obtain ⟨aL, cL, hcL⟩ := hPa.out.rlen; clear hP9 hg9 hba e93)
            | fail)
          go_region_held3 (fun wX => wX.cell? ⟨rb, 3, none⟩ = some (.slice aL (goA S x.now).L.length cL)) (first | exact hcL) (first
            | (go_at_call 24; refine ((hPa.out.step (Below.refl _ _).drew).live).mono ?_; rintro e wb ⟨rfl, hwb⟩; obtain rfl := hwb.symm))
          go_wp2_with (first
            | fail)
          exact ⟨⟨i + 1, _, by omega, by simp, ((hPa.out.step (Below.refl _ _).drew).weak (fun _ f => f.elim)).more (by omega)⟩, by simp [intOf]; omega⟩
      · have hd : decide ((i : Int) < (len : Int)) = false := by simp; omega
        go_wp2
        go_ret
        exact ⟨rfl, by rw [hBB.out]; exact hP.out.bel⟩
  · have hno : most < 1 ∨ 64 < most ∨ idle < 1 ∨ 1048576 < idle := by omega
    clear hA hw
    go_enter Try.func3, Try.ntmps3
    go_wp2_with fail
    refine (new_no most idle w hno).mono ?_
    rintro e w1 ⟨rfl, hw1⟩
    obtain rfl := hw1.symm
    go_wp2_with fail
    refine (xnew_no most idle w hno).mono ?_
    rintro e w2 ⟨rfl, hb2⟩
    go_wp2_with (go_at_call 11; refine (alive_any _).mono ?_; rintro e w3 ⟨rfl, hb3⟩; have hb4 : Hid (Below w.heap.size w w3) := (Below.al hb2.out _).trans (hb3.out.mono (Below.al hb2.out _).size))
    go_ret
    exact ⟨rfl, hb4.out⟩
end Go.Proofs.Ytmohfblkfdkloaa
