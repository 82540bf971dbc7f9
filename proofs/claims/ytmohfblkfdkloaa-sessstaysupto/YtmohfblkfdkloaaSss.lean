/-
  Whoever is heard of at least each idle ticks stays; whoever is not goes.
-/
import Derived.Test.YtmohfblkfdkloaaSso
import Derived.Test.YtmohfblkfdkloaaSsr
import Derived.Deep.RegionHeld3
namespace Go.Proofs.Ytmohfblkfdkloaa
open Go.RowKit
set_option linter.unusedVariables false
theorem and255 (x : Int) : ∃ m : Nat, m ≤ 255 ∧ bits .and .i64 x 255 = (m : Int) := by
  refine ⟨(BitVec.ofInt 64 x &&& BitVec.ofInt 64 255).toNat, ?_, ?_⟩
  · rw [BitVec.toNat_and]
    exact Nat.le_trans Nat.and_le_right (by decide)
  · show IntKind.i64.wrap ((BitVec.ofInt 64 x &&& BitVec.ofInt 64 255).toNat : Int) = _
    have h : (BitVec.ofInt 64 x &&& BitVec.ofInt 64 255).toNat ≤ 255 := by
      rw [BitVec.toNat_and]
      exact Nat.le_trans Nat.and_le_right (by decide)
    rw [IntKind.wrap_i64]
    omega
def hK : Int := 9223372036854775809
/-- THE SESSION WATCHED IS THERE, heard of at h. -/
def Hs (T : Tb) (h : Int) : Prop := ∃ s ∈ T.L, s.t = hK ∧ s.e = 1 ∧ s.h = h
theorem tm_now {T : Tb} {now : Int} (h1 : T.time ≤ now) (h2 : now ≤ 1099511627776) : tmA T now = now := by
  unfold tmA
  split <;> omega
theorem hs_go {T : Tb} {h now : Int} (hs : Hs T h) (h1 : T.time ≤ now) (h2 : now ≤ 1099511627776) (h3 : now - h ≤ T.idle) : Hs (goA T now) h := by
  obtain ⟨s, hm, a, b, c⟩ := hs
  refine ⟨s, ?_, a, b, c⟩
  show s ∈ T.L.filter _
  rw [List.mem_filter]
  refine ⟨hm, ?_⟩
  rw [tm_now h1 h2]
  unfold old
  simp
  omega
theorem hs_beg {T : Tb} {h d f : Int} (hs : Hs T h) : Hs (begA T d f) h := by
  obtain ⟨s, hm, r⟩ := hs
  unfold begA
  split
  · exact ⟨s, List.mem_append_left _ hm, r⟩
  · exact ⟨s, hm, r⟩
theorem beg_time (T : Tb) (d f : Int) : (begA T d f).time = T.time ∧ (begA T d f).idle = T.idle ∧ (begA T d f).most = T.most := by unfold begA; split <;> exact ⟨rfl, rfl, rfl⟩
/-- The message that is heard. -/
def mK : Mg := ⟨0, hK, 1, 0, 0, 0, 0, 0, none, 0, 0⟩
theorem hs_hear {k : Nat} {T : Tb} {h : Int} (hO : Ok k T) (hs : Hs T h) : heaE T mK = 0 ∧ Hs (heaA T mK) T.time ∧ (heaA T mK).time = T.time ∧ (heaA T mK).idle = T.idle := by
  obtain ⟨s, hm, a, b, c⟩ := hs
  obtain ⟨i, hi, hi2⟩ := fi_one hO.one hm
  have hi' : fiA T.L mK.t = some i := by rw [a] at hi; exact hi
  have hg : T.L.getD i zS = s := by rw [List.getD_eq_getElem?_getD, hi2]; rfl
  have e1 : mK.e = 1 := rfl
  have e2 : mK.k ≠ 7 := by decide
  unfold heaE heaA
  rw [hi']
  simp only [hg, e1, b]
  refine ⟨by simp, ?_, by simp [e2], by simp [e2]⟩
  simp only [Int.lt_irrefl, if_false, e2]
  refine ⟨hrdS T s, ?_, a, b, rfl⟩
  show hrdS T s ∈ T.L.set i (hrdS T s)
  exact List.mem_set (List.getElem?_eq_some_iff.1 hi2).1 _
theorem hs_find {k : Nat} {T : Tb} {h : Int} (hO : Ok k T) (hs : Hs T h) : (findA T.L hK).2.2 = true := by
  obtain ⟨s, hm, a, b, c⟩ := hs
  obtain ⟨i, hi, hi2⟩ := fi_one hO.one hm
  rw [a] at hi
  rw [findA_some hi hi2]
section
variable {w0 : World} {B tb mb k : Nat} {C : Nat → Prop} {wr : World} {T : Tb}
/-- The first Hello. -/
theorem TA.hello_first {idle : Int} (h : TA w0 B C tb mb 0 wr (t0 64 idle)) :
    Calls Try.prog 12 #[.pointer (some ⟨tb, 0, none⟩), (hlo 0).val, .int .u64 9223372036854775809, .int .i64 0] wr fun e w' => ∃ (k0 t0 e0 s0 a0 b0 c0 f0 : Int) (la : Option Addr) (ln lc : Nat) (T' : Tb), e = .returned (.tuple #[.agg #[.int .i64 k0, .int .u64 t0, .int .i64 e0, .int .i64 s0, .int .i64 a0, .int .u64 b0, .int .i64 c0, .int .i64 f0, .slice la ln lc], .int .i64 0]) ∧ Hid (TA w0 B C tb mb 1 w' T') ∧ Hid (Hs T' 0 ∧ T'.time = 0 ∧ T'.idle = idle) := by
  refine (h.hello (hlo 0) 9223372036854775809 0 (by decide) (by decide)).mono ?_
  rintro e w' ⟨rfl, h1, -⟩
  have hE : begE (goA (t0 64 idle) 0) 9223372036854775809 = 0 := rfl
  have hE2 : greE (goA (t0 64 idle) 0) (hlo 0) 9223372036854775809 = 0 := (gre_hlo _ _).1.trans hE
  rw [hE2]
  rw [(gre_hlo _ _).2] at h1
  refine ⟨_, _, _, _, _, _, _, _, _, _, _, _, rfl, h1, ?_⟩
  have hA : begA (goA (t0 64 idle) 0) 9223372036854775809 1 = { goA (t0 64 idle) 0 with L := (goA (t0 64 idle) 0).L ++ [⟨9223372036854775809, 1, 1, (goA (t0 64 idle) 0).time⟩], U := fun x => if x = 9223372036854775809 then true else (goA (t0 64 idle) 0).U x, n := (goA (t0 64 idle) 0).n + 1 } := by
    unfold begA
    rw [if_pos hE]
  rw [hA]
  exact ⟨⟨_, List.mem_append_right _ (List.mem_singleton.2 rfl), rfl, rfl, rfl⟩, rfl, rfl⟩
theorem TA.hello_stay {h0 : Int} (d now : Int) (h : TA w0 B C tb mb k wr T) (hk : k < 70368744177664) (hd : 0 ≤ d ∧ d < 18446744073709551616) (hs : Hs T h0) (h1 : T.time ≤ now) (h2 : now ≤ 1099511627776) (h3 : now - h0 ≤ T.idle) :
    Calls Try.prog 12 #[.pointer (some ⟨tb, 0, none⟩), (hlo 0).val, .int .u64 d, .int .i64 now] wr fun e w' => ∃ (v : Value) (T' : Tb), e = .returned v ∧ Hid (TA w0 B C tb mb (k + 1) w' T') ∧ Hid (Hs T' h0 ∧ T'.time = now ∧ T'.idle = T.idle) := by
  refine (h.hello (hlo 0) d now hk hd).mono ?_
  rintro e w' ⟨rfl, h4, -⟩
  rw [(gre_hlo _ _).2] at h4
  refine ⟨_, _, rfl, h4, hs_beg (hs_go hs h1 h2 h3), ?_, (beg_time _ _ _).2.1⟩
  rw [(beg_time _ _ _).1]
  exact tm_now h1 h2
theorem TA.hear_stay {h0 : Int} (now : Int) (h : TA w0 B C tb mb k wr T) (hs : Hs T h0) (h1 : T.time ≤ now) (h2 : now ≤ 1099511627776) (h3 : now - h0 ≤ T.idle) :
    Calls Try.prog 15 #[.pointer (some ⟨tb, 0, none⟩), .agg #[.int .i64 0, .int .u64 9223372036854775809, .int .i64 1, .int .i64 0, .int .i64 0, .int .u64 0, .int .i64 0, .int .i64 0, .slice none 0 0], .int .i64 now] wr fun e w' => ∃ (T' : Tb), e = .returned (.int .i64 0) ∧ Hid (TA w0 B C tb mb k w' T') ∧ Hid (Hs T' now ∧ T'.time = now ∧ T'.idle = T.idle) := by
  have hh := hs_hear (go_ok h.ok now) (hs_go hs h1 h2 h3)
  refine (h.hear mK now).mono ?_
  rintro e w' ⟨rfl, h4, -⟩
  have ht : (goA T now).time = now := tm_now h1 h2
  rw [hh.1]
  exact ⟨_, rfl, h4, by have := hh.2.1; rw [ht] at this; exact this, by rw [hh.2.2.1]; exact ht, hh.2.2.2⟩
/-- Just idle ticks behind. -/
theorem TA.tick_stay {h0 : Int} (now : Int) (h : TA w0 B C tb mb k wr T) (hs : Hs T h0) (h1 : T.time ≤ now) (h2 : now ≤ 1099511627776) (h3 : now - h0 ≤ T.idle) :
    Calls Try.prog 20 #[.pointer (some ⟨tb, 0, none⟩), .int .i64 now] wr fun e w' => ∃ (v : Value) (T' : Tb), e = .returned v ∧ Hid (TA w0 B C tb mb k w' T') ∧ Hid (Hs T' h0 ∧ T'.time = now ∧ T'.idle = T.idle ∧ ∀ s ∈ T'.L, s ∈ T.L) := by
  refine (h.tick now).mono ?_
  rintro e w' ⟨v, rfl, -, h4, -⟩
  exact ⟨_, _, rfl, h4, hs_go hs h1 h2 h3, tm_now h1 h2, rfl, fun s hs => (List.mem_filter.1 hs).1⟩
/-- One tick more: all go. -/
theorem TA.tick_gone {h0 : Int} (now : Int) (h : TA w0 B C tb mb k wr T) (h1 : T.time ≤ now) (h2 : now ≤ 1099511627776) (hs : ∀ s ∈ T.L, s.h ≤ h0) (h3 : T.idle < now - h0) :
    Calls Try.prog 20 #[.pointer (some ⟨tb, 0, none⟩), .int .i64 now] wr fun e w' => ∃ (v : Value) (T' : Tb), e = .returned v ∧ Hid (TA w0 B C tb mb k w' T') ∧ Hid (T'.L = []) := by
  refine (h.tick now).mono ?_
  rintro e w' ⟨v, rfl, -, h4, -⟩
  refine ⟨_, _, rfl, h4, ?_⟩
  show T.L.filter _ = []
  rw [List.filter_eq_nil_iff]
  intro s hm
  rw [tm_now h1 h2]
  unfold old
  have := hs s hm
  simp
  omega
theorem TA.find_yes {h0 : Int} (h : TA w0 B C tb mb k wr T) (hs : Hs T h0) : Calls Try.prog 22 #[.pointer (some ⟨tb, 0, none⟩), .int .u64 9223372036854775809] wr fun e w' => ∃ p1 p2 : Int, e = .returned (.tuple #[.int .i64 p1, .int .i64 p2, .bool true]) ∧ Hid (TA w0 B C tb mb k w' T) := by
  refine (h.find 9223372036854775809).mono ?_
  rintro e w' ⟨rfl, h1, -⟩
  exact ⟨_, _, by rw [show (findA T.L 9223372036854775809).2.2 = true from hs_find h.ok hs], h1⟩
theorem TA.find_gone (h : TA w0 B C tb mb k wr T) (hL : T.L = []) : Calls Try.prog 22 #[.pointer (some ⟨tb, 0, none⟩), .int .u64 9223372036854775809] wr fun e w' => e = .returned (.tuple #[.int .i64 0, .int .i64 0, .bool false]) ∧ Hid (TA w0 B C tb mb k w' T) := by
  refine (h.find 9223372036854775809).mono ?_
  rintro e w' ⟨rfl, h1, -⟩
  rw [hL]
  exact ⟨rfl, h1⟩
theorem TA.live_gone (h : TA w0 B C tb mb k wr T) (hL : T.L = []) : Calls Try.prog 24 #[.pointer (some ⟨tb, 0, none⟩)] wr fun e w' => e = .returned (.int .i64 0) ∧ w' = wr := by
  have := h.live
  rw [hL] at this
  exact this
end
set_option maxRecDepth 100000 in
set_option maxHeartbeats 4000000 in
theorem wstays (idle : Int) (a : Option Addr) (len cap : Nat) (gs : List Int) (b : Option Addr) (ln2 cap2 : Nat) (os : List Int) (w : World) (hl : gs.length = len) (hlc : len ≤ cap) (hcm : cap ≤ 140737488351232) (hu : len ≤ 1048576) (hA : Bytes w a gs) (hl2 : os.length = ln2) (hlc2 : ln2 ≤ cap2) (hcm2 : cap2 ≤ 17592186043904) (hA2 : Wds w b os) :
    Calls Try.prog 5 #[.int .i64 idle, .slice a len cap, .slice b ln2 cap2] w fun e w' => e = .returned (.bool true) ∧ Below w.heap.size w w' := by
  obtain ⟨m, hm, hbits⟩ := and255 idle
  have hA' : Hid (Bytes w a gs) := hA
  have hB' : Hid (Wds w b os) := hA2
  have hl' : Hid (gs.length = len) := hl
  have hl2' : Hid (os.length = ln2) := hl2
  have hr' : Hid (len ≤ 1048576) := hu
  have wid : IntKind.i64.wrap ((m : Int) + 1) = (m : Int) + 1 := by rw [IntKind.wrap_i64]; omega
  have hm' : Hid (m ≤ 255) := hm
  clear hA hA2 hl hl2 hu
  go_enter Try.func5, Try.ntmps5
  go_wp2_with fail
  generalize hid : (m : Int) + 1 = id at *
  have hid' : Hid (1 ≤ id ∧ id ≤ 256) := by have := hm'.out; show _ ∧ _; omega
  clear hid hm hm'
  refine (ta_new 64 id w (by decide) (by decide) hid'.out.1 (by have := hid'.out.2; omega)).mono ?_
  rintro e w1 ⟨rfl, hT1⟩
  generalize hB : w.heap.size = B at *
  have hBB : Hid (w.heap.size = B) := hB
  clear hB
  generalize B + 1 = tb at *
  go_wp2_with (first
    | (go_at_call 11; refine (alive_any w1).mono ?_; rintro e w2 ⟨rfl, hb2⟩; have hT2 : Hid (TA w B (fun q => B ≤ q) tb B 0 w2 (t0 64 id)) := hT1.out.step hb2.out; clear hT1 hb2)
    | (go_at_call 25; refine (hello_fn _ _).mono ?_; rintro e w3 ⟨rfl, hb⟩; have hT3 : Hid (TA w B (fun q => B ≤ q) tb B 0 w3 (t0 64 id)) := hT2.out.step hb; clear hT2 hb)
    | (go_at_call 12; refine (hT3.out.hello_first).mono ?_; rintro e w4 ⟨k0, t0, e0, s0, a0, b0, c0, f0, la, ln, lc, T', rfl, hT4, hS4⟩; have hT5 : Hid (TA w B (fun q => B ≤ q) tb B 1 (w4.alloc (.cells #[.int .i64 k0, .int .u64 t0, .int .i64 e0, .int .i64 s0, .int .i64 a0, .int .u64 b0, .int .i64 c0, .int .i64 f0, .slice la ln lc] 37)) T') := hT4.out.step ((Below.refl _ _).alloc (Nat.le_refl _) _); clear hT3 hT4))
  generalize (w4.alloc (.cells #[.int .i64 k0, .int .u64 t0, .int .i64 e0, .int .i64 s0, .int .i64 a0, .int .u64 b0, .int .i64 c0, .int .i64 f0, .slice la ln lc] 37)) = w5 at *
  go_loopw [9, 12, 13, 49] (fun s9 _ _ s49 wr => ∃ (i : Nat) (T : Tb) (now : Int), i ≤ len ∧ s49 = .int .i64 (i : Nat) ∧ s9 = .int .i64 now ∧ Hid (TA w B (fun q => B ≤ q) tb B (i + 1) wr T) ∧ Hid (Hs T now ∧ T.time = now ∧ T.idle = id) ∧ Hid (0 ≤ now ∧ now ≤ 256 * (i : Int))) (fun _ _ _ i _ => len - (intOf i).toNat)
  case atStart => exact ⟨0, _, 0, Nat.zero_le _, rfl, rfl, hT5, hS4, by show (0 : Int) ≤ 0 ∧ (0 : Int) ≤ 256 * 0; decide⟩
  case round =>
    obtain ⟨i, T, now, hi, rfl, rfl, hT, hS, hN⟩ := hrel
    clear hT5 hS4
    by_cases hlt2 : i < len
    · have hd : decide ((i : Int) < (len : Int)) = true := by simp; omega
      obtain ⟨bb, off, rfl⟩ := bytes_some hA'.out (by rw [hl'.out]; omega)
      have hAw := hA'.out.kept (by rw [hBB.out]; exact hT.out.bel)
      have hcg : wr.cell? ⟨bb, off + i, none⟩ = some (.int .u8 (gs.getD i 0)) := by
        rcases hAw.2.2 with h | ⟨b', off', e, hc⟩
        · rw [h] at hl'; have := hl'.out; simp at this; omega
        · cases e; exact hc i (by rw [hl'.out]; exact hlt2)
      have hg1 : 0 ≤ gs.getD i 0 ∧ gs.getD i 0 < 256 := by
        rw [List.getD_eq_getElem?_getD, List.getElem?_eq_getElem (by rw [hl'.out]; exact hlt2)]
        exact hAw.1 _ (List.getElem_mem _)
      generalize gs.getD i 0 = g at *
      have wi : IntKind.i64.wrap ((i : Int) + 1) = (i : Int) + 1 := by rw [IntKind.wrap_i64]; have := hr'.out; omega
      have wg : IntKind.i64.wrap g = g := by rw [IntKind.wrap_i64]; omega
      have w1d : IntKind.i64.wrap (id + 1) = id + 1 := by rw [IntKind.wrap_i64]; have := hid'.out; omega
      have q0 : ¬ (id + 1 = 0) := by have := hid'.out; omega
      have hik : Hid (i + 1 < 70368744177664) := by have := hr'.out; show i + 1 < _; omega
      have ht : Int.tmod g (id + 1) = g % (id + 1) := Int.tmod_eq_emod_of_nonneg hg1.1
      have hdl : Hid (0 ≤ g % (id + 1) ∧ g % (id + 1) ≤ id) := by
        have h1 := hid'.out
        have h2 := Int.emod_nonneg g (show id + 1 ≠ 0 by omega)
        have h3 := Int.emod_lt_of_pos g (show 0 < id + 1 by omega)
        show _ ∧ _
        omega
      have wr1 : IntKind.i64.wrap (Int.tmod g (id + 1)) = g % (id + 1) := by rw [ht, IntKind.wrap_i64]; have := hdl.out; have := hid'.out; omega
      have wn : IntKind.i64.wrap (now + g % (id + 1)) = now + g % (id + 1) := by rw [IntKind.wrap_i64]; have := hdl.out; have := hid'.out; have := hN.out; have := hr'.out; omega
      clear hAw
      by_cases ho : i < ln2
      · have hd2 : decide ((i : Int) < (ln2 : Int)) = true := by simp; omega
        obtain ⟨ob, ooff, z, rfl, hcz0, hz1, hz2⟩ := hB'.out.at (i := i) (by rw [hl2'.out]; exact ho)
        have hzz : Hid (0 ≤ z ∧ z < 18446744073709551616) := ⟨hz1, hz2⟩
        have SO : Hid (∀ wx T3 k3, TA w B (fun q => B ≤ q) tb B k3 wx T3 → wx.cell? ⟨ob, ooff + i, none⟩ = some (.int .u64 z)) := fun wx T3 k3 h3 => (h3.bel.cell (p := ⟨ob, ooff + i, none⟩) (by rw [← hBB.out]; exact cell_lt hcz0)).trans hcz0
        have hcz := SO.out _ _ _ hT.out
        clear hcz0 hz1 hz2
        cases hzk : (z != 9223372036854775809) with
        | true =>
          go_wp2_with fail
          go_region_held3 (fun wx => wx.cell? ⟨ob, ooff + i, none⟩ = some (.int .u64 z)) (first | exact hcz | exact cz4 | exact cz5) (first
            | (go_at_call 25; refine (hello_fn _ _).mono ?_; rintro e w4 ⟨rfl, hb4⟩; have hT4 : Hid (TA w B (fun q => B ≤ q) tb B (i + 1) w4 T) := (hT.out.step (Below.refl _ _).drew).step hb4; have cz4 : w4.cell? ⟨ob, ooff + i, none⟩ = some (.int .u64 z) := SO.out _ _ _ hT4.out; clear hb4)
            | (go_at_call 12; refine (hT4.out.hello_stay z _ hik.out hzz.out hS.out.1 (by have := hS.out.2.1; have := hdl.out; omega) (by have := hN.out; have := hdl.out; have := hid'.out; have := hr'.out; omega) (by have := hS.out.2.2; have := hdl.out; omega)).mono ?_; rintro e w5 ⟨v5, T5, rfl, hT5, hS5⟩; have cz5 : w5.cell? ⟨ob, ooff + i, none⟩ = some (.int .u64 z) := SO.out _ _ _ hT5.out))
          have hT7 := hT5
          have hS7 : Hid (Hs T5 now ∧ (T5.time = now ∨ T5.time = now + g % (id + 1)) ∧ T5.idle = id) := ⟨hS5.out.1, .inr hS5.out.2.1, hS5.out.2.2.trans hS.out.2.2⟩
          go_wp2_with (go_at_call 15; refine (hT7.out.hear_stay _ hS7.out.1 (by have := hS7.out.2.1; have := hdl.out; omega) (by have := hN.out; have := hdl.out; have := hid'.out; have := hr'.out; omega) (by have := hS7.out.2.2; have := hdl.out; omega)).mono ?_; rintro e w8 ⟨T8, rfl, hT8, hS8⟩)
          exact ⟨⟨i + 1, T8, now + g % (id + 1), by omega, by simp, rfl, hT8, ⟨hS8.out.1, hS8.out.2.1, hS8.out.2.2.trans hS7.out.2.2⟩, ⟨by have := hN.out; have := hdl.out; omega, by have := hN.out; have := hdl.out; have := hid'.out; show _ ≤ 256 * (((i + 1 : Nat)) : Int); omega⟩⟩, by simp [intOf]; omega⟩
        | false =>
          have hT7 := hT
          have hS7 : Hid (Hs T now ∧ (T.time = now ∨ T.time = now + g % (id + 1)) ∧ T.idle = id) := ⟨hS.out.1, .inl hS.out.2.1, hS.out.2.2⟩
          go_wp2_with (go_at_call 15; refine (hT7.out.hear_stay _ hS7.out.1 (by have := hS7.out.2.1; have := hdl.out; omega) (by have := hN.out; have := hdl.out; have := hid'.out; have := hr'.out; omega) (by have := hS7.out.2.2; have := hdl.out; omega)).mono ?_; rintro e w8 ⟨T8, rfl, hT8, hS8⟩)
          exact ⟨⟨i + 1, T8, now + g % (id + 1), by omega, by simp, rfl, (⟨hT8.out.tab, hT8.out.new, hT8.out.low, hT8.out.ok.mono (by omega), hT8.out.bel, hT8.out.le⟩), ⟨hS8.out.1, hS8.out.2.1, hS8.out.2.2.trans hS7.out.2.2⟩, ⟨by have := hN.out; have := hdl.out; omega, by have := hN.out; have := hdl.out; have := hid'.out; show _ ≤ 256 * (((i + 1 : Nat)) : Int); omega⟩⟩, by simp [intOf]; omega⟩
      · have hd2 : decide ((i : Int) < (ln2 : Int)) = false := by simp; omega
        have hT7 := hT
        have hS7 : Hid (Hs T now ∧ (T.time = now ∨ T.time = now + g % (id + 1)) ∧ T.idle = id) := ⟨hS.out.1, .inl hS.out.2.1, hS.out.2.2⟩
        go_wp2_with (go_at_call 15; refine (hT7.out.hear_stay _ hS7.out.1 (by have := hS7.out.2.1; have := hdl.out; omega) (by have := hN.out; have := hdl.out; have := hid'.out; have := hr'.out; omega) (by have := hS7.out.2.2; have := hdl.out; omega)).mono ?_; rintro e w8 ⟨T8, rfl, hT8, hS8⟩)
        exact ⟨⟨i + 1, T8, now + g % (id + 1), by omega, by simp, rfl, (⟨hT8.out.tab, hT8.out.new, hT8.out.low, hT8.out.ok.mono (by omega), hT8.out.bel, hT8.out.le⟩), ⟨hS8.out.1, hS8.out.2.1, hS8.out.2.2.trans hS7.out.2.2⟩, ⟨by have := hN.out; have := hdl.out; omega, by have := hN.out; have := hdl.out; have := hid'.out; show _ ≤ 256 * (((i + 1 : Nat)) : Int); omega⟩⟩, by simp [intOf]; omega⟩
    · have hd : decide ((i : Int) < (len : Int)) = false := by simp; omega
      have wf1 : IntKind.i64.wrap (now + id) = now + id := by rw [IntKind.wrap_i64]; have := hid'.out; have := hN.out; have := hr'.out; omega
      have wf2 : IntKind.i64.wrap (now + id + 1) = now + id + 1 := by rw [IntKind.wrap_i64]; have := hid'.out; have := hN.out; have := hr'.out; omega
      have hmx : Hid (now + id + 1 ≤ 1099511627776) := by have := hid'.out; have := hN.out; have := hr'.out; show now + id + 1 ≤ _; omega
      have hall : Hid (∀ s ∈ T.L, s.h ≤ now) := fun s hm => by have := (hT.out.ok.ent s hm).2.2.2.2.2.1; have := hS.out.2.1; omega
      go_wp2_with (first
        | (go_at_call 20; refine (hT6.out.tick_gone (h0 := now) _ (by have := hS6.out.2.1; have := hid'.out; omega) hmx.out (fun s hm => hall.out s (hS6.out.2.2.2 s hm)) (by have := hS6.out.2.2.1; have := hS.out.2.2; omega)).mono ?_; rintro e w8 ⟨v8, T8, rfl, hT8, hL8⟩)
        | (go_at_call 20; refine (hT.out.tick_stay _ hS.out.1 (by have := hS.out.2.1; have := hid'.out; omega) (by have := hmx.out; omega) (by have := hS.out.2.2; omega)).mono ?_; rintro e w6 ⟨v6, T6, rfl, hT5, hS6⟩)
        | (go_at_call 22; refine (hT8.out.find_gone hL8.out).mono ?_; rintro e w9 ⟨rfl, hT9⟩)
        | (go_at_call 22; refine (hT5.out.find_yes hS6.out.1).mono ?_; rintro e w7 ⟨p1, p2, rfl, hT6⟩; clear hT5)
        | (go_at_call 24; refine (hT9.out.live_gone hL8.out).mono ?_; rintro e wa ⟨rfl, hwa⟩; obtain rfl := hwa.symm))
      go_ret
      exact ⟨rfl, by rw [hBB.out]; exact hT9.out.bel⟩
end Go.Proofs.Ytmohfblkfdkloaa
