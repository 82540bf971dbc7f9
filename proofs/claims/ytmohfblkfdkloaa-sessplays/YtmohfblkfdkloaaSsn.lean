/-
  A call that answers an error turns nothing at its time.
-/
import Derived.Test.YtmohfblkfdkloaaSsm
namespace Go.Proofs.Ytmohfblkfdkloaa
open Go.RowKit
set_option linter.unusedVariables false
theorem go_idem (T : Tb) (now : Int) : goA (goA T now) now = goA T now := by
  have h1 : tmA (goA T now) now = tmA T now := by
    show (if tmA T now < now ∧ now ≤ 1099511627776 then now else tmA T now) = tmA T now
    unfold tmA
    by_cases h : T.time < now ∧ now ≤ 1099511627776
    · rw [if_pos h, if_neg (by omega)]
    · rw [if_neg h, if_neg h]
  unfold goA
  have h2 : tmA { T with time := tmA T now, L := T.L.filter (fun s => !old T.idle (tmA T now) s) } now = tmA T now := h1
  rw [h2]
  simp [List.filter_filter]
theorem gre_same {T : Tb} {m : Mg} {d : Int} (h : greE T m d ≠ 0) : greA T m d = T := by
  unfold greE at h
  unfold greA
  split at h
  · rename_i hb; rw [if_pos hb]
  · rename_i hb
    rw [if_neg hb]
    split at h
    · rename_i ht
      rw [if_pos ht]
      unfold begA
      rw [if_neg h]
    · rename_i ht
      rw [if_neg ht]
      cases hf : fiA T.L m.t with
      | none => rfl
      | some i => rw [hf] at h; simp at h
theorem hea_same {T : Tb} {m : Mg} (h : heaE T m ≠ 0) : heaA T m = T := by
  unfold heaE at h
  unfold heaA
  split
  · rfl
  · rename_i i hi
    rw [hi] at h
    simp only at h
    split
    · rfl
    · rename_i h1
      rw [if_neg h1] at h
      split
      · rfl
      · rename_i h2
        rw [if_neg h2] at h
        exact absurd rfl h
section
variable {w0 : World} {B tb mb k : Nat} {C : Nat → Prop} {wr : World} {T : Tb}
/-- An ask at the table's own time: an error turns nothing. -/
theorem TA.ask_hello (m : Mg) (d now : Int) (h : TA w0 B C tb mb k wr (goA T now)) (hk : k < 70368744177664) (hd : 0 ≤ d ∧ d < 18446744073709551616) :
    Calls Try.prog 12 #[.pointer (some ⟨tb, 0, none⟩), m.val, .int .u64 d, .int .i64 now] wr fun e w' => ∃ (M : Mg) (E : Int) (T' : Tb), e = .returned (.tuple #[M.val, .int .i64 E]) ∧ ((E == 0) = true ∨ ((E == 0) = false ∧ T' = goA T now)) ∧ Hid (TA w0 B C tb mb (k + 1) w' T') := by
  refine (h.hello m d now hk hd).mono ?_
  rintro e w' ⟨rfl, hT, -⟩
  rw [go_idem] at hT
  refine ⟨_, _, _, rfl, ?_, hT⟩
  rw [go_idem]
  by_cases hE : greE (goA T now) m d = 0
  · exact .inl (by rw [hE]; rfl)
  · exact .inr ⟨by simpa using hE, gre_same hE⟩
theorem TA.ask_hear (m : Mg) (now : Int) (h : TA w0 B C tb mb k wr (goA T now)) :
    Calls Try.prog 15 #[.pointer (some ⟨tb, 0, none⟩), m.val, .int .i64 now] wr fun e w' => ∃ (E : Int) (T' : Tb), e = .returned (.int .i64 E) ∧ ((E == 0) = true ∨ ((E == 0) = false ∧ T' = goA T now)) ∧ Hid (TA w0 B C tb mb k w' T') := by
  refine (h.hear m now).mono ?_
  rintro e w' ⟨rfl, hT, -⟩
  rw [go_idem] at hT
  refine ⟨_, _, rfl, ?_, hT⟩
  rw [go_idem]
  by_cases hE : heaE (goA T now) m = 0
  · exact .inl (by rw [hE]; rfl)
  · exact .inr ⟨by simpa using hE, hea_same hE⟩
end
set_option maxRecDepth 100000 in
set_option maxHeartbeats 2000000 in
theorem wrefused (a : Option Addr) (len cap : Nat) (L : List Ac) (y : Ac) (w : World) (hA : AcArg w a len cap L) (hr : len ≤ 2199023255552) (hy : AcV y) :
    Calls Try.prog 7 #[.slice a len cap, y.val] w fun e w' => e = .returned (.bool true) ∧ Below w.heap.size w w' := by
  obtain ⟨hlen, hlc, hcm, hnil, hAc⟩ := hA
  have hal : Hid (Below w.heap.size w (w.alloc (.cells #[.int .i64 y.kind, .int .i64 y.now, .int .i64 y.m.k, .int .u64 y.m.t, .int .i64 y.m.e, .int .i64 y.m.s, .int .i64 y.m.a, .int .u64 y.m.b, .int .i64 y.m.c, .int .i64 y.m.f, .slice y.m.la y.m.ln y.m.lc, .int .u64 y.d] 39))) := (Below.refl _ _).alloc (Nat.le_refl _) _
  have hAc' : Hid (Acs (w.alloc (.cells #[.int .i64 y.kind, .int .i64 y.now, .int .i64 y.m.k, .int .u64 y.m.t, .int .i64 y.m.e, .int .i64 y.m.s, .int .i64 y.m.a, .int .u64 y.m.b, .int .i64 y.m.c, .int .i64 y.m.f, .slice y.m.la y.m.ln y.m.lc, .int .u64 y.d] 39)) a L) := hAc.kept hal.out
  have hyb : Hid (Blk (w.alloc (.cells #[.int .i64 y.kind, .int .i64 y.now, .int .i64 y.m.k, .int .u64 y.m.t, .int .i64 y.m.e, .int .i64 y.m.s, .int .i64 y.m.a, .int .u64 y.m.b, .int .i64 y.m.c, .int .i64 y.m.f, .slice y.m.la y.m.ln y.m.lc, .int .u64 y.d] 39)) w.heap.size _ 39) := blk_new w _ _
  have hlen' : Hid (L.length = len) := hlen
  have hr' : Hid (len ≤ 2199023255552) := hr
  have hy' : Hid (AcV y) := hy
  clear hAc hlen hr hy
  unfold Ac.val
  go_enter Try.func7, Try.ntmps7
  go_wp2_with fail
  refine (ta_new 3 50 (w.alloc (.cells #[.int .i64 y.kind, .int .i64 y.now, .int .i64 y.m.k, .int .u64 y.m.t, .int .i64 y.m.e, .int .i64 y.m.s, .int .i64 y.m.a, .int .u64 y.m.b, .int .i64 y.m.c, .int .i64 y.m.f, .slice y.m.la y.m.ln y.m.lc, .int .u64 y.d] 39)) (by decide) (by decide) (by decide) (by decide)).mono ?_
  rintro e w1 ⟨rfl, hT1⟩
  generalize hyq : w.heap.size = yb at *
  have hyq' : Hid (w.heap.size = yb) := hyq
  have hlt : Hid (yb < (w.alloc (.cells #[.int .i64 y.kind, .int .i64 y.now, .int .i64 y.m.k, .int .u64 y.m.t, .int .i64 y.m.e, .int .i64 y.m.s, .int .i64 y.m.a, .int .u64 y.m.b, .int .i64 y.m.c, .int .i64 y.m.f, .slice y.m.la y.m.ln y.m.lc, .int .u64 y.d] 39)).heap.size) := hyb.out.lt
  clear hyq
  generalize (w.alloc (.cells #[.int .i64 y.kind, .int .i64 y.now, .int .i64 y.m.k, .int .u64 y.m.t, .int .i64 y.m.e, .int .i64 y.m.s, .int .i64 y.m.a, .int .u64 y.m.b, .int .i64 y.m.c, .int .i64 y.m.f, .slice y.m.la y.m.ln y.m.lc, .int .u64 y.d] 39)) = wa at *
  generalize hB : wa.heap.size = B at *
  have hBB : Hid (wa.heap.size = B) := hB
  clear hB
  generalize B + 1 = tb at *
  go_wp2_with (go_at_call 11; refine (alive_any w1).mono ?_; rintro e w2 ⟨rfl, hb2⟩)
  have hT2 : Hid (TA wa B (fun q => B ≤ q) tb B 0 w2 (t0 3 50)) := hT1.out.step hb2.out
  clear hT1 hb2
  go_loopw [8, 33] (fun _ s33 wr => ∃ (i : Nat) (T : Tb), i ≤ len ∧ s33 = .int .i64 (i : Nat) ∧ Hid (TA wa B (fun q => B ≤ q) tb B i wr T)) (fun _ i _ => len - (intOf i).toNat)
  case atStart => exact ⟨0, _, Nat.zero_le _, rfl, hT2⟩
  case round =>
    obtain ⟨i, T, hi, rfl, hT⟩ := hrel
    clear hT2
    by_cases hlt2 : i < len
    · have hd : decide ((i : Int) < (len : Int)) = true := by simp; omega
      obtain ⟨x, hx⟩ : ∃ x, L[i]? = some x := ⟨L[i]'(by rw [hlen'.out]; exact hlt2), List.getElem?_eq_getElem _⟩
      obtain ⟨b, off, rfl, hbl, hc, hV⟩ := acs_at (hAc'.out.kept (by rw [hBB.out]; exact hT.out.bel)) hx
      have d0 : wr.cell? ⟨b, off + i * 12, none⟩ = some (.int .i64 x.kind) := hc 0 (by decide)
      have d1 : wr.cell? ⟨b, off + i * 12 + 1, none⟩ = some (.int .i64 x.now) := hc 1 (by decide)
      have d2 : wr.cell? ⟨b, off + i * 12 + 2, none⟩ = some (.int .i64 x.m.k) := hc 2 (by decide)
      have d3 : wr.cell? ⟨b, off + i * 12 + 3, none⟩ = some (.int .u64 x.m.t) := hc 3 (by decide)
      have d4 : wr.cell? ⟨b, off + i * 12 + 4, none⟩ = some (.int .i64 x.m.e) := hc 4 (by decide)
      have d5 : wr.cell? ⟨b, off + i * 12 + 5, none⟩ = some (.int .i64 x.m.s) := hc 5 (by decide)
      have d6 : wr.cell? ⟨b, off + i * 12 + 6, none⟩ = some (.int .i64 x.m.a) := hc 6 (by decide)
      have d7 : wr.cell? ⟨b, off + i * 12 + 7, none⟩ = some (.int .u64 x.m.b) := hc 7 (by decide)
      have d8 : wr.cell? ⟨b, off + i * 12 + 8, none⟩ = some (.int .i64 x.m.c) := hc 8 (by decide)
      have d9 : wr.cell? ⟨b, off + i * 12 + 9, none⟩ = some (.int .i64 x.m.f) := hc 9 (by decide)
      have d10 : wr.cell? ⟨b, off + i * 12 + 10, none⟩ = some (.slice x.m.la x.m.ln x.m.lc) := hc 10 (by decide)
      have d11 : wr.cell? ⟨b, off + i * 12 + 11, none⟩ = some (.int .u64 x.d) := hc 11 (by decide)
      have hV' : Hid (AcV x) := hV
      have hTa : Hid (TA wa B (fun q => B ≤ q) tb B i (wr.alloc (.cells #[.int .i64 x.kind, .int .i64 x.now, .int .i64 x.m.k, .int .u64 x.m.t, .int .i64 x.m.e, .int .i64 x.m.s, .int .i64 x.m.a, .int .u64 x.m.b, .int .i64 x.m.c, .int .i64 x.m.f, .slice x.m.la x.m.ln x.m.lc, .int .u64 x.d] 39)) T) := hT.out.step ((Below.refl _ _).alloc (Nat.le_refl _) _)
      have hik : Hid (i < 70368744177664) := by have := hr'.out; show i < _; omega
      have wi : IntKind.i64.wrap ((i : Int) + 1) = (i : Int) + 1 := by rw [IntKind.wrap_i64]; have := hr'.out; omega
      clear hc hV hx hbl
      go_wp2_with (go_at_call 12; refine (hTa.out.hello x.m x.d x.now hik.out hV'.out.1).mono ?_; rintro e w3 ⟨rfl, hT3, -⟩)
      go_roundw
      case rel => exact ⟨i + 1, _, by omega, by go_num, hT3⟩
      case measure => simp [intOf]; omega
    · have hd : decide ((i : Int) < (len : Int)) = false := by simp; omega
      have hyb3 : Hid (∀ w3 T3 k3, TA wa B (fun q => B ≤ q) tb B k3 w3 T3 → Blk w3 yb #[.int .i64 y.kind, .int .i64 y.now, .int .i64 y.m.k, .int .u64 y.m.t, .int .i64 y.m.e, .int .i64 y.m.s, .int .i64 y.m.a, .int .u64 y.m.b, .int .i64 y.m.c, .int .i64 y.m.f, .slice y.m.la y.m.ln y.m.lc, .int .u64 y.d] 39) := fun w3 T3 k3 h3 => hyb.out.kept (by rw [hBB.out]; exact h3.bel)
      have c1 : wr.cell? ⟨yb, 1, none⟩ = some (.int .i64 y.now) := (hyb3.out _ _ _ hT.out).cell 1
      have hik : Hid (i < 70368744177664) := by have := hr'.out; show i < _; omega
      have hkd : (Go.bits .and .i64 y.kind 1 == 0) = true ∨ ((Go.bits .and .i64 y.kind 1 == 0) = false ∧ (Go.bits .and .i64 y.kind 1 == 1) = true) ∨ ((Go.bits .and .i64 y.kind 1 == 0) = false ∧ (Go.bits .and .i64 y.kind 1 == 1) = false) := by
        cases (Go.bits .and .i64 y.kind 1 == 0) <;> cases (Go.bits .and .i64 y.kind 1 == 1) <;> simp
      have hend : Hid (∀ w3 T3 k3, TA wa B (fun q => B ≤ q) tb B k3 w3 T3 → Below yb w w3) := fun w3 T3 k3 h3 => by
        have h4 := hal.out
        exact h4.trans (h3.bel.mono (by have := hlt.out; omega))
      clear hyb hal
      rcases hkd with q0 | ⟨q0, q1⟩ | ⟨q0, q1⟩
      all_goals (
        go_wp2_with (first
          | (go_at_call 20; refine (hT.out.tick y.now).mono ?_; rintro e w3 ⟨v3, rfl, -, hT3, -⟩; clear c1; have c3 : w3.cell? ⟨yb, 3, none⟩ = some (.int .u64 y.m.t) := (hyb3.out _ _ _ hT3.out).cell 3)
          | (go_at_call 24; refine (hT5.out.live).mono ?_; rintro e w7 ⟨rfl, hw7⟩; obtain rfl := hw7.symm)
          | (go_at_call 24; refine (hT3.out.live).mono ?_; rintro e w4 ⟨rfl, hw4⟩; obtain rfl := hw4.symm)
          | (go_at_call 22; refine (hT6.out.find y.m.t).mono ?_; rintro e w6 ⟨rfl, hT5, -⟩)
          | (go_at_call 22; refine (hT4.out.find y.m.t).mono ?_; rintro e w6 ⟨rfl, hT5, -⟩)
          | (go_at_call 22; refine (hT3.out.find y.m.t).mono ?_; rintro e w4 ⟨rfl, hT4, -⟩; clear c3; have e40 : w4.cell? ⟨yb, 0, none⟩ = some (.int .i64 y.kind) := (hyb3.out _ _ _ hT4.out).cell 0; have e41 : w4.cell? ⟨yb, 1, none⟩ = some (.int .i64 y.now) := (hyb3.out _ _ _ hT4.out).cell 1; have e42 : w4.cell? ⟨yb, 2, none⟩ = some (.int .i64 y.m.k) := (hyb3.out _ _ _ hT4.out).cell 2; have e43 : w4.cell? ⟨yb, 3, none⟩ = some (.int .u64 y.m.t) := (hyb3.out _ _ _ hT4.out).cell 3; have e44 : w4.cell? ⟨yb, 4, none⟩ = some (.int .i64 y.m.e) := (hyb3.out _ _ _ hT4.out).cell 4; have e45 : w4.cell? ⟨yb, 5, none⟩ = some (.int .i64 y.m.s) := (hyb3.out _ _ _ hT4.out).cell 5; have e46 : w4.cell? ⟨yb, 6, none⟩ = some (.int .i64 y.m.a) := (hyb3.out _ _ _ hT4.out).cell 6; have e47 : w4.cell? ⟨yb, 7, none⟩ = some (.int .u64 y.m.b) := (hyb3.out _ _ _ hT4.out).cell 7; have e48 : w4.cell? ⟨yb, 8, none⟩ = some (.int .i64 y.m.c) := (hyb3.out _ _ _ hT4.out).cell 8; have e49 : w4.cell? ⟨yb, 9, none⟩ = some (.int .i64 y.m.f) := (hyb3.out _ _ _ hT4.out).cell 9; have e410 : w4.cell? ⟨yb, 10, none⟩ = some (.slice y.m.la y.m.ln y.m.lc) := (hyb3.out _ _ _ hT4.out).cell 10; have e411 : w4.cell? ⟨yb, 11, none⟩ = some (.int .u64 y.d) := (hyb3.out _ _ _ hT4.out).cell 11)
          | (go_at_call 12; refine (hT4.out.ask_hello y.m y.d y.now hik.out hy'.out.1).mono ?_; rintro e w5 ⟨M, E, T4, rfl, hE, hT6⟩; clear e40 e41 e42 e43 e44 e45 e46 e47 e48 e49 e410 e411; have c3 : w5.cell? ⟨yb, 3, none⟩ = some (.int .u64 y.m.t) := (hyb3.out _ _ _ hT6.out).cell 3; rcases hE with qE | ⟨qE, rfl⟩)
          | (go_at_call 15; refine (hT4.out.ask_hear y.m y.now).mono ?_; rintro e w5 ⟨E, T4, rfl, hE, hT6⟩; clear e40 e41 e42 e43 e44 e45 e46 e47 e48 e49 e410 e411; have c3 : w5.cell? ⟨yb, 3, none⟩ = some (.int .u64 y.m.t) := (hyb3.out _ _ _ hT6.out).cell 3; rcases hE with qE | ⟨qE, rfl⟩))
        all_goals (
          go_ret
          exact ⟨rfl, by rw [hyq'.out]; exact hend.out _ _ _ hT5.out⟩))
end Go.Proofs.Ytmohfblkfdkloaa
