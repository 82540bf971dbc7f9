/-
  What reads a string's characters: one more character: (*jlex.reader).take.
-/
import Derived.Test.YtfkoghmbkgbgbaaDoorJsl
namespace Go.Proofs.YtfkoghmbkgbgbaaDoor
open Go.RowKit
set_option linter.unusedVariables false
/-! ### take -/
/-- The reader as what was read. -/
def RdS (w : World) (g B : Nat) (s : RS) : Prop := Rdr w g B s.q s.num s.dig s.fst s.txt
def InvR (s : RS) : Prop := s.num < 16 ^ s.dig ∧ s.dig ≤ 3 ∧ (s.fst = 0 ∨ (55296 ≤ s.fst ∧ s.fst < 56320))
theorem inv_r0 : InvR r0 := ⟨by decide, by decide, .inl rfl⟩
theorem inv_put {s : RS} (h : InvR s) (q : Nat) (t : List Int) : InvR ⟨q, s.num, s.dig, s.fst, t⟩ := h
theorem inv_dig {s : RS} {d : Nat} (hd : d < 16) (h : InvR s) (h6 : (digR s d).q ≠ 6) : InvR (digR s d) := by
  obtain ⟨hn, hdg, hf⟩ := h
  obtain ⟨h4, hp⟩ := pow_dig hdg hn
  have hp' := hp d hd
  unfold digR at h6 ⊢
  by_cases hm : mayGo s.fst (s.num * 16 + d) (s.dig + 1) = false
  · rw [if_pos hm] at h6; exact absurd rfl h6
  rw [if_neg hm]
  by_cases h1 : s.dig + 1 < 4
  · rw [if_pos h1]; exact ⟨hp', by show s.dig + 1 ≤ 3; omega, hf⟩
  rw [if_neg h1]
  by_cases h2 : s.fst ≠ 0
  · rw [if_pos h2]; exact ⟨by show 0 < 16 ^ 0; decide, by show 0 ≤ 3; omega, .inl rfl⟩
  rw [if_neg h2]
  by_cases h3 : 55296 ≤ s.num * 16 + d ∧ s.num * 16 + d < 57344
  · rw [if_pos h3]
    refine ⟨by show 0 < 16 ^ 0; decide, by show 0 ≤ 3; omega, .inr ⟨h3.1, ?_⟩⟩
    show s.num * 16 + d < 56320
    have e3 : s.dig = 3 := by omega
    have e0 : s.fst = 0 := by omega
    rw [e3, e0] at hm
    have := may_shift 0 (s.num * 16 + d) 4 1 (by decide)
    rw [if_pos rfl] at this
    have hm' : mayGo 0 (s.num * 16 + d) 4 = true := by simpa using hm
    rw [hm'] at this
    have := this.symm
    simp at this
    omega
  · rw [if_neg h3]; exact ⟨by show 0 < 16 ^ 0; decide, by show 0 ≤ 3; omega, .inl rfl⟩
theorem inv_take {s : RS} {r : Nat} (h : InvR s) (h6 : (takeR s r).q ≠ 6) : InvR (takeR s r) := by
  unfold takeR at h6 ⊢
  by_cases q0 : s.q = 0
  · rw [if_pos q0]; repeat' split
    all_goals exact h
  rw [if_neg q0]
  by_cases q1 : s.q = 1
  · rw [if_pos q1]; repeat' split
    all_goals exact h
  rw [if_neg q1]
  by_cases q2 : s.q = 2
  · rw [if_pos q2]
    rw [if_neg q0, if_neg q1, if_pos q2] at h6
    cases hx : hexD r with
    | none => exact h
    | some d => rw [hx] at h6; exact inv_dig (hex_lt hx) h h6
  rw [if_neg q2]
  repeat' split
  all_goals exact h
set_option maxHeartbeats 4000000 in
set_option maxRecDepth 100000 in
/-- (*jlex.reader).take. -/
theorem take_rd {w : World} {g B : Nat} {s : RS} (r : Nat) (hr : Right r) (h : RdS w g B s) (hq : s.q ≤ 4) (hi : InvR s) (hlen : s.txt.length + 4 ≤ 140737488355328) :
    Calls Tryd.prog 40 #[.pointer (some ⟨g, 0, none⟩), .int .i32 (r : Int)] w fun e w' => e = .returned (.tuple #[]) ∧ RdS w' g B (takeR s r) ∧ Kq g B w w' := by
  obtain ⟨q, num, dig, fst, zs⟩ := s
  unfold RdS at h ⊢
  dsimp only at h hq hlen
  have hqq : q = 0 ∨ q = 1 ∨ q = 2 ∨ q = 3 ∨ q = 4 := by omega
  rcases hqq with rfl | rfl | rfl | rfl | rfl
  · have kA := ach_any r hr h hlen
    have hR : takeR ⟨0, num, dig, fst, zs⟩ r = ⟨(achR r zs).1, num, dig, fst, (achR r zs).2⟩ := by
      unfold takeR achR putR
      rw [if_pos rfl]
      repeat' split
      all_goals rfl
    rw [hR]
    have c0 : w.cell? ⟨g, 0, none⟩ = some (.int .i64 0) := h.c0
    generalize (achR r zs).1 = Q at *
    generalize (achR r zs).2 = Z at *
    clear hR h hr hi hq hlen
    go_enter Tryd.func40, Tryd.ntmps40
    go_wp2_with (go_at_call 59; refine kA.mono ?_; rintro e w1 ⟨rfl, h1, k1⟩; have d0 := h1.c0; have f0 := h1.fz 0)
    go_end0
    exact ⟨rfl, h1.s0 Q, k1.trans (Kq.set g B w1 0 _)⟩
  · have kA := asl_any r hr h hlen
    have hR : takeR ⟨1, num, dig, fst, zs⟩ r = ⟨(aslR r zs).1, num, dig, fst, (aslR r zs).2⟩ := by
      unfold takeR aslR putR
      rw [if_neg (by simp), if_pos rfl]
      by_cases e1 : r = 117
      · simp only [e1, if_true]
      · by_cases e2 : r = 47
        · simp only [e2, if_true]; rfl
        · simp only [if_neg e1, if_neg e2]
          cases hx : shortM r <;> rfl
    rw [hR]
    have c0 : w.cell? ⟨g, 0, none⟩ = some (.int .i64 1) := h.c0
    generalize (aslR r zs).1 = Q at *
    generalize (aslR r zs).2 = Z at *
    clear hR h hr hi hq hlen
    go_enter Tryd.func40, Tryd.ntmps40
    go_wp2_with (go_at_call 60; refine kA.mono ?_; rintro e w1 ⟨rfl, h1, k1⟩; have d0 := h1.c0; have f0 := h1.fz 0)
    go_end0
    exact ⟨rfl, h1.s0 Q, k1.trans (Kq.set g B w1 0 _)⟩
  · have c0 : w.cell? ⟨g, 0, none⟩ = some (.int .i64 2) := h.c0
    cases hx : hexD r with
    | none =>
      have kA := adg_none r hr.1 hx h
      have hR : takeR ⟨2, num, dig, fst, zs⟩ r = ⟨6, num, dig, fst, zs⟩ := by
        unfold takeR
        rw [if_neg (by simp), if_neg (by simp), if_pos rfl, hx]
      rw [hR]
      clear hR h hr hi hq hlen hx
      go_enter Tryd.func40, Tryd.ntmps40
      go_wp2_with (go_at_call 61; refine kA.mono ?_; rintro e w1 ⟨rfl, h1, k1⟩; have d0 := h1.c0; have f0 := h1.fz 0)
      go_end0
      exact ⟨rfl, h1.s0 6, k1.trans (Kq.set g B w1 0 _)⟩
    | some d =>
      have kA := adg_some r d hr.1 hx h hi.2.1 hi.1 hi.2.2 hlen
      have hR : takeR ⟨2, num, dig, fst, zs⟩ r = ⟨(adgR d num dig fst zs).1, (adgR d num dig fst zs).2.1, (adgR d num dig fst zs).2.2.1, (adgR d num dig fst zs).2.2.2.1, (adgR d num dig fst zs).2.2.2.2⟩ := by
        unfold takeR
        rw [if_neg (by simp), if_neg (by simp), if_pos rfl, hx]
        show digR ⟨2, num, dig, fst, zs⟩ d = _
        unfold digR adgR endR
        dsimp only
        repeat' split
        all_goals rfl
      rw [hR]
      generalize (adgR d num dig fst zs).1 = X1 at *
      generalize (adgR d num dig fst zs).2.1 = X2 at *
      generalize (adgR d num dig fst zs).2.2.1 = X3 at *
      generalize (adgR d num dig fst zs).2.2.2.1 = X4 at *
      generalize (adgR d num dig fst zs).2.2.2.2 = X5 at *
      clear hR h hr hi hq hlen hx
      go_enter Tryd.func40, Tryd.ntmps40
      go_wp2_with (go_at_call 61; refine kA.mono ?_; rintro e w1 ⟨rfl, h1, k1⟩; have d0 := h1.c0; have f0 := h1.fz 0)
      go_end0
      exact ⟨rfl, h1.s0 X1, k1.trans (Kq.set g B w1 0 _)⟩
  · have c0 : w.cell? ⟨g, 0, none⟩ = some (.int .i64 3) := h.c0
    have f0 := h.fz 0
    have H : Hid (Rdr w g B 3 num dig fst zs) := h
    have hR : takeR ⟨3, num, dig, fst, zs⟩ r = ⟨if r = 92 then 4 else 6, num, dig, fst, zs⟩ := by
      unfold takeR
      rw [if_neg (by simp), if_neg (by simp), if_neg (by simp), if_pos rfl]
    rw [hR]
    by_cases he : r = 92
    · have kO : Calls Tryd.prog 62 #[.int .i32 (r : Int), .int .i32 92, .int .i64 4] w fun e w' => e = .returned (.int .i64 4) ∧ w' = w := only_any r 92 4 w true (by simp; omega)
      rw [if_pos he]
      clear hR h hr hi hq hlen he
      go_enter Tryd.func40, Tryd.ntmps40
      go_wp2_with (go_at_call 62; refine kO.mono ?_; rintro e w1 ⟨rfl, hw⟩; subst hw)
      go_end0
      exact ⟨rfl, H.out.s0 4, Kq.set g B w1 0 _⟩
    · have kO : Calls Tryd.prog 62 #[.int .i32 (r : Int), .int .i32 92, .int .i64 4] w fun e w' => e = .returned (.int .i64 6) ∧ w' = w := only_any r 92 4 w false (by simp; omega)
      rw [if_neg he]
      clear hR h hr hi hq hlen he
      go_enter Tryd.func40, Tryd.ntmps40
      go_wp2_with (go_at_call 62; refine kO.mono ?_; rintro e w1 ⟨rfl, hw⟩; subst hw)
      go_end0
      exact ⟨rfl, H.out.s0 6, Kq.set g B w1 0 _⟩
  · have c0 : w.cell? ⟨g, 0, none⟩ = some (.int .i64 4) := h.c0
    have f0 := h.fz 0
    have H : Hid (Rdr w g B 4 num dig fst zs) := h
    have hR : takeR ⟨4, num, dig, fst, zs⟩ r = ⟨if r = 117 then 2 else 6, num, dig, fst, zs⟩ := by
      unfold takeR
      rw [if_neg (by simp), if_neg (by simp), if_neg (by simp), if_neg (by simp), if_pos rfl]
    rw [hR]
    by_cases he : r = 117
    · have kO : Calls Tryd.prog 62 #[.int .i32 (r : Int), .int .i32 117, .int .i64 2] w fun e w' => e = .returned (.int .i64 2) ∧ w' = w := only_any r 117 2 w true (by simp; omega)
      rw [if_pos he]
      clear hR h hr hi hq hlen he
      go_enter Tryd.func40, Tryd.ntmps40
      go_wp2_with (go_at_call 62; refine kO.mono ?_; rintro e w1 ⟨rfl, hw⟩; subst hw)
      go_end0
      exact ⟨rfl, H.out.s0 2, Kq.set g B w1 0 _⟩
    · have kO : Calls Tryd.prog 62 #[.int .i32 (r : Int), .int .i32 117, .int .i64 2] w fun e w' => e = .returned (.int .i64 6) ∧ w' = w := only_any r 117 2 w false (by simp; omega)
      rw [if_neg he]
      clear hR h hr hi hq hlen he
      go_enter Tryd.func40, Tryd.ntmps40
      go_wp2_with (go_at_call 62; refine kO.mono ?_; rintro e w1 ⟨rfl, hw⟩; subst hw)
      go_end0
      exact ⟨rfl, H.out.s0 6, Kq.set g B w1 0 _⟩
end Go.Proofs.YtfkoghmbkgbgbaaDoor
