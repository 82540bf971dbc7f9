/-
  What reads a string's characters: behind a number's last digit, behind a digit, behind a character.
-/
import Derived.Test.YtfkoghmbkgbgbaaDoorJrd
namespace Go.Proofs.YtfkoghmbkgbgbaaDoor
open Go.RowKit
set_option linter.unusedVariables false

theorem Bdr.drew {w : World} {g o B : Nat} {cs : Array Value} {T : TypeId} {p : Option Addr} {v : Value} {zs : List Int} (h : Bdr w g o B cs T p v zs) : Bdr w.drew g o B cs T p v zs := ⟨h.blk, h.ptr, h.own, h.buf, h.lies, h.row, h.low, h.top⟩
theorem Rdr.drew {w : World} {g B q num dig fst : Nat} {zs : List Int} (h : Rdr w g B q num dig fst zs) : Rdr w.drew g B q num dig fst zs := by obtain ⟨p, v, h⟩ := h; exact ⟨p, v, h.drew⟩
theorem Kq.drew (g B : Nat) (w : World) : Kq g B w w.drew := Kq.of (Below.refl B w).drew

/-- What was read behind a number's last digit, and the state there. -/
def endR (num fst : Nat) (zs : List Int) : Nat × Nat × List Int :=
  if fst ≠ 0 then (0, 0, zs ++ encL (65536 + (fst - 55296) * 1024 + num - 56320)) else if 55296 ≤ num ∧ num < 57344 then (3, num, zs) else (0, 0, zs ++ encL num)
set_option maxHeartbeats 4000000 in
set_option maxRecDepth 100000 in
/-- (*jlex.reader).endNumber. -/
theorem end_any {w : World} {g B q num dig fst : Nat} {zs : List Int} (h : Rdr w g B q num dig fst zs) (hn : num < 65536) (hf : fst = 0 ∨ (55296 ≤ fst ∧ fst < 56320)) (hg : mayGo fst num 4 = true) (hlen : zs.length + 4 ≤ 140737488355328) :
    Calls Tryd.prog 82 #[.pointer (some ⟨g, 0, none⟩)] w fun e w' => e = .returned (.int .i64 ((endR num fst zs).1 : Nat)) ∧ Rdr w' g B q 0 0 (endR num fst zs).2.1 (endR num fst zs).2.2 ∧ Kq g B w w' := by
  have c3 := h.c3
  have c4 := h.c4
  have c5 := h.c5
  have f3 := h.fz 3
  have f4 := h.fz 4
  have f5 := h.fz 5
  have H : Hid (Rdr (((w.setCell ⟨g, 3, none⟩ (.int .i32 0)).setCell ⟨g, 4, none⟩ (.int .i64 0)).setCell ⟨g, 5, none⟩ (.int .i32 0)).drew g B q 0 0 0 zs) := (((h.s3 0).s4 0).s5 0).drew
  have hK : Hid (Kq g B w (((w.setCell ⟨g, 3, none⟩ (.int .i32 0)).setCell ⟨g, 4, none⟩ (.int .i64 0)).setCell ⟨g, 5, none⟩ (.int .i32 0)).drew) := (((Kq.set g B _ 3 _).trans (Kq.set g B _ 4 _)).trans (Kq.set g B _ 5 _)).trans (Kq.drew g B _)
  have hm := may_shift fst num 4 1 (by decide)
  rw [hg] at hm
  by_cases hf0 : fst = 0
  · subst hf0
    rw [if_pos rfl] at hm
    have hm' : num < 56320 ∨ 57344 ≤ num := by
      have := hm.symm
      simp at this
      omega
    clear hm hf hg
    by_cases hr : 55296 ≤ num ∧ num < 57344
    · have hR : endR num 0 zs = (3, num, zs) := by unfold endR; rw [if_neg (by simp), if_pos hr]
      rw [hR]
      have a1 : decide ((55296 : Int) ≤ (num : Int)) = true := by simp; omega
      have a2 : decide ((num : Int) < 57344) = true := by simp; omega
      have H2 : Hid (Rdr ((((w.setCell ⟨g, 3, none⟩ (.int .i32 0)).setCell ⟨g, 4, none⟩ (.int .i64 0)).setCell ⟨g, 5, none⟩ (.int .i32 0)).setCell ⟨g, 5, none⟩ (.int .i32 (num : Nat))).drew g B q 0 0 num zs) := ((((h.s3 0).s4 0).s5 0).s5 num).drew
      have hK2 : Hid (Kq g B w ((((w.setCell ⟨g, 3, none⟩ (.int .i32 0)).setCell ⟨g, 4, none⟩ (.int .i64 0)).setCell ⟨g, 5, none⟩ (.int .i32 0)).setCell ⟨g, 5, none⟩ (.int .i32 (num : Nat))).drew) := ((((Kq.set g B _ 3 _).trans (Kq.set g B _ 4 _)).trans (Kq.set g B _ 5 _)).trans (Kq.set g B _ 5 _)).trans (Kq.drew g B _)
      clear hR hr hm' hn h hlen
      go_enter Tryd.func82, Tryd.ntmps82
      go_wp2
      go_region
      all_goals
        go_wp2
        go_ret
        exact ⟨rfl, H2.out, hK2.out⟩
    · have hR : endR num 0 zs = (0, 0, zs ++ encL num) := by unfold endR; rw [if_neg (by simp), if_neg hr]
      rw [hR]
      have kP := put_any num ⟨by omega, by omega⟩ H.out hlen
      have a0 : (decide ((55296 : Int) ≤ (num : Int)) && decide ((num : Int) < 57344)) = false := by simp; omega
      clear hR hm' h hlen
      cases a1 : decide ((55296 : Int) ≤ (num : Int)) with
      | true =>
        have a2 : decide ((num : Int) < 57344) = false := by rw [a1] at a0; simpa using a0
        clear a0 hr
        go_enter Tryd.func82, Tryd.ntmps82
        go_wp2
        go_region
        all_goals
          go_wp2_with (go_at_call 79; refine kP.mono ?_; rintro e w2 ⟨rfl, h2, k2⟩)
          go_ret
          exact ⟨rfl, h2, hK.out.trans k2⟩
      | false =>
        clear a0 hr
        go_enter Tryd.func82, Tryd.ntmps82
        go_wp2
        go_region
        all_goals
          go_wp2_with (go_at_call 79; refine kP.mono ?_; rintro e w2 ⟨rfl, h2, k2⟩)
          go_ret
          exact ⟨rfl, h2, hK.out.trans k2⟩
  · have hf' : 55296 ≤ fst ∧ fst < 56320 := by omega
    rw [if_neg hf0] at hm
    have hm' : 56320 ≤ num ∧ num < 57344 := by
      have := hm.symm
      simp at this
      omega
    have hR : endR num fst zs = (0, 0, zs ++ encL (65536 + (fst - 55296) * 1024 + num - 56320)) := by unfold endR; rw [if_pos hf0]
    rw [hR]
    have kP := put_any (65536 + (fst - 55296) * 1024 + num - 56320) ⟨by omega, by omega⟩ H.out hlen
    have w1 : IntKind.i32.wrap ((fst : Int) - 55296) = (fst : Int) - 55296 := by rw [IntKind.wrap_i32]; omega
    have w2 : IntKind.i32.wrap (((fst : Int) - 55296) * 1024) = ((fst : Int) - 55296) * 1024 := by rw [IntKind.wrap_i32]; omega
    have w3 : IntKind.i32.wrap (65536 + ((fst : Int) - 55296) * 1024) = 65536 + ((fst : Int) - 55296) * 1024 := by rw [IntKind.wrap_i32]; omega
    have w4 : IntKind.i32.wrap (65536 + ((fst : Int) - 55296) * 1024 + (num : Int)) = 65536 + ((fst : Int) - 55296) * 1024 + (num : Int) := by rw [IntKind.wrap_i32]; omega
    have w5 : IntKind.i32.wrap (65536 + ((fst : Int) - 55296) * 1024 + (num : Int) - 56320) = ((65536 + (fst - 55296) * 1024 + num - 56320 : Nat) : Int) := by rw [IntKind.wrap_i32]; omega
    generalize 65536 + (fst - 55296) * 1024 + num - 56320 = R at *
    have b0 : (((fst : Nat) : Int) != 0) = true := by simp; omega
    clear hR hm' h hlen hm hg hf hf' hf0 hn
    go_enter Tryd.func82, Tryd.ntmps82
    go_wp2
    go_region
    all_goals
      go_wp2_with (go_at_call 79; refine kP.mono ?_; rintro e w2 ⟨rfl, h2, k2⟩)
      go_ret
      exact ⟨rfl, h2, hK.out.trans k2⟩

/-- What is read of a character that stands for itself. -/
def achR (r : Nat) (zs : List Int) : Nat × List Int := if r = 34 then (5, zs) else if r = 92 then (1, zs) else if r < 32 then (6, zs) else (0, zs ++ encL r)
set_option maxHeartbeats 2000000 in
/-- (*jlex.reader).afterCharacter. -/
theorem ach_any {w : World} {g B q num dig fst : Nat} {zs : List Int} (r : Nat) (hr : Right r) (h : Rdr w g B q num dig fst zs) (hlen : zs.length + 4 ≤ 140737488355328) :
    Calls Tryd.prog 59 #[.pointer (some ⟨g, 0, none⟩), .int .i32 (r : Int)] w fun e w' => e = .returned (.int .i64 ((achR r zs).1 : Nat)) ∧ Rdr w' g B q num dig fst (achR r zs).2 ∧ Kq g B w w' := by
  have H : Hid (Rdr w g B q num dig fst zs) := h
  by_cases h1 : r = 34
  · have hR : achR r zs = (5, zs) := by unfold achR; rw [if_pos h1]
    rw [hR]
    have a1 : ((r : Int) == 34) = true := by simp; omega
    clear hR hr h hlen h1
    go_enter Tryd.func59, Tryd.ntmps59
    go_wp2
    go_ret
    exact ⟨rfl, H.out, Kq.refl _ _ _⟩
  have a1 : ((r : Int) == 34) = false := by simp; omega
  by_cases h2 : r = 92
  · have hR : achR r zs = (1, zs) := by unfold achR; rw [if_neg h1, if_pos h2]
    rw [hR]
    have a2 : ((r : Int) == 92) = true := by simp; omega
    clear hR hr h hlen h1 h2
    go_enter Tryd.func59, Tryd.ntmps59
    go_wp2
    go_ret
    exact ⟨rfl, H.out, Kq.refl _ _ _⟩
  have a2 : ((r : Int) == 92) = false := by simp; omega
  by_cases h3 : r < 32
  · have hR : achR r zs = (6, zs) := by unfold achR; rw [if_neg h1, if_neg h2, if_pos h3]
    rw [hR]
    have a3 : decide ((r : Int) < 32) = true := by simp; omega
    clear hR hr h hlen h1 h2 h3
    go_enter Tryd.func59, Tryd.ntmps59
    go_wp2
    go_ret
    exact ⟨rfl, H.out, Kq.refl _ _ _⟩
  have a3 : decide ((r : Int) < 32) = false := by simp; omega
  have hR : achR r zs = (0, zs ++ encL r) := by unfold achR; rw [if_neg h1, if_neg h2, if_neg h3]
  rw [hR]
  have kP := put_any r hr h hlen
  clear hR hr h hlen h1 h2 h3
  go_enter Tryd.func59, Tryd.ntmps59
  go_wp2_with (go_at_call 79; refine kP.mono ?_; rintro e w2 ⟨rfl, h2, k2⟩)
  go_ret
  exact ⟨rfl, h2, k2⟩

theorem may_any {w : World} {g B q num dig fst : Nat} {zs : List Int} (h : Rdr w g B q num dig fst zs) (hd : 1 ≤ dig ∧ dig ≤ 4) (hn : num < 16 ^ dig) :
    Calls Tryd.prog 81 #[.pointer (some ⟨g, 0, none⟩)] w fun e w' => e = .returned (.bool (mayGo fst num dig)) ∧ Below w.heap.size w w' := by
  have hd' : dig = 1 ∨ dig = 2 ∨ dig = 3 ∨ dig = 4 := by omega
  rcases hd' with rfl | rfl | rfl | rfl
  · exact may_1 h hn
  · exact may_2 h hn
  · exact may_3 h hn
  · exact may_4 h hn
theorem Rdr.below {w w' : World} {g B q num dig fst : Nat} {zs : List Int} (h : Rdr w g B q num dig fst zs) (hb : Below w.heap.size w w') : Rdr w' g B q num dig fst zs := by
  obtain ⟨p, v, h⟩ := h
  exact ⟨p, v, h.blk.kept hb h.blk.lt, h.ptr, h.own, h.buf, h.lies, h.row.below hb, h.low, Nat.le_trans h.top hb.size⟩
/-- What is read of a digit: the state, the digits, how many, the first half, the bytes. -/
def adgR (d num dig fst : Nat) (zs : List Int) : Nat × Nat × Nat × Nat × List Int :=
  if mayGo fst (num * 16 + d) (dig + 1) = false then (6, num * 16 + d, dig + 1, fst, zs) else if dig + 1 < 4 then (2, num * 16 + d, dig + 1, fst, zs) else ((endR (num * 16 + d) fst zs).1, 0, 0, (endR (num * 16 + d) fst zs).2.1, (endR (num * 16 + d) fst zs).2.2)
theorem or_low {n d : Nat} (hn : n < 65536) (hd : d < 16) : bits .or .i32 ((n : Int) * 16) (d : Int) = ((n * 16 + d : Nat) : Int) := by
  have h0 : (n * 16) ||| d = n * 16 + d := by
    have := Nat.shiftLeft_add_eq_or_of_lt (b := d) (i := 4) (by omega) n
    rw [Nat.shiftLeft_eq] at this
    exact this.symm
  have e1 : ((n : Int) * 16) = ((n * 16 : Nat) : Int) := by omega
  rw [e1]
  have h1 : (BitVec.ofInt 32 ((n * 16 : Nat) : Int)).toNat = n * 16 := by
    rw [BitVec.ofInt_natCast, BitVec.toNat_ofNat]; exact Nat.mod_eq_of_lt (by omega)
  have h2 : (BitVec.ofInt 32 (d : Int)).toNat = d := by
    rw [BitVec.ofInt_natCast, BitVec.toNat_ofNat]; exact Nat.mod_eq_of_lt (by omega)
  show IntKind.i32.wrap ((BitVec.ofInt 32 ((n * 16 : Nat) : Int) ||| BitVec.ofInt 32 (d : Int)).toNat : Int) = _
  rw [BitVec.toNat_or, h1, h2, h0, IntKind.wrap_i32]
  omega
theorem hex_lt {r d : Nat} (h : hexD r = some d) : d < 16 := by
  unfold hexD at h
  split at h
  · simp at h; omega
  split at h
  · simp at h; omega
  split at h
  · simp at h; omega
  · cases h
set_option maxHeartbeats 2000000 in
theorem adg_none {w : World} {g B q num dig fst : Nat} {zs : List Int} (r : Nat) (hr : r ≤ 1114111) (hx : hexD r = none) (h : Rdr w g B q num dig fst zs) :
    Calls Tryd.prog 61 #[.pointer (some ⟨g, 0, none⟩), .int .i32 (r : Int)] w fun e w' => e = .returned (.int .i64 6) ∧ Rdr w' g B q num dig fst zs ∧ Kq g B w w' := by
  have kD := digit_any r hr w
  have e : hexI r = -1 := by unfold hexI; rw [hx]
  rw [e] at kD
  have H : Hid (Rdr w g B q num dig fst zs) := h
  clear e hx h hr
  go_enter Tryd.func61, Tryd.ntmps61
  go_wp2_with (go_at_call 80; refine kD.mono ?_; rintro e w1 ⟨rfl, hw⟩; subst hw)
  go_ret
  exact ⟨rfl, H.out, Kq.refl _ _ _⟩
theorem pow_dig {num dig : Nat} (hd : dig ≤ 3) (hn : num < 16 ^ dig) : num < 4096 ∧ ∀ d, d < 16 → num * 16 + d < 16 ^ (dig + 1) := by
  have hd' : dig = 0 ∨ dig = 1 ∨ dig = 2 ∨ dig = 3 := by omega
  rcases hd' with rfl | rfl | rfl | rfl <;> exact ⟨by omega, fun d hd => by omega⟩
set_option maxHeartbeats 4000000 in
set_option maxRecDepth 100000 in
theorem adg_some {w : World} {g B q num dig fst : Nat} {zs : List Int} (r d : Nat) (hr : r ≤ 1114111) (hx : hexD r = some d) (h : Rdr w g B q num dig fst zs) (hd : dig ≤ 3) (hn : num < 16 ^ dig) (hf : fst = 0 ∨ (55296 ≤ fst ∧ fst < 56320)) (hlen : zs.length + 4 ≤ 140737488355328) :
    Calls Tryd.prog 61 #[.pointer (some ⟨g, 0, none⟩), .int .i32 (r : Int)] w fun e w' => e = .returned (.int .i64 ((adgR d num dig fst zs).1 : Nat)) ∧ Rdr w' g B q (adgR d num dig fst zs).2.1 (adgR d num dig fst zs).2.2.1 (adgR d num dig fst zs).2.2.2.1 (adgR d num dig fst zs).2.2.2.2 ∧ Kq g B w w' := by
  have kD := digit_any r hr w
  have e : hexI r = ((d : Nat) : Int) := by unfold hexI; rw [hx]
  rw [e] at kD
  have hd16 := hex_lt hx
  obtain ⟨hn4, hpw⟩ := pow_dig hd hn
  have hN := hpw d hd16
  have c3 := h.c3
  have c4 := h.c4
  have f3 := h.fz 3
  have f4 := h.fz 4
  have W1 : IntKind.i32.wrap ((num : Int) * 16) = (num : Int) * 16 := by rw [IntKind.wrap_i32]; omega
  have W2 := or_low (n := num) (d := d) (by omega) hd16
  have W3 : IntKind.i64.wrap ((dig : Int) + 1) = ((dig + 1 : Nat) : Int) := by rw [IntKind.wrap_i64]; omega
  have a0 : decide (((d : Nat) : Int) < 0) = false := by simp
  have H2 : Hid (Rdr ((w.setCell ⟨g, 3, none⟩ (.int .i32 ((num * 16 + d : Nat) : Int))).setCell ⟨g, 4, none⟩ (.int .i64 ((dig + 1 : Nat) : Int))) g B q (num * 16 + d) (dig + 1) fst zs) := (h.s3 (num * 16 + d)).s4 (dig + 1)
  have K2 : Hid (Kq g B w ((w.setCell ⟨g, 3, none⟩ (.int .i32 ((num * 16 + d : Nat) : Int))).setCell ⟨g, 4, none⟩ (.int .i64 ((dig + 1 : Nat) : Int)))) := (Kq.set g B _ 3 _).trans (Kq.set g B _ 4 _)
  have kM := may_any H2.out ⟨by omega, by omega⟩ hN
  have hlow : g < B := h.low
  have hE : Hid (∀ w3, Rdr w3 g B q (num * 16 + d) (dig + 1) fst zs → mayGo fst (num * 16 + d) (dig + 1) = true → ¬ dig + 1 < 4 → Calls Tryd.prog 82 #[.pointer (some ⟨g, 0, none⟩)] w3 fun e w' => e = .returned (.int .i64 ((endR (num * 16 + d) fst zs).1 : Nat)) ∧ Rdr w' g B q 0 0 (endR (num * 16 + d) fst zs).2.1 (endR (num * 16 + d) fst zs).2.2 ∧ Kq g B w3 w') := fun w3 h3 hm h4 => by
    have : dig = 3 := by omega
    subst this
    exact end_any h3 (by omega) hf hm hlen
  have hA : Hid (∀ x y z u l, adgR d num dig fst zs = (x, y, z, u, l) → adgR d num dig fst zs = (x, y, z, u, l)) := fun _ _ _ _ _ h => h
  have hU : adgR d num dig fst zs = if mayGo fst (num * 16 + d) (dig + 1) = false then (6, num * 16 + d, dig + 1, fst, zs) else if dig + 1 < 4 then (2, num * 16 + d, dig + 1, fst, zs) else ((endR (num * 16 + d) fst zs).1, 0, 0, (endR (num * 16 + d) fst zs).2.1, (endR (num * 16 + d) fst zs).2.2) := rfl
  rw [hU]
  clear hU hA e hx h hr hlen hn hpw hN hd16 hf hn4
  cases hm : mayGo fst (num * 16 + d) (dig + 1) with
  | false =>
    rw [hm] at kM
    rw [if_pos rfl]
    clear hm hE
    generalize num * 16 + d = M at *
    generalize dig + 1 = D at *
    go_enter Tryd.func61, Tryd.ntmps61
    go_wp2_with (first
      | (go_at_call 80; refine kD.mono ?_; rintro e w1 ⟨rfl, hw⟩; subst hw; clear kD)
      | (go_at_call 81; refine kM.mono ?_; rintro e w3 ⟨rfl, hb3⟩; clear kM))
    go_ret
    exact ⟨rfl, H2.out.below hb3, K2.out.trans (Kq.of (hb3.mono (by have := H2.out; obtain ⟨p, v, this⟩ := this; exact this.top)))⟩
  | true =>
    rw [hm] at kM
    rw [if_neg (by simp)]
    have hE' := fun w3 h3 => hE.out w3 h3 hm
    by_cases h4 : dig + 1 < 4
    · rw [if_pos h4]
      have a4 : decide (((dig + 1 : Nat) : Int) < 4) = true := by simp; omega
      clear hm hE hE' h4 hd
      generalize num * 16 + d = M at *
      generalize dig + 1 = D at *
      go_enter Tryd.func61, Tryd.ntmps61
      go_wp2_with (first
        | (go_at_call 80; refine kD.mono ?_; rintro e w1 ⟨rfl, hw⟩; subst hw; clear kD)
        | (go_at_call 81; refine kM.mono ?_; rintro e w3 ⟨rfl, hb3⟩; clear kM; have H3 : Hid (Rdr w3 g B q M D fst zs) := H2.out.below hb3; have c43 := H3.out.c4))
      go_ret
      exact ⟨rfl, H3.out, K2.out.trans (Kq.of (hb3.mono (by have := H2.out; obtain ⟨p, v, this⟩ := this; exact this.top)))⟩
    · rw [if_neg h4]
      have a4 : decide (((dig + 1 : Nat) : Int) < 4) = false := by simp; omega
      have hE2 : Hid (∀ w3, Rdr w3 g B q (num * 16 + d) (dig + 1) fst zs → Calls Tryd.prog 82 #[.pointer (some ⟨g, 0, none⟩)] w3 fun e w' => e = .returned (.int .i64 ((endR (num * 16 + d) fst zs).1 : Nat)) ∧ Rdr w' g B q 0 0 (endR (num * 16 + d) fst zs).2.1 (endR (num * 16 + d) fst zs).2.2 ∧ Kq g B w3 w') := fun w3 h3 => hE' w3 h3 h4
      clear hm hE hE' h4 hd
      generalize (endR (num * 16 + d) fst zs).1 = E1 at *
      generalize (endR (num * 16 + d) fst zs).2.1 = E2 at *
      generalize (endR (num * 16 + d) fst zs).2.2 = E3 at *
      generalize num * 16 + d = M at *
      generalize dig + 1 = D at *
      go_enter Tryd.func61, Tryd.ntmps61
      go_wp2_with (first
        | (go_at_call 80; refine kD.mono ?_; rintro e w1 ⟨rfl, hw⟩; subst hw; clear kD)
        | (go_at_call 81; refine kM.mono ?_; rintro e w3 ⟨rfl, hb3⟩; clear kM; have H3 : Hid (Rdr w3 g B q M D fst zs) := H2.out.below hb3; have c43 := H3.out.c4; have kE := hE2.out w3 H3.out)
        | (go_at_call 82; refine kE.mono ?_; rintro e w4 ⟨rfl, h4, k4⟩))
      go_ret
      exact ⟨rfl, h4, (K2.out.trans (Kq.of (hb3.mono (by have := H2.out; obtain ⟨p, v, this⟩ := this; exact this.top)))).trans k4⟩
end Go.Proofs.YtfkoghmbkgbgbaaDoor
