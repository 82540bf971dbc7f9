/-
  What reads a string's characters: behind a number's last digit, behind a digit, behind a character.
  Where the whole characters end, and how far a character is begun, in the program.
  Numbers, words and tokens of JSON texts as plain data, and the tokens one behind the other; that a fault hangs on the bytes up to it alone, and that tokens stand in order with gaps alone between them. No program is named here.
-/
import Derived.Test.YtmlacmoembjeoaaGreatDoorG7
import Derived.Test.YtmlacmoembjeoaaGreatDoorG5
import Derived.Test.YtmlacmoembjeoaaGreatDoorG3
import Derived.Test.YtmlacmoembjeoaaGreatDoorG6
import Derived.Laws.RangeAny
import Derived.LoopTactic
namespace Go.Proofs.YtmlacmoembjeoaaGreatDoor
open Go.RowKit
set_option linter.unusedVariables false

theorem Bdr.drew {w : World} {g o B : Nat} {cs : Array Value} {T : TypeId} {p : Option Addr} {v : Value} {zs : List Int} (h : Bdr w g o B cs T p v zs) : Bdr w.drew g o B cs T p v zs := ⟨h.blk, h.ptr, h.own, h.buf, h.lies, h.row, h.low, h.top⟩
theorem Rdr.drew {w : World} {g B q num dig fst : Nat} {zs : List Int} (h : Rdr w g B q num dig fst zs) : Rdr w.drew g B q num dig fst zs := by obtain ⟨p, v, h⟩ := h; exact ⟨p, v, h.drew⟩
theorem Kq.drew (g B : Nat) (w : World) : Kq g B w w.drew := Kq.of (Below.refl B w).drew

/-- What was read behind a number's last digit, and the state there. -/
def endR (num fst : Nat) (zs : List Int) : Nat × Nat × List Int :=
  if fst ≠ 0 then (0, 0, zs ++ encL (65536 + (fst - 55296) * 1024 + num - 56320)) else if 55296 ≤ num ∧ num < 57344 then (3, num, zs) else (0, 0, zs ++ encL num)
set_option maxHeartbeats 4000000 in
set_option maxRecDepth 100000 in
/-- (*jlex.reader).endNumber. -/
theorem end_any {w : World} {g B q num dig fst : Nat} {zs : List Int} (h : Rdr w g B q num dig fst zs) (hn : num < 65536) (hf : fst = 0 ∨ (55296 ≤ fst ∧ fst < 56320)) (hg : mayGo fst num 4 = true) (hlen : zs.length + 4 ≤ 140737488355328) :
    Calls Tryz.prog 142 #[.pointer (some ⟨g, 0, none⟩)] w fun e w' => e = .returned (.int .i64 ((endR num fst zs).1 : Nat)) ∧ Rdr w' g B q 0 0 (endR num fst zs).2.1 (endR num fst zs).2.2 ∧ Kq g B w w' := by
  have c3 := h.c3
  have c4 := h.c4
  have c5 := h.c5
  have f3 := h.fz 3
  have f4 := h.fz 4
  have f5 := h.fz 5
  have H : Hid (Rdr (((w.setCell ⟨g, 3, none⟩ (.int .i32 0)).setCell ⟨g, 4, none⟩ (.int .i64 0)).setCell ⟨g, 5, none⟩ (.int .i32 0)).drew g B q 0 0 0 zs) := (((h.s3 0).s4 0).s5 0).drew
  have hK : Hid (Kq g B w (((w.setCell ⟨g, 3, none⟩ (.int .i32 0)).setCell ⟨g, 4, none⟩ (.int .i64 0)).setCell ⟨g, 5, none⟩ (.int .i32 0)).drew) := (((Kq.set g B _ 3 _).trans (Kq.set g B _ 4 _)).trans (Kq.set g B _ 5 _)).trans (Kq.drew g B _)
  have hm := may_shift fst num 4 1 (by decide)
  rw [hg] at hm
  by_cases hf0 : fst = 0
  · subst hf0
    rw [if_pos rfl] at hm
    have hm' : num < 56320 ∨ 57344 ≤ num := by
      have := hm.symm
      simp at this
      omega
    clear hm hf hg
    by_cases hr : 55296 ≤ num ∧ num < 57344
    · have hR : endR num 0 zs = (3, num, zs) := by unfold endR; rw [if_neg (by simp), if_pos hr]
      rw [hR]
      have a1 : decide ((55296 : Int) ≤ (num : Int)) = true := by simp; omega
      have a2 : decide ((num : Int) < 57344) = true := by simp; omega
      have H2 : Hid (Rdr ((((w.setCell ⟨g, 3, none⟩ (.int .i32 0)).setCell ⟨g, 4, none⟩ (.int .i64 0)).setCell ⟨g, 5, none⟩ (.int .i32 0)).setCell ⟨g, 5, none⟩ (.int .i32 (num : Nat))).drew g B q 0 0 num zs) := ((((h.s3 0).s4 0).s5 0).s5 num).drew
      have hK2 : Hid (Kq g B w ((((w.setCell ⟨g, 3, none⟩ (.int .i32 0)).setCell ⟨g, 4, none⟩ (.int .i64 0)).setCell ⟨g, 5, none⟩ (.int .i32 0)).setCell ⟨g, 5, none⟩ (.int .i32 (num : Nat))).drew) := ((((Kq.set g B _ 3 _).trans (Kq.set g B _ 4 _)).trans (Kq.set g B _ 5 _)).trans (Kq.set g B _ 5 _)).trans (Kq.drew g B _)
      clear hR hr hm' hn h hlen
      go_enter Tryz.func142, Tryz.ntmps142
      go_wp2
      go_region
      all_goals
        go_wp2
        go_ret
        exact ⟨rfl, H2.out, hK2.out⟩
    · have hR : endR num 0 zs = (0, 0, zs ++ encL num) := by unfold endR; rw [if_neg (by simp), if_neg hr]
      rw [hR]
      have kP := put_any num ⟨by omega, by omega⟩ H.out hlen
      have a0 : (decide ((55296 : Int) ≤ (num : Int)) && decide ((num : Int) < 57344)) = false := by simp; omega
      clear hR hm' h hlen
      cases a1 : decide ((55296 : Int) ≤ (num : Int)) with
      | true =>
        have a2 : decide ((num : Int) < 57344) = false := by rw [a1] at a0; simpa using a0
        clear a0 hr
        go_enter Tryz.func142, Tryz.ntmps142
        go_wp2
        go_region
        all_goals
          go_wp2_with (go_at_call 138; refine kP.mono ?_; rintro e w2 ⟨rfl, h2, k2⟩)
          go_ret
          exact ⟨rfl, h2, hK.out.trans k2⟩
      | false =>
        clear a0 hr
        go_enter Tryz.func142, Tryz.ntmps142
        go_wp2
        go_region
        all_goals
          go_wp2_with (go_at_call 138; refine kP.mono ?_; rintro e w2 ⟨rfl, h2, k2⟩)
          go_ret
          exact ⟨rfl, h2, hK.out.trans k2⟩
  · have hf' : 55296 ≤ fst ∧ fst < 56320 := by omega
    rw [if_neg hf0] at hm
    have hm' : 56320 ≤ num ∧ num < 57344 := by
      have := hm.symm
      simp at this
      omega
    have hR : endR num fst zs = (0, 0, zs ++ encL (65536 + (fst - 55296) * 1024 + num - 56320)) := by unfold endR; rw [if_pos hf0]
    rw [hR]
    have kP := put_any (65536 + (fst - 55296) * 1024 + num - 56320) ⟨by omega, by omega⟩ H.out hlen
    have w1 : IntKind.i32.wrap ((fst : Int) - 55296) = (fst : Int) - 55296 := by rw [IntKind.wrap_i32]; omega
    have w2 : IntKind.i32.wrap (((fst : Int) - 55296) * 1024) = ((fst : Int) - 55296) * 1024 := by rw [IntKind.wrap_i32]; omega
    have w3 : IntKind.i32.wrap (65536 + ((fst : Int) - 55296) * 1024) = 65536 + ((fst : Int) - 55296) * 1024 := by rw [IntKind.wrap_i32]; omega
    have w4 : IntKind.i32.wrap (65536 + ((fst : Int) - 55296) * 1024 + (num : Int)) = 65536 + ((fst : Int) - 55296) * 1024 + (num : Int) := by rw [IntKind.wrap_i32]; omega
    have w5 : IntKind.i32.wrap (65536 + ((fst : Int) - 55296) * 1024 + (num : Int) - 56320) = ((65536 + (fst - 55296) * 1024 + num - 56320 : Nat) : Int) := by rw [IntKind.wrap_i32]; omega
    generalize 65536 + (fst - 55296) * 1024 + num - 56320 = R at *
    have b0 : (((fst : Nat) : Int) != 0) = true := by simp; omega
    clear hR hm' h hlen hm hg hf hf' hf0 hn
    go_enter Tryz.func142, Tryz.ntmps142
    go_wp2
    go_region
    all_goals
      go_wp2_with (go_at_call 138; refine kP.mono ?_; rintro e w2 ⟨rfl, h2, k2⟩)
      go_ret
      exact ⟨rfl, h2, hK.out.trans k2⟩

/-- What is read of a character that stands for itself. -/
def achR (r : Nat) (zs : List Int) : Nat × List Int := if r = 34 then (5, zs) else if r = 92 then (1, zs) else if r < 32 then (6, zs) else (0, zs ++ encL r)
set_option maxHeartbeats 2000000 in
/-- (*jlex.reader).afterCharacter. -/
theorem ach_any {w : World} {g B q num dig fst : Nat} {zs : List Int} (r : Nat) (hr : Right r) (h : Rdr w g B q num dig fst zs) (hlen : zs.length + 4 ≤ 140737488355328) :
    Calls Tryz.prog 118 #[.pointer (some ⟨g, 0, none⟩), .int .i32 (r : Int)] w fun e w' => e = .returned (.int .i64 ((achR r zs).1 : Nat)) ∧ Rdr w' g B q num dig fst (achR r zs).2 ∧ Kq g B w w' := by
  have H : Hid (Rdr w g B q num dig fst zs) := h
  by_cases h1 : r = 34
  · have hR : achR r zs = (5, zs) := by unfold achR; rw [if_pos h1]
    rw [hR]
    have a1 : ((r : Int) == 34) = true := by simp; omega
    clear hR hr h hlen h1
    go_enter Tryz.func118, Tryz.ntmps118
    go_wp2
    go_ret
    exact ⟨rfl, H.out, Kq.refl _ _ _⟩
  have a1 : ((r : Int) == 34) = false := by simp; omega
  by_cases h2 : r = 92
  · have hR : achR r zs = (1, zs) := by unfold achR; rw [if_neg h1, if_pos h2]
    rw [hR]
    have a2 : ((r : Int) == 92) = true := by simp; omega
    clear hR hr h hlen h1 h2
    go_enter Tryz.func118, Tryz.ntmps118
    go_wp2
    go_ret
    exact ⟨rfl, H.out, Kq.refl _ _ _⟩
  have a2 : ((r : Int) == 92) = false := by simp; omega
  by_cases h3 : r < 32
  · have hR : achR r zs = (6, zs) := by unfold achR; rw [if_neg h1, if_neg h2, if_pos h3]
    rw [hR]
    have a3 : decide ((r : Int) < 32) = true := by simp; omega
    clear hR hr h hlen h1 h2 h3
    go_enter Tryz.func118, Tryz.ntmps118
    go_wp2
    go_ret
    exact ⟨rfl, H.out, Kq.refl _ _ _⟩
  have a3 : decide ((r : Int) < 32) = false := by simp; omega
  have hR : achR r zs = (0, zs ++ encL r) := by unfold achR; rw [if_neg h1, if_neg h2, if_neg h3]
  rw [hR]
  have kP := put_any r hr h hlen
  clear hR hr h hlen h1 h2 h3
  go_enter Tryz.func118, Tryz.ntmps118
  go_wp2_with (go_at_call 138; refine kP.mono ?_; rintro e w2 ⟨rfl, h2, k2⟩)
  go_ret
  exact ⟨rfl, h2, k2⟩

theorem may_any {w : World} {g B q num dig fst : Nat} {zs : List Int} (h : Rdr w g B q num dig fst zs) (hd : 1 ≤ dig ∧ dig ≤ 4) (hn : num < 16 ^ dig) :
    Calls Tryz.prog 141 #[.pointer (some ⟨g, 0, none⟩)] w fun e w' => e = .returned (.bool (mayGo fst num dig)) ∧ Below w.heap.size w w' := by
  have hd' : dig = 1 ∨ dig = 2 ∨ dig = 3 ∨ dig = 4 := by omega
  rcases hd' with rfl | rfl | rfl | rfl
  · exact may_1 h hn
  · exact may_2 h hn
  · exact may_3 h hn
  · exact may_4 h hn
theorem Rdr.below {w w' : World} {g B q num dig fst : Nat} {zs : List Int} (h : Rdr w g B q num dig fst zs) (hb : Below w.heap.size w w') : Rdr w' g B q num dig fst zs := by
  obtain ⟨p, v, h⟩ := h
  exact ⟨p, v, h.blk.kept hb h.blk.lt, h.ptr, h.own, h.buf, h.lies, h.row.below hb, h.low, Nat.le_trans h.top hb.size⟩
/-- What is read of a digit: the state, the digits, how many, the first half, the bytes. -/
def adgR (d num dig fst : Nat) (zs : List Int) : Nat × Nat × Nat × Nat × List Int :=
  if mayGo fst (num * 16 + d) (dig + 1) = false then (6, num * 16 + d, dig + 1, fst, zs) else if dig + 1 < 4 then (2, num * 16 + d, dig + 1, fst, zs) else ((endR (num * 16 + d) fst zs).1, 0, 0, (endR (num * 16 + d) fst zs).2.1, (endR (num * 16 + d) fst zs).2.2)
theorem or_low {n d : Nat} (hn : n < 65536) (hd : d < 16) : bits .or .i32 ((n : Int) * 16) (d : Int) = ((n * 16 + d : Nat) : Int) := by
  have h0 : (n * 16) ||| d = n * 16 + d := by
    have := Nat.shiftLeft_add_eq_or_of_lt (b := d) (i := 4) (by omega) n
    rw [Nat.shiftLeft_eq] at this
    exact this.symm
  have e1 : ((n : Int) * 16) = ((n * 16 : Nat) : Int) := by omega
  rw [e1]
  have h1 : (BitVec.ofInt 32 ((n * 16 : Nat) : Int)).toNat = n * 16 := by
    rw [BitVec.ofInt_natCast, BitVec.toNat_ofNat]; exact Nat.mod_eq_of_lt (by omega)
  have h2 : (BitVec.ofInt 32 (d : Int)).toNat = d := by
    rw [BitVec.ofInt_natCast, BitVec.toNat_ofNat]; exact Nat.mod_eq_of_lt (by omega)
  show IntKind.i32.wrap ((BitVec.ofInt 32 ((n * 16 : Nat) : Int) ||| BitVec.ofInt 32 (d : Int)).toNat : Int) = _
  rw [BitVec.toNat_or, h1, h2, h0, IntKind.wrap_i32]
  omega
theorem hex_lt {r d : Nat} (h : hexD r = some d) : d < 16 := by
  unfold hexD at h
  split at h
  · simp at h; omega
  split at h
  · simp at h; omega
  split at h
  · simp at h; omega
  · cases h
set_option maxHeartbeats 2000000 in
theorem adg_none {w : World} {g B q num dig fst : Nat} {zs : List Int} (r : Nat) (hr : r ≤ 1114111) (hx : hexD r = none) (h : Rdr w g B q num dig fst zs) :
    Calls Tryz.prog 120 #[.pointer (some ⟨g, 0, none⟩), .int .i32 (r : Int)] w fun e w' => e = .returned (.int .i64 6) ∧ Rdr w' g B q num dig fst zs ∧ Kq g B w w' := by
  have kD := digit_any r hr w
  have e : hexI r = -1 := by unfold hexI; rw [hx]
  rw [e] at kD
  have H : Hid (Rdr w g B q num dig fst zs) := h
  clear e hx h hr
  go_enter Tryz.func120, Tryz.ntmps120
  go_wp2_with (go_at_call 140; refine kD.mono ?_; rintro e w1 ⟨rfl, hw⟩; subst hw)
  go_ret
  exact ⟨rfl, H.out, Kq.refl _ _ _⟩
theorem pow_dig {num dig : Nat} (hd : dig ≤ 3) (hn : num < 16 ^ dig) : num < 4096 ∧ ∀ d, d < 16 → num * 16 + d < 16 ^ (dig + 1) := by
  have hd' : dig = 0 ∨ dig = 1 ∨ dig = 2 ∨ dig = 3 := by omega
  rcases hd' with rfl | rfl | rfl | rfl <;> exact ⟨by omega, fun d hd => by omega⟩
set_option maxHeartbeats 4000000 in
set_option maxRecDepth 100000 in
theorem adg_some {w : World} {g B q num dig fst : Nat} {zs : List Int} (r d : Nat) (hr : r ≤ 1114111) (hx : hexD r = some d) (h : Rdr w g B q num dig fst zs) (hd : dig ≤ 3) (hn : num < 16 ^ dig) (hf : fst = 0 ∨ (55296 ≤ fst ∧ fst < 56320)) (hlen : zs.length + 4 ≤ 140737488355328) :
    Calls Tryz.prog 120 #[.pointer (some ⟨g, 0, none⟩), .int .i32 (r : Int)] w fun e w' => e = .returned (.int .i64 ((adgR d num dig fst zs).1 : Nat)) ∧ Rdr w' g B q (adgR d num dig fst zs).2.1 (adgR d num dig fst zs).2.2.1 (adgR d num dig fst zs).2.2.2.1 (adgR d num dig fst zs).2.2.2.2 ∧ Kq g B w w' := by
  have kD := digit_any r hr w
  have e : hexI r = ((d : Nat) : Int) := by unfold hexI; rw [hx]
  rw [e] at kD
  have hd16 := hex_lt hx
  obtain ⟨hn4, hpw⟩ := pow_dig hd hn
  have hN := hpw d hd16
  have c3 := h.c3
  have c4 := h.c4
  have f3 := h.fz 3
  have f4 := h.fz 4
  have W1 : IntKind.i32.wrap ((num : Int) * 16) = (num : Int) * 16 := by rw [IntKind.wrap_i32]; omega
  have W2 := or_low (n := num) (d := d) (by omega) hd16
  have W3 : IntKind.i64.wrap ((dig : Int) + 1) = ((dig + 1 : Nat) : Int) := by rw [IntKind.wrap_i64]; omega
  have a0 : decide (((d : Nat) : Int) < 0) = false := by simp
  have H2 : Hid (Rdr ((w.setCell ⟨g, 3, none⟩ (.int .i32 ((num * 16 + d : Nat) : Int))).setCell ⟨g, 4, none⟩ (.int .i64 ((dig + 1 : Nat) : Int))) g B q (num * 16 + d) (dig + 1) fst zs) := (h.s3 (num * 16 + d)).s4 (dig + 1)
  have K2 : Hid (Kq g B w ((w.setCell ⟨g, 3, none⟩ (.int .i32 ((num * 16 + d : Nat) : Int))).setCell ⟨g, 4, none⟩ (.int .i64 ((dig + 1 : Nat) : Int)))) := (Kq.set g B _ 3 _).trans (Kq.set g B _ 4 _)
  have kM := may_any H2.out ⟨by omega, by omega⟩ hN
  have hlow : g < B := h.low
  have hE : Hid (∀ w3, Rdr w3 g B q (num * 16 + d) (dig + 1) fst zs → mayGo fst (num * 16 + d) (dig + 1) = true → ¬ dig + 1 < 4 → Calls Tryz.prog 142 #[.pointer (some ⟨g, 0, none⟩)] w3 fun e w' => e = .returned (.int .i64 ((endR (num * 16 + d) fst zs).1 : Nat)) ∧ Rdr w' g B q 0 0 (endR (num * 16 + d) fst zs).2.1 (endR (num * 16 + d) fst zs).2.2 ∧ Kq g B w3 w') := fun w3 h3 hm h4 => by
    have : dig = 3 := by omega
    subst this
    exact end_any h3 (by omega) hf hm hlen
  have hA : Hid (∀ x y z u l, adgR d num dig fst zs = (x, y, z, u, l) → adgR d num dig fst zs = (x, y, z, u, l)) := fun _ _ _ _ _ h => h
  have hU : adgR d num dig fst zs = if mayGo fst (num * 16 + d) (dig + 1) = false then (6, num * 16 + d, dig + 1, fst, zs) else if dig + 1 < 4 then (2, num * 16 + d, dig + 1, fst, zs) else ((endR (num * 16 + d) fst zs).1, 0, 0, (endR (num * 16 + d) fst zs).2.1, (endR (num * 16 + d) fst zs).2.2) := rfl
  rw [hU]
  clear hU hA e hx h hr hlen hn hpw hN hd16 hf hn4
  cases hm : mayGo fst (num * 16 + d) (dig + 1) with
  | false =>
    rw [hm] at kM
    rw [if_pos rfl]
    clear hm hE
    generalize num * 16 + d = M at *
    generalize dig + 1 = D at *
    go_enter Tryz.func120, Tryz.ntmps120
    go_wp2_with (first
      | (go_at_call 140; refine kD.mono ?_; rintro e w1 ⟨rfl, hw⟩; subst hw; clear kD)
      | (go_at_call 141; refine kM.mono ?_; rintro e w3 ⟨rfl, hb3⟩; clear kM))
    go_ret
    exact ⟨rfl, H2.out.below hb3, K2.out.trans (Kq.of (hb3.mono (by have := H2.out; obtain ⟨p, v, this⟩ := this; exact this.top)))⟩
  | true =>
    rw [hm] at kM
    rw [if_neg (by simp)]
    have hE' := fun w3 h3 => hE.out w3 h3 hm
    by_cases h4 : dig + 1 < 4
    · rw [if_pos h4]
      have a4 : decide (((dig + 1 : Nat) : Int) < 4) = true := by simp; omega
      clear hm hE hE' h4 hd
      generalize num * 16 + d = M at *
      generalize dig + 1 = D at *
      go_enter Tryz.func120, Tryz.ntmps120
      go_wp2_with (first
        | (go_at_call 140; refine kD.mono ?_; rintro e w1 ⟨rfl, hw⟩; subst hw; clear kD)
        | (go_at_call 141; refine kM.mono ?_; rintro e w3 ⟨rfl, hb3⟩; clear kM; have H3 : Hid (Rdr w3 g B q M D fst zs) := H2.out.below hb3; have c43 := H3.out.c4))
      go_ret
      exact ⟨rfl, H3.out, K2.out.trans (Kq.of (hb3.mono (by have := H2.out; obtain ⟨p, v, this⟩ := this; exact this.top)))⟩
    · rw [if_neg h4]
      have a4 : decide (((dig + 1 : Nat) : Int) < 4) = false := by simp; omega
      have hE2 : Hid (∀ w3, Rdr w3 g B q (num * 16 + d) (dig + 1) fst zs → Calls Tryz.prog 142 #[.pointer (some ⟨g, 0, none⟩)] w3 fun e w' => e = .returned (.int .i64 ((endR (num * 16 + d) fst zs).1 : Nat)) ∧ Rdr w' g B q 0 0 (endR (num * 16 + d) fst zs).2.1 (endR (num * 16 + d) fst zs).2.2 ∧ Kq g B w3 w') := fun w3 h3 => hE' w3 h3 h4
      clear hm hE hE' h4 hd
      generalize (endR (num * 16 + d) fst zs).1 = E1 at *
      generalize (endR (num * 16 + d) fst zs).2.1 = E2 at *
      generalize (endR (num * 16 + d) fst zs).2.2 = E3 at *
      generalize num * 16 + d = M at *
      generalize dig + 1 = D at *
      go_enter Tryz.func120, Tryz.ntmps120
      go_wp2_with (first
        | (go_at_call 140; refine kD.mono ?_; rintro e w1 ⟨rfl, hw⟩; subst hw; clear kD)
        | (go_at_call 141; refine kM.mono ?_; rintro e w3 ⟨rfl, hb3⟩; clear kM; have H3 : Hid (Rdr w3 g B q M D fst zs) := H2.out.below hb3; have c43 := H3.out.c4; have kE := hE2.out w3 H3.out)
        | (go_at_call 142; refine kE.mono ?_; rintro e w4 ⟨rfl, h4, k4⟩))
      go_ret
      exact ⟨rfl, h4, (K2.out.trans (Kq.of (hb3.mono (by have := H2.out; obtain ⟨p, v, this⟩ := this; exact this.top)))).trans k4⟩
end Go.Proofs.YtmlacmoembjeoaaGreatDoor
namespace Go.Proofs.YtmlacmoembjeoaaGreatDoor
open Go.RowKit

/-- A byte's cell, as a natural number. -/
theorem Bytes.nat {w : World} {b off : Nat} {zs : List Int} (hb : Bytes w (some ⟨b, off, none⟩) zs) {i : Nat} (hi : i < zs.length) : w.cell? ⟨b, off + i, none⟩ = some (.int .u8 (nth zs i : Nat)) := by
  rcases hb.2.2 with h | ⟨b', off', h, hc⟩
  · subst h; simp at hi
  · cases h
    rw [hc i hi]
    have h1 : 0 ≤ zs.getD i 0 := by
      rw [List.getD_eq_getElem?_getD, List.getElem?_eq_getElem hi]
      exact (hb.1 _ (List.getElem_mem hi)).1
    unfold nth
    rw [Int.toNat_of_nonneg h1]

theorem rlen_any (r : Nat) (w : World) (h : Right r) :
    Calls Tryz.prog 152 #[.int .i32 (r : Nat)] w fun e w' => e = .returned (.int .i64 (lenR r : Nat)) ∧ w' = w := by
  unfold Right at h
  go_enter Tryz.func152, Tryz.ntmps152
  go_wp2
  all_goals
    go_ret
    refine ⟨?_, rfl⟩
    first
    | (have e : lenR r = 1 := by (unfold lenR; repeat' split) <;> omega
       rw [e]; rfl)
    | (have e : lenR r = 2 := by (unfold lenR; repeat' split) <;> omega
       rw [e]; rfl)
    | (have e : lenR r = 3 := by (unfold lenR; repeat' split) <;> omega
       rw [e]; rfl)
    | (have e : lenR r = 4 := by (unfold lenR; repeat' split) <;> omega
       rw [e]; rfl)

theorem iter_below (w : World) (s : ByteArray) (p : Nat) : Below w.heap.size w (w.iter s p) := (Below.refl _ _).alloc (Nat.le_refl _) _

set_option maxHeartbeats 1000000 in
theorem uwhole_any (a : Option Addr) (n cap : Nat) (zs : List Int) (w : World) (hl : zs.length = n) (hb : Bytes w a zs) (hn : n ≤ 4611686018427387904) :
    Calls Tryz.prog 136 #[.slice a n cap] w fun e w' => e = .returned (.int .i64 (endL zs : Nat)) ∧ Below w.heap.size w w' := by
  have hZ : Hid (∀ c ∈ zs, 0 ≤ c ∧ c < 256) := hb.1
  have hL : Hid (zs.length = n) := hl
  obtain ⟨s, hS, ks, hsz⟩ : ∃ s, Hid (s = strOfNums zs) ∧ (convert 22 9 (.slice a n cap)).run Tryz.prog w = .ok (.string s) w ∧ s.size = n := ⟨_, rfl, conv_str hb n cap hl, by rw [strOfNums_size, hl]⟩
  clear hb hl
  go_enter Tryz.func136, Tryz.ntmps136
  go_wp2
  go_loopw [3, 4] (fun f e wr => (∃ pos fr : Nat, wr = w.iter s pos ∧ f = .int .i64 fr ∧ e = .int .i64 pos ∧ pos ≤ n ∧ Hid (endL zs = pos + endL (zs.drop pos))) ∨ (∃ p q fr : Nat, wr = w.iter s p ∧ f = .int .i64 fr ∧ e = .int .i64 q ∧ p ≤ n ∧ Hid (p = fr + 1) ∧ Hid (q = fr + 3) ∧ Hid (endL zs = fr))) (fun _ _ wr => n - wr.iterPos w.heap.size)
  case atStart => exact .inl ⟨0, 0, rfl, rfl, rfl, Nat.zero_le _, (by show _ = _; simp)⟩
  case round =>
    rcases hrel with ⟨pos, fr, rfl, rfl, rfl, hp, hE⟩ | ⟨p, q, fr, rfl, rfl, rfl, hp, hP, hQ, hE⟩
    · by_cases hlt : pos < n
      · have h0 : zs.drop pos ≠ [] := by intro h; have := congrArg List.length h; rw [List.length_drop, hL.out] at this; simp at this; omega
        by_cases hg : Good (zs.drop pos)
        · have hd := decode_good hZ.out hg
          have hne := good_ne hg h0
          rw [List.length_drop, hL.out] at hne
          have hR := good_right hg
          have hlr := val_lenR hg
          have hE2 : Hid (endL zs = (pos + lenB (zs.drop pos)) + endL (zs.drop (pos + lenB (zs.drop pos)))) := by
            show _ = _
            rw [hE.out, end_good h0 hg, List.drop_drop]
            omega
          have hnx : ∀ ty, (Instr.next (.pointer (some ⟨w.heap.size, 0, none⟩)) true ty).run Tryz.prog (w.iter s pos) = .ok (.tuple #[.bool true, .int .i64 pos, .int .i32 (valB (zs.drop pos) : Nat)]) (w.iter s (pos + lenB (zs.drop pos))) := fun ty => by
            rw [run_next_any w s pos ty (by omega), hS.out, hd]
          clear hd hE h0 hg
          generalize valB (zs.drop pos) = V at *
          generalize lenB (zs.drop pos) = L at *
          have hlr' : Hid (lenR V = L) := hlr
          clear hlr
          have k := fun w' => rlen_any V w' hR
          rw [hlr'.out] at k
          go_wp2_with (go_at_call 152; refine (k _).mono ?_; rintro e w' ⟨rfl, rfl⟩)
          go_roundw
          case rel => exact .inl ⟨pos + L, pos, rfl, rfl, by go_num, by omega, hE2⟩
          case measure => simp; omega
        · have hd := decode_bad hZ.out hg
          have hE2 : Hid (endL zs = pos) := by
            show _ = _
            rw [hE.out, end_bad hg, Nat.add_zero]
          have hnx : ∀ ty, (Instr.next (.pointer (some ⟨w.heap.size, 0, none⟩)) true ty).run Tryz.prog (w.iter s pos) = .ok (.tuple #[.bool true, .int .i64 pos, .int .i32 (65533 : Nat)]) (w.iter s (pos + 1)) := fun ty => by
            rw [run_next_any w s pos ty (by omega), hS.out, hd]
          clear hd hE h0 hg
          have k := fun w' => rlen_any 65533 w' (by unfold Right; omega)
          rw [show lenR 65533 = 3 from rfl] at k
          go_wp2_with (go_at_call 152; refine (k _).mono ?_; rintro e w' ⟨rfl, rfl⟩)
          go_roundw
          case rel => exact .inr ⟨pos + 1, pos + 3, pos, rfl, rfl, by go_num, by omega, rfl, rfl, hE2⟩
          case measure => simp; omega
      · obtain rfl : pos = n := by omega
        have hE2 : Hid (endL zs = pos) := by
          show _ = _
          rw [hE.out, List.drop_of_length_le (by rw [hL.out]; omega), end_nil]
          rfl
        have hnx : ∀ ty, (Instr.next (.pointer (some ⟨w.heap.size, 0, none⟩)) true ty).run Tryz.prog (w.iter s pos) = _ := fun ty => run_next_end w s pos ty (by omega)
        clear hE
        go_wp2
        go_ret
        rw [hE2.out]
        exact ⟨rfl, iter_below _ _ _⟩
    · have hne : ((p : Int) != (q : Int)) = true := by have := hP.out; have := hQ.out; simp; omega
      by_cases hlt : p < n
      · have hnx : ∀ ty, (Instr.next (.pointer (some ⟨w.heap.size, 0, none⟩)) true ty).run Tryz.prog (w.iter s p) = _ := fun ty => run_next_any w s p ty (by omega)
        go_wp2
        go_ret
        rw [hE.out]
        exact ⟨rfl, iter_below _ _ _⟩
      · obtain rfl : p = n := by omega
        have hnx : ∀ ty, (Instr.next (.pointer (some ⟨w.heap.size, 0, none⟩)) true ty).run Tryz.prog (w.iter s p) = _ := fun ty => run_next_end w s p ty (by omega)
        have hne2 : ((q : Int) != (p : Int)) = true := by have := hP.out; have := hQ.out; simp; omega
        go_wp2
        go_ret
        rw [hE.out]
        exact ⟨rfl, iter_below _ _ _⟩
end Go.Proofs.YtmlacmoembjeoaaGreatDoor
namespace Go.Proofs.YtmlacmoembjeoaaGreatDoor
open Go
set_option linter.unusedVariables false

/-! ### Numbers -/
/-- How far a number goes on, and the state there. -/
def nuF : List Int → Nat → Nat → Nat × Nat
  | [], k, q => (k, q)
  | c :: l, k, q => if afterS q c = 9 then (k, q) else nuF l (k + 1) (afterS q c)
theorem nu_bounds (l : List Int) : ∀ k q, k ≤ (nuF l k q).1 ∧ (nuF l k q).1 ≤ k + l.length := by
  induction l with
  | nil => intro k q; simp [nuF]
  | cons c l ih =>
    intro k q
    rw [nuF]
    split
    · simp
    · have := ih (k + 1) (afterS q c)
      rw [List.length_cons]
      omega
theorem nu_wrong (l : List Int) : ∀ k q p, (nuF l k q).1 < k + l.length → ∃ p', runS l k q p = (some (nuF l k q).1, 9, p') := by
  induction l with
  | nil => intro k q p h; simp [nuF] at h
  | cons c l ih =>
    intro k q p h
    rw [nuF] at h ⊢
    unfold runS
    by_cases h9 : afterS q c = 9
    · rw [if_pos h9, if_pos h9]; exact ⟨p, rfl⟩
    · rw [if_neg h9] at h
      rw [if_neg h9, if_neg h9]
      rw [List.length_cons] at h
      exact ih _ _ _ (by omega)
theorem nu_whole (l : List Int) : ∀ k q p, (nuF l k q).1 = k + l.length → ∃ p', runS l k q p = (none, (nuF l k q).2, p') := by
  induction l with
  | nil => intro k q p h; exact ⟨p, rfl⟩
  | cons c l ih =>
    intro k q p h
    rw [nuF] at h ⊢
    unfold runS
    by_cases h9 : afterS q c = 9
    · rw [if_pos h9] at h; simp at h
    · rw [if_neg h9] at h
      rw [if_neg h9, if_neg h9]
      rw [List.length_cons] at h
      exact ih _ _ _ (by omega)
theorem nu_take (l : List Int) : ∀ k q, nuF (l.take ((nuF l k q).1 - k)) k q = nuF l k q := by
  induction l with
  | nil => intro k q; simp [nuF]
  | cons c l ih =>
    intro k q
    by_cases h9 : afterS q c = 9
    · have e : nuF (c :: l) k q = (k, q) := by rw [nuF, if_pos h9]
      rw [e]; simp [nuF]
    · have e : nuF (c :: l) k q = nuF l (k + 1) (afterS q c) := by rw [nuF, if_neg h9]
      have hb := nu_bounds l (k + 1) (afterS q c)
      rw [e, show (nuF l (k + 1) (afterS q c)).1 - k = ((nuF l (k + 1) (afterS q c)).1 - (k + 1)) + 1 from by omega, List.take_succ_cons, nuF, if_neg h9]
      exact ih _ _
/-- A TOKEN. -/
structure Tk where
  kind : Nat
  frm : Nat
  to : Nat
  txt : List Int
def z0 : Tk := ⟨0, 0, 0, []⟩
def nuT (b : List Int) (p : Nat) : Tk × Nat × Nat :=
  if endS (nuF b 0 0).2 = true then (⟨8, p, p + (nuF b 0 0).1, b.take (nuF b 0 0).1⟩, 0, 0) else if (nuF b 0 0).1 = b.length then (z0, 3, p + b.length) else (z0, 5, p + (nuF b 0 0).1)
theorem nuT_why (b : List Int) (p : Nat) : (nuT b p).2.1 = 0 ↔ endS (nuF b 0 0).2 = true := by
  unfold nuT
  by_cases h : endS (nuF b 0 0).2 = true
  · rw [if_pos h]; simp [h]
  · rw [if_neg h]; split <;> simp [h]
theorem nu_pos {c : Int} (b : List Int) (hc : c = 45 ∨ isD c = true) : 1 ≤ (nuF (c :: b) 0 0).1 := by
  rw [nuF]
  have h9 : afterS 0 c ≠ 9 := by
    unfold afterS afMinus
    rw [if_pos rfl]
    rcases hc with rfl | hc
    · simp
    · split
      · simp
      · split
        · simp
        · simp
  rw [if_neg h9]
  exact (nu_bounds b 1 _).1

/-! ### Words -/
def wrdF : List Int → List Int → Nat → Nat × Nat
  | [], _, k => (0, k)
  | _ :: _, [], k => (3, k)
  | c :: w, x :: b, k => if x = c then wrdF w b (k + 1) else (5, k)
theorem wrd_bounds (w : List Int) : ∀ b k, ((wrdF w b k).1 = 0 → (wrdF w b k).2 = k + w.length ∧ w.length ≤ b.length) ∧ k ≤ (wrdF w b k).2 ∧ (wrdF w b k).2 ≤ k + b.length ∧ ((wrdF w b k).1 = 5 → (wrdF w b k).2 < k + b.length) ∧ ((wrdF w b k).1 = 0 ∨ (wrdF w b k).1 = 3 ∨ (wrdF w b k).1 = 5) ∧ ((wrdF w b k).1 = 3 → (wrdF w b k).2 = k + b.length) := by
  induction w with
  | nil => intro b k; simp [wrdF]
  | cons c w ih =>
    intro b k
    cases b with
    | nil => simp [wrdF]
    | cons x b =>
      rw [wrdF]
      split
      · have := ih b (k + 1)
        rw [List.length_cons, List.length_cons]
        refine ⟨fun h => ?_, ?_, ?_, fun h => ?_, this.2.2.2.2.1, fun h => ?_⟩
        · have := this.1 h; omega
        · omega
        · omega
        · have := this.2.2.2.1 h; omega
        · have := this.2.2.2.2.2 h; omega
      · simp
theorem wrd_local (t w : List Int) : ∀ b k m, ((wrdF w b k).1 = 0 → (wrdF w b k).2 ≤ k + m) → ((wrdF w b k).1 = 5 → (wrdF w b k).2 < k + m) → (wrdF w b k).1 ≠ 3 → wrdF w (b.take m ++ t) k = wrdF w b k := by
  induction w with
  | nil => intro b k m _ _ _; rw [wrdF, wrdF]
  | cons c w ih =>
    intro b k m h0 h5 h3
    cases b with
    | nil => simp [wrdF] at h3
    | cons x b =>
      have hb := wrd_bounds (c :: w) (x :: b) k
      have hm : 0 < m := by
        rcases hb.2.2.2.2.1 with h | h | h
        · have := h0 h; have := (hb.1 h).1; rw [List.length_cons] at this; omega
        · exact absurd h h3
        · have := h5 h; omega
      obtain ⟨m, rfl⟩ : ∃ m', m = m' + 1 := ⟨m - 1, by omega⟩
      rw [List.take_succ_cons, List.cons_append, wrdF]
      by_cases hx : x = c
      · rw [if_pos hx]
        rw [wrdF, if_pos hx] at h0 h5 h3
        rw [wrdF, if_pos hx]
        exact ih _ _ _ (fun h => by have := h0 h; omega) (fun h => by have := h5 h; omega) h3
      · rw [if_neg hx, wrdF, if_neg hx]
def wrdT (kind : Nat) (w b : List Int) (p : Nat) : Tk × Nat × Nat :=
  if (wrdF w b 0).1 = 0 then (⟨kind, p, p + w.length, []⟩, 0, 0) else (z0, (wrdF w b 0).1, p + (wrdF w b 0).2)

/-! ### Tokens -/
def signN (c : Int) : Nat := if c = 123 then 1 else if c = 125 then 2 else if c = 91 then 3 else if c = 93 then 4 else if c = 58 then 5 else if c = 44 then 6 else 0
theorem sign_le (c : Int) : signN c ≤ 6 := by
  unfold signN
  repeat' split
  all_goals omega
/-- THE TOKEN THAT BEGINS THERE, or its fault. -/
def tokR (b : List Int) (p : Nat) : Tk × Nat × Nat :=
  if signN (b.getD 0 0) ≠ 0 then (⟨signN (b.getD 0 0), p, p + 1, []⟩, 0, 0)
  else if b.getD 0 0 = 34 then (⟨7, p, (strL (b.drop 1) (p + 1) r0).2.1, (strL (b.drop 1) (p + 1) r0).1⟩, (strL (b.drop 1) (p + 1) r0).2.2)
  else if b.getD 0 0 = 45 ∨ isD (b.getD 0 0) = true then nuT b p
  else if b.getD 0 0 = 116 then wrdT 9 [116, 114, 117, 101] b p
  else if b.getD 0 0 = 102 then wrdT 10 [102, 97, 108, 115, 101] b p
  else if b.getD 0 0 = 110 then wrdT 11 [110, 117, 108, 108] b p
  else (z0, 5, p)
theorem wrdT_bounds {kind : Nat} {w b : List Int} {p : Nat} (hk : 1 ≤ kind ∧ kind ≤ 11) (hw : 0 < w.length) : ((wrdT kind w b p).2.1 = 0 → (wrdT kind w b p).1.frm = p ∧ p < (wrdT kind w b p).1.to ∧ (wrdT kind w b p).1.to ≤ p + b.length ∧ 1 ≤ (wrdT kind w b p).1.kind ∧ (wrdT kind w b p).1.kind ≤ 11) ∧ ((wrdT kind w b p).2.1 ≠ 0 → p ≤ (wrdT kind w b p).2.2 ∧ (wrdT kind w b p).2.2 ≤ p + b.length) := by
  have hb := wrd_bounds w b 0
  unfold wrdT
  by_cases h : (wrdF w b 0).1 = 0
  · rw [if_pos h]
    have := (hb.1 h).2
    exact ⟨fun _ => ⟨rfl, by show p < p + _; omega, by show p + _ ≤ _; omega, hk.1, hk.2⟩, fun e => absurd rfl e⟩
  · rw [if_neg h]
    exact ⟨fun e => absurd e h, fun _ => ⟨by show p ≤ p + _; omega, by show p + _ ≤ _; omega⟩⟩
theorem wrdT_local_ok {kind : Nat} {w b : List Int} {p k : Nat} (t : List Int) (h : (wrdT kind w b p).2.1 = 0) (hk : (wrdT kind w b p).1.to ≤ p + k) : wrdT kind w (b.take k ++ t) p = wrdT kind w b p := by
  have hb := wrd_bounds w b 0
  unfold wrdT at *
  by_cases h0 : (wrdF w b 0).1 = 0
  · rw [if_pos h0] at hk
    have hk' : p + w.length ≤ p + k := hk
    rw [wrd_local t w b 0 k (fun _ => by rw [(hb.1 h0).1]; omega) (fun e => by omega) (by omega)]
  · rw [if_neg h0] at h; exact absurd h h0
theorem tok_bounds {b : List Int} (h0 : b ≠ []) (p : Nat) : ((tokR b p).2.1 = 0 → (tokR b p).1.frm = p ∧ p < (tokR b p).1.to ∧ (tokR b p).1.to ≤ p + b.length ∧ 1 ≤ (tokR b p).1.kind ∧ (tokR b p).1.kind ≤ 11) ∧ ((tokR b p).2.1 ≠ 0 → p ≤ (tokR b p).2.2 ∧ (tokR b p).2.2 ≤ p + b.length) := by
  have hp := List.length_pos_iff.2 h0
  unfold tokR
  by_cases h1 : signN (b.getD 0 0) ≠ 0
  · rw [if_pos h1]
    have := sign_le (b.getD 0 0)
    exact ⟨fun _ => ⟨rfl, Nat.lt_succ_self p, by show p + 1 ≤ _; omega, by show 1 ≤ signN _; omega, by show signN _ ≤ 11; omega⟩, fun e => absurd rfl e⟩
  rw [if_neg h1]
  by_cases h2 : b.getD 0 0 = 34
  · rw [if_pos h2]
    have hb := str_bounds (b.drop 1) (p + 1) r0
    rw [List.length_drop] at hb
    exact ⟨fun e => by have := hb.1 e; exact ⟨rfl, by show p < (strL (b.drop 1) (p + 1) r0).2.1; omega, by show (strL (b.drop 1) (p + 1) r0).2.1 ≤ _; omega, by show 1 ≤ 7; omega, by show 7 ≤ 11; omega⟩, fun e => by have := hb.2 e; exact ⟨by show p ≤ (strL (b.drop 1) (p + 1) r0).2.2.2; omega, by show (strL (b.drop 1) (p + 1) r0).2.2.2 ≤ _; omega⟩⟩
  rw [if_neg h2]
  by_cases h3 : b.getD 0 0 = 45 ∨ isD (b.getD 0 0) = true
  · rw [if_pos h3]
    have hb := nu_bounds b 0 0
    have h1 : 1 ≤ (nuF b 0 0).1 := by
      cases b with
      | nil => exact absurd rfl h0
      | cons c b => exact nu_pos b h3
    unfold nuT
    by_cases he : endS (nuF b 0 0).2 = true
    · rw [if_pos he]
      exact ⟨fun _ => ⟨rfl, by show p < p + _; omega, by show p + _ ≤ _; omega, by show 1 ≤ 8; omega, by show 8 ≤ 11; omega⟩, fun e => absurd rfl e⟩
    · rw [if_neg he]
      by_cases hl : (nuF b 0 0).1 = b.length
      · rw [if_pos hl]
        exact ⟨fun e => (by cases e), fun _ => ⟨by show p ≤ p + _; omega, Nat.le_refl _⟩⟩
      · rw [if_neg hl]
        exact ⟨fun e => (by cases e), fun _ => ⟨by show p ≤ p + _; omega, by show p + _ ≤ _; omega⟩⟩
  rw [if_neg h3]
  by_cases h4 : b.getD 0 0 = 116
  · rw [if_pos h4]; exact wrdT_bounds ⟨by omega, by omega⟩ (by decide)
  rw [if_neg h4]
  by_cases h5 : b.getD 0 0 = 102
  · rw [if_pos h5]; exact wrdT_bounds ⟨by omega, by omega⟩ (by decide)
  rw [if_neg h5]
  by_cases h6 : b.getD 0 0 = 110
  · rw [if_pos h6]; exact wrdT_bounds ⟨by omega, by omega⟩ (by decide)
  rw [if_neg h6]
  exact ⟨fun e => (by cases e), fun _ => ⟨Nat.le_refl _, by show p ≤ _; omega⟩⟩
theorem head_on {b : List Int} (h0 : b ≠ []) {k : Nat} (hk : 0 < k) (t : List Int) : (b.take k ++ t).getD 0 0 = b.getD 0 0 ∧ (b.take k ++ t).drop 1 = (b.drop 1).take (k - 1) ++ t := by
  cases b with
  | nil => exact absurd rfl h0
  | cons c b =>
    obtain ⟨k, rfl⟩ : ∃ k', k = k' + 1 := ⟨k - 1, by omega⟩
    rw [List.take_succ_cons]
    exact ⟨rfl, rfl⟩
theorem r0_q : r0.q ≤ 4 := by decide
/-! ### One behind the other -/
def isGap (c : Int) : Bool := c == 32 || (c == 9 || (c == 10 || c == 13))
/-- How many gaps stand ahead. -/
def gapN : List Int → Nat
  | [] => 0
  | c :: b => if isGap c = true then gapN b + 1 else 0
theorem gap_le (b : List Int) : gapN b ≤ b.length := by
  induction b with
  | nil => simp [gapN]
  | cons c b ih => rw [gapN]; split <;> simp <;> omega
theorem gap_all (b : List Int) : ∀ i, i < gapN b → isGap (b.getD i 0) = true := by
  induction b with
  | nil => intro i h; simp [gapN] at h
  | cons c b ih =>
    intro i h
    rw [gapN] at h
    split at h
    · cases i with
      | zero => assumption
      | succ i => exact ih i (by omega)
    · omega
theorem gap_local (t b : List Int) : ∀ k, gapN b < k → gapN b < b.length → gapN (b.take k ++ t) = gapN b := by
  induction b with
  | nil => intro k h h2; simp [gapN] at h2
  | cons c b ih =>
    intro k h h2
    obtain ⟨k, rfl⟩ : ∃ k', k = k' + 1 := ⟨k - 1, by omega⟩
    rw [List.take_succ_cons, List.cons_append, gapN, gapN]
    by_cases hc : isGap c = true
    · rw [gapN, if_pos hc] at h h2
      rw [if_pos hc, if_pos hc, ih k (by omega) (by simpa using h2)]
    · rw [if_neg hc, if_neg hc]
/-- THE TOKENS, and the first fault. -/
def lexF : Nat → List Int → Nat → List Tk × Nat × Nat
  | 0, _, _ => ([], 0, 0)
  | n + 1, b, p => if b.drop (gapN b) = [] then ([], 0, 0)
    else if (tokR (b.drop (gapN b)) (p + gapN b)).2.1 ≠ 0 then ([], (tokR (b.drop (gapN b)) (p + gapN b)).2)
    else ((tokR (b.drop (gapN b)) (p + gapN b)).1 :: (lexF n (b.drop ((tokR (b.drop (gapN b)) (p + gapN b)).1.to - p)) (tokR (b.drop (gapN b)) (p + gapN b)).1.to).1,
      (lexF n (b.drop ((tokR (b.drop (gapN b)) (p + gapN b)).1.to - p)) (tokR (b.drop (gapN b)) (p + gapN b)).1.to).2)
theorem drop_lt {b : List Int} {g : Nat} (h : b.drop g ≠ []) : g < b.length := by
  rcases Nat.lt_or_ge g b.length with h1 | h1
  · exact h1
  · exact absurd (List.drop_eq_nil_of_le h1) h
theorem lexF_more (n : Nat) : ∀ (b : List Int) (m p : Nat), b.length < n → n ≤ m → lexF m b p = lexF n b p := by
  induction n with
  | zero => intro b m p h; omega
  | succ n ih =>
    intro b m p h hm
    obtain ⟨m, rfl⟩ : ∃ m', m = m' + 1 := ⟨m - 1, by omega⟩
    rw [lexF, lexF]
    by_cases h1 : b.drop (gapN b) = []
    · rw [if_pos h1, if_pos h1]
    · rw [if_neg h1, if_neg h1]
      by_cases h2 : (tokR (b.drop (gapN b)) (p + gapN b)).2.1 ≠ 0
      · rw [if_pos h2, if_pos h2]
      · rw [if_neg h2, if_neg h2]
        have hb := (tok_bounds h1 (p + gapN b)).1 (by simpa using h2)
        have hl := drop_lt h1
        rw [ih (b.drop ((tokR (b.drop (gapN b)) (p + gapN b)).1.to - p)) m _ (by rw [List.length_drop]; omega) (by omega)]
def lexA (b : List Int) (p : Nat) : List Tk × Nat × Nat := lexF (b.length + 1) b p
theorem lex_end {b : List Int} {p : Nat} (h : b.drop (gapN b) = []) : lexA b p = ([], 0, 0) := by unfold lexA; rw [lexF, if_pos h]
theorem lex_bad {b : List Int} {p : Nat} (h : b.drop (gapN b) ≠ []) (h2 : (tokR (b.drop (gapN b)) (p + gapN b)).2.1 ≠ 0) : lexA b p = ([], (tokR (b.drop (gapN b)) (p + gapN b)).2) := by unfold lexA; rw [lexF, if_neg h, if_pos h2]
theorem lex_tok {b : List Int} {p : Nat} (h : b.drop (gapN b) ≠ []) (h2 : (tokR (b.drop (gapN b)) (p + gapN b)).2.1 = 0) : lexA b p = ((tokR (b.drop (gapN b)) (p + gapN b)).1 :: (lexA (b.drop ((tokR (b.drop (gapN b)) (p + gapN b)).1.to - p)) (tokR (b.drop (gapN b)) (p + gapN b)).1.to).1, (lexA (b.drop ((tokR (b.drop (gapN b)) (p + gapN b)).1.to - p)) (tokR (b.drop (gapN b)) (p + gapN b)).1.to).2) := by
  have hb := (tok_bounds h (p + gapN b)).1 h2
  have hl := drop_lt h
  unfold lexA
  rw [lexF, if_neg h, if_neg (fun e => e h2), lexF_more _ (b.drop ((tokR (b.drop (gapN b)) (p + gapN b)).1.to - p)) b.length _ (Nat.lt_succ_self _) (by rw [List.length_drop]; omega)]
theorem lex_ind {M : List Int → Nat → Prop} (nil : ∀ b p, b.drop (gapN b) = [] → M b p) (bad : ∀ b p, b.drop (gapN b) ≠ [] → (tokR (b.drop (gapN b)) (p + gapN b)).2.1 ≠ 0 → M b p)
    (tok : ∀ b p, b.drop (gapN b) ≠ [] → (tokR (b.drop (gapN b)) (p + gapN b)).2.1 = 0 → M (b.drop ((tokR (b.drop (gapN b)) (p + gapN b)).1.to - p)) (tokR (b.drop (gapN b)) (p + gapN b)).1.to → M b p) : ∀ b p, M b p := by
  have key : ∀ n b p, b.length < n → M b p := by
    intro n
    induction n with
    | zero => intro b p h; omega
    | succ n ih =>
      intro b p h
      by_cases h1 : b.drop (gapN b) = []
      · exact nil b p h1
      · by_cases h2 : (tokR (b.drop (gapN b)) (p + gapN b)).2.1 = 0
        · have hb := (tok_bounds h1 (p + gapN b)).1 h2
          have hl := drop_lt h1
          exact tok b p h1 h2 (ih _ _ (by rw [List.length_drop]; omega))
        · exact bad b p h1 h2
  exact fun b p => key (b.length + 1) b p (Nat.lt_succ_self _)
/-- What is said of tokens in order: gaps alone between them; behind the last from e on. -/
def Ordr (zs : List Int) : Nat → List Tk → Prop
  | _, [] => True
  | at_, t :: l => at_ ≤ t.frm ∧ t.frm < t.to ∧ t.to ≤ zs.length ∧ 1 ≤ t.kind ∧ t.kind ≤ 11 ∧ (∀ i, at_ ≤ i → i < t.frm → isGap (zs.getD i 0) = true) ∧ Ordr zs t.to l
def lastTo : Nat → List Tk → Nat
  | p, [] => p
  | _, t :: l => lastTo t.to l
theorem getD_drop (b : List Int) (p i : Nat) : (b.drop p).getD i 0 = b.getD (p + i) 0 := by
  rw [List.getD_eq_getElem?_getD, List.getElem?_drop, ← List.getD_eq_getElem?_getD]
/-- TOKENS STAND IN ORDER, AND BETWEEN THEM ONLY GAPS. -/
theorem lex_order (zs : List Int) (b : List Int) (p : Nat) : b = zs.drop p → p ≤ zs.length → Ordr zs p (lexA b p).1 ∧ ((lexA b p).2.1 = 0 → (lexA b p).2.2 = 0 ∧ ∀ i, lastTo p (lexA b p).1 ≤ i → i < zs.length → isGap (zs.getD i 0) = true) ∧ ((lexA b p).2.1 ≠ 0 → lastTo p (lexA b p).1 ≤ (lexA b p).2.2 ∧ (lexA b p).2.2 ≤ zs.length) := by
  induction b, p using lex_ind with
  | nil b p h =>
    intro hb hp
    rw [lex_end h]
    refine ⟨trivial, fun _ => ⟨rfl, fun i h1 h2 => ?_⟩, fun e => absurd rfl e⟩
    have hlen : gapN b = b.length := by
      have := gap_le b
      rcases Nat.lt_or_ge (gapN b) b.length with h3 | h3
      · have := congrArg List.length h; rw [List.length_drop, List.length_nil] at this; omega
      · omega
    have hl : b.length = zs.length - p := by rw [hb, List.length_drop]
    have h1' : p ≤ i := h1
    have := gap_all b (i - p) (by omega)
    rw [hb, getD_drop] at this
    rwa [show p + (i - p) = i from by omega] at this
  | bad b p h h2 =>
    intro hb hp
    rw [lex_bad h h2]
    refine ⟨trivial, fun e => absurd e h2, fun _ => ?_⟩
    have hbd := (tok_bounds h (p + gapN b)).2 h2
    have hl : b.length = zs.length - p := by rw [hb, List.length_drop]
    have hgl := drop_lt h
    rw [List.length_drop] at hbd
    show p ≤ (tokR (b.drop (gapN b)) (p + gapN b)).2.2 ∧ (tokR (b.drop (gapN b)) (p + gapN b)).2.2 ≤ _
    omega
  | tok b p h h2 ih =>
    intro hb hp
    rw [lex_tok h h2]
    have hbd := (tok_bounds h (p + gapN b)).1 h2
    have hl : b.length = zs.length - p := by rw [hb, List.length_drop]
    have hgl := drop_lt h
    rw [List.length_drop] at hbd
    have e : ∀ T, p ≤ T → b.drop (T - p) = zs.drop T := fun T hT => by rw [hb, List.drop_drop]; congr 1; omega
    obtain ⟨i1, i2, i3⟩ := ih (e _ (by omega)) (by omega)
    refine ⟨⟨?_, ?_, ?_, hbd.2.2.2.1, hbd.2.2.2.2, fun i h1 h3 => ?_, i1⟩, i2, i3⟩
    · rw [hbd.1]; omega
    · rw [hbd.1]; omega
    · omega
    · rw [hbd.1] at h3
      have := gap_all b (i - p) (by omega)
      rw [hb, getD_drop] at this
      rwa [show p + (i - p) = i from by omega] at this
end Go.Proofs.YtmlacmoembjeoaaGreatDoor
