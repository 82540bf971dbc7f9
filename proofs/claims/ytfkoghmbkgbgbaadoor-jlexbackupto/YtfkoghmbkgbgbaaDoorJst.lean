/-
  A string's characters that are no whole ones: jlex.isBroken, jlex.brokenFault.
-/
import Derived.Test.YtfkoghmbkgbgbaaDoorUchk
import Derived.Test.YtfkoghmbkgbgbaaDoorLib
import Derived.Test.YtfkoghmbkgbgbaaDoorOwm
import Derived.Test.YtfkoghmbkgbgbaaDoorJpm
import Derived.Lib.ConvBytes
import Derived.Shelf.Strings.Prefix
namespace Go.Proofs.YtfkoghmbkgbgbaaDoor
open Go.RowKit
set_option linter.unusedVariables false

theorem bs_ext (s : ByteArray) (a b : Nat) : bs (s.extract a b) = ((bs s).take b).drop a := by
  unfold bs
  have e : (s.extract a b).data.toList = (s.data.toList.take b).drop a := by
    rw [ByteArray.data_extract, Array.toList_extract, List.extract_eq_take_drop]
    rw [List.drop_take]
  rw [e, List.map_drop, List.map_take]
theorem bs_from (s : ByteArray) (a : Nat) : bs (s.extract a s.size) = (bs s).drop a := by
  rw [bs_ext, List.take_of_length_le (by rw [bs_len]; exact Nat.le_refl _)]
theorem ext_size {s : ByteArray} {a : Nat} (h : a ≤ s.size) : (s.extract a s.size).size = s.size - a := by
  rw [← bs_len, bs_from, List.length_drop, bs_len]
/-- strings.HasPrefix of the bytes of FFFD. -/
theorem pre_odd (b : List Int) (hz : ∀ c ∈ b, 0 ≤ c ∧ c < 256) (h0 : b ≠ []) (l : List UInt8) (hl : l.map (fun x => ((x.toNat : Nat) : Int)) = b) : Lib.hasPrefix l [239, 191, 189] = true ↔ (Good b ∧ valB b = 65533) := by
  have key : Lib.hasPrefix l [239, 191, 189] = true ↔ (3 ≤ b.length ∧ nth b 0 = 239 ∧ nth b 1 = 191 ∧ nth b 2 = 189) := by
    subst hl
    unfold Lib.hasPrefix nth
    cases l with
    | nil => simp
    | cons x l =>
      cases l with
      | nil => simp
      | cons y l =>
        cases l with
        | nil => simp
        | cons z l =>
          simp only [List.isPrefixOf_cons_cons, List.isPrefixOf_nil_left, Bool.and_true, Bool.and_eq_true, beq_iff_eq, List.map_cons, List.length_cons, List.getD_cons_zero, List.getD_cons_succ, Int.toNat_natCast]
          constructor
          · rintro ⟨rfl, rfl, rfl⟩
            exact ⟨by omega, by decide, by decide, by decide⟩
          · rintro ⟨_, h1, h2, h3⟩
            exact ⟨(UInt8.toNat_inj.1 (by rw [h1]; rfl)).symm, (UInt8.toNat_inj.1 (by rw [h2]; rfl)).symm, (UInt8.toNat_inj.1 (by rw [h3]; rfl)).symm⟩
  rw [key]
  constructor
  · intro h
    have hG : Good b := by
      unfold Good GoodN ok1 okK
      rw [h.2.1, h.2.2.1, h.2.2.2]
      refine ⟨by decide, fun _ => ⟨by omega, by decide, by decide⟩, fun _ => ⟨by omega, by decide, by decide⟩, fun h => absurd h (by decide)⟩
    exact ⟨hG, (good_odd hG).2 h⟩
  · rintro ⟨hG, hv⟩
    exact (good_odd hG).1 hv
theorem pre_any (t : ByteArray) (w : World) : Calls Tryd.prog 58 #[.string t, .string ⟨#[239, 191, 189]⟩] w fun e w' => e = .returned (.bool (Lib.hasPrefix t.data.toList [239, 191, 189])) ∧ w' = w := Any.strings_HasPrefix lays99 t ⟨#[239, 191, 189]⟩ w
/-- The character that a range tells there. -/
def runeB (b : List Int) : Nat := if goodB b = true then valB b else 65533
set_option maxHeartbeats 1000000 in
set_option maxRecDepth 100000 in
/-- jlex.isBroken. -/
theorem broken_any (t : ByteArray) (h0 : bs t ≠ []) (w : World) : Calls Tryd.prog 38 #[.string t, .int .i32 (runeB (bs t) : Nat)] w fun e w' => e = .returned (.bool (!goodB (bs t))) ∧ w' = w := by
  have kP := pre_any t w
  have hP := pre_odd (bs t) (bs_bytes t) h0 t.data.toList rfl
  by_cases hg : Good (bs t)
  · rw [goodB_yes hg]
    have hr : runeB (bs t) = valB (bs t) := by unfold runeB; rw [goodB_yes hg, if_pos rfl]
    rw [hr]
    by_cases hv : valB (bs t) = 65533
    · have : Lib.hasPrefix t.data.toList [239, 191, 189] = true := hP.2 ⟨hg, hv⟩
      rw [this] at kP
      have a1 : (((valB (bs t) : Nat) : Int) == 65533) = true := by rw [hv]; decide
      generalize valB (bs t) = V at *
      clear hP hg hr h0 this hv
      go_enter Tryd.func38, Tryd.ntmps38
      go_wp2_with (go_at_call 58; refine kP.mono ?_; rintro e w1 ⟨rfl, hw⟩; subst hw)
      go_ret
      exact ⟨rfl, rfl⟩
    · have a1 : (((valB (bs t) : Nat) : Int) == 65533) = false := by simp; omega
      generalize valB (bs t) = V at *
      clear hP hg hr h0 hv kP
      go_enter Tryd.func38, Tryd.ntmps38
      go_wp2
      go_ret
      exact ⟨rfl, rfl⟩
  · rw [goodB_no hg]
    have hr : runeB (bs t) = 65533 := by unfold runeB; rw [goodB_no hg, if_neg (by simp)]
    rw [hr]
    have : Lib.hasPrefix t.data.toList [239, 191, 189] = false := by
      cases h : Lib.hasPrefix t.data.toList [239, 191, 189] with
      | false => rfl
      | true => exact absurd (hP.1 h).1 hg
    rw [this] at kP
    clear hP hg hr h0 this
    go_enter Tryd.func38, Tryd.ntmps38
    go_wp2_with (go_at_call 58; refine kP.mono ?_; rintro e w1 ⟨rfl, hw⟩; subst hw)
    go_ret
    exact ⟨rfl, rfl⟩
end Go.Proofs.YtfkoghmbkgbgbaaDoor
