/-
  Bytes turned into strings, and compared: they are equal just where the bytes are.
-/
import Derived.Test.YtfamenkefmgnoaaDoorOwn
namespace Go.Proofs.YtfamenkefmgnoaaDoor
open Go.RowKit

theorem conv_str {w : World} {a : Option Addr} {zs : List Int} (hb : Bytes w a zs) (m cap : Nat) (hm : zs.length = m) :
    (convert 42 9 (.slice a m cap)).run Tryd.prog w = .ok (.string (strOfNums zs)) w := by
  subst hm
  rcases hb.2.2 with rfl | ⟨b, off, rfl, hc⟩
  · cases a with
    | none => rw [run_convert_bytes_nil w 42 5 Tryd.underlying42 Tryd.underlying5 _ cap 9 Tryd.underlying9]; rfl
    | some x =>
      rw [run_convert_bytes_string w 42 9 5 _ _ cap Tryd.underlying42 Tryd.underlying5 Tryd.underlying9]
      have hl := run_loadCells_list (P := Tryd.prog) w x [] (by simp)
      exact run_bytesToString w x 0 cap [] hl
  · exact run_convert_bytes_arg w 42 5 Tryd.underlying42 Tryd.underlying5 b off zs.length cap zs rfl hc 9 Tryd.underlying9

theorem str_inj {xs ys : List Int} (hx : ∀ c ∈ xs, 0 ≤ c ∧ c < 256) (hy : ∀ c ∈ ys, 0 ≤ c ∧ c < 256)
    (h : (xs.map fun n => UInt8.ofNat n.toNat) = ys.map fun n => UInt8.ofNat n.toNat) : xs = ys := by
  induction xs generalizing ys with
  | nil => cases ys with
    | nil => rfl
    | cons y ys => simp at h
  | cons x xs ih =>
    cases ys with
    | nil => simp at h
    | cons y ys =>
      simp only [List.map_cons, List.cons.injEq] at h
      have h1 := hx x (by simp)
      have h2 := hy y (by simp)
      have h3 : (UInt8.ofNat x.toNat).toNat = (UInt8.ofNat y.toNat).toNat := by rw [h.1]
      rw [UInt8.toNat_ofNat', UInt8.toNat_ofNat'] at h3
      have h4 : x = y := by
        rw [Nat.mod_eq_of_lt (by omega), Nat.mod_eq_of_lt (by omega)] at h3
        omega
      rw [h4, ih (fun c hc => hx c (by simp [hc])) (fun c hc => hy c (by simp [hc])) h.2]

theorem str_eq {xs ys : List Int} (hx : ∀ c ∈ xs, 0 ≤ c ∧ c < 256) (hy : ∀ c ∈ ys, 0 ≤ c ∧ c < 256) :
    ((strOfNums xs).toList == (strOfNums ys).toList) = decide (xs = ys) := by
  rw [ByteArray.toList_eq, ByteArray.toList_eq, strOfNums_data, strOfNums_data, Bool.eq_iff_iff, beq_iff_eq, decide_eq_true_iff]
  exact ⟨str_inj hx hy, fun h => by rw [h]⟩

set_option maxHeartbeats 400000 in
theorem same_any (a b : Option Addr) (ca cb : Nat) (za zb : List Int) (w : World) (ha : Bytes w a za) (hb : Bytes w b zb) :
    Calls Tryd.prog 28 #[.slice a za.length ca, .slice b zb.length cb] w fun e w' => e = .returned (.bool (decide (za = zb))) ∧ w' = w := by
  have k1 := conv_str ha za.length ca rfl
  have k2 := conv_str hb zb.length cb rfl
  have he : Hid _ := str_eq ha.1 hb.1
  go_enter Tryd.func28, Tryd.ntmps28
  go_wp2
  go_ret
  exact ⟨by rw [← he.out]; rfl, rfl⟩

theorem same_yes (a b : Option Addr) (m n ca cb : Nat) (zs : List Int) (w : World) (hm : zs.length = m) (hn : zs.length = n) (ha : Bytes w a zs) (hb : Bytes w b zs) :
    Calls Tryd.prog 28 #[.slice a m ca, .slice b n cb] w fun e w' => e = .returned (.bool true) ∧ w' = w := by
  subst hm
  subst hn
  have h := same_any a b ca cb zs zs w ha hb
  simpa using h
end Go.Proofs.YtfamenkefmgnoaaDoor
