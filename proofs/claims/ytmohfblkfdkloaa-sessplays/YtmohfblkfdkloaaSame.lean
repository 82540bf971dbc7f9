/-
  Bytes turned into strings, and compared: they are equal just where the bytes are.
-/
import Derived.Test.YtmohfblkfdkloaaOwn
namespace Go.Proofs.Ytmohfblkfdkloaa
open Go.RowKit

theorem conv_str {w : World} {a : Option Addr} {zs : List Int} (hb : Bytes w a zs) (m cap : Nat) (hm : zs.length = m) :
    (convert 35 9 (.slice a m cap)).run Try.prog w = .ok (.string (strOfNums zs)) w := by
  subst hm
  rcases hb.2.2 with rfl | ⟨b, off, rfl, hc⟩
  · cases a with
    | none => rw [run_convert_bytes_nil w 35 5 Try.underlying35 Try.underlying5 _ cap 9 Try.underlying9]; rfl
    | some x =>
      rw [run_convert_bytes_string w 35 9 5 _ _ cap Try.underlying35 Try.underlying5 Try.underlying9]
      have hl := run_loadCells_list (P := Try.prog) w x [] (by simp)
      exact run_bytesToString w x 0 cap [] hl
  · exact run_convert_bytes_arg w 35 5 Try.underlying35 Try.underlying5 b off zs.length cap zs rfl hc 9 Try.underlying9

theorem str_inj {xs ys : List Int} (hx : ∀ c ∈ xs, 0 ≤ c ∧ c < 256) (hy : ∀ c ∈ ys, 0 ≤ c ∧ c < 256)
    (h : (xs.map fun n => UInt8.ofNat n.toNat) = ys.map fun n => UInt8.ofNat n.toNat) : xs = ys := by
  induction xs generalizing ys with
  | nil => cases ys with
    | nil => rfl
    | cons y ys => simp at h
  | cons x xs ih =>
    cases ys with
    | nil => simp at h
    | cons y ys =>
      simp only [List.map_cons, List.cons.injEq] at h
      have h1 := hx x (by simp)
      have h2 := hy y (by simp)
      have h3 : (UInt8.ofNat x.toNat).toNat = (UInt8.ofNat y.toNat).toNat := by rw [h.1]
      rw [UInt8.toNat_ofNat', UInt8.toNat_ofNat'] at h3
      have h4 : x = y := by
        rw [Nat.mod_eq_of_lt (by omega), Nat.mod_eq_of_lt (by omega)] at h3
        omega
      rw [h4, ih (fun c hc => hx c (by simp [hc])) (fun c hc => hy c (by simp [hc])) h.2]

theorem str_eq {xs ys : List Int} (hx : ∀ c ∈ xs, 0 ≤ c ∧ c < 256) (hy : ∀ c ∈ ys, 0 ≤ c ∧ c < 256) :
    ((strOfNums xs).toList == (strOfNums ys).toList) = decide (xs = ys) := by
  rw [ByteArray.toList_eq, ByteArray.toList_eq, strOfNums_data, strOfNums_data, Bool.eq_iff_iff, beq_iff_eq, decide_eq_true_iff]
  exact ⟨str_inj hx hy, fun h => by rw [h]⟩

end Go.Proofs.Ytmohfblkfdkloaa
