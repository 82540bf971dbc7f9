/-
  The library's calls, as this program bears them.
-/
import Derived.Test.YtfkoghmbkgbgbaaDoorLays
import Derived.Test.YtfkoghmbkgbgbaaDoorSmall
namespace Go.Proofs.YtfkoghmbkgbgbaaDoor
open Go.RowKit Go.Shelf Go.Lib

theorem triml_any (s : ByteArray) (w : World) : Calls Tryd.prog 89 #[.string s, .string zS] w fun e w' => (∃ t, e = .returned (.string t) ∧ bs t = longL (bs s)) ∧ w' = w :=
  (Any.strings_TrimLeft_one lays161 s 48 (by decide) w).mono fun e w' ⟨h1, h2⟩ => ⟨⟨_, h1, bs_trimL s⟩, h2⟩
theorem trimr_any (s : ByteArray) (w : World) (hs : s.size ≤ 9223372036854775807) : Calls Tryd.prog 91 #[.string s, .string zS] w fun e w' => (∃ t, e = .returned (.string t) ∧ bs t = shortL (bs s)) ∧ w' = w :=
  (Any.strings_TrimRight_one lays162 s 48 (by decide) w hs).mono fun e w' ⟨h1, h2⟩ => ⟨⟨_, h1, bs_trimR s⟩, h2⟩
theorem sclone_any (s : ByteArray) (w : World) (hs : s.size ≤ 281474976710656) : Calls Tryd.prog 77 #[.string s] w fun e w' => e = .returned (.string s) ∧ Below w.heap.size w w' :=
  Any.stringslite_Clone laysM316 s w hs
theorem clone_any (s : ByteArray) (w : World) (hs : s.size ≤ 281474976710656) : Calls Tryd.prog 54 #[.string s] w fun e w' => e = .returned (.string s) ∧ Below w.heap.size w w' := by
  have k := sclone_any s w hs
  clear hs
  go_enter Tryd.func54, Tryd.ntmps54
  go_wp2_with (go_at_call 77; refine k.mono ?_; rintro e w1 ⟨rfl, hb⟩)
  go_ret
  exact ⟨rfl, hb⟩
/-- A text that ends with 0. -/
theorem suf_last {s : ByteArray} (h0 : 0 < s.size) : Lib.hasSuffix s.data.toList [48] = ((bs s).getD (s.size - 1) 0 == 48) := by
  obtain ⟨t, c, ht⟩ : ∃ t c, s.data.toList = t ++ [c] := by
    have hn : s.data.toList ≠ [] := fun h => by
      have := congrArg List.length h
      rw [Array.length_toList] at this
      have h2 : s.size = 0 := this
      omega
    exact ⟨s.data.toList.dropLast, s.data.toList.getLast hn, (List.dropLast_concat_getLast hn).symm⟩
  have hsz : s.size = t.length + 1 := by
    have := congrArg List.length ht
    rw [Array.length_toList, List.length_append] at this
    exact this
  have e1 : bs s = numsU t ++ [((c.toNat : Nat) : Int)] := by
    have : bs s = numsU s.data.toList := rfl
    rw [this, ht]
    unfold numsU
    rw [List.map_append]
    rfl
  have e2 : (bs s).getD (s.size - 1) 0 = ((c.toNat : Nat) : Int) := by
    rw [e1, hsz, List.getD_eq_getElem?_getD, List.getElem?_append_right (by simp [numsU])]
    simp [numsU]
  rw [e2, ht]
  unfold Lib.hasSuffix
  rw [Bool.eq_iff_iff, List.isSuffixOf_iff_suffix, beq_iff_eq]
  constructor
  · rintro ⟨u, hu⟩
    have h2 := (List.append_inj' hu rfl).2
    simp at h2
    rw [← h2]
    rfl
  · intro h
    have : c = 48 := UInt8.toNat_inj.1 (by show c.toNat = 48; omega)
    rw [this]
    exact ⟨t, rfl⟩
theorem cells_num (l : List UInt8) : Lib.byteCells l = (numsU l).map (Value.int .u8) := by
  unfold Lib.byteCells numsU
  rw [List.map_map]
  rfl
end Go.Proofs.YtfkoghmbkgbgbaaDoor
