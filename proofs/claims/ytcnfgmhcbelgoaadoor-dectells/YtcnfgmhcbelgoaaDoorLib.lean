/-
  The library's calls, as this program bears them.
-/
import Derived.Test.YtcnfgmhcbelgoaaDoorLays
import Derived.Test.YtcnfgmhcbelgoaaDoorSmall
import Derived.Lib.AppendIntMem
namespace Go.Proofs.YtcnfgmhcbelgoaaDoor
open Go.RowKit Go.Shelf Go.Lib

theorem triml_any (s : ByteArray) (w : World) : Calls Tryd.prog 23 #[.string s, .string zS] w fun e w' => (∃ t, e = .returned (.string t) ∧ bs t = longL (bs s)) ∧ w' = w :=
  (Any.strings_TrimLeft_one lays161 s 48 (by decide) w).mono fun e w' ⟨h1, h2⟩ => ⟨⟨_, h1, bs_trimL s⟩, h2⟩
theorem trimr_any (s : ByteArray) (w : World) (hs : s.size ≤ 9223372036854775807) : Calls Tryd.prog 25 #[.string s, .string zS] w fun e w' => (∃ t, e = .returned (.string t) ∧ bs t = shortL (bs s)) ∧ w' = w :=
  (Any.strings_TrimRight_one lays162 s 48 (by decide) w hs).mono fun e w' ⟨h1, h2⟩ => ⟨⟨_, h1, bs_trimR s⟩, h2⟩
theorem sclone_any (s : ByteArray) (w : World) (hs : s.size ≤ 281474976710656) : Calls Tryd.prog 56 #[.string s] w fun e w' => e = .returned (.string s) ∧ Below w.heap.size w w' :=
  Any.stringslite_Clone laysM316 s w hs
theorem clone_any (s : ByteArray) (w : World) (hs : s.size ≤ 281474976710656) : Calls Tryd.prog 26 #[.string s] w fun e w' => e = .returned (.string s) ∧ Below w.heap.size w w' := by
  have k := sclone_any s w hs
  clear hs
  go_enter Tryd.func26, Tryd.ntmps26
  go_wp2_with (go_at_call 56; refine k.mono ?_; rintro e w1 ⟨rfl, hb⟩)
  go_ret
  exact ⟨rfl, hb⟩
/-- A text that ends with 0. -/
theorem suf_last {s : ByteArray} (h0 : 0 < s.size) : Lib.hasSuffix s.data.toList [48] = ((bs s).getD (s.size - 1) 0 == 48) := by
  obtain ⟨t, c, ht⟩ : ∃ t c, s.data.toList = t ++ [c] := by
    have hn : s.data.toList ≠ [] := fun h => by
      have := congrArg List.length h
      rw [Array.length_toList] at this
      have h2 : s.size = 0 := this
      omega
    exact ⟨s.data.toList.dropLast, s.data.toList.getLast hn, (List.dropLast_concat_getLast hn).symm⟩
  have hsz : s.size = t.length + 1 := by
    have := congrArg List.length ht
    rw [Array.length_toList, List.length_append] at this
    exact this
  have e1 : bs s = numsU t ++ [((c.toNat : Nat) : Int)] := by
    have : bs s = numsU s.data.toList := rfl
    rw [this, ht]
    unfold numsU
    rw [List.map_append]
    rfl
  have e2 : (bs s).getD (s.size - 1) 0 = ((c.toNat : Nat) : Int) := by
    rw [e1, hsz, List.getD_eq_getElem?_getD, List.getElem?_append_right (by simp [numsU])]
    simp [numsU]
  rw [e2, ht]
  unfold Lib.hasSuffix
  rw [Bool.eq_iff_iff, List.isSuffixOf_iff_suffix, beq_iff_eq]
  constructor
  · rintro ⟨u, hu⟩
    have h2 := (List.append_inj' hu rfl).2
    simp at h2
    rw [← h2]
    rfl
  · intro h
    have : c = 48 := UInt8.toNat_inj.1 (by show c.toNat = 48; omega)
    rw [this]
    exact ⟨t, rfl⟩
theorem hassuf_any (s : ByteArray) (w : World) (h0 : 0 < s.size) (hs : s.size ≤ 9223372036854775807) : Calls Tryd.prog 40 #[.string s, .string zS] w fun e w' => e = .returned (.bool ((bs s).getD (s.size - 1) 0 == 48)) ∧ w' = w := by
  have h := Any.strings_HasSuffix lays100 s zS w hs
  rw [← suf_last h0]
  exact h
/-- The table of powers, which nothing below turns. -/
def Tab (B : Nat) (w : World) : Prop := Lib.TabBelow Tryd.prog B w "internal/strconv.uint64pow10" .u64 Lib.pow10Tab
theorem Tab.on {B : Nat} {w w' : World} (h : Tab B w) (hb : Below B w w') : Tab B w' := Lib.TabBelow.on h hb
/-- A number's text, with its sign. -/
def itoaL (e : Int) : List Int := if e < 0 then 45 :: numL e.natAbs else numL e.toNat
theorem dec_num (u : Nat) : numsU (Lib.decDigits u) = numL u := by
  unfold numsU
  induction u using Nat.strongRecOn with
  | _ u ih =>
    by_cases h : u < 10
    · rw [Lib.decDigits_one h, num_small h]
      simp only [List.map_cons, List.map_nil]
      rw [UInt8.toNat_ofNat', Nat.mod_eq_of_lt (by omega)]
    · rw [Lib.decDigits, dif_neg h, num_big (by omega), List.map_append, ih (u / 10) (by omega)]
      simp only [List.map_cons, List.map_nil]
      rw [UInt8.toNat_ofNat', Nat.mod_eq_of_lt (by omega)]
theorem itoa_num (e : Int) : numsU (Lib.itoa e) = itoaL e := by
  unfold Lib.itoa itoaL
  by_cases h : e < 0
  · rw [if_pos h, if_pos h, ← dec_num]; rfl
  · rw [if_neg h, if_neg h, ← dec_num]
theorem cells_num (l : List UInt8) : Lib.byteCells l = (numsU l).map (Value.int .u8) := by
  unfold Lib.byteCells numsU
  rw [List.map_map]
  rfl
theorem itoa_bytes (e : Int) : ∀ c ∈ itoaL e, 0 ≤ c ∧ c < 256 := by
  rw [← itoa_num]
  intro c hc
  obtain ⟨b, _, rfl⟩ := List.mem_map.1 hc
  have := b.toNat_lt
  omega
theorem appi_any (B : Nat) (v : Value) (ys : List Int) (i : Int) (h0 : -9223372036854775808 ≤ i) (h1 : i ≤ 9223372036854775807) (w : World) (ho : OwnsB w B v ys) (hB : B ≤ w.heap.size) (hl : ys.length + 21 ≤ 140737488355328) (ht : Tab B w) :
    Calls Tryd.prog 42 #[v, .int .i64 i, .int .i64 10] w fun e w' => ∃ v', e = .returned v' ∧ OwnsB w' B v' (ys ++ itoaL i) ∧ Below B w w' := by
  refine (Any.strconv_AppendInt_10 laysM176 B ys.length i h0 h1 v _ w ho.1 hB hl ht).mono ?_
  rintro e w' ⟨v', he, hown, hb, -⟩
  have e1 : (Lib.itoa i).length = (itoaL i).length := by rw [← itoa_num]; unfold numsU; rw [List.length_map]
  refine ⟨v', he, ⟨?_, fun c hc => ?_⟩, hb⟩
  · rw [List.length_append, List.map_append, ← itoa_num i]
    have e2 : (numsU (Lib.itoa i)).length = (Lib.itoa i).length := by unfold numsU; rw [List.length_map]
    rw [e2, ← cells_num]
    exact hown
  · rcases List.mem_append.1 hc with h | h
    · exact ho.2 c h
    · exact itoa_bytes i c h
end Go.Proofs.YtcnfgmhcbelgoaaDoor
