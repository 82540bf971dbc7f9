/-
  The library functions of this program, held against those that the shelf knows.
  Bytes turned into strings, and compared: they are equal just where the bytes are.
  Which texts are numbers: nat.Right, and the document's.
  Decimal numbers: their form, how they stand, what trimming does: plain mathematics.
-/
import Derived.Test.YtelabgonpmafpaaGreatDoorProg
import Derived.Test.YtelabgonpmafpaaGreatDoorP1
import Derived.Test.YtelabgonpmafpaaGreatDoorP0
import Derived.Shelf.Strings.Trim
import Derived.Shelf.Strings.BuilderK
import Derived.Shelf.Utf8.AppendRunePlain
import Derived.Shelf.LaysM
import Derived.Shelf.Strconv.Clone
import Derived.Shelf.Strings.Search1
import Derived.Shelf.Strconv.AppendInt10
import Derived.Shelf.Strconv.AppendIntPublic10
import Derived.Shelf.Strings.Prefix
namespace Go.Proofs.YtelabgonpmafpaaGreatDoor
open Go Go.Proofs Go.Shelf
def lays217_ren : Go.Shelf.Ren := ⟨fun | 217 => 159 | 266 => 179 | n => n, fun | 9 => 9 | 5 => 5 | 3 => 3 | n => n, fun | n => n⟩
theorem lays217 : Go.Proofs.Lays.n217 Tryz.prog lays217_ren := {
  mixed := by kernel_rfl
  f217 := Tryz.func159.trans (congrArg some (by kernel_rfl))
  f266 := Tryz.func179.trans (congrArg some (by kernel_rfl))
  t3 := Tryz.underlying3
  a3 := Tryz.isAgg3
  z3 := Tryz.sizeOf3
  v3 := Tryz.zeroValue3
  t5 := Tryz.underlying5
  a5 := Tryz.isAgg5
  z5 := Tryz.sizeOf5
  v5 := Tryz.zeroValue5
  t9 := Tryz.underlying9
  a9 := Tryz.isAgg9
  z9 := Tryz.sizeOf9
  v9 := Tryz.zeroValue9 }
def lays169_ren : Go.Shelf.Ren := ⟨fun | 169 => 78 | n => n, fun | 70 => 98 | 9 => 9 | 0 => 0 | 72 => 100 | 37 => 23 | 127 => 131 | 3 => 3 | 5 => 5 | n => n, fun | n => n⟩
theorem lays169 : Go.Proofs.Lays.n169 Tryz.prog lays169_ren := {
  mixed := by kernel_rfl
  f169 := Tryz.func78.trans (congrArg some (by kernel_rfl))
  t0 := Tryz.underlying0
  a0 := Tryz.isAgg0
  z0 := Tryz.sizeOf0
  v0 := Tryz.zeroValue0
  t3 := Tryz.underlying3
  a3 := Tryz.isAgg3
  z3 := Tryz.sizeOf3
  v3 := Tryz.zeroValue3
  t9 := Tryz.underlying9
  a9 := Tryz.isAgg9
  z9 := Tryz.sizeOf9
  v9 := Tryz.zeroValue9
  t37 := Tryz.underlying23
  a37 := Tryz.isAgg23
  z37 := Tryz.sizeOf23
  v37 := Tryz.zeroValue23
  t70 := Tryz.underlying98
  a70 := Tryz.isAgg98
  z70 := Tryz.sizeOf98
  v70 := Tryz.zeroValue98
  t72 := Tryz.underlying100
  a72 := Tryz.isAgg100
  z72 := Tryz.sizeOf100
  v72 := Tryz.zeroValue100
  t127 := Tryz.underlying131
  a127 := Tryz.isAgg131
  z127 := Tryz.sizeOf131
  v127 := Tryz.zeroValue131 }
def lays242_ren : Go.Shelf.Ren := ⟨fun | 242 => 155 | 278 => 172 | n => n, fun | 37 => 23 | 21 => 21 | 51 => 183 | 4 => 4 | 5 => 5 | 46 => 87 | n => n, fun | n => n⟩
theorem lays242 : Go.Proofs.Lays.n242 Tryz.prog lays242_ren := {
  mixed := by kernel_rfl
  f242 := Tryz.func155.trans (congrArg some (by kernel_rfl))
  f278 := Tryz.func172.trans (congrArg some (by kernel_rfl))
  t4 := Tryz.underlying4
  a4 := Tryz.isAgg4
  z4 := Tryz.sizeOf4
  v4 := Tryz.zeroValue4
  t5 := Tryz.underlying5
  a5 := Tryz.isAgg5
  z5 := Tryz.sizeOf5
  v5 := Tryz.zeroValue5
  t21 := Tryz.underlying21
  a21 := Tryz.isAgg21
  z21 := Tryz.sizeOf21
  v21 := Tryz.zeroValue21
  t37 := Tryz.underlying23
  a37 := Tryz.isAgg23
  z37 := Tryz.sizeOf23
  v37 := Tryz.zeroValue23
  t46 := Tryz.underlying87
  a46 := Tryz.isAgg87
  z46 := Tryz.sizeOf87
  v46 := Tryz.zeroValue87
  t51 := Tryz.underlying183
  a51 := Tryz.isAgg183
  z51 := Tryz.sizeOf183
  v51 := Tryz.zeroValue183 }
def lays100_ren : Go.Shelf.Ren := ⟨fun | 100 => 115 | 207 => 150 | n => n, fun | 9 => 9 | 4 => 4 | 3 => 3 | n => n, fun | n => n⟩
theorem lays100 : Go.Proofs.Lays.n100 Tryz.prog lays100_ren := {
  mixed := by kernel_rfl
  f100 := Tryz.func115.trans (congrArg some (by kernel_rfl))
  f207 := Tryz.func150.trans (congrArg some (by kernel_rfl))
  t3 := Tryz.underlying3
  a3 := Tryz.isAgg3
  z3 := Tryz.sizeOf3
  v3 := Tryz.zeroValue3
  t4 := Tryz.underlying4
  a4 := Tryz.isAgg4
  z4 := Tryz.sizeOf4
  v4 := Tryz.zeroValue4
  t9 := Tryz.underlying9
  a9 := Tryz.isAgg9
  z9 := Tryz.sizeOf9
  v9 := Tryz.zeroValue9 }
def laysM176_ren : Go.Shelf.Ren := ⟨fun | 176 => 80 | 249 => 116 | 288 => 151 | 283 => 168 | 284 => 169 | 285 => 170 | 286 => 171 | 129 => 188 | 317 => 187 | 318 => 189 | 319 => 190 | 320 => 191 | 337 => 204 | 338 => 205 | n => n, fun | 37 => 23 | 2 => 2 | 3 => 3 | 53 => 22 | 4 => 4 | 9 => 9 | 171 => 178 | 0 => 0 | 173 => 181 | 212 => 193 | 51 => 183 | 5 => 5 | 20 => 20 | 213 => 194 | 46 => 87 | 232 => 208 | 233 => 209 | n => n, fun | 17 => 1 | 18 => 2 | 19 => 3 | n => n⟩
theorem laysM176 : Go.Proofs.LaysM.n176 Tryz.prog laysM176_ren := {
  mixed := by kernel_rfl
  f129 := Tryz.func188.trans (congrArg some (by kernel_rfl))
  f176 := Tryz.func80.trans (congrArg some (by kernel_rfl))
  f249 := Tryz.func116.trans (congrArg some (by kernel_rfl))
  f283 := Tryz.func168.trans (congrArg some (by kernel_rfl))
  f284 := Tryz.func169.trans (congrArg some (by kernel_rfl))
  f285 := Tryz.func170.trans (congrArg some (by kernel_rfl))
  f286 := Tryz.func171.trans (congrArg some (by kernel_rfl))
  f288 := Tryz.func151.trans (congrArg some (by kernel_rfl))
  f317 := Tryz.func187.trans (congrArg some (by kernel_rfl))
  f318 := Tryz.func189.trans (congrArg some (by kernel_rfl))
  f319 := Tryz.func190.trans (congrArg some (by kernel_rfl))
  f320 := Tryz.func191.trans (congrArg some (by kernel_rfl))
  f337 := Tryz.func204.trans (congrArg some (by kernel_rfl))
  f338 := Tryz.func205.trans (congrArg some (by kernel_rfl))
  t0 := Tryz.underlying0
  a0 := Tryz.isAgg0
  z0 := Tryz.sizeOf0
  v0 := Tryz.zeroValue0
  t2 := Tryz.underlying2
  a2 := Tryz.isAgg2
  z2 := Tryz.sizeOf2
  v2 := Tryz.zeroValue2
  t3 := Tryz.underlying3
  a3 := Tryz.isAgg3
  z3 := Tryz.sizeOf3
  v3 := Tryz.zeroValue3
  t4 := Tryz.underlying4
  a4 := Tryz.isAgg4
  z4 := Tryz.sizeOf4
  v4 := Tryz.zeroValue4
  t5 := Tryz.underlying5
  a5 := Tryz.isAgg5
  z5 := Tryz.sizeOf5
  v5 := Tryz.zeroValue5
  t9 := Tryz.underlying9
  a9 := Tryz.isAgg9
  z9 := Tryz.sizeOf9
  v9 := Tryz.zeroValue9
  t20 := Tryz.underlying20
  a20 := Tryz.isAgg20
  z20 := Tryz.sizeOf20
  v20 := Tryz.zeroValue20
  t37 := Tryz.underlying23
  a37 := Tryz.isAgg23
  z37 := Tryz.sizeOf23
  v37 := Tryz.zeroValue23
  t46 := Tryz.underlying87
  a46 := Tryz.isAgg87
  z46 := Tryz.sizeOf87
  v46 := Tryz.zeroValue87
  t51 := Tryz.underlying183
  a51 := Tryz.isAgg183
  z51 := Tryz.sizeOf183
  v51 := Tryz.zeroValue183
  t53 := Tryz.underlying22
  a53 := Tryz.isAgg22
  z53 := Tryz.sizeOf22
  v53 := Tryz.zeroValue22
  t171 := Tryz.underlying178
  a171 := Tryz.isAgg178
  z171 := Tryz.sizeOf178
  v171 := Tryz.zeroValue178
  t173 := Tryz.underlying181
  a173 := Tryz.isAgg181
  z173 := Tryz.sizeOf181
  v173 := Tryz.zeroValue181
  t212 := Tryz.underlying193
  a212 := Tryz.isAgg193
  z212 := Tryz.sizeOf193
  v212 := Tryz.zeroValue193
  t213 := Tryz.underlying194
  a213 := Tryz.isAgg194
  z213 := Tryz.sizeOf194
  t232 := Tryz.underlying208
  a232 := Tryz.isAgg208
  z232 := Tryz.sizeOf208
  v232 := Tryz.zeroValue208
  t233 := Tryz.underlying209
  a233 := Tryz.isAgg209
  z233 := Tryz.sizeOf209
  v233 := Tryz.zeroValue209
  g17 := by kernel_rfl
  g18 := by kernel_rfl
  g19 := by kernel_rfl
  i0 := by kernel_rfl
  i2 := by kernel_rfl
  i3 := by kernel_rfl
  i4 := by kernel_rfl
  i5 := by kernel_rfl
  i9 := by kernel_rfl
  i20 := by kernel_rfl
  i37 := by kernel_rfl
  i46 := by kernel_rfl
  i51 := by kernel_rfl
  i53 := by kernel_rfl
  i171 := by kernel_rfl
  i173 := by kernel_rfl
  i212 := by kernel_rfl
  i232 := by kernel_rfl
  i233 := by kernel_rfl
  m17 := by kernel_rfl
  m18 := by kernel_rfl
  m19 := by kernel_rfl }
theorem Extra_169 : Builder.Extra Tryz.prog lays169_ren := {
  sizeBuilder := by kernel_rfl
  liesBuilder := by kernel_rfl
  t5 := Tryz.underlying5
  a5 := Tryz.isAgg5
  z5 := Tryz.sizeOf5
  v5 := Tryz.zeroValue5
  infoByte := by kernel_rfl
  cellsByte := by kernel_rfl
  sizeByte := by kernel_rfl
  neB5 := by decide }
end Go.Proofs.YtelabgonpmafpaaGreatDoor
namespace Go.Proofs.YtelabgonpmafpaaGreatDoor
open Go.RowKit

theorem conv_str {w : World} {a : Option Addr} {zs : List Int} (hb : Bytes w a zs) (m cap : Nat) (hm : zs.length = m) :
    (convert 23 9 (.slice a m cap)).run Tryz.prog w = .ok (.string (strOfNums zs)) w := by
  subst hm
  rcases hb.2.2 with rfl | ⟨b, off, rfl, hc⟩
  · cases a with
    | none => rw [run_convert_bytes_nil w 23 5 Tryz.underlying23 Tryz.underlying5 _ cap 9 Tryz.underlying9]; rfl
    | some x =>
      rw [run_convert_bytes_string w 23 9 5 _ _ cap Tryz.underlying23 Tryz.underlying5 Tryz.underlying9]
      have hl := run_loadCells_list (P := Tryz.prog) w x [] (by simp)
      exact run_bytesToString w x 0 cap [] hl
  · exact run_convert_bytes_arg w 23 5 Tryz.underlying23 Tryz.underlying5 b off zs.length cap zs rfl hc 9 Tryz.underlying9

theorem str_inj {xs ys : List Int} (hx : ∀ c ∈ xs, 0 ≤ c ∧ c < 256) (hy : ∀ c ∈ ys, 0 ≤ c ∧ c < 256)
    (h : (xs.map fun n => UInt8.ofNat n.toNat) = ys.map fun n => UInt8.ofNat n.toNat) : xs = ys := by
  induction xs generalizing ys with
  | nil => cases ys with
    | nil => rfl
    | cons y ys => simp at h
  | cons x xs ih =>
    cases ys with
    | nil => simp at h
    | cons y ys =>
      simp only [List.map_cons, List.cons.injEq] at h
      have h1 := hx x (by simp)
      have h2 := hy y (by simp)
      have h3 : (UInt8.ofNat x.toNat).toNat = (UInt8.ofNat y.toNat).toNat := by rw [h.1]
      rw [UInt8.toNat_ofNat', UInt8.toNat_ofNat'] at h3
      have h4 : x = y := by
        rw [Nat.mod_eq_of_lt (by omega), Nat.mod_eq_of_lt (by omega)] at h3
        omega
      rw [h4, ih (fun c hc => hx c (by simp [hc])) (fun c hc => hy c (by simp [hc])) h.2]

theorem str_eq {xs ys : List Int} (hx : ∀ c ∈ xs, 0 ≤ c ∧ c < 256) (hy : ∀ c ∈ ys, 0 ≤ c ∧ c < 256) :
    ((strOfNums xs).toList == (strOfNums ys).toList) = decide (xs = ys) := by
  rw [ByteArray.toList_eq, ByteArray.toList_eq, strOfNums_data, strOfNums_data, Bool.eq_iff_iff, beq_iff_eq, decide_eq_true_iff]
  exact ⟨str_inj hx hy, fun h => by rw [h]⟩

end Go.Proofs.YtelabgonpmafpaaGreatDoor
namespace Go.Proofs.YtelabgonpmafpaaGreatDoor
open Go.RowKit

theorem bs_at (s : ByteArray) {k : Nat} (h : k < s.size) : (bs s).getD k 0 = (((s[k]'h).toNat : Nat) : Int) := by
  unfold bs
  rw [List.getD_eq_getElem?_getD, List.getElem?_map, Array.getElem?_toList, Array.getElem?_eq_getElem (by exact h)]
  rfl
theorem not_empty {s : ByteArray} (h : 0 < s.size) : s.toList.isEmpty = false := by
  rw [ByteArray.toList_eq]
  cases h1 : s.data.toList with
  | nil =>
    have h2 := congrArg List.length h1
    rw [Array.length_toList] at h2
    have h3 : s.size = 0 := h2
    omega
  | cons a l => rfl
theorem empty_size {s : ByteArray} (h : s.size = 0) : s = noS := by
  have h1 : s.data.toList = [] := List.eq_nil_of_length_eq_zero (by rw [Array.length_toList]; exact h)
  have h2 : bs s = bs noS := by unfold bs; rw [h1]; rfl
  exact bs_inj h2
theorem zero_first {s : ByteArray} (hz : (bs s).getD 0 0 = 48) : (s.toList == [48]) = rt s := by
  have e : s.toList = [48] ↔ s.size = 1 := by
    constructor
    · intro h
      rw [ByteArray.toList_eq] at h
      have h2 := congrArg List.length h
      rw [Array.length_toList] at h2
      exact h2
    · intro h
      have h2 : bs s = bs ⟨#[48]⟩ := by
        have hl : (bs s).length = 1 := by rw [bs_len]; exact h
        match hb : bs s, hl with
        | [c], _ =>
          rw [hb] at hz
          have hc : c = 48 := hz
          rw [hc]; rfl
      rw [bs_inj h2, ByteArray.toList_eq]
  rw [Bool.eq_iff_iff, beq_iff_eq, e, rt_iff]
  constructor
  · intro h
    have hl : (bs s).length = 1 := by rw [bs_len]; exact h
    refine ⟨⟨fun h2 => (by rw [h2] at hl; cases hl), fun c hc => ?_, fun _ => hl⟩, by omega⟩
    match hb : bs s, hl with
    | [x], _ =>
      rw [hb] at hz hc
      have hx : x = 48 := hz
      simp only [List.mem_cons, List.not_mem_nil, or_false] at hc
      omega
  · intro h
    have := h.1.2.2 hz
    rwa [bs_len] at this
theorem not_digs {s : ByteArray} {k : Nat} (hk : k < s.size) (h : (bs s).getD k 0 < 48 ∨ 57 < (bs s).getD k 0) : rt s = false := by
  refine rt_not fun hr => ?_
  have h1 : k < (bs s).length := by rw [bs_len]; exact hk
  rw [List.getD_eq_getElem?_getD, List.getElem?_eq_getElem h1] at h
  have h2 := hr.1.2.1 _ (List.getElem_mem h1)
  simp only [Option.getD_some] at h
  omega
theorem all_digs {s : ByteArray} (h0 : 0 < s.size) (h1 : s.size ≤ 800) (hz : (bs s).getD 0 0 ≠ 48 ∨ s.size = 1) (h : ∀ c ∈ (bs s).take s.size, 48 ≤ c ∧ c ≤ 57) : rt s = true := by
  rw [rt_iff]
  rw [List.take_of_length_le (by rw [bs_len]; exact Nat.le_refl _)] at h
  refine ⟨⟨fun h2 => ?_, h, fun h2 => ?_⟩, by rw [bs_len]; exact h1⟩
  · have := bs_len s
    rw [h2, List.length_nil] at this
    omega
  · rcases hz with h3 | h3
    · exact absurd h2 h3
    · rw [bs_len]; exact h3
theorem take_digs {l : List Int} {k : Nat} (h : ∀ c ∈ l.take k, 48 ≤ c ∧ c ≤ 57) (hk : k < l.length) (hc : 48 ≤ l.getD k 0 ∧ l.getD k 0 ≤ 57) : ∀ c ∈ l.take (k + 1), 48 ≤ c ∧ c ≤ 57 := by
  intro c hm
  rw [List.take_succ_eq_append_getElem hk] at hm
  rcases List.mem_append.1 hm with h1 | h1
  · exact h c h1
  · simp only [List.mem_cons, List.not_mem_nil, or_false] at h1
    rw [List.getD_eq_getElem?_getD, List.getElem?_eq_getElem hk] at hc
    rw [h1]; exact hc

set_option maxHeartbeats 400000 in
theorem right_any (s : ByteArray) (w : World) : Calls Tryz.prog 108 #[.string s] w fun e w' => e = .returned (.bool (rt s)) ∧ w' = w := by
  by_cases h0 : s.size = 0
  · obtain rfl := empty_size h0
    have hr : rt noS = false := rfl
    rw [hr]
    unfold noS
    go_enter Tryz.func108, Tryz.ntmps108
    go_wp2
    go_ret
    exact ⟨rfl, rfl⟩
  have he := not_empty (s := s) (by omega)
  by_cases h1 : 800 < s.size
  · have hr : rt s = false := rt_not fun h => by have := h.2; rw [bs_len] at this; omega
    rw [hr]
    have d1 : decide (800 < ((s.size : Nat) : Int)) = true := by simp; omega
    clear h0 h1
    go_enter Tryz.func108, Tryz.ntmps108
    go_wp2
    go_ret
    exact ⟨rfl, rfl⟩
  have d1 : decide (800 < ((s.size : Nat) : Int)) = false := by simp; omega
  have b0 := bs_at s (k := 0) (by omega)
  have hp : 0 < s.size := by omega
  by_cases hz : (bs s).getD 0 0 = 48
  · have hr : Hid ((s.toList == [48]) = rt s) := zero_first hz
    have e0 : (((s[0]'hp).toNat : Nat) : Int) = 48 := by rw [← b0, hz]
    clear b0 hz h0 h1
    generalize rt s = R at *
    go_enter Tryz.func108, Tryz.ntmps108
    go_wp2
    go_ret
    exact ⟨by rw [hr.out]; rfl, rfl⟩
  have e0 : ((((s[0]'hp).toNat : Nat) : Int) == 48) = false := by rw [← b0]; simpa using hz
  have hall : Hid (∀ k, k < s.size → (bs s).getD k 0 < 48 ∨ 57 < (bs s).getD k 0 → rt s = false) := fun k hk h => not_digs hk h
  have hend : Hid ((∀ c ∈ (bs s).take s.size, 48 ≤ c ∧ c ≤ 57) → rt s = true) := all_digs (by omega) (by omega) (.inl hz)
  clear b0 hz
  generalize rt s = R at *
  go_enter Tryz.func108, Tryz.ntmps108
  go_wp2
  go_loop [18] (fun v => ∃ k : Nat, k ≤ s.size ∧ v = .int .i64 k ∧ Hid (∀ c ∈ (bs s).take k, 48 ≤ c ∧ c ≤ 57)) (fun v => s.size - (intOf v).toNat)
  case atStart => exact ⟨0, Nat.zero_le _, rfl, (by intro c hc; simp at hc)⟩
  case round =>
    obtain ⟨k, hk, rfl, hd⟩ := hrel
    by_cases hlt : k < s.size
    · have bk := bs_at s hlt
      have hC : Hid (_ → _ → _) := fun h1 h2 => take_digs hd.out (by rw [bs_len]; exact hlt) ⟨h1, h2⟩
      have hN := hall.out k hlt
      by_cases hA : (bs s).getD k 0 < 48
      · have d2 : decide ((((s[k]'hlt).toNat : Nat) : Int) < 48) = true := by rw [← bk]; simpa using hA
        obtain rfl := hN (.inl hA)
        clear bk hA
        go_wp2
        go_ret
        exact ⟨rfl, rfl⟩
      by_cases hB : 57 < (bs s).getD k 0
      · have d2 : decide ((((s[k]'hlt).toNat : Nat) : Int) < 48) = false := by rw [← bk]; simpa using hA
        have d3 : decide (57 < (((s[k]'hlt).toNat : Nat) : Int)) = true := by rw [← bk]; simpa using hB
        obtain rfl := hN (.inr hB)
        clear bk hA hB
        go_wp2
        go_ret
        exact ⟨rfl, rfl⟩
      · have d2 : decide ((((s[k]'hlt).toNat : Nat) : Int) < 48) = false := by rw [← bk]; simpa using hA
        have d3 : decide (57 < (((s[k]'hlt).toNat : Nat) : Int)) = false := by rw [← bk]; simpa using hB
        have hC' : Hid _ := hC.out (by omega) (by omega)
        clear bk hA hB hN hC
        go_wp2
        go_round
        case rel => exact ⟨k + 1, by omega, by go_num, hC'⟩
        case measure => simp [intOf]; omega
    · obtain rfl : k = s.size := by omega
      obtain rfl := hend.out hd.out
      go_wp2
      go_ret
      exact ⟨rfl, rfl⟩
end Go.Proofs.YtelabgonpmafpaaGreatDoor
namespace Go.Proofs.YtelabgonpmafpaaGreatDoor

/-- Nothing but 0. -/
def zerosL (k : Nat) : List Int := List.replicate k 48
theorem zeros_digs (k : Nat) : Digs (zerosL k) := fun c hc => by rw [(List.mem_replicate.1 hc).2]; decide
/-- A number of one sign: how great it is, in parts of 10^-2000. -/
def key (s : List Int) (e : Int) : Nat := valS s * 10 ^ (e + 2000).toNat
/-- A number in its form. -/
def FormD (neg : Bool) (s : List Int) (e : Int) : Prop := RightS s ∧ (s = [48] → neg = false ∧ e = 0) ∧ (s ≠ [48] → s.getD (s.length - 1) 0 ≠ 48 ∧ -2000 ≤ e ∧ e ≤ 2000)
theorem form_exp {neg : Bool} {s : List Int} {e : Int} (h : FormD neg s e) : -2000 ≤ e ∧ e ≤ 2000 := by
  by_cases h1 : s = [48]
  · have := (h.2.1 h1).2
    omega
  · exact (h.2.2 h1).2
/-! ### Trimming -/
end Go.Proofs.YtelabgonpmafpaaGreatDoor
