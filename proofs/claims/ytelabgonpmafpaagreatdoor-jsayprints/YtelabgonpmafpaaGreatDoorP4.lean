/-
  Decimal numbers as the document's calls answer them, said over bytes and whole numbers alone.
  A text gone through by a row of states, as plain mathematics.
  The states of a text, one call each.
  The library's calls, as this program bears them.
  Which numbers are in their form: dec.Right.
-/
import Derived.Test.YtelabgonpmafpaaGreatDoorP0
import Derived.Test.YtelabgonpmafpaaGreatDoorP3
import Derived.Lib.TrimByte
import Derived.Lib.AppendIntMem
import Derived.Deep.RegionHeld3
namespace Go.Proofs.YtelabgonpmafpaaGreatDoor
open Go

def zS : ByteArray := ⟨#[48]⟩
theorem bs_z : bs zS = [48] := rfl
theorem z_iff (s : ByteArray) : bs s = [48] ↔ s = zS := ⟨fun h => bs_inj h, fun h => by rw [h]; rfl⟩
/-- A number is in its form. -/
def rtN (n : Bool) (s : ByteArray) (e : Int) : Bool :=
  if bs s = [48] then !n && (e == 0) else rt s && ((bs s).getD (s.size - 1) 0 != 48 && (decide (-2000 ≤ e) && decide (e ≤ 2000)))
theorem rtN_iff (n : Bool) (s : ByteArray) (e : Int) : rtN n s e = true ↔ FormD n (bs s) e := by
  unfold rtN FormD
  by_cases h : bs s = [48]
  · rw [if_pos h, h]
    simp only [Bool.and_eq_true, Bool.not_eq_true', beq_iff_eq, true_implies, ne_eq, not_true_eq_false, false_implies, and_true]
    constructor
    · intro h1
      exact ⟨⟨⟨by simp, fun c hc => by simp at hc; omega, fun _ => rfl⟩, by decide⟩, h1⟩
    · intro h1
      exact h1.2
  · rw [if_neg h]
    simp only [Bool.and_eq_true, bne_iff_ne, ne_eq, decide_eq_true_eq, rt_iff, h, false_implies, true_and, not_false_eq_true, true_implies, bs_len]
theorem rtN_zero : rtN false zS 0 = true := by decide
theorem rtN_rt {n : Bool} {s : ByteArray} {e : Int} (h : rtN n s e = true) : rt s = true := (rt_iff s).2 ((rtN_iff n s e).1 h).1
theorem rtN_exp {n : Bool} {s : ByteArray} {e : Int} (h : rtN n s e = true) : -2000 ≤ e ∧ e ≤ 2000 := form_exp ((rtN_iff n s e).1 h)

/-! ### Trimming -/
def numsU (l : List UInt8) : List Int := l.map fun c => ((c.toNat : Nat) : Int)
/-! ### Making a number -/
end Go.Proofs.YtelabgonpmafpaaGreatDoor
namespace Go.Proofs.YtelabgonpmafpaaGreatDoor
open Go

/-- What was read: neg, digits, how many of them are behind the point, low, power. -/
abbrev Pd := Bool × List Int × Nat × Bool × Nat
def p0 : Pd := (false, [], 0, false, 0)
end Go.Proofs.YtelabgonpmafpaaGreatDoor
namespace Go.Proofs.YtelabgonpmafpaaGreatDoor
open Go.RowKit

end Go.Proofs.YtelabgonpmafpaaGreatDoor
namespace Go.Proofs.YtelabgonpmafpaaGreatDoor
open Go.RowKit Go.Shelf Go.Lib

/-- A text that ends with 0. -/
theorem suf_last {s : ByteArray} (h0 : 0 < s.size) : Lib.hasSuffix s.data.toList [48] = ((bs s).getD (s.size - 1) 0 == 48) := by
  obtain ⟨t, c, ht⟩ : ∃ t c, s.data.toList = t ++ [c] := by
    have hn : s.data.toList ≠ [] := fun h => by
      have := congrArg List.length h
      rw [Array.length_toList] at this
      have h2 : s.size = 0 := this
      omega
    exact ⟨s.data.toList.dropLast, s.data.toList.getLast hn, (List.dropLast_concat_getLast hn).symm⟩
  have hsz : s.size = t.length + 1 := by
    have := congrArg List.length ht
    rw [Array.length_toList, List.length_append] at this
    exact this
  have e1 : bs s = numsU t ++ [((c.toNat : Nat) : Int)] := by
    have : bs s = numsU s.data.toList := rfl
    rw [this, ht]
    unfold numsU
    rw [List.map_append]
    rfl
  have e2 : (bs s).getD (s.size - 1) 0 = ((c.toNat : Nat) : Int) := by
    rw [e1, hsz, List.getD_eq_getElem?_getD, List.getElem?_append_right (by simp [numsU])]
    simp [numsU]
  rw [e2, ht]
  unfold Lib.hasSuffix
  rw [Bool.eq_iff_iff, List.isSuffixOf_iff_suffix, beq_iff_eq]
  constructor
  · rintro ⟨u, hu⟩
    have h2 := (List.append_inj' hu rfl).2
    simp at h2
    rw [← h2]
    rfl
  · intro h
    have : c = 48 := UInt8.toNat_inj.1 (by show c.toNat = 48; omega)
    rw [this]
    exact ⟨t, rfl⟩
theorem hassuf_any (s : ByteArray) (w : World) (h0 : 0 < s.size) (hs : s.size ≤ 9223372036854775807) : Calls Tryz.prog 115 #[.string s, .string zS] w fun e w' => e = .returned (.bool ((bs s).getD (s.size - 1) 0 == 48)) ∧ w' = w := by
  have h := Any.strings_HasSuffix lays100 s zS w hs
  rw [← suf_last h0]
  exact h
/-- The table of powers, which nothing below turns. -/
def Tab (B : Nat) (w : World) : Prop := Lib.TabBelow Tryz.prog B w "internal/strconv.uint64pow10" .u64 Lib.pow10Tab
theorem Tab.on {B : Nat} {w w' : World} (h : Tab B w) (hb : Below B w w') : Tab B w' := Lib.TabBelow.on h hb
/-- A number's text, with its sign. -/
def itoaL (e : Int) : List Int := if e < 0 then 45 :: numL e.natAbs else numL e.toNat
theorem dec_num (u : Nat) : numsU (Lib.decDigits u) = numL u := by
  unfold numsU
  induction u using Nat.strongRecOn with
  | _ u ih =>
    by_cases h : u < 10
    · rw [Lib.decDigits_one h, num_small h]
      simp only [List.map_cons, List.map_nil]
      rw [UInt8.toNat_ofNat', Nat.mod_eq_of_lt (by omega)]
    · rw [Lib.decDigits, dif_neg h, num_big (by omega), List.map_append, ih (u / 10) (by omega)]
      simp only [List.map_cons, List.map_nil]
      rw [UInt8.toNat_ofNat', Nat.mod_eq_of_lt (by omega)]
theorem itoa_num (e : Int) : numsU (Lib.itoa e) = itoaL e := by
  unfold Lib.itoa itoaL
  by_cases h : e < 0
  · rw [if_pos h, if_pos h, ← dec_num]; rfl
  · rw [if_neg h, if_neg h, ← dec_num]
theorem cells_num (l : List UInt8) : Lib.byteCells l = (numsU l).map (Value.int .u8) := by
  unfold Lib.byteCells numsU
  rw [List.map_map]
  rfl
theorem itoa_bytes (e : Int) : ∀ c ∈ itoaL e, 0 ≤ c ∧ c < 256 := by
  rw [← itoa_num]
  intro c hc
  obtain ⟨b, _, rfl⟩ := List.mem_map.1 hc
  have := b.toNat_lt
  omega
theorem appi_any (B : Nat) (v : Value) (ys : List Int) (i : Int) (h0 : -9223372036854775808 ≤ i) (h1 : i ≤ 9223372036854775807) (w : World) (ho : OwnsB w B v ys) (hB : B ≤ w.heap.size) (hl : ys.length + 21 ≤ 140737488355328) (ht : Tab B w) :
    Calls Tryz.prog 80 #[v, .int .i64 i, .int .i64 10] w fun e w' => ∃ v', e = .returned v' ∧ OwnsB w' B v' (ys ++ itoaL i) ∧ Below B w w' := by
  refine (Any.strconv_AppendInt_10 laysM176 B ys.length i h0 h1 v _ w ho.1 hB hl ht).mono ?_
  rintro e w' ⟨v', he, hown, hb, -⟩
  have e1 : (Lib.itoa i).length = (itoaL i).length := by rw [← itoa_num]; unfold numsU; rw [List.length_map]
  refine ⟨v', he, ⟨?_, fun c hc => ?_⟩, hb⟩
  · rw [List.length_append, List.map_append, ← itoa_num i]
    have e2 : (numsU (Lib.itoa i)).length = (Lib.itoa i).length := by unfold numsU; rw [List.length_map]
    rw [e2, ← cells_num]
    exact hown
  · rcases List.mem_append.1 hc with h | h
    · exact ho.2 c h
    · exact itoa_bytes i c h
end Go.Proofs.YtelabgonpmafpaaGreatDoor
namespace Go.Proofs.YtelabgonpmafpaaGreatDoor
open Go.RowKit

/-- A number's three cells in memory. -/
def NmAt (w : World) (g : Nat) (n : Bool) (s : ByteArray) (x : Int) : Prop := w.cell? ⟨g, 0, none⟩ = some (.bool n) ∧ w.cell? ⟨g, 1, none⟩ = some (.string s) ∧ w.cell? ⟨g, 2, none⟩ = some (.int .i64 x)
theorem box_at (w : World) (n : Bool) (s : ByteArray) (x : Int) (t : TypeId) : NmAt (w.alloc (.cells #[.bool n, .string s, .int .i64 x] t)) w.heap.size n s x := by
  refine ⟨?_, ?_, ?_⟩ <;> (rw [World.cell?_alloc_mark]; rfl)
theorem NmAt.kept {w w' : World} {B g : Nat} {n : Bool} {s : ByteArray} {x : Int} (h : NmAt w g n s x) (hb : Below B w w') (hg : g < B) : NmAt w' g n s x := by
  obtain ⟨h0, h1, h2⟩ := h
  exact ⟨by rw [hb.cell (p := ⟨g, 0, none⟩) hg]; exact h0, by rw [hb.cell (p := ⟨g, 1, none⟩) hg]; exact h1, by rw [hb.cell (p := ⟨g, 2, none⟩) hg]; exact h2⟩
theorem alloc_lt (w : World) (o : Obj) : w.heap.size < (w.alloc o).heap.size := by simp
theorem alloc_below (w : World) (o : Obj) : Below w.heap.size w (w.alloc o) := (Below.refl _ _).alloc (Nat.le_refl _) o
theorem box_below {w w' : World} {o : Obj} (h : Below (w.alloc o).heap.size (w.alloc o) w') : Below w.heap.size w w' := (alloc_below w o).trans (h.mono (Nat.le_of_lt (alloc_lt w o)))
theorem box_drew {w w' : World} {o : Obj} (h : Below (w.alloc o).drew.heap.size (w.alloc o).drew w') : Below w.heap.size w w' := (alloc_below w o).drew.trans (h.mono (Nat.le_of_lt (alloc_lt w o)))
/-- A number as a block's whole. -/
def NRow (w : World) (g : Nat) (n : Bool) (s : ByteArray) (x : Int) : Prop := w.heap[g]? = some (.cells #[.bool n, .string s, .int .i64 x] 53 (0, 0))
theorem NRow.lt {w : World} {g : Nat} {n : Bool} {s : ByteArray} {x : Int} (h : NRow w g n s x) : g < w.heap.size := (Array.getElem?_eq_some_iff.1 h).1
theorem NRow.at {w : World} {g : Nat} {n : Bool} {s : ByteArray} {x : Int} (h : NRow w g n s x) : NmAt w g n s x := by
  refine ⟨?_, ?_, ?_⟩ <;> (rw [cell_row h]; rfl)
theorem NRow.fz {w : World} {g : Nat} {n : Bool} {s : ByteArray} {x : Int} (h : NRow w g n s x) (j : Nat) : w.frozen? ⟨g, j, none⟩ = false := by
  unfold NRow at h
  simp [World.frozen?, h]
theorem NRow.kept {w w' : World} {g : Nat} {n : Bool} {s : ByteArray} {x : Int} (h : NRow w g n s x) (hb : Below w.heap.size w w') : NRow w' g n s x := by
  unfold NRow
  rw [hb.block g h.lt]
  exact h
theorem row_new (w : World) (n : Bool) (s : ByteArray) (x : Int) : NRow (w.alloc (.cells #[.bool n, .string s, .int .i64 x] 53)) w.heap.size n s x := heap_alloc_new w _
theorem eq_size (s : ByteArray) : (s.toList == [48]) = decide (s = zS) := by
  rw [Bool.eq_iff_iff, beq_iff_eq, decide_eq_true_iff, ByteArray.toList_eq]
  constructor
  · intro h
    apply bs_inj
    unfold bs
    rw [h]
    rfl
  · intro h
    rw [h]
    rfl
theorem zero_any (w : World) : Calls Tryz.prog 149 #[] w fun e w' => e = .returned (.agg #[.bool false, .string ⟨#[48]⟩, .int .i64 0]) ∧ Below w.heap.size w w' := by
  go_enter Tryz.func149, Tryz.ntmps149
  go_wp2
  refine bodyPost_ret (v := .agg #[.bool false, .string ⟨#[48]⟩, .int .i64 0]) (by simp [results, Tryz.results149, go_sem]) rfl ⟨rfl, ?_⟩
  exact alloc_below _ _
theorem iszero_any (n : Bool) (s : ByteArray) (x : Int) (w : World) : Calls Tryz.prog 114 #[.agg #[.bool n, .string s, .int .i64 x]] w fun e w' => e = .returned (.bool (decide (n = false ∧ s = zS ∧ x = 0))) ∧ Below w.heap.size w w' := by
  have kZ := zero_any
  have hB := box_at w n s x 53
  cases n with
  | true =>
    have hR : decide (true = false ∧ s = zS ∧ x = 0) = false := by simp
    rw [hR]
    clear hR
    go_enter Tryz.func114, Tryz.ntmps114
    go_wp2
    go_region_held3 (fun w' => w'.cell? ⟨w.heap.size, 0, none⟩ = some (.bool true) ∧ w'.cell? ⟨w.heap.size, 1, none⟩ = some (.string s) ∧ w'.cell? ⟨w.heap.size, 2, none⟩ = some (.int .i64 x)) (first | exact hB | exact hB1) (first | (go_at_call 149; refine (kZ _).mono ?_; rintro e w1 ⟨rfl, hb⟩; have hB1 := NmAt.kept (w := (w.alloc _).drew) hB hb (alloc_lt _ _)))
    go_wp2
    go_ret
    exact ⟨rfl, box_drew hb⟩
  | false =>
    by_cases hs : s = zS
    · subst hs
      by_cases hx : x = 0
      · subst hx
        have hR : decide (false = false ∧ zS = zS ∧ (0 : Int) = 0) = true := by simp
        rw [hR]
        clear hR
        unfold zS at *
        go_enter Tryz.func114, Tryz.ntmps114
        go_wp2
        go_region_held3 (fun w' => w'.cell? ⟨w.heap.size, 0, none⟩ = some (.bool false) ∧ w'.cell? ⟨w.heap.size, 1, none⟩ = some (.string ⟨#[48]⟩) ∧ w'.cell? ⟨w.heap.size, 2, none⟩ = some (.int .i64 0)) (first | exact hB | exact hB1) (first | (go_at_call 149; refine (kZ _).mono ?_; rintro e w1 ⟨rfl, hb⟩; have hB1 := NmAt.kept (w := (w.alloc _).drew) hB hb (alloc_lt _ _)))
        go_wp2
        go_ret
        exact ⟨rfl, box_drew hb⟩
      · have hR : decide (false = false ∧ zS = zS ∧ x = 0) = false := by simp [hx]
        rw [hR]
        have d1 : (x == 0) = false := by simpa using hx
        clear hR hx
        unfold zS at *
        go_enter Tryz.func114, Tryz.ntmps114
        go_wp2
        go_region_held3 (fun w' => w'.cell? ⟨w.heap.size, 0, none⟩ = some (.bool false) ∧ w'.cell? ⟨w.heap.size, 1, none⟩ = some (.string ⟨#[48]⟩) ∧ w'.cell? ⟨w.heap.size, 2, none⟩ = some (.int .i64 x)) (first | exact hB | exact hB1) (first | (go_at_call 149; refine (kZ _).mono ?_; rintro e w1 ⟨rfl, hb⟩; have hB1 := NmAt.kept (w := (w.alloc _).drew) hB hb (alloc_lt _ _)))
        go_wp2
        go_ret
        exact ⟨rfl, box_drew hb⟩
    · have hR : decide (false = false ∧ s = zS ∧ x = 0) = false := by simp [hs]
      rw [hR]
      have d1 : (s.toList == [48]) = false := by rw [eq_size]; simpa using hs
      clear hR hs
      go_enter Tryz.func114, Tryz.ntmps114
      go_wp2
      go_region_held3 (fun w' => w'.cell? ⟨w.heap.size, 0, none⟩ = some (.bool false) ∧ w'.cell? ⟨w.heap.size, 1, none⟩ = some (.string s) ∧ w'.cell? ⟨w.heap.size, 2, none⟩ = some (.int .i64 x)) (first | exact hB | exact hB1) (first | (go_at_call 149; refine (kZ _).mono ?_; rintro e w1 ⟨rfl, hb⟩; have hB1 := NmAt.kept (w := (w.alloc _).drew) hB hb (alloc_lt _ _)))
      go_wp2
      go_ret
      exact ⟨rfl, box_drew hb⟩

theorem rtN_rest {n : Bool} {s : ByteArray} {x : Int} (hz : ¬ (n = false ∧ s = zS ∧ x = 0)) : rtN n s x = (rt s && (!((bs s).getD (s.size - 1) 0 == 48) && (decide (-2000 ≤ x) && decide (x ≤ 2000)))) := by
  unfold rtN
  by_cases h : bs s = [48]
  · have e := (z_iff s).1 h
    rw [if_pos h, h, e]
    have e1 : ((List.getD [48] (zS.size - 1) 0 : Int) == 48) = true := rfl
    rw [e1]
    have e2 : (!n && x == 0) = false := by
      cases n with
      | true => rfl
      | false =>
        have : x ≠ 0 := fun hx => hz ⟨rfl, e, hx⟩
        simpa using this
    rw [e2]
    simp
  · rw [if_neg h]
    rfl
set_option maxHeartbeats 1000000 in
theorem dright_any (n : Bool) (s : ByteArray) (x : Int) (w : World) : Calls Tryz.prog 79 #[.agg #[.bool n, .string s, .int .i64 x]] w fun e w' => e = .returned (.bool (rtN n s x)) ∧ Below w.heap.size w w' := by
  have hB := box_at w n s x 53
  have kI := iszero_any n s x
  by_cases hz : n = false ∧ s = zS ∧ x = 0
  · have hR : rtN n s x = true := by obtain ⟨rfl, rfl, rfl⟩ := hz; exact rtN_zero
    rw [hR]
    rw [decide_eq_true hz] at kI
    clear hz hR
    obtain ⟨b0, b1, b2⟩ := hB
    go_enter Tryz.func79, Tryz.ntmps79
    go_wp2_with (go_at_call 114; refine (kI _).mono ?_; rintro e w1 ⟨rfl, hb⟩)
    go_ret
    exact ⟨rfl, box_below hb⟩
  · have hR := rtN_rest hz
    rw [hR]
    rw [decide_eq_false hz] at kI
    clear hz hR
    have kR := right_any s
    cases h1 : rt s with
    | false =>
      rw [h1] at kR
      rw [Bool.false_and]
      obtain ⟨b0, b1, b2⟩ := id hB
      go_enter Tryz.func79, Tryz.ntmps79
      go_wp2_with (first
        | (go_at_call 114; refine (kI _).mono ?_; rintro e w1 ⟨rfl, hb⟩; obtain ⟨c0, c1, c2⟩ := hB.kept hb (alloc_lt _ _))
        | (go_at_call 108; refine (kR _).mono ?_; rintro e w2 ⟨rfl, hw⟩; obtain rfl : w1 = w2 := hw.symm))
      go_ret
      exact ⟨rfl, box_below hb⟩
    | true =>
      rw [h1] at kR
      rw [Bool.true_and]
      have hsz := rt_size h1
      have kH := fun w => hassuf_any s w hsz.1 (by omega)
      clear hsz h1
      obtain ⟨b0, b1, b2⟩ := id hB
      cases h2 : ((bs s).getD (s.size - 1) 0 == 48) with
      | true =>
        rw [h2] at kH
        go_enter Tryz.func79, Tryz.ntmps79
        go_wp2_with (first
          | (go_at_call 114; refine (kI _).mono ?_; rintro e w1 ⟨rfl, hb⟩; obtain ⟨c0, c1, c2⟩ := hB.kept hb (alloc_lt _ _))
          | (go_at_call 108; refine (kR _).mono ?_; rintro e w2 ⟨rfl, hw⟩; obtain rfl : w1 = w2 := hw.symm)
          | (go_at_call 115; refine (kH _).mono ?_; rintro e w2 ⟨rfl, hw⟩; obtain rfl : w1 = w2 := hw.symm))
        go_ret
        exact ⟨rfl, box_below hb⟩
      | false =>
        rw [h2] at kH
        by_cases h3 : -2000 ≤ x
        · by_cases h4 : x ≤ 2000
          · have hR : (!false && (decide (-2000 ≤ x) && decide (x ≤ 2000))) = true := by simp [h3, h4]
            rw [hR]
            have d3 : decide (-2000 ≤ x) = true := by simpa using h3
            have d4 : decide (x ≤ 2000) = true := by simpa using h4
            clear hR h3 h4
            go_enter Tryz.func79, Tryz.ntmps79
            go_wp2_with (first
              | (go_at_call 114; refine (kI _).mono ?_; rintro e w1 ⟨rfl, hb⟩; obtain ⟨c0, c1, c2⟩ := hB.kept hb (alloc_lt _ _))
              | (go_at_call 108; refine (kR _).mono ?_; rintro e w2 ⟨rfl, hw⟩; obtain rfl : w1 = w2 := hw.symm)
              | (go_at_call 115; refine (kH _).mono ?_; rintro e w2 ⟨rfl, hw⟩; obtain rfl : w1 = w2 := hw.symm))
            go_ret
            exact ⟨rfl, box_below hb⟩
          · have hR : (!false && (decide (-2000 ≤ x) && decide (x ≤ 2000))) = false := by simp [h4]
            rw [hR]
            have d3 : decide (-2000 ≤ x) = true := by simpa using h3
            have d4 : decide (x ≤ 2000) = false := by simpa using h4
            clear hR h3 h4
            go_enter Tryz.func79, Tryz.ntmps79
            go_wp2_with (first
              | (go_at_call 114; refine (kI _).mono ?_; rintro e w1 ⟨rfl, hb⟩; obtain ⟨c0, c1, c2⟩ := hB.kept hb (alloc_lt _ _))
              | (go_at_call 108; refine (kR _).mono ?_; rintro e w2 ⟨rfl, hw⟩; obtain rfl : w1 = w2 := hw.symm)
              | (go_at_call 115; refine (kH _).mono ?_; rintro e w2 ⟨rfl, hw⟩; obtain rfl : w1 = w2 := hw.symm))
            go_ret
            exact ⟨rfl, box_below hb⟩
        · have hR : (!false && (decide (-2000 ≤ x) && decide (x ≤ 2000))) = false := by simp [h3]
          rw [hR]
          have d3 : decide (-2000 ≤ x) = false := by simpa using h3
          clear hR h3
          go_enter Tryz.func79, Tryz.ntmps79
          go_wp2_with (first
            | (go_at_call 114; refine (kI _).mono ?_; rintro e w1 ⟨rfl, hb⟩; obtain ⟨c0, c1, c2⟩ := hB.kept hb (alloc_lt _ _))
            | (go_at_call 108; refine (kR _).mono ?_; rintro e w2 ⟨rfl, hw⟩; obtain rfl : w1 = w2 := hw.symm)
            | (go_at_call 115; refine (kH _).mono ?_; rintro e w2 ⟨rfl, hw⟩; obtain rfl : w1 = w2 := hw.symm))
          go_ret
          exact ⟨rfl, box_below hb⟩
end Go.Proofs.YtelabgonpmafpaaGreatDoor
