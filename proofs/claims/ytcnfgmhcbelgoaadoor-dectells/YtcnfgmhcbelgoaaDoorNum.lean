/-
  Which numbers are in their form: dec.Right.
-/
import Derived.Test.YtcnfgmhcbelgoaaDoorLib
import Derived.Deep.RegionHeld3
namespace Go.Proofs.YtcnfgmhcbelgoaaDoor
open Go.RowKit

/-- A number's three cells in memory. -/
def NmAt (w : World) (g : Nat) (n : Bool) (s : ByteArray) (x : Int) : Prop := w.cell? ⟨g, 0, none⟩ = some (.bool n) ∧ w.cell? ⟨g, 1, none⟩ = some (.string s) ∧ w.cell? ⟨g, 2, none⟩ = some (.int .i64 x)
theorem box_at (w : World) (n : Bool) (s : ByteArray) (x : Int) (t : TypeId) : NmAt (w.alloc (.cells #[.bool n, .string s, .int .i64 x] t)) w.heap.size n s x := by
  refine ⟨?_, ?_, ?_⟩ <;> (rw [World.cell?_alloc_mark]; rfl)
theorem NmAt.kept {w w' : World} {B g : Nat} {n : Bool} {s : ByteArray} {x : Int} (h : NmAt w g n s x) (hb : Below B w w') (hg : g < B) : NmAt w' g n s x := by
  obtain ⟨h0, h1, h2⟩ := h
  exact ⟨by rw [hb.cell (p := ⟨g, 0, none⟩) hg]; exact h0, by rw [hb.cell (p := ⟨g, 1, none⟩) hg]; exact h1, by rw [hb.cell (p := ⟨g, 2, none⟩) hg]; exact h2⟩
theorem alloc_lt (w : World) (o : Obj) : w.heap.size < (w.alloc o).heap.size := by simp
theorem alloc_below (w : World) (o : Obj) : Below w.heap.size w (w.alloc o) := (Below.refl _ _).alloc (Nat.le_refl _) o
theorem box_below {w w' : World} {o : Obj} (h : Below (w.alloc o).heap.size (w.alloc o) w') : Below w.heap.size w w' := (alloc_below w o).trans (h.mono (Nat.le_of_lt (alloc_lt w o)))
theorem box_drew {w w' : World} {o : Obj} (h : Below (w.alloc o).drew.heap.size (w.alloc o).drew w') : Below w.heap.size w w' := (alloc_below w o).drew.trans (h.mono (Nat.le_of_lt (alloc_lt w o)))
/-- A number as a block's whole. -/
def NRow (w : World) (g : Nat) (n : Bool) (s : ByteArray) (x : Int) : Prop := w.heap[g]? = some (.cells #[.bool n, .string s, .int .i64 x] 23 (0, 0))
theorem NRow.lt {w : World} {g : Nat} {n : Bool} {s : ByteArray} {x : Int} (h : NRow w g n s x) : g < w.heap.size := (Array.getElem?_eq_some_iff.1 h).1
theorem NRow.at {w : World} {g : Nat} {n : Bool} {s : ByteArray} {x : Int} (h : NRow w g n s x) : NmAt w g n s x := by
  refine ⟨?_, ?_, ?_⟩ <;> (rw [cell_row h]; rfl)
theorem NRow.fz {w : World} {g : Nat} {n : Bool} {s : ByteArray} {x : Int} (h : NRow w g n s x) (j : Nat) : w.frozen? ⟨g, j, none⟩ = false := by
  unfold NRow at h
  simp [World.frozen?, h]
theorem NRow.kept {w w' : World} {g : Nat} {n : Bool} {s : ByteArray} {x : Int} (h : NRow w g n s x) (hb : Below w.heap.size w w') : NRow w' g n s x := by
  unfold NRow
  rw [hb.block g h.lt]
  exact h
theorem row_new (w : World) (n : Bool) (s : ByteArray) (x : Int) : NRow (w.alloc (.cells #[.bool n, .string s, .int .i64 x] 23)) w.heap.size n s x := heap_alloc_new w _
theorem eq_size (s : ByteArray) : (s.toList == [48]) = decide (s = zS) := by
  rw [Bool.eq_iff_iff, beq_iff_eq, decide_eq_true_iff, ByteArray.toList_eq]
  constructor
  · intro h
    apply bs_inj
    unfold bs
    rw [h]
    rfl
  · intro h
    rw [h]
    rfl
theorem zero_any (w : World) : Calls Tryd.prog 24 #[] w fun e w' => e = .returned (.agg #[.bool false, .string ⟨#[48]⟩, .int .i64 0]) ∧ Below w.heap.size w w' := by
  go_enter Tryd.func24, Tryd.ntmps24
  go_wp2
  refine bodyPost_ret (v := .agg #[.bool false, .string ⟨#[48]⟩, .int .i64 0]) (by simp [results, Tryd.results24, go_sem]) rfl ⟨rfl, ?_⟩
  exact alloc_below _ _
theorem iszero_any (n : Bool) (s : ByteArray) (x : Int) (w : World) : Calls Tryd.prog 39 #[.agg #[.bool n, .string s, .int .i64 x]] w fun e w' => e = .returned (.bool (decide (n = false ∧ s = zS ∧ x = 0))) ∧ Below w.heap.size w w' := by
  have kZ := zero_any
  have hB := box_at w n s x 23
  cases n with
  | true =>
    have hR : decide (true = false ∧ s = zS ∧ x = 0) = false := by simp
    rw [hR]
    clear hR
    go_enter Tryd.func39, Tryd.ntmps39
    go_wp2
    go_region_held3 (fun w' => w'.cell? ⟨w.heap.size, 0, none⟩ = some (.bool true) ∧ w'.cell? ⟨w.heap.size, 1, none⟩ = some (.string s) ∧ w'.cell? ⟨w.heap.size, 2, none⟩ = some (.int .i64 x)) (first | exact hB | exact hB1) (first | (go_at_call 24; refine (kZ _).mono ?_; rintro e w1 ⟨rfl, hb⟩; have hB1 := NmAt.kept (w := (w.alloc _).drew) hB hb (alloc_lt _ _)))
    go_wp2
    go_ret
    exact ⟨rfl, box_drew hb⟩
  | false =>
    by_cases hs : s = zS
    · subst hs
      by_cases hx : x = 0
      · subst hx
        have hR : decide (false = false ∧ zS = zS ∧ (0 : Int) = 0) = true := by simp
        rw [hR]
        clear hR
        unfold zS at *
        go_enter Tryd.func39, Tryd.ntmps39
        go_wp2
        go_region_held3 (fun w' => w'.cell? ⟨w.heap.size, 0, none⟩ = some (.bool false) ∧ w'.cell? ⟨w.heap.size, 1, none⟩ = some (.string ⟨#[48]⟩) ∧ w'.cell? ⟨w.heap.size, 2, none⟩ = some (.int .i64 0)) (first | exact hB | exact hB1) (first | (go_at_call 24; refine (kZ _).mono ?_; rintro e w1 ⟨rfl, hb⟩; have hB1 := NmAt.kept (w := (w.alloc _).drew) hB hb (alloc_lt _ _)))
        go_wp2
        go_ret
        exact ⟨rfl, box_drew hb⟩
      · have hR : decide (false = false ∧ zS = zS ∧ x = 0) = false := by simp [hx]
        rw [hR]
        have d1 : (x == 0) = false := by simpa using hx
        clear hR hx
        unfold zS at *
        go_enter Tryd.func39, Tryd.ntmps39
        go_wp2
        go_region_held3 (fun w' => w'.cell? ⟨w.heap.size, 0, none⟩ = some (.bool false) ∧ w'.cell? ⟨w.heap.size, 1, none⟩ = some (.string ⟨#[48]⟩) ∧ w'.cell? ⟨w.heap.size, 2, none⟩ = some (.int .i64 x)) (first | exact hB | exact hB1) (first | (go_at_call 24; refine (kZ _).mono ?_; rintro e w1 ⟨rfl, hb⟩; have hB1 := NmAt.kept (w := (w.alloc _).drew) hB hb (alloc_lt _ _)))
        go_wp2
        go_ret
        exact ⟨rfl, box_drew hb⟩
    · have hR : decide (false = false ∧ s = zS ∧ x = 0) = false := by simp [hs]
      rw [hR]
      have d1 : (s.toList == [48]) = false := by rw [eq_size]; simpa using hs
      clear hR hs
      go_enter Tryd.func39, Tryd.ntmps39
      go_wp2
      go_region_held3 (fun w' => w'.cell? ⟨w.heap.size, 0, none⟩ = some (.bool false) ∧ w'.cell? ⟨w.heap.size, 1, none⟩ = some (.string s) ∧ w'.cell? ⟨w.heap.size, 2, none⟩ = some (.int .i64 x)) (first | exact hB | exact hB1) (first | (go_at_call 24; refine (kZ _).mono ?_; rintro e w1 ⟨rfl, hb⟩; have hB1 := NmAt.kept (w := (w.alloc _).drew) hB hb (alloc_lt _ _)))
      go_wp2
      go_ret
      exact ⟨rfl, box_drew hb⟩

theorem rtN_rest {n : Bool} {s : ByteArray} {x : Int} (hz : ¬ (n = false ∧ s = zS ∧ x = 0)) : rtN n s x = (rt s && (!((bs s).getD (s.size - 1) 0 == 48) && (decide (-2000 ≤ x) && decide (x ≤ 2000)))) := by
  unfold rtN
  by_cases h : bs s = [48]
  · have e := (z_iff s).1 h
    rw [if_pos h, h, e]
    have e1 : ((List.getD [48] (zS.size - 1) 0 : Int) == 48) = true := rfl
    rw [e1]
    have e2 : (!n && x == 0) = false := by
      cases n with
      | true => rfl
      | false =>
        have : x ≠ 0 := fun hx => hz ⟨rfl, e, hx⟩
        simpa using this
    rw [e2]
    simp
  · rw [if_neg h]
    rfl
set_option maxHeartbeats 1000000 in
theorem dright_any (n : Bool) (s : ByteArray) (x : Int) (w : World) : Calls Tryd.prog 16 #[.agg #[.bool n, .string s, .int .i64 x]] w fun e w' => e = .returned (.bool (rtN n s x)) ∧ Below w.heap.size w w' := by
  have hB := box_at w n s x 23
  have kI := iszero_any n s x
  by_cases hz : n = false ∧ s = zS ∧ x = 0
  · have hR : rtN n s x = true := by obtain ⟨rfl, rfl, rfl⟩ := hz; exact rtN_zero
    rw [hR]
    rw [decide_eq_true hz] at kI
    clear hz hR
    obtain ⟨b0, b1, b2⟩ := hB
    go_enter Tryd.func16, Tryd.ntmps16
    go_wp2_with (go_at_call 39; refine (kI _).mono ?_; rintro e w1 ⟨rfl, hb⟩)
    go_ret
    exact ⟨rfl, box_below hb⟩
  · have hR := rtN_rest hz
    rw [hR]
    rw [decide_eq_false hz] at kI
    clear hz hR
    have kR := right_any s
    cases h1 : rt s with
    | false =>
      rw [h1] at kR
      rw [Bool.false_and]
      obtain ⟨b0, b1, b2⟩ := id hB
      go_enter Tryd.func16, Tryd.ntmps16
      go_wp2_with (first
        | (go_at_call 39; refine (kI _).mono ?_; rintro e w1 ⟨rfl, hb⟩; obtain ⟨c0, c1, c2⟩ := hB.kept hb (alloc_lt _ _))
        | (go_at_call 38; refine (kR _).mono ?_; rintro e w2 ⟨rfl, hw⟩; obtain rfl : w1 = w2 := hw.symm))
      go_ret
      exact ⟨rfl, box_below hb⟩
    | true =>
      rw [h1] at kR
      rw [Bool.true_and]
      have hsz := rt_size h1
      have kH := fun w => hassuf_any s w hsz.1 (by omega)
      clear hsz h1
      obtain ⟨b0, b1, b2⟩ := id hB
      cases h2 : ((bs s).getD (s.size - 1) 0 == 48) with
      | true =>
        rw [h2] at kH
        go_enter Tryd.func16, Tryd.ntmps16
        go_wp2_with (first
          | (go_at_call 39; refine (kI _).mono ?_; rintro e w1 ⟨rfl, hb⟩; obtain ⟨c0, c1, c2⟩ := hB.kept hb (alloc_lt _ _))
          | (go_at_call 38; refine (kR _).mono ?_; rintro e w2 ⟨rfl, hw⟩; obtain rfl : w1 = w2 := hw.symm)
          | (go_at_call 40; refine (kH _).mono ?_; rintro e w2 ⟨rfl, hw⟩; obtain rfl : w1 = w2 := hw.symm))
        go_ret
        exact ⟨rfl, box_below hb⟩
      | false =>
        rw [h2] at kH
        by_cases h3 : -2000 ≤ x
        · by_cases h4 : x ≤ 2000
          · have hR : (!false && (decide (-2000 ≤ x) && decide (x ≤ 2000))) = true := by simp [h3, h4]
            rw [hR]
            have d3 : decide (-2000 ≤ x) = true := by simpa using h3
            have d4 : decide (x ≤ 2000) = true := by simpa using h4
            clear hR h3 h4
            go_enter Tryd.func16, Tryd.ntmps16
            go_wp2_with (first
              | (go_at_call 39; refine (kI _).mono ?_; rintro e w1 ⟨rfl, hb⟩; obtain ⟨c0, c1, c2⟩ := hB.kept hb (alloc_lt _ _))
              | (go_at_call 38; refine (kR _).mono ?_; rintro e w2 ⟨rfl, hw⟩; obtain rfl : w1 = w2 := hw.symm)
              | (go_at_call 40; refine (kH _).mono ?_; rintro e w2 ⟨rfl, hw⟩; obtain rfl : w1 = w2 := hw.symm))
            go_ret
            exact ⟨rfl, box_below hb⟩
          · have hR : (!false && (decide (-2000 ≤ x) && decide (x ≤ 2000))) = false := by simp [h4]
            rw [hR]
            have d3 : decide (-2000 ≤ x) = true := by simpa using h3
            have d4 : decide (x ≤ 2000) = false := by simpa using h4
            clear hR h3 h4
            go_enter Tryd.func16, Tryd.ntmps16
            go_wp2_with (first
              | (go_at_call 39; refine (kI _).mono ?_; rintro e w1 ⟨rfl, hb⟩; obtain ⟨c0, c1, c2⟩ := hB.kept hb (alloc_lt _ _))
              | (go_at_call 38; refine (kR _).mono ?_; rintro e w2 ⟨rfl, hw⟩; obtain rfl : w1 = w2 := hw.symm)
              | (go_at_call 40; refine (kH _).mono ?_; rintro e w2 ⟨rfl, hw⟩; obtain rfl : w1 = w2 := hw.symm))
            go_ret
            exact ⟨rfl, box_below hb⟩
        · have hR : (!false && (decide (-2000 ≤ x) && decide (x ≤ 2000))) = false := by simp [h3]
          rw [hR]
          have d3 : decide (-2000 ≤ x) = false := by simpa using h3
          clear hR h3
          go_enter Tryd.func16, Tryd.ntmps16
          go_wp2_with (first
            | (go_at_call 39; refine (kI _).mono ?_; rintro e w1 ⟨rfl, hb⟩; obtain ⟨c0, c1, c2⟩ := hB.kept hb (alloc_lt _ _))
            | (go_at_call 38; refine (kR _).mono ?_; rintro e w2 ⟨rfl, hw⟩; obtain rfl : w1 = w2 := hw.symm)
            | (go_at_call 40; refine (kH _).mono ?_; rintro e w2 ⟨rfl, hw⟩; obtain rfl : w1 = w2 := hw.symm))
          go_ret
          exact ⟨rfl, box_below hb⟩
end Go.Proofs.YtcnfgmhcbelgoaaDoor
