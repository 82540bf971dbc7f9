/-
  What should be zero of a node: tree.rest; and which numbers and counts a Kind may have: tree.mayBe.
  Which numbers are in their form: dec.Right.
  Bytes of a string, laid down and appended to: rows that bear a mark behind their end.
-/
import Derived.Test.YtnjbppfanmmifaaGreatDoorQ4
import Derived.Deep.RegionHeld3
import Derived.ArgAppend
import Derived.Lib.ConvBytes
namespace Go.Proofs.YtnjbppfanmmifaaGreatDoor
open Go.RowKit
set_option linter.unusedVariables false

theorem room_nil (k : Nat) : Room k none 0 0 := ⟨Nat.le_refl _, Nat.zero_le _, fun _ => rfl, by simp⟩
theorem rowN_nil (Q : Nb → Tr → Prop) (w : World) : RowN Q w none 0 0 [] := ⟨rfl, room_nil _, .inl rfl⟩
theorem bytes_nil (w : World) : Bytes w none [] := ⟨by simp, by simp, .inl rfl⟩
end Go.Proofs.YtnjbppfanmmifaaGreatDoor
namespace Go.Proofs.YtnjbppfanmmifaaGreatDoor
open Go.RowKit

/-- A number's three cells in memory. -/
def NmAt (w : World) (g : Nat) (n : Bool) (s : ByteArray) (x : Int) : Prop := w.cell? ⟨g, 0, none⟩ = some (.bool n) ∧ w.cell? ⟨g, 1, none⟩ = some (.string s) ∧ w.cell? ⟨g, 2, none⟩ = some (.int .i64 x)
theorem box_at (w : World) (n : Bool) (s : ByteArray) (x : Int) (t : TypeId) : NmAt (w.alloc (.cells #[.bool n, .string s, .int .i64 x] t)) w.heap.size n s x := by
  refine ⟨?_, ?_, ?_⟩ <;> (rw [World.cell?_alloc_mark]; rfl)
theorem NmAt.kept {w w' : World} {B g : Nat} {n : Bool} {s : ByteArray} {x : Int} (h : NmAt w g n s x) (hb : Below B w w') (hg : g < B) : NmAt w' g n s x := by
  obtain ⟨h0, h1, h2⟩ := h
  exact ⟨by rw [hb.cell (p := ⟨g, 0, none⟩) hg]; exact h0, by rw [hb.cell (p := ⟨g, 1, none⟩) hg]; exact h1, by rw [hb.cell (p := ⟨g, 2, none⟩) hg]; exact h2⟩
theorem box_drew {w w' : World} {o : Obj} (h : Below (w.alloc o).drew.heap.size (w.alloc o).drew w') : Below w.heap.size w w' := (alloc_below w o).drew.trans (h.mono (Nat.le_of_lt (alloc_lt w o)))
/-- A number as a block's whole. -/
def NRow (w : World) (g : Nat) (n : Bool) (s : ByteArray) (x : Int) : Prop := w.heap[g]? = some (.cells #[.bool n, .string s, .int .i64 x] 104 (0, 0))
theorem NRow.lt {w : World} {g : Nat} {n : Bool} {s : ByteArray} {x : Int} (h : NRow w g n s x) : g < w.heap.size := (Array.getElem?_eq_some_iff.1 h).1
theorem NRow.at {w : World} {g : Nat} {n : Bool} {s : ByteArray} {x : Int} (h : NRow w g n s x) : NmAt w g n s x := by
  refine ⟨?_, ?_, ?_⟩ <;> (rw [cell_row h]; rfl)
theorem NRow.fz {w : World} {g : Nat} {n : Bool} {s : ByteArray} {x : Int} (h : NRow w g n s x) (j : Nat) : w.frozen? ⟨g, j, none⟩ = false := by
  unfold NRow at h
  simp [World.frozen?, h]
theorem NRow.kept {w w' : World} {g : Nat} {n : Bool} {s : ByteArray} {x : Int} (h : NRow w g n s x) (hb : Below w.heap.size w w') : NRow w' g n s x := by
  unfold NRow
  rw [hb.block g h.lt]
  exact h
theorem row_new (w : World) (n : Bool) (s : ByteArray) (x : Int) : NRow (w.alloc (.cells #[.bool n, .string s, .int .i64 x] 104)) w.heap.size n s x := heap_alloc_new w _
theorem eq_size (s : ByteArray) : (s.toList == [48]) = decide (s = zS) := by
  rw [Bool.eq_iff_iff, beq_iff_eq, decide_eq_true_iff, ByteArray.toList_eq]
  constructor
  · intro h
    apply bs_inj
    unfold bs
    rw [h]
    rfl
  · intro h
    rw [h]
    rfl
theorem zero_any (w : World) : Calls Tryz.prog 201 #[] w fun e w' => e = .returned (.agg #[.bool false, .string ⟨#[48]⟩, .int .i64 0]) ∧ Below w.heap.size w w' := by
  go_enter Tryz.func201, Tryz.ntmps201
  go_wp2
  refine bodyPost_ret (v := .agg #[.bool false, .string ⟨#[48]⟩, .int .i64 0]) (by simp [results, Tryz.results201, go_sem]) rfl ⟨rfl, ?_⟩
  exact alloc_below _ _
theorem iszero_any (n : Bool) (s : ByteArray) (x : Int) (w : World) : Calls Tryz.prog 176 #[.agg #[.bool n, .string s, .int .i64 x]] w fun e w' => e = .returned (.bool (decide (n = false ∧ s = zS ∧ x = 0))) ∧ Below w.heap.size w w' := by
  have kZ := zero_any
  have hB := box_at w n s x 104
  cases n with
  | true =>
    have hR : decide (true = false ∧ s = zS ∧ x = 0) = false := by simp
    rw [hR]
    clear hR
    go_enter Tryz.func176, Tryz.ntmps176
    go_wp2
    go_region_held3 (fun w' => w'.cell? ⟨w.heap.size, 0, none⟩ = some (.bool true) ∧ w'.cell? ⟨w.heap.size, 1, none⟩ = some (.string s) ∧ w'.cell? ⟨w.heap.size, 2, none⟩ = some (.int .i64 x)) (first | exact hB | exact hB1) (first | (go_at_call 201; refine (kZ _).mono ?_; rintro e w1 ⟨rfl, hb⟩; have hB1 := NmAt.kept (w := (w.alloc _).drew) hB hb (alloc_lt _ _)))
    go_wp2
    go_ret
    exact ⟨rfl, box_drew hb⟩
  | false =>
    by_cases hs : s = zS
    · subst hs
      by_cases hx : x = 0
      · subst hx
        have hR : decide (false = false ∧ zS = zS ∧ (0 : Int) = 0) = true := by simp
        rw [hR]
        clear hR
        unfold zS at *
        go_enter Tryz.func176, Tryz.ntmps176
        go_wp2
        go_region_held3 (fun w' => w'.cell? ⟨w.heap.size, 0, none⟩ = some (.bool false) ∧ w'.cell? ⟨w.heap.size, 1, none⟩ = some (.string ⟨#[48]⟩) ∧ w'.cell? ⟨w.heap.size, 2, none⟩ = some (.int .i64 0)) (first | exact hB | exact hB1) (first | (go_at_call 201; refine (kZ _).mono ?_; rintro e w1 ⟨rfl, hb⟩; have hB1 := NmAt.kept (w := (w.alloc _).drew) hB hb (alloc_lt _ _)))
        go_wp2
        go_ret
        exact ⟨rfl, box_drew hb⟩
      · have hR : decide (false = false ∧ zS = zS ∧ x = 0) = false := by simp [hx]
        rw [hR]
        have d1 : (x == 0) = false := by simpa using hx
        clear hR hx
        unfold zS at *
        go_enter Tryz.func176, Tryz.ntmps176
        go_wp2
        go_region_held3 (fun w' => w'.cell? ⟨w.heap.size, 0, none⟩ = some (.bool false) ∧ w'.cell? ⟨w.heap.size, 1, none⟩ = some (.string ⟨#[48]⟩) ∧ w'.cell? ⟨w.heap.size, 2, none⟩ = some (.int .i64 x)) (first | exact hB | exact hB1) (first | (go_at_call 201; refine (kZ _).mono ?_; rintro e w1 ⟨rfl, hb⟩; have hB1 := NmAt.kept (w := (w.alloc _).drew) hB hb (alloc_lt _ _)))
        go_wp2
        go_ret
        exact ⟨rfl, box_drew hb⟩
    · have hR : decide (false = false ∧ s = zS ∧ x = 0) = false := by simp [hs]
      rw [hR]
      have d1 : (s.toList == [48]) = false := by rw [eq_size]; simpa using hs
      clear hR hs
      go_enter Tryz.func176, Tryz.ntmps176
      go_wp2
      go_region_held3 (fun w' => w'.cell? ⟨w.heap.size, 0, none⟩ = some (.bool false) ∧ w'.cell? ⟨w.heap.size, 1, none⟩ = some (.string s) ∧ w'.cell? ⟨w.heap.size, 2, none⟩ = some (.int .i64 x)) (first | exact hB | exact hB1) (first | (go_at_call 201; refine (kZ _).mono ?_; rintro e w1 ⟨rfl, hb⟩; have hB1 := NmAt.kept (w := (w.alloc _).drew) hB hb (alloc_lt _ _)))
      go_wp2
      go_ret
      exact ⟨rfl, box_drew hb⟩

theorem rtN_rest {n : Bool} {s : ByteArray} {x : Int} (hz : ¬ (n = false ∧ s = zS ∧ x = 0)) : rtN n s x = (rt s && (!((bs s).getD (s.size - 1) 0 == 48) && (decide (-2000 ≤ x) && decide (x ≤ 2000)))) := by
  unfold rtN
  by_cases h : bs s = [48]
  · have e := (z_iff s).1 h
    rw [if_pos h, h, e]
    have e1 : ((List.getD [48] (zS.size - 1) 0 : Int) == 48) = true := rfl
    rw [e1]
    have e2 : (!n && x == 0) = false := by
      cases n with
      | true => rfl
      | false =>
        have : x ≠ 0 := fun hx => hz ⟨rfl, e, hx⟩
        simpa using this
    rw [e2]
    simp
  · rw [if_neg h]
    rfl
set_option maxHeartbeats 1000000 in
theorem dright_any (n : Bool) (s : ByteArray) (x : Int) (w : World) : Calls Tryz.prog 144 #[.agg #[.bool n, .string s, .int .i64 x]] w fun e w' => e = .returned (.bool (rtN n s x)) ∧ Below w.heap.size w w' := by
  have hB := box_at w n s x 104
  have kI := iszero_any n s x
  by_cases hz : n = false ∧ s = zS ∧ x = 0
  · have hR : rtN n s x = true := by obtain ⟨rfl, rfl, rfl⟩ := hz; exact rtN_zero
    rw [hR]
    rw [decide_eq_true hz] at kI
    clear hz hR
    obtain ⟨b0, b1, b2⟩ := hB
    go_enter Tryz.func144, Tryz.ntmps144
    go_wp2_with (go_at_call 176; refine (kI _).mono ?_; rintro e w1 ⟨rfl, hb⟩)
    go_ret
    exact ⟨rfl, box_below hb⟩
  · have hR := rtN_rest hz
    rw [hR]
    rw [decide_eq_false hz] at kI
    clear hz hR
    have kR := right_any s
    cases h1 : rt s with
    | false =>
      rw [h1] at kR
      rw [Bool.false_and]
      obtain ⟨b0, b1, b2⟩ := id hB
      go_enter Tryz.func144, Tryz.ntmps144
      go_wp2_with (first
        | (go_at_call 176; refine (kI _).mono ?_; rintro e w1 ⟨rfl, hb⟩; obtain ⟨c0, c1, c2⟩ := hB.kept hb (alloc_lt _ _))
        | (go_at_call 142; refine (kR _).mono ?_; rintro e w2 ⟨rfl, hw⟩; obtain rfl : w1 = w2 := hw.symm))
      go_ret
      exact ⟨rfl, box_below hb⟩
    | true =>
      rw [h1] at kR
      rw [Bool.true_and]
      have hsz := rt_size h1
      have kH := fun w => hassuf_any s w hsz.1 (by omega)
      clear hsz h1
      obtain ⟨b0, b1, b2⟩ := id hB
      cases h2 : ((bs s).getD (s.size - 1) 0 == 48) with
      | true =>
        rw [h2] at kH
        go_enter Tryz.func144, Tryz.ntmps144
        go_wp2_with (first
          | (go_at_call 176; refine (kI _).mono ?_; rintro e w1 ⟨rfl, hb⟩; obtain ⟨c0, c1, c2⟩ := hB.kept hb (alloc_lt _ _))
          | (go_at_call 142; refine (kR _).mono ?_; rintro e w2 ⟨rfl, hw⟩; obtain rfl : w1 = w2 := hw.symm)
          | (go_at_call 177; refine (kH _).mono ?_; rintro e w2 ⟨rfl, hw⟩; obtain rfl : w1 = w2 := hw.symm))
        go_ret
        exact ⟨rfl, box_below hb⟩
      | false =>
        rw [h2] at kH
        by_cases h3 : -2000 ≤ x
        · by_cases h4 : x ≤ 2000
          · have hR : (!false && (decide (-2000 ≤ x) && decide (x ≤ 2000))) = true := by simp [h3, h4]
            rw [hR]
            have d3 : decide (-2000 ≤ x) = true := by simpa using h3
            have d4 : decide (x ≤ 2000) = true := by simpa using h4
            clear hR h3 h4
            go_enter Tryz.func144, Tryz.ntmps144
            go_wp2_with (first
              | (go_at_call 176; refine (kI _).mono ?_; rintro e w1 ⟨rfl, hb⟩; obtain ⟨c0, c1, c2⟩ := hB.kept hb (alloc_lt _ _))
              | (go_at_call 142; refine (kR _).mono ?_; rintro e w2 ⟨rfl, hw⟩; obtain rfl : w1 = w2 := hw.symm)
              | (go_at_call 177; refine (kH _).mono ?_; rintro e w2 ⟨rfl, hw⟩; obtain rfl : w1 = w2 := hw.symm))
            go_ret
            exact ⟨rfl, box_below hb⟩
          · have hR : (!false && (decide (-2000 ≤ x) && decide (x ≤ 2000))) = false := by simp [h4]
            rw [hR]
            have d3 : decide (-2000 ≤ x) = true := by simpa using h3
            have d4 : decide (x ≤ 2000) = false := by simpa using h4
            clear hR h3 h4
            go_enter Tryz.func144, Tryz.ntmps144
            go_wp2_with (first
              | (go_at_call 176; refine (kI _).mono ?_; rintro e w1 ⟨rfl, hb⟩; obtain ⟨c0, c1, c2⟩ := hB.kept hb (alloc_lt _ _))
              | (go_at_call 142; refine (kR _).mono ?_; rintro e w2 ⟨rfl, hw⟩; obtain rfl : w1 = w2 := hw.symm)
              | (go_at_call 177; refine (kH _).mono ?_; rintro e w2 ⟨rfl, hw⟩; obtain rfl : w1 = w2 := hw.symm))
            go_ret
            exact ⟨rfl, box_below hb⟩
        · have hR : (!false && (decide (-2000 ≤ x) && decide (x ≤ 2000))) = false := by simp [h3]
          rw [hR]
          have d3 : decide (-2000 ≤ x) = false := by simpa using h3
          clear hR h3
          go_enter Tryz.func144, Tryz.ntmps144
          go_wp2_with (first
            | (go_at_call 176; refine (kI _).mono ?_; rintro e w1 ⟨rfl, hb⟩; obtain ⟨c0, c1, c2⟩ := hB.kept hb (alloc_lt _ _))
            | (go_at_call 142; refine (kR _).mono ?_; rintro e w2 ⟨rfl, hw⟩; obtain rfl : w1 = w2 := hw.symm)
            | (go_at_call 177; refine (kH _).mono ?_; rintro e w2 ⟨rfl, hw⟩; obtain rfl : w1 = w2 := hw.symm))
          go_ret
          exact ⟨rfl, box_below hb⟩
end Go.Proofs.YtnjbppfanmmifaaGreatDoor
namespace Go.Proofs.YtnjbppfanmmifaaGreatDoor
open Go.RowKit

/-- Bytes in a row of the call's own, whose cells may all be written. -/
def OwnsM (w : World) (base : Nat) (v : Value) (zs : List Int) : Prop := (∀ c ∈ zs, 0 ≤ c ∧ c < 256) ∧ ∃ g cap, v = .slice (some ⟨g, 0, none⟩) zs.length cap ∧ base ≤ g ∧ g < w.heap.size ∧ zs.length ≤ cap ∧ cap ≤ maxLen ∧
  (∀ j, j < cap → (w.cell? ⟨g, j, none⟩).isSome = true ∧ w.frozen? ⟨g, j, none⟩ = false) ∧ ∀ j, j < zs.length → w.cell? ⟨g, j, none⟩ = some (.int .u8 (zs.getD j 0))
theorem OwnsM.below {w w' : World} {base : Nat} {v : Value} {zs : List Int} (h : OwnsM w base v zs) (hb : Below w.heap.size w w') : OwnsM w' base v zs := by
  obtain ⟨h0, g, cap, rfl, h1, h2, h3, h4, h5, h6⟩ := h
  have hc : ∀ j, w'.cell? ⟨g, j, none⟩ = w.cell? ⟨g, j, none⟩ := fun j => hb.cell (p := ⟨g, j, none⟩) h2
  have hf : ∀ j, w'.frozen? ⟨g, j, none⟩ = w.frozen? ⟨g, j, none⟩ := fun j => by
    unfold World.frozen?
    show (match w'.heap[g]? with | _ => _) = _
    rw [hb.block g h2]
  exact ⟨h0, g, cap, rfl, h1, Nat.lt_of_lt_of_le h2 hb.size, h3, h4, fun j hj => ⟨by rw [hc]; exact (h5 j hj).1, by rw [hf]; exact (h5 j hj).2⟩, fun j hj => by rw [hc]; exact h6 j hj⟩
theorem OwnsM.form {w : World} {base : Nat} {v : Value} {zs : List Int} (h : OwnsM w base v zs) : ∃ g n cap, v = .slice (some ⟨g, 0, none⟩) n cap ∧ Hid (zs.length = n) ∧ n ≤ cap ∧ cap ≤ 9223372036854775807 ∧ Hid (Bytes w (some ⟨g, 0, none⟩) zs) := by
  obtain ⟨h0, g, cap, rfl, h1, h2, h3, h4, h5, h6⟩ := h
  refine ⟨g, zs.length, cap, rfl, rfl, h3, by simpa [maxLen] using h4, ?_⟩
  exact ⟨h0, by omega, .inr ⟨g, 0, rfl, fun i hi => by rw [Nat.zero_add]; exact h6 i hi⟩⟩
theorem getD_cat {ys : List Int} {c : Int} {j : Nat} (h : j < ys.length + 1) : (ys ++ [c]).getD j 0 = if j < ys.length then ys.getD j 0 else c := by
  by_cases hj : j < ys.length
  · rw [if_pos hj, List.getD_eq_getElem?_getD, List.getElem?_append_left hj, ← List.getD_eq_getElem?_getD]
  · have e : j = ys.length := by omega
    subst e
    rw [if_neg hj, List.getD_eq_getElem?_getD, List.getElem?_append_right (Nat.le_refl _)]
    simp
theorem own_m {w : World} {base : Nat} {v : Value} {zs : List Int} (h : w.ownsRow base 5 1 v zs.length (zs.map (Value.int .u8))) (hz : ∀ c ∈ zs, 0 ≤ c ∧ c < 256) (h0 : 0 < zs.length) : OwnsM w base v zs := by
  obtain ⟨hl, hv⟩ := h
  rcases hv with ⟨rfl, hn⟩ | ⟨g, cap, cur, rfl, hb, hg, hnc, hcm, hcs, htk⟩
  · omega
  · refine ⟨hz, g, cap, rfl, hb, (Array.getElem?_eq_some_iff.1 hg).1, hnc, hcm, fun j hj => ⟨?_, ?_⟩, fun j hj => ?_⟩
    · rw [cell_row hg, Array.getElem?_eq_getElem (by omega)]; rfl
    · simp [World.frozen?, hg]
    · rw [cell_row hg, ← Array.getElem?_toList]
      have h1 : (cur.toList.take (zs.length * 1))[j]? = (zs.map (Value.int .u8))[j]? := by rw [htk]
      rw [List.getElem?_take, if_pos (by omega), List.getElem?_map] at h1
      rw [h1, List.getD_eq_getElem?_getD, List.getElem?_eq_getElem hj]; rfl
/-- One byte behind. -/
theorem wpList_append_m {w : World} {ops : Array Oper} {rest : List Oper} {o : Oper} {a : Act} {Q : Exit → Act → World → Prop} (hgd : o.guard = none) (s x : Operand)
    (ho : o.op = .call { callee := .builtin .append, args := #[s, x], argTypes := #[22, 22] })
    (base : Nat) (v : Value) (ys : List Int) (c : Int) (hc : 0 ≤ c ∧ c < 256) (hs : a.eval s = v) (hown : OwnsM w base v ys)
    (ad : Addr) (hx : a.eval x = .slice (some ad) 1 1) (hcell : w.cell? (ad.add 0) = some (.int .u8 c)) (hlen : ys.length + 1 ≤ 10000000) (hbase : base ≤ w.heap.size)
    (h : ∀ v' w', OwnsM w' base v' (ys ++ [c]) → Below base w w' → wpList Tryz.prog ops Q rest (a.put o.dst v') w') : wpList Tryz.prog ops Q (o :: rest) a w := by
  obtain ⟨i, hi, hz, hsz, hby⟩ := info_parts info5
  obtain ⟨h0, g, cap, rfl, h1, h2, h3, h4, h5, h6⟩ := hown
  have hzc : ∀ d ∈ ys ++ [c], 0 ≤ d ∧ d < 256 := fun d hd => by
    rcases List.mem_append.1 hd with h' | h'
    · exact h0 d h'
    · simp at h'; rw [h']; exact hc
  refine wpList_append_arg w hgd s x 22 ho 5 i (.int .u8 0) 1 1 Tryz.underlying22 hi hz hsz hby rfl (by decide) g 0 ys.length cap (ys.map (Value.int .u8)) hs (by simp) (fun j u hu => ?_) ad 1 1 [.int .u8 c] hx rfl (fun j u hu => ?_) (fun u hu => by simp at hu; rw [hu]; rfl) (fun hr j hj => ?_) (by unfold maxLen; omega) (by omega) (fun hr => ?_) (fun hg v' w' ho' hgr => ?_)
  · have hj : j < ys.length := by
      have := (List.getElem?_eq_some_iff.1 hu).1
      simpa using this
    rw [List.getElem?_map, List.getElem?_eq_getElem hj] at hu
    simp only [Option.map_some, Option.some.injEq] at hu
    rw [Nat.zero_add, h6 j hj, ← hu, List.getD_eq_getElem?_getD, List.getElem?_eq_getElem hj]; rfl
  · match j, hu with
    | 0, hu => simp at hu; rw [← hu]; exact hcell
  · have e : 0 + ys.length * 1 + j = ys.length := by simp at hj; omega
    rw [e]
    exact h5 _ (by omega)
  · have e : 0 + ys.length * 1 = ys.length := by omega
    rw [e]
    have hsome := (h5 ys.length (by omega)).1
    have hin : (w.setCells g ys.length [.int .u8 c]).cell? ⟨g, ys.length, none⟩ = some (.int .u8 c) := by
      show (w.setCell ⟨g, ys.length, none⟩ (.int .u8 c)).cell? _ = _
      exact World.cell?_setCell_same' w _ _ hsome
    have hout : ∀ j, j ≠ ys.length → (w.setCells g ys.length [.int .u8 c]).cell? ⟨g, j, none⟩ = w.cell? ⟨g, j, none⟩ := fun j hj => by
      refine World.cell?_setCells_out g _ _ _ _ (fun _ _ => ?_)
      show j < ys.length ∨ ys.length + 1 ≤ j
      omega
    refine h _ _ ⟨hzc, g, cap, by rw [List.length_append]; rfl, h1, ?_, by rw [List.length_append]; exact hr, h4, fun j hj => ⟨?_, ?_⟩, fun j hj => ?_⟩ ?_
    · show g < (w.setCell ⟨g, ys.length, none⟩ (.int .u8 c)).heap.size
      simpa [World.setCell] using h2
    · by_cases e' : j = ys.length
      · rw [e', hin]; rfl
      · rw [hout j e']; exact (h5 j hj).1
    · rw [World.frozen?_setCells]; exact (h5 j hj).2
    · rw [List.length_append] at hj
      have hj' : j < ys.length + 1 := hj
      rw [getD_cat hj']
      by_cases e' : j < ys.length
      · rw [if_pos e', hout j (by omega)]; exact h6 j e'
      · have e2 : j = ys.length := by omega
        rw [if_neg e', e2, hin]
    · show Below base w (w.setCell ⟨g, ys.length, none⟩ (.int .u8 c))
      exact (Below.refl base w).setCell (p := ⟨g, ys.length, none⟩) h1 _
  · refine h v' w' (own_m (zs := ys ++ [c]) ?_ hzc (by simp)) ((Below.refl base w).grown hgr hbase (fun k hk => by cases hk))
    have hw : w'.ownsRow w.heap.size 5 1 v' (ys ++ [c]).length ((ys ++ [c]).map (Value.int .u8)) := by
      rw [List.length_append, List.map_append]; exact ho'
    obtain ⟨hl', hv'⟩ := hw
    refine ⟨hl', ?_⟩
    rcases hv' with h' | ⟨g', cap', cur', e1, e2, e3⟩
    · exact .inl h'
    · exact .inr ⟨g', cap', cur', e1, Nat.le_trans hbase e2, e3⟩
/-- A string's bytes as they are laid down. -/
theorem own_conv (w : World) (s : ByteArray) (hs : s.size ≤ 10000000) : OwnsM (Lib.bytesWorld w 5 s) w.heap.size (.slice (some ⟨w.heap.size, 0, none⟩) s.size (grownCap w s.size 0 5)) (bs s) := by
  have hsz : (Lib.bytesCells w 5 s).size = grownCap w s.size 0 5 := by
    unfold Lib.bytesCells
    have := grownCap_ge w s.size 0 5
    simp
    show s.size + _ = _
    omega
  have hnew := Lib.bytesWorld_at_new w 5 s
  refine ⟨bs_bytes s, w.heap.size, _, by rw [bs_len], Nat.le_refl _, by rw [Lib.bytesWorld_size]; omega, by rw [bs_len]; exact grownCap_ge w _ _ _, grownCap_le_maxLen w _ _ _ (by unfold maxLen; omega), fun j hj => ⟨?_, ?_⟩, fun j hj => ?_⟩
  · have hj2 : j < (Lib.bytesCells w 5 s).size := by rw [hsz]; exact hj
    simp [World.cell?, hnew, hj2]
  · unfold World.frozen?
    show (match (Lib.bytesWorld w 5 s).heap[w.heap.size]? with | _ => _) = _
    rw [hnew]
    have hj2 : j < (Lib.bytesCells w 5 s).size := by rw [hsz]; exact hj
    generalize Lib.bytesCells w 5 s = C at *
    simp
    omega
  · rw [bs_len] at hj
    rw [Lib.bytesWorld_cell w 5 s j hj, bs_at s hj]
    congr 3
    rw [List.getD_eq_getElem?_getD, Array.getElem?_toList, Array.getElem?_eq_getElem (by exact hj)]
    rfl
end Go.Proofs.YtnjbppfanmmifaaGreatDoor
