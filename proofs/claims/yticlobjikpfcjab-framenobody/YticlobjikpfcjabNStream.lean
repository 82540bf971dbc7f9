/-
  A stream in memory: made, asked how many bytes wait and were lost, and fed.
-/
import Derived.Test.YticlobjikpfcjabNScan
import Derived.Test.YticlobjikpfcjabNFBytes
namespace Go.Proofs.Yticlobjikpfcjab
open Go.RowKit

/-- A STREAM IN BLOCK g: the bytes that wait are the slice v, and so many were lost. -/
def StAt (w : World) (g : Nat) (v : Value) (lost : Nat) : Prop := w.heap[g]? = some (.cells #[.bool true, v, .int .i64 lost] 31 (0, 0))

theorem StAt.lt {w : World} {g : Nat} {v : Value} {lost : Nat} (h : StAt w g v lost) : g < w.heap.size := (Array.getElem?_eq_some_iff.1 h).1
theorem StAt.c0 {w : World} {g : Nat} {v : Value} {lost : Nat} (h : StAt w g v lost) : w.cell? ⟨g, 0, none⟩ = some (.bool true) := by rw [cell_row h]; rfl
theorem StAt.c1 {w : World} {g : Nat} {v : Value} {lost : Nat} (h : StAt w g v lost) : w.cell? ⟨g, 1, none⟩ = some v := by rw [cell_row h]; rfl
theorem StAt.c2 {w : World} {g : Nat} {v : Value} {lost : Nat} (h : StAt w g v lost) : w.cell? ⟨g, 2, none⟩ = some (.int .i64 lost) := by rw [cell_row h]; rfl
theorem StAt.fz {w : World} {g : Nat} {v : Value} {lost : Nat} (h : StAt w g v lost) (j : Nat) : w.frozen? ⟨g, j, none⟩ = false := by
  unfold StAt at h
  simp [World.frozen?, h]
theorem StAt.kept {w w' : World} {g : Nat} {v : Value} {lost : Nat} (h : StAt w g v lost) (hb : Below w.heap.size w w') : StAt w' g v lost := by
  unfold StAt
  rw [hb.block g h.lt]
  exact h
theorem StAt.other {w w' : World} {g r : Nat} {v : Value} {lost : Nat} (h : StAt w g v lost) (hg : w.grownBy w' (some r)) (hr : r ≠ g) : StAt w' g v lost := by
  unfold StAt
  rw [hg.block g h.lt (fun e => hr (Option.some.inj e).symm)]
  exact h
theorem StAt.loses {w : World} {g : Nat} {v : Value} {lost : Nat} (h : StAt w g v lost) (m : Nat) : StAt (w.setCell ⟨g, 2, none⟩ (.int .i64 m)) g v m := by
  unfold StAt at *
  rw [heap_setCell_same _ g 2 _ 31 _ h]
  rfl
theorem StAt.keeps {w : World} {g : Nat} {v : Value} {lost : Nat} (h : StAt w g v lost) (u : Value) : StAt (w.setCell ⟨g, 1, none⟩ u) g u lost := by
  unfold StAt at *
  rw [heap_setCell_same _ g 1 _ 31 _ h]
  rfl
theorem but_setCell {a w : World} {g : Nat} (h : a.grownBy w (some g)) (j : Nat) (u : Value) : a.grownBy (w.setCell ⟨g, j, none⟩ u) (some g) :=
  ⟨h.os, h.tape, h.output, by simpa using h.size, fun k hk hne => by
    rw [Below.heap_setCell w _ u k (fun e => hne (by rw [e]))]
    exact h.block k hk hne⟩
theorem Below.but {w w' : World} (h : Below w.heap.size w w') (r : Option Nat) : w.grownBy w' r := ⟨h.os, h.tape, h.output, h.size, fun k hk _ => h.block k hk⟩
theorem but_drewN {a w : World} {r : Option Nat} (h : a.grownBy w r) (n : Nat) : a.grownBy (w.drewN n) r := ⟨h.os, h.tape, h.output, h.size, h.block⟩
theorem trans_kept {a b c : World} (h : Below a.heap.size a b) (k : Below b.heap.size b c) : Below a.heap.size a c := h.trans (k.mono h.size)
theorem but_below {a b c : World} {r : Option Nat} (h : a.grownBy b r) (k : Below b.heap.size b c) : a.grownBy c r := h.trans (Below.but k r)
/-- New rows may turn. -/
theorem but_row {a b c : World} {r s : Option Nat} (h : a.grownBy b r) (k : b.grownBy c s) (hs : ∀ j, s = some j → a.heap.size ≤ j) : a.grownBy c r :=
  ⟨k.os.trans h.os, k.tape.trans h.tape, k.output.trans h.output, Nat.le_trans h.size k.size, fun j hj hne =>
    (k.block j (Nat.lt_of_lt_of_le hj h.size) (fun e => by have := hs j e.symm; omega)).trans (h.block j hj hne)⟩

/-- THE WHOLE STREAM: in block g; the bytes q wait, in a row of their own. -/
def Stm (w : World) (g : Nat) (q : List Int) (lost : Nat) : Prop :=
  ∃ a cap, StAt w g (.slice a q.length cap) lost ∧ Load w 0 (.slice a q.length cap) q

theorem Stm.lt {w : World} {g : Nat} {q : List Int} {lost : Nat} (h : Stm w g q lost) : g < w.heap.size := by
  obtain ⟨a, cap, h1, _⟩ := h
  exact h1.lt
theorem Stm.kept {w w' : World} {g : Nat} {q : List Int} {lost : Nat} (h : Stm w g q lost) (hb : Below w.heap.size w w') : Stm w' g q lost := by
  obtain ⟨a, cap, h1, h2⟩ := h
  exact ⟨a, cap, h1.kept hb, h2.keep (keep5_below hb 0)⟩
/-- Where another block turns, that holds no bytes, it stays. -/
theorem Stm.other {w w' : World} {g r : Nat} {q : List Int} {lost : Nat} {T : TypeId} {cur : Array Value} {m : Nat × Nat} (h : Stm w g q lost) (hg : w.grownBy w' (some r)) (hr : r ≠ g) (hc : w.heap[r]? = some (.cells cur T m)) (hT : T ≠ 5) : Stm w' g q lost := by
  obtain ⟨a, cap, h1, h2⟩ := h
  exact ⟨a, cap, h1.other hg hr, h2.keep (keep5_but hg (Nat.zero_le _) hc hT)⟩
theorem Stm.form {w : World} {g : Nat} {q : List Int} {lost : Nat} (h : Stm w g q lost) :
    ∃ a n cap, StAt w g (.slice a n cap) lost ∧ Hid (q.length = n) ∧ Hid (a = none → cap = 0) ∧ n ≤ cap ∧ cap ≤ 9223372036854775807 ∧ Hid (Load w 0 (.slice a n cap) q) ∧ Hid (Bytes w a q) := by
  obtain ⟨a, cap, h1, h2⟩ := h
  obtain ⟨a', cap', e, h3, h4, h5, h6, _⟩ := id h2
  cases e
  exact ⟨a, q.length, cap, h1, rfl, h4, h5, by simpa [maxLen] using h6, h2, h3⟩
/-- A stream's block is none of bytes, and none of slices. -/
theorem Stm.block {w : World} {g : Nat} {q : List Int} {lost : Nat} (h : Stm w g q lost) : ∃ cur, w.heap[g]? = some (.cells cur 31 (0, 0)) := by
  obtain ⟨a, cap, h1, _⟩ := h
  exact ⟨_, h1⟩

set_option maxHeartbeats 400000 in
theorem new_any (w : World) :
    Calls Try.prog 5 #[] w fun e w' => ∃ g, e = .returned (.pointer (some ⟨g, 0, none⟩)) ∧ Stm w' g [] 0 ∧ w.heap.size ≤ g ∧ Below w.heap.size w w' := by
  go_enter Try.func5, Try.ntmps5
  go_wp2
  go_ret
  refine ⟨w.heap.size, rfl, ⟨none, 0, heap_alloc_new _ _, ⟨none, 0, rfl, ⟨by simp, by simp, .inl rfl⟩, fun _ => rfl, Nat.le_refl _, Nat.zero_le _, fun x hx _ => by cases hx⟩⟩, Nat.le_refl _, (Below.refl _ _).alloc (Nat.le_refl _) _⟩

set_option maxHeartbeats 400000 in
theorem made_any (g : Nat) (v : Value) (lost : Nat) (w : World) (h : StAt w g v lost) :
    Calls Try.prog 13 #[.pointer (some ⟨g, 0, none⟩)] w fun e w' => e = .returned (.bool true) ∧ w' = w := by
  have c0 := h.c0
  go_enter Try.func13, Try.ntmps13
  go_wp2
  go_ret
  exact ⟨rfl, rfl⟩

set_option maxHeartbeats 400000 in
theorem lost_any (g : Nat) (q : List Int) (lost : Nat) (w : World) (h : Stm w g q lost) :
    Calls Try.prog 9 #[.pointer (some ⟨g, 0, none⟩)] w fun e w' => e = .returned (.int .i64 lost) ∧ w' = w := by
  obtain ⟨a, n, cap, h1, -, -, -, -, -, -⟩ := h.form
  have c2 := h1.c2
  have k := made_any _ _ _ _ h1
  go_enter Try.func9, Try.ntmps9
  go_wp2_with (go_at_call 13; refine k.mono ?_; rintro e w' ⟨rfl, rfl⟩)
  go_ret
  exact ⟨rfl, rfl⟩

set_option maxHeartbeats 400000 in
theorem waits_any (g : Nat) (q : List Int) (lost : Nat) (w : World) (h : Stm w g q lost) :
    Calls Try.prog 8 #[.pointer (some ⟨g, 0, none⟩)] w fun e w' => e = .returned (.int .i64 (q.length : Nat)) ∧ w' = w := by
  obtain ⟨a, n, cap, h1, hl, -, -, -, -, -⟩ := h.form
  have c1 := h1.c1
  have k := made_any _ _ _ _ h1
  rw [hl.out]
  go_enter Try.func8, Try.ntmps8
  go_wp2_with (go_at_call 13; refine k.mono ?_; rintro e w' ⟨rfl, rfl⟩)
  go_ret
  exact ⟨rfl, rfl⟩
end Go.Proofs.Yticlobjikpfcjab
