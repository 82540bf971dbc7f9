/-
  The document's depth, and when it says that trees are the same: deep, same.
  The document's Few, Size, Deep, Same, and both.
  What is wrong with a node itself: tree.fault, of a text.
  What is wrong with a node itself: tree.fault, of bytes.
  What is wrong with a node itself: tree.fault, of a whole number.
  What is wrong with a node itself: tree.fault, of a number that is not whole.
  What is wrong with a node itself: tree.fault, of every other Kind.
  What is wrong with a tree: tree.Check.
  What is wrong with a tree, as the document's call tells it: gantlineref08.Check.
  A tree that is read may be, and is of a valid text: the walk.
-/
import Derived.Test.YtmlacmoembjeoaaGreatDoorG23
import Derived.Test.YtmlacmoembjeoaaGreatDoorG38
import Derived.Test.YtmlacmoembjeoaaGreatDoorG31
import Derived.Test.YtmlacmoembjeoaaGreatDoorG2
import Derived.Test.YtmlacmoembjeoaaGreatDoorG22
import Derived.Test.YtmlacmoembjeoaaGreatDoorG25
namespace Go.Proofs.YtmlacmoembjeoaaGreatDoor
open Go.RowKit
set_option linter.unusedVariables false

end Go.Proofs.YtmlacmoembjeoaaGreatDoor
namespace Go.Proofs.YtmlacmoembjeoaaGreatDoor
open Go.RowKit
set_option linter.unusedVariables false
set_option maxHeartbeats 1000000 in
theorem efew_any {D : Nat} {t : Tr} {b : Nb} {w : World} (hN : Nd D w b t) : Calls Tryz.prog 20 #[.agg b.arr] w fun e w' => e = .returned (.bool (decide (t.size ≤ 1024))) ∧ Below w.heap.size w w' := by
  have hal := alloc_below w (.cells b.arr 26)
  have km := left_all D t b _ 1024 (hN.kept hal) (by omega) (by omega)
  have hB : Hid (Below w.heap.size w (w.alloc (.cells b.arr 26))) := hal
  obtain ⟨c0, c1, c2, c3, c4, c5, c6, c7, c8⟩ := (nbox_new w b).fields
  rw [← Tr.lft_few]
  generalize Tr.lft 1024 t.size = S at *
  clear hal hN
  go_enter Tryz.func20, Tryz.ntmps20
  go_wp2_with (go_at_call 32; refine km.mono ?_; rintro e w1 ⟨rfl, hb⟩)
  go_ret
  exact ⟨rfl, hB.out.trans (hb.mono hB.out.size)⟩
set_option maxHeartbeats 2000000 in
theorem esame_any {D E : Nat} {t u : Tr} {a b : Nb} {w : World} {v : Bool} (hA : Nd D w a t) (hB : Nd E w b u) (hv : v = true ↔ t.size ≤ 1024 ∧ u.size ≤ 1024 ∧ t = u) : Calls Tryz.prog 11 #[.agg a.arr, .agg b.arr] w fun e w' => e = .returned (.bool v) ∧ Below w.heap.size w w' := by
  have hal := alloc_below w (.cells a.arr 26)
  have hal2 := alloc_below (w.alloc (.cells a.arr 26)) (.cells b.arr 26)
  have hb2 : Hid (Below w.heap.size w ((w.alloc (.cells a.arr 26)).alloc (.cells b.arr 26))) := hal.trans (hal2.mono hal.size)
  have hs2 : Hid (w.heap.size ≤ ((w.alloc (.cells a.arr 26)).alloc (.cells b.arr 26)).heap.size) := Nat.le_trans hal.size hal2.size
  have boxA := (nbox_new w a).kept hal2 (by simp)
  have boxB := nbox_new (w.alloc (.cells a.arr 26)) b
  have s1 : (w.alloc (.cells a.arr 26)).heap.size = w.heap.size + 1 := by simp
  rw [s1] at boxB
  obtain ⟨a0, a1, a2, a3, a4, a5, a6, a7, a8⟩ := boxA.fields
  obtain ⟨b0, b1, b2, b3, b4, b5, b6, b7, b8⟩ := boxB.fields
  have hKa : Hid (NBox ((w.alloc (.cells a.arr 26)).alloc (.cells b.arr 26)) w.heap.size a) := boxA
  have hKb : Hid (NBox ((w.alloc (.cells a.arr 26)).alloc (.cells b.arr 26)) (w.heap.size + 1) b) := boxB
  have hsz : Hid (w.heap.size + 1 < ((w.alloc (.cells a.arr 26)).alloc (.cells b.arr 26)).heap.size) := by show _ < _; simp
  have kA : Hid (∀ w', Below w.heap.size w w' → Calls Tryz.prog 20 #[.agg a.arr] w' _) := fun w' h => efew_any (hA.kept h)
  have kB : Hid (∀ w', Below w.heap.size w w' → Calls Tryz.prog 20 #[.agg b.arr] w' _) := fun w' h => efew_any (hB.kept h)
  have k1 := kA.out _ hb2.out
  have kS : Hid (∀ (v' : Bool), (v' = true ↔ t = u) → ∀ w', Below w.heap.size w w' → Calls Tryz.prog 21 #[.agg a.arr, .agg b.arr] w' _) := fun v' h w' hb => esam_any (hA.kept hb) (hB.kept hb) h
  have hV : Hid (v = true ↔ t.size ≤ 1024 ∧ u.size ≤ 1024 ∧ t = u) := hv
  clear hal hal2 boxA boxB s1 hv hA hB
  by_cases hf : t.size ≤ 1024
  · rw [decide_eq_true hf] at k1
    by_cases hg : u.size ≤ 1024
    · rw [show decide (u.size ≤ 1024) = true from decide_eq_true hg] at kB
      have hv : v = true ↔ t = u := ⟨fun h => (hV.out.1 h).2.2, fun h => hV.out.2 ⟨hf, hg, h⟩⟩
      have kS' := kS.out v hv
      clear hf hg hv kS
      go_enter Tryz.func11, Tryz.ntmps11
      go_wp2_with (first
        | (go_at_call 20; refine k1.mono ?_; rintro e w1 ⟨rfl, hb1⟩; clear k1; have hbw := hb2.out.trans (hb1.mono hs2.out); have q2 := hKb.out.kept hb1 hsz.out; have q1 := hKa.out.kept hb1 (Nat.lt_of_le_of_lt (Nat.le_succ _) hsz.out); obtain ⟨c0, c1, c2, c3, c4, c5, c6, c7, c8⟩ := q1.fields; obtain ⟨d0, d1, d2, d3, d4, d5, d6, d7, d8⟩ := q2.fields; have k2 := kB.out w1 hbw)
        | (go_at_call 20; refine k2.mono ?_; rintro e w2 ⟨rfl, hb3⟩; clear k2; have hbw2 := hbw.trans (hb3.mono hbw.size); obtain ⟨g0, g1, g2, g3, g4, g5, g6, g7, g8⟩ := (q1.kept hb3 q1.lt).fields; obtain ⟨h0, h1, h2, h3, h4, h5, h6, h7, h8⟩ := (q2.kept hb3 q2.lt).fields; have k3 := kS' w2 hbw2)
        | (go_at_call 21; refine k3.mono ?_; rintro e w3 ⟨rfl, hb4⟩))
      go_ret
      exact ⟨rfl, hbw2.trans (hb4.mono hbw2.size)⟩
    · rw [show decide (u.size ≤ 1024) = false from decide_eq_false hg] at kB
      have hv : v = false := not_true hV.out fun h => hg h.2.1
      subst hv
      clear hf hg kS
      go_enter Tryz.func11, Tryz.ntmps11
      go_wp2_with (first
        | (go_at_call 20; refine k1.mono ?_; rintro e w1 ⟨rfl, hb1⟩; clear k1; have hbw := hb2.out.trans (hb1.mono hs2.out); have q2 := hKb.out.kept hb1 hsz.out; obtain ⟨d0, d1, d2, d3, d4, d5, d6, d7, d8⟩ := q2.fields; have k2 := kB.out w1 hbw)
        | (go_at_call 20; refine k2.mono ?_; rintro e w2 ⟨rfl, hb3⟩))
      go_ret
      exact ⟨rfl, hbw.trans (hb3.mono hbw.size)⟩
  · rw [decide_eq_false hf] at k1
    have hv : v = false := not_true hV.out fun h => hf h.1
    subst hv
    clear hf kS kB
    go_enter Tryz.func11, Tryz.ntmps11
    go_wp2_with (go_at_call 20; refine k1.mono ?_; rintro e w1 ⟨rfl, hb1⟩)
    go_ret
    exact ⟨rfl, hb2.out.trans (hb1.mono hs2.out)⟩

end Go.Proofs.YtmlacmoembjeoaaGreatDoor
namespace Go.Proofs.YtmlacmoembjeoaaGreatDoor
open Go.RowKit
set_option linter.unusedVariables false

end Go.Proofs.YtmlacmoembjeoaaGreatDoor
namespace Go.Proofs.YtmlacmoembjeoaaGreatDoor
open Go.RowKit
set_option linter.unusedVariables false

end Go.Proofs.YtmlacmoembjeoaaGreatDoor
namespace Go.Proofs.YtmlacmoembjeoaaGreatDoor
open Go.RowKit
set_option linter.unusedVariables false

end Go.Proofs.YtmlacmoembjeoaaGreatDoor
namespace Go.Proofs.YtmlacmoembjeoaaGreatDoor
open Go.RowKit
set_option linter.unusedVariables false

end Go.Proofs.YtmlacmoembjeoaaGreatDoor
namespace Go.Proofs.YtmlacmoembjeoaaGreatDoor
open Go.RowKit
set_option linter.unusedVariables false

end Go.Proofs.YtmlacmoembjeoaaGreatDoor
namespace Go.Proofs.YtmlacmoembjeoaaGreatDoor
open Go.RowKit
set_option linter.unusedVariables false

end Go.Proofs.YtmlacmoembjeoaaGreatDoor
namespace Go.Proofs.YtmlacmoembjeoaaGreatDoor
open Go.RowKit
set_option linter.unusedVariables false

end Go.Proofs.YtmlacmoembjeoaaGreatDoor
namespace Go.Proofs.YtmlacmoembjeoaaGreatDoor
open Go.RowKit
set_option linter.unusedVariables false
end Go.Proofs.YtmlacmoembjeoaaGreatDoor
