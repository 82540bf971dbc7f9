/-
  Stage 15: the walk of the statement: the bytes of losses are the document's.
-/
import Derived.Test.YtgfnohgpmmaocaaDoorLal
import Derived.Test.YtgfnohgpmmaocaaDoorLop
import Derived.Test.YtgfnohgpmmaocaaDoorLrb
namespace Go.Proofs.YtgfnohgpmmaocaaDoor
open Go.RowKit
set_option linter.unusedVariables false
set_option linter.unusedSimpArgs false

theorem bld_err (L : List Ls) : (bldA L).2 = 0 ∨ (bldA L).2 = 1 ∨ (bldA L).2 = 8 := by
  unfold bldA
  split
  · exact .inr (.inr rfl)
  · split
    · exact .inl rfl
    · exact .inr (.inl rfl)

set_option maxHeartbeats 4000000 in
theorem wbuilds (a : Option Addr) (n cap : Nat) (L : List Ls) (w : World) (h : LsArg w a n cap L) :
    Calls Tryd.prog 3 #[.slice a n cap] w fun e w' => e = .returned (.bool true) ∧ Below w.heap.size w w' := by
  obtain ⟨hl, hnc, hcm, hn, hL⟩ := h
  have k1 := build_any a n cap L w hl hL hn hnc hcm
  have hL0 : Hid (Lss w a L) := hL
  have hy := bld_err L
  clear hL
  go_enter Tryd.func3, Tryd.ntmps3
  go_wp2_with fail
  refine k1.mono ?_
  rintro e w1 ⟨v1, rfl, hO1, hB1⟩
  clear k1
  have k2 := rbuild_any a n cap L w1 hl (hL0.out.kept hB1.out) hn hnc hcm
  go_wp2_with fail
  refine k2.mono ?_
  rintro e w2 ⟨v2, rfl, hO2, hB2⟩
  clear k2
  have hO1' : Hid (OwnsB w2 w.heap.size v1 (bldA L).1) := hO1.out.below hB2.out
  have hBw : Hid (Below w.heap.size w w2) := hB1.out.trans (hB2.out.mono hB1.out.size)
  obtain ⟨a1, n1, c1, rfl, hl1, hn1, hc1, hm1, hb1⟩ := hO1'.out.form
  obtain ⟨a2, n2, c2, rfl, hl2, hn2, hc2, hm2, hb2⟩ := hO2.out.form
  have kS := same_yes a1 a2 n1 n2 c1 c2 _ w2 hl1.out hl2.out hb1.out hb2.out
  have kA := alive_any w2
  clear hO1 hO1' hO2 hb1 hb2 hB1 hB2 hL0
  generalize (bldA L).2 = y at *
  go_wp2_with (first
    | (go_at_call 11; go_loud (refine kS.mono ?_; rintro e w3 ⟨rfl, hw3⟩; obtain rfl := hw3.symm; clear kS))
    | (go_at_call 12; go_loud (refine kA.mono ?_; rintro e w4 ⟨rfl, hb4⟩; clear kA)))
  go_ret
  exact ⟨rfl, hBw.out.trans (hb4.out.mono hBw.out.size)⟩
end Go.Proofs.YtgfnohgpmmaocaaDoor
