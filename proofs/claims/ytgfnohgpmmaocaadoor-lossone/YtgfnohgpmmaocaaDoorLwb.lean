/-
  Stage 15: the walk of the statement: bytes that are parsed are those that are built.
-/
import Derived.Test.YtgfnohgpmmaocaaDoorLwa
namespace Go.Proofs.YtgfnohgpmmaocaaDoor
open Go.RowKit
set_option linter.unusedVariables false
set_option linter.unusedSimpArgs false

set_option maxHeartbeats 4000000 in
theorem wone (a : Option Addr) (n cap : Nat) (zs : List Int) (w : World) (hl : zs.length = n) (hb : Bytes w a zs) (hn : a = none → cap = 0) (hm : n ≤ 140737488355328) :
    Calls Tryd.prog 7 #[.slice a n cap] w fun e w' => e = .returned (.bool true) ∧ Below w.heap.size w w' := by
  have k1 := parse_any a n cap zs w hl hb hn hm
  have hb0 : Hid (Bytes w a zs) := hb
  clear hb
  by_cases h0 : (parA zs).2.1 = 0
  · obtain ⟨e1, e2, e3, e4⟩ := par_one zs hb0.out.1 h0
    rw [e1] at k1
    have he4 : Hid (bldA (allS zs).1 = (zs, 0)) := e4
    clear e1 e2 e3 e4 h0
    generalize (allS zs).1 = ls at *
    go_enter Tryd.func7, Tryd.ntmps7
    go_wp2_with fail
    refine k1.mono ?_
    rintro e w1 ⟨v1, L1, rfl, hO1, hB1⟩
    clear k1
    obtain ⟨a1, c1, rfl, hn1, hc1, hm1, hL1⟩ := hO1.out.1.lss hO1.out.2.1
    have hLs : L1.map Prod.snd = ls := hO1.out.2.2
    rw [hLs] at hL1
    have hll : Hid (ls.length = L1.length) := by show _ = _; rw [← hLs, List.length_map]
    clear hO1 hLs
    generalize L1.length = n1 at *
    have hal : Below w1.heap.size w1 (w1.alloc (.cells #[.int .i64 0, .int .i64 0] 33)) := (Below.refl _ _).alloc (Nat.le_refl _) _
    have kB := build_any a1 n1 c1 ls _ hll.out (hL1.out.kept hal) hn1 hc1 hm1
    rw [he4.out] at kB
    have hBa : Hid (Below w.heap.size w (w1.alloc (.cells #[.int .i64 0, .int .i64 0] 33))) := hB1.out.trans (hal.mono hB1.out.size)
    clear hal hL1 hB1
    go_wp2_with fail
    refine kB.mono ?_
    rintro e w2 ⟨v2, rfl, hO2, hB2⟩
    clear kB
    have hBw : Hid (Below w.heap.size w w2) := hBa.out.trans (hB2.out.mono hBa.out.size)
    obtain ⟨a2, n2, c2, rfl, hl2, hn2, hc2, hm2, hb2⟩ := hO2.out.form
    have kS := same_yes a a2 n n2 cap c2 zs w2 hl hl2.out (hb0.out.kept hBw.out) hb2.out
    have kA := alive_any w2
    clear hO2 hB2 hBa hb2
    go_wp2_with (first
      | (go_at_call 11; go_loud (refine kS.mono ?_; rintro e w3 ⟨rfl, hw3⟩; obtain rfl := hw3.symm; clear kS))
      | (go_at_call 12; go_loud (refine kA.mono ?_; rintro e w4 ⟨rfl, hb4⟩; clear kA)))
    go_ret
    exact ⟨rfl, hBw.out.trans (hb4.out.mono hBw.out.size)⟩
  · have e1 := par_bad zs h0
    rw [e1] at k1
    generalize (parA zs).2.1 = y at *
    generalize (parA zs).2.2 = f at *
    have hy : ((y : Int) == 0) = false := by rw [beq_eq_false_iff_ne]; omega
    go_enter Tryd.func7, Tryd.ntmps7
    go_wp2_with fail
    refine k1.mono ?_
    rintro e w1 ⟨v1, L1, rfl, hO1, hB1⟩
    clear k1
    have hL0 : L1 = [] := List.map_eq_nil_iff.1 hO1.out.2.2
    subst hL0
    obtain ⟨a1, c1, rfl, hn1, hc1, hm1, hL1⟩ := hO1.out.1.lss hO1.out.2.1
    have hBa : Hid (Below w.heap.size w (w1.alloc (.cells #[.int .i64 (y : Nat), .int .i64 (f : Nat)] 33))) := hB1.out.alloc hB1.out.size _
    have kA := alive_any (w1.alloc (.cells #[.int .i64 (y : Nat), .int .i64 (f : Nat)] 33))
    clear hO1 hL1 hB1
    go_wp2_with (go_at_call 12; go_loud (refine kA.mono ?_; rintro e w4 ⟨rfl, hb4⟩; clear kA))
    go_ret
    exact ⟨rfl, hBa.out.trans (hb4.out.mono hBa.out.size)⟩
end Go.Proofs.YtgfnohgpmmaocaaDoor
