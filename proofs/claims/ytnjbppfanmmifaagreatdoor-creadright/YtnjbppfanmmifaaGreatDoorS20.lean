/-
  The fault of a node, what is in it aside, as the document's call tells it: gantlineref08.alone, of Bools and Maps.
  The fault of a node, what is in it aside, as the document's call tells it: gantlineref08.alone, of Tags and Simples.
  The fault of a node, what is in it aside, as the document's call tells it: gantlineref08.alone, of Bytes.
  The fault of a node, what is in it aside, as the document's call tells it: gantlineref08.alone, of Ints.
  The fault of a node, what is in it aside, as the document's call tells it: gantlineref08.alone, of Decs.
  The fault of a node, what is in it aside, as the document's call tells it: gantlineref08.alone, of Texts.
  The fault of a node, what is in it aside, as the document's call tells it: gantlineref08.alone, of other Kinds.
  The fault of a node, what is in it aside, as the document's call tells it: gantlineref08.alone.
-/
import Derived.Test.YtnjbppfanmmifaaGreatDoorS18
import Derived.Test.YtnjbppfanmmifaaGreatDoorS19
import Derived.Test.YtnjbppfanmmifaaGreatDoorS5
namespace Go.Proofs.YtnjbppfanmmifaaGreatDoor
open Go.RowKit
set_option linter.unusedVariables false

set_option maxHeartbeats 8000000 in
set_option maxRecDepth 100000 in
theorem ealone_k1 {D : Nat} {t : Tr} {b : Nb} {w : World} (hN : Nd (D + 1) w b t) (hK : b.kind = 1) : Calls Tryz.prog 60 #[.agg b.arr] w fun e w' => e = .returned (.int .i64 (alF t)) ∧ Below w.heap.size w w' := by
  have hal := alloc_below w (.cells b.arr 26)
  have B0 : Hid (Below w.heap.size w (w.alloc (.cells b.arr 26))) := hal
  have Q0 : Hid (NBox (w.alloc (.cells b.arr 26)) w.heap.size b) := nbox_new w b
  obtain ⟨a0, a1, a2, a3, a4, a5, a6, a7, a8⟩ := (nbox_new w b).fields
  have rk := hN.2.2.2.1.2.1
  have ri := hN.2.2.2.2.2.1
  have kB := bare_any b (w.alloc (.cells b.arr 26))
  have kS : Hid (∀ w', Below w.heap.size w w' → Calls Tryz.prog 33 #[.agg (bar b).arr, .agg b.arr] w' fun e w'' => e = .returned (.bool t.clean) ∧ Below w'.heap.size w' w'') := fun w' hb => esam_any (nd_bar (hN.kept hb)) (hN.kept hb) (Tr.clean_iff t)
  have hk : b.kind = t.kind := hN.1.1
  have hnum : b.num = t.num := hN.1.2.1
  have hneg : b.neg = t.neg := hN.1.2.2.1
  have hdig : b.dig = t.dig := hN.1.2.2.2.1
  have hexp : b.exp = t.exp := hN.1.2.2.2.2.1
  have htxt : b.txt = t.txt := hN.1.2.2.2.2.2
  have hlb : t.bytes.length = b.lb := hN.2.2.1.1
  have hlk : t.keys.length = b.lk := hN.2.2.2.1.1
  have hli : t.kids.length = b.li := hN.2.2.2.2.1
  have mb1 := hN.2.2.1.2.1.1
  have mb2 := hN.2.2.1.2.1.2.1
  have mk1 := rk.1
  have mk2 := rk.2.1
  have mi1 := ri.1
  have mi2 := ri.2.1
  unfold maxLen at mb2 mk2 mi2
  have mt : b.txt.size ≤ 140737488351232 := by rw [htxt]; exact hN.2.1.2.2.2.2
  have hA : alF t = if (b.kind = 5 ∧ 4096 < b.txt.size) ∨ (b.kind = 6 ∧ 4096 < b.lb) then 8
    else if b.kind = 5 ∧ gtx b.txt = false then 6
    else if b.kind = 2 ∧ (rt b.dig = false ∨ (b.neg = true ∧ b.dig = ⟨#[48]⟩)) then 11
    else if b.kind = 3 ∧ rdN b.neg b.dig b.exp = false then 11
    else if t.odd = true then 12 else 0 := by
    rw [hk, hneg, hdig, hexp, htxt, ← hlb]; rfl
  have hO := odd_doc hN
  have hkk : Hid (b.kind = t.kind) := hk
  clear hneg hdig hexp htxt hlb hlk hli hnum hN hk hal rk ri
  have e1 : (b.kind == 1) = true := by rw [hK]; decide
  have e2 : (b.kind == 2) = false := by rw [hK]; decide
  have e3 : (b.kind == 3) = false := by rw [hK]; decide
  have e5 : (b.kind == 5) = false := by rw [hK]; decide
  have e6 : (b.kind == 6) = false := by rw [hK]; decide
  have e8 : (b.kind == 8) = false := by rw [hK]; decide
  have e9 : (b.kind == 9) = false := by rw [hK]; decide
  have e10 : (b.kind == 10) = false := by rw [hK]; decide
  have d0 : decide (b.kind < 0) = false := by rw [hK]; decide
  have d10 : decide (10 < b.kind) = false := by rw [hK]; decide
  rw [if_neg (by omega), if_neg (by omega), if_neg (by omega), if_neg (by omega)] at hA
  rw [d0, d10, e1, e8, e9, e10] at hO
  clear hK
  cases hc : t.clean with
  | false =>
    rw [hO, hc] at hA
    rw [hc] at kS
    have hR : alF t = 12 := by rw [hA]; simp
    rw [hR]
    clear hA hO hc hR
    go_enter Tryz.func60, Tryz.ntmps60
    go_wp2_with (first
      | (go_at_call 95; refine kB.mono ?_; rintro e w1 ⟨he, hb1⟩; rw [Nb.arr] at he; subst he; clear kB a0 a1 a2 a3 a4 a5 a6 a7 a8; have A1 := alloc_below w1 (.cells #[.int .i64 (bar b).kind, .int .u64 (bar b).num, .bool (bar b).neg, .string (bar b).dig, .int .i64 (bar b).exp, .string (bar b).txt, .slice (bar b).ab (bar b).lb (bar b).cb, .slice (bar b).ak (bar b).lk (bar b).ck, .slice (bar b).ai (bar b).li (bar b).ci] 26); have b1 : Below (w.alloc (.cells b.arr 26)).heap.size (w.alloc (.cells b.arr 26)) (w1.alloc (.cells #[.int .i64 (bar b).kind, .int .u64 (bar b).num, .bool (bar b).neg, .string (bar b).dig, .int .i64 (bar b).exp, .string (bar b).txt, .slice (bar b).ab (bar b).lb (bar b).cb, .slice (bar b).ak (bar b).lk (bar b).ck, .slice (bar b).ai (bar b).li (bar b).ci] 26)) := hb1.trans (A1.mono hb1.size); have Q1 : Hid (NBox (w1.alloc (.cells #[.int .i64 (bar b).kind, .int .u64 (bar b).num, .bool (bar b).neg, .string (bar b).dig, .int .i64 (bar b).exp, .string (bar b).txt, .slice (bar b).ab (bar b).lb (bar b).cb, .slice (bar b).ak (bar b).lk (bar b).ck, .slice (bar b).ai (bar b).li (bar b).ci] 26)) w.heap.size b) := Q0.out.kept b1 Q0.out.lt; have X1 : Hid (NBox (w1.alloc (.cells #[.int .i64 (bar b).kind, .int .u64 (bar b).num, .bool (bar b).neg, .string (bar b).dig, .int .i64 (bar b).exp, .string (bar b).txt, .slice (bar b).ab (bar b).lb (bar b).cb, .slice (bar b).ak (bar b).lk (bar b).ck, .slice (bar b).ai (bar b).li (bar b).ci] 26)) w1.heap.size (bar b)) := nbox_new w1 (bar b); have B1 : Hid (Below w.heap.size w (w1.alloc (.cells #[.int .i64 (bar b).kind, .int .u64 (bar b).num, .bool (bar b).neg, .string (bar b).dig, .int .i64 (bar b).exp, .string (bar b).txt, .slice (bar b).ab (bar b).lb (bar b).cb, .slice (bar b).ak (bar b).lk (bar b).ck, .slice (bar b).ai (bar b).li (bar b).ci] 26))) := B0.out.trans (b1.mono B0.out.size); obtain ⟨a0, a1, a2, a3, a4, a5, a6, a7, a8⟩ := Q1.out.fields; obtain ⟨x0, x1, x2, x3, x4, x5, x6, x7, x8⟩ := X1.out.fields)
      | (have kS1 := kS.out _ B1.out; go_at_call 33; refine kS1.mono ?_; rintro e w9 ⟨rfl, hb9⟩; clear kS1; clear a0 a1 a2 a3 a4 a5 a6 a7 a8 x0 x1 x2 x3 x4 x5 x6 x7 x8; have Q9 : Hid (NBox w9 w.heap.size b) := Q1.out.kept hb9 Q1.out.lt; have X9 : Hid (NBox w9 w1.heap.size (bar b)) := X1.out.kept hb9 X1.out.lt; have B9 : Hid (Below w.heap.size w w9) := B1.out.trans (hb9.mono B1.out.size); obtain ⟨a0, a1, a2, a3, a4, a5, a6, a7, a8⟩ := Q9.out.fields; obtain ⟨x0, x1, x2, x3, x4, x5, x6, x7, x8⟩ := X9.out.fields))
    go_ret
    exact ⟨rfl, B9.out⟩
  | true =>
    rw [hO, hc] at hA
    rw [hc] at kS
    cases hq : decide (1 < b.num) with
    | false =>
      rw [hq] at hA
      have hR : alF t = 0 := by rw [hA]; simp [*]
      rw [hR]
      clear hA hO hc hR
      go_enter Tryz.func60, Tryz.ntmps60
      go_wp2_with (first
        | (go_at_call 95; refine kB.mono ?_; rintro e w1 ⟨he, hb1⟩; rw [Nb.arr] at he; subst he; clear kB a0 a1 a2 a3 a4 a5 a6 a7 a8; have A1 := alloc_below w1 (.cells #[.int .i64 (bar b).kind, .int .u64 (bar b).num, .bool (bar b).neg, .string (bar b).dig, .int .i64 (bar b).exp, .string (bar b).txt, .slice (bar b).ab (bar b).lb (bar b).cb, .slice (bar b).ak (bar b).lk (bar b).ck, .slice (bar b).ai (bar b).li (bar b).ci] 26); have b1 : Below (w.alloc (.cells b.arr 26)).heap.size (w.alloc (.cells b.arr 26)) (w1.alloc (.cells #[.int .i64 (bar b).kind, .int .u64 (bar b).num, .bool (bar b).neg, .string (bar b).dig, .int .i64 (bar b).exp, .string (bar b).txt, .slice (bar b).ab (bar b).lb (bar b).cb, .slice (bar b).ak (bar b).lk (bar b).ck, .slice (bar b).ai (bar b).li (bar b).ci] 26)) := hb1.trans (A1.mono hb1.size); have Q1 : Hid (NBox (w1.alloc (.cells #[.int .i64 (bar b).kind, .int .u64 (bar b).num, .bool (bar b).neg, .string (bar b).dig, .int .i64 (bar b).exp, .string (bar b).txt, .slice (bar b).ab (bar b).lb (bar b).cb, .slice (bar b).ak (bar b).lk (bar b).ck, .slice (bar b).ai (bar b).li (bar b).ci] 26)) w.heap.size b) := Q0.out.kept b1 Q0.out.lt; have X1 : Hid (NBox (w1.alloc (.cells #[.int .i64 (bar b).kind, .int .u64 (bar b).num, .bool (bar b).neg, .string (bar b).dig, .int .i64 (bar b).exp, .string (bar b).txt, .slice (bar b).ab (bar b).lb (bar b).cb, .slice (bar b).ak (bar b).lk (bar b).ck, .slice (bar b).ai (bar b).li (bar b).ci] 26)) w1.heap.size (bar b)) := nbox_new w1 (bar b); have B1 : Hid (Below w.heap.size w (w1.alloc (.cells #[.int .i64 (bar b).kind, .int .u64 (bar b).num, .bool (bar b).neg, .string (bar b).dig, .int .i64 (bar b).exp, .string (bar b).txt, .slice (bar b).ab (bar b).lb (bar b).cb, .slice (bar b).ak (bar b).lk (bar b).ck, .slice (bar b).ai (bar b).li (bar b).ci] 26))) := B0.out.trans (b1.mono B0.out.size); obtain ⟨a0, a1, a2, a3, a4, a5, a6, a7, a8⟩ := Q1.out.fields; obtain ⟨x0, x1, x2, x3, x4, x5, x6, x7, x8⟩ := X1.out.fields)
        | (have kS1 := kS.out _ B1.out; go_at_call 33; refine kS1.mono ?_; rintro e w9 ⟨rfl, hb9⟩; clear kS1; clear a0 a1 a2 a3 a4 a5 a6 a7 a8 x0 x1 x2 x3 x4 x5 x6 x7 x8; have Q9 : Hid (NBox w9 w.heap.size b) := Q1.out.kept hb9 Q1.out.lt; have X9 : Hid (NBox w9 w1.heap.size (bar b)) := X1.out.kept hb9 X1.out.lt; have B9 : Hid (Below w.heap.size w w9) := B1.out.trans (hb9.mono B1.out.size); obtain ⟨a0, a1, a2, a3, a4, a5, a6, a7, a8⟩ := Q9.out.fields; obtain ⟨x0, x1, x2, x3, x4, x5, x6, x7, x8⟩ := X9.out.fields))
      go_ret
      exact ⟨rfl, B9.out⟩
    | true =>
      rw [hq] at hA
      have hR : alF t = 12 := by rw [hA]; simp [*]
      rw [hR]
      clear hA hO hc hR
      go_enter Tryz.func60, Tryz.ntmps60
      go_wp2_with (first
        | (go_at_call 95; refine kB.mono ?_; rintro e w1 ⟨he, hb1⟩; rw [Nb.arr] at he; subst he; clear kB a0 a1 a2 a3 a4 a5 a6 a7 a8; have A1 := alloc_below w1 (.cells #[.int .i64 (bar b).kind, .int .u64 (bar b).num, .bool (bar b).neg, .string (bar b).dig, .int .i64 (bar b).exp, .string (bar b).txt, .slice (bar b).ab (bar b).lb (bar b).cb, .slice (bar b).ak (bar b).lk (bar b).ck, .slice (bar b).ai (bar b).li (bar b).ci] 26); have b1 : Below (w.alloc (.cells b.arr 26)).heap.size (w.alloc (.cells b.arr 26)) (w1.alloc (.cells #[.int .i64 (bar b).kind, .int .u64 (bar b).num, .bool (bar b).neg, .string (bar b).dig, .int .i64 (bar b).exp, .string (bar b).txt, .slice (bar b).ab (bar b).lb (bar b).cb, .slice (bar b).ak (bar b).lk (bar b).ck, .slice (bar b).ai (bar b).li (bar b).ci] 26)) := hb1.trans (A1.mono hb1.size); have Q1 : Hid (NBox (w1.alloc (.cells #[.int .i64 (bar b).kind, .int .u64 (bar b).num, .bool (bar b).neg, .string (bar b).dig, .int .i64 (bar b).exp, .string (bar b).txt, .slice (bar b).ab (bar b).lb (bar b).cb, .slice (bar b).ak (bar b).lk (bar b).ck, .slice (bar b).ai (bar b).li (bar b).ci] 26)) w.heap.size b) := Q0.out.kept b1 Q0.out.lt; have X1 : Hid (NBox (w1.alloc (.cells #[.int .i64 (bar b).kind, .int .u64 (bar b).num, .bool (bar b).neg, .string (bar b).dig, .int .i64 (bar b).exp, .string (bar b).txt, .slice (bar b).ab (bar b).lb (bar b).cb, .slice (bar b).ak (bar b).lk (bar b).ck, .slice (bar b).ai (bar b).li (bar b).ci] 26)) w1.heap.size (bar b)) := nbox_new w1 (bar b); have B1 : Hid (Below w.heap.size w (w1.alloc (.cells #[.int .i64 (bar b).kind, .int .u64 (bar b).num, .bool (bar b).neg, .string (bar b).dig, .int .i64 (bar b).exp, .string (bar b).txt, .slice (bar b).ab (bar b).lb (bar b).cb, .slice (bar b).ak (bar b).lk (bar b).ck, .slice (bar b).ai (bar b).li (bar b).ci] 26))) := B0.out.trans (b1.mono B0.out.size); obtain ⟨a0, a1, a2, a3, a4, a5, a6, a7, a8⟩ := Q1.out.fields; obtain ⟨x0, x1, x2, x3, x4, x5, x6, x7, x8⟩ := X1.out.fields)
        | (have kS1 := kS.out _ B1.out; go_at_call 33; refine kS1.mono ?_; rintro e w9 ⟨rfl, hb9⟩; clear kS1; clear a0 a1 a2 a3 a4 a5 a6 a7 a8 x0 x1 x2 x3 x4 x5 x6 x7 x8; have Q9 : Hid (NBox w9 w.heap.size b) := Q1.out.kept hb9 Q1.out.lt; have X9 : Hid (NBox w9 w1.heap.size (bar b)) := X1.out.kept hb9 X1.out.lt; have B9 : Hid (Below w.heap.size w w9) := B1.out.trans (hb9.mono B1.out.size); obtain ⟨a0, a1, a2, a3, a4, a5, a6, a7, a8⟩ := Q9.out.fields; obtain ⟨x0, x1, x2, x3, x4, x5, x6, x7, x8⟩ := X9.out.fields))
      go_ret
      exact ⟨rfl, B9.out⟩
set_option maxHeartbeats 8000000 in
set_option maxRecDepth 100000 in
theorem ealone_k8 {D : Nat} {t : Tr} {b : Nb} {w : World} (hN : Nd (D + 1) w b t) (hK : b.kind = 8) : Calls Tryz.prog 60 #[.agg b.arr] w fun e w' => e = .returned (.int .i64 (alF t)) ∧ Below w.heap.size w w' := by
  have hal := alloc_below w (.cells b.arr 26)
  have B0 : Hid (Below w.heap.size w (w.alloc (.cells b.arr 26))) := hal
  have Q0 : Hid (NBox (w.alloc (.cells b.arr 26)) w.heap.size b) := nbox_new w b
  obtain ⟨a0, a1, a2, a3, a4, a5, a6, a7, a8⟩ := (nbox_new w b).fields
  have rk := hN.2.2.2.1.2.1
  have ri := hN.2.2.2.2.2.1
  have kB := bare_any b (w.alloc (.cells b.arr 26))
  have kS : Hid (∀ w', Below w.heap.size w w' → Calls Tryz.prog 33 #[.agg (bar b).arr, .agg b.arr] w' fun e w'' => e = .returned (.bool t.clean) ∧ Below w'.heap.size w' w'') := fun w' hb => esam_any (nd_bar (hN.kept hb)) (hN.kept hb) (Tr.clean_iff t)
  have hk : b.kind = t.kind := hN.1.1
  have hnum : b.num = t.num := hN.1.2.1
  have hneg : b.neg = t.neg := hN.1.2.2.1
  have hdig : b.dig = t.dig := hN.1.2.2.2.1
  have hexp : b.exp = t.exp := hN.1.2.2.2.2.1
  have htxt : b.txt = t.txt := hN.1.2.2.2.2.2
  have hlb : t.bytes.length = b.lb := hN.2.2.1.1
  have hlk : t.keys.length = b.lk := hN.2.2.2.1.1
  have hli : t.kids.length = b.li := hN.2.2.2.2.1
  have mb1 := hN.2.2.1.2.1.1
  have mb2 := hN.2.2.1.2.1.2.1
  have mk1 := rk.1
  have mk2 := rk.2.1
  have mi1 := ri.1
  have mi2 := ri.2.1
  unfold maxLen at mb2 mk2 mi2
  have mt : b.txt.size ≤ 140737488351232 := by rw [htxt]; exact hN.2.1.2.2.2.2
  have hA : alF t = if (b.kind = 5 ∧ 4096 < b.txt.size) ∨ (b.kind = 6 ∧ 4096 < b.lb) then 8
    else if b.kind = 5 ∧ gtx b.txt = false then 6
    else if b.kind = 2 ∧ (rt b.dig = false ∨ (b.neg = true ∧ b.dig = ⟨#[48]⟩)) then 11
    else if b.kind = 3 ∧ rdN b.neg b.dig b.exp = false then 11
    else if t.odd = true then 12 else 0 := by
    rw [hk, hneg, hdig, hexp, htxt, ← hlb]; rfl
  have hO := odd_doc hN
  have hkk : Hid (b.kind = t.kind) := hk
  clear hneg hdig hexp htxt hlb hlk hli hnum hN hk hal rk ri
  have e1 : (b.kind == 1) = false := by rw [hK]; decide
  have e2 : (b.kind == 2) = false := by rw [hK]; decide
  have e3 : (b.kind == 3) = false := by rw [hK]; decide
  have e5 : (b.kind == 5) = false := by rw [hK]; decide
  have e6 : (b.kind == 6) = false := by rw [hK]; decide
  have e8 : (b.kind == 8) = true := by rw [hK]; decide
  have e9 : (b.kind == 9) = false := by rw [hK]; decide
  have e10 : (b.kind == 10) = false := by rw [hK]; decide
  have d0 : decide (b.kind < 0) = false := by rw [hK]; decide
  have d10 : decide (10 < b.kind) = false := by rw [hK]; decide
  rw [if_neg (by omega), if_neg (by omega), if_neg (by omega), if_neg (by omega)] at hA
  rw [d0, d10, e1, e8, e9, e10] at hO
  clear hK
  cases hc : t.clean with
  | false =>
    rw [hO, hc] at hA
    rw [hc] at kS
    have hR : alF t = 12 := by rw [hA]; simp
    rw [hR]
    clear hA hO hc hR
    go_enter Tryz.func60, Tryz.ntmps60
    go_wp2_with (first
      | (go_at_call 95; refine kB.mono ?_; rintro e w1 ⟨he, hb1⟩; rw [Nb.arr] at he; subst he; clear kB a0 a1 a2 a3 a4 a5 a6 a7 a8; have A1 := alloc_below w1 (.cells #[.int .i64 (bar b).kind, .int .u64 (bar b).num, .bool (bar b).neg, .string (bar b).dig, .int .i64 (bar b).exp, .string (bar b).txt, .slice (bar b).ab (bar b).lb (bar b).cb, .slice (bar b).ak (bar b).lk (bar b).ck, .slice (bar b).ai (bar b).li (bar b).ci] 26); have b1 : Below (w.alloc (.cells b.arr 26)).heap.size (w.alloc (.cells b.arr 26)) (w1.alloc (.cells #[.int .i64 (bar b).kind, .int .u64 (bar b).num, .bool (bar b).neg, .string (bar b).dig, .int .i64 (bar b).exp, .string (bar b).txt, .slice (bar b).ab (bar b).lb (bar b).cb, .slice (bar b).ak (bar b).lk (bar b).ck, .slice (bar b).ai (bar b).li (bar b).ci] 26)) := hb1.trans (A1.mono hb1.size); have Q1 : Hid (NBox (w1.alloc (.cells #[.int .i64 (bar b).kind, .int .u64 (bar b).num, .bool (bar b).neg, .string (bar b).dig, .int .i64 (bar b).exp, .string (bar b).txt, .slice (bar b).ab (bar b).lb (bar b).cb, .slice (bar b).ak (bar b).lk (bar b).ck, .slice (bar b).ai (bar b).li (bar b).ci] 26)) w.heap.size b) := Q0.out.kept b1 Q0.out.lt; have X1 : Hid (NBox (w1.alloc (.cells #[.int .i64 (bar b).kind, .int .u64 (bar b).num, .bool (bar b).neg, .string (bar b).dig, .int .i64 (bar b).exp, .string (bar b).txt, .slice (bar b).ab (bar b).lb (bar b).cb, .slice (bar b).ak (bar b).lk (bar b).ck, .slice (bar b).ai (bar b).li (bar b).ci] 26)) w1.heap.size (bar b)) := nbox_new w1 (bar b); have B1 : Hid (Below w.heap.size w (w1.alloc (.cells #[.int .i64 (bar b).kind, .int .u64 (bar b).num, .bool (bar b).neg, .string (bar b).dig, .int .i64 (bar b).exp, .string (bar b).txt, .slice (bar b).ab (bar b).lb (bar b).cb, .slice (bar b).ak (bar b).lk (bar b).ck, .slice (bar b).ai (bar b).li (bar b).ci] 26))) := B0.out.trans (b1.mono B0.out.size); obtain ⟨a0, a1, a2, a3, a4, a5, a6, a7, a8⟩ := Q1.out.fields; obtain ⟨x0, x1, x2, x3, x4, x5, x6, x7, x8⟩ := X1.out.fields)
      | (have kS1 := kS.out _ B1.out; go_at_call 33; refine kS1.mono ?_; rintro e w9 ⟨rfl, hb9⟩; clear kS1; clear a0 a1 a2 a3 a4 a5 a6 a7 a8 x0 x1 x2 x3 x4 x5 x6 x7 x8; have Q9 : Hid (NBox w9 w.heap.size b) := Q1.out.kept hb9 Q1.out.lt; have X9 : Hid (NBox w9 w1.heap.size (bar b)) := X1.out.kept hb9 X1.out.lt; have B9 : Hid (Below w.heap.size w w9) := B1.out.trans (hb9.mono B1.out.size); obtain ⟨a0, a1, a2, a3, a4, a5, a6, a7, a8⟩ := Q9.out.fields; obtain ⟨x0, x1, x2, x3, x4, x5, x6, x7, x8⟩ := X9.out.fields))
    go_ret
    exact ⟨rfl, B9.out⟩
  | true =>
    rw [hO, hc] at hA
    rw [hc] at kS
    cases hq : ((b.lk : Int) != (b.li : Int)) with
    | false =>
      rw [hq] at hA
      have hR : alF t = 0 := by rw [hA]; simp [*]
      rw [hR]
      clear hA hO hc hR
      go_enter Tryz.func60, Tryz.ntmps60
      go_wp2_with (first
        | (go_at_call 95; refine kB.mono ?_; rintro e w1 ⟨he, hb1⟩; rw [Nb.arr] at he; subst he; clear kB a0 a1 a2 a3 a4 a5 a6 a7 a8; have A1 := alloc_below w1 (.cells #[.int .i64 (bar b).kind, .int .u64 (bar b).num, .bool (bar b).neg, .string (bar b).dig, .int .i64 (bar b).exp, .string (bar b).txt, .slice (bar b).ab (bar b).lb (bar b).cb, .slice (bar b).ak (bar b).lk (bar b).ck, .slice (bar b).ai (bar b).li (bar b).ci] 26); have b1 : Below (w.alloc (.cells b.arr 26)).heap.size (w.alloc (.cells b.arr 26)) (w1.alloc (.cells #[.int .i64 (bar b).kind, .int .u64 (bar b).num, .bool (bar b).neg, .string (bar b).dig, .int .i64 (bar b).exp, .string (bar b).txt, .slice (bar b).ab (bar b).lb (bar b).cb, .slice (bar b).ak (bar b).lk (bar b).ck, .slice (bar b).ai (bar b).li (bar b).ci] 26)) := hb1.trans (A1.mono hb1.size); have Q1 : Hid (NBox (w1.alloc (.cells #[.int .i64 (bar b).kind, .int .u64 (bar b).num, .bool (bar b).neg, .string (bar b).dig, .int .i64 (bar b).exp, .string (bar b).txt, .slice (bar b).ab (bar b).lb (bar b).cb, .slice (bar b).ak (bar b).lk (bar b).ck, .slice (bar b).ai (bar b).li (bar b).ci] 26)) w.heap.size b) := Q0.out.kept b1 Q0.out.lt; have X1 : Hid (NBox (w1.alloc (.cells #[.int .i64 (bar b).kind, .int .u64 (bar b).num, .bool (bar b).neg, .string (bar b).dig, .int .i64 (bar b).exp, .string (bar b).txt, .slice (bar b).ab (bar b).lb (bar b).cb, .slice (bar b).ak (bar b).lk (bar b).ck, .slice (bar b).ai (bar b).li (bar b).ci] 26)) w1.heap.size (bar b)) := nbox_new w1 (bar b); have B1 : Hid (Below w.heap.size w (w1.alloc (.cells #[.int .i64 (bar b).kind, .int .u64 (bar b).num, .bool (bar b).neg, .string (bar b).dig, .int .i64 (bar b).exp, .string (bar b).txt, .slice (bar b).ab (bar b).lb (bar b).cb, .slice (bar b).ak (bar b).lk (bar b).ck, .slice (bar b).ai (bar b).li (bar b).ci] 26))) := B0.out.trans (b1.mono B0.out.size); obtain ⟨a0, a1, a2, a3, a4, a5, a6, a7, a8⟩ := Q1.out.fields; obtain ⟨x0, x1, x2, x3, x4, x5, x6, x7, x8⟩ := X1.out.fields)
        | (have kS1 := kS.out _ B1.out; go_at_call 33; refine kS1.mono ?_; rintro e w9 ⟨rfl, hb9⟩; clear kS1; clear a0 a1 a2 a3 a4 a5 a6 a7 a8 x0 x1 x2 x3 x4 x5 x6 x7 x8; have Q9 : Hid (NBox w9 w.heap.size b) := Q1.out.kept hb9 Q1.out.lt; have X9 : Hid (NBox w9 w1.heap.size (bar b)) := X1.out.kept hb9 X1.out.lt; have B9 : Hid (Below w.heap.size w w9) := B1.out.trans (hb9.mono B1.out.size); obtain ⟨a0, a1, a2, a3, a4, a5, a6, a7, a8⟩ := Q9.out.fields; obtain ⟨x0, x1, x2, x3, x4, x5, x6, x7, x8⟩ := X9.out.fields))
      go_ret
      exact ⟨rfl, B9.out⟩
    | true =>
      rw [hq] at hA
      have hR : alF t = 12 := by rw [hA]; simp [*]
      rw [hR]
      clear hA hO hc hR
      go_enter Tryz.func60, Tryz.ntmps60
      go_wp2_with (first
        | (go_at_call 95; refine kB.mono ?_; rintro e w1 ⟨he, hb1⟩; rw [Nb.arr] at he; subst he; clear kB a0 a1 a2 a3 a4 a5 a6 a7 a8; have A1 := alloc_below w1 (.cells #[.int .i64 (bar b).kind, .int .u64 (bar b).num, .bool (bar b).neg, .string (bar b).dig, .int .i64 (bar b).exp, .string (bar b).txt, .slice (bar b).ab (bar b).lb (bar b).cb, .slice (bar b).ak (bar b).lk (bar b).ck, .slice (bar b).ai (bar b).li (bar b).ci] 26); have b1 : Below (w.alloc (.cells b.arr 26)).heap.size (w.alloc (.cells b.arr 26)) (w1.alloc (.cells #[.int .i64 (bar b).kind, .int .u64 (bar b).num, .bool (bar b).neg, .string (bar b).dig, .int .i64 (bar b).exp, .string (bar b).txt, .slice (bar b).ab (bar b).lb (bar b).cb, .slice (bar b).ak (bar b).lk (bar b).ck, .slice (bar b).ai (bar b).li (bar b).ci] 26)) := hb1.trans (A1.mono hb1.size); have Q1 : Hid (NBox (w1.alloc (.cells #[.int .i64 (bar b).kind, .int .u64 (bar b).num, .bool (bar b).neg, .string (bar b).dig, .int .i64 (bar b).exp, .string (bar b).txt, .slice (bar b).ab (bar b).lb (bar b).cb, .slice (bar b).ak (bar b).lk (bar b).ck, .slice (bar b).ai (bar b).li (bar b).ci] 26)) w.heap.size b) := Q0.out.kept b1 Q0.out.lt; have X1 : Hid (NBox (w1.alloc (.cells #[.int .i64 (bar b).kind, .int .u64 (bar b).num, .bool (bar b).neg, .string (bar b).dig, .int .i64 (bar b).exp, .string (bar b).txt, .slice (bar b).ab (bar b).lb (bar b).cb, .slice (bar b).ak (bar b).lk (bar b).ck, .slice (bar b).ai (bar b).li (bar b).ci] 26)) w1.heap.size (bar b)) := nbox_new w1 (bar b); have B1 : Hid (Below w.heap.size w (w1.alloc (.cells #[.int .i64 (bar b).kind, .int .u64 (bar b).num, .bool (bar b).neg, .string (bar b).dig, .int .i64 (bar b).exp, .string (bar b).txt, .slice (bar b).ab (bar b).lb (bar b).cb, .slice (bar b).ak (bar b).lk (bar b).ck, .slice (bar b).ai (bar b).li (bar b).ci] 26))) := B0.out.trans (b1.mono B0.out.size); obtain ⟨a0, a1, a2, a3, a4, a5, a6, a7, a8⟩ := Q1.out.fields; obtain ⟨x0, x1, x2, x3, x4, x5, x6, x7, x8⟩ := X1.out.fields)
        | (have kS1 := kS.out _ B1.out; go_at_call 33; refine kS1.mono ?_; rintro e w9 ⟨rfl, hb9⟩; clear kS1; clear a0 a1 a2 a3 a4 a5 a6 a7 a8 x0 x1 x2 x3 x4 x5 x6 x7 x8; have Q9 : Hid (NBox w9 w.heap.size b) := Q1.out.kept hb9 Q1.out.lt; have X9 : Hid (NBox w9 w1.heap.size (bar b)) := X1.out.kept hb9 X1.out.lt; have B9 : Hid (Below w.heap.size w w9) := B1.out.trans (hb9.mono B1.out.size); obtain ⟨a0, a1, a2, a3, a4, a5, a6, a7, a8⟩ := Q9.out.fields; obtain ⟨x0, x1, x2, x3, x4, x5, x6, x7, x8⟩ := X9.out.fields))
      go_ret
      exact ⟨rfl, B9.out⟩
end Go.Proofs.YtnjbppfanmmifaaGreatDoor
namespace Go.Proofs.YtnjbppfanmmifaaGreatDoor
open Go.RowKit
set_option linter.unusedVariables false

set_option maxHeartbeats 8000000 in
set_option maxRecDepth 100000 in
theorem ealone_k9 {D : Nat} {t : Tr} {b : Nb} {w : World} (hN : Nd (D + 1) w b t) (hK : b.kind = 9) : Calls Tryz.prog 60 #[.agg b.arr] w fun e w' => e = .returned (.int .i64 (alF t)) ∧ Below w.heap.size w w' := by
  have hal := alloc_below w (.cells b.arr 26)
  have B0 : Hid (Below w.heap.size w (w.alloc (.cells b.arr 26))) := hal
  have Q0 : Hid (NBox (w.alloc (.cells b.arr 26)) w.heap.size b) := nbox_new w b
  obtain ⟨a0, a1, a2, a3, a4, a5, a6, a7, a8⟩ := (nbox_new w b).fields
  have rk := hN.2.2.2.1.2.1
  have ri := hN.2.2.2.2.2.1
  have kB := bare_any b (w.alloc (.cells b.arr 26))
  have kS : Hid (∀ w', Below w.heap.size w w' → Calls Tryz.prog 33 #[.agg (bar b).arr, .agg b.arr] w' fun e w'' => e = .returned (.bool t.clean) ∧ Below w'.heap.size w' w'') := fun w' hb => esam_any (nd_bar (hN.kept hb)) (hN.kept hb) (Tr.clean_iff t)
  have hk : b.kind = t.kind := hN.1.1
  have hnum : b.num = t.num := hN.1.2.1
  have hneg : b.neg = t.neg := hN.1.2.2.1
  have hdig : b.dig = t.dig := hN.1.2.2.2.1
  have hexp : b.exp = t.exp := hN.1.2.2.2.2.1
  have htxt : b.txt = t.txt := hN.1.2.2.2.2.2
  have hlb : t.bytes.length = b.lb := hN.2.2.1.1
  have hlk : t.keys.length = b.lk := hN.2.2.2.1.1
  have hli : t.kids.length = b.li := hN.2.2.2.2.1
  have mb1 := hN.2.2.1.2.1.1
  have mb2 := hN.2.2.1.2.1.2.1
  have mk1 := rk.1
  have mk2 := rk.2.1
  have mi1 := ri.1
  have mi2 := ri.2.1
  unfold maxLen at mb2 mk2 mi2
  have mt : b.txt.size ≤ 140737488351232 := by rw [htxt]; exact hN.2.1.2.2.2.2
  have hA : alF t = if (b.kind = 5 ∧ 4096 < b.txt.size) ∨ (b.kind = 6 ∧ 4096 < b.lb) then 8
    else if b.kind = 5 ∧ gtx b.txt = false then 6
    else if b.kind = 2 ∧ (rt b.dig = false ∨ (b.neg = true ∧ b.dig = ⟨#[48]⟩)) then 11
    else if b.kind = 3 ∧ rdN b.neg b.dig b.exp = false then 11
    else if t.odd = true then 12 else 0 := by
    rw [hk, hneg, hdig, hexp, htxt, ← hlb]; rfl
  have hO := odd_doc hN
  have hkk : Hid (b.kind = t.kind) := hk
  clear hneg hdig hexp htxt hlb hlk hli hnum hN hk hal rk ri
  have e1 : (b.kind == 1) = false := by rw [hK]; decide
  have e2 : (b.kind == 2) = false := by rw [hK]; decide
  have e3 : (b.kind == 3) = false := by rw [hK]; decide
  have e5 : (b.kind == 5) = false := by rw [hK]; decide
  have e6 : (b.kind == 6) = false := by rw [hK]; decide
  have e8 : (b.kind == 8) = false := by rw [hK]; decide
  have e9 : (b.kind == 9) = true := by rw [hK]; decide
  have e10 : (b.kind == 10) = false := by rw [hK]; decide
  have d0 : decide (b.kind < 0) = false := by rw [hK]; decide
  have d10 : decide (10 < b.kind) = false := by rw [hK]; decide
  rw [if_neg (by omega), if_neg (by omega), if_neg (by omega), if_neg (by omega)] at hA
  rw [d0, d10, e1, e8, e9, e10] at hO
  clear hK
  cases hc : t.clean with
  | false =>
    rw [hO, hc] at hA
    rw [hc] at kS
    have hR : alF t = 12 := by rw [hA]; simp
    rw [hR]
    clear hA hO hc hR
    go_enter Tryz.func60, Tryz.ntmps60
    go_wp2_with (first
      | (go_at_call 95; refine kB.mono ?_; rintro e w1 ⟨he, hb1⟩; rw [Nb.arr] at he; subst he; clear kB a0 a1 a2 a3 a4 a5 a6 a7 a8; have A1 := alloc_below w1 (.cells #[.int .i64 (bar b).kind, .int .u64 (bar b).num, .bool (bar b).neg, .string (bar b).dig, .int .i64 (bar b).exp, .string (bar b).txt, .slice (bar b).ab (bar b).lb (bar b).cb, .slice (bar b).ak (bar b).lk (bar b).ck, .slice (bar b).ai (bar b).li (bar b).ci] 26); have b1 : Below (w.alloc (.cells b.arr 26)).heap.size (w.alloc (.cells b.arr 26)) (w1.alloc (.cells #[.int .i64 (bar b).kind, .int .u64 (bar b).num, .bool (bar b).neg, .string (bar b).dig, .int .i64 (bar b).exp, .string (bar b).txt, .slice (bar b).ab (bar b).lb (bar b).cb, .slice (bar b).ak (bar b).lk (bar b).ck, .slice (bar b).ai (bar b).li (bar b).ci] 26)) := hb1.trans (A1.mono hb1.size); have Q1 : Hid (NBox (w1.alloc (.cells #[.int .i64 (bar b).kind, .int .u64 (bar b).num, .bool (bar b).neg, .string (bar b).dig, .int .i64 (bar b).exp, .string (bar b).txt, .slice (bar b).ab (bar b).lb (bar b).cb, .slice (bar b).ak (bar b).lk (bar b).ck, .slice (bar b).ai (bar b).li (bar b).ci] 26)) w.heap.size b) := Q0.out.kept b1 Q0.out.lt; have X1 : Hid (NBox (w1.alloc (.cells #[.int .i64 (bar b).kind, .int .u64 (bar b).num, .bool (bar b).neg, .string (bar b).dig, .int .i64 (bar b).exp, .string (bar b).txt, .slice (bar b).ab (bar b).lb (bar b).cb, .slice (bar b).ak (bar b).lk (bar b).ck, .slice (bar b).ai (bar b).li (bar b).ci] 26)) w1.heap.size (bar b)) := nbox_new w1 (bar b); have B1 : Hid (Below w.heap.size w (w1.alloc (.cells #[.int .i64 (bar b).kind, .int .u64 (bar b).num, .bool (bar b).neg, .string (bar b).dig, .int .i64 (bar b).exp, .string (bar b).txt, .slice (bar b).ab (bar b).lb (bar b).cb, .slice (bar b).ak (bar b).lk (bar b).ck, .slice (bar b).ai (bar b).li (bar b).ci] 26))) := B0.out.trans (b1.mono B0.out.size); obtain ⟨a0, a1, a2, a3, a4, a5, a6, a7, a8⟩ := Q1.out.fields; obtain ⟨x0, x1, x2, x3, x4, x5, x6, x7, x8⟩ := X1.out.fields)
      | (have kS1 := kS.out _ B1.out; go_at_call 33; refine kS1.mono ?_; rintro e w9 ⟨rfl, hb9⟩; clear kS1; clear a0 a1 a2 a3 a4 a5 a6 a7 a8 x0 x1 x2 x3 x4 x5 x6 x7 x8; have Q9 : Hid (NBox w9 w.heap.size b) := Q1.out.kept hb9 Q1.out.lt; have X9 : Hid (NBox w9 w1.heap.size (bar b)) := X1.out.kept hb9 X1.out.lt; have B9 : Hid (Below w.heap.size w w9) := B1.out.trans (hb9.mono B1.out.size); obtain ⟨a0, a1, a2, a3, a4, a5, a6, a7, a8⟩ := Q9.out.fields; obtain ⟨x0, x1, x2, x3, x4, x5, x6, x7, x8⟩ := X9.out.fields))
    go_ret
    exact ⟨rfl, B9.out⟩
  | true =>
    rw [hO, hc] at hA
    rw [hc] at kS
    cases hq : ((b.li : Int) != 1) with
    | false =>
      rw [hq] at hA
      have hR : alF t = 0 := by rw [hA]; simp [*]
      rw [hR]
      clear hA hO hc hR
      go_enter Tryz.func60, Tryz.ntmps60
      go_wp2_with (first
        | (go_at_call 95; refine kB.mono ?_; rintro e w1 ⟨he, hb1⟩; rw [Nb.arr] at he; subst he; clear kB a0 a1 a2 a3 a4 a5 a6 a7 a8; have A1 := alloc_below w1 (.cells #[.int .i64 (bar b).kind, .int .u64 (bar b).num, .bool (bar b).neg, .string (bar b).dig, .int .i64 (bar b).exp, .string (bar b).txt, .slice (bar b).ab (bar b).lb (bar b).cb, .slice (bar b).ak (bar b).lk (bar b).ck, .slice (bar b).ai (bar b).li (bar b).ci] 26); have b1 : Below (w.alloc (.cells b.arr 26)).heap.size (w.alloc (.cells b.arr 26)) (w1.alloc (.cells #[.int .i64 (bar b).kind, .int .u64 (bar b).num, .bool (bar b).neg, .string (bar b).dig, .int .i64 (bar b).exp, .string (bar b).txt, .slice (bar b).ab (bar b).lb (bar b).cb, .slice (bar b).ak (bar b).lk (bar b).ck, .slice (bar b).ai (bar b).li (bar b).ci] 26)) := hb1.trans (A1.mono hb1.size); have Q1 : Hid (NBox (w1.alloc (.cells #[.int .i64 (bar b).kind, .int .u64 (bar b).num, .bool (bar b).neg, .string (bar b).dig, .int .i64 (bar b).exp, .string (bar b).txt, .slice (bar b).ab (bar b).lb (bar b).cb, .slice (bar b).ak (bar b).lk (bar b).ck, .slice (bar b).ai (bar b).li (bar b).ci] 26)) w.heap.size b) := Q0.out.kept b1 Q0.out.lt; have X1 : Hid (NBox (w1.alloc (.cells #[.int .i64 (bar b).kind, .int .u64 (bar b).num, .bool (bar b).neg, .string (bar b).dig, .int .i64 (bar b).exp, .string (bar b).txt, .slice (bar b).ab (bar b).lb (bar b).cb, .slice (bar b).ak (bar b).lk (bar b).ck, .slice (bar b).ai (bar b).li (bar b).ci] 26)) w1.heap.size (bar b)) := nbox_new w1 (bar b); have B1 : Hid (Below w.heap.size w (w1.alloc (.cells #[.int .i64 (bar b).kind, .int .u64 (bar b).num, .bool (bar b).neg, .string (bar b).dig, .int .i64 (bar b).exp, .string (bar b).txt, .slice (bar b).ab (bar b).lb (bar b).cb, .slice (bar b).ak (bar b).lk (bar b).ck, .slice (bar b).ai (bar b).li (bar b).ci] 26))) := B0.out.trans (b1.mono B0.out.size); obtain ⟨a0, a1, a2, a3, a4, a5, a6, a7, a8⟩ := Q1.out.fields; obtain ⟨x0, x1, x2, x3, x4, x5, x6, x7, x8⟩ := X1.out.fields)
        | (have kS1 := kS.out _ B1.out; go_at_call 33; refine kS1.mono ?_; rintro e w9 ⟨rfl, hb9⟩; clear kS1; clear a0 a1 a2 a3 a4 a5 a6 a7 a8 x0 x1 x2 x3 x4 x5 x6 x7 x8; have Q9 : Hid (NBox w9 w.heap.size b) := Q1.out.kept hb9 Q1.out.lt; have X9 : Hid (NBox w9 w1.heap.size (bar b)) := X1.out.kept hb9 X1.out.lt; have B9 : Hid (Below w.heap.size w w9) := B1.out.trans (hb9.mono B1.out.size); obtain ⟨a0, a1, a2, a3, a4, a5, a6, a7, a8⟩ := Q9.out.fields; obtain ⟨x0, x1, x2, x3, x4, x5, x6, x7, x8⟩ := X9.out.fields))
      go_ret
      exact ⟨rfl, B9.out⟩
    | true =>
      rw [hq] at hA
      have hR : alF t = 12 := by rw [hA]; simp [*]
      rw [hR]
      clear hA hO hc hR
      go_enter Tryz.func60, Tryz.ntmps60
      go_wp2_with (first
        | (go_at_call 95; refine kB.mono ?_; rintro e w1 ⟨he, hb1⟩; rw [Nb.arr] at he; subst he; clear kB a0 a1 a2 a3 a4 a5 a6 a7 a8; have A1 := alloc_below w1 (.cells #[.int .i64 (bar b).kind, .int .u64 (bar b).num, .bool (bar b).neg, .string (bar b).dig, .int .i64 (bar b).exp, .string (bar b).txt, .slice (bar b).ab (bar b).lb (bar b).cb, .slice (bar b).ak (bar b).lk (bar b).ck, .slice (bar b).ai (bar b).li (bar b).ci] 26); have b1 : Below (w.alloc (.cells b.arr 26)).heap.size (w.alloc (.cells b.arr 26)) (w1.alloc (.cells #[.int .i64 (bar b).kind, .int .u64 (bar b).num, .bool (bar b).neg, .string (bar b).dig, .int .i64 (bar b).exp, .string (bar b).txt, .slice (bar b).ab (bar b).lb (bar b).cb, .slice (bar b).ak (bar b).lk (bar b).ck, .slice (bar b).ai (bar b).li (bar b).ci] 26)) := hb1.trans (A1.mono hb1.size); have Q1 : Hid (NBox (w1.alloc (.cells #[.int .i64 (bar b).kind, .int .u64 (bar b).num, .bool (bar b).neg, .string (bar b).dig, .int .i64 (bar b).exp, .string (bar b).txt, .slice (bar b).ab (bar b).lb (bar b).cb, .slice (bar b).ak (bar b).lk (bar b).ck, .slice (bar b).ai (bar b).li (bar b).ci] 26)) w.heap.size b) := Q0.out.kept b1 Q0.out.lt; have X1 : Hid (NBox (w1.alloc (.cells #[.int .i64 (bar b).kind, .int .u64 (bar b).num, .bool (bar b).neg, .string (bar b).dig, .int .i64 (bar b).exp, .string (bar b).txt, .slice (bar b).ab (bar b).lb (bar b).cb, .slice (bar b).ak (bar b).lk (bar b).ck, .slice (bar b).ai (bar b).li (bar b).ci] 26)) w1.heap.size (bar b)) := nbox_new w1 (bar b); have B1 : Hid (Below w.heap.size w (w1.alloc (.cells #[.int .i64 (bar b).kind, .int .u64 (bar b).num, .bool (bar b).neg, .string (bar b).dig, .int .i64 (bar b).exp, .string (bar b).txt, .slice (bar b).ab (bar b).lb (bar b).cb, .slice (bar b).ak (bar b).lk (bar b).ck, .slice (bar b).ai (bar b).li (bar b).ci] 26))) := B0.out.trans (b1.mono B0.out.size); obtain ⟨a0, a1, a2, a3, a4, a5, a6, a7, a8⟩ := Q1.out.fields; obtain ⟨x0, x1, x2, x3, x4, x5, x6, x7, x8⟩ := X1.out.fields)
        | (have kS1 := kS.out _ B1.out; go_at_call 33; refine kS1.mono ?_; rintro e w9 ⟨rfl, hb9⟩; clear kS1; clear a0 a1 a2 a3 a4 a5 a6 a7 a8 x0 x1 x2 x3 x4 x5 x6 x7 x8; have Q9 : Hid (NBox w9 w.heap.size b) := Q1.out.kept hb9 Q1.out.lt; have X9 : Hid (NBox w9 w1.heap.size (bar b)) := X1.out.kept hb9 X1.out.lt; have B9 : Hid (Below w.heap.size w w9) := B1.out.trans (hb9.mono B1.out.size); obtain ⟨a0, a1, a2, a3, a4, a5, a6, a7, a8⟩ := Q9.out.fields; obtain ⟨x0, x1, x2, x3, x4, x5, x6, x7, x8⟩ := X9.out.fields))
      go_ret
      exact ⟨rfl, B9.out⟩
set_option maxHeartbeats 8000000 in
set_option maxRecDepth 100000 in
theorem ealone_k10 {D : Nat} {t : Tr} {b : Nb} {w : World} (hN : Nd (D + 1) w b t) (hK : b.kind = 10) : Calls Tryz.prog 60 #[.agg b.arr] w fun e w' => e = .returned (.int .i64 (alF t)) ∧ Below w.heap.size w w' := by
  have hal := alloc_below w (.cells b.arr 26)
  have B0 : Hid (Below w.heap.size w (w.alloc (.cells b.arr 26))) := hal
  have Q0 : Hid (NBox (w.alloc (.cells b.arr 26)) w.heap.size b) := nbox_new w b
  obtain ⟨a0, a1, a2, a3, a4, a5, a6, a7, a8⟩ := (nbox_new w b).fields
  have rk := hN.2.2.2.1.2.1
  have ri := hN.2.2.2.2.2.1
  have kB := bare_any b (w.alloc (.cells b.arr 26))
  have kS : Hid (∀ w', Below w.heap.size w w' → Calls Tryz.prog 33 #[.agg (bar b).arr, .agg b.arr] w' fun e w'' => e = .returned (.bool t.clean) ∧ Below w'.heap.size w' w'') := fun w' hb => esam_any (nd_bar (hN.kept hb)) (hN.kept hb) (Tr.clean_iff t)
  have hk : b.kind = t.kind := hN.1.1
  have hnum : b.num = t.num := hN.1.2.1
  have hneg : b.neg = t.neg := hN.1.2.2.1
  have hdig : b.dig = t.dig := hN.1.2.2.2.1
  have hexp : b.exp = t.exp := hN.1.2.2.2.2.1
  have htxt : b.txt = t.txt := hN.1.2.2.2.2.2
  have hlb : t.bytes.length = b.lb := hN.2.2.1.1
  have hlk : t.keys.length = b.lk := hN.2.2.2.1.1
  have hli : t.kids.length = b.li := hN.2.2.2.2.1
  have mb1 := hN.2.2.1.2.1.1
  have mb2 := hN.2.2.1.2.1.2.1
  have mk1 := rk.1
  have mk2 := rk.2.1
  have mi1 := ri.1
  have mi2 := ri.2.1
  unfold maxLen at mb2 mk2 mi2
  have mt : b.txt.size ≤ 140737488351232 := by rw [htxt]; exact hN.2.1.2.2.2.2
  have hA : alF t = if (b.kind = 5 ∧ 4096 < b.txt.size) ∨ (b.kind = 6 ∧ 4096 < b.lb) then 8
    else if b.kind = 5 ∧ gtx b.txt = false then 6
    else if b.kind = 2 ∧ (rt b.dig = false ∨ (b.neg = true ∧ b.dig = ⟨#[48]⟩)) then 11
    else if b.kind = 3 ∧ rdN b.neg b.dig b.exp = false then 11
    else if t.odd = true then 12 else 0 := by
    rw [hk, hneg, hdig, hexp, htxt, ← hlb]; rfl
  have hO := odd_doc hN
  have hkk : Hid (b.kind = t.kind) := hk
  clear hneg hdig hexp htxt hlb hlk hli hnum hN hk hal rk ri
  have e1 : (b.kind == 1) = false := by rw [hK]; decide
  have e2 : (b.kind == 2) = false := by rw [hK]; decide
  have e3 : (b.kind == 3) = false := by rw [hK]; decide
  have e5 : (b.kind == 5) = false := by rw [hK]; decide
  have e6 : (b.kind == 6) = false := by rw [hK]; decide
  have e8 : (b.kind == 8) = false := by rw [hK]; decide
  have e9 : (b.kind == 9) = false := by rw [hK]; decide
  have e10 : (b.kind == 10) = true := by rw [hK]; decide
  have d0 : decide (b.kind < 0) = false := by rw [hK]; decide
  have d10 : decide (10 < b.kind) = false := by rw [hK]; decide
  rw [if_neg (by omega), if_neg (by omega), if_neg (by omega), if_neg (by omega)] at hA
  rw [d0, d10, e1, e8, e9, e10] at hO
  clear hK
  have kP : ∀ w0, Calls Tryz.prog 101 #[.int .u64 b.num] w0 fun e w' => e = .returned (.bool (Tr.smp b.num)) ∧ w' = w0 := fun w0 => simple_any b.num w0
  cases hc : t.clean with
  | false =>
    rw [hO, hc] at hA
    rw [hc] at kS
    have hR : alF t = 12 := by rw [hA]; simp
    rw [hR]
    clear hA hO hc hR
    go_enter Tryz.func60, Tryz.ntmps60
    go_wp2_with (first
      | (go_at_call 95; refine kB.mono ?_; rintro e w1 ⟨he, hb1⟩; rw [Nb.arr] at he; subst he; clear kB a0 a1 a2 a3 a4 a5 a6 a7 a8; have A1 := alloc_below w1 (.cells #[.int .i64 (bar b).kind, .int .u64 (bar b).num, .bool (bar b).neg, .string (bar b).dig, .int .i64 (bar b).exp, .string (bar b).txt, .slice (bar b).ab (bar b).lb (bar b).cb, .slice (bar b).ak (bar b).lk (bar b).ck, .slice (bar b).ai (bar b).li (bar b).ci] 26); have b1 : Below (w.alloc (.cells b.arr 26)).heap.size (w.alloc (.cells b.arr 26)) (w1.alloc (.cells #[.int .i64 (bar b).kind, .int .u64 (bar b).num, .bool (bar b).neg, .string (bar b).dig, .int .i64 (bar b).exp, .string (bar b).txt, .slice (bar b).ab (bar b).lb (bar b).cb, .slice (bar b).ak (bar b).lk (bar b).ck, .slice (bar b).ai (bar b).li (bar b).ci] 26)) := hb1.trans (A1.mono hb1.size); have Q1 : Hid (NBox (w1.alloc (.cells #[.int .i64 (bar b).kind, .int .u64 (bar b).num, .bool (bar b).neg, .string (bar b).dig, .int .i64 (bar b).exp, .string (bar b).txt, .slice (bar b).ab (bar b).lb (bar b).cb, .slice (bar b).ak (bar b).lk (bar b).ck, .slice (bar b).ai (bar b).li (bar b).ci] 26)) w.heap.size b) := Q0.out.kept b1 Q0.out.lt; have X1 : Hid (NBox (w1.alloc (.cells #[.int .i64 (bar b).kind, .int .u64 (bar b).num, .bool (bar b).neg, .string (bar b).dig, .int .i64 (bar b).exp, .string (bar b).txt, .slice (bar b).ab (bar b).lb (bar b).cb, .slice (bar b).ak (bar b).lk (bar b).ck, .slice (bar b).ai (bar b).li (bar b).ci] 26)) w1.heap.size (bar b)) := nbox_new w1 (bar b); have B1 : Hid (Below w.heap.size w (w1.alloc (.cells #[.int .i64 (bar b).kind, .int .u64 (bar b).num, .bool (bar b).neg, .string (bar b).dig, .int .i64 (bar b).exp, .string (bar b).txt, .slice (bar b).ab (bar b).lb (bar b).cb, .slice (bar b).ak (bar b).lk (bar b).ck, .slice (bar b).ai (bar b).li (bar b).ci] 26))) := B0.out.trans (b1.mono B0.out.size); obtain ⟨a0, a1, a2, a3, a4, a5, a6, a7, a8⟩ := Q1.out.fields; obtain ⟨x0, x1, x2, x3, x4, x5, x6, x7, x8⟩ := X1.out.fields)
      | (have kS1 := kS.out _ B1.out; go_at_call 33; refine kS1.mono ?_; rintro e w9 ⟨rfl, hb9⟩; clear kS1; clear a0 a1 a2 a3 a4 a5 a6 a7 a8 x0 x1 x2 x3 x4 x5 x6 x7 x8; have Q9 : Hid (NBox w9 w.heap.size b) := Q1.out.kept hb9 Q1.out.lt; have X9 : Hid (NBox w9 w1.heap.size (bar b)) := X1.out.kept hb9 X1.out.lt; have B9 : Hid (Below w.heap.size w w9) := B1.out.trans (hb9.mono B1.out.size); obtain ⟨a0, a1, a2, a3, a4, a5, a6, a7, a8⟩ := Q9.out.fields; obtain ⟨x0, x1, x2, x3, x4, x5, x6, x7, x8⟩ := X9.out.fields))
    go_ret
    exact ⟨rfl, B9.out⟩
  | true =>
    rw [hO, hc] at hA
    rw [hc] at kS
    cases hq : Tr.smp b.num with
    | false =>
      rw [hq] at kP
      rw [hq] at hA
      have hR : alF t = 12 := by rw [hA]; simp [*]
      rw [hR]
      clear hA hO hc hR
      go_enter Tryz.func60, Tryz.ntmps60
      go_wp2_with (first
        | (go_at_call 95; refine kB.mono ?_; rintro e w1 ⟨he, hb1⟩; rw [Nb.arr] at he; subst he; clear kB a0 a1 a2 a3 a4 a5 a6 a7 a8; have A1 := alloc_below w1 (.cells #[.int .i64 (bar b).kind, .int .u64 (bar b).num, .bool (bar b).neg, .string (bar b).dig, .int .i64 (bar b).exp, .string (bar b).txt, .slice (bar b).ab (bar b).lb (bar b).cb, .slice (bar b).ak (bar b).lk (bar b).ck, .slice (bar b).ai (bar b).li (bar b).ci] 26); have b1 : Below (w.alloc (.cells b.arr 26)).heap.size (w.alloc (.cells b.arr 26)) (w1.alloc (.cells #[.int .i64 (bar b).kind, .int .u64 (bar b).num, .bool (bar b).neg, .string (bar b).dig, .int .i64 (bar b).exp, .string (bar b).txt, .slice (bar b).ab (bar b).lb (bar b).cb, .slice (bar b).ak (bar b).lk (bar b).ck, .slice (bar b).ai (bar b).li (bar b).ci] 26)) := hb1.trans (A1.mono hb1.size); have Q1 : Hid (NBox (w1.alloc (.cells #[.int .i64 (bar b).kind, .int .u64 (bar b).num, .bool (bar b).neg, .string (bar b).dig, .int .i64 (bar b).exp, .string (bar b).txt, .slice (bar b).ab (bar b).lb (bar b).cb, .slice (bar b).ak (bar b).lk (bar b).ck, .slice (bar b).ai (bar b).li (bar b).ci] 26)) w.heap.size b) := Q0.out.kept b1 Q0.out.lt; have X1 : Hid (NBox (w1.alloc (.cells #[.int .i64 (bar b).kind, .int .u64 (bar b).num, .bool (bar b).neg, .string (bar b).dig, .int .i64 (bar b).exp, .string (bar b).txt, .slice (bar b).ab (bar b).lb (bar b).cb, .slice (bar b).ak (bar b).lk (bar b).ck, .slice (bar b).ai (bar b).li (bar b).ci] 26)) w1.heap.size (bar b)) := nbox_new w1 (bar b); have B1 : Hid (Below w.heap.size w (w1.alloc (.cells #[.int .i64 (bar b).kind, .int .u64 (bar b).num, .bool (bar b).neg, .string (bar b).dig, .int .i64 (bar b).exp, .string (bar b).txt, .slice (bar b).ab (bar b).lb (bar b).cb, .slice (bar b).ak (bar b).lk (bar b).ck, .slice (bar b).ai (bar b).li (bar b).ci] 26))) := B0.out.trans (b1.mono B0.out.size); obtain ⟨a0, a1, a2, a3, a4, a5, a6, a7, a8⟩ := Q1.out.fields; obtain ⟨x0, x1, x2, x3, x4, x5, x6, x7, x8⟩ := X1.out.fields)
        | (have kS1 := kS.out _ B1.out; go_at_call 33; refine kS1.mono ?_; rintro e w9 ⟨rfl, hb9⟩; clear kS1; clear a0 a1 a2 a3 a4 a5 a6 a7 a8 x0 x1 x2 x3 x4 x5 x6 x7 x8; have Q9 : Hid (NBox w9 w.heap.size b) := Q1.out.kept hb9 Q1.out.lt; have X9 : Hid (NBox w9 w1.heap.size (bar b)) := X1.out.kept hb9 X1.out.lt; have B9 : Hid (Below w.heap.size w w9) := B1.out.trans (hb9.mono B1.out.size); obtain ⟨a0, a1, a2, a3, a4, a5, a6, a7, a8⟩ := Q9.out.fields; obtain ⟨x0, x1, x2, x3, x4, x5, x6, x7, x8⟩ := X9.out.fields)
        | (go_at_call 101; refine (kP _).mono ?_; rintro e wz ⟨rfl, hwz⟩; subst hwz; have BZ := B9))
      go_ret
      exact ⟨rfl, BZ.out⟩
    | true =>
      rw [hq] at kP
      rw [hq] at hA
      have hR : alF t = 0 := by rw [hA]; simp [*]
      rw [hR]
      clear hA hO hc hR
      go_enter Tryz.func60, Tryz.ntmps60
      go_wp2_with (first
        | (go_at_call 95; refine kB.mono ?_; rintro e w1 ⟨he, hb1⟩; rw [Nb.arr] at he; subst he; clear kB a0 a1 a2 a3 a4 a5 a6 a7 a8; have A1 := alloc_below w1 (.cells #[.int .i64 (bar b).kind, .int .u64 (bar b).num, .bool (bar b).neg, .string (bar b).dig, .int .i64 (bar b).exp, .string (bar b).txt, .slice (bar b).ab (bar b).lb (bar b).cb, .slice (bar b).ak (bar b).lk (bar b).ck, .slice (bar b).ai (bar b).li (bar b).ci] 26); have b1 : Below (w.alloc (.cells b.arr 26)).heap.size (w.alloc (.cells b.arr 26)) (w1.alloc (.cells #[.int .i64 (bar b).kind, .int .u64 (bar b).num, .bool (bar b).neg, .string (bar b).dig, .int .i64 (bar b).exp, .string (bar b).txt, .slice (bar b).ab (bar b).lb (bar b).cb, .slice (bar b).ak (bar b).lk (bar b).ck, .slice (bar b).ai (bar b).li (bar b).ci] 26)) := hb1.trans (A1.mono hb1.size); have Q1 : Hid (NBox (w1.alloc (.cells #[.int .i64 (bar b).kind, .int .u64 (bar b).num, .bool (bar b).neg, .string (bar b).dig, .int .i64 (bar b).exp, .string (bar b).txt, .slice (bar b).ab (bar b).lb (bar b).cb, .slice (bar b).ak (bar b).lk (bar b).ck, .slice (bar b).ai (bar b).li (bar b).ci] 26)) w.heap.size b) := Q0.out.kept b1 Q0.out.lt; have X1 : Hid (NBox (w1.alloc (.cells #[.int .i64 (bar b).kind, .int .u64 (bar b).num, .bool (bar b).neg, .string (bar b).dig, .int .i64 (bar b).exp, .string (bar b).txt, .slice (bar b).ab (bar b).lb (bar b).cb, .slice (bar b).ak (bar b).lk (bar b).ck, .slice (bar b).ai (bar b).li (bar b).ci] 26)) w1.heap.size (bar b)) := nbox_new w1 (bar b); have B1 : Hid (Below w.heap.size w (w1.alloc (.cells #[.int .i64 (bar b).kind, .int .u64 (bar b).num, .bool (bar b).neg, .string (bar b).dig, .int .i64 (bar b).exp, .string (bar b).txt, .slice (bar b).ab (bar b).lb (bar b).cb, .slice (bar b).ak (bar b).lk (bar b).ck, .slice (bar b).ai (bar b).li (bar b).ci] 26))) := B0.out.trans (b1.mono B0.out.size); obtain ⟨a0, a1, a2, a3, a4, a5, a6, a7, a8⟩ := Q1.out.fields; obtain ⟨x0, x1, x2, x3, x4, x5, x6, x7, x8⟩ := X1.out.fields)
        | (have kS1 := kS.out _ B1.out; go_at_call 33; refine kS1.mono ?_; rintro e w9 ⟨rfl, hb9⟩; clear kS1; clear a0 a1 a2 a3 a4 a5 a6 a7 a8 x0 x1 x2 x3 x4 x5 x6 x7 x8; have Q9 : Hid (NBox w9 w.heap.size b) := Q1.out.kept hb9 Q1.out.lt; have X9 : Hid (NBox w9 w1.heap.size (bar b)) := X1.out.kept hb9 X1.out.lt; have B9 : Hid (Below w.heap.size w w9) := B1.out.trans (hb9.mono B1.out.size); obtain ⟨a0, a1, a2, a3, a4, a5, a6, a7, a8⟩ := Q9.out.fields; obtain ⟨x0, x1, x2, x3, x4, x5, x6, x7, x8⟩ := X9.out.fields)
        | (go_at_call 101; refine (kP _).mono ?_; rintro e wz ⟨rfl, hwz⟩; subst hwz; have BZ := B9))
      go_ret
      exact ⟨rfl, BZ.out⟩
end Go.Proofs.YtnjbppfanmmifaaGreatDoor
namespace Go.Proofs.YtnjbppfanmmifaaGreatDoor
open Go.RowKit
set_option linter.unusedVariables false

set_option maxHeartbeats 8000000 in
set_option maxRecDepth 100000 in
theorem ealone_k6 {D : Nat} {t : Tr} {b : Nb} {w : World} (hN : Nd (D + 1) w b t) (hK : b.kind = 6) : Calls Tryz.prog 60 #[.agg b.arr] w fun e w' => e = .returned (.int .i64 (alF t)) ∧ Below w.heap.size w w' := by
  have hal := alloc_below w (.cells b.arr 26)
  have B0 : Hid (Below w.heap.size w (w.alloc (.cells b.arr 26))) := hal
  have Q0 : Hid (NBox (w.alloc (.cells b.arr 26)) w.heap.size b) := nbox_new w b
  obtain ⟨a0, a1, a2, a3, a4, a5, a6, a7, a8⟩ := (nbox_new w b).fields
  have rk := hN.2.2.2.1.2.1
  have ri := hN.2.2.2.2.2.1
  have kB := bare_any b (w.alloc (.cells b.arr 26))
  have kS : Hid (∀ w', Below w.heap.size w w' → Calls Tryz.prog 33 #[.agg (bar b).arr, .agg b.arr] w' fun e w'' => e = .returned (.bool t.clean) ∧ Below w'.heap.size w' w'') := fun w' hb => esam_any (nd_bar (hN.kept hb)) (hN.kept hb) (Tr.clean_iff t)
  have hk : b.kind = t.kind := hN.1.1
  have hnum : b.num = t.num := hN.1.2.1
  have hneg : b.neg = t.neg := hN.1.2.2.1
  have hdig : b.dig = t.dig := hN.1.2.2.2.1
  have hexp : b.exp = t.exp := hN.1.2.2.2.2.1
  have htxt : b.txt = t.txt := hN.1.2.2.2.2.2
  have hlb : t.bytes.length = b.lb := hN.2.2.1.1
  have hlk : t.keys.length = b.lk := hN.2.2.2.1.1
  have hli : t.kids.length = b.li := hN.2.2.2.2.1
  have mb1 := hN.2.2.1.2.1.1
  have mb2 := hN.2.2.1.2.1.2.1
  have mk1 := rk.1
  have mk2 := rk.2.1
  have mi1 := ri.1
  have mi2 := ri.2.1
  unfold maxLen at mb2 mk2 mi2
  have mt : b.txt.size ≤ 140737488351232 := by rw [htxt]; exact hN.2.1.2.2.2.2
  have hA : alF t = if (b.kind = 5 ∧ 4096 < b.txt.size) ∨ (b.kind = 6 ∧ 4096 < b.lb) then 8
    else if b.kind = 5 ∧ gtx b.txt = false then 6
    else if b.kind = 2 ∧ (rt b.dig = false ∨ (b.neg = true ∧ b.dig = ⟨#[48]⟩)) then 11
    else if b.kind = 3 ∧ rdN b.neg b.dig b.exp = false then 11
    else if t.odd = true then 12 else 0 := by
    rw [hk, hneg, hdig, hexp, htxt, ← hlb]; rfl
  have hO := odd_doc hN
  have hkk : Hid (b.kind = t.kind) := hk
  clear hneg hdig hexp htxt hlb hlk hli hnum hN hk hal rk ri
  have e1 : (b.kind == 1) = false := by rw [hK]; decide
  have e2 : (b.kind == 2) = false := by rw [hK]; decide
  have e3 : (b.kind == 3) = false := by rw [hK]; decide
  have e5 : (b.kind == 5) = false := by rw [hK]; decide
  have e6 : (b.kind == 6) = true := by rw [hK]; decide
  have e8 : (b.kind == 8) = false := by rw [hK]; decide
  have e9 : (b.kind == 9) = false := by rw [hK]; decide
  have e10 : (b.kind == 10) = false := by rw [hK]; decide
  have d0 : decide (b.kind < 0) = false := by rw [hK]; decide
  have d10 : decide (10 < b.kind) = false := by rw [hK]; decide
  rcases Nat.lt_or_ge 4096 b.lb with hT | hT
  · have dT : decide ((4096 : Int) < ((b.lb : Nat) : Int)) = true := by simp; omega
    rw [if_pos (by omega)] at hA
    rw [hA]
    clear hA hO hT hK kS
    go_enter Tryz.func60, Tryz.ntmps60
    go_wp2_with (first
      | (go_at_call 95; refine kB.mono ?_; rintro e w1 ⟨he, hb1⟩; rw [Nb.arr] at he; subst he; clear kB a0 a1 a2 a3 a4 a5 a6 a7 a8; have A1 := alloc_below w1 (.cells #[.int .i64 (bar b).kind, .int .u64 (bar b).num, .bool (bar b).neg, .string (bar b).dig, .int .i64 (bar b).exp, .string (bar b).txt, .slice (bar b).ab (bar b).lb (bar b).cb, .slice (bar b).ak (bar b).lk (bar b).ck, .slice (bar b).ai (bar b).li (bar b).ci] 26); have b1 : Below (w.alloc (.cells b.arr 26)).heap.size (w.alloc (.cells b.arr 26)) (w1.alloc (.cells #[.int .i64 (bar b).kind, .int .u64 (bar b).num, .bool (bar b).neg, .string (bar b).dig, .int .i64 (bar b).exp, .string (bar b).txt, .slice (bar b).ab (bar b).lb (bar b).cb, .slice (bar b).ak (bar b).lk (bar b).ck, .slice (bar b).ai (bar b).li (bar b).ci] 26)) := hb1.trans (A1.mono hb1.size); have Q1 : Hid (NBox (w1.alloc (.cells #[.int .i64 (bar b).kind, .int .u64 (bar b).num, .bool (bar b).neg, .string (bar b).dig, .int .i64 (bar b).exp, .string (bar b).txt, .slice (bar b).ab (bar b).lb (bar b).cb, .slice (bar b).ak (bar b).lk (bar b).ck, .slice (bar b).ai (bar b).li (bar b).ci] 26)) w.heap.size b) := Q0.out.kept b1 Q0.out.lt; have X1 : Hid (NBox (w1.alloc (.cells #[.int .i64 (bar b).kind, .int .u64 (bar b).num, .bool (bar b).neg, .string (bar b).dig, .int .i64 (bar b).exp, .string (bar b).txt, .slice (bar b).ab (bar b).lb (bar b).cb, .slice (bar b).ak (bar b).lk (bar b).ck, .slice (bar b).ai (bar b).li (bar b).ci] 26)) w1.heap.size (bar b)) := nbox_new w1 (bar b); have B1 : Hid (Below w.heap.size w (w1.alloc (.cells #[.int .i64 (bar b).kind, .int .u64 (bar b).num, .bool (bar b).neg, .string (bar b).dig, .int .i64 (bar b).exp, .string (bar b).txt, .slice (bar b).ab (bar b).lb (bar b).cb, .slice (bar b).ak (bar b).lk (bar b).ck, .slice (bar b).ai (bar b).li (bar b).ci] 26))) := B0.out.trans (b1.mono B0.out.size); obtain ⟨a0, a1, a2, a3, a4, a5, a6, a7, a8⟩ := Q1.out.fields; obtain ⟨x0, x1, x2, x3, x4, x5, x6, x7, x8⟩ := X1.out.fields))
    go_ret
    exact ⟨rfl, B1.out⟩
  have dT : decide ((4096 : Int) < ((b.lb : Nat) : Int)) = false := by simp; omega
  rw [if_neg (by omega), if_neg (by omega), if_neg (by omega), if_neg (by omega)] at hA
  rw [d0, d10, e1, e8, e9, e10] at hO
  clear hK hT
  cases hc : t.clean with
  | false =>
    rw [hO, hc] at hA
    rw [hc] at kS
    have hR : alF t = 12 := by rw [hA]; simp
    rw [hR]
    clear hA hO hc hR
    go_enter Tryz.func60, Tryz.ntmps60
    go_wp2_with (first
      | (go_at_call 95; refine kB.mono ?_; rintro e w1 ⟨he, hb1⟩; rw [Nb.arr] at he; subst he; clear kB a0 a1 a2 a3 a4 a5 a6 a7 a8; have A1 := alloc_below w1 (.cells #[.int .i64 (bar b).kind, .int .u64 (bar b).num, .bool (bar b).neg, .string (bar b).dig, .int .i64 (bar b).exp, .string (bar b).txt, .slice (bar b).ab (bar b).lb (bar b).cb, .slice (bar b).ak (bar b).lk (bar b).ck, .slice (bar b).ai (bar b).li (bar b).ci] 26); have b1 : Below (w.alloc (.cells b.arr 26)).heap.size (w.alloc (.cells b.arr 26)) (w1.alloc (.cells #[.int .i64 (bar b).kind, .int .u64 (bar b).num, .bool (bar b).neg, .string (bar b).dig, .int .i64 (bar b).exp, .string (bar b).txt, .slice (bar b).ab (bar b).lb (bar b).cb, .slice (bar b).ak (bar b).lk (bar b).ck, .slice (bar b).ai (bar b).li (bar b).ci] 26)) := hb1.trans (A1.mono hb1.size); have Q1 : Hid (NBox (w1.alloc (.cells #[.int .i64 (bar b).kind, .int .u64 (bar b).num, .bool (bar b).neg, .string (bar b).dig, .int .i64 (bar b).exp, .string (bar b).txt, .slice (bar b).ab (bar b).lb (bar b).cb, .slice (bar b).ak (bar b).lk (bar b).ck, .slice (bar b).ai (bar b).li (bar b).ci] 26)) w.heap.size b) := Q0.out.kept b1 Q0.out.lt; have X1 : Hid (NBox (w1.alloc (.cells #[.int .i64 (bar b).kind, .int .u64 (bar b).num, .bool (bar b).neg, .string (bar b).dig, .int .i64 (bar b).exp, .string (bar b).txt, .slice (bar b).ab (bar b).lb (bar b).cb, .slice (bar b).ak (bar b).lk (bar b).ck, .slice (bar b).ai (bar b).li (bar b).ci] 26)) w1.heap.size (bar b)) := nbox_new w1 (bar b); have B1 : Hid (Below w.heap.size w (w1.alloc (.cells #[.int .i64 (bar b).kind, .int .u64 (bar b).num, .bool (bar b).neg, .string (bar b).dig, .int .i64 (bar b).exp, .string (bar b).txt, .slice (bar b).ab (bar b).lb (bar b).cb, .slice (bar b).ak (bar b).lk (bar b).ck, .slice (bar b).ai (bar b).li (bar b).ci] 26))) := B0.out.trans (b1.mono B0.out.size); obtain ⟨a0, a1, a2, a3, a4, a5, a6, a7, a8⟩ := Q1.out.fields; obtain ⟨x0, x1, x2, x3, x4, x5, x6, x7, x8⟩ := X1.out.fields)
      | (have kS1 := kS.out _ B1.out; go_at_call 33; refine kS1.mono ?_; rintro e w9 ⟨rfl, hb9⟩; clear kS1; clear a0 a1 a2 a3 a4 a5 a6 a7 a8 x0 x1 x2 x3 x4 x5 x6 x7 x8; have Q9 : Hid (NBox w9 w.heap.size b) := Q1.out.kept hb9 Q1.out.lt; have X9 : Hid (NBox w9 w1.heap.size (bar b)) := X1.out.kept hb9 X1.out.lt; have B9 : Hid (Below w.heap.size w w9) := B1.out.trans (hb9.mono B1.out.size); obtain ⟨a0, a1, a2, a3, a4, a5, a6, a7, a8⟩ := Q9.out.fields; obtain ⟨x0, x1, x2, x3, x4, x5, x6, x7, x8⟩ := X9.out.fields))
    go_ret
    exact ⟨rfl, B9.out⟩
  | true =>
    rw [hO, hc] at hA
    rw [hc] at kS
    have hR : alF t = 0 := by rw [hA]; simp [*]
    rw [hR]
    clear hA hO hc hR
    go_enter Tryz.func60, Tryz.ntmps60
    go_wp2_with (first
      | (go_at_call 95; refine kB.mono ?_; rintro e w1 ⟨he, hb1⟩; rw [Nb.arr] at he; subst he; clear kB a0 a1 a2 a3 a4 a5 a6 a7 a8; have A1 := alloc_below w1 (.cells #[.int .i64 (bar b).kind, .int .u64 (bar b).num, .bool (bar b).neg, .string (bar b).dig, .int .i64 (bar b).exp, .string (bar b).txt, .slice (bar b).ab (bar b).lb (bar b).cb, .slice (bar b).ak (bar b).lk (bar b).ck, .slice (bar b).ai (bar b).li (bar b).ci] 26); have b1 : Below (w.alloc (.cells b.arr 26)).heap.size (w.alloc (.cells b.arr 26)) (w1.alloc (.cells #[.int .i64 (bar b).kind, .int .u64 (bar b).num, .bool (bar b).neg, .string (bar b).dig, .int .i64 (bar b).exp, .string (bar b).txt, .slice (bar b).ab (bar b).lb (bar b).cb, .slice (bar b).ak (bar b).lk (bar b).ck, .slice (bar b).ai (bar b).li (bar b).ci] 26)) := hb1.trans (A1.mono hb1.size); have Q1 : Hid (NBox (w1.alloc (.cells #[.int .i64 (bar b).kind, .int .u64 (bar b).num, .bool (bar b).neg, .string (bar b).dig, .int .i64 (bar b).exp, .string (bar b).txt, .slice (bar b).ab (bar b).lb (bar b).cb, .slice (bar b).ak (bar b).lk (bar b).ck, .slice (bar b).ai (bar b).li (bar b).ci] 26)) w.heap.size b) := Q0.out.kept b1 Q0.out.lt; have X1 : Hid (NBox (w1.alloc (.cells #[.int .i64 (bar b).kind, .int .u64 (bar b).num, .bool (bar b).neg, .string (bar b).dig, .int .i64 (bar b).exp, .string (bar b).txt, .slice (bar b).ab (bar b).lb (bar b).cb, .slice (bar b).ak (bar b).lk (bar b).ck, .slice (bar b).ai (bar b).li (bar b).ci] 26)) w1.heap.size (bar b)) := nbox_new w1 (bar b); have B1 : Hid (Below w.heap.size w (w1.alloc (.cells #[.int .i64 (bar b).kind, .int .u64 (bar b).num, .bool (bar b).neg, .string (bar b).dig, .int .i64 (bar b).exp, .string (bar b).txt, .slice (bar b).ab (bar b).lb (bar b).cb, .slice (bar b).ak (bar b).lk (bar b).ck, .slice (bar b).ai (bar b).li (bar b).ci] 26))) := B0.out.trans (b1.mono B0.out.size); obtain ⟨a0, a1, a2, a3, a4, a5, a6, a7, a8⟩ := Q1.out.fields; obtain ⟨x0, x1, x2, x3, x4, x5, x6, x7, x8⟩ := X1.out.fields)
      | (have kS1 := kS.out _ B1.out; go_at_call 33; refine kS1.mono ?_; rintro e w9 ⟨rfl, hb9⟩; clear kS1; clear a0 a1 a2 a3 a4 a5 a6 a7 a8 x0 x1 x2 x3 x4 x5 x6 x7 x8; have Q9 : Hid (NBox w9 w.heap.size b) := Q1.out.kept hb9 Q1.out.lt; have X9 : Hid (NBox w9 w1.heap.size (bar b)) := X1.out.kept hb9 X1.out.lt; have B9 : Hid (Below w.heap.size w w9) := B1.out.trans (hb9.mono B1.out.size); obtain ⟨a0, a1, a2, a3, a4, a5, a6, a7, a8⟩ := Q9.out.fields; obtain ⟨x0, x1, x2, x3, x4, x5, x6, x7, x8⟩ := X9.out.fields))
    go_ret
    exact ⟨rfl, B9.out⟩
end Go.Proofs.YtnjbppfanmmifaaGreatDoor
namespace Go.Proofs.YtnjbppfanmmifaaGreatDoor
open Go.RowKit
set_option linter.unusedVariables false

set_option maxHeartbeats 8000000 in
set_option maxRecDepth 100000 in
theorem ealone_k2 {D : Nat} {t : Tr} {b : Nb} {w : World} (hN : Nd (D + 1) w b t) (hK : b.kind = 2) : Calls Tryz.prog 60 #[.agg b.arr] w fun e w' => e = .returned (.int .i64 (alF t)) ∧ Below w.heap.size w w' := by
  have hal := alloc_below w (.cells b.arr 26)
  have B0 : Hid (Below w.heap.size w (w.alloc (.cells b.arr 26))) := hal
  have Q0 : Hid (NBox (w.alloc (.cells b.arr 26)) w.heap.size b) := nbox_new w b
  obtain ⟨a0, a1, a2, a3, a4, a5, a6, a7, a8⟩ := (nbox_new w b).fields
  have rk := hN.2.2.2.1.2.1
  have ri := hN.2.2.2.2.2.1
  have kB := bare_any b (w.alloc (.cells b.arr 26))
  have kS : Hid (∀ w', Below w.heap.size w w' → Calls Tryz.prog 33 #[.agg (bar b).arr, .agg b.arr] w' fun e w'' => e = .returned (.bool t.clean) ∧ Below w'.heap.size w' w'') := fun w' hb => esam_any (nd_bar (hN.kept hb)) (hN.kept hb) (Tr.clean_iff t)
  have hk : b.kind = t.kind := hN.1.1
  have hnum : b.num = t.num := hN.1.2.1
  have hneg : b.neg = t.neg := hN.1.2.2.1
  have hdig : b.dig = t.dig := hN.1.2.2.2.1
  have hexp : b.exp = t.exp := hN.1.2.2.2.2.1
  have htxt : b.txt = t.txt := hN.1.2.2.2.2.2
  have hlb : t.bytes.length = b.lb := hN.2.2.1.1
  have hlk : t.keys.length = b.lk := hN.2.2.2.1.1
  have hli : t.kids.length = b.li := hN.2.2.2.2.1
  have mb1 := hN.2.2.1.2.1.1
  have mb2 := hN.2.2.1.2.1.2.1
  have mk1 := rk.1
  have mk2 := rk.2.1
  have mi1 := ri.1
  have mi2 := ri.2.1
  unfold maxLen at mb2 mk2 mi2
  have mt : b.txt.size ≤ 140737488351232 := by rw [htxt]; exact hN.2.1.2.2.2.2
  have hA : alF t = if (b.kind = 5 ∧ 4096 < b.txt.size) ∨ (b.kind = 6 ∧ 4096 < b.lb) then 8
    else if b.kind = 5 ∧ gtx b.txt = false then 6
    else if b.kind = 2 ∧ (rt b.dig = false ∨ (b.neg = true ∧ b.dig = ⟨#[48]⟩)) then 11
    else if b.kind = 3 ∧ rdN b.neg b.dig b.exp = false then 11
    else if t.odd = true then 12 else 0 := by
    rw [hk, hneg, hdig, hexp, htxt, ← hlb]; rfl
  have hO := odd_doc hN
  have hkk : Hid (b.kind = t.kind) := hk
  clear hneg hdig hexp htxt hlb hlk hli hnum hN hk hal rk ri
  have e1 : (b.kind == 1) = false := by rw [hK]; decide
  have e2 : (b.kind == 2) = true := by rw [hK]; decide
  have e3 : (b.kind == 3) = false := by rw [hK]; decide
  have e5 : (b.kind == 5) = false := by rw [hK]; decide
  have e6 : (b.kind == 6) = false := by rw [hK]; decide
  have e8 : (b.kind == 8) = false := by rw [hK]; decide
  have e9 : (b.kind == 9) = false := by rw [hK]; decide
  have e10 : (b.kind == 10) = false := by rw [hK]; decide
  have d0 : decide (b.kind < 0) = false := by rw [hK]; decide
  have d10 : decide (10 < b.kind) = false := by rw [hK]; decide
  have kI : ∀ w0, Calls Tryz.prog 97 #[.string b.dig] w0 fun e w' => e = .returned (.bool (rt b.dig)) ∧ w' = w0 := fun w0 => xright_any b.dig w0
  rw [if_neg (by omega), if_neg (by omega)] at hA
  cases hr : rt b.dig with
  | false =>
    rw [if_pos ⟨hK, .inl hr⟩] at hA
    rw [hA]
    rw [hr] at kI
    clear hA hO hK hr kS
    go_enter Tryz.func60, Tryz.ntmps60
    go_wp2_with (first
      | (go_at_call 95; refine kB.mono ?_; rintro e w1 ⟨he, hb1⟩; rw [Nb.arr] at he; subst he; clear kB a0 a1 a2 a3 a4 a5 a6 a7 a8; have A1 := alloc_below w1 (.cells #[.int .i64 (bar b).kind, .int .u64 (bar b).num, .bool (bar b).neg, .string (bar b).dig, .int .i64 (bar b).exp, .string (bar b).txt, .slice (bar b).ab (bar b).lb (bar b).cb, .slice (bar b).ak (bar b).lk (bar b).ck, .slice (bar b).ai (bar b).li (bar b).ci] 26); have b1 : Below (w.alloc (.cells b.arr 26)).heap.size (w.alloc (.cells b.arr 26)) (w1.alloc (.cells #[.int .i64 (bar b).kind, .int .u64 (bar b).num, .bool (bar b).neg, .string (bar b).dig, .int .i64 (bar b).exp, .string (bar b).txt, .slice (bar b).ab (bar b).lb (bar b).cb, .slice (bar b).ak (bar b).lk (bar b).ck, .slice (bar b).ai (bar b).li (bar b).ci] 26)) := hb1.trans (A1.mono hb1.size); have Q1 : Hid (NBox (w1.alloc (.cells #[.int .i64 (bar b).kind, .int .u64 (bar b).num, .bool (bar b).neg, .string (bar b).dig, .int .i64 (bar b).exp, .string (bar b).txt, .slice (bar b).ab (bar b).lb (bar b).cb, .slice (bar b).ak (bar b).lk (bar b).ck, .slice (bar b).ai (bar b).li (bar b).ci] 26)) w.heap.size b) := Q0.out.kept b1 Q0.out.lt; have X1 : Hid (NBox (w1.alloc (.cells #[.int .i64 (bar b).kind, .int .u64 (bar b).num, .bool (bar b).neg, .string (bar b).dig, .int .i64 (bar b).exp, .string (bar b).txt, .slice (bar b).ab (bar b).lb (bar b).cb, .slice (bar b).ak (bar b).lk (bar b).ck, .slice (bar b).ai (bar b).li (bar b).ci] 26)) w1.heap.size (bar b)) := nbox_new w1 (bar b); have B1 : Hid (Below w.heap.size w (w1.alloc (.cells #[.int .i64 (bar b).kind, .int .u64 (bar b).num, .bool (bar b).neg, .string (bar b).dig, .int .i64 (bar b).exp, .string (bar b).txt, .slice (bar b).ab (bar b).lb (bar b).cb, .slice (bar b).ak (bar b).lk (bar b).ck, .slice (bar b).ai (bar b).li (bar b).ci] 26))) := B0.out.trans (b1.mono B0.out.size); obtain ⟨a0, a1, a2, a3, a4, a5, a6, a7, a8⟩ := Q1.out.fields; obtain ⟨x0, x1, x2, x3, x4, x5, x6, x7, x8⟩ := X1.out.fields)
      | (go_at_call 97; refine (kI _).mono ?_; rintro e wi ⟨rfl, hwi⟩; subst hwi))
    go_ret
    exact ⟨rfl, B1.out⟩
  | true =>
    rw [hr] at kI
    cases hn : b.neg with
    | true =>
      have hz := eq_size b.dig
      by_cases h0 : b.dig = ⟨#[48]⟩
      · have hz' : (b.dig.toList == [48]) = true := by rw [hz]; exact decide_eq_true h0
        rw [if_pos ⟨hK, .inr ⟨hn, h0⟩⟩] at hA
        rw [hA]
        have hLit : b.arr = #[.int .i64 b.kind, .int .u64 b.num, .bool true, .string b.dig, .int .i64 b.exp, .string b.txt, .slice b.ab b.lb b.cb, .slice b.ak b.lk b.ck, .slice b.ai b.li b.ci] := by rw [Nb.arr, hn]
        have kB' : Calls Tryz.prog 95 #[.agg #[.int .i64 b.kind, .int .u64 b.num, .bool true, .string b.dig, .int .i64 b.exp, .string b.txt, .slice b.ab b.lb b.cb, .slice b.ak b.lk b.ck, .slice b.ai b.li b.ci]] (w.alloc (.cells b.arr 26)) fun e w' => e = .returned (.agg (bar b).arr) ∧ Below (w.alloc (.cells b.arr 26)).heap.size (w.alloc (.cells b.arr 26)) w' := by rw [← hLit]; exact kB
        clear kB kS hLit
        have kB := kB'
        clear kB'
        clear hA hO hK hr h0 hz
        go_enter Tryz.func60, Tryz.ntmps60
        go_wp2_with (first
          | (go_at_call 95; refine kB.mono ?_; rintro e w1 ⟨he, hb1⟩; rw [Nb.arr] at he; subst he; clear kB a0 a1 a2 a3 a4 a5 a6 a7 a8; have A1 := alloc_below w1 (.cells #[.int .i64 (bar b).kind, .int .u64 (bar b).num, .bool (bar b).neg, .string (bar b).dig, .int .i64 (bar b).exp, .string (bar b).txt, .slice (bar b).ab (bar b).lb (bar b).cb, .slice (bar b).ak (bar b).lk (bar b).ck, .slice (bar b).ai (bar b).li (bar b).ci] 26); have b1 : Below (w.alloc (.cells b.arr 26)).heap.size (w.alloc (.cells b.arr 26)) (w1.alloc (.cells #[.int .i64 (bar b).kind, .int .u64 (bar b).num, .bool (bar b).neg, .string (bar b).dig, .int .i64 (bar b).exp, .string (bar b).txt, .slice (bar b).ab (bar b).lb (bar b).cb, .slice (bar b).ak (bar b).lk (bar b).ck, .slice (bar b).ai (bar b).li (bar b).ci] 26)) := hb1.trans (A1.mono hb1.size); have Q1 : Hid (NBox (w1.alloc (.cells #[.int .i64 (bar b).kind, .int .u64 (bar b).num, .bool (bar b).neg, .string (bar b).dig, .int .i64 (bar b).exp, .string (bar b).txt, .slice (bar b).ab (bar b).lb (bar b).cb, .slice (bar b).ak (bar b).lk (bar b).ck, .slice (bar b).ai (bar b).li (bar b).ci] 26)) w.heap.size b) := Q0.out.kept b1 Q0.out.lt; have X1 : Hid (NBox (w1.alloc (.cells #[.int .i64 (bar b).kind, .int .u64 (bar b).num, .bool (bar b).neg, .string (bar b).dig, .int .i64 (bar b).exp, .string (bar b).txt, .slice (bar b).ab (bar b).lb (bar b).cb, .slice (bar b).ak (bar b).lk (bar b).ck, .slice (bar b).ai (bar b).li (bar b).ci] 26)) w1.heap.size (bar b)) := nbox_new w1 (bar b); have B1 : Hid (Below w.heap.size w (w1.alloc (.cells #[.int .i64 (bar b).kind, .int .u64 (bar b).num, .bool (bar b).neg, .string (bar b).dig, .int .i64 (bar b).exp, .string (bar b).txt, .slice (bar b).ab (bar b).lb (bar b).cb, .slice (bar b).ak (bar b).lk (bar b).ck, .slice (bar b).ai (bar b).li (bar b).ci] 26))) := B0.out.trans (b1.mono B0.out.size); obtain ⟨a0, a1, a2, a3, a4, a5, a6, a7, a8⟩ := Q1.out.fields; obtain ⟨x0, x1, x2, x3, x4, x5, x6, x7, x8⟩ := X1.out.fields)
          | (go_at_call 97; refine (kI _).mono ?_; rintro e wi ⟨rfl, hwi⟩; subst hwi))
        go_ret
        exact ⟨rfl, B1.out⟩
      · have hz' : (b.dig.toList == [48]) = false := by rw [hz]; exact decide_eq_false h0
        rw [if_neg (fun h => h.2.elim (fun e => by rw [hr] at e; cases e) (fun e => h0 e.2)), if_neg (by omega)] at hA
        rw [d0, d10, e1, e8, e9, e10] at hO
        have hLit : b.arr = #[.int .i64 b.kind, .int .u64 b.num, .bool true, .string b.dig, .int .i64 b.exp, .string b.txt, .slice b.ab b.lb b.cb, .slice b.ak b.lk b.ck, .slice b.ai b.li b.ci] := by rw [Nb.arr, hn]
        have kB' : Calls Tryz.prog 95 #[.agg #[.int .i64 b.kind, .int .u64 b.num, .bool true, .string b.dig, .int .i64 b.exp, .string b.txt, .slice b.ab b.lb b.cb, .slice b.ak b.lk b.ck, .slice b.ai b.li b.ci]] (w.alloc (.cells b.arr 26)) fun e w' => e = .returned (.agg (bar b).arr) ∧ Below (w.alloc (.cells b.arr 26)).heap.size (w.alloc (.cells b.arr 26)) w' := by rw [← hLit]; exact kB
        have kS' : Hid (∀ w', Below w.heap.size w w' → Calls Tryz.prog 33 #[.agg (bar b).arr, .agg #[.int .i64 b.kind, .int .u64 b.num, .bool true, .string b.dig, .int .i64 b.exp, .string b.txt, .slice b.ab b.lb b.cb, .slice b.ak b.lk b.ck, .slice b.ai b.li b.ci]] w' fun e w'' => e = .returned (.bool t.clean) ∧ Below w'.heap.size w' w'') := by rw [← hLit]; exact kS
        clear kB kS hLit
        have kB := kB'
        have kS := kS'
        clear kB' kS'
        clear hK hr h0 hz
        cases hc : t.clean with
        | false =>
          rw [hO, hc] at hA
          rw [hc] at kS
          have hR : alF t = 12 := by rw [hA]; simp
          rw [hR]
          clear hA hO hc hR
          go_enter Tryz.func60, Tryz.ntmps60
          go_wp2_with (first
            | (go_at_call 95; refine kB.mono ?_; rintro e w1 ⟨he, hb1⟩; rw [Nb.arr] at he; subst he; clear kB a0 a1 a2 a3 a4 a5 a6 a7 a8; have A1 := alloc_below w1 (.cells #[.int .i64 (bar b).kind, .int .u64 (bar b).num, .bool (bar b).neg, .string (bar b).dig, .int .i64 (bar b).exp, .string (bar b).txt, .slice (bar b).ab (bar b).lb (bar b).cb, .slice (bar b).ak (bar b).lk (bar b).ck, .slice (bar b).ai (bar b).li (bar b).ci] 26); have b1 : Below (w.alloc (.cells b.arr 26)).heap.size (w.alloc (.cells b.arr 26)) (w1.alloc (.cells #[.int .i64 (bar b).kind, .int .u64 (bar b).num, .bool (bar b).neg, .string (bar b).dig, .int .i64 (bar b).exp, .string (bar b).txt, .slice (bar b).ab (bar b).lb (bar b).cb, .slice (bar b).ak (bar b).lk (bar b).ck, .slice (bar b).ai (bar b).li (bar b).ci] 26)) := hb1.trans (A1.mono hb1.size); have Q1 : Hid (NBox (w1.alloc (.cells #[.int .i64 (bar b).kind, .int .u64 (bar b).num, .bool (bar b).neg, .string (bar b).dig, .int .i64 (bar b).exp, .string (bar b).txt, .slice (bar b).ab (bar b).lb (bar b).cb, .slice (bar b).ak (bar b).lk (bar b).ck, .slice (bar b).ai (bar b).li (bar b).ci] 26)) w.heap.size b) := Q0.out.kept b1 Q0.out.lt; have X1 : Hid (NBox (w1.alloc (.cells #[.int .i64 (bar b).kind, .int .u64 (bar b).num, .bool (bar b).neg, .string (bar b).dig, .int .i64 (bar b).exp, .string (bar b).txt, .slice (bar b).ab (bar b).lb (bar b).cb, .slice (bar b).ak (bar b).lk (bar b).ck, .slice (bar b).ai (bar b).li (bar b).ci] 26)) w1.heap.size (bar b)) := nbox_new w1 (bar b); have B1 : Hid (Below w.heap.size w (w1.alloc (.cells #[.int .i64 (bar b).kind, .int .u64 (bar b).num, .bool (bar b).neg, .string (bar b).dig, .int .i64 (bar b).exp, .string (bar b).txt, .slice (bar b).ab (bar b).lb (bar b).cb, .slice (bar b).ak (bar b).lk (bar b).ck, .slice (bar b).ai (bar b).li (bar b).ci] 26))) := B0.out.trans (b1.mono B0.out.size); obtain ⟨a0, a1, a2, a3, a4, a5, a6, a7, a8⟩ := Q1.out.fields; obtain ⟨x0, x1, x2, x3, x4, x5, x6, x7, x8⟩ := X1.out.fields)
            | (go_at_call 97; refine (kI _).mono ?_; rintro e wi ⟨rfl, hwi⟩; subst hwi)
            | (have kS1 := kS.out _ B1.out; go_at_call 33; refine kS1.mono ?_; rintro e w9 ⟨rfl, hb9⟩; clear kS1; clear a0 a1 a2 a3 a4 a5 a6 a7 a8 x0 x1 x2 x3 x4 x5 x6 x7 x8; have Q9 : Hid (NBox w9 w.heap.size b) := Q1.out.kept hb9 Q1.out.lt; have X9 : Hid (NBox w9 w1.heap.size (bar b)) := X1.out.kept hb9 X1.out.lt; have B9 : Hid (Below w.heap.size w w9) := B1.out.trans (hb9.mono B1.out.size); obtain ⟨a0, a1, a2, a3, a4, a5, a6, a7, a8⟩ := Q9.out.fields; obtain ⟨x0, x1, x2, x3, x4, x5, x6, x7, x8⟩ := X9.out.fields))
          go_ret
          exact ⟨rfl, B9.out⟩
        | true =>
          rw [hO, hc] at hA
          rw [hc] at kS
          have hR : alF t = 0 := by rw [hA]; simp [*]
          rw [hR]
          clear hA hO hc hR
          go_enter Tryz.func60, Tryz.ntmps60
          go_wp2_with (first
            | (go_at_call 95; refine kB.mono ?_; rintro e w1 ⟨he, hb1⟩; rw [Nb.arr] at he; subst he; clear kB a0 a1 a2 a3 a4 a5 a6 a7 a8; have A1 := alloc_below w1 (.cells #[.int .i64 (bar b).kind, .int .u64 (bar b).num, .bool (bar b).neg, .string (bar b).dig, .int .i64 (bar b).exp, .string (bar b).txt, .slice (bar b).ab (bar b).lb (bar b).cb, .slice (bar b).ak (bar b).lk (bar b).ck, .slice (bar b).ai (bar b).li (bar b).ci] 26); have b1 : Below (w.alloc (.cells b.arr 26)).heap.size (w.alloc (.cells b.arr 26)) (w1.alloc (.cells #[.int .i64 (bar b).kind, .int .u64 (bar b).num, .bool (bar b).neg, .string (bar b).dig, .int .i64 (bar b).exp, .string (bar b).txt, .slice (bar b).ab (bar b).lb (bar b).cb, .slice (bar b).ak (bar b).lk (bar b).ck, .slice (bar b).ai (bar b).li (bar b).ci] 26)) := hb1.trans (A1.mono hb1.size); have Q1 : Hid (NBox (w1.alloc (.cells #[.int .i64 (bar b).kind, .int .u64 (bar b).num, .bool (bar b).neg, .string (bar b).dig, .int .i64 (bar b).exp, .string (bar b).txt, .slice (bar b).ab (bar b).lb (bar b).cb, .slice (bar b).ak (bar b).lk (bar b).ck, .slice (bar b).ai (bar b).li (bar b).ci] 26)) w.heap.size b) := Q0.out.kept b1 Q0.out.lt; have X1 : Hid (NBox (w1.alloc (.cells #[.int .i64 (bar b).kind, .int .u64 (bar b).num, .bool (bar b).neg, .string (bar b).dig, .int .i64 (bar b).exp, .string (bar b).txt, .slice (bar b).ab (bar b).lb (bar b).cb, .slice (bar b).ak (bar b).lk (bar b).ck, .slice (bar b).ai (bar b).li (bar b).ci] 26)) w1.heap.size (bar b)) := nbox_new w1 (bar b); have B1 : Hid (Below w.heap.size w (w1.alloc (.cells #[.int .i64 (bar b).kind, .int .u64 (bar b).num, .bool (bar b).neg, .string (bar b).dig, .int .i64 (bar b).exp, .string (bar b).txt, .slice (bar b).ab (bar b).lb (bar b).cb, .slice (bar b).ak (bar b).lk (bar b).ck, .slice (bar b).ai (bar b).li (bar b).ci] 26))) := B0.out.trans (b1.mono B0.out.size); obtain ⟨a0, a1, a2, a3, a4, a5, a6, a7, a8⟩ := Q1.out.fields; obtain ⟨x0, x1, x2, x3, x4, x5, x6, x7, x8⟩ := X1.out.fields)
            | (go_at_call 97; refine (kI _).mono ?_; rintro e wi ⟨rfl, hwi⟩; subst hwi)
            | (have kS1 := kS.out _ B1.out; go_at_call 33; refine kS1.mono ?_; rintro e w9 ⟨rfl, hb9⟩; clear kS1; clear a0 a1 a2 a3 a4 a5 a6 a7 a8 x0 x1 x2 x3 x4 x5 x6 x7 x8; have Q9 : Hid (NBox w9 w.heap.size b) := Q1.out.kept hb9 Q1.out.lt; have X9 : Hid (NBox w9 w1.heap.size (bar b)) := X1.out.kept hb9 X1.out.lt; have B9 : Hid (Below w.heap.size w w9) := B1.out.trans (hb9.mono B1.out.size); obtain ⟨a0, a1, a2, a3, a4, a5, a6, a7, a8⟩ := Q9.out.fields; obtain ⟨x0, x1, x2, x3, x4, x5, x6, x7, x8⟩ := X9.out.fields))
          go_ret
          exact ⟨rfl, B9.out⟩
    | false =>
      rw [if_neg (fun h => h.2.elim (fun e => by rw [hr] at e; cases e) (fun e => by rw [hn] at e; exact absurd e.1 (by simp))), if_neg (by omega)] at hA
      rw [d0, d10, e1, e8, e9, e10] at hO
      have hLit : b.arr = #[.int .i64 b.kind, .int .u64 b.num, .bool false, .string b.dig, .int .i64 b.exp, .string b.txt, .slice b.ab b.lb b.cb, .slice b.ak b.lk b.ck, .slice b.ai b.li b.ci] := by rw [Nb.arr, hn]
      have kB' : Calls Tryz.prog 95 #[.agg #[.int .i64 b.kind, .int .u64 b.num, .bool false, .string b.dig, .int .i64 b.exp, .string b.txt, .slice b.ab b.lb b.cb, .slice b.ak b.lk b.ck, .slice b.ai b.li b.ci]] (w.alloc (.cells b.arr 26)) fun e w' => e = .returned (.agg (bar b).arr) ∧ Below (w.alloc (.cells b.arr 26)).heap.size (w.alloc (.cells b.arr 26)) w' := by rw [← hLit]; exact kB
      have kS' : Hid (∀ w', Below w.heap.size w w' → Calls Tryz.prog 33 #[.agg (bar b).arr, .agg #[.int .i64 b.kind, .int .u64 b.num, .bool false, .string b.dig, .int .i64 b.exp, .string b.txt, .slice b.ab b.lb b.cb, .slice b.ak b.lk b.ck, .slice b.ai b.li b.ci]] w' fun e w'' => e = .returned (.bool t.clean) ∧ Below w'.heap.size w' w'') := by rw [← hLit]; exact kS
      clear kB kS hLit
      have kB := kB'
      have kS := kS'
      clear kB' kS'
      clear hK hr
      cases hc : t.clean with
      | false =>
        rw [hO, hc] at hA
        rw [hc] at kS
        have hR : alF t = 12 := by rw [hA]; simp
        rw [hR]
        clear hA hO hc hR
        go_enter Tryz.func60, Tryz.ntmps60
        go_wp2_with (first
          | (go_at_call 95; refine kB.mono ?_; rintro e w1 ⟨he, hb1⟩; rw [Nb.arr] at he; subst he; clear kB a0 a1 a2 a3 a4 a5 a6 a7 a8; have A1 := alloc_below w1 (.cells #[.int .i64 (bar b).kind, .int .u64 (bar b).num, .bool (bar b).neg, .string (bar b).dig, .int .i64 (bar b).exp, .string (bar b).txt, .slice (bar b).ab (bar b).lb (bar b).cb, .slice (bar b).ak (bar b).lk (bar b).ck, .slice (bar b).ai (bar b).li (bar b).ci] 26); have b1 : Below (w.alloc (.cells b.arr 26)).heap.size (w.alloc (.cells b.arr 26)) (w1.alloc (.cells #[.int .i64 (bar b).kind, .int .u64 (bar b).num, .bool (bar b).neg, .string (bar b).dig, .int .i64 (bar b).exp, .string (bar b).txt, .slice (bar b).ab (bar b).lb (bar b).cb, .slice (bar b).ak (bar b).lk (bar b).ck, .slice (bar b).ai (bar b).li (bar b).ci] 26)) := hb1.trans (A1.mono hb1.size); have Q1 : Hid (NBox (w1.alloc (.cells #[.int .i64 (bar b).kind, .int .u64 (bar b).num, .bool (bar b).neg, .string (bar b).dig, .int .i64 (bar b).exp, .string (bar b).txt, .slice (bar b).ab (bar b).lb (bar b).cb, .slice (bar b).ak (bar b).lk (bar b).ck, .slice (bar b).ai (bar b).li (bar b).ci] 26)) w.heap.size b) := Q0.out.kept b1 Q0.out.lt; have X1 : Hid (NBox (w1.alloc (.cells #[.int .i64 (bar b).kind, .int .u64 (bar b).num, .bool (bar b).neg, .string (bar b).dig, .int .i64 (bar b).exp, .string (bar b).txt, .slice (bar b).ab (bar b).lb (bar b).cb, .slice (bar b).ak (bar b).lk (bar b).ck, .slice (bar b).ai (bar b).li (bar b).ci] 26)) w1.heap.size (bar b)) := nbox_new w1 (bar b); have B1 : Hid (Below w.heap.size w (w1.alloc (.cells #[.int .i64 (bar b).kind, .int .u64 (bar b).num, .bool (bar b).neg, .string (bar b).dig, .int .i64 (bar b).exp, .string (bar b).txt, .slice (bar b).ab (bar b).lb (bar b).cb, .slice (bar b).ak (bar b).lk (bar b).ck, .slice (bar b).ai (bar b).li (bar b).ci] 26))) := B0.out.trans (b1.mono B0.out.size); obtain ⟨a0, a1, a2, a3, a4, a5, a6, a7, a8⟩ := Q1.out.fields; obtain ⟨x0, x1, x2, x3, x4, x5, x6, x7, x8⟩ := X1.out.fields)
          | (go_at_call 97; refine (kI _).mono ?_; rintro e wi ⟨rfl, hwi⟩; subst hwi)
          | (have kS1 := kS.out _ B1.out; go_at_call 33; refine kS1.mono ?_; rintro e w9 ⟨rfl, hb9⟩; clear kS1; clear a0 a1 a2 a3 a4 a5 a6 a7 a8 x0 x1 x2 x3 x4 x5 x6 x7 x8; have Q9 : Hid (NBox w9 w.heap.size b) := Q1.out.kept hb9 Q1.out.lt; have X9 : Hid (NBox w9 w1.heap.size (bar b)) := X1.out.kept hb9 X1.out.lt; have B9 : Hid (Below w.heap.size w w9) := B1.out.trans (hb9.mono B1.out.size); obtain ⟨a0, a1, a2, a3, a4, a5, a6, a7, a8⟩ := Q9.out.fields; obtain ⟨x0, x1, x2, x3, x4, x5, x6, x7, x8⟩ := X9.out.fields))
        go_ret
        exact ⟨rfl, B9.out⟩
      | true =>
        rw [hO, hc] at hA
        rw [hc] at kS
        have hR : alF t = 0 := by rw [hA]; simp [*]
        rw [hR]
        clear hA hO hc hR
        go_enter Tryz.func60, Tryz.ntmps60
        go_wp2_with (first
          | (go_at_call 95; refine kB.mono ?_; rintro e w1 ⟨he, hb1⟩; rw [Nb.arr] at he; subst he; clear kB a0 a1 a2 a3 a4 a5 a6 a7 a8; have A1 := alloc_below w1 (.cells #[.int .i64 (bar b).kind, .int .u64 (bar b).num, .bool (bar b).neg, .string (bar b).dig, .int .i64 (bar b).exp, .string (bar b).txt, .slice (bar b).ab (bar b).lb (bar b).cb, .slice (bar b).ak (bar b).lk (bar b).ck, .slice (bar b).ai (bar b).li (bar b).ci] 26); have b1 : Below (w.alloc (.cells b.arr 26)).heap.size (w.alloc (.cells b.arr 26)) (w1.alloc (.cells #[.int .i64 (bar b).kind, .int .u64 (bar b).num, .bool (bar b).neg, .string (bar b).dig, .int .i64 (bar b).exp, .string (bar b).txt, .slice (bar b).ab (bar b).lb (bar b).cb, .slice (bar b).ak (bar b).lk (bar b).ck, .slice (bar b).ai (bar b).li (bar b).ci] 26)) := hb1.trans (A1.mono hb1.size); have Q1 : Hid (NBox (w1.alloc (.cells #[.int .i64 (bar b).kind, .int .u64 (bar b).num, .bool (bar b).neg, .string (bar b).dig, .int .i64 (bar b).exp, .string (bar b).txt, .slice (bar b).ab (bar b).lb (bar b).cb, .slice (bar b).ak (bar b).lk (bar b).ck, .slice (bar b).ai (bar b).li (bar b).ci] 26)) w.heap.size b) := Q0.out.kept b1 Q0.out.lt; have X1 : Hid (NBox (w1.alloc (.cells #[.int .i64 (bar b).kind, .int .u64 (bar b).num, .bool (bar b).neg, .string (bar b).dig, .int .i64 (bar b).exp, .string (bar b).txt, .slice (bar b).ab (bar b).lb (bar b).cb, .slice (bar b).ak (bar b).lk (bar b).ck, .slice (bar b).ai (bar b).li (bar b).ci] 26)) w1.heap.size (bar b)) := nbox_new w1 (bar b); have B1 : Hid (Below w.heap.size w (w1.alloc (.cells #[.int .i64 (bar b).kind, .int .u64 (bar b).num, .bool (bar b).neg, .string (bar b).dig, .int .i64 (bar b).exp, .string (bar b).txt, .slice (bar b).ab (bar b).lb (bar b).cb, .slice (bar b).ak (bar b).lk (bar b).ck, .slice (bar b).ai (bar b).li (bar b).ci] 26))) := B0.out.trans (b1.mono B0.out.size); obtain ⟨a0, a1, a2, a3, a4, a5, a6, a7, a8⟩ := Q1.out.fields; obtain ⟨x0, x1, x2, x3, x4, x5, x6, x7, x8⟩ := X1.out.fields)
          | (go_at_call 97; refine (kI _).mono ?_; rintro e wi ⟨rfl, hwi⟩; subst hwi)
          | (have kS1 := kS.out _ B1.out; go_at_call 33; refine kS1.mono ?_; rintro e w9 ⟨rfl, hb9⟩; clear kS1; clear a0 a1 a2 a3 a4 a5 a6 a7 a8 x0 x1 x2 x3 x4 x5 x6 x7 x8; have Q9 : Hid (NBox w9 w.heap.size b) := Q1.out.kept hb9 Q1.out.lt; have X9 : Hid (NBox w9 w1.heap.size (bar b)) := X1.out.kept hb9 X1.out.lt; have B9 : Hid (Below w.heap.size w w9) := B1.out.trans (hb9.mono B1.out.size); obtain ⟨a0, a1, a2, a3, a4, a5, a6, a7, a8⟩ := Q9.out.fields; obtain ⟨x0, x1, x2, x3, x4, x5, x6, x7, x8⟩ := X9.out.fields))
        go_ret
        exact ⟨rfl, B9.out⟩
end Go.Proofs.YtnjbppfanmmifaaGreatDoor
namespace Go.Proofs.YtnjbppfanmmifaaGreatDoor
open Go.RowKit
set_option linter.unusedVariables false

set_option maxHeartbeats 8000000 in
set_option maxRecDepth 100000 in
theorem ealone_k3 {D : Nat} {t : Tr} {b : Nb} {w : World} (hN : Nd (D + 1) w b t) (hK : b.kind = 3) : Calls Tryz.prog 60 #[.agg b.arr] w fun e w' => e = .returned (.int .i64 (alF t)) ∧ Below w.heap.size w w' := by
  have hal := alloc_below w (.cells b.arr 26)
  have B0 : Hid (Below w.heap.size w (w.alloc (.cells b.arr 26))) := hal
  have Q0 : Hid (NBox (w.alloc (.cells b.arr 26)) w.heap.size b) := nbox_new w b
  obtain ⟨a0, a1, a2, a3, a4, a5, a6, a7, a8⟩ := (nbox_new w b).fields
  have rk := hN.2.2.2.1.2.1
  have ri := hN.2.2.2.2.2.1
  have kB := bare_any b (w.alloc (.cells b.arr 26))
  have kS : Hid (∀ w', Below w.heap.size w w' → Calls Tryz.prog 33 #[.agg (bar b).arr, .agg b.arr] w' fun e w'' => e = .returned (.bool t.clean) ∧ Below w'.heap.size w' w'') := fun w' hb => esam_any (nd_bar (hN.kept hb)) (hN.kept hb) (Tr.clean_iff t)
  have hk : b.kind = t.kind := hN.1.1
  have hnum : b.num = t.num := hN.1.2.1
  have hneg : b.neg = t.neg := hN.1.2.2.1
  have hdig : b.dig = t.dig := hN.1.2.2.2.1
  have hexp : b.exp = t.exp := hN.1.2.2.2.2.1
  have htxt : b.txt = t.txt := hN.1.2.2.2.2.2
  have hlb : t.bytes.length = b.lb := hN.2.2.1.1
  have hlk : t.keys.length = b.lk := hN.2.2.2.1.1
  have hli : t.kids.length = b.li := hN.2.2.2.2.1
  have mb1 := hN.2.2.1.2.1.1
  have mb2 := hN.2.2.1.2.1.2.1
  have mk1 := rk.1
  have mk2 := rk.2.1
  have mi1 := ri.1
  have mi2 := ri.2.1
  unfold maxLen at mb2 mk2 mi2
  have mt : b.txt.size ≤ 140737488351232 := by rw [htxt]; exact hN.2.1.2.2.2.2
  have hA : alF t = if (b.kind = 5 ∧ 4096 < b.txt.size) ∨ (b.kind = 6 ∧ 4096 < b.lb) then 8
    else if b.kind = 5 ∧ gtx b.txt = false then 6
    else if b.kind = 2 ∧ (rt b.dig = false ∨ (b.neg = true ∧ b.dig = ⟨#[48]⟩)) then 11
    else if b.kind = 3 ∧ rdN b.neg b.dig b.exp = false then 11
    else if t.odd = true then 12 else 0 := by
    rw [hk, hneg, hdig, hexp, htxt, ← hlb]; rfl
  have hO := odd_doc hN
  have hkk : Hid (b.kind = t.kind) := hk
  clear hneg hdig hexp htxt hlb hlk hli hnum hN hk hal rk ri
  have e1 : (b.kind == 1) = false := by rw [hK]; decide
  have e2 : (b.kind == 2) = false := by rw [hK]; decide
  have e3 : (b.kind == 3) = true := by rw [hK]; decide
  have e5 : (b.kind == 5) = false := by rw [hK]; decide
  have e6 : (b.kind == 6) = false := by rw [hK]; decide
  have e8 : (b.kind == 8) = false := by rw [hK]; decide
  have e9 : (b.kind == 9) = false := by rw [hK]; decide
  have e10 : (b.kind == 10) = false := by rw [hK]; decide
  have d0 : decide (b.kind < 0) = false := by rw [hK]; decide
  have d10 : decide (10 < b.kind) = false := by rw [hK]; decide
  have kN1 : ∀ w0, Calls Tryz.prog 99 #[.agg b.arr] w0 fun e w' => e = .returned (.agg #[.bool b.neg, .string b.dig, .int .i64 b.exp]) ∧ Below w0.heap.size w0 w' := fun w0 => number_any b w0
  have kN2 := kN1
  have kW : ∀ w0, Calls Tryz.prog 98 #[.agg #[.bool b.neg, .string b.dig, .int .i64 b.exp]] w0 fun e w' => e = .returned (.tuple #[.string (wholeA b.neg b.dig b.exp).1, .bool (wholeA b.neg b.dig b.exp).2]) ∧ Below w0.heap.size w0 w' := fun w0 => ywhole_any b.neg b.dig b.exp w0
  have kR : ∀ w0, Calls Tryz.prog 100 #[.agg #[.bool b.neg, .string b.dig, .int .i64 b.exp]] w0 fun e w' => e = .returned (.bool (rtN b.neg b.dig b.exp)) ∧ Below w0.heap.size w0 w' := fun w0 => yright_any b.neg b.dig b.exp w0
  have hrd : rdN b.neg b.dig b.exp = (rtN b.neg b.dig b.exp && !(wholeA b.neg b.dig b.exp).2) := rfl
  generalize (wholeA b.neg b.dig b.exp).1 = S1 at *
  generalize (wholeA b.neg b.dig b.exp).2 = V1 at *
  generalize rtN b.neg b.dig b.exp = R1 at *
  rw [if_neg (by omega), if_neg (by omega), if_neg (by omega)] at hA
  cases R1 with
  | false =>
    rw [if_pos ⟨hK, by rw [hrd]; rfl⟩] at hA
    rw [hA]
    clear hA hO hK hrd kS
    go_enter Tryz.func60, Tryz.ntmps60
    go_wp2_with (first
      | (go_at_call 95; refine kB.mono ?_; rintro e w1 ⟨he, hb1⟩; rw [Nb.arr] at he; subst he; clear kB a0 a1 a2 a3 a4 a5 a6 a7 a8; have A1 := alloc_below w1 (.cells #[.int .i64 (bar b).kind, .int .u64 (bar b).num, .bool (bar b).neg, .string (bar b).dig, .int .i64 (bar b).exp, .string (bar b).txt, .slice (bar b).ab (bar b).lb (bar b).cb, .slice (bar b).ak (bar b).lk (bar b).ck, .slice (bar b).ai (bar b).li (bar b).ci] 26); have b1 : Below (w.alloc (.cells b.arr 26)).heap.size (w.alloc (.cells b.arr 26)) (w1.alloc (.cells #[.int .i64 (bar b).kind, .int .u64 (bar b).num, .bool (bar b).neg, .string (bar b).dig, .int .i64 (bar b).exp, .string (bar b).txt, .slice (bar b).ab (bar b).lb (bar b).cb, .slice (bar b).ak (bar b).lk (bar b).ck, .slice (bar b).ai (bar b).li (bar b).ci] 26)) := hb1.trans (A1.mono hb1.size); have Q1 : Hid (NBox (w1.alloc (.cells #[.int .i64 (bar b).kind, .int .u64 (bar b).num, .bool (bar b).neg, .string (bar b).dig, .int .i64 (bar b).exp, .string (bar b).txt, .slice (bar b).ab (bar b).lb (bar b).cb, .slice (bar b).ak (bar b).lk (bar b).ck, .slice (bar b).ai (bar b).li (bar b).ci] 26)) w.heap.size b) := Q0.out.kept b1 Q0.out.lt; have X1 : Hid (NBox (w1.alloc (.cells #[.int .i64 (bar b).kind, .int .u64 (bar b).num, .bool (bar b).neg, .string (bar b).dig, .int .i64 (bar b).exp, .string (bar b).txt, .slice (bar b).ab (bar b).lb (bar b).cb, .slice (bar b).ak (bar b).lk (bar b).ck, .slice (bar b).ai (bar b).li (bar b).ci] 26)) w1.heap.size (bar b)) := nbox_new w1 (bar b); have B1 : Hid (Below w.heap.size w (w1.alloc (.cells #[.int .i64 (bar b).kind, .int .u64 (bar b).num, .bool (bar b).neg, .string (bar b).dig, .int .i64 (bar b).exp, .string (bar b).txt, .slice (bar b).ab (bar b).lb (bar b).cb, .slice (bar b).ak (bar b).lk (bar b).ck, .slice (bar b).ai (bar b).li (bar b).ci] 26))) := B0.out.trans (b1.mono B0.out.size); obtain ⟨a0, a1, a2, a3, a4, a5, a6, a7, a8⟩ := Q1.out.fields; obtain ⟨x0, x1, x2, x3, x4, x5, x6, x7, x8⟩ := X1.out.fields)
      | (go_at_call 99; refine (kN1 _).mono ?_; rintro e w2 ⟨rfl, hb2⟩; clear kN1; clear a0 a1 a2 a3 a4 a5 a6 a7 a8 x0 x1 x2 x3 x4 x5 x6 x7 x8; have Q2 : Hid (NBox w2 w.heap.size b) := Q1.out.kept hb2 Q1.out.lt; have X2 : Hid (NBox w2 w1.heap.size (bar b)) := X1.out.kept hb2 X1.out.lt; have B2 : Hid (Below w.heap.size w w2) := B1.out.trans (hb2.mono B1.out.size); obtain ⟨a0, a1, a2, a3, a4, a5, a6, a7, a8⟩ := Q2.out.fields; obtain ⟨x0, x1, x2, x3, x4, x5, x6, x7, x8⟩ := X2.out.fields)
      | (go_at_call 98; refine (kW _).mono ?_; rintro e w3 ⟨rfl, hb3⟩; clear kW; clear a0 a1 a2 a3 a4 a5 a6 a7 a8 x0 x1 x2 x3 x4 x5 x6 x7 x8; have Q3 : Hid (NBox w3 w.heap.size b) := Q2.out.kept hb3 Q2.out.lt; have X3 : Hid (NBox w3 w1.heap.size (bar b)) := X2.out.kept hb3 X2.out.lt; have B3 : Hid (Below w.heap.size w w3) := B2.out.trans (hb3.mono B2.out.size); obtain ⟨a0, a1, a2, a3, a4, a5, a6, a7, a8⟩ := Q3.out.fields; obtain ⟨x0, x1, x2, x3, x4, x5, x6, x7, x8⟩ := X3.out.fields)
      | (go_at_call 99; refine (kN2 _).mono ?_; rintro e w4 ⟨rfl, hb4⟩; clear kN2; clear a0 a1 a2 a3 a4 a5 a6 a7 a8 x0 x1 x2 x3 x4 x5 x6 x7 x8; have Q4 : Hid (NBox w4 w.heap.size b) := Q3.out.kept hb4 Q3.out.lt; have X4 : Hid (NBox w4 w1.heap.size (bar b)) := X3.out.kept hb4 X3.out.lt; have B4 : Hid (Below w.heap.size w w4) := B3.out.trans (hb4.mono B3.out.size); obtain ⟨a0, a1, a2, a3, a4, a5, a6, a7, a8⟩ := Q4.out.fields; obtain ⟨x0, x1, x2, x3, x4, x5, x6, x7, x8⟩ := X4.out.fields)
      | (go_at_call 100; refine (kR _).mono ?_; rintro e w5 ⟨rfl, hb5⟩; clear kR; clear a0 a1 a2 a3 a4 a5 a6 a7 a8 x0 x1 x2 x3 x4 x5 x6 x7 x8; have Q5 : Hid (NBox w5 w.heap.size b) := Q4.out.kept hb5 Q4.out.lt; have X5 : Hid (NBox w5 w1.heap.size (bar b)) := X4.out.kept hb5 X4.out.lt; have B5 : Hid (Below w.heap.size w w5) := B4.out.trans (hb5.mono B4.out.size); obtain ⟨a0, a1, a2, a3, a4, a5, a6, a7, a8⟩ := Q5.out.fields; obtain ⟨x0, x1, x2, x3, x4, x5, x6, x7, x8⟩ := X5.out.fields))
    go_ret
    exact ⟨rfl, B5.out⟩
  | true =>
    cases V1 with
    | true =>
      rw [if_pos ⟨hK, by rw [hrd]; rfl⟩] at hA
      rw [hA]
      clear hA hO hK hrd kS
      go_enter Tryz.func60, Tryz.ntmps60
      go_wp2_with (first
        | (go_at_call 95; refine kB.mono ?_; rintro e w1 ⟨he, hb1⟩; rw [Nb.arr] at he; subst he; clear kB a0 a1 a2 a3 a4 a5 a6 a7 a8; have A1 := alloc_below w1 (.cells #[.int .i64 (bar b).kind, .int .u64 (bar b).num, .bool (bar b).neg, .string (bar b).dig, .int .i64 (bar b).exp, .string (bar b).txt, .slice (bar b).ab (bar b).lb (bar b).cb, .slice (bar b).ak (bar b).lk (bar b).ck, .slice (bar b).ai (bar b).li (bar b).ci] 26); have b1 : Below (w.alloc (.cells b.arr 26)).heap.size (w.alloc (.cells b.arr 26)) (w1.alloc (.cells #[.int .i64 (bar b).kind, .int .u64 (bar b).num, .bool (bar b).neg, .string (bar b).dig, .int .i64 (bar b).exp, .string (bar b).txt, .slice (bar b).ab (bar b).lb (bar b).cb, .slice (bar b).ak (bar b).lk (bar b).ck, .slice (bar b).ai (bar b).li (bar b).ci] 26)) := hb1.trans (A1.mono hb1.size); have Q1 : Hid (NBox (w1.alloc (.cells #[.int .i64 (bar b).kind, .int .u64 (bar b).num, .bool (bar b).neg, .string (bar b).dig, .int .i64 (bar b).exp, .string (bar b).txt, .slice (bar b).ab (bar b).lb (bar b).cb, .slice (bar b).ak (bar b).lk (bar b).ck, .slice (bar b).ai (bar b).li (bar b).ci] 26)) w.heap.size b) := Q0.out.kept b1 Q0.out.lt; have X1 : Hid (NBox (w1.alloc (.cells #[.int .i64 (bar b).kind, .int .u64 (bar b).num, .bool (bar b).neg, .string (bar b).dig, .int .i64 (bar b).exp, .string (bar b).txt, .slice (bar b).ab (bar b).lb (bar b).cb, .slice (bar b).ak (bar b).lk (bar b).ck, .slice (bar b).ai (bar b).li (bar b).ci] 26)) w1.heap.size (bar b)) := nbox_new w1 (bar b); have B1 : Hid (Below w.heap.size w (w1.alloc (.cells #[.int .i64 (bar b).kind, .int .u64 (bar b).num, .bool (bar b).neg, .string (bar b).dig, .int .i64 (bar b).exp, .string (bar b).txt, .slice (bar b).ab (bar b).lb (bar b).cb, .slice (bar b).ak (bar b).lk (bar b).ck, .slice (bar b).ai (bar b).li (bar b).ci] 26))) := B0.out.trans (b1.mono B0.out.size); obtain ⟨a0, a1, a2, a3, a4, a5, a6, a7, a8⟩ := Q1.out.fields; obtain ⟨x0, x1, x2, x3, x4, x5, x6, x7, x8⟩ := X1.out.fields)
        | (go_at_call 99; refine (kN1 _).mono ?_; rintro e w2 ⟨rfl, hb2⟩; clear kN1; clear a0 a1 a2 a3 a4 a5 a6 a7 a8 x0 x1 x2 x3 x4 x5 x6 x7 x8; have Q2 : Hid (NBox w2 w.heap.size b) := Q1.out.kept hb2 Q1.out.lt; have X2 : Hid (NBox w2 w1.heap.size (bar b)) := X1.out.kept hb2 X1.out.lt; have B2 : Hid (Below w.heap.size w w2) := B1.out.trans (hb2.mono B1.out.size); obtain ⟨a0, a1, a2, a3, a4, a5, a6, a7, a8⟩ := Q2.out.fields; obtain ⟨x0, x1, x2, x3, x4, x5, x6, x7, x8⟩ := X2.out.fields)
        | (go_at_call 98; refine (kW _).mono ?_; rintro e w3 ⟨rfl, hb3⟩; clear kW; clear a0 a1 a2 a3 a4 a5 a6 a7 a8 x0 x1 x2 x3 x4 x5 x6 x7 x8; have Q3 : Hid (NBox w3 w.heap.size b) := Q2.out.kept hb3 Q2.out.lt; have X3 : Hid (NBox w3 w1.heap.size (bar b)) := X2.out.kept hb3 X2.out.lt; have B3 : Hid (Below w.heap.size w w3) := B2.out.trans (hb3.mono B2.out.size); obtain ⟨a0, a1, a2, a3, a4, a5, a6, a7, a8⟩ := Q3.out.fields; obtain ⟨x0, x1, x2, x3, x4, x5, x6, x7, x8⟩ := X3.out.fields)
        | (go_at_call 99; refine (kN2 _).mono ?_; rintro e w4 ⟨rfl, hb4⟩; clear kN2; clear a0 a1 a2 a3 a4 a5 a6 a7 a8 x0 x1 x2 x3 x4 x5 x6 x7 x8; have Q4 : Hid (NBox w4 w.heap.size b) := Q3.out.kept hb4 Q3.out.lt; have X4 : Hid (NBox w4 w1.heap.size (bar b)) := X3.out.kept hb4 X3.out.lt; have B4 : Hid (Below w.heap.size w w4) := B3.out.trans (hb4.mono B3.out.size); obtain ⟨a0, a1, a2, a3, a4, a5, a6, a7, a8⟩ := Q4.out.fields; obtain ⟨x0, x1, x2, x3, x4, x5, x6, x7, x8⟩ := X4.out.fields)
        | (go_at_call 100; refine (kR _).mono ?_; rintro e w5 ⟨rfl, hb5⟩; clear kR; clear a0 a1 a2 a3 a4 a5 a6 a7 a8 x0 x1 x2 x3 x4 x5 x6 x7 x8; have Q5 : Hid (NBox w5 w.heap.size b) := Q4.out.kept hb5 Q4.out.lt; have X5 : Hid (NBox w5 w1.heap.size (bar b)) := X4.out.kept hb5 X4.out.lt; have B5 : Hid (Below w.heap.size w w5) := B4.out.trans (hb5.mono B4.out.size); obtain ⟨a0, a1, a2, a3, a4, a5, a6, a7, a8⟩ := Q5.out.fields; obtain ⟨x0, x1, x2, x3, x4, x5, x6, x7, x8⟩ := X5.out.fields))
      go_ret
      exact ⟨rfl, B5.out⟩
    | false =>
      rw [if_neg (fun h => by rw [hrd] at h; exact absurd h.2 (by decide))] at hA
      rw [d0, d10, e1, e8, e9, e10] at hO
      clear hK hrd
      cases hc : t.clean with
      | false =>
        rw [hO, hc] at hA
        rw [hc] at kS
        have hR : alF t = 12 := by rw [hA]; simp
        rw [hR]
        clear hA hO hc hR
        go_enter Tryz.func60, Tryz.ntmps60
        go_wp2_with (first
          | (go_at_call 95; refine kB.mono ?_; rintro e w1 ⟨he, hb1⟩; rw [Nb.arr] at he; subst he; clear kB a0 a1 a2 a3 a4 a5 a6 a7 a8; have A1 := alloc_below w1 (.cells #[.int .i64 (bar b).kind, .int .u64 (bar b).num, .bool (bar b).neg, .string (bar b).dig, .int .i64 (bar b).exp, .string (bar b).txt, .slice (bar b).ab (bar b).lb (bar b).cb, .slice (bar b).ak (bar b).lk (bar b).ck, .slice (bar b).ai (bar b).li (bar b).ci] 26); have b1 : Below (w.alloc (.cells b.arr 26)).heap.size (w.alloc (.cells b.arr 26)) (w1.alloc (.cells #[.int .i64 (bar b).kind, .int .u64 (bar b).num, .bool (bar b).neg, .string (bar b).dig, .int .i64 (bar b).exp, .string (bar b).txt, .slice (bar b).ab (bar b).lb (bar b).cb, .slice (bar b).ak (bar b).lk (bar b).ck, .slice (bar b).ai (bar b).li (bar b).ci] 26)) := hb1.trans (A1.mono hb1.size); have Q1 : Hid (NBox (w1.alloc (.cells #[.int .i64 (bar b).kind, .int .u64 (bar b).num, .bool (bar b).neg, .string (bar b).dig, .int .i64 (bar b).exp, .string (bar b).txt, .slice (bar b).ab (bar b).lb (bar b).cb, .slice (bar b).ak (bar b).lk (bar b).ck, .slice (bar b).ai (bar b).li (bar b).ci] 26)) w.heap.size b) := Q0.out.kept b1 Q0.out.lt; have X1 : Hid (NBox (w1.alloc (.cells #[.int .i64 (bar b).kind, .int .u64 (bar b).num, .bool (bar b).neg, .string (bar b).dig, .int .i64 (bar b).exp, .string (bar b).txt, .slice (bar b).ab (bar b).lb (bar b).cb, .slice (bar b).ak (bar b).lk (bar b).ck, .slice (bar b).ai (bar b).li (bar b).ci] 26)) w1.heap.size (bar b)) := nbox_new w1 (bar b); have B1 : Hid (Below w.heap.size w (w1.alloc (.cells #[.int .i64 (bar b).kind, .int .u64 (bar b).num, .bool (bar b).neg, .string (bar b).dig, .int .i64 (bar b).exp, .string (bar b).txt, .slice (bar b).ab (bar b).lb (bar b).cb, .slice (bar b).ak (bar b).lk (bar b).ck, .slice (bar b).ai (bar b).li (bar b).ci] 26))) := B0.out.trans (b1.mono B0.out.size); obtain ⟨a0, a1, a2, a3, a4, a5, a6, a7, a8⟩ := Q1.out.fields; obtain ⟨x0, x1, x2, x3, x4, x5, x6, x7, x8⟩ := X1.out.fields)
          | (go_at_call 99; refine (kN1 _).mono ?_; rintro e w2 ⟨rfl, hb2⟩; clear kN1; clear a0 a1 a2 a3 a4 a5 a6 a7 a8 x0 x1 x2 x3 x4 x5 x6 x7 x8; have Q2 : Hid (NBox w2 w.heap.size b) := Q1.out.kept hb2 Q1.out.lt; have X2 : Hid (NBox w2 w1.heap.size (bar b)) := X1.out.kept hb2 X1.out.lt; have B2 : Hid (Below w.heap.size w w2) := B1.out.trans (hb2.mono B1.out.size); obtain ⟨a0, a1, a2, a3, a4, a5, a6, a7, a8⟩ := Q2.out.fields; obtain ⟨x0, x1, x2, x3, x4, x5, x6, x7, x8⟩ := X2.out.fields)
          | (go_at_call 98; refine (kW _).mono ?_; rintro e w3 ⟨rfl, hb3⟩; clear kW; clear a0 a1 a2 a3 a4 a5 a6 a7 a8 x0 x1 x2 x3 x4 x5 x6 x7 x8; have Q3 : Hid (NBox w3 w.heap.size b) := Q2.out.kept hb3 Q2.out.lt; have X3 : Hid (NBox w3 w1.heap.size (bar b)) := X2.out.kept hb3 X2.out.lt; have B3 : Hid (Below w.heap.size w w3) := B2.out.trans (hb3.mono B2.out.size); obtain ⟨a0, a1, a2, a3, a4, a5, a6, a7, a8⟩ := Q3.out.fields; obtain ⟨x0, x1, x2, x3, x4, x5, x6, x7, x8⟩ := X3.out.fields)
          | (go_at_call 99; refine (kN2 _).mono ?_; rintro e w4 ⟨rfl, hb4⟩; clear kN2; clear a0 a1 a2 a3 a4 a5 a6 a7 a8 x0 x1 x2 x3 x4 x5 x6 x7 x8; have Q4 : Hid (NBox w4 w.heap.size b) := Q3.out.kept hb4 Q3.out.lt; have X4 : Hid (NBox w4 w1.heap.size (bar b)) := X3.out.kept hb4 X3.out.lt; have B4 : Hid (Below w.heap.size w w4) := B3.out.trans (hb4.mono B3.out.size); obtain ⟨a0, a1, a2, a3, a4, a5, a6, a7, a8⟩ := Q4.out.fields; obtain ⟨x0, x1, x2, x3, x4, x5, x6, x7, x8⟩ := X4.out.fields)
          | (go_at_call 100; refine (kR _).mono ?_; rintro e w5 ⟨rfl, hb5⟩; clear kR; clear a0 a1 a2 a3 a4 a5 a6 a7 a8 x0 x1 x2 x3 x4 x5 x6 x7 x8; have Q5 : Hid (NBox w5 w.heap.size b) := Q4.out.kept hb5 Q4.out.lt; have X5 : Hid (NBox w5 w1.heap.size (bar b)) := X4.out.kept hb5 X4.out.lt; have B5 : Hid (Below w.heap.size w w5) := B4.out.trans (hb5.mono B4.out.size); obtain ⟨a0, a1, a2, a3, a4, a5, a6, a7, a8⟩ := Q5.out.fields; obtain ⟨x0, x1, x2, x3, x4, x5, x6, x7, x8⟩ := X5.out.fields)
          | (have kS5 := kS.out _ B5.out; go_at_call 33; refine kS5.mono ?_; rintro e w9 ⟨rfl, hb9⟩; clear kS5; clear a0 a1 a2 a3 a4 a5 a6 a7 a8 x0 x1 x2 x3 x4 x5 x6 x7 x8; have Q9 : Hid (NBox w9 w.heap.size b) := Q5.out.kept hb9 Q5.out.lt; have X9 : Hid (NBox w9 w1.heap.size (bar b)) := X5.out.kept hb9 X5.out.lt; have B9 : Hid (Below w.heap.size w w9) := B5.out.trans (hb9.mono B5.out.size); obtain ⟨a0, a1, a2, a3, a4, a5, a6, a7, a8⟩ := Q9.out.fields; obtain ⟨x0, x1, x2, x3, x4, x5, x6, x7, x8⟩ := X9.out.fields))
        go_ret
        exact ⟨rfl, B9.out⟩
      | true =>
        rw [hO, hc] at hA
        rw [hc] at kS
        have hR : alF t = 0 := by rw [hA]; simp [*]
        rw [hR]
        clear hA hO hc hR
        go_enter Tryz.func60, Tryz.ntmps60
        go_wp2_with (first
          | (go_at_call 95; refine kB.mono ?_; rintro e w1 ⟨he, hb1⟩; rw [Nb.arr] at he; subst he; clear kB a0 a1 a2 a3 a4 a5 a6 a7 a8; have A1 := alloc_below w1 (.cells #[.int .i64 (bar b).kind, .int .u64 (bar b).num, .bool (bar b).neg, .string (bar b).dig, .int .i64 (bar b).exp, .string (bar b).txt, .slice (bar b).ab (bar b).lb (bar b).cb, .slice (bar b).ak (bar b).lk (bar b).ck, .slice (bar b).ai (bar b).li (bar b).ci] 26); have b1 : Below (w.alloc (.cells b.arr 26)).heap.size (w.alloc (.cells b.arr 26)) (w1.alloc (.cells #[.int .i64 (bar b).kind, .int .u64 (bar b).num, .bool (bar b).neg, .string (bar b).dig, .int .i64 (bar b).exp, .string (bar b).txt, .slice (bar b).ab (bar b).lb (bar b).cb, .slice (bar b).ak (bar b).lk (bar b).ck, .slice (bar b).ai (bar b).li (bar b).ci] 26)) := hb1.trans (A1.mono hb1.size); have Q1 : Hid (NBox (w1.alloc (.cells #[.int .i64 (bar b).kind, .int .u64 (bar b).num, .bool (bar b).neg, .string (bar b).dig, .int .i64 (bar b).exp, .string (bar b).txt, .slice (bar b).ab (bar b).lb (bar b).cb, .slice (bar b).ak (bar b).lk (bar b).ck, .slice (bar b).ai (bar b).li (bar b).ci] 26)) w.heap.size b) := Q0.out.kept b1 Q0.out.lt; have X1 : Hid (NBox (w1.alloc (.cells #[.int .i64 (bar b).kind, .int .u64 (bar b).num, .bool (bar b).neg, .string (bar b).dig, .int .i64 (bar b).exp, .string (bar b).txt, .slice (bar b).ab (bar b).lb (bar b).cb, .slice (bar b).ak (bar b).lk (bar b).ck, .slice (bar b).ai (bar b).li (bar b).ci] 26)) w1.heap.size (bar b)) := nbox_new w1 (bar b); have B1 : Hid (Below w.heap.size w (w1.alloc (.cells #[.int .i64 (bar b).kind, .int .u64 (bar b).num, .bool (bar b).neg, .string (bar b).dig, .int .i64 (bar b).exp, .string (bar b).txt, .slice (bar b).ab (bar b).lb (bar b).cb, .slice (bar b).ak (bar b).lk (bar b).ck, .slice (bar b).ai (bar b).li (bar b).ci] 26))) := B0.out.trans (b1.mono B0.out.size); obtain ⟨a0, a1, a2, a3, a4, a5, a6, a7, a8⟩ := Q1.out.fields; obtain ⟨x0, x1, x2, x3, x4, x5, x6, x7, x8⟩ := X1.out.fields)
          | (go_at_call 99; refine (kN1 _).mono ?_; rintro e w2 ⟨rfl, hb2⟩; clear kN1; clear a0 a1 a2 a3 a4 a5 a6 a7 a8 x0 x1 x2 x3 x4 x5 x6 x7 x8; have Q2 : Hid (NBox w2 w.heap.size b) := Q1.out.kept hb2 Q1.out.lt; have X2 : Hid (NBox w2 w1.heap.size (bar b)) := X1.out.kept hb2 X1.out.lt; have B2 : Hid (Below w.heap.size w w2) := B1.out.trans (hb2.mono B1.out.size); obtain ⟨a0, a1, a2, a3, a4, a5, a6, a7, a8⟩ := Q2.out.fields; obtain ⟨x0, x1, x2, x3, x4, x5, x6, x7, x8⟩ := X2.out.fields)
          | (go_at_call 98; refine (kW _).mono ?_; rintro e w3 ⟨rfl, hb3⟩; clear kW; clear a0 a1 a2 a3 a4 a5 a6 a7 a8 x0 x1 x2 x3 x4 x5 x6 x7 x8; have Q3 : Hid (NBox w3 w.heap.size b) := Q2.out.kept hb3 Q2.out.lt; have X3 : Hid (NBox w3 w1.heap.size (bar b)) := X2.out.kept hb3 X2.out.lt; have B3 : Hid (Below w.heap.size w w3) := B2.out.trans (hb3.mono B2.out.size); obtain ⟨a0, a1, a2, a3, a4, a5, a6, a7, a8⟩ := Q3.out.fields; obtain ⟨x0, x1, x2, x3, x4, x5, x6, x7, x8⟩ := X3.out.fields)
          | (go_at_call 99; refine (kN2 _).mono ?_; rintro e w4 ⟨rfl, hb4⟩; clear kN2; clear a0 a1 a2 a3 a4 a5 a6 a7 a8 x0 x1 x2 x3 x4 x5 x6 x7 x8; have Q4 : Hid (NBox w4 w.heap.size b) := Q3.out.kept hb4 Q3.out.lt; have X4 : Hid (NBox w4 w1.heap.size (bar b)) := X3.out.kept hb4 X3.out.lt; have B4 : Hid (Below w.heap.size w w4) := B3.out.trans (hb4.mono B3.out.size); obtain ⟨a0, a1, a2, a3, a4, a5, a6, a7, a8⟩ := Q4.out.fields; obtain ⟨x0, x1, x2, x3, x4, x5, x6, x7, x8⟩ := X4.out.fields)
          | (go_at_call 100; refine (kR _).mono ?_; rintro e w5 ⟨rfl, hb5⟩; clear kR; clear a0 a1 a2 a3 a4 a5 a6 a7 a8 x0 x1 x2 x3 x4 x5 x6 x7 x8; have Q5 : Hid (NBox w5 w.heap.size b) := Q4.out.kept hb5 Q4.out.lt; have X5 : Hid (NBox w5 w1.heap.size (bar b)) := X4.out.kept hb5 X4.out.lt; have B5 : Hid (Below w.heap.size w w5) := B4.out.trans (hb5.mono B4.out.size); obtain ⟨a0, a1, a2, a3, a4, a5, a6, a7, a8⟩ := Q5.out.fields; obtain ⟨x0, x1, x2, x3, x4, x5, x6, x7, x8⟩ := X5.out.fields)
          | (have kS5 := kS.out _ B5.out; go_at_call 33; refine kS5.mono ?_; rintro e w9 ⟨rfl, hb9⟩; clear kS5; clear a0 a1 a2 a3 a4 a5 a6 a7 a8 x0 x1 x2 x3 x4 x5 x6 x7 x8; have Q9 : Hid (NBox w9 w.heap.size b) := Q5.out.kept hb9 Q5.out.lt; have X9 : Hid (NBox w9 w1.heap.size (bar b)) := X5.out.kept hb9 X5.out.lt; have B9 : Hid (Below w.heap.size w w9) := B5.out.trans (hb9.mono B5.out.size); obtain ⟨a0, a1, a2, a3, a4, a5, a6, a7, a8⟩ := Q9.out.fields; obtain ⟨x0, x1, x2, x3, x4, x5, x6, x7, x8⟩ := X9.out.fields))
        go_ret
        exact ⟨rfl, B9.out⟩
end Go.Proofs.YtnjbppfanmmifaaGreatDoor
namespace Go.Proofs.YtnjbppfanmmifaaGreatDoor
open Go.RowKit
set_option linter.unusedVariables false

set_option maxHeartbeats 8000000 in
set_option maxRecDepth 100000 in
theorem ealone_k5 {D : Nat} {t : Tr} {b : Nb} {w : World} (hN : Nd (D + 1) w b t) (hK : b.kind = 5) : Calls Tryz.prog 60 #[.agg b.arr] w fun e w' => e = .returned (.int .i64 (alF t)) ∧ Below w.heap.size w w' := by
  have hal := alloc_below w (.cells b.arr 26)
  have B0 : Hid (Below w.heap.size w (w.alloc (.cells b.arr 26))) := hal
  have Q0 : Hid (NBox (w.alloc (.cells b.arr 26)) w.heap.size b) := nbox_new w b
  obtain ⟨a0, a1, a2, a3, a4, a5, a6, a7, a8⟩ := (nbox_new w b).fields
  have rk := hN.2.2.2.1.2.1
  have ri := hN.2.2.2.2.2.1
  have kB := bare_any b (w.alloc (.cells b.arr 26))
  have kS : Hid (∀ w', Below w.heap.size w w' → Calls Tryz.prog 33 #[.agg (bar b).arr, .agg b.arr] w' fun e w'' => e = .returned (.bool t.clean) ∧ Below w'.heap.size w' w'') := fun w' hb => esam_any (nd_bar (hN.kept hb)) (hN.kept hb) (Tr.clean_iff t)
  have hk : b.kind = t.kind := hN.1.1
  have hnum : b.num = t.num := hN.1.2.1
  have hneg : b.neg = t.neg := hN.1.2.2.1
  have hdig : b.dig = t.dig := hN.1.2.2.2.1
  have hexp : b.exp = t.exp := hN.1.2.2.2.2.1
  have htxt : b.txt = t.txt := hN.1.2.2.2.2.2
  have hlb : t.bytes.length = b.lb := hN.2.2.1.1
  have hlk : t.keys.length = b.lk := hN.2.2.2.1.1
  have hli : t.kids.length = b.li := hN.2.2.2.2.1
  have mb1 := hN.2.2.1.2.1.1
  have mb2 := hN.2.2.1.2.1.2.1
  have mk1 := rk.1
  have mk2 := rk.2.1
  have mi1 := ri.1
  have mi2 := ri.2.1
  unfold maxLen at mb2 mk2 mi2
  have mt : b.txt.size ≤ 140737488351232 := by rw [htxt]; exact hN.2.1.2.2.2.2
  have hA : alF t = if (b.kind = 5 ∧ 4096 < b.txt.size) ∨ (b.kind = 6 ∧ 4096 < b.lb) then 8
    else if b.kind = 5 ∧ gtx b.txt = false then 6
    else if b.kind = 2 ∧ (rt b.dig = false ∨ (b.neg = true ∧ b.dig = ⟨#[48]⟩)) then 11
    else if b.kind = 3 ∧ rdN b.neg b.dig b.exp = false then 11
    else if t.odd = true then 12 else 0 := by
    rw [hk, hneg, hdig, hexp, htxt, ← hlb]; rfl
  have hO := odd_doc hN
  have hkk : Hid (b.kind = t.kind) := hk
  clear hneg hdig hexp htxt hlb hlk hli hnum hN hk hal rk ri
  have e1 : (b.kind == 1) = false := by rw [hK]; decide
  have e2 : (b.kind == 2) = false := by rw [hK]; decide
  have e3 : (b.kind == 3) = false := by rw [hK]; decide
  have e5 : (b.kind == 5) = true := by rw [hK]; decide
  have e6 : (b.kind == 6) = false := by rw [hK]; decide
  have e8 : (b.kind == 8) = false := by rw [hK]; decide
  have e9 : (b.kind == 9) = false := by rw [hK]; decide
  have e10 : (b.kind == 10) = false := by rw [hK]; decide
  have d0 : decide (b.kind < 0) = false := by rw [hK]; decide
  have d10 : decide (10 < b.kind) = false := by rw [hK]; decide
  rcases Nat.lt_or_ge 4096 b.txt.size with hT | hT
  · have dT : decide ((4096 : Int) < ((b.txt.size : Nat) : Int)) = true := by simp; omega
    rw [if_pos (by omega)] at hA
    rw [hA]
    clear hA hO hT hK kS
    go_enter Tryz.func60, Tryz.ntmps60
    go_wp2_with (first
      | (go_at_call 95; refine kB.mono ?_; rintro e w1 ⟨he, hb1⟩; rw [Nb.arr] at he; subst he; clear kB a0 a1 a2 a3 a4 a5 a6 a7 a8; have A1 := alloc_below w1 (.cells #[.int .i64 (bar b).kind, .int .u64 (bar b).num, .bool (bar b).neg, .string (bar b).dig, .int .i64 (bar b).exp, .string (bar b).txt, .slice (bar b).ab (bar b).lb (bar b).cb, .slice (bar b).ak (bar b).lk (bar b).ck, .slice (bar b).ai (bar b).li (bar b).ci] 26); have b1 : Below (w.alloc (.cells b.arr 26)).heap.size (w.alloc (.cells b.arr 26)) (w1.alloc (.cells #[.int .i64 (bar b).kind, .int .u64 (bar b).num, .bool (bar b).neg, .string (bar b).dig, .int .i64 (bar b).exp, .string (bar b).txt, .slice (bar b).ab (bar b).lb (bar b).cb, .slice (bar b).ak (bar b).lk (bar b).ck, .slice (bar b).ai (bar b).li (bar b).ci] 26)) := hb1.trans (A1.mono hb1.size); have Q1 : Hid (NBox (w1.alloc (.cells #[.int .i64 (bar b).kind, .int .u64 (bar b).num, .bool (bar b).neg, .string (bar b).dig, .int .i64 (bar b).exp, .string (bar b).txt, .slice (bar b).ab (bar b).lb (bar b).cb, .slice (bar b).ak (bar b).lk (bar b).ck, .slice (bar b).ai (bar b).li (bar b).ci] 26)) w.heap.size b) := Q0.out.kept b1 Q0.out.lt; have X1 : Hid (NBox (w1.alloc (.cells #[.int .i64 (bar b).kind, .int .u64 (bar b).num, .bool (bar b).neg, .string (bar b).dig, .int .i64 (bar b).exp, .string (bar b).txt, .slice (bar b).ab (bar b).lb (bar b).cb, .slice (bar b).ak (bar b).lk (bar b).ck, .slice (bar b).ai (bar b).li (bar b).ci] 26)) w1.heap.size (bar b)) := nbox_new w1 (bar b); have B1 : Hid (Below w.heap.size w (w1.alloc (.cells #[.int .i64 (bar b).kind, .int .u64 (bar b).num, .bool (bar b).neg, .string (bar b).dig, .int .i64 (bar b).exp, .string (bar b).txt, .slice (bar b).ab (bar b).lb (bar b).cb, .slice (bar b).ak (bar b).lk (bar b).ck, .slice (bar b).ai (bar b).li (bar b).ci] 26))) := B0.out.trans (b1.mono B0.out.size); obtain ⟨a0, a1, a2, a3, a4, a5, a6, a7, a8⟩ := Q1.out.fields; obtain ⟨x0, x1, x2, x3, x4, x5, x6, x7, x8⟩ := X1.out.fields))
    go_ret
    exact ⟨rfl, B1.out⟩
  have dT : decide ((4096 : Int) < ((b.txt.size : Nat) : Int)) = false := by simp; omega
  rw [if_neg (by omega)] at hA
  have hG : gtx b.txt = decide (whyL (bs b.txt) = 0) := rfl
  rcases why_two (bs b.txt) with hY0 | hY0
  · have hY : Hid (whyL (bs b.txt) = 0) := hY0
    rw [if_neg (fun h => by rw [hG, hY0] at h; exact absurd h.2 (by decide)), if_neg (by omega), if_neg (by omega)] at hA
    rw [d0, d10, e1, e8, e9, e10] at hO
    clear hK hG hY0
    cases hc : t.clean with
    | false =>
      rw [hO, hc] at hA
      rw [hc] at kS
      have hR : alF t = 12 := by rw [hA]; simp
      rw [hR]
      clear hA hO hc hR
      go_enter Tryz.func60, Tryz.ntmps60
      go_wp2_with (first
        | (go_at_call 95; refine kB.mono ?_; rintro e w1 ⟨he, hb1⟩; rw [Nb.arr] at he; subst he; clear kB a0 a1 a2 a3 a4 a5 a6 a7 a8; have A1 := alloc_below w1 (.cells #[.int .i64 (bar b).kind, .int .u64 (bar b).num, .bool (bar b).neg, .string (bar b).dig, .int .i64 (bar b).exp, .string (bar b).txt, .slice (bar b).ab (bar b).lb (bar b).cb, .slice (bar b).ak (bar b).lk (bar b).ck, .slice (bar b).ai (bar b).li (bar b).ci] 26); have b1 : Below (w.alloc (.cells b.arr 26)).heap.size (w.alloc (.cells b.arr 26)) (w1.alloc (.cells #[.int .i64 (bar b).kind, .int .u64 (bar b).num, .bool (bar b).neg, .string (bar b).dig, .int .i64 (bar b).exp, .string (bar b).txt, .slice (bar b).ab (bar b).lb (bar b).cb, .slice (bar b).ak (bar b).lk (bar b).ck, .slice (bar b).ai (bar b).li (bar b).ci] 26)) := hb1.trans (A1.mono hb1.size); have Q1 : Hid (NBox (w1.alloc (.cells #[.int .i64 (bar b).kind, .int .u64 (bar b).num, .bool (bar b).neg, .string (bar b).dig, .int .i64 (bar b).exp, .string (bar b).txt, .slice (bar b).ab (bar b).lb (bar b).cb, .slice (bar b).ak (bar b).lk (bar b).ck, .slice (bar b).ai (bar b).li (bar b).ci] 26)) w.heap.size b) := Q0.out.kept b1 Q0.out.lt; have X1 : Hid (NBox (w1.alloc (.cells #[.int .i64 (bar b).kind, .int .u64 (bar b).num, .bool (bar b).neg, .string (bar b).dig, .int .i64 (bar b).exp, .string (bar b).txt, .slice (bar b).ab (bar b).lb (bar b).cb, .slice (bar b).ak (bar b).lk (bar b).ck, .slice (bar b).ai (bar b).li (bar b).ci] 26)) w1.heap.size (bar b)) := nbox_new w1 (bar b); have B1 : Hid (Below w.heap.size w (w1.alloc (.cells #[.int .i64 (bar b).kind, .int .u64 (bar b).num, .bool (bar b).neg, .string (bar b).dig, .int .i64 (bar b).exp, .string (bar b).txt, .slice (bar b).ab (bar b).lb (bar b).cb, .slice (bar b).ak (bar b).lk (bar b).ck, .slice (bar b).ai (bar b).li (bar b).ci] 26))) := B0.out.trans (b1.mono B0.out.size); obtain ⟨a0, a1, a2, a3, a4, a5, a6, a7, a8⟩ := Q1.out.fields; obtain ⟨x0, x1, x2, x3, x4, x5, x6, x7, x8⟩ := X1.out.fields; have hcv := Lib.run_convert_string_bytes (P := Tryz.prog) (w1.alloc (.cells #[.int .i64 (bar b).kind, .int .u64 (bar b).num, .bool (bar b).neg, .string (bar b).dig, .int .i64 (bar b).exp, .string (bar b).txt, .slice (bar b).ab (bar b).lb (bar b).cb, .slice (bar b).ak (bar b).lk (bar b).ck, .slice (bar b).ai (bar b).li (bar b).ci] 26)) 9 22 5 b.txt Tryz.underlying9 Tryz.underlying22 Tryz.underlying5; have BC : Below (w1.alloc (.cells #[.int .i64 (bar b).kind, .int .u64 (bar b).num, .bool (bar b).neg, .string (bar b).dig, .int .i64 (bar b).exp, .string (bar b).txt, .slice (bar b).ab (bar b).lb (bar b).cb, .slice (bar b).ak (bar b).lk (bar b).ck, .slice (bar b).ai (bar b).li (bar b).ci] 26)).heap.size (w1.alloc (.cells #[.int .i64 (bar b).kind, .int .u64 (bar b).num, .bool (bar b).neg, .string (bar b).dig, .int .i64 (bar b).exp, .string (bar b).txt, .slice (bar b).ab (bar b).lb (bar b).cb, .slice (bar b).ak (bar b).lk (bar b).ck, .slice (bar b).ai (bar b).li (bar b).ci] 26)) (Lib.bytesWorld (w1.alloc (.cells #[.int .i64 (bar b).kind, .int .u64 (bar b).num, .bool (bar b).neg, .string (bar b).dig, .int .i64 (bar b).exp, .string (bar b).txt, .slice (bar b).ab (bar b).lb (bar b).cb, .slice (bar b).ak (bar b).lk (bar b).ck, .slice (bar b).ai (bar b).li (bar b).ci] 26)) 5 b.txt) := conv_below _ _; obtain ⟨gC, nC, cC, hvC, hlC, hcC, hcC', hBC⟩ := (own_conv (w1.alloc (.cells #[.int .i64 (bar b).kind, .int .u64 (bar b).num, .bool (bar b).neg, .string (bar b).dig, .int .i64 (bar b).exp, .string (bar b).txt, .slice (bar b).ab (bar b).lb (bar b).cb, .slice (bar b).ak (bar b).lk (bar b).ck, .slice (bar b).ai (bar b).li (bar b).ci] 26)) b.txt (by omega)).form; have hvC' : (Value.slice (some ⟨(w1.alloc (.cells #[.int .i64 (bar b).kind, .int .u64 (bar b).num, .bool (bar b).neg, .string (bar b).dig, .int .i64 (bar b).exp, .string (bar b).txt, .slice (bar b).ab (bar b).lb (bar b).cb, .slice (bar b).ak (bar b).lk (bar b).ck, .slice (bar b).ai (bar b).li (bar b).ci] 26)).heap.size, 0, none⟩) b.txt.size (grownCap (w1.alloc (.cells #[.int .i64 (bar b).kind, .int .u64 (bar b).num, .bool (bar b).neg, .string (bar b).dig, .int .i64 (bar b).exp, .string (bar b).txt, .slice (bar b).ab (bar b).lb (bar b).cb, .slice (bar b).ak (bar b).lk (bar b).ck, .slice (bar b).ai (bar b).li (bar b).ci] 26)) b.txt.size 0 5)) = Value.slice (some ⟨gC, 0, none⟩) nC cC := hvC; rw [hvC'] at hcv; have kC : Calls Tryz.prog 96 #[.slice (some ⟨gC, 0, none⟩) nC cC] (Lib.bytesWorld (w1.alloc (.cells #[.int .i64 (bar b).kind, .int .u64 (bar b).num, .bool (bar b).neg, .string (bar b).dig, .int .i64 (bar b).exp, .string (bar b).txt, .slice (bar b).ab (bar b).lb (bar b).cb, .slice (bar b).ak (bar b).lk (bar b).ck, .slice (bar b).ai (bar b).li (bar b).ci] 26)) 5 b.txt) fun e w' => ∃ v, e = .returned (.tuple #[v, .agg #[.int .i64 0, .int .i64 ((atL (bs b.txt) : Nat) : Int)]]) ∧ Below (Lib.bytesWorld (w1.alloc (.cells #[.int .i64 (bar b).kind, .int .u64 (bar b).num, .bool (bar b).neg, .string (bar b).dig, .int .i64 (bar b).exp, .string (bar b).txt, .slice (bar b).ab (bar b).lb (bar b).cb, .slice (bar b).ak (bar b).lk (bar b).ck, .slice (bar b).ai (bar b).li (bar b).ci] 26)) 5 b.txt).heap.size (Lib.bytesWorld (w1.alloc (.cells #[.int .i64 (bar b).kind, .int .u64 (bar b).num, .bool (bar b).neg, .string (bar b).dig, .int .i64 (bar b).exp, .string (bar b).txt, .slice (bar b).ab (bar b).lb (bar b).cb, .slice (bar b).ak (bar b).lk (bar b).ck, .slice (bar b).ai (bar b).li (bar b).ci] 26)) 5 b.txt) w' := (xrunes_any (some ⟨gC, 0, none⟩) nC cC (bs b.txt) (Lib.bytesWorld (w1.alloc (.cells #[.int .i64 (bar b).kind, .int .u64 (bar b).num, .bool (bar b).neg, .string (bar b).dig, .int .i64 (bar b).exp, .string (bar b).txt, .slice (bar b).ab (bar b).lb (bar b).cb, .slice (bar b).ak (bar b).lk (bar b).ck, .slice (bar b).ai (bar b).li (bar b).ci] 26)) 5 b.txt) hlC.out hBC.out hcC (by have := hlC.out; rw [bs_len] at this; omega)).mono (fun e w' h => by obtain ⟨v, h1, h2, h3⟩ := h; rw [hY.out] at h1; exact ⟨v, h1, h3⟩); have Q2 : Hid (NBox (Lib.bytesWorld (w1.alloc (.cells #[.int .i64 (bar b).kind, .int .u64 (bar b).num, .bool (bar b).neg, .string (bar b).dig, .int .i64 (bar b).exp, .string (bar b).txt, .slice (bar b).ab (bar b).lb (bar b).cb, .slice (bar b).ak (bar b).lk (bar b).ck, .slice (bar b).ai (bar b).li (bar b).ci] 26)) 5 b.txt) w.heap.size b) := Q1.out.kept BC Q1.out.lt; have X2 : Hid (NBox (Lib.bytesWorld (w1.alloc (.cells #[.int .i64 (bar b).kind, .int .u64 (bar b).num, .bool (bar b).neg, .string (bar b).dig, .int .i64 (bar b).exp, .string (bar b).txt, .slice (bar b).ab (bar b).lb (bar b).cb, .slice (bar b).ak (bar b).lk (bar b).ck, .slice (bar b).ai (bar b).li (bar b).ci] 26)) 5 b.txt) w1.heap.size (bar b)) := X1.out.kept BC X1.out.lt; have B2 : Hid (Below w.heap.size w (Lib.bytesWorld (w1.alloc (.cells #[.int .i64 (bar b).kind, .int .u64 (bar b).num, .bool (bar b).neg, .string (bar b).dig, .int .i64 (bar b).exp, .string (bar b).txt, .slice (bar b).ab (bar b).lb (bar b).cb, .slice (bar b).ak (bar b).lk (bar b).ck, .slice (bar b).ai (bar b).li (bar b).ci] 26)) 5 b.txt)) := B1.out.trans (BC.mono B1.out.size); clear hvC hvC' hlC hBC BC)
        | (go_at_call 96; refine kC.mono ?_; rintro e w3 ⟨v, rfl, hb3⟩; clear kC; have A3 := alloc_below w3 (.cells #[.int .i64 0, .int .i64 ((atL (bs b.txt) : Nat) : Int)] 29); have h23 := hb3.trans (A3.mono hb3.size); clear a0 a1 a2 a3 a4 a5 a6 a7 a8 x0 x1 x2 x3 x4 x5 x6 x7 x8; have Q3 : Hid (NBox (w3.alloc (.cells #[.int .i64 0, .int .i64 ((atL (bs b.txt) : Nat) : Int)] 29)) w.heap.size b) := Q2.out.kept h23 Q2.out.lt; have X3 : Hid (NBox (w3.alloc (.cells #[.int .i64 0, .int .i64 ((atL (bs b.txt) : Nat) : Int)] 29)) w1.heap.size (bar b)) := X2.out.kept h23 X2.out.lt; have B3 : Hid (Below w.heap.size w (w3.alloc (.cells #[.int .i64 0, .int .i64 ((atL (bs b.txt) : Nat) : Int)] 29))) := B2.out.trans (h23.mono B2.out.size); obtain ⟨a0, a1, a2, a3, a4, a5, a6, a7, a8⟩ := Q3.out.fields; obtain ⟨x0, x1, x2, x3, x4, x5, x6, x7, x8⟩ := X3.out.fields)
        | (have kS3 := kS.out _ B3.out; go_at_call 33; refine kS3.mono ?_; rintro e w9 ⟨rfl, hb9⟩; clear kS3; clear a0 a1 a2 a3 a4 a5 a6 a7 a8 x0 x1 x2 x3 x4 x5 x6 x7 x8; have Q9 : Hid (NBox w9 w.heap.size b) := Q3.out.kept hb9 Q3.out.lt; have X9 : Hid (NBox w9 w1.heap.size (bar b)) := X3.out.kept hb9 X3.out.lt; have B9 : Hid (Below w.heap.size w w9) := B3.out.trans (hb9.mono B3.out.size); obtain ⟨a0, a1, a2, a3, a4, a5, a6, a7, a8⟩ := Q9.out.fields; obtain ⟨x0, x1, x2, x3, x4, x5, x6, x7, x8⟩ := X9.out.fields))
      go_ret
      exact ⟨rfl, B9.out⟩
    | true =>
      rw [hO, hc] at hA
      rw [hc] at kS
      have hR : alF t = 0 := by rw [hA]; simp [*]
      rw [hR]
      clear hA hO hc hR
      go_enter Tryz.func60, Tryz.ntmps60
      go_wp2_with (first
        | (go_at_call 95; refine kB.mono ?_; rintro e w1 ⟨he, hb1⟩; rw [Nb.arr] at he; subst he; clear kB a0 a1 a2 a3 a4 a5 a6 a7 a8; have A1 := alloc_below w1 (.cells #[.int .i64 (bar b).kind, .int .u64 (bar b).num, .bool (bar b).neg, .string (bar b).dig, .int .i64 (bar b).exp, .string (bar b).txt, .slice (bar b).ab (bar b).lb (bar b).cb, .slice (bar b).ak (bar b).lk (bar b).ck, .slice (bar b).ai (bar b).li (bar b).ci] 26); have b1 : Below (w.alloc (.cells b.arr 26)).heap.size (w.alloc (.cells b.arr 26)) (w1.alloc (.cells #[.int .i64 (bar b).kind, .int .u64 (bar b).num, .bool (bar b).neg, .string (bar b).dig, .int .i64 (bar b).exp, .string (bar b).txt, .slice (bar b).ab (bar b).lb (bar b).cb, .slice (bar b).ak (bar b).lk (bar b).ck, .slice (bar b).ai (bar b).li (bar b).ci] 26)) := hb1.trans (A1.mono hb1.size); have Q1 : Hid (NBox (w1.alloc (.cells #[.int .i64 (bar b).kind, .int .u64 (bar b).num, .bool (bar b).neg, .string (bar b).dig, .int .i64 (bar b).exp, .string (bar b).txt, .slice (bar b).ab (bar b).lb (bar b).cb, .slice (bar b).ak (bar b).lk (bar b).ck, .slice (bar b).ai (bar b).li (bar b).ci] 26)) w.heap.size b) := Q0.out.kept b1 Q0.out.lt; have X1 : Hid (NBox (w1.alloc (.cells #[.int .i64 (bar b).kind, .int .u64 (bar b).num, .bool (bar b).neg, .string (bar b).dig, .int .i64 (bar b).exp, .string (bar b).txt, .slice (bar b).ab (bar b).lb (bar b).cb, .slice (bar b).ak (bar b).lk (bar b).ck, .slice (bar b).ai (bar b).li (bar b).ci] 26)) w1.heap.size (bar b)) := nbox_new w1 (bar b); have B1 : Hid (Below w.heap.size w (w1.alloc (.cells #[.int .i64 (bar b).kind, .int .u64 (bar b).num, .bool (bar b).neg, .string (bar b).dig, .int .i64 (bar b).exp, .string (bar b).txt, .slice (bar b).ab (bar b).lb (bar b).cb, .slice (bar b).ak (bar b).lk (bar b).ck, .slice (bar b).ai (bar b).li (bar b).ci] 26))) := B0.out.trans (b1.mono B0.out.size); obtain ⟨a0, a1, a2, a3, a4, a5, a6, a7, a8⟩ := Q1.out.fields; obtain ⟨x0, x1, x2, x3, x4, x5, x6, x7, x8⟩ := X1.out.fields; have hcv := Lib.run_convert_string_bytes (P := Tryz.prog) (w1.alloc (.cells #[.int .i64 (bar b).kind, .int .u64 (bar b).num, .bool (bar b).neg, .string (bar b).dig, .int .i64 (bar b).exp, .string (bar b).txt, .slice (bar b).ab (bar b).lb (bar b).cb, .slice (bar b).ak (bar b).lk (bar b).ck, .slice (bar b).ai (bar b).li (bar b).ci] 26)) 9 22 5 b.txt Tryz.underlying9 Tryz.underlying22 Tryz.underlying5; have BC : Below (w1.alloc (.cells #[.int .i64 (bar b).kind, .int .u64 (bar b).num, .bool (bar b).neg, .string (bar b).dig, .int .i64 (bar b).exp, .string (bar b).txt, .slice (bar b).ab (bar b).lb (bar b).cb, .slice (bar b).ak (bar b).lk (bar b).ck, .slice (bar b).ai (bar b).li (bar b).ci] 26)).heap.size (w1.alloc (.cells #[.int .i64 (bar b).kind, .int .u64 (bar b).num, .bool (bar b).neg, .string (bar b).dig, .int .i64 (bar b).exp, .string (bar b).txt, .slice (bar b).ab (bar b).lb (bar b).cb, .slice (bar b).ak (bar b).lk (bar b).ck, .slice (bar b).ai (bar b).li (bar b).ci] 26)) (Lib.bytesWorld (w1.alloc (.cells #[.int .i64 (bar b).kind, .int .u64 (bar b).num, .bool (bar b).neg, .string (bar b).dig, .int .i64 (bar b).exp, .string (bar b).txt, .slice (bar b).ab (bar b).lb (bar b).cb, .slice (bar b).ak (bar b).lk (bar b).ck, .slice (bar b).ai (bar b).li (bar b).ci] 26)) 5 b.txt) := conv_below _ _; obtain ⟨gC, nC, cC, hvC, hlC, hcC, hcC', hBC⟩ := (own_conv (w1.alloc (.cells #[.int .i64 (bar b).kind, .int .u64 (bar b).num, .bool (bar b).neg, .string (bar b).dig, .int .i64 (bar b).exp, .string (bar b).txt, .slice (bar b).ab (bar b).lb (bar b).cb, .slice (bar b).ak (bar b).lk (bar b).ck, .slice (bar b).ai (bar b).li (bar b).ci] 26)) b.txt (by omega)).form; have hvC' : (Value.slice (some ⟨(w1.alloc (.cells #[.int .i64 (bar b).kind, .int .u64 (bar b).num, .bool (bar b).neg, .string (bar b).dig, .int .i64 (bar b).exp, .string (bar b).txt, .slice (bar b).ab (bar b).lb (bar b).cb, .slice (bar b).ak (bar b).lk (bar b).ck, .slice (bar b).ai (bar b).li (bar b).ci] 26)).heap.size, 0, none⟩) b.txt.size (grownCap (w1.alloc (.cells #[.int .i64 (bar b).kind, .int .u64 (bar b).num, .bool (bar b).neg, .string (bar b).dig, .int .i64 (bar b).exp, .string (bar b).txt, .slice (bar b).ab (bar b).lb (bar b).cb, .slice (bar b).ak (bar b).lk (bar b).ck, .slice (bar b).ai (bar b).li (bar b).ci] 26)) b.txt.size 0 5)) = Value.slice (some ⟨gC, 0, none⟩) nC cC := hvC; rw [hvC'] at hcv; have kC : Calls Tryz.prog 96 #[.slice (some ⟨gC, 0, none⟩) nC cC] (Lib.bytesWorld (w1.alloc (.cells #[.int .i64 (bar b).kind, .int .u64 (bar b).num, .bool (bar b).neg, .string (bar b).dig, .int .i64 (bar b).exp, .string (bar b).txt, .slice (bar b).ab (bar b).lb (bar b).cb, .slice (bar b).ak (bar b).lk (bar b).ck, .slice (bar b).ai (bar b).li (bar b).ci] 26)) 5 b.txt) fun e w' => ∃ v, e = .returned (.tuple #[v, .agg #[.int .i64 0, .int .i64 ((atL (bs b.txt) : Nat) : Int)]]) ∧ Below (Lib.bytesWorld (w1.alloc (.cells #[.int .i64 (bar b).kind, .int .u64 (bar b).num, .bool (bar b).neg, .string (bar b).dig, .int .i64 (bar b).exp, .string (bar b).txt, .slice (bar b).ab (bar b).lb (bar b).cb, .slice (bar b).ak (bar b).lk (bar b).ck, .slice (bar b).ai (bar b).li (bar b).ci] 26)) 5 b.txt).heap.size (Lib.bytesWorld (w1.alloc (.cells #[.int .i64 (bar b).kind, .int .u64 (bar b).num, .bool (bar b).neg, .string (bar b).dig, .int .i64 (bar b).exp, .string (bar b).txt, .slice (bar b).ab (bar b).lb (bar b).cb, .slice (bar b).ak (bar b).lk (bar b).ck, .slice (bar b).ai (bar b).li (bar b).ci] 26)) 5 b.txt) w' := (xrunes_any (some ⟨gC, 0, none⟩) nC cC (bs b.txt) (Lib.bytesWorld (w1.alloc (.cells #[.int .i64 (bar b).kind, .int .u64 (bar b).num, .bool (bar b).neg, .string (bar b).dig, .int .i64 (bar b).exp, .string (bar b).txt, .slice (bar b).ab (bar b).lb (bar b).cb, .slice (bar b).ak (bar b).lk (bar b).ck, .slice (bar b).ai (bar b).li (bar b).ci] 26)) 5 b.txt) hlC.out hBC.out hcC (by have := hlC.out; rw [bs_len] at this; omega)).mono (fun e w' h => by obtain ⟨v, h1, h2, h3⟩ := h; rw [hY.out] at h1; exact ⟨v, h1, h3⟩); have Q2 : Hid (NBox (Lib.bytesWorld (w1.alloc (.cells #[.int .i64 (bar b).kind, .int .u64 (bar b).num, .bool (bar b).neg, .string (bar b).dig, .int .i64 (bar b).exp, .string (bar b).txt, .slice (bar b).ab (bar b).lb (bar b).cb, .slice (bar b).ak (bar b).lk (bar b).ck, .slice (bar b).ai (bar b).li (bar b).ci] 26)) 5 b.txt) w.heap.size b) := Q1.out.kept BC Q1.out.lt; have X2 : Hid (NBox (Lib.bytesWorld (w1.alloc (.cells #[.int .i64 (bar b).kind, .int .u64 (bar b).num, .bool (bar b).neg, .string (bar b).dig, .int .i64 (bar b).exp, .string (bar b).txt, .slice (bar b).ab (bar b).lb (bar b).cb, .slice (bar b).ak (bar b).lk (bar b).ck, .slice (bar b).ai (bar b).li (bar b).ci] 26)) 5 b.txt) w1.heap.size (bar b)) := X1.out.kept BC X1.out.lt; have B2 : Hid (Below w.heap.size w (Lib.bytesWorld (w1.alloc (.cells #[.int .i64 (bar b).kind, .int .u64 (bar b).num, .bool (bar b).neg, .string (bar b).dig, .int .i64 (bar b).exp, .string (bar b).txt, .slice (bar b).ab (bar b).lb (bar b).cb, .slice (bar b).ak (bar b).lk (bar b).ck, .slice (bar b).ai (bar b).li (bar b).ci] 26)) 5 b.txt)) := B1.out.trans (BC.mono B1.out.size); clear hvC hvC' hlC hBC BC)
        | (go_at_call 96; refine kC.mono ?_; rintro e w3 ⟨v, rfl, hb3⟩; clear kC; have A3 := alloc_below w3 (.cells #[.int .i64 0, .int .i64 ((atL (bs b.txt) : Nat) : Int)] 29); have h23 := hb3.trans (A3.mono hb3.size); clear a0 a1 a2 a3 a4 a5 a6 a7 a8 x0 x1 x2 x3 x4 x5 x6 x7 x8; have Q3 : Hid (NBox (w3.alloc (.cells #[.int .i64 0, .int .i64 ((atL (bs b.txt) : Nat) : Int)] 29)) w.heap.size b) := Q2.out.kept h23 Q2.out.lt; have X3 : Hid (NBox (w3.alloc (.cells #[.int .i64 0, .int .i64 ((atL (bs b.txt) : Nat) : Int)] 29)) w1.heap.size (bar b)) := X2.out.kept h23 X2.out.lt; have B3 : Hid (Below w.heap.size w (w3.alloc (.cells #[.int .i64 0, .int .i64 ((atL (bs b.txt) : Nat) : Int)] 29))) := B2.out.trans (h23.mono B2.out.size); obtain ⟨a0, a1, a2, a3, a4, a5, a6, a7, a8⟩ := Q3.out.fields; obtain ⟨x0, x1, x2, x3, x4, x5, x6, x7, x8⟩ := X3.out.fields)
        | (have kS3 := kS.out _ B3.out; go_at_call 33; refine kS3.mono ?_; rintro e w9 ⟨rfl, hb9⟩; clear kS3; clear a0 a1 a2 a3 a4 a5 a6 a7 a8 x0 x1 x2 x3 x4 x5 x6 x7 x8; have Q9 : Hid (NBox w9 w.heap.size b) := Q3.out.kept hb9 Q3.out.lt; have X9 : Hid (NBox w9 w1.heap.size (bar b)) := X3.out.kept hb9 X3.out.lt; have B9 : Hid (Below w.heap.size w w9) := B3.out.trans (hb9.mono B3.out.size); obtain ⟨a0, a1, a2, a3, a4, a5, a6, a7, a8⟩ := Q9.out.fields; obtain ⟨x0, x1, x2, x3, x4, x5, x6, x7, x8⟩ := X9.out.fields))
      go_ret
      exact ⟨rfl, B9.out⟩
  · have hY : Hid (whyL (bs b.txt) = 6) := hY0
    rw [if_pos ⟨hK, by rw [hG, hY0]; decide⟩] at hA
    rw [hA]
    clear hA hO hK hG hY0 kS
    go_enter Tryz.func60, Tryz.ntmps60
    go_wp2_with (first
      | (go_at_call 95; refine kB.mono ?_; rintro e w1 ⟨he, hb1⟩; rw [Nb.arr] at he; subst he; clear kB a0 a1 a2 a3 a4 a5 a6 a7 a8; have A1 := alloc_below w1 (.cells #[.int .i64 (bar b).kind, .int .u64 (bar b).num, .bool (bar b).neg, .string (bar b).dig, .int .i64 (bar b).exp, .string (bar b).txt, .slice (bar b).ab (bar b).lb (bar b).cb, .slice (bar b).ak (bar b).lk (bar b).ck, .slice (bar b).ai (bar b).li (bar b).ci] 26); have b1 : Below (w.alloc (.cells b.arr 26)).heap.size (w.alloc (.cells b.arr 26)) (w1.alloc (.cells #[.int .i64 (bar b).kind, .int .u64 (bar b).num, .bool (bar b).neg, .string (bar b).dig, .int .i64 (bar b).exp, .string (bar b).txt, .slice (bar b).ab (bar b).lb (bar b).cb, .slice (bar b).ak (bar b).lk (bar b).ck, .slice (bar b).ai (bar b).li (bar b).ci] 26)) := hb1.trans (A1.mono hb1.size); have Q1 : Hid (NBox (w1.alloc (.cells #[.int .i64 (bar b).kind, .int .u64 (bar b).num, .bool (bar b).neg, .string (bar b).dig, .int .i64 (bar b).exp, .string (bar b).txt, .slice (bar b).ab (bar b).lb (bar b).cb, .slice (bar b).ak (bar b).lk (bar b).ck, .slice (bar b).ai (bar b).li (bar b).ci] 26)) w.heap.size b) := Q0.out.kept b1 Q0.out.lt; have X1 : Hid (NBox (w1.alloc (.cells #[.int .i64 (bar b).kind, .int .u64 (bar b).num, .bool (bar b).neg, .string (bar b).dig, .int .i64 (bar b).exp, .string (bar b).txt, .slice (bar b).ab (bar b).lb (bar b).cb, .slice (bar b).ak (bar b).lk (bar b).ck, .slice (bar b).ai (bar b).li (bar b).ci] 26)) w1.heap.size (bar b)) := nbox_new w1 (bar b); have B1 : Hid (Below w.heap.size w (w1.alloc (.cells #[.int .i64 (bar b).kind, .int .u64 (bar b).num, .bool (bar b).neg, .string (bar b).dig, .int .i64 (bar b).exp, .string (bar b).txt, .slice (bar b).ab (bar b).lb (bar b).cb, .slice (bar b).ak (bar b).lk (bar b).ck, .slice (bar b).ai (bar b).li (bar b).ci] 26))) := B0.out.trans (b1.mono B0.out.size); obtain ⟨a0, a1, a2, a3, a4, a5, a6, a7, a8⟩ := Q1.out.fields; obtain ⟨x0, x1, x2, x3, x4, x5, x6, x7, x8⟩ := X1.out.fields; have hcv := Lib.run_convert_string_bytes (P := Tryz.prog) (w1.alloc (.cells #[.int .i64 (bar b).kind, .int .u64 (bar b).num, .bool (bar b).neg, .string (bar b).dig, .int .i64 (bar b).exp, .string (bar b).txt, .slice (bar b).ab (bar b).lb (bar b).cb, .slice (bar b).ak (bar b).lk (bar b).ck, .slice (bar b).ai (bar b).li (bar b).ci] 26)) 9 22 5 b.txt Tryz.underlying9 Tryz.underlying22 Tryz.underlying5; have BC : Below (w1.alloc (.cells #[.int .i64 (bar b).kind, .int .u64 (bar b).num, .bool (bar b).neg, .string (bar b).dig, .int .i64 (bar b).exp, .string (bar b).txt, .slice (bar b).ab (bar b).lb (bar b).cb, .slice (bar b).ak (bar b).lk (bar b).ck, .slice (bar b).ai (bar b).li (bar b).ci] 26)).heap.size (w1.alloc (.cells #[.int .i64 (bar b).kind, .int .u64 (bar b).num, .bool (bar b).neg, .string (bar b).dig, .int .i64 (bar b).exp, .string (bar b).txt, .slice (bar b).ab (bar b).lb (bar b).cb, .slice (bar b).ak (bar b).lk (bar b).ck, .slice (bar b).ai (bar b).li (bar b).ci] 26)) (Lib.bytesWorld (w1.alloc (.cells #[.int .i64 (bar b).kind, .int .u64 (bar b).num, .bool (bar b).neg, .string (bar b).dig, .int .i64 (bar b).exp, .string (bar b).txt, .slice (bar b).ab (bar b).lb (bar b).cb, .slice (bar b).ak (bar b).lk (bar b).ck, .slice (bar b).ai (bar b).li (bar b).ci] 26)) 5 b.txt) := conv_below _ _; obtain ⟨gC, nC, cC, hvC, hlC, hcC, hcC', hBC⟩ := (own_conv (w1.alloc (.cells #[.int .i64 (bar b).kind, .int .u64 (bar b).num, .bool (bar b).neg, .string (bar b).dig, .int .i64 (bar b).exp, .string (bar b).txt, .slice (bar b).ab (bar b).lb (bar b).cb, .slice (bar b).ak (bar b).lk (bar b).ck, .slice (bar b).ai (bar b).li (bar b).ci] 26)) b.txt (by omega)).form; have hvC' : (Value.slice (some ⟨(w1.alloc (.cells #[.int .i64 (bar b).kind, .int .u64 (bar b).num, .bool (bar b).neg, .string (bar b).dig, .int .i64 (bar b).exp, .string (bar b).txt, .slice (bar b).ab (bar b).lb (bar b).cb, .slice (bar b).ak (bar b).lk (bar b).ck, .slice (bar b).ai (bar b).li (bar b).ci] 26)).heap.size, 0, none⟩) b.txt.size (grownCap (w1.alloc (.cells #[.int .i64 (bar b).kind, .int .u64 (bar b).num, .bool (bar b).neg, .string (bar b).dig, .int .i64 (bar b).exp, .string (bar b).txt, .slice (bar b).ab (bar b).lb (bar b).cb, .slice (bar b).ak (bar b).lk (bar b).ck, .slice (bar b).ai (bar b).li (bar b).ci] 26)) b.txt.size 0 5)) = Value.slice (some ⟨gC, 0, none⟩) nC cC := hvC; rw [hvC'] at hcv; have kC : Calls Tryz.prog 96 #[.slice (some ⟨gC, 0, none⟩) nC cC] (Lib.bytesWorld (w1.alloc (.cells #[.int .i64 (bar b).kind, .int .u64 (bar b).num, .bool (bar b).neg, .string (bar b).dig, .int .i64 (bar b).exp, .string (bar b).txt, .slice (bar b).ab (bar b).lb (bar b).cb, .slice (bar b).ak (bar b).lk (bar b).ck, .slice (bar b).ai (bar b).li (bar b).ci] 26)) 5 b.txt) fun e w' => ∃ v, e = .returned (.tuple #[v, .agg #[.int .i64 6, .int .i64 ((atL (bs b.txt) : Nat) : Int)]]) ∧ Below (Lib.bytesWorld (w1.alloc (.cells #[.int .i64 (bar b).kind, .int .u64 (bar b).num, .bool (bar b).neg, .string (bar b).dig, .int .i64 (bar b).exp, .string (bar b).txt, .slice (bar b).ab (bar b).lb (bar b).cb, .slice (bar b).ak (bar b).lk (bar b).ck, .slice (bar b).ai (bar b).li (bar b).ci] 26)) 5 b.txt).heap.size (Lib.bytesWorld (w1.alloc (.cells #[.int .i64 (bar b).kind, .int .u64 (bar b).num, .bool (bar b).neg, .string (bar b).dig, .int .i64 (bar b).exp, .string (bar b).txt, .slice (bar b).ab (bar b).lb (bar b).cb, .slice (bar b).ak (bar b).lk (bar b).ck, .slice (bar b).ai (bar b).li (bar b).ci] 26)) 5 b.txt) w' := (xrunes_any (some ⟨gC, 0, none⟩) nC cC (bs b.txt) (Lib.bytesWorld (w1.alloc (.cells #[.int .i64 (bar b).kind, .int .u64 (bar b).num, .bool (bar b).neg, .string (bar b).dig, .int .i64 (bar b).exp, .string (bar b).txt, .slice (bar b).ab (bar b).lb (bar b).cb, .slice (bar b).ak (bar b).lk (bar b).ck, .slice (bar b).ai (bar b).li (bar b).ci] 26)) 5 b.txt) hlC.out hBC.out hcC (by have := hlC.out; rw [bs_len] at this; omega)).mono (fun e w' h => by obtain ⟨v, h1, h2, h3⟩ := h; rw [hY.out] at h1; exact ⟨v, h1, h3⟩); have Q2 : Hid (NBox (Lib.bytesWorld (w1.alloc (.cells #[.int .i64 (bar b).kind, .int .u64 (bar b).num, .bool (bar b).neg, .string (bar b).dig, .int .i64 (bar b).exp, .string (bar b).txt, .slice (bar b).ab (bar b).lb (bar b).cb, .slice (bar b).ak (bar b).lk (bar b).ck, .slice (bar b).ai (bar b).li (bar b).ci] 26)) 5 b.txt) w.heap.size b) := Q1.out.kept BC Q1.out.lt; have X2 : Hid (NBox (Lib.bytesWorld (w1.alloc (.cells #[.int .i64 (bar b).kind, .int .u64 (bar b).num, .bool (bar b).neg, .string (bar b).dig, .int .i64 (bar b).exp, .string (bar b).txt, .slice (bar b).ab (bar b).lb (bar b).cb, .slice (bar b).ak (bar b).lk (bar b).ck, .slice (bar b).ai (bar b).li (bar b).ci] 26)) 5 b.txt) w1.heap.size (bar b)) := X1.out.kept BC X1.out.lt; have B2 : Hid (Below w.heap.size w (Lib.bytesWorld (w1.alloc (.cells #[.int .i64 (bar b).kind, .int .u64 (bar b).num, .bool (bar b).neg, .string (bar b).dig, .int .i64 (bar b).exp, .string (bar b).txt, .slice (bar b).ab (bar b).lb (bar b).cb, .slice (bar b).ak (bar b).lk (bar b).ck, .slice (bar b).ai (bar b).li (bar b).ci] 26)) 5 b.txt)) := B1.out.trans (BC.mono B1.out.size); clear hvC hvC' hlC hBC BC)
      | (go_at_call 96; refine kC.mono ?_; rintro e w3 ⟨v, rfl, hb3⟩; clear kC; have A3 := alloc_below w3 (.cells #[.int .i64 6, .int .i64 ((atL (bs b.txt) : Nat) : Int)] 29); have h23 := hb3.trans (A3.mono hb3.size); clear a0 a1 a2 a3 a4 a5 a6 a7 a8 x0 x1 x2 x3 x4 x5 x6 x7 x8; have Q3 : Hid (NBox (w3.alloc (.cells #[.int .i64 6, .int .i64 ((atL (bs b.txt) : Nat) : Int)] 29)) w.heap.size b) := Q2.out.kept h23 Q2.out.lt; have X3 : Hid (NBox (w3.alloc (.cells #[.int .i64 6, .int .i64 ((atL (bs b.txt) : Nat) : Int)] 29)) w1.heap.size (bar b)) := X2.out.kept h23 X2.out.lt; have B3 : Hid (Below w.heap.size w (w3.alloc (.cells #[.int .i64 6, .int .i64 ((atL (bs b.txt) : Nat) : Int)] 29))) := B2.out.trans (h23.mono B2.out.size); obtain ⟨a0, a1, a2, a3, a4, a5, a6, a7, a8⟩ := Q3.out.fields; obtain ⟨x0, x1, x2, x3, x4, x5, x6, x7, x8⟩ := X3.out.fields))
    go_ret
    exact ⟨rfl, B3.out⟩
end Go.Proofs.YtnjbppfanmmifaaGreatDoor
namespace Go.Proofs.YtnjbppfanmmifaaGreatDoor
open Go.RowKit
set_option linter.unusedVariables false

set_option maxHeartbeats 8000000 in
set_option maxRecDepth 100000 in
theorem ealone_ko {D : Nat} {t : Tr} {b : Nb} {w : World} (hN : Nd (D + 1) w b t) (h1 : b.kind ≠ 1) (h2 : b.kind ≠ 2) (h3 : b.kind ≠ 3) (h5 : b.kind ≠ 5) (h6 : b.kind ≠ 6) (h8 : b.kind ≠ 8) (h9 : b.kind ≠ 9) (h10 : b.kind ≠ 10) : Calls Tryz.prog 60 #[.agg b.arr] w fun e w' => e = .returned (.int .i64 (alF t)) ∧ Below w.heap.size w w' := by
  have hal := alloc_below w (.cells b.arr 26)
  have B0 : Hid (Below w.heap.size w (w.alloc (.cells b.arr 26))) := hal
  have Q0 : Hid (NBox (w.alloc (.cells b.arr 26)) w.heap.size b) := nbox_new w b
  obtain ⟨a0, a1, a2, a3, a4, a5, a6, a7, a8⟩ := (nbox_new w b).fields
  have rk := hN.2.2.2.1.2.1
  have ri := hN.2.2.2.2.2.1
  have kB := bare_any b (w.alloc (.cells b.arr 26))
  have kS : Hid (∀ w', Below w.heap.size w w' → Calls Tryz.prog 33 #[.agg (bar b).arr, .agg b.arr] w' fun e w'' => e = .returned (.bool t.clean) ∧ Below w'.heap.size w' w'') := fun w' hb => esam_any (nd_bar (hN.kept hb)) (hN.kept hb) (Tr.clean_iff t)
  have hk : b.kind = t.kind := hN.1.1
  have hnum : b.num = t.num := hN.1.2.1
  have hneg : b.neg = t.neg := hN.1.2.2.1
  have hdig : b.dig = t.dig := hN.1.2.2.2.1
  have hexp : b.exp = t.exp := hN.1.2.2.2.2.1
  have htxt : b.txt = t.txt := hN.1.2.2.2.2.2
  have hlb : t.bytes.length = b.lb := hN.2.2.1.1
  have hlk : t.keys.length = b.lk := hN.2.2.2.1.1
  have hli : t.kids.length = b.li := hN.2.2.2.2.1
  have mb1 := hN.2.2.1.2.1.1
  have mb2 := hN.2.2.1.2.1.2.1
  have mk1 := rk.1
  have mk2 := rk.2.1
  have mi1 := ri.1
  have mi2 := ri.2.1
  unfold maxLen at mb2 mk2 mi2
  have mt : b.txt.size ≤ 140737488351232 := by rw [htxt]; exact hN.2.1.2.2.2.2
  have hA : alF t = if (b.kind = 5 ∧ 4096 < b.txt.size) ∨ (b.kind = 6 ∧ 4096 < b.lb) then 8
    else if b.kind = 5 ∧ gtx b.txt = false then 6
    else if b.kind = 2 ∧ (rt b.dig = false ∨ (b.neg = true ∧ b.dig = ⟨#[48]⟩)) then 11
    else if b.kind = 3 ∧ rdN b.neg b.dig b.exp = false then 11
    else if t.odd = true then 12 else 0 := by
    rw [hk, hneg, hdig, hexp, htxt, ← hlb]; rfl
  have hO := odd_doc hN
  have hkk : Hid (b.kind = t.kind) := hk
  clear hneg hdig hexp htxt hlb hlk hli hnum hN hk hal rk ri
  have e1 : (b.kind == 1) = false := by simp [h1]
  have e2 : (b.kind == 2) = false := by simp [h2]
  have e3 : (b.kind == 3) = false := by simp [h3]
  have e5 : (b.kind == 5) = false := by simp [h5]
  have e6 : (b.kind == 6) = false := by simp [h6]
  have e8 : (b.kind == 8) = false := by simp [h8]
  have e9 : (b.kind == 9) = false := by simp [h9]
  have e10 : (b.kind == 10) = false := by simp [h10]
  rw [if_neg (by omega), if_neg (by omega), if_neg (by omega), if_neg (by omega)] at hA
  rw [e1, e8, e9, e10] at hO
  clear h1 h2 h3 h5 h6 h8 h9 h10
  cases d0 : decide (b.kind < 0) with
  | true =>
    rw [d0] at hO
    rw [hO] at hA
    have hR : alF t = 12 := by rw [hA]; simp
    rw [hR]
    clear hA hO hR kS
    go_enter Tryz.func60, Tryz.ntmps60
    go_wp2_with (first
      | (go_at_call 95; refine kB.mono ?_; rintro e w1 ⟨he, hb1⟩; rw [Nb.arr] at he; subst he; clear kB a0 a1 a2 a3 a4 a5 a6 a7 a8; have A1 := alloc_below w1 (.cells #[.int .i64 (bar b).kind, .int .u64 (bar b).num, .bool (bar b).neg, .string (bar b).dig, .int .i64 (bar b).exp, .string (bar b).txt, .slice (bar b).ab (bar b).lb (bar b).cb, .slice (bar b).ak (bar b).lk (bar b).ck, .slice (bar b).ai (bar b).li (bar b).ci] 26); have b1 : Below (w.alloc (.cells b.arr 26)).heap.size (w.alloc (.cells b.arr 26)) (w1.alloc (.cells #[.int .i64 (bar b).kind, .int .u64 (bar b).num, .bool (bar b).neg, .string (bar b).dig, .int .i64 (bar b).exp, .string (bar b).txt, .slice (bar b).ab (bar b).lb (bar b).cb, .slice (bar b).ak (bar b).lk (bar b).ck, .slice (bar b).ai (bar b).li (bar b).ci] 26)) := hb1.trans (A1.mono hb1.size); have Q1 : Hid (NBox (w1.alloc (.cells #[.int .i64 (bar b).kind, .int .u64 (bar b).num, .bool (bar b).neg, .string (bar b).dig, .int .i64 (bar b).exp, .string (bar b).txt, .slice (bar b).ab (bar b).lb (bar b).cb, .slice (bar b).ak (bar b).lk (bar b).ck, .slice (bar b).ai (bar b).li (bar b).ci] 26)) w.heap.size b) := Q0.out.kept b1 Q0.out.lt; have X1 : Hid (NBox (w1.alloc (.cells #[.int .i64 (bar b).kind, .int .u64 (bar b).num, .bool (bar b).neg, .string (bar b).dig, .int .i64 (bar b).exp, .string (bar b).txt, .slice (bar b).ab (bar b).lb (bar b).cb, .slice (bar b).ak (bar b).lk (bar b).ck, .slice (bar b).ai (bar b).li (bar b).ci] 26)) w1.heap.size (bar b)) := nbox_new w1 (bar b); have B1 : Hid (Below w.heap.size w (w1.alloc (.cells #[.int .i64 (bar b).kind, .int .u64 (bar b).num, .bool (bar b).neg, .string (bar b).dig, .int .i64 (bar b).exp, .string (bar b).txt, .slice (bar b).ab (bar b).lb (bar b).cb, .slice (bar b).ak (bar b).lk (bar b).ck, .slice (bar b).ai (bar b).li (bar b).ci] 26))) := B0.out.trans (b1.mono B0.out.size); obtain ⟨a0, a1, a2, a3, a4, a5, a6, a7, a8⟩ := Q1.out.fields; obtain ⟨x0, x1, x2, x3, x4, x5, x6, x7, x8⟩ := X1.out.fields))
    go_ret
    exact ⟨rfl, B1.out⟩
  | false =>
    rw [d0] at hO
    cases d10 : decide (10 < b.kind) with
    | true =>
      rw [d10] at hO
      rw [hO] at hA
      have hR : alF t = 12 := by rw [hA]; simp
      rw [hR]
      clear hA hO hR kS
      go_enter Tryz.func60, Tryz.ntmps60
      go_wp2_with (first
        | (go_at_call 95; refine kB.mono ?_; rintro e w1 ⟨he, hb1⟩; rw [Nb.arr] at he; subst he; clear kB a0 a1 a2 a3 a4 a5 a6 a7 a8; have A1 := alloc_below w1 (.cells #[.int .i64 (bar b).kind, .int .u64 (bar b).num, .bool (bar b).neg, .string (bar b).dig, .int .i64 (bar b).exp, .string (bar b).txt, .slice (bar b).ab (bar b).lb (bar b).cb, .slice (bar b).ak (bar b).lk (bar b).ck, .slice (bar b).ai (bar b).li (bar b).ci] 26); have b1 : Below (w.alloc (.cells b.arr 26)).heap.size (w.alloc (.cells b.arr 26)) (w1.alloc (.cells #[.int .i64 (bar b).kind, .int .u64 (bar b).num, .bool (bar b).neg, .string (bar b).dig, .int .i64 (bar b).exp, .string (bar b).txt, .slice (bar b).ab (bar b).lb (bar b).cb, .slice (bar b).ak (bar b).lk (bar b).ck, .slice (bar b).ai (bar b).li (bar b).ci] 26)) := hb1.trans (A1.mono hb1.size); have Q1 : Hid (NBox (w1.alloc (.cells #[.int .i64 (bar b).kind, .int .u64 (bar b).num, .bool (bar b).neg, .string (bar b).dig, .int .i64 (bar b).exp, .string (bar b).txt, .slice (bar b).ab (bar b).lb (bar b).cb, .slice (bar b).ak (bar b).lk (bar b).ck, .slice (bar b).ai (bar b).li (bar b).ci] 26)) w.heap.size b) := Q0.out.kept b1 Q0.out.lt; have X1 : Hid (NBox (w1.alloc (.cells #[.int .i64 (bar b).kind, .int .u64 (bar b).num, .bool (bar b).neg, .string (bar b).dig, .int .i64 (bar b).exp, .string (bar b).txt, .slice (bar b).ab (bar b).lb (bar b).cb, .slice (bar b).ak (bar b).lk (bar b).ck, .slice (bar b).ai (bar b).li (bar b).ci] 26)) w1.heap.size (bar b)) := nbox_new w1 (bar b); have B1 : Hid (Below w.heap.size w (w1.alloc (.cells #[.int .i64 (bar b).kind, .int .u64 (bar b).num, .bool (bar b).neg, .string (bar b).dig, .int .i64 (bar b).exp, .string (bar b).txt, .slice (bar b).ab (bar b).lb (bar b).cb, .slice (bar b).ak (bar b).lk (bar b).ck, .slice (bar b).ai (bar b).li (bar b).ci] 26))) := B0.out.trans (b1.mono B0.out.size); obtain ⟨a0, a1, a2, a3, a4, a5, a6, a7, a8⟩ := Q1.out.fields; obtain ⟨x0, x1, x2, x3, x4, x5, x6, x7, x8⟩ := X1.out.fields))
      go_ret
      exact ⟨rfl, B1.out⟩
    | false =>
      rw [d10] at hO
      cases hc : t.clean with
      | false =>
        rw [hO, hc] at hA
        rw [hc] at kS
        have hR : alF t = 12 := by rw [hA]; simp
        rw [hR]
        clear hA hO hc hR
        go_enter Tryz.func60, Tryz.ntmps60
        go_wp2_with (first
          | (go_at_call 95; refine kB.mono ?_; rintro e w1 ⟨he, hb1⟩; rw [Nb.arr] at he; subst he; clear kB a0 a1 a2 a3 a4 a5 a6 a7 a8; have A1 := alloc_below w1 (.cells #[.int .i64 (bar b).kind, .int .u64 (bar b).num, .bool (bar b).neg, .string (bar b).dig, .int .i64 (bar b).exp, .string (bar b).txt, .slice (bar b).ab (bar b).lb (bar b).cb, .slice (bar b).ak (bar b).lk (bar b).ck, .slice (bar b).ai (bar b).li (bar b).ci] 26); have b1 : Below (w.alloc (.cells b.arr 26)).heap.size (w.alloc (.cells b.arr 26)) (w1.alloc (.cells #[.int .i64 (bar b).kind, .int .u64 (bar b).num, .bool (bar b).neg, .string (bar b).dig, .int .i64 (bar b).exp, .string (bar b).txt, .slice (bar b).ab (bar b).lb (bar b).cb, .slice (bar b).ak (bar b).lk (bar b).ck, .slice (bar b).ai (bar b).li (bar b).ci] 26)) := hb1.trans (A1.mono hb1.size); have Q1 : Hid (NBox (w1.alloc (.cells #[.int .i64 (bar b).kind, .int .u64 (bar b).num, .bool (bar b).neg, .string (bar b).dig, .int .i64 (bar b).exp, .string (bar b).txt, .slice (bar b).ab (bar b).lb (bar b).cb, .slice (bar b).ak (bar b).lk (bar b).ck, .slice (bar b).ai (bar b).li (bar b).ci] 26)) w.heap.size b) := Q0.out.kept b1 Q0.out.lt; have X1 : Hid (NBox (w1.alloc (.cells #[.int .i64 (bar b).kind, .int .u64 (bar b).num, .bool (bar b).neg, .string (bar b).dig, .int .i64 (bar b).exp, .string (bar b).txt, .slice (bar b).ab (bar b).lb (bar b).cb, .slice (bar b).ak (bar b).lk (bar b).ck, .slice (bar b).ai (bar b).li (bar b).ci] 26)) w1.heap.size (bar b)) := nbox_new w1 (bar b); have B1 : Hid (Below w.heap.size w (w1.alloc (.cells #[.int .i64 (bar b).kind, .int .u64 (bar b).num, .bool (bar b).neg, .string (bar b).dig, .int .i64 (bar b).exp, .string (bar b).txt, .slice (bar b).ab (bar b).lb (bar b).cb, .slice (bar b).ak (bar b).lk (bar b).ck, .slice (bar b).ai (bar b).li (bar b).ci] 26))) := B0.out.trans (b1.mono B0.out.size); obtain ⟨a0, a1, a2, a3, a4, a5, a6, a7, a8⟩ := Q1.out.fields; obtain ⟨x0, x1, x2, x3, x4, x5, x6, x7, x8⟩ := X1.out.fields)
          | (have kS1 := kS.out _ B1.out; go_at_call 33; refine kS1.mono ?_; rintro e w9 ⟨rfl, hb9⟩; clear kS1; clear a0 a1 a2 a3 a4 a5 a6 a7 a8 x0 x1 x2 x3 x4 x5 x6 x7 x8; have Q9 : Hid (NBox w9 w.heap.size b) := Q1.out.kept hb9 Q1.out.lt; have X9 : Hid (NBox w9 w1.heap.size (bar b)) := X1.out.kept hb9 X1.out.lt; have B9 : Hid (Below w.heap.size w w9) := B1.out.trans (hb9.mono B1.out.size); obtain ⟨a0, a1, a2, a3, a4, a5, a6, a7, a8⟩ := Q9.out.fields; obtain ⟨x0, x1, x2, x3, x4, x5, x6, x7, x8⟩ := X9.out.fields))
        go_ret
        exact ⟨rfl, B9.out⟩
      | true =>
        rw [hO, hc] at hA
        rw [hc] at kS
        have hR : alF t = 0 := by rw [hA]; simp [*]
        rw [hR]
        clear hA hO hc hR
        go_enter Tryz.func60, Tryz.ntmps60
        go_wp2_with (first
          | (go_at_call 95; refine kB.mono ?_; rintro e w1 ⟨he, hb1⟩; rw [Nb.arr] at he; subst he; clear kB a0 a1 a2 a3 a4 a5 a6 a7 a8; have A1 := alloc_below w1 (.cells #[.int .i64 (bar b).kind, .int .u64 (bar b).num, .bool (bar b).neg, .string (bar b).dig, .int .i64 (bar b).exp, .string (bar b).txt, .slice (bar b).ab (bar b).lb (bar b).cb, .slice (bar b).ak (bar b).lk (bar b).ck, .slice (bar b).ai (bar b).li (bar b).ci] 26); have b1 : Below (w.alloc (.cells b.arr 26)).heap.size (w.alloc (.cells b.arr 26)) (w1.alloc (.cells #[.int .i64 (bar b).kind, .int .u64 (bar b).num, .bool (bar b).neg, .string (bar b).dig, .int .i64 (bar b).exp, .string (bar b).txt, .slice (bar b).ab (bar b).lb (bar b).cb, .slice (bar b).ak (bar b).lk (bar b).ck, .slice (bar b).ai (bar b).li (bar b).ci] 26)) := hb1.trans (A1.mono hb1.size); have Q1 : Hid (NBox (w1.alloc (.cells #[.int .i64 (bar b).kind, .int .u64 (bar b).num, .bool (bar b).neg, .string (bar b).dig, .int .i64 (bar b).exp, .string (bar b).txt, .slice (bar b).ab (bar b).lb (bar b).cb, .slice (bar b).ak (bar b).lk (bar b).ck, .slice (bar b).ai (bar b).li (bar b).ci] 26)) w.heap.size b) := Q0.out.kept b1 Q0.out.lt; have X1 : Hid (NBox (w1.alloc (.cells #[.int .i64 (bar b).kind, .int .u64 (bar b).num, .bool (bar b).neg, .string (bar b).dig, .int .i64 (bar b).exp, .string (bar b).txt, .slice (bar b).ab (bar b).lb (bar b).cb, .slice (bar b).ak (bar b).lk (bar b).ck, .slice (bar b).ai (bar b).li (bar b).ci] 26)) w1.heap.size (bar b)) := nbox_new w1 (bar b); have B1 : Hid (Below w.heap.size w (w1.alloc (.cells #[.int .i64 (bar b).kind, .int .u64 (bar b).num, .bool (bar b).neg, .string (bar b).dig, .int .i64 (bar b).exp, .string (bar b).txt, .slice (bar b).ab (bar b).lb (bar b).cb, .slice (bar b).ak (bar b).lk (bar b).ck, .slice (bar b).ai (bar b).li (bar b).ci] 26))) := B0.out.trans (b1.mono B0.out.size); obtain ⟨a0, a1, a2, a3, a4, a5, a6, a7, a8⟩ := Q1.out.fields; obtain ⟨x0, x1, x2, x3, x4, x5, x6, x7, x8⟩ := X1.out.fields)
          | (have kS1 := kS.out _ B1.out; go_at_call 33; refine kS1.mono ?_; rintro e w9 ⟨rfl, hb9⟩; clear kS1; clear a0 a1 a2 a3 a4 a5 a6 a7 a8 x0 x1 x2 x3 x4 x5 x6 x7 x8; have Q9 : Hid (NBox w9 w.heap.size b) := Q1.out.kept hb9 Q1.out.lt; have X9 : Hid (NBox w9 w1.heap.size (bar b)) := X1.out.kept hb9 X1.out.lt; have B9 : Hid (Below w.heap.size w w9) := B1.out.trans (hb9.mono B1.out.size); obtain ⟨a0, a1, a2, a3, a4, a5, a6, a7, a8⟩ := Q9.out.fields; obtain ⟨x0, x1, x2, x3, x4, x5, x6, x7, x8⟩ := X9.out.fields))
        go_ret
        exact ⟨rfl, B9.out⟩
end Go.Proofs.YtnjbppfanmmifaaGreatDoor
namespace Go.Proofs.YtnjbppfanmmifaaGreatDoor
open Go.RowKit
set_option linter.unusedVariables false
theorem ealone_any {D : Nat} {t : Tr} {b : Nb} {w : World} (hN : Nd D w b t) : Calls Tryz.prog 60 #[.agg b.arr] w fun e w' => e = .returned (.int .i64 (alF t)) ∧ Below w.heap.size w w' := by
  cases D with
  | zero => exact absurd hN id
  | succ D =>
    by_cases h1 : b.kind = 1
    · exact ealone_k1 hN h1
    by_cases h2 : b.kind = 2
    · exact ealone_k2 hN h2
    by_cases h3 : b.kind = 3
    · exact ealone_k3 hN h3
    by_cases h5 : b.kind = 5
    · exact ealone_k5 hN h5
    by_cases h6 : b.kind = 6
    · exact ealone_k6 hN h6
    by_cases h8 : b.kind = 8
    · exact ealone_k8 hN h8
    by_cases h9 : b.kind = 9
    · exact ealone_k9 hN h9
    by_cases h10 : b.kind = 10
    · exact ealone_k10 hN h10
    exact ealone_ko hN h1 h2 h3 h5 h6 h8 h9 h10
end Go.Proofs.YtnjbppfanmmifaaGreatDoor
