/-
  A message as an argument; One at messages alike; what is packed is unpacked.
-/
import Derived.Test.YtfipdldoklkciaaLku
import Derived.Test.YtfipdldoklkciaaLkc
import Derived.Deep.Slices
import Derived.Deep.Strs
import Derived.ChangeReads
import Derived.SizedLaws
namespace Go.Proofs.Ytfipdldoklkciaa
open Go.RowKit Go.ChangeShapes Go.WideShapes
set_option linter.unusedVariables false
set_option linter.unusedSimpArgs false
/-- A message's load as it is read. -/
structure MsgV (w : World) (m : Mg) (a : Option Addr) (n c : Nat) : Prop where
  ok : Mok m
  by_ : Bytes w a m.zs
  len : m.zs.length = n
  le : n ≤ c
  mx : c ≤ 9223372036854775807
  nil : a = none → c = 0
  few : n ≤ 140737488351232
theorem MsgV.kept {w w' : World} {m : Mg} {a : Option Addr} {n c : Nat} (h : MsgV w m a n c) (hb : Below w.heap.size w w') : MsgV w' m a n c := ⟨h.ok, h.by_.kept hb, h.len, h.le, h.mx, h.nil, h.few⟩
theorem wf_u64 {n : Int} (h : (Lit.int .u64 n).wf = true) : 0 ≤ n ∧ n < 18446744073709551616 := by
  simp [Lit.wf, show IntKind.u64.min = 0 from by decide, show IntKind.u64.max = 18446744073709551615 from by decide] at h
  omega
def mcells (m : Mg) (a : Option Addr) (n c : Nat) : List Value := [.int .i64 m.kind, .int .u64 m.tok, .int .i64 m.ep, .int .i64 m.seq, .int .i64 m.ack, .int .u64 m.bits, .int .i64 m.cred, .int .i64 m.fmt, .slice a n c]
section
variable {H : Type} {enc : TypeId × Value → H} {w : World}
theorem mbytes_one : Try.prog.bytesOf 5 = 1 := by kernel_rfl
theorem open_bytesw {fuel : Nat} {cs : List Value} {x : DataW H × List MemPlace} (h : DataW.trod enc Try.prog w 0 (fun _ => true) true fuel 23 cs = some x) (hw : ∀ n ∈ x.1.weights Try.prog 23, n ≤ reachBytes) :
    ∃ a n cap zs, cs = [.slice a n cap] ∧ List.length zs = n ∧ n ≤ cap ∧ cap ≤ 9223372036854775807 ∧ (a = none → cap = 0) ∧ n ≤ 140737488351232 ∧ Bytes w a zs := by
  rcases open_ints Try.underlying23 Try.underlying5 (by kernel_rfl) h with ⟨hcs, hx⟩ | ⟨a, l, c, zs, hcs, _, hl, hm, hz, hx, hcell, hwz⟩
  · exact ⟨none, 0, 0, [], hcs, rfl, Nat.le_refl _, by decide, fun _ => rfl, by decide, ⟨by simp, by simp, .inl rfl⟩⟩
  · have hz' : zs.length = c := by simpa using hz
    have hlen : (zs.take l).length = l := by rw [List.length_take]; omega
    have hr : IsRow .u8 w (some a) l c zs := .inr ⟨a, rfl, hl, hm, hz', hcell, hwz⟩
    have hb := bytes_of_row hr
    have hs : l ≤ 140737488351232 := by
      have h1 : (lits .u8 (zs.take l) (H := H)).length + (lits .u8 (zs.drop l) (H := H)).length = c := by
        simp only [lits, List.length_map, List.length_take, List.length_drop]; omega
      have h2 := hw (((lits .u8 (zs.take l) (H := H)).length + (lits .u8 (zs.drop l) (H := H)).length) * Try.prog.bytesOf 5) (by rw [hx]; simp [DataW.weights, Try.underlying23])
      rw [h1, mbytes_one] at h2
      unfold reachBytes at h2
      omega
    exact ⟨some a, l, c, zs.take l, hcs, hlen, by omega, by unfold maxLen at hm; omega, (fun h => by cases h), hs, hb.2⟩
set_option maxRecDepth 100000 in
theorem open_msg {fuel : Nat} {cs : List Value} {x : DataW H × List MemPlace} (h : DataW.trod enc Try.prog w 0 (fun _ => true) true fuel 25 cs = some x) (hw : ∀ n ∈ x.1.weights Try.prog 25, n ≤ reachBytes) :
    ∃ m a n c, cs = mcells m a n c ∧ MsgV w m a n c := by
  obtain ⟨fs, hfs, hty⟩ : ∃ fs : Array Field, Try.prog.underlying 25 = some (.struct fs) ∧ fs.toList.map (fun f => (f.type, f.offset)) = [(3, 0), (22, 1), (3, 2), (3, 3), (3, 4), (22, 5), (3, 6), (3, 7), (23, 8)] := ⟨_, Try.underlying25, rfl⟩
  obtain ⟨xs, n, rfl, hx, hlen, hxl, hf⟩ := DataW.trod_struct hfs h
  rw [show Try.prog.cellsOf 25 = 9 by kernel_rfl] at hlen
  have h9 : fs.size = 9 := by have := congrArg List.length hty; simpa using this
  match cs, hlen with
  | [c0, c1, c2, c3, c4, c5, c6, c7, c8], _ =>
  have hF : ∀ i (hi : i < 9), ∃ y, DataW.trod enc Try.prog w 0 (fun _ => true) true n (([(3, 0), (22, 1), (3, 2), (3, 3), (3, 4), (22, 5), (3, 6), (3, 7), (23, 8)] : List (TypeId × Nat)).getD i (0, 0)).1
      ((([c0, c1, c2, c3, c4, c5, c6, c7, c8] : List Value).drop (([(3, 0), (22, 1), (3, 2), (3, 3), (3, 4), (22, 5), (3, 6), (3, 7), (23, 8)] : List (TypeId × Nat)).getD i (0, 0)).2).take (Try.prog.cellsOf (([(3, 0), (22, 1), (3, 2), (3, 3), (3, 4), (22, 5), (3, 6), (3, 7), (23, 8)] : List (TypeId × Nat)).getD i (0, 0)).1)) = some y ∧
      ∀ n ∈ y.1.weights Try.prog (([(3, 0), (22, 1), (3, 2), (3, 3), (3, 4), (22, 5), (3, 6), (3, 7), (23, 8)] : List (TypeId × Nat)).getD i (0, 0)).1, n ≤ reachBytes := by
    intro i hi
    have hif : i < fs.size := by omega
    have e := hf i fs[i] (Array.getElem?_eq_getElem hif)
    have hy : xs[i]? = some (xs[i]'(by omega)) := List.getElem?_eq_getElem (by omega)
    have ht : ([(3, 0), (22, 1), (3, 2), (3, 3), (3, 4), (22, 5), (3, 6), (3, 7), (23, 8)] : List (TypeId × Nat)).getD i (0, 0) = (fs[i].type, fs[i].offset) := by
      rw [← hty, List.getD_eq_getElem?_getD, List.getElem?_map, Array.getElem?_toList, Array.getElem?_eq_getElem hif]
      rfl
    rw [ht]
    refine ⟨_, e.trans hy, fun n hn => hw n ?_⟩
    rw [hx]
    simp only [DataW.weights, hfs]
    exact DataW.weights_mem_each (j := i) (t := fs[i].type) (d := (xs[i]'(by omega)).1) (by rw [List.getElem?_map, Array.getElem?_toList, Array.getElem?_eq_getElem hif]; rfl) (by rw [List.getElem?_map, hy]; rfl) n hn
  have k0 : Try.prog.cellsOf 23 = 1 := by kernel_rfl
  have k1 : Try.prog.cellsOf 3 = 1 := by kernel_rfl
  have k2 : Try.prog.cellsOf 22 = 1 := by kernel_rfl
  obtain ⟨y0, e0, g0⟩ := hF 0 (by omega)
  obtain ⟨y1, e1, g1⟩ := hF 1 (by omega)
  obtain ⟨y2, e2, g2⟩ := hF 2 (by omega)
  obtain ⟨y3, e3, g3⟩ := hF 3 (by omega)
  obtain ⟨y4, e4, g4⟩ := hF 4 (by omega)
  obtain ⟨y5, e5, g5⟩ := hF 5 (by omega)
  obtain ⟨y6, e6, g6⟩ := hF 6 (by omega)
  obtain ⟨y7, e7, g7⟩ := hF 7 (by omega)
  obtain ⟨y8, e8, g8⟩ := hF 8 (by omega)
  clear hF hf
  simp only [List.getD_cons_zero, List.getD_cons_succ, k0, k1, k2, List.drop_zero, List.drop_succ_cons, List.take_succ_cons, List.take_zero] at e0 e1 e2 e3 e4 e5 e6 e7 e8
  simp only [List.getD_cons_zero, List.getD_cons_succ] at g8
  obtain ⟨z0, q0, _, w0⟩ := DataW.trod_int Try.underlying3 e0
  obtain ⟨z1, q1, _, w1⟩ := DataW.trod_int Try.underlying22 e1
  obtain ⟨z2, q2, _, w2⟩ := DataW.trod_int Try.underlying3 e2
  obtain ⟨z3, q3, _, w3⟩ := DataW.trod_int Try.underlying3 e3
  obtain ⟨z4, q4, _, w4⟩ := DataW.trod_int Try.underlying3 e4
  obtain ⟨z5, q5, _, w5⟩ := DataW.trod_int Try.underlying22 e5
  obtain ⟨z6, q6, _, w6⟩ := DataW.trod_int Try.underlying3 e6
  obtain ⟨z7, q7, _, w7⟩ := DataW.trod_int Try.underlying3 e7
  obtain ⟨a, l, c, zs, q8, b1, b2, b3, b4, b5, b6⟩ := open_bytesw e8 g8
  simp only [List.cons.injEq, and_true] at q0 q1 q2 q3 q4 q5 q6 q7 q8
  subst q0 q1 q2 q3 q4 q5 q6 q7 q8
  have u1 := wf_u64 w1
  have u5 := wf_u64 w5
  refine ⟨⟨z0, z1, z2, z3, z4, z5, z6, z7, zs⟩, a, l, c, rfl, ⟨u1.1, u1.2, u5.1, u5.2, fun x hx => ?_⟩, b6, b1, b2, b3, b4, b5⟩
  exact b6.1 x hx
set_option maxRecDepth 100000 in
theorem open_msg_arg {r : Reach} {b0 : Nat} {v : Value} {d : DataW H} {p : List MemPlace} (hv : Value.okWide Try.prog w r b0 25 v) (h : DataW.Trod enc Try.prog w 0 (fun _ => true) true 25 v d p) (hw : ∀ n ∈ d.weights Try.prog 25, n ≤ reachBytes) :
    ∃ m a n c, v = mval m a n c ∧ MsgV w m a n c := by
  obtain ⟨fs, hfs⟩ : ∃ fs : Array Field, Try.prog.underlying 25 = some (.struct fs) := ⟨_, Try.underlying25⟩
  obtain ⟨cs, rfl, _⟩ := okWide_struct hfs hv
  obtain ⟨fuel, hf⟩ := h
  obtain ⟨m, a, n, c, hcs, hn⟩ := open_msg hf hw
  refine ⟨m, a, n, c, ?_, hn⟩
  have h1 : cs.toList = mcells m a n c := by rw [← hcs]; simp [Value.cells]
  have : cs = (mcells m a n c).toArray := by rw [← h1, Array.toArray_toList]
  rw [this]
  rfl
end
end Go.Proofs.Ytfipdldoklkciaa
