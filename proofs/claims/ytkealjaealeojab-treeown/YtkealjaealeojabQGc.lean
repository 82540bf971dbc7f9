/-
  A tree in memory: what a walk is told of a node by its cells, kept as the world grows, and read off an argument.
  The types of a node in this program.
  Rows of nodes: nine cells each; read, made, appended to.
  A node of a row, loaded whole, and written over in a row of the call's own.
  A tree in memory, and the blocks in which it lies: it stays as long as these blocks stay.
  A node by value in a box; worlds in which all but some blocks stay as they were.
-/
import Derived.Test.YtkealjaealeojabQGa
import Derived.Test.YtkealjaealeojabQGb
import Derived.Deep.Slices
import Derived.Deep.Strs
import Derived.ChangeReads
import Derived.SizedLaws
import Derived.Deep.DeepAppendWide
import Derived.Laws.AppendOwnNone
import Derived.Laws.CopyRow
import Derived.Laws.CopyOwn
import Derived.Laws.Cells
namespace Go.Proofs.Ytkealjaealeojab
open Go.RowKit Go.ChangeShapes Go.WideShapes
set_option linter.unusedVariables false

/-- A NODE's NINE CELLS. -/
structure Nb where
  kind : Int
  num : Int
  neg : Bool
  dig : ByteArray
  exp : Int
  txt : ByteArray
  ab : Option Addr
  lb : Nat
  cb : Nat
  ak : Option Addr
  lk : Nat
  ck : Nat
  ai : Option Addr
  li : Nat
  ci : Nat

def Nb.cells (b : Nb) : List Value :=
  [.int .i64 b.kind, .int .u64 b.num, .bool b.neg, .string b.dig, .int .i64 b.exp, .string b.txt, .slice b.ab b.lb b.cb, .slice b.ak b.lk b.ck, .slice b.ai b.li b.ci]
def Nb.val (b : Nb) : Value :=
  .agg #[.int .i64 b.kind, .int .u64 b.num, .bool b.neg, .string b.dig, .int .i64 b.exp, .string b.txt, .slice b.ab b.lb b.cb, .slice b.ak b.lk b.ck, .slice b.ai b.li b.ci]

/-- A slice by its length and room; its elements, of k bytes each, are of no more bytes than an argument may have. -/
def Room (k : Nat) (a : Option Addr) (len cap : Nat) : Prop := len ≤ cap ∧ cap ≤ maxLen ∧ (a = none → cap = 0) ∧ len * k ≤ 140737488351232

/-- A ROW OF NODES: nine cells each, one behind another. -/
def RowN (Q : Nb → Tr → Prop) (w : World) (a : Option Addr) (len cap : Nat) (l : List Tr) : Prop :=
  l.length = len ∧ Room 136 a len cap ∧
  (l = [] ∨ ∃ b off, a = some ⟨b, off, none⟩ ∧ ∀ i (h : i < l.length), ∃ nb : Nb, (∀ j, j < 9 → w.cell? ⟨b, off + (i * 9 + j), none⟩ = nb.cells[j]?) ∧ Q nb l[i])

/-- A NODE IN MEMORY is the tree t, of a depth below d. -/
def Nd : Nat → World → Nb → Tr → Prop
  | 0, _, _, _ => False
  | d + 1, w, b, t => (b.kind = t.kind ∧ b.num = t.num ∧ b.neg = t.neg ∧ b.dig = t.dig ∧ b.exp = t.exp ∧ b.txt = t.txt) ∧
    ((Lit.int .i64 t.kind).wf = true ∧ (Lit.int .u64 t.num).wf = true ∧ (Lit.int .i64 t.exp).wf = true ∧ t.dig.size ≤ 140737488351232 ∧ t.txt.size ≤ 140737488351232) ∧
    (t.bytes.length = b.lb ∧ Room 1 b.ab b.lb b.cb ∧ Bytes w b.ab t.bytes) ∧
    RowN (Nd d w) w b.ak b.lk b.ck t.keys ∧ RowN (Nd d w) w b.ai b.li b.ci t.kids

theorem RowN.mono {Q R : Nb → Tr → Prop} {w : World} {a : Option Addr} {len cap : Nat} {l : List Tr} (h : RowN Q w a len cap l) (hq : ∀ b t, t ∈ l → Q b t → R b t) : RowN R w a len cap l := by
  obtain ⟨h0, h1, h2⟩ := h
  refine ⟨h0, h1, ?_⟩
  rcases h2 with h2 | ⟨b, off, ha, hc⟩
  · exact .inl h2
  · refine .inr ⟨b, off, ha, fun i hi => ?_⟩
    obtain ⟨nb, hn, hQ⟩ := hc i hi
    exact ⟨nb, hn, hq _ _ (List.getElem_mem hi) hQ⟩

theorem nd_succ : ∀ (d : Nat) {w : World} {b : Nb} {t : Tr}, Nd d w b t → Nd (d + 1) w b t := by
  intro d
  induction d with
  | zero => intro w b t h; exact absurd h id
  | succ d ih =>
    intro w b t h
    obtain ⟨h0, h1, h2, h3, h4⟩ := h
    exact ⟨h0, h1, h2, h3.mono fun _ _ _ q => ih q, h4.mono fun _ _ _ q => ih q⟩
theorem Nd.le {d e : Nat} {w : World} {b : Nb} {t : Tr} (h : Nd d w b t) (hle : d ≤ e) : Nd e w b t := by
  induction hle with
  | refl => exact h
  | step _ ih => exact nd_succ _ ih

theorem some_block {w : World} {b off : Nat} {v : Value} (h : w.cell? ⟨b, off, none⟩ = some v) : b < w.heap.size := by
  by_cases hb : b < w.heap.size
  · exact hb
  · exfalso
    have : w.heap[b]? = none := Array.getElem?_eq_none (by omega)
    simp [World.cell?, this] at h

/-- KEPT, as the world grows. -/
theorem RowN.kept {Q R : Nb → Tr → Prop} {w w' : World} {a : Option Addr} {len cap : Nat} {l : List Tr} (h : RowN Q w a len cap l) (hb : Below w.heap.size w w') (hq : ∀ b t, t ∈ l → Q b t → R b t) : RowN R w' a len cap l := by
  obtain ⟨h0, h1, h2⟩ := h
  refine ⟨h0, h1, ?_⟩
  rcases h2 with h2 | ⟨b, off, ha, hc⟩
  · exact .inl h2
  · refine .inr ⟨b, off, ha, fun i hi => ?_⟩
    obtain ⟨nb, hn, hQ⟩ := hc i hi
    refine ⟨nb, fun j hj => ?_, hq _ _ (List.getElem_mem hi) hQ⟩
    have h9 := hn j hj
    have hlt : b < w.heap.size := some_block (h9.trans (List.getElem?_eq_getElem (by simpa [Nb.cells] using hj)))
    rw [hb.cell (p := ⟨b, off + (i * 9 + j), none⟩) hlt]
    exact h9
theorem Nd.kept : ∀ {d : Nat} {w w' : World} {b : Nb} {t : Tr}, Nd d w b t → Below w.heap.size w w' → Nd d w' b t := by
  intro d
  induction d with
  | zero => intro w w' b t h _; exact h
  | succ d ih =>
    intro w w' b t h hb
    obtain ⟨h0, h1, ⟨h2, h2', h2''⟩, h3, h4⟩ := h
    exact ⟨h0, h1, ⟨h2, h2', h2''.kept hb⟩, h3.kept hb fun _ _ _ q => ih q hb, h4.kept hb fun _ _ _ q => ih q hb⟩

/-- THE TYPES OF A NODE's PARTS, in any program: the node's, the slices' of nodes and of bytes. -/
structure NTypes (P : Program) (tn tk tb : TypeId) : Prop where
  node : ∃ fs : Array Field, P.underlying tn = some (.struct fs) ∧ fs.toList.map (fun f => (f.type, f.offset)) = [(3, 0), (22, 1), (4, 2), (9, 3), (3, 4), (9, 5), (tb, 6), (tk, 7), (tk, 8)]
  row : P.underlying tk = some (.slice tn)
  bytes : P.underlying tb = some (.slice 5)
  u8 : P.underlying 5 = some (.int .u8)
  i64 : P.underlying 3 = some (.int .i64)
  u64 : P.underlying 22 = some (.int .u64)
  bool : P.underlying 4 = some .bool
  string : P.underlying 9 = some .string
  cn : P.cellsOf tn = 9
  bn : P.bytesOf tn = 136
  b1 : P.bytesOf 5 = 1
  cells : P.cellsOf 3 = 1 ∧ P.cellsOf 22 = 1 ∧ P.cellsOf 4 = 1 ∧ P.cellsOf 9 = 1 ∧ P.cellsOf tb = 1 ∧ P.cellsOf tk = 1 ∧ P.cellsOf 5 = 1

section
variable {H : Type} {enc : TypeId × Value → H} {P : Program} {w : World} {tn tk tb : TypeId}

theorem weights_all {e : TypeId} : ∀ {l : List (DataW H)} {d : DataW H}, d ∈ l → ∀ n ∈ d.weights P e, n ∈ DataW.weightsAll P e l := by
  intro l
  induction l with
  | nil => intro d h; cases h
  | cons a r ih =>
    intro d h n hn
    simp only [DataW.weightsAll, List.mem_append]
    rcases List.mem_cons.1 h with rfl | h
    · exact .inl hn
    · exact .inr (ih h n hn)

/-- A slice of bytes, read. -/
theorem open_bytes (T : NTypes P tn tk tb) {fuel : Nat} {cs : List Value} {x : DataW H × List MemPlace} (h : DataW.trod enc P w 0 (fun _ => true) true fuel tb cs = some x)
    (hw : ∀ n ∈ x.1.weights P tb, n ≤ reachBytes) :
    ∃ a len cap zs, cs = [.slice a len cap] ∧ zs.length = len ∧ Room 1 a len cap ∧ Bytes w a zs := by
  rcases open_ints T.bytes T.u8 T.cells.2.2.2.2.2.2 h with ⟨hcs, hx⟩ | ⟨a, l, c, zs, hcs, _, hl, hm, hz, hx, hcell, hwz⟩
  · exact ⟨none, 0, 0, [], hcs, rfl, ⟨Nat.le_refl _, Nat.zero_le _, fun _ => rfl, by omega⟩, by simp [Bytes]⟩
  · have hz' : zs.length = c := by simpa using hz
    have hb := bytes_of_row (w := w) (a := some a) (len := l) (cap := c) (zs := zs) (.inr ⟨a, rfl, hl, hm, hz', hcell, hwz⟩)
    have hr : l * 1 ≤ 140737488351232 := by
      have h1 : (lits .u8 (zs.take l) (H := H)).length + (lits .u8 (zs.drop l) (H := H)).length = c := by
        simp only [lits, List.length_map, List.length_take, List.length_drop]; omega
      have h2 := hw (((lits .u8 (zs.take l) (H := H)).length + (lits .u8 (zs.drop l) (H := H)).length) * P.bytesOf 5) (by rw [hx]; simp [DataW.weights, T.bytes])
      rw [h1, T.b1] at h2
      unfold reachBytes at h2
      omega
    exact ⟨some a, l, c, zs.take l, hcs, hb.1, ⟨hl, hm, (fun h => by cases h), hr⟩, hb.2⟩

theorem cells_at {a : Addr} {n : Nat} {cs : List Value} (h : w.cells? 0 a n = some cs) : cs.length = n ∧ ∀ j, j < n → w.cell? (a.add j) = cs[j]? := by
  unfold World.cells? at h
  rw [if_pos (Nat.zero_le _)] at h
  refine ⟨by simpa using mapM_some_length h, fun j hj => ?_⟩
  exact mapM_some_get h j j (by simp [hj])

/-- AN ARGUMENT's NODE, read: it is a tree in memory. -/
theorem open_nd (T : NTypes P tn tk tb) : ∀ (fuel : Nat) {cs : List Value} {x : DataW H × List MemPlace}, DataW.trod enc P w 0 (fun _ => true) true fuel tn cs = some x → (∀ n ∈ x.1.weights P tn, n ≤ reachBytes) → ∃ (b : Nb) (t : Tr), cs = b.cells ∧ Nd fuel w b t := by
  intro fuel
  induction fuel using Nat.strongRecOn with
  | ind fuel ih =>
    intro cs x h hw
    obtain ⟨fs, hfs, hty⟩ := T.node
    obtain ⟨xs, n, rfl, hx, hlen, hxl, hf⟩ := DataW.trod_struct hfs h
    rw [T.cn] at hlen
    have h9 : fs.size = 9 := by have := congrArg List.length hty; simpa using this
    match cs, hlen with
    | [c0, c1, c2, c3, c4, c5, c6, c7, c8], _ =>
    have hF : ∀ i (hi : i < 9), ∃ y, DataW.trod enc P w 0 (fun _ => true) true n (([(3, 0), (22, 1), (4, 2), (9, 3), (3, 4), (9, 5), (tb, 6), (tk, 7), (tk, 8)] : List (TypeId × Nat)).getD i (0, 0)).1
        ((([c0, c1, c2, c3, c4, c5, c6, c7, c8] : List Value).drop (([(3, 0), (22, 1), (4, 2), (9, 3), (3, 4), (9, 5), (tb, 6), (tk, 7), (tk, 8)] : List (TypeId × Nat)).getD i (0, 0)).2).take (P.cellsOf (([(3, 0), (22, 1), (4, 2), (9, 3), (3, 4), (9, 5), (tb, 6), (tk, 7), (tk, 8)] : List (TypeId × Nat)).getD i (0, 0)).1)) = some y ∧
        ∀ n ∈ y.1.weights P (([(3, 0), (22, 1), (4, 2), (9, 3), (3, 4), (9, 5), (tb, 6), (tk, 7), (tk, 8)] : List (TypeId × Nat)).getD i (0, 0)).1, n ≤ reachBytes := by
      intro i hi
      have hif : i < fs.size := by omega
      have e := hf i fs[i] (Array.getElem?_eq_getElem hif)
      have hy : xs[i]? = some (xs[i]'(by omega)) := List.getElem?_eq_getElem (by omega)
      have ht : ([(3, 0), (22, 1), (4, 2), (9, 3), (3, 4), (9, 5), (tb, 6), (tk, 7), (tk, 8)] : List (TypeId × Nat)).getD i (0, 0) = (fs[i].type, fs[i].offset) := by
        rw [← hty, List.getD_eq_getElem?_getD, List.getElem?_map, Array.getElem?_toList, Array.getElem?_eq_getElem hif]
        rfl
      rw [ht]
      refine ⟨_, e.trans hy, fun n hn => hw n ?_⟩
      rw [hx]
      simp only [DataW.weights, hfs]
      exact DataW.weights_mem_each (j := i) (t := fs[i].type) (d := (xs[i]'(by omega)).1) (by rw [List.getElem?_map, Array.getElem?_toList, Array.getElem?_eq_getElem hif]; rfl) (by rw [List.getElem?_map, hy]; rfl) n hn
    obtain ⟨k0, k1, k2, k3, k4, k5, k6⟩ := T.cells
    obtain ⟨y0, e0, g0⟩ := hF 0 (by omega)
    obtain ⟨y1, e1, g1⟩ := hF 1 (by omega)
    obtain ⟨y2, e2, g2⟩ := hF 2 (by omega)
    obtain ⟨y3, e3, g3⟩ := hF 3 (by omega)
    obtain ⟨y4, e4, g4⟩ := hF 4 (by omega)
    obtain ⟨y5, e5, g5⟩ := hF 5 (by omega)
    obtain ⟨y6, e6, g6⟩ := hF 6 (by omega)
    obtain ⟨y7, e7, g7⟩ := hF 7 (by omega)
    obtain ⟨y8, e8, g8⟩ := hF 8 (by omega)
    clear hF hf
    simp only [List.getD_cons_zero, List.getD_cons_succ, k0, k1, k2, k3, k4, k5, List.drop_zero, List.drop_succ_cons, List.take_succ_cons, List.take_zero] at e0 e1 e2 e3 e4 e5 e6 e7 e8
    simp only [List.getD_cons_zero, List.getD_cons_succ] at g3 g5 g6 g7 g8
    clear g0 g1 g2 g4
    obtain ⟨kind, q0, _, w0⟩ := DataW.trod_int T.i64 e0
    obtain ⟨num, q1, _, w1⟩ := DataW.trod_int T.u64 e1
    obtain ⟨neg, q2, _⟩ := DataW.trod_bool T.bool e2
    obtain ⟨dig, q3, r3, _⟩ := DataW.trod_string T.string e3
    have w3 : dig.size ≤ 140737488351232 := by
      have := g3 dig.data.toList.length (by rw [r3]; simp [DataW.weights])
      unfold reachBytes at this
      rw [Array.length_toList] at this
      exact this
    obtain ⟨exp, q4, _, w4⟩ := DataW.trod_int T.i64 e4
    obtain ⟨txt, q5, r5, _⟩ := DataW.trod_string T.string e5
    have w5 : txt.size ≤ 140737488351232 := by
      have := g5 txt.data.toList.length (by rw [r5]; simp [DataW.weights])
      unfold reachBytes at this
      rw [Array.length_toList] at this
      exact this
    obtain ⟨ab, lb, cb, zs, q6, hzl, hroom, hbytes⟩ := open_bytes T e6 g6
    have row : ∀ {c : Value} {y : DataW H × List MemPlace}, DataW.trod enc P w 0 (fun _ => true) true n tk [c] = some y → (∀ n ∈ y.1.weights P tk, n ≤ reachBytes) → ∃ a len cap l, c = .slice a len cap ∧ RowN (Nd n w) w a len cap l := by
      intro c y e hy
      rcases DataW.trod_slice T.row e with ⟨hc, _⟩ | ⟨a, len, cap, elems, rest, m, hn, hc, hyx, _, hl, hm, hel, hat, _, _⟩
      · obtain rfl : c = .slice none 0 0 := by simpa using hc
        exact ⟨none, 0, 0, [], rfl, rfl, ⟨Nat.le_refl _, Nat.zero_le _, fun _ => rfl, by omega⟩, .inl rfl⟩
      · obtain rfl : c = .slice (some a) len cap := by simpa using hc
        have each : ∀ i, i < len → ∃ bt : Nb × Tr, (∀ j, j < 9 → w.cell? ((a.add (i * 9)).add j) = bt.1.cells[j]?) ∧ Nd n w bt.1 bt.2 := by
          intro i hi
          have e1 := hat i hi
          rw [T.cn, List.getElem?_eq_getElem (by omega), Option.bind_eq_some_iff] at e1
          obtain ⟨cs', hcs', hr⟩ := e1
          obtain ⟨b, t, rfl, hb⟩ := ih m (by omega) hr fun n hn => hy n (by
            rw [hyx]
            simp only [DataW.weights, T.row]
            exact List.mem_cons_of_mem _ (List.mem_append_left _ (weights_all (List.mem_map.2 ⟨_, List.getElem_mem (by omega), rfl⟩) n hn)))
          exact ⟨(b, t), (cells_at hcs').2, hb.le (by omega)⟩
        have hsz : len * 136 ≤ 140737488351232 := by
          have := hy (((elems.map (·.1)).length + (rest.map (·.1)).length) * P.bytesOf tn) (by rw [hyx]; simp only [DataW.weights, T.row]; exact List.mem_cons_self)
          rw [T.bn, List.length_map, hel] at this
          unfold reachBytes at this
          omega
        have hI : Inhabited (Nb × Tr) := ⟨(⟨0, 0, false, ⟨#[]⟩, 0, ⟨#[]⟩, none, 0, 0, none, 0, 0, none, 0, 0⟩, ⟨0, 0, false, ⟨#[]⟩, 0, ⟨#[]⟩, [], [], []⟩)⟩
        obtain ⟨g, hg⟩ := Deep.choose_lt each
        refine ⟨some a, len, cap, (List.range len).map fun i => (g i).2, rfl, by simp, ⟨hl, hm, (fun h => by cases h), hsz⟩, ?_⟩
        by_cases h0 : len = 0
        · left; subst h0; rfl
        · right
          have hs : a.spot = none := by
            have h1 := (hg 0 (by omega)).1 0 (by omega)
            rw [Nat.zero_mul] at h1
            unfold World.cell? Addr.add at h1
            simp only [if_true, Nb.cells, List.getElem?_cons_zero] at h1
            split at h1
            · split at h1
              · cases h1
              · rename_i hsp; cases hh : a.spot with
                | none => rfl
                | some _ => simp [hh] at hsp
            · cases h1
          obtain ⟨b, off, sp⟩ := a
          obtain rfl : sp = none := hs
          refine ⟨b, off, rfl, fun i hi => ?_⟩
          have hi' : i < len := by simpa using hi
          refine ⟨(g i).1, fun j hj => ?_, by simpa using (hg i hi').2⟩
          rw [← (hg i hi').1 j hj, Deep.add_add]
          congr 1
          unfold Addr.add
          split
          · rename_i hz; rw [hz]; rfl
          · rfl
    obtain ⟨ak, lk, ck, lks, q7, hk⟩ := row e7 g7
    obtain ⟨ai, li, ci, lis, q8, hi⟩ := row e8 g8
    simp only [List.cons.injEq, and_true] at q0 q1 q2 q3 q4 q5 q6
    subst q0 q1 q2 q3 q4 q5 q6 q7 q8
    exact ⟨⟨kind, num, neg, dig, exp, txt, ab, lb, cb, ak, lk, ck, ai, li, ci⟩, ⟨kind, num, neg, dig, exp, txt, zs, lks, lis⟩, rfl, ⟨rfl, rfl, rfl, rfl, rfl, rfl⟩, ⟨w0, w1, w4, w3, w5⟩, ⟨hzl, hroom, hbytes⟩, hk, hi⟩

/-- A PARAMETER: a node by value. -/
theorem open_nd_arg (T : NTypes P tn tk tb) {r : Reach} {b0 : Nat} {v : Value} {d : DataW H} {p : List MemPlace} (hv : Value.okWide P w r b0 tn v) (h : DataW.Trod enc P w 0 (fun _ => true) true tn v d p) (hw : ∀ n ∈ d.weights P tn, n ≤ reachBytes) :
    ∃ (D : Nat) (b : Nb) (t : Tr), v = b.val ∧ Nd D w b t := by
  obtain ⟨fs, hfs, _⟩ := T.node
  obtain ⟨cs, rfl, _⟩ := okWide_struct hfs hv
  obtain ⟨fuel, hf⟩ := h
  obtain ⟨b, t, hcs, hn⟩ := open_nd T fuel hf hw
  refine ⟨fuel, b, t, ?_, hn⟩
  have : cs = b.cells.toArray := by rw [← hcs]; simp [Value.cells]
  rw [this]; rfl
end
end Go.Proofs.Ytkealjaealeojab
namespace Go.Proofs.Ytkealjaealeojab
theorem ntypes : NTypes Try.prog 26 24 23 where
  node := ⟨_, Try.underlying26, rfl⟩
  row := Try.underlying24
  bytes := Try.underlying23
  u8 := Try.underlying5
  i64 := Try.underlying3
  u64 := Try.underlying22
  bool := Try.underlying4
  string := Try.underlying9
  cn := by kernel_rfl
  bn := by kernel_rfl
  b1 := by kernel_rfl
  cells := ⟨by kernel_rfl, by kernel_rfl, by kernel_rfl, by kernel_rfl, by kernel_rfl, by kernel_rfl, by kernel_rfl⟩
end Go.Proofs.Ytkealjaealeojab
namespace Go.Proofs.Ytkealjaealeojab
open Go.RowKit
set_option linter.unusedVariables false

/-- The cells of nodes, one behind another. -/
def Cs (bs : List Nb) : List Value := bs.flatMap Nb.cells
theorem nb_nine (b : Nb) : b.cells.length = 9 := rfl
theorem cs_nil : Cs [] = [] := rfl
theorem cs_cons (b : Nb) (bs : List Nb) : Cs (b :: bs) = b.cells ++ Cs bs := rfl
theorem cs_app (l m : List Nb) : Cs (l ++ m) = Cs l ++ Cs m := List.flatMap_append
theorem cs_len (bs : List Nb) : (Cs bs).length = bs.length * 9 := by
  induction bs with
  | nil => rfl
  | cons b r ih => rw [cs_cons, List.length_append, ih, nb_nine, List.length_cons]; omega
theorem cs_get : ∀ (bs : List Nb) {i j : Nat} (h : i < bs.length) (hj : j < 9), (Cs bs)[i * 9 + j]? = (bs[i]).cells[j]? := by
  intro bs
  induction bs with
  | nil => intro i j h; cases h
  | cons b r ih =>
    intro i j h hj
    rw [cs_cons]
    cases i with
    | zero => rw [Nat.zero_mul, Nat.zero_add, List.getElem?_append_left (by rw [nb_nine]; exact hj)]; rfl
    | succ i =>
      rw [List.getElem?_append_right (by rw [nb_nine]; omega), nb_nine, show (i + 1) * 9 + j - 9 = i * 9 + j by omega]
      exact ih (by simpa using h) hj
theorem cell_one (b : Nb) : ∀ u ∈ b.cells, u.oneCell' = true := by
  intro u hu
  simp only [Nb.cells, List.mem_cons, List.not_mem_nil, or_false] at hu
  rcases hu with rfl | rfl | rfl | rfl | rfl | rfl | rfl | rfl | rfl <;> rfl
theorem cs_one (bs : List Nb) : ∀ u ∈ Cs bs, u.oneCell' = true := by
  intro u hu
  obtain ⟨b, _, h⟩ := List.mem_flatMap.1 hu
  exact cell_one b u h

/-- The nodes bs lie at a. -/
def Nine (w : World) (a : Option Addr) (bs : List Nb) : Prop :=
  bs = [] ∨ ∃ b off, a = some ⟨b, off, none⟩ ∧ ∀ i (h : i < bs.length) j, j < 9 → w.cell? ⟨b, off + (i * 9 + j), none⟩ = (bs[i]).cells[j]?

theorem RowN.nodes {Q : Nb → Tr → Prop} {w : World} {a : Option Addr} {len cap : Nat} {l : List Tr} (h : RowN Q w a len cap l) :
    ∃ bs : List Nb, bs.length = l.length ∧ Nine w a bs ∧ ∀ i (h : i < bs.length) (k : i < l.length), Q bs[i] l[i] := by
  obtain ⟨_, _, h2⟩ := h
  rcases h2 with rfl | ⟨b, off, ha, hc⟩
  · exact ⟨[], rfl, .inl rfl, fun i h => by cases h⟩
  · have hI : Inhabited Nb := ⟨⟨0, 0, false, ⟨#[]⟩, 0, ⟨#[]⟩, none, 0, 0, none, 0, 0, none, 0, 0⟩⟩
    have each : ∀ i, i < l.length → ∃ nb : Nb, (∀ j, j < 9 → w.cell? ⟨b, off + (i * 9 + j), none⟩ = nb.cells[j]?) ∧ ∀ k : i < l.length, Q nb l[i] := by
      intro i hi
      obtain ⟨nb, h1, h2⟩ := hc i hi
      exact ⟨nb, h1, fun _ => h2⟩
    obtain ⟨g, hg⟩ := Deep.choose_lt each
    refine ⟨(List.range l.length).map g, by simp, .inr ⟨b, off, ha, fun i hi j hj => ?_⟩, fun i hi k => ?_⟩
    · simpa using (hg i (by simpa using hi)).1 j hj
    · simpa using (hg i k).2 k
theorem rowN_of {Q : Nb → Tr → Prop} {w : World} {a : Option Addr} {len cap : Nat} {l : List Tr} {bs : List Nb} (hb : Nine w a bs) (hlen : bs.length = l.length) (hn : l.length = len) (hr : Room 136 a len cap)
    (hq : ∀ i (h : i < bs.length) (k : i < l.length), Q bs[i] l[i]) : RowN Q w a len cap l := by
  refine ⟨hn, hr, ?_⟩
  rcases hb with rfl | ⟨b, off, ha, hc⟩
  · exact .inl (List.eq_nil_of_length_eq_zero hlen.symm)
  · exact .inr ⟨b, off, ha, fun i hi => ⟨bs[i]'(by omega), fun j hj => hc i (by omega) j hj, hq i (by omega) hi⟩⟩
theorem Nine.news {w : World} {x : Addr} {bs : List Nb} (h : Nine w (some x) bs) : ∀ j u, (Cs bs)[j]? = some u → w.cell? (x.add j) = some u := by
  intro j u hu
  rcases h with rfl | ⟨b, off, hx, hc⟩
  · simp [Cs] at hu
  · cases hx
    have hj : j < bs.length * 9 := by
      have := (List.getElem?_eq_some_iff.1 hu).1
      rwa [cs_len] at this
    have hi : j / 9 < bs.length := by omega
    have h1 := hc (j / 9) hi (j % 9) (Nat.mod_lt _ (by omega))
    have h2 := cs_get bs hi (Nat.mod_lt j (by omega))
    rw [show j / 9 * 9 + j % 9 = j by omega] at h1 h2
    have e : (⟨b, off, none⟩ : Addr).add j = ⟨b, off + j, none⟩ := by
      by_cases h0 : j = 0
      · subst h0; simp [Addr.add]
      · simp [Addr.add, h0]
    rw [e, h1, ← h2, hu]
theorem Nine.kept {w w' : World} {a : Option Addr} {bs : List Nb} (h : Nine w a bs) (hb : Below w.heap.size w w') : Nine w' a bs := by
  rcases h with h | ⟨b, off, ha, hc⟩
  · exact .inl h
  · refine .inr ⟨b, off, ha, fun i hi j hj => ?_⟩
    have h9 := hc i hi j hj
    have hlt : b < w.heap.size := some_block (h9.trans (List.getElem?_eq_getElem (by simpa [Nb.cells] using hj)))
    rw [hb.cell (p := ⟨b, off + (i * 9 + j), none⟩) hlt]
    exact h9

/-- Nodes in new memory. -/
def OwnsN (tn : TypeId) (w : World) (base : Nat) (v : Value) (bs : List Nb) : Prop := w.ownsRow base tn 9 v bs.length (Cs bs)
section
variable {tn : TypeId}
theorem ownsN_nil (w : World) (base : Nat) : OwnsN tn w base (.slice none 0 0) [] := World.ownsRow_nil w base tn 9
theorem OwnsN.shape {w : World} {base : Nat} {v : Value} {bs : List Nb} (h : OwnsN tn w base v bs) :
    ∃ a cap, v = .slice a bs.length cap ∧ (bs.length ≤ cap ∧ cap ≤ maxLen ∧ (a = none → cap = 0)) ∧ Nine w a bs ∧ (∀ x, a = some x → base ≤ x.block ∧ x.block < w.heap.size ∧ x.off = 0 ∧ x.spot = none) := by
  obtain ⟨hl, hv⟩ := h
  rcases hv with ⟨rfl, hn⟩ | ⟨g, cap, cur, rfl, hb, hg, hnc, hcm, hcs, htk⟩
  · have h0 : bs = [] := List.eq_nil_of_length_eq_zero hn
    subst h0
    exact ⟨none, 0, rfl, ⟨Nat.le_refl _, Nat.zero_le _, fun _ => rfl⟩, .inl rfl, fun x hx => by cases hx⟩
  · refine ⟨some ⟨g, 0, none⟩, cap, rfl, ⟨hnc, hcm, fun hx => by cases hx⟩, .inr ⟨g, 0, rfl, fun i hi j hj => ?_⟩, ?_⟩
    · rw [Nat.zero_add, cell_row hg, ← Array.getElem?_toList, ← cs_get bs hi hj, ← htk, List.getElem?_take, if_pos (by omega)]
    · intro x hx
      cases hx
      exact ⟨hb, (Array.getElem?_eq_some_iff.1 hg).1, rfl, rfl⟩
theorem OwnsN.below {w w' : World} {base : Nat} {v : Value} {bs : List Nb} (h : OwnsN tn w base v bs) (hb : Below w.heap.size w w') : OwnsN tn w' base v bs :=
  World.ownsRow.kept (row := none) h ⟨hb.os, hb.tape, hb.output, hb.size, fun k hk _ => hb.block k hk⟩ (by cases hv : v.ownBlock <;> simp)
theorem OwnsN.base {w : World} {base base' : Nat} {v : Value} {bs : List Nb} (h : OwnsN tn w base v bs) (hB : base' ≤ base) : OwnsN tn w base' v bs := by
  obtain ⟨hl, hv⟩ := h
  refine ⟨hl, ?_⟩
  rcases hv with ⟨rfl, hn⟩ | ⟨g, cap, cur, rfl, hb, hr⟩
  · exact .inl ⟨rfl, hn⟩
  · exact .inr ⟨g, cap, cur, rfl, by omega, hr⟩
theorem grownN_below {w w1 w2 : World} {base : Nat} {v : Value} {bs : List Nb} (hb : Below base w w1) (h : OwnsN tn w1 base v bs) (hg : w1.grownBy w2 v.ownBlock) (hB : base ≤ w1.heap.size) : Below base w w2 :=
  hb.grown hg hB fun k hk => (World.ownsRow.lt h k hk).1

/-- 'append(v, x...)', v the call's own nodes, x any nodes; in any program with these types. -/
theorem wpList_append_nodes {P : Program} {tk : TypeId} (hk : P.underlying tk = some (.slice tn))
    (hi : (P.info? tn).map (fun i => (i.zero, i.size, i.bytes)) = some (some (.agg #[.int .i64 0, .int .u64 0, .bool false, .string ⟨#[]⟩, .int .i64 0, .string ⟨#[]⟩, .slice none 0 0, .slice none 0 0, .slice none 0 0]), 9, 136))
    {w : World} {ops : Array Oper} {rest : List Oper} {o : Oper} {a : Act} {Q : Exit → Act → World → Prop} (hgd : o.guard = none) (s x : Operand)
    (ho : o.op = .call { callee := .builtin .append, args := #[s, x], argTypes := #[tk, tk] })
    (base : Nat) (v : Value) (ys zs : List Nb) (hs : a.eval s = v) (hown : OwnsN tn w base v ys)
    (ad : Option Addr) (m c : Nat) (hx : a.eval x = .slice ad m c) (hm : zs.length = m) (hn : ad = none → c = 0) (hb : Nine w ad zs)
    (hbytes : ys.length + zs.length ≤ 1000000000) (hbase : base ≤ w.heap.size)
    (h : ∀ v' w', OwnsN tn w' base v' (ys ++ zs) → w.grownBy w' v.ownBlock → wpList P ops Q rest (a.put o.dst v') w') : wpList P ops Q (o :: rest) a w := by
  subst hm
  obtain ⟨i, hi, hz, hsz, hby⟩ := info_parts hi
  cases ad with
  | none =>
    have h0 : zs = [] := by
      rcases hb with h0 | ⟨_, _, h0, _⟩
      · exact h0
      · cases h0
    subst h0
    rw [hn rfl] at hx
    refine wpList_append_own_none hgd s x tk ho base tn i 9 hk hi v ys.length _ hs hown hx ?_
    have := h v w (by simpa using hown) (World.grownBy.refl _ _)
    exact this
  | some ad =>
    refine wpList_append_own_wide w hgd s x tk ho base tn i _ 9 136 hk hi hz hsz hby rfl (by decide) v ys.length _ hs hown ad zs.length c (Cs zs) hx (cs_len zs) hb.news (cs_one zs) ?_ (by omega) hbase ?_
    · unfold maxLen; omega
    · intro v' w' ho' hg _
      refine h v' w' ?_ hg
      unfold OwnsN
      rw [List.length_append, cs_app]
      exact ho'
end
end Go.Proofs.Ytkealjaealeojab
namespace Go.Proofs.Ytkealjaealeojab
open Go.RowKit
set_option linter.unusedVariables false

theorem add_none (b off j : Nat) : (⟨b, off, none⟩ : Addr).add j = ⟨b, off + j, none⟩ := by
  by_cases h0 : j = 0
  · subst h0; simp [Addr.add]
  · simp [Addr.add, h0]

/-- THE NODE AT i, loaded. -/
theorem Nine.loads {P : Program} {w : World} {b off : Nat} {bs : List Nb} (h : Nine w (some ⟨b, off, none⟩) bs) {i : Nat} (hi : i < bs.length) :
    (loadCells ⟨b, off + i * 9, none⟩ 9).run P w = .ok (bs[i]).cells.toArray w := by
  rcases h with rfl | ⟨b', off', hx, hc⟩
  · cases hi
  · cases hx
    refine run_loadCells_list (P := P) w ⟨b, off + i * 9, none⟩ (bs[i]).cells fun j v hv => ?_
    have hj : j < 9 := by have := (List.getElem?_eq_some_iff.1 hv).1; rwa [nb_nine] at this
    rw [add_none, Nat.add_assoc, hc i hi j hj]
    exact hv

/-- A row's nodes with another at i: its cells. -/
theorem cs_set : ∀ (bs : List Nb) {i : Nat} (nb : Nb), i < bs.length → Cs (bs.set i nb) = (Cs bs).take (i * 9) ++ nb.cells ++ (Cs bs).drop (i * 9 + 9) := by
  intro bs
  induction bs with
  | nil => intro i nb h; cases h
  | cons b r ih =>
    intro i nb h
    cases i with
    | zero =>
      rw [List.set_cons_zero, cs_cons, cs_cons, Nat.zero_mul, List.take_zero, List.nil_append, Nat.zero_add]
      rw [List.drop_append_of_le_length (by rw [nb_nine]; exact Nat.le_refl _), List.drop_of_length_le (by rw [nb_nine]; exact Nat.le_refl _), List.nil_append]
    | succ i =>
      rw [List.set_cons_succ, cs_cons, cs_cons, ih nb (by simpa using h)]
      rw [show (i + 1) * 9 = b.cells.length + i * 9 by rw [nb_nine]; omega, List.take_length_add_append, show b.cells.length + i * 9 + 9 = b.cells.length + (i * 9 + 9) by omega, List.drop_length_add_append]
      simp only [List.append_assoc]

section
variable {tn : TypeId}
/-- THE NODE AT i, WRITTEN OVER, in a row of the call's own: only its block turns. -/
theorem OwnsN.stores {P : Program} {w : World} {base g n cap : Nat} {bs : List Nb} (h : OwnsN tn w base (.slice (some ⟨g, 0, none⟩) n cap) bs) {i : Nat} (hi : i < bs.length) (nb : Nb) :
    ∃ w', (storeCells ⟨g, i * 9, none⟩ nb.cells).run P w = .ok () w' ∧ OwnsN tn w' base (.slice (some ⟨g, 0, none⟩) n cap) (bs.set i nb) ∧ w.grownBy w' (some g) := by
  obtain ⟨hl, hv⟩ := h
  rcases hv with ⟨h0, _⟩ | ⟨g', cap', cur, hv, hb, hg, hnc, hcm, hcs, htk⟩
  · cases h0
  · cases hv
    have hlen : i * 9 + 9 ≤ cur.size := by rw [hcs]; omega
    have hr := run_storeCells_at (P := P) g (i * 9) tn nb.cells 0 cur w hg (by rw [nb_nine]; omega) (cell_one nb)
    refine ⟨_, hr, ⟨by rw [cs_len], .inr ⟨g, cap, _, by rw [List.length_set], hb, setRow_heap w g cur _ tn _ hg, by rw [List.length_set]; exact hnc, hcm, ?_, ?_⟩⟩, ⟨rfl, rfl, rfl, by simp [World.setRow], fun k _ hk => setRow_other w g k _ (fun e => hk (by rw [e]))⟩⟩
    · simp only [List.size_toArray, List.length_append, List.length_take, List.length_drop, Array.length_toList, nb_nine, Nat.add_zero]
      omega
    · rw [List.length_set, cs_set bs nb hi, ← htk, nb_nine, Nat.add_zero]
      have e1 : (cur.toList.take (bs.length * 9)).take (i * 9) = cur.toList.take (i * 9) := by rw [List.take_take, Nat.min_eq_left (by omega)]
      have e2 : (cur.toList.take (bs.length * 9)).drop (i * 9 + 9) = (cur.toList.drop (i * 9 + 9)).take (bs.length * 9 - (i * 9 + 9)) := by rw [List.drop_take]
      rw [e1, e2]
      have e3 : (cur.toList.take (i * 9) ++ nb.cells).length = i * 9 + 9 := by rw [List.length_append, List.length_take, nb_nine, Array.length_toList, Nat.min_eq_left (by omega)]
      rw [show bs.length * 9 = (cur.toList.take (i * 9) ++ nb.cells).length + (bs.length * 9 - (i * 9 + 9)) by rw [e3]; omega, List.take_length_add_append]
      rw [e3]
      congr 2
      omega
end
end Go.Proofs.Ytkealjaealeojab
namespace Go.Proofs.Ytkealjaealeojab
open Go.RowKit
set_option linter.unusedVariables false

/-- Where a slice with elements lies. -/
def In (S : Nat → Prop) (a : Option Addr) (len : Nat) : Prop := 0 < len → ∀ x, a = some x → S x.block
theorem In.mono {S R : Nat → Prop} {a : Option Addr} {len : Nat} (h : In S a len) (hs : ∀ k, S k → R k) : In R a len := fun h0 x hx => hs _ (h h0 x hx)

/-- A node in memory that lies in the blocks S, whole. -/
def NdS (S : Nat → Prop) : Nat → World → Nb → Tr → Prop
  | 0, _, _, _ => False
  | d + 1, w, b, t => (b.kind = t.kind ∧ b.num = t.num ∧ b.neg = t.neg ∧ b.dig = t.dig ∧ b.exp = t.exp ∧ b.txt = t.txt) ∧
    ((Lit.int .i64 t.kind).wf = true ∧ (Lit.int .u64 t.num).wf = true ∧ (Lit.int .i64 t.exp).wf = true ∧ t.dig.size ≤ 140737488351232 ∧ t.txt.size ≤ 140737488351232) ∧
    (t.bytes.length = b.lb ∧ Room 1 b.ab b.lb b.cb ∧ Bytes w b.ab t.bytes) ∧
    (In S b.ab b.lb ∧ In S b.ak b.lk ∧ In S b.ai b.li) ∧
    RowN (NdS S d w) w b.ak b.lk b.ck t.keys ∧ RowN (NdS S d w) w b.ai b.li b.ci t.kids

theorem NdS.nd {S : Nat → Prop} : ∀ {d : Nat} {w : World} {b : Nb} {t : Tr}, NdS S d w b t → Nd d w b t := by
  intro d
  induction d with
  | zero => intro w b t h; exact h
  | succ d ih =>
    intro w b t h
    obtain ⟨h0, h1, h2, _, h3, h4⟩ := h
    exact ⟨h0, h1, h2, h3.mono fun _ _ _ q => ih q, h4.mono fun _ _ _ q => ih q⟩
theorem NdS.mono {S R : Nat → Prop} (hs : ∀ k, S k → R k) : ∀ {d : Nat} {w : World} {b : Nb} {t : Tr}, NdS S d w b t → NdS R d w b t := by
  intro d
  induction d with
  | zero => intro w b t h; exact h
  | succ d ih =>
    intro w b t h
    obtain ⟨h0, h1, h2, ⟨i0, i1, i2⟩, h3, h4⟩ := h
    exact ⟨h0, h1, h2, ⟨i0.mono hs, i1.mono hs, i2.mono hs⟩, h3.mono fun _ _ _ q => ih q, h4.mono fun _ _ _ q => ih q⟩
theorem ndS_succ {S : Nat → Prop} : ∀ (d : Nat) {w : World} {b : Nb} {t : Tr}, NdS S d w b t → NdS S (d + 1) w b t := by
  intro d
  induction d with
  | zero => intro w b t h; exact absurd h id
  | succ d ih =>
    intro w b t h
    obtain ⟨h0, h1, h2, i, h3, h4⟩ := h
    exact ⟨h0, h1, h2, i, h3.mono fun _ _ _ q => ih q, h4.mono fun _ _ _ q => ih q⟩
theorem NdS.le {S : Nat → Prop} {d e : Nat} {w : World} {b : Nb} {t : Tr} (h : NdS S d w b t) (hle : d ≤ e) : NdS S e w b t := by
  induction hle with
  | refl => exact h
  | step _ ih => exact ndS_succ _ ih

theorem bytes_in {w : World} {a : Option Addr} {zs : List Int} (hb : Bytes w a zs) : In (· < w.heap.size) a zs.length := by
  intro h0 x hx
  rcases hb.2.2 with rfl | ⟨b, off, ha, hc⟩
  · cases h0
  · rw [ha] at hx
    cases hx
    exact some_block (hc 0 h0)
theorem RowN.in {Q : Nb → Tr → Prop} {w : World} {a : Option Addr} {len cap : Nat} {l : List Tr} (h : RowN Q w a len cap l) : In (· < w.heap.size) a len := by
  intro h0 x hx
  obtain ⟨hl, _, h2⟩ := h
  rcases h2 with rfl | ⟨b, off, ha, hc⟩
  · rw [← hl] at h0; cases h0
  · rw [ha] at hx
    cases hx
    obtain ⟨nb, hn, _⟩ := hc 0 (by omega)
    exact some_block ((hn 0 (by omega)).trans (List.getElem?_eq_getElem (by simp [Nb.cells])))
/-- All of a tree lies in memory that is there. -/
theorem Nd.all : ∀ {d : Nat} {w : World} {b : Nb} {t : Tr}, Nd d w b t → NdS (· < w.heap.size) d w b t := by
  intro d
  induction d with
  | zero => intro w b t h; exact h
  | succ d ih =>
    intro w b t h
    obtain ⟨h0, h1, h2, h3, h4⟩ := h
    exact ⟨h0, h1, h2, ⟨by have := bytes_in h2.2.2; rwa [h2.1] at this, h3.in, h4.in⟩, h3.mono fun _ _ _ q => ih q, h4.mono fun _ _ _ q => ih q⟩

/-- IT STAYS AS LONG AS ITS BLOCKS STAY. -/
theorem Bytes.stays {w w' : World} {S : Nat → Prop} {a : Option Addr} {zs : List Int} (hb : Bytes w a zs) (hi : In S a zs.length) (h : ∀ k, S k → w'.heap[k]? = w.heap[k]?) : Bytes w' a zs := by
  obtain ⟨h0, h1, h2⟩ := hb
  refine ⟨h0, h1, ?_⟩
  rcases h2 with h2 | ⟨b, off, rfl, hc⟩
  · exact .inl h2
  · refine .inr ⟨b, off, rfl, fun i hi' => ?_⟩
    rw [World.cell?_of_block (w := w) (a := ⟨b, off + i, none⟩) (h b (hi (by omega) _ rfl))]
    exact hc i hi'
theorem RowN.stays {Q R : Nb → Tr → Prop} {S : Nat → Prop} {w w' : World} {a : Option Addr} {len cap : Nat} {l : List Tr} (h : RowN Q w a len cap l) (hi : In S a len) (hb : ∀ k, S k → w'.heap[k]? = w.heap[k]?) (hq : ∀ b t, t ∈ l → Q b t → R b t) : RowN R w' a len cap l := by
  obtain ⟨h0, h1, h2⟩ := h
  refine ⟨h0, h1, ?_⟩
  rcases h2 with h2 | ⟨b, off, ha, hc⟩
  · exact .inl h2
  · refine .inr ⟨b, off, ha, fun i hi' => ?_⟩
    obtain ⟨nb, hn, hQ⟩ := hc i hi'
    refine ⟨nb, fun j hj => ?_, hq _ _ (List.getElem_mem hi') hQ⟩
    rw [World.cell?_of_block (w := w) (a := ⟨b, off + (i * 9 + j), none⟩) (hb b (hi (by omega) _ ha))]
    exact hn j hj
theorem NdS.stays {S : Nat → Prop} : ∀ {d : Nat} {w w' : World} {b : Nb} {t : Tr}, NdS S d w b t → (∀ k, S k → w'.heap[k]? = w.heap[k]?) → NdS S d w' b t := by
  intro d
  induction d with
  | zero => intro w w' b t h _; exact h
  | succ d ih =>
    intro w w' b t h hb
    obtain ⟨h0, h1, ⟨h2, h2', h2''⟩, ⟨i0, i1, i2⟩, h3, h4⟩ := h
    exact ⟨h0, h1, ⟨h2, h2', h2''.stays (by rw [h2]; exact i0) hb⟩, ⟨i0, i1, i2⟩, h3.stays i1 hb fun _ _ _ q => ih q hb, h4.stays i2 hb fun _ _ _ q => ih q hb⟩
theorem NdS.below {S : Nat → Prop} {B : Nat} {d : Nat} {w w' : World} {b : Nb} {t : Tr} (h : NdS S d w b t) (hb : Below B w w') (hS : ∀ k, S k → k < B) : NdS S d w' b t := h.stays fun k hk => hb.block k (hS k hk)
/-- A block turned that is none of its. -/
theorem NdS.grown {S : Nat → Prop} {g d : Nat} {w w' : World} {b : Nb} {t : Tr} (h : NdS S d w b t) (hg : w.grownBy w' (some g)) (hS : ∀ k, S k → k < w.heap.size ∧ k ≠ g) : NdS S d w' b t :=
  h.stays fun k hk => hg.block k (hS k hk).1 (fun e => (hS k hk).2 (Option.some.inj e))

/-! ### A tree that may be written over -/

/-- Bytes that may be written over, in the blocks f. -/
def FrB (w : World) (a : Option Addr) (len : Nat) (f : List Nat) : Prop :=
  (len = 0 ∧ f = []) ∨ ∃ g cur, a = some ⟨g, 0, none⟩ ∧ f = [g] ∧ w.heap[g]? = some (.cells cur 5 (0, 0)) ∧ len ≤ cur.size ∧ ∀ i, i < len → ∃ c : Int, cur[i]? = some (.int .u8 c) ∧ 0 ≤ c ∧ c < 256
/-- Nodes that may be written over. -/
def FrR (tn : TypeId) (Q : Nb → List Nat → Prop) (w : World) (a : Option Addr) (len : Nat) (f : List Nat) : Prop :=
  (len = 0 ∧ f = []) ∨ ∃ g cur fs, a = some ⟨g, 0, none⟩ ∧ f = g :: List.flatten fs ∧ w.heap[g]? = some (.cells cur tn (0, 0)) ∧ len * 9 ≤ cur.size ∧ fs.length = len ∧
    ∀ i (h : i < fs.length), ∃ nb : Nb, (∀ j, j < 9 → cur[i * 9 + j]? = nb.cells[j]?) ∧ Q nb fs[i]
/-- A TREE ALL OF WHICH MAY BE WRITTEN OVER: its blocks are f. -/
def FrD (tn : TypeId) : Nat → World → Nb → List Nat → Prop
  | 0, _, _, _ => False
  | d + 1, w, b, f => ∃ f0 f1 f2, f = f0 ++ (f1 ++ f2) ∧ (b.lb ≤ b.cb ∧ b.lk ≤ b.ck ∧ b.li ≤ b.ci ∧ b.cb ≤ maxLen ∧ b.ck ≤ maxLen ∧ b.ci ≤ maxLen) ∧ FrB w b.ab b.lb f0 ∧ FrR tn (FrD tn d w) w b.ak b.lk f1 ∧ FrR tn (FrD tn d w) w b.ai b.li f2
theorem FrB.stays {w w' : World} {a : Option Addr} {len : Nat} {f : List Nat} (h : FrB w a len f) (hb : ∀ k, k ∈ f → w'.heap[k]? = w.heap[k]?) : FrB w' a len f := by
  rcases h with h | ⟨g, cur, ha, hf, hg, hr⟩
  · exact .inl h
  · exact .inr ⟨g, cur, ha, hf, by rw [hb g (by rw [hf]; exact List.mem_cons_self)]; exact hg, hr⟩
theorem FrR.stays {tn : TypeId} {Q R : Nb → List Nat → Prop} {w w' : World} {a : Option Addr} {len : Nat} {f : List Nat} (h : FrR tn Q w a len f) (hb : ∀ k, k ∈ f → w'.heap[k]? = w.heap[k]?) (hq : ∀ b e, (∀ k, k ∈ e → k ∈ f) → Q b e → R b e) : FrR tn R w' a len f := by
  rcases h with h | ⟨g, cur, fs, ha, hf, hg, hl, hfl, hr⟩
  · exact .inl h
  · refine .inr ⟨g, cur, fs, ha, hf, by rw [hb g (by rw [hf]; exact List.mem_cons_self)]; exact hg, hl, hfl, fun i hi => ?_⟩
    obtain ⟨nb, h1, h2⟩ := hr i hi
    refine ⟨nb, h1, hq _ _ (fun k hk => ?_) h2⟩
    rw [hf]
    exact List.mem_cons_of_mem _ (List.mem_flatten.2 ⟨_, List.getElem_mem hi, hk⟩)
theorem FrD.stays {tn : TypeId} : ∀ {d : Nat} {w w' : World} {b : Nb} {f : List Nat}, FrD tn d w b f → (∀ k, k ∈ f → w'.heap[k]? = w.heap[k]?) → FrD tn d w' b f := by
  intro d
  induction d with
  | zero => intro w w' b f h _; exact h
  | succ d ih =>
    intro w w' b f h hb
    obtain ⟨f0, f1, f2, hf, hc, h0, h1, h2⟩ := h
    have m0 : ∀ k, k ∈ f0 → k ∈ f := fun k hk => by rw [hf]; exact List.mem_append_left _ hk
    have m1 : ∀ k, k ∈ f1 → k ∈ f := fun k hk => by rw [hf]; exact List.mem_append_right _ (List.mem_append_left _ hk)
    have m2 : ∀ k, k ∈ f2 → k ∈ f := fun k hk => by rw [hf]; exact List.mem_append_right _ (List.mem_append_right _ hk)
    exact ⟨f0, f1, f2, hf, hc, h0.stays fun k hk => hb k (m0 k hk), h1.stays (fun k hk => hb k (m1 k hk)) fun _ e he q => ih q fun k hk => hb k (m1 k (he k hk)), h2.stays (fun k hk => hb k (m2 k hk)) fun _ e he q => ih q fun k hk => hb k (m2 k (he k hk))⟩
theorem FrR.mono {tn : TypeId} {Q R : Nb → List Nat → Prop} {w : World} {a : Option Addr} {len : Nat} {f : List Nat} (h : FrR tn Q w a len f) (hq : ∀ b e, Q b e → R b e) : FrR tn R w a len f := h.stays (fun _ _ => rfl) fun _ _ _ q => hq _ _ q
theorem frD_succ {tn : TypeId} : ∀ (d : Nat) {w : World} {b : Nb} {f : List Nat}, FrD tn d w b f → FrD tn (d + 1) w b f := by
  intro d
  induction d with
  | zero => intro w b f h; exact absurd h id
  | succ d ih =>
    intro w b f h
    obtain ⟨f0, f1, f2, hf, hc, h0, h1, h2⟩ := h
    exact ⟨f0, f1, f2, hf, hc, h0, h1.mono fun _ _ q => ih q, h2.mono fun _ _ q => ih q⟩
end Go.Proofs.Ytkealjaealeojab
namespace Go.Proofs.Ytkealjaealeojab
open Go.RowKit
set_option linter.unusedVariables false

/-- A node's cells as a row. -/
def Nb.arr (b : Nb) : Array Value := #[.int .i64 b.kind, .int .u64 b.num, .bool b.neg, .string b.dig, .int .i64 b.exp, .string b.txt, .slice b.ab b.lb b.cb, .slice b.ak b.lk b.ck, .slice b.ai b.li b.ci]
theorem Nb.arr_eq (b : Nb) : b.arr = b.cells.toArray := rfl
theorem Nb.val_eq (b : Nb) : b.val = .agg b.arr := rfl

/-- A box: a block that holds a node, nothing else. -/
def NBox (w : World) (g : Nat) (b : Nb) : Prop := w.heap[g]? = some (.cells b.arr 26 (0, 0))
theorem NBox.lt {w : World} {g : Nat} {b : Nb} (h : NBox w g b) : g < w.heap.size := (Array.getElem?_eq_some_iff.1 h).1
theorem NBox.cell {w : World} {g : Nat} {b : Nb} (h : NBox w g b) (j : Nat) : w.cell? ⟨g, j, none⟩ = b.cells[j]? := by
  rw [cell_row h, Nb.arr_eq]; simp
theorem NBox.fz {w : World} {g : Nat} {b : Nb} (h : NBox w g b) (j : Nat) : w.frozen? ⟨g, j, none⟩ = false := by
  unfold NBox at h
  simp [World.frozen?, h]
theorem NBox.same {w w' : World} {g : Nat} {b : Nb} (h : NBox w g b) (hb : w'.heap[g]? = w.heap[g]?) : NBox w' g b := by
  unfold NBox; rw [hb]; exact h
theorem NBox.kept {w w' : World} {g B : Nat} {b : Nb} (h : NBox w g b) (hb : Below B w w') (hg : g < B) : NBox w' g b := h.same (hb.block g hg)
theorem nbox_new (w : World) (b : Nb) : NBox (w.alloc (.cells b.arr 26)) w.heap.size b := heap_alloc_new w _
theorem NBox.loads {P : Program} {w : World} {g : Nat} {b : Nb} (h : NBox w g b) : Sem.run P (loadCellsFrom ⟨g, 0, none⟩ 0 9 #[]) w = .ok b.arr w := by
  refine run_loadCells_list (P := P) w ⟨g, 0, none⟩ b.cells fun j v hv => ?_
  rw [add_none, Nat.zero_add, h.cell]
  exact hv
/-- What the walk reads of a box: its fields. -/
theorem NBox.fields {w : World} {g : Nat} {b : Nb} (h : NBox w g b) :
    w.cell? ⟨g, 0, none⟩ = some (.int .i64 b.kind) ∧ w.cell? ⟨g, 1, none⟩ = some (.int .u64 b.num) ∧ w.cell? ⟨g, 2, none⟩ = some (.bool b.neg) ∧ w.cell? ⟨g, 3, none⟩ = some (.string b.dig) ∧ w.cell? ⟨g, 4, none⟩ = some (.int .i64 b.exp) ∧ w.cell? ⟨g, 5, none⟩ = some (.string b.txt) ∧ w.cell? ⟨g, 6, none⟩ = some (.slice b.ab b.lb b.cb) ∧ w.cell? ⟨g, 7, none⟩ = some (.slice b.ak b.lk b.ck) ∧ w.cell? ⟨g, 8, none⟩ = some (.slice b.ai b.li b.ci) :=
  ⟨h.cell 0, h.cell 1, h.cell 2, h.cell 3, h.cell 4, h.cell 5, h.cell 6, h.cell 7, h.cell 8⟩
/-- An element of a row, loaded. -/
theorem nine_loads {P : Program} {w : World} {b off : Nat} {nb : Nb} {i : Nat} (h : ∀ j, j < 9 → w.cell? ⟨b, off + (i * 9 + j), none⟩ = nb.cells[j]?) : Sem.run P (loadCellsFrom ⟨b, off + i * 9, none⟩ 0 9 #[]) w = .ok nb.arr w := by
  refine run_loadCells_list (P := P) w ⟨b, off + i * 9, none⟩ nb.cells fun j v hv => ?_
  have hj : j < 9 := by have := (List.getElem?_eq_some_iff.1 hv).1; rwa [nb_nine] at this
  rw [add_none, Nat.add_assoc, h j hj]
  exact hv

/-- The cells of an element of a row, as the walk reads them. -/
theorem elem_fields {w : World} {b off : Nat} {nb : Nb} {i : Nat} (h : ∀ j, j < 9 → w.cell? ⟨b, off + (i * 9 + j), none⟩ = nb.cells[j]?) :
    w.cell? ⟨b, off + i * 9, none⟩ = some (.int .i64 nb.kind) ∧ w.cell? ⟨b, off + i * 9 + 1, none⟩ = some (.int .u64 nb.num) ∧ w.cell? ⟨b, off + i * 9 + 2, none⟩ = some (.bool nb.neg) ∧ w.cell? ⟨b, off + i * 9 + 3, none⟩ = some (.string nb.dig) ∧ w.cell? ⟨b, off + i * 9 + 4, none⟩ = some (.int .i64 nb.exp) ∧ w.cell? ⟨b, off + i * 9 + 5, none⟩ = some (.string nb.txt) ∧ w.cell? ⟨b, off + i * 9 + 6, none⟩ = some (.slice nb.ab nb.lb nb.cb) ∧ w.cell? ⟨b, off + i * 9 + 7, none⟩ = some (.slice nb.ak nb.lk nb.ck) ∧ w.cell? ⟨b, off + i * 9 + 8, none⟩ = some (.slice nb.ai nb.li nb.ci) :=
  ⟨h 0 (by omega), h 1 (by omega), h 2 (by omega), h 3 (by omega), h 4 (by omega), h 5 (by omega), h 6 (by omega), h 7 (by omega), h 8 (by omega)⟩

/-- ALL BLOCKS STAY, THOSE OF C ASIDE. -/
structure Kp (C : Nat → Prop) (w w' : World) : Prop where
  os : w'.os = w.os
  tape : w'.tape = w.tape
  output : w'.output = w.output
  size : w.heap.size ≤ w'.heap.size
  block : ∀ k, k < w.heap.size → ¬ C k → w'.heap[k]? = w.heap[k]?
theorem Kp.refl (C : Nat → Prop) (w : World) : Kp C w w := ⟨rfl, rfl, rfl, Nat.le_refl _, fun _ _ _ => rfl⟩
theorem Kp.trans {C : Nat → Prop} {a b c : World} (h : Kp C a b) (k : Kp C b c) : Kp C a c :=
  ⟨k.os.trans h.os, k.tape.trans h.tape, k.output.trans h.output, Nat.le_trans h.size k.size, fun i hi hc => (k.block i (Nat.lt_of_lt_of_le hi h.size) hc).trans (h.block i hi hc)⟩
theorem Kp.of {C : Nat → Prop} {w w' : World} (h : Below w.heap.size w w') : Kp C w w' := ⟨h.os, h.tape, h.output, h.size, fun k hk _ => h.block k hk⟩
theorem Kp.below {C : Nat → Prop} {B : Nat} {w w' : World} (h : Kp C w w') (hB : B ≤ w.heap.size) (hC : ∀ k, C k → B ≤ k) : Below B w w' :=
  ⟨h.os, h.tape, h.output, h.size, fun k hk => h.block k (by omega) fun hc => by have := hC k hc; omega⟩
theorem Kp.none {w w' : World} (h : Kp (fun _ => False) w w') : Below w.heap.size w w' := h.below (Nat.le_refl _) (fun _ hc => hc.elim)
theorem alloc_lt (w : World) (o : Obj) : w.heap.size < (w.alloc o).heap.size := by simp
theorem alloc_below (w : World) (o : Obj) : Below w.heap.size w (w.alloc o) := (Below.refl _ _).alloc (Nat.le_refl _) o
theorem box_below {w w' : World} {o : Obj} (h : Below (w.alloc o).heap.size (w.alloc o) w') : Below w.heap.size w w' := (alloc_below w o).trans (h.mono (Nat.le_of_lt (alloc_lt w o)))
end Go.Proofs.Ytkealjaealeojab
