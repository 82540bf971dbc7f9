/-
  A reader of tokens in memory: its cells, the stack of what is open, and which block belongs to what.
  A node appended to a row of the reader's own, in a region that draws its order; the innermost of what is open.
  The innermost of what is open: where it lies.
  A whole value put into the innermost of what is open: the memory behind it.
-/
import Derived.Test.YtmlacmoembjeoaaGreatDoorG3
import Derived.Test.YtmlacmoembjeoaaGreatDoorG12
import Derived.Deep.RegionLaw
import Derived.Deep.RegionHeld3
namespace Go.Proofs.YtmlacmoembjeoaaGreatDoor
open Go.RowKit
set_option linter.unusedVariables false

/-- A node of which all is zero. -/
def zN : Nb := ⟨0, 0, false, ⟨#[]⟩, 0, ⟨#[]⟩, none, 0, 0, none, 0, 0, none, 0, 0⟩
def zT : Tr := ⟨0, 0, false, ⟨#[]⟩, 0, ⟨#[]⟩, [], [], []⟩
/-- A node without bytes, keys and kids. -/
def leafN (t : Tr) : Nb := ⟨t.kind, t.num, t.neg, t.dig, t.exp, t.txt, none, 0, 0, none, 0, 0, none, 0, 0⟩
def Leaf (t : Tr) : Prop := t.bytes = [] ∧ t.keys = [] ∧ t.kids = [] ∧ (Lit.int .i64 t.kind).wf = true ∧ (Lit.int .u64 t.num).wf = true ∧ (Lit.int .i64 t.exp).wf = true ∧ t.dig.size ≤ 140737488351232 ∧ t.txt.size ≤ 140737488351232
theorem leaf_nd {t : Tr} (h : Leaf t) (S : Nat → Prop) (D : Nat) (w : World) : NdS S (D + 1) w (leafN t) t := by
  obtain ⟨h1, h2, h3, h4, h5, h6, h7, h8⟩ := h
  refine ⟨⟨rfl, rfl, rfl, rfl, rfl, rfl⟩, ⟨h4, h5, h6, h7, h8⟩, ⟨by rw [h1]; rfl, ⟨Nat.le_refl _, Nat.zero_le _, fun _ => rfl, by simp [leafN]⟩, by rw [h1]; simp [Bytes]⟩, ⟨(fun h => by simp [leafN] at h), (fun h => by simp [leafN] at h), (fun h => by simp [leafN] at h)⟩, ⟨by rw [h2]; rfl, ⟨Nat.le_refl _, Nat.zero_le _, fun _ => rfl, by simp [leafN]⟩, .inl h2⟩, ⟨by rw [h3]; rfl, ⟨Nat.le_refl _, Nat.zero_le _, fun _ => rfl, by simp [leafN]⟩, .inl h3⟩⟩
/-- A reader's cells. -/
def rArr (free : Bool) (nx g : Nat) (ao : Option Addr) (no co : Nat) (nodes : Int) (r : Nb) (ended : Bool) : Array Value :=
  #[.bool free, .func (.func nx) #[.pointer (some ⟨g, 0, none⟩)] #[], .slice ao no co, .int .i64 nodes, .int .i64 r.kind, .int .u64 r.num, .bool r.neg, .string r.dig, .int .i64 r.exp, .string r.txt, .slice r.ab r.lb r.cb, .slice r.ak r.lk r.ck, .slice r.ai r.li r.ci, .bool ended]
def RBox (w : World) (g : Nat) (free : Bool) (nx : Nat) (ao : Option Addr) (no co : Nat) (nodes : Int) (r : Nb) (ended : Bool) : Prop := w.heap[g]? = some (.cells (rArr free nx g ao no co nodes r ended) 48 (0, 0))
section
variable {w w' : World} {g : Nat} {free : Bool} {nx : Nat} {ao : Option Addr} {no co : Nat} {nodes : Int} {r : Nb} {ended : Bool}
theorem RBox.lt (h : RBox w g free nx ao no co nodes r ended) : g < w.heap.size := (Array.getElem?_eq_some_iff.1 h).1
theorem RBox.same (h : RBox w g free nx ao no co nodes r ended) (hb : w'.heap[g]? = w.heap[g]?) : RBox w' g free nx ao no co nodes r ended := by unfold RBox; rw [hb]; exact h
theorem RBox.cell (h : RBox w g free nx ao no co nodes r ended) (j : Nat) : w.cell? ⟨g, j, none⟩ = (rArr free nx g ao no co nodes r ended)[j]? := cell_row h j
theorem RBox.fz (h : RBox w g free nx ao no co nodes r ended) (j : Nat) : w.frozen? ⟨g, j, none⟩ = false := by unfold RBox at h; simp [World.frozen?, h]
theorem RBox.fields (h : RBox w g free nx ao no co nodes r ended) : w.cell? ⟨g, 0, none⟩ = some (.bool free) ∧ w.cell? ⟨g, 1, none⟩ = some (.func (.func nx) #[.pointer (some ⟨g, 0, none⟩)] #[]) ∧ w.cell? ⟨g, 2, none⟩ = some (.slice ao no co) ∧ w.cell? ⟨g, 3, none⟩ = some (.int .i64 nodes) ∧ w.cell? ⟨g, 13, none⟩ = some (.bool ended) := ⟨h.cell 0, h.cell 1, h.cell 2, h.cell 3, h.cell 13⟩
theorem RBox.root (h : RBox w g free nx ao no co nodes r ended) : w.cell? ⟨g, 4, none⟩ = some (.int .i64 r.kind) ∧ w.cell? ⟨g, 5, none⟩ = some (.int .u64 r.num) ∧ w.cell? ⟨g, 6, none⟩ = some (.bool r.neg) ∧ w.cell? ⟨g, 7, none⟩ = some (.string r.dig) ∧ w.cell? ⟨g, 8, none⟩ = some (.int .i64 r.exp) ∧ w.cell? ⟨g, 9, none⟩ = some (.string r.txt) ∧ w.cell? ⟨g, 10, none⟩ = some (.slice r.ab r.lb r.cb) ∧ w.cell? ⟨g, 11, none⟩ = some (.slice r.ak r.lk r.ck) ∧ w.cell? ⟨g, 12, none⟩ = some (.slice r.ai r.li r.ci) := ⟨h.cell 4, h.cell 5, h.cell 6, h.cell 7, h.cell 8, h.cell 9, h.cell 10, h.cell 11, h.cell 12⟩
theorem RBox.set {free' : Bool} {nx' : Nat} {ao' : Option Addr} {no' co' : Nat} {nodes' : Int} {r' : Nb} {ended' : Bool} (h : RBox w g free nx ao no co nodes r ended) (j : Nat) (v : Value) (hv : rArr free' nx' g ao' no' co' nodes' r' ended' = (rArr free nx g ao no co nodes r ended).setIfInBounds j v) : RBox (w.setCell ⟨g, j, none⟩ v) g free' nx' ao' no' co' nodes' r' ended' := by
  unfold RBox
  rw [heap_setCell_same w g j _ 48 v h, hv]
end
theorem setk {w : World} {g j k : Nat} (h : k ≠ g) (v : Value) : (w.setCell ⟨g, j, none⟩ v).heap[k]? = w.heap[k]? := Below.heap_setCell w ⟨g, j, none⟩ v k h
theorem set_size (w : World) (g j : Nat) (v : Value) : (w.setCell ⟨g, j, none⟩ v).heap.size = w.heap.size := by simp [World.setCell]
/-- What was read so far. -/
structure JS where
  free : Bool
  nx : Nat
  opn : List Tr
  nodes : Nat
  root : Tr
  ended : Bool
/-- A NODE THAT HAS NOT ENDED, the i-th: its keys and kids lie in rows of its own. Blocks with the mark 0 are written to no more. -/
structure OpN (B D : Nat) (lab : Nat → Nat) (w : World) (nb : Nb) (t : Tr) (i : Nat) : Prop where
  fl : nb = ⟨t.kind, 0, false, ⟨#[]⟩, 0, ⟨#[]⟩, none, 0, 0, nb.ak, nb.lk, nb.ck, nb.ai, nb.li, nb.ci⟩
  tf : t = ⟨t.kind, 0, false, ⟨#[]⟩, 0, ⟨#[]⟩, [], t.keys, t.kids⟩
  kd : t.kind = 7 ∨ t.kind = 8
  ks : ∃ bk : List Nb, OwnsN 26 w B (.slice nb.ak nb.lk nb.ck) bk ∧ bk.length = t.keys.length ∧ ∀ j (h : j < bk.length) (h2 : j < t.keys.length), bk[j] = leafN t.keys[j] ∧ Leaf t.keys[j]
  kl : ∀ k, (Value.slice nb.ak nb.lk nb.ck).ownBlock = some k → lab k = 3 + 2 * i
  is : ∃ bi : List Nb, OwnsN 26 w B (.slice nb.ai nb.li nb.ci) bi ∧ bi.length = t.kids.length ∧ ∀ j (h : j < bi.length) (h2 : j < t.kids.length), NdS (fun k => lab k = 0 ∧ B ≤ k ∧ k < w.heap.size) D w bi[j] t.kids[j]
  il : ∀ k, (Value.slice nb.ai nb.li nb.ci).ownBlock = some k → lab k = 4 + 2 * i
/-- A READER IN MEMORY. -/
structure JM (B D : Nat) (lab : Nat → Nat) (w : World) (g : Nat) (s : JS) (nbs : List Nb) (ao : Option Addr) (co : Nat) (r : Nb) : Prop where
  lo : ∀ k, k < B → lab k = 0
  hi : ∀ k, w.heap.size ≤ k → lab k = 0
  gl : lab g = 1
  box : RBox w g s.free s.nx ao nbs.length co s.nodes r s.ended
  opn : OwnsN 26 w B (.slice ao nbs.length co) nbs
  ol : ∀ k, (Value.slice ao nbs.length co).ownBlock = some k → lab k = 2
  len : nbs.length = s.opn.length
  nd : ∀ i (h : i < nbs.length) (h2 : i < s.opn.length), OpN B D lab w nbs[i] s.opn[i] i
  rt : NdS (fun k => lab k = 0 ∧ B ≤ k ∧ k < w.heap.size) D w r s.root
  few : s.opn.length ≤ 5000
/-- The marks with a new block. -/
def mark (lab : Nat → Nat) (v : Value) (L : Nat) : Nat → Nat := fun k => if v.ownBlock = some k then L else lab k
theorem mark_other {lab : Nat → Nat} {v : Value} {L k : Nat} (h : v.ownBlock ≠ some k) : mark lab v L k = lab k := if_neg h
theorem mark_own {lab : Nat → Nat} {v : Value} {L k : Nat} (h : v.ownBlock = some k) : mark lab v L k = L := if_pos h
end Go.Proofs.YtmlacmoembjeoaaGreatDoor
namespace Go.Proofs.YtmlacmoembjeoaaGreatDoor
open Go.RowKit
set_option linter.unusedVariables false
theorem step_append_node {w : World} {ops : Array Oper} {o : Oper} {a : Act} {K : Act → World → Prop} {Q : Exit → Act → World → Prop} {E : Prop} (hgd : o.guard = none) (s x : Operand)
    (ho : o.op = .call { callee := .builtin .append, args := #[s, x], argTypes := #[24, 24] })
    (base : Nat) (v : Value) (ys zs : List Nb) (hs : a.eval s = v) (hown : OwnsN 26 w base v ys)
    (ad : Addr) (m c : Nat) (hx : a.eval x = .slice (some ad) m c) (hm : zs.length = m) (hm0 : 0 < m) (hb : Nine w (some ad) zs)
    (hbytes : ys.length + zs.length ≤ 1000000000) (hbase : base ≤ w.heap.size)
    (h : ∀ v' w', OwnsN 26 w' base v' (ys ++ zs) → w.grownBy w' v.ownBlock → (∀ g, v'.ownBlock = some g → v.ownBlock = some g ∨ w.heap.size ≤ g) → K (a.put o.dst v') w') :
    if Region.wanted o (yielded ops a.tmps) = true then Oper.wp Tryz.prog o a w K Q else E := by
  have hw : Region.wanted o (yielded ops a.tmps) = true := by simp [Region.wanted, hgd]
  rw [if_pos hw]
  subst hm
  obtain ⟨i, hi, hz, hsz, hby⟩ := info_parts infoN
  have hk : Tryz.prog.underlying 24 = some (.slice 26) := Tryz.underlying24
  obtain ⟨v', w', hr, h2, h3, _⟩ := run_append_own_wide (P := Tryz.prog) w base 24 o.type 26 i _ 9 136 hk hi hz hsz hby rfl (by decide) v ys.length _ hown ad zs.length c (Cs zs) (cs_len zs) hb.news (cs_one zs) (by unfold maxLen; omega) (by omega) hbase
  have hnew : ∀ g, v'.ownBlock = some g → v.ownBlock = some g ∨ w.heap.size ≤ g := by
    have hl : (Cs zs).length = zs.length * i.size := by rw [hsz]; exact cs_len zs
    rcases hown.2 with ⟨rfl, hn⟩ | ⟨g, cap, cur, rfl, hbg, hg, hnc, hcm, hcs, htake⟩
    · have hr2 := run_append_nil (P := Tryz.prog) w 24 o.type 26 i _ hk hi hz ad zs.length c (Cs zs) hl hb.news hm0 (by omega) (by rw [hby]; omega)
      have e := ok_inj (hr.symm.trans hr2)
      subst e
      intro g hg
      simp [Value.ownBlock] at hg
      exact .inr (by omega)
    · by_cases hroom : ys.length + zs.length ≤ cap
      · have hr2 := run_append_room (P := Tryz.prog) w 24 o.type 26 i hk hi g ys.length cap cur hg ad zs.length c (Cs zs) hl hb.news (cs_one zs) hroom (by rw [hl, hsz, hcs, ← Nat.add_mul]; exact Nat.mul_le_mul_right _ hroom)
        have e := ok_inj (hr.symm.trans hr2)
        subst e
        intro g' hg'
        exact .inl hg'
      · have hr2 := run_append_grow (P := Tryz.prog) w 24 o.type 26 i _ hk hi hz ⟨g, 0, none⟩ ys.length cap (Cs ys) (by rw [hsz]; exact cs_len ys) (World.ownsRow.cells hown (g := g) rfl) ad zs.length c (Cs zs) hl hb.news (by omega) (by omega) (by rw [hby]; exact growslice_fits_wide (by omega) (by omega))
        have e := ok_inj (hr.symm.trans hr2)
        subst e
        intro g' hg'
        simp [Value.ownBlock] at hg'
        exact .inr (by omega)
  unfold Oper.wp
  simp [execOp, ho, resolve, invoke, builtin, hs, hx, hr, Result.andThen]
  refine h v' w' ?_ h3 hnew
  unfold OwnsN
  rw [List.length_append, cs_app]
  exact h2
/-- What a row is that has a node more. -/
theorem OwnsN.last {w : World} {B : Nat} {v : Value} {bs : List Nb} {z : Nb} (h : OwnsN 26 w B v (bs ++ [z])) : ∃ g cap cur, v = .slice (some ⟨g, 0, none⟩) (bs.length + 1) cap ∧ B ≤ g ∧ w.heap[g]? = some (.cells cur 26 (0, 0)) ∧ bs.length + 1 ≤ cap ∧ cap ≤ 9223372036854775807 ∧ bs.length * 9 + 9 ≤ cur.size ∧ ∀ j, j < 9 → w.cell? ⟨g, bs.length * 9 + j, none⟩ = z.cells[j]? := by
  obtain ⟨h1, h2⟩ := h
  rcases h2 with ⟨_, hn⟩ | ⟨g, cap, cur, hv, hb, hg, hnc, hcm, hcs, htk⟩
  · simp at hn
  · rw [List.length_append, List.length_singleton] at hv hnc
    unfold maxLen at hcm
    refine ⟨g, cap, cur, hv, hb, hg, hnc, hcm, by rw [hcs]; omega, fun j hj => ?_⟩
    have e := cs_get (bs ++ [z]) (i := bs.length) (j := j) (by simp) hj
    rw [List.getElem_append_right (Nat.le_refl _)] at e
    simp only [Nat.sub_self, List.getElem_cons_zero] at e
    rw [cell_row hg, ← e, ← htk, List.getElem?_take, if_pos (by simp; omega), Array.getElem?_toList]
end Go.Proofs.YtmlacmoembjeoaaGreatDoor
namespace Go.Proofs.YtmlacmoembjeoaaGreatDoor
open Go.RowKit
set_option linter.unusedVariables false
set_option maxHeartbeats 1000000 in
set_option maxRecDepth 100000 in
theorem inn_any {w : World} {g go n co : Nat} {free : Bool} {nx : Nat} {nodes : Int} {r : Nb} {ended : Bool} (h : RBox w g free nx (some ⟨go, 0, none⟩) (n + 1) co nodes r ended) (hn : n ≤ 100000) :
    Calls Tryz.prog 68 #[.pointer (some ⟨g, 0, none⟩)] w fun e w' => e = .returned (.pointer (some ⟨go, n * 9, none⟩)) ∧ Below w.heap.size w w' ∧ w'.heap = w.heap := by
  obtain ⟨a0, a1, a2, a3, a4⟩ := h.fields
  have W1 : IntKind.i64.wrap (((n + 1 : Nat) : Int) - 1) = (n : Int) := by rw [IntKind.wrap_i64]; omega
  have z0 : (0 : Int) ≤ (n : Int) := by omega
  have z1 : (n : Int) < ((n + 1 : Nat) : Int) := by omega
  clear h
  generalize n + 1 = m at *
  go_enter Tryz.func68, Tryz.ntmps68
  go_wp2
  go_region
  all_goals go_wp2
  all_goals go_ret
  all_goals exact ⟨rfl, (Below.refl _ _).drew, rfl⟩
end Go.Proofs.YtmlacmoembjeoaaGreatDoor
namespace Go.Proofs.YtmlacmoembjeoaaGreatDoor
open Go.RowKit
set_option linter.unusedVariables false
/-- A node written over the last one of a row. -/
theorem OwnsN.put {w w' : World} {B g cap : Nat} {bs : List Nb} {z x : Nb} (h : OwnsN 26 w B (.slice (some ⟨g, 0, none⟩) (bs.length + 1) cap) (bs ++ [z])) (hw : ∃ cur', w'.heap[g]? = some (.cells cur' 26 (0, 0)) ∧ (∀ cur, w.heap[g]? = some (.cells cur 26 (0, 0)) → cur'.size = cur.size ∧ (∀ j, j < 9 → cur'[bs.length * 9 + j]? = x.cells[j]?) ∧ ∀ i, i < bs.length * 9 → cur'[i]? = cur[i]?)) : OwnsN 26 w' B (.slice (some ⟨g, 0, none⟩) (bs.length + 1) cap) (bs ++ [x]) := by
  obtain ⟨h1, h2⟩ := h
  rcases h2 with ⟨h0, _⟩ | ⟨g', cap', cur, hv, hb, hg, hnc, hcm, hcs, htk⟩
  · cases h0
  · rw [List.length_append, List.length_singleton] at hv hnc htk
    cases hv
    obtain ⟨cur', hg', hc⟩ := hw
    obtain ⟨e1, e2, e3⟩ := hc cur hg
    refine ⟨by rw [cs_len], .inr ⟨g, cap, cur', by rw [List.length_append, List.length_singleton], hb, hg', by rw [List.length_append, List.length_singleton]; exact hnc, hcm, by rw [e1]; exact hcs, ?_⟩⟩
    rw [List.length_append, List.length_singleton]
    have hz : (bs.length + 1) * 9 ≤ cur.size := by rw [hcs]; exact Nat.mul_le_mul_right _ hnc
    have t0 : cur.toList.take (bs.length * 9) = Cs bs := by
      have := congrArg (List.take (bs.length * 9)) htk
      rw [List.take_take, Nat.min_eq_left (by omega), cs_app, List.take_append_of_le_length (by rw [cs_len]; exact Nat.le_refl _)] at this
      rw [this, List.take_of_length_le (by rw [cs_len]; exact Nat.le_refl _)]
    refine List.ext_getElem? fun i => ?_
    rw [cs_app]
    by_cases hi : i < bs.length * 9
    · rw [List.getElem?_take, if_pos (by omega), Array.getElem?_toList, e3 i hi, List.getElem?_append_left (by rw [cs_len]; exact hi), ← t0, List.getElem?_take, if_pos hi, Array.getElem?_toList]
    · by_cases hj : i < bs.length * 9 + 9
      · have e := e2 (i - bs.length * 9) (by omega)
        rw [show bs.length * 9 + (i - bs.length * 9) = i by omega] at e
        rw [List.getElem?_take, if_pos (by omega), Array.getElem?_toList, e, List.getElem?_append_right (by rw [cs_len]; omega), cs_len]
        show _ = (Cs [x])[_]?
        rw [cs_cons, cs_nil, List.append_nil]
      · rw [List.getElem?_eq_none (Nat.le_trans (List.length_take_le _ _) (by omega)), List.getElem?_eq_none (by rw [List.length_append, cs_len, cs_len]; simp; omega)]
/-- Nine cells written in a row: the world behind it. -/
theorem nine9 {w : World} {g o : Nat} {cur : Array Value} (x : Nb) (hg : w.heap[g]? = some (.cells cur 26 (0, 0))) (ho : o + 9 ≤ cur.size) : ∃ cur', (((((((((w.setCell ⟨g, o, none⟩ (.int .i64 x.kind)).setCell ⟨g, o + 1, none⟩ (.int .u64 x.num)).setCell ⟨g, o + 2, none⟩ (.bool x.neg)).setCell ⟨g, o + 3, none⟩ (.string x.dig)).setCell ⟨g, o + 4, none⟩ (.int .i64 x.exp)).setCell ⟨g, o + 5, none⟩ (.string x.txt)).setCell ⟨g, o + 6, none⟩ (.slice x.ab x.lb x.cb)).setCell ⟨g, o + 7, none⟩ (.slice x.ak x.lk x.ck)).setCell ⟨g, o + 8, none⟩ (.slice x.ai x.li x.ci)).heap[g]? = some (.cells cur' 26 (0, 0)) ∧ cur'.size = cur.size ∧ (∀ j, j < 9 → cur'[o + j]? = x.cells[j]?) ∧ (∀ i, (i < o ∨ o + 9 ≤ i) → cur'[i]? = cur[i]?) ∧ ∀ k, k ≠ g → (((((((((w.setCell ⟨g, o, none⟩ (.int .i64 x.kind)).setCell ⟨g, o + 1, none⟩ (.int .u64 x.num)).setCell ⟨g, o + 2, none⟩ (.bool x.neg)).setCell ⟨g, o + 3, none⟩ (.string x.dig)).setCell ⟨g, o + 4, none⟩ (.int .i64 x.exp)).setCell ⟨g, o + 5, none⟩ (.string x.txt)).setCell ⟨g, o + 6, none⟩ (.slice x.ab x.lb x.cb)).setCell ⟨g, o + 7, none⟩ (.slice x.ak x.lk x.ck)).setCell ⟨g, o + 8, none⟩ (.slice x.ai x.li x.ci)).heap[k]? = w.heap[k]? := by
  have e := fun (w : World) (cs : Array Value) (j : Nat) (v : Value) (h : w.heap[g]? = some (.cells cs 26 (0, 0))) => heap_setCell_same w g j cs 26 v h
  have h1 := e _ _ o (.int .i64 x.kind) hg
  have h2 := e _ _ (o + 1) (.int .u64 x.num) h1
  have h3 := e _ _ (o + 2) (.bool x.neg) h2
  have h4 := e _ _ (o + 3) (.string x.dig) h3
  have h5 := e _ _ (o + 4) (.int .i64 x.exp) h4
  have h6 := e _ _ (o + 5) (.string x.txt) h5
  have h7 := e _ _ (o + 6) (.slice x.ab x.lb x.cb) h6
  have h8 := e _ _ (o + 7) (.slice x.ak x.lk x.ck) h7
  have h9 := e _ _ (o + 8) (.slice x.ai x.li x.ci) h8
  refine ⟨_, h9, by simp, fun j hj => ?_, fun i hi => ?_, fun k hk => ?_⟩
  · have : j = 0 ∨ j = 1 ∨ j = 2 ∨ j = 3 ∨ j = 4 ∨ j = 5 ∨ j = 6 ∨ j = 7 ∨ j = 8 := by omega
    rcases this with rfl | rfl | rfl | rfl | rfl | rfl | rfl | rfl | rfl <;> simp [Array.getElem?_setIfInBounds, Nb.cells] <;> omega
  · simp only [Array.getElem?_setIfInBounds]
    repeat rw [if_neg (by omega)]
  · simp only [setk hk]
/-- What a put leaves: the row, the header's cell, all else. -/
structure PutE (B : Nat) (w w' : World) (g gh oh li : Nat) (v0 : Value) (bi : List Nb) (x : Nb) : Prop where
  own : ∃ g4 cap4, OwnsN 26 w' B (.slice (some ⟨g4, 0, none⟩) (li + 1) cap4) (bi ++ [x]) ∧ (v0.ownBlock = some g4 ∨ w.heap.size ≤ g4) ∧ (∀ cs T, w.heap[gh]? = some (.cells cs T (0, 0)) → w'.heap[gh]? = some (.cells (cs.setIfInBounds oh (.slice (some ⟨g4, 0, none⟩) (li + 1) cap4)) T (0, 0)))
  os : w'.os = w.os
  tape : w'.tape = w.tape
  output : w'.output = w.output
  size : w.heap.size ≤ w'.heap.size
  rest : ∀ k, k < w.heap.size → k ≠ gh → v0.ownBlock ≠ some k → w'.heap[k]? = w.heap[k]?
theorem putE_of {B : Nat} {w wb w4 : World} {g gh oh li g4 cap4 : Nat} {v0 : Value} {bi : List Nb} {x z : Nb} (hb : Below w.heap.size w wb) (hl : bi.length = li) (hgh : gh < w.heap.size) (hv0 : v0.ownBlock ≠ some gh) (hO : OwnsN 26 w B v0 bi)
    (ho : OwnsN 26 w4 B (.slice (some ⟨g4, 0, none⟩) (li + 1) cap4) (bi ++ [z])) (hg : wb.grownBy w4 v0.ownBlock) (hn : v0.ownBlock = some g4 ∨ wb.heap.size ≤ g4) :
    PutE B w ((((((((((w4.setCell ⟨g4, li * 9, none⟩ (.int .i64 x.kind)).setCell ⟨g4, li * 9 + 1, none⟩ (.int .u64 x.num)).setCell ⟨g4, li * 9 + 2, none⟩ (.bool x.neg)).setCell ⟨g4, li * 9 + 3, none⟩ (.string x.dig)).setCell ⟨g4, li * 9 + 4, none⟩ (.int .i64 x.exp)).setCell ⟨g4, li * 9 + 5, none⟩ (.string x.txt)).setCell ⟨g4, li * 9 + 6, none⟩ (.slice x.ab x.lb x.cb)).setCell ⟨g4, li * 9 + 7, none⟩ (.slice x.ak x.lk x.ck)).setCell ⟨g4, li * 9 + 8, none⟩ (.slice x.ai x.li x.ci)).setCell ⟨gh, oh, none⟩ (.slice (some ⟨g4, 0, none⟩) (li + 1) cap4)) g gh oh li v0 bi x := by
  subst hl
  have hne : g4 ≠ gh := by
    rcases hn with h | h
    · intro e; exact hv0 (e ▸ h)
    · have := hb.size; omega
  obtain ⟨g', cap', cur, hv, hB, hc, h1, h2, h3, h4⟩ := ho.last
  cases hv
  obtain ⟨cur', e1, e2, e3, e4, e5⟩ := nine9 (w := w4) (g := g4) (o := bi.length * 9) (cur := cur) x hc h3
  have hv4 : ∀ k, k < w.heap.size → v0.ownBlock ≠ some k → k ≠ g4 ∧ w4.heap[k]? = w.heap[k]? := fun k hk hv => by
    have hk4 : k ≠ g4 := fun e => by
      rcases hn with h | h
      · exact hv (e ▸ h)
      · have := hb.size; omega
    exact ⟨hk4, by rw [hg.block k (Nat.lt_of_lt_of_le hk hb.size) (fun e => hv e.symm), hb.block k hk]⟩
  generalize hW5 : (((((((((w4.setCell ⟨g4, bi.length * 9, none⟩ (.int .i64 x.kind)).setCell ⟨g4, bi.length * 9 + 1, none⟩ (.int .u64 x.num)).setCell ⟨g4, bi.length * 9 + 2, none⟩ (.bool x.neg)).setCell ⟨g4, bi.length * 9 + 3, none⟩ (.string x.dig)).setCell ⟨g4, bi.length * 9 + 4, none⟩ (.int .i64 x.exp)).setCell ⟨g4, bi.length * 9 + 5, none⟩ (.string x.txt)).setCell ⟨g4, bi.length * 9 + 6, none⟩ (.slice x.ab x.lb x.cb)).setCell ⟨g4, bi.length * 9 + 7, none⟩ (.slice x.ak x.lk x.ck)).setCell ⟨g4, bi.length * 9 + 8, none⟩ (.slice x.ai x.li x.ci)) = w5 at *
  have hos : w5.os = w4.os ∧ w5.tape = w4.tape ∧ w5.output = w4.output ∧ w5.heap.size = w4.heap.size := by rw [← hW5]; simp [World.setCell]
  refine ⟨⟨g4, cap4, ?_, ?_, fun cs T hcs => ?_⟩, ?_, ?_, ?_, ?_, fun k hk hkh hkv => ?_⟩
  · refine ho.put (x := x) ⟨cur', ?_, fun c hc' => ?_⟩
    · rw [setk hne]; exact e1
    · rw [hc] at hc'; cases hc'; exact ⟨e2, e3, fun i hi => e4 i (.inl hi)⟩
  · rcases hn with h | h
    · exact .inl h
    · exact .inr (Nat.le_trans hb.size h)
  · have := hv4 gh hgh hv0
    exact heap_setCell_same w5 gh oh cs T _ (by rw [e5 gh (Ne.symm hne), this.2]; exact hcs)
  · exact hos.1.trans (hg.os.trans hb.os)
  · exact hos.2.1.trans (hg.tape.trans hb.tape)
  · exact hos.2.2.1.trans (hg.output.trans hb.output)
  · rw [set_size, hos.2.2.2]; exact Nat.le_trans hb.size hg.size
  · have := hv4 k hk hkv
    rw [setk hkh, e5 k this.1, this.2]
theorem putE_of2 {B : Nat} {w wb w4 : World} {g gh oh li g4 cap4 : Nat} {v0 : Value} {bi : List Nb} {x z : Nb} (hb : Below w.heap.size w wb) (hl : bi.length = li) (hgh : gh < w.heap.size) (hv0 : v0.ownBlock ≠ some gh) (hO : OwnsN 26 w B v0 bi)
    (ho : OwnsN 26 w4 B (.slice (some ⟨g4, 0, none⟩) (li + 1) cap4) (bi ++ [z])) (hg : wb.grownBy w4 v0.ownBlock) (hn : v0.ownBlock = some g4 ∨ wb.heap.size ≤ g4) :
    PutE B w ((((((((((w4.setCell ⟨gh, oh, none⟩ (.slice (some ⟨g4, 0, none⟩) (li + 1) cap4)).setCell ⟨g4, li * 9, none⟩ (.int .i64 x.kind)).setCell ⟨g4, li * 9 + 1, none⟩ (.int .u64 x.num)).setCell ⟨g4, li * 9 + 2, none⟩ (.bool x.neg)).setCell ⟨g4, li * 9 + 3, none⟩ (.string x.dig)).setCell ⟨g4, li * 9 + 4, none⟩ (.int .i64 x.exp)).setCell ⟨g4, li * 9 + 5, none⟩ (.string x.txt)).setCell ⟨g4, li * 9 + 6, none⟩ (.slice x.ab x.lb x.cb)).setCell ⟨g4, li * 9 + 7, none⟩ (.slice x.ak x.lk x.ck)).setCell ⟨g4, li * 9 + 8, none⟩ (.slice x.ai x.li x.ci)) g gh oh li v0 bi x := by
  subst hl
  have hne : g4 ≠ gh := by
    rcases hn with h | h
    · intro e; exact hv0 (e ▸ h)
    · have := hb.size; omega
  obtain ⟨g', cap', cur, hv, hB, hc, h1, h2, h3, h4⟩ := ho.last
  cases hv
  have hc5 : (w4.setCell ⟨gh, oh, none⟩ (.slice (some ⟨g4, 0, none⟩) (bi.length + 1) cap4)).heap[g4]? = some (.cells cur 26 (0, 0)) := (setk hne _).trans hc
  obtain ⟨cur', e1, e2, e3, e4, e5⟩ := nine9 (w := w4.setCell ⟨gh, oh, none⟩ (.slice (some ⟨g4, 0, none⟩) (bi.length + 1) cap4)) (g := g4) (o := bi.length * 9) (cur := cur) x hc5 h3
  have hv4 : ∀ k, k < w.heap.size → v0.ownBlock ≠ some k → k ≠ g4 ∧ w4.heap[k]? = w.heap[k]? := fun k hk hv => by
    have hk4 : k ≠ g4 := fun e => by
      rcases hn with h | h
      · exact hv (e ▸ h)
      · have := hb.size; omega
    exact ⟨hk4, by rw [hg.block k (Nat.lt_of_lt_of_le hk hb.size) (fun e => hv e.symm), hb.block k hk]⟩
  have hos : ((((((((((w4.setCell ⟨gh, oh, none⟩ (.slice (some ⟨g4, 0, none⟩) (bi.length + 1) cap4)).setCell ⟨g4, bi.length * 9, none⟩ (.int .i64 x.kind)).setCell ⟨g4, bi.length * 9 + 1, none⟩ (.int .u64 x.num)).setCell ⟨g4, bi.length * 9 + 2, none⟩ (.bool x.neg)).setCell ⟨g4, bi.length * 9 + 3, none⟩ (.string x.dig)).setCell ⟨g4, bi.length * 9 + 4, none⟩ (.int .i64 x.exp)).setCell ⟨g4, bi.length * 9 + 5, none⟩ (.string x.txt)).setCell ⟨g4, bi.length * 9 + 6, none⟩ (.slice x.ab x.lb x.cb)).setCell ⟨g4, bi.length * 9 + 7, none⟩ (.slice x.ak x.lk x.ck)).setCell ⟨g4, bi.length * 9 + 8, none⟩ (.slice x.ai x.li x.ci)).os = w4.os ∧ ((((((((((w4.setCell ⟨gh, oh, none⟩ (.slice (some ⟨g4, 0, none⟩) (bi.length + 1) cap4)).setCell ⟨g4, bi.length * 9, none⟩ (.int .i64 x.kind)).setCell ⟨g4, bi.length * 9 + 1, none⟩ (.int .u64 x.num)).setCell ⟨g4, bi.length * 9 + 2, none⟩ (.bool x.neg)).setCell ⟨g4, bi.length * 9 + 3, none⟩ (.string x.dig)).setCell ⟨g4, bi.length * 9 + 4, none⟩ (.int .i64 x.exp)).setCell ⟨g4, bi.length * 9 + 5, none⟩ (.string x.txt)).setCell ⟨g4, bi.length * 9 + 6, none⟩ (.slice x.ab x.lb x.cb)).setCell ⟨g4, bi.length * 9 + 7, none⟩ (.slice x.ak x.lk x.ck)).setCell ⟨g4, bi.length * 9 + 8, none⟩ (.slice x.ai x.li x.ci)).tape = w4.tape ∧ ((((((((((w4.setCell ⟨gh, oh, none⟩ (.slice (some ⟨g4, 0, none⟩) (bi.length + 1) cap4)).setCell ⟨g4, bi.length * 9, none⟩ (.int .i64 x.kind)).setCell ⟨g4, bi.length * 9 + 1, none⟩ (.int .u64 x.num)).setCell ⟨g4, bi.length * 9 + 2, none⟩ (.bool x.neg)).setCell ⟨g4, bi.length * 9 + 3, none⟩ (.string x.dig)).setCell ⟨g4, bi.length * 9 + 4, none⟩ (.int .i64 x.exp)).setCell ⟨g4, bi.length * 9 + 5, none⟩ (.string x.txt)).setCell ⟨g4, bi.length * 9 + 6, none⟩ (.slice x.ab x.lb x.cb)).setCell ⟨g4, bi.length * 9 + 7, none⟩ (.slice x.ak x.lk x.ck)).setCell ⟨g4, bi.length * 9 + 8, none⟩ (.slice x.ai x.li x.ci)).output = w4.output ∧ ((((((((((w4.setCell ⟨gh, oh, none⟩ (.slice (some ⟨g4, 0, none⟩) (bi.length + 1) cap4)).setCell ⟨g4, bi.length * 9, none⟩ (.int .i64 x.kind)).setCell ⟨g4, bi.length * 9 + 1, none⟩ (.int .u64 x.num)).setCell ⟨g4, bi.length * 9 + 2, none⟩ (.bool x.neg)).setCell ⟨g4, bi.length * 9 + 3, none⟩ (.string x.dig)).setCell ⟨g4, bi.length * 9 + 4, none⟩ (.int .i64 x.exp)).setCell ⟨g4, bi.length * 9 + 5, none⟩ (.string x.txt)).setCell ⟨g4, bi.length * 9 + 6, none⟩ (.slice x.ab x.lb x.cb)).setCell ⟨g4, bi.length * 9 + 7, none⟩ (.slice x.ak x.lk x.ck)).setCell ⟨g4, bi.length * 9 + 8, none⟩ (.slice x.ai x.li x.ci)).heap.size = w4.heap.size := by simp [World.setCell]
  refine ⟨⟨g4, cap4, ?_, ?_, fun cs T hcs => ?_⟩, hos.1.trans (hg.os.trans hb.os), hos.2.1.trans (hg.tape.trans hb.tape), hos.2.2.1.trans (hg.output.trans hb.output), ?_, fun k hk hkh hkv => ?_⟩
  · refine ho.put (x := x) ⟨cur', e1, fun c hc' => ?_⟩
    rw [hc] at hc'; cases hc'; exact ⟨e2, e3, fun i hi => e4 i (.inl hi)⟩
  · rcases hn with h | h
    · exact .inl h
    · exact .inr (Nat.le_trans hb.size h)
  · have := hv4 gh hgh hv0
    rw [e5 gh (Ne.symm hne)]
    exact heap_setCell_same w4 gh oh cs T _ (this.2.trans hcs)
  · rw [hos.2.2.2]; exact Nat.le_trans hb.size hg.size
  · have := hv4 k hk hkv
    rw [e5 k this.1, setk hkh, this.2]
end Go.Proofs.YtmlacmoembjeoaaGreatDoor
