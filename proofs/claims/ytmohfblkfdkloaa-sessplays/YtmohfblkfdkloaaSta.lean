/-
  The document's table in memory; rows that are built anew.
-/
import Derived.Test.YtmohfblkfdkloaaSsp
import Derived.Test.YtmohfblkfdkloaaSsr
import Derived.Deep.RegionLaw
namespace Go.Proofs.Ytmohfblkfdkloaa
open Go.RowKit
set_option linter.unusedVariables false
/-- THE SLICE v HOLDS THESE SESSIONS OF THE DOCUMENT's, IN NEW MEMORY. -/
def OwnsX (w : World) (base : Nat) (v : Value) (L : List Se) : Prop := w.ownsRow base 72 4 v L.length (sCs L)
def wCs (L : List Int) : List Value := L.map (Value.int .u64)
theorem wCs_len (L : List Int) : (wCs L).length = L.length * 1 := by simp [wCs]
theorem wCs_app (L M : List Int) : wCs (L ++ M) = wCs L ++ wCs M := by simp [wCs]
theorem sCs_app (L M : List Se) : sCs (L ++ M) = sCs L ++ sCs M := by simp [sCs]
theorem ownsX_nil (w : World) (base : Nat) : OwnsX w base (.slice none 0 0) [] := World.ownsRow_nil w base 72 4
theorem infoX : (Try.prog.info? 72).map (fun i => (i.zero, i.size, i.bytes)) = some (some (.agg #[.int .u64 0, .int .i64 0, .int .i64 0, .int .i64 0]), 4, 32) := by kernel_rfl
def SrcX (w : World) (a : Option Addr) (m c : Nat) (M : List Se) : Prop := M.length = m ∧ ((m = 0 ∧ a = none ∧ c = 0) ∨ ∃ ad, a = some ad ∧ ∀ j u, (sCs M)[j]? = some u → w.cell? (ad.add j) = some u)
def SrcW (w : World) (a : Option Addr) (m c : Nat) (M : List Int) : Prop := M.length = m ∧ ((m = 0 ∧ a = none ∧ c = 0) ∨ ∃ ad, a = some ad ∧ ∀ j u, (wCs M)[j]? = some u → w.cell? (ad.add j) = some u)
theorem one_x (M : List Se) : ∀ u ∈ sCs M, u.oneCell' = true := by
  intro u hu
  unfold sCs at hu
  obtain ⟨l, hl, hu⟩ := List.mem_flatten.1 hu
  obtain ⟨s, _, rfl⟩ := List.mem_map.1 hl
  simp [Se.cs] at hu
  rcases hu with rfl | rfl | rfl | rfl <;> rfl
theorem one_w (M : List Int) : ∀ u ∈ wCs M, u.oneCell' = true := by
  intro u hu
  obtain ⟨z, _, rfl⟩ := List.mem_map.1 hu
  rfl

theorem run_app_x {w : World} (ty : TypeId) (base : Nat) (v : Value) (L M : List Se) (hown : OwnsX w base v L) (a2 : Option Addr) (m c : Nat) (hs : SrcX w a2 m c M) (hlen : L.length + M.length ≤ 1000000000000) (hbase : base ≤ w.heap.size) :
    ∃ v' w', (Builtin.append_ #[27, 27] ty #[v, .slice a2 m c]).run Try.prog w = .ok v' w' ∧ OwnsX w' base v' (L ++ M) ∧ w.grownBy w' v.ownBlock := by
  obtain ⟨i, hi, hz, hsz, hby⟩ := info_parts infoX
  obtain ⟨hm, h | ⟨ad, rfl, hc⟩⟩ := hs
  · obtain ⟨rfl, rfl, rfl⟩ := h
    have hM : M = [] := List.eq_nil_of_length_eq_zero hm
    subst hM
    have hrun := run_append_owned_none (P := Try.prog) (w := w) base 27 ty 72 i 4 Try.underlying27 hi v L.length _ hown
    exact ⟨v, w, hrun, by rw [List.append_nil]; exact hown, World.grownBy.refl _ _⟩
  · obtain ⟨v', w', e, h2, h3, _⟩ := run_append_own_wide (P := Try.prog) w base 27 ty 72 i _ 4 32 Try.underlying27 hi hz hsz hby rfl (by decide) v L.length _ hown ad m c (sCs M) (by rw [sCs_len, hm]) hc (one_x M) (by unfold maxLen; omega) (by omega) hbase
    refine ⟨v', w', e, ?_, h3⟩
    show World.ownsRow w' base 72 4 v' (L ++ M).length (sCs (L ++ M))
    rw [List.length_append, sCs_app, hm]
    exact h2
theorem step_app_x {w : World} {ops : Array Oper} {o : Oper} {a : Act} {K : Act → World → Prop} {Q : Exit → Act → World → Prop} {E : Prop} (hgd : o.guard = none) (s x : Operand)
    (ho : o.op = .call { callee := .builtin .append, args := #[s, x], argTypes := #[27, 27] }) (base : Nat) (v : Value) (L M : List Se) (hs : a.eval s = v) (a2 : Option Addr) (m c : Nat) (hx : a.eval x = .slice a2 m c) (hown : OwnsX w base v L) (hsr : SrcX w a2 m c M) (hlen : L.length + M.length ≤ 1000000000000) (hbase : base ≤ w.heap.size)
    (h : ∀ v' w', OwnsX w' base v' (L ++ M) → w.grownBy w' v.ownBlock → K (a.put o.dst v') w') :
    if Region.wanted o (yielded ops a.tmps) = true then Oper.wp Try.prog o a w K Q else E := by
  obtain ⟨v', w', hr, h1, h2⟩ := run_app_x o.type base v L M hown a2 m c hsr hlen hbase
  exact step_append_run hgd s x 27 ho v _ hs hx hr (h v' w' h1 h2)
theorem wpList_app_x {w : World} {ops : Array Oper} {rest : List Oper} {o : Oper} {a : Act} {Q : Exit → Act → World → Prop} (hgd : o.guard = none) (s x : Operand)
    (ho : o.op = .call { callee := .builtin .append, args := #[s, x], argTypes := #[27, 27] }) (base : Nat) (v : Value) (L M : List Se) (hs : a.eval s = v) (a2 : Option Addr) (m c : Nat) (hx : a.eval x = .slice a2 m c) (hown : OwnsX w base v L) (hsr : SrcX w a2 m c M) (hlen : L.length + M.length ≤ 1000000000000) (hbase : base ≤ w.heap.size)
    (h : ∀ v' w', OwnsX w' base v' (L ++ M) → w.grownBy w' v.ownBlock → wpList Try.prog ops Q rest (a.put o.dst v') w') : wpList Try.prog ops Q (o :: rest) a w := by
  obtain ⟨v', w', hr, h1, h2⟩ := run_app_x o.type base v L M hown a2 m c hsr hlen hbase
  refine wpList_plain hgd fun _ hK => ?_
  unfold Oper.wp execOp
  simp only [ho, resolve, invoke, builtin, Sem.run_bind, Sem.run_pure, Result.andThen_ok, List.map_toArray, List.map_cons, List.map_nil, hs, hx, hr]
  exact hK _ _ (h v' w' h1 h2)

theorem run_app_w {w : World} (ty : TypeId) (base : Nat) (v : Value) (L M : List Int) (hown : OwnsW w base v L) (a2 : Option Addr) (m c : Nat) (hs : SrcW w a2 m c M) (hlen : L.length + M.length ≤ 10000000000000) (hbase : base ≤ w.heap.size) :
    ∃ v' w', (Builtin.append_ #[28, 28] ty #[v, .slice a2 m c]).run Try.prog w = .ok v' w' ∧ OwnsW w' base v' (L ++ M) ∧ w.grownBy w' v.ownBlock := by
  obtain ⟨i, hi, hz, hsz, hby⟩ := info_parts infoW
  obtain ⟨hm, h | ⟨ad, rfl, hc⟩⟩ := hs
  · obtain ⟨rfl, rfl, rfl⟩ := h
    have hM : M = [] := List.eq_nil_of_length_eq_zero hm
    subst hM
    have hrun := run_append_owned_none (P := Try.prog) (w := w) base 28 ty 34 i 1 Try.underlying28 hi v L.length _ hown
    exact ⟨v, w, hrun, by rw [List.append_nil]; exact hown, World.grownBy.refl _ _⟩
  · obtain ⟨v', w', e, h2, h3, _⟩ := run_append_own_wide (P := Try.prog) w base 28 ty 34 i _ 1 8 Try.underlying28 hi hz hsz hby rfl (by decide) v L.length _ hown ad m c (wCs M) (by rw [wCs_len, hm]) hc (one_w M) (by unfold maxLen; omega) (by omega) hbase
    refine ⟨v', w', e, ?_, h3⟩
    show World.ownsRow w' base 34 1 v' (L ++ M).length (wCs (L ++ M))
    rw [List.length_append, wCs_app, hm]
    exact h2
theorem step_app_w {w : World} {ops : Array Oper} {o : Oper} {a : Act} {K : Act → World → Prop} {Q : Exit → Act → World → Prop} {E : Prop} (hgd : o.guard = none) (s x : Operand)
    (ho : o.op = .call { callee := .builtin .append, args := #[s, x], argTypes := #[28, 28] }) (base : Nat) (v : Value) (L M : List Int) (hs : a.eval s = v) (a2 : Option Addr) (m c : Nat) (hx : a.eval x = .slice a2 m c) (hown : OwnsW w base v L) (hsr : SrcW w a2 m c M) (hlen : L.length + M.length ≤ 10000000000000) (hbase : base ≤ w.heap.size)
    (h : ∀ v' w', OwnsW w' base v' (L ++ M) → w.grownBy w' v.ownBlock → K (a.put o.dst v') w') :
    if Region.wanted o (yielded ops a.tmps) = true then Oper.wp Try.prog o a w K Q else E := by
  obtain ⟨v', w', hr, h1, h2⟩ := run_app_w o.type base v L M hown a2 m c hsr hlen hbase
  exact step_append_run hgd s x 28 ho v _ hs hx hr (h v' w' h1 h2)
theorem wpList_app_w {w : World} {ops : Array Oper} {rest : List Oper} {o : Oper} {a : Act} {Q : Exit → Act → World → Prop} (hgd : o.guard = none) (s x : Operand)
    (ho : o.op = .call { callee := .builtin .append, args := #[s, x], argTypes := #[28, 28] }) (base : Nat) (v : Value) (L M : List Int) (hs : a.eval s = v) (a2 : Option Addr) (m c : Nat) (hx : a.eval x = .slice a2 m c) (hown : OwnsW w base v L) (hsr : SrcW w a2 m c M) (hlen : L.length + M.length ≤ 10000000000000) (hbase : base ≤ w.heap.size)
    (h : ∀ v' w', OwnsW w' base v' (L ++ M) → w.grownBy w' v.ownBlock → wpList Try.prog ops Q rest (a.put o.dst v') w') : wpList Try.prog ops Q (o :: rest) a w := by
  obtain ⟨v', w', hr, h1, h2⟩ := run_app_w o.type base v L M hown a2 m c hsr hlen hbase
  refine wpList_plain hgd fun _ hK => ?_
  unfold Oper.wp execOp
  simp only [ho, resolve, invoke, builtin, Sem.run_bind, Sem.run_pure, Result.andThen_ok, List.map_toArray, List.map_cons, List.map_nil, hs, hx, hr]
  exact hK _ _ (h v' w' h1 h2)

theorem srcX_one {w : World} {g : Nat} {s : Se} (hb : ∀ j, j < 4 → w.cell? ⟨g, j, none⟩ = s.cs[j]?) : SrcX w (some ⟨g, 0, none⟩) 1 1 [s] := by
  refine ⟨rfl, .inr ⟨_, rfl, fun j u hu => ?_⟩⟩
  have e : sCs [s] = s.cs := by simp [sCs]
  rw [e] at hu
  have hj : j < 4 := (List.getElem?_eq_some_iff.1 hu).1
  rw [addr_add0, hb j hj]; exact hu
theorem srcW_one {w : World} {g : Nat} {z : Int} (hb : w.cell? ⟨g, 0, none⟩ = some (.int .u64 z)) : SrcW w (some ⟨g, 0, none⟩) 1 1 [z] := by
  refine ⟨rfl, .inr ⟨_, rfl, fun j u hu => ?_⟩⟩
  have hj : j = 0 := by have := (List.getElem?_eq_some_iff.1 hu).1; simp [wCs] at this; omega
  subst hj
  rw [addr_add0, hb]; exact hu
/-- THE DOCUMENT's TABLE IN MEMORY: its block rb, its sessions' slice v, its list u of tokens used, all of blocks of E. -/
structure RTab (w : World) (E : Nat → Prop) (rb : Nat) (v u : Value) (R : Tb) (us : List Int) : Prop where
  blk : Blk w rb #[.int .i64 R.most, .int .i64 R.idle, .int .i64 R.time, v, u] 30
  row : w.ownsRow 0 72 4 v R.L.length (sCs R.L)
  urow : w.ownsRow 0 34 1 u us.length (wCs us)
  ov : ∀ g, v.ownBlock = some g → E g
  ou : ∀ g, u.ownBlock = some g → E g
  er : E rb
  mem : ∀ z, R.U z = true ↔ z ∈ us
  cnt : us.length = R.n
section
variable {w : World} {E : Nat → Prop} {rb : Nat} {v u : Value} {R : Tb} {us : List Int}
theorem RTab.keep {w' : World} (h : RTab w E rb v u R us) (hb : ∀ k, k < w.heap.size → E k → w'.heap[k]? = w.heap[k]?) : RTab w' E rb v u R us :=
  ⟨(hb rb h.blk.lt h.er).trans h.blk, ownsRow_keep h.row fun b cur _ h1 h2 => hb b (Array.getElem?_eq_some_iff.1 h2).1 (h.ov b h1), ownsRow_keep h.urow fun b cur _ h1 h2 => hb b (Array.getElem?_eq_some_iff.1 h2).1 (h.ou b h1), h.ov, h.ou, h.er, h.mem, h.cnt⟩
theorem RTab.kept {w' : World} (h : RTab w E rb v u R us) (hb : Below w.heap.size w w') : RTab w' E rb v u R us := h.keep fun k hk _ => hb.block k hk
theorem RTab.to {D : Nat → Prop} (h : RTab w E rb v u R us) (hd : ∀ k, k < w.heap.size → E k → D k) : RTab w D rb v u R us :=
  ⟨h.blk, h.row, h.urow, fun g hg => hd g (ownsRow_lt h.row g hg).2.1 (h.ov g hg), fun g hg => hd g (ownsRow_lt h.urow g hg).2.1 (h.ou g hg), hd rb h.blk.lt h.er, h.mem, h.cnt⟩
theorem RTab.c0 (h : RTab w E rb v u R us) : w.cell? ⟨rb, 0, none⟩ = some (.int .i64 R.most) := h.blk.cell 0
theorem RTab.c1 (h : RTab w E rb v u R us) : w.cell? ⟨rb, 1, none⟩ = some (.int .i64 R.idle) := h.blk.cell 1
theorem RTab.c2 (h : RTab w E rb v u R us) : w.cell? ⟨rb, 2, none⟩ = some (.int .i64 R.time) := h.blk.cell 2
theorem RTab.c3 (h : RTab w E rb v u R us) : w.cell? ⟨rb, 3, none⟩ = some v := h.blk.cell 3
theorem RTab.c4 (h : RTab w E rb v u R us) : w.cell? ⟨rb, 4, none⟩ = some u := h.blk.cell 4
theorem RTab.form (h : RTab w E rb v u R us) : ∃ a c, v = .slice a R.L.length c ∧ R.L.length ≤ c ∧ c ≤ 9223372036854775807 ∧ (a = none → c = 0) := ownsRow_form h.row
theorem RTab.uform (h : RTab w E rb v u R us) : ∃ a c, u = .slice a us.length c ∧ us.length ≤ c ∧ c ≤ 9223372036854775807 ∧ (a = none → c = 0) := ownsRow_form h.urow
/-- A session's cells. -/
theorem RTab.cells (h : RTab w E rb v u R us) {i : Nat} {s : Se} (hi : R.L[i]? = some s) :
    ∃ g c, v = .slice (some ⟨g, 0, none⟩) R.L.length c ∧ g < w.heap.size ∧ E g ∧ g ≠ rb ∧ (∀ j, w.frozen? ⟨g, j, none⟩ = false) ∧ ∀ j, j < 4 → w.cell? ⟨g, i * 4 + j, none⟩ = s.cs[j]? := by
  have hlt : i < R.L.length := (List.getElem?_eq_some_iff.1 hi).1
  rcases h.row.2 with ⟨hv, hn⟩ | ⟨g, cap, cur, hv, hg, hc, hnc, hcm, hcs, htk⟩
  · omega
  · refine ⟨g, cap, hv, (Array.getElem?_eq_some_iff.1 hc).1, h.ov g (by rw [hv]; rfl), (fun e => ?_), (fun j => Blk.fz (cs := cur) (T := 72) hc j), fun j hj => ?_⟩
    · have e1 := h.blk
      unfold Blk at e1
      rw [← e, hc] at e1
      injection e1 with e1
      injection e1 with _ e1
      exact absurd e1 (by decide)
    · rw [cell_row hc, ← Array.getElem?_toList]
      have h1 : (cur.toList.take (R.L.length * 4))[i * 4 + j]? = (sCs R.L)[i * 4 + j]? := by rw [htk]
      rw [List.getElem?_take, if_pos (by omega)] at h1
      rw [h1, sCs_at hi hj]
theorem RTab.ucell (h : RTab w E rb v u R us) {i : Nat} {z : Int} (hi : us[i]? = some z) : ∃ g c, u = .slice (some ⟨g, 0, none⟩) us.length c ∧ g < w.heap.size ∧ w.cell? ⟨g, i, none⟩ = some (.int .u64 z) := by
  have hlt : i < us.length := (List.getElem?_eq_some_iff.1 hi).1
  rcases h.urow.2 with ⟨hv, hn⟩ | ⟨g, cap, cur, hv, hg, hc, hnc, hcm, hcs, htk⟩
  · omega
  · refine ⟨g, cap, hv, (Array.getElem?_eq_some_iff.1 hc).1, ?_⟩
    rw [cell_row hc, ← Array.getElem?_toList]
    have h1 : (cur.toList.take (us.length * 1))[i]? = (wCs us)[i]? := by rw [htk]
    rw [List.getElem?_take, if_pos (by omega)] at h1
    rw [h1]
    unfold wCs
    rw [List.getElem?_map, hi]
    rfl
/-- The rows as sources of an append. -/
theorem RTab.src (h : RTab w E rb v u R us) {a : Option Addr} {n c : Nat} (hv : v = .slice a n c) : SrcX w a n c R.L := by
  rcases h.row.2 with ⟨e, hn⟩ | ⟨g, cap, cur, e, hg, hc, hnc, hcm, hcs, htk⟩
  · rw [hv] at e
    cases e
    exact ⟨hn, .inl ⟨rfl, rfl, rfl⟩⟩
  · rw [hv] at e
    cases e
    refine ⟨rfl, .inr ⟨_, rfl, fun j x hx => ?_⟩⟩
    have hj := (List.getElem?_eq_some_iff.1 hx).1
    rw [sCs_len] at hj
    rw [addr_add0, cell_row hc, ← Array.getElem?_toList]
    rw [← htk, List.getElem?_take, if_pos hj] at hx
    exact hx
theorem RTab.usrc (h : RTab w E rb v u R us) {a : Option Addr} {n c : Nat} (hv : u = .slice a n c) : SrcW w a n c us := by
  rcases h.urow.2 with ⟨e, hn⟩ | ⟨g, cap, cur, e, hg, hc, hnc, hcm, hcs, htk⟩
  · rw [hv] at e
    cases e
    exact ⟨hn, .inl ⟨rfl, rfl, rfl⟩⟩
  · rw [hv] at e
    cases e
    refine ⟨rfl, .inr ⟨_, rfl, fun j x hx => ?_⟩⟩
    have hj := (List.getElem?_eq_some_iff.1 hx).1
    rw [wCs_len] at hj
    rw [addr_add0, cell_row hc, ← Array.getElem?_toList]
    rw [← htk, List.getElem?_take, if_pos hj] at hx
    exact hx
end
theorem SrcX.kept {w w' : World} {a : Option Addr} {m c : Nat} {M : List Se} (h : SrcX w a m c M) (hb : Below w.heap.size w w') : SrcX w' a m c M := by
  obtain ⟨h1, h2 | ⟨ad, rfl, h2⟩⟩ := h
  · exact ⟨h1, .inl h2⟩
  · refine ⟨h1, .inr ⟨ad, rfl, fun j u hu => ?_⟩⟩
    have := h2 j u hu
    rw [hb.cell (p := ad.add j) (cell_lt this)]
    exact this
theorem SrcW.kept {w w' : World} {a : Option Addr} {m c : Nat} {M : List Int} (h : SrcW w a m c M) (hb : Below w.heap.size w w') : SrcW w' a m c M := by
  obtain ⟨h1, h2 | ⟨ad, rfl, h2⟩⟩ := h
  · exact ⟨h1, .inl h2⟩
  · refine ⟨h1, .inr ⟨ad, rfl, fun j u hu => ?_⟩⟩
    have := h2 j u hu
    rw [hb.cell (p := ad.add j) (cell_lt this)]
    exact this
end Go.Proofs.Ytmohfblkfdkloaa
