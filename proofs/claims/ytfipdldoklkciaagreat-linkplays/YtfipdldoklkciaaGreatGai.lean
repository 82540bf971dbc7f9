/-
  Texts Lre, Lrf, Rca, Rcb, Rcc, Rcd.
-/
import Derived.Test.YtfipdldoklkciaaGreatGah
import Derived.Laws.AppendOwnNone
import Derived.Deep.DeepAppendWide
import Derived.Deep.RegionHeld3
import Derived.Test.YtfipdldoklkciaaGreatGag
import Derived.Deep.QuietTactic
import Derived.BigQuiet
import Derived.Lib.ConvBytes
import Derived.Lib.EndianBits
namespace Go.Proofs.YtfipdldoklkciaaGreat
open Go.RowKit
set_option linter.unusedVariables false
def OwnsD (w : World) (base : Nat) (v : Value) (L : List De) : Prop := w.ownsRow base 147 4 v L.length (dCs L)
theorem ownsD_nil (w : World) (base : Nat) : OwnsD w base (.slice none 0 0) [] := World.ownsRow_nil w base 147 4
theorem infoD : (Tryz.prog.info? 147).map (fun i => (i.zero, i.size, i.bytes)) = some (some (.agg #[.slice none 0 0, .bool false, .int .i64 0, .int .i64 0]), 4, 48) := by kernel_rfl
def SrcD (w : World) (a : Option Addr) (m c : Nat) (M : List De) : Prop := M.length = m ∧ ((m = 0 ∧ a = none ∧ c = 0) ∨ ∃ ad, a = some ad ∧ ∀ j u, (dCs M)[j]? = some u → w.cell? (ad.add j) = some u)
theorem one_d (M : List De) : ∀ u ∈ dCs M, u.oneCell' = true := by
  intro u hu
  unfold dCs at hu
  obtain ⟨l, hl, hu⟩ := List.mem_flatten.1 hu
  obtain ⟨s, _, rfl⟩ := List.mem_map.1 hl
  simp [De.cs] at hu
  rcases hu with rfl | rfl | rfl | rfl <;> rfl
theorem info_parts' {t : TypeId} {z : Value} {s b : Nat} (h : (Tryz.prog.info? t).map (fun i => (i.zero, i.size, i.bytes)) = some (some z, s, b)) : ∃ i, Tryz.prog.info? t = some i ∧ i.zero = some z ∧ i.size = s ∧ i.bytes = b := by
  cases hi : Tryz.prog.info? t with
  | none => rw [hi] at h; cases h
  | some i =>
    rw [hi] at h
    simp at h
    exact ⟨i, rfl, h.1, h.2.1, h.2.2⟩
theorem run_app_d {w : World} (ty : TypeId) (base : Nat) (v : Value) (L M : List De) (hown : OwnsD w base v L) (a2 : Option Addr) (m c : Nat) (hs : SrcD w a2 m c M) (hlen : L.length + M.length ≤ 1000000000) (hbase : base ≤ w.heap.size) :
    ∃ v' w', (Builtin.append_ #[28, 28] ty #[v, .slice a2 m c]).run Tryz.prog w = .ok v' w' ∧ OwnsD w' base v' (L ++ M) ∧ w.grownBy w' v.ownBlock := by
  obtain ⟨i, hi, hz, hsz, hby⟩ := info_parts' infoD
  obtain ⟨hm, h | ⟨ad, rfl, hc⟩⟩ := hs
  · obtain ⟨rfl, rfl, rfl⟩ := h
    have hM : M = [] := List.eq_nil_of_length_eq_zero hm
    subst hM
    have hrun := run_append_owned_none (P := Tryz.prog) (w := w) base 28 ty 147 i 4 Tryz.underlying28 hi v L.length _ hown
    exact ⟨v, w, hrun, by rw [List.append_nil]; exact hown, World.grownBy.refl _ _⟩
  · obtain ⟨v', w', e, h2, h3, _⟩ := run_append_own_wide (P := Tryz.prog) w base 28 ty 147 i _ 4 48 Tryz.underlying28 hi hz hsz hby rfl (by decide) v L.length _ hown ad m c (dCs M) (by rw [dCs_len, hm]) hc (one_d M) (by unfold maxLen; omega) (by omega) hbase
    refine ⟨v', w', e, ?_, h3⟩
    show World.ownsRow w' base 147 4 v' (L ++ M).length (dCs (L ++ M))
    rw [List.length_append, dCs_app, hm]
    exact h2
theorem wpList_app_d {w : World} {ops : Array Oper} {rest : List Oper} {o : Oper} {a : Act} {Q : Exit → Act → World → Prop} (hgd : o.guard = none) (s x : Operand)
    (ho : o.op = .call { callee := .builtin .append, args := #[s, x], argTypes := #[28, 28] }) (base : Nat) (v : Value) (L M : List De) (hs : a.eval s = v) (a2 : Option Addr) (m c : Nat) (hx : a.eval x = .slice a2 m c) (hown : OwnsD w base v L) (hsr : SrcD w a2 m c M) (hlen : L.length + M.length ≤ 1000000000) (hbase : base ≤ w.heap.size)
    (h : ∀ v' w', OwnsD w' base v' (L ++ M) → w.grownBy w' v.ownBlock → wpList Tryz.prog ops Q rest (a.put o.dst v') w') : wpList Tryz.prog ops Q (o :: rest) a w := by
  obtain ⟨v', w', hr, h1, h2⟩ := run_app_d o.type base v L M hown a2 m c hsr hlen hbase
  refine wpList_plain hgd fun _ hK => ?_
  unfold Oper.wp execOp
  simp only [ho, resolve, invoke, builtin, Sem.run_bind, Sem.run_pure, Result.andThen_ok, List.map_toArray, List.map_cons, List.map_nil, hs, hx, hr]
  exact hK _ _ (h v' w' h1 h2)
theorem addr_add' (g o j : Nat) : (⟨g, o, none⟩ : Addr).add j = ⟨g, o + j, none⟩ := by simp [Addr.add]
theorem RowD.src {w : World} {E : Nat → Prop} {a : Option Addr} {n c : Nat} {L : List De} (h : RowD w E (.slice a n c) L) : SrcD w a n c L := by
  obtain ⟨a', c', e, h1, h2, h3⟩ := h.form
  cases e
  refine ⟨rfl, ?_⟩
  rcases h.row with hr | ⟨g, off, c', cur, k1, k2, k3, k4⟩
  · subst hr
    cases a with
    | none => exact .inl ⟨rfl, rfl, h3 rfl⟩
    | some ad => exact .inr ⟨ad, rfl, fun j u hj => by simp [dCs] at hj⟩
  · cases k1
    refine .inr ⟨_, rfl, fun j u hj => ?_⟩
    rw [addr_add', cell_row k3]
    exact k4 j u hj
theorem srcD_one {w : World} {g : Nat} {s : De} (hb : ∀ j, j < 4 → w.cell? ⟨g, j, none⟩ = s.cs[j]?) : SrcD w (some ⟨g, 0, none⟩) 1 1 [s] := by
  refine ⟨rfl, .inr ⟨_, rfl, fun j u hu => ?_⟩⟩
  have e : dCs [s] = s.cs := by simp [dCs]
  rw [e] at hu
  have hj : j < 4 := (List.getElem?_eq_some_iff.1 hu).1
  rw [addr_add', Nat.zero_add, hb j hj]; exact hu
/-- A row that is new, as a row of the document's. -/
theorem OwnsD.row {w : World} {E : Nat → Prop} {base : Nat} {v : Value} {L : List De} (h : OwnsD w base v L) (hE : ∀ q, base ≤ q → E q) (he : ∀ e ∈ L, OwnsB w 0 (.slice e.a e.n e.c) e.zs) : RowD w E v L := by
  rcases h.2 with ⟨e, hn⟩ | ⟨g, cap, cur, e, hg, hc, hnc, hcm, hcs, htk⟩
  · have hL : L = [] := List.eq_nil_of_length_eq_zero hn
    subst hL
    rw [e]
    exact rowD_nil w E
  · refine ⟨⟨_, _, e, hnc, hcm, fun h => by cases h⟩, .inr ⟨g, 0, cap, cur, e, hE g hg, hc, fun j u hj => ?_⟩, he⟩
    have hlt := (List.getElem?_eq_some_iff.1 hj).1
    rw [dCs_len] at hlt
    rw [Nat.zero_add, ← Array.getElem?_toList]
    rw [← htk, List.getElem?_take, if_pos hlt] at hj
    exact hj
end Go.Proofs.YtfipdldoklkciaaGreat
namespace Go.Proofs.YtfipdldoklkciaaGreat
open Go.RowKit
set_option linter.unusedVariables false
theorem own_at {w : World} {base e k n : Nat} {v : Value} {cs : List Value} (h : w.ownsRow base e k v n cs) : ∀ g, v.ownBlock = some g → base ≤ g ∧ g < w.heap.size := fun g hg => by
  obtain ⟨h1, h2⟩ := h
  rcases h2 with ⟨hv, _⟩ | ⟨g', cap, cur, hv, hgb, hc, r⟩
  · rw [hv] at hg; cases hg
  · rw [hv] at hg
    have e3 : g' = g := by injection hg
    rw [← e3]
    exact ⟨hgb, (Array.getElem?_eq_some_iff.1 hc).1⟩
theorem own_below' {w w1 w2 : World} {base e k n : Nat} {v : Value} {cs : List Value} (hb : Below base w w1) (h : w1.ownsRow base e k v n cs) (hg : w1.grownBy w2 v.ownBlock) (hB : base ≤ w1.heap.size) : Below base w w2 :=
  hb.grown hg hB fun g hk => (own_at h g hk).1
theorem ownsB_move {w w' : World} {b : Nat} {v : Value} {zs : List Int} (h : OwnsB w b v zs) (hb : ∀ g, v.ownBlock = some g → w'.heap[g]? = w.heap[g]?) : OwnsB w' 0 v zs := by
  obtain ⟨⟨p1, p2⟩, p3⟩ := h
  refine ⟨⟨p1, ?_⟩, p3⟩
  rcases p2 with p2 | ⟨g, cap, cur, hv, hg, hc, r⟩
  · exact .inl p2
  · exact .inr ⟨g, cap, cur, hv, Nat.zero_le _, by rw [hb g (by rw [hv]; rfl)]; exact hc, r⟩
theorem ownsD_up {w w' : World} {base : Nat} {v : Value} {L : List De} (h : OwnsD w base v L) (hb : Below w.heap.size w w') : OwnsD w' base v L := by
  obtain ⟨p1, p2⟩ := h
  refine ⟨p1, ?_⟩
  rcases p2 with p2 | ⟨g, cap, cur, hv, hg, hc, r⟩
  · exact .inl p2
  · exact .inr ⟨g, cap, cur, hv, hg, by rw [hb.block g (Array.getElem?_eq_some_iff.1 hc).1]; exact hc, r⟩
theorem dok_push {d : Ds} {e : De} (h : Dok d) (h1 : (d.L.length : Int) < d.win) (h2 : d.base + (d.L.length : Int) ≤ d.lim) (he : e.zs.length = e.n ∧ e.n ≤ 1200 ∧ 0 ≤ e.time ∧ e.time ≤ 1099511627840 ∧ 1 ≤ e.wait ∧ e.wait ≤ 64) : Dok (pushD d e) := by
  obtain ⟨w1, w2, b1, few, l1, l2, ent⟩ := h
  refine ⟨w1, w2, b1, ?_, ?_, l2, fun y hy => ?_⟩
  · show ((d.L ++ [e]).length : Int) ≤ d.win
    rw [List.length_append]; simp; omega
  · show d.base + ((d.L ++ [e]).length : Int) - 1 ≤ d.lim
    rw [List.length_append]; simp; omega
  · have hy : y ∈ d.L ++ [e] := hy
    rcases List.mem_append.1 hy with hy | hy
    · exact ent y hy
    · rw [List.mem_singleton.1 hy]; exact he
theorem push_end {w w2 w3 w4 w6 : World} {lb : Nat} {E : Nat → Prop} {x : Nat → Value} {d : Ds} {v v3 v6 : Value} {a4 : Option Addr} {n4 c4 : Nat} {zs : List Int} {now : Int} (hX : XLk w lb x d v) (hb2 : Below w.heap.size w w2) (hb3 : Below w2.heap.size w2 w3) (hb4 : Below w3.heap.size w3 w4) (hO3 : OwnsD w3 w2.heap.size v3 d.L) (hO4 : OwnsB w4 w3.heap.size (.slice a4 n4 c4) zs) (hO6 : OwnsD w6 w2.heap.size v6 (d.L ++ [(⟨a4, n4, c4, zs, false, now, 1⟩ : De)])) (hg : (w4.alloc (.cells #[.slice a4 n4 c4, .bool false, .int .i64 now, .int .i64 1] 147)).grownBy w6 v3.ownBlock) (hE : ∀ q, w.heap.size ≤ q → E q) (hR : RowD w2 E v d.L) :
    Hid (Below w.heap.size w w6) ∧ Hid (XLk w6 lb x d v) ∧ Hid (RowD w6 E v6 (pushD d (⟨a4, n4, c4, zs, false, now, 1⟩ : De)).L) := by
  have s2 := hb2.size
  have s3 := hb3.size
  have s4 := hb4.size
  have hb5 : Below w3.heap.size w3 (w4.alloc (.cells #[.slice a4 n4 c4, .bool false, .int .i64 now, .int .i64 1] 147)) := hb4.alloc s4 _
  have hb25 : Below w2.heap.size w2 (w4.alloc (.cells #[.slice a4 n4 c4, .bool false, .int .i64 now, .int .i64 1] 147)) := hb3.trans (hb5.mono s3)
  have hb26 : Below w2.heap.size w2 w6 := own_below' hb25 (ownsD_up hO3 hb5) hg hb25.size
  have hbw : Below w.heap.size w w6 := hb2.trans (hb26.mono s2)
  refine ⟨hbw, Blk.kept hX hbw, ?_⟩
  refine OwnsD.row hO6 (fun q hq => hE q (Nat.le_trans s2 hq)) fun e he => ?_
  rcases List.mem_append.1 he with he | he
  · have p1 := hR.ent e he
    exact ownsB_move p1 fun g hg2 => hb26.block g (own_at p1.1 g hg2).2
  · rw [List.mem_singleton.1 he]
    refine ownsB_move hO4 fun g hg2 => ?_
    · obtain ⟨q1, q2⟩ := own_at hO4.1 g hg2
      refine (hg.block g (by simp; omega) fun e2 => ?_).trans (heap_alloc_old w4 _ q2)
      have := (own_at hO3 g e2.symm).2
      omega
set_option maxHeartbeats 2000000 in
set_option maxRecDepth 100000 in
theorem ypush_ok {w : World} {lb : Nat} {E : Nat → Prop} {x : Nat → Value} {d : Ds} {v : Value} (a : Option Addr) (n c : Nat) (zs : List Int) (now : Int) (h : XLk w lb x d v) (hr : RowD w E v d.L) (hO : Dok d) (hlb : E lb) (hE : ∀ q, w.heap.size ≤ q → E q) (hn : zs.length = n) (h0 : a = none → c = 0) (hb : Bytes w a zs) (hl : n ≤ 1200) (ht : timeB now = true) (h1 : d.base + (d.L.length : Int) ≤ d.lim) (h2 : (d.L.length : Int) < d.win) :
    Calls Tryz.prog 64 #[.pointer (some ⟨lb, 3, none⟩), .slice a n c, .int .i64 now] w fun e w' => e = .returned (.tuple #[.int .i64 (d.base + (d.L.length : Int)), .int .i64 0]) ∧ ∃ (v2 : Value) (e : De), Hid (e.zs = zs ∧ e.there = false ∧ e.time = now ∧ e.wait = 1) ∧ Hid (XLk w' lb x (pushD d e) v2) ∧ Hid (RowD w' E v2 (pushD d e).L) ∧ Hid (Dok (pushD d e)) ∧ Hid (KS E w w') := by
  have k0 := ytime_any now w
  rw [ht] at k0
  have hX : Hid (XLk w lb x d v) := h
  have hR : Hid (RowD w E v d.L) := hr
  have hD : Hid (Dok d) := hO
  have hLB : Hid (E lb) := hlb
  have hEE : Hid (∀ q, w.heap.size ≤ q → E q) := hE
  have hT : Hid (0 ≤ now ∧ now ≤ 1099511627776) := by show _ ∧ _; unfold timeB at ht; simpa using ht
  have hZ : Hid (zs.length = n) := hn
  have hN0 : Hid (a = none → c = 0) := h0
  have hBz : Hid (Bytes w a zs) := hb
  have hl' : Hid (n ≤ 1200) := hl
  have hq1 : Hid (d.base + (d.L.length : Int) ≤ d.lim) := h1
  have hq2 : Hid ((d.L.length : Int) < d.win) := h2
  have dl : decide ((n : Int) > 1200) = false := by simp; omega
  have dN : decide (d.base + (d.L.length : Int) > d.lim) = false := by simp; omega
  have dW : decide ((d.L.length : Int) ≥ d.win) = false := by simp; omega
  obtain ⟨aL, cL, rfl, -⟩ := hr.form
  have SK : Hid (∀ wx, Below w.heap.size w wx → wx.cell? ⟨lb, 5, none⟩ = some (.int .i64 d.lim) ∧ wx.cell? ⟨lb, 6, none⟩ = some (.slice aL d.L.length cL) ∧ wx.cell? ⟨lb, 3, none⟩ = some (.int .i64 d.win)) := fun wx hx => ⟨Blk.cell (Blk.kept (show Blk w lb _ 37 from hX.out) hx) 5, Blk.cell (Blk.kept (show Blk w lb _ 37 from hX.out) hx) 6, Blk.cell (Blk.kept (show Blk w lb _ 37 from hX.out) hx) 3⟩
  have hdr : Hid (Below w.heap.size w w.drew) := (Below.refl _ _).drew
  clear h hr hO hlb hE hn h0 hb hl ht h1 h2
  go_enter Tryz.func64, Tryz.ntmps64
  go_wp2_with (go_at_call 95; refine k0.mono ?_; rintro e w1 ⟨rfl, hw1⟩; obtain rfl := hw1.symm; clear hw1 k0)
  go_region_held3 (fun y => y.cell? ⟨lb, 5, none⟩ = some (.int .i64 d.lim) ∧ y.cell? ⟨lb, 6, none⟩ = some (.slice aL d.L.length cL) ∧ y.cell? ⟨lb, 3, none⟩ = some (.int .i64 d.win)) (((with_reducible refine SK.out _ ?_); (first | exact hb1.out | exact hdr.out))) (first
    | (go_at_call 96; refine (ynext_any (Blk.kept hX.out hdr.out) hR.out.drew hD.out).mono ?_; rintro e w1 ⟨rfl, hb0⟩; have hb1 : Hid (Below w.heap.size w w1) := hdr.out.trans (hb0.mono hdr.out.size); clear hb0))
  go_wp2_with fail
  refine (ynext_any (Blk.kept hX.out hb1.out) (hR.out.kept hb1.out) hD.out).mono ?_
  rintro e w2 ⟨rfl, hb0⟩
  have hb2 : Hid (Below w.heap.size w w2) := hb1.out.trans (hb0.mono hb1.out.size)
  clear hb0 hb1
  have c6 : w2.cell? ⟨lb, 6, none⟩ = some (.slice aL d.L.length cL) := (SK.out _ hb2.out).2.1
  have hR2 : Hid (RowD w2 E (.slice aL d.L.length cL) d.L) := hR.out.kept hb2.out
  have hfew : Hid (d.L.length ≤ 64) := by have := hD.out.few; have := hD.out.w2; show _ ≤ 64; omega
  clear SK
  go_wp2_with (at_builtin; first
    | (refine wpList_app_d rfl _ _ rfl w2.heap.size (.slice none 0 0) [] d.L rfl _ _ _ rfl (ownsD_nil _ _) hR2.out.src (by have := hfew.out; simp; omega) (Nat.le_refl _) ?_; intro v3 w3 hO3 hg3; rw [List.nil_append] at hO3; have hO3' : Hid (OwnsD w3 w2.heap.size v3 d.L) := hO3; have hb3 : Hid (Below w2.heap.size w2 w3) := own_below' (Below.refl _ _) (ownsD_nil w2 w2.heap.size) hg3 (Nat.le_refl _); have hb3' : Hid (Below w.heap.size w w3) := hb2.out.trans (hb3.out.mono hb2.out.size); clear hO3 hg3 c6)
    | (refine wpList_append_bytes rfl _ _ rfl w3.heap.size (.slice none 0 0) [] zs rfl (ownsB_nil _ _) a n c rfl hZ.out hN0.out (hBz.out.kept hb3'.out) (by have := hl'.out; have := hZ.out; simp; omega) (Nat.le_refl _) ?_; intro v4 w4 hO4 hg4; rw [List.nil_append] at hO4; have hO4' : Hid (OwnsB w4 w3.heap.size v4 zs) := hO4; obtain ⟨a4, n4, c4, rfl, hn4, -⟩ := hO4.form; have hb4 : Hid (Below w3.heap.size w3 w4) := grown_below (Below.refl _ _) (ownsB_nil w3 w3.heap.size) hg4 (Nat.le_refl _); clear hO4 hg4)
    | (refine wpList_app_d rfl _ _ rfl w2.heap.size v3 d.L [⟨a4, n4, c4, zs, false, now, 1⟩] rfl _ _ _ rfl (ownsD_up hO3'.out (hb4.out.alloc hb4.out.size _)) (srcD_one (fun j _ => ((blk_new w4 _ _).cell j).trans Array.getElem?_toList.symm)) (by have := hfew.out; simp; omega) (Nat.le_trans hb3.out.size (Nat.le_trans hb4.out.size (by simp))) ?_; intro v6 w6 hO6 hg6; obtain ⟨hb6, hX6, hR6⟩ := push_end hX.out hb2.out hb3.out hb4.out hO3'.out hO4'.out hO6 hg6 hEE.out hR2.out; obtain ⟨a6, c6', rfl, -⟩ := hR6.out.form; have c66 : w6.cell? ⟨lb, 6, none⟩ = some (.slice aL d.L.length cL) := Blk.cell (show Blk w6 lb _ 37 from hX6.out) 6; have f66 := Blk.fz (show Blk w6 lb _ 37 from hX6.out) 6; clear hg6 hO6))
  go_ret2
  have hnn : zs.length = n4 := hn4.out
  refine ⟨rfl, .slice a6 (pushD d (⟨a4, n4, c4, zs, false, now, 1⟩ : De)).L.length c6', (⟨a4, n4, c4, zs, false, now, 1⟩ : De), ⟨rfl, rfl, rfl, rfl⟩, ?_, ?_, ?_, ?_⟩
  · exact (show Blk w6 lb _ 37 from hX6.out).set 6 _
  · exact hR6.out.other (show Blk w6 lb _ 37 from hX6.out) 6 _
  · refine dok_push hD.out hq2.out hq1.out ⟨hnn, ?_, hT.out.1, ?_, ?_, ?_⟩
    · show n4 ≤ 1200
      have := hZ.out; have := hl'.out; omega
    · show now ≤ _
      have := hT.out.2; omega
    · show (1 : Int) ≤ 1
      omega
    · show (1 : Int) ≤ 64
      omega
  · exact (KS.of_below hb6.out).trans (KS.set _ lb _ hLB.out _)
end Go.Proofs.YtfipdldoklkciaaGreat
namespace Go.Proofs.YtfipdldoklkciaaGreat
open Go.RowKit
set_option linter.unusedVariables false

theorem K2.dn {q g : Nat} (w : World) (m : Nat) : K2 q g w (w.drewN m) := ⟨rfl, rfl, rfl, Nat.le_refl _, fun _ _ _ _ => rfl⟩
theorem K2.one {q g : Nat} {w w' : World} (h : K2 q q w w') : K2 q g w w' := ⟨h.os, h.tape, h.output, h.size, fun k hk h1 _ => h.block k hk h1 h1⟩
theorem K2.two {q g : Nat} {w w' : World} (h : K2 g g w w') : K2 q g w w' := ⟨h.os, h.tape, h.output, h.size, fun k hk _ h1 => h.block k hk h1 h1⟩
/-- A RECEIVER AS PLAIN DATA: its window, how many were taken, the loads that are held by their numbers. -/
structure Rc where
  win : Int
  tk : Int
  L : Int → Option (List Int)
structure Rok (s : Rc) : Prop where
  w1 : 1 ≤ s.win
  w2 : s.win ≤ 32
  t1 : 0 ≤ s.tk
  t2 : s.tk ≤ 4611686018427387904
  inn : ∀ z, (s.L z).isSome = true → s.tk < z ∧ z ≤ s.tk + s.win
  few : ∀ z l, s.L z = some l → l.length ≤ 1200 ∧ ∀ c ∈ l, 0 ≤ c ∧ c < 256
/-- What stands in a place of the ring. -/
def Rc.at (s : Rc) (p : Nat) : Option (List Int) := s.L (s.tk + 1 + ((p : Int) - (s.tk + 1)) % 32)
theorem Rc.at_of {s : Rc} {z : Int} (h1 : s.tk < z) (h2 : z ≤ s.tk + 32) : s.at (z % 32).toNat = s.L z := by
  unfold Rc.at
  congr 1
  omega
theorem Rok.none {s : Rc} (h : Rok s) {z : Int} (hz : ¬ (s.tk < z ∧ z ≤ s.tk + s.win)) : s.L z = none := by
  cases hL : s.L z with
  | none => rfl
  | some l => exact absurd (h.inn z (by rw [hL]; rfl)) hz
/-- A RECEIVER IN MEMORY. -/
structure Rv (w : World) (rb : Nat) (s : Rc) : Prop where
  ok : Rok s
  blk : ∃ cs : Array Value, Blk w rb cs 91 ∧ cs.size = 67 ∧ cs[0]? = some (.bool true) ∧ cs[1]? = some (.int .i64 s.win) ∧ cs[2]? = some (.int .i64 s.tk) ∧ ∀ p, p < 32 → cs[3 + p * 2]? = some (.bool (s.at p).isSome) ∧ cs[3 + p * 2 + 1]? = some (.string (strOfNums ((s.at p).getD [])))
theorem Rv.kept {w w' : World} {rb : Nat} {s : Rc} (h : Rv w rb s) (hb : Below w.heap.size w w') : Rv w' rb s := by
  obtain ⟨h1, cs, h2, h3⟩ := h
  exact ⟨h1, cs, h2.kept hb, h3⟩
theorem Rv.drew {w : World} {rb : Nat} {s : Rc} (h : Rv w rb s) : Rv w.drew rb s := h.kept (Below.refl _ _).drew
theorem Rv.alloc {w : World} {rb : Nat} {s : Rc} (h : Rv w rb s) (o : Obj) : Rv (w.alloc o) rb s := h.kept ((Below.refl _ _).alloc (Nat.le_refl _) o)
theorem Rv.but {w w' : World} {rb g : Nat} {s : Rc} (h : Rv w rb s) (k : K2 g g w w') (hg : rb ≠ g) : Rv w' rb s := by
  obtain ⟨h1, cs, h2, h3⟩ := h
  exact ⟨h1, cs, (k.block rb h2.lt hg hg).trans h2, h3⟩
theorem Rv.lt {w : World} {rb : Nat} {s : Rc} (h : Rv w rb s) : rb < w.heap.size := by
  obtain ⟨h1, cs, h2, h3⟩ := h
  exact h2.lt
theorem Rv.c0 {w : World} {rb : Nat} {s : Rc} (h : Rv w rb s) : w.cell? ⟨rb, 0, none⟩ = some (.bool true) := by
  obtain ⟨h1, cs, h2, h3, h4, h5, h6, h7⟩ := h
  rw [h2.cell 0]; exact h4
theorem Rv.c1 {w : World} {rb : Nat} {s : Rc} (h : Rv w rb s) : w.cell? ⟨rb, 1, none⟩ = some (.int .i64 s.win) := by
  obtain ⟨h1, cs, h2, h3, h4, h5, h6, h7⟩ := h
  rw [h2.cell 1]; exact h5
theorem Rv.c2 {w : World} {rb : Nat} {s : Rc} (h : Rv w rb s) : w.cell? ⟨rb, 2, none⟩ = some (.int .i64 s.tk) := by
  obtain ⟨h1, cs, h2, h3, h4, h5, h6, h7⟩ := h
  rw [h2.cell 2]; exact h6
theorem Rv.cA {w : World} {rb : Nat} {s : Rc} (h : Rv w rb s) {p : Nat} (hp : p < 32) : w.cell? ⟨rb, 3 + p * 2, none⟩ = some (.bool (s.at p).isSome) := by
  obtain ⟨h1, cs, h2, h3, h4, h5, h6, h7⟩ := h
  rw [h2.cell]; exact (h7 p hp).1
theorem Rv.cB {w : World} {rb : Nat} {s : Rc} (h : Rv w rb s) {p : Nat} (hp : p < 32) : w.cell? ⟨rb, 3 + p * 2 + 1, none⟩ = some (.string (strOfNums ((s.at p).getD []))) := by
  obtain ⟨h1, cs, h2, h3, h4, h5, h6, h7⟩ := h
  rw [h2.cell]; exact (h7 p hp).2
theorem Rv.fz {w : World} {rb : Nat} {s : Rc} (h : Rv w rb s) (j : Nat) : w.frozen? ⟨rb, j, none⟩ = false := by
  obtain ⟨h1, cs, h2, h3⟩ := h
  exact h2.fz j

/-! ### the small calls -/
theorem rmade_yes (sb : Nat) (w : World) (h : w.cell? ⟨sb, 0, none⟩ = some (.bool true)) : Calls Tryz.prog 76 #[.pointer (some ⟨sb, 0, none⟩)] w fun e w' => e = .returned (.bool true) ∧ w' = w := by
  go_enter Tryz.func76, Tryz.ntmps76
  go_wp2
  go_ret
  all_goals simp_all
theorem rmade_nil (w : World) : Calls Tryz.prog 76 #[.pointer none] w fun e w' => e = .returned (.bool false) ∧ w' = w := by
  go_enter Tryz.func76, Tryz.ntmps76
  go_wp2
  go_ret
  all_goals simp_all
theorem rmade_no (sb : Nat) (w : World) (h : w.cell? ⟨sb, 0, none⟩ = some (.bool false)) : Calls Tryz.prog 76 #[.pointer (some ⟨sb, 0, none⟩)] w fun e w' => e = .returned (.bool false) ∧ w' = w := by
  go_enter Tryz.func76, Tryz.ntmps76
  go_wp2
  go_ret
  all_goals simp_all
theorem place_any (z : Int) (w : World) (hz : 0 ≤ z) : Calls Tryz.prog 80 #[.int .i64 z] w fun e w' => e = .returned (.int .i64 (z % 32)) ∧ w' = w := by
  have e : Int.tmod z 32 = z % 32 := Int.tmod_eq_emod_of_nonneg hz
  have hw : IntKind.i64.wrap (z % 32) = z % 32 := by rw [IntKind.wrap_i64]; omega
  go_enter Tryz.func80, Tryz.ntmps80
  go_wp2
  go_ret
  all_goals simp_all
theorem Rv.dn {w : World} {rb : Nat} {s : Rc} (h : Rv w rb s) (n : Nat) : Rv (w.drewN n) rb s := by
  obtain ⟨h1, cs, h2, h3⟩ := h
  exact ⟨h1, cs, h2, h3⟩
theorem credit_any {rb : Nat} {s : Rc} {w : World} (h : Rv w rb s) : Calls Tryz.prog 79 #[.pointer (some ⟨rb, 0, none⟩)] w fun e w' => e = .returned (.int .i64 (s.tk + s.win)) ∧ ∃ m, w' = w.drewN m := by
  have c1 := h.c1
  have c2 := h.c2
  have hw : IntKind.i64.wrap (s.tk + s.win) = s.tk + s.win := by
    have := h.ok.w1; have := h.ok.w2; have := h.ok.t1; have := h.ok.t2
    rw [IntKind.wrap_i64]; omega
  clear h
  go_enter Tryz.func79, Tryz.ntmps79
  go_wp2
  go_quiet (fail)
  go_wp2
  go_ret
  exact ⟨rfl, _, rfl⟩
theorem taken_any {rb : Nat} {s : Rc} {w : World} (h : Rv w rb s) : Calls Tryz.prog 44 #[.pointer (some ⟨rb, 0, none⟩)] w fun e w' => e = .returned (.int .i64 s.tk) ∧ w' = w := by
  have k1 := rmade_yes rb w h.c0
  have c := h.c2
  clear h
  go_enter Tryz.func44, Tryz.ntmps44
  go_wp2_with (go_at_call 76; refine k1.mono ?_; rintro e w1 ⟨rfl, hw1⟩; obtain rfl := hw1.symm)
  go_ret
  all_goals simp_all
theorem holds_yes {rb : Nat} {s : Rc} {w : World} (z : Int) (h : Rv w rb s) (h1 : s.tk < z) (h2 : z ≤ s.tk + s.win) : Calls Tryz.prog 78 #[.pointer (some ⟨rb, 0, none⟩), .int .i64 z] w fun e w' => e = .returned (.bool (s.L z).isSome) ∧ ∃ m, w' = w.drewN m := by
  have c2 := h.c2
  have d1 : decide (z > s.tk) = true := by simp; omega
  have d2 : decide (z ≤ s.tk + s.win) = true := by simp; omega
  have hw2 := h.ok.w2
  have ht1 := h.ok.t1
  have k1 := fun n => credit_any (h.dn n)
  have k2 := fun n => place_any z (w.drewN n) (by omega)
  obtain ⟨p, hp⟩ : ∃ p : Nat, z % 32 = (p : Int) := ⟨(z % 32).toNat, by omega⟩
  have hp3 : p < 32 := by omega
  have hc := h.cA hp3
  rw [show s.at p = s.L z by rw [← Rc.at_of h1 (by omega), hp]; rfl] at hc
  have hi : decide ((p : Int) < 32) = true := by simp; omega
  have hi0 : decide ((0 : Int) ≤ (p : Int)) = true := by simp
  rw [hp] at k2
  clear h h1 h2 hw2 ht1 hp
  generalize (s.L z).isSome = v at *
  go_enter Tryz.func78, Tryz.ntmps78
  go_wp2
  go_quiet (first | (go_at_call 79; exact Calls.quiet_of (k1 _)) | (go_at_call 80; exact Calls.quiet_of_same (k2 _)))
  go_wp2
  go_ret
  exact ⟨rfl, _, rfl⟩
theorem holds_low {rb : Nat} {s : Rc} {w : World} (z : Int) (h : Rv w rb s) (h1 : ¬ s.tk < z) : Calls Tryz.prog 78 #[.pointer (some ⟨rb, 0, none⟩), .int .i64 z] w fun e w' => e = .returned (.bool false) ∧ ∃ m, w' = w.drewN m := by
  have c2 := h.c2
  have d1 : decide (z > s.tk) = false := by simp; omega
  clear h h1
  go_enter Tryz.func78, Tryz.ntmps78
  go_wp2
  go_big_quiet (fail)
  go_wp2
  go_ret
  exact ⟨rfl, _, rfl⟩
theorem holds_high {rb : Nat} {s : Rc} {w : World} (z : Int) (h : Rv w rb s) (h1 : s.tk < z) (h2 : ¬ z ≤ s.tk + s.win) : Calls Tryz.prog 78 #[.pointer (some ⟨rb, 0, none⟩), .int .i64 z] w fun e w' => e = .returned (.bool false) ∧ ∃ m, w' = w.drewN m := by
  have c2 := h.c2
  have d1 : decide (z > s.tk) = true := by simp; omega
  have d2 : decide (z ≤ s.tk + s.win) = false := by simp; omega
  have k1 := fun n => credit_any (h.dn n)
  clear h h1 h2
  go_enter Tryz.func78, Tryz.ntmps78
  go_wp2
  go_big_quiet ((go_at_call 79; exact Calls.quiet_of (k1 _)))
  go_wp2
  go_ret
  exact ⟨rfl, _, rfl⟩
theorem holds_any {rb : Nat} {s : Rc} {w : World} (z : Int) (h : Rv w rb s) : Calls Tryz.prog 78 #[.pointer (some ⟨rb, 0, none⟩), .int .i64 z] w fun e w' => e = .returned (.bool (s.L z).isSome) ∧ ∃ m, w' = w.drewN m := by
  by_cases h1 : s.tk < z
  · by_cases h2 : z ≤ s.tk + s.win
    · exact holds_yes z h h1 h2
    · have e : s.L z = none := h.ok.none (fun k => h2 k.2)
      rw [e]
      exact holds_high z h h1 h2
  · have e : s.L z = none := h.ok.none (fun k => h1 k.1)
    rw [e]
    exact holds_low z h h1
end Go.Proofs.YtfipdldoklkciaaGreat
namespace Go.Proofs.YtfipdldoklkciaaGreat
open Go.RowKit
set_option linter.unusedVariables false
def r0 (win : Int) : Rc := ⟨win, 0, fun _ => none⟩
theorem r0_ok {win : Int} (h1 : 1 ≤ win) (h2 : win ≤ 32) : Rok (r0 win) := ⟨h1, h2, by simp [r0], by simp [r0], by simp [r0], by simp [r0]⟩
def ring0 : Nat → List Value
  | 0 => []
  | n + 1 => .bool false :: .string (strOfNums []) :: ring0 n
theorem ring0_at : ∀ (n p : Nat), p < n → (ring0 n)[p * 2]? = some (.bool false) ∧ (ring0 n)[p * 2 + 1]? = some (.string (strOfNums []))
  | 0, p, h => by omega
  | n + 1, 0, h => ⟨rfl, rfl⟩
  | n + 1, p + 1, h => by
    have := ring0_at n p (by omega)
    rw [show (p + 1) * 2 = p * 2 + 1 + 1 by omega]
    exact this
def zc : Array Value := (.bool false :: .int .i64 0 :: .int .i64 0 :: ring0 32).toArray
theorem zero_rc (w : World) : (zeroValue 91).run Tryz.prog w = .ok (.agg zc) w := by kernel_rfl
theorem zc_ne : (zc = #[]) = False := by
  rw [eq_iff_iff]
  exact ⟨fun h => absurd (congrArg Array.size h) (by decide), False.elim⟩
theorem zc_size : zc.size = 67 := rfl
theorem rnew_yes (win : Int) (w : World) (h1 : 1 ≤ win) (h2 : win ≤ 32) :
    Calls Tryz.prog 16 #[.int .i64 win] w fun e w' => e = .returned (.tuple #[.pointer (some ⟨w.heap.size, 0, none⟩), .int .i64 0]) ∧ Hid (Rv w' w.heap.size (r0 win)) ∧ Hid (Below w.heap.size w w') := by
  have d0 : decide (win < 1) = false := by simp; omega
  have d1 : decide (win > 32) = false := by simp; omega
  have hO : Hid (Rok (r0 win)) := r0_ok h1 h2
  have hz := zero_rc
  have hz1 := zc_ne
  have hz2 := zc_size
  clear h1 h2
  go_enter Tryz.func16, Tryz.ntmps16
  go_wp2
  go_ret2
  refine ⟨rfl, ?_, ?_⟩
  · refine ⟨hO.out, _, blk_new w _ 91, rfl, rfl, rfl, rfl, fun p hp => ?_⟩
    have := ring0_at 32 p hp
    rw [show 3 + p * 2 = p * 2 + 3 by omega, Array.getElem?_setIfInBounds_ne (by omega), Array.getElem?_setIfInBounds_ne (by omega), Array.getElem?_setIfInBounds_ne (by omega), Array.getElem?_setIfInBounds_ne (by omega)]
    unfold zc
    rw [List.getElem?_toArray, List.getElem?_toArray]
    exact this
  · exact (Below.refl _ _).alloc (Nat.le_refl _) _
theorem rnew_no (win : Int) (w : World) (h : win < 1 ∨ 32 < win) :
    Calls Tryz.prog 16 #[.int .i64 win] w fun e w' => e = .returned (.tuple #[.pointer none, .int .i64 1]) ∧ w' = w := by
  by_cases h0 : win < 1
  · have d0 : decide (win < 1) = true := by simp; omega
    clear h h0
    go_enter Tryz.func16, Tryz.ntmps16
    go_wp2
    go_ret2
    all_goals simp_all
  · have d0 : decide (win < 1) = false := by simp; omega
    have d1 : decide (win > 32) = true := by simp; omega
    clear h h0
    go_enter Tryz.func16, Tryz.ntmps16
    go_wp2
    go_ret2
    all_goals simp_all
/-- WHAT Data ANSWERS. -/
def dataE (s : Rc) (z : Int) (n : Nat) : Int :=
  if z < 1 then 1 else if 1200 < n then 8 else if z ≤ s.tk ∨ (s.L z).isSome = true then 17 else if s.tk + s.win < z then 13 else 0
/-- A LOAD CAME. -/
def putA (s : Rc) (z : Int) (l : List Int) : Rc := { s with L := fun x => if x = z then some l else s.L x }
theorem dataE_ok {s : Rc} {z : Int} {n : Nat} (h : dataE s z n = 0) : 1 ≤ z ∧ n ≤ 1200 ∧ s.tk < z ∧ z ≤ s.tk + s.win ∧ (s.L z).isSome = false := by
  unfold dataE at h
  split at h
  · omega
  · split at h
    · omega
    · split at h
      · omega
      · split at h
        · omega
        · rename_i h1 h2 h3 h4
          refine ⟨by omega, by omega, ?_, by omega, ?_⟩
          · exact Int.not_le.1 fun k => h3 (.inl k)
          · cases hL : (s.L z).isSome with
            | false => rfl
            | true => exact absurd (.inr hL) h3
theorem put_ok {s : Rc} {z : Int} {l : List Int} (h : Rok s) (h1 : s.tk < z) (h2 : z ≤ s.tk + s.win) (hl : l.length ≤ 1200) (hb : ∀ c ∈ l, 0 ≤ c ∧ c < 256) : Rok (putA s z l) := by
  refine ⟨h.w1, h.w2, h.t1, h.t2, fun x hx => ?_, fun x m hm => ?_⟩
  · have hx : (if x = z then some l else s.L x).isSome = true := hx
    by_cases e : x = z
    · subst e; exact ⟨h1, h2⟩
    · rw [if_neg e] at hx; exact h.inn x hx
  · have hm : (if x = z then some l else s.L x) = some m := hm
    by_cases e : x = z
    · rw [if_pos e] at hm; cases hm; exact ⟨hl, hb⟩
    · rw [if_neg e] at hm; exact h.few x m hm
theorem put_at {s : Rc} {z : Int} {l : List Int} (h1 : s.tk < z) (h2 : z ≤ s.tk + 32) (p : Nat) (hp : p < 32) : (putA s z l).at p = if (p : Int) = z % 32 then some l else s.at p := by
  show (if s.tk + 1 + ((p : Int) - (s.tk + 1)) % 32 = z then some l else s.L (s.tk + 1 + ((p : Int) - (s.tk + 1)) % 32)) = if (p : Int) = z % 32 then some l else s.L (s.tk + 1 + ((p : Int) - (s.tk + 1)) % 32)
  by_cases e : (p : Int) = z % 32
  · rw [if_pos e, if_pos (by omega)]
  · rw [if_neg e, if_neg (by omega)]
/-- Two cells of the ring written anew: what the receiver then is. -/
theorem rv_set {w : World} {rb : Nat} {s s' : Rc} (h : Rv w rb s) (hs : Rok s') (hw : s'.win = s.win) (ht : s'.tk = s.tk ∨ True) (p : Nat) (hp : p < 32) (o : Option (List Int)) (ha : ∀ q, q < 32 → s'.at q = if q = p then o else s.at q)
    (ht' : s'.tk = s.tk) : Rv ((w.setCell ⟨rb, 3 + p * 2, none⟩ (.bool o.isSome)).setCell ⟨rb, 3 + p * 2 + 1, none⟩ (.string (strOfNums (o.getD [])))) rb s' := by
  obtain ⟨h1, cs, h2, h3, h4, h5, h6, h7⟩ := h
  refine ⟨hs, _, (h2.set (3 + p * 2) _).set (3 + p * 2 + 1) _, by simp [h3], ?_, ?_, ?_, fun q hq => ?_⟩
  · rw [Array.getElem?_setIfInBounds_ne (by omega), Array.getElem?_setIfInBounds_ne (by omega)]; exact h4
  · rw [Array.getElem?_setIfInBounds_ne (by omega), Array.getElem?_setIfInBounds_ne (by omega), hw]; exact h5
  · rw [Array.getElem?_setIfInBounds_ne (by omega), Array.getElem?_setIfInBounds_ne (by omega), ht']; exact h6
  · rw [ha q hq]
    by_cases e : q = p
    · subst e
      rw [if_pos rfl]
      constructor
      · rw [Array.getElem?_setIfInBounds_ne (by omega), Array.getElem?_setIfInBounds_self_of_lt (by omega)]
      · rw [Array.getElem?_setIfInBounds_self_of_lt (by simp [h3]; omega)]
    · rw [if_neg e]
      rw [Array.getElem?_setIfInBounds_ne (by omega), Array.getElem?_setIfInBounds_ne (by omega), Array.getElem?_setIfInBounds_ne (by omega), Array.getElem?_setIfInBounds_ne (by omega)]
      exact h7 q hq
set_option maxHeartbeats 1000000 in
theorem data_ok {rb : Nat} {s : Rc} {w : World} (z : Int) (a : Option Addr) (n c : Nat) (zs : List Int) (h : Rv w rb s) (he : dataE s z n = 0) (hn : zs.length = n) (h0 : a = none → c = 0) (hb : Bytes w a zs) :
    Calls Tryz.prog 50 #[.pointer (some ⟨rb, 0, none⟩), .int .i64 z, .slice a n c] w fun e w' => e = .returned (.int .i64 0) ∧ Hid (Rv w' rb (putA s z zs)) ∧ Hid (K2 rb rb w w') := by
  obtain ⟨e1, e2, e3, e4, e5⟩ := dataE_ok he
  have k0 := rmade_yes rb w h.c0
  have c2 := h.c2
  have d1 : decide (z < 1) = false := by simp; omega
  have d2 : decide ((n : Int) > 1200) = false := by simp; omega
  have d3 : decide (z ≤ s.tk) = false := by simp; omega
  have d4 : decide (z > s.tk + s.win) = false := by simp; omega
  have k1 := holds_any z h
  rw [e5] at k1
  have k2 := fun m => credit_any (h.dn m)
  have k3 := fun x => place_any z x (by omega)
  obtain ⟨p, hp⟩ : ∃ p : Nat, z % 32 = (p : Int) := ⟨(z % 32).toNat, by omega⟩
  have hp3 : p < 32 := by omega
  have hi : decide ((p : Int) < 32) = true := by simp; omega
  have hi0 : decide ((0 : Int) ≤ (p : Int)) = true := by simp
  rw [hp] at k3
  have hcv := fun m => conv_str (hb.drewN m) n c hn
  have f1 := h.fz (3 + p * 2)
  have f2 := h.fz (3 + p * 2 + 1)
  have q1 := h.cA hp3
  have q2 := h.cB hp3
  have hK : Hid (∀ m, K2 rb rb w (((w.drewN m).setCell ⟨rb, 3 + p * 2, none⟩ (.bool true)).setCell ⟨rb, 3 + p * 2 + 1, none⟩ (.string (strOfNums zs)))) := fun m => (K2.dn w m).trans ((K2.set _ _ _).trans (K2.set _ _ _))
  have hR : Hid (∀ m, Rv (((w.drewN m).setCell ⟨rb, 3 + p * 2, none⟩ (.bool true)).setCell ⟨rb, 3 + p * 2 + 1, none⟩ (.string (strOfNums zs))) rb (putA s z zs)) :=
    fun m => rv_set (h.dn m) (put_ok h.ok e3 e4 (by omega) hb.1) rfl (.inl rfl) p hp3 (some zs) (fun q hq => by rw [put_at e3 (by have := h.ok.w2; omega) q hq, hp]; by_cases e : q = p; (subst e; rw [if_pos rfl, if_pos rfl]); (rw [if_neg e, if_neg (by omega)])) rfl
  clear hp e1 e2 e3 e4 e5 hb h0 he h hn
  go_enter Tryz.func50, Tryz.ntmps50
  go_wp2_with (first | (go_at_call 76; refine k0.mono ?_; rintro e w1 ⟨rfl, hw1⟩; obtain rfl := hw1.symm; clear k0 hw1) | (go_at_call 78; refine k1.mono ?_; rintro e w1 ⟨rfl, m1, rfl⟩; clear k1) | (go_at_call 79; refine (k2 _).mono ?_; rintro e w1 ⟨rfl, m2, rfl⟩; clear k2))
  go_region_with (first | (go_at_call 80; refine (k3 _).mono ?_; rintro e w1 ⟨rfl, hw1⟩; obtain rfl := hw1.symm; clear k3 hw1))
  all_goals go_wp2
  all_goals go_ret
  all_goals exact ⟨rfl, hR.out _, hK.out _⟩
theorem data_bad {rb : Nat} {s : Rc} {w : World} (z : Int) (a : Option Addr) (n c : Nat) (h : Rv w rb s) (he : dataE s z n ≠ 0) (hn : (n : Int) ≤ 9223372036854775807) :
    Calls Tryz.prog 50 #[.pointer (some ⟨rb, 0, none⟩), .int .i64 z, .slice a n c] w fun e w' => e = .returned (.int .i64 (dataE s z n)) ∧ ∃ m, w' = w.drewN m := by
  have k0 := rmade_yes rb w h.c0
  have c2 := h.c2
  by_cases h1 : z < 1
  · have d1 : decide (z < 1) = true := by simp; omega
    have e : dataE s z n = 1 := by unfold dataE; rw [if_pos h1]
    rw [e]
    clear he h h1 e hn
    go_enter Tryz.func50, Tryz.ntmps50
    go_wp2_with (go_at_call 76; refine k0.mono ?_; rintro e w1 ⟨rfl, hw1⟩; obtain rfl := hw1.symm; clear k0 hw1)
    go_ret
    exact ⟨rfl, 0, rfl⟩
  have d1 : decide (z < 1) = false := by simp; omega
  by_cases h2 : 1200 < n
  · have d2 : decide ((n : Int) > 1200) = true := by simp; omega
    have e : dataE s z n = 8 := by unfold dataE; rw [if_neg h1, if_pos h2]
    rw [e]
    clear he h h1 h2 e hn
    go_enter Tryz.func50, Tryz.ntmps50
    go_wp2_with (go_at_call 76; refine k0.mono ?_; rintro e w1 ⟨rfl, hw1⟩; obtain rfl := hw1.symm; clear k0 hw1)
    go_ret
    exact ⟨rfl, 0, rfl⟩
  have d2 : decide ((n : Int) > 1200) = false := by simp; omega
  by_cases h3 : z ≤ s.tk
  · have d3 : decide (z ≤ s.tk) = true := by simp; omega
    have e : dataE s z n = 17 := by unfold dataE; rw [if_neg h1, if_neg h2, if_pos (.inl h3)]
    rw [e]
    clear he h h1 h2 h3 e hn
    go_enter Tryz.func50, Tryz.ntmps50
    go_wp2_with (go_at_call 76; refine k0.mono ?_; rintro e w1 ⟨rfl, hw1⟩; obtain rfl := hw1.symm; clear k0 hw1)
    go_ret
    exact ⟨rfl, 0, rfl⟩
  have d3 : decide (z ≤ s.tk) = false := by simp; omega
  have k1 := holds_any z h
  have k2 := fun m => credit_any (h.dn m)
  cases hL : (s.L z).isSome with
  | true =>
    have e : dataE s z n = 17 := by unfold dataE; rw [if_neg h1, if_neg h2, if_pos (.inr hL)]
    rw [e]
    rw [hL] at k1
    clear he h h1 h2 h3 e hn k2 hL
    go_enter Tryz.func50, Tryz.ntmps50
    go_wp2_with (first | (go_at_call 76; refine k0.mono ?_; rintro e w1 ⟨rfl, hw1⟩; obtain rfl := hw1.symm; clear k0 hw1) | (go_at_call 78; refine k1.mono ?_; rintro e w1 ⟨rfl, m1, rfl⟩; clear k1))
    go_ret
    exact ⟨rfl, _, rfl⟩
  | false =>
    by_cases h4 : s.tk + s.win < z
    · have d4 : decide (z > s.tk + s.win) = true := by simp; omega
      have e : dataE s z n = 13 := by unfold dataE; rw [if_neg h1, if_neg h2, if_neg (by rw [hL]; intro k; rcases k with k | k; exact h3 k; cases k), if_pos h4]
      rw [e]
      rw [hL] at k1
      clear he h h1 h2 h3 h4 e hn hL
      go_enter Tryz.func50, Tryz.ntmps50
      go_wp2_with (first | (go_at_call 76; refine k0.mono ?_; rintro e w1 ⟨rfl, hw1⟩; obtain rfl := hw1.symm; clear k0 hw1) | (go_at_call 78; refine k1.mono ?_; rintro e w1 ⟨rfl, m1, rfl⟩; clear k1) | (go_at_call 79; refine (k2 _).mono ?_; rintro e w1 ⟨rfl, m2, rfl⟩; clear k2))
      go_ret
      exact ⟨rfl, _, rfl⟩
    · exact absurd (by unfold dataE; rw [if_neg h1, if_neg h2, if_neg (by rw [hL]; intro k; rcases k with k | k; exact h3 k; cases k), if_neg h4]) he
end Go.Proofs.YtfipdldoklkciaaGreat
namespace Go.Proofs.YtfipdldoklkciaaGreat
open Go.RowKit
set_option linter.unusedVariables false
/-- THE FIRST LOAD IS TAKEN. -/
def takeA (s : Rc) : Rc := { s with tk := s.tk + 1, L := fun x => if x = s.tk + 1 then none else s.L x }
theorem rtake_ok {s : Rc} (h : Rok s) (ht : s.tk < 4611686018427387904) : Rok (takeA s) := by
  refine ⟨h.w1, h.w2, by show 0 ≤ s.tk + 1; have := h.t1; omega, by show s.tk + 1 ≤ _; omega, fun x hx => ?_, fun x m hm => ?_⟩
  · have hx : (if x = s.tk + 1 then none else s.L x).isSome = true := hx
    show s.tk + 1 < x ∧ x ≤ s.tk + 1 + s.win
    by_cases e : x = s.tk + 1
    · rw [if_pos e] at hx; cases hx
    · rw [if_neg e] at hx
      have := h.inn x hx
      omega
  · have hm : (if x = s.tk + 1 then none else s.L x) = some m := hm
    by_cases e : x = s.tk + 1
    · rw [if_pos e] at hm; cases hm
    · rw [if_neg e] at hm; exact h.few x m hm
theorem take_at {s : Rc} (h : Rok s) (p : Nat) (hp : p < 32) : (takeA s).at p = if (p : Int) = (s.tk + 1) % 32 then none else s.at p := by
  show (if s.tk + 1 + 1 + ((p : Int) - (s.tk + 1 + 1)) % 32 = s.tk + 1 then none else s.L (s.tk + 1 + 1 + ((p : Int) - (s.tk + 1 + 1)) % 32)) = if (p : Int) = (s.tk + 1) % 32 then none else s.L (s.tk + 1 + ((p : Int) - (s.tk + 1)) % 32)
  rw [if_neg (by omega)]
  by_cases e : (p : Int) = (s.tk + 1) % 32
  · rw [if_pos e]
    exact h.none (by have := h.w2; omega)
  · rw [if_neg e]
    congr 1
    omega
theorem rv_take {w : World} {rb : Nat} {s : Rc} (h : Rv w rb s) (ht : s.tk < 4611686018427387904) (p : Nat) (hp : p < 32) (hpe : (s.tk + 1) % 32 = (p : Int)) :
    Rv (((w.setCell ⟨rb, 3 + p * 2, none⟩ (.bool false)).setCell ⟨rb, 3 + p * 2 + 1, none⟩ (.string (strOfNums []))).setCell ⟨rb, 2, none⟩ (.int .i64 (s.tk + 1))) rb (takeA s) := by
  have hat := take_at h.ok
  have hok := rtake_ok h.ok ht
  obtain ⟨h1, cs, h2, h3, h4, h5, h6, h7⟩ := h
  refine ⟨hok, _, ((h2.set (3 + p * 2) _).set (3 + p * 2 + 1) _).set 2 _, by simp [h3], ?_, ?_, ?_, fun q hq => ?_⟩
  · rw [Array.getElem?_setIfInBounds_ne (by omega), Array.getElem?_setIfInBounds_ne (by omega), Array.getElem?_setIfInBounds_ne (by omega)]; exact h4
  · rw [Array.getElem?_setIfInBounds_ne (by omega), Array.getElem?_setIfInBounds_ne (by omega), Array.getElem?_setIfInBounds_ne (by omega)]; exact h5
  · rw [Array.getElem?_setIfInBounds_self_of_lt (by simp [h3])]; rfl
  · rw [hat q hq, hpe]
    by_cases e : q = p
    · subst e
      rw [if_pos rfl]
      constructor
      · rw [Array.getElem?_setIfInBounds_ne (by omega), Array.getElem?_setIfInBounds_ne (by omega), Array.getElem?_setIfInBounds_self_of_lt (by omega)]; rfl
      · rw [Array.getElem?_setIfInBounds_ne (by omega), Array.getElem?_setIfInBounds_self_of_lt (by simp [h3]; omega)]; rfl
    · rw [if_neg (by omega)]
      rw [Array.getElem?_setIfInBounds_ne (by omega), Array.getElem?_setIfInBounds_ne (by omega), Array.getElem?_setIfInBounds_ne (by omega), Array.getElem?_setIfInBounds_ne (by omega), Array.getElem?_setIfInBounds_ne (by omega), Array.getElem?_setIfInBounds_ne (by omega)]
      exact h7 q hq
/-- A SLICE OF BYTES THAT A CALL ANSWERED: all from B on. -/
structure Sl (w : World) (B : Nat) (a : Option Addr) (n c : Nat) (zs : List Int) : Prop where
  by_ : Bytes w a zs
  len : zs.length = n
  le : n ≤ c
  mx : c ≤ 9223372036854775807
  nil : a = none → c = 0
  at_ : ∀ x, a = some x → B ≤ x.block ∧ x.block < w.heap.size
  ty : ∀ x, a = some x → ∃ cs fr, w.heap[x.block]? = some (.cells cs 5 fr)
theorem strOfNums_size (zs : List Int) : (strOfNums zs).size = zs.length := by
  rw [ByteArray.size, ← Array.length_toList, strOfNums_data]
  simp
theorem bytesWorld_bytes (w : World) (zs : List Int) (hz : ∀ c ∈ zs, 0 ≤ c ∧ c < 256) (hm : zs.length ≤ maxLen) : Bytes (Lib.bytesWorld w 5 (strOfNums zs)) (some ⟨w.heap.size, 0, none⟩) zs := by
  refine ⟨hz, hm, .inr ⟨_, _, rfl, fun i hi => ?_⟩⟩
  rw [Nat.zero_add, Lib.bytesWorld_cell w 5 _ i (by rw [strOfNums_size]; exact hi), strOfNums_data, List.getD_eq_getElem?_getD, List.getElem?_map, List.getElem?_eq_getElem hi, List.getD_eq_getElem?_getD, List.getElem?_eq_getElem hi]
  have := hz _ (List.getElem_mem hi)
  simp only [Option.map_some, Option.getD_some, UInt8.toNat_ofNat']
  congr 2
  rw [Nat.mod_eq_of_lt (by omega)]
  omega
theorem take_no {rb : Nat} {s : Rc} {w : World} (h : Rv w rb s) (hL : s.L (s.tk + 1) = none) :
    Calls Tryz.prog 58 #[.pointer (some ⟨rb, 0, none⟩)] w fun e w' => e = .returned (.tuple #[.slice none 0 0, .bool false]) ∧ ∃ m, w' = w.drewN m := by
  have k0 := rmade_yes rb w h.c0
  have c2 := h.c2
  have k1 := holds_any (s.tk + 1) h
  rw [hL] at k1
  have hw : IntKind.i64.wrap (s.tk + 1) = s.tk + 1 := by
    have := h.ok.t1; have := h.ok.t2
    rw [IntKind.wrap_i64]; omega
  clear h hL
  go_enter Tryz.func58, Tryz.ntmps58
  go_wp2_with (first | (go_at_call 76; refine k0.mono ?_; rintro e w1 ⟨rfl, hw1⟩; obtain rfl := hw1.symm; clear k0 hw1) | (go_at_call 78; refine k1.mono ?_; rintro e w1 ⟨rfl, m1, rfl⟩; clear k1))
  go_ret2
  exact ⟨rfl, _, rfl⟩
set_option maxHeartbeats 1000000 in
theorem take_yes {rb : Nat} {s : Rc} {w : World} (l : List Int) (h : Rv w rb s) (ht : s.tk < 4611686018427387904) (hL : s.L (s.tk + 1) = some l) :
    Calls Tryz.prog 58 #[.pointer (some ⟨rb, 0, none⟩)] w fun e w' => ∃ g n c, e = .returned (.tuple #[.slice (some ⟨g, 0, none⟩) n c, .bool true]) ∧ Hid (Sl w' w.heap.size (some ⟨g, 0, none⟩) n c l) ∧ Hid (Rv w' rb (takeA s)) ∧ Hid (K2 rb rb w w') := by
  have k0 := rmade_yes rb w h.c0
  have c2 := h.c2
  have k1 := holds_any (s.tk + 1) h
  rw [hL] at k1
  have hw : IntKind.i64.wrap (s.tk + 1) = s.tk + 1 := by
    have := h.ok.t1; have := h.ok.t2
    rw [IntKind.wrap_i64]; omega
  have k3 := fun x => place_any (s.tk + 1) x (by have := h.ok.t1; omega)
  obtain ⟨p, hp⟩ : ∃ p : Nat, (s.tk + 1) % 32 = (p : Int) := ⟨((s.tk + 1) % 32).toNat, by omega⟩
  have hp3 : p < 32 := by omega
  have hi : decide ((p : Int) < 32) = true := by simp; omega
  have hi0 : decide ((0 : Int) ≤ (p : Int)) = true := by simp
  rw [hp] at k3
  have q1 := h.cA hp3
  have q2 := h.cB hp3
  have eat : s.at p = some l := by rw [← hL, ← Rc.at_of (s := s) (z := s.tk + 1) (by omega) (by omega), hp]; rfl
  rw [eat] at q1 q2
  simp only [Option.getD_some, Option.isSome_some] at q1 q2
  have hcv := fun x => Lib.run_convert_string_bytes (P := Tryz.prog) x 9 42 5 (strOfNums l) Tryz.underlying9 Tryz.underlying42 Tryz.underlying5
  have f1 := h.fz (3 + p * 2)
  have f2 := h.fz (3 + p * 2 + 1)
  have hlt := h.lt
  have hR : Hid (Rv w rb s) := h
  have hP : Hid ((s.tk + 1) % 32 = (p : Int)) := hp
  have hl := h.ok.few _ _ hL
  have hl' : Hid (l.length ≤ 1200 ∧ ∀ c ∈ l, 0 ≤ c ∧ c < 256) := hl
  clear hp eat hL h hl
  go_enter Tryz.func58, Tryz.ntmps58
  go_wp2_with (first | (go_at_call 76; refine k0.mono ?_; rintro e w1 ⟨rfl, hw1⟩; obtain rfl := hw1.symm; clear k0 hw1) | (go_at_call 78; refine k1.mono ?_; rintro e w1 ⟨rfl, m1, rfl⟩; clear k1))
  go_region_with (first | (go_at_call 80; refine (k3 _).mono ?_; rintro e w1 ⟨rfl, hw1⟩; obtain rfl := hw1.symm; clear hw1))
  have hB : Hid (Below w.heap.size w (Lib.bytesWorld (w.drewN (m1 + 1)) 5 (strOfNums l))) := ⟨rfl, rfl, rfl, by rw [Lib.bytesWorld_size]; show w.heap.size ≤ w.heap.size + 1; omega, fun k hk => Lib.bytesWorld_at_old (w.drewN (m1 + 1)) 5 _ k hk⟩
  have hS : Hid (Sl (Lib.bytesWorld (w.drewN (m1 + 1)) 5 (strOfNums l)) w.heap.size (some ⟨w.heap.size, 0, none⟩) (strOfNums l).size (grownCap (w.drewN (m1 + 1)) (strOfNums l).size 0 5) l) := by
    have hsz := strOfNums_size l
    refine ⟨bytesWorld_bytes (w.drewN (m1 + 1)) l hl'.out.2 (by have := hl'.out.1; unfold maxLen; omega), hsz.symm, grownCap_ge _ _ _ _, ?_, (fun h => by cases h), ?_, fun x hx => by cases hx; exact ⟨_, _, Lib.bytesWorld_at_new (w.drewN (m1 + 1)) 5 (strOfNums l)⟩⟩
    · have := grownCap_le_maxLen (w.drewN (m1 + 1)) (strOfNums l).size 0 5 (by have := hl'.out.1; unfold maxLen; omega)
      simpa [maxLen] using this
    · intro x hx
      cases hx
      rw [Lib.bytesWorld_size]
      exact ⟨Nat.le_refl _, by show w.heap.size < w.heap.size + 1; omega⟩
  clear hcv
  generalize Lib.bytesWorld (w.drewN (m1 + 1)) 5 (strOfNums l) = W at *
  generalize (strOfNums l).size = n at *
  generalize grownCap (w.drewN (m1 + 1)) n 0 5 = c at *
  have hRW := hR.out.kept hB.out
  have f1 := hRW.fz (3 + p * 2)
  have f2 := hRW.fz (3 + p * 2 + 1)
  have f3 := hRW.fz 2
  have g1 := hRW.cA hp3
  have g2 := hRW.cB hp3
  have g3 := hRW.c2
  have k : K2 rb rb W ((((W.setCell ⟨rb, 3 + p * 2, none⟩ (.bool false)).setCell ⟨rb, 3 + p * 2 + 1, none⟩ (.string ⟨#[]⟩)).setCell ⟨rb, 2, none⟩ (.int .i64 (s.tk + 1))).drew) := ((K2.set W _ _).trans ((K2.set _ _ _).trans (K2.set _ _ _))).drew
  have hF : Hid (Rv ((((W.setCell ⟨rb, 3 + p * 2, none⟩ (.bool false)).setCell ⟨rb, 3 + p * 2 + 1, none⟩ (.string ⟨#[]⟩)).setCell ⟨rb, 2, none⟩ (.int .i64 (s.tk + 1))).drew) rb (takeA s)) := (rv_take hRW ht p hp3 hP.out).drew
  have hK : Hid (K2 rb rb w ((((W.setCell ⟨rb, 3 + p * 2, none⟩ (.bool false)).setCell ⟨rb, 3 + p * 2 + 1, none⟩ (.string ⟨#[]⟩)).setCell ⟨rb, 2, none⟩ (.int .i64 (s.tk + 1))).drew)) := (K2.of_below hB.out).trans k
  have hT : Hid (Sl ((((W.setCell ⟨rb, 3 + p * 2, none⟩ (.bool false)).setCell ⟨rb, 3 + p * 2 + 1, none⟩ (.string ⟨#[]⟩)).setCell ⟨rb, 2, none⟩ (.int .i64 (s.tk + 1))).drew) w.heap.size (some ⟨w.heap.size, 0, none⟩) n c l) := by
    obtain ⟨t1, t2, t3, t4, t5, t6, t7⟩ := hS.out
    refine ⟨t1.k2 k (fun x hx => ?_), t2, t3, t4, t5, fun x hx => ⟨(t6 x hx).1, Nat.lt_of_lt_of_le (t6 x hx).2 k.size⟩, fun x hx => (t7 x hx).imp fun cs => Exists.imp fun fr h => (k.block x.block (t6 x hx).2 (by have := (t6 x hx).1; omega) (by have := (t6 x hx).1; omega)).trans h⟩
    have := (t6 x hx).1
    omega
  clear hRW hB hS hR hlt k
  go_wp2_with fail
  go_region_with (first | (go_at_call 80; refine (k3 _).mono ?_; rintro e w1 ⟨rfl, hw1⟩; obtain rfl := hw1.symm; clear hw1))
  go_wp2
  go_ret2
  exact ⟨_, _, _, rfl, hT, hF, hK⟩
end Go.Proofs.YtfipdldoklkciaaGreat
namespace Go.Proofs.YtfipdldoklkciaaGreat
open Go.RowKit
set_option linter.unusedVariables false
/-- HOW MANY CAME WITHOUT A GAP. -/
def rdF (s : Rc) : Nat → Nat → Nat
  | 0, n => n
  | k + 1, n => if (s.L (s.tk + 1 + (n : Int))).isSome = true then rdF s k (n + 1) else n
def rdy (s : Rc) : Nat := rdF s 33 0
theorem rdF_spec (s : Rc) (h : Rok s) : ∀ (k n : Nat), n + k = 33 → (∀ j, j < n → (s.L (s.tk + 1 + (j : Int))).isSome = true) → (∀ j, j < rdF s k n → (s.L (s.tk + 1 + (j : Int))).isSome = true) ∧ s.L (s.tk + 1 + (rdF s k n : Int)) = none
  | 0, n, hn, hj => by
    have := h.inn _ (hj 32 (by omega))
    have := h.w2
    omega
  | k + 1, n, hn, hj => by
    unfold rdF
    split
    · rename_i hs
      exact rdF_spec s h k (n + 1) (by omega) (fun j hlt => by
        by_cases e : j = n
        · rw [e]; exact hs
        · exact hj j (by omega))
    · rename_i hs
      refine ⟨hj, ?_⟩
      cases hL : s.L (s.tk + 1 + (n : Int)) with
      | none => rfl
      | some l => rw [hL] at hs; simp at hs
theorem rdy_in {s : Rc} (h : Rok s) {j : Nat} (hj : j < rdy s) : (s.L (s.tk + 1 + (j : Int))).isSome = true := (rdF_spec s h 33 0 rfl (fun _ h => by omega)).1 j hj
theorem rdy_end {s : Rc} (h : Rok s) : s.L (s.tk + 1 + (rdy s : Int)) = none := (rdF_spec s h 33 0 rfl (fun _ h => by omega)).2
theorem rdy_le {s : Rc} (h : Rok s) : (rdy s : Int) ≤ s.win := by
  by_cases e : rdy s = 0
  · have := h.w1; omega
  · have := h.inn _ (rdy_in h (j := rdy s - 1) (by omega))
    omega
/-- What is ready, if all below n came and n did not. -/
theorem rdy_of {s : Rc} (h : Rok s) {n : Nat} (h1 : ∀ j, j < n → (s.L (s.tk + 1 + (j : Int))).isSome = true) (h2 : s.L (s.tk + 1 + (n : Int)) = none) : rdy s = n := by
  rcases Nat.lt_trichotomy (rdy s) n with k | k | k
  · have := h1 _ k
    rw [rdy_end h] at this
    cases this
  · exact k
  · have := rdy_in h k
    rw [h2] at this
    cases this
theorem ready_any {rb : Nat} {s : Rc} {w : World} (h : Rv w rb s) :
    Calls Tryz.prog 85 #[.pointer (some ⟨rb, 0, none⟩)] w fun e w' => e = .returned (.int .i64 (rdy s)) ∧ ∃ m, w' = w.drewN m := by
  have k0 := rmade_yes rb w h.c0
  have hR : Hid (Rv w rb s) := h
  have hw2 := h.ok.w2
  have ht1 := h.ok.t1
  have ht2 := h.ok.t2
  clear h
  go_enter Tryz.func85, Tryz.ntmps85
  go_wp2_with (go_at_call 76; refine k0.mono ?_; rintro e w1 ⟨rfl, hw1⟩; obtain rfl := hw1.symm; clear k0 hw1)
  go_loopw [3] (fun s3 wr => ∃ (n m : Nat), n ≤ 32 ∧ s3 = .int .i64 (n : Int) ∧ Hid (∀ j, j < n → (s.L (s.tk + 1 + (j : Int))).isSome = true) ∧ wr = w.drewN m) (fun v _ => 33 - (intOf v).toNat)
  case atStart => exact ⟨0, 0, by omega, rfl, fun _ h => by omega, rfl⟩
  case round =>
    obtain ⟨n, m, hn, rfl, hj, rfl⟩ := hrel
    have c2 := (hR.out.dn m).c2
    have hw : IntKind.i64.wrap (s.tk + 1) = s.tk + 1 := by rw [IntKind.wrap_i64]; omega
    have hw' : IntKind.i64.wrap (s.tk + 1 + (n : Int)) = s.tk + 1 + (n : Int) := by rw [IntKind.wrap_i64]; omega
    have k1 := holds_any (s.tk + 1 + (n : Int)) (hR.out.dn m)
    cases hL : (s.L (s.tk + 1 + (n : Int))).isSome with
    | true =>
      rw [hL] at k1
      have hn' : n < 32 := by
        have := hR.out.ok.inn _ hL
        omega
      have hLL : Hid ((s.L (s.tk + 1 + (n : Int))).isSome = true) := hL
      clear hL
      go_wp2_with (go_at_call 78; refine k1.mono ?_; rintro e w1 ⟨rfl, m1, rfl⟩; clear k1)
      refine ⟨⟨n + 1, _, by omega, by simp, fun j hlt => ?_, rfl⟩, by simp [intOf]; omega⟩
      by_cases e : j = n
      · rw [e]; exact hLL.out
      · exact hj.out j (by omega)
    | false =>
      rw [hL] at k1
      have hLL : Hid (rdy s = n) := rdy_of hR.out.ok hj.out (by
        cases hx : s.L (s.tk + 1 + (n : Int)) with
        | none => rfl
        | some l => rw [hx] at hL; cases hL)
      clear hL
      go_wp2_with (go_at_call 78; refine k1.mono ?_; rintro e w1 ⟨rfl, m1, rfl⟩; clear k1)
      go_ret
      exact ⟨by rw [hLL.out]; rfl, _, rfl⟩
/-- The bits of a row of answers. -/
def bF (f : Nat → Bool) : Nat → Int
  | 0 => 0
  | i + 1 => if f i = true then bF f i + 2 ^ i else bF f i
theorem bF_bnd (f : Nat → Bool) : ∀ i, 0 ≤ bF f i ∧ bF f i < 2 ^ i
  | 0 => by simp [bF]
  | i + 1 => by
    have := bF_bnd f i
    have hp : (0 : Int) < 2 ^ i := Int.pow_pos (by decide)
    unfold bF
    rw [Int.pow_succ]
    split <;> omega
theorem two_int (k : Nat) : ((2 ^ k : Nat) : Int) = (2 : Int) ^ k := Int.natCast_pow 2 k
theorem two_up {m k : Nat} (h : m ≤ k) : (2 : Int) ^ m ≤ 2 ^ k := by
  rw [← two_int, ← two_int]
  exact Int.ofNat_le.2 (Nat.pow_le_pow_right (by decide) h)
theorem two_u64 {i : Nat} (h : i < 64) : (2 : Int) ^ i < 18446744073709551616 := by
  have := two_up (m := i) (k := 63) (by omega)
  have e : (2 : Int) ^ 63 = 9223372036854775808 := by decide
  omega
theorem two_lt64 {i : Nat} (h : i < 64) : (2 : Int) ^ i < 2 ^ 64 := by
  have h2 := two_u64 h
  have e : (2 : Int) ^ 64 = 18446744073709551616 := by decide
  omega
theorem bF_or (f : Nat → Bool) (i : Nat) (h : i < 64) : bits .or .u64 (bF f i) (2 ^ i) = bF f i + 2 ^ i := by
  have hb := bF_bnd f i
  have h2 := two_u64 h
  have e : (2 : Int) ^ 64 = 18446744073709551616 := by decide
  exact bits_join_low .u64 64 (by decide) wraps_u64 i _ _ hb.1 hb.2 (by omega) (Int.le_of_lt (Int.pow_pos (by decide))) (Int.emod_self) (by omega)
theorem wrap_two {i : Nat} (h : i < 64) : IntKind.u64.wrap (2 ^ i) = 2 ^ i := wraps_u64 _ (Int.le_of_lt (Int.pow_pos (by decide))) (two_lt64 h)
theorem bF_congr {f g : Nat → Bool} : ∀ (i : Nat), (∀ j, j < i → f j = g j) → bF f i = bF g i
  | 0, _ => rfl
  | i + 1, h => by
    unfold bF
    rw [bF_congr i (fun j hj => h j (by omega)), h i (by omega)]
theorem bF_stop {f : Nat → Bool} {i : Nat} : ∀ (k : Nat), (∀ j, i ≤ j → j < i + k → f j = false) → bF f (i + k) = bF f i
  | 0, _ => rfl
  | k + 1, h => by
    have e : bF f (i + (k + 1)) = if f (i + k) = true then bF f (i + k) + 2 ^ (i + k) else bF f (i + k) := rfl
    rw [e, h (i + k) (by omega) (by omega), if_neg (by decide)]
    exact bF_stop k (fun j h1 h2 => h j h1 (by omega))
/-- THE ACK, AND ITS BITS. -/
def ackN (s : Rc) : Int := s.tk + (rdy s : Int)
def ackF (s : Rc) (i : Nat) : Bool := (s.L (ackN s + 2 + (i : Int))).isSome
def ackB (s : Rc) : Int := bF (ackF s) 64
set_option maxHeartbeats 1000000 in
theorem ack_any {rb : Nat} {s : Rc} {w : World} (h : Rv w rb s) :
    Calls Tryz.prog 54 #[.pointer (some ⟨rb, 0, none⟩)] w fun e w' => e = .returned (.tuple #[.int .i64 (ackN s), .int .u64 (ackB s), .int .i64 (s.tk + s.win)]) ∧ ∃ m, w' = w.drewN m := by
  have k0 := rmade_yes rb w h.c0
  have hR : Hid (Rv w rb s) := h
  have hw1 := h.ok.w1
  have hw2 := h.ok.w2
  have ht1 := h.ok.t1
  have ht2 := h.ok.t2
  have hrl := rdy_le h.ok
  have c2 := h.c2
  have cX := fun m => (h.dn m).c2
  have k1 := ready_any h
  have kX := fun m => ready_any (h.dn m)
  have hwa : IntKind.i64.wrap (s.tk + (rdy s : Int)) = ackN s := by unfold ackN; rw [IntKind.wrap_i64]; omega
  have hb : Hid (0 ≤ ackN s ∧ ackN s ≤ 4611686018427387904 + 32) := by show _ ∧ _; unfold ackN; omega
  clear h
  go_enter Tryz.func54, Tryz.ntmps54
  go_wp2_with (go_at_call 76; refine k0.mono ?_; rintro e w1 ⟨rfl, hw1⟩; obtain rfl := hw1.symm; clear k0 hw1)
  go_quiet ((first | (go_at_call 85; exact Calls.quiet_of k1) | (go_at_call 85; exact Calls.quiet_of (kX _))))
  go_wp2
  clear k1 kX c2 cX hwa
  generalize hA : ackN s = A at *
  have hA' : Hid (ackN s = A) := hA
  clear hA
  go_loopw [6, 18] (fun s6 s18 wr => ∃ (i m : Nat), i ≤ 64 ∧ s6 = .int .u64 (bF (ackF s) i) ∧ s18 = .int .i64 (i : Int) ∧ wr = w.drewN m) (fun _ v _ => 64 - (intOf v).toNat)
  case atStart => exact ⟨0, _, by omega, rfl, rfl, rfl⟩
  case round =>
    obtain ⟨i, m, hi, rfl, rfl, rfl⟩ := hrel
    by_cases hlt : i < 64
    · have hd : decide ((i : Int) < 64) = true := by simp; omega
      have hwb : IntKind.i64.wrap (A + 2) = A + 2 := by have := hb.out; rw [IntKind.wrap_i64]; omega
      have hwc : IntKind.i64.wrap (A + 2 + (i : Int)) = A + 2 + (i : Int) := by have := hb.out; rw [IntKind.wrap_i64]; omega
      have k2 := holds_any (A + 2 + (i : Int)) (hR.out.dn m)
      have hF : ackF s i = (s.L (A + 2 + (i : Int))).isSome := by unfold ackF; rw [hA'.out]
      have hsh := wrap_two hlt
      have hor := bF_or (ackF s) i hlt
      have hN : bF (ackF s) (i + 1) = if ackF s i = true then bF (ackF s) i + 2 ^ i else bF (ackF s) i := rfl
      rw [← hF] at k2
      clear hF
      cases hL : ackF s i with
      | true =>
        rw [hL] at k2 hN
        rw [if_pos rfl] at hN
        rw [← hN] at hor
        have hN' : Hid (bF (ackF s) (i + 1) = bF (ackF s) i + 2 ^ i) := hN
        clear hN
        generalize bF (ackF s) i = b at *
        generalize hb1 : bF (ackF s) (i + 1) = b1 at *
        go_wp2_with (go_at_call 78; refine k2.mono ?_; rintro e w1 ⟨rfl, m1, rfl⟩; clear k2)
        exact ⟨⟨i + 1, _, by omega, by rw [hb1], by simp, rfl⟩, by simp [intOf]; omega⟩
      | false =>
        rw [hL] at k2 hN
        rw [if_neg (by decide)] at hN
        go_wp2_with (go_at_call 78; refine k2.mono ?_; rintro e w1 ⟨rfl, m1, rfl⟩; clear k2)
        exact ⟨⟨i + 1, _, by omega, by rw [hN], by simp, rfl⟩, by simp [intOf]; omega⟩
    · have hd : decide ((i : Int) < 64) = false := by simp; omega
      obtain rfl : i = 64 := by omega
      have k2 := credit_any (hR.out.dn m)
      go_wp2_with (go_at_call 79; refine k2.mono ?_; rintro e w1 ⟨rfl, m1, rfl⟩; clear k2)
      refine bodyPost_ret (v := .tuple #[.int .i64 A, .int .u64 (bF (ackF s) 64), .int .i64 (s.tk + s.win)]) (by simp [results, Tryz.results54, go_sem]) rfl ?_
      exact ⟨by rw [hA'.out]; rfl, _, rfl⟩
end Go.Proofs.YtfipdldoklkciaaGreat
