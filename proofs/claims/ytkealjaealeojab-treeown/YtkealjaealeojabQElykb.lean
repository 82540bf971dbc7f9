/-
  A tree with a node at a path, as the document says: Lay.
-/
import Derived.Test.YtkealjaealeojabQElh
namespace Go.Proofs.Ytkealjaealeojab
open Go.RowKit
set_option linter.unusedVariables false
set_option maxHeartbeats 4000000 in
set_option maxRecDepth 100000 in
theorem lay_key_last {B D Dx : Nat} {t tx : Tr} {b x : Nb} {w : World} {pa : Option Addr} {np cp : Nat} {k : Int} {p : List Int} {j : Nat} (hB : B ≤ w.heap.size) (hN : NdS (· < B) (D + 1) w b t) (hX : NdS (· < B) Dx w x tx) (hp : PathOk w pa np cp (k :: p)) (hsz : t.size ≤ 1000000) (hc1 : cp = 1) (hw : t.way k = some (j, true)) (ih : ∀ (D : Nat) (t : Tr) (b : Nb) (w : World) (pa : Option Addr) (np cp : Nat), B ≤ w.heap.size → NdS (· < B) D w b t → NdS (· < B) Dx w x tx → PathOk w pa np cp p → t.size ≤ 1000000 → Calls Try.prog 28 #[.agg b.arr, .slice pa np cp, .agg x.arr] w fun e w' => (∃ b' er, e = .returned (.tuple #[.agg b'.arr, .int .i64 er]) ∧ LayIs B (D + Dx) w w' t tx p b' er) ∧ Below w.heap.size w w') :
    Calls Try.prog 28 #[.agg b.arr, .slice pa np cp, .agg x.arr] w fun e w' => (∃ b' er, e = .returned (.tuple #[.agg b'.arr, .int .i64 er]) ∧ LayIs B ((D + 1) + Dx) w w' t tx (k :: p) b' er) ∧ Below w.heap.size w w' := by
  have T0 : Hid (Bt w (((w.alloc (.cells b.arr 26)).alloc (.cells x.arr 26)).alloc (.cells #[.int .i64 0, .int .u64 0, .bool false, .string ⟨#[]⟩, .int .i64 0, .string ⟨#[]⟩, .slice none 0 0, .slice none 0 0, .slice none 0 0] 26)) b x zN) := bt_new w b x zN
  have hP : Hid (PathOk w pa np cp (k :: p)) := hp
  have hX' : Hid (NdS (· < B) Dx w x tx) := hX
  have hB' : Hid (B ≤ w.heap.size) := hB
  have hS : Hid (t.size ≤ 1000000) := hsz
  have hnp : ((np : Int) == 0) = false := by have := hp.1; simp at this; simp; omega
  have hnp0 : 0 < np := by have := hp.1; simp at this; omega
  have hnp2 : (1 : Int) ≤ (np : Int) := by have := hp.1; simp at this; omega
  have hnp3 : 1 ≤ np := by have := hp.1; simp at this; omega
  have hnp1 : (0 : Int) < (np : Int) := by have := hp.1; simp at this; omega
  obtain ⟨pb, po, rfl, hpc⟩ : ∃ pb po, pa = some ⟨pb, po, none⟩ ∧ ∀ wx, Below w.heap.size w wx → wx.cell? ⟨pb, po, none⟩ = some (.int .i64 k) := by
    rcases hp.2.1.2 with h2 | ⟨pb, po, h2, _⟩
    · cases h2
    · exact ⟨pb, po, h2, fun wx hb => by have h1 := hp.2.1.kept hb; rw [h2] at h1; have := h1.cell (i := 0) (by simp); simpa using this⟩
  have hpc' : Hid (∀ wx, Below w.heap.size w wx → wx.cell? ⟨pb, po, none⟩ = some (.int .i64 k)) := hpc
  have hkr := hp.2.2.2.1 k List.mem_cons_self
  have hN' : Hid (NdS (· < B) (D + 1) w b t) := hN
  have rk := hN.2.2.2.2.1.2.1
  have ri := hN.2.2.2.2.2.2.1
  have kw := fun w' => eway_any b k hkr.2 ⟨rk.1, rk.2.1, ri.1, ri.2.1⟩ w'
  have mk' := rk.2.1
  have mi' := ri.2.1
  have mk1 := rk.1
  have mi1 := ri.1
  have hnk : Hid (b.ak = none → b.ck = 0) := rk.2.2.1
  have hni : Hid (b.ai = none → b.ci = 0) := ri.2.2.1
  unfold maxLen at mk' mi'
  have ncp : np ≤ cp := hp.2.2.1
  have np2 := hp.2.2.2.2
  obtain ⟨f0, f1, f2, f3, f4, f5, f6, f7, f8⟩ := T0.out.one.fields
  have hyes := wayA_yes hN.nd hw
  rw [hyes] at kw
  have hjl : j < (t.side true).length := Tr.way_lt hw
  have hu : (t.side true)[j]? = some (t.side true)[j] := List.getElem?_eq_getElem hjl
  have hLay := Tr.lay_some (x := tx) (p := p) hw hu
  obtain ⟨bsk, hlk, hNk, hQk⟩ := hN.2.2.2.2.1.nodes
  obtain ⟨bsi, hli, hNi, hQi⟩ := hN.2.2.2.2.2.nodes
  have elk : bsk.length = b.lk := hlk.trans hN.2.2.2.2.1.1
  have eli : bsi.length = b.li := hli.trans hN.2.2.2.2.2.1
  have szk : b.lk ≤ 1000000 := by have := hN.2.2.2.2.1.1; have := Tr.length_le t.keys; have := Tr.size_eq t; omega
  have szi : b.li ≤ 1000000 := by have := hN.2.2.2.2.2.1; have := Tr.length_le t.kids; have := Tr.size_eq t; omega
  have hNk' : Hid (∀ wx, Below w.heap.size w wx → Nine wx b.ak bsk) := fun wx h => hNk.kept h
  have hNi' : Hid (∀ wx, Below w.heap.size w wx → Nine wx b.ai bsi) := fun wx h => hNi.kept h
  have elk' : Hid (bsk.length = b.lk) := elk
  have eli' : Hid (bsi.length = b.li) := eli
  have szk' : Hid (b.lk ≤ 1000000) := szk
  have szi' : Hid (b.li ≤ 1000000) := szi
  have hwy : Hid (t.way k = some (j, true)) := hw
  have hju : j < bsk.length := by rw [hlk]; exact hjl
  have hUk := hQk j hju hjl
  have hUs : (t.side true)[j].size ≤ 1000000 := Nat.le_trans (Nat.le_of_lt (Tr.key_lt (List.getElem_mem hjl))) hsz
  have hbs : Hid (∀ i (h : i < bsk.length) (k : i < (t.side true).length), NdS (· < B) D w bsk[i] (t.side true)[i]) := hQk
  have kL : Hid (∀ (w' : World) (pa' : Option Addr) (nq cq : Nat), Below w.heap.size w w' → PathOk w' pa' nq cq p → Calls Try.prog 28 #[.agg (bsk[j]).arr, .slice pa' nq cq, .agg x.arr] w' fun e w'' => (∃ b' er, e = .returned (.tuple #[.agg b'.arr, .int .i64 er]) ∧ LayIs B (D + Dx) w' w'' ((t.side true)[j]) tx p b' er) ∧ Below w'.heap.size w' w'') := fun w' pa' nq cq hb hp => ih D _ _ w' pa' nq cq (Nat.le_trans hB hb.size) (hUk.below hb fun k hk => Nat.lt_of_lt_of_le hk hB) (hX.below hb fun k hk => Nat.lt_of_lt_of_le hk hB) hp hUs
  generalize hnk9 : bsk[j] = nk at kL
  have hbl' : Hid (bsk.length = (t.side true).length) := hlk
  have hju' : Hid (∃ h : j < bsk.length, bsk[j] = nk) := ⟨hju, hnk9⟩
  generalize hu9 : (t.side true)[j] = u at kL hu hLay
  have hjz : (0 : Int) ≤ (j : Int) := by omega
  have hjn : (j : Int) < (b.lk : Int) := by omega
  clear hnk9 hu9; clear hw hyes hB hN hX hp hsz hpc rk ri ih hNk hNi hQk hQi hUk hUs hlk hli szk szi elk eli; clear hju; clear hu hjl
  have hLay' : Hid (t.lay tx (k :: p) = _) := hLay
  clear hLay
  have hc1' : (cp = 1) = True := eq_true hc1
  have hc1h : Hid (cp = 1) := hc1
  clear hc1
  go_enter Try.func28, Try.ntmps28
  go_wp2
  go_region_held3 (fun wx => (wx.cell? ⟨w.heap.size, 0, none⟩ = some (.int .i64 b.kind) ∧ wx.cell? ⟨w.heap.size, 1, none⟩ = some (.int .u64 b.num) ∧ wx.cell? ⟨w.heap.size, 2, none⟩ = some (.bool b.neg) ∧ wx.cell? ⟨w.heap.size, 3, none⟩ = some (.string b.dig) ∧ wx.cell? ⟨w.heap.size, 4, none⟩ = some (.int .i64 b.exp) ∧ wx.cell? ⟨w.heap.size, 5, none⟩ = some (.string b.txt) ∧ wx.cell? ⟨w.heap.size, 6, none⟩ = some (.slice b.ab b.lb b.cb) ∧ wx.cell? ⟨w.heap.size, 7, none⟩ = some (.slice b.ak b.lk b.ck) ∧ wx.cell? ⟨w.heap.size, 8, none⟩ = some (.slice b.ai b.li b.ci)) ∧ wx.cell? ⟨pb, po, none⟩ = some (.int .i64 k)) (first | exact ⟨T0.out.one.fields, hpc'.out _ T0.out.bel.drew⟩ | exact ⟨T1.out.one.fields, hpc'.out _ T1.out.bel⟩) (first
  | (go_at_call 42; refine (kw _).mono ?_; rintro e w1 ⟨rfl, q1⟩; have T1 : Hid (Bt w w1 b x zN) := T0.out.drew.on q1; clear q1))
  obtain ⟨f0, f1, f2, f3, f4, f5, f6, f7, f8⟩ := T1.out.one.fields
  go_wp2_with (first
    | (at_builtin; refine wpList_append_nodes Try.underlying24 infoN rfl _ (.tmp 31) rfl w1.heap.size (.slice none 0 0) [] bsi rfl (ownsN_nil _ _) b.ai b.li b.ci rfl eli'.out hni.out (hNi'.out _ T1.out.bel) (by have := eli'.out; have := szi'.out; simp; omega) (Nat.le_refl _) ?_; intro v3 w3 ho3 hg3; have hb3 : Below w1.heap.size w1 w3 := ⟨hg3.os, hg3.tape, hg3.output, hg3.size, fun k hk => hg3.block k hk (fun e => by cases e)⟩; have T3 : Hid (Bt w w3 b x zN) := T1.out.on hb3; clear ho3 hg3; clear f0 f1 f2 f3 f4 f5 f6 f7 f8; obtain ⟨f0, f1, f2, f3, f4, f5, f6, f7, f8⟩ := T3.out.one.fields)
    | (at_builtin; refine wpList_append_nodes Try.underlying24 infoN rfl _ (.tmp 35) rfl w3.heap.size (.slice none 0 0) [] bsk rfl (ownsN_nil _ _) b.ak b.lk b.ck rfl elk'.out hnk.out (hNk'.out _ T3.out.bel) (by have := elk'.out; have := szk'.out; simp; omega) (Nat.le_refl _) ?_; intro v4 w4 ho4 hg4; rw [List.nil_append] at ho4; obtain ⟨g, o, c4, cur, rfl, ho0, hc4, hc5, hg4', hg5, hrow, hroom, hsp, hnine⟩ := own_pos ho4 hju'.out.1; have hb4 : Below w3.heap.size w3 w4 := ⟨hg4.os, hg4.tape, hg4.output, hg4.size, fun k hk => hg4.block k hk (fun e => by cases e)⟩; have T4 : Hid (Bt w w4 b x zN) := T3.out.on hb4; rw [elk'.out] at hc4 ⊢; have ho0' : Hid (o = 0) := ho0; clear ho0; have hsp : Spot w4 g (o + j * 9) nk := hju'.out.2 ▸ hsp))
  have S9 : Hid (∀ wx, Below w4.heap.size w4 wx → (wx.cell? ⟨g, o + j * 9, none⟩ = some (.int .i64 nk.kind) ∧ wx.cell? ⟨g, o + j * 9 + 1, none⟩ = some (.int .u64 nk.num) ∧ wx.cell? ⟨g, o + j * 9 + 2, none⟩ = some (.bool nk.neg) ∧ wx.cell? ⟨g, o + j * 9 + 3, none⟩ = some (.string nk.dig) ∧ wx.cell? ⟨g, o + j * 9 + 4, none⟩ = some (.int .i64 nk.exp) ∧ wx.cell? ⟨g, o + j * 9 + 5, none⟩ = some (.string nk.txt) ∧ wx.cell? ⟨g, o + j * 9 + 6, none⟩ = some (.slice nk.ab nk.lb nk.cb) ∧ wx.cell? ⟨g, o + j * 9 + 7, none⟩ = some (.slice nk.ak nk.lk nk.ck) ∧ wx.cell? ⟨g, o + j * 9 + 8, none⟩ = some (.slice nk.ai nk.li nk.ci)) ∧ (wx.cell? ⟨w.heap.size + 1, 0, none⟩ = some (.int .i64 x.kind) ∧ wx.cell? ⟨w.heap.size + 1, 1, none⟩ = some (.int .u64 x.num) ∧ wx.cell? ⟨w.heap.size + 1, 2, none⟩ = some (.bool x.neg) ∧ wx.cell? ⟨w.heap.size + 1, 3, none⟩ = some (.string x.dig) ∧ wx.cell? ⟨w.heap.size + 1, 4, none⟩ = some (.int .i64 x.exp) ∧ wx.cell? ⟨w.heap.size + 1, 5, none⟩ = some (.string x.txt) ∧ wx.cell? ⟨w.heap.size + 1, 6, none⟩ = some (.slice x.ab x.lb x.cb) ∧ wx.cell? ⟨w.heap.size + 1, 7, none⟩ = some (.slice x.ak x.lk x.ck) ∧ wx.cell? ⟨w.heap.size + 1, 8, none⟩ = some (.slice x.ai x.li x.ci))) := fun wx h => ⟨(hsp.kept h).fields, (T4.out.on h).two.fields⟩
  have hjn4 : (j : Int) < (b.lk : Int) := hjn
  have bel4 : Hid (Below w4.heap.size w4 w4.drew) := (Below.refl _ _).drew
  have bel5 : Hid (Below w4.heap.size w4 (w4.drew.alloc (.cells #[.int .i64 0, .int .u64 0, .bool false, .string ⟨#[]⟩, .int .i64 0, .string ⟨#[]⟩, .slice none 0 0, .slice none 0 0, .slice none 0 0] 26))) := bel4.out.trans ((alloc_below w4.drew _).mono (Nat.le_refl _))
  have pt : Hid (∀ wx, Below w.heap.size w wx → PathOk wx (some ⟨pb, po, none⟩) (np - 1) (cp - 1) p) := fun wx h => path_one (hP.out.kept h) hc1h.out
  have hrow' : Hid (w4.heap[g]? = some (.cells cur 26 (0, 0))) := hrow
  have hnine' : Hid (Nine w4 (some ⟨g, o, none⟩) bsk) := hnine
  clear hsp hnine hrow
  go_region_held3 (fun wx => (wx.cell? ⟨g, o + j * 9, none⟩ = some (.int .i64 nk.kind) ∧ wx.cell? ⟨g, o + j * 9 + 1, none⟩ = some (.int .u64 nk.num) ∧ wx.cell? ⟨g, o + j * 9 + 2, none⟩ = some (.bool nk.neg) ∧ wx.cell? ⟨g, o + j * 9 + 3, none⟩ = some (.string nk.dig) ∧ wx.cell? ⟨g, o + j * 9 + 4, none⟩ = some (.int .i64 nk.exp) ∧ wx.cell? ⟨g, o + j * 9 + 5, none⟩ = some (.string nk.txt) ∧ wx.cell? ⟨g, o + j * 9 + 6, none⟩ = some (.slice nk.ab nk.lb nk.cb) ∧ wx.cell? ⟨g, o + j * 9 + 7, none⟩ = some (.slice nk.ak nk.lk nk.ck) ∧ wx.cell? ⟨g, o + j * 9 + 8, none⟩ = some (.slice nk.ai nk.li nk.ci)) ∧ (wx.cell? ⟨w.heap.size + 1, 0, none⟩ = some (.int .i64 x.kind) ∧ wx.cell? ⟨w.heap.size + 1, 1, none⟩ = some (.int .u64 x.num) ∧ wx.cell? ⟨w.heap.size + 1, 2, none⟩ = some (.bool x.neg) ∧ wx.cell? ⟨w.heap.size + 1, 3, none⟩ = some (.string x.dig) ∧ wx.cell? ⟨w.heap.size + 1, 4, none⟩ = some (.int .i64 x.exp) ∧ wx.cell? ⟨w.heap.size + 1, 5, none⟩ = some (.string x.txt) ∧ wx.cell? ⟨w.heap.size + 1, 6, none⟩ = some (.slice x.ab x.lb x.cb) ∧ wx.cell? ⟨w.heap.size + 1, 7, none⟩ = some (.slice x.ak x.lk x.ck) ∧ wx.cell? ⟨w.heap.size + 1, 8, none⟩ = some (.slice x.ai x.li x.ci))) (first | with_reducible exact S9.out _ bel4.out | with_reducible exact S9.out _ bel5.out | with_reducible exact S9.out _ X5.out | with_reducible exact S9.out _ Y5.out | exact S9.out _ bel4.out | exact S9.out _ bel5.out | exact S9.out _ (X5.out.trans ((alloc_below w5 _).mono X5.out.size))) (first
    | (go_at_call 28; refine (kL.out w4.drew (some ⟨pb, po, none⟩) (np - 1) (cp - 1) (T4.out.on bel4.out).bel (pt.out _ (T4.out.on bel4.out).bel)).mono ?_; rintro e w5 ⟨⟨y, er, he, hL5⟩, hb5⟩; rw [Nb.arr] at he; subst he; have X5 : Hid (Below w4.heap.size w4 w5) := bel4.out.trans hb5)
    | (go_at_call 28; refine (kL.out (w4.drew.alloc (.cells #[.int .i64 0, .int .u64 0, .bool false, .string ⟨#[]⟩, .int .i64 0, .string ⟨#[]⟩, .slice none 0 0, .slice none 0 0, .slice none 0 0] 26)) (some ⟨pb, po, none⟩) (np - 1) (cp - 1) (T4.out.on bel5.out).bel (pt.out _ (T4.out.on bel5.out).bel)).mono ?_; rintro e w5 ⟨⟨y, er, he, hL5⟩, hb5⟩; rw [Nb.arr] at he; subst he; have X5 : Hid (Below w4.heap.size w4 w5) := bel5.out.trans (hb5.mono bel5.out.size); have N5 : NBox w5 w4.heap.size zN := (nbox_new w4.drew zN).kept hb5 (alloc_lt _ _); obtain ⟨m0, m1, m2, m3, m4, m5, m6, m7, m8⟩ := N5.fields; have z0 := N5.fz 0; have z1 := N5.fz 1; have z2 := N5.fz 2; have z3 := N5.fz 3; have z4 := N5.fz 4; have z5 := N5.fz 5; have z6 := N5.fz 6; have z7 := N5.fz 7; have z8 := N5.fz 8; have Y5 : Hid (Below w4.heap.size w4 (((((((((w5.setCell ⟨w4.heap.size, 0, none⟩ (.int .i64 y.kind)).setCell ⟨w4.heap.size, 1, none⟩ (.int .u64 y.num)).setCell ⟨w4.heap.size, 2, none⟩ (.bool y.neg)).setCell ⟨w4.heap.size, 3, none⟩ (.string y.dig)).setCell ⟨w4.heap.size, 4, none⟩ (.int .i64 y.exp)).setCell ⟨w4.heap.size, 5, none⟩ (.string y.txt)).setCell ⟨w4.heap.size, 6, none⟩ (.slice y.ab y.lb y.cb)).setCell ⟨w4.heap.size, 7, none⟩ (.slice y.ak y.lk y.ck)).setCell ⟨w4.heap.size, 8, none⟩ (.slice y.ai y.li y.ci))) := X5.out.trans ((sets_kp w5 w4.heap.size 0 y).below X5.out.size (fun k hk => Nat.le_of_eq hk.symm))))
  all_goals first
    | (have F := af_early (B := B) (y := y) hB'.out T4.out hb5 hrow'.out; generalize hw6 : (((((((((w5.setCell ⟨w4.heap.size, 0, none⟩ (.int .i64 y.kind)).setCell ⟨w4.heap.size, 1, none⟩ (.int .u64 y.num)).setCell ⟨w4.heap.size, 2, none⟩ (.bool y.neg)).setCell ⟨w4.heap.size, 3, none⟩ (.string y.dig)).setCell ⟨w4.heap.size, 4, none⟩ (.int .i64 y.exp)).setCell ⟨w4.heap.size, 5, none⟩ (.string y.txt)).setCell ⟨w4.heap.size, 6, none⟩ (.slice y.ab y.lb y.cb)).setCell ⟨w4.heap.size, 7, none⟩ (.slice y.ak y.lk y.ck)).setCell ⟨w4.heap.size, 8, none⟩ (.slice y.ai y.li y.ci)) = w6 at F ⊢; clear hw6)
    | (have F : Af B w w4 w4.drew w5 (w5.alloc (.cells #[.int .i64 y.kind, .int .u64 y.num, .bool y.neg, .string y.dig, .int .i64 y.exp, .string y.txt, .slice y.ab y.lb y.cb, .slice y.ak y.lk y.ck, .slice y.ai y.li y.ci] 26)) b x y g w5.heap.size cur := af_late hB'.out T4.out X5.out hrow'.out; generalize hw6 : w5.alloc (.cells #[.int .i64 y.kind, .int .u64 y.num, .bool y.neg, .string y.dig, .int .i64 y.exp, .string y.txt, .slice y.ab y.lb y.cb, .slice y.ak y.lk y.ck, .slice y.ai y.li y.ci] 26) = w6 at F ⊢; clear hw6)
  all_goals
    have T6 : Hid (Bt w w6 b x zN) := F.bt
    clear f0 f1 f2 f3 f4 f5 f6 f7 f8
    rcases hL5 with ⟨h1, rfl, rfl⟩ | ⟨rfl, m, hm, hy⟩
    · have hfin : Hid (t.lay tx (k :: p) = none) := by show _ = _; rw [hLay'.out, h1]
      clear h1 F
      obtain ⟨m0, m1, m2, m3, m4, m5, m6, m7, m8⟩ := T6.out.thr.fields
      have z0 := T6.out.thr.fz 0; have z1 := T6.out.thr.fz 1; have z2 := T6.out.thr.fz 2; have z3 := T6.out.thr.fz 3; have z4 := T6.out.thr.fz 4; have z5 := T6.out.thr.fz 5; have z6 := T6.out.thr.fz 6; have z7 := T6.out.thr.fz 7; have z8 := T6.out.thr.fz 8
      go_wp2
      have T2 := T6.out.put zN
      obtain ⟨u0, u1, u2, u3, u4, u5, u6, u7, u8⟩ := T2.thr.fields
      simp only [zN] at u0 u1 u2 u3 u4 u5 u6 u7 u8
      refine bodyPost_ret (v := .tuple #[.agg #[.int .i64 0, .int .u64 0, .bool false, .string ⟨#[]⟩, .int .i64 0, .string ⟨#[]⟩, .slice none 0 0, .slice none 0 0, .slice none 0 0], .int .i64 19]) (by simp [results, Try.results28, go_sem, u0, u1, u2, u3, u4, u5, u6, u7, u8]) rfl ⟨⟨zN, 19, rfl, .inl ⟨hfin.out, rfl, rfl⟩⟩, T2.bel⟩
    · have hfin : Hid (t.lay tx (k :: p) = some (t.turn true ((t.side true).set j m))) := by show _ = _; rw [hLay'.out, hm]
      have hgw : Hid (w.heap.size + 1 + 1 < g) := Nat.lt_of_lt_of_le T3.out.thr.lt hg4'
      have K7 := sets_kp w6 g (o + j * 9) y
      have hW7 := wrt9 y F.row hroom
      have T7 : Hid (Bt w (((((((((w6.setCell ⟨g, o + j * 9, none⟩ (.int .i64 y.kind)).setCell ⟨g, o + j * 9 + 1, none⟩ (.int .u64 y.num)).setCell ⟨g, o + j * 9 + 2, none⟩ (.bool y.neg)).setCell ⟨g, o + j * 9 + 3, none⟩ (.string y.dig)).setCell ⟨g, o + j * 9 + 4, none⟩ (.int .i64 y.exp)).setCell ⟨g, o + j * 9 + 5, none⟩ (.string y.txt)).setCell ⟨g, o + j * 9 + 6, none⟩ (.slice y.ab y.lb y.cb)).setCell ⟨g, o + j * 9 + 7, none⟩ (.slice y.ak y.lk y.ck)).setCell ⟨g, o + j * 9 + 8, none⟩ (.slice y.ai y.li y.ci)) b x zN) := T6.out.kp K7 fun k hk => by rw [hk]; exact hgw.out
      have T8 : Hid (Bt w ((((((((((w6.setCell ⟨g, o + j * 9, none⟩ (.int .i64 y.kind)).setCell ⟨g, o + j * 9 + 1, none⟩ (.int .u64 y.num)).setCell ⟨g, o + j * 9 + 2, none⟩ (.bool y.neg)).setCell ⟨g, o + j * 9 + 3, none⟩ (.string y.dig)).setCell ⟨g, o + j * 9 + 4, none⟩ (.int .i64 y.exp)).setCell ⟨g, o + j * 9 + 5, none⟩ (.string y.txt)).setCell ⟨g, o + j * 9 + 6, none⟩ (.slice y.ab y.lb y.cb)).setCell ⟨g, o + j * 9 + 7, none⟩ (.slice y.ak y.lk y.ck)).setCell ⟨g, o + j * 9 + 8, none⟩ (.slice y.ai y.li y.ci)).setCell ⟨w.heap.size, 7, none⟩ (.slice (some ⟨g, o, none⟩) b.lk c4)) { b with ak := some ⟨g, o, none⟩, lk := b.lk, ck := c4 } x zN) := T7.out.fld7 (some ⟨g, o, none⟩) b.lk c4
      obtain ⟨s0, s1, s2, s3, s4, s5, s6, s7, s8⟩ := (S9.out w6 F.bel).1
      have r0 := row_fz F.row (o + j * 9); have r1 := row_fz F.row (o + j * 9 + 1); have r2 := row_fz F.row (o + j * 9 + 2); have r3 := row_fz F.row (o + j * 9 + 3); have r4 := row_fz F.row (o + j * 9 + 4); have r5 := row_fz F.row (o + j * 9 + 5); have r6 := row_fz F.row (o + j * 9 + 6); have r7 := row_fz F.row (o + j * 9 + 7); have r8 := row_fz F.row (o + j * 9 + 8)
      obtain ⟨d0, d1, d2, d3, d4, d5, d6, d7, d8⟩ := F.yb.fields
      obtain ⟨f0, f1, f2, f3, f4, f5, f6, f7, f8⟩ := T8.out.one.fields
      dsimp only at f0 f1 f2 f3 f4 f5 f6 f7 f8
      have q8 := T7.out.one.fz 7
      obtain ⟨e0, e1, e2, e3, e4, e5, e6, e7, e8⟩ := T7.out.one.fields
      obtain ⟨m0, m1, m2, m3, m4, m5, m6, m7, m8⟩ := T8.out.thr.fields
      have z0 := T8.out.thr.fz 0; have z1 := T8.out.thr.fz 1; have z2 := T8.out.thr.fz 2; have z3 := T8.out.thr.fz 3; have z4 := T8.out.thr.fz 4; have z5 := T8.out.thr.fz 5; have z6 := T8.out.thr.fz 6; have z7 := T8.out.thr.fz 7; have z8 := T8.out.thr.fz 8
      have F' : Hid (Af _ _ _ _ _ _ _ _ _ _ _ _) := F
      have K7' : Hid (Kp _ _ _) := K7
      have hW7' : Hid (Wrt _ _ _ _ _) := hW7
      have hy' : Hid (NdS _ _ _ _ _) := hy
      clear F K7 hW7 hy hm
      go_wp2
      have T9 := T8.out.put { b with ak := some ⟨g, o, none⟩, lk := b.lk, ck := c4 }
      obtain ⟨u0, u1, u2, u3, u4, u5, u6, u7, u8⟩ := T9.thr.fields
      dsimp only at u0 u1 u2 u3 u4 u5 u6 u7 u8
      refine bodyPost_ret (v := .tuple #[.agg ({ b with ak := some ⟨g, o, none⟩, lk := b.lk, ck := c4 } : Nb).arr, .int .i64 0]) (by simp [results, Try.results28, go_sem, u0, u1, u2, u3, u4, u5, u6, u7, u8, Nb.arr]) rfl ⟨⟨_, 0, rfl, .inr ⟨rfl, _, hfin.out, ?_⟩⟩, T9.bel⟩
      exact lay_fin (sd := true) hB'.out hN'.out hbl'.out elk'.out ⟨hc4, hc5⟩ szk'.out hbs.out hju'.out.1 F'.out (by first | exact Nat.le_refl _ | exact bel5.out.size) X5.out.size hgw.out hg5 ho0'.out hnine'.out hW7'.out K7'.out (fld_kp _ _ _ _) (T8.out.put_kp _) T9.bel hy'.out _ rfl
end Go.Proofs.Ytkealjaealeojab
