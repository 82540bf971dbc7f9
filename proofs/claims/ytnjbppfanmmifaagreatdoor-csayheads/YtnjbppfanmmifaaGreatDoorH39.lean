/-
  CBOR out of trees: an item, by its kind, those of several calls.
  A field of a fault that a call answered.
  What is wrong with a node itself: tree.fault, of a text.
-/
import Derived.Test.YtnjbppfanmmifaaGreatDoorH38
import Derived.Test.YtnjbppfanmmifaaGreatDoorH8
import Derived.Deep.RegionLaw
namespace Go.Proofs.YtnjbppfanmmifaaGreatDoor
open Go.RowKit
set_option linter.unusedVariables false
theorem sjoin2 {x : World} {v1 v2 : Value} {l1 l2 : List Int} (h1 : Load x x.heap.size v1 l1) (h2 : Load x x.heap.size v2 l2) (m1 : l1.length ≤ 500000) (m2 : l2.length ≤ 500000) : Calls Tryz.prog 68 #[.slice (some ⟨x.heap.size, 0, none⟩) 2 2] (x.alloc (.cells #[v1, v2] 22)) fun e w' => BytIs x w' e (jnB [l1, l2] []) := by
  have hLs := lists_lit (w := x) [v1, v2] [l1, l2] rfl (by simp [maxLen]) (two_at _ (P := fun i u => Load x x.heap.size u ([l1, l2].getD i [])) rfl h1 h2)
  have := sjoin_any (some ⟨x.heap.size, 0, none⟩) 2 2 [l1, l2] 500000 (x.alloc (.cells #[v1, v2] 22)) rfl hLs (Nat.le_refl _) (by omega) (by omega) (two_len m1 m2)
  exact this.mono fun e w' h => h.up (alloc_below x _)
theorem four_at (us : List Value) {P : Nat → Value → Prop} {u0 u1 u2 u3 : Value} (e : us = [u0, u1, u2, u3]) (h0 : P 0 u0) (h1 : P 1 u1) (h2 : P 2 u2) (h3 : P 3 u3) : ∀ i u, us[i]? = some u → P i u := by
  subst e
  intro i u hi
  match i, hi with
  | 0, hi => cases hi; exact h0
  | 1, hi => cases hi; exact h1
  | 2, hi => cases hi; exact h2
  | 3, hi => cases hi; exact h3
  | _ + 4, hi => simp at hi
theorem sjoin4 {x : World} {v1 v2 v3 v4 : Value} {l1 l2 l3 l4 : List Int} (h1 : Load x x.heap.size v1 l1) (h2 : Load x x.heap.size v2 l2) (h3 : Load x x.heap.size v3 l3) (h4 : Load x x.heap.size v4 l4) (m1 : l1.length ≤ 500000) (m2 : l2.length ≤ 500000) (m3 : l3.length ≤ 500000) (m4 : l4.length ≤ 500000) : Calls Tryz.prog 68 #[.slice (some ⟨x.heap.size, 0, none⟩) 4 4] (x.alloc (.cells #[v1, v2, v3, v4] 22)) fun e w' => BytIs x w' e (jnB [l1, l2, l3, l4] []) := by
  have hLs := lists_lit (w := x) [v1, v2, v3, v4] [l1, l2, l3, l4] rfl (by simp [maxLen]) (four_at _ (P := fun i u => Load x x.heap.size u ([l1, l2, l3, l4].getD i [])) rfl h1 h2 h3 h4)
  have := sjoin_any (some ⟨x.heap.size, 0, none⟩) 4 4 [l1, l2, l3, l4] 500000 (x.alloc (.cells #[v1, v2, v3, v4] 22)) rfl hLs (Nat.le_refl _) (by omega) (by omega) (fun l hm => by
    rcases List.mem_cons.1 hm with q | q
    · rw [q]; exact m1
    rcases List.mem_cons.1 q with q | q
    · rw [q]; exact m2
    rcases List.mem_cons.1 q with q | q
    · rw [q]; exact m3
    · rw [List.mem_singleton.1 q]; exact m4)
  exact this.mono fun e w' h => h.up (alloc_below x _)
set_option maxHeartbeats 8000000 in
set_option maxRecDepth 100000 in
theorem sitem_k3 {L k D : Nat} {t : Tr} {b : Nb} {w : World} (hN : Nd (D + 1) w b t) (hK : t.kind = 3) (hg : EG t) (hC : Cv L w) (hL : L ≤ w.heap.size) : Calls Tryz.prog 41 #[.agg b.arr] w fun e w' => BytIs w w' e (encF (k + 1) t) := by
  have hk : b.kind = 3 := hN.1.1.trans hK
  have hE : encF (k + 1) t = jnB [hdB 6 4, hdB 4 2, powB t.exp, whlB t.neg t.dig] [] := by rw [encF]; simp [hK]
  have hCx : ∀ x, Below w.heap.size w x → Cv L x ∧ L ≤ x.heap.size := fun x hx => ⟨hC.on (hx.mono hL), Nat.le_trans hL hx.size⟩
  have B0 : Hid (Below w.heap.size w (w.alloc (.cells b.arr 26))) := alloc_below w _
  have HW : Hid (w.heap.size ≤ (w.alloc (.cells b.arr 26)).heap.size) := B0.out.size
  have SK : Hid (∀ x, Below (w.alloc (.cells b.arr 26)).heap.size (w.alloc (.cells b.arr 26)) x → x.cell? ⟨w.heap.size, 2, none⟩ = some (.bool b.neg) ∧ x.cell? ⟨w.heap.size, 3, none⟩ = some (.string b.dig) ∧ x.cell? ⟨w.heap.size, 4, none⟩ = some (.int .i64 b.exp)) := fun x hx => by
    obtain ⟨a0, a1, a2, a3, a4, a5, a6, a7, a8⟩ := ((nbox_new w b).kept hx (alloc_lt _ _)).fields
    exact ⟨a2, a3, a4⟩
  obtain ⟨a0, a1, a2, a3, a4, a5, a6, a7, a8⟩ := (nbox_new w b).fields
  obtain ⟨hnum, hn64⟩ := nd_num hN
  have hx := nd_exp hN
  have hneg : b.neg = t.neg := hN.1.2.2.1
  have hdig : b.dig = t.dig := hN.1.2.2.2.1
  have hexp : b.exp = t.exp := hN.1.2.2.2.2.1
  have k1 : Hid (∀ x, Below w.heap.size w x → Calls Tryz.prog 44 #[.int .i64 6, .int .u64 4] x fun e w' => BytIs x w' e (hdB 6 4)) := fun x hx' => by
    exact shead_any 6 4 (by omega) (by omega) (hCx x hx').1.2 (hCx x hx').2
  have k2 : Hid (∀ x, Below w.heap.size w x → Calls Tryz.prog 44 #[.int .i64 4, .int .u64 2] x fun e w' => BytIs x w' e (hdB 4 2)) := fun x hx' => by
    exact shead_any 4 2 (by omega) (by omega) (hCx x hx').1.2 (hCx x hx').2
  have k3 : Hid (∀ x, Below w.heap.size w x → Calls Tryz.prog 69 #[.int .i64 b.exp] x fun e w' => BytIs x w' e (powB t.exp)) := fun x hx' => by
    rw [hexp]
    exact spow_any t.exp hx.1 hx.2 (hCx x hx').1.2 (hCx x hx').2
  have k4 : Hid (∀ x, Below w.heap.size w x → Calls Tryz.prog 67 #[.bool b.neg, .string b.dig] x fun e w' => BytIs x w' e (whlB t.neg t.dig)) := fun x hx' => by
    rw [hneg, hdig]
    exact swhole_any t.neg t.dig (hCx x hx').1 (hCx x hx').2
  have kJ : Hid (∀ x v1 v2 v3 v4, Below w.heap.size w x → Load x x.heap.size v1 (hdB 6 4) → Load x x.heap.size v2 (hdB 4 2) → Load x x.heap.size v3 (powB t.exp) → Load x x.heap.size v4 (whlB t.neg t.dig) → Calls Tryz.prog 68 #[.slice (some ⟨x.heap.size, 0, none⟩) 4 4] (x.alloc (.cells #[v1, v2, v3, v4] 22)) fun e w' => BytIs x w' e (jnB [hdB 6 4, hdB 4 2, powB t.exp, whlB t.neg t.dig] [])) := fun x v1 v2 v3 v4 hx' h1 h2 h3 h4 => sjoin4 h1 h2 h3 h4 (Nat.le_trans (hdB_len 6 4) (by omega)) (Nat.le_trans (hdB_len 4 2) (by omega)) (Nat.le_trans (powB_len t.exp) (by omega)) (Nat.le_trans (whlB_len t.neg t.dig) (by omega))
  rw [hE]
  have e1 : (b.kind == 1) = false := by rw [hk]; decide
  have e2 : (b.kind == 2) = false := by rw [hk]; decide
  have e3 : (b.kind == 3) = true := by rw [hk]; decide
  generalize jnB [hdB 6 4, hdB 4 2, powB t.exp, whlB t.neg t.dig] [] = X at *
  generalize hdB 6 4 = Y1 at *
  generalize hdB 4 2 = Y2 at *
  generalize powB t.exp = Y3 at *
  generalize whlB t.neg t.dig = Y4 at *
  unfold BytIs at kJ k1 k2 k3 k4 ⊢
  clear hN hK hg hC hL hE hCx hnum hn64 hx hneg hdig hexp hk
  go_enter Tryz.func41, Tryz.ntmps41
  go_upto_region 7 with fail
  generalize w.alloc (.cells b.arr 26) = W at *
  have bd : Hid (Below W.heap.size W W.drew) := (Below.refl _ _).drew
  have up : Hid (∀ x, Below W.heap.size W x → Below w.heap.size w x) := fun x hx => B0.out.trans (hx.mono HW.out)
  go_region_held3 (fun x => x.cell? ⟨w.heap.size, 2, none⟩ = some (.bool b.neg) ∧ x.cell? ⟨w.heap.size, 3, none⟩ = some (.string b.dig) ∧ x.cell? ⟨w.heap.size, 4, none⟩ = some (.int .i64 b.exp)) (((with_reducible refine SK.out _ ?_); (all_goals first | with_reducible exact bd.out | with_reducible exact Below.refl _ _ | with_reducible exact b1.out | with_reducible exact b2.out | with_reducible exact b3.out | with_reducible exact b4.out | with_reducible exact bA.out | with_reducible exact bZ.out | fail))) (first
    | (go_at_call 44; refine (k1.out _ (up.out _ (by first | with_reducible exact bd.out | with_reducible exact Below.refl _ _))).mono ?_; rintro e x1 ⟨⟨v1, rfl, hO1⟩, hb1⟩; obtain ⟨a_1, n1, c1, rfl, -, -, -, -, -⟩ := hO1.form; have b1 : Hid (Below W.heap.size W x1) := (by first | with_reducible exact hb1 | exact bd.out.trans hb1); have L1_1 : Hid (Load x1 x1.heap.size (.slice a_1 n1 c1) Y1) := load_of_owns hO1; clear hO1 hb1 k1)
    | (go_at_call 44; refine (k2.out _ (up.out _ b1.out)).mono ?_; rintro e x2 ⟨⟨v2, rfl, hO2⟩, hb2⟩; obtain ⟨a_2, n2, c2, rfl, -, -, -, -, -⟩ := hO2.form; have b2 : Hid (Below W.heap.size W x2) := b1.out.trans (hb2.mono b1.out.size); have L1_2 : Hid (Load x2 x2.heap.size (.slice a_1 n1 c1) Y1) := (L1_1.out.mono hb2.size).keep (keep5_below hb2 _); have L2_2 : Hid (Load x2 x2.heap.size (.slice a_2 n2 c2) Y2) := load_of_owns hO2; clear hO2 hb2 k2)
    | (go_at_call 69; refine (k3.out _ (up.out _ b2.out)).mono ?_; rintro e x3 ⟨⟨v3, rfl, hO3⟩, hb3⟩; obtain ⟨a_3, n3, c3, rfl, -, -, -, -, -⟩ := hO3.form; have b3 : Hid (Below W.heap.size W x3) := b2.out.trans (hb3.mono b2.out.size); have L1_3 : Hid (Load x3 x3.heap.size (.slice a_1 n1 c1) Y1) := (L1_2.out.mono hb3.size).keep (keep5_below hb3 _); have L2_3 : Hid (Load x3 x3.heap.size (.slice a_2 n2 c2) Y2) := (L2_2.out.mono hb3.size).keep (keep5_below hb3 _); have L3_3 : Hid (Load x3 x3.heap.size (.slice a_3 n3 c3) Y3) := load_of_owns hO3; clear hO3 hb3 k3)
    | (go_at_call 67; refine (k4.out _ (up.out _ b3.out)).mono ?_; rintro e x4 ⟨⟨v4, rfl, hO4⟩, hb4⟩; obtain ⟨a_4, n4, c4, rfl, -, -, -, -, -⟩ := hO4.form; have b4 : Hid (Below W.heap.size W x4) := b3.out.trans (hb4.mono b3.out.size); have L1_4 : Hid (Load x4 x4.heap.size (.slice a_1 n1 c1) Y1) := (L1_3.out.mono hb4.size).keep (keep5_below hb4 _); have L2_4 : Hid (Load x4 x4.heap.size (.slice a_2 n2 c2) Y2) := (L2_3.out.mono hb4.size).keep (keep5_below hb4 _); have L3_4 : Hid (Load x4 x4.heap.size (.slice a_3 n3 c3) Y3) := (L3_3.out.mono hb4.size).keep (keep5_below hb4 _); have L4_4 : Hid (Load x4 x4.heap.size (.slice a_4 n4 c4) Y4) := load_of_owns hO4; have bA : Hid (Below W.heap.size W (x4.alloc (.cells #[.slice a_1 n1 c1, .slice a_2 n2 c2, .slice a_3 n3 c3, .slice a_4 n4 c4] 22))) := b4.out.trans ((alloc_below x4 _).mono b4.out.size); clear hO4 hb4 k4)
    | (go_at_call 68; refine (kJ.out _ _ _ _ _ (up.out _ b4.out) L1_4.out L2_4.out L3_4.out L4_4.out).mono ?_; rintro e xz ⟨⟨vz, rfl, hOz⟩, hbz⟩; have OZ : Hid (OwnsB xz w.heap.size vz X) := hOz.base (up.out _ b4.out).size; have bZ : Hid (Below W.heap.size W xz) := b4.out.trans (hbz.mono b4.out.size); have BZ : Hid (Below w.heap.size w xz) := up.out _ bZ.out; clear hOz hbz))
  all_goals
    go_wp2_with fail
    go_ret
    exact ⟨⟨_, rfl, OZ.out⟩, BZ.out⟩
set_option maxHeartbeats 8000000 in
set_option maxRecDepth 100000 in
theorem sitem_k7 {L k D : Nat} {t : Tr} {b : Nb} {w : World} (ih : SIt L k) (hk30 : k ≤ 30) (hd : t.deep ≤ k + 1) (hA : t.All EG) (hN : Nd (D + 1) w b t) (hK : t.kind = 7) (hg : EG t) (hC : Cv L w) (hL : L ≤ w.heap.size) : Calls Tryz.prog 41 #[.agg b.arr] w fun e w' => BytIs w w' e (encF (k + 1) t) := by
  have hk : b.kind = 7 := hN.1.1.trans hK
  have hE : encF (k + 1) t = jnB [hdB 4 t.kids.length, jnB (t.kids.map (encF k)) []] [] := by rw [encF]; simp [hK]
  have hCx : ∀ x, Below w.heap.size w x → Cv L x ∧ L ≤ x.heap.size := fun x hx => ⟨hC.on (hx.mono hL), Nat.le_trans hL hx.size⟩
  have B0 : Hid (Below w.heap.size w (w.alloc (.cells b.arr 26))) := alloc_below w _
  have HW : Hid (w.heap.size ≤ (w.alloc (.cells b.arr 26)).heap.size) := B0.out.size
  have SK : Hid (∀ x, Below (w.alloc (.cells b.arr 26)).heap.size (w.alloc (.cells b.arr 26)) x → x.cell? ⟨w.heap.size, 8, none⟩ = some (.slice b.ai b.li b.ci)) := fun x hx => by
    obtain ⟨a0, a1, a2, a3, a4, a5, a6, a7, a8⟩ := ((nbox_new w b).kept hx (alloc_lt _ _)).fields
    exact a8
  obtain ⟨a0, a1, a2, a3, a4, a5, a6, a7, a8⟩ := (nbox_new w b).fields
  obtain ⟨hnum, hn64⟩ := nd_num hN
  have hx := nd_exp hN
  have hneg : b.neg = t.neg := hN.1.2.2.1
  have hdig : b.dig = t.dig := hN.1.2.2.2.1
  have hexp : b.exp = t.exp := hN.1.2.2.2.2.1
  obtain ⟨_, gk, gi⟩ := (Tr.all_eq EG t).1 hA
  have hkd : ∀ u ∈ t.kids, u.deep ≤ k ∧ u.All EG := fun u hu => ⟨by have := Tr.kid_deep hu; omega, gi u hu⟩
  have hyd : ∀ u ∈ t.keys, u.deep ≤ k ∧ u.All EG := fun u hu => ⟨by have := Tr.key_deep hu; omega, gk u hu⟩
  have hRk := hN.2.2.2.1
  have hRi := hN.2.2.2.2
  have hli : t.kids.length = b.li := hRi.1
  have mli : b.li * 136 ≤ 140737488351232 := hRi.2.1.2.2.2
  have mlk : b.lk * 136 ≤ 140737488351232 := hRk.2.1.2.2.2
  have mci : b.ci ≤ 9223372036854775807 := by have := hRi.2.1.2.1; unfold maxLen at this; omega
  have mc : b.li ≤ b.ci := hRi.2.1.1
  have wl : IntKind.u64.wrap (b.li : Int) = (b.li : Int) := by rw [IntKind.wrap_u64]; omega
  have LI : ∀ x ∈ t.kids.map (encF k), x.length ≤ 400000 := fun x hx => by
    obtain ⟨u, hu, rfl⟩ := List.mem_map.1 hx
    exact Nat.le_trans (encF_len k u (hkd u hu).2) (by omega)
  have LP : ∀ x ∈ prB (encF k) t.keys t.kids, x.length ≤ 400000 := prB_mem _ (fun x => x.length ≤ 400000) _ _ (fun u hu => Nat.le_trans (encF_len k u (hyd u hu).2) (by omega)) (fun u hu => Nat.le_trans (encF_len k u (hkd u hu).2) (by omega))
  have k1 : Hid (∀ x, Below w.heap.size w x → Calls Tryz.prog 44 #[.int .i64 4, .int .u64 b.li] x fun e w' => BytIs x w' e (hdB 4 t.kids.length)) := fun x hx' => by
    rw [← hli]
    exact shead_any 4 t.kids.length (by omega) (by omega) (hCx x hx').1.2 (hCx x hx').2
  have k2 : Hid (∀ x, Below w.heap.size w x → Calls Tryz.prog 72 #[.slice b.ai b.li b.ci] x fun e w' => BytIs x w' e (jnB (t.kids.map (encF k)) [])) := fun x hx' => by
    exact sitems_any ih hk30 b.ai b.li b.ci t.kids x (hN.kept hx').2.2.2.2 hkd (hCx x hx').1 (hCx x hx').2 (by omega)
  have kJ : Hid (∀ x v1 v2, Below w.heap.size w x → Load x x.heap.size v1 (hdB 4 t.kids.length) → Load x x.heap.size v2 (jnB (t.kids.map (encF k)) []) → Calls Tryz.prog 68 #[.slice (some ⟨x.heap.size, 0, none⟩) 2 2] (x.alloc (.cells #[v1, v2] 22)) fun e w' => BytIs x w' e (jnB [hdB 4 t.kids.length, jnB (t.kids.map (encF k)) []] [])) := fun x v1 v2 hx' h1 h2 => sjoin2 h1 h2 (Nat.le_trans (hdB_len 4 t.kids.length) (by omega)) (Nat.le_trans (jnB_len 400000 _ [] LI (by simp)) (by omega))
  rw [hE]
  have e1 : (b.kind == 1) = false := by rw [hk]; decide
  have e2 : (b.kind == 2) = false := by rw [hk]; decide
  have e3 : (b.kind == 3) = false := by rw [hk]; decide
  have e4 : (b.kind == 4) = false := by rw [hk]; decide
  have e5 : (b.kind == 5) = false := by rw [hk]; decide
  have e6 : (b.kind == 6) = false := by rw [hk]; decide
  have e7 : (b.kind == 7) = true := by rw [hk]; decide
  generalize jnB [hdB 4 t.kids.length, jnB (t.kids.map (encF k)) []] [] = X at *
  generalize hdB 4 t.kids.length = Y1 at *
  generalize jnB (t.kids.map (encF k)) [] = Y2 at *
  unfold BytIs at kJ k1 k2 ⊢
  clear hN hK hg hC hL hE hCx hnum hn64 hx hneg hdig hexp hk hkd hyd hRk hRi hli mli mlk LI LP gk gi hA hd ih hk30
  go_enter Tryz.func41, Tryz.ntmps41
  go_upto_region 15 with fail
  generalize w.alloc (.cells b.arr 26) = W at *
  have bd : Hid (Below W.heap.size W W.drew) := (Below.refl _ _).drew
  have up : Hid (∀ x, Below W.heap.size W x → Below w.heap.size w x) := fun x hx => B0.out.trans (hx.mono HW.out)
  go_region_held3 (fun x => x.cell? ⟨w.heap.size, 8, none⟩ = some (.slice b.ai b.li b.ci)) (((with_reducible refine SK.out _ ?_); (all_goals first | with_reducible exact bd.out | with_reducible exact Below.refl _ _ | with_reducible exact b1.out | with_reducible exact b2.out | with_reducible exact b3.out | with_reducible exact b4.out | with_reducible exact bA.out | with_reducible exact bZ.out | fail))) (first
    | (go_at_call 44; refine (k1.out _ (up.out _ (by first | with_reducible exact bd.out | with_reducible exact Below.refl _ _))).mono ?_; rintro e x1 ⟨⟨v1, rfl, hO1⟩, hb1⟩; obtain ⟨a_1, n1, c1, rfl, -, -, -, -, -⟩ := hO1.form; have b1 : Hid (Below W.heap.size W x1) := (by first | with_reducible exact hb1 | exact bd.out.trans hb1); have L1_1 : Hid (Load x1 x1.heap.size (.slice a_1 n1 c1) Y1) := load_of_owns hO1; clear hO1 hb1 k1)
    | (go_at_call 72; refine (k2.out _ (up.out _ b1.out)).mono ?_; rintro e x2 ⟨⟨v2, rfl, hO2⟩, hb2⟩; obtain ⟨a_2, n2, c2, rfl, -, -, -, -, -⟩ := hO2.form; have b2 : Hid (Below W.heap.size W x2) := b1.out.trans (hb2.mono b1.out.size); have L1_2 : Hid (Load x2 x2.heap.size (.slice a_1 n1 c1) Y1) := (L1_1.out.mono hb2.size).keep (keep5_below hb2 _); have L2_2 : Hid (Load x2 x2.heap.size (.slice a_2 n2 c2) Y2) := load_of_owns hO2; have bA : Hid (Below W.heap.size W (x2.alloc (.cells #[.slice a_1 n1 c1, .slice a_2 n2 c2] 22))) := b2.out.trans ((alloc_below x2 _).mono b2.out.size); clear hO2 hb2 k2)
    | (go_at_call 68; refine (kJ.out _ _ _ (up.out _ b2.out) L1_2.out L2_2.out).mono ?_; rintro e xz ⟨⟨vz, rfl, hOz⟩, hbz⟩; have OZ : Hid (OwnsB xz w.heap.size vz X) := hOz.base (up.out _ b2.out).size; have bZ : Hid (Below W.heap.size W xz) := b2.out.trans (hbz.mono b2.out.size); have BZ : Hid (Below w.heap.size w xz) := up.out _ bZ.out; clear hOz hbz))
  all_goals
    go_wp2_with fail
    go_ret
    exact ⟨⟨_, rfl, OZ.out⟩, BZ.out⟩
set_option maxHeartbeats 8000000 in
set_option maxRecDepth 100000 in
theorem sitem_k8 {L k D : Nat} {t : Tr} {b : Nb} {w : World} (ih : SIt L k) (hk30 : k ≤ 30) (hd : t.deep ≤ k + 1) (hA : t.All EG) (hN : Nd (D + 1) w b t) (hK : t.kind = 8) (hg : EG t) (hC : Cv L w) (hL : L ≤ w.heap.size) : Calls Tryz.prog 41 #[.agg b.arr] w fun e w' => BytIs w w' e (encF (k + 1) t) := by
  have hk : b.kind = 8 := hN.1.1.trans hK
  have hE : encF (k + 1) t = jnB [hdB 5 t.kids.length, jnB (prB (encF k) t.keys t.kids) []] [] := by rw [encF]; simp [hK]
  have hCx : ∀ x, Below w.heap.size w x → Cv L x ∧ L ≤ x.heap.size := fun x hx => ⟨hC.on (hx.mono hL), Nat.le_trans hL hx.size⟩
  have B0 : Hid (Below w.heap.size w (w.alloc (.cells b.arr 26))) := alloc_below w _
  have HW : Hid (w.heap.size ≤ (w.alloc (.cells b.arr 26)).heap.size) := B0.out.size
  have SK : Hid (∀ x, Below (w.alloc (.cells b.arr 26)).heap.size (w.alloc (.cells b.arr 26)) x → x.cell? ⟨w.heap.size, 7, none⟩ = some (.slice b.ak b.lk b.ck) ∧ x.cell? ⟨w.heap.size, 8, none⟩ = some (.slice b.ai b.li b.ci)) := fun x hx => by
    obtain ⟨a0, a1, a2, a3, a4, a5, a6, a7, a8⟩ := ((nbox_new w b).kept hx (alloc_lt _ _)).fields
    exact ⟨a7, a8⟩
  obtain ⟨a0, a1, a2, a3, a4, a5, a6, a7, a8⟩ := (nbox_new w b).fields
  obtain ⟨hnum, hn64⟩ := nd_num hN
  have hx := nd_exp hN
  have hneg : b.neg = t.neg := hN.1.2.2.1
  have hdig : b.dig = t.dig := hN.1.2.2.2.1
  have hexp : b.exp = t.exp := hN.1.2.2.2.2.1
  obtain ⟨_, gk, gi⟩ := (Tr.all_eq EG t).1 hA
  have hkd : ∀ u ∈ t.kids, u.deep ≤ k ∧ u.All EG := fun u hu => ⟨by have := Tr.kid_deep hu; omega, gi u hu⟩
  have hyd : ∀ u ∈ t.keys, u.deep ≤ k ∧ u.All EG := fun u hu => ⟨by have := Tr.key_deep hu; omega, gk u hu⟩
  have hRk := hN.2.2.2.1
  have hRi := hN.2.2.2.2
  have hli : t.kids.length = b.li := hRi.1
  have mli : b.li * 136 ≤ 140737488351232 := hRi.2.1.2.2.2
  have mlk : b.lk * 136 ≤ 140737488351232 := hRk.2.1.2.2.2
  have mci : b.ci ≤ 9223372036854775807 := by have := hRi.2.1.2.1; unfold maxLen at this; omega
  have mc : b.li ≤ b.ci := hRi.2.1.1
  have wl : IntKind.u64.wrap (b.li : Int) = (b.li : Int) := by rw [IntKind.wrap_u64]; omega
  have LI : ∀ x ∈ t.kids.map (encF k), x.length ≤ 400000 := fun x hx => by
    obtain ⟨u, hu, rfl⟩ := List.mem_map.1 hx
    exact Nat.le_trans (encF_len k u (hkd u hu).2) (by omega)
  have LP : ∀ x ∈ prB (encF k) t.keys t.kids, x.length ≤ 400000 := prB_mem _ (fun x => x.length ≤ 400000) _ _ (fun u hu => Nat.le_trans (encF_len k u (hyd u hu).2) (by omega)) (fun u hu => Nat.le_trans (encF_len k u (hkd u hu).2) (by omega))
  have k1 : Hid (∀ x, Below w.heap.size w x → Calls Tryz.prog 44 #[.int .i64 5, .int .u64 b.li] x fun e w' => BytIs x w' e (hdB 5 t.kids.length)) := fun x hx' => by
    rw [← hli]
    exact shead_any 5 t.kids.length (by omega) (by omega) (hCx x hx').1.2 (hCx x hx').2
  have k2 : Hid (∀ x, Below w.heap.size w x → Calls Tryz.prog 73 #[.slice b.ak b.lk b.ck, .slice b.ai b.li b.ci] x fun e w' => BytIs x w' e (jnB (prB (encF k) t.keys t.kids) [])) := fun x hx' => by
    exact spairs_any ih hk30 b.ak b.lk b.ck t.keys b.ai b.li b.ci t.kids x (hN.kept hx').2.2.2.1 (hN.kept hx').2.2.2.2 (hg.2.2.2 hK) hyd hkd (hCx x hx').1 (hCx x hx').2 (by omega)
  have kJ : Hid (∀ x v1 v2, Below w.heap.size w x → Load x x.heap.size v1 (hdB 5 t.kids.length) → Load x x.heap.size v2 (jnB (prB (encF k) t.keys t.kids) []) → Calls Tryz.prog 68 #[.slice (some ⟨x.heap.size, 0, none⟩) 2 2] (x.alloc (.cells #[v1, v2] 22)) fun e w' => BytIs x w' e (jnB [hdB 5 t.kids.length, jnB (prB (encF k) t.keys t.kids) []] [])) := fun x v1 v2 hx' h1 h2 => sjoin2 h1 h2 (Nat.le_trans (hdB_len 5 t.kids.length) (by omega)) (Nat.le_trans (jnB_len 400000 _ [] LP (by simp)) (by omega))
  rw [hE]
  have e1 : (b.kind == 1) = false := by rw [hk]; decide
  have e2 : (b.kind == 2) = false := by rw [hk]; decide
  have e3 : (b.kind == 3) = false := by rw [hk]; decide
  have e4 : (b.kind == 4) = false := by rw [hk]; decide
  have e5 : (b.kind == 5) = false := by rw [hk]; decide
  have e6 : (b.kind == 6) = false := by rw [hk]; decide
  have e7 : (b.kind == 7) = false := by rw [hk]; decide
  have e8 : (b.kind == 8) = true := by rw [hk]; decide
  generalize jnB [hdB 5 t.kids.length, jnB (prB (encF k) t.keys t.kids) []] [] = X at *
  generalize hdB 5 t.kids.length = Y1 at *
  generalize jnB (prB (encF k) t.keys t.kids) [] = Y2 at *
  unfold BytIs at kJ k1 k2 ⊢
  clear hN hK hg hC hL hE hCx hnum hn64 hx hneg hdig hexp hk hkd hyd hRk hRi hli mli mlk LI LP gk gi hA hd ih hk30
  go_enter Tryz.func41, Tryz.ntmps41
  go_upto_region 17 with fail
  generalize w.alloc (.cells b.arr 26) = W at *
  have bd : Hid (Below W.heap.size W W.drew) := (Below.refl _ _).drew
  have up : Hid (∀ x, Below W.heap.size W x → Below w.heap.size w x) := fun x hx => B0.out.trans (hx.mono HW.out)
  go_region_held3 (fun x => x.cell? ⟨w.heap.size, 7, none⟩ = some (.slice b.ak b.lk b.ck) ∧ x.cell? ⟨w.heap.size, 8, none⟩ = some (.slice b.ai b.li b.ci)) (((with_reducible refine SK.out _ ?_); (all_goals first | with_reducible exact bd.out | with_reducible exact Below.refl _ _ | with_reducible exact b1.out | with_reducible exact b2.out | with_reducible exact b3.out | with_reducible exact b4.out | with_reducible exact bA.out | with_reducible exact bZ.out | fail))) (first
    | (go_at_call 44; refine (k1.out _ (up.out _ (by first | with_reducible exact bd.out | with_reducible exact Below.refl _ _))).mono ?_; rintro e x1 ⟨⟨v1, rfl, hO1⟩, hb1⟩; obtain ⟨a_1, n1, c1, rfl, -, -, -, -, -⟩ := hO1.form; have b1 : Hid (Below W.heap.size W x1) := (by first | with_reducible exact hb1 | exact bd.out.trans hb1); have L1_1 : Hid (Load x1 x1.heap.size (.slice a_1 n1 c1) Y1) := load_of_owns hO1; clear hO1 hb1 k1)
    | (go_at_call 73; refine (k2.out _ (up.out _ b1.out)).mono ?_; rintro e x2 ⟨⟨v2, rfl, hO2⟩, hb2⟩; obtain ⟨a_2, n2, c2, rfl, -, -, -, -, -⟩ := hO2.form; have b2 : Hid (Below W.heap.size W x2) := b1.out.trans (hb2.mono b1.out.size); have L1_2 : Hid (Load x2 x2.heap.size (.slice a_1 n1 c1) Y1) := (L1_1.out.mono hb2.size).keep (keep5_below hb2 _); have L2_2 : Hid (Load x2 x2.heap.size (.slice a_2 n2 c2) Y2) := load_of_owns hO2; have bA : Hid (Below W.heap.size W (x2.alloc (.cells #[.slice a_1 n1 c1, .slice a_2 n2 c2] 22))) := b2.out.trans ((alloc_below x2 _).mono b2.out.size); clear hO2 hb2 k2)
    | (go_at_call 68; refine (kJ.out _ _ _ (up.out _ b2.out) L1_2.out L2_2.out).mono ?_; rintro e xz ⟨⟨vz, rfl, hOz⟩, hbz⟩; have OZ : Hid (OwnsB xz w.heap.size vz X) := hOz.base (up.out _ b2.out).size; have bZ : Hid (Below W.heap.size W xz) := b2.out.trans (hbz.mono b2.out.size); have BZ : Hid (Below w.heap.size w xz) := up.out _ bZ.out; clear hOz hbz))
  all_goals
    go_wp2_with fail
    go_ret
    exact ⟨⟨_, rfl, OZ.out⟩, BZ.out⟩
set_option maxHeartbeats 8000000 in
set_option maxRecDepth 100000 in
theorem sitem_k9 {L k D : Nat} {t : Tr} {b : Nb} {w : World} (ih : SIt L k) (hk30 : k ≤ 30) (hd : t.deep ≤ k + 1) (hA : t.All EG) (hN : Nd (D + 1) w b t) (hK : t.kind = 9) (hg : EG t) (hC : Cv L w) (hL : L ≤ w.heap.size) : Calls Tryz.prog 41 #[.agg b.arr] w fun e w' => BytIs w w' e (encF (k + 1) t) := by
  have hk : b.kind = 9 := hN.1.1.trans hK
  have hE : encF (k + 1) t = jnB [hdB 6 t.num.toNat, jnB (t.kids.map (encF k)) []] [] := by rw [encF]; simp [hK]
  have hCx : ∀ x, Below w.heap.size w x → Cv L x ∧ L ≤ x.heap.size := fun x hx => ⟨hC.on (hx.mono hL), Nat.le_trans hL hx.size⟩
  have B0 : Hid (Below w.heap.size w (w.alloc (.cells b.arr 26))) := alloc_below w _
  have HW : Hid (w.heap.size ≤ (w.alloc (.cells b.arr 26)).heap.size) := B0.out.size
  have SK : Hid (∀ x, Below (w.alloc (.cells b.arr 26)).heap.size (w.alloc (.cells b.arr 26)) x → x.cell? ⟨w.heap.size, 1, none⟩ = some (.int .u64 b.num) ∧ x.cell? ⟨w.heap.size, 8, none⟩ = some (.slice b.ai b.li b.ci)) := fun x hx => by
    obtain ⟨a0, a1, a2, a3, a4, a5, a6, a7, a8⟩ := ((nbox_new w b).kept hx (alloc_lt _ _)).fields
    exact ⟨a1, a8⟩
  obtain ⟨a0, a1, a2, a3, a4, a5, a6, a7, a8⟩ := (nbox_new w b).fields
  obtain ⟨hnum, hn64⟩ := nd_num hN
  have hx := nd_exp hN
  have hneg : b.neg = t.neg := hN.1.2.2.1
  have hdig : b.dig = t.dig := hN.1.2.2.2.1
  have hexp : b.exp = t.exp := hN.1.2.2.2.2.1
  obtain ⟨_, gk, gi⟩ := (Tr.all_eq EG t).1 hA
  have hkd : ∀ u ∈ t.kids, u.deep ≤ k ∧ u.All EG := fun u hu => ⟨by have := Tr.kid_deep hu; omega, gi u hu⟩
  have hyd : ∀ u ∈ t.keys, u.deep ≤ k ∧ u.All EG := fun u hu => ⟨by have := Tr.key_deep hu; omega, gk u hu⟩
  have hRk := hN.2.2.2.1
  have hRi := hN.2.2.2.2
  have hli : t.kids.length = b.li := hRi.1
  have mli : b.li * 136 ≤ 140737488351232 := hRi.2.1.2.2.2
  have mlk : b.lk * 136 ≤ 140737488351232 := hRk.2.1.2.2.2
  have mci : b.ci ≤ 9223372036854775807 := by have := hRi.2.1.2.1; unfold maxLen at this; omega
  have mc : b.li ≤ b.ci := hRi.2.1.1
  have wl : IntKind.u64.wrap (b.li : Int) = (b.li : Int) := by rw [IntKind.wrap_u64]; omega
  have LI : ∀ x ∈ t.kids.map (encF k), x.length ≤ 400000 := fun x hx => by
    obtain ⟨u, hu, rfl⟩ := List.mem_map.1 hx
    exact Nat.le_trans (encF_len k u (hkd u hu).2) (by omega)
  have LP : ∀ x ∈ prB (encF k) t.keys t.kids, x.length ≤ 400000 := prB_mem _ (fun x => x.length ≤ 400000) _ _ (fun u hu => Nat.le_trans (encF_len k u (hyd u hu).2) (by omega)) (fun u hu => Nat.le_trans (encF_len k u (hkd u hu).2) (by omega))
  have k1 : Hid (∀ x, Below w.heap.size w x → Calls Tryz.prog 44 #[.int .i64 6, .int .u64 b.num] x fun e w' => BytIs x w' e (hdB 6 t.num.toNat)) := fun x hx' => by
    rw [hnum]
    exact shead_any 6 t.num.toNat (by omega) hn64 (hCx x hx').1.2 (hCx x hx').2
  have k2 : Hid (∀ x, Below w.heap.size w x → Calls Tryz.prog 72 #[.slice b.ai b.li b.ci] x fun e w' => BytIs x w' e (jnB (t.kids.map (encF k)) [])) := fun x hx' => by
    exact sitems_any ih hk30 b.ai b.li b.ci t.kids x (hN.kept hx').2.2.2.2 hkd (hCx x hx').1 (hCx x hx').2 (by omega)
  have kJ : Hid (∀ x v1 v2, Below w.heap.size w x → Load x x.heap.size v1 (hdB 6 t.num.toNat) → Load x x.heap.size v2 (jnB (t.kids.map (encF k)) []) → Calls Tryz.prog 68 #[.slice (some ⟨x.heap.size, 0, none⟩) 2 2] (x.alloc (.cells #[v1, v2] 22)) fun e w' => BytIs x w' e (jnB [hdB 6 t.num.toNat, jnB (t.kids.map (encF k)) []] [])) := fun x v1 v2 hx' h1 h2 => sjoin2 h1 h2 (Nat.le_trans (hdB_len 6 t.num.toNat) (by omega)) (Nat.le_trans (jnB_len 400000 _ [] LI (by simp)) (by omega))
  rw [hE]
  have e1 : (b.kind == 1) = false := by rw [hk]; decide
  have e2 : (b.kind == 2) = false := by rw [hk]; decide
  have e3 : (b.kind == 3) = false := by rw [hk]; decide
  have e4 : (b.kind == 4) = false := by rw [hk]; decide
  have e5 : (b.kind == 5) = false := by rw [hk]; decide
  have e6 : (b.kind == 6) = false := by rw [hk]; decide
  have e7 : (b.kind == 7) = false := by rw [hk]; decide
  have e8 : (b.kind == 8) = false := by rw [hk]; decide
  have e9 : (b.kind == 9) = true := by rw [hk]; decide
  generalize jnB [hdB 6 t.num.toNat, jnB (t.kids.map (encF k)) []] [] = X at *
  generalize hdB 6 t.num.toNat = Y1 at *
  generalize jnB (t.kids.map (encF k)) [] = Y2 at *
  unfold BytIs at kJ k1 k2 ⊢
  clear hN hK hg hC hL hE hCx hnum hn64 hx hneg hdig hexp hk hkd hyd hRk hRi hli mli mlk LI LP gk gi hA hd ih hk30
  go_enter Tryz.func41, Tryz.ntmps41
  go_upto_region 19 with fail
  generalize w.alloc (.cells b.arr 26) = W at *
  have bd : Hid (Below W.heap.size W W.drew) := (Below.refl _ _).drew
  have up : Hid (∀ x, Below W.heap.size W x → Below w.heap.size w x) := fun x hx => B0.out.trans (hx.mono HW.out)
  go_region_held3 (fun x => x.cell? ⟨w.heap.size, 1, none⟩ = some (.int .u64 b.num) ∧ x.cell? ⟨w.heap.size, 8, none⟩ = some (.slice b.ai b.li b.ci)) (((with_reducible refine SK.out _ ?_); (all_goals first | with_reducible exact bd.out | with_reducible exact Below.refl _ _ | with_reducible exact b1.out | with_reducible exact b2.out | with_reducible exact b3.out | with_reducible exact b4.out | with_reducible exact bA.out | with_reducible exact bZ.out | fail))) (first
    | (go_at_call 44; refine (k1.out _ (up.out _ (by first | with_reducible exact bd.out | with_reducible exact Below.refl _ _))).mono ?_; rintro e x1 ⟨⟨v1, rfl, hO1⟩, hb1⟩; obtain ⟨a_1, n1, c1, rfl, -, -, -, -, -⟩ := hO1.form; have b1 : Hid (Below W.heap.size W x1) := (by first | with_reducible exact hb1 | exact bd.out.trans hb1); have L1_1 : Hid (Load x1 x1.heap.size (.slice a_1 n1 c1) Y1) := load_of_owns hO1; clear hO1 hb1 k1)
    | (go_at_call 72; refine (k2.out _ (up.out _ b1.out)).mono ?_; rintro e x2 ⟨⟨v2, rfl, hO2⟩, hb2⟩; obtain ⟨a_2, n2, c2, rfl, -, -, -, -, -⟩ := hO2.form; have b2 : Hid (Below W.heap.size W x2) := b1.out.trans (hb2.mono b1.out.size); have L1_2 : Hid (Load x2 x2.heap.size (.slice a_1 n1 c1) Y1) := (L1_1.out.mono hb2.size).keep (keep5_below hb2 _); have L2_2 : Hid (Load x2 x2.heap.size (.slice a_2 n2 c2) Y2) := load_of_owns hO2; have bA : Hid (Below W.heap.size W (x2.alloc (.cells #[.slice a_1 n1 c1, .slice a_2 n2 c2] 22))) := b2.out.trans ((alloc_below x2 _).mono b2.out.size); clear hO2 hb2 k2)
    | (go_at_call 68; refine (kJ.out _ _ _ (up.out _ b2.out) L1_2.out L2_2.out).mono ?_; rintro e xz ⟨⟨vz, rfl, hOz⟩, hbz⟩; have OZ : Hid (OwnsB xz w.heap.size vz X) := hOz.base (up.out _ b2.out).size; have bZ : Hid (Below W.heap.size W xz) := b2.out.trans (hbz.mono b2.out.size); have BZ : Hid (Below w.heap.size w xz) := up.out _ bZ.out; clear hOz hbz))
  all_goals
    go_wp2_with fail
    go_ret
    exact ⟨⟨_, rfl, OZ.out⟩, BZ.out⟩
/-- EVERY ITEM IS WRITTEN. -/
theorem sitem_any (L : Nat) : ∀ k, k ≤ 30 → SIt L k
  | 0, _ => fun D t b w hN hd _ _ _ => by rw [Tr.deep_eq] at hd; omega
  | k + 1, hk => fun D t b w hN hd hA hC hL => by
    have ih := sitem_any L k (by omega)
    have hg : EG t := ((Tr.all_eq EG t).1 hA).1
    cases D with
    | zero => exact hN.elim
    | succ D =>
      by_cases h1 : t.kind = 1
      · exact sitem_k1 hN h1 hg hC hL
      by_cases h2 : t.kind = 2
      · exact sitem_k2 hN h2 hg hC hL
      by_cases h3 : t.kind = 3
      · exact sitem_k3 hN h3 hg hC hL
      by_cases h4 : t.kind = 4
      · exact sitem_k4 hN h4 hg hC hL
      by_cases h5 : t.kind = 5
      · exact sitem_k5 hN h5 hg hC hL
      by_cases h6 : t.kind = 6
      · exact sitem_k6 hN h6 hg hC hL
      by_cases h7 : t.kind = 7
      · exact sitem_k7 ih (by omega) hd hA hN h7 hg hC hL
      by_cases h8 : t.kind = 8
      · exact sitem_k8 ih (by omega) hd hA hN h8 hg hC hL
      by_cases h9 : t.kind = 9
      · exact sitem_k9 ih (by omega) hd hA hN h9 hg hC hL
      by_cases h10 : t.kind = 10
      · exact sitem_k10 hN h10 hg hC hL
      · exact sitem_k0 hN (fun j hj1 hj2 e => by omega) hC hL
end Go.Proofs.YtnjbppfanmmifaaGreatDoor
namespace Go.Proofs.YtnjbppfanmmifaaGreatDoor
open Go.RowKit
theorem field_why (x y : Value) (w : World) : Sem.run Tryz.prog (Instr.field 29 (.agg #[x, y]) 0) w = .ok x w := by
  have t1 := Tryz.underlying29
  simp [Instr.field, run_underlying t1, asAgg, part, go_sem, Tryz.isAgg27, Tryz.sizeOf27]
end Go.Proofs.YtnjbppfanmmifaaGreatDoor
namespace Go.Proofs.YtnjbppfanmmifaaGreatDoor
open Go.RowKit
set_option linter.unusedVariables false

set_option maxHeartbeats 8000000 in
set_option maxRecDepth 100000 in
theorem fault_k5 {D : Nat} {t : Tr} {b : Nb} {w : World} (hN : Nd (D + 1) w b t) (h5 : b.kind = 5) : Calls Tryz.prog 64 #[.agg b.arr] w fun e w' => e = .returned (.int .i64 (alF t)) ∧ Below w.heap.size w w' := by
  have hal := alloc_below w (.cells b.arr 26)
  have B0 : Hid (Below w.heap.size w (w.alloc (.cells b.arr 26))) := hal
  have Q0 : Hid (NBox (w.alloc (.cells b.arr 26)) w.heap.size b) := nbox_new w b
  obtain ⟨a0, a1, a2, a3, a4, a5, a6, a7, a8⟩ := (nbox_new w b).fields
  have hodd := odd_eq hN
  have rk := hN.2.2.2.1.2.1
  have ri := hN.2.2.2.2.2.1
  have kM := fun w' => maybe_any b w' ⟨rk.1, rk.2.1, ri.1, ri.2.1⟩
  have kR := fun w' => rest_any b w'
  have kS : Hid (∀ w', Below w.heap.size w w' → Calls Tryz.prog 75 #[.agg (rst b).arr, .agg #[.int .i64 0, .int .u64 0, .bool false, .string ⟨#[]⟩, .int .i64 0, .string ⟨#[]⟩, .slice none 0 0, .slice none 0 0, .slice none 0 0]] w' fun e w'' => e = .returned (.bool t.clean) ∧ Below w'.heap.size w' w'') := fun w' hb => sam_any (b := zN) (nd_rst (hN.kept hb)) (nd_zero 0 w') (rst_clean t).symm
  have hk : b.kind = t.kind := hN.1.1
  have hneg : b.neg = t.neg := hN.1.2.2.1
  have hdig : b.dig = t.dig := hN.1.2.2.2.1
  have hexp : b.exp = t.exp := hN.1.2.2.2.2.1
  have htxt : b.txt = t.txt := hN.1.2.2.2.2.2
  have hlb : t.bytes.length = b.lb := hN.2.2.1.1
  have mb1 := hN.2.2.1.2.1.1
  have mb2 := hN.2.2.1.2.1.2.1
  unfold maxLen at mb2
  have mt : b.txt.size ≤ 140737488351232 := by rw [htxt]; exact hN.2.1.2.2.2.2
  have hA : alF t = if (b.kind = 5 ∧ 4096 < b.txt.size) ∨ (b.kind = 6 ∧ 4096 < b.lb) then 8
    else if b.kind = 5 ∧ gtx b.txt = false then 6
    else if b.kind = 2 ∧ (rt b.dig = false ∨ (b.neg = true ∧ b.dig = ⟨#[48]⟩)) then 11
    else if b.kind = 3 ∧ rdN b.neg b.dig b.exp = false then 11
    else if t.odd = true then 12 else 0 := by
    rw [hk, hneg, hdig, hexp, htxt, ← hlb]; rfl
  clear hneg hdig hexp htxt hlb hN hk hal rk ri
  have e2 : (b.kind == 2) = false := by rw [h5]; decide
  have e3 : (b.kind == 3) = false := by rw [h5]; decide
  have e5 : (b.kind == 5) = true := by rw [h5]; decide
  have e6 : (b.kind == 6) = false := by rw [h5]; decide
  have hfw : ∀ (x y : Value) (w : World), Sem.run Tryz.prog (Instr.field 29 (.agg #[x, y]) 0) w = .ok x w := field_why
  by_cases hT : 4096 < b.txt.size
  · have dT : decide ((4096 : Int) < ((b.txt.size : Nat) : Int)) = true := by simp; omega
    rw [if_pos (.inl ⟨h5, hT⟩)] at hA
    rw [hA]
    clear hA hT hodd kM kR kS h5
    go_enter Tryz.func64, Tryz.ntmps64
    go_wp2
    go_ret
    exact ⟨rfl, B0.out⟩
  · have dT : decide ((4096 : Int) < ((b.txt.size : Nat) : Int)) = false := by simp; omega
    have hC1 : ¬ ((b.kind = 5 ∧ 4096 < b.txt.size) ∨ (b.kind = 6 ∧ 4096 < b.lb)) := by omega
    have hcv := Lib.run_convert_string_bytes (P := Tryz.prog) (w.alloc (.cells b.arr 26)) 9 22 5 b.txt Tryz.underlying9 Tryz.underlying22 Tryz.underlying5
    have BC : Hid (Below (w.alloc (.cells b.arr 26)).heap.size (w.alloc (.cells b.arr 26)) (Lib.bytesWorld (w.alloc (.cells b.arr 26)) 5 b.txt)) := conv_below _ _
    obtain ⟨gC, nC, cC, hvC, hlC, hcC, hcC', hBC⟩ := (own_conv (w.alloc (.cells b.arr 26)) b.txt (by omega)).form
    have hvC' : (Value.slice (some ⟨(w.alloc (.cells b.arr 26)).heap.size, 0, none⟩) b.txt.size (grownCap (w.alloc (.cells b.arr 26)) b.txt.size 0 5)) = Value.slice (some ⟨gC, 0, none⟩) nC cC := hvC
    rw [hvC'] at hcv
    have kC := check_any (some ⟨gC, 0, none⟩) nC cC (bs b.txt) (Lib.bytesWorld (w.alloc (.cells b.arr 26)) 5 b.txt) hlC.out hBC.out hcC (by have := hlC.out; rw [bs_len] at this; omega)
    have B1 : Hid (Below w.heap.size w (Lib.bytesWorld (w.alloc (.cells b.arr 26)) 5 b.txt)) := B0.out.trans (BC.out.mono B0.out.size)
    have Q1 : Hid (NBox (Lib.bytesWorld (w.alloc (.cells b.arr 26)) 5 b.txt) w.heap.size b) := Q0.out.kept BC.out Q0.out.lt
    rw [if_neg hC1] at hA
    have hW := why_two (bs b.txt)
    have hG : gtx b.txt = decide (whyL (bs b.txt) = 0) := rfl
    generalize Lib.bytesWorld (w.alloc (.cells b.arr 26)) 5 b.txt = W1 at *
    generalize whyL (bs b.txt) = Y at *
    generalize atL (bs b.txt) = AT at *
    clear hvC hvC' hlC hBC BC hC1 Q0 B0
    rcases hW with rfl | rfl
    · rw [hG, if_neg (by simp), if_neg (by omega), if_neg (by omega)] at hA
      clear hG
      rcases Nat.lt_or_ge 4096 b.lb with hL | hL
      · have dL : decide ((4096 : Int) < ((b.lb : Nat) : Int)) = true := by simp; omega
        clear hL hT h5
        cases hm : mayB b with
        | false =>
          have hO : t.odd = true := by rw [hodd, hm]; rfl
          rw [hO, if_pos rfl] at hA
          rw [hA]
          rw [hm] at kM
          clear hO hA hodd hm
          go_enter Tryz.func64, Tryz.ntmps64
          go_wp2_with (first
            | (go_at_call 103; refine (kC).mono ?_; rintro e wC ⟨rfl, hwC⟩; clear a0 a1 a2 a3 a4 a5 a6 a7 a8; have QwC : Hid (NBox wC w.heap.size b) := Q1.out.kept hwC Q1.out.lt; have BwC : Hid (Below w.heap.size w wC) := B1.out.trans (hwC.mono B1.out.size); obtain ⟨a0, a1, a2, a3, a4, a5, a6, a7, a8⟩ := QwC.out.fields)
            | (go_at_call 106; refine (kM _).mono ?_; rintro e wM ⟨rfl, hwM⟩; clear a0 a1 a2 a3 a4 a5 a6 a7 a8; have QwM : Hid (NBox wM w.heap.size b) := QwC.out.kept hwM QwC.out.lt; have BwM : Hid (Below w.heap.size w wM) := BwC.out.trans (hwM.mono BwC.out.size); obtain ⟨a0, a1, a2, a3, a4, a5, a6, a7, a8⟩ := QwM.out.fields))
          go_ret
          exact ⟨rfl, BwM.out⟩
        | true =>
          rw [hm] at kM
          cases hc : t.clean with
          | false =>
            have hO : t.odd = true := by rw [hodd, hm, hc]; rfl
            rw [hO, if_pos rfl] at hA
            rw [hA]
            rw [hc] at kS
            clear hO hA hodd hm hc
            go_enter Tryz.func64, Tryz.ntmps64
            go_wp2_with (first
              | (go_at_call 103; refine (kC).mono ?_; rintro e wC ⟨rfl, hwC⟩; clear a0 a1 a2 a3 a4 a5 a6 a7 a8; have QwC : Hid (NBox wC w.heap.size b) := Q1.out.kept hwC Q1.out.lt; have BwC : Hid (Below w.heap.size w wC) := B1.out.trans (hwC.mono B1.out.size); obtain ⟨a0, a1, a2, a3, a4, a5, a6, a7, a8⟩ := QwC.out.fields)
              | (go_at_call 106; refine (kM _).mono ?_; rintro e wM ⟨rfl, hwM⟩; clear a0 a1 a2 a3 a4 a5 a6 a7 a8; have QwM : Hid (NBox wM w.heap.size b) := QwC.out.kept hwM QwC.out.lt; have BwM : Hid (Below w.heap.size w wM) := BwC.out.trans (hwM.mono BwC.out.size); obtain ⟨a0, a1, a2, a3, a4, a5, a6, a7, a8⟩ := QwM.out.fields)
              | (go_at_call 107; refine (kR _).mono ?_; rintro e wR ⟨rfl, hwR⟩; have BwR : Hid (Below w.heap.size w wR) := BwM.out.trans (hwR.mono BwM.out.size); have kS' := kS.out wR BwR.out)
              | (go_at_call 75; refine kS'.mono ?_; rintro e wS ⟨rfl, hwS⟩))
            go_ret
            exact ⟨rfl, BwR.out.trans (hwS.mono BwR.out.size)⟩
          | true =>
            have hO : t.odd = false := by rw [hodd, hm, hc]; rfl
            rw [hO, if_neg (by simp)] at hA
            rw [hA]
            rw [hc] at kS
            clear hO hA hodd hm hc
            go_enter Tryz.func64, Tryz.ntmps64
            go_wp2_with (first
              | (go_at_call 103; refine (kC).mono ?_; rintro e wC ⟨rfl, hwC⟩; clear a0 a1 a2 a3 a4 a5 a6 a7 a8; have QwC : Hid (NBox wC w.heap.size b) := Q1.out.kept hwC Q1.out.lt; have BwC : Hid (Below w.heap.size w wC) := B1.out.trans (hwC.mono B1.out.size); obtain ⟨a0, a1, a2, a3, a4, a5, a6, a7, a8⟩ := QwC.out.fields)
              | (go_at_call 106; refine (kM _).mono ?_; rintro e wM ⟨rfl, hwM⟩; clear a0 a1 a2 a3 a4 a5 a6 a7 a8; have QwM : Hid (NBox wM w.heap.size b) := QwC.out.kept hwM QwC.out.lt; have BwM : Hid (Below w.heap.size w wM) := BwC.out.trans (hwM.mono BwC.out.size); obtain ⟨a0, a1, a2, a3, a4, a5, a6, a7, a8⟩ := QwM.out.fields)
              | (go_at_call 107; refine (kR _).mono ?_; rintro e wR ⟨rfl, hwR⟩; have BwR : Hid (Below w.heap.size w wR) := BwM.out.trans (hwR.mono BwM.out.size); have kS' := kS.out wR BwR.out)
              | (go_at_call 75; refine kS'.mono ?_; rintro e wS ⟨rfl, hwS⟩))
            go_ret
            exact ⟨rfl, BwR.out.trans (hwS.mono BwR.out.size)⟩
      · have dL : decide ((4096 : Int) < ((b.lb : Nat) : Int)) = false := by simp; omega
        clear hL hT h5
        cases hm : mayB b with
        | false =>
          have hO : t.odd = true := by rw [hodd, hm]; rfl
          rw [hO, if_pos rfl] at hA
          rw [hA]
          rw [hm] at kM
          clear hO hA hodd hm
          go_enter Tryz.func64, Tryz.ntmps64
          go_wp2_with (first
            | (go_at_call 103; refine (kC).mono ?_; rintro e wC ⟨rfl, hwC⟩; clear a0 a1 a2 a3 a4 a5 a6 a7 a8; have QwC : Hid (NBox wC w.heap.size b) := Q1.out.kept hwC Q1.out.lt; have BwC : Hid (Below w.heap.size w wC) := B1.out.trans (hwC.mono B1.out.size); obtain ⟨a0, a1, a2, a3, a4, a5, a6, a7, a8⟩ := QwC.out.fields)
            | (go_at_call 106; refine (kM _).mono ?_; rintro e wM ⟨rfl, hwM⟩; clear a0 a1 a2 a3 a4 a5 a6 a7 a8; have QwM : Hid (NBox wM w.heap.size b) := QwC.out.kept hwM QwC.out.lt; have BwM : Hid (Below w.heap.size w wM) := BwC.out.trans (hwM.mono BwC.out.size); obtain ⟨a0, a1, a2, a3, a4, a5, a6, a7, a8⟩ := QwM.out.fields))
          go_ret
          exact ⟨rfl, BwM.out⟩
        | true =>
          rw [hm] at kM
          cases hc : t.clean with
          | false =>
            have hO : t.odd = true := by rw [hodd, hm, hc]; rfl
            rw [hO, if_pos rfl] at hA
            rw [hA]
            rw [hc] at kS
            clear hO hA hodd hm hc
            go_enter Tryz.func64, Tryz.ntmps64
            go_wp2_with (first
              | (go_at_call 103; refine (kC).mono ?_; rintro e wC ⟨rfl, hwC⟩; clear a0 a1 a2 a3 a4 a5 a6 a7 a8; have QwC : Hid (NBox wC w.heap.size b) := Q1.out.kept hwC Q1.out.lt; have BwC : Hid (Below w.heap.size w wC) := B1.out.trans (hwC.mono B1.out.size); obtain ⟨a0, a1, a2, a3, a4, a5, a6, a7, a8⟩ := QwC.out.fields)
              | (go_at_call 106; refine (kM _).mono ?_; rintro e wM ⟨rfl, hwM⟩; clear a0 a1 a2 a3 a4 a5 a6 a7 a8; have QwM : Hid (NBox wM w.heap.size b) := QwC.out.kept hwM QwC.out.lt; have BwM : Hid (Below w.heap.size w wM) := BwC.out.trans (hwM.mono BwC.out.size); obtain ⟨a0, a1, a2, a3, a4, a5, a6, a7, a8⟩ := QwM.out.fields)
              | (go_at_call 107; refine (kR _).mono ?_; rintro e wR ⟨rfl, hwR⟩; have BwR : Hid (Below w.heap.size w wR) := BwM.out.trans (hwR.mono BwM.out.size); have kS' := kS.out wR BwR.out)
              | (go_at_call 75; refine kS'.mono ?_; rintro e wS ⟨rfl, hwS⟩))
            go_ret
            exact ⟨rfl, BwR.out.trans (hwS.mono BwR.out.size)⟩
          | true =>
            have hO : t.odd = false := by rw [hodd, hm, hc]; rfl
            rw [hO, if_neg (by simp)] at hA
            rw [hA]
            rw [hc] at kS
            clear hO hA hodd hm hc
            go_enter Tryz.func64, Tryz.ntmps64
            go_wp2_with (first
              | (go_at_call 103; refine (kC).mono ?_; rintro e wC ⟨rfl, hwC⟩; clear a0 a1 a2 a3 a4 a5 a6 a7 a8; have QwC : Hid (NBox wC w.heap.size b) := Q1.out.kept hwC Q1.out.lt; have BwC : Hid (Below w.heap.size w wC) := B1.out.trans (hwC.mono B1.out.size); obtain ⟨a0, a1, a2, a3, a4, a5, a6, a7, a8⟩ := QwC.out.fields)
              | (go_at_call 106; refine (kM _).mono ?_; rintro e wM ⟨rfl, hwM⟩; clear a0 a1 a2 a3 a4 a5 a6 a7 a8; have QwM : Hid (NBox wM w.heap.size b) := QwC.out.kept hwM QwC.out.lt; have BwM : Hid (Below w.heap.size w wM) := BwC.out.trans (hwM.mono BwC.out.size); obtain ⟨a0, a1, a2, a3, a4, a5, a6, a7, a8⟩ := QwM.out.fields)
              | (go_at_call 107; refine (kR _).mono ?_; rintro e wR ⟨rfl, hwR⟩; have BwR : Hid (Below w.heap.size w wR) := BwM.out.trans (hwR.mono BwM.out.size); have kS' := kS.out wR BwR.out)
              | (go_at_call 75; refine kS'.mono ?_; rintro e wS ⟨rfl, hwS⟩))
            go_ret
            exact ⟨rfl, BwR.out.trans (hwS.mono BwR.out.size)⟩
    · rw [hG, if_pos ⟨h5, rfl⟩] at hA
      rw [hA]
      clear hG hA hodd kM kR kS
      rcases Nat.lt_or_ge 4096 b.lb with hL | hL
      · have dL : decide ((4096 : Int) < ((b.lb : Nat) : Int)) = true := by simp; omega
        clear hL hT h5
        go_enter Tryz.func64, Tryz.ntmps64
        go_wp2_with (first
          | (go_at_call 103; refine (kC).mono ?_; rintro e wC ⟨rfl, hwC⟩; clear a0 a1 a2 a3 a4 a5 a6 a7 a8; have QwC : Hid (NBox wC w.heap.size b) := Q1.out.kept hwC Q1.out.lt; have BwC : Hid (Below w.heap.size w wC) := B1.out.trans (hwC.mono B1.out.size); obtain ⟨a0, a1, a2, a3, a4, a5, a6, a7, a8⟩ := QwC.out.fields))
        go_ret
        exact ⟨rfl, BwC.out⟩
      · have dL : decide ((4096 : Int) < ((b.lb : Nat) : Int)) = false := by simp; omega
        clear hL hT h5
        go_enter Tryz.func64, Tryz.ntmps64
        go_wp2_with (first
          | (go_at_call 103; refine (kC).mono ?_; rintro e wC ⟨rfl, hwC⟩; clear a0 a1 a2 a3 a4 a5 a6 a7 a8; have QwC : Hid (NBox wC w.heap.size b) := Q1.out.kept hwC Q1.out.lt; have BwC : Hid (Below w.heap.size w wC) := B1.out.trans (hwC.mono B1.out.size); obtain ⟨a0, a1, a2, a3, a4, a5, a6, a7, a8⟩ := QwC.out.fields))
        go_ret
        exact ⟨rfl, BwC.out⟩
end Go.Proofs.YtnjbppfanmmifaaGreatDoor
