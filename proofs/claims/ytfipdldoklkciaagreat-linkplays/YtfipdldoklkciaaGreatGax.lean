/-
  Texts Lsv, Lsy.
-/
import Derived.Test.YtfipdldoklkciaaGreatGaw
import Derived.Test.YtfipdldoklkciaaGreatGap
import Derived.Test.YtfipdldoklkciaaGreatGaq
namespace Go.Proofs.YtfipdldoklkciaaGreat
open Go.RowKit
set_option linter.unusedVariables false
variable {B : Nat}
theorem wpList_app_g {w : World} {ops : Array Oper} {rest : List Oper} {o : Oper} {a : Act} {Q : Exit → Act → World → Prop} (hgd : o.guard = none) (s x : Operand)
    (ho : o.op = .call { callee := .builtin .append, args := #[s, x], argTypes := #[34, 34] }) (base : Nat) (v : Value) (L M : List Gr) (hs : a.eval s = v) (a2 : Option Addr) (m c : Nat) (hx : a.eval x = .slice a2 m c) (hown : OwnsG w base v L) (hsr : SrcG w a2 m c M) (hlen : L.length + M.length ≤ 1000000000) (hbase : base ≤ w.heap.size)
    (h : ∀ v' w', OwnsG w' base v' (L ++ M) → w.grownBy w' v.ownBlock → wpList Tryz.prog ops Q rest (a.put o.dst v') w') : wpList Tryz.prog ops Q (o :: rest) a w := by
  obtain ⟨v', w', hr, h1, h2⟩ := run_app_g o.type base v L M hown a2 m c hsr hlen hbase
  refine wpList_plain hgd fun _ hK => ?_
  unfold Oper.wp execOp
  simp only [ho, resolve, invoke, builtin, Sem.run_bind, Sem.run_pure, Result.andThen_ok, List.map_toArray, List.map_cons, List.map_nil, hs, hx, hr]
  exact hK _ _ (h v' w' h1 h2)
theorem OwnsG.put {w : World} {base g n c : Nat} {G : List Gr} {i : Nat} (h : OwnsG w base (.slice (some ⟨g, 0, none⟩) n c) G) (hi : i < G.length) (x : Gr) :
    OwnsG ((w.setCell ⟨g, i * 2, none⟩ (.slice x.a x.n x.c)).setCell ⟨g, i * 2 + 1, none⟩ (.bool x.sp)) base (.slice (some ⟨g, 0, none⟩) n c) (G.set i x) := by
  have hn : n = G.length := by
    rcases h.2 with ⟨hv, _⟩ | ⟨g', cap, cur, hv, _⟩
    · cases hv
    · cases hv; rfl
  subst hn
  have := ((World.ownsRow.stored h (i * 2) (.slice x.a x.n x.c)).1.stored (i * 2 + 1) (.bool x.sp)).1
  unfold OwnsG
  rw [List.length_set, gCs_set x hi]
  exact this
theorem OwnsG.two {w : World} {base g n c : Nat} {G : List Gr} {i : Nat} (h : OwnsG w base (.slice (some ⟨g, 0, none⟩) n c) G) (hi : i < G.length) :
    (∃ u, w.cell? ⟨g, i * 2, none⟩ = some u) ∧ (∃ u, w.cell? ⟨g, i * 2 + 1, none⟩ = some u) ∧ (∀ j, w.frozen? ⟨g, j, none⟩ = false) := by
  have hn : n = G.length := by
    rcases h.2 with ⟨hv, _⟩ | ⟨g', cap, cur, hv, _⟩
    · cases hv
    · cases hv; rfl
  subst hn
  have hl := gCs_len G
  refine ⟨⟨(gCs G)[i * 2]'(by omega), ?_⟩, ⟨(gCs G)[i * 2 + 1]'(by omega), ?_⟩, fun j => World.ownsRow.frozenAt h j⟩
  · rw [World.ownsRow.cellAt h (i * 2) (by omega)]; exact List.getElem?_eq_getElem _
  · rw [World.ownsRow.cellAt h (i * 2 + 1) (by omega)]; exact List.getElem?_eq_getElem _
theorem ownsG_some {w : World} {base : Nat} {v : Value} {G : List Gr} (h : OwnsG w base v G) (hl : 0 < G.length) : ∃ g c, v = .slice (some ⟨g, 0, none⟩) G.length c ∧ base ≤ g ∧ G.length ≤ c ∧ c ≤ 9223372036854775807 := by
  rcases h.2 with ⟨hv, hn⟩ | ⟨g, cap, cur, hv, hg, hc, hnc, hcm, r⟩
  · omega
  · exact ⟨g, cap, hv, hg, hnc, by unfold maxLen at hcm; exact hcm⟩
set_option maxRecDepth 100000 in
theorem xturn0_sp {w : World} {lb : Nat} {L : Lk} {i : Nat} {g : Gr} (x y : Int) (h : XM B w lb L) (hE : canE L 0 (i : Nat) = 0) (hi : L.n0[i]? = some g) (hs : g.sp = true) :
    Calls Tryz.prog 38 #[.pointer (some ⟨lb, 0, none⟩), .int .i64 0, .int .i64 (i : Nat), .int .i64 x, .int .u32 y] w fun e w' => e = .returned (.int .i64 18) ∧ Hid (XM B w' lb L) ∧ Hid (KX B lb w w') := by
  have k0 := XC.there 0 (i : Nat) h
  rw [hE] at k0
  have hX : Hid (XM B w lb L) := h
  obtain ⟨d, v, rv, v0, v1, G0, G1, hB⟩ := h
  obtain ⟨xg, hxg, h1, h2⟩ := hB.p0.get hi
  have hlt : i < G0.length := (List.getElem?_eq_some_iff.1 hxg).1
  obtain ⟨gb, c, hv, y0, y1, hnc, hcm⟩ := hB.g0.cells hxg
  have c0 : w.cell? ⟨lb, 10, none⟩ = some (.slice (some ⟨gb, 0, none⟩) G0.length c) := by have := hB.blk.cell 10; rw [← hv]; exact this
  have q0 : decide ((i : Int) < (G0.length : Int)) = true := by simp; omega
  have q1 : decide ((0 : Int) ≤ (i : Int)) = true := by simp
  have hlb := hB.blk.lt
  have hgb : gb < w.heap.size := by rw [hv] at hB; exact ownC_lt hB.g0.own gb rfl
  have al : Hid (∀ cs, Below w.heap.size w (w.alloc (.cells cs 123))) := fun cs => (Below.refl _ _).alloc (Nat.le_refl _) _
  rw [h2, hs] at y1
  clear hB hE hi hxg h1 h2 hv hnc hcm
  go_enter Tryz.func38, Tryz.ntmps38
  go_wp2_with (go_at_call 69; refine k0.mono ?_; rintro e w1 ⟨rfl, hw1⟩; obtain rfl := hw1.symm; clear hw1 k0)
  go_ret
  exact ⟨rfl, hX.out.kept (al.out _), KX.of_below (al.out _)⟩
set_option maxHeartbeats 4000000 in
set_option maxRecDepth 100000 in
theorem xturn0 {w : World} {lb : Nat} {L : Lk} {i : Nat} {g : Gr} (x : Int) (y : Nat) (h : XM B w lb L) (hE : canE L 0 (i : Nat) = 0) (hf : L.n0.length ≤ 256) (hi : L.n0[i]? = some g) (hs : g.sp = false) (h4 : 4 ≤ g.zs.length) (hl : g.zs.length ≤ 100000) (hx : (Lit.int .i64 x).wf = true) (hy : y < 4294967296) :
    Calls Tryz.prog 38 #[.pointer (some ⟨lb, 0, none⟩), .int .i64 0, .int .i64 (i : Nat), .int .i64 x, .int .u32 (y : Nat)] w fun e w' => e = .returned (.int .i64 0) ∧ Hid (∃ g' : Gr, g'.zs = turnL g.zs (x % ((g.zs.length : Int) - 3)).toNat y ∧ g'.sp = ((y : Int) != 0) ∧ XM B w' lb { L with n0 := L.n0.set i g' }) ∧ Hid (KX B lb w w') := by
  have k0 := XC.there 0 (i : Nat) h
  rw [hE] at k0
  have hBw : Hid (B ≤ w.heap.size) := XC.low h
  obtain ⟨d, v, rv, v0, v1, G0, G1, hB⟩ := h
  obtain ⟨xg, hxg, h1, h2⟩ := hB.p0.get hi
  have hlt : i < G0.length := (List.getElem?_eq_some_iff.1 hxg).1
  obtain ⟨gb, c, hv, y0, y1, hnc, hcm⟩ := hB.g0.cells hxg
  have c0 : w.cell? ⟨lb, 10, none⟩ = some (.slice (some ⟨gb, 0, none⟩) G0.length c) := by have := hB.blk.cell 10; rw [← hv]; exact this
  have q0 : decide ((i : Int) < (G0.length : Int)) = true := by simp; omega
  have q1 : decide ((0 : Int) ≤ (i : Int)) = true := by simp
  have hlb := hB.blk.lt
  have hgb : gb < w.heap.size := by rw [hv] at hB; exact ownC_lt hB.g0.own gb rfl
  have hfG : Hid (G0.length ≤ 256) := by show _ ≤ 256; rw [hB.p0.len]; exact hf
  have al : Hid (∀ cs, Below w.heap.size w (w.alloc (.cells cs 123))) := fun cs => (Below.refl _ _).alloc (Nat.le_refl _) _
  rw [h2, hs] at y1
  rw [← h1] at h4 hl ⊢
  obtain ⟨xa, xn, xcp, hxv, hxl, hx0, -, -, hxB⟩ := OwnsB.form (hB.g0.ent xg (List.mem_of_getElem? hxg)).1
  have hxl' : xg.zs.length = xg.n := by cases hxv; exact hxl.out
  have hx0' : Hid (xg.a = none → xg.c = 0) := by cases hxv; exact hx0
  have hxB' : Hid (Bytes w xg.a xg.zs) := by cases hxv; exact hxB.out
  clear hxv hxl hx0 hxB
  have hBB : Hid (XB B w lb L d v rv v0 v1 (L.s.nxt - 1) L.r.tk G0 G1) := hB
  have hvv : Hid (v0 = .slice (some ⟨gb, 0, none⟩) G0.length c) := hv
  have hpq : Hid (Pq G0 L.n0) := hB.p0
  have hsrc : Hid (∀ x, Below w.heap.size w x → SrcG x (some ⟨gb, 0, none⟩) G0.length c G0) := fun x hx => by
    have := (hB.g0.kept hx)
    rw [hv] at this
    exact this.src
  -- the place
  generalize xg.zs = zs at *
  generalize xg.a = xa at *
  generalize xg.n = n at *
  generalize xg.c = xc at *
  subst hxl'
  obtain ⟨m, hm⟩ : ∃ m : Nat, (zs.length : Int) - 3 = (m : Nat) := ⟨zs.length - 3, by omega⟩
  have hmp : 0 < m := by omega
  simp [Lit.wf, show IntKind.i64.min = -9223372036854775808 from by decide, show IntKind.i64.max = 9223372036854775807 from by decide] at hx
  have b1 := Int.tmod_lt_of_pos x (show (0 : Int) < (m : Int) by omega)
  have b2 : -(m : Int) < Int.tmod x m := by
    have := Int.lt_tmod_of_pos x (show (0 : Int) < (m : Int) by omega)
    omega
  have w1 : IntKind.i64.wrap (Int.tmod x m) = Int.tmod x m := by rw [IntKind.wrap_i64]; omega
  have w2 : IntKind.i64.wrap (Int.tmod x m + m) = Int.tmod x m + m := by rw [IntKind.wrap_i64]; omega
  have e1 : Int.tmod (Int.tmod x m + m) m = x % (m : Int) := by
    rw [Int.tmod_eq_emod_of_nonneg (by omega), Int.add_emod_right]
    have h := Int.mul_tdiv_add_tmod x m
    have h2 : x = Int.tmod x m + m * Int.tdiv x m := by omega
    conv => rhs; rw [h2]
    rw [Int.add_mul_emod_self_left]
  obtain ⟨t, ht, htn⟩ : ∃ t : Nat, x % (m : Int) = (t : Int) ∧ t + 4 ≤ zs.length := by
    have q0 := Int.emod_nonneg x (show (m : Int) ≠ 0 by omega)
    have q1 := Int.emod_lt_of_pos x (show 0 < (m : Int) by omega)
    exact ⟨(x % (m : Int)).toNat, (Int.toNat_of_nonneg q0).symm, by omega⟩
  rw [ht] at e1
  rw [hm, ht]
  have w3 : IntKind.i64.wrap (t : Int) = (t : Int) := by rw [IntKind.wrap_i64]; omega
  have e3 : IntKind.i64.wrap ((zs.length : Int) - 3) = (m : Int) := by rw [IntKind.wrap_i64]; omega
  have e0' : ((m : Int) == 0) = false := by simp; omega
  have hm0 : (m = 0) = False := by simp; omega
  have w4 : wrap64 (Int.tmod x m) = Int.tmod x m := (w64 _).trans w1
  have w5 : wrap64 (Int.tmod x m + m) = Int.tmod x m + m := (w64 _).trans w2
  have htn' : Hid (t + 4 ≤ zs.length) := htn
  obtain ⟨p, k0', k1', k2', k3', r, hL, hpl⟩ := split4 zs t (by omega)
  have hT : turnL zs (t : Int).toNat y = p ++ (qs k0' k1' k2' k3' y 4 ++ r) := by rw [show (t : Int).toNat = t by omega, hL, ← hpl]; exact turnL_of p r k0' k1' k2' k3' y
  rw [hT]
  have hpl' : Hid (p.length = t) := hpl
  have hL' : Hid (zs = p ++ ([k0', k1', k2', k3'] ++ r)) := hL
  have hln : Hid (zs.length ≤ 100000 ∧ 4 ≤ zs.length) := ⟨hl, h4⟩
  have hy' : Hid (y < 4294967296) := hy
  obtain ⟨sp, hsp⟩ : ∃ sp, ((y : Int) != 0) = sp := ⟨_, rfl⟩
  rw [hsp]
  clear hB hE hi hxg h1 h2 hv hnc hcm h4 hl hx hf hs ht htn hpl hL hT hmp b1 b2
  go_enter Tryz.func38, Tryz.ntmps38
  go_wp2_with (first
    | (go_at_call 69; refine k0.mono ?_; rintro e w1 ⟨rfl, hw1⟩; obtain rfl := hw1.symm; clear hw1 k0)
    | (at_builtin; refine wpList_append_bytes rfl _ _ rfl (w.heap.size + 1) (.slice none 0 0) [] zs rfl (ownsB_nil _ _) xa zs.length xc rfl rfl hx0'.out (hxB'.out.kept (al.out _)) (by have := hln.out; simp; omega) (by simp) ?_; intro v4 w4 hO4 hg4; rw [List.nil_append] at hO4; have hb4 : Hid (Below w.heap.size w w4) := own_below' (al.out _) (ownsB_nil (w.alloc _) w.heap.size).1 hg4 (al.out _).size; obtain ⟨gB, nB, cB, rfl, hOR, hnB, hcB1, hcB2⟩ := hO4.row (by have := hln.out; omega); clear hO4 hg4; obtain rfl : nB = zs.length := hnB.out.symm))
  have hO' : Hid (OwnR w4 (w.heap.size + 1) gB zs.length cB (p ++ (qs k0' k1' k2' k3' y 0 ++ r))) := by have := hOR.out; rw [hL'.out] at this ⊢; exact this
  have hb4' : Hid (Below w.heap.size w w4) := hb4
  clear hOR hL' hb4 hxB' hx0' y0 y1 c0
  go_loopw [15] (fun i wr => ∃ k : Nat, k ≤ 4 ∧ i = .int .i64 k ∧ OwnR wr (w.heap.size + 1) gB zs.length cB (p ++ (qs k0' k1' k2' k3' y k ++ r)) ∧ Below w.heap.size w wr) (fun i _ => 4 - (intOf i).toNat)
  case atStart => exact ⟨0, by omega, rfl, hO'.out, hb4'.out⟩
  case round =>
    obtain ⟨k, hk, rfl, hOr, hbr⟩ := hrel
    have hn2 := hln.out.1
    have htn := htn'.out
    by_cases hlt4 : k < 4
    · rcases (show k = 0 ∨ k = 1 ∨ k = 2 ∨ k = 3 by omega) with rfl | rfl | rfl | rfl
      · have hcl : wr.cell? ⟨gB, t, none⟩ = some (.int .u8 k0') := mid_cell hOr 0 _ k0' (by simp [qs]) rfl (by have := hpl'.out; omega)
        have hfr : wr.frozen? ⟨gB, t, none⟩ = false := hOr.frozen _
        have i0 : (0 : Int) ≤ (t : Int) := by omega
        have i1 : (t : Int) < (zs.length : Int) := by omega
        go_wp2
        go_region
        go_wp2
        go_roundw
        case rel => exact ⟨1, by omega, rfl, turn_row hOr 0 _ k0' ((y : Int) % 256) _ (by simp [qs]) rfl (by omega) rfl (by have := hpl'.out; omega), (hbr.setCell (by have := hOr.2.2.2; show w.heap.size ≤ gB; omega) _).drew⟩
        case measure => simp [intOf]
      · have hcl : wr.cell? ⟨gB, t + 1, none⟩ = some (.int .u8 k1') := mid_cell hOr 1 _ k1' (by simp [qs]) rfl (by have := hpl'.out; omega)
        have hfr : wr.frozen? ⟨gB, t + 1, none⟩ = false := hOr.frozen _
        have i0 : (0 : Int) ≤ (t : Int) + 1 := by omega
        have i1 : (t : Int) + 1 < (zs.length : Int) := by omega
        go_wp2
        go_region
        go_wp2
        go_roundw
        case rel => exact ⟨2, by omega, rfl, turn_row hOr 1 _ k1' ((y : Int) / 256 % 256) _ (by simp [qs]) rfl (by omega) rfl (by have := hpl'.out; omega), (hbr.setCell (by have := hOr.2.2.2; show w.heap.size ≤ gB; omega) _).drew⟩
        case measure => simp [intOf]
      · have hcl : wr.cell? ⟨gB, t + 2, none⟩ = some (.int .u8 k2') := mid_cell hOr 2 _ k2' (by simp [qs]) rfl (by have := hpl'.out; omega)
        have hfr : wr.frozen? ⟨gB, t + 2, none⟩ = false := hOr.frozen _
        have i0 : (0 : Int) ≤ (t : Int) + 2 := by omega
        have i1 : (t : Int) + 2 < (zs.length : Int) := by omega
        go_wp2
        go_region
        go_wp2
        go_roundw
        case rel => exact ⟨3, by omega, rfl, turn_row hOr 2 _ k2' ((y : Int) / 65536 % 256) _ (by simp [qs]) rfl (by omega) rfl (by have := hpl'.out; omega), (hbr.setCell (by have := hOr.2.2.2; show w.heap.size ≤ gB; omega) _).drew⟩
        case measure => simp [intOf]
      · have hcl : wr.cell? ⟨gB, t + 3, none⟩ = some (.int .u8 k3') := mid_cell hOr 3 _ k3' (by simp [qs]) rfl (by have := hpl'.out; omega)
        have hfr : wr.frozen? ⟨gB, t + 3, none⟩ = false := hOr.frozen _
        have i0 : (0 : Int) ≤ (t : Int) + 3 := by omega
        have i1 : (t : Int) + 3 < (zs.length : Int) := by omega
        go_wp2
        go_region
        go_wp2
        go_roundw
        case rel => exact ⟨4, by omega, rfl, turn_row hOr 3 _ k3' ((y : Int) / 16777216) _ (by simp [qs]) rfl (by omega) rfl (by have := hpl'.out; omega), (hbr.setCell (by have := hOr.2.2.2; show w.heap.size ≤ gB; omega) _).drew⟩
        case measure => simp [intOf]
    · obtain rfl : k = 4 := by omega
      have hOw : OwnsB wr (w.heap.size + 1) (.slice (some ⟨gB, 0, none⟩) zs.length cB) (p ++ (qs k0' k1' k2' k3' y 4 ++ r)) := hOr.owns
      generalize hTT : p ++ (qs k0' k1' k2' k3' y 4 ++ r) = T at *
      have hT2 : Hid (p ++ (qs k0' k1' k2' k3' y 4 ++ r) = T) := hTT
      have hO4 : Hid (OwnsB wr (w.heap.size + 1) (.slice (some ⟨gB, 0, none⟩) zs.length cB) T) := hOw
      have hB4 : Hid (Below w.heap.size w wr) := hbr
      have hBr : Hid (XB B wr lb L d v rv v0 v1 (L.s.nxt - 1) L.r.tk G0 G1) := hBB.out.kept hbr
      have c0 : wr.cell? ⟨lb, 10, none⟩ = some (.slice (some ⟨gb, 0, none⟩) G0.length c) := by have := hBr.out.blk.cell 10; rw [← hvv.out]; exact this
      have hsr : Hid (SrcG wr (some ⟨gb, 0, none⟩) G0.length c G0) := hsrc.out _ hbr
      have hlt' : Hid (i < G0.length) := hlt
      clear hOr hO' hbr hOw hTT hsrc hBB hb4'
      go_wp2_with (at_builtin; refine wpList_app_g rfl _ _ rfl wr.heap.size (.slice none 0 0) [] G0 rfl _ _ _ rfl (ownsG_nil _ _) hsr.out (by have := hfG.out; simp; omega) (Nat.le_refl _) ?_; intro v5 w5 hO5 hg5; rw [List.nil_append] at hO5; have hb5 : Hid (Below wr.heap.size wr w5) := own_below' (Below.refl _ _) (ownsG_nil wr wr.heap.size) hg5 (Nat.le_refl _); obtain ⟨gk, ck, rfl, hgk, hck, hcm⟩ := ownsG_some hO5 (by have := hlt'.out; omega); obtain ⟨⟨u0, z0⟩, ⟨u1, z1⟩, zf⟩ := hO5.two hlt'.out; have zf0 := zf (i * 2); have zf1 := zf (i * 2 + 1); have hO5' : Hid _ := hO5; have hgk' : Hid (wr.heap.size ≤ gk) := hgk; have hB5 : Hid (XB B w5 lb L d v rv v0 v1 (L.s.nxt - 1) L.r.tk G0 G1) := hBr.out.kept hb5.out; have c5 : ∃ u, w5.cell? ⟨lb, 10, none⟩ = some u := ⟨_, hB5.out.blk.cell 10⟩; obtain ⟨u5, c5⟩ := c5; have f5 := hB5.out.blk.fz 10; have nl : lb ≠ gk := (by have := hBr.out.blk.lt; omega); clear hO5 hg5 zf hgk c0)
      go_ret
      have hp1 := OwnsG.put hO5'.out hlt'.out ⟨some ⟨gB, 0, none⟩, zs.length, cB, T, sp⟩
      have hbs : Below wr.heap.size wr ((w5.setCell ⟨gk, i * 2, none⟩ (.slice (some ⟨gB, 0, none⟩) zs.length cB)).setCell ⟨gk, i * 2 + 1, none⟩ (.bool sp)) := (hb5.out.setCell (p := ⟨gk, i * 2, none⟩) hgk'.out _).setCell (p := ⟨gk, i * 2 + 1, none⟩) hgk'.out _
      have hBs := hBr.out.kept hbs
      have hRs : RowG ((w5.setCell ⟨gk, i * 2, none⟩ (.slice (some ⟨gB, 0, none⟩) zs.length cB)).setCell ⟨gk, i * 2 + 1, none⟩ (.bool sp)) (Ge B) (.slice (some ⟨gk, 0, none⟩) G0.length ck) (G0.set i ⟨some ⟨gB, 0, none⟩, zs.length, cB, T, sp⟩) := OwnsG.rowE hp1 (fun q hq => Nat.le_trans (Nat.le_trans hBr.out.hl (Nat.le_of_lt hBr.out.blk.lt)) hq) fun y hy => by
        rcases List.mem_or_eq_of_mem_set hy with hy | rfl
        · exact (hBr.out.g0.ent y hy).kept hbs
        · exact ⟨(hO4.out.low (Nat.zero_le _)).below hbs, fun q hq => Nat.le_trans hBw.out (Nat.le_of_lt (own_at hO4.out.1 q hq).1)⟩
      refine ⟨rfl, ⟨⟨some ⟨gB, 0, none⟩, zs.length, cB, T, sp⟩, hT2.out.symm, rfl, d, v, rv, _, v1, _, G1, hBs.turn0 (KS.set (C := fun q => q = lb) _ lb _ rfl _) (hBs.blk.set 10 _) (hRs.off hBs.blk _) (hpq.out.set i rfl rfl)⟩, (KX.of_below (hB4.out.trans (hbs.mono hB4.out.size))).trans (KX.cell 10 _)⟩
set_option maxRecDepth 100000 in
theorem xturn1_sp {w : World} {lb : Nat} {L : Lk} {i : Nat} {g : Gr} (x y : Int) (h : XM B w lb L) (hE : canE L 1 (i : Nat) = 0) (hi : L.n1[i]? = some g) (hs : g.sp = true) :
    Calls Tryz.prog 38 #[.pointer (some ⟨lb, 0, none⟩), .int .i64 1, .int .i64 (i : Nat), .int .i64 x, .int .u32 y] w fun e w' => e = .returned (.int .i64 18) ∧ Hid (XM B w' lb L) ∧ Hid (KX B lb w w') := by
  have k0 := XC.there 1 (i : Nat) h
  rw [hE] at k0
  have hX : Hid (XM B w lb L) := h
  obtain ⟨d, v, rv, v0, v1, G0, G1, hB⟩ := h
  obtain ⟨xg, hxg, h1, h2⟩ := hB.p1.get hi
  have hlt : i < G1.length := (List.getElem?_eq_some_iff.1 hxg).1
  obtain ⟨gb, c, hv, y0, y1, hnc, hcm⟩ := hB.g1.cells hxg
  have c0 : w.cell? ⟨lb, 11, none⟩ = some (.slice (some ⟨gb, 0, none⟩) G1.length c) := by have := hB.blk.cell 11; rw [← hv]; exact this
  have q0 : decide ((i : Int) < (G1.length : Int)) = true := by simp; omega
  have q1 : decide ((0 : Int) ≤ (i : Int)) = true := by simp
  have hlb := hB.blk.lt
  have hgb : gb < w.heap.size := by rw [hv] at hB; exact ownC_lt hB.g1.own gb rfl
  have al : Hid (∀ cs, Below w.heap.size w (w.alloc (.cells cs 123))) := fun cs => (Below.refl _ _).alloc (Nat.le_refl _) _
  rw [h2, hs] at y1
  clear hB hE hi hxg h1 h2 hv hnc hcm
  go_enter Tryz.func38, Tryz.ntmps38
  go_wp2_with (go_at_call 69; refine k0.mono ?_; rintro e w1 ⟨rfl, hw1⟩; obtain rfl := hw1.symm; clear hw1 k0)
  go_ret
  exact ⟨rfl, hX.out.kept (al.out _), KX.of_below (al.out _)⟩
set_option maxHeartbeats 4000000 in
set_option maxRecDepth 100000 in
theorem xturn1 {w : World} {lb : Nat} {L : Lk} {i : Nat} {g : Gr} (x : Int) (y : Nat) (h : XM B w lb L) (hE : canE L 1 (i : Nat) = 0) (hf : L.n1.length ≤ 256) (hi : L.n1[i]? = some g) (hs : g.sp = false) (h4 : 4 ≤ g.zs.length) (hl : g.zs.length ≤ 100000) (hx : (Lit.int .i64 x).wf = true) (hy : y < 4294967296) :
    Calls Tryz.prog 38 #[.pointer (some ⟨lb, 0, none⟩), .int .i64 1, .int .i64 (i : Nat), .int .i64 x, .int .u32 (y : Nat)] w fun e w' => e = .returned (.int .i64 0) ∧ Hid (∃ g' : Gr, g'.zs = turnL g.zs (x % ((g.zs.length : Int) - 3)).toNat y ∧ g'.sp = ((y : Int) != 0) ∧ XM B w' lb { L with n1 := L.n1.set i g' }) ∧ Hid (KX B lb w w') := by
  have k0 := XC.there 1 (i : Nat) h
  rw [hE] at k0
  have hBw : Hid (B ≤ w.heap.size) := XC.low h
  obtain ⟨d, v, rv, v0, v1, G0, G1, hB⟩ := h
  obtain ⟨xg, hxg, h1, h2⟩ := hB.p1.get hi
  have hlt : i < G1.length := (List.getElem?_eq_some_iff.1 hxg).1
  obtain ⟨gb, c, hv, y0, y1, hnc, hcm⟩ := hB.g1.cells hxg
  have c0 : w.cell? ⟨lb, 11, none⟩ = some (.slice (some ⟨gb, 0, none⟩) G1.length c) := by have := hB.blk.cell 11; rw [← hv]; exact this
  have q0 : decide ((i : Int) < (G1.length : Int)) = true := by simp; omega
  have q1 : decide ((0 : Int) ≤ (i : Int)) = true := by simp
  have hlb := hB.blk.lt
  have hgb : gb < w.heap.size := by rw [hv] at hB; exact ownC_lt hB.g1.own gb rfl
  have hfG : Hid (G1.length ≤ 256) := by show _ ≤ 256; rw [hB.p1.len]; exact hf
  have al : Hid (∀ cs, Below w.heap.size w (w.alloc (.cells cs 123))) := fun cs => (Below.refl _ _).alloc (Nat.le_refl _) _
  rw [h2, hs] at y1
  rw [← h1] at h4 hl ⊢
  obtain ⟨xa, xn, xcp, hxv, hxl, hx0, -, -, hxB⟩ := OwnsB.form (hB.g1.ent xg (List.mem_of_getElem? hxg)).1
  have hxl' : xg.zs.length = xg.n := by cases hxv; exact hxl.out
  have hx0' : Hid (xg.a = none → xg.c = 0) := by cases hxv; exact hx0
  have hxB' : Hid (Bytes w xg.a xg.zs) := by cases hxv; exact hxB.out
  clear hxv hxl hx0 hxB
  have hBB : Hid (XB B w lb L d v rv v0 v1 (L.s.nxt - 1) L.r.tk G0 G1) := hB
  have hvv : Hid (v1 = .slice (some ⟨gb, 0, none⟩) G1.length c) := hv
  have hpq : Hid (Pq G1 L.n1) := hB.p1
  have hsrc : Hid (∀ x, Below w.heap.size w x → SrcG x (some ⟨gb, 0, none⟩) G1.length c G1) := fun x hx => by
    have := (hB.g1.kept hx)
    rw [hv] at this
    exact this.src
  -- the place
  generalize xg.zs = zs at *
  generalize xg.a = xa at *
  generalize xg.n = n at *
  generalize xg.c = xc at *
  subst hxl'
  obtain ⟨m, hm⟩ : ∃ m : Nat, (zs.length : Int) - 3 = (m : Nat) := ⟨zs.length - 3, by omega⟩
  have hmp : 0 < m := by omega
  simp [Lit.wf, show IntKind.i64.min = -9223372036854775808 from by decide, show IntKind.i64.max = 9223372036854775807 from by decide] at hx
  have b1 := Int.tmod_lt_of_pos x (show (0 : Int) < (m : Int) by omega)
  have b2 : -(m : Int) < Int.tmod x m := by
    have := Int.lt_tmod_of_pos x (show (0 : Int) < (m : Int) by omega)
    omega
  have w1 : IntKind.i64.wrap (Int.tmod x m) = Int.tmod x m := by rw [IntKind.wrap_i64]; omega
  have w2 : IntKind.i64.wrap (Int.tmod x m + m) = Int.tmod x m + m := by rw [IntKind.wrap_i64]; omega
  have e1 : Int.tmod (Int.tmod x m + m) m = x % (m : Int) := by
    rw [Int.tmod_eq_emod_of_nonneg (by omega), Int.add_emod_right]
    have h := Int.mul_tdiv_add_tmod x m
    have h2 : x = Int.tmod x m + m * Int.tdiv x m := by omega
    conv => rhs; rw [h2]
    rw [Int.add_mul_emod_self_left]
  obtain ⟨t, ht, htn⟩ : ∃ t : Nat, x % (m : Int) = (t : Int) ∧ t + 4 ≤ zs.length := by
    have q0 := Int.emod_nonneg x (show (m : Int) ≠ 0 by omega)
    have q1 := Int.emod_lt_of_pos x (show 0 < (m : Int) by omega)
    exact ⟨(x % (m : Int)).toNat, (Int.toNat_of_nonneg q0).symm, by omega⟩
  rw [ht] at e1
  rw [hm, ht]
  have w3 : IntKind.i64.wrap (t : Int) = (t : Int) := by rw [IntKind.wrap_i64]; omega
  have e3 : IntKind.i64.wrap ((zs.length : Int) - 3) = (m : Int) := by rw [IntKind.wrap_i64]; omega
  have e0' : ((m : Int) == 0) = false := by simp; omega
  have hm0 : (m = 0) = False := by simp; omega
  have w4 : wrap64 (Int.tmod x m) = Int.tmod x m := (w64 _).trans w1
  have w5 : wrap64 (Int.tmod x m + m) = Int.tmod x m + m := (w64 _).trans w2
  have htn' : Hid (t + 4 ≤ zs.length) := htn
  obtain ⟨p, k0', k1', k2', k3', r, hL, hpl⟩ := split4 zs t (by omega)
  have hT : turnL zs (t : Int).toNat y = p ++ (qs k0' k1' k2' k3' y 4 ++ r) := by rw [show (t : Int).toNat = t by omega, hL, ← hpl]; exact turnL_of p r k0' k1' k2' k3' y
  rw [hT]
  have hpl' : Hid (p.length = t) := hpl
  have hL' : Hid (zs = p ++ ([k0', k1', k2', k3'] ++ r)) := hL
  have hln : Hid (zs.length ≤ 100000 ∧ 4 ≤ zs.length) := ⟨hl, h4⟩
  have hy' : Hid (y < 4294967296) := hy
  obtain ⟨sp, hsp⟩ : ∃ sp, ((y : Int) != 0) = sp := ⟨_, rfl⟩
  rw [hsp]
  clear hB hE hi hxg h1 h2 hv hnc hcm h4 hl hx hf hs ht htn hpl hL hT hmp b1 b2
  go_enter Tryz.func38, Tryz.ntmps38
  go_wp2_with (first
    | (go_at_call 69; refine k0.mono ?_; rintro e w1 ⟨rfl, hw1⟩; obtain rfl := hw1.symm; clear hw1 k0)
    | (at_builtin; refine wpList_append_bytes rfl _ _ rfl (w.heap.size + 1) (.slice none 0 0) [] zs rfl (ownsB_nil _ _) xa zs.length xc rfl rfl hx0'.out (hxB'.out.kept (al.out _)) (by have := hln.out; simp; omega) (by simp) ?_; intro v4 w4 hO4 hg4; rw [List.nil_append] at hO4; have hb4 : Hid (Below w.heap.size w w4) := own_below' (al.out _) (ownsB_nil (w.alloc _) w.heap.size).1 hg4 (al.out _).size; obtain ⟨gB, nB, cB, rfl, hOR, hnB, hcB1, hcB2⟩ := hO4.row (by have := hln.out; omega); clear hO4 hg4; obtain rfl : nB = zs.length := hnB.out.symm))
  have hO' : Hid (OwnR w4 (w.heap.size + 1) gB zs.length cB (p ++ (qs k0' k1' k2' k3' y 0 ++ r))) := by have := hOR.out; rw [hL'.out] at this ⊢; exact this
  have hb4' : Hid (Below w.heap.size w w4) := hb4
  clear hOR hL' hb4 hxB' hx0' y0 y1 c0
  go_loopw [15] (fun i wr => ∃ k : Nat, k ≤ 4 ∧ i = .int .i64 k ∧ OwnR wr (w.heap.size + 1) gB zs.length cB (p ++ (qs k0' k1' k2' k3' y k ++ r)) ∧ Below w.heap.size w wr) (fun i _ => 4 - (intOf i).toNat)
  case atStart => exact ⟨0, by omega, rfl, hO'.out, hb4'.out⟩
  case round =>
    obtain ⟨k, hk, rfl, hOr, hbr⟩ := hrel
    have hn2 := hln.out.1
    have htn := htn'.out
    by_cases hlt4 : k < 4
    · rcases (show k = 0 ∨ k = 1 ∨ k = 2 ∨ k = 3 by omega) with rfl | rfl | rfl | rfl
      · have hcl : wr.cell? ⟨gB, t, none⟩ = some (.int .u8 k0') := mid_cell hOr 0 _ k0' (by simp [qs]) rfl (by have := hpl'.out; omega)
        have hfr : wr.frozen? ⟨gB, t, none⟩ = false := hOr.frozen _
        have i0 : (0 : Int) ≤ (t : Int) := by omega
        have i1 : (t : Int) < (zs.length : Int) := by omega
        go_wp2
        go_region
        go_wp2
        go_roundw
        case rel => exact ⟨1, by omega, rfl, turn_row hOr 0 _ k0' ((y : Int) % 256) _ (by simp [qs]) rfl (by omega) rfl (by have := hpl'.out; omega), (hbr.setCell (by have := hOr.2.2.2; show w.heap.size ≤ gB; omega) _).drew⟩
        case measure => simp [intOf]
      · have hcl : wr.cell? ⟨gB, t + 1, none⟩ = some (.int .u8 k1') := mid_cell hOr 1 _ k1' (by simp [qs]) rfl (by have := hpl'.out; omega)
        have hfr : wr.frozen? ⟨gB, t + 1, none⟩ = false := hOr.frozen _
        have i0 : (0 : Int) ≤ (t : Int) + 1 := by omega
        have i1 : (t : Int) + 1 < (zs.length : Int) := by omega
        go_wp2
        go_region
        go_wp2
        go_roundw
        case rel => exact ⟨2, by omega, rfl, turn_row hOr 1 _ k1' ((y : Int) / 256 % 256) _ (by simp [qs]) rfl (by omega) rfl (by have := hpl'.out; omega), (hbr.setCell (by have := hOr.2.2.2; show w.heap.size ≤ gB; omega) _).drew⟩
        case measure => simp [intOf]
      · have hcl : wr.cell? ⟨gB, t + 2, none⟩ = some (.int .u8 k2') := mid_cell hOr 2 _ k2' (by simp [qs]) rfl (by have := hpl'.out; omega)
        have hfr : wr.frozen? ⟨gB, t + 2, none⟩ = false := hOr.frozen _
        have i0 : (0 : Int) ≤ (t : Int) + 2 := by omega
        have i1 : (t : Int) + 2 < (zs.length : Int) := by omega
        go_wp2
        go_region
        go_wp2
        go_roundw
        case rel => exact ⟨3, by omega, rfl, turn_row hOr 2 _ k2' ((y : Int) / 65536 % 256) _ (by simp [qs]) rfl (by omega) rfl (by have := hpl'.out; omega), (hbr.setCell (by have := hOr.2.2.2; show w.heap.size ≤ gB; omega) _).drew⟩
        case measure => simp [intOf]
      · have hcl : wr.cell? ⟨gB, t + 3, none⟩ = some (.int .u8 k3') := mid_cell hOr 3 _ k3' (by simp [qs]) rfl (by have := hpl'.out; omega)
        have hfr : wr.frozen? ⟨gB, t + 3, none⟩ = false := hOr.frozen _
        have i0 : (0 : Int) ≤ (t : Int) + 3 := by omega
        have i1 : (t : Int) + 3 < (zs.length : Int) := by omega
        go_wp2
        go_region
        go_wp2
        go_roundw
        case rel => exact ⟨4, by omega, rfl, turn_row hOr 3 _ k3' ((y : Int) / 16777216) _ (by simp [qs]) rfl (by omega) rfl (by have := hpl'.out; omega), (hbr.setCell (by have := hOr.2.2.2; show w.heap.size ≤ gB; omega) _).drew⟩
        case measure => simp [intOf]
    · obtain rfl : k = 4 := by omega
      have hOw : OwnsB wr (w.heap.size + 1) (.slice (some ⟨gB, 0, none⟩) zs.length cB) (p ++ (qs k0' k1' k2' k3' y 4 ++ r)) := hOr.owns
      generalize hTT : p ++ (qs k0' k1' k2' k3' y 4 ++ r) = T at *
      have hT2 : Hid (p ++ (qs k0' k1' k2' k3' y 4 ++ r) = T) := hTT
      have hO4 : Hid (OwnsB wr (w.heap.size + 1) (.slice (some ⟨gB, 0, none⟩) zs.length cB) T) := hOw
      have hB4 : Hid (Below w.heap.size w wr) := hbr
      have hBr : Hid (XB B wr lb L d v rv v0 v1 (L.s.nxt - 1) L.r.tk G0 G1) := hBB.out.kept hbr
      have c0 : wr.cell? ⟨lb, 11, none⟩ = some (.slice (some ⟨gb, 0, none⟩) G1.length c) := by have := hBr.out.blk.cell 11; rw [← hvv.out]; exact this
      have hsr : Hid (SrcG wr (some ⟨gb, 0, none⟩) G1.length c G1) := hsrc.out _ hbr
      have hlt' : Hid (i < G1.length) := hlt
      clear hOr hO' hbr hOw hTT hsrc hBB hb4'
      go_wp2_with (at_builtin; refine wpList_app_g rfl _ _ rfl wr.heap.size (.slice none 0 0) [] G1 rfl _ _ _ rfl (ownsG_nil _ _) hsr.out (by have := hfG.out; simp; omega) (Nat.le_refl _) ?_; intro v5 w5 hO5 hg5; rw [List.nil_append] at hO5; have hb5 : Hid (Below wr.heap.size wr w5) := own_below' (Below.refl _ _) (ownsG_nil wr wr.heap.size) hg5 (Nat.le_refl _); obtain ⟨gk, ck, rfl, hgk, hck, hcm⟩ := ownsG_some hO5 (by have := hlt'.out; omega); obtain ⟨⟨u0, z0⟩, ⟨u1, z1⟩, zf⟩ := hO5.two hlt'.out; have zf0 := zf (i * 2); have zf1 := zf (i * 2 + 1); have hO5' : Hid _ := hO5; have hgk' : Hid (wr.heap.size ≤ gk) := hgk; have hB5 : Hid (XB B w5 lb L d v rv v0 v1 (L.s.nxt - 1) L.r.tk G0 G1) := hBr.out.kept hb5.out; have c5 : ∃ u, w5.cell? ⟨lb, 11, none⟩ = some u := ⟨_, hB5.out.blk.cell 11⟩; obtain ⟨u5, c5⟩ := c5; have f5 := hB5.out.blk.fz 11; have nl : lb ≠ gk := (by have := hBr.out.blk.lt; omega); clear hO5 hg5 zf hgk c0)
      go_ret
      have hp1 := OwnsG.put hO5'.out hlt'.out ⟨some ⟨gB, 0, none⟩, zs.length, cB, T, sp⟩
      have hbs : Below wr.heap.size wr ((w5.setCell ⟨gk, i * 2, none⟩ (.slice (some ⟨gB, 0, none⟩) zs.length cB)).setCell ⟨gk, i * 2 + 1, none⟩ (.bool sp)) := (hb5.out.setCell (p := ⟨gk, i * 2, none⟩) hgk'.out _).setCell (p := ⟨gk, i * 2 + 1, none⟩) hgk'.out _
      have hBs := hBr.out.kept hbs
      have hRs : RowG ((w5.setCell ⟨gk, i * 2, none⟩ (.slice (some ⟨gB, 0, none⟩) zs.length cB)).setCell ⟨gk, i * 2 + 1, none⟩ (.bool sp)) (Ge B) (.slice (some ⟨gk, 0, none⟩) G1.length ck) (G1.set i ⟨some ⟨gB, 0, none⟩, zs.length, cB, T, sp⟩) := OwnsG.rowE hp1 (fun q hq => Nat.le_trans (Nat.le_trans hBr.out.hl (Nat.le_of_lt hBr.out.blk.lt)) hq) fun y hy => by
        rcases List.mem_or_eq_of_mem_set hy with hy | rfl
        · exact (hBr.out.g1.ent y hy).kept hbs
        · exact ⟨(hO4.out.low (Nat.zero_le _)).below hbs, fun q hq => Nat.le_trans hBw.out (Nat.le_of_lt (own_at hO4.out.1 q hq).1)⟩
      refine ⟨rfl, ⟨⟨some ⟨gB, 0, none⟩, zs.length, cB, T, sp⟩, hT2.out.symm, rfl, d, v, rv, v0, _, G0, _, hBs.turn1 (KS.set (C := fun q => q = lb) _ lb _ rfl _) (hBs.blk.set 11 _) (hRs.off hBs.blk _) (hpq.out.set i rfl rfl)⟩, (KX.of_below (hB4.out.trans (hbs.mono hB4.out.size))).trans (KX.cell 11 _)⟩
theorem xturn_any {w : World} {lb : Nat} {L : Lk} (n i x : Int) (y : Nat) (h : XM B w lb L) (p : Lp L) (hG : ∀ g, g ∈ L.n0 ∨ g ∈ L.n1 → g.sp = false → 4 ≤ g.zs.length ∧ g.zs.length ≤ 100000) (hx : (Lit.int .i64 x).wf = true) (hy : y < 4294967296) :
    Calls Tryz.prog 38 #[.pointer (some ⟨lb, 0, none⟩), .int .i64 n, .int .i64 i, .int .i64 x, .int .u32 (y : Nat)] w fun e w' => e = .returned (.int .i64 (turnE L n i)) ∧ Hid (∃ L', TurnS L L' n i x y ∧ XM B w' lb L') ∧ Hid (KX B lb w w') := by
  by_cases hE : canE L n i = 0
  · obtain ⟨h1, h2, h3⟩ := can_zero hE
    obtain ⟨i, rfl⟩ : ∃ k : Nat, i = (k : Int) := ⟨i.toNat, by omega⟩
    rcases net_two h1 with rfl | rfl
    · have h3 : ((i : Nat) : Int) < L.n0.length := h3
      obtain ⟨g, hg⟩ : ∃ g, L.n0[i]? = some g := ⟨_, List.getElem?_eq_getElem (by omega)⟩
      have hgn : (netL L 0)[((i : Nat) : Int).toNat]? = some g := hg
      by_cases hs : g.sp = true
      · have e : turnE L 0 (i : Nat) = 18 := by unfold turnE; rw [if_neg (fun k => k hE), hgn]; show (if g.sp = true then (18 : Int) else 0) = 18; rw [if_pos hs]
        rw [e]
        refine (xturn0_sp x y h hE hg hs).mono ?_
        rintro e' w' ⟨rfl, hb, hK⟩
        exact ⟨rfl, ⟨L, ⟨fun _ => rfl, fun k => by rw [e] at k; cases k⟩, hb.out⟩, hK⟩
      · have hs : g.sp = false := by simpa using hs
        have e : turnE L 0 (i : Nat) = 0 := by unfold turnE; rw [if_neg (fun k => k hE), hgn]; show (if g.sp = true then (18 : Int) else 0) = 0; rw [hs]; rfl
        rw [e]
        obtain ⟨b1, b2⟩ := hG g (.inl (List.mem_of_getElem? hg)) hs
        refine (xturn0 x y h hE p.f0 hg hs b1 b2 hx hy).mono ?_
        rintro e' w' ⟨rfl, hR, hK⟩
        obtain ⟨g', e1, e2, hL⟩ := hR.out
        exact ⟨rfl, ⟨_, ⟨fun k => absurd e k, fun _ => ⟨g, g', hgn, hs, hE, e1, e2, rfl⟩⟩, hL⟩, hK⟩
    · have h3 : ((i : Nat) : Int) < L.n1.length := h3
      obtain ⟨g, hg⟩ : ∃ g, L.n1[i]? = some g := ⟨_, List.getElem?_eq_getElem (by omega)⟩
      have hgn : (netL L 1)[((i : Nat) : Int).toNat]? = some g := hg
      by_cases hs : g.sp = true
      · have e : turnE L 1 (i : Nat) = 18 := by unfold turnE; rw [if_neg (fun k => k hE), hgn]; show (if g.sp = true then (18 : Int) else 0) = 18; rw [if_pos hs]
        rw [e]
        refine (xturn1_sp x y h hE hg hs).mono ?_
        rintro e' w' ⟨rfl, hb, hK⟩
        exact ⟨rfl, ⟨L, ⟨fun _ => rfl, fun k => by rw [e] at k; cases k⟩, hb.out⟩, hK⟩
      · have hs : g.sp = false := by simpa using hs
        have e : turnE L 1 (i : Nat) = 0 := by unfold turnE; rw [if_neg (fun k => k hE), hgn]; show (if g.sp = true then (18 : Int) else 0) = 0; rw [hs]; rfl
        rw [e]
        obtain ⟨b1, b2⟩ := hG g (.inr (List.mem_of_getElem? hg)) hs
        refine (xturn1 x y h hE p.f1 hg hs b1 b2 hx hy).mono ?_
        rintro e' w' ⟨rfl, hR, hK⟩
        obtain ⟨g', e1, e2, hL⟩ := hR.out
        exact ⟨rfl, ⟨_, ⟨fun k => absurd e k, fun _ => ⟨g, g', hgn, hs, hE, e1, e2, rfl⟩⟩, hL⟩, hK⟩
  · have e : turnE L n i = canE L n i := by unfold turnE; rw [if_pos hE]
    have hS : Hid (TurnS L L n i x y) := ⟨fun _ => rfl, fun k => by rw [e] at k; exact absurd k hE⟩
    rw [e]
    have k0 := XC.there n i h
    have d0 : (canE L n i != 0) = true := by simpa using hE
    have hX : Hid (XM B w lb L) := h
    generalize canE L n i = E at *
    clear h hE e p hG hx hy
    go_enter Tryz.func38, Tryz.ntmps38
    go_wp2_with (go_at_call 69; refine k0.mono ?_; rintro e w1 ⟨rfl, hw1⟩; obtain rfl := hw1.symm; clear hw1 k0)
    go_ret
    exact ⟨rfl, ⟨L, hS.out, hX.out⟩, KX.refl _ _⟩
end Go.Proofs.YtfipdldoklkciaaGreat
namespace Go.Proofs.YtfipdldoklkciaaGreat
open Go.RowKit
set_option linter.unusedVariables false
variable {B : Nat}
/-- The same sender, wherever its loads lie. -/
structure Ss (s s' : St) : Prop where
  win : s.win = s'.win
  lim : s.lim = s'.lim
  base : s.base = s'.base
  nxt : s.nxt = s'.nxt
  at' : ∀ z e, s.L z = some e → ∃ e', s'.L z = some e' ∧ e'.zs = e.zs ∧ e'.there = e.there ∧ e'.time = e.time ∧ e'.wait = e.wait
theorem Ss.refl (s : St) : Ss s s := ⟨rfl, rfl, rfl, rfl, fun _ e h => ⟨e, h, rfl, rfl, rfl, rfl⟩⟩
theorem Ss.add (s : St) {p q : Ent} (h1 : q.zs = p.zs) (h2 : q.there = p.there) (h3 : q.time = p.time) (h4 : q.wait = p.wait) : Ss (addA s p) (addA s q) := by
  refine ⟨rfl, rfl, rfl, rfl, fun z e h => ?_⟩
  by_cases hz : z = s.nxt
  · have e1 : (addA s p).L z = some p := by show (if z = s.nxt then some p else s.L z) = _; rw [if_pos hz]
    have e2 : (addA s q).L z = some q := by show (if z = s.nxt then some q else s.L z) = _; rw [if_pos hz]
    rw [e1] at h
    cases h
    exact ⟨q, e2, h1, h2, h3, h4⟩
  · have e1 : (addA s p).L z = s.L z := by show (if z = s.nxt then some p else s.L z) = _; rw [if_neg hz]
    have e2 : (addA s q).L z = s.L z := by show (if z = s.nxt then some q else s.L z) = _; rw [if_neg hz]
    rw [e1] at h
    exact ⟨e, by rw [e2]; exact h, rfl, rfl, rfl, rfl⟩
theorem Dr.same {s s' : St} {d : Ds} (h : Dr s d) (k : Ss s s') : Dr s' d := by
  refine ⟨by rw [← k.win]; exact h.win, by rw [← k.lim]; exact h.lim, by rw [← k.base]; exact h.base, by rw [← k.nxt]; exact h.nxt, fun i e hi => ?_⟩
  obtain ⟨p, h1, h2, h3, h4, h5⟩ := h.at' i e hi
  obtain ⟨p', g1, g2, g3, g4, g5⟩ := k.at' _ p h1
  exact ⟨p', g1, g2.trans h2, g3.trans h3, g4.trans h4, g5.trans h5⟩
theorem Pq.refl (G : List Gr) : Pq G G := rfl
theorem Pq.symm {G G' : List Gr} (h : Pq G G') : Pq G' G := Eq.symm h
theorem Pq.trans {G G' G2 : List Gr} (h : Pq G G') (k : Pq G' G2) : Pq G G2 := Eq.trans h k
theorem Pq.foldl : ∀ (gs gs' G G' : List Gr), Pq gs gs' → Pq G G' → Pq (gs.foldl putG G) (gs'.foldl putG G')
  | [], [], _, _, _, k => k
  | [], b :: l, _, _, h, _ => by unfold Pq at h; simp at h
  | a :: l, [], _, _, h, _ => by unfold Pq at h; simp at h
  | a :: l1, b :: l2, G, G', h, k => by
    unfold Pq at h
    rw [List.map_cons, List.map_cons] at h
    injection h with h1 h2
    injection h1 with h3 h4
    exact Pq.foldl l1 l2 _ _ h2 (k.put h3 h4)
/-- THE SAME LINK, wherever things lie. -/
structure Sm (L L' : Lk) : Prop where
  tok : L.tok = L'.tok
  now : L.now = L'.now
  ep : L.ep = L'.ep
  r : L.r = L'.r
  s : Ss L.s L'.s
  n0 : Pq L.n0 L'.n0
  n1 : Pq L.n1 L'.n1
theorem Sm.refl (L : Lk) : Sm L L := ⟨rfl, rfl, rfl, rfl, Ss.refl _, rfl, rfl⟩
theorem XM.same {w : World} {lb : Nat} {L L' : Lk} (h : XM B w lb L) (k : Sm L L') : XM B w lb L' := by
  obtain ⟨d, v, rv, v0, v1, G0, G1, h⟩ := h
  refine ⟨d, v, rv, v0, v1, G0, G1, ?_⟩
  obtain ⟨b1, b2, b3, b4, b5, b6, b7, b8, b9, b10⟩ := h
  rw [← k.s.nxt, ← k.r]
  refine ⟨?_, b2, b3, b4, b5.same k.s, ?_, b7, b8, b9.trans k.n0, b10.trans k.n1⟩
  · rw [← k.tok, ← k.now, ← k.ep, ← k.r]; exact b1
  · rw [← k.r]; exact b6
theorem sm_net {L : Lk} (n : Int) {G G' : List Gr} (h : Pq G G') : Sm (netS L n G) (netS L n G') := by
  unfold netS
  by_cases hn : n = 0
  · rw [if_pos hn, if_pos hn]
    exact ⟨rfl, rfl, rfl, rfl, Ss.refl _, h, rfl⟩
  · rw [if_neg hn, if_neg hn]
    exact ⟨rfl, rfl, rfl, rfl, Ss.refl _, rfl, h⟩
theorem send_det {L A C : Lk} {zs : List Int} (h : SendS L A zs) (k : SendS L C zs) : Sm A C := by
  by_cases hE : sendE L zs.length = 0
  · obtain ⟨p, p1, p2, p3, p4, rfl⟩ := h.2 hE
    obtain ⟨q, q1, q2, q3, q4, rfl⟩ := k.2 hE
    exact ⟨rfl, rfl, rfl, rfl, Ss.add _ (by rw [p1, q1]) (by rw [p4, q4]) (by rw [p2, q2]) (by rw [p3, q3]), rfl, rfl⟩
  · rw [h.1 hE, k.1 hE]
    exact Sm.refl _
theorem tick_det {L A C : Lk} (h : TickS L A) (k : TickS L C) : Sm A C := by
  by_cases hE : 1099511627776 ≤ L.now
  · rw [h.1 hE, k.1 hE]
    exact Sm.refl _
  · obtain ⟨gs, g, p1, p2, p3, rfl⟩ := h.2 (by omega)
    obtain ⟨gs', g', q1, q2, q3, rfl⟩ := k.2 (by omega)
    refine ⟨rfl, rfl, rfl, rfl, Ss.refl _, Pq.foldl gs gs' _ _ ?_ rfl, Pq.put rfl (by rw [p2, q2]) (by rw [p3, q3])⟩
    unfold grs at p1 q1
    unfold Pq
    rw [p1, q1]
theorem turn_det {L A C : Lk} {n i x : Int} {y : Nat} (h : TurnS L A n i x y) (k : TurnS L C n i x y) : Sm A C := by
  by_cases hE : turnE L n i = 0
  · obtain ⟨g, p, p1, p2, p3, p4, p5, rfl⟩ := h.2 hE
    obtain ⟨g2, q, q1, q2, q3, q4, q5, rfl⟩ := k.2 hE
    rw [p1] at q1
    cases q1
    exact sm_net n (Pq.set rfl _ (by rw [p4, q4]) (by rw [p5, q5]))
  · rw [h.1 hE, k.1 hE]
    exact Sm.refl _
theorem forge_det {L A C : Lk} {n : Int} {zs : List Int} (h : ForgeS L A n zs) (k : ForgeS L C n zs) : Sm A C := by
  by_cases hE : forgeE L n zs = 0
  · obtain ⟨p, p1, p2, rfl⟩ := h.2 hE
    obtain ⟨q, q1, q2, rfl⟩ := k.2 hE
    exact sm_net n (Pq.put rfl (by rw [p1, q1]) (by rw [p2, q2]))
  · rw [h.1 hE, k.1 hE]
    exact Sm.refl _
/-- AN ACT LEAVES THE SAME, whoever does it. -/
theorem dos_det {L : Lk} {x : Ac} {A C : Lk} {b b' : List Int} {ok ok' : Bool} {k k' : Int} (h : DoS L x A b ok k) (g : DoS L x C b' ok' k') : b = b' ∧ ok = ok' ∧ k = k' ∧ Sm A C := by
  cases h with
  | send h1 h2 => cases g with
    | send g1 g2 => exact ⟨rfl, rfl, rfl, send_det h2 g2⟩
    | _ => exfalso; omega
  | poll h1 => cases g with
    | poll g1 => exact ⟨rfl, rfl, rfl, Sm.refl _⟩
    | _ => exfalso; omega
  | tick h1 h2 => cases g with
    | tick g1 g2 => exact ⟨rfl, rfl, rfl, tick_det h2 g2⟩
    | _ => exfalso; omega
  | del h1 => cases g with
    | del g1 => exact ⟨rfl, rfl, rfl, Sm.refl _⟩
    | _ => exfalso; omega
  | drop h1 => cases g with
    | drop g1 => exact ⟨rfl, rfl, rfl, Sm.refl _⟩
    | _ => exfalso; omega
  | twice h1 => cases g with
    | twice g1 => exact ⟨rfl, rfl, rfl, Sm.refl _⟩
    | _ => exfalso; omega
  | turn h1 h2 => cases g with
    | turn g1 g2 => exact ⟨rfl, rfl, rfl, turn_det h2 g2⟩
    | _ => exfalso; omega
  | forge h1 h2 => cases g with
    | forge g1 g2 => exact ⟨rfl, rfl, rfl, forge_det h2 g2⟩
    | _ => exfalso; omega
  | again h1 => cases g with
    | again g1 => exact ⟨rfl, rfl, rfl, Sm.refl _⟩
    | _ => exfalso; omega
  | none h1 => cases g with
    | none g1 => exact ⟨rfl, rfl, rfl, Sm.refl _⟩
    | _ => exfalso; omega
end Go.Proofs.YtfipdldoklkciaaGreat
