/-
  Texts Lrt, Lsu.
-/
import Derived.Test.YtfipdldoklkciaaGreatGav
import Derived.BigQuiet
namespace Go.Proofs.YtfipdldoklkciaaGreat
open Go.RowKit
set_option linter.unusedVariables false
variable {B : Nat}
theorem map_erase {α β : Type} (f : α → β) : ∀ (G : List α) (i : Nat), (G.eraseIdx i).map f = (G.map f).eraseIdx i
  | [], _ => rfl
  | _ :: _, 0 => rfl
  | g :: G, i + 1 => by simp [List.eraseIdx, map_erase f G i]
theorem Pq.erase {G G' : List Gr} (h : Pq G G') (i : Nat) : Pq (G.eraseIdx i) (G'.eraseIdx i) := by
  unfold Pq at h ⊢
  rw [map_erase, map_erase, h]
theorem Pq.get {G G' : List Gr} (h : Pq G G') {i : Nat} {g : Gr} (hi : G'[i]? = some g) : ∃ x, G[i]? = some x ∧ x.zs = g.zs ∧ x.sp = g.sp := by
  have h1 : (G.map fun g => (g.zs, g.sp))[i]? = some (g.zs, g.sp) := by rw [h, List.getElem?_map, hi]; rfl
  rw [List.getElem?_map] at h1
  cases hx : G[i]? with
  | none => rw [hx] at h1; cases h1
  | some x =>
    rw [hx] at h1
    simp at h1
    exact ⟨x, rfl, h1.1, h1.2⟩
theorem Pq.set {G G' : List Gr} (h : Pq G G') (i : Nat) {g g' : Gr} (h1 : g.zs = g'.zs) (h2 : g.sp = g'.sp) : Pq (G.set i g) (G'.set i g') := by
  unfold Pq at h ⊢
  rw [List.map_set, List.map_set, h, h1, h2]
/-- Is there one? -/
theorem XC.there {w : World} {lb : Nat} {L : Lk} {st gt : Int} (n i : Int) (h : XC B w lb L st gt) :
    Calls Tryz.prog 69 #[.pointer (some ⟨lb, 0, none⟩), .int .i64 n, .int .i64 i] w fun e w' => e = .returned (.int .i64 (canE L n i)) ∧ w' = w := by
  cases hn : netB n with
  | false =>
    have e : canE L n i = 1 := by unfold canE; rw [if_pos hn]
    rw [e]
    exact xthere_no n i hn
  | true =>
    obtain ⟨d, v, rv, v0, v1, G0, G1, hB⟩ := h
    rcases net_two hn with rfl | rfl
    · obtain ⟨a, c, hv, -⟩ := hB.g0.own.form
      have e : canE L 0 i = thereE 0 G0.length i := by unfold canE thereE; rw [hB.p0.len]; rfl
      rw [e]
      exact xthere0 i hB.xn hv
    · obtain ⟨a, c, hv, -⟩ := hB.g1.own.form
      have e : canE L 1 i = thereE 1 G1.length i := by unfold canE thereE; rw [hB.p1.len]; rfl
      rw [e]
      exact xthere1 i hB.xn hv
/-- How many are there? -/
theorem XC.way0 {w : World} {lb : Nat} {L : Lk} {st gt : Int} (h : XC B w lb L st gt) :
    Calls Tryz.prog 11 #[.pointer (some ⟨lb, 0, none⟩), .int .i64 0] w fun e w' => e = .returned (.int .i64 (L.n0.length : Nat)) ∧ w' = w := by
  obtain ⟨d, v, rv, v0, v1, G0, G1, hB⟩ := h
  obtain ⟨a, c, hv, -⟩ := hB.g0.own.form
  rw [← hB.p0.len]
  exact xway0 hB.xn hv
theorem XC.way1 {w : World} {lb : Nat} {L : Lk} {st gt : Int} (h : XC B w lb L st gt) :
    Calls Tryz.prog 11 #[.pointer (some ⟨lb, 0, none⟩), .int .i64 1] w fun e w' => e = .returned (.int .i64 (L.n1.length : Nat)) ∧ w' = w := by
  obtain ⟨d, v, rv, v0, v1, G0, G1, hB⟩ := h
  obtain ⟨a, c, hv, -⟩ := hB.g1.own.form
  rw [← hB.p1.len]
  exact xway1 hB.xn hv
theorem Lp.er0 {L : Lk} (p : Lp L) (i : Nat) : Lp { L with n0 := L.n0.eraseIdx i } :=
  ⟨⟨p.ok.t1, p.ok.t2, p.ok.n1, p.ok.n2, p.ok.e1, p.ok.few⟩, p.so, p.ro, fun g hg => p.gb g (hg.imp mem_erase id), p.eb, Nat.le_trans (List.length_eraseIdx_le _ _) p.f0, p.f1⟩
theorem Lp.er1 {L : Lk} (p : Lp L) (i : Nat) : Lp { L with n1 := L.n1.eraseIdx i } :=
  ⟨⟨p.ok.t1, p.ok.t2, p.ok.n1, p.ok.n2, p.ok.e1, p.ok.few⟩, p.so, p.ro, fun g hg => p.gb g (hg.imp id mem_erase), p.eb, p.f0, Nat.le_trans (List.length_eraseIdx_le _ _) p.f1⟩
/-- One goes. -/
theorem XC.goes0 {w : World} {lb : Nat} {L : Lk} {st gt : Int} {i : Nat} {g : Gr} (h : XC B w lb L st gt) (hf : L.n0.length ≤ 256) (hi : L.n0[i]? = some g) :
    Calls Tryz.prog 71 #[.pointer (some ⟨lb, 0, none⟩), .int .i64 0, .int .i64 (i : Nat)] w fun e w' => ∃ a n c, e = .returned (.agg #[.slice a n c, .bool g.sp]) ∧ Hid (OwnsB w' 0 (.slice a n c) g.zs) ∧ Hid (XC B w' lb { L with n0 := L.n0.eraseIdx i } st gt) ∧ Hid (KS (fun q => q = lb) w w') := by
  obtain ⟨d, v, rv, v0, v1, G0, G1, hB⟩ := h
  obtain ⟨x, hx, h1, h2⟩ := hB.p0.get hi
  refine (xgoes0 (E := Ge B) i x hB.xn hB.g0 (by rw [hB.p0.len]; exact hf) (fun q hq => Nat.le_trans (Nat.le_trans hB.hl (Nat.le_of_lt hB.blk.lt)) hq) hx).mono ?_
  rintro e w' ⟨rfl, v2, hX, hR, hK, hG⟩
  exact ⟨x.a, x.n, x.c, by rw [h2], by rw [← h1]; exact hG.out.1, ⟨d, v, rv, v2, v1, _, G1, hB.turn0 hK.out hX.out hR.out (hB.p0.erase i)⟩, hK⟩
set_option maxHeartbeats 1000000 in
theorem xdrop0 {w : World} {lb : Nat} {L : Lk} {i : Nat} {g : Gr} (h : XM B w lb L) (hE : canE L 0 (i : Nat) = 0) (hf : L.n0.length ≤ 256) (hi : L.n0[i]? = some g) :
    Calls Tryz.prog 36 #[.pointer (some ⟨lb, 0, none⟩), .int .i64 0, .int .i64 (i : Nat)] w fun e w' => e = .returned (.int .i64 0) ∧ Hid (XM B w' lb { L with n0 := L.n0.eraseIdx i }) ∧ Hid (KX B lb w w') := by
  have k0 := XC.there 0 (i : Nat) h
  have k1 := XC.goes0 h hf hi
  rw [hE] at k0
  clear h hE hf hi
  go_enter Tryz.func36, Tryz.ntmps36
  go_wp2_with (first | (go_at_call 69; refine k0.mono ?_; rintro e w1 ⟨rfl, hw1⟩; obtain rfl := hw1.symm; clear hw1 k0) | (go_at_call 71; refine k1.mono ?_; rintro e w1 ⟨a, n, c, rfl, hO, hX, hK⟩))
  go_ret
  exact ⟨rfl, hX, KX.of_l hK.out⟩
set_option maxHeartbeats 1000000 in
theorem xtwice0 {w : World} {lb : Nat} {L : Lk} {i : Nat} {g : Gr} (h : XM B w lb L) (hE : canE L 0 (i : Nat) = 0) (hf : L.n0.length ≤ 256) (hi : L.n0[i]? = some g) :
    Calls Tryz.prog 37 #[.pointer (some ⟨lb, 0, none⟩), .int .i64 0, .int .i64 (i : Nat)] w fun e w' => e = .returned (.int .i64 0) ∧ Hid (XM B w' lb { L with n0 := putG L.n0 g }) ∧ Hid (KX B lb w w') := by
  have k0 := XC.there 0 (i : Nat) h
  rw [hE] at k0
  obtain ⟨d, v, rv, v0, v1, G0, G1, hB⟩ := h
  obtain ⟨x, hx, h1, h2⟩ := hB.p0.get hi
  have hlt : i < G0.length := (List.getElem?_eq_some_iff.1 hx).1
  obtain ⟨gb, c, hv, y0, y1, hnc, hcm⟩ := hB.g0.cells hx
  have c0 : w.cell? ⟨lb, 10, none⟩ = some (.slice (some ⟨gb, 0, none⟩) G0.length c) := by have := hB.blk.cell 10; rw [← hv]; exact this
  have q0 : decide ((i : Int) < (G0.length : Int)) = true := by simp; omega
  have q1 : decide ((0 : Int) ≤ (i : Int)) = true := by simp
  have k1 := XC.put0 (L := L) ⟨d, v, rv, v0, v1, G0, G1, hB⟩ hf ⟨x.a, x.n, x.c, x.zs, x.sp⟩ ⟨(hB.g0.ent x (List.mem_of_getElem? hx)).1, (hB.g0.ent x (List.mem_of_getElem? hx)).2⟩
  have hfin : Hid (∀ w' : World, XC B w' lb { L with n0 := putG L.n0 ⟨x.a, x.n, x.c, x.zs, x.sp⟩ } (L.s.nxt - 1) L.r.tk → XM B w' lb { L with n0 := putG L.n0 g }) := fun w' hX => by
    obtain ⟨d', v', rv', v0', v1', G0', G1', hB'⟩ := hX
    exact ⟨d', v', rv', v0', v1', G0', G1', hB'.blk, hB'.hl, hB'.rd, hB'.dok, hB'.dr, hB'.rr, hB'.g0, hB'.g1, hB'.p0.trans (Pq.put rfl h1 h2), hB'.p1⟩
  unfold Gr.val at k1
  clear hB hE hf hi hx h1 h2 hv hnc hcm
  go_enter Tryz.func37, Tryz.ntmps37
  go_wp2_with (first | (go_at_call 69; refine k0.mono ?_; rintro e w1 ⟨rfl, hw1⟩; obtain rfl := hw1.symm; clear hw1 k0) | (go_at_call 74; refine k1.mono ?_; rintro e w1 ⟨rfl, hX, hK⟩))
  go_ret
  exact ⟨rfl, hfin.out _ hX.out, KX.of_l hK.out⟩
/-- One goes. -/
theorem XC.goes1 {w : World} {lb : Nat} {L : Lk} {st gt : Int} {i : Nat} {g : Gr} (h : XC B w lb L st gt) (hf : L.n1.length ≤ 256) (hi : L.n1[i]? = some g) :
    Calls Tryz.prog 71 #[.pointer (some ⟨lb, 0, none⟩), .int .i64 1, .int .i64 (i : Nat)] w fun e w' => ∃ a n c, e = .returned (.agg #[.slice a n c, .bool g.sp]) ∧ Hid (OwnsB w' 0 (.slice a n c) g.zs) ∧ Hid (XC B w' lb { L with n1 := L.n1.eraseIdx i } st gt) ∧ Hid (KS (fun q => q = lb) w w') := by
  obtain ⟨d, v, rv, v0, v1, G0, G1, hB⟩ := h
  obtain ⟨x, hx, h1, h2⟩ := hB.p1.get hi
  refine (xgoes1 (E := Ge B) i x hB.xn hB.g1 (by rw [hB.p1.len]; exact hf) (fun q hq => Nat.le_trans (Nat.le_trans hB.hl (Nat.le_of_lt hB.blk.lt)) hq) hx).mono ?_
  rintro e w' ⟨rfl, v2, hX, hR, hK, hG⟩
  exact ⟨x.a, x.n, x.c, by rw [h2], by rw [← h1]; exact hG.out.1, ⟨d, v, rv, v0, v2, G0, _, hB.turn1 hK.out hX.out hR.out (hB.p1.erase i)⟩, hK⟩
set_option maxHeartbeats 1000000 in
theorem xdrop1 {w : World} {lb : Nat} {L : Lk} {i : Nat} {g : Gr} (h : XM B w lb L) (hE : canE L 1 (i : Nat) = 0) (hf : L.n1.length ≤ 256) (hi : L.n1[i]? = some g) :
    Calls Tryz.prog 36 #[.pointer (some ⟨lb, 0, none⟩), .int .i64 1, .int .i64 (i : Nat)] w fun e w' => e = .returned (.int .i64 0) ∧ Hid (XM B w' lb { L with n1 := L.n1.eraseIdx i }) ∧ Hid (KX B lb w w') := by
  have k0 := XC.there 1 (i : Nat) h
  have k1 := XC.goes1 h hf hi
  rw [hE] at k0
  clear h hE hf hi
  go_enter Tryz.func36, Tryz.ntmps36
  go_wp2_with (first | (go_at_call 69; refine k0.mono ?_; rintro e w1 ⟨rfl, hw1⟩; obtain rfl := hw1.symm; clear hw1 k0) | (go_at_call 71; refine k1.mono ?_; rintro e w1 ⟨a, n, c, rfl, hO, hX, hK⟩))
  go_ret
  exact ⟨rfl, hX, KX.of_l hK.out⟩
set_option maxHeartbeats 1000000 in
theorem xtwice1 {w : World} {lb : Nat} {L : Lk} {i : Nat} {g : Gr} (h : XM B w lb L) (hE : canE L 1 (i : Nat) = 0) (hf : L.n1.length ≤ 256) (hi : L.n1[i]? = some g) :
    Calls Tryz.prog 37 #[.pointer (some ⟨lb, 0, none⟩), .int .i64 1, .int .i64 (i : Nat)] w fun e w' => e = .returned (.int .i64 0) ∧ Hid (XM B w' lb { L with n1 := putG L.n1 g }) ∧ Hid (KX B lb w w') := by
  have k0 := XC.there 1 (i : Nat) h
  rw [hE] at k0
  obtain ⟨d, v, rv, v0, v1, G0, G1, hB⟩ := h
  obtain ⟨x, hx, h1, h2⟩ := hB.p1.get hi
  have hlt : i < G1.length := (List.getElem?_eq_some_iff.1 hx).1
  obtain ⟨gb, c, hv, y0, y1, hnc, hcm⟩ := hB.g1.cells hx
  have c0 : w.cell? ⟨lb, 11, none⟩ = some (.slice (some ⟨gb, 0, none⟩) G1.length c) := by have := hB.blk.cell 11; rw [← hv]; exact this
  have q0 : decide ((i : Int) < (G1.length : Int)) = true := by simp; omega
  have q1 : decide ((0 : Int) ≤ (i : Int)) = true := by simp
  have k1 := XC.put1 (L := L) ⟨d, v, rv, v0, v1, G0, G1, hB⟩ hf ⟨x.a, x.n, x.c, x.zs, x.sp⟩ ⟨(hB.g1.ent x (List.mem_of_getElem? hx)).1, (hB.g1.ent x (List.mem_of_getElem? hx)).2⟩
  have hfin : Hid (∀ w' : World, XC B w' lb { L with n1 := putG L.n1 ⟨x.a, x.n, x.c, x.zs, x.sp⟩ } (L.s.nxt - 1) L.r.tk → XM B w' lb { L with n1 := putG L.n1 g }) := fun w' hX => by
    obtain ⟨d', v', rv', v0', v1', G0', G1', hB'⟩ := hX
    exact ⟨d', v', rv', v0', v1', G0', G1', hB'.blk, hB'.hl, hB'.rd, hB'.dok, hB'.dr, hB'.rr, hB'.g0, hB'.g1, hB'.p0, hB'.p1.trans (Pq.put rfl h1 h2)⟩
  unfold Gr.val at k1
  clear hB hE hf hi hx h1 h2 hv hnc hcm
  go_enter Tryz.func37, Tryz.ntmps37
  go_wp2_with (first | (go_at_call 69; refine k0.mono ?_; rintro e w1 ⟨rfl, hw1⟩; obtain rfl := hw1.symm; clear hw1 k0) | (go_at_call 74; refine k1.mono ?_; rintro e w1 ⟨rfl, hX, hK⟩))
  go_ret
  exact ⟨rfl, hfin.out _ hX.out, KX.of_l hK.out⟩
theorem xdrop_any {w : World} {lb : Nat} {L : Lk} (n i : Int) (h : XM B w lb L) (p : Lp L) :
    Calls Tryz.prog 36 #[.pointer (some ⟨lb, 0, none⟩), .int .i64 n, .int .i64 i] w fun e w' => e = .returned (.int .i64 (canE L n i)) ∧ Hid (XM B w' lb (dropS L n i)) ∧ Hid (KX B lb w w') := by
  by_cases hE : canE L n i = 0
  · obtain ⟨h1, h2, h3⟩ := can_zero hE
    obtain ⟨i, rfl⟩ : ∃ k : Nat, i = (k : Int) := ⟨i.toNat, by omega⟩
    rcases net_two h1 with rfl | rfl
    · have h3 : ((i : Nat) : Int) < L.n0.length := h3
      obtain ⟨g, hg⟩ : ∃ g, L.n0[i]? = some g := ⟨_, List.getElem?_eq_getElem (by omega)⟩
      have e : dropS L 0 (i : Nat) = { L with n0 := L.n0.eraseIdx i } := by unfold dropS; rw [if_pos hE]; rfl
      rw [e, hE]
      exact xdrop0 h hE p.f0 hg
    · have h3 : ((i : Nat) : Int) < L.n1.length := h3
      obtain ⟨g, hg⟩ : ∃ g, L.n1[i]? = some g := ⟨_, List.getElem?_eq_getElem (by omega)⟩
      have e : dropS L 1 (i : Nat) = { L with n1 := L.n1.eraseIdx i } := by unfold dropS; rw [if_pos hE]; rfl
      rw [e, hE]
      exact xdrop1 h hE p.f1 hg
  · have e : dropS L n i = L := by unfold dropS; rw [if_neg hE]
    rw [e]
    have k0 := XC.there n i h
    have d0 : (canE L n i == 0) = false := by simpa using hE
    have hX : Hid (XM B w lb L) := h
    generalize canE L n i = E at *
    clear h hE e p
    go_enter Tryz.func36, Tryz.ntmps36
    go_wp2_with (go_at_call 69; refine k0.mono ?_; rintro e w1 ⟨rfl, hw1⟩; obtain rfl := hw1.symm; clear hw1 k0)
    go_ret
    exact ⟨rfl, hX, KX.refl _ _⟩
theorem xtwice_any {w : World} {lb : Nat} {L : Lk} (n i : Int) (h : XM B w lb L) (p : Lp L) :
    Calls Tryz.prog 37 #[.pointer (some ⟨lb, 0, none⟩), .int .i64 n, .int .i64 i] w fun e w' => e = .returned (.int .i64 (canE L n i)) ∧ Hid (XM B w' lb (twiceS L n i)) ∧ Hid (KX B lb w w') := by
  by_cases hE : canE L n i = 0
  · obtain ⟨h1, h2, h3⟩ := can_zero hE
    obtain ⟨i, rfl⟩ : ∃ k : Nat, i = (k : Int) := ⟨i.toNat, by omega⟩
    rcases net_two h1 with rfl | rfl
    · have h3 : ((i : Nat) : Int) < L.n0.length := h3
      obtain ⟨g, hg⟩ : ∃ g, L.n0[i]? = some g := ⟨_, List.getElem?_eq_getElem (by omega)⟩
      have e : twiceS L 0 (i : Nat) = { L with n0 := putG L.n0 g } := by
        unfold twiceS
        rw [show (netL L 0)[((i : Nat) : Int).toNat]? = some g from hg]
        show (if canE L 0 (i : Nat) = 0 then _ else _) = _
        rw [if_pos hE]; rfl
      rw [e, hE]
      exact xtwice0 h hE p.f0 hg
    · have h3 : ((i : Nat) : Int) < L.n1.length := h3
      obtain ⟨g, hg⟩ : ∃ g, L.n1[i]? = some g := ⟨_, List.getElem?_eq_getElem (by omega)⟩
      have e : twiceS L 1 (i : Nat) = { L with n1 := putG L.n1 g } := by
        unfold twiceS
        rw [show (netL L 1)[((i : Nat) : Int).toNat]? = some g from hg]
        show (if canE L 1 (i : Nat) = 0 then _ else _) = _
        rw [if_pos hE]; rfl
      rw [e, hE]
      exact xtwice1 h hE p.f1 hg
  · have e : twiceS L n i = L := by
      unfold twiceS
      split
      · rw [if_neg hE]
      · rfl
    rw [e]
    have k0 := XC.there n i h
    have d0 : (canE L n i == 0) = false := by simpa using hE
    have hX : Hid (XM B w lb L) := h
    generalize canE L n i = E at *
    clear h hE e p
    go_enter Tryz.func37, Tryz.ntmps37
    go_wp2_with (go_at_call 69; refine k0.mono ?_; rintro e w1 ⟨rfl, hw1⟩; obtain rfl := hw1.symm; clear hw1 k0)
    go_ret
    exact ⟨rfl, hX, KX.refl _ _⟩
end Go.Proofs.YtfipdldoklkciaaGreat
namespace Go.Proofs.YtfipdldoklkciaaGreat
open Go.RowKit
set_option linter.unusedVariables false
variable {B : Nat}
theorem field_x (a : Option Addr) (n c : Nat) (sp : Bool) (w : World) : (Instr.field 123 (.agg #[.slice a n c, .bool sp]) 0).run Tryz.prog w = .ok (.slice a n c) w := by kernel_rfl
theorem XM.data {w : World} {lb : Nat} {L : Lk} (h : XM B w lb L) (p : Lp L) (z : Int) (a : Option Addr) (len cap : Nat) (zs : List Int) (hz : z ≤ 9223372036854775807) (hn : zs.length = len) (h0 : a = none → cap = 0) (hb : Bytes w a zs) :
    Calls Tryz.prog 72 #[.pointer (some ⟨lb, 7, none⟩), .int .i64 z, .slice a len cap] w fun e w' => e = .returned (.int .i64 (dataE L.r z len)) ∧ Hid (XM B w' lb { L with r := dataS L.r z zs }) ∧ Hid (KX B lb w w') := by
  obtain ⟨d, v, rv, v0, v1, G0, G1, hB⟩ := h
  refine (hB.data p z a len cap zs hz hn h0 hb).mono ?_
  rintro e w' ⟨rfl, hX, hK⟩
  obtain ⟨rv', hX⟩ := hX.out
  refine ⟨rfl, ⟨d, v, rv', v0, v1, G0, G1, ?_⟩, hK⟩
  rw [show ({ L with r := dataS L.r z zs } : Lk).r.tk = L.r.tk from dataS_tk _ _ _]
  exact hX
theorem XM.ack {w : World} {lb : Nat} {L : Lk} (h : XM B w lb L) (p : Lp L) (ack bits credit : Int) :
    Calls Tryz.prog 73 #[.pointer (some ⟨lb, 3, none⟩), .int .i64 ack, .int .u64 bits, .int .i64 credit] w fun e w' => e = .returned (.int .i64 (ackE L.s ack credit)) ∧ Hid (XM B w' lb { L with s := ackS L.s ack bits credit }) ∧ Hid (KX B lb w w') := by
  obtain ⟨d, v, rv, v0, v1, G0, G1, hB⟩ := h
  refine (hB.ack p ack bits credit).mono ?_
  rintro e w' ⟨rfl, hX, hK⟩
  obtain ⟨d', v', hX⟩ := hX.out
  refine ⟨rfl, ⟨d', v', rv, v0, v1, G0, G1, ?_⟩, hK⟩
  rw [show ({ L with s := ackS L.s ack bits credit } : Lk).s.nxt = L.s.nxt from (lim_ack L.s ack bits credit (max L.s.lim credit) (by omega) (by omega)).2.2]
  exact hX
set_option maxHeartbeats 2000000 in
set_option maxRecDepth 100000 in
theorem xdel0 {w : World} {lb : Nat} {L : Lk} {i : Nat} {g : Gr} (h : XM B w lb L) (p : Lp L) (hE : canE L 0 (i : Nat) = 0) (hi : L.n0[i]? = some g) :
    Calls Tryz.prog 35 #[.pointer (some ⟨lb, 0, none⟩), .int .i64 0, .int .i64 (i : Nat)] w fun e w' => e = .returned (.int .i64 (delR { L with n0 := L.n0.eraseIdx i } 0 g.zs).1) ∧ Hid (XM B w' lb (delR { L with n0 := L.n0.eraseIdx i } 0 g.zs).2) ∧ Hid (KX B lb w w') := by
  have k0 := XC.there 0 (i : Nat) h
  have k1 := XC.goes0 h p.f0 hi
  rw [hE] at k0
  have p1 := p.er0 i
  have hgb : Hid (∀ c ∈ g.zs, 0 ≤ c ∧ c < 256) := p.gb g (.inl (List.mem_of_getElem? hi))
  clear h hE hi p
  generalize hL1 : ({ L with n0 := L.n0.eraseIdx i } : Lk) = L1 at *
  have hnx : Hid (L1.s.nxt = L.s.nxt ∧ L1.r.tk = L.r.tk) := by rw [← hL1]; exact ⟨rfl, rfl⟩
  have hp1 : Hid (Lp L1) := p1
  clear hL1 p1
  generalize g.zs = zs at *
  generalize g.sp = sp at *
  go_enter Tryz.func35, Tryz.ntmps35
  go_wp2_with (first | (go_at_call 69; refine k0.mono ?_; rintro e w1 ⟨rfl, hw1⟩; obtain rfl := hw1.symm; clear hw1 k0) | (go_at_call 71; refine k1.mono ?_; rintro e w1 ⟨a, n, c, rfl, hO, hX, hK⟩; have hfl := field_x a n c sp w1; clear k1))
  have hX' : Hid (XM B w1 lb L1) := by show XM B _ _ _; unfold XM; rw [hnx.out.1, hnx.out.2]; exact hX.out
  have kU : Calls Tryz.prog 70 #[.slice a n c] w1 fun e w' => Hid (UpX w' zs e) ∧ Hid (Below w1.heap.size w1 w') := by
    obtain ⟨a', c', e, q1, ⟨q2, q3⟩, q4, q5⟩ := hO.out.shape
    cases e
    have hm : c ≤ 9223372036854775807 := by unfold maxLen at q3; exact q3
    cases hw : wfB zs with
    | false => exact xunpack_sum a _ c zs w1 rfl q4 q2 hm hw
    | true => exact xunpack_wf a _ c zs w1 rfl q4 q2 hm hw
  have hB0 : Hid (Below w1.heap.size w1 w1) := Below.refl _ _
  clear hX hO
  refine kU.mono ?_
  rintro e w2 ⟨hU, hb2⟩
  obtain ⟨am, nm, cm, rfl, u1, u2, u3⟩ := hU.out
  have u1' : Hid _ := u1
  have u2' : Hid _ := u2
  have u3' : Hid _ := u3
  have hX2 : Hid (XM B w2 lb L1) := hX'.out.kept hb2.out
  have hK2 : Hid (KX B lb w w2) := (KX.of_l hK.out).trans (KX.of_below hb2.out)
  clear hU u1 u2 u3 kU hX' hB0 hK hb2
  unfold mval
  by_cases hz : upE zs = 0
  · have hm : outM zs = upG zs := outM_zero hz
    rw [hm] at u1' u2' ⊢
    rw [hz]
    have hD0 : Hid (delR L1 0 zs = if (upG zs).tok ≠ L1.tok ∨ (upG zs).kind ≠ 1 then (12, L1) else if (upG zs).ep ≠ L1.ep then (17, L1) else (dataE L1.r (upG zs).seq (upG zs).zs.length, { L1 with r := dataS L1.r (upG zs).seq (upG zs).zs })) := by
      show _ = _
      unfold delR
      rw [if_neg (fun k => k hz)]
      rfl
    have hms : Hid (mayM (upG zs) = true) := by
      have := hz
      unfold upE at this
      split at this
      · cases this
      · split at this
        · rename_i hh; exact hh.2
        · cases this
    clear hz hm
    generalize upG zs = m at *
    have al : Below w2.heap.size w2 (w2.alloc (.cells #[.int .i64 m.kind, .int .u64 m.tok, .int .i64 m.ep, .int .i64 m.seq, .int .i64 m.ack, .int .u64 m.bits, .int .i64 m.cred, .int .i64 m.fmt, .slice am nm cm] 100)) := (Below.refl _ _).alloc (Nat.le_refl _) _
    have hX3 : Hid (XM B (w2.alloc (.cells #[.int .i64 m.kind, .int .u64 m.tok, .int .i64 m.ep, .int .i64 m.seq, .int .i64 m.ack, .int .u64 m.bits, .int .i64 m.cred, .int .i64 m.fmt, .slice am nm cm] 100)) lb L1) := hX2.out.kept al
    have hK3 : Hid (KX B lb w (w2.alloc (.cells #[.int .i64 m.kind, .int .u64 m.tok, .int .i64 m.ep, .int .i64 m.seq, .int .i64 m.ack, .int .u64 m.bits, .int .i64 m.cred, .int .i64 m.fmt, .slice am nm cm] 100))) := hK2.out.trans (KX.of_below al)
    have hbm : Hid (Blk (w2.alloc (.cells #[.int .i64 m.kind, .int .u64 m.tok, .int .i64 m.ep, .int .i64 m.seq, .int .i64 m.ack, .int .u64 m.bits, .int .i64 m.cred, .int .i64 m.fmt, .slice am nm cm] 100)) w2.heap.size #[.int .i64 m.kind, .int .u64 m.tok, .int .i64 m.ep, .int .i64 m.seq, .int .i64 m.ack, .int .u64 m.bits, .int .i64 m.cred, .int .i64 m.fmt, .slice am nm cm] 100) := blk_new w2 _ _
    have hby : Hid (Bytes (w2.alloc (.cells #[.int .i64 m.kind, .int .u64 m.tok, .int .i64 m.ep, .int .i64 m.seq, .int .i64 m.ack, .int .u64 m.bits, .int .i64 m.cred, .int .i64 m.fmt, .slice am nm cm] 100)) am m.zs) := Bytes.kept u1'.out al
    clear al hX2 hK2 u1'
    go_wp2_with fail
    generalize (w2.alloc (.cells #[.int .i64 m.kind, .int .u64 m.tok, .int .i64 m.ep, .int .i64 m.seq, .int .i64 m.ack, .int .u64 m.bits, .int .i64 m.cred, .int .i64 m.fmt, .slice am nm cm] 100)) = W at *
    generalize w2.heap.size = bm at *
    have key : Hid (∀ x, Below W.heap.size W x → Hid (XM B x lb L1) ∧ Hid (KX B lb w x)) := fun x hx => ⟨hX3.out.kept hx, hK3.out.trans (KX.of_below hx)⟩
    have m0 : W.cell? ⟨bm, 0, none⟩ = some (.int .i64 m.kind) := hbm.out.cell 0
    have m1 : W.cell? ⟨bm, 1, none⟩ = some (.int .u64 m.tok) := hbm.out.cell 1
    have m2 : W.cell? ⟨bm, 2, none⟩ = some (.int .i64 m.ep) := hbm.out.cell 2
    have x0 : W.cell? ⟨lb, 0, none⟩ = some (.int .u64 L1.tok) := XC.cells hX3.out |>.1
    have x2 : W.cell? ⟨lb, 2, none⟩ = some (.int .i64 L1.ep) := XC.cells hX3.out |>.2.2
    by_cases ht : m.tok = L1.tok
    · have dt : (m.tok != L1.tok) = false := by simpa using ht
      by_cases hk : m.kind = 1
      · have dk : (m.kind != 1) = false := by simpa using hk
        by_cases he : m.ep = L1.ep
        · have de : (m.ep != L1.ep) = false := by simpa using he
          have hD : Hid (delR L1 0 zs = (dataE L1.r m.seq m.zs.length, { L1 with r := dataS L1.r m.seq m.zs })) := by show _ = _; rw [hD0.out, if_neg (fun k => by rcases k with k | k; exact k ht; exact k hk), if_neg (fun k => k he)]
          clear hD0 ht hk he
          go_quiet (fail)
          go_wp2
          go_quiet (fail)
          go_wp2
          have m3 : W.cell? ⟨bm, 3, none⟩ = some (.int .i64 m.seq) := hbm.out.cell 3
          have m8 : W.cell? ⟨bm, 8, none⟩ = some (.slice am nm cm) := hbm.out.cell 8
          have kD : Hid (∀ x, Below W.heap.size W x → Calls Tryz.prog 72 #[.pointer (some ⟨lb, 7, none⟩), .int .i64 m.seq, .slice am nm cm] x fun e w' => e = .returned (.int .i64 (dataE L1.r m.seq nm)) ∧ Hid (XM B w' lb { L1 with r := dataS L1.r m.seq m.zs }) ∧ Hid (KX B lb x w')) := fun x hx => (hX3.out.kept hx).data hp1.out m.seq am nm cm m.zs (by have := mayM_iff.1 hms.out; omega) u2'.out u3'.out (hby.out.kept hx)
          have hnm : Hid (m.zs.length = nm) := u2'.out
          clear m0 m1 m2 x0 x2 u2' u3' hby
          go_region_with (go_at_call 72; refine (kD.out _ (by repeat' first | exact Below.refl _ _ | refine below_dn ?_ _ | refine Below.drew ?_)).mono ?_; rintro e w5 ⟨rfl, hX5, hK5⟩)
          all_goals (
            go_wp2
            go_ret
            rw [hD.out, hnm.out]
            exact ⟨rfl, hX5, (hK3.out.trans (KX.of_below (by repeat' first | exact Below.refl _ _ | refine below_dn ?_ _ | refine Below.drew ?_))).trans hK5.out⟩)
        · have de : (m.ep != L1.ep) = true := by simpa using he
          have hD : Hid (delR L1 0 zs = (17, L1)) := by show _ = _; rw [hD0.out, if_neg (fun k => by rcases k with k | k; exact k ht; exact k hk), if_pos he]
          clear hD0 ht hk he
          go_quiet (fail)
          go_wp2
          go_quiet (fail)
          go_wp2
          go_ret
          rw [hD.out]
          exact ⟨rfl, key.out _ (by repeat' first | exact Below.refl _ _ | refine below_dn ?_ _ | refine Below.drew ?_)⟩
      · have dk : (m.kind != 1) = true := by simpa using hk
        have hD : Hid (delR L1 0 zs = (12, L1)) := by show _ = _; rw [hD0.out, if_pos (.inr hk)]
        clear hD0 ht hk
        go_quiet (fail)
        go_wp2
        go_ret
        rw [hD.out]
        exact ⟨rfl, key.out _ (by repeat' first | exact Below.refl _ _ | refine below_dn ?_ _ | refine Below.drew ?_)⟩
    · have dt : (m.tok != L1.tok) = true := by simpa using ht
      have hD : Hid (delR L1 0 zs = (12, L1)) := by show _ = _; rw [hD0.out, if_pos (.inl ht)]
      clear hD0 ht
      go_quiet (fail)
      go_wp2
      go_ret
      rw [hD.out]
      exact ⟨rfl, key.out _ (by repeat' first | exact Below.refl _ _ | refine below_dn ?_ _ | refine Below.drew ?_)⟩
  · have dz : (upE zs != 0) = true := by simpa using hz
    have hD : Hid (delR L1 0 zs = (upE zs, L1)) := by show _ = _; unfold delR; rw [if_pos hz]
    have al : Hid (∀ cs, Below w2.heap.size w2 (w2.alloc (.cells cs 100))) := fun cs => (Below.refl _ _).alloc (Nat.le_refl _) _
    clear u1' u2' u3' hz
    generalize upE zs = E at *
    go_wp2_with fail
    go_ret
    rw [hD.out]
    exact ⟨rfl, hX2.out.kept (al.out _), hK2.out.trans (KX.of_below (al.out _))⟩
set_option maxHeartbeats 2000000 in
set_option maxRecDepth 100000 in
theorem xdel1 {w : World} {lb : Nat} {L : Lk} {i : Nat} {g : Gr} (h : XM B w lb L) (p : Lp L) (hE : canE L 1 (i : Nat) = 0) (hi : L.n1[i]? = some g) :
    Calls Tryz.prog 35 #[.pointer (some ⟨lb, 0, none⟩), .int .i64 1, .int .i64 (i : Nat)] w fun e w' => e = .returned (.int .i64 (delR { L with n1 := L.n1.eraseIdx i } 1 g.zs).1) ∧ Hid (XM B w' lb (delR { L with n1 := L.n1.eraseIdx i } 1 g.zs).2) ∧ Hid (KX B lb w w') := by
  have k0 := XC.there 1 (i : Nat) h
  have k1 := XC.goes1 h p.f1 hi
  rw [hE] at k0
  have p1 := p.er1 i
  have hgb : Hid (∀ c ∈ g.zs, 0 ≤ c ∧ c < 256) := p.gb g (.inr (List.mem_of_getElem? hi))
  clear h hE hi p
  generalize hL1 : ({ L with n1 := L.n1.eraseIdx i } : Lk) = L1 at *
  have hnx : Hid (L1.s.nxt = L.s.nxt ∧ L1.r.tk = L.r.tk) := by rw [← hL1]; exact ⟨rfl, rfl⟩
  have hp1 : Hid (Lp L1) := p1
  clear hL1 p1
  generalize g.zs = zs at *
  generalize g.sp = sp at *
  go_enter Tryz.func35, Tryz.ntmps35
  go_wp2_with (first | (go_at_call 69; refine k0.mono ?_; rintro e w1 ⟨rfl, hw1⟩; obtain rfl := hw1.symm; clear hw1 k0) | (go_at_call 71; refine k1.mono ?_; rintro e w1 ⟨a, n, c, rfl, hO, hX, hK⟩; have hfl := field_x a n c sp w1; clear k1))
  have hX' : Hid (XM B w1 lb L1) := by show XM B _ _ _; unfold XM; rw [hnx.out.1, hnx.out.2]; exact hX.out
  have kU : Calls Tryz.prog 70 #[.slice a n c] w1 fun e w' => Hid (UpX w' zs e) ∧ Hid (Below w1.heap.size w1 w') := by
    obtain ⟨a', c', e, q1, ⟨q2, q3⟩, q4, q5⟩ := hO.out.shape
    cases e
    have hm : c ≤ 9223372036854775807 := by unfold maxLen at q3; exact q3
    cases hw : wfB zs with
    | false => exact xunpack_sum a _ c zs w1 rfl q4 q2 hm hw
    | true => exact xunpack_wf a _ c zs w1 rfl q4 q2 hm hw
  have hB0 : Hid (Below w1.heap.size w1 w1) := Below.refl _ _
  clear hX hO
  refine kU.mono ?_
  rintro e w2 ⟨hU, hb2⟩
  obtain ⟨am, nm, cm, rfl, u1, u2, u3⟩ := hU.out
  have u1' : Hid _ := u1
  have u2' : Hid _ := u2
  have u3' : Hid _ := u3
  have hX2 : Hid (XM B w2 lb L1) := hX'.out.kept hb2.out
  have hK2 : Hid (KX B lb w w2) := (KX.of_l hK.out).trans (KX.of_below hb2.out)
  clear hU u1 u2 u3 kU hX' hB0 hK hb2
  unfold mval
  by_cases hz : upE zs = 0
  · have hm : outM zs = upG zs := outM_zero hz
    rw [hm] at u1' u2' ⊢
    rw [hz]
    have hD0 : Hid (delR L1 1 zs = if (upG zs).tok ≠ L1.tok ∨ (upG zs).kind ≠ 2 then (12, L1) else if (upG zs).ep ≠ L1.ep then (17, L1) else (ackE L1.s (upG zs).ack (upG zs).cred, { L1 with s := ackS L1.s (upG zs).ack (upG zs).bits (upG zs).cred })) := by
      show _ = _
      unfold delR
      rw [if_neg (fun k => k hz)]
      rfl
    have hms : Hid (mayM (upG zs) = true) := by
      have := hz
      unfold upE at this
      split at this
      · cases this
      · split at this
        · rename_i hh; exact hh.2
        · cases this
    clear hz hm
    generalize upG zs = m at *
    have al : Below w2.heap.size w2 (w2.alloc (.cells #[.int .i64 m.kind, .int .u64 m.tok, .int .i64 m.ep, .int .i64 m.seq, .int .i64 m.ack, .int .u64 m.bits, .int .i64 m.cred, .int .i64 m.fmt, .slice am nm cm] 100)) := (Below.refl _ _).alloc (Nat.le_refl _) _
    have hX3 : Hid (XM B (w2.alloc (.cells #[.int .i64 m.kind, .int .u64 m.tok, .int .i64 m.ep, .int .i64 m.seq, .int .i64 m.ack, .int .u64 m.bits, .int .i64 m.cred, .int .i64 m.fmt, .slice am nm cm] 100)) lb L1) := hX2.out.kept al
    have hK3 : Hid (KX B lb w (w2.alloc (.cells #[.int .i64 m.kind, .int .u64 m.tok, .int .i64 m.ep, .int .i64 m.seq, .int .i64 m.ack, .int .u64 m.bits, .int .i64 m.cred, .int .i64 m.fmt, .slice am nm cm] 100))) := hK2.out.trans (KX.of_below al)
    have hbm : Hid (Blk (w2.alloc (.cells #[.int .i64 m.kind, .int .u64 m.tok, .int .i64 m.ep, .int .i64 m.seq, .int .i64 m.ack, .int .u64 m.bits, .int .i64 m.cred, .int .i64 m.fmt, .slice am nm cm] 100)) w2.heap.size #[.int .i64 m.kind, .int .u64 m.tok, .int .i64 m.ep, .int .i64 m.seq, .int .i64 m.ack, .int .u64 m.bits, .int .i64 m.cred, .int .i64 m.fmt, .slice am nm cm] 100) := blk_new w2 _ _
    have hby : Hid (Bytes (w2.alloc (.cells #[.int .i64 m.kind, .int .u64 m.tok, .int .i64 m.ep, .int .i64 m.seq, .int .i64 m.ack, .int .u64 m.bits, .int .i64 m.cred, .int .i64 m.fmt, .slice am nm cm] 100)) am m.zs) := Bytes.kept u1'.out al
    clear al hX2 hK2 u1'
    go_wp2_with fail
    generalize (w2.alloc (.cells #[.int .i64 m.kind, .int .u64 m.tok, .int .i64 m.ep, .int .i64 m.seq, .int .i64 m.ack, .int .u64 m.bits, .int .i64 m.cred, .int .i64 m.fmt, .slice am nm cm] 100)) = W at *
    generalize w2.heap.size = bm at *
    have key : Hid (∀ x, Below W.heap.size W x → Hid (XM B x lb L1) ∧ Hid (KX B lb w x)) := fun x hx => ⟨hX3.out.kept hx, hK3.out.trans (KX.of_below hx)⟩
    have m0 : W.cell? ⟨bm, 0, none⟩ = some (.int .i64 m.kind) := hbm.out.cell 0
    have m1 : W.cell? ⟨bm, 1, none⟩ = some (.int .u64 m.tok) := hbm.out.cell 1
    have m2 : W.cell? ⟨bm, 2, none⟩ = some (.int .i64 m.ep) := hbm.out.cell 2
    have x0 : W.cell? ⟨lb, 0, none⟩ = some (.int .u64 L1.tok) := XC.cells hX3.out |>.1
    have x2 : W.cell? ⟨lb, 2, none⟩ = some (.int .i64 L1.ep) := XC.cells hX3.out |>.2.2
    by_cases ht : m.tok = L1.tok
    · have dt : (m.tok != L1.tok) = false := by simpa using ht
      by_cases hk : m.kind = 2
      · have dk : (m.kind != 2) = false := by simpa using hk
        by_cases he : m.ep = L1.ep
        · have de : (m.ep != L1.ep) = false := by simpa using he
          have hD : Hid (delR L1 1 zs = (ackE L1.s m.ack m.cred, { L1 with s := ackS L1.s m.ack m.bits m.cred })) := by show _ = _; rw [hD0.out, if_neg (fun k => by rcases k with k | k; exact k ht; exact k hk), if_neg (fun k => k he)]
          clear hD0 ht hk he
          go_quiet (fail)
          go_wp2
          go_quiet (fail)
          go_wp2
          have m4 : W.cell? ⟨bm, 4, none⟩ = some (.int .i64 m.ack) := hbm.out.cell 4
          have m5 : W.cell? ⟨bm, 5, none⟩ = some (.int .u64 m.bits) := hbm.out.cell 5
          have m6 : W.cell? ⟨bm, 6, none⟩ = some (.int .i64 m.cred) := hbm.out.cell 6
          have kD : Hid (∀ x, Below W.heap.size W x → Calls Tryz.prog 73 #[.pointer (some ⟨lb, 3, none⟩), .int .i64 m.ack, .int .u64 m.bits, .int .i64 m.cred] x fun e w' => e = .returned (.int .i64 (ackE L1.s m.ack m.cred)) ∧ Hid (XM B w' lb { L1 with s := ackS L1.s m.ack m.bits m.cred }) ∧ Hid (KX B lb x w')) := fun x hx => (hX3.out.kept hx).ack hp1.out m.ack m.bits m.cred
          clear m0 m1 m2 x0 x2 u2' u3' hby
          go_region_with (go_at_call 73; refine (kD.out _ (by repeat' first | exact Below.refl _ _ | refine below_dn ?_ _ | refine Below.drew ?_)).mono ?_; rintro e w5 ⟨rfl, hX5, hK5⟩)
          all_goals (
            go_wp2
            go_ret
            rw [hD.out]
            exact ⟨rfl, hX5, (hK3.out.trans (KX.of_below (by repeat' first | exact Below.refl _ _ | refine below_dn ?_ _ | refine Below.drew ?_))).trans hK5.out⟩)
        · have de : (m.ep != L1.ep) = true := by simpa using he
          have hD : Hid (delR L1 1 zs = (17, L1)) := by show _ = _; rw [hD0.out, if_neg (fun k => by rcases k with k | k; exact k ht; exact k hk), if_pos he]
          clear hD0 ht hk he
          go_quiet (fail)
          go_wp2
          go_quiet (fail)
          go_wp2
          go_ret
          rw [hD.out]
          exact ⟨rfl, key.out _ (by repeat' first | exact Below.refl _ _ | refine below_dn ?_ _ | refine Below.drew ?_)⟩
      · have dk : (m.kind != 2) = true := by simpa using hk
        have hD : Hid (delR L1 1 zs = (12, L1)) := by show _ = _; rw [hD0.out, if_pos (.inr hk)]
        clear hD0 ht hk
        go_quiet (fail)
        go_wp2
        go_ret
        rw [hD.out]
        exact ⟨rfl, key.out _ (by repeat' first | exact Below.refl _ _ | refine below_dn ?_ _ | refine Below.drew ?_)⟩
    · have dt : (m.tok != L1.tok) = true := by simpa using ht
      have hD : Hid (delR L1 1 zs = (12, L1)) := by show _ = _; rw [hD0.out, if_pos (.inl ht)]
      clear hD0 ht
      go_quiet (fail)
      go_wp2
      go_ret
      rw [hD.out]
      exact ⟨rfl, key.out _ (by repeat' first | exact Below.refl _ _ | refine below_dn ?_ _ | refine Below.drew ?_)⟩
  · have dz : (upE zs != 0) = true := by simpa using hz
    have hD : Hid (delR L1 1 zs = (upE zs, L1)) := by show _ = _; unfold delR; rw [if_pos hz]
    have al : Hid (∀ cs, Below w2.heap.size w2 (w2.alloc (.cells cs 100))) := fun cs => (Below.refl _ _).alloc (Nat.le_refl _) _
    clear u1' u2' u3' hz
    generalize upE zs = E at *
    go_wp2_with fail
    go_ret
    rw [hD.out]
    exact ⟨rfl, hX2.out.kept (al.out _), hK2.out.trans (KX.of_below (al.out _))⟩
theorem xdel_any {w : World} {lb : Nat} {L : Lk} (n i : Int) (h : XM B w lb L) (p : Lp L) :
    Calls Tryz.prog 35 #[.pointer (some ⟨lb, 0, none⟩), .int .i64 n, .int .i64 i] w fun e w' => e = .returned (.int .i64 (delS L n i).1) ∧ Hid (XM B w' lb (delS L n i).2) ∧ Hid (KX B lb w w') := by
  by_cases hE : canE L n i = 0
  · obtain ⟨h1, h2, h3⟩ := can_zero hE
    obtain ⟨i, rfl⟩ : ∃ k : Nat, i = (k : Int) := ⟨i.toNat, by omega⟩
    rcases net_two h1 with rfl | rfl
    · have h3 : ((i : Nat) : Int) < L.n0.length := h3
      obtain ⟨g, hg⟩ : ∃ g, L.n0[i]? = some g := ⟨_, List.getElem?_eq_getElem (by omega)⟩
      have e : delS L 0 (i : Nat) = delR { L with n0 := L.n0.eraseIdx i } 0 g.zs := by
        unfold delS
        rw [show (netL L 0)[((i : Nat) : Int).toNat]? = some g from hg]
        show (if canE L 0 (i : Nat) = 0 then _ else _) = _
        rw [if_pos hE]; rfl
      rw [e]
      exact xdel0 h p hE hg
    · have h3 : ((i : Nat) : Int) < L.n1.length := h3
      obtain ⟨g, hg⟩ : ∃ g, L.n1[i]? = some g := ⟨_, List.getElem?_eq_getElem (by omega)⟩
      have e : delS L 1 (i : Nat) = delR { L with n1 := L.n1.eraseIdx i } 1 g.zs := by
        unfold delS
        rw [show (netL L 1)[((i : Nat) : Int).toNat]? = some g from hg]
        show (if canE L 1 (i : Nat) = 0 then _ else _) = _
        rw [if_pos hE]; rfl
      rw [e]
      exact xdel1 h p hE hg
  · have e : delS L n i = (canE L n i, L) := by
      unfold delS
      split
      · rw [if_neg hE]
      · rfl
    rw [e]
    have k0 := XC.there n i h
    have d0 : (canE L n i != 0) = true := by simpa using hE
    have hX : Hid (XM B w lb L) := h
    generalize canE L n i = E at *
    clear h hE e p
    go_enter Tryz.func35, Tryz.ntmps35
    go_wp2_with (go_at_call 69; refine k0.mono ?_; rintro e w1 ⟨rfl, hw1⟩; obtain rfl := hw1.symm; clear hw1 k0)
    go_ret
    exact ⟨rfl, hX, KX.refl _ _⟩
end Go.Proofs.YtfipdldoklkciaaGreat
