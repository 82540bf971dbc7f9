/-
  The document's Data.
-/
import Derived.Test.YtajidkgmifcoaaaRct
import Derived.Laws.OwnMore
namespace Go.Proofs.Ytajidkgmifcoaaa
open Go.RowKit
set_option linter.unusedVariables false
theorem mdata_bad {w : World} {mb D : Nat} {s : Rc} (z : Int) (a : Option Addr) (len cap : Nat) (h : Dm w mb D s) (he : dataE s z len ≠ 0) (hl : (len : Int) ≤ 9223372036854775807) (hz : z ≤ 9223372036854775807) :
    Calls Try.prog 16 #[.pointer (some ⟨mb, 0, none⟩), .int .i64 z, .slice a len cap] w fun e w' => e = .returned (.int .i64 (dataE s z len)) ∧ w' = w := by
  obtain ⟨g, n, c, L, hF, hnc, hcm⟩ := h.open_
  have c0 := hF.blk.cell 0
  have c1 := hF.blk.cell 1
  have c2 := hF.blk.cell 2
  simp only [List.getElem?_toArray, List.getElem?_cons_succ, List.getElem?_cons_zero] at c0 c1 c2
  have ht1 := hF.ok.t1
  have ht2 := hF.ok.t2
  by_cases h1 : z < 1
  · have d1 : decide (z < 1) = true := by simp; omega
    have e : dataE s z len = 1 := by unfold dataE; rw [if_pos h1]
    rw [e]
    clear he h h1 e hF hl
    go_enter Try.func16, Try.ntmps16
    go_wp2_with fail
    go_ret
    exact ⟨rfl, rfl⟩
  have d1 : decide (z < 1) = false := by simp; omega
  by_cases h2 : 1200 < len
  · have d2 : decide ((len : Int) > 1200) = true := by simp; omega
    have e : dataE s z len = 8 := by unfold dataE; rw [if_neg h1, if_pos h2]
    rw [e]
    clear he h h1 h2 e hF hl
    go_enter Try.func16, Try.ntmps16
    go_wp2_with fail
    go_ret
    exact ⟨rfl, rfl⟩
  have d2 : decide ((len : Int) > 1200) = false := by simp; omega
  by_cases h3 : z ≤ s.tk
  · have d3 : decide (z ≤ s.tk) = true := by simp; omega
    have e : dataE s z len = 17 := by unfold dataE; rw [if_neg h1, if_neg h2, if_pos (.inl h3)]
    rw [e]
    clear he h h1 h2 h3 e hF hl
    go_enter Try.func16, Try.ntmps16
    go_wp2_with fail
    go_ret
    exact ⟨rfl, rfl⟩
  have d3 : decide (z ≤ s.tk) = false := by simp; omega
  have q1 : IntKind.i64.wrap (z - s.tk) = z - s.tk := by rw [IntKind.wrap_i64]; omega
  obtain ⟨k, hk⟩ : ∃ k : Nat, z - s.tk - 1 = (k : Int) := ⟨(z - s.tk - 1).toNat, by omega⟩
  have q2 : IntKind.i64.wrap (z - s.tk - 1) = (k : Int) := by rw [IntKind.wrap_i64]; omega
  by_cases h4 : s.tk + s.win < z
  · have d4 : decide ((k : Int) ≥ s.win) = true := by simp; omega
    have hL : ¬ (s.L z).isSome = true := fun q => by have := hF.ok.inn z q; omega
    have e : dataE s z len = 13 := by unfold dataE; rw [if_neg h1, if_neg h2, if_neg (fun q => by rcases q with q | q; exact h3 q; exact hL q), if_pos h4]
    rw [e]
    clear he h h1 h2 h3 h4 e hF hl hk hL
    go_enter Try.func16, Try.ntmps16
    go_wp2_with fail
    go_ret
    exact ⟨rfl, rfl⟩
  · have d4 : decide ((k : Int) ≥ s.win) = false := by simp; omega
    have hkn : k < n := by have := hF.nw; omega
    have hc := hF.is hkn
    have hh : has s k = (s.L z).isSome := by unfold has; rw [show s.tk + 1 + (k : Int) = z by omega]
    rw [hh] at hc
    have d5 : decide ((k : Int) < (n : Int)) = true := by simp; omega
    have d6 : decide ((0 : Int) ≤ (k : Int)) = true := by simp
    cases hL : (s.L z).isSome with
    | true =>
      have e : dataE s z len = 17 := by unfold dataE; rw [if_neg h1, if_neg h2, if_pos (.inr hL)]
      rw [e]
      rw [hL] at hc
      clear he h h1 h2 h3 h4 e hF hl hk hL hh
      go_enter Try.func16, Try.ntmps16
      go_wp2_with fail
      go_ret
      exact ⟨rfl, rfl⟩
    | false => exact absurd (by unfold dataE; rw [if_neg h1, if_neg h2, if_neg (fun q => by rcases q with q | q; exact h3 q; rw [hL] at q; cases q), if_neg h4]) he
/-- Bytes copied behind nothing. -/
theorem run_copy (w : World) (ty : TypeId) (a : Option Addr) (n c : Nat) (zs : List Int) (hn : zs.length = n) (h0 : a = none → c = 0) (hb : Bytes w a zs) (hl : n ≤ 1200) :
    ∃ v w', (Builtin.append_ #[33, 33] ty #[.slice none 0 0, .slice a n c]).run Try.prog w = .ok v w' ∧ OwnsB w' w.heap.size v zs ∧ Below w.heap.size w w' := by
  subst hn
  obtain ⟨i, hi, hz, hsz, hby⟩ := info_parts info5
  cases a with
  | none =>
    have hz0 : zs = [] := by
      rcases hb.2.2 with h | ⟨_, _, h, _⟩
      · exact h
      · cases h
    subst hz0
    rw [h0 rfl]
    exact ⟨_, _, run_append_owned_none (P := Try.prog) w w.heap.size 33 ty 5 i 1 Try.underlying33 hi (.slice none 0 0) 0 [] (World.ownsRow_nil w _ 5 1), ownsB_nil _ _, Below.refl _ _⟩
  | some ad =>
    obtain ⟨v', w', hr, ho, hg, _⟩ := run_append_own (P := Try.prog) w w.heap.size 33 ty 5 i (.int .u8 0) 1 1 Try.underlying33 hi hz hsz hby rfl (by decide) (.slice none 0 0) 0 [] (World.ownsRow_nil w _ 5 1) ad zs.length c (zs.map (Value.int .u8)) (by simp) (bytes_news hb) (bytes_one zs) (by unfold maxLen; omega) (by omega) (Nat.le_refl _)
    refine ⟨v', w', hr, ⟨?_, hb.1⟩, (Below.refl _ _).grown hg (Nat.le_refl _) (fun k hk => by simp [Value.ownBlock] at hk)⟩
    rw [Nat.zero_add, List.nil_append] at ho
    exact ho
theorem step_copy {w w2 : World} {ops : Array Oper} {o : Oper} {a : Act} {K : Act → World → Prop} {Q : Exit → Act → World → Prop} {E : Prop} (hgd : o.guard = none) (s x : Operand)
    (ho : o.op = .call { callee := .builtin .append, args := #[s, x], argTypes := #[33, 33] }) (vs vx v2 : Value) (hs : a.eval s = vs) (hx : a.eval x = vx)
    (hr : (Builtin.append_ #[33, 33] o.type #[vs, vx]).run Try.prog w = .ok v2 w2) (h : K (a.put o.dst v2) w2) :
    if Region.wanted o (yielded ops a.tmps) = true then Oper.wp Try.prog o a w K Q else E := by
  have hw : Region.wanted o (yielded ops a.tmps) = true := by simp [Region.wanted, hgd]
  rw [if_pos hw]
  unfold Oper.wp execOp
  simp only [ho, resolve, invoke, builtin, Sem.run_bind, Sem.run_pure, Result.andThen_ok, List.map_toArray, List.map_cons, List.map_nil, hs, hx, hr]
  exact h
theorem has_put {s : Rc} {z : Int} {zs : List Int} {k : Nat} (hk : z - s.tk - 1 = (k : Int)) (j : Nat) : has (putA s z zs) j = if j = k then true else has s j := by
  show (if s.tk + 1 + (j : Int) = z then some zs else s.L (s.tk + 1 + (j : Int))).isSome = _
  by_cases e : j = k
  · rw [if_pos e, if_pos (by omega)]; rfl
  · rw [if_neg e, if_neg (by omega)]; rfl
theorem dmf_put {w : World} {mb D g n c : Nat} {L : List Cm} {s : Rc} {z : Int} {zs : List Int} (h : DmF w mb D g n c L s) (hs : Rok (putA s z zs)) {k : Nat} (hk : z - s.tk - 1 = (k : Int)) (hkn : k < n) {v : Value} (hv : OwnsB w D v zs) :
    DmF ((w.setCell ⟨g, k * 2, none⟩ (.bool true)).setCell ⟨g, k * 2 + 1, none⟩ v) mb D g n c (L.set k (true, v, zs)) (putA s z zs) := by
  have hne : mb ≠ g := fun e => by
    obtain ⟨_, cs, hc⟩ := h.own.blk
    have := h.blk
    unfold Blk at this hc
    rw [e, hc] at this
    cases this
  refine ⟨h.hm, hs, ?_, h.own.put (by rw [h.len]; exact hkn) (true, v, zs) hv, h.nw, by rw [List.length_set]; exact h.len, fun j p hj => ?_⟩
  · unfold Blk
    rw [Below.heap_setCell _ _ _ _ (by simpa using hne), Below.heap_setCell _ _ _ _ (by simpa using hne)]
    exact h.blk
  · rw [has_put hk]
    by_cases e : j = k
    · subst e
      rw [List.getElem?_set_self (by rw [h.len]; exact hkn)] at hj
      cases hj
      rw [if_pos rfl]
      refine ⟨rfl, fun _ => ?_⟩
      show (if s.tk + 1 + (j : Int) = z then some zs else _) = some zs
      rw [if_pos (by omega)]
    · rw [List.getElem?_set_ne (by omega)] at hj
      rw [if_neg e]
      refine ⟨(h.rel j p hj).1, fun hp => ?_⟩
      show (if s.tk + 1 + (j : Int) = z then some zs else s.L (s.tk + 1 + (j : Int))) = _
      rw [if_neg (by omega)]
      exact (h.rel j p hj).2 hp
theorem DmF.kept {w w' : World} {mb D g n c : Nat} {L : List Cm} {s : Rc} (h : DmF w mb D g n c L s) (hb : Below w.heap.size w w') : DmF w' mb D g n c L s :=
  { h with blk := h.blk.kept hb, own := h.own.kept hb }
theorem DmF.low {w : World} {mb D g n c : Nat} {L : List Cm} {s : Rc} (h : DmF w mb D g n c L s) : D ≤ w.heap.size := Nat.le_trans h.hm (Nat.le_of_lt h.blk.lt)
set_option maxHeartbeats 1000000 in
theorem mdata_ok {w : World} {mb D : Nat} {s : Rc} (z : Int) (a : Option Addr) (len cap : Nat) (zs : List Int) (h : Dm w mb D s) (he : dataE s z len = 0) (hz : z ≤ 9223372036854775807) (hn : zs.length = len) (h0 : a = none → cap = 0) (hb : Bytes w a zs) :
    Calls Try.prog 16 #[.pointer (some ⟨mb, 0, none⟩), .int .i64 z, .slice a len cap] w fun e w' => e = .returned (.int .i64 0) ∧ Hid (Dm w' mb D (putA s z zs)) ∧ Hid (∃ g, D ≤ g ∧ (∃ cs, Blk w g cs 60) ∧ K2 g g w w') := by
  obtain ⟨g, n, c, L, hF, hnc, hcm⟩ := h.open_
  obtain ⟨e1, e2, e3, e4, e5⟩ := dataE_ok he
  have c0 := hF.blk.cell 0
  have c1 := hF.blk.cell 1
  have c2 := hF.blk.cell 2
  simp only [List.getElem?_toArray, List.getElem?_cons_succ, List.getElem?_cons_zero] at c0 c1 c2
  have ht1 := hF.ok.t1
  have ht2 := hF.ok.t2
  have d1 : decide (z < 1) = false := by simp; omega
  have d2 : decide ((len : Int) > 1200) = false := by simp; omega
  have d3 : decide (z ≤ s.tk) = false := by simp; omega
  have q1 : IntKind.i64.wrap (z - s.tk) = z - s.tk := by rw [IntKind.wrap_i64]; omega
  obtain ⟨k, hk⟩ : ∃ k : Nat, z - s.tk - 1 = (k : Int) := ⟨(z - s.tk - 1).toNat, by omega⟩
  have q2 : IntKind.i64.wrap (z - s.tk - 1) = (k : Int) := by rw [IntKind.wrap_i64]; omega
  have d4 : decide ((k : Int) ≥ s.win) = false := by simp; omega
  have hkn : k < n := by have := hF.nw; omega
  have hc := hF.is hkn
  have hh : has s k = (s.L z).isSome := by unfold has; rw [show s.tk + 1 + (k : Int) = z by omega]
  rw [hh, e5] at hc
  have d5 : decide ((k : Int) < (n : Int)) = true := by simp; omega
  have d6 : decide ((0 : Int) ≤ (k : Int)) = true := by simp
  obtain ⟨v2, w2, hr, hO, hB⟩ := run_copy w.drew 33 a len cap zs hn h0 hb e2
  have hB' : Hid (Below w.heap.size w w2) := (Below.refl _ _).drew.trans hB
  have hF2 : Hid (DmF w2 mb D g n c L s) := hF.kept hB'.out
  have hO2 : Hid (OwnsB w2 D v2 zs) := hO.low hF.low
  have hs2 : Hid (Rok (putA s z zs)) := put_ok hF.ok e3 e4 (by omega) hb.1
  have hkk : Hid (z - s.tk - 1 = (k : Int)) := hk
  have hD : Hid (D ≤ w.heap.size ∧ D ≤ g) := ⟨hF.low, hF.own.blk.1⟩
  have hblk : Hid (∃ cs, Blk w g cs 60) := hF.own.blk.2
  obtain ⟨va, vn, vc, rfl, hvn, hv0, hvle, hvmx, hvb⟩ := hO.form
  have hr' : Hid ((Builtin.append_ #[33, 33] 33 #[.slice none 0 0, .slice a len cap]).run Try.prog w.drew = .ok (.slice va vn vc) w2) := hr
  clear hr
  have hr := hr'
  clear hr'
  have y0 := hF2.out.is hkn
  obtain ⟨u, y1⟩ : ∃ u, w2.cell? ⟨g, k * 2 + 1, none⟩ = some u := by
    have hx : L[k]? = some (L[k]'(by rw [hF.len]; exact hkn)) := List.getElem?_eq_getElem _
    exact ⟨_, (hF2.out.own.cell hx).2⟩
  have y2 := hF2.out.own.fz (k * 2)
  have y3 := hF2.out.own.fz (k * 2 + 1)
  have c2' : w2.cell? ⟨mb, 2, none⟩ = some (.slice (some ⟨g, 0, none⟩) n c) := hF2.out.blk.cell 2
  have hkn' : Hid (k < n) := hkn
  clear h he hF hk e1 e2 e3 e4 e5 hh hB hO hb h0 hn hvn hv0 hvb
  go_enter Try.func16, Try.ntmps16
  go_wp2_with fail
  go_region_law (refine step_copy (by rfl) _ _ (by rfl) (.slice none 0 0) (.slice a len cap) (.slice va vn vc) (by rfl) (by rfl) hr.out ?_)
  all_goals
    have hFin : Hid (Dm ((w2.setCell ⟨g, k * 2, none⟩ (.bool true)).setCell ⟨g, k * 2 + 1, none⟩ (.slice va vn vc)) mb D (putA s z zs)) := (dmf_put hF2.out hs2.out hkk.out hkn'.out hO2.out).shut hnc hcm
    have hBel : Hid (∃ g0, D ≤ g0 ∧ (∃ cs, Blk w g0 cs 60) ∧ K2 g0 g0 w ((w2.setCell ⟨g, k * 2, none⟩ (.bool true)).setCell ⟨g, k * 2 + 1, none⟩ (.slice va vn vc))) := ⟨g, hD.out.2, hblk.out, (K2.of_below hB'.out).trans ((K2.set w2 _ _).trans (K2.set _ _ _))⟩
    clear hF2 hO2 hs2 hB'
    go_wp2_with fail
    go_ret
    exact ⟨rfl, hFin, hBel⟩
end Go.Proofs.Ytajidkgmifcoaaa
