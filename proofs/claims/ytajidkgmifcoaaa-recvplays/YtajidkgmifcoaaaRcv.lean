/-
  The document's Take.
-/
import Derived.Test.YtajidkgmifcoaaaRcu
namespace Go.Proofs.Ytajidkgmifcoaaa
open Go.RowKit
set_option linter.unusedVariables false
def RowC (w : World) (base : Nat) (v : Value) (L : List Cm) : Prop := ∃ cs, w.ownsRow base 60 2 v L.length cs ∧ Row cs L
theorem rowC_nil (w : World) (base : Nat) : RowC w base (.slice none 0 0) [] := ⟨[], World.ownsRow_nil w base 60 2, rfl, fun k p h => by simp at h⟩
theorem Row.app {c1 c2 : List Value} {L1 L2 : List Cm} (h1 : Row c1 L1) (h2 : Row c2 L2) : Row (c1 ++ c2) (L1 ++ L2) := by
  have e1 := h1.1
  refine ⟨by rw [List.length_append, List.length_append, h1.1, h2.1]; omega, fun k p hk => ?_⟩
  by_cases hlt : k < L1.length
  · rw [List.getElem?_append_left hlt] at hk
    have := h1.2 k p hk
    exact ⟨by rw [List.getElem?_append_left (by omega)]; exact this.1, by rw [List.getElem?_append_left (by omega)]; exact this.2⟩
  · rw [List.getElem?_append_right (by omega)] at hk
    have := h2.2 _ p hk
    exact ⟨by rw [List.getElem?_append_right (by omega), show k * 2 - c1.length = (k - L1.length) * 2 by omega]; exact this.1, by rw [List.getElem?_append_right (by omega), show k * 2 + 1 - c1.length = (k - L1.length) * 2 + 1 by omega]; exact this.2⟩
theorem Row.one {cs : List Value} {L : List Cm} (h : Row cs L) (hL : ∀ p ∈ L, p.2.1.oneCell' = true) : ∀ u ∈ cs, u.oneCell' = true := by
  intro u hu
  obtain ⟨j, hj⟩ := List.getElem?_of_mem hu
  have hlt : j < cs.length := (List.getElem?_eq_some_iff.1 hj).1
  have hl := h.1
  have hx : L[j / 2]? = some (L[j / 2]'(by omega)) := List.getElem?_eq_getElem _
  have e := h.2 _ _ hx
  by_cases h2 : j % 2 = 0
  · rw [show j / 2 * 2 = j by omega, hj] at e
    have := Option.some.inj e.1
    rw [this]
    rfl
  · rw [show j / 2 * 2 + 1 = j by omega, hj] at e
    have := Option.some.inj e.2
    rw [this]
    exact hL _ (List.getElem_mem _)
theorem wpl_came {w : World} {ops : Array Oper} {rest : List Oper} {o : Oper} {a : Act} {Q : Exit → Act → World → Prop} (hgd : o.guard = none) (s x : Operand)
    (ho : o.op = .call { callee := .builtin .append, args := #[s, x], argTypes := #[27, 27] })
    (base : Nat) (v : Value) (L1 L2 : List Cm) (news : List Value) (hs : a.eval s = v) (hown : RowC w base v L1) (hrow : Row news L2) (h1 : ∀ p ∈ L2, p.2.1.oneCell' = true)
    (ad : Addr) (m c : Nat) (hx : a.eval x = .slice (some ad) m c) (hm : L2.length = m) (hnews : ∀ j u, news[j]? = some u → w.cell? (ad.add j) = some u)
    (hlen : L1.length + L2.length ≤ 100000) (hbase : base ≤ w.heap.size)
    (h : ∀ v' w', RowC w' base v' (L1 ++ L2) → w.grownBy w' v.ownBlock → wpList Try.prog ops Q rest (a.put o.dst v') w') : wpList Try.prog ops Q (o :: rest) a w := by
  subst hm
  obtain ⟨i, hi, hz, hsz, hby⟩ := info_parts infoC
  obtain ⟨cs, hcs, hr⟩ := hown
  refine wpList_append_own_wide w hgd s x 27 ho base 60 i _ 2 32 Try.underlying27 hi hz hsz hby rfl (by decide) v L1.length cs hs hcs ad L2.length c news hx hrow.1 hnews (hrow.one h1) (by unfold maxLen; omega) (by omega) hbase ?_
  intro v' w' k1 k2 _
  exact h v' w' ⟨_, by rw [List.length_append]; exact k1, hr.app hrow⟩ k2
theorem RowC.kept {w w' : World} {base : Nat} {v : Value} {L : List Cm} (h : RowC w base v L) (hb : Below w.heap.size w w') : RowC w' base v L := by
  obtain ⟨cs, h1, h2⟩ := h
  exact ⟨cs, ownsRow_keep h1 (fun b cur _ k2 => hb.block b (Array.getElem?_eq_some_iff.1 k2).1), h2⟩
theorem RowC.own {w : World} {base : Nat} {v : Value} {L : List Cm} (h : RowC w base v L) : ∀ k, v.ownBlock = some k → base ≤ k := by
  intro k hk
  obtain ⟨cs, h1, h2⟩ := h
  rcases h1.2 with ⟨rfl, _⟩ | ⟨g, cap, cur, rfl, hg, _⟩
  · simp [Value.ownBlock] at hk
  · simp [Value.ownBlock] at hk
    omega
theorem RowC.form {w : World} {base : Nat} {v : Value} {L : List Cm} (h : RowC w base v L) (hL : 0 < L.length) : ∃ g n c, v = .slice (some ⟨g, 0, none⟩) n c ∧ Hid (n = L.length) ∧ n ≤ c ∧ c ≤ 9223372036854775807 := by
  obtain ⟨cs, h1, h2⟩ := h
  rcases h1.2 with ⟨_, h0⟩ | ⟨g, cap, cur, hv, hg, hc, hnc, hcm, _⟩
  · omega
  · exact ⟨g, L.length, cap, hv, rfl, hnc, by unfold maxLen at hcm; exact hcm⟩
theorem row_one : Row [.bool false, .slice none 0 0] [((false, .slice none 0 0, []) : Cm)] := by
  refine ⟨rfl, fun k p hk => ?_⟩
  have hk0 : k = 0 := by have := (List.getElem?_eq_some_iff.1 hk).1; simp at this; omega
  subst hk0
  cases hk
  exact ⟨rfl, rfl⟩
theorem one_new (w : World) : ∀ j u, ([.bool false, .slice none 0 0] : List Value)[j]? = some u → (w.alloc (.cells #[.bool false, .slice none 0 0] 60)).cell? ((⟨w.heap.size, 0, none⟩ : Addr).add j) = some u := by
  intro j u hu
  have e : (⟨w.heap.size, 0, none⟩ : Addr).add j = ⟨w.heap.size, j, none⟩ := by by_cases h0 : j = 0; (subst h0; rfl); simp [Addr.add, h0]
  rw [e, (blk_new w _ _).cell j]
  simpa using hu
theorem OwnsC.row {w : World} {b : Nat} {v : Value} {L : List Cm} (h : OwnsC w b v L) : RowC w b v L := h.1
theorem Row.tail {cs : List Value} {p : Cm} {L : List Cm} (h : Row cs (p :: L)) : Row (cs.drop 2) L := by
  have hl := h.1
  rw [List.length_cons] at hl
  refine ⟨by rw [List.length_drop]; omega, fun k q hk => ?_⟩
  have := h.2 (k + 1) q (by simpa using hk)
  exact ⟨by rw [List.getElem?_drop, show 2 + k * 2 = (k + 1) * 2 by omega]; exact this.1, by rw [List.getElem?_drop, show 2 + (k * 2 + 1) = (k + 1) * 2 + 1 by omega]; exact this.2⟩
theorem mtake_no {w : World} {mb D : Nat} {s : Rc} (h : Dm w mb D s) (hL : s.L (s.tk + 1) = none) :
    Calls Try.prog 13 #[.pointer (some ⟨mb, 0, none⟩)] w fun e w' => e = .returned (.tuple #[.slice none 0 0, .bool false]) ∧ w' = w := by
  obtain ⟨g, n, c, L, hF, hnc, hcm⟩ := h.open_
  have c2 := hF.blk.cell 2
  simp only [List.getElem?_toArray, List.getElem?_cons_succ, List.getElem?_cons_zero] at c2
  have hn0 : 0 < n := by have := hF.ok.w1; have := hF.nw; omega
  have hc := hF.is hn0
  have hh : has s 0 = false := by unfold has; rw [Int.natCast_zero, Int.add_zero, hL]; rfl
  rw [hh] at hc
  have d0 : decide ((0 : Int) < (n : Int)) = true := by simp; omega
  clear h hF hh hL
  go_enter Try.func13, Try.ntmps13
  go_wp2_with fail
  go_ret2
  exact ⟨rfl, rfl⟩
theorem dmf_take {w w' : World} {mb D g n c g' n' c' : Nat} {p : Cm} {L : List Cm} {s : Rc} (h : DmF w mb D g n c (p :: L) s) (hs : Rok (takeA s)) (hb : Blk w' mb #[.int .i64 s.win, .int .i64 (s.tk + 1), .slice (some ⟨g', 0, none⟩) n' c'] 29)
    (ho : OwnsC w' D (.slice (some ⟨g', 0, none⟩) n' c') (L ++ [(false, .slice none 0 0, [])])) : DmF w' mb D g' n' c' (L ++ [(false, .slice none 0 0, [])]) (takeA s) := by
  have hn : n' = n := by have := ho.len; have := h.len; simp at *; omega
  have hl : L.length + 1 = n := by have := h.len; simpa using this
  refine ⟨h.hm, hs, hb, ho, by rw [hn]; exact h.nw, by rw [hn]; simp; omega, fun k q hk => ?_⟩
  have hhas : has (takeA s) k = has s (k + 1) := by
    show (if s.tk + 1 + 1 + (k : Int) = s.tk + 1 then none else s.L (s.tk + 1 + 1 + (k : Int))).isSome = (s.L (s.tk + 1 + ((k + 1 : Nat) : Int))).isSome
    rw [if_neg (by omega), show s.tk + 1 + ((k + 1 : Nat) : Int) = s.tk + 1 + 1 + (k : Int) by omega]
  rw [hhas]
  by_cases hlt : k < L.length
  · rw [List.getElem?_append_left hlt] at hk
    have := h.rel (k + 1) q (by simpa using hk)
    refine ⟨this.1, fun hq => ?_⟩
    have e := this.2 hq
    show (if s.tk + 1 + 1 + (k : Int) = s.tk + 1 then none else s.L (s.tk + 1 + 1 + (k : Int))) = _
    rw [if_neg (by omega), ← e]
    congr 1
    omega
  · rw [List.getElem?_append_right (by omega)] at hk
    have hk0 : k - L.length = 0 := by have := (List.getElem?_eq_some_iff.1 hk).1; simp at this; omega
    rw [hk0] at hk
    cases hk
    refine ⟨?_, fun h => by cases h⟩
    rw [has_of h.ok (by have := h.nw; omega)]
set_option maxHeartbeats 1000000 in
theorem mtake_yes {w : World} {mb D : Nat} {s : Rc} (l : List Int) (h : Dm w mb D s) (ht : s.tk < 4611686018427387904) (hL : s.L (s.tk + 1) = some l) :
    Calls Try.prog 13 #[.pointer (some ⟨mb, 0, none⟩)] w fun e w' => ∃ a n c, e = .returned (.tuple #[.slice a n c, .bool true]) ∧ Hid (Bytes w' a l) ∧ Hid (l.length = n) ∧ n ≤ c ∧ c ≤ 9223372036854775807 ∧ Hid (Dm w' mb D (takeA s)) ∧ Hid (K2 mb mb w w') := by
  obtain ⟨g, n, c, LL, hF, hnc, hcm⟩ := h.open_
  have hn0 : 0 < n := by have := hF.ok.w1; have := hF.nw; omega
  obtain ⟨p, L, rfl⟩ : ∃ p L, LL = p :: L := by
    cases LL with
    | nil => have := hF.len; simp at this; omega
    | cons p L => exact ⟨p, L, rfl⟩
  have c1 := hF.blk.cell 1
  have c2 := hF.blk.cell 2
  simp only [List.getElem?_toArray, List.getElem?_cons_succ, List.getElem?_cons_zero] at c1 c2
  have hp := hF.own.cell (k := 0) (p := p) rfl
  have hrel := hF.rel 0 p rfl
  have hh : has s 0 = true := by unfold has; rw [Int.natCast_zero, Int.add_zero, hL]; rfl
  rw [hh] at hrel
  obtain ⟨is, pv, pz⟩ := p
  obtain ⟨rfl, hpz⟩ := hrel
  have hpz2 := hpz rfl
  rw [Int.natCast_zero, Int.add_zero, hL] at hpz2
  obtain rfl : l = pz := Option.some.inj hpz2
  clear hpz2
  have hO0 : OwnsB w D pv l := hF.own.2 _ (List.mem_cons_self)
  obtain ⟨pa, pc, rfl, hpn, ⟨hple, hpmx⟩, hpb, _⟩ := hO0.shape
  have y0 := hp.1
  have y1 := hp.2
  simp only [Nat.zero_mul, Nat.zero_add] at y0 y1
  have d0 : decide ((0 : Int) < (n : Int)) = true := by simp; omega
  have hw1 : IntKind.i64.wrap (s.tk + 1) = s.tk + 1 := by have := hF.ok.t1; rw [IntKind.wrap_i64]; omega
  have hpmx' : pc ≤ 9223372036854775807 := by unfold maxLen at hpmx; exact hpmx
  have hF' : Hid (DmF w mb D g n c ((true, .slice pa l.length pc, l) :: L) s) := hF
  have hs' : Hid (Rok (takeA s)) := take_ok hF.ok ht
  have hO0' : Hid (OwnsB w D (.slice pa l.length pc) l) := hO0
  have hll : Hid (L.length + 1 = n) := by have := hF.len; rw [List.length_cons] at this; exact this
  generalize hln : l.length = ln at *
  have hln' : Hid (l.length = ln) := hln
  clear h hF hp hh hL hpz hO0 hpn hpb hpmx hln
  by_cases hc1 : c = 1
  · subst hc1
    obtain rfl : n = 1 := by omega
    have hL0 : L = [] := List.eq_nil_of_length_eq_zero (by have := hll.out; omega)
    obtain ⟨cs, hcs, hcr⟩ := hF'.out.own.row
    have hcs' : Hid (w.ownsRow D 60 2 (.slice (some ⟨g, 0, none⟩) 1 1) ((true, Value.slice pa ln pc, l) :: L).length cs) := hcs
    have hcr' : Hid (Row (cs.drop 2) L) := hcr.tail
    have hone : Hid (∀ p ∈ L, p.2.1.oneCell' = true) := fun p hp => by
      obtain ⟨a', c', e, _⟩ := (hF'.out.own.2 p (List.mem_cons_of_mem _ hp)).shape
      rw [e]
      rfl
    have hnews : Hid (∀ j u, (cs.drop 2)[j]? = some u → w.cell? ((⟨g, 0, none⟩ : Addr).add j) = some u) := by
      intro j u hu
      have hx := hcr'.out.1
      rw [hL0] at hx
      have := List.length_eq_zero_iff.1 hx
      rw [this] at hu
      simp at hu
    have hl32 : Hid (L.length ≤ 32) := by have := hll.out; have := hF'.out.nw; have := hF'.out.ok.w2; show _ ≤ _; omega
    have hblk : Hid (Blk w mb #[.int .i64 s.win, .int .i64 s.tk, .slice (some ⟨g, 0, none⟩) 1 1] 29) := hF'.out.blk
    clear hcs hcr
    go_enter Try.func13, Try.ntmps13
    go_wp2_with (first
      | (at_builtin; refine wpl_came rfl (.const (.slice none 0 0)) (.tmp 25) rfl w.heap.size (.slice none 0 0) [] L (cs.drop 2) rfl (rowC_nil _ _) hcr'.out hone.out ⟨g, 0, none⟩ 0 0 rfl (by rw [hL0]; rfl) hnews.out (by have := hl32.out; simp; omega) (Nat.le_refl _) ?_; intro v1 w1 hv1 hg1; have hB1 : Hid (Below w.heap.size w w1) := (Below.refl _ _).grown hg1 (Nat.le_refl _) (fun k hk => by simp [Value.ownBlock] at hk); have hv1' : Hid (RowC w1 w.heap.size v1 L) := (by have := hv1; rw [List.nil_append] at this; exact this); clear hv1 hg1)
      | (at_builtin; refine wpl_came rfl (.tmp 26) (.tmp 28) rfl w.heap.size v1 L [(false, .slice none 0 0, [])] [.bool false, .slice none 0 0] rfl (hv1'.out.kept ((Below.refl _ _).alloc (Nat.le_refl _) _)) row_one (by intro p hp; simp at hp; subst hp; rfl) ⟨w1.heap.size, 0, none⟩ 1 1 rfl rfl (one_new w1) (by have := hl32.out; simp; omega) (by have := hB1.out.size; simp; omega) ?_; intro v3 w3 hv3 hg3; have hB3 : Hid (Below w.heap.size w w3) := (hB1.out.alloc hB1.out.size _).grown hg3 (by have := hB1.out.size; simp; omega) (hv1'.out.own); have hv3' : Hid (RowC w3 w.heap.size v3 (L ++ [(false, .slice none 0 0, [])])) := hv3; obtain ⟨g3, n3, c3, rfl, hn3, hnc3, hcm3⟩ := hv3'.out.form (by simp); have z0 := (hblk.out.kept hB3.out).cell 1; have z1 := (hblk.out.kept hB3.out).cell 2; have z2 := (hblk.out.kept hB3.out).fz 1; have z3 := (hblk.out.kept hB3.out).fz 2; clear hv3 hg3))
    have hlow : D ≤ w.heap.size := hF'.out.low
    have hb4 : Below w.heap.size w w3 := hB3.out
    have hb5 : K2 mb mb w ((w3.setCell ⟨mb, 2, none⟩ (.slice (some ⟨g3, 0, none⟩) n3 c3)).setCell ⟨mb, 1, none⟩ (.int .i64 (s.tk + 1))) := (K2.of_below hB3.out).trans ((K2.set w3 _ _).trans (K2.set _ _ _))
    have hoff : ∀ (b : Nat) (cur : Array Value) (e : TypeId), w3.heap[b]? = some (Obj.cells cur e (0, 0)) → e = 60 ∨ e = 5 → ((w3.setCell ⟨mb, 2, none⟩ (.slice (some ⟨g3, 0, none⟩) n3 c3)).setCell ⟨mb, 1, none⟩ (.int .i64 (s.tk + 1))).heap[b]? = w3.heap[b]? := fun b cur e h1 h2 => by
      have hne : b ≠ mb := fun q => by
        subst q
        have := hblk.out.kept hB3.out
        unfold Blk at this
        rw [this] at h1
        cases h1
        rcases h2 with h2 | h2 <;> cases h2
      rw [Below.heap_setCell _ _ _ _ (by simpa using hne), Below.heap_setCell _ _ _ _ (by simpa using hne)]
    have hown : OwnsC ((w3.setCell ⟨mb, 2, none⟩ (.slice (some ⟨g3, 0, none⟩) n3 c3)).setCell ⟨mb, 1, none⟩ (.int .i64 (s.tk + 1))) D (.slice (some ⟨g3, 0, none⟩) n3 c3) (L ++ [(false, .slice none 0 0, [])]) := by
      refine OwnsC.keep (w := w3) ⟨?_, fun p hp => ?_⟩ (fun b cur e _ h1 h2 => hoff b cur e h1 h2)
      · obtain ⟨cs3, k1, k2⟩ := hv3'.out
        exact ⟨cs3, ownsRow_low k1 hlow, k2⟩
      · rcases List.mem_append.1 hp with hp | hp
        · exact (hF'.out.own.2 p (List.mem_cons_of_mem _ hp)).below hb4
        · simp at hp
          subst hp
          exact ownsB_nil _ _
    have hbk : Blk ((w3.setCell ⟨mb, 2, none⟩ (.slice (some ⟨g3, 0, none⟩) n3 c3)).setCell ⟨mb, 1, none⟩ (.int .i64 (s.tk + 1))) mb #[.int .i64 s.win, .int .i64 (s.tk + 1), .slice (some ⟨g3, 0, none⟩) n3 c3] 29 := ((hblk.out.kept hb4).set 2 _).set 1 _
    have hfin : Hid (Dm ((w3.setCell ⟨mb, 2, none⟩ (.slice (some ⟨g3, 0, none⟩) n3 c3)).setCell ⟨mb, 1, none⟩ (.int .i64 (s.tk + 1))) mb D (takeA s)) := (dmf_take hF'.out hs'.out hbk hown).shut hnc3 hcm3
    have hbys : Hid (Bytes ((w3.setCell ⟨mb, 2, none⟩ (.slice (some ⟨g3, 0, none⟩) n3 c3)).setCell ⟨mb, 1, none⟩ (.int .i64 (s.tk + 1))) pa l) := by
      have h1 : OwnsB ((w3.setCell ⟨mb, 2, none⟩ (.slice (some ⟨g3, 0, none⟩) n3 c3)).setCell ⟨mb, 1, none⟩ (.int .i64 (s.tk + 1))) D (.slice pa ln pc) l := by
        have h2 := hO0'.out.below hb4
        exact ⟨ownsRow_keep h2.1 (fun b cur _ h1 => hoff b cur 5 h1 (.inr rfl)), h2.2⟩
      obtain ⟨a', c', e, _, _, k, _⟩ := h1.shape
      cases e
      exact k
    have hb5' : Hid (K2 mb mb w ((w3.setCell ⟨mb, 2, none⟩ (.slice (some ⟨g3, 0, none⟩) n3 c3)).setCell ⟨mb, 1, none⟩ (.int .i64 (s.tk + 1)))) := hb5
    clear hb5 hoff hown hbk hb4 hlow
    go_wp2_with fail
    go_ret2
    exact ⟨_, _, _, rfl, hbys, rfl, hple, hpmx', hfin, hb5'⟩
  · have f1 : (c = 1) = False := by simp [hc1]
    clear hc1
    obtain ⟨cs, hcs, hcr⟩ := hF'.out.own.row
    have hcs' : Hid (w.ownsRow D 60 2 (.slice (some ⟨g, 0, none⟩) n c) ((true, Value.slice pa ln pc, l) :: L).length cs) := hcs
    have hcr' : Hid (Row (cs.drop 2) L) := hcr.tail
    have hone : Hid (∀ p ∈ L, p.2.1.oneCell' = true) := fun p hp => by
      obtain ⟨a', c', e, _⟩ := (hF'.out.own.2 p (List.mem_cons_of_mem _ hp)).shape
      rw [e]
      rfl
    have hnews : Hid (∀ j u, (cs.drop 2)[j]? = some u → w.cell? ((⟨g, 2, none⟩ : Addr).add j) = some u) := by
      intro j u hu
      rw [List.getElem?_drop] at hu
      have hx : ((true, Value.slice pa ln pc, l) :: L).length = n := hF'.out.len
      rw [hx] at hcs
      have hj : 2 + j < cs.length := (List.getElem?_eq_some_iff.1 hu).1
      have hcl := hcs.1
      have e : (⟨g, 2, none⟩ : Addr).add j = ⟨g, 2 + j, none⟩ := by by_cases h0 : j = 0; (subst h0; rfl); simp [Addr.add, h0]
      rw [e, hcs.cellAt (2 + j) (by omega)]
      exact hu
    have hl32 : Hid (L.length ≤ 32) := by have := hll.out; have := hF'.out.nw; have := hF'.out.ok.w2; show _ ≤ _; omega
    have hblk : Hid (Blk w mb #[.int .i64 s.win, .int .i64 s.tk, .slice (some ⟨g, 0, none⟩) n c] 29) := hF'.out.blk
    clear hcs hcr
    go_enter Try.func13, Try.ntmps13
    go_wp2_with (first
      | (at_builtin; refine wpl_came rfl (.const (.slice none 0 0)) (.tmp 25) rfl w.heap.size (.slice none 0 0) [] L (cs.drop 2) rfl (rowC_nil _ _) hcr'.out hone.out ⟨g, 2, none⟩ (n - 1) (c - 1) rfl (by have := hll.out; omega) hnews.out (by have := hl32.out; simp; omega) (Nat.le_refl _) ?_; intro v1 w1 hv1 hg1; have hB1 : Hid (Below w.heap.size w w1) := (Below.refl _ _).grown hg1 (Nat.le_refl _) (fun k hk => by simp [Value.ownBlock] at hk); have hv1' : Hid (RowC w1 w.heap.size v1 L) := (by have := hv1; rw [List.nil_append] at this; exact this); clear hv1 hg1)
      | (at_builtin; refine wpl_came rfl (.tmp 26) (.tmp 28) rfl w.heap.size v1 L [(false, .slice none 0 0, [])] [.bool false, .slice none 0 0] rfl (hv1'.out.kept ((Below.refl _ _).alloc (Nat.le_refl _) _)) row_one (by intro p hp; simp at hp; subst hp; rfl) ⟨w1.heap.size, 0, none⟩ 1 1 rfl rfl (one_new w1) (by have := hl32.out; simp; omega) (by have := hB1.out.size; simp; omega) ?_; intro v3 w3 hv3 hg3; have hB3 : Hid (Below w.heap.size w w3) := (hB1.out.alloc hB1.out.size _).grown hg3 (by have := hB1.out.size; simp; omega) (hv1'.out.own); have hv3' : Hid (RowC w3 w.heap.size v3 (L ++ [(false, .slice none 0 0, [])])) := hv3; obtain ⟨g3, n3, c3, rfl, hn3, hnc3, hcm3⟩ := hv3'.out.form (by simp); have z0 := (hblk.out.kept hB3.out).cell 1; have z1 := (hblk.out.kept hB3.out).cell 2; have z2 := (hblk.out.kept hB3.out).fz 1; have z3 := (hblk.out.kept hB3.out).fz 2; clear hv3 hg3))
    have hlow : D ≤ w.heap.size := hF'.out.low
    have hb4 : Below w.heap.size w w3 := hB3.out
    have hb5 : K2 mb mb w ((w3.setCell ⟨mb, 2, none⟩ (.slice (some ⟨g3, 0, none⟩) n3 c3)).setCell ⟨mb, 1, none⟩ (.int .i64 (s.tk + 1))) := (K2.of_below hB3.out).trans ((K2.set w3 _ _).trans (K2.set _ _ _))
    have hoff : ∀ (b : Nat) (cur : Array Value) (e : TypeId), w3.heap[b]? = some (Obj.cells cur e (0, 0)) → e = 60 ∨ e = 5 → ((w3.setCell ⟨mb, 2, none⟩ (.slice (some ⟨g3, 0, none⟩) n3 c3)).setCell ⟨mb, 1, none⟩ (.int .i64 (s.tk + 1))).heap[b]? = w3.heap[b]? := fun b cur e h1 h2 => by
      have hne : b ≠ mb := fun q => by
        subst q
        have := hblk.out.kept hB3.out
        unfold Blk at this
        rw [this] at h1
        cases h1
        rcases h2 with h2 | h2 <;> cases h2
      rw [Below.heap_setCell _ _ _ _ (by simpa using hne), Below.heap_setCell _ _ _ _ (by simpa using hne)]
    have hown : OwnsC ((w3.setCell ⟨mb, 2, none⟩ (.slice (some ⟨g3, 0, none⟩) n3 c3)).setCell ⟨mb, 1, none⟩ (.int .i64 (s.tk + 1))) D (.slice (some ⟨g3, 0, none⟩) n3 c3) (L ++ [(false, .slice none 0 0, [])]) := by
      refine OwnsC.keep (w := w3) ⟨?_, fun p hp => ?_⟩ (fun b cur e _ h1 h2 => hoff b cur e h1 h2)
      · obtain ⟨cs3, k1, k2⟩ := hv3'.out
        exact ⟨cs3, ownsRow_low k1 hlow, k2⟩
      · rcases List.mem_append.1 hp with hp | hp
        · exact (hF'.out.own.2 p (List.mem_cons_of_mem _ hp)).below hb4
        · simp at hp
          subst hp
          exact ownsB_nil _ _
    have hbk : Blk ((w3.setCell ⟨mb, 2, none⟩ (.slice (some ⟨g3, 0, none⟩) n3 c3)).setCell ⟨mb, 1, none⟩ (.int .i64 (s.tk + 1))) mb #[.int .i64 s.win, .int .i64 (s.tk + 1), .slice (some ⟨g3, 0, none⟩) n3 c3] 29 := ((hblk.out.kept hb4).set 2 _).set 1 _
    have hfin : Hid (Dm ((w3.setCell ⟨mb, 2, none⟩ (.slice (some ⟨g3, 0, none⟩) n3 c3)).setCell ⟨mb, 1, none⟩ (.int .i64 (s.tk + 1))) mb D (takeA s)) := (dmf_take hF'.out hs'.out hbk hown).shut hnc3 hcm3
    have hbys : Hid (Bytes ((w3.setCell ⟨mb, 2, none⟩ (.slice (some ⟨g3, 0, none⟩) n3 c3)).setCell ⟨mb, 1, none⟩ (.int .i64 (s.tk + 1))) pa l) := by
      have h1 : OwnsB ((w3.setCell ⟨mb, 2, none⟩ (.slice (some ⟨g3, 0, none⟩) n3 c3)).setCell ⟨mb, 1, none⟩ (.int .i64 (s.tk + 1))) D (.slice pa ln pc) l := by
        have h2 := hO0'.out.below hb4
        exact ⟨ownsRow_keep h2.1 (fun b cur _ h1 => hoff b cur 5 h1 (.inr rfl)), h2.2⟩
      obtain ⟨a', c', e, _, _, k, _⟩ := h1.shape
      cases e
      exact k
    have hb5' : Hid (K2 mb mb w ((w3.setCell ⟨mb, 2, none⟩ (.slice (some ⟨g3, 0, none⟩) n3 c3)).setCell ⟨mb, 1, none⟩ (.int .i64 (s.tk + 1)))) := hb5
    clear hb5 hoff hown hbk hb4 hlow
    go_wp2_with fail
    go_ret2
    exact ⟨_, _, _, rfl, hbys, rfl, hple, hpmx', hfin, hb5'⟩
end Go.Proofs.Ytajidkgmifcoaaa
