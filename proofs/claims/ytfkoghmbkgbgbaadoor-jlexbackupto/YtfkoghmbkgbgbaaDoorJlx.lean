/-
  A text's tokens: jlex.Lex.
-/
import Derived.Test.YtfkoghmbkgbgbaaDoorJto
import Derived.Test.YtfkoghmbkgbgbaaDoorSame
import Derived.Deep.DeepAppendWide
namespace Go.Proofs.YtfkoghmbkgbgbaaDoor
open Go.RowKit
set_option linter.unusedVariables false

/-! ### Tokens that a call has made -/
def tkC (t : Tk) : List Value := [.int .i64 (t.kind : Nat), .int .i64 (t.frm : Nat), .int .i64 (t.to : Nat), .string (strOfNums t.txt)]
def tkCs (L : List Tk) : List Value := (L.map tkC).flatten
theorem tkCs_snoc (L : List Tk) (t : Tk) : tkCs (L ++ [t]) = tkCs L ++ tkC t := by simp [tkCs]
theorem tkCs_len (L : List Tk) : (tkCs L).length = L.length * 4 := by
  induction L with
  | nil => rfl
  | cons t L ih =>
    have : tkCs (t :: L) = tkC t ++ tkCs L := rfl
    rw [this, List.length_append, ih, List.length_cons]
    simp [tkC]; omega
/-- The slice v holds these tokens, in new memory. -/
def OwnsT (w : World) (base : Nat) (v : Value) (L : List Tk) : Prop := w.ownsRow base 41 4 v L.length (tkCs L)
theorem ownsT_nil (w : World) (base : Nat) : OwnsT w base (.slice none 0 0) [] := World.ownsRow_nil w base 41 4
theorem info41 : (Tryd.prog.info? 41).map (fun i => (i.zero, i.size, i.bytes)) = some (some (.agg #[.int .i64 0, .int .i64 0, .int .i64 0, .string ⟨#[]⟩]), 4, 40) := by kernel_rfl
theorem OwnsT.kept {w w' : World} {base : Nat} {v : Value} {L : List Tk} (h : OwnsT w base v L) (hb : Below w.heap.size w w') : OwnsT w' base v L := by
  obtain ⟨h1, h2⟩ := h
  refine ⟨h1, ?_⟩
  rcases h2 with h2 | ⟨g, cap, cur, hv, hg, hc, r⟩
  · exact .inl h2
  · exact .inr ⟨g, cap, cur, hv, hg, by rw [hb.block g (Array.getElem?_eq_some_iff.1 hc).1]; exact hc, r⟩
theorem OwnsT.form {w : World} {base : Nat} {v : Value} {L : List Tk} (h : OwnsT w base v L) : ∃ a n cap, v = .slice a n cap ∧ Hid (L.length = n) ∧ n ≤ cap ∧ cap ≤ 9223372036854775807 := by
  rcases h.2 with ⟨hv, hn⟩ | ⟨g, cap, cur, hv, hg, hc, hnc, hcm, r⟩
  · exact ⟨none, 0, 0, hv, hn, by omega, by omega⟩
  · exact ⟨some ⟨g, 0, none⟩, L.length, cap, hv, rfl, hnc, by unfold maxLen at hcm; omega⟩
theorem addr_add0 (g j : Nat) : (⟨g, 0, none⟩ : Addr).add j = ⟨g, j, none⟩ := by simp [Addr.add]; exact fun h => h.symm
theorem OwnsT.move {w w' : World} {base : Nat} {v : Value} {L : List Tk} (h : OwnsT w base v L) (hh : ∀ j, base ≤ j → j < w.heap.size → w'.heap[j]? = w.heap[j]?) : OwnsT w' base v L := by
  obtain ⟨h1, h2⟩ := h
  refine ⟨h1, ?_⟩
  rcases h2 with h2 | ⟨g, cap, cur, hv, hg, hc, r⟩
  · exact .inl h2
  · exact .inr ⟨g, cap, cur, hv, hg, by rw [hh g hg (Array.getElem?_eq_some_iff.1 hc).1]; exact hc, r⟩
/-- What an append to tokens leaves. -/
theorem OwnsT.out {w w3 w4 : World} {base : Nat} {v : Value} {L : List Tk} (h : OwnsT w base v L) (hg : w3.grownBy w4 v.ownBlock) {j : Nat} (hj : j < w3.heap.size) (ho : j < base ∨ w.heap.size ≤ j) : w4.heap[j]? = w3.heap[j]? := by
  refine hg.block j hj ?_
  rcases h.2 with ⟨rfl, _⟩ | ⟨g, cap, cur, rfl, hg', hc, _⟩
  · simp [Value.ownBlock]
  · have := (Array.getElem?_eq_some_iff.1 hc).1
    intro e
    simp [Value.ownBlock] at e
    omega
/-- 'append(v, t)'. -/
theorem wpList_append_tok {w : World} {ops : Array Oper} {rest : List Oper} {o : Oper} {a : Act} {Q : Exit → Act → World → Prop} (hgd : o.guard = none) (s x : Operand)
    (ho : o.op = .call { callee := .builtin .append, args := #[s, x], argTypes := #[23, 23] })
    (base : Nat) (v : Value) (L : List Tk) (t : Tk) (hs : a.eval s = v) (hown : OwnsT w base v L)
    (g : Nat) (hx : a.eval x = .slice (some ⟨g, 0, none⟩) 1 1) (hb : ∀ j, j < 4 → w.cell? ⟨g, j, none⟩ = (tkC t)[j]?)
    (hlen : L.length ≤ 100000) (hbase : base ≤ w.heap.size)
    (h : ∀ v' w', OwnsT w' base v' (L ++ [t]) → w.grownBy w' v.ownBlock → wpList Tryd.prog ops Q rest (a.put o.dst v') w') : wpList Tryd.prog ops Q (o :: rest) a w := by
  obtain ⟨i, hi, hz, hsz, hby⟩ := info_parts info41
  refine wpList_append_own_wide w hgd s x 23 ho base 41 i _ 4 40 Tryd.underlying23 hi hz hsz hby rfl (by decide) v L.length _ hs hown ⟨g, 0, none⟩ 1 1 (tkC t) hx rfl ?_ ?_ (by unfold maxLen; omega) (by omega) hbase ?_
  · intro j u hu
    have hj : j < 4 := (List.getElem?_eq_some_iff.1 hu).1
    rw [addr_add0, hb j hj]; exact hu
  · intro u hu
    simp [tkC] at hu
    rcases hu with rfl | rfl | rfl | rfl <;> rfl
  · intro v' w' h1 h2 _
    refine h v' w' ?_ h2
    unfold OwnsT
    rw [List.length_append, tkCs_snoc]
    exact h1
/-- The worlds of an appended token. -/
theorem tok_append {w2 w4 : World} {B : Nat} {v : Value} {L : List Tk} {C D : Array Value} (O2 : OwnsT w2 (B + 1) v L) (S2 : B + 1 ≤ w2.heap.size)
    (hg : (((w2.alloc (.cells C 41)).alloc (.cells D 26)).alloc (.cells C 41)).grownBy w4 v.ownBlock) :
    Blk w4 w2.heap.size C 41 ∧ (∀ cs T, Blk w2 B cs T → Blk w4 B cs T) ∧ (∀ w, Below B w w2 → Below B w w4) ∧ B + 1 ≤ w4.heap.size := by
  have b1 := alloc_below w2 (.cells C 41)
  have b2 := alloc_below (w2.alloc (.cells C 41)) (.cells D 26)
  have b3 := alloc_below ((w2.alloc (.cells C 41)).alloc (.cells D 26)) (.cells C 41)
  have z1 : (w2.alloc (.cells C 41)).heap.size = w2.heap.size + 1 := by simp
  have z2 : ((w2.alloc (.cells C 41)).alloc (.cells D 26)).heap.size = w2.heap.size + 1 + 1 := by simp
  have z3 : (((w2.alloc (.cells C 41)).alloc (.cells D 26)).alloc (.cells C 41)).heap.size = w2.heap.size + 1 + 1 + 1 := by simp
  have old : ∀ j, j < B + 1 → w4.heap[j]? = w2.heap[j]? := fun j hj => by
    rw [O2.out hg (by omega) (.inl hj), b3.block j (by omega), b2.block j (by omega), b1.block j (by omega)]
  refine ⟨?_, fun cs T h => ?_, fun w h => ⟨hg.os.trans h.os, hg.tape.trans h.tape, hg.output.trans h.output, ?_, fun k hk => ?_⟩, ?_⟩
  · show w4.heap[w2.heap.size]? = _
    rw [O2.out hg (by omega) (.inr (Nat.le_refl _)), b3.block _ (by omega), b2.block _ (by omega)]
    exact blk_new w2 _ _
  · exact (old B (by omega)).trans h
  · have := hg.size; have := h.size; omega
  · exact (old k (by omega)).trans (h.block k hk)
  · have := hg.size; omega
theorem tok_cells (w2 : World) (C D : Array Value) (j : Nat) : (((w2.alloc (.cells C 41)).alloc (.cells D 26)).alloc (.cells C 41)).cell? ⟨w2.heap.size + 1 + 1, j, none⟩ = C[j]? := by
  have h : Blk (((w2.alloc (.cells C 41)).alloc (.cells D 26)).alloc (.cells C 41)) ((w2.alloc (.cells C 41)).alloc (.cells D 26)).heap.size C 41 := blk_new _ _ _
  have z2 : ((w2.alloc (.cells C 41)).alloc (.cells D 26)).heap.size = w2.heap.size + 1 + 1 := by simp
  rw [z2] at h
  exact h.cell j
theorem OwnsT.thrice {w2 : World} {B : Nat} {v : Value} {L : List Tk} {C D : Array Value} (h : OwnsT w2 B v L) : OwnsT (((w2.alloc (.cells C 41)).alloc (.cells D 26)).alloc (.cells C 41)) B v L := ((h.kept (alloc_below _ _)).kept (alloc_below _ _)).kept (alloc_below _ _)
/-- What Lex answers. -/
theorem lex_next {zs : List Int} {p k : Nat} (hk : k = p + gapN (zs.drop p)) (hlt : k < zs.length) : (zs.drop p).drop (gapN (zs.drop p)) = zs.drop k ∧ zs.drop k ≠ [] := by
  refine ⟨by rw [List.drop_drop, hk], ?_⟩
  intro h
  have := congrArg List.length h
  rw [List.length_drop, List.length_nil] at this
  omega
set_option maxHeartbeats 8000000 in
set_option maxRecDepth 100000 in
/-- jlex.Lex. -/
theorem lex_any (a : Option Addr) (n cap : Nat) (zs : List Int) (w : World) (hl : zs.length = n) (hb : Bytes w a zs) (hc : n ≤ cap) (hn : n ≤ 4096) :
    Calls Tryd.prog 9 #[.slice a n cap] w fun e w' => ∃ v, e = .returned (.tuple #[v, .agg #[.int .i64 ((lexA zs 0).2.1 : Nat), .int .i64 ((lexA zs 0).2.2 : Nat)]]) ∧ OwnsT w' (w.heap.size + 1) v (lexA zs 0).1 ∧ Below w.heap.size w w' := by
  have hA := alloc_below w (.cells #[.int .i64 0, .int .i64 0] 26)
  have K0 : Hid (Blk (w.alloc (.cells #[.int .i64 0, .int .i64 0] 26)) w.heap.size #[.int .i64 0, .int .i64 0] 26) := blk_new w _ _
  have B0 : Hid (Below w.heap.size w (w.alloc (.cells #[.int .i64 0, .int .i64 0] 26))) := hA
  have hcv := conv_str (hb.kept hA) n cap hl
  have hz := hb.1
  obtain ⟨s, hs⟩ : ∃ s, strOfNums zs = s := ⟨_, rfl⟩
  rw [hs] at hcv
  have hbs : Hid (bs s = zs) := by show _ = _; rw [← hs, bs_str hz]
  have hss : s.size = n := by rw [← bs_len, hbs.out, hl]
  obtain ⟨⟨LR, YR, AR⟩, hR⟩ : ∃ R, lexA zs 0 = R := ⟨_, rfl⟩
  rw [hR]
  have hR' : Hid (([] : List Tk) ++ (lexA (zs.drop 0) 0).1 = LR ∧ (lexA (zs.drop 0) 0).2 = (YR, AR)) := by
    rw [List.drop_zero, hR]; exact ⟨rfl, rfl⟩
  have kG := fun (p : Nat) (hp : p ≤ s.size) (w' : World) => gaps_any s p w' hp (by omega)
  rw [hbs.out] at kG
  have kG0 : ∀ w', Calls Tryd.prog 19 #[.string s, .int .i64 0] w' fun e w'' => e = .returned (.int .i64 ((0 + gapN (zs.drop 0) : Nat) : Int)) ∧ w'' = w' := fun w' => kG 0 (Nat.zero_le _) w'
  have hg0 : 0 + gapN (zs.drop 0) ≤ s.size := by have := gap_le (zs.drop 0); rw [List.length_drop] at this; omega
  obtain ⟨k0, hk0⟩ : ∃ k0, 0 + gapN (zs.drop 0) = k0 := ⟨_, rfl⟩
  rw [hk0] at kG0 hg0
  have hk0' : Hid (k0 = 0 + gapN (zs.drop 0)) := hk0.symm
  have hlz : Hid (zs.length = s.size) := by show _ = _; omega
  have a1 : decide ((4096 : Int) < (n : Int)) = false := by simp; omega
  have S1 : (w.alloc (.cells #[.int .i64 0, .int .i64 0] 26)).heap.size = w.heap.size + 1 := by simp
  have S1' : Hid (w.heap.size + 1 ≤ (w.alloc (.cells #[.int .i64 0, .int .i64 0] 26)).heap.size) := by show _ ≤ _; omega
  have hs96 : s.size ≤ 4096 := by omega
  clear hs hl hb hA hR hk0 hss hn hz S1
  go_enter Tryd.func9, Tryd.ntmps9
  go_wp2_with (go_at_call 19; refine (kG0 _).mono ?_; rintro e w1 ⟨rfl, hw1⟩; subst hw1; clear kG0)
  go_loopw [5, 6] (fun v u wr => ∃ (k p : Nat) (L : List Tk), k ≤ s.size ∧ u = .int .i64 k ∧ Hid (k = p + gapN (zs.drop p)) ∧ Hid (L.length ≤ k) ∧ Hid (OwnsT wr (w.heap.size + 1) v L) ∧ Hid (Blk wr w.heap.size #[.int .i64 0, .int .i64 0] 26) ∧ Hid (Below w.heap.size w wr) ∧ Hid (w.heap.size + 1 ≤ wr.heap.size) ∧ Hid (L ++ (lexA (zs.drop p) p).1 = LR ∧ (lexA (zs.drop p) p).2 = (YR, AR))) (fun _ u _ => s.size - (intOf u).toNat)
  case atStart => exact ⟨k0, 0, [], hg0, rfl, hk0', Nat.zero_le _, ownsT_nil _ _, K0, B0, S1', hR'⟩
  case round =>
    clear hR' hk0' hg0
    obtain ⟨k, p, L, hk, rfl, hkp, hLk, hO, hK, hB, hS, hE⟩ := hrel
    by_cases hlt : k < s.size
    · have hzl : (k : Int) < ((s.size : Nat) : Int) := by omega
      have kT := tokat_any s k wr hlt hs96
      rw [hbs.out] at kT
      obtain ⟨e1, e2⟩ := lex_next hkp.out (by rw [hlz.out]; exact hlt)
      have hbd := tok_bounds e2 k
      have hlx1 := lex_bad (b := zs.drop p) (p := p) (by rw [e1]; exact e2)
      have hlx2 := lex_tok (b := zs.drop p) (p := p) (by rw [e1]; exact e2)
      rw [e1, ← hkp.out] at hlx1 hlx2
      obtain ⟨⟨⟨K, F, T, X⟩, Y, A⟩, hTK⟩ : ∃ R, tokR (zs.drop k) k = R := ⟨_, rfl⟩
      rw [hTK] at kT hbd hlx1 hlx2
      rw [tok_lit] at kT
      have N0 : Hid (∀ w2, Below wr.heap.size wr w2 → w.heap.size < w2.heap.size) := fun w2 h2 => by have := hS.out; have := h2.size; omega
      by_cases hY : Y = 0
      · have hlx := hlx2 hY
        obtain ⟨q1, q2, q3, q4, q5⟩ := hbd.1 hY
        simp only at q1 q2 q3 hlx
        rw [List.length_drop, hlz.out] at q3
        have hT : T ≤ s.size := by omega
        have hkT : k < T := q2
        have hRR := hE.out
        rw [hlx, List.drop_drop] at hRR
        have eT : p + (T - p) = T := by have := hkp.out; omega
        rw [eT] at hRR
        have hRR' : Hid ((L ++ [⟨K, F, T, X⟩]) ++ (lexA (zs.drop T) T).1 = LR ∧ (lexA (zs.drop T) T).2 = (YR, AR)) := ⟨by rw [← hRR.1]; simp, hRR.2⟩
        have kG1 := kG T hT
        have hgT : T + gapN (zs.drop T) ≤ s.size := by have := gap_le (zs.drop T); rw [List.length_drop, hlz.out] at this; omega
        obtain ⟨k', hk'⟩ : ∃ k', T + gapN (zs.drop T) = k' := ⟨_, rfl⟩
        rw [hk'] at kG1 hgT
        have hk2 : Hid (k' = T + gapN (zs.drop T)) := hk'.symm
        have hTk' : Hid (T ≤ k') := by show _ ≤ _; omega
        have hdec : Hid (s.size - k' < s.size - k) := by show _ < _; have := hTk'.out; omega
        have hL' : Hid ((L ++ [(⟨K, F, T, X⟩ : Tk)]).length ≤ k') := by show _ ≤ _; have := hLk.out; have := hTk'.out; simp; omega
        have hL9 : Hid (L.length ≤ 100000) := by show _ ≤ _; have := hLk.out; omega
        have aY : (((Y : Nat) : Int) != 0) = false := by simp; omega
        obtain ⟨av, nv, cv, rfl, hnv, hcv1, hcv2⟩ := hO.out.form
        have T64 : (T : Int) ≤ 9223372036854775807 := by omega
        clear hRR eT hlx hlx1 hlx2 hE hTK hbd e1 e2 hkp hY kG q1 q2 q3 q4 q5 hk' hkT
        go_wp2_with (first
          | (go_at_call 20; refine kT.mono ?_; rintro e w2 ⟨rfl, hb2⟩; clear kT; have O2 : Hid (OwnsT w2 (w.heap.size + 1) (.slice av nv cv) L) := hO.out.kept hb2; have B2 : Hid (Below w.heap.size w w2) := hB.out.trans (hb2.mono hB.out.size); have S2 : Hid (w.heap.size + 1 ≤ w2.heap.size) := Nat.le_trans hS.out hb2.size; have K2 : Hid (Blk w2 w.heap.size #[.int .i64 0, .int .i64 0] 26) := hK.out.kept hb2 hK.out.lt)
          | (at_builtin; go_loud (refine wpList_append_tok rfl _ _ rfl (w.heap.size + 1) (.slice av nv cv) L ⟨K, F, T, X⟩ rfl O2.out.thrice (w2.heap.size + 1 + 1) rfl (fun j _ => (tok_cells w2 _ _ j).trans Array.getElem?_toList.symm) hL9.out (by have := S2.out; simp; omega) ?_; intro v4 w4 hO4 hg4; obtain ⟨bk4, ks4, bl4, sz4⟩ := tok_append O2.out S2.out hg4; have O4 : Hid (OwnsT w4 (w.heap.size + 1) v4 (L ++ [⟨K, F, T, X⟩])) := hO4; have B4 : Hid (Below w.heap.size w w4) := bl4 w B2.out; have K4 : Hid (Blk w4 w.heap.size #[.int .i64 0, .int .i64 0] 26) := ks4 _ _ K2.out; have S4 : Hid (w.heap.size + 1 ≤ w4.heap.size) := sz4; have d2 : w4.cell? ⟨w2.heap.size, 2, none⟩ = some (.int .i64 (T : Nat)) := bk4.cell 2; have e2 := bk4.fz 2; clear bk4 ks4 bl4 sz4 hO4 hg4))
          | (go_at_call 19; refine (kG1 _).mono ?_; rintro e w5 ⟨rfl, hw5⟩; subst hw5; clear kG1))
        go_roundw
        case rel => exact ⟨k', T, L ++ [⟨K, F, T, X⟩], hgT, rfl, hk2, hL', O4, K4, B4, S4, hRR'⟩
        case measure => simp [intOf]; exact hdec.out
      · have hlx := hlx1 hY
        have hRR := hE.out
        rw [hlx] at hRR
        have aY : (((Y : Nat) : Int) != 0) = true := by simp; omega
        obtain ⟨hL1, hL2⟩ := hRR
        rw [List.append_nil] at hL1
        simp only [Prod.mk.injEq] at hL2
        obtain ⟨rfl, rfl⟩ := hL2
        subst hL1
        obtain ⟨av, nv, cv, rfl, hnv, hcv1, hcv2⟩ := hO.out.form
        clear hlx hlx1 hlx2 hE hTK hbd e1 e2 hkp hY kG
        go_wp2_with (go_at_call 20; refine kT.mono ?_; rintro e w2 ⟨rfl, hb2⟩; clear kT; have K2 := hK.out.kept hb2 hK.out.lt; have c0 : w2.cell? ⟨w.heap.size, 0, none⟩ = some (.int .i64 0) := K2.cell 0; have c1 : w2.cell? ⟨w.heap.size, 1, none⟩ = some (.int .i64 0) := K2.cell 1; have f0 := K2.fz 0; have f1 := K2.fz 1; have N2 := N0.out w2 hb2; have O2 : Hid (OwnsT w2 (w.heap.size + 1) (.slice av nv cv) L) := hO.out.kept hb2; have B2 : Hid (Below w.heap.size w w2) := hB.out.trans (hb2.mono hB.out.size); clear K2)
        go_region
        all_goals
          go_wp2
          have h4 : Below w.heap.size w ((w2.setCell ⟨w.heap.size, 0, none⟩ (.int .i64 (Y : Nat))).setCell ⟨w.heap.size, 1, none⟩ (.int .i64 (A : Nat))) := by
            refine Below.setCell (Below.setCell B2.out ?_ _) ?_ _ <;> simp
          have hh : ∀ j, w.heap.size + 1 ≤ j → ((w2.setCell ⟨w.heap.size, 0, none⟩ (.int .i64 (Y : Nat))).setCell ⟨w.heap.size, 1, none⟩ (.int .i64 (A : Nat))).heap[j]? = w2.heap[j]? := fun j hj => ((Kq.set w.heap.size (j + 1) _ 1 _).block j (by omega) (by omega)).trans ((Kq.set w.heap.size (j + 1) _ 0 _).block j (by omega) (by omega))
          have h5 := (O2.out.move fun j hj _ => hh j hj)
          have h6 := (alloc_below ((w2.setCell ⟨w.heap.size, 0, none⟩ (.int .i64 (Y : Nat))).setCell ⟨w.heap.size, 1, none⟩ (.int .i64 (A : Nat))) (.cells #[.int .i64 (K : Nat), .int .i64 (F : Nat), .int .i64 (T : Nat), .string (strOfNums X)] 41))
          have h7 := alloc_below (((w2.setCell ⟨w.heap.size, 0, none⟩ (.int .i64 (Y : Nat))).setCell ⟨w.heap.size, 1, none⟩ (.int .i64 (A : Nat))).alloc (.cells #[.int .i64 (K : Nat), .int .i64 (F : Nat), .int .i64 (T : Nat), .string (strOfNums X)] 41)) (.cells #[.int .i64 (Y : Nat), .int .i64 (A : Nat)] 26)
          refine bodyPost_ret (v := .tuple #[.slice av nv cv, .agg #[.int .i64 (Y : Nat), .int .i64 (A : Nat)]]) (by simp [results, Tryd.results9, go_sem, *]) rfl ⟨.slice av nv cv, rfl, ?_, ?_⟩
          · exact (((h5.kept h6).kept h7) : OwnsT ((((w2.setCell ⟨w.heap.size, 0, none⟩ (.int .i64 (Y : Nat))).setCell ⟨w.heap.size, 1, none⟩ (.int .i64 (A : Nat))).alloc (.cells #[.int .i64 (K : Nat), .int .i64 (F : Nat), .int .i64 (T : Nat), .string (strOfNums X)] 41)).alloc (.cells #[.int .i64 (Y : Nat), .int .i64 (A : Nat)] 26)) _ _ _).move fun j _ _ => rfl
          · exact (((h4.alloc h4.size _).alloc (h4.alloc h4.size _).size _)).drew
    · have hzl : ¬ (k : Int) < ((s.size : Nat) : Int) := by omega
      have hend : (zs.drop p).drop (gapN (zs.drop p)) = [] := by rw [List.drop_drop, ← hkp.out]; exact List.drop_of_length_le (by rw [hlz.out]; omega)
      have hRR := hE.out
      rw [lex_end hend] at hRR
      obtain ⟨hL1, hL2⟩ := hRR
      rw [List.append_nil] at hL1
      simp only [Prod.mk.injEq] at hL2
      obtain ⟨rfl, rfl⟩ := hL2
      subst hL1
      obtain ⟨av, nv, cv, rfl, hnv, hcv1, hcv2⟩ := hO.out.form
      have c0 : wr.cell? ⟨w.heap.size, 0, none⟩ = some (.int .i64 0) := hK.out.cell 0
      have c1 : wr.cell? ⟨w.heap.size, 1, none⟩ = some (.int .i64 0) := hK.out.cell 1
      have f0 := hK.out.fz 0
      have f1 := hK.out.fz 1
      clear hE hend hkp kG
      go_wp2
      refine bodyPost_ret (v := .tuple #[.slice av nv cv, .agg #[.int .i64 0, .int .i64 0]]) (by simp [results, Tryd.results9, go_sem, *]) rfl ⟨.slice av nv cv, rfl, ?_, ?_⟩
      · have hh : ∀ j, w.heap.size + 1 ≤ j → ((wr.setCell ⟨w.heap.size, 0, none⟩ (.int .i64 0)).setCell ⟨w.heap.size, 1, none⟩ (.int .i64 0)).heap[j]? = wr.heap[j]? := fun j hj => ((Kq.set w.heap.size (j + 1) _ 1 _).block j (by omega) (by omega)).trans ((Kq.set w.heap.size (j + 1) _ 0 _).block j (by omega) (by omega))
        exact hO.out.move fun j hj _ => hh j hj
      · refine Below.setCell (Below.setCell hB.out ?_ _) ?_ _ <;> simp
end Go.Proofs.YtfkoghmbkgbgbaaDoor
