/-
  Texts Sdj, Sdk, Sdl, Lra.
-/
import Derived.Test.YtfipdldoklkciaaGreatGaf
import Derived.Deep.DeepAppendWide
namespace Go.Proofs.YtfipdldoklkciaaGreat
open Go.RowKit
set_option linter.unusedVariables false
def ren (now : Int) (e : Ent) : Ent := { e with time := now, wait := 1, there := false }
def resU (s : St) (now q : Int) : St := { s with L := fun z => if z < q then (s.L z).map (ren now) else s.L z }
def lim2 (s : St) (credit : Int) : St := { s with lim := max credit (s.nxt - 1) }
def resA (s : St) (ack credit now : Int) : St := lim2 (resU (finA s ack) now s.nxt) credit
theorem res_none {s : St} {now : Int} (h : Ok s) : resU s now s.base = s := by
  refine St.ext' rfl rfl rfl rfl fun z => ?_
  show (if z < s.base then (s.L z).map (ren now) else s.L z) = s.L z
  split
  · have := h.inn z
    cases hL : s.L z with
    | none => rfl
    | some e => rw [hL] at this; simp at this; omega
  · rfl
theorem res_step {s : St} {now q : Int} {e : Ent} (hL : s.L q = some e) : setA (resU s now q) q (ren now e) = resU s now (q + 1) := by
  refine St.ext' rfl rfl rfl rfl fun z => ?_
  show (if z = q then some (ren now e) else if z < q then (s.L z).map (ren now) else s.L z) = if z < q + 1 then (s.L z).map (ren now) else s.L z
  by_cases hz : z = q
  · subst hz
    rw [if_pos rfl, if_pos (by omega), hL]; rfl
  · rw [if_neg hz]
    by_cases hq : z < q
    · rw [if_pos hq, if_pos (by omega)]
    · rw [if_neg hq, if_neg (by omega)]
theorem res_at {s : St} {now q : Int} : (resU s now q).L q = s.L q := by
  show (if q < q then (s.L q).map (ren now) else s.L q) = s.L q
  rw [if_neg (by omega)]
theorem sd_lim2 {w : World} {B sb mb : Nat} {s : St} {credit : Int} (h : Sd w B sb mb s) (hc : credit ≤ 4611686018427387904) : Sd (w.setCell ⟨sb, 2, none⟩ (.int .i64 (max credit (s.nxt - 1)))) B sb mb (lim2 s credit) := by
  refine ⟨?_, h.hs, h.hm, h.blk.set 2 _, h.mp.set h.ne 2 _, fun z e he => (h.ld z e he).k2 (K2.set w 2 _)⟩
  obtain ⟨w1, w2, b1, b2, few, l1, l2, inn, ent⟩ := h.ok
  refine ⟨w1, w2, b1, b2, few, ?_, ?_, inn, ent⟩
  · show s.nxt - 1 ≤ max credit (s.nxt - 1)
    omega
  · show max credit (s.nxt - 1) ≤ _
    omega
theorem res_bad {B sb mb : Nat} {s : St} {w : World} (ack credit now : Int) (h : Sd w B sb mb s) (hE : (timeB now && mayB s ack credit) = false) :
    Calls Tryz.prog 63 #[.pointer (some ⟨sb, 0, none⟩), .int .i64 ack, .int .i64 credit, .int .i64 now] w fun e w' => e = .returned (.int .i64 1) ∧ w' = w := by
  have k1 := made_yes sb w h.c0
  have k2 := may_any ack credit h
  have k3 := time_any now w
  cases ht : timeB now with
  | false =>
    rw [ht] at k3
    clear h hE k2 ht
    go_enter Tryz.func63, Tryz.ntmps63
    go_wp2_with (first | (go_at_call 46; refine k1.mono ?_; rintro e w1 ⟨rfl, hw1⟩; obtain rfl := hw1.symm) | (go_at_call 81; refine k3.mono ?_; rintro e w1 ⟨rfl, hw1⟩; obtain rfl := hw1.symm))
    go_ret
    all_goals simp_all
  | true =>
    rw [ht] at k3 hE
    rw [show mayB s ack credit = false by simpa using hE] at k2
    clear h hE ht
    go_enter Tryz.func63, Tryz.ntmps63
    go_wp2_with (first | (go_at_call 46; refine k1.mono ?_; rintro e w1 ⟨rfl, hw1⟩; obtain rfl := hw1.symm) | (go_at_call 81; refine k3.mono ?_; rintro e w1 ⟨rfl, hw1⟩; obtain rfl := hw1.symm) | (go_at_call 47; refine k2.mono ?_; rintro e w1 ⟨rfl, hw1⟩; obtain rfl := hw1.symm))
    go_ret
    all_goals simp_all
theorem field0 (e : Ent) (w : World) : (Instr.field 98 (.agg #[.slice e.a e.n e.c, .int .i64 e.time, .int .i64 e.wait, .bool e.there]) 0).run Tryz.prog w = .ok (.slice e.a e.n e.c) w := by kernel_rfl
set_option maxHeartbeats 1000000 in
theorem res_ok {B sb mb : Nat} {s : St} {w : World} (ack credit now : Int) (h : Sd w B sb mb s) (hE : (timeB now && mayB s ack credit) = true) :
    Calls Tryz.prog 63 #[.pointer (some ⟨sb, 0, none⟩), .int .i64 ack, .int .i64 credit, .int .i64 now] w fun e w' => e = .returned (.int .i64 0) ∧ Hid (Sd w' B sb mb (resA s ack credit now)) ∧ Hid (K2 sb mb w w') := by
  obtain ⟨ht, hM⟩ : timeB now = true ∧ mayB s ack credit = true := by simpa using hE
  have k1 := made_yes sb w h.c0
  have k2 := may_any ack credit h
  have k3 := time_any now w
  rw [hM] at k2
  rw [ht] at k3
  have hm : Hid (0 ≤ now ∧ now ≤ 1099511627776 ∧ credit ≤ 4611686018427387904) := by
    simp [mayB] at hM
    simp [timeB] at ht
    show _ ∧ _ ∧ _
    omega
  have k4 := finish_any ack h (by simp [mayB] at hM; omega)
  have hA : Hid (resA s ack credit now = lim2 (resU (finA s ack) now (finA s ack).nxt) credit) := rfl
  clear h hE ht hM
  generalize finA s ack = s1 at *
  go_enter Tryz.func63, Tryz.ntmps63
  go_wp2_with (first | (go_at_call 46; refine k1.mono ?_; rintro e w1 ⟨rfl, hw1⟩; obtain rfl := hw1.symm; clear k1 hw1) | (go_at_call 81; refine k3.mono ?_; rintro e w1 ⟨rfl, hw1⟩; obtain rfl := hw1.symm; clear k3 hw1) | (go_at_call 47; refine k2.mono ?_; rintro e w1 ⟨rfl, hw1⟩; obtain rfl := hw1.symm; clear k2 hw1) | (go_at_call 48; refine k4.mono ?_; rintro e w1 ⟨rfl, hS1, hK1⟩; clear k4; have c31 := hS1.out.c3))
  go_loopw [9] (fun s9 wr => ∃ q : Int, s9 = .int .i64 q ∧ Hid (s1.base ≤ q ∧ q ≤ s1.nxt) ∧ Hid (Sd wr B sb mb (resU s1 now q)) ∧ Hid (K2 sb mb w wr)) (fun q _ => (s1.nxt - intOf q).toNat)
  case atStart => exact ⟨s1.base, rfl, ⟨Int.le_refl _, hS1.out.ok.b2⟩, (by show Sd _ _ _ _ _; rw [res_none hS1.out.ok]; exact hS1.out), hK1⟩
  case round =>
    obtain ⟨q, rfl, hq, hS, hK⟩ := hrel
    have c4 : wr.cell? ⟨sb, 4, none⟩ = some (.int .i64 s1.nxt) := hS.out.c4
    have c5 := hS.out.c5
    by_cases hlt : q < s1.nxt
    · have hd : decide (q < s1.nxt) = true := by simp; omega
      have hrg : Hid (-9223372036854775808 ≤ q ∧ q < 9223372036854775808) := by
        have := hS1.out.ok.b1; have := hS1.out.ok.l1; have := hS1.out.ok.l2; have := hq.out
        show _ ∧ _; omega
      have hwr : IntKind.i64.wrap (q + 1) = q + 1 := by
        have := hS1.out.ok.b1; have := hS1.out.ok.l1; have := hS1.out.ok.l2; have := hq.out
        rw [IntKind.wrap_i64]; omega
      have hl := hS.out.mp.drew.look hrg.out
      cases hL : s1.L q with
      | none => have := (hS1.out.ok.inn q).2 ⟨hq.out.1, hlt⟩; rw [hL] at this; cases this
      | some e =>
      have hL2 : Hid ((resU s1 now q).L q = some e) := res_at.trans hL
      have hst : Hid (setA (resU s1 now q) q (ren now e) = resU s1 now (q + 1)) := res_step hL
      have hf := field0 e
      rw [show (resU s1 now q).f q = some e.val by simp [St.f, hL2.out]] at hl
      simp only [Option.getD_some, Ent.val] at hl
      have hsz : Hid (((resU s1 now q).nxt - (resU s1 now q).base).toNat < 1000) := by have := hS.out.ok.few; have := hS.out.ok.w2; show _ < _; omega
      have SK : Hid (∀ w', Below wr.heap.size wr w' → w'.cell? ⟨sb, 5, none⟩ = some (.map (some mb))) := fun w' hb => (hS.out.kept hb).c5
      have hB1 : Hid (Below wr.heap.size wr wr) := Below.refl _ _
      have hlt' : Hid (q < s1.nxt) := hlt
      clear hL hlt hS1 c31 hK1
      go_wp2
      go_region_held3 (fun wx => wx.cell? ⟨sb, 5, none⟩ = some (.map (some mb))) ((first | with_reducible exact cc5 | ((with_reducible refine SK.out _ ?_); (repeat' with_reducible first | exact hB1.out | exact hB4.out | refine Below.drew ?_)))) (first
        | (go_at_call 82; refine (outF_any _ _ _ _ _).mono ?_; rintro e w4 ⟨rfl, hb4⟩; have hB4 : Hid (Below wr.heap.size wr w4) := hB1.out.drew.trans hb4; have hS4 : Hid (Sd w4 B sb mb (resU s1 now q)) := hS.out.kept hB4.out; obtain ⟨w5, hr, hm4, hg⟩ := hS4.out.mp.store hsz.out hrg.out (ren now e).val; simp only [ren, Ent.val] at hr; have hS5 : Hid (Sd w5 B sb mb (resU s1 now (q + 1))) := (by show Sd _ _ _ _ _; rw [← hst.out]; exact sd_put hS4.out hL2.out rfl rfl rfl rfl ⟨hm.out.1, (by have := hm.out.2.1; show now ≤ _; omega), (by show (1 : Int) ≤ 1; omega), (by show (1 : Int) ≤ 64; omega)⟩ hm4 hg); have hK5 : Hid (K2 sb mb w w5) := hK.out.trans ((K2.of_below hB4.out).trans (K2.of_g hg)); have cc5 := hS5.out.c5; clear hm4 hg hb4))
      go_wp2
      exact ⟨⟨q + 1, rfl, ⟨(by have := hq.out; omega), (by have := hlt'.out; omega)⟩, hS5, hK5⟩, by have := hlt'.out; show (s1.nxt - (q + 1)).toNat < (s1.nxt - q).toNat; omega⟩
    · have hd : decide (q < s1.nxt) = false := by simp; omega
      obtain rfl : q = s1.nxt := by have := hq.out; omega
      have k5 : Calls Tryz.prog 77 #[.pointer (some ⟨sb, 0, none⟩)] wr fun e w' => e = .returned (.int .i64 (s1.nxt - 1)) ∧ w' = wr := last_any (s := resU s1 now s1.nxt) hS.out
      have f2 := hS.out.blk.fz 2
      have c2 := hS.out.c2
      clear hlt hS1 c31 hK1 c5
      go_wp2_with (go_at_call 77; refine k5.mono ?_; rintro e w1 ⟨rfl, hw1⟩; obtain rfl := hw1.symm)
      go_ret
      refine ⟨rfl, ?_, ?_⟩
      · rw [hA.out]
        exact sd_lim2 hS.out hm.out.2.2
      · exact hK.out.trans (K2.set _ 2 _)
end Go.Proofs.YtfipdldoklkciaaGreat
namespace Go.Proofs.YtfipdldoklkciaaGreat
open Go.RowKit
set_option linter.unusedVariables false
/-- A message's cells: its number, and its load's slice. -/
def msC (p : Int × Value × List Int) : List Value := [.int .i64 1, .int .u64 0, .int .i64 0, .int .i64 p.1, .int .i64 0, .int .u64 0, .int .i64 0, .int .i64 0, p.2.1]
def msCs (L : List (Int × Value × List Int)) : List Value := (L.map msC).flatten
theorem msCs_snoc (L : List (Int × Value × List Int)) (t : Int × Value × List Int) : msCs (L ++ [t]) = msCs L ++ msC t := by simp [msCs]
theorem msCs_len (L : List (Int × Value × List Int)) : (msCs L).length = L.length * 9 := by
  induction L with
  | nil => rfl
  | cons t L ih =>
    have : msCs (t :: L) = msC t ++ msCs L := rfl
    rw [this, List.length_append, ih, List.length_cons]
    simp [msC]; omega
/-- THE SLICE v HOLDS THESE MESSAGES, IN NEW MEMORY. -/
def OwnsT (w : World) (base : Nat) (v : Value) (L : List (Int × Value × List Int)) : Prop := w.ownsRow base 100 9 v L.length (msCs L) ∧ ∀ p ∈ L, OwnsB w base p.2.1 p.2.2
theorem ownsT_nil (w : World) (base : Nat) : OwnsT w base (.slice none 0 0) [] := ⟨World.ownsRow_nil w base 100 9, by simp⟩
theorem infoM : (Tryz.prog.info? 100).map (fun i => (i.zero, i.size, i.bytes)) = some (some (.agg #[.int .i64 0, .int .u64 0, .int .i64 0, .int .i64 0, .int .i64 0, .int .u64 0, .int .i64 0, .int .i64 0, .slice none 0 0]), 9, 88) := by kernel_rfl
theorem ownsRow_keep {w w' : World} {base e k n : Nat} {v : Value} {cs : List Value} (h : w.ownsRow base e k v n cs) (hb : ∀ b cur, base ≤ b → w.heap[b]? = some (.cells cur e (0, 0)) → w'.heap[b]? = w.heap[b]?) : w'.ownsRow base e k v n cs := by
  obtain ⟨h1, h2⟩ := h
  refine ⟨h1, ?_⟩
  rcases h2 with h2 | ⟨g, cap, cur, hv, hg, hc, r⟩
  · exact .inl h2
  · exact .inr ⟨g, cap, cur, hv, hg, by rw [hb g cur hg hc]; exact hc, r⟩
theorem OwnsT.keep {w w' : World} {base : Nat} {v : Value} {L : List (Int × Value × List Int)} (h : OwnsT w base v L) (hb : ∀ b cur e, base ≤ b → w.heap[b]? = some (.cells cur e (0, 0)) → e = 100 ∨ e = 5 → w'.heap[b]? = w.heap[b]?) : OwnsT w' base v L :=
  ⟨ownsRow_keep h.1 (fun b cur h1 h2 => hb b cur _ h1 h2 (.inl rfl)), fun p hp => ⟨ownsRow_keep (h.2 p hp).1 (fun b cur h1 h2 => hb b cur _ h1 h2 (.inr rfl)), (h.2 p hp).2⟩⟩
theorem OwnsT.kept {w w' : World} {base : Nat} {v : Value} {L : List (Int × Value × List Int)} (h : OwnsT w base v L) (hb : Below w.heap.size w w') : OwnsT w' base v L :=
  h.keep fun b cur e _ h2 _ => hb.block b (Array.getElem?_eq_some_iff.1 h2).1
theorem OwnsT.alloc {w : World} {base : Nat} {v : Value} {L : List (Int × Value × List Int)} (h : OwnsT w base v L) (o : Obj) : OwnsT (w.alloc o) base v L := h.kept ((Below.refl _ _).alloc (Nat.le_refl _) o)
theorem OwnsT.k2 {q g : Nat} {w w' : World} {base : Nat} {v : Value} {L : List (Int × Value × List Int)} (h : OwnsT w base v L) (k : K2 q g w w') (hq : q < base) (hg : g < base) : OwnsT w' base v L :=
  h.keep fun b cur e h1 h2 _ => k.block b (Array.getElem?_eq_some_iff.1 h2).1 (by omega) (by omega)
theorem OwnsT.form {w : World} {base : Nat} {v : Value} {L : List (Int × Value × List Int)} (h : OwnsT w base v L) : ∃ a n cap, v = .slice a n cap ∧ n = L.length ∧ n ≤ cap ∧ cap ≤ 9223372036854775807 := by
  rcases h.1.2 with ⟨hv, hn⟩ | ⟨g, cap, cur, hv, hg, hc, hnc, hcm, r⟩
  · exact ⟨none, 0, 0, hv, hn.symm, by omega, by omega⟩
  · exact ⟨some ⟨g, 0, none⟩, L.length, cap, hv, rfl, hnc, by unfold maxLen at hcm; omega⟩
theorem addr_add0 (g j : Nat) : (⟨g, 0, none⟩ : Addr).add j = ⟨g, j, none⟩ := by simp [Addr.add]; exact fun h => h.symm
/-- What is told at a place. -/
theorem OwnsT.cells {w : World} {base : Nat} {v : Value} {L : List (Int × Value × List Int)} (h : OwnsT w base v L) {i : Nat} {p : Int × Value × List Int} (hi : L[i]? = some p) :
    ∃ g cap, v = .slice (some ⟨g, 0, none⟩) L.length cap ∧ base ≤ g ∧ g < w.heap.size ∧ ∀ j, j < 9 → w.cell? ⟨g, i * 9 + j, none⟩ = (msC p)[j]? := by
  have hlt : i < L.length := (List.getElem?_eq_some_iff.1 hi).1
  rcases h.1.2 with ⟨hv, hn⟩ | ⟨g, cap, cur, hv, hg, hc, hnc, hcm, hcs, htk⟩
  · omega
  · refine ⟨g, cap, hv, hg, (Array.getElem?_eq_some_iff.1 hc).1, fun j hj => ?_⟩
    rw [cell_row hc, ← Array.getElem?_toList]
    have h1 : (cur.toList.take (L.length * 9))[i * 9 + j]? = (msCs L)[i * 9 + j]? := by rw [htk]
    rw [List.getElem?_take, if_pos (by omega)] at h1
    rw [h1]
    clear h1 htk hcs hc hcm hnc hg hv h
    induction L generalizing i with
    | nil => simp at hi
    | cons t L ih =>
      have e : msCs (t :: L) = msC t ++ msCs L := rfl
      rw [e]
      cases i with
      | zero =>
        simp at hi
        subst hi
        rw [Nat.zero_mul, Nat.zero_add, List.getElem?_append_left (by simp [msC]; omega)]
      | succ i =>
        rw [List.getElem?_append_right (by simp [msC]; omega)]
        rw [show (i + 1) * 9 + j - (msC t).length = i * 9 + j by simp [msC]; omega]
        exact ih (by simpa using hi) (by simpa using hlt)
/-- 'append(v, x)'. -/
theorem wpList_append_msg {w : World} {ops : Array Oper} {rest : List Oper} {o : Oper} {a : Act} {Q : Exit → Act → World → Prop} (hgd : o.guard = none) (s x : Operand)
    (ho : o.op = .call { callee := .builtin .append, args := #[s, x], argTypes := #[103, 103] })
    (base : Nat) (v : Value) (L : List (Int × Value × List Int)) (t : Int × Value × List Int) (hs : a.eval s = v) (hown : OwnsT w base v L) (ht : OwnsB w base t.2.1 t.2.2)
    (g : Nat) (hx : a.eval x = .slice (some ⟨g, 0, none⟩) 1 1) (hb : ∀ j, j < 9 → w.cell? ⟨g, j, none⟩ = (msC t)[j]?)
    (hlen : L.length ≤ 100000) (hbase : base ≤ w.heap.size)
    (h : ∀ v' w', OwnsT w' base v' (L ++ [t]) → w.grownBy w' v.ownBlock → wpList Tryz.prog ops Q rest (a.put o.dst v') w') : wpList Tryz.prog ops Q (o :: rest) a w := by
  obtain ⟨i, hi, hz, hsz, hby⟩ := info_parts infoM
  refine wpList_append_own_wide w hgd s x 103 ho base 100 i _ 9 88 Tryz.underlying103 hi hz hsz hby rfl (by decide) v L.length _ hs hown.1 ⟨g, 0, none⟩ 1 1 (msC t) hx rfl ?_ ?_ (by unfold maxLen; omega) (by omega) hbase ?_
  · intro j u hu
    have hj : j < 9 := (List.getElem?_eq_some_iff.1 hu).1
    rw [addr_add0, hb j hj]; exact hu
  · intro u hu
    obtain ⟨pa, pc, e, _⟩ := ht.shape
    simp [msC, e] at hu
    rcases hu with rfl | rfl | rfl | rfl | rfl | rfl | rfl | rfl | rfl <;> rfl
  · intro v' w' h1 h2 _
    refine h v' w' ⟨?_, fun p hp => ?_⟩ h2
    · rw [List.length_append, msCs_snoc]
      exact h1
    · have hk : ∀ p : Int × Value × List Int, OwnsB w base p.2.1 p.2.2 → OwnsB w' base p.2.1 p.2.2 := fun p hp => ⟨ownsRow_keep hp.1 (fun b cur h3 h4 => h2.block b (Array.getElem?_eq_some_iff.1 h4).1 (fun e => by
        rcases hown.1.2 with ⟨rfl, _⟩ | ⟨g', cap', cur', rfl, _, hc', _⟩
        · simp [Value.ownBlock] at e
        · simp [Value.ownBlock] at e
          subst e
          rw [h4] at hc'
          cases hc')), hp.2⟩
      rcases List.mem_append.1 hp with hp | hp
      · exact hk p (hown.2 p hp)
      · simp at hp
        subst hp
        exact hk _ ht
theorem ownT_below {w w1 w2 : World} {base : Nat} {v : Value} {L : List (Int × Value × List Int)} (hb : Below base w w1) (h : OwnsT w1 base v L) (hg : w1.grownBy w2 v.ownBlock) (hB : base ≤ w1.heap.size) : Below base w w2 :=
  hb.grown hg hB fun k hk => by
    rcases h.1.2 with ⟨rfl, _⟩ | ⟨g, cap, cur, rfl, hg', _⟩
    · simp [Value.ownBlock] at hk
    · simp [Value.ownBlock] at hk
      omega
/-- All of a sender's blocks lie below N. -/
def Up (N sb mb : Nat) (s : St) : Prop := sb < N ∧ mb < N ∧ ∀ z e x, s.L z = some e → e.a = some x → x.block < N
theorem Sd.up {w : World} {B sb mb : Nat} {s : St} (h : Sd w B sb mb s) : Up w.heap.size sb mb s := ⟨h.blk.lt, h.mp.lt, fun z e x he hx => ((h.ld z e he).at_ x hx).2.1⟩
theorem Sd.below {w w' : World} {N B sb mb : Nat} {s : St} (h : Sd w B sb mb s) (u : Up N sb mb s) (hb : Below N w w') : Sd w' B sb mb s := by
  refine ⟨h.ok, h.hs, h.hm, ?_, ?_, fun z e he => ?_⟩
  · unfold Blk
    rw [hb.block sb u.1]
    exact h.blk
  · obtain ⟨D, ⟨es, clock, h1, h2⟩, h3⟩ := h.mp
    exact ⟨D, ⟨es, clock, by rw [hb.block mb u.2.1]; exact h1, h2⟩, h3⟩
  · have l := h.ld z e he
    exact ⟨l.by_.below hb (fun x hx _ => u.2.2 z e x he hx), l.nil, l.le, l.mx, fun x hx => ⟨(l.at_ x hx).1, Nat.lt_of_lt_of_le (l.at_ x hx).2.1 hb.size, (l.at_ x hx).2.2⟩, fun x hx => (l.ty x hx).imp fun cs hc => (hb.block x.block (u.2.2 z e x he hx)).trans hc⟩
end Go.Proofs.YtfipdldoklkciaaGreat
namespace Go.Proofs.YtfipdldoklkciaaGreat
open Go.RowKit
set_option linter.unusedVariables false
def tellB (now : Int) (e : Ent) : Bool := !e.there && decide (e.time ≤ now)
def nxtE (now : Int) (e : Ent) : Ent := { e with time := now + e.wait, wait := min (2 * e.wait) 64 }
def dueE (now : Int) (e : Ent) : Ent := if tellB now e = true then nxtE now e else e
def dueU (s : St) (now q : Int) : St := { s with L := fun z => if z < q then (s.L z).map (dueE now) else s.L z }
def dueA (s : St) (now : Int) : St := dueU s now s.nxt
/-- What is told of the first k numbers from the base on. -/
def dueL (s : St) (now : Int) : Nat → List (Int × List Int)
  | 0 => []
  | k + 1 => dueL s now k ++ (match s.L (s.base + (k : Int)) with | some e => if tellB now e = true then [(s.base + (k : Int), e.zs)] else [] | none => [])
theorem dueL_len (s : St) (now : Int) : ∀ k, (dueL s now k).length ≤ k
  | 0 => by simp [dueL]
  | k + 1 => by
    have := dueL_len s now k
    unfold dueL
    rw [List.length_append]
    split
    · split <;> simp <;> omega
    · simp; omega
theorem due_none {s : St} {now : Int} (h : Ok s) : dueU s now s.base = s := by
  refine St.ext' rfl rfl rfl rfl fun z => ?_
  show (if z < s.base then (s.L z).map (dueE now) else s.L z) = s.L z
  split
  · have := h.inn z
    cases hL : s.L z with
    | none => rfl
    | some e => rw [hL] at this; simp at this; omega
  · rfl
theorem due_step {s : St} {now q : Int} {e : Ent} (hL : s.L q = some e) (ht : tellB now e = true) : setA (dueU s now q) q (nxtE now e) = dueU s now (q + 1) := by
  refine St.ext' rfl rfl rfl rfl fun z => ?_
  show (if z = q then some (nxtE now e) else if z < q then (s.L z).map (dueE now) else s.L z) = if z < q + 1 then (s.L z).map (dueE now) else s.L z
  by_cases hz : z = q
  · subst hz
    rw [if_pos rfl, if_pos (by omega), hL]
    show _ = some (dueE now e)
    unfold dueE
    rw [if_pos ht]
  · rw [if_neg hz]
    by_cases hq : z < q
    · rw [if_pos hq, if_pos (by omega)]
    · rw [if_neg hq, if_neg (by omega)]
theorem due_skip {s : St} {now q : Int} {e : Ent} (hL : s.L q = some e) (ht : tellB now e = false) : dueU s now (q + 1) = dueU s now q := by
  refine St.ext' rfl rfl rfl rfl fun z => ?_
  show (if z < q + 1 then (s.L z).map (dueE now) else s.L z) = if z < q then (s.L z).map (dueE now) else s.L z
  by_cases hz : z = q
  · subst hz
    rw [if_pos (by omega), if_neg (by omega), hL]
    show some (dueE now e) = _
    unfold dueE
    rw [if_neg (by simp [ht])]
  · by_cases hq : z < q
    · rw [if_pos hq, if_pos (by omega)]
    · rw [if_neg hq, if_neg (by omega)]
theorem due_at {s : St} {now q : Int} : (dueU s now q).L q = s.L q := by
  show (if q < q then (s.L q).map (dueE now) else s.L q) = s.L q
  rw [if_neg (by omega)]
theorem due_up {N sb mb : Nat} {s : St} {now q : Int} (h : Up N sb mb s) : Up N sb mb (dueU s now q) := by
  refine ⟨h.1, h.2.1, fun z e x he hx => ?_⟩
  have he : (if z < q then (s.L z).map (dueE now) else s.L z) = some e := he
  split at he
  · cases hL : s.L z with
    | none => rw [hL] at he; cases he
    | some e1 =>
      rw [hL] at he
      simp at he
      refine h.2.2 z e1 x hL ?_
      rw [← he] at hx
      unfold dueE at hx
      split at hx <;> exact hx
  · exact h.2.2 z e x he hx
theorem due_bad {B sb mb : Nat} {s : St} {w : World} (now : Int) (h : Sd w B sb mb s) (ht : timeB now = false) :
    Calls Tryz.prog 52 #[.pointer (some ⟨sb, 0, none⟩), .int .i64 now] w fun e w' => e = .returned (.slice none 0 0) ∧ w' = w := by
  have k1 := made_yes sb w h.c0
  have k3 := time_any now w
  rw [ht] at k3
  clear h ht
  go_enter Tryz.func52, Tryz.ntmps52
  go_wp2_with (first | (go_at_call 46; refine k1.mono ?_; rintro e w1 ⟨rfl, hw1⟩; obtain rfl := hw1.symm) | (go_at_call 81; refine k3.mono ?_; rintro e w1 ⟨rfl, hw1⟩; obtain rfl := hw1.symm))
  go_ret
  all_goals simp_all
theorem OwnsB.base {w : World} {b b' : Nat} {v : Value} {zs : List Int} (h : OwnsB w b v zs) (hb : b' ≤ b) : OwnsB w b' v zs := by
  obtain ⟨⟨h1, h2⟩, h3⟩ := h
  refine ⟨⟨h1, ?_⟩, h3⟩
  rcases h2 with h2 | ⟨g, cap, cur, hv, hg, r⟩
  · exact .inl h2
  · exact .inr ⟨g, cap, cur, hv, Nat.le_trans hb hg, r⟩
theorem OwnsT.own_lt {w : World} {base : Nat} {v : Value} {L : List (Int × Value × List Int)} (h : OwnsT w base v L) : ∀ g, v.ownBlock = some g → g < w.heap.size := by
  intro g hg
  rcases h.1.2 with ⟨rfl, _⟩ | ⟨g', cap, cur, rfl, _, hc, _⟩
  · simp [Value.ownBlock] at hg
  · simp [Value.ownBlock] at hg
    subst hg
    exact (Array.getElem?_eq_some_iff.1 hc).1
theorem OwnsT.set {w : World} {base g : Nat} {v : Value} {L : List (Int × Value × List Int)} {cs : Array Value} {T : TypeId} (h : OwnsT w base v L) (hb : Blk w g cs T) (h1 : T ≠ 100) (h2 : T ≠ 5) (j : Nat) (u : Value) : OwnsT (w.setCell ⟨g, j, none⟩ u) base v L :=
  h.keep fun b cur e _ h4 h5 => Below.heap_setCell _ _ _ _ (fun e1 => by
    have e2 : b = g := e1
    subst e2
    unfold Blk at hb
    rw [h4] at hb
    injection hb with hb
    injection hb with _ hb
    rcases h5 with rfl | rfl
    · exact h1 hb.symm
    · exact h2 hb.symm)
theorem K2.low {q g : Nat} {w w1 w2 : World} (k : K2 q g w w1) (b : Below w.heap.size w1 w2) : K2 q g w w2 :=
  ⟨b.os.trans k.os, b.tape.trans k.tape, b.output.trans k.output, Nat.le_trans k.size b.size, fun i hi h1 h2 => (b.block i hi).trans (k.block i hi h1 h2)⟩
def plainT (L : List (Int × Value × List Int)) : List (Int × List Int) := L.map fun p => (p.1, p.2.2)
set_option maxHeartbeats 2000000 in
theorem due_ok {B sb mb : Nat} {s : St} {w : World} (now : Int) (h : Sd w B sb mb s) (ht : timeB now = true) :
    Calls Tryz.prog 52 #[.pointer (some ⟨sb, 0, none⟩), .int .i64 now] w fun e w' => ∃ v L, e = .returned v ∧ Hid (OwnsT w' w.heap.size v L) ∧ Hid (plainT L = dueL s now (s.nxt - s.base).toNat) ∧ Hid (Sd w' B sb mb (dueA s now)) ∧ Hid (Up w.heap.size sb mb (dueA s now)) ∧ Hid (K2 sb mb w w') := by
  have k1 := made_yes sb w h.c0
  have k3 := time_any now w
  rw [ht] at k3
  have c3 := h.c3
  have hS0 : Hid (Sd w B sb mb s) := h
  have hU0 : Hid (Up w.heap.size sb mb s) := h.up
  have hm : Hid (0 ≤ now ∧ now ≤ 1099511627776) := by simp [timeB] at ht; exact ht
  have hO : Hid (Ok s) := h.ok
  clear h ht
  go_enter Tryz.func52, Tryz.ntmps52
  go_wp2_with (first | (go_at_call 46; refine k1.mono ?_; rintro e w1 ⟨rfl, hw1⟩; obtain rfl := hw1.symm; clear k1 hw1) | (go_at_call 81; refine k3.mono ?_; rintro e w1 ⟨rfl, hw1⟩; obtain rfl := hw1.symm; clear k3 hw1))
  go_loopw [5, 6, 7] (fun s5 s6 _ wr => ∃ (q : Int) (k : Nat) (v : Value) (L : List (Int × Value × List Int)), s5 = v ∧ s6 = .int .i64 q ∧ Hid (q = s.base + (k : Int) ∧ k ≤ (s.nxt - s.base).toNat) ∧ Hid (OwnsT wr w.heap.size v L) ∧ Hid (plainT L = dueL s now k) ∧ Hid (Sd wr B sb mb (dueU s now q)) ∧ Hid (K2 sb mb w wr)) (fun _ q _ _ => (s.nxt - intOf q).toNat)
  case atStart => exact ⟨s.base, 0, _, [], rfl, rfl, ⟨by simp, Nat.zero_le _⟩, ownsT_nil _ _, rfl, (by show Sd _ _ _ _ _; rw [due_none hO.out]; exact hS0.out), K2.refl _ _ _⟩
  case round =>
    obtain ⟨q, k, v, L, rfl, rfl, hk, hT, hL, hS, hK⟩ := hrel
    have c4 : wr.cell? ⟨sb, 4, none⟩ = some (.int .i64 s.nxt) := hS.out.c4
    have c5 := hS.out.c5
    have hU : Hid (Up w.heap.size sb mb (dueU s now q)) := due_up hU0.out
    by_cases hlt : q < s.nxt
    · have hd : decide (q < s.nxt) = true := by simp; omega
      have hbq : Hid (s.base ≤ q) := by have := hk.out; show _ ≤ _; omega
      have hrg : Hid (-9223372036854775808 ≤ q ∧ q < 9223372036854775808) := by
        have := hO.out.b1; have := hO.out.l1; have := hO.out.l2; have := hbq.out
        show _ ∧ _; omega
      have hwr : IntKind.i64.wrap (q + 1) = q + 1 := by
        have := hO.out.b1; have := hO.out.l1; have := hO.out.l2; have := hbq.out
        rw [IntKind.wrap_i64]; omega
      have hl := hS.out.mp.look hrg.out
      cases hLq : s.L q with
      | none => have := (hO.out.inn q).2 ⟨hbq.out, hlt⟩; rw [hLq] at this; cases this
      | some e =>
      have hL2 : Hid ((dueU s now q).L q = some e) := due_at.trans hLq
      rw [show (dueU s now q).f q = some e.val by simp [St.f, hL2.out]] at hl
      simp only [Option.getD_some, Ent.val] at hl
      have hlt' : Hid (q < s.nxt) := hlt
      have hLq' : Hid (s.L q = some e) := hLq
      have hLq2 : Hid (s.L (s.base + (k : Int)) = some e) := by show _ = _; rw [← hk.out.1]; exact hLq
      have hent := hO.out.ent q e hLq
      have hsb := hS.out.blk.lt
      cases htl : tellB now e with
      | false =>
        have hS2 : Hid (Sd wr B sb mb (dueU s now (q + 1))) := by show Sd _ _ _ _ _; rw [due_skip hLq htl]; exact hS.out
        have hL3 : Hid (plainT L = dueL s now (k + 1)) := by show _ = _; rw [dueL, hLq2.out]; simp only [htl]; rw [hL.out]; simp
        have hend : ∀ (wx : World), Below wr.heap.size wr wx → Hid (((∃ (q' : Int) (k : Nat) (v' : Value) (L : List (Int × Value × List Int)), u5 = v' ∧ Value.int .i64 (q + 1) = .int .i64 q' ∧ Hid (q' = s.base + (k : Int) ∧ k ≤ (s.nxt - s.base).toNat) ∧ Hid (OwnsT wx w.heap.size v' L) ∧ Hid (plainT L = dueL s now k) ∧ Hid (Sd wx B sb mb (dueU s now q')) ∧ Hid (K2 sb mb w wx))) ∧ (s.nxt - (q + 1)).toNat < (s.nxt - q).toNat) := fun wx hb =>
          ⟨⟨q + 1, k + 1, u5, L, rfl, rfl, ⟨by have := hk.out; omega, by have := hk.out; omega⟩, hT.out.kept hb, hL3.out, hS2.out.kept hb, hK.out.trans (K2.of_below hb)⟩, by have := hlt'.out; omega⟩
        cases hth : e.there with
        | true =>
          rw [hth] at hl
          clear hlt hLq hent htl hth
          go_wp2
          refine (hend _ ?_).out
          exact (Below.refl _ _).alloc (Nat.le_refl _) _
        | false =>
          have hdt : decide (e.time > now) = true := by simp [tellB, hth] at htl; simp; omega
          rw [hth] at hl
          clear hlt hLq hent htl hth
          go_wp2
          refine (hend _ ?_).out
          exact (Below.refl _ _).alloc (Nat.le_refl _) _
      | true =>
        have hth : e.there = false := by simp [tellB] at htl; exact htl.1
        have hdt : decide (e.time > now) = false := by simp [tellB] at htl; simp; omega
        have hst : Hid (setA (dueU s now q) q (nxtE now e) = dueU s now (q + 1)) := due_step hLq htl
        have hL3 : Hid (dueL s now (k + 1) = plainT L ++ [(q, e.zs)]) := by show _ = _; rw [dueL, hLq2.out]; simp only [htl]; rw [hL.out, hk.out.1]; simp
        have hthe : Hid (e.there = false) := hth
        rw [hth] at hl
        have hlq := hS.out.ld q e hL2.out
        have hcp : Hid (∀ w', Below wr.heap.size wr w' → Calls Tryz.prog 83 #[.slice e.a e.n e.c] w' fun e1 w'' => ∃ v, e1 = .returned v ∧ OwnsB w'' w'.heap.size v e.zs ∧ Below w'.heap.size w' w'') := fun w' hw' => copy_any e.a e.n e.c e.zs w' hent.1 hlq.nil (hlq.by_.kept hw') hent.2.1
        have hwt : IntKind.i64.wrap (now + e.wait) = now + e.wait := by have := hm.out; rw [IntKind.wrap_i64]; omega
        have hw2 : IntKind.i64.wrap (2 * e.wait) = 2 * e.wait := by rw [IntKind.wrap_i64]; omega
        have hent' : Hid (1 ≤ e.wait ∧ e.wait ≤ 64) := hent.2.2.2.2
        have hlen : Hid (L.length ≤ 100000) := by
          have h1 : (plainT L).length = L.length := by simp [plainT]
          rw [hL.out] at h1
          have h2 := dueL_len s now k
          have h3 := hk.out.2
          have h4 := hO.out.few
          have h5 := hO.out.w2
          show L.length ≤ 100000
          omega
        have hsz : Hid (((dueU s now q).nxt - (dueU s now q).base).toNat < 1000) := by have := hS.out.ok.few; have := hS.out.ok.w2; show _ < _; omega
        clear hlt hLq hent htl hth hlq
        go_wp2_with fail
        refine (hcp.out _ ((Below.refl _ _).alloc (Nat.le_refl _) _)).mono ?_
        rintro e1 w2 ⟨v2, rfl, hO2, hb2⟩
        have hbk2 : Hid (Blk w2 wr.heap.size _ 98) := (blk_new wr _ _).kept hb2
        have hB2 : Hid (Below wr.heap.size wr w2) := ((Below.refl _ _).alloc (Nat.le_refl _) _).trans (hb2.mono (by simp))
        have hN2 : Hid (w.heap.size ≤ w2.heap.size) := Nat.le_trans hK.out.size hB2.out.size
        have hT2 : Hid (OwnsT w2 w.heap.size u5 L) := hT.out.kept hB2.out
        have hO2' : Hid (OwnsB w2 w.heap.size v2 e.zs) := hO2.base (by have := hK.out.size; simp; omega)
        have hS2 : Hid (Sd w2 B sb mb (dueU s now q)) := hS.out.kept hB2.out
        have hown : Hid (∀ g, u5.ownBlock = some g → g < wr.heap.size) := hT.out.own_lt
        have hwl : Hid (wr.heap.size < w2.heap.size) := hbk2.out.lt
        obtain ⟨a2, n2, c2', rfl, _⟩ := hO2.form
        clear hO2 hb2 hl hcp
        go_wp2_with (at_builtin; refine wpList_append_msg rfl _ _ rfl w.heap.size _ L (q, .slice a2 n2 c2', e.zs) rfl (hT2.out.alloc _) (hO2'.out.alloc _) w2.heap.size rfl (fun j _ => ((blk_new w2 _ _).cell j).trans Array.getElem?_toList.symm) hlen.out (by have := hN2.out; simp; omega) ?_; intro v4 w4 hT4 hg4; have hB4 : Hid (Below w.heap.size w2 w4) := ownT_below ((Below.refl _ _).alloc hN2.out _) (hT2.out.alloc _) hg4 (by have := hN2.out; simp; omega); have hbk4 : Hid (Blk w4 wr.heap.size #[.slice e.a e.n e.c, .int .i64 e.time, .int .i64 e.wait, .bool false] 98) := (hg4.block wr.heap.size (by have := hwl.out; simp; omega) (fun h => by have := hown.out _ h.symm; omega)).trans ((Below.heap_alloc _ _ _ hwl.out).trans hbk2.out); have hT4' : Hid (OwnsT w4 w.heap.size v4 (L ++ [(q, .slice a2 n2 c2', e.zs)])) := hT4; have hg4' : Hid ((w2.alloc _).grownBy w4 u5.ownBlock) := hg4; have d0 := hbk4.out.cell 0; have d1 := hbk4.out.cell 1; have d2 := hbk4.out.cell 2; have d3 := hbk4.out.cell 3; have g1 := hbk4.out.fz 1; have g2 := hbk4.out.fz 2; clear hT4 hg4)
        have hbk5 : Hid (Blk ((w4.setCell ⟨wr.heap.size, 1, none⟩ (.int .i64 (now + e.wait))).setCell ⟨wr.heap.size, 2, none⟩ (.int .i64 (min (2 * e.wait) 64))) wr.heap.size #[.slice e.a e.n e.c, .int .i64 (now + e.wait), .int .i64 (min (2 * e.wait) 64), .bool false] 98) := (hbk4.out.set 1 _).set 2 _
        have hB5 : Hid (Below w.heap.size w2 ((w4.setCell ⟨wr.heap.size, 1, none⟩ (.int .i64 (now + e.wait))).setCell ⟨wr.heap.size, 2, none⟩ (.int .i64 (min (2 * e.wait) 64)))) := (hB4.out.setCell (p := ⟨wr.heap.size, 1, none⟩) hK.out.size _).setCell (p := ⟨wr.heap.size, 2, none⟩) hK.out.size _
        have hT5 : Hid (OwnsT ((w4.setCell ⟨wr.heap.size, 1, none⟩ (.int .i64 (now + e.wait))).setCell ⟨wr.heap.size, 2, none⟩ (.int .i64 (min (2 * e.wait) 64))) w.heap.size v4 (L ++ [(q, .slice a2 n2 c2', e.zs)])) := (hT4'.out.set hbk4.out (by decide) (by decide) 1 _).set (hbk4.out.set 1 _) (by decide) (by decide) 2 _
        clear d0 d1 d2 d3 g1 g2 hbk4 hT4' hg4' hB4
        generalize (w4.setCell ⟨wr.heap.size, 1, none⟩ (.int .i64 (now + e.wait))).setCell ⟨wr.heap.size, 2, none⟩ (.int .i64 (min (2 * e.wait) 64)) = w5 at *
        have hS5 : Hid (Sd w5 B sb mb (dueU s now q)) := hS2.out.below hU.out hB5.out
        have hK5 : Hid (K2 sb mb w w5) := (hK.out.trans (K2.of_below hB2.out)).low hB5.out
        have d0 := hbk5.out.cell 0
        have d1 := hbk5.out.cell 1
        have d2 := hbk5.out.cell 2
        have d3 := hbk5.out.cell 3
        have c55 := hS5.out.c5
        obtain ⟨w6, hr, hm6, hg⟩ := hS5.out.mp.drew.store hsz.out hrg.out (Ent.val { nxtE now e with there := false })
        have hg6 : Hid (w5.grownBy w6 (some mb)) := ⟨hg.os, hg.tape, hg.output, hg.size, hg.block⟩
        have hS6 : Hid (Sd w6 B sb mb (dueU s now (q + 1))) := by
          show Sd _ _ _ _ _
          rw [← hst.out]
          have e9 : ({ nxtE now e with there := false } : Ent) = nxtE now e := by
            have : (nxtE now e).there = false := hthe.out
            cases hne : nxtE now e
            rw [hne] at this
            simp at this
            subst this
            rfl
          rw [e9] at hm6
          have h64 := hent'.out
          have hn0 := hm.out
          exact sd_put hS5.out hL2.out rfl rfl rfl rfl ⟨by show 0 ≤ now + e.wait; omega, by show now + e.wait ≤ _; omega, by show 1 ≤ min (2 * e.wait) 64; omega, by show min (2 * e.wait) 64 ≤ 64; omega⟩ hm6 hg6.out
        have hT6 : Hid (OwnsT w6 w.heap.size v4 (L ++ [(q, .slice a2 n2 c2', e.zs)])) := hT5.out.k2 (K2.of_g (q := sb) hg6.out) hU.out.1 hU.out.2.1
        have hK6 : Hid (K2 sb mb w w6) := hK5.out.trans (K2.of_g hg6.out)
        simp only [Ent.val, nxtE] at hr
        clear hm6 hg c5 c4 hg6 hT5 hS5 hK5
        go_region
        go_wp2
        exact ⟨⟨q + 1, k + 1, v4, L ++ [(q, .slice a2 n2 c2', e.zs)], rfl, rfl, ⟨by have := hk.out; omega, by have := hk.out; have := hlt'.out; have := hbq.out; omega⟩, hT6, (by show _ = _; rw [hL3.out]; simp [plainT]), hS6, hK6⟩, by have := hlt'.out; show (s.nxt - (q + 1)).toNat < (s.nxt - q).toNat; omega⟩
    · have hd : decide (q < s.nxt) = false := by simp; omega
      have hqn : q = s.nxt := by have := hk.out; have := hO.out.b2; omega
      have hkn : Hid (k = (s.nxt - s.base).toNat) := by have := hk.out; have := hO.out.b2; show _ = _; omega
      have hSn : Hid (Sd wr B sb mb (dueA s now)) := by show Sd _ _ _ _ _; unfold dueA; rw [← hqn]; exact hS.out
      have hUn : Hid (Up w.heap.size sb mb (dueA s now)) := due_up hU0.out
      clear hlt hqn c5
      go_wp2
      go_ret
      exact ⟨u5, L, rfl, hT, (by rw [← hkn.out]; exact hL), hSn, hUn, hK⟩
end Go.Proofs.YtfipdldoklkciaaGreat
namespace Go.Proofs.YtfipdldoklkciaaGreat
open Go.RowKit
set_option linter.unusedVariables false
structure De where
  a : Option Addr
  n : Nat
  c : Nat
  zs : List Int
  there : Bool
  time : Int
  wait : Int
def De.cs (e : De) : List Value := [.slice e.a e.n e.c, .bool e.there, .int .i64 e.time, .int .i64 e.wait]
structure Ds where
  win : Int
  base : Int
  lim : Int
  L : List De
def dCs (L : List De) : List Value := (L.map De.cs).flatten
theorem dCs_app (L M : List De) : dCs (L ++ M) = dCs L ++ dCs M := by simp [dCs]
theorem dCs_len (L : List De) : (dCs L).length = L.length * 4 := by
  induction L with
  | nil => rfl
  | cons e L ih => simp [dCs, De.cs] at ih ⊢; omega
theorem dCs_at {L : List De} {i : Nat} {p : De} (hi : L[i]? = some p) {j : Nat} (hj : j < 4) : (dCs L)[i * 4 + j]? = p.cs[j]? := by
  induction L generalizing i with
  | nil => simp at hi
  | cons e L ih =>
    cases i with
    | zero =>
      simp at hi
      subst hi
      show (e.cs ++ dCs L)[0 * 4 + j]? = _
      rw [List.getElem?_append_left (by simp [De.cs]; omega)]
      simp
    | succ i =>
      simp at hi
      show (e.cs ++ dCs L)[(i + 1) * 4 + j]? = _
      rw [List.getElem?_append_right (by simp [De.cs]; omega)]
      rw [show (i + 1) * 4 + j - e.cs.length = i * 4 + j by simp [De.cs]; omega]
      exact ih hi
/-- Nothing but C turned. -/
structure KS (C : Nat → Prop) (w w' : World) : Prop where
  os : w'.os = w.os
  tape : w'.tape = w.tape
  output : w'.output = w.output
  size : w.heap.size ≤ w'.heap.size
  block : ∀ k, k < w.heap.size → ¬ C k → w'.heap[k]? = w.heap[k]?
theorem KS.refl (C : Nat → Prop) (w : World) : KS C w w := ⟨rfl, rfl, rfl, Nat.le_refl _, fun _ _ _ => rfl⟩
theorem KS.trans {C : Nat → Prop} {a b c : World} (h : KS C a b) (k : KS C b c) : KS C a c :=
  ⟨k.os.trans h.os, k.tape.trans h.tape, k.output.trans h.output, Nat.le_trans h.size k.size, fun q hq hC => (k.block q (Nat.lt_of_lt_of_le hq h.size) hC).trans (h.block q hq hC)⟩
theorem KS.mono {C D : Nat → Prop} {w w' : World} (h : KS C w w') (hd : ∀ k, k < w.heap.size → C k → D k) : KS D w w' := ⟨h.os, h.tape, h.output, h.size, fun k hk hD => h.block k hk (fun hc => hD (hd k hk hc))⟩
theorem KS.of_below {C : Nat → Prop} {w w' : World} (h : Below w.heap.size w w') : KS C w w' := ⟨h.os, h.tape, h.output, h.size, fun k hk _ => h.block k hk⟩
theorem KS.set {C : Nat → Prop} (w : World) (q j : Nat) (hq : C q) (v : Value) : KS C w (w.setCell ⟨q, j, none⟩ v) := ⟨rfl, rfl, rfl, by simp [World.setCell], fun k hk h1 => Below.heap_setCell _ _ _ _ (fun e => h1 (by simp at e; rw [e]; exact hq))⟩
theorem KS.below {C : Nat → Prop} {B : Nat} {a w w' : World} (k : KS C w w') (h : Below B a w) (hB : B ≤ w.heap.size) (hC : ∀ i, C i → B ≤ i) : Below B a w' :=
  ⟨k.os.trans h.os, k.tape.trans h.tape, k.output.trans h.output, Nat.le_trans h.size k.size, fun i hi => (k.block i (by omega) (fun c => by have := hC i c; omega)).trans (h.block i hi)⟩
theorem Blk.ks {C : Nat → Prop} {w w' : World} {g : Nat} {cs : Array Value} {T : TypeId} (h : Blk w g cs T) (k : KS C w w') (hg : ¬ C g) : Blk w' g cs T := (k.block g h.lt hg).trans h
/-- THE ROW v HOLDS THESE LOADS, from some place of a block of E on. -/
structure RowD (w : World) (E : Nat → Prop) (v : Value) (L : List De) : Prop where
  form : ∃ a c, v = .slice a L.length c ∧ L.length ≤ c ∧ c ≤ 9223372036854775807 ∧ (a = none → c = 0)
  row : L = [] ∨ ∃ g off c cur, v = .slice (some ⟨g, off, none⟩) L.length c ∧ E g ∧ w.heap[g]? = some (.cells cur 147 (0, 0)) ∧ ∀ j u, (dCs L)[j]? = some u → cur[off + j]? = some u
  ent : ∀ e ∈ L, OwnsB w 0 (.slice e.a e.n e.c) e.zs
theorem RowD.keep {w w' : World} {E : Nat → Prop} {v : Value} {L : List De} (h : RowD w E v L) (hb : ∀ b, b < w.heap.size → True → (∃ cur e, w.heap[b]? = some (.cells cur e (0, 0)) ∧ (e = 147 ∨ e = 5)) → w'.heap[b]? = w.heap[b]?) : RowD w' E v L := by
  refine ⟨h.form, ?_, fun e he => ?_⟩
  · rcases h.row with h1 | ⟨g, off, c, cur, h1, h2, h3, h4⟩
    · exact .inl h1
    · exact .inr ⟨g, off, c, cur, h1, h2, (hb g (Array.getElem?_eq_some_iff.1 h3).1 trivial ⟨cur, _, h3, .inl rfl⟩).trans h3, h4⟩
  · obtain ⟨⟨h1, h2⟩, h3⟩ := h.ent e he
    refine ⟨⟨h1, ?_⟩, h3⟩
    rcases h2 with h2 | ⟨g, cap, cur, hv, hg, hc, r⟩
    · exact .inl h2
    · exact .inr ⟨g, cap, cur, hv, hg, by rw [hb g (Array.getElem?_eq_some_iff.1 hc).1 trivial ⟨cur, 5, hc, .inr rfl⟩]; exact hc, r⟩
theorem RowD.kept {w w' : World} {E : Nat → Prop} {v : Value} {L : List De} (h : RowD w E v L) (hb : Below w.heap.size w w') : RowD w' E v L :=
  h.keep fun b hb2 _ _ => hb.block b hb2
/-- One load's four cells. -/
theorem RowD.cells {w : World} {E : Nat → Prop} {v : Value} {L : List De} (h : RowD w E v L) {i : Nat} {e : De} (hi : L[i]? = some e) :
    ∃ g off c, v = .slice (some ⟨g, off, none⟩) L.length c ∧ E g ∧ g < w.heap.size ∧ (∀ j, j < 4 → w.cell? ⟨g, off + i * 4 + j, none⟩ = e.cs[j]?) ∧ (∀ j, w.frozen? ⟨g, j, none⟩ = false) ∧ L.length ≤ c ∧ ∃ cs, Blk w g cs 147 := by
  rcases h.row with h1 | ⟨g, off, c, cur, h1, h2, h3, h4⟩
  · rw [h1] at hi; simp at hi
  · refine ⟨g, off, c, h1, h2, (Array.getElem?_eq_some_iff.1 h3).1, fun j hj => ?_, fun j => ?_, ?_, ⟨cur, h3⟩⟩
    · have e1 := dCs_at hi hj
      have e2 : ∃ u, e.cs[j]? = some u := ⟨e.cs[j]'(by simp [De.cs]; omega), List.getElem?_eq_getElem _⟩
      obtain ⟨u, e2⟩ := e2
      rw [e2] at e1
      rw [cell_row h3, e2, show off + i * 4 + j = off + (i * 4 + j) by omega]
      exact h4 _ _ e1
    · exact Blk.fz (show Blk w g cur 147 from h3) j
    · obtain ⟨a, c', e1, e2, -⟩ := h.form
      rw [h1] at e1
      cases e1
      exact e2
theorem rowD_nil (w : World) (E : Nat → Prop) : RowD w E (.slice none 0 0) [] := ⟨⟨none, 0, rfl, Nat.le_refl _, by decide, fun _ => rfl⟩, .inl rfl, fun e he => by cases he⟩
/-- THE DOCUMENT'S LINK'S BLOCK: its sender lies in cells 3 to 6. -/
def XLk (w : World) (lb : Nat) (x : Nat → Value) (d : Ds) (v : Value) : Prop :=
  Blk w lb #[x 0, x 1, x 2, .int .i64 d.win, .int .i64 d.base, .int .i64 d.lim, v, x 7, x 8, x 9, x 10, x 11, x 12, x 13] 37
structure Dok (d : Ds) : Prop where
  w1 : 1 ≤ d.win
  w2 : d.win ≤ 32
  b1 : 1 ≤ d.base
  few : (d.L.length : Int) ≤ d.win
  l1 : d.base + (d.L.length : Int) - 1 ≤ d.lim
  l2 : d.lim ≤ 4611686018427387904
  ent : ∀ e ∈ d.L, e.zs.length = e.n ∧ e.n ≤ 1200 ∧ 0 ≤ e.time ∧ e.time ≤ 1099511627840 ∧ 1 ≤ e.wait ∧ e.wait ≤ 64
theorem ynext_any {w : World} {lb : Nat} {E : Nat → Prop} {x : Nat → Value} {d : Ds} {v : Value} (h : XLk w lb x d v) (hr : RowD w E v d.L) (hO : Dok d) :
    Calls Tryz.prog 96 #[.pointer (some ⟨lb, 3, none⟩)] w fun e w' => e = .returned (.int .i64 (d.base + d.L.length)) ∧ Below w.heap.size w w' := by
  obtain ⟨a, c, rfl, h1, h2, h3⟩ := hr.form
  have c4 : w.cell? ⟨lb, 4, none⟩ = some (.int .i64 d.base) := h.cell 4
  have c6 : w.cell? ⟨lb, 6, none⟩ = some (.slice a d.L.length c) := h.cell 6
  have wi : IntKind.i64.wrap (d.base + (d.L.length : Int)) = d.base + d.L.length := by rw [IntKind.wrap_i64]; have := hO.l1; have := hO.l2; have := hO.b1; omega
  clear h hr hO
  go_enter Tryz.func96, Tryz.ntmps96
  go_wp2
  go_region
  go_wp2
  go_ret
  exact ⟨rfl, (Below.refl _ _).drew⟩
theorem ytime_any (now : Int) (w : World) : Calls Tryz.prog 95 #[.int .i64 now] w fun e w' => e = .returned (.bool (timeB now)) ∧ w' = w := by
  unfold timeB
  cases h1 : decide (0 ≤ now) <;> cases h2 : decide (now ≤ 1099511627776) <;> (
    go_enter Tryz.func95, Tryz.ntmps95
    go_wp2
    go_ret
    all_goals simp_all)
theorem yacked_any {w : World} {lb : Nat} {E : Nat → Prop} {x : Nat → Value} {d : Ds} {v : Value} (ack credit : Int) (h : XLk w lb x d v) (hr : RowD w E v d.L) (hO : Dok d) :
    Calls Tryz.prog 104 #[.pointer (some ⟨lb, 3, none⟩), .int .i64 ack, .int .i64 credit] w fun e w' => e = .returned (.bool (decide (0 ≤ ack) && decide (ack < d.base + d.L.length) && decide (0 ≤ credit) && decide (credit ≤ 4611686018427387904))) ∧ Below w.heap.size w w' := by
  have k1 := ynext_any h hr hO
  clear h hr hO
  generalize d.base + (d.L.length : Int) = nx at *
  by_cases h1 : 0 ≤ ack
  · have d1 : decide (0 ≤ ack) = true := by simpa using h1
    by_cases h2 : ack < nx
    · have d2 : decide (ack < nx) = true := by simpa using h2
      by_cases h3 : 0 ≤ credit
      · have d3 : decide (0 ≤ credit) = true := by simpa using h3
        cases d4 : decide (credit ≤ 4611686018427387904) <;> (
          go_enter Tryz.func104, Tryz.ntmps104
          go_wp2_with (go_at_call 96; refine k1.mono ?_; rintro e w1 ⟨rfl, hb⟩)
          go_ret
          exact ⟨by simp [*], hb⟩)
      · have d3 : decide (0 ≤ credit) = false := by simpa using h3
        go_enter Tryz.func104, Tryz.ntmps104
        go_wp2_with (go_at_call 96; refine k1.mono ?_; rintro e w1 ⟨rfl, hb⟩)
        go_ret
        exact ⟨by simp [*], hb⟩
    · have d2 : decide (ack < nx) = false := by simpa using h2
      go_enter Tryz.func104, Tryz.ntmps104
      go_wp2_with (go_at_call 96; refine k1.mono ?_; rintro e w1 ⟨rfl, hb⟩)
      go_ret
      exact ⟨by simp [*], hb⟩
  · have d1 : decide (0 ≤ ack) = false := by simpa using h1
    go_enter Tryz.func104, Tryz.ntmps104
    go_wp2
    go_ret
    exact ⟨by simp [*], Below.refl _ _⟩
end Go.Proofs.YtfipdldoklkciaaGreat
