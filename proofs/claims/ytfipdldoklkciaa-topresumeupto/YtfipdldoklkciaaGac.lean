/-
  What a sender tells; a receiver.
-/
import Derived.Test.YtfipdldoklkciaaGab
import Derived.Deep.DeepAppendWide
import Derived.Deep.QuietTactic
import Derived.BigQuiet
import Derived.Lib.ConvBytes
import Derived.Lib.EndianBits
import Derived.Deep.MidRow
namespace Go.Proofs.Ytfipdldoklkciaa
open Go.RowKit
set_option linter.unusedVariables false
def ren (now : Int) (e : Ent) : Ent := { e with time := now, wait := 1, there := false }
def resU (s : St) (now q : Int) : St := { s with L := fun z => if z < q then (s.L z).map (ren now) else s.L z }
def lim2 (s : St) (credit : Int) : St := { s with lim := max credit (s.nxt - 1) }
def resA (s : St) (ack credit now : Int) : St := lim2 (resU (finA s ack) now s.nxt) credit
theorem res_none {s : St} {now : Int} (h : Ok s) : resU s now s.base = s := by
  refine St.ext' rfl rfl rfl rfl fun z => ?_
  show (if z < s.base then (s.L z).map (ren now) else s.L z) = s.L z
  split
  · have := h.inn z
    cases hL : s.L z with
    | none => rfl
    | some e => rw [hL] at this; simp at this; omega
  · rfl
theorem res_step {s : St} {now q : Int} {e : Ent} (hL : s.L q = some e) : setA (resU s now q) q (ren now e) = resU s now (q + 1) := by
  refine St.ext' rfl rfl rfl rfl fun z => ?_
  show (if z = q then some (ren now e) else if z < q then (s.L z).map (ren now) else s.L z) = if z < q + 1 then (s.L z).map (ren now) else s.L z
  by_cases hz : z = q
  · subst hz
    rw [if_pos rfl, if_pos (by omega), hL]; rfl
  · rw [if_neg hz]
    by_cases hq : z < q
    · rw [if_pos hq, if_pos (by omega)]
    · rw [if_neg hq, if_neg (by omega)]
theorem res_at {s : St} {now q : Int} : (resU s now q).L q = s.L q := by
  show (if q < q then (s.L q).map (ren now) else s.L q) = s.L q
  rw [if_neg (by omega)]
theorem sd_lim2 {w : World} {B sb mb : Nat} {s : St} {credit : Int} (h : Sd w B sb mb s) (hc : credit ≤ 4611686018427387904) : Sd (w.setCell ⟨sb, 2, none⟩ (.int .i64 (max credit (s.nxt - 1)))) B sb mb (lim2 s credit) := by
  refine ⟨?_, h.hs, h.hm, h.blk.set 2 _, h.mp.set h.ne 2 _, fun z e he => (h.ld z e he).k2 (K2.set w 2 _)⟩
  obtain ⟨w1, w2, b1, b2, few, l1, l2, inn, ent⟩ := h.ok
  refine ⟨w1, w2, b1, b2, few, ?_, ?_, inn, ent⟩
  · show s.nxt - 1 ≤ max credit (s.nxt - 1)
    omega
  · show max credit (s.nxt - 1) ≤ _
    omega
theorem res_bad {B sb mb : Nat} {s : St} {w : World} (ack credit now : Int) (h : Sd w B sb mb s) (hE : (timeB now && mayB s ack credit) = false) :
    Calls Try.prog 75 #[.pointer (some ⟨sb, 0, none⟩), .int .i64 ack, .int .i64 credit, .int .i64 now] w fun e w' => e = .returned (.int .i64 1) ∧ w' = w := by
  have k1 := made_yes sb w h.c0
  have k2 := may_any ack credit h
  have k3 := time_any now w
  cases ht : timeB now with
  | false =>
    rw [ht] at k3
    clear h hE k2 ht
    go_enter Try.func75, Try.ntmps75
    go_wp2_with (first | (go_at_call 89; refine k1.mono ?_; rintro e w1 ⟨rfl, hw1⟩; obtain rfl := hw1.symm) | (go_at_call 95; refine k3.mono ?_; rintro e w1 ⟨rfl, hw1⟩; obtain rfl := hw1.symm))
    go_ret
    all_goals simp_all
  | true =>
    rw [ht] at k3 hE
    rw [show mayB s ack credit = false by simpa using hE] at k2
    clear h hE ht
    go_enter Try.func75, Try.ntmps75
    go_wp2_with (first | (go_at_call 89; refine k1.mono ?_; rintro e w1 ⟨rfl, hw1⟩; obtain rfl := hw1.symm) | (go_at_call 95; refine k3.mono ?_; rintro e w1 ⟨rfl, hw1⟩; obtain rfl := hw1.symm) | (go_at_call 90; refine k2.mono ?_; rintro e w1 ⟨rfl, hw1⟩; obtain rfl := hw1.symm))
    go_ret
    all_goals simp_all
theorem field0 (e : Ent) (w : World) : (Instr.field 145 (.agg #[.slice e.a e.n e.c, .int .i64 e.time, .int .i64 e.wait, .bool e.there]) 0).run Try.prog w = .ok (.slice e.a e.n e.c) w := by kernel_rfl
set_option maxHeartbeats 1000000 in
theorem res_ok {B sb mb : Nat} {s : St} {w : World} (ack credit now : Int) (h : Sd w B sb mb s) (hE : (timeB now && mayB s ack credit) = true) :
    Calls Try.prog 75 #[.pointer (some ⟨sb, 0, none⟩), .int .i64 ack, .int .i64 credit, .int .i64 now] w fun e w' => e = .returned (.int .i64 0) ∧ Hid (Sd w' B sb mb (resA s ack credit now)) ∧ Hid (K2 sb mb w w') := by
  obtain ⟨ht, hM⟩ : timeB now = true ∧ mayB s ack credit = true := by simpa using hE
  have k1 := made_yes sb w h.c0
  have k2 := may_any ack credit h
  have k3 := time_any now w
  rw [hM] at k2
  rw [ht] at k3
  have hm : Hid (0 ≤ now ∧ now ≤ 1099511627776 ∧ credit ≤ 4611686018427387904) := by
    simp [mayB] at hM
    simp [timeB] at ht
    show _ ∧ _ ∧ _
    omega
  have k4 := finish_any ack h (by simp [mayB] at hM; omega)
  have hA : Hid (resA s ack credit now = lim2 (resU (finA s ack) now (finA s ack).nxt) credit) := rfl
  clear h hE ht hM
  generalize finA s ack = s1 at *
  go_enter Try.func75, Try.ntmps75
  go_wp2_with (first | (go_at_call 89; refine k1.mono ?_; rintro e w1 ⟨rfl, hw1⟩; obtain rfl := hw1.symm; clear k1 hw1) | (go_at_call 95; refine k3.mono ?_; rintro e w1 ⟨rfl, hw1⟩; obtain rfl := hw1.symm; clear k3 hw1) | (go_at_call 90; refine k2.mono ?_; rintro e w1 ⟨rfl, hw1⟩; obtain rfl := hw1.symm; clear k2 hw1) | (go_at_call 91; refine k4.mono ?_; rintro e w1 ⟨rfl, hS1, hK1⟩; clear k4; have c31 := hS1.out.c3))
  go_loopw [9] (fun s9 wr => ∃ q : Int, s9 = .int .i64 q ∧ Hid (s1.base ≤ q ∧ q ≤ s1.nxt) ∧ Hid (Sd wr B sb mb (resU s1 now q)) ∧ Hid (K2 sb mb w wr)) (fun q _ => (s1.nxt - intOf q).toNat)
  case atStart => exact ⟨s1.base, rfl, ⟨Int.le_refl _, hS1.out.ok.b2⟩, (by show Sd _ _ _ _ _; rw [res_none hS1.out.ok]; exact hS1.out), hK1⟩
  case round =>
    obtain ⟨q, rfl, hq, hS, hK⟩ := hrel
    have c4 : wr.cell? ⟨sb, 4, none⟩ = some (.int .i64 s1.nxt) := hS.out.c4
    have c5 := hS.out.c5
    by_cases hlt : q < s1.nxt
    · have hd : decide (q < s1.nxt) = true := by simp; omega
      have hrg : Hid (-9223372036854775808 ≤ q ∧ q < 9223372036854775808) := by
        have := hS1.out.ok.b1; have := hS1.out.ok.l1; have := hS1.out.ok.l2; have := hq.out
        show _ ∧ _; omega
      have hwr : IntKind.i64.wrap (q + 1) = q + 1 := by
        have := hS1.out.ok.b1; have := hS1.out.ok.l1; have := hS1.out.ok.l2; have := hq.out
        rw [IntKind.wrap_i64]; omega
      have hl := hS.out.mp.drew.look hrg.out
      cases hL : s1.L q with
      | none => have := (hS1.out.ok.inn q).2 ⟨hq.out.1, hlt⟩; rw [hL] at this; cases this
      | some e =>
      have hL2 : Hid ((resU s1 now q).L q = some e) := res_at.trans hL
      have hst : Hid (setA (resU s1 now q) q (ren now e) = resU s1 now (q + 1)) := res_step hL
      have hf := field0 e
      rw [show (resU s1 now q).f q = some e.val by simp [St.f, hL2.out]] at hl
      simp only [Option.getD_some, Ent.val] at hl
      have hsz : Hid (((resU s1 now q).nxt - (resU s1 now q).base).toNat < 1000) := by have := hS.out.ok.few; have := hS.out.ok.w2; show _ < _; omega
      have SK : Hid (∀ w', Below wr.heap.size wr w' → w'.cell? ⟨sb, 5, none⟩ = some (.map (some mb))) := fun w' hb => (hS.out.kept hb).c5
      have hB1 : Hid (Below wr.heap.size wr wr) := Below.refl _ _
      have hlt' : Hid (q < s1.nxt) := hlt
      clear hL hlt hS1 c31 hK1
      go_wp2
      go_region_held3 (fun wx => wx.cell? ⟨sb, 5, none⟩ = some (.map (some mb))) ((first | with_reducible exact cc5 | ((with_reducible refine SK.out _ ?_); (repeat' with_reducible first | exact hB1.out | exact hB4.out | refine Below.drew ?_)))) (first
        | (go_at_call 96; refine (outF_any _ _ _ _ _).mono ?_; rintro e w4 ⟨rfl, hb4⟩; have hB4 : Hid (Below wr.heap.size wr w4) := hB1.out.drew.trans hb4; have hS4 : Hid (Sd w4 B sb mb (resU s1 now q)) := hS.out.kept hB4.out; obtain ⟨w5, hr, hm4, hg⟩ := hS4.out.mp.store hsz.out hrg.out (ren now e).val; simp only [ren, Ent.val] at hr; have hS5 : Hid (Sd w5 B sb mb (resU s1 now (q + 1))) := (by show Sd _ _ _ _ _; rw [← hst.out]; exact sd_put hS4.out hL2.out rfl rfl rfl rfl ⟨hm.out.1, (by have := hm.out.2.1; show now ≤ _; omega), (by show (1 : Int) ≤ 1; omega), (by show (1 : Int) ≤ 64; omega)⟩ hm4 hg); have hK5 : Hid (K2 sb mb w w5) := hK.out.trans ((K2.of_below hB4.out).trans (K2.of_g hg)); have cc5 := hS5.out.c5; clear hm4 hg hb4))
      go_wp2
      exact ⟨⟨q + 1, rfl, ⟨(by have := hq.out; omega), (by have := hlt'.out; omega)⟩, hS5, hK5⟩, by have := hlt'.out; show (s1.nxt - (q + 1)).toNat < (s1.nxt - q).toNat; omega⟩
    · have hd : decide (q < s1.nxt) = false := by simp; omega
      obtain rfl : q = s1.nxt := by have := hq.out; omega
      have k5 : Calls Try.prog 103 #[.pointer (some ⟨sb, 0, none⟩)] wr fun e w' => e = .returned (.int .i64 (s1.nxt - 1)) ∧ w' = wr := last_any (s := resU s1 now s1.nxt) hS.out
      have f2 := hS.out.blk.fz 2
      have c2 := hS.out.c2
      clear hlt hS1 c31 hK1 c5
      go_wp2_with (go_at_call 103; refine k5.mono ?_; rintro e w1 ⟨rfl, hw1⟩; obtain rfl := hw1.symm)
      go_ret
      refine ⟨rfl, ?_, ?_⟩
      · rw [hA.out]
        exact sd_lim2 hS.out hm.out.2.2
      · exact hK.out.trans (K2.set _ 2 _)
end Go.Proofs.Ytfipdldoklkciaa
namespace Go.Proofs.Ytfipdldoklkciaa
open Go.RowKit
set_option linter.unusedVariables false
/-- A message's cells: its number, and its load's slice. -/
def msC (p : Int × Value × List Int) : List Value := [.int .i64 1, .int .u64 0, .int .i64 0, .int .i64 p.1, .int .i64 0, .int .u64 0, .int .i64 0, .int .i64 0, p.2.1]
def msCs (L : List (Int × Value × List Int)) : List Value := (L.map msC).flatten
theorem msCs_snoc (L : List (Int × Value × List Int)) (t : Int × Value × List Int) : msCs (L ++ [t]) = msCs L ++ msC t := by simp [msCs]
theorem msCs_len (L : List (Int × Value × List Int)) : (msCs L).length = L.length * 9 := by
  induction L with
  | nil => rfl
  | cons t L ih =>
    have : msCs (t :: L) = msC t ++ msCs L := rfl
    rw [this, List.length_append, ih, List.length_cons]
    simp [msC]; omega
/-- THE SLICE v HOLDS THESE MESSAGES, IN NEW MEMORY. -/
def OwnsT (w : World) (base : Nat) (v : Value) (L : List (Int × Value × List Int)) : Prop := w.ownsRow base 25 9 v L.length (msCs L) ∧ ∀ p ∈ L, OwnsB w base p.2.1 p.2.2
theorem ownsT_nil (w : World) (base : Nat) : OwnsT w base (.slice none 0 0) [] := ⟨World.ownsRow_nil w base 25 9, by simp⟩
theorem infoM : (Try.prog.info? 25).map (fun i => (i.zero, i.size, i.bytes)) = some (some (.agg #[.int .i64 0, .int .u64 0, .int .i64 0, .int .i64 0, .int .i64 0, .int .u64 0, .int .i64 0, .int .i64 0, .slice none 0 0]), 9, 88) := by kernel_rfl
theorem ownsRow_keep {w w' : World} {base e k n : Nat} {v : Value} {cs : List Value} (h : w.ownsRow base e k v n cs) (hb : ∀ b cur, base ≤ b → w.heap[b]? = some (.cells cur e (0, 0)) → w'.heap[b]? = w.heap[b]?) : w'.ownsRow base e k v n cs := by
  obtain ⟨h1, h2⟩ := h
  refine ⟨h1, ?_⟩
  rcases h2 with h2 | ⟨g, cap, cur, hv, hg, hc, r⟩
  · exact .inl h2
  · exact .inr ⟨g, cap, cur, hv, hg, by rw [hb g cur hg hc]; exact hc, r⟩
theorem OwnsT.keep {w w' : World} {base : Nat} {v : Value} {L : List (Int × Value × List Int)} (h : OwnsT w base v L) (hb : ∀ b cur e, base ≤ b → w.heap[b]? = some (.cells cur e (0, 0)) → e = 25 ∨ e = 5 → w'.heap[b]? = w.heap[b]?) : OwnsT w' base v L :=
  ⟨ownsRow_keep h.1 (fun b cur h1 h2 => hb b cur _ h1 h2 (.inl rfl)), fun p hp => ⟨ownsRow_keep (h.2 p hp).1 (fun b cur h1 h2 => hb b cur _ h1 h2 (.inr rfl)), (h.2 p hp).2⟩⟩
theorem OwnsT.kept {w w' : World} {base : Nat} {v : Value} {L : List (Int × Value × List Int)} (h : OwnsT w base v L) (hb : Below w.heap.size w w') : OwnsT w' base v L :=
  h.keep fun b cur e _ h2 _ => hb.block b (Array.getElem?_eq_some_iff.1 h2).1
theorem OwnsT.alloc {w : World} {base : Nat} {v : Value} {L : List (Int × Value × List Int)} (h : OwnsT w base v L) (o : Obj) : OwnsT (w.alloc o) base v L := h.kept ((Below.refl _ _).alloc (Nat.le_refl _) o)
theorem OwnsT.k2 {q g : Nat} {w w' : World} {base : Nat} {v : Value} {L : List (Int × Value × List Int)} (h : OwnsT w base v L) (k : K2 q g w w') (hq : q < base) (hg : g < base) : OwnsT w' base v L :=
  h.keep fun b cur e h1 h2 _ => k.block b (Array.getElem?_eq_some_iff.1 h2).1 (by omega) (by omega)
theorem OwnsT.form {w : World} {base : Nat} {v : Value} {L : List (Int × Value × List Int)} (h : OwnsT w base v L) : ∃ a n cap, v = .slice a n cap ∧ n = L.length ∧ n ≤ cap ∧ cap ≤ 9223372036854775807 := by
  rcases h.1.2 with ⟨hv, hn⟩ | ⟨g, cap, cur, hv, hg, hc, hnc, hcm, r⟩
  · exact ⟨none, 0, 0, hv, hn.symm, by omega, by omega⟩
  · exact ⟨some ⟨g, 0, none⟩, L.length, cap, hv, rfl, hnc, by unfold maxLen at hcm; omega⟩
theorem addr_add0 (g j : Nat) : (⟨g, 0, none⟩ : Addr).add j = ⟨g, j, none⟩ := by simp [Addr.add]; exact fun h => h.symm
/-- What is told at a place. -/
theorem OwnsT.cells {w : World} {base : Nat} {v : Value} {L : List (Int × Value × List Int)} (h : OwnsT w base v L) {i : Nat} {p : Int × Value × List Int} (hi : L[i]? = some p) :
    ∃ g cap, v = .slice (some ⟨g, 0, none⟩) L.length cap ∧ base ≤ g ∧ g < w.heap.size ∧ ∀ j, j < 9 → w.cell? ⟨g, i * 9 + j, none⟩ = (msC p)[j]? := by
  have hlt : i < L.length := (List.getElem?_eq_some_iff.1 hi).1
  rcases h.1.2 with ⟨hv, hn⟩ | ⟨g, cap, cur, hv, hg, hc, hnc, hcm, hcs, htk⟩
  · omega
  · refine ⟨g, cap, hv, hg, (Array.getElem?_eq_some_iff.1 hc).1, fun j hj => ?_⟩
    rw [cell_row hc, ← Array.getElem?_toList]
    have h1 : (cur.toList.take (L.length * 9))[i * 9 + j]? = (msCs L)[i * 9 + j]? := by rw [htk]
    rw [List.getElem?_take, if_pos (by omega)] at h1
    rw [h1]
    clear h1 htk hcs hc hcm hnc hg hv h
    induction L generalizing i with
    | nil => simp at hi
    | cons t L ih =>
      have e : msCs (t :: L) = msC t ++ msCs L := rfl
      rw [e]
      cases i with
      | zero =>
        simp at hi
        subst hi
        rw [Nat.zero_mul, Nat.zero_add, List.getElem?_append_left (by simp [msC]; omega)]
      | succ i =>
        rw [List.getElem?_append_right (by simp [msC]; omega)]
        rw [show (i + 1) * 9 + j - (msC t).length = i * 9 + j by simp [msC]; omega]
        exact ih (by simpa using hi) (by simpa using hlt)
/-- 'append(v, x)'. -/
theorem wpList_append_msg {w : World} {ops : Array Oper} {rest : List Oper} {o : Oper} {a : Act} {Q : Exit → Act → World → Prop} (hgd : o.guard = none) (s x : Operand)
    (ho : o.op = .call { callee := .builtin .append, args := #[s, x], argTypes := #[110, 110] })
    (base : Nat) (v : Value) (L : List (Int × Value × List Int)) (t : Int × Value × List Int) (hs : a.eval s = v) (hown : OwnsT w base v L) (ht : OwnsB w base t.2.1 t.2.2)
    (g : Nat) (hx : a.eval x = .slice (some ⟨g, 0, none⟩) 1 1) (hb : ∀ j, j < 9 → w.cell? ⟨g, j, none⟩ = (msC t)[j]?)
    (hlen : L.length ≤ 100000) (hbase : base ≤ w.heap.size)
    (h : ∀ v' w', OwnsT w' base v' (L ++ [t]) → w.grownBy w' v.ownBlock → wpList Try.prog ops Q rest (a.put o.dst v') w') : wpList Try.prog ops Q (o :: rest) a w := by
  obtain ⟨i, hi, hz, hsz, hby⟩ := info_parts infoM
  refine wpList_append_own_wide w hgd s x 110 ho base 25 i _ 9 88 Try.underlying110 hi hz hsz hby rfl (by decide) v L.length _ hs hown.1 ⟨g, 0, none⟩ 1 1 (msC t) hx rfl ?_ ?_ (by unfold maxLen; omega) (by omega) hbase ?_
  · intro j u hu
    have hj : j < 9 := (List.getElem?_eq_some_iff.1 hu).1
    rw [addr_add0, hb j hj]; exact hu
  · intro u hu
    obtain ⟨pa, pc, e, _⟩ := ht.shape
    simp [msC, e] at hu
    rcases hu with rfl | rfl | rfl | rfl | rfl | rfl | rfl | rfl | rfl <;> rfl
  · intro v' w' h1 h2 _
    refine h v' w' ⟨?_, fun p hp => ?_⟩ h2
    · rw [List.length_append, msCs_snoc]
      exact h1
    · have hk : ∀ p : Int × Value × List Int, OwnsB w base p.2.1 p.2.2 → OwnsB w' base p.2.1 p.2.2 := fun p hp => ⟨ownsRow_keep hp.1 (fun b cur h3 h4 => h2.block b (Array.getElem?_eq_some_iff.1 h4).1 (fun e => by
        rcases hown.1.2 with ⟨rfl, _⟩ | ⟨g', cap', cur', rfl, _, hc', _⟩
        · simp [Value.ownBlock] at e
        · simp [Value.ownBlock] at e
          subst e
          rw [h4] at hc'
          cases hc')), hp.2⟩
      rcases List.mem_append.1 hp with hp | hp
      · exact hk p (hown.2 p hp)
      · simp at hp
        subst hp
        exact hk _ ht
theorem ownT_below {w w1 w2 : World} {base : Nat} {v : Value} {L : List (Int × Value × List Int)} (hb : Below base w w1) (h : OwnsT w1 base v L) (hg : w1.grownBy w2 v.ownBlock) (hB : base ≤ w1.heap.size) : Below base w w2 :=
  hb.grown hg hB fun k hk => by
    rcases h.1.2 with ⟨rfl, _⟩ | ⟨g, cap, cur, rfl, hg', _⟩
    · simp [Value.ownBlock] at hk
    · simp [Value.ownBlock] at hk
      omega
/-- All of a sender's blocks lie below N. -/
def Up (N sb mb : Nat) (s : St) : Prop := sb < N ∧ mb < N ∧ ∀ z e x, s.L z = some e → e.a = some x → x.block < N
theorem Sd.up {w : World} {B sb mb : Nat} {s : St} (h : Sd w B sb mb s) : Up w.heap.size sb mb s := ⟨h.blk.lt, h.mp.lt, fun z e x he hx => ((h.ld z e he).at_ x hx).2.1⟩
theorem Sd.below {w w' : World} {N B sb mb : Nat} {s : St} (h : Sd w B sb mb s) (u : Up N sb mb s) (hb : Below N w w') : Sd w' B sb mb s := by
  refine ⟨h.ok, h.hs, h.hm, ?_, ?_, fun z e he => ?_⟩
  · unfold Blk
    rw [hb.block sb u.1]
    exact h.blk
  · obtain ⟨D, ⟨es, clock, h1, h2⟩, h3⟩ := h.mp
    exact ⟨D, ⟨es, clock, by rw [hb.block mb u.2.1]; exact h1, h2⟩, h3⟩
  · have l := h.ld z e he
    exact ⟨l.by_.below hb (fun x hx _ => u.2.2 z e x he hx), l.nil, l.le, l.mx, fun x hx => ⟨(l.at_ x hx).1, Nat.lt_of_lt_of_le (l.at_ x hx).2.1 hb.size, (l.at_ x hx).2.2⟩, fun x hx => (l.ty x hx).imp fun cs hc => (hb.block x.block (u.2.2 z e x he hx)).trans hc⟩
end Go.Proofs.Ytfipdldoklkciaa
namespace Go.Proofs.Ytfipdldoklkciaa
open Go.RowKit
set_option linter.unusedVariables false
def tellB (now : Int) (e : Ent) : Bool := !e.there && decide (e.time ≤ now)
def nxtE (now : Int) (e : Ent) : Ent := { e with time := now + e.wait, wait := min (2 * e.wait) 64 }
def dueE (now : Int) (e : Ent) : Ent := if tellB now e = true then nxtE now e else e
def dueU (s : St) (now q : Int) : St := { s with L := fun z => if z < q then (s.L z).map (dueE now) else s.L z }
def dueA (s : St) (now : Int) : St := dueU s now s.nxt
/-- What is told of the first k numbers from the base on. -/
def dueL (s : St) (now : Int) : Nat → List (Int × List Int)
  | 0 => []
  | k + 1 => dueL s now k ++ (match s.L (s.base + (k : Int)) with | some e => if tellB now e = true then [(s.base + (k : Int), e.zs)] else [] | none => [])
theorem dueL_len (s : St) (now : Int) : ∀ k, (dueL s now k).length ≤ k
  | 0 => by simp [dueL]
  | k + 1 => by
    have := dueL_len s now k
    unfold dueL
    rw [List.length_append]
    split
    · split <;> simp <;> omega
    · simp; omega
theorem due_none {s : St} {now : Int} (h : Ok s) : dueU s now s.base = s := by
  refine St.ext' rfl rfl rfl rfl fun z => ?_
  show (if z < s.base then (s.L z).map (dueE now) else s.L z) = s.L z
  split
  · have := h.inn z
    cases hL : s.L z with
    | none => rfl
    | some e => rw [hL] at this; simp at this; omega
  · rfl
theorem due_step {s : St} {now q : Int} {e : Ent} (hL : s.L q = some e) (ht : tellB now e = true) : setA (dueU s now q) q (nxtE now e) = dueU s now (q + 1) := by
  refine St.ext' rfl rfl rfl rfl fun z => ?_
  show (if z = q then some (nxtE now e) else if z < q then (s.L z).map (dueE now) else s.L z) = if z < q + 1 then (s.L z).map (dueE now) else s.L z
  by_cases hz : z = q
  · subst hz
    rw [if_pos rfl, if_pos (by omega), hL]
    show _ = some (dueE now e)
    unfold dueE
    rw [if_pos ht]
  · rw [if_neg hz]
    by_cases hq : z < q
    · rw [if_pos hq, if_pos (by omega)]
    · rw [if_neg hq, if_neg (by omega)]
theorem due_skip {s : St} {now q : Int} {e : Ent} (hL : s.L q = some e) (ht : tellB now e = false) : dueU s now (q + 1) = dueU s now q := by
  refine St.ext' rfl rfl rfl rfl fun z => ?_
  show (if z < q + 1 then (s.L z).map (dueE now) else s.L z) = if z < q then (s.L z).map (dueE now) else s.L z
  by_cases hz : z = q
  · subst hz
    rw [if_pos (by omega), if_neg (by omega), hL]
    show some (dueE now e) = _
    unfold dueE
    rw [if_neg (by simp [ht])]
  · by_cases hq : z < q
    · rw [if_pos hq, if_pos (by omega)]
    · rw [if_neg hq, if_neg (by omega)]
theorem due_at {s : St} {now q : Int} : (dueU s now q).L q = s.L q := by
  show (if q < q then (s.L q).map (dueE now) else s.L q) = s.L q
  rw [if_neg (by omega)]
theorem due_up {N sb mb : Nat} {s : St} {now q : Int} (h : Up N sb mb s) : Up N sb mb (dueU s now q) := by
  refine ⟨h.1, h.2.1, fun z e x he hx => ?_⟩
  have he : (if z < q then (s.L z).map (dueE now) else s.L z) = some e := he
  split at he
  · cases hL : s.L z with
    | none => rw [hL] at he; cases he
    | some e1 =>
      rw [hL] at he
      simp at he
      refine h.2.2 z e1 x hL ?_
      rw [← he] at hx
      unfold dueE at hx
      split at hx <;> exact hx
  · exact h.2.2 z e x he hx
theorem due_bad {B sb mb : Nat} {s : St} {w : World} (now : Int) (h : Sd w B sb mb s) (ht : timeB now = false) :
    Calls Try.prog 65 #[.pointer (some ⟨sb, 0, none⟩), .int .i64 now] w fun e w' => e = .returned (.slice none 0 0) ∧ w' = w := by
  have k1 := made_yes sb w h.c0
  have k3 := time_any now w
  rw [ht] at k3
  clear h ht
  go_enter Try.func65, Try.ntmps65
  go_wp2_with (first | (go_at_call 89; refine k1.mono ?_; rintro e w1 ⟨rfl, hw1⟩; obtain rfl := hw1.symm) | (go_at_call 95; refine k3.mono ?_; rintro e w1 ⟨rfl, hw1⟩; obtain rfl := hw1.symm))
  go_ret
  all_goals simp_all
theorem OwnsB.base {w : World} {b b' : Nat} {v : Value} {zs : List Int} (h : OwnsB w b v zs) (hb : b' ≤ b) : OwnsB w b' v zs := by
  obtain ⟨⟨h1, h2⟩, h3⟩ := h
  refine ⟨⟨h1, ?_⟩, h3⟩
  rcases h2 with h2 | ⟨g, cap, cur, hv, hg, r⟩
  · exact .inl h2
  · exact .inr ⟨g, cap, cur, hv, Nat.le_trans hb hg, r⟩
theorem OwnsT.own_lt {w : World} {base : Nat} {v : Value} {L : List (Int × Value × List Int)} (h : OwnsT w base v L) : ∀ g, v.ownBlock = some g → g < w.heap.size := by
  intro g hg
  rcases h.1.2 with ⟨rfl, _⟩ | ⟨g', cap, cur, rfl, _, hc, _⟩
  · simp [Value.ownBlock] at hg
  · simp [Value.ownBlock] at hg
    subst hg
    exact (Array.getElem?_eq_some_iff.1 hc).1
theorem OwnsT.set {w : World} {base g : Nat} {v : Value} {L : List (Int × Value × List Int)} {cs : Array Value} {T : TypeId} (h : OwnsT w base v L) (hb : Blk w g cs T) (h1 : T ≠ 25) (h2 : T ≠ 5) (j : Nat) (u : Value) : OwnsT (w.setCell ⟨g, j, none⟩ u) base v L :=
  h.keep fun b cur e _ h4 h5 => Below.heap_setCell _ _ _ _ (fun e1 => by
    have e2 : b = g := e1
    subst e2
    unfold Blk at hb
    rw [h4] at hb
    injection hb with hb
    injection hb with _ hb
    rcases h5 with rfl | rfl
    · exact h1 hb.symm
    · exact h2 hb.symm)
theorem K2.low {q g : Nat} {w w1 w2 : World} (k : K2 q g w w1) (b : Below w.heap.size w1 w2) : K2 q g w w2 :=
  ⟨b.os.trans k.os, b.tape.trans k.tape, b.output.trans k.output, Nat.le_trans k.size b.size, fun i hi h1 h2 => (b.block i hi).trans (k.block i hi h1 h2)⟩
def plainT (L : List (Int × Value × List Int)) : List (Int × List Int) := L.map fun p => (p.1, p.2.2)
set_option maxHeartbeats 2000000 in
theorem due_ok {B sb mb : Nat} {s : St} {w : World} (now : Int) (h : Sd w B sb mb s) (ht : timeB now = true) :
    Calls Try.prog 65 #[.pointer (some ⟨sb, 0, none⟩), .int .i64 now] w fun e w' => ∃ v L, e = .returned v ∧ Hid (OwnsT w' w.heap.size v L) ∧ Hid (plainT L = dueL s now (s.nxt - s.base).toNat) ∧ Hid (Sd w' B sb mb (dueA s now)) ∧ Hid (Up w.heap.size sb mb (dueA s now)) ∧ Hid (K2 sb mb w w') := by
  have k1 := made_yes sb w h.c0
  have k3 := time_any now w
  rw [ht] at k3
  have c3 := h.c3
  have hS0 : Hid (Sd w B sb mb s) := h
  have hU0 : Hid (Up w.heap.size sb mb s) := h.up
  have hm : Hid (0 ≤ now ∧ now ≤ 1099511627776) := by simp [timeB] at ht; exact ht
  have hO : Hid (Ok s) := h.ok
  clear h ht
  go_enter Try.func65, Try.ntmps65
  go_wp2_with (first | (go_at_call 89; refine k1.mono ?_; rintro e w1 ⟨rfl, hw1⟩; obtain rfl := hw1.symm; clear k1 hw1) | (go_at_call 95; refine k3.mono ?_; rintro e w1 ⟨rfl, hw1⟩; obtain rfl := hw1.symm; clear k3 hw1))
  go_loopw [5, 6, 7] (fun s5 s6 _ wr => ∃ (q : Int) (k : Nat) (v : Value) (L : List (Int × Value × List Int)), s5 = v ∧ s6 = .int .i64 q ∧ Hid (q = s.base + (k : Int) ∧ k ≤ (s.nxt - s.base).toNat) ∧ Hid (OwnsT wr w.heap.size v L) ∧ Hid (plainT L = dueL s now k) ∧ Hid (Sd wr B sb mb (dueU s now q)) ∧ Hid (K2 sb mb w wr)) (fun _ q _ _ => (s.nxt - intOf q).toNat)
  case atStart => exact ⟨s.base, 0, _, [], rfl, rfl, ⟨by simp, Nat.zero_le _⟩, ownsT_nil _ _, rfl, (by show Sd _ _ _ _ _; rw [due_none hO.out]; exact hS0.out), K2.refl _ _ _⟩
  case round =>
    obtain ⟨q, k, v, L, rfl, rfl, hk, hT, hL, hS, hK⟩ := hrel
    have c4 : wr.cell? ⟨sb, 4, none⟩ = some (.int .i64 s.nxt) := hS.out.c4
    have c5 := hS.out.c5
    have hU : Hid (Up w.heap.size sb mb (dueU s now q)) := due_up hU0.out
    by_cases hlt : q < s.nxt
    · have hd : decide (q < s.nxt) = true := by simp; omega
      have hbq : Hid (s.base ≤ q) := by have := hk.out; show _ ≤ _; omega
      have hrg : Hid (-9223372036854775808 ≤ q ∧ q < 9223372036854775808) := by
        have := hO.out.b1; have := hO.out.l1; have := hO.out.l2; have := hbq.out
        show _ ∧ _; omega
      have hwr : IntKind.i64.wrap (q + 1) = q + 1 := by
        have := hO.out.b1; have := hO.out.l1; have := hO.out.l2; have := hbq.out
        rw [IntKind.wrap_i64]; omega
      have hl := hS.out.mp.look hrg.out
      cases hLq : s.L q with
      | none => have := (hO.out.inn q).2 ⟨hbq.out, hlt⟩; rw [hLq] at this; cases this
      | some e =>
      have hL2 : Hid ((dueU s now q).L q = some e) := due_at.trans hLq
      rw [show (dueU s now q).f q = some e.val by simp [St.f, hL2.out]] at hl
      simp only [Option.getD_some, Ent.val] at hl
      have hlt' : Hid (q < s.nxt) := hlt
      have hLq' : Hid (s.L q = some e) := hLq
      have hLq2 : Hid (s.L (s.base + (k : Int)) = some e) := by show _ = _; rw [← hk.out.1]; exact hLq
      have hent := hO.out.ent q e hLq
      have hsb := hS.out.blk.lt
      cases htl : tellB now e with
      | false =>
        have hS2 : Hid (Sd wr B sb mb (dueU s now (q + 1))) := by show Sd _ _ _ _ _; rw [due_skip hLq htl]; exact hS.out
        have hL3 : Hid (plainT L = dueL s now (k + 1)) := by show _ = _; rw [dueL, hLq2.out]; simp only [htl]; rw [hL.out]; simp
        have hend : ∀ (wx : World), Below wr.heap.size wr wx → Hid (((∃ (q' : Int) (k : Nat) (v' : Value) (L : List (Int × Value × List Int)), u5 = v' ∧ Value.int .i64 (q + 1) = .int .i64 q' ∧ Hid (q' = s.base + (k : Int) ∧ k ≤ (s.nxt - s.base).toNat) ∧ Hid (OwnsT wx w.heap.size v' L) ∧ Hid (plainT L = dueL s now k) ∧ Hid (Sd wx B sb mb (dueU s now q')) ∧ Hid (K2 sb mb w wx))) ∧ (s.nxt - (q + 1)).toNat < (s.nxt - q).toNat) := fun wx hb =>
          ⟨⟨q + 1, k + 1, u5, L, rfl, rfl, ⟨by have := hk.out; omega, by have := hk.out; omega⟩, hT.out.kept hb, hL3.out, hS2.out.kept hb, hK.out.trans (K2.of_below hb)⟩, by have := hlt'.out; omega⟩
        cases hth : e.there with
        | true =>
          rw [hth] at hl
          clear hlt hLq hent htl hth
          go_wp2
          refine (hend _ ?_).out
          exact (Below.refl _ _).alloc (Nat.le_refl _) _
        | false =>
          have hdt : decide (e.time > now) = true := by simp [tellB, hth] at htl; simp; omega
          rw [hth] at hl
          clear hlt hLq hent htl hth
          go_wp2
          refine (hend _ ?_).out
          exact (Below.refl _ _).alloc (Nat.le_refl _) _
      | true =>
        have hth : e.there = false := by simp [tellB] at htl; exact htl.1
        have hdt : decide (e.time > now) = false := by simp [tellB] at htl; simp; omega
        have hst : Hid (setA (dueU s now q) q (nxtE now e) = dueU s now (q + 1)) := due_step hLq htl
        have hL3 : Hid (dueL s now (k + 1) = plainT L ++ [(q, e.zs)]) := by show _ = _; rw [dueL, hLq2.out]; simp only [htl]; rw [hL.out, hk.out.1]; simp
        have hthe : Hid (e.there = false) := hth
        rw [hth] at hl
        have hlq := hS.out.ld q e hL2.out
        have hcp : Hid (∀ w', Below wr.heap.size wr w' → Calls Try.prog 97 #[.slice e.a e.n e.c] w' fun e1 w'' => ∃ v, e1 = .returned v ∧ OwnsB w'' w'.heap.size v e.zs ∧ Below w'.heap.size w' w'') := fun w' hw' => copy_any e.a e.n e.c e.zs w' hent.1 hlq.nil (hlq.by_.kept hw') hent.2.1
        have hwt : IntKind.i64.wrap (now + e.wait) = now + e.wait := by have := hm.out; rw [IntKind.wrap_i64]; omega
        have hw2 : IntKind.i64.wrap (2 * e.wait) = 2 * e.wait := by rw [IntKind.wrap_i64]; omega
        have hent' : Hid (1 ≤ e.wait ∧ e.wait ≤ 64) := hent.2.2.2.2
        have hlen : Hid (L.length ≤ 100000) := by
          have h1 : (plainT L).length = L.length := by simp [plainT]
          rw [hL.out] at h1
          have h2 := dueL_len s now k
          have h3 := hk.out.2
          have h4 := hO.out.few
          have h5 := hO.out.w2
          show L.length ≤ 100000
          omega
        have hsz : Hid (((dueU s now q).nxt - (dueU s now q).base).toNat < 1000) := by have := hS.out.ok.few; have := hS.out.ok.w2; show _ < _; omega
        clear hlt hLq hent htl hth hlq
        go_wp2_with fail
        refine (hcp.out _ ((Below.refl _ _).alloc (Nat.le_refl _) _)).mono ?_
        rintro e1 w2 ⟨v2, rfl, hO2, hb2⟩
        have hbk2 : Hid (Blk w2 wr.heap.size _ 145) := (blk_new wr _ _).kept hb2
        have hB2 : Hid (Below wr.heap.size wr w2) := ((Below.refl _ _).alloc (Nat.le_refl _) _).trans (hb2.mono (by simp))
        have hN2 : Hid (w.heap.size ≤ w2.heap.size) := Nat.le_trans hK.out.size hB2.out.size
        have hT2 : Hid (OwnsT w2 w.heap.size u5 L) := hT.out.kept hB2.out
        have hO2' : Hid (OwnsB w2 w.heap.size v2 e.zs) := hO2.base (by have := hK.out.size; simp; omega)
        have hS2 : Hid (Sd w2 B sb mb (dueU s now q)) := hS.out.kept hB2.out
        have hown : Hid (∀ g, u5.ownBlock = some g → g < wr.heap.size) := hT.out.own_lt
        have hwl : Hid (wr.heap.size < w2.heap.size) := hbk2.out.lt
        obtain ⟨a2, n2, c2', rfl, _⟩ := hO2.form
        clear hO2 hb2 hl hcp
        go_wp2_with (at_builtin; refine wpList_append_msg rfl _ _ rfl w.heap.size _ L (q, .slice a2 n2 c2', e.zs) rfl (hT2.out.alloc _) (hO2'.out.alloc _) w2.heap.size rfl (fun j _ => ((blk_new w2 _ _).cell j).trans Array.getElem?_toList.symm) hlen.out (by have := hN2.out; simp; omega) ?_; intro v4 w4 hT4 hg4; have hB4 : Hid (Below w.heap.size w2 w4) := ownT_below ((Below.refl _ _).alloc hN2.out _) (hT2.out.alloc _) hg4 (by have := hN2.out; simp; omega); have hbk4 : Hid (Blk w4 wr.heap.size #[.slice e.a e.n e.c, .int .i64 e.time, .int .i64 e.wait, .bool false] 145) := (hg4.block wr.heap.size (by have := hwl.out; simp; omega) (fun h => by have := hown.out _ h.symm; omega)).trans ((Below.heap_alloc _ _ _ hwl.out).trans hbk2.out); have hT4' : Hid (OwnsT w4 w.heap.size v4 (L ++ [(q, .slice a2 n2 c2', e.zs)])) := hT4; have hg4' : Hid ((w2.alloc _).grownBy w4 u5.ownBlock) := hg4; have d0 := hbk4.out.cell 0; have d1 := hbk4.out.cell 1; have d2 := hbk4.out.cell 2; have d3 := hbk4.out.cell 3; have g1 := hbk4.out.fz 1; have g2 := hbk4.out.fz 2; clear hT4 hg4)
        have hbk5 : Hid (Blk ((w4.setCell ⟨wr.heap.size, 1, none⟩ (.int .i64 (now + e.wait))).setCell ⟨wr.heap.size, 2, none⟩ (.int .i64 (min (2 * e.wait) 64))) wr.heap.size #[.slice e.a e.n e.c, .int .i64 (now + e.wait), .int .i64 (min (2 * e.wait) 64), .bool false] 145) := (hbk4.out.set 1 _).set 2 _
        have hB5 : Hid (Below w.heap.size w2 ((w4.setCell ⟨wr.heap.size, 1, none⟩ (.int .i64 (now + e.wait))).setCell ⟨wr.heap.size, 2, none⟩ (.int .i64 (min (2 * e.wait) 64)))) := (hB4.out.setCell (p := ⟨wr.heap.size, 1, none⟩) hK.out.size _).setCell (p := ⟨wr.heap.size, 2, none⟩) hK.out.size _
        have hT5 : Hid (OwnsT ((w4.setCell ⟨wr.heap.size, 1, none⟩ (.int .i64 (now + e.wait))).setCell ⟨wr.heap.size, 2, none⟩ (.int .i64 (min (2 * e.wait) 64))) w.heap.size v4 (L ++ [(q, .slice a2 n2 c2', e.zs)])) := (hT4'.out.set hbk4.out (by decide) (by decide) 1 _).set (hbk4.out.set 1 _) (by decide) (by decide) 2 _
        clear d0 d1 d2 d3 g1 g2 hbk4 hT4' hg4' hB4
        generalize (w4.setCell ⟨wr.heap.size, 1, none⟩ (.int .i64 (now + e.wait))).setCell ⟨wr.heap.size, 2, none⟩ (.int .i64 (min (2 * e.wait) 64)) = w5 at *
        have hS5 : Hid (Sd w5 B sb mb (dueU s now q)) := hS2.out.below hU.out hB5.out
        have hK5 : Hid (K2 sb mb w w5) := (hK.out.trans (K2.of_below hB2.out)).low hB5.out
        have d0 := hbk5.out.cell 0
        have d1 := hbk5.out.cell 1
        have d2 := hbk5.out.cell 2
        have d3 := hbk5.out.cell 3
        have c55 := hS5.out.c5
        obtain ⟨w6, hr, hm6, hg⟩ := hS5.out.mp.drew.store hsz.out hrg.out (Ent.val { nxtE now e with there := false })
        have hg6 : Hid (w5.grownBy w6 (some mb)) := ⟨hg.os, hg.tape, hg.output, hg.size, hg.block⟩
        have hS6 : Hid (Sd w6 B sb mb (dueU s now (q + 1))) := by
          show Sd _ _ _ _ _
          rw [← hst.out]
          have e9 : ({ nxtE now e with there := false } : Ent) = nxtE now e := by
            have : (nxtE now e).there = false := hthe.out
            cases hne : nxtE now e
            rw [hne] at this
            simp at this
            subst this
            rfl
          rw [e9] at hm6
          have h64 := hent'.out
          have hn0 := hm.out
          exact sd_put hS5.out hL2.out rfl rfl rfl rfl ⟨by show 0 ≤ now + e.wait; omega, by show now + e.wait ≤ _; omega, by show 1 ≤ min (2 * e.wait) 64; omega, by show min (2 * e.wait) 64 ≤ 64; omega⟩ hm6 hg6.out
        have hT6 : Hid (OwnsT w6 w.heap.size v4 (L ++ [(q, .slice a2 n2 c2', e.zs)])) := hT5.out.k2 (K2.of_g (q := sb) hg6.out) hU.out.1 hU.out.2.1
        have hK6 : Hid (K2 sb mb w w6) := hK5.out.trans (K2.of_g hg6.out)
        simp only [Ent.val, nxtE] at hr
        clear hm6 hg c5 c4 hg6 hT5 hS5 hK5
        go_region
        go_wp2
        exact ⟨⟨q + 1, k + 1, v4, L ++ [(q, .slice a2 n2 c2', e.zs)], rfl, rfl, ⟨by have := hk.out; omega, by have := hk.out; have := hlt'.out; have := hbq.out; omega⟩, hT6, (by show _ = _; rw [hL3.out]; simp [plainT]), hS6, hK6⟩, by have := hlt'.out; show (s.nxt - (q + 1)).toNat < (s.nxt - q).toNat; omega⟩
    · have hd : decide (q < s.nxt) = false := by simp; omega
      have hqn : q = s.nxt := by have := hk.out; have := hO.out.b2; omega
      have hkn : Hid (k = (s.nxt - s.base).toNat) := by have := hk.out; have := hO.out.b2; show _ = _; omega
      have hSn : Hid (Sd wr B sb mb (dueA s now)) := by show Sd _ _ _ _ _; unfold dueA; rw [← hqn]; exact hS.out
      have hUn : Hid (Up w.heap.size sb mb (dueA s now)) := due_up hU0.out
      clear hlt hqn c5
      go_wp2
      go_ret
      exact ⟨u5, L, rfl, hT, (by rw [← hkn.out]; exact hL), hSn, hUn, hK⟩
end Go.Proofs.Ytfipdldoklkciaa
namespace Go.Proofs.Ytfipdldoklkciaa
open Go.RowKit
set_option linter.unusedVariables false

theorem K2.dn {q g : Nat} (w : World) (m : Nat) : K2 q g w (w.drewN m) := ⟨rfl, rfl, rfl, Nat.le_refl _, fun _ _ _ _ => rfl⟩
theorem K2.one {q g : Nat} {w w' : World} (h : K2 q q w w') : K2 q g w w' := ⟨h.os, h.tape, h.output, h.size, fun k hk h1 _ => h.block k hk h1 h1⟩
theorem K2.two {q g : Nat} {w w' : World} (h : K2 g g w w') : K2 q g w w' := ⟨h.os, h.tape, h.output, h.size, fun k hk _ h1 => h.block k hk h1 h1⟩
/-- A RECEIVER AS PLAIN DATA: its window, how many were taken, the loads that are held by their numbers. -/
structure Rc where
  win : Int
  tk : Int
  L : Int → Option (List Int)
structure Rok (s : Rc) : Prop where
  w1 : 1 ≤ s.win
  w2 : s.win ≤ 32
  t1 : 0 ≤ s.tk
  t2 : s.tk ≤ 4611686018427387904
  inn : ∀ z, (s.L z).isSome = true → s.tk < z ∧ z ≤ s.tk + s.win
  few : ∀ z l, s.L z = some l → l.length ≤ 1200 ∧ ∀ c ∈ l, 0 ≤ c ∧ c < 256
/-- What stands in a place of the ring. -/
def Rc.at (s : Rc) (p : Nat) : Option (List Int) := s.L (s.tk + 1 + ((p : Int) - (s.tk + 1)) % 32)
theorem Rc.at_of {s : Rc} {z : Int} (h1 : s.tk < z) (h2 : z ≤ s.tk + 32) : s.at (z % 32).toNat = s.L z := by
  unfold Rc.at
  congr 1
  omega
theorem Rok.none {s : Rc} (h : Rok s) {z : Int} (hz : ¬ (s.tk < z ∧ z ≤ s.tk + s.win)) : s.L z = none := by
  cases hL : s.L z with
  | none => rfl
  | some l => exact absurd (h.inn z (by rw [hL]; rfl)) hz
/-- A RECEIVER IN MEMORY. -/
structure Rv (w : World) (rb : Nat) (s : Rc) : Prop where
  ok : Rok s
  blk : ∃ cs : Array Value, Blk w rb cs 138 ∧ cs.size = 67 ∧ cs[0]? = some (.bool true) ∧ cs[1]? = some (.int .i64 s.win) ∧ cs[2]? = some (.int .i64 s.tk) ∧ ∀ p, p < 32 → cs[3 + p * 2]? = some (.bool (s.at p).isSome) ∧ cs[3 + p * 2 + 1]? = some (.string (strOfNums ((s.at p).getD [])))
theorem Rv.kept {w w' : World} {rb : Nat} {s : Rc} (h : Rv w rb s) (hb : Below w.heap.size w w') : Rv w' rb s := by
  obtain ⟨h1, cs, h2, h3⟩ := h
  exact ⟨h1, cs, h2.kept hb, h3⟩
theorem Rv.drew {w : World} {rb : Nat} {s : Rc} (h : Rv w rb s) : Rv w.drew rb s := h.kept (Below.refl _ _).drew
theorem Rv.alloc {w : World} {rb : Nat} {s : Rc} (h : Rv w rb s) (o : Obj) : Rv (w.alloc o) rb s := h.kept ((Below.refl _ _).alloc (Nat.le_refl _) o)
theorem Rv.but {w w' : World} {rb g : Nat} {s : Rc} (h : Rv w rb s) (k : K2 g g w w') (hg : rb ≠ g) : Rv w' rb s := by
  obtain ⟨h1, cs, h2, h3⟩ := h
  exact ⟨h1, cs, (k.block rb h2.lt hg hg).trans h2, h3⟩
theorem Rv.lt {w : World} {rb : Nat} {s : Rc} (h : Rv w rb s) : rb < w.heap.size := by
  obtain ⟨h1, cs, h2, h3⟩ := h
  exact h2.lt
theorem Rv.c0 {w : World} {rb : Nat} {s : Rc} (h : Rv w rb s) : w.cell? ⟨rb, 0, none⟩ = some (.bool true) := by
  obtain ⟨h1, cs, h2, h3, h4, h5, h6, h7⟩ := h
  rw [h2.cell 0]; exact h4
theorem Rv.c1 {w : World} {rb : Nat} {s : Rc} (h : Rv w rb s) : w.cell? ⟨rb, 1, none⟩ = some (.int .i64 s.win) := by
  obtain ⟨h1, cs, h2, h3, h4, h5, h6, h7⟩ := h
  rw [h2.cell 1]; exact h5
theorem Rv.c2 {w : World} {rb : Nat} {s : Rc} (h : Rv w rb s) : w.cell? ⟨rb, 2, none⟩ = some (.int .i64 s.tk) := by
  obtain ⟨h1, cs, h2, h3, h4, h5, h6, h7⟩ := h
  rw [h2.cell 2]; exact h6
theorem Rv.cA {w : World} {rb : Nat} {s : Rc} (h : Rv w rb s) {p : Nat} (hp : p < 32) : w.cell? ⟨rb, 3 + p * 2, none⟩ = some (.bool (s.at p).isSome) := by
  obtain ⟨h1, cs, h2, h3, h4, h5, h6, h7⟩ := h
  rw [h2.cell]; exact (h7 p hp).1
theorem Rv.cB {w : World} {rb : Nat} {s : Rc} (h : Rv w rb s) {p : Nat} (hp : p < 32) : w.cell? ⟨rb, 3 + p * 2 + 1, none⟩ = some (.string (strOfNums ((s.at p).getD []))) := by
  obtain ⟨h1, cs, h2, h3, h4, h5, h6, h7⟩ := h
  rw [h2.cell]; exact (h7 p hp).2
theorem Rv.fz {w : World} {rb : Nat} {s : Rc} (h : Rv w rb s) (j : Nat) : w.frozen? ⟨rb, j, none⟩ = false := by
  obtain ⟨h1, cs, h2, h3⟩ := h
  exact h2.fz j

/-! ### the small calls -/
theorem rmade_yes (sb : Nat) (w : World) (h : w.cell? ⟨sb, 0, none⟩ = some (.bool true)) : Calls Try.prog 94 #[.pointer (some ⟨sb, 0, none⟩)] w fun e w' => e = .returned (.bool true) ∧ w' = w := by
  go_enter Try.func94, Try.ntmps94
  go_wp2
  go_ret
  all_goals simp_all
theorem rmade_nil (w : World) : Calls Try.prog 94 #[.pointer none] w fun e w' => e = .returned (.bool false) ∧ w' = w := by
  go_enter Try.func94, Try.ntmps94
  go_wp2
  go_ret
  all_goals simp_all
theorem rmade_no (sb : Nat) (w : World) (h : w.cell? ⟨sb, 0, none⟩ = some (.bool false)) : Calls Try.prog 94 #[.pointer (some ⟨sb, 0, none⟩)] w fun e w' => e = .returned (.bool false) ∧ w' = w := by
  go_enter Try.func94, Try.ntmps94
  go_wp2
  go_ret
  all_goals simp_all
theorem place_any (z : Int) (w : World) (hz : 0 ≤ z) : Calls Try.prog 101 #[.int .i64 z] w fun e w' => e = .returned (.int .i64 (z % 32)) ∧ w' = w := by
  have e : Int.tmod z 32 = z % 32 := Int.tmod_eq_emod_of_nonneg hz
  have hw : IntKind.i64.wrap (z % 32) = z % 32 := by rw [IntKind.wrap_i64]; omega
  go_enter Try.func101, Try.ntmps101
  go_wp2
  go_ret
  all_goals simp_all
theorem Rv.dn {w : World} {rb : Nat} {s : Rc} (h : Rv w rb s) (n : Nat) : Rv (w.drewN n) rb s := by
  obtain ⟨h1, cs, h2, h3⟩ := h
  exact ⟨h1, cs, h2, h3⟩
theorem credit_any {rb : Nat} {s : Rc} {w : World} (h : Rv w rb s) : Calls Try.prog 100 #[.pointer (some ⟨rb, 0, none⟩)] w fun e w' => e = .returned (.int .i64 (s.tk + s.win)) ∧ ∃ m, w' = w.drewN m := by
  have c1 := h.c1
  have c2 := h.c2
  have hw : IntKind.i64.wrap (s.tk + s.win) = s.tk + s.win := by
    have := h.ok.w1; have := h.ok.w2; have := h.ok.t1; have := h.ok.t2
    rw [IntKind.wrap_i64]; omega
  clear h
  go_enter Try.func100, Try.ntmps100
  go_wp2
  go_quiet (fail)
  go_wp2
  go_ret
  exact ⟨rfl, _, rfl⟩
theorem taken_any {rb : Nat} {s : Rc} {w : World} (h : Rv w rb s) : Calls Try.prog 60 #[.pointer (some ⟨rb, 0, none⟩)] w fun e w' => e = .returned (.int .i64 s.tk) ∧ w' = w := by
  have k1 := rmade_yes rb w h.c0
  have c := h.c2
  clear h
  go_enter Try.func60, Try.ntmps60
  go_wp2_with (go_at_call 94; refine k1.mono ?_; rintro e w1 ⟨rfl, hw1⟩; obtain rfl := hw1.symm)
  go_ret
  all_goals simp_all
theorem holds_yes {rb : Nat} {s : Rc} {w : World} (z : Int) (h : Rv w rb s) (h1 : s.tk < z) (h2 : z ≤ s.tk + s.win) : Calls Try.prog 99 #[.pointer (some ⟨rb, 0, none⟩), .int .i64 z] w fun e w' => e = .returned (.bool (s.L z).isSome) ∧ ∃ m, w' = w.drewN m := by
  have c2 := h.c2
  have d1 : decide (z > s.tk) = true := by simp; omega
  have d2 : decide (z ≤ s.tk + s.win) = true := by simp; omega
  have hw2 := h.ok.w2
  have ht1 := h.ok.t1
  have k1 := fun n => credit_any (h.dn n)
  have k2 := fun n => place_any z (w.drewN n) (by omega)
  obtain ⟨p, hp⟩ : ∃ p : Nat, z % 32 = (p : Int) := ⟨(z % 32).toNat, by omega⟩
  have hp3 : p < 32 := by omega
  have hc := h.cA hp3
  rw [show s.at p = s.L z by rw [← Rc.at_of h1 (by omega), hp]; rfl] at hc
  have hi : decide ((p : Int) < 32) = true := by simp; omega
  have hi0 : decide ((0 : Int) ≤ (p : Int)) = true := by simp
  rw [hp] at k2
  clear h h1 h2 hw2 ht1 hp
  generalize (s.L z).isSome = v at *
  go_enter Try.func99, Try.ntmps99
  go_wp2
  go_quiet (first | (go_at_call 100; exact Calls.quiet_of (k1 _)) | (go_at_call 101; exact Calls.quiet_of_same (k2 _)))
  go_wp2
  go_ret
  exact ⟨rfl, _, rfl⟩
theorem holds_low {rb : Nat} {s : Rc} {w : World} (z : Int) (h : Rv w rb s) (h1 : ¬ s.tk < z) : Calls Try.prog 99 #[.pointer (some ⟨rb, 0, none⟩), .int .i64 z] w fun e w' => e = .returned (.bool false) ∧ ∃ m, w' = w.drewN m := by
  have c2 := h.c2
  have d1 : decide (z > s.tk) = false := by simp; omega
  clear h h1
  go_enter Try.func99, Try.ntmps99
  go_wp2
  go_big_quiet (fail)
  go_wp2
  go_ret
  exact ⟨rfl, _, rfl⟩
theorem holds_high {rb : Nat} {s : Rc} {w : World} (z : Int) (h : Rv w rb s) (h1 : s.tk < z) (h2 : ¬ z ≤ s.tk + s.win) : Calls Try.prog 99 #[.pointer (some ⟨rb, 0, none⟩), .int .i64 z] w fun e w' => e = .returned (.bool false) ∧ ∃ m, w' = w.drewN m := by
  have c2 := h.c2
  have d1 : decide (z > s.tk) = true := by simp; omega
  have d2 : decide (z ≤ s.tk + s.win) = false := by simp; omega
  have k1 := fun n => credit_any (h.dn n)
  clear h h1 h2
  go_enter Try.func99, Try.ntmps99
  go_wp2
  go_big_quiet ((go_at_call 100; exact Calls.quiet_of (k1 _)))
  go_wp2
  go_ret
  exact ⟨rfl, _, rfl⟩
theorem holds_any {rb : Nat} {s : Rc} {w : World} (z : Int) (h : Rv w rb s) : Calls Try.prog 99 #[.pointer (some ⟨rb, 0, none⟩), .int .i64 z] w fun e w' => e = .returned (.bool (s.L z).isSome) ∧ ∃ m, w' = w.drewN m := by
  by_cases h1 : s.tk < z
  · by_cases h2 : z ≤ s.tk + s.win
    · exact holds_yes z h h1 h2
    · have e : s.L z = none := h.ok.none (fun k => h2 k.2)
      rw [e]
      exact holds_high z h h1 h2
  · have e : s.L z = none := h.ok.none (fun k => h1 k.1)
    rw [e]
    exact holds_low z h h1
end Go.Proofs.Ytfipdldoklkciaa
namespace Go.Proofs.Ytfipdldoklkciaa
open Go.RowKit
set_option linter.unusedVariables false
def r0 (win : Int) : Rc := ⟨win, 0, fun _ => none⟩
theorem r0_ok {win : Int} (h1 : 1 ≤ win) (h2 : win ≤ 32) : Rok (r0 win) := ⟨h1, h2, by simp [r0], by simp [r0], by simp [r0], by simp [r0]⟩
def ring0 : Nat → List Value
  | 0 => []
  | n + 1 => .bool false :: .string (strOfNums []) :: ring0 n
theorem ring0_at : ∀ (n p : Nat), p < n → (ring0 n)[p * 2]? = some (.bool false) ∧ (ring0 n)[p * 2 + 1]? = some (.string (strOfNums []))
  | 0, p, h => by omega
  | n + 1, 0, h => ⟨rfl, rfl⟩
  | n + 1, p + 1, h => by
    have := ring0_at n p (by omega)
    rw [show (p + 1) * 2 = p * 2 + 1 + 1 by omega]
    exact this
def zc : Array Value := (.bool false :: .int .i64 0 :: .int .i64 0 :: ring0 32).toArray
theorem zero_rc (w : World) : (zeroValue 138).run Try.prog w = .ok (.agg zc) w := by kernel_rfl
theorem zc_ne : (zc = #[]) = False := by
  rw [eq_iff_iff]
  exact ⟨fun h => absurd (congrArg Array.size h) (by decide), False.elim⟩
theorem zc_size : zc.size = 67 := rfl
theorem rnew_yes (win : Int) (w : World) (h1 : 1 ≤ win) (h2 : win ≤ 32) :
    Calls Try.prog 53 #[.int .i64 win] w fun e w' => e = .returned (.tuple #[.pointer (some ⟨w.heap.size, 0, none⟩), .int .i64 0]) ∧ Hid (Rv w' w.heap.size (r0 win)) ∧ Hid (Below w.heap.size w w') := by
  have d0 : decide (win < 1) = false := by simp; omega
  have d1 : decide (win > 32) = false := by simp; omega
  have hO : Hid (Rok (r0 win)) := r0_ok h1 h2
  have hz := zero_rc
  have hz1 := zc_ne
  have hz2 := zc_size
  clear h1 h2
  go_enter Try.func53, Try.ntmps53
  go_wp2
  go_ret2
  refine ⟨rfl, ?_, ?_⟩
  · refine ⟨hO.out, _, blk_new w _ 138, rfl, rfl, rfl, rfl, fun p hp => ?_⟩
    have := ring0_at 32 p hp
    rw [show 3 + p * 2 = p * 2 + 3 by omega, Array.getElem?_setIfInBounds_ne (by omega), Array.getElem?_setIfInBounds_ne (by omega), Array.getElem?_setIfInBounds_ne (by omega), Array.getElem?_setIfInBounds_ne (by omega)]
    unfold zc
    rw [List.getElem?_toArray, List.getElem?_toArray]
    exact this
  · exact (Below.refl _ _).alloc (Nat.le_refl _) _
theorem rnew_no (win : Int) (w : World) (h : win < 1 ∨ 32 < win) :
    Calls Try.prog 53 #[.int .i64 win] w fun e w' => e = .returned (.tuple #[.pointer none, .int .i64 1]) ∧ w' = w := by
  by_cases h0 : win < 1
  · have d0 : decide (win < 1) = true := by simp; omega
    clear h h0
    go_enter Try.func53, Try.ntmps53
    go_wp2
    go_ret2
    all_goals simp_all
  · have d0 : decide (win < 1) = false := by simp; omega
    have d1 : decide (win > 32) = true := by simp; omega
    clear h h0
    go_enter Try.func53, Try.ntmps53
    go_wp2
    go_ret2
    all_goals simp_all
/-- WHAT Data ANSWERS. -/
def dataE (s : Rc) (z : Int) (n : Nat) : Int :=
  if z < 1 then 1 else if 1200 < n then 8 else if z ≤ s.tk ∨ (s.L z).isSome = true then 17 else if s.tk + s.win < z then 13 else 0
/-- A LOAD CAME. -/
def putA (s : Rc) (z : Int) (l : List Int) : Rc := { s with L := fun x => if x = z then some l else s.L x }
theorem dataE_ok {s : Rc} {z : Int} {n : Nat} (h : dataE s z n = 0) : 1 ≤ z ∧ n ≤ 1200 ∧ s.tk < z ∧ z ≤ s.tk + s.win ∧ (s.L z).isSome = false := by
  unfold dataE at h
  split at h
  · omega
  · split at h
    · omega
    · split at h
      · omega
      · split at h
        · omega
        · rename_i h1 h2 h3 h4
          refine ⟨by omega, by omega, ?_, by omega, ?_⟩
          · exact Int.not_le.1 fun k => h3 (.inl k)
          · cases hL : (s.L z).isSome with
            | false => rfl
            | true => exact absurd (.inr hL) h3
theorem put_ok {s : Rc} {z : Int} {l : List Int} (h : Rok s) (h1 : s.tk < z) (h2 : z ≤ s.tk + s.win) (hl : l.length ≤ 1200) (hb : ∀ c ∈ l, 0 ≤ c ∧ c < 256) : Rok (putA s z l) := by
  refine ⟨h.w1, h.w2, h.t1, h.t2, fun x hx => ?_, fun x m hm => ?_⟩
  · have hx : (if x = z then some l else s.L x).isSome = true := hx
    by_cases e : x = z
    · subst e; exact ⟨h1, h2⟩
    · rw [if_neg e] at hx; exact h.inn x hx
  · have hm : (if x = z then some l else s.L x) = some m := hm
    by_cases e : x = z
    · rw [if_pos e] at hm; cases hm; exact ⟨hl, hb⟩
    · rw [if_neg e] at hm; exact h.few x m hm
theorem put_at {s : Rc} {z : Int} {l : List Int} (h1 : s.tk < z) (h2 : z ≤ s.tk + 32) (p : Nat) (hp : p < 32) : (putA s z l).at p = if (p : Int) = z % 32 then some l else s.at p := by
  show (if s.tk + 1 + ((p : Int) - (s.tk + 1)) % 32 = z then some l else s.L (s.tk + 1 + ((p : Int) - (s.tk + 1)) % 32)) = if (p : Int) = z % 32 then some l else s.L (s.tk + 1 + ((p : Int) - (s.tk + 1)) % 32)
  by_cases e : (p : Int) = z % 32
  · rw [if_pos e, if_pos (by omega)]
  · rw [if_neg e, if_neg (by omega)]
/-- Two cells of the ring written anew: what the receiver then is. -/
theorem rv_set {w : World} {rb : Nat} {s s' : Rc} (h : Rv w rb s) (hs : Rok s') (hw : s'.win = s.win) (ht : s'.tk = s.tk ∨ True) (p : Nat) (hp : p < 32) (o : Option (List Int)) (ha : ∀ q, q < 32 → s'.at q = if q = p then o else s.at q)
    (ht' : s'.tk = s.tk) : Rv ((w.setCell ⟨rb, 3 + p * 2, none⟩ (.bool o.isSome)).setCell ⟨rb, 3 + p * 2 + 1, none⟩ (.string (strOfNums (o.getD [])))) rb s' := by
  obtain ⟨h1, cs, h2, h3, h4, h5, h6, h7⟩ := h
  refine ⟨hs, _, (h2.set (3 + p * 2) _).set (3 + p * 2 + 1) _, by simp [h3], ?_, ?_, ?_, fun q hq => ?_⟩
  · rw [Array.getElem?_setIfInBounds_ne (by omega), Array.getElem?_setIfInBounds_ne (by omega)]; exact h4
  · rw [Array.getElem?_setIfInBounds_ne (by omega), Array.getElem?_setIfInBounds_ne (by omega), hw]; exact h5
  · rw [Array.getElem?_setIfInBounds_ne (by omega), Array.getElem?_setIfInBounds_ne (by omega), ht']; exact h6
  · rw [ha q hq]
    by_cases e : q = p
    · subst e
      rw [if_pos rfl]
      constructor
      · rw [Array.getElem?_setIfInBounds_ne (by omega), Array.getElem?_setIfInBounds_self_of_lt (by omega)]
      · rw [Array.getElem?_setIfInBounds_self_of_lt (by simp [h3]; omega)]
    · rw [if_neg e]
      rw [Array.getElem?_setIfInBounds_ne (by omega), Array.getElem?_setIfInBounds_ne (by omega), Array.getElem?_setIfInBounds_ne (by omega), Array.getElem?_setIfInBounds_ne (by omega)]
      exact h7 q hq
set_option maxHeartbeats 1000000 in
theorem data_ok {rb : Nat} {s : Rc} {w : World} (z : Int) (a : Option Addr) (n c : Nat) (zs : List Int) (h : Rv w rb s) (he : dataE s z n = 0) (hn : zs.length = n) (h0 : a = none → c = 0) (hb : Bytes w a zs) :
    Calls Try.prog 93 #[.pointer (some ⟨rb, 0, none⟩), .int .i64 z, .slice a n c] w fun e w' => e = .returned (.int .i64 0) ∧ Hid (Rv w' rb (putA s z zs)) ∧ Hid (K2 rb rb w w') := by
  obtain ⟨e1, e2, e3, e4, e5⟩ := dataE_ok he
  have k0 := rmade_yes rb w h.c0
  have c2 := h.c2
  have d1 : decide (z < 1) = false := by simp; omega
  have d2 : decide ((n : Int) > 1200) = false := by simp; omega
  have d3 : decide (z ≤ s.tk) = false := by simp; omega
  have d4 : decide (z > s.tk + s.win) = false := by simp; omega
  have k1 := holds_any z h
  rw [e5] at k1
  have k2 := fun m => credit_any (h.dn m)
  have k3 := fun x => place_any z x (by omega)
  obtain ⟨p, hp⟩ : ∃ p : Nat, z % 32 = (p : Int) := ⟨(z % 32).toNat, by omega⟩
  have hp3 : p < 32 := by omega
  have hi : decide ((p : Int) < 32) = true := by simp; omega
  have hi0 : decide ((0 : Int) ≤ (p : Int)) = true := by simp
  rw [hp] at k3
  have hcv := fun m => conv_str (hb.drewN m) n c hn
  have f1 := h.fz (3 + p * 2)
  have f2 := h.fz (3 + p * 2 + 1)
  have q1 := h.cA hp3
  have q2 := h.cB hp3
  have hK : Hid (∀ m, K2 rb rb w (((w.drewN m).setCell ⟨rb, 3 + p * 2, none⟩ (.bool true)).setCell ⟨rb, 3 + p * 2 + 1, none⟩ (.string (strOfNums zs)))) := fun m => (K2.dn w m).trans ((K2.set _ _ _).trans (K2.set _ _ _))
  have hR : Hid (∀ m, Rv (((w.drewN m).setCell ⟨rb, 3 + p * 2, none⟩ (.bool true)).setCell ⟨rb, 3 + p * 2 + 1, none⟩ (.string (strOfNums zs))) rb (putA s z zs)) :=
    fun m => rv_set (h.dn m) (put_ok h.ok e3 e4 (by omega) hb.1) rfl (.inl rfl) p hp3 (some zs) (fun q hq => by rw [put_at e3 (by have := h.ok.w2; omega) q hq, hp]; by_cases e : q = p; (subst e; rw [if_pos rfl, if_pos rfl]); (rw [if_neg e, if_neg (by omega)])) rfl
  clear hp e1 e2 e3 e4 e5 hb h0 he h hn
  go_enter Try.func93, Try.ntmps93
  go_wp2_with (first | (go_at_call 94; refine k0.mono ?_; rintro e w1 ⟨rfl, hw1⟩; obtain rfl := hw1.symm; clear k0 hw1) | (go_at_call 99; refine k1.mono ?_; rintro e w1 ⟨rfl, m1, rfl⟩; clear k1) | (go_at_call 100; refine (k2 _).mono ?_; rintro e w1 ⟨rfl, m2, rfl⟩; clear k2))
  go_region_with (first | (go_at_call 101; refine (k3 _).mono ?_; rintro e w1 ⟨rfl, hw1⟩; obtain rfl := hw1.symm; clear k3 hw1))
  all_goals go_wp2
  all_goals go_ret
  all_goals exact ⟨rfl, hR.out _, hK.out _⟩
theorem data_bad {rb : Nat} {s : Rc} {w : World} (z : Int) (a : Option Addr) (n c : Nat) (h : Rv w rb s) (he : dataE s z n ≠ 0) (hn : (n : Int) ≤ 9223372036854775807) :
    Calls Try.prog 93 #[.pointer (some ⟨rb, 0, none⟩), .int .i64 z, .slice a n c] w fun e w' => e = .returned (.int .i64 (dataE s z n)) ∧ ∃ m, w' = w.drewN m := by
  have k0 := rmade_yes rb w h.c0
  have c2 := h.c2
  by_cases h1 : z < 1
  · have d1 : decide (z < 1) = true := by simp; omega
    have e : dataE s z n = 1 := by unfold dataE; rw [if_pos h1]
    rw [e]
    clear he h h1 e hn
    go_enter Try.func93, Try.ntmps93
    go_wp2_with (go_at_call 94; refine k0.mono ?_; rintro e w1 ⟨rfl, hw1⟩; obtain rfl := hw1.symm; clear k0 hw1)
    go_ret
    exact ⟨rfl, 0, rfl⟩
  have d1 : decide (z < 1) = false := by simp; omega
  by_cases h2 : 1200 < n
  · have d2 : decide ((n : Int) > 1200) = true := by simp; omega
    have e : dataE s z n = 8 := by unfold dataE; rw [if_neg h1, if_pos h2]
    rw [e]
    clear he h h1 h2 e hn
    go_enter Try.func93, Try.ntmps93
    go_wp2_with (go_at_call 94; refine k0.mono ?_; rintro e w1 ⟨rfl, hw1⟩; obtain rfl := hw1.symm; clear k0 hw1)
    go_ret
    exact ⟨rfl, 0, rfl⟩
  have d2 : decide ((n : Int) > 1200) = false := by simp; omega
  by_cases h3 : z ≤ s.tk
  · have d3 : decide (z ≤ s.tk) = true := by simp; omega
    have e : dataE s z n = 17 := by unfold dataE; rw [if_neg h1, if_neg h2, if_pos (.inl h3)]
    rw [e]
    clear he h h1 h2 h3 e hn
    go_enter Try.func93, Try.ntmps93
    go_wp2_with (go_at_call 94; refine k0.mono ?_; rintro e w1 ⟨rfl, hw1⟩; obtain rfl := hw1.symm; clear k0 hw1)
    go_ret
    exact ⟨rfl, 0, rfl⟩
  have d3 : decide (z ≤ s.tk) = false := by simp; omega
  have k1 := holds_any z h
  have k2 := fun m => credit_any (h.dn m)
  cases hL : (s.L z).isSome with
  | true =>
    have e : dataE s z n = 17 := by unfold dataE; rw [if_neg h1, if_neg h2, if_pos (.inr hL)]
    rw [e]
    rw [hL] at k1
    clear he h h1 h2 h3 e hn k2 hL
    go_enter Try.func93, Try.ntmps93
    go_wp2_with (first | (go_at_call 94; refine k0.mono ?_; rintro e w1 ⟨rfl, hw1⟩; obtain rfl := hw1.symm; clear k0 hw1) | (go_at_call 99; refine k1.mono ?_; rintro e w1 ⟨rfl, m1, rfl⟩; clear k1))
    go_ret
    exact ⟨rfl, _, rfl⟩
  | false =>
    by_cases h4 : s.tk + s.win < z
    · have d4 : decide (z > s.tk + s.win) = true := by simp; omega
      have e : dataE s z n = 13 := by unfold dataE; rw [if_neg h1, if_neg h2, if_neg (by rw [hL]; intro k; rcases k with k | k; exact h3 k; cases k), if_pos h4]
      rw [e]
      rw [hL] at k1
      clear he h h1 h2 h3 h4 e hn hL
      go_enter Try.func93, Try.ntmps93
      go_wp2_with (first | (go_at_call 94; refine k0.mono ?_; rintro e w1 ⟨rfl, hw1⟩; obtain rfl := hw1.symm; clear k0 hw1) | (go_at_call 99; refine k1.mono ?_; rintro e w1 ⟨rfl, m1, rfl⟩; clear k1) | (go_at_call 100; refine (k2 _).mono ?_; rintro e w1 ⟨rfl, m2, rfl⟩; clear k2))
      go_ret
      exact ⟨rfl, _, rfl⟩
    · exact absurd (by unfold dataE; rw [if_neg h1, if_neg h2, if_neg (by rw [hL]; intro k; rcases k with k | k; exact h3 k; cases k), if_neg h4]) he
end Go.Proofs.Ytfipdldoklkciaa
namespace Go.Proofs.Ytfipdldoklkciaa
open Go.RowKit
set_option linter.unusedVariables false
/-- THE FIRST LOAD IS TAKEN. -/
def takeA (s : Rc) : Rc := { s with tk := s.tk + 1, L := fun x => if x = s.tk + 1 then none else s.L x }
theorem rtake_ok {s : Rc} (h : Rok s) (ht : s.tk < 4611686018427387904) : Rok (takeA s) := by
  refine ⟨h.w1, h.w2, by show 0 ≤ s.tk + 1; have := h.t1; omega, by show s.tk + 1 ≤ _; omega, fun x hx => ?_, fun x m hm => ?_⟩
  · have hx : (if x = s.tk + 1 then none else s.L x).isSome = true := hx
    show s.tk + 1 < x ∧ x ≤ s.tk + 1 + s.win
    by_cases e : x = s.tk + 1
    · rw [if_pos e] at hx; cases hx
    · rw [if_neg e] at hx
      have := h.inn x hx
      omega
  · have hm : (if x = s.tk + 1 then none else s.L x) = some m := hm
    by_cases e : x = s.tk + 1
    · rw [if_pos e] at hm; cases hm
    · rw [if_neg e] at hm; exact h.few x m hm
theorem take_at {s : Rc} (h : Rok s) (p : Nat) (hp : p < 32) : (takeA s).at p = if (p : Int) = (s.tk + 1) % 32 then none else s.at p := by
  show (if s.tk + 1 + 1 + ((p : Int) - (s.tk + 1 + 1)) % 32 = s.tk + 1 then none else s.L (s.tk + 1 + 1 + ((p : Int) - (s.tk + 1 + 1)) % 32)) = if (p : Int) = (s.tk + 1) % 32 then none else s.L (s.tk + 1 + ((p : Int) - (s.tk + 1)) % 32)
  rw [if_neg (by omega)]
  by_cases e : (p : Int) = (s.tk + 1) % 32
  · rw [if_pos e]
    exact h.none (by have := h.w2; omega)
  · rw [if_neg e]
    congr 1
    omega
theorem rv_take {w : World} {rb : Nat} {s : Rc} (h : Rv w rb s) (ht : s.tk < 4611686018427387904) (p : Nat) (hp : p < 32) (hpe : (s.tk + 1) % 32 = (p : Int)) :
    Rv (((w.setCell ⟨rb, 3 + p * 2, none⟩ (.bool false)).setCell ⟨rb, 3 + p * 2 + 1, none⟩ (.string (strOfNums []))).setCell ⟨rb, 2, none⟩ (.int .i64 (s.tk + 1))) rb (takeA s) := by
  have hat := take_at h.ok
  have hok := rtake_ok h.ok ht
  obtain ⟨h1, cs, h2, h3, h4, h5, h6, h7⟩ := h
  refine ⟨hok, _, ((h2.set (3 + p * 2) _).set (3 + p * 2 + 1) _).set 2 _, by simp [h3], ?_, ?_, ?_, fun q hq => ?_⟩
  · rw [Array.getElem?_setIfInBounds_ne (by omega), Array.getElem?_setIfInBounds_ne (by omega), Array.getElem?_setIfInBounds_ne (by omega)]; exact h4
  · rw [Array.getElem?_setIfInBounds_ne (by omega), Array.getElem?_setIfInBounds_ne (by omega), Array.getElem?_setIfInBounds_ne (by omega)]; exact h5
  · rw [Array.getElem?_setIfInBounds_self_of_lt (by simp [h3])]; rfl
  · rw [hat q hq, hpe]
    by_cases e : q = p
    · subst e
      rw [if_pos rfl]
      constructor
      · rw [Array.getElem?_setIfInBounds_ne (by omega), Array.getElem?_setIfInBounds_ne (by omega), Array.getElem?_setIfInBounds_self_of_lt (by omega)]; rfl
      · rw [Array.getElem?_setIfInBounds_ne (by omega), Array.getElem?_setIfInBounds_self_of_lt (by simp [h3]; omega)]; rfl
    · rw [if_neg (by omega)]
      rw [Array.getElem?_setIfInBounds_ne (by omega), Array.getElem?_setIfInBounds_ne (by omega), Array.getElem?_setIfInBounds_ne (by omega), Array.getElem?_setIfInBounds_ne (by omega), Array.getElem?_setIfInBounds_ne (by omega), Array.getElem?_setIfInBounds_ne (by omega)]
      exact h7 q hq
/-- A SLICE OF BYTES THAT A CALL ANSWERED: all from B on. -/
structure Sl (w : World) (B : Nat) (a : Option Addr) (n c : Nat) (zs : List Int) : Prop where
  by_ : Bytes w a zs
  len : zs.length = n
  le : n ≤ c
  mx : c ≤ 9223372036854775807
  nil : a = none → c = 0
  at_ : ∀ x, a = some x → B ≤ x.block ∧ x.block < w.heap.size
theorem strOfNums_size (zs : List Int) : (strOfNums zs).size = zs.length := by
  rw [ByteArray.size, ← Array.length_toList, strOfNums_data]
  simp
theorem bytesWorld_bytes (w : World) (zs : List Int) (hz : ∀ c ∈ zs, 0 ≤ c ∧ c < 256) (hm : zs.length ≤ maxLen) : Bytes (Lib.bytesWorld w 5 (strOfNums zs)) (some ⟨w.heap.size, 0, none⟩) zs := by
  refine ⟨hz, hm, .inr ⟨_, _, rfl, fun i hi => ?_⟩⟩
  rw [Nat.zero_add, Lib.bytesWorld_cell w 5 _ i (by rw [strOfNums_size]; exact hi), strOfNums_data, List.getD_eq_getElem?_getD, List.getElem?_map, List.getElem?_eq_getElem hi, List.getD_eq_getElem?_getD, List.getElem?_eq_getElem hi]
  have := hz _ (List.getElem_mem hi)
  simp only [Option.map_some, Option.getD_some, UInt8.toNat_ofNat']
  congr 2
  rw [Nat.mod_eq_of_lt (by omega)]
  omega
theorem take_no {rb : Nat} {s : Rc} {w : World} (h : Rv w rb s) (hL : s.L (s.tk + 1) = none) :
    Calls Try.prog 70 #[.pointer (some ⟨rb, 0, none⟩)] w fun e w' => e = .returned (.tuple #[.slice none 0 0, .bool false]) ∧ ∃ m, w' = w.drewN m := by
  have k0 := rmade_yes rb w h.c0
  have c2 := h.c2
  have k1 := holds_any (s.tk + 1) h
  rw [hL] at k1
  have hw : IntKind.i64.wrap (s.tk + 1) = s.tk + 1 := by
    have := h.ok.t1; have := h.ok.t2
    rw [IntKind.wrap_i64]; omega
  clear h hL
  go_enter Try.func70, Try.ntmps70
  go_wp2_with (first | (go_at_call 94; refine k0.mono ?_; rintro e w1 ⟨rfl, hw1⟩; obtain rfl := hw1.symm; clear k0 hw1) | (go_at_call 99; refine k1.mono ?_; rintro e w1 ⟨rfl, m1, rfl⟩; clear k1))
  go_ret2
  exact ⟨rfl, _, rfl⟩
set_option maxHeartbeats 1000000 in
theorem take_yes {rb : Nat} {s : Rc} {w : World} (l : List Int) (h : Rv w rb s) (ht : s.tk < 4611686018427387904) (hL : s.L (s.tk + 1) = some l) :
    Calls Try.prog 70 #[.pointer (some ⟨rb, 0, none⟩)] w fun e w' => ∃ g n c, e = .returned (.tuple #[.slice (some ⟨g, 0, none⟩) n c, .bool true]) ∧ Hid (Sl w' w.heap.size (some ⟨g, 0, none⟩) n c l) ∧ Hid (Rv w' rb (takeA s)) ∧ Hid (K2 rb rb w w') := by
  have k0 := rmade_yes rb w h.c0
  have c2 := h.c2
  have k1 := holds_any (s.tk + 1) h
  rw [hL] at k1
  have hw : IntKind.i64.wrap (s.tk + 1) = s.tk + 1 := by
    have := h.ok.t1; have := h.ok.t2
    rw [IntKind.wrap_i64]; omega
  have k3 := fun x => place_any (s.tk + 1) x (by have := h.ok.t1; omega)
  obtain ⟨p, hp⟩ : ∃ p : Nat, (s.tk + 1) % 32 = (p : Int) := ⟨((s.tk + 1) % 32).toNat, by omega⟩
  have hp3 : p < 32 := by omega
  have hi : decide ((p : Int) < 32) = true := by simp; omega
  have hi0 : decide ((0 : Int) ≤ (p : Int)) = true := by simp
  rw [hp] at k3
  have q1 := h.cA hp3
  have q2 := h.cB hp3
  have eat : s.at p = some l := by rw [← hL, ← Rc.at_of (s := s) (z := s.tk + 1) (by omega) (by omega), hp]; rfl
  rw [eat] at q1 q2
  simp only [Option.getD_some, Option.isSome_some] at q1 q2
  have hcv := fun x => Lib.run_convert_string_bytes (P := Try.prog) x 9 23 5 (strOfNums l) Try.underlying9 Try.underlying23 Try.underlying5
  have f1 := h.fz (3 + p * 2)
  have f2 := h.fz (3 + p * 2 + 1)
  have hlt := h.lt
  have hR : Hid (Rv w rb s) := h
  have hP : Hid ((s.tk + 1) % 32 = (p : Int)) := hp
  have hl := h.ok.few _ _ hL
  have hl' : Hid (l.length ≤ 1200 ∧ ∀ c ∈ l, 0 ≤ c ∧ c < 256) := hl
  clear hp eat hL h hl
  go_enter Try.func70, Try.ntmps70
  go_wp2_with (first | (go_at_call 94; refine k0.mono ?_; rintro e w1 ⟨rfl, hw1⟩; obtain rfl := hw1.symm; clear k0 hw1) | (go_at_call 99; refine k1.mono ?_; rintro e w1 ⟨rfl, m1, rfl⟩; clear k1))
  go_region_with (first | (go_at_call 101; refine (k3 _).mono ?_; rintro e w1 ⟨rfl, hw1⟩; obtain rfl := hw1.symm; clear hw1))
  have hB : Hid (Below w.heap.size w (Lib.bytesWorld (w.drewN (m1 + 1)) 5 (strOfNums l))) := ⟨rfl, rfl, rfl, by rw [Lib.bytesWorld_size]; show w.heap.size ≤ w.heap.size + 1; omega, fun k hk => Lib.bytesWorld_at_old (w.drewN (m1 + 1)) 5 _ k hk⟩
  have hS : Hid (Sl (Lib.bytesWorld (w.drewN (m1 + 1)) 5 (strOfNums l)) w.heap.size (some ⟨w.heap.size, 0, none⟩) (strOfNums l).size (grownCap (w.drewN (m1 + 1)) (strOfNums l).size 0 5) l) := by
    have hsz := strOfNums_size l
    refine ⟨bytesWorld_bytes (w.drewN (m1 + 1)) l hl'.out.2 (by have := hl'.out.1; unfold maxLen; omega), hsz.symm, grownCap_ge _ _ _ _, ?_, (fun h => by cases h), ?_⟩
    · have := grownCap_le_maxLen (w.drewN (m1 + 1)) (strOfNums l).size 0 5 (by have := hl'.out.1; unfold maxLen; omega)
      simpa [maxLen] using this
    · intro x hx
      cases hx
      rw [Lib.bytesWorld_size]
      exact ⟨Nat.le_refl _, by show w.heap.size < w.heap.size + 1; omega⟩
  clear hcv
  generalize Lib.bytesWorld (w.drewN (m1 + 1)) 5 (strOfNums l) = W at *
  generalize (strOfNums l).size = n at *
  generalize grownCap (w.drewN (m1 + 1)) n 0 5 = c at *
  have hRW := hR.out.kept hB.out
  have f1 := hRW.fz (3 + p * 2)
  have f2 := hRW.fz (3 + p * 2 + 1)
  have f3 := hRW.fz 2
  have g1 := hRW.cA hp3
  have g2 := hRW.cB hp3
  have g3 := hRW.c2
  have k : K2 rb rb W ((((W.setCell ⟨rb, 3 + p * 2, none⟩ (.bool false)).setCell ⟨rb, 3 + p * 2 + 1, none⟩ (.string ⟨#[]⟩)).setCell ⟨rb, 2, none⟩ (.int .i64 (s.tk + 1))).drew) := ((K2.set W _ _).trans ((K2.set _ _ _).trans (K2.set _ _ _))).drew
  have hF : Hid (Rv ((((W.setCell ⟨rb, 3 + p * 2, none⟩ (.bool false)).setCell ⟨rb, 3 + p * 2 + 1, none⟩ (.string ⟨#[]⟩)).setCell ⟨rb, 2, none⟩ (.int .i64 (s.tk + 1))).drew) rb (takeA s)) := (rv_take hRW ht p hp3 hP.out).drew
  have hK : Hid (K2 rb rb w ((((W.setCell ⟨rb, 3 + p * 2, none⟩ (.bool false)).setCell ⟨rb, 3 + p * 2 + 1, none⟩ (.string ⟨#[]⟩)).setCell ⟨rb, 2, none⟩ (.int .i64 (s.tk + 1))).drew)) := (K2.of_below hB.out).trans k
  have hT : Hid (Sl ((((W.setCell ⟨rb, 3 + p * 2, none⟩ (.bool false)).setCell ⟨rb, 3 + p * 2 + 1, none⟩ (.string ⟨#[]⟩)).setCell ⟨rb, 2, none⟩ (.int .i64 (s.tk + 1))).drew) w.heap.size (some ⟨w.heap.size, 0, none⟩) n c l) := by
    obtain ⟨t1, t2, t3, t4, t5, t6⟩ := hS.out
    refine ⟨t1.k2 k (fun x hx => ?_), t2, t3, t4, t5, fun x hx => ⟨(t6 x hx).1, Nat.lt_of_lt_of_le (t6 x hx).2 k.size⟩⟩
    have := (t6 x hx).1
    omega
  clear hRW hB hS hR hlt k
  go_wp2_with fail
  go_region_with (first | (go_at_call 101; refine (k3 _).mono ?_; rintro e w1 ⟨rfl, hw1⟩; obtain rfl := hw1.symm; clear hw1))
  go_wp2
  go_ret2
  exact ⟨_, _, _, rfl, hT, hF, hK⟩
end Go.Proofs.Ytfipdldoklkciaa
namespace Go.Proofs.Ytfipdldoklkciaa
open Go.RowKit
set_option linter.unusedVariables false
/-- HOW MANY CAME WITHOUT A GAP. -/
def rdF (s : Rc) : Nat → Nat → Nat
  | 0, n => n
  | k + 1, n => if (s.L (s.tk + 1 + (n : Int))).isSome = true then rdF s k (n + 1) else n
def rdy (s : Rc) : Nat := rdF s 33 0
theorem rdF_spec (s : Rc) (h : Rok s) : ∀ (k n : Nat), n + k = 33 → (∀ j, j < n → (s.L (s.tk + 1 + (j : Int))).isSome = true) → (∀ j, j < rdF s k n → (s.L (s.tk + 1 + (j : Int))).isSome = true) ∧ s.L (s.tk + 1 + (rdF s k n : Int)) = none
  | 0, n, hn, hj => by
    have := h.inn _ (hj 32 (by omega))
    have := h.w2
    omega
  | k + 1, n, hn, hj => by
    unfold rdF
    split
    · rename_i hs
      exact rdF_spec s h k (n + 1) (by omega) (fun j hlt => by
        by_cases e : j = n
        · rw [e]; exact hs
        · exact hj j (by omega))
    · rename_i hs
      refine ⟨hj, ?_⟩
      cases hL : s.L (s.tk + 1 + (n : Int)) with
      | none => rfl
      | some l => rw [hL] at hs; simp at hs
theorem rdy_in {s : Rc} (h : Rok s) {j : Nat} (hj : j < rdy s) : (s.L (s.tk + 1 + (j : Int))).isSome = true := (rdF_spec s h 33 0 rfl (fun _ h => by omega)).1 j hj
theorem rdy_end {s : Rc} (h : Rok s) : s.L (s.tk + 1 + (rdy s : Int)) = none := (rdF_spec s h 33 0 rfl (fun _ h => by omega)).2
theorem rdy_le {s : Rc} (h : Rok s) : (rdy s : Int) ≤ s.win := by
  by_cases e : rdy s = 0
  · have := h.w1; omega
  · have := h.inn _ (rdy_in h (j := rdy s - 1) (by omega))
    omega
/-- What is ready, if all below n came and n did not. -/
theorem rdy_of {s : Rc} (h : Rok s) {n : Nat} (h1 : ∀ j, j < n → (s.L (s.tk + 1 + (j : Int))).isSome = true) (h2 : s.L (s.tk + 1 + (n : Int)) = none) : rdy s = n := by
  rcases Nat.lt_trichotomy (rdy s) n with k | k | k
  · have := h1 _ k
    rw [rdy_end h] at this
    cases this
  · exact k
  · have := rdy_in h k
    rw [h2] at this
    cases this
theorem ready_any {rb : Nat} {s : Rc} {w : World} (h : Rv w rb s) :
    Calls Try.prog 98 #[.pointer (some ⟨rb, 0, none⟩)] w fun e w' => e = .returned (.int .i64 (rdy s)) ∧ ∃ m, w' = w.drewN m := by
  have k0 := rmade_yes rb w h.c0
  have hR : Hid (Rv w rb s) := h
  have hw2 := h.ok.w2
  have ht1 := h.ok.t1
  have ht2 := h.ok.t2
  clear h
  go_enter Try.func98, Try.ntmps98
  go_wp2_with (go_at_call 94; refine k0.mono ?_; rintro e w1 ⟨rfl, hw1⟩; obtain rfl := hw1.symm; clear k0 hw1)
  go_loopw [3] (fun s3 wr => ∃ (n m : Nat), n ≤ 32 ∧ s3 = .int .i64 (n : Int) ∧ Hid (∀ j, j < n → (s.L (s.tk + 1 + (j : Int))).isSome = true) ∧ wr = w.drewN m) (fun v _ => 33 - (intOf v).toNat)
  case atStart => exact ⟨0, 0, by omega, rfl, fun _ h => by omega, rfl⟩
  case round =>
    obtain ⟨n, m, hn, rfl, hj, rfl⟩ := hrel
    have c2 := (hR.out.dn m).c2
    have hw : IntKind.i64.wrap (s.tk + 1) = s.tk + 1 := by rw [IntKind.wrap_i64]; omega
    have hw' : IntKind.i64.wrap (s.tk + 1 + (n : Int)) = s.tk + 1 + (n : Int) := by rw [IntKind.wrap_i64]; omega
    have k1 := holds_any (s.tk + 1 + (n : Int)) (hR.out.dn m)
    cases hL : (s.L (s.tk + 1 + (n : Int))).isSome with
    | true =>
      rw [hL] at k1
      have hn' : n < 32 := by
        have := hR.out.ok.inn _ hL
        omega
      have hLL : Hid ((s.L (s.tk + 1 + (n : Int))).isSome = true) := hL
      clear hL
      go_wp2_with (go_at_call 99; refine k1.mono ?_; rintro e w1 ⟨rfl, m1, rfl⟩; clear k1)
      refine ⟨⟨n + 1, _, by omega, by simp, fun j hlt => ?_, rfl⟩, by simp [intOf]; omega⟩
      by_cases e : j = n
      · rw [e]; exact hLL.out
      · exact hj.out j (by omega)
    | false =>
      rw [hL] at k1
      have hLL : Hid (rdy s = n) := rdy_of hR.out.ok hj.out (by
        cases hx : s.L (s.tk + 1 + (n : Int)) with
        | none => rfl
        | some l => rw [hx] at hL; cases hL)
      clear hL
      go_wp2_with (go_at_call 99; refine k1.mono ?_; rintro e w1 ⟨rfl, m1, rfl⟩; clear k1)
      go_ret
      exact ⟨by rw [hLL.out]; rfl, _, rfl⟩
/-- The bits of a row of answers. -/
def bF (f : Nat → Bool) : Nat → Int
  | 0 => 0
  | i + 1 => if f i = true then bF f i + 2 ^ i else bF f i
theorem bF_bnd (f : Nat → Bool) : ∀ i, 0 ≤ bF f i ∧ bF f i < 2 ^ i
  | 0 => by simp [bF]
  | i + 1 => by
    have := bF_bnd f i
    have hp : (0 : Int) < 2 ^ i := Int.pow_pos (by decide)
    unfold bF
    rw [Int.pow_succ]
    split <;> omega
theorem two_int (k : Nat) : ((2 ^ k : Nat) : Int) = (2 : Int) ^ k := Int.natCast_pow 2 k
theorem two_up {m k : Nat} (h : m ≤ k) : (2 : Int) ^ m ≤ 2 ^ k := by
  rw [← two_int, ← two_int]
  exact Int.ofNat_le.2 (Nat.pow_le_pow_right (by decide) h)
theorem two_u64 {i : Nat} (h : i < 64) : (2 : Int) ^ i < 18446744073709551616 := by
  have := two_up (m := i) (k := 63) (by omega)
  have e : (2 : Int) ^ 63 = 9223372036854775808 := by decide
  omega
theorem two_lt64 {i : Nat} (h : i < 64) : (2 : Int) ^ i < 2 ^ 64 := by
  have h2 := two_u64 h
  have e : (2 : Int) ^ 64 = 18446744073709551616 := by decide
  omega
theorem bF_or (f : Nat → Bool) (i : Nat) (h : i < 64) : bits .or .u64 (bF f i) (2 ^ i) = bF f i + 2 ^ i := by
  have hb := bF_bnd f i
  have h2 := two_u64 h
  have e : (2 : Int) ^ 64 = 18446744073709551616 := by decide
  exact bits_join_low .u64 64 (by decide) wraps_u64 i _ _ hb.1 hb.2 (by omega) (Int.le_of_lt (Int.pow_pos (by decide))) (Int.emod_self) (by omega)
theorem wrap_two {i : Nat} (h : i < 64) : IntKind.u64.wrap (2 ^ i) = 2 ^ i := wraps_u64 _ (Int.le_of_lt (Int.pow_pos (by decide))) (two_lt64 h)
theorem bF_congr {f g : Nat → Bool} : ∀ (i : Nat), (∀ j, j < i → f j = g j) → bF f i = bF g i
  | 0, _ => rfl
  | i + 1, h => by
    unfold bF
    rw [bF_congr i (fun j hj => h j (by omega)), h i (by omega)]
theorem bF_stop {f : Nat → Bool} {i : Nat} : ∀ (k : Nat), (∀ j, i ≤ j → j < i + k → f j = false) → bF f (i + k) = bF f i
  | 0, _ => rfl
  | k + 1, h => by
    have e : bF f (i + (k + 1)) = if f (i + k) = true then bF f (i + k) + 2 ^ (i + k) else bF f (i + k) := rfl
    rw [e, h (i + k) (by omega) (by omega), if_neg (by decide)]
    exact bF_stop k (fun j h1 h2 => h j h1 (by omega))
/-- THE ACK, AND ITS BITS. -/
def ackN (s : Rc) : Int := s.tk + (rdy s : Int)
def ackF (s : Rc) (i : Nat) : Bool := (s.L (ackN s + 2 + (i : Int))).isSome
def ackB (s : Rc) : Int := bF (ackF s) 64
set_option maxHeartbeats 1000000 in
theorem ack_any {rb : Nat} {s : Rc} {w : World} (h : Rv w rb s) :
    Calls Try.prog 67 #[.pointer (some ⟨rb, 0, none⟩)] w fun e w' => e = .returned (.tuple #[.int .i64 (ackN s), .int .u64 (ackB s), .int .i64 (s.tk + s.win)]) ∧ ∃ m, w' = w.drewN m := by
  have k0 := rmade_yes rb w h.c0
  have hR : Hid (Rv w rb s) := h
  have hw1 := h.ok.w1
  have hw2 := h.ok.w2
  have ht1 := h.ok.t1
  have ht2 := h.ok.t2
  have hrl := rdy_le h.ok
  have c2 := h.c2
  have cX := fun m => (h.dn m).c2
  have k1 := ready_any h
  have kX := fun m => ready_any (h.dn m)
  have hwa : IntKind.i64.wrap (s.tk + (rdy s : Int)) = ackN s := by unfold ackN; rw [IntKind.wrap_i64]; omega
  have hb : Hid (0 ≤ ackN s ∧ ackN s ≤ 4611686018427387904 + 32) := by show _ ∧ _; unfold ackN; omega
  clear h
  go_enter Try.func67, Try.ntmps67
  go_wp2_with (go_at_call 94; refine k0.mono ?_; rintro e w1 ⟨rfl, hw1⟩; obtain rfl := hw1.symm; clear k0 hw1)
  go_quiet ((first | (go_at_call 98; exact Calls.quiet_of k1) | (go_at_call 98; exact Calls.quiet_of (kX _))))
  go_wp2
  clear k1 kX c2 cX hwa
  generalize hA : ackN s = A at *
  have hA' : Hid (ackN s = A) := hA
  clear hA
  go_loopw [6, 18] (fun s6 s18 wr => ∃ (i m : Nat), i ≤ 64 ∧ s6 = .int .u64 (bF (ackF s) i) ∧ s18 = .int .i64 (i : Int) ∧ wr = w.drewN m) (fun _ v _ => 64 - (intOf v).toNat)
  case atStart => exact ⟨0, _, by omega, rfl, rfl, rfl⟩
  case round =>
    obtain ⟨i, m, hi, rfl, rfl, rfl⟩ := hrel
    by_cases hlt : i < 64
    · have hd : decide ((i : Int) < 64) = true := by simp; omega
      have hwb : IntKind.i64.wrap (A + 2) = A + 2 := by have := hb.out; rw [IntKind.wrap_i64]; omega
      have hwc : IntKind.i64.wrap (A + 2 + (i : Int)) = A + 2 + (i : Int) := by have := hb.out; rw [IntKind.wrap_i64]; omega
      have k2 := holds_any (A + 2 + (i : Int)) (hR.out.dn m)
      have hF : ackF s i = (s.L (A + 2 + (i : Int))).isSome := by unfold ackF; rw [hA'.out]
      have hsh := wrap_two hlt
      have hor := bF_or (ackF s) i hlt
      have hN : bF (ackF s) (i + 1) = if ackF s i = true then bF (ackF s) i + 2 ^ i else bF (ackF s) i := rfl
      rw [← hF] at k2
      clear hF
      cases hL : ackF s i with
      | true =>
        rw [hL] at k2 hN
        rw [if_pos rfl] at hN
        rw [← hN] at hor
        have hN' : Hid (bF (ackF s) (i + 1) = bF (ackF s) i + 2 ^ i) := hN
        clear hN
        generalize bF (ackF s) i = b at *
        generalize hb1 : bF (ackF s) (i + 1) = b1 at *
        go_wp2_with (go_at_call 99; refine k2.mono ?_; rintro e w1 ⟨rfl, m1, rfl⟩; clear k2)
        exact ⟨⟨i + 1, _, by omega, by rw [hb1], by simp, rfl⟩, by simp [intOf]; omega⟩
      | false =>
        rw [hL] at k2 hN
        rw [if_neg (by decide)] at hN
        go_wp2_with (go_at_call 99; refine k2.mono ?_; rintro e w1 ⟨rfl, m1, rfl⟩; clear k2)
        exact ⟨⟨i + 1, _, by omega, by rw [hN], by simp, rfl⟩, by simp [intOf]; omega⟩
    · have hd : decide ((i : Int) < 64) = false := by simp; omega
      obtain rfl : i = 64 := by omega
      have k2 := credit_any (hR.out.dn m)
      go_wp2_with (go_at_call 100; refine k2.mono ?_; rintro e w1 ⟨rfl, m1, rfl⟩; clear k2)
      refine bodyPost_ret (v := .tuple #[.int .i64 A, .int .u64 (bF (ackF s) 64), .int .i64 (s.tk + s.win)]) (by simp [results, Try.results67, go_sem]) rfl ?_
      exact ⟨by rw [hA'.out]; rfl, _, rfl⟩
end Go.Proofs.Ytfipdldoklkciaa
namespace Go.Proofs.Ytfipdldoklkciaa
open Go.RowKit
set_option linter.unusedVariables false
/-- How many of the first k. -/
def cnt (g : Nat → Bool) : Nat → Nat
  | 0 => 0
  | k + 1 => if g k = true then cnt g k + 1 else cnt g k
theorem cnt_le (g : Nat → Bool) : ∀ k, cnt g k ≤ k
  | 0 => Nat.le_refl _
  | k + 1 => by
    have := cnt_le g k
    unfold cnt
    split <;> omega
theorem cnt_congr {g h : Nat → Bool} : ∀ k, (∀ j, j < k → g j = h j) → cnt g k = cnt h k
  | 0, _ => rfl
  | k + 1, e => by
    unfold cnt
    rw [cnt_congr k (fun j hj => e j (by omega)), e k (by omega)]
theorem cnt_add (g : Nat → Bool) (a : Nat) : ∀ b, cnt g (a + b) = cnt g a + cnt (fun i => g (a + i)) b
  | 0 => rfl
  | b + 1 => by
    have h1 : cnt g (a + (b + 1)) = if g (a + b) = true then cnt g (a + b) + 1 else cnt g (a + b) := rfl
    have h2 : cnt (fun i => g (a + i)) (b + 1) = if g (a + b) = true then cnt (fun i => g (a + i)) b + 1 else cnt (fun i => g (a + i)) b := rfl
    rw [h1, h2, cnt_add g a b]
    split <;> omega
theorem cnt_all {g : Nat → Bool} : ∀ k, (∀ j, j < k → g j = true) → cnt g k = k
  | 0, _ => rfl
  | k + 1, e => by
    unfold cnt
    rw [if_pos (e k (by omega)), cnt_all k (fun j hj => e j (by omega))]
theorem cnt_none {g : Nat → Bool} : ∀ k, (∀ j, j < k → g j = false) → cnt g k = 0
  | 0, _ => rfl
  | k + 1, e => by
    unfold cnt
    rw [if_neg (by rw [e k (by omega)]; decide), cnt_none k (fun j hj => e j (by omega))]
theorem cnt_turn (g : Nat → Bool) (r : Nat) (hr : r ≤ 32) : cnt (fun p => g ((p + 32 - r) % 32)) 32 = cnt g 32 := by
  have e1 := cnt_add (fun p => g ((p + 32 - r) % 32)) r (32 - r)
  have e2 := cnt_add g (32 - r) r
  rw [show r + (32 - r) = 32 by omega] at e1
  rw [show 32 - r + r = 32 by omega] at e2
  rw [e1, e2, Nat.add_comm (cnt g (32 - r))]
  congr 1
  · refine cnt_congr r (fun j hj => ?_)
    show g ((j + 32 - r) % 32) = g (32 - r + j)
    congr 1
    omega
  · refine cnt_congr (32 - r) (fun j hj => ?_)
    show g ((r + j + 32 - r) % 32) = g j
    congr 1
    omega
/-- HOW MANY ARE HELD. -/
def has (s : Rc) (j : Nat) : Bool := (s.L (s.tk + 1 + (j : Int))).isSome
def hld (s : Rc) : Nat := cnt (has s) 32
theorem hld_ring (s : Rc) (ht : 0 ≤ s.tk) : cnt (fun p => (s.at p).isSome) 32 = hld s := by
  unfold hld
  have hr : ((s.tk + 1) % 32).toNat ≤ 32 := by omega
  rw [← cnt_turn (has s) ((s.tk + 1) % 32).toNat hr]
  refine cnt_congr 32 (fun p hp => ?_)
  show (s.L (s.tk + 1 + ((p : Int) - (s.tk + 1)) % 32)).isSome = (s.L (s.tk + 1 + (((p + 32 - ((s.tk + 1) % 32).toNat) % 32 : Nat) : Int))).isSome
  congr 3
  omega
theorem ext_two {α : Type} (cs : List α) (n : Nat) (u v : α) (h1 : cs[n]? = some u) (h2 : cs[n + 1]? = some v) : cs.toArray.extract n (n + 2) = #[u, v] := by
  apply Array.ext'
  rw [Array.toList_extract]
  simp only [List.extract_eq_take_drop]
  have e1 : cs.drop n = u :: v :: cs.drop (n + 2) := by
    rw [List.drop_eq_getElem_cons (List.getElem?_eq_some_iff.1 h1).1, List.drop_eq_getElem_cons (List.getElem?_eq_some_iff.1 h2).1, (List.getElem?_eq_some_iff.1 h1).2, (List.getElem?_eq_some_iff.1 h2).2]
  rw [e1, show n + 2 - n = 2 by omega]
  rfl
theorem size_pl : (Try.prog.info? 135).map (fun i => i.size) = some 2 := by kernel_rfl
theorem agg_pl (W : World) : (isAgg 135).run Try.prog W = .ok true W := by kernel_rfl
theorem sz_pl (W : World) : (sizeOf 135).run Try.prog W = .ok 2 W := by kernel_rfl
theorem idx_ring (cs : List Value) (p : Nat) (u v : Value) (W : World) (hp : p < 32) (h1 : cs[p * 2]? = some u) (h2 : cs[p * 2 + 1]? = some v) :
    (Instr.index 136 (.agg cs.toArray) (.int .i64 (p : Int))).run Try.prog W = .ok (.agg #[u, v]) W := by
  have h3 : (0 : Int) ≤ (p : Int) ∧ (p : Int) < (32 : Nat) := by omega
  unfold Instr.index
  simp only [asIntOf, Sem.run_bind, Sem.run_pure, Result.andThen_ok, run_underlying Try.underlying136 W]
  rw [if_pos h3]
  simp only [Sem.run_bind, sz_pl, Result.andThen_ok, part, agg_pl, Int.toNat_natCast, if_true, Sem.run_pure]
  rw [ext_two cs (p * 2) u v h1 h2]
theorem size_rg : (Try.prog.info? 136).map (fun i => i.size) = some 64 := by kernel_rfl
set_option maxRecDepth 100000 in
theorem held_any {rb : Nat} {s : Rc} {w : World} (h : Rv w rb s) :
    Calls Try.prog 63 #[.pointer (some ⟨rb, 0, none⟩)] w fun e w' => e = .returned (.int .i64 (hld s)) ∧ Hid (Below w.heap.size w w') := by
  have k0 := rmade_yes rb w h.c0
  have hR : Hid (Rv w rb s) := h
  have hH := hld_ring s h.ok.t1
  obtain ⟨cs, hcl, hcr, hcA, hcB⟩ : ∃ cs : List Value, cs.length = 64 ∧ w.rangeAt rb 3 cs ∧ (∀ p, p < 32 → cs[p * 2]? = some (.bool (s.at p).isSome)) ∧ (∀ p, p < 32 → cs[p * 2 + 1]? = some (.string (strOfNums ((s.at p).getD [])))) := by
    obtain ⟨h1, ca, h2, h3, h4, h5, h6, h7⟩ := h
    have hg : ∀ j, (ca.toList.drop 3)[j]? = ca[3 + j]? := fun j => by rw [List.getElem?_drop, Array.getElem?_toList]
    refine ⟨ca.toList.drop 3, by rw [List.length_drop, Array.length_toList, h3], fun j v hv => ?_, fun p hp => ?_, fun p hp => ?_⟩
    · rw [h2.cell, ← hg j]; exact hv
    · rw [hg]; exact (h7 p hp).1
    · rw [hg, ← Nat.add_assoc]; exact (h7 p hp).2
  have hcr' : Hid (w.rangeAt rb 3 cs) := hcr
  have hcz : Hid ((Try.prog.info? 136).map (fun i => i.size) = some cs.length) := by rw [hcl]; exact size_rg
  have hN : Hid (∀ k, cnt (fun p => (s.at p).isSome) (k + 1) = if (s.at k).isSome = true then cnt (fun p => (s.at p).isSome) k + 1 else cnt (fun p => (s.at p).isSome) k) := fun k => rfl
  have hHH : Hid (cnt (fun p => (s.at p).isSome) 32 = hld s) := hH
  have hle : Hid (∀ k, cnt (fun p => (s.at p).isSome) k ≤ k) := cnt_le _
  have hI : Hid (∀ (p : Nat) (W : World), p < 32 → (Instr.index 136 (.agg cs.toArray) (.int .i64 (p : Int))).run Try.prog W = .ok (.agg #[.bool (s.at p).isSome, .string (strOfNums ((s.at p).getD []))]) W) := fun p W hp => idx_ring cs p _ _ W hp (hcA p hp) (hcB p hp)
  clear h hH hcl hcr hcA hcB
  generalize cnt (fun p => (s.at p).isSome) = C at *
  go_enter Try.func63, Try.ntmps63
  go_wp2_with (first | (go_at_call 94; refine k0.mono ?_; rintro e w1 ⟨rfl, hw1⟩; obtain rfl := hw1.symm; clear k0 hw1) | (refine wpList_load_mid rfl 136 (.tmp 11) rfl rb 3 rfl cs _ hcr'.out Try.underlying136 rfl hcz.out ?_))
  generalize cs.toArray = ca at *
  go_loopw [3, 13] (fun s3 s13 wr => ∃ k : Nat, k ≤ 32 ∧ s3 = .int .i64 (C k : Int) ∧ s13 = .int .i64 (k : Int) ∧ Hid (Below w.heap.size w wr)) (fun _ v _ => 32 - (intOf v).toNat)
  case atStart => exact ⟨0, by omega, by have := hle.out 0; rw [show C 0 = 0 by omega]; rfl, rfl, Below.refl _ _⟩
  case round =>
    obtain ⟨k, hk, rfl, rfl, hB⟩ := hrel
    by_cases hlt : k < 32
    · have hd : decide ((k : Int) < 32) = true := by simp; omega
      have hi := fun W => hI.out k W hlt
      have hn := hN.out k
      have hl := hle.out k
      cases hs : (s.at k).isSome with
      | true =>
        rw [hs] at hi hn
        rw [if_pos rfl] at hn
        go_wp2_with fail
        exact ⟨⟨k + 1, by omega, by rw [hn]; simp, by simp, hB.out.alloc hB.out.size _⟩, by simp [intOf]; omega⟩
      | false =>
        rw [hs] at hi hn
        rw [if_neg (by decide)] at hn
        go_wp2_with fail
        exact ⟨⟨k + 1, by omega, by rw [hn], by simp, hB.out.alloc hB.out.size _⟩, by simp [intOf]; omega⟩
    · have hd : decide ((k : Int) < 32) = false := by simp; omega
      obtain rfl : k = 32 := by omega
      have hx := hHH.out
      go_wp2
      go_ret
      exact ⟨by rw [hx]; rfl, hB⟩
end Go.Proofs.Ytfipdldoklkciaa
