/-
  What the calls leave of a sender; one call of a script.
-/
import Derived.Test.YtjnoijpindbobaaSdm
namespace Go.Proofs.Ytjnoijpindbobaa
open Go.RowKit
set_option linter.unusedVariables false
/-- NO LOAD IS NEW, NONE IS TURNED, AND THE BASE HAS NOT FALLEN. -/
structure Sb (s s' : St) : Prop where
  win : s'.win = s.win
  nxt : s'.nxt = s.nxt
  base : s.base ≤ s'.base
  zs : ∀ z e', s'.L z = some e' → ∃ e, s.L z = some e ∧ e'.zs = e.zs
theorem Sb.refl (s : St) : Sb s s := ⟨rfl, rfl, Int.le_refl _, fun z e h => ⟨e, h, rfl⟩⟩
theorem Sb.trans {a b c : St} (h : Sb a b) (k : Sb b c) : Sb a c :=
  ⟨k.win.trans h.win, k.nxt.trans h.nxt, Int.le_trans h.base k.base, fun z e he => by
    obtain ⟨e1, h1, h2⟩ := k.zs z e he
    obtain ⟨e2, h3, h4⟩ := h.zs z e1 h1
    exact ⟨e2, h3, h2.trans h4⟩⟩
theorem sb_fin (s : St) (k : Int) : Sb s (finA s k) := by
  refine ⟨rfl, rfl, ?_, fun z e he => ?_⟩
  · show s.base ≤ if s.base ≤ k then k + 1 else s.base
    split <;> omega
  · have he : (if z ≤ k then none else s.L z) = some e := he
    split at he
    · cases he
    · exact ⟨e, he, rfl⟩
theorem sb_set {s : St} {z : Int} {e e' : Ent} (hL : s.L z = some e) (hz : e'.zs = e.zs) : Sb s (setA s z e') := by
  refine ⟨rfl, rfl, Int.le_refl _, fun x e1 he => ?_⟩
  have he : (if x = z then some e' else s.L x) = some e1 := he
  by_cases hx : x = z
  · rw [if_pos hx] at he
    cases he
    exact ⟨e, by rw [hx]; exact hL, hz⟩
  · rw [if_neg hx] at he
    exact ⟨e1, he, rfl⟩
theorem sb_bey (s : St) (z : Int) : Sb s (beyA s z) := by
  unfold beyA
  cases hL : s.L z with
  | none => exact Sb.refl s
  | some e => exact sb_set hL rfl
theorem sb_bits (s : St) (ack bits : Int) : ∀ i, Sb s (bitsA s ack bits i)
  | 0 => Sb.refl s
  | i + 1 => by
    unfold bitsA
    split
    · exact (sb_bits s ack bits i).trans (sb_bey _ _)
    · exact sb_bits s ack bits i
theorem sb_pops : ∀ (k : Nat) (s : St), Sb s (popsF k s)
  | 0, s => Sb.refl s
  | k + 1, s => by
    unfold popsF
    split
    · split
      · exact (sb_fin s _).trans (sb_pops k _)
      · exact Sb.refl s
    · exact Sb.refl s
theorem sb_ack (s : St) (ack bits credit : Int) : Sb s (ackA s ack bits credit) := by
  have h := ((sb_fin s ack).trans (sb_bits _ ack bits 64)).trans (sb_pops 64 _)
  exact ⟨h.win, h.nxt, h.base, h.zs⟩
theorem sb_map {s : St} {f : Ent → Ent} {q : Int} (hf : ∀ e, (f e).zs = e.zs) : Sb s { s with L := fun z => if z < q then (s.L z).map f else s.L z } := by
  refine ⟨rfl, rfl, Int.le_refl _, fun z e he => ?_⟩
  have he : (if z < q then (s.L z).map f else s.L z) = some e := he
  split at he
  · cases hL : s.L z with
    | none => rw [hL] at he; cases he
    | some e1 => rw [hL] at he; simp at he; exact ⟨e1, rfl, by rw [← he]; exact hf e1⟩
  · exact ⟨e, he, rfl⟩
theorem sb_due (s : St) (now : Int) : Sb s (dueA s now) := sb_map (f := dueE now) (fun e => by unfold dueE; split <;> rfl)
theorem sb_res (s : St) (ack credit now : Int) : Sb s (resA s ack credit now) := by
  have h := (sb_fin s ack).trans (sb_map (s := finA s ack) (f := ren now) (q := s.nxt) (fun e => rfl))
  exact ⟨h.win, h.nxt, h.base, h.zs⟩
/-- What one call of a script leaves. -/
def PlR (s s' : St) (kd : Int) : Prop := s'.win = s.win ∧ s.base ≤ s'.base ∧ (kd ≠ 0 → Sb s s')
theorem PlR.of {s s' : St} {kd : Int} (h : Sb s s') : PlR s s' kd := ⟨h.win, h.base, fun _ => h⟩
set_option maxHeartbeats 1000000 in
theorem plays_any {B sb mb : Nat} {s : St} {w : World} (kind now n credit bits : Int) (a : Option Addr) (len cap : Nat) (zs : List Int) (h : Sd w B sb mb s) (hB : B ≤ w.heap.size) (hn : zs.length = len) (h0 : a = none → cap = 0) (hb : Bytes w a zs) :
    Calls Try.prog 10 #[.pointer (some ⟨sb, 0, none⟩), .agg #[.int .i64 kind, .int .i64 now, .int .i64 n, .int .i64 credit, .int .u64 bits, .slice a len cap]] w fun e w' => e = .returned (.tuple #[]) ∧ ∃ s' : St, Hid (Sd w' B sb mb s') ∧ Hid (PlR s s' (Go.bits .and .i64 kind 3)) ∧ Hid (K2 sb mb w w') := by
  have hA : Hid (Below w.heap.size w (w.alloc (.cells #[.int .i64 kind, .int .i64 now, .int .i64 n, .int .i64 credit, .int .u64 bits, .slice a len cap] 31))) := (Below.refl _ _).alloc (Nat.le_refl _) _
  have hS := h.kept hA.out
  have hb2 := hb.kept hA.out
  have hB2 : B ≤ (w.alloc (.cells #[.int .i64 kind, .int .i64 now, .int .i64 n, .int .i64 credit, .int .u64 bits, .slice a len cap] 31)).heap.size := Nat.le_trans hB hA.out.size
  have hml : (len : Int) ≤ 9223372036854775807 := by have := hb.2.1; unfold maxLen at this; omega
  have hS0 : Hid (Sd w B sb mb s) := h
  by_cases q0 : Go.bits .and .i64 kind 3 = 0
  · have d0 : (Go.bits .and .i64 kind 3 == 0) = true := by simp [q0]
    have hkd : Hid (Go.bits .and .i64 kind 3 = 0) := q0
    by_cases hp : pushE s len now = 0
    · have k := push_ok a len cap zs now hS hp hB2 hn h0 hb2
      clear hp q0
      clear h hS hb hb2 hB hB2 hn h0 hml
      go_enter Try.func10, Try.ntmps10
      go_wp2_with (go_at_call 15; refine k.mono ?_; rintro e w1 ⟨rfl, en, hen, hS1, hK1⟩)
      refine bodyPost_end (results_none rfl _ _ _) rfl ?_
      exact ⟨rfl, _, hS1, ⟨rfl, Int.le_refl _, fun h => absurd hkd.out h⟩, (K2.of_below hA.out).trans hK1.out⟩
    · have k := push_bad a len cap now hS hp hml
      clear hp q0
      clear h hS hb hb2 hB hB2 hn h0 hml
      go_enter Try.func10, Try.ntmps10
      go_wp2_with (go_at_call 15; refine k.mono ?_; rintro e w1 ⟨rfl, hb1⟩)
      refine bodyPost_end (results_none rfl _ _ _) rfl ?_
      exact ⟨rfl, s, (hS0.out.kept hA.out).kept hb1.out, PlR.of (Sb.refl s), (K2.of_below hA.out).trans (K2.of_below hb1.out)⟩
  · have d0 : (Go.bits .and .i64 kind 3 == 0) = false := by simpa using q0
    by_cases q1 : Go.bits .and .i64 kind 3 = 1
    · have d1 : (Go.bits .and .i64 kind 3 == 1) = true := by simp [q1]
      cases ht : timeB now with
      | false =>
        have k := due_bad now hS ht
        clear ht q0 q1
        clear h hS hb hb2 hB hB2 hn h0 hml
        go_enter Try.func10, Try.ntmps10
        go_wp2_with (go_at_call 16; refine k.mono ?_; rintro e w1 ⟨rfl, hw1⟩; obtain rfl := hw1.symm)
        refine bodyPost_end (results_none rfl _ _ _) rfl ?_
        exact ⟨rfl, s, hS0.out.kept hA.out, PlR.of (Sb.refl s), (K2.of_below hA.out)⟩
      | true =>
        have k := due_ok now hS ht
        clear ht q0 q1
        clear h hS hb hb2 hB hB2 hn h0 hml
        go_enter Try.func10, Try.ntmps10
        go_wp2_with (go_at_call 16; refine k.mono ?_; rintro e w1 ⟨v, L, rfl, hT, hL, hS1, hU, hK1⟩)
        refine bodyPost_end (results_none rfl _ _ _) rfl ?_
        exact ⟨rfl, _, hS1, PlR.of (sb_due s now), (K2.of_below hA.out).trans hK1.out⟩
    · have d1 : (Go.bits .and .i64 kind 3 == 1) = false := by simpa using q1
      by_cases q2 : Go.bits .and .i64 kind 3 = 2
      · have d2 : (Go.bits .and .i64 kind 3 == 2) = true := by simp [q2]
        cases hm : mayB s n credit with
        | false =>
          have k := ack_bad n bits credit hS hm
          clear hm q0 q1 q2
          clear h hS hb hb2 hB hB2 hn h0 hml
          go_enter Try.func10, Try.ntmps10
          go_wp2_with (go_at_call 18; refine k.mono ?_; rintro e w1 ⟨rfl, hw1⟩; obtain rfl := hw1.symm)
          refine bodyPost_end (results_none rfl _ _ _) rfl ?_
          exact ⟨rfl, s, hS0.out.kept hA.out, PlR.of (Sb.refl s), (K2.of_below hA.out)⟩
        | true =>
          have k := ack_ok n bits credit hS hm
          clear hm q0 q1 q2
          clear h hS hb hb2 hB hB2 hn h0 hml
          go_enter Try.func10, Try.ntmps10
          go_wp2_with (go_at_call 18; refine k.mono ?_; rintro e w1 ⟨rfl, hS1, hK1⟩)
          refine bodyPost_end (results_none rfl _ _ _) rfl ?_
          exact ⟨rfl, _, hS1, PlR.of (sb_ack s n bits credit), (K2.of_below hA.out).trans hK1.out⟩
      · have d2 : (Go.bits .and .i64 kind 3 == 2) = false := by simpa using q2
        by_cases q3 : Go.bits .and .i64 kind 3 = 3
        · have d3 : (Go.bits .and .i64 kind 3 == 3) = true := by simp [q3]
          cases hm : timeB now && mayB s n credit with
          | false =>
            have k := res_bad n credit now hS hm
            clear hm q0 q1 q2 q3
            clear h hS hb hb2 hB hB2 hn h0 hml
            go_enter Try.func10, Try.ntmps10
            go_wp2_with (go_at_call 19; refine k.mono ?_; rintro e w1 ⟨rfl, hw1⟩; obtain rfl := hw1.symm)
            refine bodyPost_end (results_none rfl _ _ _) rfl ?_
            exact ⟨rfl, s, hS0.out.kept hA.out, PlR.of (Sb.refl s), (K2.of_below hA.out)⟩
          | true =>
            have k := res_ok n credit now hS hm
            clear hm q0 q1 q2 q3
            clear h hS hb hb2 hB hB2 hn h0 hml
            go_enter Try.func10, Try.ntmps10
            go_wp2_with (go_at_call 19; refine k.mono ?_; rintro e w1 ⟨rfl, hS1, hK1⟩)
            refine bodyPost_end (results_none rfl _ _ _) rfl ?_
            exact ⟨rfl, _, hS1, PlR.of (sb_res s n credit now), (K2.of_below hA.out).trans hK1.out⟩
        · have d3 : (Go.bits .and .i64 kind 3 == 3) = false := by simpa using q3
          clear h hS hb hb2 hB hB2 hn h0 hml q0 q1 q2 q3
          go_enter Try.func10, Try.ntmps10
          go_wp2
          refine bodyPost_end (results_none rfl _ _ _) rfl ?_
          exact ⟨rfl, s, hS0.out.kept hA.out, PlR.of (Sb.refl s), (K2.of_below hA.out)⟩
end Go.Proofs.Ytjnoijpindbobaa
