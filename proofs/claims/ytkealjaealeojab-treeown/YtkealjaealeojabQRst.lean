/-
  What should be zero of a node: tree.rest; and which numbers and counts a Kind may have: tree.mayBe.
-/
import Derived.Test.YtkealjaealeojabQGd
import Derived.Test.YtkealjaealeojabQGb
namespace Go.Proofs.Ytkealjaealeojab
open Go.RowKit
set_option linter.unusedVariables false

/-- A node without its Kind, and without what a node of this Kind has. -/
def rst (b : Nb) : Nb :=
  { kind := 0
    num := if b.kind = 1 ∨ b.kind = 4 ∨ b.kind = 9 ∨ b.kind = 10 then 0 else b.num
    neg := if b.kind = 2 ∨ b.kind = 3 then false else b.neg
    dig := if b.kind = 2 ∨ b.kind = 3 then ⟨#[]⟩ else b.dig
    exp := if b.kind = 3 then 0 else b.exp
    txt := if b.kind = 5 then ⟨#[]⟩ else b.txt
    ab := if b.kind = 6 then none else b.ab
    lb := if b.kind = 6 then 0 else b.lb
    cb := if b.kind = 6 then 0 else b.cb
    ak := if b.kind = 8 then none else b.ak
    lk := if b.kind = 8 then 0 else b.lk
    ck := if b.kind = 8 then 0 else b.ck
    ai := if b.kind = 7 ∨ b.kind = 8 ∨ b.kind = 9 then none else b.ai
    li := if b.kind = 7 ∨ b.kind = 8 ∨ b.kind = 9 then 0 else b.li
    ci := if b.kind = 7 ∨ b.kind = 8 ∨ b.kind = 9 then 0 else b.ci }
/-- The same of a tree. -/
def Tr.rst (t : Tr) : Tr :=
  { kind := 0
    num := if t.kind = 1 ∨ t.kind = 4 ∨ t.kind = 9 ∨ t.kind = 10 then 0 else t.num
    neg := if t.kind = 2 ∨ t.kind = 3 then false else t.neg
    dig := if t.kind = 2 ∨ t.kind = 3 then ⟨#[]⟩ else t.dig
    exp := if t.kind = 3 then 0 else t.exp
    txt := if t.kind = 5 then ⟨#[]⟩ else t.txt
    bytes := if t.kind = 6 then [] else t.bytes
    keys := if t.kind = 8 then [] else t.keys
    kids := if t.kind = 7 ∨ t.kind = 8 ∨ t.kind = 9 then [] else t.kids }
def zT : Tr := ⟨0, 0, false, ⟨#[]⟩, 0, ⟨#[]⟩, [], [], []⟩
theorem room_nil (k : Nat) : Room k none 0 0 := ⟨Nat.le_refl _, Nat.zero_le _, fun _ => rfl, by simp⟩
theorem rowN_nil (Q : Nb → Tr → Prop) (w : World) : RowN Q w none 0 0 [] := ⟨rfl, room_nil _, .inl rfl⟩
theorem bytes_nil (w : World) : Bytes w none [] := ⟨by simp, by simp, .inl rfl⟩
theorem nd_zero (D : Nat) (w : World) : Nd (D + 1) w zN zT := ⟨⟨rfl, rfl, rfl, rfl, rfl, rfl⟩, ⟨by decide, by decide, by decide, by decide, by decide⟩, ⟨rfl, room_nil _, bytes_nil w⟩, rowN_nil _ _, rowN_nil _ _⟩
theorem nd_rst {D : Nat} {w : World} {b : Nb} {t : Tr} (h : Nd (D + 1) w b t) : Nd (D + 1) w (rst b) t.rst := by
  obtain ⟨⟨h0, h1, h2, h3, h4, h5⟩, ⟨g0, g1, g2, g3, g4⟩, ⟨b0, b1, b2⟩, k, i⟩ := h
  unfold rst Tr.rst
  rw [h0, h1, h2, h3, h4, h5]
  refine ⟨⟨rfl, rfl, rfl, rfl, rfl, rfl⟩, ⟨by show (Lit.int .i64 0).wf = true; decide, ?_, ?_, ?_, ?_⟩, ?_, ?_, ?_⟩
  · simp only; split
    · decide
    · exact g1
  · simp only; split
    · decide
    · exact g2
  · simp only; split
    · decide
    · exact g3
  · simp only; split
    · decide
    · exact g4
  · simp only; split
    · exact ⟨rfl, room_nil _, bytes_nil w⟩
    · exact ⟨b0, b1, b2⟩
  · simp only; split
    · exact rowN_nil _ _
    · exact k
  · simp only; split
    · exact rowN_nil _ _
    · exact i
theorem ite_zero {α : Type} {p : Prop} [Decidable p] {a z : α} : (if p then z else a) = z ↔ (p ∨ a = z) := by
  by_cases h : p
  · simp [h]
  · simp [h]
theorem rst_clean (t : Tr) : t.rst = zT ↔ t.clean = true := by
  have e3 : t.dig.size = 0 ↔ t.dig = ⟨#[]⟩ := ⟨none_size, fun h => by rw [h]; rfl⟩
  have e5 : t.txt.size = 0 ↔ t.txt = ⟨#[]⟩ := ⟨none_size, fun h => by rw [h]; rfl⟩
  unfold Tr.clean
  simp only [Bool.and_eq_true, Bool.or_eq_true, decide_eq_true_eq, Bool.not_eq_true', List.length_eq_zero_iff, e3, e5]
  constructor
  · intro h
    have p1 := ite_zero.1 (congrArg Tr.num h)
    have p2 := ite_zero.1 (congrArg Tr.neg h)
    have p3 := ite_zero.1 (congrArg Tr.dig h)
    have p4 := ite_zero.1 (congrArg Tr.exp h)
    have p5 := ite_zero.1 (congrArg Tr.txt h)
    have p6 := ite_zero.1 (congrArg Tr.bytes h)
    have p7 := ite_zero.1 (congrArg Tr.keys h)
    have p8 := ite_zero.1 (congrArg Tr.kids h)
    refine ⟨⟨⟨⟨⟨⟨p1, ?_⟩, p4⟩, p5⟩, p6⟩, p7⟩, p8⟩
    rcases p2 with p2 | p2
    · exact .inl p2
    · rcases p3 with p3 | p3
      · exact .inl p3
      · exact .inr ⟨p2, p3⟩
  · rintro ⟨⟨⟨⟨⟨⟨a, b⟩, c⟩, d⟩, e⟩, f⟩, g⟩
    refine Tr.mk_eq rfl (ite_zero.2 a) (ite_zero.2 ?_) (ite_zero.2 ?_) (ite_zero.2 c) (ite_zero.2 d) (ite_zero.2 e) (ite_zero.2 f) (ite_zero.2 g)
    · rcases b with b | b
      · exact .inl b
      · exact .inr b.1
    · rcases b with b | b
      · exact .inl b
      · exact .inr b.2

set_option maxHeartbeats 4000000 in
set_option maxRecDepth 100000 in
/-- tree.rest. -/
theorem rest_any (b : Nb) (w : World) : Calls Try.prog 39 #[.agg b.arr] w fun e w' => e = .returned (.agg (rst b).arr) ∧ Below w.heap.size w w' := by
  show Calls Try.prog 39 #[.agg #[.int .i64 b.kind, .int .u64 b.num, .bool b.neg, .string b.dig, .int .i64 b.exp, .string b.txt, .slice b.ab b.lb b.cb, .slice b.ak b.lk b.ck, .slice b.ai b.li b.ci]] w _
  by_cases h1 : b.kind = 1
  · have hR : rst b = ⟨0, 0, b.neg, b.dig, b.exp, b.txt, b.ab, b.lb, b.cb, b.ak, b.lk, b.ck, b.ai, b.li, b.ci⟩ := by unfold rst; simp [h1]
    rw [hR]
    clear hR
    go_enter Try.func39, Try.ntmps39
    go_wp2
    refine bodyPost_ret (v := .agg #[.int .i64 0, .int .u64 0, .bool b.neg, .string b.dig, .int .i64 b.exp, .string b.txt, .slice b.ab b.lb b.cb, .slice b.ak b.lk b.ck, .slice b.ai b.li b.ci]) (by simp [results, Try.results39, go_sem]) rfl ⟨rfl, ?_⟩
    exact (alloc_below w _).trans ((alloc_below _ _).mono (Nat.le_of_lt (alloc_lt _ _)))
  by_cases h4 : b.kind = 4
  · have hR : rst b = ⟨0, 0, b.neg, b.dig, b.exp, b.txt, b.ab, b.lb, b.cb, b.ak, b.lk, b.ck, b.ai, b.li, b.ci⟩ := by unfold rst; simp [h4]
    rw [hR]
    clear hR
    go_enter Try.func39, Try.ntmps39
    go_wp2
    refine bodyPost_ret (v := .agg #[.int .i64 0, .int .u64 0, .bool b.neg, .string b.dig, .int .i64 b.exp, .string b.txt, .slice b.ab b.lb b.cb, .slice b.ak b.lk b.ck, .slice b.ai b.li b.ci]) (by simp [results, Try.results39, go_sem]) rfl ⟨rfl, ?_⟩
    exact (alloc_below w _).trans ((alloc_below _ _).mono (Nat.le_of_lt (alloc_lt _ _)))
  by_cases h10 : b.kind = 10
  · have hR : rst b = ⟨0, 0, b.neg, b.dig, b.exp, b.txt, b.ab, b.lb, b.cb, b.ak, b.lk, b.ck, b.ai, b.li, b.ci⟩ := by unfold rst; simp [h10]
    rw [hR]
    clear hR
    go_enter Try.func39, Try.ntmps39
    go_wp2
    refine bodyPost_ret (v := .agg #[.int .i64 0, .int .u64 0, .bool b.neg, .string b.dig, .int .i64 b.exp, .string b.txt, .slice b.ab b.lb b.cb, .slice b.ak b.lk b.ck, .slice b.ai b.li b.ci]) (by simp [results, Try.results39, go_sem]) rfl ⟨rfl, ?_⟩
    exact (alloc_below w _).trans ((alloc_below _ _).mono (Nat.le_of_lt (alloc_lt _ _)))
  by_cases h2 : b.kind = 2
  · have hR : rst b = ⟨0, b.num, false, ⟨#[]⟩, b.exp, b.txt, b.ab, b.lb, b.cb, b.ak, b.lk, b.ck, b.ai, b.li, b.ci⟩ := by unfold rst; simp [h2]
    rw [hR]
    clear hR
    go_enter Try.func39, Try.ntmps39
    go_wp2
    refine bodyPost_ret (v := .agg #[.int .i64 0, .int .u64 b.num, .bool false, .string ⟨#[]⟩, .int .i64 b.exp, .string b.txt, .slice b.ab b.lb b.cb, .slice b.ak b.lk b.ck, .slice b.ai b.li b.ci]) (by simp [results, Try.results39, go_sem]) rfl ⟨rfl, ?_⟩
    exact (alloc_below w _).trans ((alloc_below _ _).mono (Nat.le_of_lt (alloc_lt _ _)))
  by_cases h3 : b.kind = 3
  · have hR : rst b = ⟨0, b.num, false, ⟨#[]⟩, 0, b.txt, b.ab, b.lb, b.cb, b.ak, b.lk, b.ck, b.ai, b.li, b.ci⟩ := by unfold rst; simp [h3]
    rw [hR]
    clear hR
    go_enter Try.func39, Try.ntmps39
    go_wp2
    refine bodyPost_ret (v := .agg #[.int .i64 0, .int .u64 b.num, .bool false, .string ⟨#[]⟩, .int .i64 0, .string b.txt, .slice b.ab b.lb b.cb, .slice b.ak b.lk b.ck, .slice b.ai b.li b.ci]) (by simp [results, Try.results39, go_sem]) rfl ⟨rfl, ?_⟩
    exact (alloc_below w _).trans ((alloc_below _ _).mono (Nat.le_of_lt (alloc_lt _ _)))
  by_cases h5 : b.kind = 5
  · have hR : rst b = ⟨0, b.num, b.neg, b.dig, b.exp, ⟨#[]⟩, b.ab, b.lb, b.cb, b.ak, b.lk, b.ck, b.ai, b.li, b.ci⟩ := by unfold rst; simp [h5]
    rw [hR]
    clear hR
    go_enter Try.func39, Try.ntmps39
    go_wp2
    refine bodyPost_ret (v := .agg #[.int .i64 0, .int .u64 b.num, .bool b.neg, .string b.dig, .int .i64 b.exp, .string ⟨#[]⟩, .slice b.ab b.lb b.cb, .slice b.ak b.lk b.ck, .slice b.ai b.li b.ci]) (by simp [results, Try.results39, go_sem]) rfl ⟨rfl, ?_⟩
    exact (alloc_below w _).trans ((alloc_below _ _).mono (Nat.le_of_lt (alloc_lt _ _)))
  by_cases h6 : b.kind = 6
  · have hR : rst b = ⟨0, b.num, b.neg, b.dig, b.exp, b.txt, none, 0, 0, b.ak, b.lk, b.ck, b.ai, b.li, b.ci⟩ := by unfold rst; simp [h6]
    rw [hR]
    clear hR
    go_enter Try.func39, Try.ntmps39
    go_wp2
    refine bodyPost_ret (v := .agg #[.int .i64 0, .int .u64 b.num, .bool b.neg, .string b.dig, .int .i64 b.exp, .string b.txt, .slice none 0 0, .slice b.ak b.lk b.ck, .slice b.ai b.li b.ci]) (by simp [results, Try.results39, go_sem]) rfl ⟨rfl, ?_⟩
    exact (alloc_below w _).trans ((alloc_below _ _).mono (Nat.le_of_lt (alloc_lt _ _)))
  by_cases h7 : b.kind = 7
  · have hR : rst b = ⟨0, b.num, b.neg, b.dig, b.exp, b.txt, b.ab, b.lb, b.cb, b.ak, b.lk, b.ck, none, 0, 0⟩ := by unfold rst; simp [h7]
    rw [hR]
    clear hR
    go_enter Try.func39, Try.ntmps39
    go_wp2
    refine bodyPost_ret (v := .agg #[.int .i64 0, .int .u64 b.num, .bool b.neg, .string b.dig, .int .i64 b.exp, .string b.txt, .slice b.ab b.lb b.cb, .slice b.ak b.lk b.ck, .slice none 0 0]) (by simp [results, Try.results39, go_sem]) rfl ⟨rfl, ?_⟩
    exact (alloc_below w _).trans ((alloc_below _ _).mono (Nat.le_of_lt (alloc_lt _ _)))
  by_cases h8 : b.kind = 8
  · have hR : rst b = ⟨0, b.num, b.neg, b.dig, b.exp, b.txt, b.ab, b.lb, b.cb, none, 0, 0, none, 0, 0⟩ := by unfold rst; simp [h8]
    rw [hR]
    clear hR
    go_enter Try.func39, Try.ntmps39
    go_wp2
    refine bodyPost_ret (v := .agg #[.int .i64 0, .int .u64 b.num, .bool b.neg, .string b.dig, .int .i64 b.exp, .string b.txt, .slice b.ab b.lb b.cb, .slice none 0 0, .slice none 0 0]) (by simp [results, Try.results39, go_sem]) rfl ⟨rfl, ?_⟩
    exact (alloc_below w _).trans ((alloc_below _ _).mono (Nat.le_of_lt (alloc_lt _ _)))
  by_cases h9 : b.kind = 9
  · have hR : rst b = ⟨0, 0, b.neg, b.dig, b.exp, b.txt, b.ab, b.lb, b.cb, b.ak, b.lk, b.ck, none, 0, 0⟩ := by unfold rst; simp [h9]
    rw [hR]
    clear hR
    go_enter Try.func39, Try.ntmps39
    go_wp2
    refine bodyPost_ret (v := .agg #[.int .i64 0, .int .u64 0, .bool b.neg, .string b.dig, .int .i64 b.exp, .string b.txt, .slice b.ab b.lb b.cb, .slice b.ak b.lk b.ck, .slice none 0 0]) (by simp [results, Try.results39, go_sem]) rfl ⟨rfl, ?_⟩
    exact (alloc_below w _).trans ((alloc_below _ _).mono (Nat.le_of_lt (alloc_lt _ _)))
  have hR : rst b = ⟨0, b.num, b.neg, b.dig, b.exp, b.txt, b.ab, b.lb, b.cb, b.ak, b.lk, b.ck, b.ai, b.li, b.ci⟩ := by unfold rst; simp [h1, h4, h10, h2, h3, h5, h6, h7, h8, h9]
  rw [hR]
  clear hR
  go_enter Try.func39, Try.ntmps39
  go_wp2
  refine bodyPost_ret (v := .agg #[.int .i64 0, .int .u64 b.num, .bool b.neg, .string b.dig, .int .i64 b.exp, .string b.txt, .slice b.ab b.lb b.cb, .slice b.ak b.lk b.ck, .slice b.ai b.li b.ci]) (by simp [results, Try.results39, go_sem]) rfl ⟨rfl, ?_⟩
  exact (alloc_below w _).trans ((alloc_below _ _).mono (Nat.le_of_lt (alloc_lt _ _)))

/-- May a Kind have such numbers and counts? -/
def mayB (b : Nb) : Bool :=
  if b.kind = 1 then decide (b.num ≤ 1) else if b.kind = 8 then decide (b.lk = b.li) else if b.kind = 9 then decide (b.li = 1)
  else if b.kind = 10 then (decide (b.num ≤ 19) || (decide (b.num = 23) || (decide (32 ≤ b.num) && decide (b.num ≤ 255)))) else (decide (0 ≤ b.kind) && decide (b.kind ≤ 10))
end Go.Proofs.Ytkealjaealeojab
