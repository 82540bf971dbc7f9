/-
  The fault of one node, as plain data: gt tells which bytes are a text, ri which digits are a number, rd which numbers may a Dec have.
  What should be zero of a node: tree.rest; and which numbers and counts a Kind may have: tree.mayBe.
  The document's side: which numbers are in their form, which bytes are digits.
  Whole digits: dec.Whole, and the document's.
  When two trees are the same: tree.same.
  Whether a node's number is right, whether its Kind may have such numbers and counts: tree.isInt, isDec, mayBe.
  What is wrong with a node itself: tree.fault (plain part).
  A field of a fault that a call answered.
-/
import Derived.Test.YtelabgonpmafpaaDoorU7
import Derived.Test.YtelabgonpmafpaaDoorU8
import Derived.Test.YtelabgonpmafpaaDoorU3
import Derived.Test.YtelabgonpmafpaaDoorU6
import Derived.Lib.SmallJoins
namespace Go.Proofs.YtelabgonpmafpaaDoor
set_option linter.unusedVariables false

theorem none_size {s : ByteArray} (h : s.size = 0) : s = ⟨#[]⟩ := by
  cases s with
  | mk d =>
    have : d = #[] := Array.eq_empty_of_size_eq_zero h
    rw [this]

namespace Tr
/-- A node with what its Kind has; all else is zero. -/
def bare (t : Tr) : Tr :=
  { kind := t.kind
    num := if t.kind = 1 ∨ t.kind = 4 ∨ t.kind = 9 ∨ t.kind = 10 then t.num else 0
    neg := if t.kind = 2 ∨ t.kind = 3 then t.neg else false
    dig := if t.kind = 2 ∨ t.kind = 3 then t.dig else ⟨#[]⟩
    exp := if t.kind = 3 then t.exp else 0
    txt := if t.kind = 5 then t.txt else ⟨#[]⟩
    bytes := if t.kind = 6 then t.bytes else []
    keys := if t.kind = 8 then t.keys else []
    kids := if t.kind = 7 ∨ t.kind = 8 ∨ t.kind = 9 then t.kids else [] }
/-- Is all else zero? -/
def clean (t : Tr) : Bool :=
  (decide (t.kind = 1 ∨ t.kind = 4 ∨ t.kind = 9 ∨ t.kind = 10) || decide (t.num = 0)) &&
  (decide (t.kind = 2 ∨ t.kind = 3) || (!t.neg && decide (t.dig.size = 0))) &&
  (decide (t.kind = 3) || decide (t.exp = 0)) &&
  (decide (t.kind = 5) || decide (t.txt.size = 0)) &&
  (decide (t.kind = 6) || decide (t.bytes.length = 0)) &&
  (decide (t.kind = 8) || decide (t.keys.length = 0)) &&
  (decide (t.kind = 7 ∨ t.kind = 8 ∨ t.kind = 9) || decide (t.kids.length = 0))
theorem mk_eq {t u : Tr} (h0 : t.kind = u.kind) (h1 : t.num = u.num) (h2 : t.neg = u.neg) (h3 : t.dig = u.dig) (h4 : t.exp = u.exp) (h5 : t.txt = u.txt) (h6 : t.bytes = u.bytes) (h7 : t.keys = u.keys) (h8 : t.kids = u.kids) : t = u := by
  cases t; cases u
  simp only at *
  subst h0 h1 h2 h3 h4 h5 h6 h7 h8
  rfl
theorem ite_self' {α : Type} {p : Prop} [Decidable p] {a z : α} : (if p then a else z) = a ↔ (p ∨ a = z) := by
  by_cases h : p
  · simp [h]
  · simp only [h, false_or]
    exact ⟨fun e => e.symm, fun e => e.symm⟩
theorem clean_iff (t : Tr) : t.clean = true ↔ t.bare = t := by
  have e3 : t.dig.size = 0 ↔ t.dig = ⟨#[]⟩ := ⟨none_size, fun h => by rw [h]; rfl⟩
  have e5 : t.txt.size = 0 ↔ t.txt = ⟨#[]⟩ := ⟨none_size, fun h => by rw [h]; rfl⟩
  unfold clean
  simp only [Bool.and_eq_true, Bool.or_eq_true, decide_eq_true_eq, Bool.not_eq_true', List.length_eq_zero_iff, e3, e5]
  constructor
  · rintro ⟨⟨⟨⟨⟨⟨a, b⟩, c⟩, d⟩, e⟩, f⟩, g⟩
    refine mk_eq rfl (ite_self'.2 a) (ite_self'.2 ?_) (ite_self'.2 ?_) (ite_self'.2 c) (ite_self'.2 d) (ite_self'.2 e) (ite_self'.2 f) (ite_self'.2 g)
    · rcases b with b | b
      · exact .inl b
      · exact .inr b.1
    · rcases b with b | b
      · exact .inl b
      · exact .inr b.2
  · intro h
    have p1 := ite_self'.1 (congrArg num h)
    have p2 := ite_self'.1 (congrArg neg h)
    have p3 := ite_self'.1 (congrArg dig h)
    have p4 := ite_self'.1 (congrArg exp h)
    have p5 := ite_self'.1 (congrArg txt h)
    have p6 := ite_self'.1 (congrArg bytes h)
    have p7 := ite_self'.1 (congrArg keys h)
    have p8 := ite_self'.1 (congrArg kids h)
    refine ⟨⟨⟨⟨⟨⟨p1, ?_⟩, p4⟩, p5⟩, p6⟩, p7⟩, p8⟩
    rcases p2 with p2 | p2
    · exact .inl p2
    · rcases p3 with p3 | p3
      · exact .inl p3
      · exact .inr ⟨p2, p3⟩

/-- May a Simple have this number? -/
def smp (n : Int) : Bool := decide (n < 20) || decide (n = 23) || (decide (32 ≤ n) && decide (n < 256))
/-- Is a node not of its Kind's form, numbers and texts aside? -/
def odd (t : Tr) : Bool :=
  decide (t.kind < 0) || decide (10 < t.kind) || !t.clean || (decide (t.kind = 1) && decide (1 < t.num)) || (decide (t.kind = 8) && decide (t.keys.length ≠ t.kids.length)) || (decide (t.kind = 9) && decide (t.kids.length ≠ 1)) || (decide (t.kind = 10) && !smp t.num)
/-- THE FAULT OF A NODE, what is in it aside. -/
def alo (gt ri : ByteArray → Bool) (rd : Bool → ByteArray → Int → Bool) (t : Tr) : Int :=
  if (t.kind = 5 ∧ 4096 < t.txt.size) ∨ (t.kind = 6 ∧ 4096 < t.bytes.length) then 8
  else if t.kind = 5 ∧ gt t.txt = false then 6
  else if t.kind = 2 ∧ (ri t.dig = false ∨ (t.neg = true ∧ t.dig = ⟨#[48]⟩)) then 11
  else if t.kind = 3 ∧ rd t.neg t.dig t.exp = false then 11
  else if t.odd = true then 12 else 0
theorem alo_odd {gt ri : ByteArray → Bool} {rd : Bool → ByteArray → Int → Bool} {t : Tr} (h : t.alo gt ri rd = 0) : t.odd = false := by
  unfold alo at h
  split at h
  · cases h
  · split at h
    · cases h
    · split at h
      · cases h
      · split at h
        · cases h
        · split at h
          · cases h
          · rename_i h5; simpa using h5
theorem alo_shaped (gt ri : ByteArray → Bool) (rd : Bool → ByteArray → Int → Bool) : Shaped (alo gt ri rd) := by
  intro t h
  have ho := alo_odd h
  unfold odd at ho
  simp only [Bool.or_eq_false_iff, Bool.and_eq_false_imp, decide_eq_true_eq, decide_eq_false_iff_not, Bool.not_eq_false', Classical.not_not] at ho
  obtain ⟨⟨⟨⟨⟨⟨_, _⟩, hc⟩, _⟩, hm⟩, _⟩, _⟩ := ho
  refine ⟨fun h8 => by simpa using hm h8, fun h8 => ?_⟩
  have := congrArg keys ((clean_iff t).1 hc)
  simp only [bare, if_neg h8] at this
  exact this.symm
end Tr
end Go.Proofs.YtelabgonpmafpaaDoor
namespace Go.Proofs.YtelabgonpmafpaaDoor
open Go.RowKit
set_option linter.unusedVariables false

/-- A node without its Kind, and without what a node of this Kind has. -/
def rst (b : Nb) : Nb :=
  { kind := 0
    num := if b.kind = 1 ∨ b.kind = 4 ∨ b.kind = 9 ∨ b.kind = 10 then 0 else b.num
    neg := if b.kind = 2 ∨ b.kind = 3 then false else b.neg
    dig := if b.kind = 2 ∨ b.kind = 3 then ⟨#[]⟩ else b.dig
    exp := if b.kind = 3 then 0 else b.exp
    txt := if b.kind = 5 then ⟨#[]⟩ else b.txt
    ab := if b.kind = 6 then none else b.ab
    lb := if b.kind = 6 then 0 else b.lb
    cb := if b.kind = 6 then 0 else b.cb
    ak := if b.kind = 8 then none else b.ak
    lk := if b.kind = 8 then 0 else b.lk
    ck := if b.kind = 8 then 0 else b.ck
    ai := if b.kind = 7 ∨ b.kind = 8 ∨ b.kind = 9 then none else b.ai
    li := if b.kind = 7 ∨ b.kind = 8 ∨ b.kind = 9 then 0 else b.li
    ci := if b.kind = 7 ∨ b.kind = 8 ∨ b.kind = 9 then 0 else b.ci }
/-- The same of a tree. -/
def Tr.rst (t : Tr) : Tr :=
  { kind := 0
    num := if t.kind = 1 ∨ t.kind = 4 ∨ t.kind = 9 ∨ t.kind = 10 then 0 else t.num
    neg := if t.kind = 2 ∨ t.kind = 3 then false else t.neg
    dig := if t.kind = 2 ∨ t.kind = 3 then ⟨#[]⟩ else t.dig
    exp := if t.kind = 3 then 0 else t.exp
    txt := if t.kind = 5 then ⟨#[]⟩ else t.txt
    bytes := if t.kind = 6 then [] else t.bytes
    keys := if t.kind = 8 then [] else t.keys
    kids := if t.kind = 7 ∨ t.kind = 8 ∨ t.kind = 9 then [] else t.kids }
theorem room_nil (k : Nat) : Room k none 0 0 := ⟨Nat.le_refl _, Nat.zero_le _, fun _ => rfl, by simp⟩
theorem rowN_nil (Q : Nb → Tr → Prop) (w : World) : RowN Q w none 0 0 [] := ⟨rfl, room_nil _, .inl rfl⟩
theorem bytes_nil (w : World) : Bytes w none [] := ⟨by simp, by simp, .inl rfl⟩
theorem nd_zero (D : Nat) (w : World) : Nd (D + 1) w zN zT := ⟨⟨rfl, rfl, rfl, rfl, rfl, rfl⟩, ⟨by decide, by decide, by decide, by decide, by decide⟩, ⟨rfl, room_nil _, bytes_nil w⟩, rowN_nil _ _, rowN_nil _ _⟩
theorem nd_rst {D : Nat} {w : World} {b : Nb} {t : Tr} (h : Nd (D + 1) w b t) : Nd (D + 1) w (rst b) t.rst := by
  obtain ⟨⟨h0, h1, h2, h3, h4, h5⟩, ⟨g0, g1, g2, g3, g4⟩, ⟨b0, b1, b2⟩, k, i⟩ := h
  unfold rst Tr.rst
  rw [h0, h1, h2, h3, h4, h5]
  refine ⟨⟨rfl, rfl, rfl, rfl, rfl, rfl⟩, ⟨by show (Lit.int .i64 0).wf = true; decide, ?_, ?_, ?_, ?_⟩, ?_, ?_, ?_⟩
  · simp only; split
    · decide
    · exact g1
  · simp only; split
    · decide
    · exact g2
  · simp only; split
    · decide
    · exact g3
  · simp only; split
    · decide
    · exact g4
  · simp only; split
    · exact ⟨rfl, room_nil _, bytes_nil w⟩
    · exact ⟨b0, b1, b2⟩
  · simp only; split
    · exact rowN_nil _ _
    · exact k
  · simp only; split
    · exact rowN_nil _ _
    · exact i
theorem ite_zero {α : Type} {p : Prop} [Decidable p] {a z : α} : (if p then z else a) = z ↔ (p ∨ a = z) := by
  by_cases h : p
  · simp [h]
  · simp [h]
theorem rst_clean (t : Tr) : t.rst = zT ↔ t.clean = true := by
  have e3 : t.dig.size = 0 ↔ t.dig = ⟨#[]⟩ := ⟨none_size, fun h => by rw [h]; rfl⟩
  have e5 : t.txt.size = 0 ↔ t.txt = ⟨#[]⟩ := ⟨none_size, fun h => by rw [h]; rfl⟩
  unfold Tr.clean
  simp only [Bool.and_eq_true, Bool.or_eq_true, decide_eq_true_eq, Bool.not_eq_true', List.length_eq_zero_iff, e3, e5]
  constructor
  · intro h
    have p1 := ite_zero.1 (congrArg Tr.num h)
    have p2 := ite_zero.1 (congrArg Tr.neg h)
    have p3 := ite_zero.1 (congrArg Tr.dig h)
    have p4 := ite_zero.1 (congrArg Tr.exp h)
    have p5 := ite_zero.1 (congrArg Tr.txt h)
    have p6 := ite_zero.1 (congrArg Tr.bytes h)
    have p7 := ite_zero.1 (congrArg Tr.keys h)
    have p8 := ite_zero.1 (congrArg Tr.kids h)
    refine ⟨⟨⟨⟨⟨⟨p1, ?_⟩, p4⟩, p5⟩, p6⟩, p7⟩, p8⟩
    rcases p2 with p2 | p2
    · exact .inl p2
    · rcases p3 with p3 | p3
      · exact .inl p3
      · exact .inr ⟨p2, p3⟩
  · rintro ⟨⟨⟨⟨⟨⟨a, b⟩, c⟩, d⟩, e⟩, f⟩, g⟩
    refine Tr.mk_eq rfl (ite_zero.2 a) (ite_zero.2 ?_) (ite_zero.2 ?_) (ite_zero.2 c) (ite_zero.2 d) (ite_zero.2 e) (ite_zero.2 f) (ite_zero.2 g)
    · rcases b with b | b
      · exact .inl b
      · exact .inr b.1
    · rcases b with b | b
      · exact .inl b
      · exact .inr b.2

set_option maxHeartbeats 4000000 in
set_option maxRecDepth 100000 in
/-- tree.rest. -/
theorem rest_any (b : Nb) (w : World) : Calls Tryd.prog 36 #[.agg b.arr] w fun e w' => e = .returned (.agg (rst b).arr) ∧ Below w.heap.size w w' := by
  show Calls Tryd.prog 36 #[.agg #[.int .i64 b.kind, .int .u64 b.num, .bool b.neg, .string b.dig, .int .i64 b.exp, .string b.txt, .slice b.ab b.lb b.cb, .slice b.ak b.lk b.ck, .slice b.ai b.li b.ci]] w _
  by_cases h1 : b.kind = 1
  · have hR : rst b = ⟨0, 0, b.neg, b.dig, b.exp, b.txt, b.ab, b.lb, b.cb, b.ak, b.lk, b.ck, b.ai, b.li, b.ci⟩ := by unfold rst; simp [h1]
    rw [hR]
    clear hR
    go_enter Tryd.func36, Tryd.ntmps36
    go_wp2
    refine bodyPost_ret (v := .agg #[.int .i64 0, .int .u64 0, .bool b.neg, .string b.dig, .int .i64 b.exp, .string b.txt, .slice b.ab b.lb b.cb, .slice b.ak b.lk b.ck, .slice b.ai b.li b.ci]) (by simp [results, Tryd.results36, go_sem]) rfl ⟨rfl, ?_⟩
    exact (alloc_below w _).trans ((alloc_below _ _).mono (Nat.le_of_lt (alloc_lt _ _)))
  by_cases h4 : b.kind = 4
  · have hR : rst b = ⟨0, 0, b.neg, b.dig, b.exp, b.txt, b.ab, b.lb, b.cb, b.ak, b.lk, b.ck, b.ai, b.li, b.ci⟩ := by unfold rst; simp [h4]
    rw [hR]
    clear hR
    go_enter Tryd.func36, Tryd.ntmps36
    go_wp2
    refine bodyPost_ret (v := .agg #[.int .i64 0, .int .u64 0, .bool b.neg, .string b.dig, .int .i64 b.exp, .string b.txt, .slice b.ab b.lb b.cb, .slice b.ak b.lk b.ck, .slice b.ai b.li b.ci]) (by simp [results, Tryd.results36, go_sem]) rfl ⟨rfl, ?_⟩
    exact (alloc_below w _).trans ((alloc_below _ _).mono (Nat.le_of_lt (alloc_lt _ _)))
  by_cases h10 : b.kind = 10
  · have hR : rst b = ⟨0, 0, b.neg, b.dig, b.exp, b.txt, b.ab, b.lb, b.cb, b.ak, b.lk, b.ck, b.ai, b.li, b.ci⟩ := by unfold rst; simp [h10]
    rw [hR]
    clear hR
    go_enter Tryd.func36, Tryd.ntmps36
    go_wp2
    refine bodyPost_ret (v := .agg #[.int .i64 0, .int .u64 0, .bool b.neg, .string b.dig, .int .i64 b.exp, .string b.txt, .slice b.ab b.lb b.cb, .slice b.ak b.lk b.ck, .slice b.ai b.li b.ci]) (by simp [results, Tryd.results36, go_sem]) rfl ⟨rfl, ?_⟩
    exact (alloc_below w _).trans ((alloc_below _ _).mono (Nat.le_of_lt (alloc_lt _ _)))
  by_cases h2 : b.kind = 2
  · have hR : rst b = ⟨0, b.num, false, ⟨#[]⟩, b.exp, b.txt, b.ab, b.lb, b.cb, b.ak, b.lk, b.ck, b.ai, b.li, b.ci⟩ := by unfold rst; simp [h2]
    rw [hR]
    clear hR
    go_enter Tryd.func36, Tryd.ntmps36
    go_wp2
    refine bodyPost_ret (v := .agg #[.int .i64 0, .int .u64 b.num, .bool false, .string ⟨#[]⟩, .int .i64 b.exp, .string b.txt, .slice b.ab b.lb b.cb, .slice b.ak b.lk b.ck, .slice b.ai b.li b.ci]) (by simp [results, Tryd.results36, go_sem]) rfl ⟨rfl, ?_⟩
    exact (alloc_below w _).trans ((alloc_below _ _).mono (Nat.le_of_lt (alloc_lt _ _)))
  by_cases h3 : b.kind = 3
  · have hR : rst b = ⟨0, b.num, false, ⟨#[]⟩, 0, b.txt, b.ab, b.lb, b.cb, b.ak, b.lk, b.ck, b.ai, b.li, b.ci⟩ := by unfold rst; simp [h3]
    rw [hR]
    clear hR
    go_enter Tryd.func36, Tryd.ntmps36
    go_wp2
    refine bodyPost_ret (v := .agg #[.int .i64 0, .int .u64 b.num, .bool false, .string ⟨#[]⟩, .int .i64 0, .string b.txt, .slice b.ab b.lb b.cb, .slice b.ak b.lk b.ck, .slice b.ai b.li b.ci]) (by simp [results, Tryd.results36, go_sem]) rfl ⟨rfl, ?_⟩
    exact (alloc_below w _).trans ((alloc_below _ _).mono (Nat.le_of_lt (alloc_lt _ _)))
  by_cases h5 : b.kind = 5
  · have hR : rst b = ⟨0, b.num, b.neg, b.dig, b.exp, ⟨#[]⟩, b.ab, b.lb, b.cb, b.ak, b.lk, b.ck, b.ai, b.li, b.ci⟩ := by unfold rst; simp [h5]
    rw [hR]
    clear hR
    go_enter Tryd.func36, Tryd.ntmps36
    go_wp2
    refine bodyPost_ret (v := .agg #[.int .i64 0, .int .u64 b.num, .bool b.neg, .string b.dig, .int .i64 b.exp, .string ⟨#[]⟩, .slice b.ab b.lb b.cb, .slice b.ak b.lk b.ck, .slice b.ai b.li b.ci]) (by simp [results, Tryd.results36, go_sem]) rfl ⟨rfl, ?_⟩
    exact (alloc_below w _).trans ((alloc_below _ _).mono (Nat.le_of_lt (alloc_lt _ _)))
  by_cases h6 : b.kind = 6
  · have hR : rst b = ⟨0, b.num, b.neg, b.dig, b.exp, b.txt, none, 0, 0, b.ak, b.lk, b.ck, b.ai, b.li, b.ci⟩ := by unfold rst; simp [h6]
    rw [hR]
    clear hR
    go_enter Tryd.func36, Tryd.ntmps36
    go_wp2
    refine bodyPost_ret (v := .agg #[.int .i64 0, .int .u64 b.num, .bool b.neg, .string b.dig, .int .i64 b.exp, .string b.txt, .slice none 0 0, .slice b.ak b.lk b.ck, .slice b.ai b.li b.ci]) (by simp [results, Tryd.results36, go_sem]) rfl ⟨rfl, ?_⟩
    exact (alloc_below w _).trans ((alloc_below _ _).mono (Nat.le_of_lt (alloc_lt _ _)))
  by_cases h7 : b.kind = 7
  · have hR : rst b = ⟨0, b.num, b.neg, b.dig, b.exp, b.txt, b.ab, b.lb, b.cb, b.ak, b.lk, b.ck, none, 0, 0⟩ := by unfold rst; simp [h7]
    rw [hR]
    clear hR
    go_enter Tryd.func36, Tryd.ntmps36
    go_wp2
    refine bodyPost_ret (v := .agg #[.int .i64 0, .int .u64 b.num, .bool b.neg, .string b.dig, .int .i64 b.exp, .string b.txt, .slice b.ab b.lb b.cb, .slice b.ak b.lk b.ck, .slice none 0 0]) (by simp [results, Tryd.results36, go_sem]) rfl ⟨rfl, ?_⟩
    exact (alloc_below w _).trans ((alloc_below _ _).mono (Nat.le_of_lt (alloc_lt _ _)))
  by_cases h8 : b.kind = 8
  · have hR : rst b = ⟨0, b.num, b.neg, b.dig, b.exp, b.txt, b.ab, b.lb, b.cb, none, 0, 0, none, 0, 0⟩ := by unfold rst; simp [h8]
    rw [hR]
    clear hR
    go_enter Tryd.func36, Tryd.ntmps36
    go_wp2
    refine bodyPost_ret (v := .agg #[.int .i64 0, .int .u64 b.num, .bool b.neg, .string b.dig, .int .i64 b.exp, .string b.txt, .slice b.ab b.lb b.cb, .slice none 0 0, .slice none 0 0]) (by simp [results, Tryd.results36, go_sem]) rfl ⟨rfl, ?_⟩
    exact (alloc_below w _).trans ((alloc_below _ _).mono (Nat.le_of_lt (alloc_lt _ _)))
  by_cases h9 : b.kind = 9
  · have hR : rst b = ⟨0, 0, b.neg, b.dig, b.exp, b.txt, b.ab, b.lb, b.cb, b.ak, b.lk, b.ck, none, 0, 0⟩ := by unfold rst; simp [h9]
    rw [hR]
    clear hR
    go_enter Tryd.func36, Tryd.ntmps36
    go_wp2
    refine bodyPost_ret (v := .agg #[.int .i64 0, .int .u64 0, .bool b.neg, .string b.dig, .int .i64 b.exp, .string b.txt, .slice b.ab b.lb b.cb, .slice b.ak b.lk b.ck, .slice none 0 0]) (by simp [results, Tryd.results36, go_sem]) rfl ⟨rfl, ?_⟩
    exact (alloc_below w _).trans ((alloc_below _ _).mono (Nat.le_of_lt (alloc_lt _ _)))
  have hR : rst b = ⟨0, b.num, b.neg, b.dig, b.exp, b.txt, b.ab, b.lb, b.cb, b.ak, b.lk, b.ck, b.ai, b.li, b.ci⟩ := by unfold rst; simp [h1, h4, h10, h2, h3, h5, h6, h7, h8, h9]
  rw [hR]
  clear hR
  go_enter Tryd.func36, Tryd.ntmps36
  go_wp2
  refine bodyPost_ret (v := .agg #[.int .i64 0, .int .u64 b.num, .bool b.neg, .string b.dig, .int .i64 b.exp, .string b.txt, .slice b.ab b.lb b.cb, .slice b.ak b.lk b.ck, .slice b.ai b.li b.ci]) (by simp [results, Tryd.results36, go_sem]) rfl ⟨rfl, ?_⟩
  exact (alloc_below w _).trans ((alloc_below _ _).mono (Nat.le_of_lt (alloc_lt _ _)))

/-- May a Kind have such numbers and counts? -/
def mayB (b : Nb) : Bool :=
  if b.kind = 1 then decide (b.num ≤ 1) else if b.kind = 8 then decide (b.lk = b.li) else if b.kind = 9 then decide (b.li = 1)
  else if b.kind = 10 then (decide (b.num ≤ 19) || (decide (b.num = 23) || (decide (32 ≤ b.num) && decide (b.num ≤ 255)))) else (decide (0 ≤ b.kind) && decide (b.kind ≤ 10))
end Go.Proofs.YtelabgonpmafpaaDoor
namespace Go.Proofs.YtelabgonpmafpaaDoor
open Go.RowKit

end Go.Proofs.YtelabgonpmafpaaDoor
namespace Go.Proofs.YtelabgonpmafpaaDoor
open Go.RowKit

/-- Digits with 0 behind. -/
def padW (s : ByteArray) (k : Nat) : ByteArray := strOfNums (bs s ++ zerosL k)
theorem pad_bytes (s : ByteArray) (k : Nat) : ∀ c ∈ bs s ++ zerosL k, 0 ≤ c ∧ c < 256 := fun c hc => by
  rcases List.mem_append.1 hc with h | h
  · exact bs_bytes s c h
  · rw [(List.mem_replicate.1 h).2]; decide
theorem bs_padW (s : ByteArray) (k : Nat) : bs (padW s k) = bs s ++ zerosL k := bs_str (pad_bytes s k)
theorem padW_size (s : ByteArray) (k : Nat) : (padW s k).size = s.size + k := by rw [← bs_len, bs_padW, List.length_append, bs_len]; unfold zerosL; rw [List.length_replicate]
theorem padW_zero (s : ByteArray) : padW s 0 = s := by apply bs_inj; rw [bs_padW]; exact List.append_nil _
theorem zeros_snoc (k : Nat) : zerosL k ++ [48] = zerosL (k + 1) := by unfold zerosL; rw [List.replicate_succ']
/-- P6.3: the whole digits. -/
def wholeA (n : Bool) (s : ByteArray) (x : Int) : ByteArray × Bool := if rtN n s x = true ∧ 0 ≤ x ∧ ((s.size : Nat) : Int) + x ≤ 800 then (padW s x.toNat, true) else (noS, false)
theorem rt_padW {n : Bool} {s : ByteArray} {k : Nat} (h : rtN n s ((k : Nat) : Int) = true) : rt (padW s k) = decide (s.size + k ≤ 800) := by
  have hf := (rtN_iff n s _).1 h
  by_cases hz : bs s = [48]
  · have h0 := (hf.2.1 hz).2
    have hk : k = 0 := by omega
    subst hk
    have hs := (rt_size (rtN_rt h)).2
    rw [padW_zero, rtN_rt h]
    simp
    exact hs
  · have hc : Canon (bs s ++ zerosL k) := by
      refine ⟨fun h1 => hf.1.1.1 (List.append_eq_nil_iff.1 h1).1, digs_append hf.1.1.2.1 (zeros_digs k), fun h1 => ?_⟩
      exfalso
      rcases hx : bs s with _ | ⟨c, t⟩
      · exact hf.1.1.1 hx
      · rw [hx] at h1
        have hc : c = 48 := h1
        have h3 := hf.1.1.2.2 (by rw [hx]; exact hc)
        rw [hx] at h3
        have ht : t = [] := List.eq_nil_of_length_eq_zero (by simpa using h3)
        exact hz (by rw [hx, ht, hc])
    have hl : (bs s ++ zerosL k).length = s.size + k := by rw [← bs_padW, bs_len, padW_size]
    rw [Bool.eq_iff_iff, decide_eq_true_iff, rt_iff, bs_padW]
    constructor
    · intro h1
      have := h1.2
      omega
    · intro h1
      exact ⟨hc, by omega⟩
theorem cell48 (w : World) : (w.alloc (.cells #[.int .u8 48] 5)).cell? ((⟨w.heap.size, 0, none⟩ : Addr).add 0) = some (.int .u8 48) := by
  have h : (⟨w.heap.size, 0, none⟩ : Addr).add 0 = ⟨w.heap.size, 0 + 0, none⟩ := by simp [Addr.add]
  rw [h]
  exact World.cell?_alloc_mark w _ _ _ _
theorem conv_below (w : World) (s : ByteArray) : Below w.heap.size w (Lib.bytesWorld w 5 s) := ⟨rfl, rfl, rfl, by rw [Lib.bytesWorld_size]; omega, fun k hk => Lib.bytesWorld_at_old w 5 s k hk⟩
set_option maxRecDepth 100000 in
set_option maxHeartbeats 2000000 in
theorem whole_any (n : Bool) (s : ByteArray) (x : Int) (w : World) : Calls Tryd.prog 49 #[.agg #[.bool n, .string s, .int .i64 x]] w fun e w' => e = .returned (.tuple #[.string (wholeA n s x).1, .bool (wholeA n s x).2]) ∧ Below w.heap.size w w' := by
  have kR := dright_any n s x
  have hB := box_at w n s x 49
  obtain ⟨b0, b1, b2⟩ := id hB
  cases hr : rtN n s x with
  | false =>
    rw [show wholeA n s x = (noS, false) from by unfold wholeA; rw [if_neg (by rw [hr]; simp)]]
    rw [hr] at kR
    clear hr
    go_enter Tryd.func49, Tryd.ntmps49
    go_wp2_with (go_at_call 42; refine (kR _).mono ?_; rintro e w1 ⟨rfl, hb⟩)
    go_ret2
    exact ⟨rfl, box_below hb⟩
  | true =>
    have hx := rtN_exp hr
    have hsz := (rt_size (rtN_rt hr)).2
    have hrp : Hid (∀ k : Nat, x = ((k : Nat) : Int) → rt (padW s k) = decide (s.size + k ≤ 800)) := fun k hk => rt_padW (n := n) (by rw [← hk]; exact hr)
    by_cases hneg : x < 0
    · rw [show wholeA n s x = (noS, false) from by unfold wholeA; rw [if_neg (by omega)]]
      rw [hr] at kR
      have d1 : decide (x < 0) = true := by simpa using hneg
      have hB' : Hid (NmAt (w.alloc (.cells #[.bool n, .string s, .int .i64 x] 49)) w.heap.size n s x) := hB
      clear hr hx hsz hrp hneg hB
      go_enter Tryd.func49, Tryd.ntmps49
      go_wp2_with (go_at_call 42; refine (kR _).mono ?_; rintro e w1 ⟨rfl, hb⟩; obtain ⟨c0, c1, c2⟩ := hB'.out.kept hb (alloc_lt _ _))
      go_ret2
      exact ⟨rfl, box_below hb⟩
    · obtain ⟨k, rfl⟩ : ∃ k : Nat, x = k := ⟨x.toNat, by omega⟩
      have hA : Hid (wholeA n s ((k : Nat) : Int) = if s.size + k ≤ 800 then (padW s k, true) else (noS, false)) := by
        show _ = _
        unfold wholeA
        by_cases h8 : s.size + k ≤ 800
        · rw [if_pos ⟨hr, by omega, by omega⟩, if_pos h8, Int.toNat_natCast]
        · rw [if_neg (by omega), if_neg h8]
      have hrt := hrp.out k rfl
      rw [hr] at kR
      have d1 : decide (((k : Nat) : Int) < 0) = false := by simp
      have hk2 : k ≤ 2000 := by omega
      have hB' : Hid (NmAt (w.alloc (.cells #[.bool n, .string s, .int .i64 ((k : Nat) : Int)] 49)) w.heap.size n s ((k : Nat) : Int)) := hB
      have hrt' : Hid (rt (padW s k) = decide (s.size + k ≤ 800)) := hrt
      have hsz' : Hid (s.size ≤ 800) := hsz
      clear hr hx hsz hrp hneg hB hrt
      generalize wholeA n s ((k : Nat) : Int) = WA at *
      go_enter Tryd.func49, Tryd.ntmps49
      go_wp2_with fail
      refine (kR _).mono ?_
      rintro e w1 ⟨rfl, hb⟩
      have hN1 := hB'.out.kept hb (alloc_lt _ _)
      have d2 := box_below hb
      obtain ⟨c0, c1, c2⟩ := id hN1
      have hcv := Lib.run_convert_string_bytes (P := Tryd.prog) w1 9 23 5 s Tryd.underlying9 Tryd.underlying23 Tryd.underlying5
      have hO := own_conv w1 s (by have := hsz'.out; omega)
      have hbw : Below w1.heap.size w1 (Lib.bytesWorld w1 5 s) := conv_below w1 s
      have hN2 := hN1.kept hbw (Nat.lt_of_lt_of_le (alloc_lt _ _) hb.size)
      generalize Lib.bytesWorld w1 5 s = W2 at *
      generalize grownCap w1 s.size 0 5 = cap2 at *
      obtain ⟨e0, e1, e2⟩ := hN2
      have hO' : Hid (OwnsM W2 w.heap.size (.slice (some ⟨w1.heap.size, 0, none⟩) s.size cap2) (bs s)) := by
        obtain ⟨q0, g, cap, q1, q2, q3⟩ := hO
        exact ⟨q0, g, cap, q1, Nat.le_trans d2.size q2, q3⟩
      have d3 : Hid (Below w.heap.size w W2) := d2.trans (hbw.mono d2.size)
      clear hO hbw d2 hb hN1 kR
      go_wp2
      go_loopw [4, 19] (fun v iv wr => ∃ j : Nat, j ≤ k ∧ iv = .int .i64 j ∧ Hid (OwnsM wr w.heap.size v (bs s ++ zerosL j)) ∧ Hid (Below w.heap.size w wr)) (fun _ iv _ => k - (intOf iv).toNat)
      case atStart => exact ⟨0, Nat.zero_le _, rfl, (by show OwnsM _ _ _ _; rw [show zerosL 0 = [] from rfl, List.append_nil]; exact hO'.out), d3⟩
      case round =>
        obtain ⟨j, hj, rfl, hOj, hbj⟩ := hrel
        clear hO' d3 e0 e1 e2 c0 c1 c2 hcv
        by_cases hlt : j < k
        · have hlj : Hid ((bs s ++ zerosL j).length + 1 ≤ 10000000) := by have := hsz'.out; show _ ≤ _; rw [List.length_append, bs_len]; unfold zerosL; rw [List.length_replicate]; omega
          have hbs := hbj.out.size
          have wj : IntKind.i64.wrap (((j : Nat) : Int) + 1) = ((j : Nat) : Int) + 1 := by rw [IntKind.wrap_i64] <;> omega
          have hlt' : ((j : Nat) : Int) < ((k : Nat) : Int) := by omega
          go_wp2_with (at_builtin; refine wpList_append_m rfl _ _ rfl w.heap.size _ (bs s ++ zerosL j) 48 (by decide) rfl (hOj.out.below (alloc_below wr _)) _ rfl (cell48 wr) hlj.out (Nat.le_trans hbs (Nat.le_of_lt (alloc_lt wr _))) ?_; intro v' w9 ho9 hb9)
          have ho9' : Hid (OwnsM w9 w.heap.size v' (bs s ++ zerosL (j + 1))) := by show OwnsM _ _ _ _; rw [← zeros_snoc, ← List.append_assoc]; exact ho9
          have d9 : Hid (Below w.heap.size w w9) := (hbj.out.alloc hbs _).trans hb9
          clear ho9 hb9
          go_roundw
          case rel => exact ⟨j + 1, by omega, by go_num, ho9', d9⟩
          case measure => simp [intOf]; omega
        · obtain rfl : j = k := by omega
          obtain ⟨g, m, cap, rfl, hm, hmc, hcm, hBy⟩ := hOj.out.form
          have cv := conv_str hBy.out m cap hm.out
          have e : strOfNums (bs s ++ zerosL j) = padW s j := rfl
          rw [e] at cv
          have kQ := right_any (padW s j)
          rw [hrt'.out] at kQ
          clear hlt hBy hOj e
          by_cases h8 : s.size + j ≤ 800
          · have hWA := hA.out
            rw [if_pos h8] at hWA
            subst hWA
            rw [show decide (s.size + j ≤ 800) = true from by simpa using h8] at kQ
            clear h8 hrt'
            go_wp2_with (go_at_call 48; refine (kQ _).mono ?_; rintro e w5 ⟨rfl, hw5⟩; rw [hw5]; clear hw5)
            go_ret2
            exact ⟨rfl, hbj.out⟩
          · have hWA := hA.out
            rw [if_neg h8] at hWA
            subst hWA
            rw [show decide (s.size + j ≤ 800) = false from by simpa using h8] at kQ
            clear h8 hrt'
            generalize padW s j = PW at *
            go_wp2_with (go_at_call 48; refine (kQ _).mono ?_; rintro e w5 ⟨rfl, hw5⟩; rw [hw5]; clear hw5)
            go_ret2
            exact ⟨rfl, hbj.out⟩
end Go.Proofs.YtelabgonpmafpaaDoor
namespace Go.Proofs.YtelabgonpmafpaaDoor
open Go.RowKit
set_option linter.unusedVariables false

theorem beq_of {s t : ByteArray} (v : Bool) (h : v = true ↔ s = t) : (s.toList == t.toList) = v := by
  rw [Bool.eq_iff_iff, h, beq_iff_eq, ByteArray.toList_eq, ByteArray.toList_eq]
  constructor
  · intro e
    cases s; cases t
    simp only at e
    rw [Array.toList_inj.1 e]
  · intro e; rw [e]
theorem not_true {v : Bool} {p : Prop} (h : v = true ↔ p) (hp : ¬ p) : v = false := by
  cases v with
  | false => rfl
  | true => exact absurd (h.1 rfl) hp

set_option maxHeartbeats 8000000 in
set_option maxRecDepth 100000 in
/-- tree.same, one level more. -/
theorem same_step {D : Nat} (ih : SameAt D) (t u : Tr) (a b : Nb) (w : World) (v : Bool) (hA : Nd (D + 1) w a t) (hB : Nd (D + 1) w b u) (hv : v = true ↔ t = u) :
    Calls Tryd.prog 35 #[.agg a.arr, .agg b.arr] w fun e w' => e = .returned (.bool v) ∧ Below w.heap.size w w' := by
  have e36 : ∀ args w, (callFunc 35 args).run Tryd.prog w = .ok (.enter 35 args) w := enters_of Tryd.func35 (by kernel_rfl) rfl
  have hal := alloc_below w (.cells a.arr 26)
  have hal2 := alloc_below (w.alloc (.cells a.arr 26)) (.cells b.arr 26)
  have hb2 : Hid (Below w.heap.size w ((w.alloc (.cells a.arr 26)).alloc (.cells b.arr 26))) := hal.trans (hal2.mono hal.size)
  have hs2 : Hid (w.heap.size ≤ ((w.alloc (.cells a.arr 26)).alloc (.cells b.arr 26)).heap.size) := Nat.le_trans hal.size hal2.size
  have boxA := (nbox_new w a).kept hal2 (by simp)
  have boxB := nbox_new (w.alloc (.cells a.arr 26)) b
  have s1 : (w.alloc (.cells a.arr 26)).heap.size = w.heap.size + 1 := by simp
  rw [s1] at boxB
  obtain ⟨a0, a1, a2, a3, a4, a5, a6, a7, a8⟩ := boxA.fields
  obtain ⟨b0, b1, b2, b3, b4, b5, b6, b7, b8⟩ := boxB.fields
  obtain ⟨⟨x0, x1, x2, x3, x4, x5⟩, _, ⟨xl, xr, xb⟩, xk, xi⟩ := hA
  obtain ⟨⟨y0, y1, y2, y3, y4, y5⟩, _, ⟨yl, yr, yb⟩, yk, yi⟩ := hB
  have kq := fun v' h => beq_any a.ab b.ab a.lb b.lb a.cb b.cb t.bytes u.bytes ((w.alloc (.cells a.arr 26)).alloc (.cells b.arr 26)) xl yl ((xb.kept hal).kept hal2) ((yb.kept hal).kept hal2) v' h
  have kK : Hid (∀ w', Below w.heap.size w w' → ∀ v' : Bool, (v' = true ↔ t.keys = u.keys) → Calls Tryd.prog 51 #[.slice a.ak a.lk a.ck, .slice b.ak b.lk b.ck, .func (.func 35) #[] #[]] w' fun e w'' => e = .returned (.bool v') ∧ Below w'.heap.size w' w'') := fun w' hb v' h => eqf_any ih _ _ _ _ _ _ _ _ w' (xk.kept hb fun _ _ _ q => q.kept hb) (yk.kept hb fun _ _ _ q => q.kept hb) v' h
  have kI : Hid (∀ w', Below w.heap.size w w' → ∀ v' : Bool, (v' = true ↔ t.kids = u.kids) → Calls Tryd.prog 51 #[.slice a.ai a.li a.ci, .slice b.ai b.li b.ci, .func (.func 35) #[] #[]] w' fun e w'' => e = .returned (.bool v') ∧ Below w'.heap.size w' w'') := fun w' hb v' h => eqf_any ih _ _ _ _ _ _ _ _ w' (xi.kept hb fun _ _ _ q => q.kept hb) (yi.kept hb fun _ _ _ q => q.kept hb) v' h
  have hKa : Hid (NBox ((w.alloc (.cells a.arr 26)).alloc (.cells b.arr 26)) w.heap.size a) := boxA
  have hKb : Hid (NBox ((w.alloc (.cells a.arr 26)).alloc (.cells b.arr 26)) (w.heap.size + 1) b) := boxB
  have hsz : Hid (w.heap.size + 1 < ((w.alloc (.cells a.arr 26)).alloc (.cells b.arr 26)).heap.size) := by show _ < _; simp
  have hE : Hid (t = u ↔ a.kind = b.kind ∧ a.num = b.num ∧ a.neg = b.neg ∧ a.dig = b.dig ∧ a.exp = b.exp ∧ a.txt = b.txt ∧ t.bytes = u.bytes ∧ t.keys = u.keys ∧ t.kids = u.kids) := by
    show _ ↔ _
    rw [x0, x1, x2, x3, x4, x5, y0, y1, y2, y3, y4, y5]
    exact ⟨fun h => by subst h; exact ⟨rfl, rfl, rfl, rfl, rfl, rfl, rfl, rfl, rfl⟩, fun ⟨h0, h1, h2, h3, h4, h5, h6, h7, h8⟩ => Tr.mk_eq h0 h1 h2 h3 h4 h5 h6 h7 h8⟩
  have hV : Hid (v = true ↔ t = u) := hv
  clear x0 x1 x2 x3 x4 x5 y0 y1 y2 y3 y4 y5 xl yl xb yb xr yr xk xi yk yi hal hal2 boxA boxB s1 hv ih
  by_cases hN : a.kind = b.kind
  · have q0 : (a.kind == b.kind) = true := by rw [hN]; exact beq_self_eq_true _
    have e0 : Hid (a.kind = b.kind) := hN
    clear hN
    by_cases hN : a.num = b.num
    · have q1 : (a.num == b.num) = true := by rw [hN]; exact beq_self_eq_true _
      have e1 : Hid (a.num = b.num) := hN
      clear hN
      by_cases hN : a.neg = b.neg
      · have q2 : (a.neg == b.neg) = true := by rw [hN]; exact beq_self_eq_true _
        have e2 : Hid (a.neg = b.neg) := hN
        clear hN
        by_cases hN : a.dig = b.dig
        · have q3 := beq_of (s := a.dig) (t := b.dig) true (by simp [hN])
          have e3 : Hid (a.dig = b.dig) := hN
          clear hN
          by_cases hN : a.exp = b.exp
          · have q4 : (a.exp == b.exp) = true := by rw [hN]; exact beq_self_eq_true _
            have e4 : Hid (a.exp = b.exp) := hN
            clear hN
            by_cases hN : a.txt = b.txt
            · have q5 := beq_of (s := a.txt) (t := b.txt) true (by simp [hN])
              have e5 : Hid (a.txt = b.txt) := hN
              clear hN
              by_cases hN : t.bytes = u.bytes
              · have k1 := kq true (by simp [hN])
                have e6 : Hid (t.bytes = u.bytes) := hN
                clear hN kq
                by_cases hN : t.keys = u.keys
                · have k2 := kK.out _ hb2.out true (by simp [hN])
                  have e7 : Hid (t.keys = u.keys) := hN
                  clear hN kK
                  by_cases hN : t.kids = u.kids
                  · have k4 := fun w' hb => kI.out w' hb true (by simp [hN])
                    have hvt : v = true := hV.out.2 (hE.out.2 ⟨e0.out, e1.out, e2.out, e3.out, e4.out, e5.out, e6.out, e7.out, hN⟩)
                    subst hvt
                    clear hN kI
                    go_enter Tryd.func35, Tryd.ntmps35
                    go_wp2_with (first
                      | (go_at_call 50; refine k1.mono ?_; rintro e w1 ⟨rfl, hw⟩; subst hw)
                      | (go_at_call 51; refine k2.mono ?_; rintro e w2 ⟨rfl, hb3⟩; clear k2; obtain ⟨c0, c1, c2, c3, c4, c5, c6, c7, c8⟩ := (hKa.out.kept hb3 (Nat.lt_of_le_of_lt (Nat.le_succ _) hsz.out)).fields; obtain ⟨d0, d1, d2, d3, d4, d5, d6, d7, d8⟩ := (hKb.out.kept hb3 hsz.out).fields; have hbw := hb2.out.trans (hb3.mono hs2.out); have k3 := k4 w2 hbw)
                      | (go_at_call 51; refine k3.mono ?_; rintro e w3 ⟨rfl, hb4⟩))
                    go_ret
                    exact ⟨rfl, hbw.trans (hb4.mono hbw.size)⟩
                  · have k4 := fun w' hb => kI.out w' hb false (by simp [hN])
                    have hvf : v = false := not_true hV.out (fun h => hN (hE.out.1 h).2.2.2.2.2.2.2.2)
                    subst hvf
                    clear hN kI
                    go_enter Tryd.func35, Tryd.ntmps35
                    go_wp2_with (first
                      | (go_at_call 50; refine k1.mono ?_; rintro e w1 ⟨rfl, hw⟩; subst hw)
                      | (go_at_call 51; refine k2.mono ?_; rintro e w2 ⟨rfl, hb3⟩; clear k2; obtain ⟨c0, c1, c2, c3, c4, c5, c6, c7, c8⟩ := (hKa.out.kept hb3 (Nat.lt_of_le_of_lt (Nat.le_succ _) hsz.out)).fields; obtain ⟨d0, d1, d2, d3, d4, d5, d6, d7, d8⟩ := (hKb.out.kept hb3 hsz.out).fields; have hbw := hb2.out.trans (hb3.mono hs2.out); have k3 := k4 w2 hbw)
                      | (go_at_call 51; refine k3.mono ?_; rintro e w3 ⟨rfl, hb4⟩))
                    go_ret
                    exact ⟨rfl, hbw.trans (hb4.mono hbw.size)⟩
                · have k2 := kK.out _ hb2.out false (by simp [hN])
                  have hvf : v = false := not_true hV.out (fun h => hN (hE.out.1 h).2.2.2.2.2.2.2.1)
                  subst hvf
                  clear hN kK kI
                  go_enter Tryd.func35, Tryd.ntmps35
                  go_wp2_with (first
                    | (go_at_call 50; refine k1.mono ?_; rintro e w1 ⟨rfl, hw⟩; subst hw)
                    | (go_at_call 51; refine k2.mono ?_; rintro e w2 ⟨rfl, hb3⟩; clear k2))
                  go_ret
                  exact ⟨rfl, hb2.out.trans (hb3.mono hs2.out)⟩
              · have k1 := kq false (by simp [hN])
                have hvf : v = false := not_true hV.out (fun h => hN (hE.out.1 h).2.2.2.2.2.2.1)
                subst hvf
                clear hN kq
                go_enter Tryd.func35, Tryd.ntmps35
                go_wp2_with (go_at_call 50; refine k1.mono ?_; rintro e w1 ⟨rfl, hw⟩; subst hw)
                go_ret
                exact ⟨rfl, hb2.out⟩
            · have q5 := beq_of (s := a.txt) (t := b.txt) false (by simp [hN])
              have hvf : v = false := not_true hV.out (fun h => hN (hE.out.1 h).2.2.2.2.2.1)
              subst hvf
              clear hN
              go_enter Tryd.func35, Tryd.ntmps35
              go_wp2
              go_ret
              exact ⟨rfl, hb2.out⟩
          · have q4 : (a.exp == b.exp) = false := by simp [hN]
            have hvf : v = false := not_true hV.out (fun h => hN (hE.out.1 h).2.2.2.2.1)
            subst hvf
            clear hN
            go_enter Tryd.func35, Tryd.ntmps35
            go_wp2
            go_ret
            exact ⟨rfl, hb2.out⟩
        · have q3 := beq_of (s := a.dig) (t := b.dig) false (by simp [hN])
          have hvf : v = false := not_true hV.out (fun h => hN (hE.out.1 h).2.2.2.1)
          subst hvf
          clear hN
          go_enter Tryd.func35, Tryd.ntmps35
          go_wp2
          go_ret
          exact ⟨rfl, hb2.out⟩
      · have q2 : (a.neg == b.neg) = false := by simp [hN]
        have hvf : v = false := not_true hV.out (fun h => hN (hE.out.1 h).2.2.1)
        subst hvf
        clear hN
        go_enter Tryd.func35, Tryd.ntmps35
        go_wp2
        go_ret
        exact ⟨rfl, hb2.out⟩
    · have q1 : (a.num == b.num) = false := by simp [hN]
      have hvf : v = false := not_true hV.out (fun h => hN (hE.out.1 h).2.1)
      subst hvf
      clear hN
      go_enter Tryd.func35, Tryd.ntmps35
      go_wp2
      go_ret
      exact ⟨rfl, hb2.out⟩
  · have q0 : (a.kind == b.kind) = false := by simp [hN]
    have hvf : v = false := not_true hV.out (fun h => hN (hE.out.1 h).1)
    subst hvf
    clear hN
    go_enter Tryd.func35, Tryd.ntmps35
    go_wp2
    go_ret
    exact ⟨rfl, hb2.out⟩

theorem same_all : ∀ D, SameAt D := by
  intro D
  induction D with
  | zero => intro t u a b w v h; exact absurd h id
  | succ D ih => exact fun t u a b w v hA hB hv => same_step ih t u a b w v hA hB hv
/-- tree.same. -/
theorem sam_any {D E : Nat} {t u : Tr} {a b : Nb} {w : World} {v : Bool} (hA : Nd D w a t) (hB : Nd E w b u) (hv : v = true ↔ t = u) : Calls Tryd.prog 35 #[.agg a.arr, .agg b.arr] w fun e w' => e = .returned (.bool v) ∧ Below w.heap.size w w' :=
  same_all (max D E) t u a b w v (hA.le (Nat.le_max_left _ _)) (hB.le (Nat.le_max_right _ _)) hv
end Go.Proofs.YtelabgonpmafpaaDoor
namespace Go.Proofs.YtelabgonpmafpaaDoor
open Go.RowKit
set_option linter.unusedVariables false

set_option maxHeartbeats 4000000 in
theorem maybe_any (b : Nb) (w : World) (hlen : b.lk ≤ b.ck ∧ b.ck ≤ maxLen ∧ b.li ≤ b.ci ∧ b.ci ≤ maxLen) : Calls Tryd.prog 34 #[.agg b.arr] w fun e w' => e = .returned (.bool (mayB b)) ∧ Below w.heap.size w w' := by
  have hal := alloc_below w (.cells b.arr 26)
  have hB : Hid (Below w.heap.size w (w.alloc (.cells b.arr 26))) := hal
  obtain ⟨a0, a1, a2, a3, a4, a5, a6, a7, a8⟩ := (nbox_new w b).fields
  unfold maxLen at hlen
  obtain ⟨l0, l1, l2, l3⟩ := hlen
  clear hal
  by_cases h1 : b.kind = 1
  · rw [show mayB b = decide (b.num ≤ 1) from by unfold mayB; rw [if_pos h1]]
    go_enter Tryd.func34, Tryd.ntmps34
    go_wp2
    go_ret
    exact ⟨rfl, hB.out⟩
  by_cases h8 : b.kind = 8
  · rw [show mayB b = decide (b.lk = b.li) from by unfold mayB; rw [if_neg h1, if_pos h8]]
    clear h1
    by_cases hq : b.lk = b.li
    · rw [decide_eq_true hq]
      have hq' : (b.lk : Int) = (b.li : Int) := by omega
      clear hq
      go_enter Tryd.func34, Tryd.ntmps34
      go_wp2
      go_ret
      exact ⟨rfl, hB.out⟩
    · rw [decide_eq_false hq]
      have hq' : ((b.lk : Int) == (b.li : Int)) = false := by simp; omega
      clear hq
      go_enter Tryd.func34, Tryd.ntmps34
      go_wp2
      go_ret
      exact ⟨rfl, hB.out⟩
  by_cases h9 : b.kind = 9
  · rw [show mayB b = decide (b.li = 1) from by unfold mayB; rw [if_neg h1, if_neg h8, if_pos h9]]
    clear h1 h8
    by_cases hq : b.li = 1
    · rw [decide_eq_true hq]
      have hq' : ((b.li : Int) == 1) = true := by simp; omega
      clear hq
      go_enter Tryd.func34, Tryd.ntmps34
      go_wp2
      go_ret
      exact ⟨rfl, hB.out⟩
    · rw [decide_eq_false hq]
      have hq' : ((b.li : Int) == 1) = false := by simp; omega
      clear hq
      go_enter Tryd.func34, Tryd.ntmps34
      go_wp2
      go_ret
      exact ⟨rfl, hB.out⟩
  by_cases h10 : b.kind = 10
  · rw [show mayB b = (decide (b.num ≤ 19) || (decide (b.num = 23) || (decide (32 ≤ b.num) && decide (b.num ≤ 255)))) from by unfold mayB; rw [if_neg h1, if_neg h8, if_neg h9, if_pos h10]]
    clear h1 h8 h9
    by_cases q1 : b.num ≤ 19
    · have q1' : decide (b.num ≤ 19) = true := decide_eq_true q1
      rw [q1', Bool.true_or]
      clear q1
      go_enter Tryd.func34, Tryd.ntmps34
      go_wp2
      go_ret
      exact ⟨rfl, hB.out⟩
    · have q1' : decide (b.num ≤ 19) = false := decide_eq_false q1
      rw [q1', Bool.false_or]
      clear q1
      by_cases q2 : b.num = 23
      · have q2' : (b.num == 23) = true := by simp [q2]
        rw [decide_eq_true q2, Bool.true_or]
        clear q2
        go_enter Tryd.func34, Tryd.ntmps34
        go_wp2
        go_ret
        exact ⟨rfl, hB.out⟩
      · have q2' : (b.num == 23) = false := by simp [q2]
        rw [decide_eq_false q2, Bool.false_or]
        clear q2
        by_cases q3 : 32 ≤ b.num
        · have q3' : decide (32 ≤ b.num) = true := decide_eq_true q3
          rw [q3', Bool.true_and]
          clear q3
          go_enter Tryd.func34, Tryd.ntmps34
          go_wp2
          go_ret
          exact ⟨rfl, hB.out⟩
        · have q3' : decide (32 ≤ b.num) = false := decide_eq_false q3
          rw [q3', Bool.false_and]
          clear q3
          go_enter Tryd.func34, Tryd.ntmps34
          go_wp2
          go_ret
          exact ⟨rfl, hB.out⟩
  rw [show mayB b = (decide (0 ≤ b.kind) && decide (b.kind ≤ 10)) from by unfold mayB; rw [if_neg h1, if_neg h8, if_neg h9, if_neg h10]]
  have g1 : (b.kind == 1) = false := by simp [h1]
  have g8 : (b.kind == 8) = false := by simp [h8]
  have g9 : (b.kind == 9) = false := by simp [h9]
  have g10 : (b.kind == 10) = false := by simp [h10]
  clear h1 h8 h9 h10
  by_cases q1 : 0 ≤ b.kind
  · have q1' : decide (0 ≤ b.kind) = true := decide_eq_true q1
    rw [q1', Bool.true_and]
    clear q1
    go_enter Tryd.func34, Tryd.ntmps34
    go_wp2
    go_ret
    exact ⟨rfl, hB.out⟩
  · have q1' : decide (0 ≤ b.kind) = false := decide_eq_false q1
    rw [q1', Bool.false_and]
    clear q1
    go_enter Tryd.func34, Tryd.ntmps34
    go_wp2
    go_ret
    exact ⟨rfl, hB.out⟩

set_option maxHeartbeats 2000000 in
theorem isint_any (b : Nb) (w : World) (v : Bool) (hv : v = true ↔ rt b.dig = true ∧ ¬ (b.neg = true ∧ b.dig = ⟨#[48]⟩)) : Calls Tryd.prog 32 #[.agg b.arr] w fun e w' => e = .returned (.bool v) ∧ Below w.heap.size w w' := by
  have hal := alloc_below w (.cells b.arr 26)
  have hB : Hid (Below w.heap.size w (w.alloc (.cells b.arr 26))) := hal
  obtain ⟨a0, a1, a2, a3, a4, a5, a6, a7, a8⟩ := (nbox_new w b).fields
  have kR := right_any b.dig (w.alloc (.cells b.arr 26))
  clear hal
  have hz : ∀ v' : Bool, (v' = true ↔ b.dig = ⟨#[48]⟩) → (b.dig.toList == [48]) = v' := fun v' h => by
    rw [eq_size, Bool.eq_iff_iff, h, decide_eq_true_iff]; exact Iff.rfl
  cases hr : rt b.dig with
  | false =>
    have hvf : v = false := not_true hv (fun h => by rw [hr] at h; exact absurd h.1 (by simp))
    subst hvf
    rw [hr] at kR
    clear hr hv hz
    go_enter Tryd.func32, Tryd.ntmps32
    go_wp2_with (go_at_call 48; refine kR.mono ?_; rintro e w1 ⟨rfl, hw⟩; subst hw)
    go_ret
    exact ⟨rfl, hB.out⟩
  | true =>
    rw [hr] at kR
    cases hn : b.neg with
    | false =>
      rw [hn] at a2
      have hvf : v = true := hv.2 ⟨hr, fun h => by rw [hn] at h; exact absurd h.1 (by simp)⟩
      subst hvf
      clear hr hv hz hn
      go_enter Tryd.func32, Tryd.ntmps32
      go_wp2_with (go_at_call 48; refine kR.mono ?_; rintro e w1 ⟨rfl, hw⟩; subst hw)
      go_ret
      exact ⟨rfl, hB.out⟩
    | true =>
      rw [hn] at a2
      by_cases hq : b.dig = ⟨#[48]⟩
      · have hd := hz true (by simp [hq])
        have hvf : v = false := not_true hv (fun h => h.2 ⟨hn, hq⟩)
        subst hvf
        clear hr hv hz hn hq
        go_enter Tryd.func32, Tryd.ntmps32
        go_wp2_with (go_at_call 48; refine kR.mono ?_; rintro e w1 ⟨rfl, hw⟩; subst hw)
        go_ret
        exact ⟨rfl, hB.out⟩
      · have hd := hz false (by simp [hq])
        have hvf : v = true := hv.2 ⟨hr, fun h => hq h.2⟩
        subst hvf
        clear hr hv hz hn hq
        go_enter Tryd.func32, Tryd.ntmps32
        go_wp2_with (go_at_call 48; refine kR.mono ?_; rintro e w1 ⟨rfl, hw⟩; subst hw)
        go_ret
        exact ⟨rfl, hB.out⟩

/-- Is a number right, and not whole? -/
def rdN (n : Bool) (s : ByteArray) (x : Int) : Bool := rtN n s x && !(wholeA n s x).2
set_option maxHeartbeats 2000000 in
theorem isdec_any (b : Nb) (w : World) : Calls Tryd.prog 33 #[.agg b.arr] w fun e w' => e = .returned (.bool (rdN b.neg b.dig b.exp)) ∧ Below w.heap.size w w' := by
  have hal := alloc_below w (.cells b.arr 26)
  have hal2 := alloc_below (w.alloc (.cells b.arr 26)) (.cells #[.bool b.neg, .string b.dig, .int .i64 b.exp] 49)
  have hB : Hid (Below w.heap.size w ((w.alloc (.cells b.arr 26)).alloc (.cells #[.bool b.neg, .string b.dig, .int .i64 b.exp] 49))) := hal.trans (hal2.mono (Nat.le_of_lt (alloc_lt _ _)))
  obtain ⟨a0, a1, a2, a3, a4, a5, a6, a7, a8⟩ := (nbox_new w b).fields
  have s1 : (w.alloc (.cells b.arr 26)).heap.size = w.heap.size + 1 := by simp
  have hN := row_new (w.alloc (.cells b.arr 26)) b.neg b.dig b.exp
  rw [s1] at hN
  have hN' : Hid (NRow ((w.alloc (.cells b.arr 26)).alloc (.cells #[.bool b.neg, .string b.dig, .int .i64 b.exp] 49)) (w.heap.size + 1) b.neg b.dig b.exp) := hN
  obtain ⟨n0, n1, n2⟩ := hN.at
  have kW := whole_any b.neg b.dig b.exp ((w.alloc (.cells b.arr 26)).alloc (.cells #[.bool b.neg, .string b.dig, .int .i64 b.exp] 49))
  have kR := dright_any b.neg b.dig b.exp
  unfold rdN
  generalize (wholeA b.neg b.dig b.exp).1 = S at *
  generalize (wholeA b.neg b.dig b.exp).2 = V at *
  clear hal hal2 s1 hN
  cases hr : rtN b.neg b.dig b.exp with
  | false =>
    rw [hr] at kR
    rw [Bool.false_and]
    clear hr
    go_enter Tryd.func33, Tryd.ntmps33
    go_wp2_with (first
      | (go_at_call 49; refine kW.mono ?_; rintro e w1 ⟨rfl, hb1⟩; have hN1 := hN'.out.kept hb1; obtain ⟨m0, m1, m2⟩ := hN1.at; have hbw := hB.out.trans (hb1.mono hB.out.size))
      | (go_at_call 42; refine (kR _).mono ?_; rintro e w2 ⟨rfl, hb2⟩))
    go_ret
    exact ⟨rfl, hbw.trans (hb2.mono hbw.size)⟩
  | true =>
    rw [hr] at kR
    rw [Bool.true_and]
    clear hr
    cases V with
    | false =>
      go_enter Tryd.func33, Tryd.ntmps33
      go_wp2_with (first
        | (go_at_call 49; refine kW.mono ?_; rintro e w1 ⟨rfl, hb1⟩; have hN1 := hN'.out.kept hb1; obtain ⟨m0, m1, m2⟩ := hN1.at; have hbw := hB.out.trans (hb1.mono hB.out.size))
        | (go_at_call 42; refine (kR _).mono ?_; rintro e w2 ⟨rfl, hb2⟩))
      go_ret
      exact ⟨rfl, hbw.trans (hb2.mono hbw.size)⟩
    | true =>
      go_enter Tryd.func33, Tryd.ntmps33
      go_wp2_with (first
        | (go_at_call 49; refine kW.mono ?_; rintro e w1 ⟨rfl, hb1⟩; have hN1 := hN'.out.kept hb1; obtain ⟨m0, m1, m2⟩ := hN1.at; have hbw := hB.out.trans (hb1.mono hB.out.size))
        | (go_at_call 42; refine (kR _).mono ?_; rintro e w2 ⟨rfl, hb2⟩))
      go_ret
      exact ⟨rfl, hbw.trans (hb2.mono hbw.size)⟩
end Go.Proofs.YtelabgonpmafpaaDoor
namespace Go.Proofs.YtelabgonpmafpaaDoor
open Go.RowKit
set_option linter.unusedVariables false

/-- Are these bytes a text? -/
def gtx (s : ByteArray) : Bool := decide (whyL (bs s) = 0)
/-- The fault of a node. -/
def alF (t : Tr) : Int := t.alo gtx rt rdN
theorem alF_shaped : Tr.Shaped alF := Tr.alo_shaped gtx rt rdN
theorem why_two (zs : List Int) : whyL zs = 0 ∨ whyL zs = 6 := by unfold whyL; split <;> simp
theorem odd_eq {D : Nat} {w : World} {b : Nb} {t : Tr} (h : Nd (D + 1) w b t) : t.odd = !(mayB b && t.clean) := by
  have h0 : b.kind = t.kind := h.1.1
  have h1 : b.num = t.num := h.1.2.1
  have hk : t.keys.length = b.lk := h.2.2.2.1.1
  have hi : t.kids.length = b.li := h.2.2.2.2.1
  have e8 : decide (b.lk = b.li) = !decide (t.keys.length ≠ t.kids.length) := by rw [hk, hi]; by_cases q : b.lk = b.li <;> simp [q]
  have e9 : decide (b.li = 1) = !decide (t.kids.length ≠ 1) := by rw [hi]; by_cases q : b.li = 1 <;> simp [q]
  unfold Tr.odd mayB
  rw [h0, h1, e8, e9]
  generalize t.clean = c
  generalize decide (t.keys.length ≠ t.kids.length) = p8
  generalize decide (t.kids.length ≠ 1) = p9
  by_cases k1 : t.kind = 1
  · simp only [k1]
    by_cases q : t.num ≤ 1
    · have q' : ¬ 1 < t.num := by omega
      cases c <;> simp [q, q']
    · have q' : 1 < t.num := by omega
      cases c <;> simp [q, q']
  by_cases k8 : t.kind = 8
  · simp only [k8]
    cases c <;> cases p8 <;> simp
  by_cases k9 : t.kind = 9
  · simp only [k9]
    cases c <;> cases p9 <;> simp
  by_cases k10 : t.kind = 10
  · simp only [k10]
    have e : Tr.smp t.num = (decide (t.num ≤ 19) || (decide (t.num = 23) || (decide (32 ≤ t.num) && decide (t.num ≤ 255)))) := by
      unfold Tr.smp
      rw [Bool.or_assoc, show decide (t.num < 20) = decide (t.num ≤ 19) from decide_eq_decide.2 (by omega), show decide (t.num < 256) = decide (t.num ≤ 255) from decide_eq_decide.2 (by omega)]
    rw [← e]
    generalize Tr.smp t.num = m
    cases c <;> cases m <;> simp
  · simp only [k1, k8, k9, k10, decide_false, if_false, Bool.false_and, Bool.or_false]
    by_cases q1 : 0 ≤ t.kind
    · by_cases q2 : t.kind ≤ 10
      · have q1' : ¬ t.kind < 0 := by omega
        have q2' : ¬ 10 < t.kind := by omega
        simp [q1, q2, q1', q2']
      · have q2' : 10 < t.kind := by omega
        simp [q2, q2']
    · have q1' : t.kind < 0 := by omega
      simp [q1, q1']
end Go.Proofs.YtelabgonpmafpaaDoor
namespace Go.Proofs.YtelabgonpmafpaaDoor
open Go.RowKit
end Go.Proofs.YtelabgonpmafpaaDoor
