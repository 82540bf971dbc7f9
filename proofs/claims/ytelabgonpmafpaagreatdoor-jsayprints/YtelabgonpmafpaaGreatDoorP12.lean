/-
  When two trees are the same: tree.same.
  Whether a node's number is right, whether its Kind may have such numbers and counts: tree.isInt, isDec, mayBe.
  What is wrong with a node itself: tree.fault (plain part).
  A field of a fault that a call answered.
-/
import Derived.Test.YtelabgonpmafpaaGreatDoorP10
import Derived.Test.YtelabgonpmafpaaGreatDoorP11
import Derived.Test.YtelabgonpmafpaaGreatDoorP9
namespace Go.Proofs.YtelabgonpmafpaaGreatDoor
open Go.RowKit
set_option linter.unusedVariables false

theorem beq_of {s t : ByteArray} (v : Bool) (h : v = true ↔ s = t) : (s.toList == t.toList) = v := by
  rw [Bool.eq_iff_iff, h, beq_iff_eq, ByteArray.toList_eq, ByteArray.toList_eq]
  constructor
  · intro e
    cases s; cases t
    simp only at e
    rw [Array.toList_inj.1 e]
  · intro e; rw [e]
theorem not_true {v : Bool} {p : Prop} (h : v = true ↔ p) (hp : ¬ p) : v = false := by
  cases v with
  | false => rfl
  | true => exact absurd (h.1 rfl) hp

set_option maxHeartbeats 8000000 in
set_option maxRecDepth 100000 in
/-- tree.same, one level more. -/
theorem same_step {D : Nat} (ih : SameAt D) (t u : Tr) (a b : Nb) (w : World) (v : Bool) (hA : Nd (D + 1) w a t) (hB : Nd (D + 1) w b u) (hv : v = true ↔ t = u) :
    Calls Tryz.prog 72 #[.agg a.arr, .agg b.arr] w fun e w' => e = .returned (.bool v) ∧ Below w.heap.size w w' := by
  have e36 : ∀ args w, (callFunc 72 args).run Tryz.prog w = .ok (.enter 72 args) w := enters_of Tryz.func72 (by kernel_rfl) rfl
  have hal := alloc_below w (.cells a.arr 26)
  have hal2 := alloc_below (w.alloc (.cells a.arr 26)) (.cells b.arr 26)
  have hb2 : Hid (Below w.heap.size w ((w.alloc (.cells a.arr 26)).alloc (.cells b.arr 26))) := hal.trans (hal2.mono hal.size)
  have hs2 : Hid (w.heap.size ≤ ((w.alloc (.cells a.arr 26)).alloc (.cells b.arr 26)).heap.size) := Nat.le_trans hal.size hal2.size
  have boxA := (nbox_new w a).kept hal2 (by simp)
  have boxB := nbox_new (w.alloc (.cells a.arr 26)) b
  have s1 : (w.alloc (.cells a.arr 26)).heap.size = w.heap.size + 1 := by simp
  rw [s1] at boxB
  obtain ⟨a0, a1, a2, a3, a4, a5, a6, a7, a8⟩ := boxA.fields
  obtain ⟨b0, b1, b2, b3, b4, b5, b6, b7, b8⟩ := boxB.fields
  obtain ⟨⟨x0, x1, x2, x3, x4, x5⟩, _, ⟨xl, xr, xb⟩, xk, xi⟩ := hA
  obtain ⟨⟨y0, y1, y2, y3, y4, y5⟩, _, ⟨yl, yr, yb⟩, yk, yi⟩ := hB
  have kq := fun v' h => beq_any a.ab b.ab a.lb b.lb a.cb b.cb t.bytes u.bytes ((w.alloc (.cells a.arr 26)).alloc (.cells b.arr 26)) xl yl ((xb.kept hal).kept hal2) ((yb.kept hal).kept hal2) v' h
  have kK : Hid (∀ w', Below w.heap.size w w' → ∀ v' : Bool, (v' = true ↔ t.keys = u.keys) → Calls Tryz.prog 111 #[.slice a.ak a.lk a.ck, .slice b.ak b.lk b.ck, .func (.func 72) #[] #[]] w' fun e w'' => e = .returned (.bool v') ∧ Below w'.heap.size w' w'') := fun w' hb v' h => eqf_any ih _ _ _ _ _ _ _ _ w' (xk.kept hb fun _ _ _ q => q.kept hb) (yk.kept hb fun _ _ _ q => q.kept hb) v' h
  have kI : Hid (∀ w', Below w.heap.size w w' → ∀ v' : Bool, (v' = true ↔ t.kids = u.kids) → Calls Tryz.prog 111 #[.slice a.ai a.li a.ci, .slice b.ai b.li b.ci, .func (.func 72) #[] #[]] w' fun e w'' => e = .returned (.bool v') ∧ Below w'.heap.size w' w'') := fun w' hb v' h => eqf_any ih _ _ _ _ _ _ _ _ w' (xi.kept hb fun _ _ _ q => q.kept hb) (yi.kept hb fun _ _ _ q => q.kept hb) v' h
  have hKa : Hid (NBox ((w.alloc (.cells a.arr 26)).alloc (.cells b.arr 26)) w.heap.size a) := boxA
  have hKb : Hid (NBox ((w.alloc (.cells a.arr 26)).alloc (.cells b.arr 26)) (w.heap.size + 1) b) := boxB
  have hsz : Hid (w.heap.size + 1 < ((w.alloc (.cells a.arr 26)).alloc (.cells b.arr 26)).heap.size) := by show _ < _; simp
  have hE : Hid (t = u ↔ a.kind = b.kind ∧ a.num = b.num ∧ a.neg = b.neg ∧ a.dig = b.dig ∧ a.exp = b.exp ∧ a.txt = b.txt ∧ t.bytes = u.bytes ∧ t.keys = u.keys ∧ t.kids = u.kids) := by
    show _ ↔ _
    rw [x0, x1, x2, x3, x4, x5, y0, y1, y2, y3, y4, y5]
    exact ⟨fun h => by subst h; exact ⟨rfl, rfl, rfl, rfl, rfl, rfl, rfl, rfl, rfl⟩, fun ⟨h0, h1, h2, h3, h4, h5, h6, h7, h8⟩ => Tr.mk_eq h0 h1 h2 h3 h4 h5 h6 h7 h8⟩
  have hV : Hid (v = true ↔ t = u) := hv
  clear x0 x1 x2 x3 x4 x5 y0 y1 y2 y3 y4 y5 xl yl xb yb xr yr xk xi yk yi hal hal2 boxA boxB s1 hv ih
  by_cases hN : a.kind = b.kind
  · have q0 : (a.kind == b.kind) = true := by rw [hN]; exact beq_self_eq_true _
    have e0 : Hid (a.kind = b.kind) := hN
    clear hN
    by_cases hN : a.num = b.num
    · have q1 : (a.num == b.num) = true := by rw [hN]; exact beq_self_eq_true _
      have e1 : Hid (a.num = b.num) := hN
      clear hN
      by_cases hN : a.neg = b.neg
      · have q2 : (a.neg == b.neg) = true := by rw [hN]; exact beq_self_eq_true _
        have e2 : Hid (a.neg = b.neg) := hN
        clear hN
        by_cases hN : a.dig = b.dig
        · have q3 := beq_of (s := a.dig) (t := b.dig) true (by simp [hN])
          have e3 : Hid (a.dig = b.dig) := hN
          clear hN
          by_cases hN : a.exp = b.exp
          · have q4 : (a.exp == b.exp) = true := by rw [hN]; exact beq_self_eq_true _
            have e4 : Hid (a.exp = b.exp) := hN
            clear hN
            by_cases hN : a.txt = b.txt
            · have q5 := beq_of (s := a.txt) (t := b.txt) true (by simp [hN])
              have e5 : Hid (a.txt = b.txt) := hN
              clear hN
              by_cases hN : t.bytes = u.bytes
              · have k1 := kq true (by simp [hN])
                have e6 : Hid (t.bytes = u.bytes) := hN
                clear hN kq
                by_cases hN : t.keys = u.keys
                · have k2 := kK.out _ hb2.out true (by simp [hN])
                  have e7 : Hid (t.keys = u.keys) := hN
                  clear hN kK
                  by_cases hN : t.kids = u.kids
                  · have k4 := fun w' hb => kI.out w' hb true (by simp [hN])
                    have hvt : v = true := hV.out.2 (hE.out.2 ⟨e0.out, e1.out, e2.out, e3.out, e4.out, e5.out, e6.out, e7.out, hN⟩)
                    subst hvt
                    clear hN kI
                    go_enter Tryz.func72, Tryz.ntmps72
                    go_wp2_with (first
                      | (go_at_call 110; refine k1.mono ?_; rintro e w1 ⟨rfl, hw⟩; subst hw)
                      | (go_at_call 111; refine k2.mono ?_; rintro e w2 ⟨rfl, hb3⟩; clear k2; obtain ⟨c0, c1, c2, c3, c4, c5, c6, c7, c8⟩ := (hKa.out.kept hb3 (Nat.lt_of_le_of_lt (Nat.le_succ _) hsz.out)).fields; obtain ⟨d0, d1, d2, d3, d4, d5, d6, d7, d8⟩ := (hKb.out.kept hb3 hsz.out).fields; have hbw := hb2.out.trans (hb3.mono hs2.out); have k3 := k4 w2 hbw)
                      | (go_at_call 111; refine k3.mono ?_; rintro e w3 ⟨rfl, hb4⟩))
                    go_ret
                    exact ⟨rfl, hbw.trans (hb4.mono hbw.size)⟩
                  · have k4 := fun w' hb => kI.out w' hb false (by simp [hN])
                    have hvf : v = false := not_true hV.out (fun h => hN (hE.out.1 h).2.2.2.2.2.2.2.2)
                    subst hvf
                    clear hN kI
                    go_enter Tryz.func72, Tryz.ntmps72
                    go_wp2_with (first
                      | (go_at_call 110; refine k1.mono ?_; rintro e w1 ⟨rfl, hw⟩; subst hw)
                      | (go_at_call 111; refine k2.mono ?_; rintro e w2 ⟨rfl, hb3⟩; clear k2; obtain ⟨c0, c1, c2, c3, c4, c5, c6, c7, c8⟩ := (hKa.out.kept hb3 (Nat.lt_of_le_of_lt (Nat.le_succ _) hsz.out)).fields; obtain ⟨d0, d1, d2, d3, d4, d5, d6, d7, d8⟩ := (hKb.out.kept hb3 hsz.out).fields; have hbw := hb2.out.trans (hb3.mono hs2.out); have k3 := k4 w2 hbw)
                      | (go_at_call 111; refine k3.mono ?_; rintro e w3 ⟨rfl, hb4⟩))
                    go_ret
                    exact ⟨rfl, hbw.trans (hb4.mono hbw.size)⟩
                · have k2 := kK.out _ hb2.out false (by simp [hN])
                  have hvf : v = false := not_true hV.out (fun h => hN (hE.out.1 h).2.2.2.2.2.2.2.1)
                  subst hvf
                  clear hN kK kI
                  go_enter Tryz.func72, Tryz.ntmps72
                  go_wp2_with (first
                    | (go_at_call 110; refine k1.mono ?_; rintro e w1 ⟨rfl, hw⟩; subst hw)
                    | (go_at_call 111; refine k2.mono ?_; rintro e w2 ⟨rfl, hb3⟩; clear k2))
                  go_ret
                  exact ⟨rfl, hb2.out.trans (hb3.mono hs2.out)⟩
              · have k1 := kq false (by simp [hN])
                have hvf : v = false := not_true hV.out (fun h => hN (hE.out.1 h).2.2.2.2.2.2.1)
                subst hvf
                clear hN kq
                go_enter Tryz.func72, Tryz.ntmps72
                go_wp2_with (go_at_call 110; refine k1.mono ?_; rintro e w1 ⟨rfl, hw⟩; subst hw)
                go_ret
                exact ⟨rfl, hb2.out⟩
            · have q5 := beq_of (s := a.txt) (t := b.txt) false (by simp [hN])
              have hvf : v = false := not_true hV.out (fun h => hN (hE.out.1 h).2.2.2.2.2.1)
              subst hvf
              clear hN
              go_enter Tryz.func72, Tryz.ntmps72
              go_wp2
              go_ret
              exact ⟨rfl, hb2.out⟩
          · have q4 : (a.exp == b.exp) = false := by simp [hN]
            have hvf : v = false := not_true hV.out (fun h => hN (hE.out.1 h).2.2.2.2.1)
            subst hvf
            clear hN
            go_enter Tryz.func72, Tryz.ntmps72
            go_wp2
            go_ret
            exact ⟨rfl, hb2.out⟩
        · have q3 := beq_of (s := a.dig) (t := b.dig) false (by simp [hN])
          have hvf : v = false := not_true hV.out (fun h => hN (hE.out.1 h).2.2.2.1)
          subst hvf
          clear hN
          go_enter Tryz.func72, Tryz.ntmps72
          go_wp2
          go_ret
          exact ⟨rfl, hb2.out⟩
      · have q2 : (a.neg == b.neg) = false := by simp [hN]
        have hvf : v = false := not_true hV.out (fun h => hN (hE.out.1 h).2.2.1)
        subst hvf
        clear hN
        go_enter Tryz.func72, Tryz.ntmps72
        go_wp2
        go_ret
        exact ⟨rfl, hb2.out⟩
    · have q1 : (a.num == b.num) = false := by simp [hN]
      have hvf : v = false := not_true hV.out (fun h => hN (hE.out.1 h).2.1)
      subst hvf
      clear hN
      go_enter Tryz.func72, Tryz.ntmps72
      go_wp2
      go_ret
      exact ⟨rfl, hb2.out⟩
  · have q0 : (a.kind == b.kind) = false := by simp [hN]
    have hvf : v = false := not_true hV.out (fun h => hN (hE.out.1 h).1)
    subst hvf
    clear hN
    go_enter Tryz.func72, Tryz.ntmps72
    go_wp2
    go_ret
    exact ⟨rfl, hb2.out⟩

theorem same_all : ∀ D, SameAt D := by
  intro D
  induction D with
  | zero => intro t u a b w v h; exact absurd h id
  | succ D ih => exact fun t u a b w v hA hB hv => same_step ih t u a b w v hA hB hv
/-- tree.same. -/
theorem sam_any {D E : Nat} {t u : Tr} {a b : Nb} {w : World} {v : Bool} (hA : Nd D w a t) (hB : Nd E w b u) (hv : v = true ↔ t = u) : Calls Tryz.prog 72 #[.agg a.arr, .agg b.arr] w fun e w' => e = .returned (.bool v) ∧ Below w.heap.size w w' :=
  same_all (max D E) t u a b w v (hA.le (Nat.le_max_left _ _)) (hB.le (Nat.le_max_right _ _)) hv
end Go.Proofs.YtelabgonpmafpaaGreatDoor
namespace Go.Proofs.YtelabgonpmafpaaGreatDoor
open Go.RowKit
set_option linter.unusedVariables false

set_option maxHeartbeats 4000000 in
theorem maybe_any (b : Nb) (w : World) (hlen : b.lk ≤ b.ck ∧ b.ck ≤ maxLen ∧ b.li ≤ b.ci ∧ b.ci ≤ maxLen) : Calls Tryz.prog 71 #[.agg b.arr] w fun e w' => e = .returned (.bool (mayB b)) ∧ Below w.heap.size w w' := by
  have hal := alloc_below w (.cells b.arr 26)
  have hB : Hid (Below w.heap.size w (w.alloc (.cells b.arr 26))) := hal
  obtain ⟨a0, a1, a2, a3, a4, a5, a6, a7, a8⟩ := (nbox_new w b).fields
  unfold maxLen at hlen
  obtain ⟨l0, l1, l2, l3⟩ := hlen
  clear hal
  by_cases h1 : b.kind = 1
  · rw [show mayB b = decide (b.num ≤ 1) from by unfold mayB; rw [if_pos h1]]
    go_enter Tryz.func71, Tryz.ntmps71
    go_wp2
    go_ret
    exact ⟨rfl, hB.out⟩
  by_cases h8 : b.kind = 8
  · rw [show mayB b = decide (b.lk = b.li) from by unfold mayB; rw [if_neg h1, if_pos h8]]
    clear h1
    by_cases hq : b.lk = b.li
    · rw [decide_eq_true hq]
      have hq' : (b.lk : Int) = (b.li : Int) := by omega
      clear hq
      go_enter Tryz.func71, Tryz.ntmps71
      go_wp2
      go_ret
      exact ⟨rfl, hB.out⟩
    · rw [decide_eq_false hq]
      have hq' : ((b.lk : Int) == (b.li : Int)) = false := by simp; omega
      clear hq
      go_enter Tryz.func71, Tryz.ntmps71
      go_wp2
      go_ret
      exact ⟨rfl, hB.out⟩
  by_cases h9 : b.kind = 9
  · rw [show mayB b = decide (b.li = 1) from by unfold mayB; rw [if_neg h1, if_neg h8, if_pos h9]]
    clear h1 h8
    by_cases hq : b.li = 1
    · rw [decide_eq_true hq]
      have hq' : ((b.li : Int) == 1) = true := by simp; omega
      clear hq
      go_enter Tryz.func71, Tryz.ntmps71
      go_wp2
      go_ret
      exact ⟨rfl, hB.out⟩
    · rw [decide_eq_false hq]
      have hq' : ((b.li : Int) == 1) = false := by simp; omega
      clear hq
      go_enter Tryz.func71, Tryz.ntmps71
      go_wp2
      go_ret
      exact ⟨rfl, hB.out⟩
  by_cases h10 : b.kind = 10
  · rw [show mayB b = (decide (b.num ≤ 19) || (decide (b.num = 23) || (decide (32 ≤ b.num) && decide (b.num ≤ 255)))) from by unfold mayB; rw [if_neg h1, if_neg h8, if_neg h9, if_pos h10]]
    clear h1 h8 h9
    by_cases q1 : b.num ≤ 19
    · have q1' : decide (b.num ≤ 19) = true := decide_eq_true q1
      rw [q1', Bool.true_or]
      clear q1
      go_enter Tryz.func71, Tryz.ntmps71
      go_wp2
      go_ret
      exact ⟨rfl, hB.out⟩
    · have q1' : decide (b.num ≤ 19) = false := decide_eq_false q1
      rw [q1', Bool.false_or]
      clear q1
      by_cases q2 : b.num = 23
      · have q2' : (b.num == 23) = true := by simp [q2]
        rw [decide_eq_true q2, Bool.true_or]
        clear q2
        go_enter Tryz.func71, Tryz.ntmps71
        go_wp2
        go_ret
        exact ⟨rfl, hB.out⟩
      · have q2' : (b.num == 23) = false := by simp [q2]
        rw [decide_eq_false q2, Bool.false_or]
        clear q2
        by_cases q3 : 32 ≤ b.num
        · have q3' : decide (32 ≤ b.num) = true := decide_eq_true q3
          rw [q3', Bool.true_and]
          clear q3
          go_enter Tryz.func71, Tryz.ntmps71
          go_wp2
          go_ret
          exact ⟨rfl, hB.out⟩
        · have q3' : decide (32 ≤ b.num) = false := decide_eq_false q3
          rw [q3', Bool.false_and]
          clear q3
          go_enter Tryz.func71, Tryz.ntmps71
          go_wp2
          go_ret
          exact ⟨rfl, hB.out⟩
  rw [show mayB b = (decide (0 ≤ b.kind) && decide (b.kind ≤ 10)) from by unfold mayB; rw [if_neg h1, if_neg h8, if_neg h9, if_neg h10]]
  have g1 : (b.kind == 1) = false := by simp [h1]
  have g8 : (b.kind == 8) = false := by simp [h8]
  have g9 : (b.kind == 9) = false := by simp [h9]
  have g10 : (b.kind == 10) = false := by simp [h10]
  clear h1 h8 h9 h10
  by_cases q1 : 0 ≤ b.kind
  · have q1' : decide (0 ≤ b.kind) = true := decide_eq_true q1
    rw [q1', Bool.true_and]
    clear q1
    go_enter Tryz.func71, Tryz.ntmps71
    go_wp2
    go_ret
    exact ⟨rfl, hB.out⟩
  · have q1' : decide (0 ≤ b.kind) = false := decide_eq_false q1
    rw [q1', Bool.false_and]
    clear q1
    go_enter Tryz.func71, Tryz.ntmps71
    go_wp2
    go_ret
    exact ⟨rfl, hB.out⟩

set_option maxHeartbeats 2000000 in
theorem isint_any (b : Nb) (w : World) (v : Bool) (hv : v = true ↔ rt b.dig = true ∧ ¬ (b.neg = true ∧ b.dig = ⟨#[48]⟩)) : Calls Tryz.prog 69 #[.agg b.arr] w fun e w' => e = .returned (.bool v) ∧ Below w.heap.size w w' := by
  have hal := alloc_below w (.cells b.arr 26)
  have hB : Hid (Below w.heap.size w (w.alloc (.cells b.arr 26))) := hal
  obtain ⟨a0, a1, a2, a3, a4, a5, a6, a7, a8⟩ := (nbox_new w b).fields
  have kR := right_any b.dig (w.alloc (.cells b.arr 26))
  clear hal
  have hz : ∀ v' : Bool, (v' = true ↔ b.dig = ⟨#[48]⟩) → (b.dig.toList == [48]) = v' := fun v' h => by
    rw [eq_size, Bool.eq_iff_iff, h, decide_eq_true_iff]; exact Iff.rfl
  cases hr : rt b.dig with
  | false =>
    have hvf : v = false := not_true hv (fun h => by rw [hr] at h; exact absurd h.1 (by simp))
    subst hvf
    rw [hr] at kR
    clear hr hv hz
    go_enter Tryz.func69, Tryz.ntmps69
    go_wp2_with (go_at_call 108; refine kR.mono ?_; rintro e w1 ⟨rfl, hw⟩; subst hw)
    go_ret
    exact ⟨rfl, hB.out⟩
  | true =>
    rw [hr] at kR
    cases hn : b.neg with
    | false =>
      rw [hn] at a2
      have hvf : v = true := hv.2 ⟨hr, fun h => by rw [hn] at h; exact absurd h.1 (by simp)⟩
      subst hvf
      clear hr hv hz hn
      go_enter Tryz.func69, Tryz.ntmps69
      go_wp2_with (go_at_call 108; refine kR.mono ?_; rintro e w1 ⟨rfl, hw⟩; subst hw)
      go_ret
      exact ⟨rfl, hB.out⟩
    | true =>
      rw [hn] at a2
      by_cases hq : b.dig = ⟨#[48]⟩
      · have hd := hz true (by simp [hq])
        have hvf : v = false := not_true hv (fun h => h.2 ⟨hn, hq⟩)
        subst hvf
        clear hr hv hz hn hq
        go_enter Tryz.func69, Tryz.ntmps69
        go_wp2_with (go_at_call 108; refine kR.mono ?_; rintro e w1 ⟨rfl, hw⟩; subst hw)
        go_ret
        exact ⟨rfl, hB.out⟩
      · have hd := hz false (by simp [hq])
        have hvf : v = true := hv.2 ⟨hr, fun h => hq h.2⟩
        subst hvf
        clear hr hv hz hn hq
        go_enter Tryz.func69, Tryz.ntmps69
        go_wp2_with (go_at_call 108; refine kR.mono ?_; rintro e w1 ⟨rfl, hw⟩; subst hw)
        go_ret
        exact ⟨rfl, hB.out⟩

/-- Is a number right, and not whole? -/
def rdN (n : Bool) (s : ByteArray) (x : Int) : Bool := rtN n s x && !(wholeA n s x).2
set_option maxHeartbeats 2000000 in
theorem isdec_any (b : Nb) (w : World) : Calls Tryz.prog 70 #[.agg b.arr] w fun e w' => e = .returned (.bool (rdN b.neg b.dig b.exp)) ∧ Below w.heap.size w w' := by
  have hal := alloc_below w (.cells b.arr 26)
  have hal2 := alloc_below (w.alloc (.cells b.arr 26)) (.cells #[.bool b.neg, .string b.dig, .int .i64 b.exp] 53)
  have hB : Hid (Below w.heap.size w ((w.alloc (.cells b.arr 26)).alloc (.cells #[.bool b.neg, .string b.dig, .int .i64 b.exp] 53))) := hal.trans (hal2.mono (Nat.le_of_lt (alloc_lt _ _)))
  obtain ⟨a0, a1, a2, a3, a4, a5, a6, a7, a8⟩ := (nbox_new w b).fields
  have s1 : (w.alloc (.cells b.arr 26)).heap.size = w.heap.size + 1 := by simp
  have hN := row_new (w.alloc (.cells b.arr 26)) b.neg b.dig b.exp
  rw [s1] at hN
  have hN' : Hid (NRow ((w.alloc (.cells b.arr 26)).alloc (.cells #[.bool b.neg, .string b.dig, .int .i64 b.exp] 53)) (w.heap.size + 1) b.neg b.dig b.exp) := hN
  obtain ⟨n0, n1, n2⟩ := hN.at
  have kW := whole_any b.neg b.dig b.exp ((w.alloc (.cells b.arr 26)).alloc (.cells #[.bool b.neg, .string b.dig, .int .i64 b.exp] 53))
  have kR := dright_any b.neg b.dig b.exp
  unfold rdN
  generalize (wholeA b.neg b.dig b.exp).1 = S at *
  generalize (wholeA b.neg b.dig b.exp).2 = V at *
  clear hal hal2 s1 hN
  cases hr : rtN b.neg b.dig b.exp with
  | false =>
    rw [hr] at kR
    rw [Bool.false_and]
    clear hr
    go_enter Tryz.func70, Tryz.ntmps70
    go_wp2_with (first
      | (go_at_call 109; refine kW.mono ?_; rintro e w1 ⟨rfl, hb1⟩; have hN1 := hN'.out.kept hb1; obtain ⟨m0, m1, m2⟩ := hN1.at; have hbw := hB.out.trans (hb1.mono hB.out.size))
      | (go_at_call 79; refine (kR _).mono ?_; rintro e w2 ⟨rfl, hb2⟩))
    go_ret
    exact ⟨rfl, hbw.trans (hb2.mono hbw.size)⟩
  | true =>
    rw [hr] at kR
    rw [Bool.true_and]
    clear hr
    cases V with
    | false =>
      go_enter Tryz.func70, Tryz.ntmps70
      go_wp2_with (first
        | (go_at_call 109; refine kW.mono ?_; rintro e w1 ⟨rfl, hb1⟩; have hN1 := hN'.out.kept hb1; obtain ⟨m0, m1, m2⟩ := hN1.at; have hbw := hB.out.trans (hb1.mono hB.out.size))
        | (go_at_call 79; refine (kR _).mono ?_; rintro e w2 ⟨rfl, hb2⟩))
      go_ret
      exact ⟨rfl, hbw.trans (hb2.mono hbw.size)⟩
    | true =>
      go_enter Tryz.func70, Tryz.ntmps70
      go_wp2_with (first
        | (go_at_call 109; refine kW.mono ?_; rintro e w1 ⟨rfl, hb1⟩; have hN1 := hN'.out.kept hb1; obtain ⟨m0, m1, m2⟩ := hN1.at; have hbw := hB.out.trans (hb1.mono hB.out.size))
        | (go_at_call 79; refine (kR _).mono ?_; rintro e w2 ⟨rfl, hb2⟩))
      go_ret
      exact ⟨rfl, hbw.trans (hb2.mono hbw.size)⟩
end Go.Proofs.YtelabgonpmafpaaGreatDoor
namespace Go.Proofs.YtelabgonpmafpaaGreatDoor
open Go.RowKit
set_option linter.unusedVariables false

/-- Are these bytes a text? -/
def gtx (s : ByteArray) : Bool := decide (whyL (bs s) = 0)
/-- The fault of a node. -/
def alF (t : Tr) : Int := t.alo gtx rt rdN
theorem alF_shaped : Tr.Shaped alF := Tr.alo_shaped gtx rt rdN
theorem why_two (zs : List Int) : whyL zs = 0 ∨ whyL zs = 6 := by unfold whyL; split <;> simp
theorem odd_eq {D : Nat} {w : World} {b : Nb} {t : Tr} (h : Nd (D + 1) w b t) : t.odd = !(mayB b && t.clean) := by
  have h0 : b.kind = t.kind := h.1.1
  have h1 : b.num = t.num := h.1.2.1
  have hk : t.keys.length = b.lk := h.2.2.2.1.1
  have hi : t.kids.length = b.li := h.2.2.2.2.1
  have e8 : decide (b.lk = b.li) = !decide (t.keys.length ≠ t.kids.length) := by rw [hk, hi]; by_cases q : b.lk = b.li <;> simp [q]
  have e9 : decide (b.li = 1) = !decide (t.kids.length ≠ 1) := by rw [hi]; by_cases q : b.li = 1 <;> simp [q]
  unfold Tr.odd mayB
  rw [h0, h1, e8, e9]
  generalize t.clean = c
  generalize decide (t.keys.length ≠ t.kids.length) = p8
  generalize decide (t.kids.length ≠ 1) = p9
  by_cases k1 : t.kind = 1
  · simp only [k1]
    by_cases q : t.num ≤ 1
    · have q' : ¬ 1 < t.num := by omega
      cases c <;> simp [q, q']
    · have q' : 1 < t.num := by omega
      cases c <;> simp [q, q']
  by_cases k8 : t.kind = 8
  · simp only [k8]
    cases c <;> cases p8 <;> simp
  by_cases k9 : t.kind = 9
  · simp only [k9]
    cases c <;> cases p9 <;> simp
  by_cases k10 : t.kind = 10
  · simp only [k10]
    have e : Tr.smp t.num = (decide (t.num ≤ 19) || (decide (t.num = 23) || (decide (32 ≤ t.num) && decide (t.num ≤ 255)))) := by
      unfold Tr.smp
      rw [Bool.or_assoc, show decide (t.num < 20) = decide (t.num ≤ 19) from decide_eq_decide.2 (by omega), show decide (t.num < 256) = decide (t.num ≤ 255) from decide_eq_decide.2 (by omega)]
    rw [← e]
    generalize Tr.smp t.num = m
    cases c <;> cases m <;> simp
  · simp only [k1, k8, k9, k10, decide_false, if_false, Bool.false_and, Bool.or_false]
    by_cases q1 : 0 ≤ t.kind
    · by_cases q2 : t.kind ≤ 10
      · have q1' : ¬ t.kind < 0 := by omega
        have q2' : ¬ 10 < t.kind := by omega
        simp [q1, q2, q1', q2']
      · have q2' : 10 < t.kind := by omega
        simp [q2, q2']
    · have q1' : t.kind < 0 := by omega
      simp [q1, q1']
end Go.Proofs.YtelabgonpmafpaaGreatDoor
namespace Go.Proofs.YtelabgonpmafpaaGreatDoor
open Go.RowKit
end Go.Proofs.YtelabgonpmafpaaGreatDoor
