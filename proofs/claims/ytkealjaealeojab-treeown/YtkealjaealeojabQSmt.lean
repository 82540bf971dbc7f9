/-
  When two trees are the same: tree.same.
-/
import Derived.Test.YtkealjaealeojabQSam
import Derived.Test.YtkealjaealeojabQGb
namespace Go.Proofs.Ytkealjaealeojab
open Go.RowKit
set_option linter.unusedVariables false

theorem beq_of {s t : ByteArray} (v : Bool) (h : v = true ↔ s = t) : (s.toList == t.toList) = v := by
  rw [Bool.eq_iff_iff, h, beq_iff_eq, ByteArray.toList_eq, ByteArray.toList_eq]
  constructor
  · intro e
    cases s; cases t
    simp only at e
    rw [Array.toList_inj.1 e]
  · intro e; rw [e]
theorem not_true {v : Bool} {p : Prop} (h : v = true ↔ p) (hp : ¬ p) : v = false := by
  cases v with
  | false => rfl
  | true => exact absurd (h.1 rfl) hp

set_option maxHeartbeats 8000000 in
set_option maxRecDepth 100000 in
/-- tree.same, one level more. -/
theorem same_step {D : Nat} (ih : SameAt D) (t u : Tr) (a b : Nb) (w : World) (v : Bool) (hA : Nd (D + 1) w a t) (hB : Nd (D + 1) w b u) (hv : v = true ↔ t = u) :
    Calls Try.prog 38 #[.agg a.arr, .agg b.arr] w fun e w' => e = .returned (.bool v) ∧ Below w.heap.size w w' := by
  have e36 : ∀ args w, (callFunc 38 args).run Try.prog w = .ok (.enter 38 args) w := enters_of Try.func38 (by kernel_rfl) rfl
  have hal := alloc_below w (.cells a.arr 26)
  have hal2 := alloc_below (w.alloc (.cells a.arr 26)) (.cells b.arr 26)
  have hb2 : Hid (Below w.heap.size w ((w.alloc (.cells a.arr 26)).alloc (.cells b.arr 26))) := hal.trans (hal2.mono hal.size)
  have hs2 : Hid (w.heap.size ≤ ((w.alloc (.cells a.arr 26)).alloc (.cells b.arr 26)).heap.size) := Nat.le_trans hal.size hal2.size
  have boxA := (nbox_new w a).kept hal2 (by simp)
  have boxB := nbox_new (w.alloc (.cells a.arr 26)) b
  have s1 : (w.alloc (.cells a.arr 26)).heap.size = w.heap.size + 1 := by simp
  rw [s1] at boxB
  obtain ⟨a0, a1, a2, a3, a4, a5, a6, a7, a8⟩ := boxA.fields
  obtain ⟨b0, b1, b2, b3, b4, b5, b6, b7, b8⟩ := boxB.fields
  obtain ⟨⟨x0, x1, x2, x3, x4, x5⟩, _, ⟨xl, xr, xb⟩, xk, xi⟩ := hA
  obtain ⟨⟨y0, y1, y2, y3, y4, y5⟩, _, ⟨yl, yr, yb⟩, yk, yi⟩ := hB
  have kq := fun v' h => beq_any a.ab b.ab a.lb b.lb a.cb b.cb t.bytes u.bytes ((w.alloc (.cells a.arr 26)).alloc (.cells b.arr 26)) xl yl ((xb.kept hal).kept hal2) ((yb.kept hal).kept hal2) v' h
  have kK : Hid (∀ w', Below w.heap.size w w' → ∀ v' : Bool, (v' = true ↔ t.keys = u.keys) → Calls Try.prog 51 #[.slice a.ak a.lk a.ck, .slice b.ak b.lk b.ck, .func (.func 38) #[] #[]] w' fun e w'' => e = .returned (.bool v') ∧ Below w'.heap.size w' w'') := fun w' hb v' h => eqf_any ih _ _ _ _ _ _ _ _ w' (xk.kept hb fun _ _ _ q => q.kept hb) (yk.kept hb fun _ _ _ q => q.kept hb) v' h
  have kI : Hid (∀ w', Below w.heap.size w w' → ∀ v' : Bool, (v' = true ↔ t.kids = u.kids) → Calls Try.prog 51 #[.slice a.ai a.li a.ci, .slice b.ai b.li b.ci, .func (.func 38) #[] #[]] w' fun e w'' => e = .returned (.bool v') ∧ Below w'.heap.size w' w'') := fun w' hb v' h => eqf_any ih _ _ _ _ _ _ _ _ w' (xi.kept hb fun _ _ _ q => q.kept hb) (yi.kept hb fun _ _ _ q => q.kept hb) v' h
  have hKa : Hid (NBox ((w.alloc (.cells a.arr 26)).alloc (.cells b.arr 26)) w.heap.size a) := boxA
  have hKb : Hid (NBox ((w.alloc (.cells a.arr 26)).alloc (.cells b.arr 26)) (w.heap.size + 1) b) := boxB
  have hsz : Hid (w.heap.size + 1 < ((w.alloc (.cells a.arr 26)).alloc (.cells b.arr 26)).heap.size) := by show _ < _; simp
  have hE : Hid (t = u ↔ a.kind = b.kind ∧ a.num = b.num ∧ a.neg = b.neg ∧ a.dig = b.dig ∧ a.exp = b.exp ∧ a.txt = b.txt ∧ t.bytes = u.bytes ∧ t.keys = u.keys ∧ t.kids = u.kids) := by
    show _ ↔ _
    rw [x0, x1, x2, x3, x4, x5, y0, y1, y2, y3, y4, y5]
    exact ⟨fun h => by subst h; exact ⟨rfl, rfl, rfl, rfl, rfl, rfl, rfl, rfl, rfl⟩, fun ⟨h0, h1, h2, h3, h4, h5, h6, h7, h8⟩ => Tr.mk_eq h0 h1 h2 h3 h4 h5 h6 h7 h8⟩
  have hV : Hid (v = true ↔ t = u) := hv
  clear x0 x1 x2 x3 x4 x5 y0 y1 y2 y3 y4 y5 xl yl xb yb xr yr xk xi yk yi hal hal2 boxA boxB s1 hv ih
  by_cases hN : a.kind = b.kind
  · have q0 : (a.kind == b.kind) = true := by rw [hN]; exact beq_self_eq_true _
    have e0 : Hid (a.kind = b.kind) := hN
    clear hN
    by_cases hN : a.num = b.num
    · have q1 : (a.num == b.num) = true := by rw [hN]; exact beq_self_eq_true _
      have e1 : Hid (a.num = b.num) := hN
      clear hN
      by_cases hN : a.neg = b.neg
      · have q2 : (a.neg == b.neg) = true := by rw [hN]; exact beq_self_eq_true _
        have e2 : Hid (a.neg = b.neg) := hN
        clear hN
        by_cases hN : a.dig = b.dig
        · have q3 := beq_of (s := a.dig) (t := b.dig) true (by simp [hN])
          have e3 : Hid (a.dig = b.dig) := hN
          clear hN
          by_cases hN : a.exp = b.exp
          · have q4 : (a.exp == b.exp) = true := by rw [hN]; exact beq_self_eq_true _
            have e4 : Hid (a.exp = b.exp) := hN
            clear hN
            by_cases hN : a.txt = b.txt
            · have q5 := beq_of (s := a.txt) (t := b.txt) true (by simp [hN])
              have e5 : Hid (a.txt = b.txt) := hN
              clear hN
              by_cases hN : t.bytes = u.bytes
              · have k1 := kq true (by simp [hN])
                have e6 : Hid (t.bytes = u.bytes) := hN
                clear hN kq
                by_cases hN : t.keys = u.keys
                · have k2 := kK.out _ hb2.out true (by simp [hN])
                  have e7 : Hid (t.keys = u.keys) := hN
                  clear hN kK
                  by_cases hN : t.kids = u.kids
                  · have k4 := fun w' hb => kI.out w' hb true (by simp [hN])
                    have hvt : v = true := hV.out.2 (hE.out.2 ⟨e0.out, e1.out, e2.out, e3.out, e4.out, e5.out, e6.out, e7.out, hN⟩)
                    subst hvt
                    clear hN kI
                    go_enter Try.func38, Try.ntmps38
                    go_wp2_with (first
                      | (go_at_call 50; refine k1.mono ?_; rintro e w1 ⟨rfl, hw⟩; subst hw)
                      | (go_at_call 51; refine k2.mono ?_; rintro e w2 ⟨rfl, hb3⟩; clear k2; obtain ⟨c0, c1, c2, c3, c4, c5, c6, c7, c8⟩ := (hKa.out.kept hb3 (Nat.lt_of_le_of_lt (Nat.le_succ _) hsz.out)).fields; obtain ⟨d0, d1, d2, d3, d4, d5, d6, d7, d8⟩ := (hKb.out.kept hb3 hsz.out).fields; have hbw := hb2.out.trans (hb3.mono hs2.out); have k3 := k4 w2 hbw)
                      | (go_at_call 51; refine k3.mono ?_; rintro e w3 ⟨rfl, hb4⟩))
                    go_ret
                    exact ⟨rfl, hbw.trans (hb4.mono hbw.size)⟩
                  · have k4 := fun w' hb => kI.out w' hb false (by simp [hN])
                    have hvf : v = false := not_true hV.out (fun h => hN (hE.out.1 h).2.2.2.2.2.2.2.2)
                    subst hvf
                    clear hN kI
                    go_enter Try.func38, Try.ntmps38
                    go_wp2_with (first
                      | (go_at_call 50; refine k1.mono ?_; rintro e w1 ⟨rfl, hw⟩; subst hw)
                      | (go_at_call 51; refine k2.mono ?_; rintro e w2 ⟨rfl, hb3⟩; clear k2; obtain ⟨c0, c1, c2, c3, c4, c5, c6, c7, c8⟩ := (hKa.out.kept hb3 (Nat.lt_of_le_of_lt (Nat.le_succ _) hsz.out)).fields; obtain ⟨d0, d1, d2, d3, d4, d5, d6, d7, d8⟩ := (hKb.out.kept hb3 hsz.out).fields; have hbw := hb2.out.trans (hb3.mono hs2.out); have k3 := k4 w2 hbw)
                      | (go_at_call 51; refine k3.mono ?_; rintro e w3 ⟨rfl, hb4⟩))
                    go_ret
                    exact ⟨rfl, hbw.trans (hb4.mono hbw.size)⟩
                · have k2 := kK.out _ hb2.out false (by simp [hN])
                  have hvf : v = false := not_true hV.out (fun h => hN (hE.out.1 h).2.2.2.2.2.2.2.1)
                  subst hvf
                  clear hN kK kI
                  go_enter Try.func38, Try.ntmps38
                  go_wp2_with (first
                    | (go_at_call 50; refine k1.mono ?_; rintro e w1 ⟨rfl, hw⟩; subst hw)
                    | (go_at_call 51; refine k2.mono ?_; rintro e w2 ⟨rfl, hb3⟩; clear k2))
                  go_ret
                  exact ⟨rfl, hb2.out.trans (hb3.mono hs2.out)⟩
              · have k1 := kq false (by simp [hN])
                have hvf : v = false := not_true hV.out (fun h => hN (hE.out.1 h).2.2.2.2.2.2.1)
                subst hvf
                clear hN kq
                go_enter Try.func38, Try.ntmps38
                go_wp2_with (go_at_call 50; refine k1.mono ?_; rintro e w1 ⟨rfl, hw⟩; subst hw)
                go_ret
                exact ⟨rfl, hb2.out⟩
            · have q5 := beq_of (s := a.txt) (t := b.txt) false (by simp [hN])
              have hvf : v = false := not_true hV.out (fun h => hN (hE.out.1 h).2.2.2.2.2.1)
              subst hvf
              clear hN
              go_enter Try.func38, Try.ntmps38
              go_wp2
              go_ret
              exact ⟨rfl, hb2.out⟩
          · have q4 : (a.exp == b.exp) = false := by simp [hN]
            have hvf : v = false := not_true hV.out (fun h => hN (hE.out.1 h).2.2.2.2.1)
            subst hvf
            clear hN
            go_enter Try.func38, Try.ntmps38
            go_wp2
            go_ret
            exact ⟨rfl, hb2.out⟩
        · have q3 := beq_of (s := a.dig) (t := b.dig) false (by simp [hN])
          have hvf : v = false := not_true hV.out (fun h => hN (hE.out.1 h).2.2.2.1)
          subst hvf
          clear hN
          go_enter Try.func38, Try.ntmps38
          go_wp2
          go_ret
          exact ⟨rfl, hb2.out⟩
      · have q2 : (a.neg == b.neg) = false := by simp [hN]
        have hvf : v = false := not_true hV.out (fun h => hN (hE.out.1 h).2.2.1)
        subst hvf
        clear hN
        go_enter Try.func38, Try.ntmps38
        go_wp2
        go_ret
        exact ⟨rfl, hb2.out⟩
    · have q1 : (a.num == b.num) = false := by simp [hN]
      have hvf : v = false := not_true hV.out (fun h => hN (hE.out.1 h).2.1)
      subst hvf
      clear hN
      go_enter Try.func38, Try.ntmps38
      go_wp2
      go_ret
      exact ⟨rfl, hb2.out⟩
  · have q0 : (a.kind == b.kind) = false := by simp [hN]
    have hvf : v = false := not_true hV.out (fun h => hN (hE.out.1 h).1)
    subst hvf
    clear hN
    go_enter Try.func38, Try.ntmps38
    go_wp2
    go_ret
    exact ⟨rfl, hb2.out⟩

theorem same_all : ∀ D, SameAt D := by
  intro D
  induction D with
  | zero => intro t u a b w v h; exact absurd h id
  | succ D ih => exact fun t u a b w v hA hB hv => same_step ih t u a b w v hA hB hv
/-- tree.same. -/
theorem sam_any {D E : Nat} {t u : Tr} {a b : Nb} {w : World} {v : Bool} (hA : Nd D w a t) (hB : Nd E w b u) (hv : v = true ↔ t = u) : Calls Try.prog 38 #[.agg a.arr, .agg b.arr] w fun e w' => e = .returned (.bool v) ∧ Below w.heap.size w w' :=
  same_all (max D E) t u a b w v (hA.le (Nat.le_max_left _ _)) (hB.le (Nat.le_max_right _ _)) hv
end Go.Proofs.Ytkealjaealeojab
