/-
  How many nodes a tree has, and how deep it is: tree.each put together, tree.measure, Few, Size, Deep.
-/
import Derived.Test.YtkealjaealeojabQGj
import Derived.Test.YtkealjaealeojabQEchlt
import Derived.Test.YtkealjaealeojabQEchge
namespace Go.Proofs.Ytkealjaealeojab
open Go.RowKit
set_option linter.unusedVariables false

/-- tree.each, BY INDUCTION ON THE TREE'S DEPTH. -/
theorem each_any {g : Nat} {cap : Array Value} {σ : Type} {f : Tr → Nat → σ → Bool × σ} {I : σ → World → Prop} {J : σ → Nat → Tr → Prop} {C : Nat → Prop} {B : Nat} (T : Takes g cap σ f I J C B) : ∀ (D : Nat), EachAt g cap σ f I J C B D := by
  intro D
  induction D with
  | zero => intro t d b s w h; exact absurd h id
  | succ D ih =>
    intro t d b s w hN hI hJ
    cases h1 : (f t d s).1 with
    | false => exact each_no T ih t d b s w hN hI hJ h1
    | true =>
      rcases Nat.lt_or_ge b.lk b.li with hM | hM
      · exact each_lt T ih t d b s w hN hI hJ h1 hM (by omega)
      · exact each_ge T ih t d b s w hN hI hJ h1 hM (by omega)

/-- Two numbers in boxes of their own. -/
def IM (B g2 g3 : Nat) (s : Nat × Nat) (w : World) : Prop := w.heap[g2]? = some (.cells #[.int .i64 (s.1 : Nat)] 3 (0, 0)) ∧ w.heap[g3]? = some (.cells #[.int .i64 (s.2 : Nat)] 3 (0, 0)) ∧ B ≤ w.heap.size
theorem block_lt {w : World} {g : Nat} {o : Obj} (h : w.heap[g]? = some o) : g < w.heap.size := (Array.getElem?_eq_some_iff.1 h).1
theorem other_set {w : World} {g k : Nat} (h : k ≠ g) (u : Value) : (w.setCell ⟨g, 0, none⟩ u).heap[k]? = w.heap[k]? := Below.heap_setCell w ⟨g, 0, none⟩ u k h
theorem kp_set {w : World} {C : Nat → Prop} {g : Nat} (h : C g) (u : Value) : Kp C w (w.setCell ⟨g, 0, none⟩ u) :=
  ⟨rfl, rfl, rfl, by simp [World.setCell], fun k _ hc => other_set (fun e => hc (by rw [e]; exact h)) u⟩
set_option maxRecDepth 100000 in
set_option maxHeartbeats 1000000 in
theorem measc_any (B g2 g3 : Nat) (h2 : B ≤ g2) (h3 : B ≤ g3) (h23 : g2 ≠ g3) (s : Nat × Nat) (w : World) (b : Nb) (t : Tr) (d : Nat) (hI : IM B g2 g3 s w) (hd : d ≤ s.1 + 1 ∧ s.1 ≤ 1024) :
    Calls Try.prog 33 (#[.agg b.arr, .int .i64 d] ++ #[.pointer (some ⟨g2, 0, none⟩), .pointer (some ⟨g3, 0, none⟩)]) w fun e w' => e = .returned (.bool (Tr.meas t d s).1) ∧ IM B g2 g3 (Tr.meas t d s).2 w' ∧ Kp (fun k => k = g2 ∨ k = g3) w w' := by
  show Calls Try.prog 33 #[.agg b.arr, .int .i64 d, .pointer (some ⟨g2, 0, none⟩), .pointer (some ⟨g3, 0, none⟩)] w _
  obtain ⟨a, m⟩ := s
  obtain ⟨H2, H3, hB⟩ := hI
  simp only at H2 H3 hd
  have hal := alloc_below w (.cells b.arr 26)
  have X2 : (w.alloc (.cells b.arr 26)).heap[g2]? = some (.cells #[.int .i64 a] 3 (0, 0)) := (hal.block g2 (block_lt H2)).trans H2
  have X3 : (w.alloc (.cells b.arr 26)).heap[g3]? = some (.cells #[.int .i64 m] 3 (0, 0)) := (hal.block g3 (block_lt H3)).trans H3
  have hKp : Hid (Kp (fun k => k = g2 ∨ k = g3) w (w.alloc (.cells b.arr 26))) := Kp.of hal
  have hs : Hid (B ≤ (w.alloc (.cells b.arr 26)).heap.size) := Nat.le_trans hB hal.size
  clear hal H2 H3 hB
  have hwa : IntKind.i64.wrap ((a : Int) + 1) = (a : Int) + 1 := by rw [IntKind.wrap_i64]; omega
  have c2 := cell_of_one X2
  have z2 := free_of_one X2
  have K2 : Hid _ := one_setCell (u := .int .i64 ((a : Int) + 1)) X2
  have K3 : Hid _ := (other_set (w := w.alloc (.cells b.arr 26)) (Ne.symm h23) (.int .i64 ((a : Int) + 1))).trans X3
  have kp1 : Hid (Kp (fun k => k = g2 ∨ k = g3) w ((w.alloc (.cells b.arr 26)).setCell ⟨g2, 0, none⟩ (.int .i64 ((a : Int) + 1)))) := hKp.out.trans (kp_set (.inl rfl) _)
  have hs1 : Hid (B ≤ ((w.alloc (.cells b.arr 26)).setCell ⟨g2, 0, none⟩ (.int .i64 ((a : Int) + 1))).heap.size) := Nat.le_trans hs.out (by simp [World.setCell])
  have c3 := cell_of_one K3.out
  have z3 := free_of_one K3.out
  clear X2 X3 hKp hs
  by_cases hmd : m < d
  · have hmz : (m : Int) < (d : Int) := by omega
    have J2 := (other_set (w := (w.alloc (.cells b.arr 26)).setCell ⟨g2, 0, none⟩ (.int .i64 ((a : Int) + 1))) h23 (.int .i64 (d : Int))).trans K2.out
    have J3 : Hid _ := one_setCell (u := .int .i64 (d : Int)) K3.out
    have e2 := cell_of_one J2
    have hJ2 : Hid _ := J2
    have kp2 : Hid (Kp (fun k => k = g2 ∨ k = g3) w (((w.alloc (.cells b.arr 26)).setCell ⟨g2, 0, none⟩ (.int .i64 ((a : Int) + 1))).setCell ⟨g3, 0, none⟩ (.int .i64 (d : Int)))) := kp1.out.trans (kp_set (.inr rfl) _)
    have hs2 : Hid (B ≤ (((w.alloc (.cells b.arr 26)).setCell ⟨g2, 0, none⟩ (.int .i64 ((a : Int) + 1))).setCell ⟨g3, 0, none⟩ (.int .i64 (d : Int))).heap.size) := Nat.le_trans hs1.out (by simp [World.setCell])
    have hmx : Hid (max m d = d) := by show _ = _; omega
    clear J2
    by_cases ha : a + 1 ≤ 1024
    · have hd1 : decide (((a : Int) + 1) ≤ 1024) = true := by simp; omega
      have hR : Hid ((Tr.meas t d (a, m)).1 = true) := by show _ = _; simp [Tr.meas, ha]
      clear ha hd
      go_enter Try.func33, Try.ntmps33
      go_wp2
      go_ret
      exact ⟨by rw [hR.out]; rfl, ⟨hJ2.out, by show _ = some (Obj.cells #[.int .i64 ((max m d : Nat) : Int)] 3 (0, 0)); rw [hmx.out]; exact J3.out, hs2.out⟩, kp2.out⟩
    · have hd1 : decide (((a : Int) + 1) ≤ 1024) = false := by simp; omega
      have hR : Hid ((Tr.meas t d (a, m)).1 = false) := by show _ = _; simp [Tr.meas, ha]
      clear ha hd
      go_enter Try.func33, Try.ntmps33
      go_wp2
      go_ret
      exact ⟨by rw [hR.out]; rfl, ⟨hJ2.out, by show _ = some (Obj.cells #[.int .i64 ((max m d : Nat) : Int)] 3 (0, 0)); rw [hmx.out]; exact J3.out, hs2.out⟩, kp2.out⟩
  · have hmz : ¬ (m : Int) < (d : Int) := by omega
    have J2 := (other_set (w := (w.alloc (.cells b.arr 26)).setCell ⟨g2, 0, none⟩ (.int .i64 ((a : Int) + 1))) h23 (.int .i64 (m : Int))).trans K2.out
    have J3 : Hid _ := one_setCell (u := .int .i64 (m : Int)) K3.out
    have e2 := cell_of_one J2
    have hJ2 : Hid _ := J2
    have kp2 : Hid (Kp (fun k => k = g2 ∨ k = g3) w (((w.alloc (.cells b.arr 26)).setCell ⟨g2, 0, none⟩ (.int .i64 ((a : Int) + 1))).setCell ⟨g3, 0, none⟩ (.int .i64 (m : Int)))) := kp1.out.trans (kp_set (.inr rfl) _)
    have hs2 : Hid (B ≤ (((w.alloc (.cells b.arr 26)).setCell ⟨g2, 0, none⟩ (.int .i64 ((a : Int) + 1))).setCell ⟨g3, 0, none⟩ (.int .i64 (m : Int))).heap.size) := Nat.le_trans hs1.out (by simp [World.setCell])
    have hmx : Hid (max m d = m) := by show _ = _; omega
    clear J2
    by_cases ha : a + 1 ≤ 1024
    · have hd1 : decide (((a : Int) + 1) ≤ 1024) = true := by simp; omega
      have hR : Hid ((Tr.meas t d (a, m)).1 = true) := by show _ = _; simp [Tr.meas, ha]
      clear ha hd
      go_enter Try.func33, Try.ntmps33
      go_wp2
      go_ret
      exact ⟨by rw [hR.out]; rfl, ⟨hJ2.out, by show _ = some (Obj.cells #[.int .i64 ((max m d : Nat) : Int)] 3 (0, 0)); rw [hmx.out]; exact J3.out, hs2.out⟩, kp2.out⟩
    · have hd1 : decide (((a : Int) + 1) ≤ 1024) = false := by simp; omega
      have hR : Hid ((Tr.meas t d (a, m)).1 = false) := by show _ = _; simp [Tr.meas, ha]
      clear ha hd
      go_enter Try.func33, Try.ntmps33
      go_wp2
      go_ret
      exact ⟨by rw [hR.out]; rfl, ⟨hJ2.out, by show _ = some (Obj.cells #[.int .i64 ((max m d : Nat) : Int)] 3 (0, 0)); rw [hmx.out]; exact J3.out, hs2.out⟩, kp2.out⟩

theorem takes_meas {B g2 g3 : Nat} (h2 : B ≤ g2) (h3 : B ≤ g3) (h23 : g2 ≠ g3) :
    Takes 33 #[.pointer (some ⟨g2, 0, none⟩), .pointer (some ⟨g3, 0, none⟩)] (Nat × Nat) Tr.meas (IM B g2 g3) (fun s d _ => d ≤ s.1 + 1 ∧ s.1 ≤ 1024) (fun k => k = g2 ∨ k = g3) B where
  call := fun s w b t d D hI hJ _ => measc_any B g2 g3 h2 h3 h23 s w b t d hI hJ
  enter := enters_of Try.func33 (by kernel_rfl) rfl
  keeps := fun s w w' hI hb => ⟨(hb.block g2 (block_lt hI.1)).trans hI.1, (hb.block g3 (block_lt hI.2.1)).trans hI.2.1, Nat.le_trans hI.2.2 hb.size⟩
  room := fun s w hI => ⟨hI.2.2, fun k hk => by
    rcases hk with rfl | rfl
    · exact ⟨h2, block_lt hI.1⟩
    · exact ⟨h3, block_lt hI.2.1⟩⟩
  first := fun s d t u hJ _ hf => by
    have hf' : s.1 + 1 ≤ 1024 := of_decide_eq_true hf
    exact ⟨⟨by show d + 1 ≤ s.1 + 1 + 1; omega, hf'⟩, by omega⟩
  more := fun s d u t' d' hJ hf => by
    have hf' : s.1 + 1 ≤ 1024 := of_decide_eq_true hf
    exact ⟨by show d ≤ s.1 + 1 + 1; omega, hf'⟩

set_option maxHeartbeats 1000000 in
/-- tree.measure. -/
theorem meas_any {D : Nat} {t : Tr} {b : Nb} {w : World} (hN : Nd D w b t) : Calls Try.prog 19 #[.agg b.arr] w fun e w' => e = .returned (.tuple #[.int .i64 (t.mes.1 : Nat), .int .i64 (t.mes.2 : Nat)]) ∧ Below w.heap.size w w' := by
  have hbox := nbox_new w b
  have hal := alloc_below w (.cells b.arr 26)
  have hal2 := alloc_below (w.alloc (.cells b.arr 26)) (.cells #[.int .i64 0] 3)
  have hal3 := alloc_below ((w.alloc (.cells b.arr 26)).alloc (.cells #[.int .i64 0] 3)) (.cells #[.int .i64 0] 3)
  have s1 : (w.alloc (.cells b.arr 26)).heap.size = w.heap.size + 1 := by simp
  have s2 : ((w.alloc (.cells b.arr 26)).alloc (.cells #[.int .i64 0] 3)).heap.size = w.heap.size + 1 + 1 := by simp
  have hb3 : NBox (((w.alloc (.cells b.arr 26)).alloc (.cells #[.int .i64 0] 3)).alloc (.cells #[.int .i64 0] 3)) w.heap.size b := (hbox.kept hal2 (by omega)).kept hal3 (by omega)
  have H2 : (((w.alloc (.cells b.arr 26)).alloc (.cells #[.int .i64 0] 3)).alloc (.cells #[.int .i64 0] 3)).heap[w.heap.size + 1]? = some (.cells #[.int .i64 0] 3 (0, 0)) := by
    rw [hal3.block _ (by omega), ← s1]
    exact heap_alloc_new _ _
  have H3 : (((w.alloc (.cells b.arr 26)).alloc (.cells #[.int .i64 0] 3)).alloc (.cells #[.int .i64 0] 3)).heap[w.heap.size + 1 + 1]? = some (.cells #[.int .i64 0] 3 (0, 0)) := by
    rw [← s2]
    exact heap_alloc_new _ _
  have hBel : Below w.heap.size w (((w.alloc (.cells b.arr 26)).alloc (.cells #[.int .i64 0] 3)).alloc (.cells #[.int .i64 0] 3)) := (hal.trans (hal2.mono (by omega))).trans (hal3.mono (by omega))
  have hT := takes_meas (B := w.heap.size) (g2 := w.heap.size + 1) (g3 := w.heap.size + 1 + 1) (by omega) (by omega) (by omega)
  have ke : Calls Try.prog 20 #[.agg b.arr, .int .i64 1, .func (.func 33) #[] #[.pointer (some ⟨w.heap.size + 1, 0, none⟩), .pointer (some ⟨w.heap.size + 1 + 1, 0, none⟩)]] (((w.alloc (.cells b.arr 26)).alloc (.cells #[.int .i64 0] 3)).alloc (.cells #[.int .i64 0] 3)) _ :=
    each_any hT D t 1 b (0, 0) (((w.alloc (.cells b.arr 26)).alloc (.cells #[.int .i64 0] 3)).alloc (.cells #[.int .i64 0] 3)) (hN.all.below hBel fun k hk => hk) ⟨H2, H3, hBel.size⟩ ⟨by omega, by omega⟩
  have hK : Hid (∀ w', Kp (fun k => k = w.heap.size + 1 ∨ k = w.heap.size + 1 + 1) (((w.alloc (.cells b.arr 26)).alloc (.cells #[.int .i64 0] 3)).alloc (.cells #[.int .i64 0] 3)) w' → Below w.heap.size w w') := fun w' h => hBel.trans (h.below hBel.size fun k hk => by omega)
  have hm := Tr.meas_all t
  obtain ⟨c0, c1, c2, c3, c4, c5, c6, c7, c8⟩ := hb3.fields
  by_cases hf : t.size ≤ 1024
  · have hR : t.mes = (t.size, t.deep) := if_pos hf
    rw [hR]
    rw [hm.1, hm.2 hf, decide_eq_true hf] at ke
    clear hm hR hT H2 H3 hb3 hbox hal hal2 hal3 hBel hN hf
    generalize t.size = S at *
    generalize t.deep = E at *
    go_enter Try.func19, Try.ntmps19
    go_wp2_with (go_at_call 20; refine ke.mono ?_; rintro e w4 ⟨rfl, ⟨A2, A3, _⟩, hK4⟩; simp only at A2 A3; have p2 := cell_of_one A2; have p3 := cell_of_one A3; have z2 := free_of_one A2; have z3 := free_of_one A3)
    have B2 := one_setCell (u := .int .i64 (S : Nat)) A2
    have B3 := (other_set (w := w4) (show w.heap.size + 1 + 1 ≠ w.heap.size + 1 by omega) (.int .i64 (S : Nat))).trans A3
    have r3 := cell_of_one B3
    have y3 := free_of_one B3
    have C2 := (other_set (w := w4.setCell ⟨w.heap.size + 1, 0, none⟩ (.int .i64 (S : Nat))) (show w.heap.size + 1 ≠ w.heap.size + 1 + 1 by omega) (.int .i64 (E : Nat))).trans B2
    have C3 := one_setCell (u := .int .i64 (E : Nat)) B3
    have q2 := cell_of_one C2
    have q3 := cell_of_one C3
    have hfin : Hid (Kp (fun k => k = w.heap.size + 1 ∨ k = w.heap.size + 1 + 1) w4 ((w4.setCell ⟨w.heap.size + 1, 0, none⟩ (.int .i64 (S : Nat))).setCell ⟨w.heap.size + 1 + 1, 0, none⟩ (.int .i64 (E : Nat)))) := (kp_set (.inl rfl) _).trans (kp_set (.inr rfl) _)
    clear A2 A3 B2 B3 C2 C3
    go_region
    all_goals (try go_wp2)
    all_goals (refine bodyPost_ret (v := .tuple #[.int .i64 (S : Nat), .int .i64 (E : Nat)]) (by simp [results, Try.results19, go_sem, q2, q3]) rfl ⟨rfl, ?_⟩; exact (hK.out _ (hK4.trans hfin.out)).drew)
  · have hR : t.mes = (1025, 1025) := if_neg hf
    rw [hR]
    rw [hm.1, decide_eq_false hf] at ke
    clear hm hR hT H2 H3 hb3 hbox hal hal2 hal3 hBel hN hf
    generalize (Tr.go Tr.meas (t.seq 1) (0, 0)).2 = R at *
    go_enter Try.func19, Try.ntmps19
    go_wp2_with (go_at_call 20; refine ke.mono ?_; rintro e w4 ⟨rfl, ⟨A2, A3, _⟩, hK4⟩; have p2 := cell_of_one A2; have p3 := cell_of_one A3; have z2 := free_of_one A2; have z3 := free_of_one A3)
    have B2 := one_setCell (u := .int .i64 1025) A2
    have B3 := (other_set (w := w4) (show w.heap.size + 1 + 1 ≠ w.heap.size + 1 by omega) (.int .i64 1025)).trans A3
    have C2 := (other_set (w := w4.setCell ⟨w.heap.size + 1, 0, none⟩ (.int .i64 1025)) (show w.heap.size + 1 ≠ w.heap.size + 1 + 1 by omega) (.int .i64 1025)).trans B2
    have C3 := one_setCell (u := .int .i64 1025) B3
    have q2 := cell_of_one C2
    have q3 := cell_of_one C3
    refine bodyPost_ret (v := .tuple #[.int .i64 1025, .int .i64 1025]) (by simp [results, Try.results19, go_sem, q2, q3]) rfl ⟨rfl, ?_⟩
    exact hK.out _ (hK4.trans ((kp_set (.inl rfl) _).trans (kp_set (.inr rfl) _)))

theorem size_any {D : Nat} {t : Tr} {b : Nb} {w : World} (hN : Nd D w b t) : Calls Try.prog 7 #[.agg b.arr] w fun e w' => e = .returned (.int .i64 (t.mes.1 : Nat)) ∧ Below w.heap.size w w' := by
  have hbox := nbox_new w b
  have hal := alloc_below w (.cells b.arr 26)
  have km := meas_any (hN.kept hal)
  have hB : Hid (Below w.heap.size w (w.alloc (.cells b.arr 26))) := hal
  have hs : Hid (w.heap.size ≤ (w.alloc (.cells b.arr 26)).heap.size) := hal.size
  obtain ⟨c0, c1, c2, c3, c4, c5, c6, c7, c8⟩ := hbox.fields
  generalize t.mes.1 = S at *
  generalize t.mes.2 = E at *
  clear hal hbox hN
  go_enter Try.func7, Try.ntmps7
  go_wp2_with (go_at_call 19; refine km.mono ?_; rintro e w1 ⟨rfl, hb⟩)
  go_ret
  exact ⟨rfl, hB.out.trans (hb.mono hs.out)⟩
theorem gdeep_any {D : Nat} {t : Tr} {b : Nb} {w : World} (hN : Nd D w b t) : Calls Try.prog 8 #[.agg b.arr] w fun e w' => e = .returned (.int .i64 (t.mes.2 : Nat)) ∧ Below w.heap.size w w' := by
  have hbox := nbox_new w b
  have hal := alloc_below w (.cells b.arr 26)
  have km := meas_any (hN.kept hal)
  have hB : Hid (Below w.heap.size w (w.alloc (.cells b.arr 26))) := hal
  have hs : Hid (w.heap.size ≤ (w.alloc (.cells b.arr 26)).heap.size) := hal.size
  obtain ⟨c0, c1, c2, c3, c4, c5, c6, c7, c8⟩ := hbox.fields
  generalize t.mes.1 = S at *
  generalize t.mes.2 = E at *
  clear hal hbox hN
  go_enter Try.func8, Try.ntmps8
  go_wp2_with (go_at_call 19; refine km.mono ?_; rintro e w1 ⟨rfl, hb⟩)
  go_ret
  exact ⟨rfl, hB.out.trans (hb.mono hs.out)⟩
theorem Tr.mes_few (t : Tr) : decide ((t.mes.1 : Nat) ≤ 1024) = decide (t.size ≤ 1024) := by
  unfold Tr.mes
  split
  · rfl
  · rename_i h; simp [h]
theorem few_any {D : Nat} {t : Tr} {b : Nb} {w : World} (hN : Nd D w b t) : Calls Try.prog 16 #[.agg b.arr] w fun e w' => e = .returned (.bool (decide (t.size ≤ 1024))) ∧ Below w.heap.size w w' := by
  have hbox := nbox_new w b
  have hal := alloc_below w (.cells b.arr 26)
  have km := size_any (hN.kept hal)
  have hB : Hid (Below w.heap.size w (w.alloc (.cells b.arr 26))) := hal
  have hs : Hid (w.heap.size ≤ (w.alloc (.cells b.arr 26)).heap.size) := hal.size
  obtain ⟨c0, c1, c2, c3, c4, c5, c6, c7, c8⟩ := hbox.fields
  rw [← Tr.mes_few]
  generalize t.mes.1 = S at *
  clear hal hbox hN
  by_cases h : S ≤ 1024
  · have h1 : decide (((S : Nat) : Int) ≤ 1024) = true := by simp; omega
    rw [decide_eq_true h]
    clear h
    go_enter Try.func16, Try.ntmps16
    go_wp2_with (go_at_call 7; refine km.mono ?_; rintro e w1 ⟨rfl, hb⟩)
    go_ret
    exact ⟨rfl, hB.out.trans (hb.mono hs.out)⟩
  · have h1 : decide (((S : Nat) : Int) ≤ 1024) = false := by simp; omega
    rw [decide_eq_false h]
    clear h
    go_enter Try.func16, Try.ntmps16
    go_wp2_with (go_at_call 7; refine km.mono ?_; rintro e w1 ⟨rfl, hb⟩)
    go_ret
    exact ⟨rfl, hB.out.trans (hb.mono hs.out)⟩
end Go.Proofs.Ytkealjaealeojab
