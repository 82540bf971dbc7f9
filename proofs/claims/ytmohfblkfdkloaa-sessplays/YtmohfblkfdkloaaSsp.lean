/-
  Tables that nobody made.
-/
import Derived.Test.YtmohfblkfdkloaaSsm
namespace Go.Proofs.Ytmohfblkfdkloaa
open Go.RowKit
set_option linter.unusedVariables false
theorem Below.al {w x : World} (h : Below w.heap.size w x) (o : Obj) : Below w.heap.size w (x.alloc o) := h.alloc h.size o
theorem Below.drN {w x : World} (h : Below w.heap.size w x) (k : Nat) : Below w.heap.size w (x.drewN k) := h.trans ⟨rfl, rfl, rfl, Nat.le_refl _, fun _ _ => rfl⟩
/-- A pointer to no table that was made. -/
def Un (w : World) (p : Option Addr) : Prop := ∀ wx, Below w.heap.size w wx → Calls Try.prog 30 #[.pointer p] wx fun e w' => e = .returned (.bool false) ∧ w' = wx
theorem Un.kept {w w' : World} {p : Option Addr} (h : Un w p) (hb : Below w.heap.size w w') : Un w' p := fun wx hx => h wx (hb.trans (hx.mono hb.size))
theorem un_nil (w : World) : Un w none := fun wx _ => made_nil wx
theorem un_no {w : World} {tb : Nat} (h : w.cell? ⟨tb, 0, none⟩ = some (.bool false)) (hlt : tb < w.heap.size) : Un w (some ⟨tb, 0, none⟩) := fun wx hx => made_no tb wx ((hx.cell (p := ⟨tb, 0, none⟩) hlt).trans h)
theorem live_un {w : World} {p : Option Addr}  (h : Un w p) : Calls Try.prog 24 #[.pointer p] w fun e w' => e = .returned (.int .i64 0) ∧ Below w.heap.size w w' := by
  have hU : Hid (Un w p) := h
  clear h
  go_enter Try.func24, Try.ntmps24
  go_wp2_with (go_at_call 30; refine (hU.out _ (by repeat' with_reducible first | exact Below.refl _ _ | refine Below.drew ?_ | refine Below.drN ?_ _ | refine Below.al ?_ _)).mono ?_; rintro e w0 ⟨rfl, hw0⟩; obtain rfl := hw0.symm; clear hw0)
  go_ret
  exact ⟨rfl, show Below _ _ _ from (by repeat' with_reducible first | exact Below.refl _ _ | refine Below.drew ?_ | refine Below.drN ?_ _ | refine Below.al ?_ _)⟩
theorem close_un {w : World} {p : Option Addr} (t now : Int) (h : Un w p) : Calls Try.prog 17 #[.pointer p, .int .u64 t, .int .i64 now] w fun e w' => e = .returned (.int .i64 2) ∧ Below w.heap.size w w' := by
  have hU : Hid (Un w p) := h
  clear h
  go_enter Try.func17, Try.ntmps17
  go_wp2_with (go_at_call 30; refine (hU.out _ (by repeat' with_reducible first | exact Below.refl _ _ | refine Below.drew ?_ | refine Below.drN ?_ _ | refine Below.al ?_ _)).mono ?_; rintro e w0 ⟨rfl, hw0⟩; obtain rfl := hw0.symm; clear hw0)
  go_ret
  exact ⟨rfl, show Below _ _ _ from (by repeat' with_reducible first | exact Below.refl _ _ | refine Below.drew ?_ | refine Below.drN ?_ _ | refine Below.al ?_ _)⟩
theorem tick_un {w : World} {p : Option Addr} (now : Int) (h : Un w p) : Calls Try.prog 20 #[.pointer p, .int .i64 now] w fun e w' => e = .returned (.slice none 0 0) ∧ Below w.heap.size w w' := by
  have hU : Hid (Un w p) := h
  clear h
  go_enter Try.func20, Try.ntmps20
  go_wp2_with (go_at_call 30; refine (hU.out _ (by repeat' with_reducible first | exact Below.refl _ _ | refine Below.drew ?_ | refine Below.drN ?_ _ | refine Below.al ?_ _)).mono ?_; rintro e w0 ⟨rfl, hw0⟩; obtain rfl := hw0.symm; clear hw0)
  go_ret
  exact ⟨rfl, show Below _ _ _ from (by repeat' with_reducible first | exact Below.refl _ _ | refine Below.drew ?_ | refine Below.drN ?_ _ | refine Below.al ?_ _)⟩
theorem hear_un {w : World} {p : Option Addr} (m : Mg) (now : Int) (h : Un w p) : Calls Try.prog 15 #[.pointer p, m.val, .int .i64 now] w fun e w' => e = .returned (.int .i64 2) ∧ Below w.heap.size w w' := by
  have hU : Hid (Un w p) := h
  clear h
  unfold Mg.val
  go_enter Try.func15, Try.ntmps15
  go_wp2_with (go_at_call 30; refine (hU.out _ (by repeat' with_reducible first | exact Below.refl _ _ | refine Below.drew ?_ | refine Below.drN ?_ _ | refine Below.al ?_ _)).mono ?_; rintro e w0 ⟨rfl, hw0⟩; obtain rfl := hw0.symm; clear hw0)
  go_ret
  exact ⟨rfl, show Below _ _ _ from (by repeat' with_reducible first | exact Below.refl _ _ | refine Below.drew ?_ | refine Below.drN ?_ _ | refine Below.al ?_ _)⟩
theorem find_un {w : World} {p : Option Addr} (t : Int) (h : Un w p) : Calls Try.prog 22 #[.pointer p, .int .u64 t] w fun e w' => e = .returned (.tuple #[.int .i64 0, .int .i64 0, .bool false]) ∧ Below w.heap.size w w' := by
  have hU : Hid (Un w p) := h
  clear h
  go_enter Try.func22, Try.ntmps22
  go_wp2_with (go_at_call 30; refine (hU.out _ (by repeat' with_reducible first | exact Below.refl _ _ | refine Below.drew ?_ | refine Below.drN ?_ _ | refine Below.al ?_ _)).mono ?_; rintro e w0 ⟨rfl, hw0⟩; obtain rfl := hw0.symm; clear hw0)
  refine bodyPost_ret (v := .tuple #[.int .i64 0, .int .i64 0, .bool false]) (by simp [results, Try.results22, go_sem]) rfl ⟨rfl, Below.refl _ _⟩
theorem greet_un {w : World} {p : Option Addr} (m : Mg) (d now : Int) (h : Un w p) : Calls Try.prog 26 #[.pointer p, m.val, .int .u64 d, .int .i64 now] w fun e w' => e = .returned (.tuple #[.agg #[.int .u64 0, .int .i64 0, .int .i64 0, .int .i64 0], .int .i64 2]) ∧ Below w.heap.size w w' := by
  have hU : Hid (Un w p) := h
  clear h
  unfold Mg.val
  go_enter Try.func26, Try.ntmps26
  go_wp2_with (go_at_call 30; refine (hU.out _ (by repeat' with_reducible first | exact Below.refl _ _ | refine Below.drew ?_ | refine Below.drN ?_ _ | refine Below.al ?_ _)).mono ?_; rintro e w0 ⟨rfl, hw0⟩; obtain rfl := hw0.symm; clear hw0)
  refine bodyPost_ret (v := .tuple #[.agg #[.int .u64 0, .int .i64 0, .int .i64 0, .int .i64 0], .int .i64 2]) (by simp [results, Try.results26, go_sem]) rfl ⟨rfl, ?_⟩
  repeat' with_reducible first | exact Below.refl _ _ | refine Below.drew ?_ | refine Below.drN ?_ _ | refine Below.al ?_ _
set_option maxHeartbeats 2000000 in
theorem hello_un {w : World} {p : Option Addr} (m : Mg) (d now : Int) (h : Un w p) : Calls Try.prog 12 #[.pointer p, m.val, .int .u64 d, .int .i64 now] w fun e w' => e = .returned (.tuple #[.agg #[.int .i64 5, .int .u64 m.t, .int .i64 0, .int .i64 0, .int .i64 0, .int .u64 0, .int .i64 0, .int .i64 0, .slice none 0 0], .int .i64 2]) ∧ Below w.heap.size w w' := by
  have hB2 : Hid (Below w.heap.size w ((w.alloc (.cells #[.int .i64 m.k, .int .u64 m.t, .int .i64 m.e, .int .i64 m.s, .int .i64 m.a, .int .u64 m.b, .int .i64 m.c, .int .i64 m.f, .slice m.la m.ln m.lc] 37)).alloc (.cells #[.int .i64 0, .int .u64 0, .int .i64 0, .int .i64 0, .int .i64 0, .int .u64 0, .int .i64 0, .int .i64 0, .slice none 0 0] 37))) := ((Below.refl _ _).alloc (Nat.le_refl _) _).alloc (by simp) _
  have k1 := greet_un m d now (h.kept hB2.out)
  have hbm : Hid (Blk ((w.alloc (.cells #[.int .i64 m.k, .int .u64 m.t, .int .i64 m.e, .int .i64 m.s, .int .i64 m.a, .int .u64 m.b, .int .i64 m.c, .int .i64 m.f, .slice m.la m.ln m.lc] 37)).alloc (.cells #[.int .i64 0, .int .u64 0, .int .i64 0, .int .i64 0, .int .i64 0, .int .u64 0, .int .i64 0, .int .i64 0, .slice none 0 0] 37)) w.heap.size #[.int .i64 m.k, .int .u64 m.t, .int .i64 m.e, .int .i64 m.s, .int .i64 m.a, .int .u64 m.b, .int .i64 m.c, .int .i64 m.f, .slice m.la m.ln m.lc] 37) := (blk_new w _ _).kept ((Below.refl _ _).alloc (Nat.le_refl _) _)
  have hbz : Hid (Blk ((w.alloc (.cells #[.int .i64 m.k, .int .u64 m.t, .int .i64 m.e, .int .i64 m.s, .int .i64 m.a, .int .u64 m.b, .int .i64 m.c, .int .i64 m.f, .slice m.la m.ln m.lc] 37)).alloc (.cells #[.int .i64 0, .int .u64 0, .int .i64 0, .int .i64 0, .int .i64 0, .int .u64 0, .int .i64 0, .int .i64 0, .slice none 0 0] 37)) (w.heap.size + 1) #[.int .i64 0, .int .u64 0, .int .i64 0, .int .i64 0, .int .i64 0, .int .u64 0, .int .i64 0, .int .i64 0, .slice none 0 0] 37) := by
    have := blk_new (w.alloc (.cells #[.int .i64 m.k, .int .u64 m.t, .int .i64 m.e, .int .i64 m.s, .int .i64 m.a, .int .u64 m.b, .int .i64 m.c, .int .i64 m.f, .slice m.la m.ln m.lc] 37)) #[.int .i64 0, .int .u64 0, .int .i64 0, .int .i64 0, .int .i64 0, .int .u64 0, .int .i64 0, .int .i64 0, .slice none 0 0] 37
    rw [show (w.alloc (.cells #[.int .i64 m.k, .int .u64 m.t, .int .i64 m.e, .int .i64 m.s, .int .i64 m.a, .int .u64 m.b, .int .i64 m.c, .int .i64 m.f, .slice m.la m.ln m.lc] 37)).heap.size = w.heap.size + 1 by simp] at this
    exact this
  clear h
  unfold Mg.val at k1 ⊢
  go_enter Try.func12, Try.ntmps12
  go_wp2_with (first | (go_at_call 26; refine k1.mono ?_; rintro e w2 ⟨rfl, hb⟩; clear k1; have hB3 : Hid (Below w2.heap.size w2 (w2.alloc (.cells #[.int .u64 0, .int .i64 0, .int .i64 0, .int .i64 0] 67))) := (Below.refl _ _).alloc (Nat.le_refl _) _; have hm3 : Hid (Blk (w2.alloc (.cells #[.int .u64 0, .int .i64 0, .int .i64 0, .int .i64 0] 67)) w.heap.size _ 37) := (hbm.out.kept hb).kept hB3.out; have hz3 : Hid (Blk (w2.alloc (.cells #[.int .u64 0, .int .i64 0, .int .i64 0, .int .i64 0] 67)) (w.heap.size + 1) _ 37) := (hbz.out.kept hb).kept hB3.out; have hBw : Hid (Below w.heap.size w (w2.alloc (.cells #[.int .u64 0, .int .i64 0, .int .i64 0, .int .i64 0] 67))) := (hB2.out.trans (hb.mono hB2.out.size)).trans (hB3.out.mono (Nat.le_trans hB2.out.size hb.size)); have a1 := hm3.out.cell 1; have z0 := hz3.out.cell 0; have y0 := hz3.out.fz 0; have z1 := hz3.out.cell 1; have y1 := hz3.out.fz 1; have z2 := hz3.out.cell 2; have y2 := hz3.out.fz 2; have z3 := hz3.out.cell 3; have y3 := hz3.out.fz 3; have z4 := hz3.out.cell 4; have y4 := hz3.out.fz 4; have z5 := hz3.out.cell 5; have y5 := hz3.out.fz 5; have z6 := hz3.out.cell 6; have y6 := hz3.out.fz 6; have z7 := hz3.out.cell 7; have y7 := hz3.out.fz 7; have z8 := hz3.out.cell 8; have y8 := hz3.out.fz 8; clear hbm hbz hb hB3 hB2))
  have hB7 : Below w.heap.size w ((((((((((w2.alloc (.cells #[.int .u64 0, .int .i64 0, .int .i64 0, .int .i64 0] 67)).setCell ⟨w.heap.size + 1, 0, none⟩ (.int .i64 5)).setCell ⟨w.heap.size + 1, 1, none⟩ (.int .u64 m.t)).setCell ⟨w.heap.size + 1, 2, none⟩ (.int .i64 0)).setCell ⟨w.heap.size + 1, 3, none⟩ (.int .i64 0)).setCell ⟨w.heap.size + 1, 4, none⟩ (.int .i64 0)).setCell ⟨w.heap.size + 1, 5, none⟩ (.int .u64 0)).setCell ⟨w.heap.size + 1, 6, none⟩ (.int .i64 0)).setCell ⟨w.heap.size + 1, 7, none⟩ (.int .i64 0)).setCell ⟨w.heap.size + 1, 8, none⟩ (.slice none 0 0)) := (((((((((hBw.out.setCell (p := ⟨w.heap.size + 1, 0, none⟩) (Nat.le_succ _) _).setCell (p := ⟨w.heap.size + 1, 1, none⟩) (Nat.le_succ _) _).setCell (p := ⟨w.heap.size + 1, 2, none⟩) (Nat.le_succ _) _).setCell (p := ⟨w.heap.size + 1, 3, none⟩) (Nat.le_succ _) _).setCell (p := ⟨w.heap.size + 1, 4, none⟩) (Nat.le_succ _) _).setCell (p := ⟨w.heap.size + 1, 5, none⟩) (Nat.le_succ _) _).setCell (p := ⟨w.heap.size + 1, 6, none⟩) (Nat.le_succ _) _).setCell (p := ⟨w.heap.size + 1, 7, none⟩) (Nat.le_succ _) _).setCell (p := ⟨w.heap.size + 1, 8, none⟩) (Nat.le_succ _) _)
  have hz7 := (((((((((hz3.out.set 0 (.int .i64 5)).set 1 (.int .u64 m.t)).set 2 (.int .i64 0)).set 3 (.int .i64 0)).set 4 (.int .i64 0)).set 5 (.int .u64 0)).set 6 (.int .i64 0)).set 7 (.int .i64 0)).set 8 (.slice none 0 0))
  have x0 := hz7.cell 0
  have x1 := hz7.cell 1
  have x2 := hz7.cell 2
  have x3 := hz7.cell 3
  have x4 := hz7.cell 4
  have x5 := hz7.cell 5
  have x6 := hz7.cell 6
  have x7 := hz7.cell 7
  have x8 := hz7.cell 8
  refine bodyPost_ret (v := .tuple #[.agg #[.int .i64 5, .int .u64 m.t, .int .i64 0, .int .i64 0, .int .i64 0, .int .u64 0, .int .i64 0, .int .i64 0, .slice none 0 0], .int .i64 2]) (by simp [results, Try.results12, go_sem, *]) rfl ⟨rfl, hB7⟩
theorem conv_nil (w : World) : (convert 35 9 (.slice none 0 0)).run Try.prog w = .ok (.string (strOfNums [])) w := conv_str (zs := []) ⟨by simp, by simp, .inl rfl⟩ 0 0 rfl
theorem same_nil (w : World) : Calls Try.prog 29 #[.slice none 0 0, .slice none 0 0] w fun e w' => e = .returned (.bool true) ∧ w' = w := by
  have k1 := conv_nil w
  have k3 : ((strOfNums []).toList == (strOfNums []).toList) = true := by simp
  go_enter Try.func29, Try.ntmps29
  go_wp2
  go_ret
  all_goals simp_all
set_option maxRecDepth 100000 in
set_option maxHeartbeats 4000000 in
theorem one_like (m : Mg) (w : World) (h1 : m.la = none) (h2 : m.ln = 0) (h3 : m.lc = 0) :
    Calls Try.prog 14 #[m.val, m.val] w fun e w' => e = .returned (.bool true) ∧ Hid (Below w.heap.size w w') := by
  have d0 : (m.k == m.k) = true := by simp
  have d1 : (m.t == m.t) = true := by simp
  have d2 : (m.e == m.e) = true := by simp
  have d3 : (m.s == m.s) = true := by simp
  have d4 : (m.a == m.a) = true := by simp
  have d5 : (m.b == m.b) = true := by simp
  have d6 : (m.c == m.c) = true := by simp
  have d7 : (m.f == m.f) = true := by simp
  unfold Mg.val
  rw [h1, h2, h3]
  go_enter Try.func14, Try.ntmps14
  go_wp2_with (go_at_call 29; refine (same_nil _).mono ?_; rintro e w1 ⟨rfl, hw1⟩; obtain rfl := hw1.symm; clear hw1)
  go_ret
  exact ⟨rfl, show Below _ _ _ from (by repeat' with_reducible first | exact Below.refl _ _ | refine Below.drew ?_ | refine Below.drN ?_ _ | refine Below.al ?_ _)⟩
end Go.Proofs.Ytmohfblkfdkloaa
