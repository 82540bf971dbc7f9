/-
  A reader of losses in memory: its block and its cursor's; the calls of one number.
-/
import Derived.Test.YtgfnohgpmmaocaaDoorLpa
import Derived.Deep.QuietTactic
namespace Go.Proofs.YtgfnohgpmmaocaaDoor
open Go.RowKit
set_option linter.unusedVariables false

/-- A block's cells. -/
def Blk (w : World) (g : Nat) (cs : Array Value) (T : TypeId) : Prop := w.heap[g]? = some (.cells cs T (0, 0))
theorem Blk.lt {w : World} {g : Nat} {cs : Array Value} {T : TypeId} (h : Blk w g cs T) : g < w.heap.size := (Array.getElem?_eq_some_iff.1 h).1
theorem Blk.cell {w : World} {g : Nat} {cs : Array Value} {T : TypeId} (h : Blk w g cs T) (j : Nat) : w.cell? ⟨g, j, none⟩ = cs[j]? := cell_row h j
theorem Blk.fz {w : World} {g : Nat} {cs : Array Value} {T : TypeId} (h : Blk w g cs T) (j : Nat) : w.frozen? ⟨g, j, none⟩ = false := by
  unfold Blk at h
  simp [World.frozen?, h]
theorem Blk.set {w : World} {g : Nat} {cs : Array Value} {T : TypeId} (h : Blk w g cs T) (j : Nat) (v : Value) : Blk (w.setCell ⟨g, j, none⟩ v) g (cs.setIfInBounds j v) T := heap_setCell_same w g j cs T v h
theorem Blk.kept {w w' : World} {g : Nat} {cs : Array Value} {T : TypeId} (h : Blk w g cs T) (hb : Below w.heap.size w w') : Blk w' g cs T := by
  unfold Blk
  rw [hb.block g h.lt]
  exact h
theorem blk_new (w : World) (cs : Array Value) (T : TypeId) : Blk (w.alloc (.cells cs T)) w.heap.size cs T := heap_alloc_new w _

/-- NOTHING BUT TWO BLOCKS HAS TURNED. -/
structure K2 (q g : Nat) (w w' : World) : Prop where
  os : w'.os = w.os
  tape : w'.tape = w.tape
  output : w'.output = w.output
  size : w.heap.size ≤ w'.heap.size
  block : ∀ k, k < w.heap.size → k ≠ q → k ≠ g → w'.heap[k]? = w.heap[k]?
theorem K2.refl (q g : Nat) (w : World) : K2 q g w w := ⟨rfl, rfl, rfl, Nat.le_refl _, fun _ _ _ _ => rfl⟩
theorem K2.trans {q g : Nat} {a b c : World} (h : K2 q g a b) (k : K2 q g b c) : K2 q g a c :=
  ⟨k.os.trans h.os, k.tape.trans h.tape, k.output.trans h.output, Nat.le_trans h.size k.size, fun i hi h1 h2 => (k.block i (Nat.lt_of_lt_of_le hi h.size) h1 h2).trans (h.block i hi h1 h2)⟩
theorem K2.of_g {q g : Nat} {w w' : World} (h : w.grownBy w' (some g)) : K2 q g w w' := ⟨h.os, h.tape, h.output, h.size, fun k hk _ hg => h.block k hk (fun e => hg (Option.some.inj e))⟩
theorem K2.of_q {q g : Nat} {w w' : World} (h : w.grownBy w' (some q)) : K2 q g w w' := ⟨h.os, h.tape, h.output, h.size, fun k hk hq _ => h.block k hk (fun e => hq (Option.some.inj e))⟩
theorem K2.of_below {q g : Nat} {w w' : World} (h : Below w.heap.size w w') : K2 q g w w' := ⟨h.os, h.tape, h.output, h.size, fun k hk _ _ => h.block k hk⟩
theorem K2.below {q g B : Nat} {a w w' : World} (k : K2 q g w w') (h : Below B a w) (hB : B ≤ w.heap.size) (hq : B ≤ q) (hg : B ≤ g) : Below B a w' :=
  ⟨k.os.trans h.os, k.tape.trans h.tape, k.output.trans h.output, Nat.le_trans h.size k.size, fun i hi => (k.block i (by omega) (by omega) (by omega)).trans (h.block i hi)⟩

/-- A READER's BLOCK: its cursor, and the fault of its own. -/
def RBk (w : World) (q g y f : Nat) : Prop := w.heap[q]? = some (.cells #[.pointer (some ⟨g, 0, none⟩), .int .i64 y, .int .i64 f] 50 (0, 0))
theorem RBk.lt {w : World} {q g y f : Nat} (h : RBk w q g y f) : q < w.heap.size := (Array.getElem?_eq_some_iff.1 h).1
theorem RBk.c0 {w : World} {q g y f : Nat} (h : RBk w q g y f) : w.cell? ⟨q, 0, none⟩ = some (.pointer (some ⟨g, 0, none⟩)) := cell_row h 0
theorem RBk.c1 {w : World} {q g y f : Nat} (h : RBk w q g y f) : w.cell? ⟨q, 1, none⟩ = some (.int .i64 y) := cell_row h 1
theorem RBk.c2 {w : World} {q g y f : Nat} (h : RBk w q g y f) : w.cell? ⟨q, 2, none⟩ = some (.int .i64 f) := cell_row h 2
theorem RBk.fz {w : World} {q g y f : Nat} (h : RBk w q g y f) (j : Nat) : w.frozen? ⟨q, j, none⟩ = false := by
  unfold RBk at h
  simp [World.frozen?, h]
theorem RBk.kept {w w' : World} {q g y f : Nat} (h : RBk w q g y f) (hb : Below w.heap.size w w') : RBk w' q g y f := by
  unfold RBk
  rw [hb.block q h.lt]
  exact h
theorem RBk.but {w w' : World} {q g y f r : Nat} (h : RBk w q g y f) (hg : w.grownBy w' (some r)) (hr : q ≠ r) : RBk w' q g y f := by
  unfold RBk
  rw [hg.block q h.lt (fun e => hr (Option.some.inj e))]
  exact h
theorem RBk.fails {w : World} {q g y f : Nat} (h : RBk w q g y f) (y' f' : Nat) : RBk ((w.setCell ⟨q, 1, none⟩ (.int .i64 y')).setCell ⟨q, 2, none⟩ (.int .i64 f')) q g y' f' := by
  unfold RBk at *
  rw [heap_setCell_same _ q 2 _ 50 _ (heap_setCell_same _ q 1 _ 50 _ h)]
  rfl

/-- A READER: fine at a place, or with a fault, its own or its cursor's. -/
def Rd (w : World) (base q g : Nat) (a : Option Addr) (n : Nat) (zs : List Int) (s : St) : Prop :=
  (q ≠ g ∧ base ≤ q ∧ ∀ x, a = some x → x.block ≠ q) ∧
  ((s.1 = 0 ∧ s.2.1 = 0 ∧ RBk w q g 0 0 ∧ Cur w base g a n zs s.2.2 0 0) ∨ (s.1 ≠ 0 ∧ RBk w q g 0 0 ∧ ∃ p, Cur w base g a n zs p s.1 s.2.1) ∨ (s.1 ≠ 0 ∧ RBk w q g s.1 s.2.1 ∧ ∃ p y f, Cur w base g a n zs p y f))

theorem Rd.kept {w w' : World} {base q g : Nat} {a : Option Addr} {n : Nat} {zs : List Int} {s : St} (h : Rd w base q g a n zs s) (hb : Below w.heap.size w w') : Rd w' base q g a n zs s := by
  obtain ⟨h0, ⟨h1, h2, h3, h4⟩ | ⟨h1, h2, p, h3⟩ | ⟨h1, h2, p, y, f, h3⟩⟩ := h
  · exact ⟨h0, .inl ⟨h1, h2, h3.kept hb, h4.kept hb⟩⟩
  · exact ⟨h0, .inr (.inl ⟨h1, h2.kept hb, p, h3.kept hb⟩)⟩
  · exact ⟨h0, .inr (.inr ⟨h1, h2.kept hb, p, y, f, h3.kept hb⟩)⟩
theorem Rd.blk {w : World} {base q g : Nat} {a : Option Addr} {n : Nat} {zs : List Int} {s : St} (h : Rd w base q g a n zs s) : ∃ y f, RBk w q g y f := by
  obtain ⟨h0, ⟨h1, h2, h3, h4⟩ | ⟨h1, h2, p, h3⟩ | ⟨h1, h2, p, y, f, h3⟩⟩ := h
  · exact ⟨_, _, h3⟩
  · exact ⟨_, _, h2⟩
  · exact ⟨_, _, h2⟩
theorem Rd.cur {w : World} {base q g : Nat} {a : Option Addr} {n : Nat} {zs : List Int} {s : St} (h : Rd w base q g a n zs s) : ∃ p y f, Cur w base g a n zs p y f ∧ (s.1 = 0 → p = s.2.2 ∧ y = 0 ∧ f = 0) := by
  obtain ⟨h0, ⟨h1, h2, h3, h4⟩ | ⟨h1, h2, p, h3⟩ | ⟨h1, h2, p, y, f, h3⟩⟩ := h
  · exact ⟨_, _, _, h4, fun _ => ⟨rfl, rfl, rfl⟩⟩
  · exact ⟨_, _, _, h3, fun h => absurd h h1⟩
  · exact ⟨_, _, _, h3, fun h => absurd h h1⟩
theorem Rd.zs {w : World} {base q g : Nat} {a : Option Addr} {n : Nat} {zs : List Int} {s : St} (h : Rd w base q g a n zs s) : (∀ c ∈ zs, 0 ≤ c ∧ c < 256) ∧ zs.length = n ∧ n ≤ 140737488355328 := by
  obtain ⟨p, y, f, h, _⟩ := h.cur
  exact ⟨h.2.1.1, h.2.2.1, h.2.2.2.2.1⟩
theorem Rd.places {w : World} {base q g : Nat} {a : Option Addr} {n : Nat} {zs : List Int} {s : St} (h : Rd w base q g a n zs s) : base ≤ q ∧ base ≤ g ∧ q < w.heap.size ∧ g < w.heap.size ∧ q ≠ g := by
  obtain ⟨p, y, f, h1, _⟩ := h.cur
  obtain ⟨y, f, h2⟩ := h.blk
  exact ⟨h.1.2.1, h1.2.2.2.2.2.1, h2.lt, h1.1.lt, h.1.1⟩

/-- A short number, whatever it is. -/
theorem short_rd {base q g n : Nat} {a : Option Addr} {zs : List Int} {s : St} {w : World} (h : Rd w base q g a n zs s) :
    Calls Tryd.prog 47 #[.pointer (some ⟨g, 0, none⟩)] w fun e w' => ∃ v : Nat, e = .returned (.int .u64 (v : Nat)) ∧ v < 18446744073709551616 ∧ Hid (s.1 = 0 → v = (wordS zs s).1) ∧ Hid (Rd w' base q g a n zs (wordS zs s).2) ∧ Hid (K2 q g w w') := by
  have hz := h.zs
  obtain ⟨h0, ⟨h1, h2, h3, h4⟩ | ⟨h1, h2, p, h3⟩ | ⟨h1, h2, p, y, f, h3⟩⟩ := h
  · obtain ⟨s1, s2, s3⟩ := s
    obtain rfl : s1 = 0 := h1
    obtain rfl : s2 = 0 := h2
    have h4' : Cur w base g a n zs s3 0 0 := h4
    refine (short_go base g s3 0 n a zs w h4').mono ?_
    rintro e w' ⟨rfl, hc, hg⟩
    have hzd : ∀ c ∈ zs.drop s3, 0 ≤ c ∧ c < 256 := fun c hc => hz.1 c (List.mem_of_mem_drop hc)
    have hlt := rdS_lt (zs.drop s3) 0 0 hzd (by omega) (by simp)
    have hb := h3.but hg h0.1
    have hK : K2 q g w w' := K2.of_g hg
    unfold sS at hc ⊢
    unfold wordS numS
    simp only [ne_eq, not_true_eq_false, if_false] at hc ⊢
    rcases hr : rdS (zs.drop s3) 0 0 with ⟨r1, m, k⟩
    rw [hr] at hc hlt
    simp only at hc hlt ⊢
    by_cases e1 : r1 = 0
    · rw [if_pos e1] at hc
      rw [if_pos e1, if_pos e1, if_neg (by omega)]
      exact ⟨m, rfl, hlt, fun _ => rfl, ⟨h0, .inl ⟨rfl, rfl, hb, hc⟩⟩, hK⟩
    · rw [if_neg e1] at hc
      rw [if_neg e1, if_neg e1]
      by_cases e3 : r1 = 3
      · rw [if_pos e3] at hc
        rw [if_pos e3, if_pos e3]
        exact ⟨0, rfl, by decide, fun _ => rfl, ⟨h0, .inr (.inl ⟨by simp, hb, _, hc⟩)⟩, hK⟩
      · rw [if_neg e3] at hc
        rw [if_neg e3, if_neg e3]
        exact ⟨0, rfl, by decide, fun _ => rfl, ⟨h0, .inr (.inl ⟨by simp, hb, _, hc⟩)⟩, hK⟩
  · have hw : wordS zs s = (0, s) := numS_bad _ _ _ _ _ h1
    refine (short_stop base g p s.1 s.2.1 n a zs w h3 h1).mono ?_
    rintro e w' ⟨rfl, hc, hg⟩
    rw [hw]
    exact ⟨0, rfl, by decide, fun h => absurd h h1, ⟨h0, .inr (.inl ⟨h1, h2.but hg h0.1, p, hc⟩)⟩, K2.of_g hg⟩
  · have hw : wordS zs s = (0, s) := numS_bad _ _ _ _ _ h1
    by_cases hy : y = 0
    · subst hy
      refine (short_go base g p f n a zs w h3).mono ?_
      rintro e w' ⟨rfl, hc, hg⟩
      have hlt : (sS zs p 0 f).1 < 18446744073709551616 := by
        have hzd : ∀ c ∈ zs.drop p, 0 ≤ c ∧ c < 256 := fun c hc => hz.1 c (List.mem_of_mem_drop hc)
        have := rdS_lt (zs.drop p) 0 0 hzd (by omega) (by simp)
        unfold sS
        simp only [ne_eq, not_true_eq_false, if_false]
        split
        · exact this
        · split <;> simp
      rw [hw]
      exact ⟨_, rfl, hlt, fun h => absurd h h1, ⟨h0, .inr (.inr ⟨h1, h2.but hg h0.1, _, _, _, hc⟩)⟩, K2.of_g hg⟩
    · refine (short_stop base g p y f n a zs w h3 hy).mono ?_
      rintro e w' ⟨rfl, hc, hg⟩
      rw [hw]
      exact ⟨0, rfl, by decide, fun h => absurd h h1, ⟨h0, .inr (.inr ⟨h1, h2.but hg h0.1, p, y, f, hc⟩)⟩, K2.of_g hg⟩

set_option maxHeartbeats 1000000 in
/-- The reader's fault. -/
theorem rfault_any {base q g n : Nat} {a : Option Addr} {zs : List Int} {s : St} {w : World} (h : Rd w base q g a n zs s) :
    Calls Tryd.prog 26 #[.pointer (some ⟨q, 0, none⟩)] w fun e w' => (∃ f : Nat, e = .returned (.agg #[.int .i64 (s.1 : Nat), .int .i64 (f : Nat)]) ∧ (s.1 ≠ 0 → f = s.2.1)) ∧ Below w.heap.size w w' := by
  have hfd := field_y
  have hal : Below w.heap.size w (w.alloc (.cells #[.int .i64 0, .int .i64 0] 33)) := (Below.refl _ _).alloc (Nat.le_refl _) _
  have key : ∀ {y f : Nat} {w1 : World}, Below (w.alloc (.cells #[.int .i64 0, .int .i64 0] 33)).heap.size (w.alloc (.cells #[.int .i64 0, .int .i64 0] 33)) w1 → Hid (Blk w1 w.heap.size #[.int .i64 0, .int .i64 0] 33) ∧ Hid (Below w.heap.size w w1) := fun hb => ⟨(hb.block _ (by simp)).trans (heap_alloc_new w _), hal.trans (hb.mono (by simp))⟩
  obtain ⟨h0, ⟨h1, h2, h3, h4⟩ | ⟨h1, h2, p, h3⟩ | ⟨h1, h2, p, y, f, h3⟩⟩ := h
  · obtain ⟨s1, s2, s3⟩ := s
    obtain rfl : s1 = 0 := h1
    have c0 := (h3.kept hal).c0
    have c1 := (h3.kept hal).c1
    have c2 := (h3.kept hal).c2
    have k := fault_any _ _ _ _ _ _ (h4.1.kept hal)
    clear h4 h3 h0
    go_enter Tryd.func26, Tryd.ntmps26
    go_wp2_with fail
    refine k.mono ?_
    rintro e w1 ⟨rfl, hb⟩
    obtain ⟨hK, hB⟩ := key (y := 0) (f := 0) hb
    have d0 := hK.out.cell 0
    have d1 := hK.out.cell 1
    have z0 := hK.out.fz 0
    have z1 := hK.out.fz 1
    clear hb key c0 c1 c2 k
    go_wp2
    have K2 := hK.out.set 0 (.int .i64 0)
    have K3 := K2.set 1 (.int .i64 0)
    have e0 := K2.cell 0
    have e1 := K3.cell 1
    simp at e0 e1
    refine bodyPost_ret (v := .agg #[.int .i64 0, .int .i64 0]) (by simp [results, Tryd.results26, go_sem, e0, e1]) rfl ⟨⟨_, rfl, fun h => absurd rfl h⟩, (hB.out.setCell (Nat.le_refl _) _).setCell (Nat.le_refl _) _⟩
  · have c0 := (h2.kept hal).c0
    have c1 := (h2.kept hal).c1
    have c2 := (h2.kept hal).c2
    have k := fault_any _ _ _ _ _ _ (h3.1.kept hal)
    clear h3 h2 h0
    go_enter Tryd.func26, Tryd.ntmps26
    go_wp2_with fail
    refine k.mono ?_
    rintro e w1 ⟨rfl, hb⟩
    obtain ⟨hK, hB⟩ := key (y := 0) (f := 0) hb
    have d0 := hK.out.cell 0
    have d1 := hK.out.cell 1
    have z0 := hK.out.fz 0
    have z1 := hK.out.fz 1
    clear hb key c0 c1 c2 k
    go_wp2
    have K2 := hK.out.set 0 (.int .i64 (s.1 : Nat))
    have K3 := K2.set 1 (.int .i64 (s.2.1 : Nat))
    have e0 := K2.cell 0
    have e1 := K3.cell 1
    simp at e0 e1
    refine bodyPost_ret (v := .agg #[.int .i64 (s.1 : Nat), .int .i64 (s.2.1 : Nat)]) (by simp [results, Tryd.results26, go_sem, e0, e1]) rfl ⟨⟨_, rfl, fun _ => rfl⟩, (hB.out.setCell (Nat.le_refl _) _).setCell (Nat.le_refl _) _⟩
  · have c0 := (h2.kept hal).c0
    have c1 := (h2.kept hal).c1
    have c2 := (h2.kept hal).c2
    have hy : (((s.1 : Nat) : Int) != 0) = true := by rw [bne_iff_ne]; omega
    have hlt : q < w.heap.size := h2.lt
    obtain ⟨hK, hB⟩ := key (y := 0) (f := 0) (Below.refl _ _)
    have d0 := hK.out.cell 0
    have d1 := hK.out.cell 1
    have z0 := hK.out.fz 0
    have z1 := hK.out.fz 1
    clear h3 h0 key h2
    go_enter Tryd.func26, Tryd.ntmps26
    go_wp2
    refine bodyPost_ret (v := .agg #[.int .i64 (s.1 : Nat), .int .i64 (s.2.1 : Nat)]) (by simp [results, Tryd.results26, go_sem]) rfl ⟨⟨_, rfl, fun _ => rfl⟩, (Below.refl _ _).alloc (Nat.le_refl _) _⟩

set_option maxHeartbeats 1000000 in
theorem rat_any {base q g n : Nat} {a : Option Addr} {zs : List Int} {s : St} {w : World} (h : Rd w base q g a n zs s) :
    Calls Tryd.prog 38 #[.pointer (some ⟨g, 0, none⟩)] w fun e w' => (∃ p : Nat, e = .returned (.int .i64 (p : Nat)) ∧ p ≤ 140737488355328 ∧ (s.1 = 0 → p = s.2.2)) ∧ w' = w := by
  obtain ⟨p, y, f, h1, h2⟩ := h.cur
  refine (at_any g p y f _ w h1.1).mono ?_
  rintro e w' ⟨rfl, rfl⟩
  have := h1.2.2.2.1
  have := h1.2.2.2.2.1
  exact ⟨⟨p, rfl, by omega, fun h => (h2 h).1⟩, rfl⟩

/-- A number of the reader's own bounds. -/
theorem numS_word (zs : List Int) (s : St) (lo hi why : Nat) (h0 : s.1 = 0) (hz : ∀ c ∈ zs, 0 ≤ c ∧ c < 256) : numS zs s lo hi why = if (wordS zs s).2.1 ≠ 0 then (0, (wordS zs s).2) else if (wordS zs s).1 < lo ∨ hi < (wordS zs s).1 then (0, (why, s.2.2, 0)) else wordS zs s := by
  have hzd : ∀ c ∈ zs.drop s.2.2, 0 ≤ c ∧ c < 256 := fun c hc => hz c (List.mem_of_mem_drop hc)
  have hlt := rdS_lt (zs.drop s.2.2) 0 0 hzd (by omega) (by simp)
  unfold wordS numS
  rcases hr : rdS (zs.drop s.2.2) 0 0 with ⟨r1, m, k⟩
  rw [hr] at hlt
  simp only [h0, ne_eq, not_true_eq_false, if_false] at hlt ⊢
  by_cases h1 : r1 = 0
  · have h9 : ¬ (m < 0 ∨ 18446744073709551615 < m) := by omega
    simp only [if_pos h1, if_neg h9, not_true_eq_false, if_false]
  · by_cases h3 : r1 = 3
    · simp [h3]
    · simp [h1, h3]

/-- The reader's own fault is laid. -/
theorem Rd.fails {w : World} {base q g : Nat} {a : Option Addr} {n : Nat} {zs : List Int} {s : St} (h : Rd w base q g a n zs s) (y f : Nat) (hy : y ≠ 0) : Rd ((w.setCell ⟨q, 1, none⟩ (.int .i64 (y : Nat))).setCell ⟨q, 2, none⟩ (.int .i64 (f : Nat))) base q g a n zs (y, f, 0) ∧ K2 q g w ((w.setCell ⟨q, 1, none⟩ (.int .i64 (y : Nat))).setCell ⟨q, 2, none⟩ (.int .i64 (f : Nat))) := by
  obtain ⟨p, y0, f0, hc, _⟩ := h.cur
  obtain ⟨y1, f1, hb⟩ := h.blk
  have hg := but_setCell (but_setCell (World.grownBy.refl w (some q)) 1 (.int .i64 (y : Nat))) 2 (.int .i64 (f : Nat))
  exact ⟨⟨h.1, .inr (.inr ⟨hy, hb.fails y f, p, y0, f0, hc.other hg h.1.1 h.1.2.2⟩)⟩, K2.of_q hg⟩

set_option maxHeartbeats 4000000 in
theorem number_any {base q g n : Nat} {a : Option Addr} {zs : List Int} {s : St} {w : World} (lo hi why : Nat) (hhi : hi ≤ 4095) (hlo : lo ≤ hi) (hwhy : why ≠ 0) (h : Rd w base q g a n zs s) :
    Calls Tryd.prog 35 #[.pointer (some ⟨q, 0, none⟩), .int .u64 (lo : Nat), .int .u64 (hi : Nat), .int .i64 (why : Nat)] w fun e w' => e = .returned (.int .i64 ((numS zs s lo hi why).1 : Nat)) ∧ Hid (Rd w' base q g a n zs (numS zs s lo hi why).2) ∧ Hid (K2 q g w w') := by
  obtain ⟨y0, f0, hb0⟩ := h.blk
  have c0 := hb0.c0
  have hz := h.zs
  have k1 := rat_any h
  have hR : Hid (Rd w base q g a n zs s) := h
  have hfd := field_y
  obtain ⟨R, hRR⟩ : ∃ R, Hid (numS zs s lo hi why = R) := ⟨_, rfl⟩
  rw [hRR.out]
  clear h hb0
  go_enter Tryd.func35, Tryd.ntmps35
  go_wp2_with fail
  refine k1.mono ?_
  rintro e w1 ⟨⟨p, rfl, hp, hps⟩, hw1⟩
  obtain rfl := hw1.symm
  clear k1
  go_wp2_with fail
  refine (short_rd hR.out).mono ?_
  rintro e w2 ⟨v, rfl, hv, hv0, hR2, hK2⟩
  obtain ⟨y2, f2, hb2⟩ := hR2.out.blk
  have k3 := rfault_any hR2.out
  have d0 := hb2.c0
  clear hb2
  go_wp2_with fail
  refine k3.mono ?_
  rintro e w3 ⟨⟨f, rfl, hf⟩, hb3⟩
  clear k3 d0
  have hR3 : Hid (Rd w3 base q g a n zs (wordS zs s).2) := hR2.out.kept hb3
  have hK3 : Hid (K2 q g w w3) := hK2.out.trans (K2.of_below hb3)
  clear hb3 hR2 hK2 hf
  by_cases h2 : (wordS zs s).2.1 = 0
  · have h0 : s.1 = 0 := by
      by_cases h0 : s.1 = 0
      · exact h0
      · rw [show wordS zs s = (0, s) from numS_bad _ _ _ _ _ h0] at h2
        exact absurd h2 h0
    have hv1 := hv0.out h0
    have hN : Hid (numS zs s lo hi why = if (wordS zs s).1 < lo ∨ hi < (wordS zs s).1 then (0, (why, s.2.2, 0)) else wordS zs s) := by
      show _ = _
      rw [numS_word zs s lo hi why h0 hz.1, if_neg (by omega)]
    rw [← hv1] at hN
    have hps' := hps h0
    rw [h2]
    clear hv0 hps hz
    by_cases hx : v < lo ∨ hi < v
    · have hN' := hN.out
      rw [if_pos hx] at hN'
      have hE : Hid (R = (0, (why, s.2.2, 0))) := hRR.out.symm.trans hN'
      obtain ⟨y3, f3, hb3⟩ := hR3.out.blk
      have d1 := hb3.c1
      have d2 := hb3.c2
      have z1 := hb3.fz 1
      have z2 := hb3.fz 2
      obtain ⟨hR4, hK4⟩ := hR3.out.fails why p hwhy
      have hR4' : Hid (Rd _ base q g a n zs (why, p, 0)) := hR4
      have hK4' : Hid (K2 q g w3 _) := hK4
      rw [hps'] at hR4' hK4'
      clear hR4 hK4 hb3 hN hN' h2 h0 hv1
      subst hps'
      by_cases hx1 : v < lo
      · have hd1 : decide ((v : Int) < (lo : Int)) = true := by simp; omega
        clear hx
        go_wp2
        go_ret
        rw [hE.out]
        exact ⟨rfl, hR4', hK3.out.trans hK4'.out⟩
      · have hd1 : decide ((v : Int) < (lo : Int)) = false := by simp; omega
        have hd2 : decide ((hi : Int) < (v : Int)) = true := by simp; omega
        have hx2 : hi < v := by omega
        clear hx
        go_wp2
        go_ret
        rw [hE.out]
        exact ⟨rfl, hR4', hK3.out.trans hK4'.out⟩
    · have hN' := hN.out
      rw [if_neg hx] at hN'
      have hE : Hid (R = wordS zs s) := hRR.out.symm.trans hN'
      have hE1 : Hid (v = (wordS zs s).1) := hv1
      have hd1 : decide ((v : Int) < (lo : Int)) = false := by simp; omega
      have hd2 : decide ((hi : Int) < (v : Int)) = false := by simp; omega
      have hwr : IntKind.i64.wrap (v : Int) = (v : Int) := by rw [IntKind.wrap_i64]; omega
      have hx1 : ¬ v < lo := by omega
      have hx2 : ¬ hi < v := by omega
      clear hN hN' hx h2 h0 hv1 hps'
      go_wp2
      go_ret
      rw [hE.out, ← hE1.out]
      exact ⟨rfl, hR3, hK3⟩
  · have hN : numS zs s lo hi why = (0, (wordS zs s).2) := by
      by_cases h0 : s.1 = 0
      · rw [numS_word zs s lo hi why h0 hz.1, if_pos h2]
      · rw [show wordS zs s = (0, s) from numS_bad _ _ _ _ _ h0, numS_bad _ _ _ _ _ h0]
    have hE : Hid (R = (0, (wordS zs s).2)) := hRR.out.symm.trans hN
    have hy : ((((wordS zs s).2.1 : Nat) : Int) != 0) = true := by rw [bne_iff_ne]; omega
    clear hN h2 hv0 hps hz
    go_wp2
    go_ret
    rw [hE.out]
    exact ⟨rfl, hR3, hK3⟩
end Go.Proofs.YtgfnohgpmmaocaaDoor
