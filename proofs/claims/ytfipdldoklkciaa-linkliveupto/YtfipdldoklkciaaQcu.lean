/-
  A cursor in memory: its five cells, and the calls that only look at it.
-/
import Derived.Test.YtfipdldoklkciaaSame
import Derived.Deep.QuietTactic
import Derived.BigQuiet
namespace Go.Proofs.Ytfipdldoklkciaa
open Go.RowKit

/-- A CURSOR THAT WAS MADE, IN BLOCK g: its bytes v, its place p, its fault (y, f). -/
def CurAt (w : World) (g : Nat) (v : Value) (p y f : Nat) : Prop :=
  w.heap[g]? = some (.cells #[.bool true, v, .int .i64 p, .int .i64 y, .int .i64 f] 129 (0, 0))

theorem CurAt.lt {w : World} {g : Nat} {v : Value} {p y f : Nat} (h : CurAt w g v p y f) : g < w.heap.size := (Array.getElem?_eq_some_iff.1 h).1
theorem CurAt.c0 {w : World} {g : Nat} {v : Value} {p y f : Nat} (h : CurAt w g v p y f) : w.cell? ⟨g, 0, none⟩ = some (.bool true) := cell_row h 0
theorem CurAt.c1 {w : World} {g : Nat} {v : Value} {p y f : Nat} (h : CurAt w g v p y f) : w.cell? ⟨g, 1, none⟩ = some v := cell_row h 1
theorem CurAt.c2 {w : World} {g : Nat} {v : Value} {p y f : Nat} (h : CurAt w g v p y f) : w.cell? ⟨g, 2, none⟩ = some (.int .i64 p) := cell_row h 2
theorem CurAt.c3 {w : World} {g : Nat} {v : Value} {p y f : Nat} (h : CurAt w g v p y f) : w.cell? ⟨g, 3, none⟩ = some (.int .i64 y) := cell_row h 3
theorem CurAt.c4 {w : World} {g : Nat} {v : Value} {p y f : Nat} (h : CurAt w g v p y f) : w.cell? ⟨g, 4, none⟩ = some (.int .i64 f) := cell_row h 4

theorem CurAt.kept {w w' : World} {g : Nat} {v : Value} {p y f : Nat} (h : CurAt w g v p y f) (hb : Below w.heap.size w w') : CurAt w' g v p y f := by
  unfold CurAt
  rw [hb.block g h.lt]
  exact h

set_option maxHeartbeats 400000 in
theorem left_any (g p y f n cap : Nat) (a : Option Addr) (w : World) (h : CurAt w g (.slice a n cap) p y f) (hp : p ≤ n) (hn : n ≤ 9223372036854775807) :
    Calls Try.prog 47 #[.pointer (some ⟨g, 0, none⟩)] w fun e w' => e = .returned (.int .i64 ((n - p : Nat) : Int)) ∧ ∃ k, w' = w.drewN k := by
  have h1 := h.c1
  have h2 := h.c2
  have hs : ((n : Int) - (p : Int)) = ((n - p : Nat) : Int) := by omega
  go_enter Try.func47, Try.ntmps47
  go_wp2
  go_quiet (fail)
  go_wp2
  go_ret
  exact ⟨by rw [← hs]; rfl, nq, rfl⟩

theorem CurAt.alloc {w : World} {g : Nat} {v : Value} {p y f : Nat} (h : CurAt w g v p y f) (o : Obj) : CurAt (w.alloc o) g v p y f := h.kept ((Below.refl _ _).alloc (Nat.le_refl _) o)

set_option maxHeartbeats 400000 in
theorem fault_any (g p y f : Nat) (v : Value) (w : World) (h : CurAt w g v p y f) :
    Calls Try.prog 48 #[.pointer (some ⟨g, 0, none⟩)] w fun e w' => e = .returned (.agg #[.int .i64 y, .int .i64 f]) ∧ Below w.heap.size w w' := by
  have h0 := fun o => (h.alloc o).c0
  have h3 := fun o => (h.alloc o).c3
  have h4 := fun o => (h.alloc o).c4
  have hlt : g < w.heap.size := h.lt
  go_enter Try.func48, Try.ntmps48
  go_wp2
  refine bodyPost_ret (v := .agg #[.int .i64 y, .int .i64 f]) (by simp [results, Try.results48, go_sem]) rfl ⟨rfl, ?_⟩
  exact (Below.refl _ _).alloc (Nat.le_refl _) _

theorem Below.but {w w' : World} (h : Below w.heap.size w w') (row : Option Nat) : w.grownBy w' row := ⟨h.os, h.tape, h.output, h.size, fun k hk _ => h.block k hk⟩

theorem CurAt.fz {w : World} {g : Nat} {v : Value} {p y f : Nat} (h : CurAt w g v p y f) (j : Nat) : w.frozen? ⟨g, j, none⟩ = false := by
  unfold CurAt at h
  simp [World.frozen?, h]

theorem but_setCell {w w' : World} {g : Nat} (h : w.grownBy w' (some g)) (j : Nat) (u : Value) : w.grownBy (w'.setCell ⟨g, j, none⟩ u) (some g) :=
  ⟨h.os, h.tape, h.output, by simpa [World.setCell] using h.size, fun k hk hne => by
    rw [Below.heap_setCell _ _ _ _ (fun e => hne (by rw [e]))]
    exact h.block k hk hne⟩

theorem but_drewN {w w' : World} {row : Option Nat} (h : w.grownBy w' row) (k : Nat) : w.grownBy (w'.drewN k) row := ⟨h.os, h.tape, h.output, h.size, h.block⟩

/-- A fault is laid. -/
theorem CurAt.fails {w : World} {g : Nat} {v : Value} {p y f : Nat} (h : CurAt w g v p y f) (y' f' : Nat) : CurAt ((w.setCell ⟨g, 3, none⟩ (.int .i64 y')).setCell ⟨g, 4, none⟩ (.int .i64 f')) g v p y' f' := by
  unfold CurAt at *
  rw [heap_setCell_same _ g 4 _ 129 _ (heap_setCell_same _ g 3 _ 129 _ h)]
  rfl

theorem field_y (y f : Int) (w : World) : (Instr.field 94 (.agg #[.int .i64 y, .int .i64 f]) 0).run Try.prog w = .ok (.int .i64 y) w := by kernel_rfl

set_option maxHeartbeats 400000 in
theorem canRead_stop (g p y f : Nat) (v : Value) (n : Int) (m : Bool) (w : World) (h : CurAt w g v p y f) (hy : y ≠ 0) :
    Calls Try.prog 84 #[.pointer (some ⟨g, 0, none⟩), .int .i64 n, .bool m] w fun e w' => e = .returned (.bool false) ∧ Below w.heap.size w w' := by
  have hy' : ((y : Int) != 0) = true := by rw [bne_iff_ne]; omega
  have hfd := field_y
  go_enter Try.func84, Try.ntmps84
  go_wp2_with fail
  refine (fault_any _ _ _ _ _ _ h).mono ?_
  rintro e w1 ⟨rfl, hb⟩
  go_wp2
  go_ret
  exact ⟨rfl, hb⟩

set_option maxHeartbeats 400000 in
theorem canRead_arg (g p f : Nat) (v : Value) (n : Int) (w : World) (h : CurAt w g v p 0 f) :
    Calls Try.prog 84 #[.pointer (some ⟨g, 0, none⟩), .int .i64 n, .bool false] w fun e w' => e = .returned (.bool false) ∧ CurAt w' g v p 1 p ∧ w.grownBy w' (some g) := by
  have hfd := field_y
  go_enter Try.func84, Try.ntmps84
  go_wp2_with fail
  refine (fault_any _ _ _ _ _ _ h).mono ?_
  rintro e w1 ⟨rfl, hb⟩
  have h1 := h.kept hb
  have c2 := h1.c2
  have c3 := h1.c3
  have c4 := h1.c4
  have z3 := h1.fz 3
  have z4 := h1.fz 4
  go_wp2
  go_ret
  exact ⟨rfl, h1.fails 1 p, but_setCell (but_setCell (Below.but hb _) 3 _) 4 _⟩

theorem left_b (g p y f n cap : Nat) (a : Option Addr) (w : World) (h : CurAt w g (.slice a n cap) p y f) (hp : p ≤ n) (hn : n ≤ 9223372036854775807) :
    Calls Try.prog 47 #[.pointer (some ⟨g, 0, none⟩)] w fun e w' => e = .returned (.int .i64 ((n - p : Nat) : Int)) ∧ Below w.heap.size w w' := by
  refine (left_any g p y f n cap a w h hp hn).mono ?_
  rintro e w' ⟨rfl, k, rfl⟩
  exact ⟨rfl, below_drewN (Below.refl _ _) k⟩

theorem trans_kept {a b c : World} (h : Below a.heap.size a b) (k : Below b.heap.size b c) : Below a.heap.size a c := h.trans (k.mono h.size)

set_option maxHeartbeats 400000 in
theorem canRead_end (g p f n cap : Nat) (a : Option Addr) (k : Int) (w : World) (h : CurAt w g (.slice a n cap) p 0 f) (hp : p ≤ n) (hn : n ≤ 9223372036854775807) (hk : ((n - p : Nat) : Int) < k) :
    Calls Try.prog 84 #[.pointer (some ⟨g, 0, none⟩), .int .i64 k, .bool true] w fun e w' => e = .returned (.bool false) ∧ CurAt w' g (.slice a n cap) p 3 n ∧ w.grownBy w' (some g) := by
  have hfd := field_y
  have hd : decide (((n - p : Nat) : Int) < k) = true := by simpa using hk
  go_enter Try.func84, Try.ntmps84
  go_wp2_with fail
  refine (fault_any _ _ _ _ _ _ h).mono ?_
  rintro e w1 ⟨rfl, hb⟩
  go_wp2_with fail
  refine (left_b _ _ _ _ _ _ _ _ (h.kept hb) hp hn).mono ?_
  rintro e w2 ⟨rfl, hb2⟩
  have h1 := (h.kept hb).kept hb2
  have c1 := h1.c1
  have c2 := h1.c2
  have c3 := h1.c3
  have c4 := h1.c4
  have z3 := h1.fz 3
  have z4 := h1.fz 4
  go_wp2
  go_ret
  exact ⟨rfl, h1.fails 3 n, but_setCell (but_setCell (Below.but (trans_kept hb hb2) _) 3 _) 4 _⟩

set_option maxHeartbeats 400000 in
theorem canRead_ok (g p f n cap : Nat) (a : Option Addr) (k : Int) (w : World) (h : CurAt w g (.slice a n cap) p 0 f) (hp : p ≤ n) (hn : n ≤ 9223372036854775807) (hk : k ≤ ((n - p : Nat) : Int)) :
    Calls Try.prog 84 #[.pointer (some ⟨g, 0, none⟩), .int .i64 k, .bool true] w fun e w' => e = .returned (.bool true) ∧ Below w.heap.size w w' := by
  have hfd := field_y
  have hd : decide (((n - p : Nat) : Int) < k) = false := by simpa using hk
  go_enter Try.func84, Try.ntmps84
  go_wp2_with fail
  refine (fault_any _ _ _ _ _ _ h).mono ?_
  rintro e w1 ⟨rfl, hb⟩
  go_wp2_with fail
  refine (left_b _ _ _ _ _ _ _ _ (h.kept hb) hp hn).mono ?_
  rintro e w2 ⟨rfl, hb2⟩
  go_wp2
  go_ret
  exact ⟨rfl, trans_kept hb hb2⟩

/-- The place goes on. -/
theorem CurAt.goes {w : World} {g : Nat} {v : Value} {p y f : Nat} (h : CurAt w g v p y f) (p' : Nat) : CurAt (w.setCell ⟨g, 2, none⟩ (.int .i64 p')) g v p' y f := by
  unfold CurAt at *
  rw [heap_setCell_same _ g 2 _ 129 _ h]
  rfl

set_option maxHeartbeats 400000 in
theorem pass_none (g y f : Nat) (w : World) (h : CurAt w g (.slice none 0 0) 0 y f) :
    Calls Try.prog 86 #[.pointer (some ⟨g, 0, none⟩), .int .i64 0] w fun e w' => e = .returned (.slice none 0 0) ∧ CurAt w' g (.slice none 0 0) 0 y f ∧ w.grownBy w' (some g) := by
  have c1 := h.c1
  have c2 := h.c2
  have z2 := h.fz 2
  go_enter Try.func86, Try.ntmps86
  go_wp2
  go_quiet (fail)
  go_wp2
  go_ret
  exact ⟨rfl, h.goes 0, but_drewN (but_setCell (World.grownBy.refl _ _) 2 _) nq⟩

set_option maxHeartbeats 400000 in
theorem pass_mid (g p y f n cap k b off : Nat) (w : World) (h : CurAt w g (.slice (some ⟨b, off, none⟩) n cap) p y f) (hp : p < cap) (hk : p + k ≤ n) (hc : n ≤ cap) (hm : cap ≤ 9223372036854775807) :
    Calls Try.prog 86 #[.pointer (some ⟨g, 0, none⟩), .int .i64 k] w fun e w' => e = .returned (.slice (some ⟨b, off + p, none⟩) k (cap - p)) ∧ CurAt w' g (.slice (some ⟨b, off, none⟩) n cap) (p + k) y f ∧ w.grownBy w' (some g) := by
  have c1 := h.c1
  have c2 := h.c2
  have z2 := h.fz 2
  have e1 : (cap = p) = False := by simp; omega
  have e2 : p + k - p = k := by omega
  have e3 : (p : Int) + (k : Int) ≤ (cap : Int) := by omega
  go_enter Try.func86, Try.ntmps86
  go_wp2
  go_quiet (fail)
  go_wp2
  go_ret
  exact ⟨by rw [e2]; rfl, h.goes (p + k), but_drewN (but_setCell (World.grownBy.refl _ _) 2 _) nq⟩

set_option maxHeartbeats 400000 in
theorem pass_end (g y f n b off : Nat) (w : World) (h : CurAt w g (.slice (some ⟨b, off, none⟩) n n) n y f) (hm : n ≤ 9223372036854775807) :
    Calls Try.prog 86 #[.pointer (some ⟨g, 0, none⟩), .int .i64 0] w fun e w' => e = .returned (.slice (some ⟨b, off, none⟩) 0 0) ∧ CurAt w' g (.slice (some ⟨b, off, none⟩) n n) n y f ∧ w.grownBy w' (some g) := by
  have c1 := h.c1
  have c2 := h.c2
  have z2 := h.fz 2
  go_enter Try.func86, Try.ntmps86
  go_wp2
  go_quiet (fail)
  go_wp2
  go_ret
  exact ⟨rfl, h.goes n, but_drewN (but_setCell (World.grownBy.refl _ _) 2 _) nq⟩

/-- THE WHOLE CURSOR: in block g, over the bytes 'zs' (at a, n of them, no room behind), at the place p, with the fault (y, f); all of it from 'base' on. -/
def Cur (w : World) (base g : Nat) (a : Option Addr) (n : Nat) (zs : List Int) (p y f : Nat) : Prop :=
  CurAt w g (.slice a n n) p y f ∧ Bytes w a zs ∧ zs.length = n ∧ p ≤ n ∧ n ≤ 140737488355328 ∧ base ≤ g ∧ (a = none → n = 0) ∧ (∀ x, a = some x → x.block ≠ g ∧ x.block < w.heap.size ∧ x.spot = none ∧ base ≤ x.block)

theorem Bytes.but {w w' : World} {g : Nat} {a : Option Addr} {zs : List Int} (h : Bytes w a zs) (hg : w.grownBy w' (some g)) (ha : ∀ x, a = some x → x.block ≠ g) : Bytes w' a zs := by
  refine ⟨h.1, h.2.1, ?_⟩
  rcases h.2.2 with h0 | ⟨b, off, rfl, hc⟩
  · exact .inl h0
  · refine .inr ⟨b, off, rfl, fun i hi => ?_⟩
    exact hg.cell (hc i hi) (fun e => ha _ rfl (Option.some.inj e))

theorem Cur.kept {w w' : World} {base g : Nat} {a : Option Addr} {n : Nat} {zs : List Int} {p y f : Nat} (h : Cur w base g a n zs p y f) (hb : Below w.heap.size w w') : Cur w' base g a n zs p y f := by
  obtain ⟨h1, h2, h3, h4, h5, h6, h7, h8⟩ := h
  exact ⟨h1.kept hb, h2.kept hb, h3, h4, h5, h6, h7, fun x hx => ⟨(h8 x hx).1, Nat.lt_of_lt_of_le (h8 x hx).2.1 hb.size, (h8 x hx).2.2⟩⟩

theorem Cur.turned {w w' : World} {base g : Nat} {a : Option Addr} {n : Nat} {zs : List Int} {p y f p' y' f' : Nat} (h : Cur w base g a n zs p y f) (hg : w.grownBy w' (some g)) (hc : CurAt w' g (.slice a n n) p' y' f') (hp : p' ≤ n) : Cur w' base g a n zs p' y' f' := by
  obtain ⟨h1, h2, h3, h4, h5, h6, h7, h8⟩ := h
  exact ⟨hc, h2.but hg (fun x hx => (h8 x hx).1), h3, hp, h5, h6, h7, fun x hx => ⟨(h8 x hx).1, Nat.lt_of_lt_of_le (h8 x hx).2.1 hg.size, (h8 x hx).2.2⟩⟩

/-- Another cursor, or bytes elsewhere, stay. -/
theorem Cur.other {w w' : World} {base g r : Nat} {a : Option Addr} {n : Nat} {zs : List Int} {p y f : Nat} (h : Cur w base g a n zs p y f) (hg : w.grownBy w' (some r)) (hr : r ≠ g) (ha : ∀ x, a = some x → x.block ≠ r) : Cur w' base g a n zs p y f := by
  obtain ⟨h1, h2, h3, h4, h5, h6, h7, h8⟩ := h
  refine ⟨?_, h2.but hg ha, h3, h4, h5, h6, h7, fun x hx => ⟨(h8 x hx).1, Nat.lt_of_lt_of_le (h8 x hx).2.1 hg.size, (h8 x hx).2.2⟩⟩
  unfold CurAt
  rw [hg.block g h1.lt (fun e => hr (Option.some.inj e).symm)]
  exact h1

theorem pass_any (base g p y f n k : Nat) (a : Option Addr) (zs : List Int) (w : World) (h : Cur w base g a n zs p y f) (hk : p + k ≤ n) :
    Calls Try.prog 86 #[.pointer (some ⟨g, 0, none⟩), .int .i64 k] w fun e w' => ∃ a' c', e = .returned (.slice a' k c') ∧ Hid (Bytes w' a' ((zs.drop p).take k)) ∧ Hid (((zs.drop p).take k).length = k) ∧ Hid (a' = none → c' = 0) ∧ Cur w' base g a n zs (p + k) y f ∧ w.grownBy w' (some g) := by
  obtain ⟨h1, h2, h3, h4, h5, h6, h7, h8⟩ := id h
  have hl : ((zs.drop p).take k).length = k := by rw [List.length_take, List.length_drop]; omega
  cases a with
  | none =>
    have hn := h7 rfl
    subst hn
    have hp0 : p = 0 := by omega
    have hk0 : k = 0 := by omega
    subst hp0
    subst hk0
    refine (pass_none g y f w h1).mono ?_
    rintro e w' ⟨rfl, hc, hg⟩
    have h' := h.turned hg hc (Nat.le_refl _)
    exact ⟨none, 0, rfl, (by show Bytes _ _ _; simpa using h'.2.1.take 0), hl, fun _ => rfl, h', hg⟩
  | some x =>
    obtain ⟨b, off, sp⟩ := x
    obtain rfl : sp = none := (h8 _ rfl).2.2.1
    by_cases hp : p < n
    · refine (pass_mid g p y f n n k b off w h1 hp hk (Nat.le_refl _) (by omega)).mono ?_
      rintro e w' ⟨rfl, hc, hg⟩
      have h' := h.turned hg hc hk
      exact ⟨_, _, rfl, (h'.2.1.drop p).take k, hl, (fun hx => by cases hx), h', hg⟩
    · have hpn : p = n := by omega
      have hk0 : k = 0 := by omega
      subst hpn
      subst hk0
      refine (pass_end g y f p b off w h1 (by omega)).mono ?_
      rintro e w' ⟨rfl, hc, hg⟩
      have h' := h.turned hg hc (Nat.le_refl _)
      exact ⟨_, _, rfl, (by show Bytes _ _ _; simpa using h'.2.1.take 0), hl, (fun hx => by cases hx), h', hg⟩
end Go.Proofs.Ytfipdldoklkciaa
