/-
  What each call of a cursor answers, and where it stands then, as plain functions; a list of calls in memory.
-/
import Derived.Test.YtkmbphgcnppohaaAlive
namespace Go.Proofs.Ytkmbphgcnppohaa
open Go.RowKit

/-- What a cursor's Wide answers, and where it stands then. -/
def sW (zs : List Int) (p y f : Nat) (k : Int) : Nat × Nat × Nat × Nat :=
  if y ≠ 0 then (0, p, y, f)
  else if ¬ (k = 1 ∨ k = 2 ∨ k = 4 ∨ k = 8) then (0, p, 1, p)
  else if ((zs.length - p : Nat) : Int) < k then (0, p, 3, zs.length)
  else (rdW 0 ((zs.drop p).take k.toNat), p + k.toNat, 0, f)

/-- What a cursor's Take answers, and where it stands then. -/
def sT (zs : List Int) (p y f : Nat) (k : Int) : List Int × Nat × Nat × Nat :=
  if y ≠ 0 then ([], p, y, f)
  else if k < 0 then ([], p, 1, p)
  else if ((zs.length - p : Nat) : Int) < k then ([], p, 3, zs.length)
  else ((zs.drop p).take k.toNat, p + k.toNat, 0, f)

theorem wide_u (base g p y f n m p' y' f' : Nat) (a : Option Addr) (zs : List Int) (k : Int) (w : World) (h : Cur w base g a n zs p y f) (hs : sW zs p y f k = (m, p', y', f')) :
    Calls Try.prog 16 #[.pointer (some ⟨g, 0, none⟩), .int .i64 k] w fun e w' => e = .returned (.int .u64 m) ∧ Cur w' base g a n zs p' y' f' ∧ w.grownBy w' (some g) := by
  have hl : zs.length = n := h.2.2.1
  have hp : p ≤ n := h.2.2.2.1
  unfold sW at hs
  by_cases hy : y = 0
  · subst hy
    simp only [ne_eq, not_true_eq_false, if_false] at hs
    by_cases hk : k = 1 ∨ k = 2 ∨ k = 4 ∨ k = 8
    · rw [if_neg (fun h0 => h0 hk), hl] at hs
      by_cases hx : ((n - p : Nat) : Int) < k
      · rw [if_pos hx] at hs
        cases hs
        exact wide_end base g p f n a zs k w h hk hx
      · rw [if_neg hx] at hs
        obtain ⟨j, rfl⟩ : ∃ j : Nat, k = (j : Int) := ⟨k.toNat, by omega⟩
        rw [Int.toNat_natCast] at hs
        cases hs
        exact wide_ok base g p f n j a zs w h (by omega) (by omega)
    · rw [if_pos hk] at hs
      cases hs
      exact wide_arg base g p f n a zs k w h hk
  · rw [if_pos hy] at hs
    cases hs
    exact wide_stop base g p y f n a zs k w h hy

theorem short_u (base g p y f n m p' y' f' : Nat) (a : Option Addr) (zs : List Int) (w : World) (h : Cur w base g a n zs p y f) (hs : sS zs p y f = (m, p', y', f')) :
    Calls Try.prog 18 #[.pointer (some ⟨g, 0, none⟩)] w fun e w' => e = .returned (.int .u64 m) ∧ Cur w' base g a n zs p' y' f' ∧ w.grownBy w' (some g) := by
  by_cases hy : y = 0
  · subst hy
    have h1 := short_go base g p f n a zs w h
    rw [hs] at h1
    exact h1
  · have h1 := short_stop base g p y f n a zs w h hy
    rw [sS, if_pos hy] at hs
    cases hs
    exact h1

theorem take_u (base g p y f n p' y' f' : Nat) (a : Option Addr) (zs xs : List Int) (k : Int) (w : World) (h : Cur w base g a n zs p y f) (hs : sT zs p y f k = (xs, p', y', f')) :
    Calls Try.prog 20 #[.pointer (some ⟨g, 0, none⟩), .int .i64 k] w fun e w' => ∃ a' m, e = .returned (.slice a' m m) ∧ Hid (Row w' w.heap.size a' xs) ∧ Hid (Bytes w' a' xs) ∧ Hid (xs.length = m) ∧ Cur w' base g a n zs p' y' f' ∧ w.grownBy w' (some g) := by
  have hl : zs.length = n := h.2.2.1
  have hp : p ≤ n := h.2.2.2.1
  have hnil : ∀ w' : World, Hid (Row w' w.heap.size none []) ∧ Hid (Bytes w' none []) := fun w' => ⟨.inl ⟨rfl, rfl⟩, no_bytes _ _⟩
  unfold sT at hs
  by_cases hy : y = 0
  · subst hy
    simp only [ne_eq, not_true_eq_false, if_false] at hs
    by_cases hk : k < 0
    · rw [if_pos hk] at hs
      cases hs
      refine (take_arg base g p f n a zs k w h hk).mono ?_
      rintro e w' ⟨rfl, hc, hg⟩
      exact ⟨none, 0, rfl, (hnil w').1, (hnil w').2, rfl, hc, hg⟩
    · rw [if_neg hk, hl] at hs
      by_cases hx : ((n - p : Nat) : Int) < k
      · rw [if_pos hx] at hs
        cases hs
        refine (take_end base g p f n a zs k w h hx).mono ?_
        rintro e w' ⟨rfl, hc, hg⟩
        exact ⟨none, 0, rfl, (hnil w').1, (hnil w').2, rfl, hc, hg⟩
      · rw [if_neg hx] at hs
        obtain ⟨j, rfl⟩ : ∃ j : Nat, k = (j : Int) := ⟨k.toNat, by omega⟩
        rw [Int.toNat_natCast] at hs
        cases hs
        refine (take_ok base g p f n j a zs w h (by omega)).mono ?_
        rintro e w' ⟨a', rfl, hR, hB, hc, hg⟩
        exact ⟨a', j, rfl, hR, hB, by show _ = _; rw [List.length_take, List.length_drop]; omega, hc, hg⟩
  · rw [if_pos hy] at hs
    cases hs
    refine (take_stop base g p y f n a zs k w h hy).mono ?_
    rintro e w' ⟨rfl, hc, hg⟩
    exact ⟨none, 0, rfl, (hnil w').1, (hnil w').2, rfl, hc, hg⟩

/-- A place without a fault has no fault's place. -/
def Inv (y f : Nat) : Prop := y = 0 → f = 0

theorem sW_inv {zs : List Int} {p y f m p' y' f' : Nat} {k : Int} (h : Inv y f) (hs : sW zs p y f k = (m, p', y', f')) : Inv y' f' := by
  unfold sW at hs
  intro h0
  split at hs
  · cases hs; exact h h0
  · split at hs
    · cases hs; cases h0
    · split at hs
      · cases hs; cases h0
      · cases hs; exact h (by omega)

theorem sS_inv {zs : List Int} {p y f m p' y' f' : Nat} (h : Inv y f) (hs : sS zs p y f = (m, p', y', f')) : Inv y' f' := by
  unfold sS at hs
  intro h0
  split at hs
  · cases hs; exact h h0
  · split at hs
    · cases hs; exact h (by omega)
    · split at hs
      · cases hs; cases h0
      · cases hs; cases h0

theorem sT_inv {zs xs : List Int} {p y f p' y' f' : Nat} {k : Int} (h : Inv y f) (hs : sT zs p y f k = (xs, p', y', f')) : Inv y' f' := by
  unfold sT at hs
  intro h0
  split at hs
  · cases hs; exact h h0
  · split at hs
    · cases hs; cases h0
    · split at hs
      · cases hs; cases h0
      · cases hs; exact h (by omega)

/-- WHAT THE WALK IS TOLD OF A LIST OF CALLS THAT CAME IN: len pairs of numbers. -/
def Script (w : World) (a : Option Addr) (len cap : Nat) : Prop :=
  len ≤ cap ∧ cap ≤ maxLen ∧ (len = 0 ∨ ∃ b off, a = some ⟨b, off, none⟩ ∧ ∀ i, i < len → ∃ k n : Int, w.cell? ⟨b, off + i * 2, none⟩ = some (.int .i64 k) ∧ w.cell? ⟨b, off + i * 2 + 1, none⟩ = some (.int .i64 n) ∧ (-9223372036854775808 ≤ k ∧ k ≤ 9223372036854775807) ∧ (-9223372036854775808 ≤ n ∧ n ≤ 9223372036854775807))

theorem cell_lt {w : World} {x : Addr} {v : Value} (h : w.cell? x = some v) : x.block < w.heap.size := by
  rcases Nat.lt_or_ge x.block w.heap.size with h2 | h2
  · exact h2
  · simp [World.cell?, Array.getElem?_eq_none h2] at h

theorem Script.kept {w w' : World} {a : Option Addr} {len cap : Nat} (h : Script w a len cap) (hb : Below w.heap.size w w') : Script w' a len cap := by
  obtain ⟨h1, h2, h3⟩ := h
  refine ⟨h1, h2, ?_⟩
  rcases h3 with h3 | ⟨b, off, rfl, hc⟩
  · exact .inl h3
  · refine .inr ⟨b, off, rfl, fun i hi => ?_⟩
    obtain ⟨k, n, c0, c1, b0, b1⟩ := hc i hi
    refine ⟨k, n, ?_, ?_, b0, b1⟩
    · rw [hb.cell (p := ⟨b, off + i * 2, none⟩) (cell_lt (x := ⟨b, off + i * 2, none⟩) c0)]; exact c0
    · rw [hb.cell (p := ⟨b, off + i * 2 + 1, none⟩) (cell_lt (x := ⟨b, off + i * 2 + 1, none⟩) c1)]; exact c1
end Go.Proofs.Ytkmbphgcnppohaa
