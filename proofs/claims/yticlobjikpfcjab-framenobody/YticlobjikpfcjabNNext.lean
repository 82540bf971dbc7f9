/-
  A stream that has been fed bytes is fed more: all in all it finds, has lost and keeps what a look through all of them gives.
-/
import Derived.Test.YticlobjikpfcjabNFeed
import Derived.Test.YticlobjikpfcjabNAlive
namespace Go.Proofs.Yticlobjikpfcjab
open Go.RowKit

theorem bytes_none (w : World) (a : Option Addr) : Bytes w a [] := ⟨by simp, by simp, .inl rfl⟩

theorem lost_le (P : List Int) : lostS P ≤ P.length := by
  have h := scan_le P
  unfold lostS
  omega
theorem wait_lt (P : List Int) : (waitS P).length < 1208 := rest_lt P
theorem found_many (P : List Int) : 8 * (scanL P).1.length ≤ P.length := by
  have h := scan_le P
  have h1 := sz_many (scanL P).1
  omega

/-- THE STREAM, FED ON. -/
theorem feed_next (g : Nat) (P : List Int) (a : Option Addr) (n cap : Nat) (ps : List Int) (w : World) (hst : Stm w g (waitS P) (lostS P)) (hl : ps.length = n) (hb : Bytes w a ps) (hnil : a = none → cap = 0) (hn : n ≤ 70368744176456) (hP : P.length ≤ 4611686018427387904) :
    Calls Try.prog 7 #[.pointer (some ⟨g, 0, none⟩), .slice a n cap] w fun e w' => ∃ v M, e = .returned v ∧ OwnsL w' w.heap.size 0 v M ∧ Hid (M = (scanL (waitS P ++ ps)).1) ∧ Hid ((scanL (P ++ ps)).1 = (scanL P).1 ++ M) ∧ Stm w' g (waitS (P ++ ps)) (lostS (P ++ ps)) ∧ w.grownBy w' (some g) := by
  have h1 := wait_lt P
  have h2 := lost_le P
  refine (feed_any g (waitS P) (lostS P) a n cap ps w hst hl hb hnil (by omega) (by omega)).mono ?_
  rintro e w' ⟨v, rfl, ho, hs, hg⟩
  rw [wait_append, lost_append] at hs
  exact ⟨v, _, rfl, ho, rfl, found_append P ps, hs, hg⟩

theorem stm_new {w : World} {g : Nat} (h : Stm w g [] 0) : Stm w g (waitS []) (lostS []) := by
  simpa [waitS, lostS, scan_nil, sz_nil] using h
theorem wait_nil : waitS [] = [] := by simp [waitS]
theorem lost_nil : lostS [] = 0 := by simp [lostS, scan_nil, sz_nil]

/-- Bytes lie in no stream's block. -/
theorem Bytes.stm {w w' : World} {g lost : Nat} {q : List Int} {a : Option Addr} {zs : List Int} (h : Bytes w a zs) (hst : Stm w g q lost) (hg : w.grownBy w' (some g)) : Bytes w' a zs := by
  obtain ⟨a0, n0, c0, hs0, _⟩ := hst.form
  exact h.past hs0 hg
theorem OwnsL.stm {w w' : World} {rb g lost : Nat} {q : List Int} {v : Value} {Ls : List (List Int)} (h : OwnsL w rb 0 v Ls) (hst : Stm w g q lost) (hg : w.grownBy w' (some g)) : OwnsL w' rb 0 v Ls := by
  obtain ⟨cur, hc⟩ := hst.block
  exact h.but hg (Nat.zero_le _) hc (by decide) (by decide)
theorem Lists.stm {w w' : World} {g lost : Nat} {q : List Int} {a : Option Addr} {Ls : List (List Int)} (h : Lists w 0 a Ls) (hst : Stm w g q lost) (hg : w.grownBy w' (some g)) : Lists w' 0 a Ls := by
  obtain ⟨cur, hc⟩ := hst.block
  exact h.but hg (Nat.zero_le _) hc (by decide) (by decide)
theorem Stm.stm {w w' : World} {g r lost lost' : Nat} {q q' : List Int} (h : Stm w g q lost) (hst : Stm w r q' lost') (hr : r ≠ g) (hg : w.grownBy w' (some r)) : Stm w' g q lost := by
  obtain ⟨cur, hc⟩ := hst.block
  exact h.other hg hr hc (by decide)
end Go.Proofs.Yticlobjikpfcjab
