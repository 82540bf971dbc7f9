/-
  Going over all nodes of a tree: tree.each, whatever it hands each node to.
  tree.each: the function to which nodes are handed wants no more at once.
-/
import Derived.Test.YtkealjaealeojabQGc
import Derived.Test.YtkealjaealeojabQGb
import Derived.Shelf.Abstract
namespace Go.Proofs.Ytkealjaealeojab
open Go.RowKit
set_option linter.unusedVariables false

/-- WHAT IS ASKED OF THE FUNCTION TO WHICH EACH NODE IS HANDED: f is what it answers, and what is known then; I what is known, in memory; C the blocks that it may turn; J which depths may come. -/
structure Takes (g : Nat) (cap : Array Value) (σ : Type) (f : Tr → Nat → σ → Bool × σ) (I : σ → World → Prop) (J : σ → Nat → Tr → Prop) (C : Nat → Prop) (B : Nat) : Prop where
  call : ∀ (s : σ) (w : World) (b : Nb) (t : Tr) (d D : Nat), I s w → J s d t → NdS (· < B) D w b t → Calls Try.prog g (#[.agg b.arr, .int .i64 d] ++ cap) w fun e w' => e = .returned (.bool (f t d s).1) ∧ I (f t d s).2 w' ∧ Kp C w w'
  enter : ∀ args w, (callFunc g args).run Try.prog w = .ok (.enter g args) w
  keeps : ∀ s w w', I s w → Below w.heap.size w w' → I s w'
  room : ∀ s w, I s w → B ≤ w.heap.size ∧ ∀ k, C k → B ≤ k ∧ k < w.heap.size
  first : ∀ s d t u, J s d t → (u ∈ t.keys ∨ u ∈ t.kids) → (f t d s).1 = true → J (f t d s).2 (d + 1) u ∧ d < 4611686018427387904
  more : ∀ s d u t' d', J s d u → (f t' d' s).1 = true → J (f t' d' s).2 d u
theorem Takes.goes {g : Nat} {cap : Array Value} {σ : Type} {f : Tr → Nat → σ → Bool × σ} {I : σ → World → Prop} {J : σ → Nat → Tr → Prop} {C : Nat → Prop} {B : Nat} (T : Takes g cap σ f I J C B) {d : Nat} {u : Tr} : ∀ (l : List (Tr × Nat)) (s : σ), J s d u → (Tr.go f l s).1 = true → J (Tr.go f l s).2 d u := by
  intro l
  induction l with
  | nil => intro s h _; exact h
  | cons x l ih =>
    intro s h hr
    rw [Tr.go_cons] at hr ⊢
    by_cases h1 : (f x.1 x.2 s).1 = true
    · rw [if_pos h1] at hr ⊢
      exact ih _ (T.more s d u _ _ h h1) hr
    · rw [if_neg h1] at hr
      cases hr

/-- What is left to go over at round i. -/
def Left {σ : Type} (f : Tr → Nat → σ → Bool × σ) (t : Tr) (d : Nat) (i : Nat) (s : σ) : Bool × σ := Tr.go f (Tr.seqs (Tr.alt (t.keys.drop i) (t.kids.drop i)) (d + 1)) s
theorem left_end {σ : Type} (f : Tr → Nat → σ → Bool × σ) {t : Tr} {d i : Nat} (hk : t.keys.length ≤ i) (hi : t.kids.length ≤ i) (s : σ) : Left f t d i s = (true, s) := by
  unfold Left
  rw [List.drop_of_length_le hk, List.drop_of_length_le hi]
  rfl
theorem left_both {σ : Type} (f : Tr → Nat → σ → Bool × σ) {t : Tr} {d i : Nat} (hk : i < t.keys.length) (hi : i < t.kids.length) (s : σ) :
    Left f t d i s = if (Tr.go f ((t.keys[i]).seq (d + 1)) s).1 = true then (if (Tr.go f ((t.kids[i]).seq (d + 1)) (Tr.go f ((t.keys[i]).seq (d + 1)) s).2).1 = true then Left f t d (i + 1) (Tr.go f ((t.kids[i]).seq (d + 1)) (Tr.go f ((t.keys[i]).seq (d + 1)) s).2).2 else Tr.go f ((t.kids[i]).seq (d + 1)) (Tr.go f ((t.keys[i]).seq (d + 1)) s).2) else Tr.go f ((t.keys[i]).seq (d + 1)) s := by
  unfold Left
  rw [Tr.alt_drop, Tr.oneAt_lt hk, Tr.oneAt_lt hi, Tr.seqs_app, Tr.seqs_app, Tr.seqs_one, Tr.seqs_one, Tr.go_app, Tr.go_app]
theorem left_key {σ : Type} (f : Tr → Nat → σ → Bool × σ) {t : Tr} {d i : Nat} (hk : i < t.keys.length) (hi : t.kids.length ≤ i) (s : σ) :
    Left f t d i s = if (Tr.go f ((t.keys[i]).seq (d + 1)) s).1 = true then Left f t d (i + 1) (Tr.go f ((t.keys[i]).seq (d + 1)) s).2 else Tr.go f ((t.keys[i]).seq (d + 1)) s := by
  unfold Left
  rw [Tr.alt_drop, Tr.oneAt_lt hk, Tr.oneAt_ge hi, List.nil_append, Tr.seqs_app, Tr.seqs_one, Tr.go_app]
theorem left_kid {σ : Type} (f : Tr → Nat → σ → Bool × σ) {t : Tr} {d i : Nat} (hk : t.keys.length ≤ i) (hi : i < t.kids.length) (s : σ) :
    Left f t d i s = if (Tr.go f ((t.kids[i]).seq (d + 1)) s).1 = true then Left f t d (i + 1) (Tr.go f ((t.kids[i]).seq (d + 1)) s).2 else Tr.go f ((t.kids[i]).seq (d + 1)) s := by
  unfold Left
  rw [Tr.alt_drop, Tr.oneAt_ge hk, Tr.oneAt_lt hi, List.nil_append, Tr.seqs_app, Tr.seqs_one, Tr.go_app]
theorem left_start {σ : Type} (f : Tr → Nat → σ → Bool × σ) {t : Tr} {d : Nat} (s : σ) : Tr.go f (t.seq d) s = if (f t d s).1 = true then Left f t d 0 (f t d s).2 else (false, (f t d s).2) := by
  rw [Tr.seq_alt, Tr.go_cons]
  rfl
/-- The element at i of a row that lies below B, in a world in which that has stayed. -/
theorem row_at {B D : Nat} {w w' : World} {a : Option Addr} {len cap : Nat} {l : List Tr} (h : RowN (NdS (· < B) D w) w a len cap l) (hin : In (· < B) a len) (hb : Below B w w') {i : Nat} (hi : i < l.length) :
    ∃ (bk off : Nat) (nb : Nb), a = some ⟨bk, off, none⟩ ∧ (∀ j, j < 9 → w'.cell? ⟨bk, off + (i * 9 + j), none⟩ = nb.cells[j]?) ∧ NdS (· < B) D w' nb l[i] := by
  obtain ⟨h0, _, h2⟩ := h
  rcases h2 with rfl | ⟨b, off, ha, hc⟩
  · cases hi
  · obtain ⟨nb, hn, hQ⟩ := hc i hi
    refine ⟨b, off, nb, ha, fun j hj => ?_, hQ.below hb fun k hk => hk⟩
    rw [hb.cell (p := ⟨b, off + (i * 9 + j), none⟩) (hin (by omega) ⟨b, off, none⟩ ha)]
    exact hn j hj


/-- tree.each, at trees of a depth. -/
def EachAt (g : Nat) (cap : Array Value) (σ : Type) (f : Tr → Nat → σ → Bool × σ) (I : σ → World → Prop) (J : σ → Nat → Tr → Prop) (C : Nat → Prop) (B : Nat) (D : Nat) : Prop :=
  ∀ (t : Tr) (d : Nat) (b : Nb) (s : σ) (w : World), NdS (· < B) D w b t → I s w → J s d t →
    Calls Try.prog 20 #[.agg b.arr, .int .i64 d, .func (.func g) #[] cap] w fun e w' => e = .returned (.bool (Tr.go f (t.seq d) s).1) ∧ I (Tr.go f (t.seq d) s).2 w' ∧ Kp C w w'
end Go.Proofs.Ytkealjaealeojab
namespace Go.Proofs.Ytkealjaealeojab
open Go.RowKit
set_option linter.unusedVariables false

set_option maxHeartbeats 4000000 in
set_option maxRecDepth 100000 in
theorem each_no {g : Nat} {cap : Array Value} {σ : Type} {f : Tr → Nat → σ → Bool × σ} {I : σ → World → Prop} {J : σ → Nat → Tr → Prop} {C : Nat → Prop} {B : Nat} (T : Takes g cap σ f I J C B) {D : Nat} (ih : EachAt g cap σ f I J C B D)
    (t : Tr) (d : Nat) (b : Nb) (s : σ) (w : World) (hN : NdS (· < B) (D + 1) w b t) (hI : I s w) (hJ : J s d t) (h1 : (f t d s).1 = false) :
    Calls Try.prog 20 #[.agg b.arr, .int .i64 d, .func (.func g) #[] cap] w fun e w' => e = .returned (.bool (Tr.go f (t.seq d) s).1) ∧ I (Tr.go f (t.seq d) s).2 w' ∧ Kp C w w' := by
  obtain ⟨hBw, hC⟩ := T.room s w hI
  have hbox := nbox_new w b
  have hal := alloc_below w (.cells b.arr 26)
  have hNC : ¬ C w.heap.size := fun h => by have := (hC _ h).2; omega
  have hN0 : NdS (· < B) (D + 1) (w.alloc (.cells b.arr 26)) b t := hN.below (hal.mono hBw) fun k hk => hk
  have k0 := T.call s (w.alloc (.cells b.arr 26)) _ t d (D + 1) (T.keeps _ _ _ hI hal) hJ hN0
  have hL0 := left_start f (t := t) (d := d) s
  have e0 := T.enter
  have hj1 := fun u hu => T.first s d t u hJ hu
  obtain ⟨c0, c1, c2, c3, c4, c5, c6, c7, c8⟩ := hbox.fields
  rw [h1, if_neg (by simp)] at hL0
  rw [h1] at k0
  rw [hL0]
  clear hL0 hj1
  have hAl : Hid (Kp C w (w.alloc (.cells b.arr 26))) := Kp.of hal
  clear hN hN0 hJ hI hC hNC hbox hal h1 ih
  go_enter Try.func20, Try.ntmps20
  go_wp2_with (go_at_fn g; refine k0.mono ?_; rintro e w1 ⟨rfl, hI1, hK1⟩)
  go_ret
  exact ⟨rfl, hI1, hAl.out.trans hK1⟩
end Go.Proofs.Ytkealjaealeojab
