/-
  Trees as plain data: what they are, how many nodes they have, how deep they are, where a path leads, and what a tree is with another node there.
  Which trees may be, as plain data: the fault of the first node that has one, and keys that stand twice.
  The fault of one node, as plain data: gt tells which bytes are a text, ri which digits are a number, rd which numbers may a Dec have.
  All nodes of a tree with their depths, in the order in which they are gone over; going over them as long as more is wanted; and what is told so: how many there are, how deep they lie, the first fault, keys that stand twice.
-/
import Derived.Below
namespace Go.Proofs.Ytkealjaealeojab
set_option linter.unusedVariables false

/-- A TREE: a node's fields; its bytes are the elements alone. Two trees are the same iff they are equal. -/
structure Tr where
  kind : Int
  num : Int
  neg : Bool
  dig : ByteArray
  exp : Int
  txt : ByteArray
  bytes : List Int
  keys : List Tr
  kids : List Tr

namespace Tr

theorem ind {P : Tr → Prop} (h : ∀ t, (∀ k, k ∈ t.keys → P k) → (∀ k, k ∈ t.kids → P k) → P t) : ∀ t, P t := by
  have aux : ∀ (n : Nat) (t : Tr), SizeOf.sizeOf t < n → P t := by
    intro n
    induction n with
    | zero => intro t ht; exact absurd ht (Nat.not_lt_zero _)
    | succ n ih =>
      intro t ht
      refine h t (fun k hk => ih k ?_) (fun k hk => ih k ?_)
      · have := List.sizeOf_lt_of_mem hk
        cases t; simp at *; omega
      · have := List.sizeOf_lt_of_mem hk
        cases t; simp at *; omega
  exact fun t => aux _ t (Nat.lt_succ_self _)

/-- How many nodes. -/
def size : Tr → Nat
  | ⟨_, _, _, _, _, _, _, keys, kids⟩ => 1 + (keys.map size).sum + (kids.map size).sum

def sizes (l : List Tr) : Nat := (l.map size).sum

theorem size_eq (t : Tr) : t.size = 1 + sizes t.keys + sizes t.kids := by
  cases t; rw [size]; rfl

theorem sizes_nil : sizes [] = 0 := rfl
theorem sizes_cons (a : Tr) (l : List Tr) : sizes (a :: l) = a.size + sizes l := by simp [sizes]
theorem sizes_app (l m : List Tr) : sizes (l ++ m) = sizes l + sizes m := by simp [sizes]
theorem sizes_snoc (l : List Tr) {i : Nat} (h : i < l.length) : sizes (l.take (i + 1)) = sizes (l.take i) + (l[i]).size := by
  rw [List.take_succ_eq_append_getElem h, sizes_app, sizes_cons, sizes_nil, Nat.add_zero]
theorem sizes_take (l : List Tr) (i : Nat) : sizes (l.take i) ≤ sizes l := by
  have h : sizes l = sizes (l.take i) + sizes (l.drop i) := by rw [← sizes_app, List.take_append_drop]
  omega
theorem size_pos (t : Tr) : 1 ≤ t.size := by rw [size_eq]; omega
theorem size_le {l : List Tr} {k : Tr} (h : k ∈ l) : k.size ≤ sizes l := by
  induction l with
  | nil => cases h
  | cons a r ih =>
    rw [sizes_cons]
    rcases List.mem_cons.1 h with rfl | h
    · omega
    · have := ih h; omega
theorem key_lt {t k : Tr} (h : k ∈ t.keys) : k.size < t.size := by have := size_le h; rw [size_eq t]; omega
theorem kid_lt {t k : Tr} (h : k ∈ t.kids) : k.size < t.size := by have := size_le h; rw [size_eq t]; omega

theorem length_le (l : List Tr) : l.length ≤ sizes l := by
  induction l with
  | nil => exact Nat.le_refl _
  | cons a r ih => rw [sizes_cons, List.length_cons]; have := size_pos a; omega

/-- What is left of m nodes behind a tree's; -1: there are more. -/
def lft (m : Int) (s : Nat) : Int := if (s : Int) ≤ m then m - s else -1

theorem lft_add {m : Int} {a b : Nat} (h : 0 ≤ lft m a) : lft (lft m a) b = lft m (a + b) := by
  unfold lft at *
  split at h
  · rename_i h1
    rw [if_pos h1]
    split <;> split <;> omega
  · omega
theorem lft_over {m : Int} {a b : Nat} (h : lft m a < 0) (hm : 0 ≤ m) : lft m (a + b) = -1 ∧ lft m a = -1 := by
  unfold lft at *
  split at h
  · omega
  · rename_i h1
    exact ⟨if_neg (by omega), if_neg h1⟩
theorem lft_few (s : Nat) : decide (0 ≤ lft 1024 s) = decide (s ≤ 1024) := by
  unfold lft
  split <;> simp <;> omega

def mx (l : List Nat) : Nat := l.foldl max 0
theorem mx_snoc (l : List Nat) (x : Nat) : mx (l ++ [x]) = max (mx l) x := by simp [mx, List.foldl_append]
theorem foldl_max (l : List Nat) : ∀ a, a ≤ l.foldl max a := by
  induction l with
  | nil => intro a; exact Nat.le_refl _
  | cons b r ih => intro a; exact Nat.le_trans (Nat.le_max_left a b) (ih (max a b))
theorem le_foldl {l : List Nat} {x : Nat} (h : x ∈ l) : ∀ a, x ≤ l.foldl max a := by
  induction l with
  | nil => cases h
  | cons b r ih =>
    intro a
    rcases List.mem_cons.1 h with rfl | h
    · exact Nat.le_trans (Nat.le_max_right a x) (foldl_max r _)
    · exact ih h (max a b)
theorem foldl_le {l : List Nat} {n : Nat} (h : ∀ x ∈ l, x ≤ n) : ∀ a, a ≤ n → l.foldl max a ≤ n := by
  induction l with
  | nil => intro a ha; exact ha
  | cons b r ih => intro a ha; exact ih (fun x hx => h x (List.mem_cons_of_mem _ hx)) _ (Nat.max_le.2 ⟨ha, h b List.mem_cons_self⟩)
theorem le_mx {l : List Nat} {x : Nat} (h : x ∈ l) : x ≤ mx l := le_foldl h 0
theorem mx_le {l : List Nat} {n : Nat} (h : ∀ x ∈ l, x ≤ n) : mx l ≤ n := foldl_le h 0 (Nat.zero_le _)

/-- The depth. -/
def deep : Tr → Nat
  | ⟨_, _, _, _, _, _, _, keys, kids⟩ => 1 + max (mx (keys.map deep)) (mx (kids.map deep))
def deeps (l : List Tr) : Nat := mx (l.map deep)
theorem deep_eq (t : Tr) : t.deep = 1 + max (deeps t.keys) (deeps t.kids) := by
  cases t; rw [deep]; rfl
theorem deeps_snoc (l : List Tr) {i : Nat} (h : i < l.length) : deeps (l.take (i + 1)) = max (deeps (l.take i)) (l[i]).deep := by
  rw [List.take_succ_eq_append_getElem h]
  unfold deeps
  rw [List.map_append, List.map_cons, List.map_nil, mx_snoc]
theorem deep_le {l : List Tr} {k : Tr} (h : k ∈ l) : k.deep ≤ deeps l := le_mx (List.mem_map.2 ⟨k, h, rfl⟩)
theorem key_deep {t k : Tr} (h : k ∈ t.keys) : k.deep < t.deep := by have := deep_le h; rw [deep_eq t]; omega
theorem kid_deep {t k : Tr} (h : k ∈ t.kids) : k.deep < t.deep := by have := deep_le h; rw [deep_eq t]; omega
/-- No tree is deeper than it has nodes. -/
theorem deep_size (t : Tr) : t.deep ≤ t.size := by
  induction t using ind with
  | h t hk hi =>
    rw [deep_eq, size_eq]
    have a : deeps t.keys ≤ sizes t.keys := mx_le fun x hx => by
      obtain ⟨k, hm, rfl⟩ := List.mem_map.1 hx
      exact Nat.le_trans (hk k hm) (size_le hm)
    have b : deeps t.kids ≤ sizes t.kids := mx_le fun x hx => by
      obtain ⟨k, hm, rfl⟩ := List.mem_map.1 hx
      exact Nat.le_trans (hi k hm) (size_le hm)
    omega

/-- THE PLACE TO WHICH A NUMBER LEADS: among the keys (true) or the kids. -/
def way (t : Tr) (k : Int) : Option (Nat × Bool) :=
  if k < 0 then none
  else if t.kind = 8 then
    if k % 2 = 0 then (if k / 2 < t.keys.length then some ((k / 2).toNat, true) else none)
    else (if k / 2 < t.kids.length then some ((k / 2).toNat, false) else none)
  else if t.kind = 7 ∨ t.kind = 9 then (if k < t.kids.length then some (k.toNat, false) else none)
  else none

/-- The nodes among which a place lies. -/
def side (t : Tr) (b : Bool) : List Tr := if b then t.keys else t.kids
/-- A tree with other nodes there. -/
def turn (t : Tr) (b : Bool) (l : List Tr) : Tr := if b then { t with keys := l } else { t with kids := l }

theorem side_turn (t : Tr) (b : Bool) (l : List Tr) : (t.turn b l).side b = l := by cases t; cases b <;> rfl
theorem turn_turn (t : Tr) (b : Bool) (l m : List Tr) : (t.turn b l).turn b m = t.turn b m := by cases t; cases b <;> rfl
theorem turn_side (t : Tr) (b : Bool) : t.turn b (t.side b) = t := by cases t; cases b <;> rfl
theorem turn_kind (t : Tr) (b : Bool) (l : List Tr) : (t.turn b l).kind = t.kind := by cases t; cases b <;> rfl

theorem way_lt {t : Tr} {k : Int} {i : Nat} {b : Bool} (h : t.way k = some (i, b)) : i < (t.side b).length := by
  unfold way at h
  split at h
  · cases h
  split at h
  · split at h <;> split at h
    · cases h; simp only [side]; simp; omega
    · cases h
    · cases h; simp only [side]; simp; omega
    · cases h
  · split at h
    · split at h
      · cases h; simp only [side]; simp; omega
      · cases h
    · cases h

/-- A place stays where it is, if as many nodes stand there. -/
theorem way_turn (t : Tr) (k : Int) (b : Bool) {l : List Tr} (h : l.length = (t.side b).length) : (t.turn b l).way k = t.way k := by
  unfold way
  rw [turn_kind]
  cases b with
  | true => simp only [turn, side] at *; simp [h]
  | false => simp only [turn, side] at *; simp [h]

/-- Where a path leads. -/
def find (t : Tr) : List Int → Option Tr
  | [] => some t
  | k :: p => match t.way k with
    | some (i, b) => match (t.side b)[i]? with
      | some u => find u p
      | none => none
    | none => none

/-- The tree with x there. -/
def lay (t : Tr) (x : Tr) : List Int → Option Tr
  | [] => some x
  | k :: p => match t.way k with
    | some (i, b) => match (t.side b)[i]? with
      | some u => match lay u x p with
        | some y => some (t.turn b ((t.side b).set i y))
        | none => none
      | none => none
    | none => none

theorem find_nil (t : Tr) : t.find [] = some t := rfl
theorem lay_nil (t x : Tr) : t.lay x [] = some x := rfl
theorem find_none {t : Tr} {k : Int} {p : List Int} (h : t.way k = none) : t.find (k :: p) = none := by simp [find, h]
theorem lay_none {t x : Tr} {k : Int} {p : List Int} (h : t.way k = none) : t.lay x (k :: p) = none := by simp [lay, h]
theorem find_some {t u : Tr} {k : Int} {p : List Int} {i : Nat} {b : Bool} (h : t.way k = some (i, b)) (hu : (t.side b)[i]? = some u) : t.find (k :: p) = u.find p := by simp [find, h, hu]
theorem lay_some {t x u : Tr} {k : Int} {p : List Int} {i : Nat} {b : Bool} (h : t.way k = some (i, b)) (hu : (t.side b)[i]? = some u) :
    t.lay x (k :: p) = match u.lay x p with | some y => some (t.turn b ((t.side b).set i y)) | none => none := by simp [lay, h, hu]

/-- Either both lead somewhere, or neither. -/
theorem lay_find (x : Tr) (p : List Int) : ∀ t : Tr, (t.lay x p).isSome = (t.find p).isSome := by
  induction p with
  | nil => intro t; rfl
  | cons k p ih =>
    intro t
    cases h : t.way k with
    | none => rw [find_none h, lay_none h]
    | some ib =>
      obtain ⟨i, b⟩ := ib
      have hu : (t.side b)[i]? = some ((t.side b).get ⟨i, way_lt h⟩) := List.getElem?_eq_getElem (way_lt h)
      rw [find_some h hu, lay_some h hu, ← ih]
      cases lay _ x p <;> rfl

/-- WHAT WAS PUT STANDS THERE. -/
theorem find_lay (x : Tr) (p : List Int) : ∀ t m : Tr, t.lay x p = some m → m.find p = some x := by
  induction p with
  | nil => intro t m h; rw [lay_nil] at h; cases h; rfl
  | cons k p ih =>
    intro t m h
    cases hw : t.way k with
    | none => rw [lay_none hw] at h; cases h
    | some ib =>
      obtain ⟨i, b⟩ := ib
      have hu : (t.side b)[i]? = some ((t.side b).get ⟨i, way_lt hw⟩) := List.getElem?_eq_getElem (way_lt hw)
      rw [lay_some hw hu] at h
      cases hy : lay _ x p with
      | none => rw [hy] at h; cases h
      | some y =>
        rw [hy] at h
        cases h
        have hl : ((t.side b).set i y).length = (t.side b).length := List.length_set
        rw [find_some (u := y) (i := i) (b := b) (by rw [way_turn _ _ _ hl]; exact hw) (by rw [side_turn, List.getElem?_set_self (way_lt hw)])]
        exact ih _ _ hy

/-- AND PUT BACK, ALL IS AS IT WAS. -/
theorem lay_back (x : Tr) (p : List Int) : ∀ t m y : Tr, t.lay x p = some m → t.find p = some y → m.lay y p = some t := by
  induction p with
  | nil => intro t m y h hf; rw [find_nil] at hf; cases hf; rfl
  | cons k p ih =>
    intro t m y h hf
    cases hw : t.way k with
    | none => rw [lay_none hw] at h; cases h
    | some ib =>
      obtain ⟨i, b⟩ := ib
      have hu : (t.side b)[i]? = some ((t.side b).get ⟨i, way_lt hw⟩) := List.getElem?_eq_getElem (way_lt hw)
      rw [lay_some hw hu] at h
      rw [find_some hw hu] at hf
      cases hz : lay _ x p with
      | none => rw [hz] at h; cases h
      | some z =>
        rw [hz] at h
        cases h
        have hl : ((t.side b).set i z).length = (t.side b).length := List.length_set
        rw [lay_some (u := z) (i := i) (b := b) (by rw [way_turn _ _ _ hl]; exact hw) (by rw [side_turn, List.getElem?_set_self (way_lt hw)]), ih _ _ _ hz hf]
        simp only [side_turn, turn_turn, List.set_set]
        rw [show (t.side b).get ⟨i, way_lt hw⟩ = (t.side b)[i]'(way_lt hw) from rfl, List.set_getElem_self, turn_side]

/-- What holds of a tree, and of all that stands in a tree of which it holds, holds where a path leads. -/
theorem find_holds {P : Tr → Prop} (hp : ∀ t u : Tr, P t → (u ∈ t.keys ∨ u ∈ t.kids) → P u) (p : List Int) : ∀ t u : Tr, P t → t.find p = some u → P u := by
  induction p with
  | nil => intro t u ht h; rw [find_nil] at h; cases h; exact ht
  | cons k p ih =>
    intro t u ht h
    cases hw : t.way k with
    | none => rw [find_none hw] at h; cases h
    | some ib =>
      obtain ⟨i, b⟩ := ib
      have hu : (t.side b)[i]? = some ((t.side b).get ⟨i, way_lt hw⟩) := List.getElem?_eq_getElem (way_lt hw)
      rw [find_some hw hu] at h
      refine ih _ _ (hp t _ ht ?_) h
      have hm := List.getElem_mem (way_lt hw)
      cases b with
      | true => exact .inl hm
      | false => exact .inr hm

theorem find_size {t u : Tr} {p : List Int} (h : t.find p = some u) : u.size ≤ t.size :=
  find_holds (P := fun x => x.size ≤ t.size) (fun a b ha hb => by
    rcases hb with hb | hb
    · have := key_lt hb; omega
    · have := kid_lt hb; omega) p t u (Nat.le_refl _) h
theorem find_deep {t u : Tr} {p : List Int} (h : t.find p = some u) : u.deep ≤ t.deep :=
  find_holds (P := fun x => x.deep ≤ t.deep) (fun a b ha hb => by
    rcases hb with hb | hb
    · have := key_deep hb; omega
    · have := kid_deep hb; omega) p t u (Nat.le_refl _) h

/-- OF ALL NODES. -/
def All (Q : Tr → Prop) : Tr → Prop
  | ⟨a, b, c, d, e, f, g, keys, kids⟩ => Q ⟨a, b, c, d, e, f, g, keys, kids⟩ ∧ (∀ k, k ∈ keys → All Q k) ∧ (∀ k, k ∈ kids → All Q k)
theorem all_eq (Q : Tr → Prop) (t : Tr) : t.All Q ↔ Q t ∧ (∀ k, k ∈ t.keys → k.All Q) ∧ (∀ k, k ∈ t.kids → k.All Q) := by
  cases t; rw [All]
theorem find_all {Q : Tr → Prop} {t u : Tr} {p : List Int} (ht : t.All Q) (h : t.find p = some u) : u.All Q :=
  find_holds (P := fun x => x.All Q) (fun a b ha hb => by
    rw [all_eq] at ha
    rcases hb with hb | hb
    · exact ha.2.1 b hb
    · exact ha.2.2 b hb) p t u ht h
theorem all_and {Q R : Tr → Prop} (t : Tr) : t.All (fun x => Q x ∧ R x) ↔ t.All Q ∧ t.All R := by
  induction t using ind with
  | h t hk hi =>
    rw [all_eq, all_eq Q, all_eq R]
    constructor
    · rintro ⟨⟨a, b⟩, c, d⟩
      exact ⟨⟨a, fun k h => ((hk k h).1 (c k h)).1, fun k h => ((hi k h).1 (d k h)).1⟩, ⟨b, fun k h => ((hk k h).1 (c k h)).2, fun k h => ((hi k h).1 (d k h)).2⟩⟩
    · rintro ⟨⟨a, b, c⟩, d, e, f⟩
      exact ⟨⟨a, d⟩, fun k h => (hk k h).2 ⟨b k h, e k h⟩, fun k h => (hi k h).2 ⟨c k h, f k h⟩⟩
/-- WHAT STANDS IN A TREE THAT MAY BE MAY BE: few, not deep, no node with a fault, no keys twice. -/
def May (al : Tr → Prop) (t : Tr) : Prop := t.size ≤ 1024 ∧ t.deep ≤ 24 ∧ t.All al ∧ t.All (fun u => u.keys.Nodup)
theorem find_may {al : Tr → Prop} {t u : Tr} {p : List Int} (ht : t.May al) (h : t.find p = some u) : u.May al :=
  ⟨Nat.le_trans (find_size h) ht.1, Nat.le_trans (find_deep h) ht.2.1, find_all ht.2.2.1 h, find_all ht.2.2.2 h⟩
end Tr
end Go.Proofs.Ytkealjaealeojab
namespace Go.Proofs.Ytkealjaealeojab
set_option linter.unusedVariables false
namespace Tr

/-- The first fault of some. -/
def firstE : List Int → Int
  | [] => 0
  | e :: l => if e = 0 then firstE l else e
theorem firstE_nil : firstE [] = 0 := rfl
theorem firstE_zero (l : List Int) : firstE (0 :: l) = firstE l := rfl
theorem firstE_not {e : Int} (l : List Int) (h : e ≠ 0) : firstE (e :: l) = e := if_neg h
theorem firstE_app (l m : List Int) : firstE (l ++ m) = if firstE l = 0 then firstE m else firstE l := by
  induction l with
  | nil => rfl
  | cons e l ih =>
    by_cases h : e = 0
    · subst h; rw [List.cons_append, firstE_zero, firstE_zero, ih]
    · rw [List.cons_append, firstE_not _ h, firstE_not _ h, if_neg h]
theorem firstE_iff (l : List Int) : firstE l = 0 ↔ ∀ e ∈ l, e = 0 := by
  induction l with
  | nil => simp [firstE]
  | cons e l ih =>
    by_cases h : e = 0
    · subst h; rw [firstE_zero, ih]; simp
    · rw [firstE_not _ h]; simp [h]
theorem firstE_flat (l : List (List Int)) : firstE l.flatten = firstE (l.map firstE) := by
  induction l with
  | nil => rfl
  | cons a l ih =>
    rw [List.flatten_cons, firstE_app, ih, List.map_cons]
    by_cases h : firstE a = 0
    · rw [if_pos h, h, firstE_zero]
    · rw [if_neg h, firstE_not _ h]

/-- One of each, in turn. -/
def inter {α : Type} : List α → List α → List α
  | a :: l, b :: m => a :: b :: inter l m
  | _, _ => []
theorem inter_map {α β : Type} (f : α → β) : ∀ l m : List α, (inter l m).map f = inter (l.map f) (m.map f) := by
  intro l
  induction l with
  | nil => intro m; rfl
  | cons a l ih =>
    intro m
    cases m with
    | nil => rfl
    | cons b m => simp only [inter, List.map_cons, ih]
theorem inter_mem {α : Type} : ∀ l m : List α, l.length = m.length → ∀ x, x ∈ inter l m ↔ x ∈ l ∨ x ∈ m := by
  intro l
  induction l with
  | nil =>
    intro m h x
    have : m = [] := List.eq_nil_of_length_eq_zero h.symm
    subst this
    simp [inter]
  | cons a l ih =>
    intro m h x
    cases m with
    | nil => cases h
    | cons b m =>
      simp only [inter, List.mem_cons, ih m (by simpa using h)]
      constructor
      · rintro (h | h | h | h)
        · exact .inl (.inl h)
        · exact .inr (.inl h)
        · exact .inl (.inr h)
        · exact .inr (.inr h)
      · rintro ((h | h) | (h | h))
        · exact .inl h
        · exact .inr (.inr (.inl h))
        · exact .inr (.inl h)
        · exact .inr (.inr (.inr h))
theorem inter_sub {α : Type} : ∀ l m : List α, ∀ x, x ∈ inter l m → x ∈ l ∨ x ∈ m := by
  intro l
  induction l with
  | nil => intro m x h; simp [inter] at h
  | cons a l ih =>
    intro m x h
    cases m with
    | nil => simp [inter] at h
    | cons b m =>
      simp only [inter, List.mem_cons] at h
      rcases h with rfl | rfl | h
      · exact .inl List.mem_cons_self
      · exact .inr List.mem_cons_self
      · rcases ih m x h with h | h
        · exact .inl (List.mem_cons_of_mem _ h)
        · exact .inr (List.mem_cons_of_mem _ h)
theorem inter_snoc {α : Type} : ∀ (l m : List α) {i : Nat} (h : i < l.length) (k : i < m.length), inter (l.take (i + 1)) (m.take (i + 1)) = inter (l.take i) (m.take i) ++ [l[i], m[i]] := by
  intro l
  induction l with
  | nil => intro m i h; cases h
  | cons a l ih =>
    intro m i h k
    cases m with
    | nil => cases k
    | cons b m =>
      cases i with
      | zero => simp [inter]
      | succ i =>
        have := ih m (i := i) (by simpa using h) (by simpa using k)
        simp only [List.take_succ_cons, inter, this, List.cons_append, List.getElem_cons_succ]

/-- The nodes in a node, in their order: of a map each key, and the kid of it. -/
def steps (t : Tr) : List Tr := if t.kind = 8 then inter t.keys t.kids else t.kids

/-- The fault of the first node that has one. -/
def forms (al : Tr → Int) : Tr → Int
  | ⟨k, b, c, d, e, f, g, keys, kids⟩ => firstE (al ⟨k, b, c, d, e, f, g, keys, kids⟩ :: (if k = 8 then inter (keys.map (forms al)) (kids.map (forms al)) else kids.map (forms al)))
theorem forms_eq (al : Tr → Int) (t : Tr) : t.forms al = firstE (al t :: t.steps.map (forms al)) := by
  cases t
  rw [forms]
  unfold steps
  split
  · rw [inter_map]
  · rfl

/-- All nodes, each ahead of what is in it. -/
def pre : Tr → List Tr
  | ⟨k, b, c, d, e, f, g, keys, kids⟩ => ⟨k, b, c, d, e, f, g, keys, kids⟩ :: (if k = 8 then inter (keys.map pre) (kids.map pre) else kids.map pre).flatten
theorem pre_eq (t : Tr) : t.pre = t :: (t.steps.map pre).flatten := by
  cases t
  rw [pre]
  unfold steps
  split
  · rw [inter_map]
  · rfl
theorem steps_sub {t u : Tr} (h : u ∈ t.steps) : u ∈ t.keys ∨ u ∈ t.kids := by
  unfold steps at h
  split at h
  · exact inter_sub _ _ _ h
  · exact .inr h

theorem forms_pre (al : Tr → Int) (t : Tr) : t.forms al = firstE (t.pre.map al) := by
  induction t using ind with
  | h t hk hi =>
    rw [forms_eq, pre_eq, List.map_cons, List.map_flatten, List.map_map]
    by_cases h0 : al t = 0
    · rw [h0, firstE_zero, firstE_zero, firstE_flat, List.map_map]
      congr 1
      refine List.map_congr_left fun u hu => ?_
      rcases steps_sub hu with h | h
      · exact hk u h
      · exact hi u h
    · rw [firstE_not _ h0, firstE_not _ h0]

/-- A node without a fault has as many keys as kids, if it is a map, and no keys else. -/
def Shaped (al : Tr → Int) : Prop := ∀ t : Tr, al t = 0 → (t.kind = 8 → t.keys.length = t.kids.length) ∧ (t.kind ≠ 8 → t.keys = [])
theorem forms_zero {al : Tr → Int} (hs : Shaped al) (t : Tr) : t.forms al = 0 ↔ t.All (fun u => al u = 0) := by
  induction t using ind with
  | h t hk hi =>
    rw [forms_eq, all_eq, firstE_iff]
    constructor
    · intro h
      have h0 : al t = 0 := h _ List.mem_cons_self
      have h1 : ∀ u ∈ t.steps, u.forms al = 0 := fun u hu => h _ (List.mem_cons_of_mem _ (List.mem_map.2 ⟨u, hu, rfl⟩))
      refine ⟨h0, fun k hm => ?_, fun k hm => ?_⟩
      · refine (hk k hm).1 (h1 k ?_)
        unfold steps
        split
        · rename_i h8; exact (inter_mem _ _ ((hs t h0).1 h8) _).2 (.inl hm)
        · rename_i h8; rw [(hs t h0).2 h8] at hm; cases hm
      · refine (hi k hm).1 (h1 k ?_)
        unfold steps
        split
        · rename_i h8; exact (inter_mem _ _ ((hs t h0).1 h8) _).2 (.inr hm)
        · exact hm
    · rintro ⟨h0, h1, h2⟩ e he
      rcases List.mem_cons.1 he with rfl | he
      · exact h0
      · obtain ⟨u, hu, rfl⟩ := List.mem_map.1 he
        rcases steps_sub hu with h | h
        · exact (hk u h).2 (h1 u h)
        · exact (hi u h).2 (h2 u h)

/-- WHAT CHECK TELLS. -/
def ChkIs (al : Tr → Int) (t : Tr) (e : Int) : Prop :=
  (1024 < t.size ∧ e = 8) ∨ (t.size ≤ 1024 ∧ 24 < t.deep ∧ e = 7) ∨ (t.size ≤ 1024 ∧ t.deep ≤ 24 ∧ t.forms al ≠ 0 ∧ e = t.forms al) ∨
  (t.size ≤ 1024 ∧ t.deep ≤ 24 ∧ t.forms al = 0 ∧ ¬ t.All (fun u => u.keys.Nodup) ∧ e = 9) ∨ (t.size ≤ 1024 ∧ t.deep ≤ 24 ∧ t.forms al = 0 ∧ t.All (fun u => u.keys.Nodup) ∧ e = 0)
theorem chk_one {al : Tr → Int} {t : Tr} {e e' : Int} (h : ChkIs al t e) (k : ChkIs al t e') : e = e' := by
  rcases h with ⟨a, rfl⟩ | ⟨a, b, rfl⟩ | ⟨a, b, c, rfl⟩ | ⟨a, b, c, d, rfl⟩ | ⟨a, b, c, d, rfl⟩ <;>
  rcases k with ⟨a', rfl⟩ | ⟨a', b', rfl⟩ | ⟨a', b', c', rfl⟩ | ⟨a', b', c', d', rfl⟩ | ⟨a', b', c', d', rfl⟩ <;>
  first
  | rfl
  | omega
  | exact absurd c c'
  | exact absurd c' c
  | exact absurd d d'
  | exact absurd d' d
theorem chk_may {al : Tr → Int} (hs : Shaped al) {t : Tr} : ChkIs al t 0 ↔ t.May (fun u => al u = 0) := by
  constructor
  · rintro (⟨_, h⟩ | ⟨_, _, h⟩ | ⟨_, _, c, h⟩ | ⟨_, _, _, _, h⟩ | ⟨a, b, c, d, _⟩)
    · exact absurd h (by decide)
    · exact absurd h (by decide)
    · exact absurd h.symm c
    · exact absurd h (by decide)
    · exact ⟨a, b, (forms_zero hs t).1 c, d⟩
  · rintro ⟨a, b, c, d⟩
    exact .inr (.inr (.inr (.inr ⟨a, b, (forms_zero hs t).2 c, d, rfl⟩)))
/-- WHAT STANDS IN A TREE THAT MAY BE MAY BE. -/
theorem chk_within {al : Tr → Int} (hs : Shaped al) {t u : Tr} {p : List Int} (h : ChkIs al t 0) (hf : t.find p = some u) : ChkIs al u 0 ∧ u.size ≤ t.size ∧ u.deep ≤ t.deep :=
  ⟨(chk_may hs).2 (find_may ((chk_may hs).1 h) hf), find_size hf, find_deep hf⟩
end Tr
end Go.Proofs.Ytkealjaealeojab
namespace Go.Proofs.Ytkealjaealeojab
set_option linter.unusedVariables false

theorem none_size {s : ByteArray} (h : s.size = 0) : s = ⟨#[]⟩ := by
  cases s with
  | mk d =>
    have : d = #[] := Array.eq_empty_of_size_eq_zero h
    rw [this]

namespace Tr
/-- A node with what its Kind has; all else is zero. -/
def bare (t : Tr) : Tr :=
  { kind := t.kind
    num := if t.kind = 1 ∨ t.kind = 4 ∨ t.kind = 9 ∨ t.kind = 10 then t.num else 0
    neg := if t.kind = 2 ∨ t.kind = 3 then t.neg else false
    dig := if t.kind = 2 ∨ t.kind = 3 then t.dig else ⟨#[]⟩
    exp := if t.kind = 3 then t.exp else 0
    txt := if t.kind = 5 then t.txt else ⟨#[]⟩
    bytes := if t.kind = 6 then t.bytes else []
    keys := if t.kind = 8 then t.keys else []
    kids := if t.kind = 7 ∨ t.kind = 8 ∨ t.kind = 9 then t.kids else [] }
/-- Is all else zero? -/
def clean (t : Tr) : Bool :=
  (decide (t.kind = 1 ∨ t.kind = 4 ∨ t.kind = 9 ∨ t.kind = 10) || decide (t.num = 0)) &&
  (decide (t.kind = 2 ∨ t.kind = 3) || (!t.neg && decide (t.dig.size = 0))) &&
  (decide (t.kind = 3) || decide (t.exp = 0)) &&
  (decide (t.kind = 5) || decide (t.txt.size = 0)) &&
  (decide (t.kind = 6) || decide (t.bytes.length = 0)) &&
  (decide (t.kind = 8) || decide (t.keys.length = 0)) &&
  (decide (t.kind = 7 ∨ t.kind = 8 ∨ t.kind = 9) || decide (t.kids.length = 0))
theorem mk_eq {t u : Tr} (h0 : t.kind = u.kind) (h1 : t.num = u.num) (h2 : t.neg = u.neg) (h3 : t.dig = u.dig) (h4 : t.exp = u.exp) (h5 : t.txt = u.txt) (h6 : t.bytes = u.bytes) (h7 : t.keys = u.keys) (h8 : t.kids = u.kids) : t = u := by
  cases t; cases u
  simp only at *
  subst h0 h1 h2 h3 h4 h5 h6 h7 h8
  rfl
theorem ite_self' {α : Type} {p : Prop} [Decidable p] {a z : α} : (if p then a else z) = a ↔ (p ∨ a = z) := by
  by_cases h : p
  · simp [h]
  · simp only [h, false_or]
    exact ⟨fun e => e.symm, fun e => e.symm⟩
theorem clean_iff (t : Tr) : t.clean = true ↔ t.bare = t := by
  have e3 : t.dig.size = 0 ↔ t.dig = ⟨#[]⟩ := ⟨none_size, fun h => by rw [h]; rfl⟩
  have e5 : t.txt.size = 0 ↔ t.txt = ⟨#[]⟩ := ⟨none_size, fun h => by rw [h]; rfl⟩
  unfold clean
  simp only [Bool.and_eq_true, Bool.or_eq_true, decide_eq_true_eq, Bool.not_eq_true', List.length_eq_zero_iff, e3, e5]
  constructor
  · rintro ⟨⟨⟨⟨⟨⟨a, b⟩, c⟩, d⟩, e⟩, f⟩, g⟩
    refine mk_eq rfl (ite_self'.2 a) (ite_self'.2 ?_) (ite_self'.2 ?_) (ite_self'.2 c) (ite_self'.2 d) (ite_self'.2 e) (ite_self'.2 f) (ite_self'.2 g)
    · rcases b with b | b
      · exact .inl b
      · exact .inr b.1
    · rcases b with b | b
      · exact .inl b
      · exact .inr b.2
  · intro h
    have p1 := ite_self'.1 (congrArg num h)
    have p2 := ite_self'.1 (congrArg neg h)
    have p3 := ite_self'.1 (congrArg dig h)
    have p4 := ite_self'.1 (congrArg exp h)
    have p5 := ite_self'.1 (congrArg txt h)
    have p6 := ite_self'.1 (congrArg bytes h)
    have p7 := ite_self'.1 (congrArg keys h)
    have p8 := ite_self'.1 (congrArg kids h)
    refine ⟨⟨⟨⟨⟨⟨p1, ?_⟩, p4⟩, p5⟩, p6⟩, p7⟩, p8⟩
    rcases p2 with p2 | p2
    · exact .inl p2
    · rcases p3 with p3 | p3
      · exact .inl p3
      · exact .inr ⟨p2, p3⟩

/-- May a Simple have this number? -/
def smp (n : Int) : Bool := decide (n < 20) || decide (n = 23) || (decide (32 ≤ n) && decide (n < 256))
/-- Is a node not of its Kind's form, numbers and texts aside? -/
def odd (t : Tr) : Bool :=
  decide (t.kind < 0) || decide (10 < t.kind) || !t.clean || (decide (t.kind = 1) && decide (1 < t.num)) || (decide (t.kind = 8) && decide (t.keys.length ≠ t.kids.length)) || (decide (t.kind = 9) && decide (t.kids.length ≠ 1)) || (decide (t.kind = 10) && !smp t.num)
/-- THE FAULT OF A NODE, what is in it aside. -/
def alo (gt ri : ByteArray → Bool) (rd : Bool → ByteArray → Int → Bool) (t : Tr) : Int :=
  if (t.kind = 5 ∧ 4096 < t.txt.size) ∨ (t.kind = 6 ∧ 4096 < t.bytes.length) then 8
  else if t.kind = 5 ∧ gt t.txt = false then 6
  else if t.kind = 2 ∧ (ri t.dig = false ∨ (t.neg = true ∧ t.dig = ⟨#[48]⟩)) then 11
  else if t.kind = 3 ∧ rd t.neg t.dig t.exp = false then 11
  else if t.odd = true then 12 else 0
theorem alo_odd {gt ri : ByteArray → Bool} {rd : Bool → ByteArray → Int → Bool} {t : Tr} (h : t.alo gt ri rd = 0) : t.odd = false := by
  unfold alo at h
  split at h
  · cases h
  · split at h
    · cases h
    · split at h
      · cases h
      · split at h
        · cases h
        · split at h
          · cases h
          · rename_i h5; simpa using h5
theorem alo_shaped (gt ri : ByteArray → Bool) (rd : Bool → ByteArray → Int → Bool) : Shaped (alo gt ri rd) := by
  intro t h
  have ho := alo_odd h
  unfold odd at ho
  simp only [Bool.or_eq_false_iff, Bool.and_eq_false_imp, decide_eq_true_eq, decide_eq_false_iff_not, Bool.not_eq_false', Classical.not_not] at ho
  obtain ⟨⟨⟨⟨⟨⟨_, _⟩, hc⟩, _⟩, hm⟩, _⟩, _⟩ := ho
  refine ⟨fun h8 => by simpa using hm h8, fun h8 => ?_⟩
  have := congrArg keys ((clean_iff t).1 hc)
  simp only [bare, if_neg h8] at this
  exact this.symm
end Tr
end Go.Proofs.Ytkealjaealeojab
namespace Go.Proofs.Ytkealjaealeojab
set_option linter.unusedVariables false
namespace Tr

/-- One of each in turn, and what is left of the longer. -/
def alt {α : Type} : List α → List α → List α
  | [], m => m
  | a :: l, [] => a :: l
  | a :: l, b :: m => a :: b :: alt l m
theorem alt_nil {α : Type} (l : List α) : alt l [] = l := by cases l <;> rfl
theorem alt_mem {α : Type} (x : α) : ∀ l m : List α, x ∈ alt l m ↔ x ∈ l ∨ x ∈ m := by
  intro l
  induction l with
  | nil => intro m; simp [alt]
  | cons a l ih =>
    intro m
    cases m with
    | nil => simp [alt]
    | cons b m =>
      simp only [alt, List.mem_cons, ih]
      constructor
      · rintro (h | h | h | h)
        · exact .inl (.inl h)
        · exact .inr (.inl h)
        · exact .inl (.inr h)
        · exact .inr (.inr h)
      · rintro ((h | h) | (h | h))
        · exact .inl h
        · exact .inr (.inr (.inl h))
        · exact .inr (.inl h)
        · exact .inr (.inr (.inr h))
theorem alt_map {α β : Type} (f : α → β) : ∀ l m : List α, (alt l m).map f = alt (l.map f) (m.map f) := by
  intro l
  induction l with
  | nil => intro m; rfl
  | cons a l ih =>
    intro m
    cases m with
    | nil => rfl
    | cons b m => simp only [alt, List.map_cons, ih]
theorem alt_inter {α : Type} : ∀ l m : List α, l.length = m.length → alt l m = inter l m := by
  intro l
  induction l with
  | nil => intro m h; cases m with | nil => rfl | cons b m => cases h
  | cons a l ih =>
    intro m h
    cases m with
    | nil => cases h
    | cons b m => simp only [alt, inter, ih m (by simpa using h)]
theorem alt_sum : ∀ l m : List Nat, (alt l m).sum = l.sum + m.sum := by
  intro l
  induction l with
  | nil => intro m; simp [alt]
  | cons a l ih =>
    intro m
    cases m with
    | nil => simp [alt]
    | cons b m => simp only [alt, List.sum_cons, ih]; omega
/-- The next two, if they are there. -/
def oneAt {α : Type} (l : List α) (i : Nat) : List α := match l[i]? with | some x => [x] | none => []
theorem oneAt_lt {α : Type} {l : List α} {i : Nat} (h : i < l.length) : oneAt l i = [l[i]] := by unfold oneAt; rw [List.getElem?_eq_getElem h]
theorem oneAt_ge {α : Type} {l : List α} {i : Nat} (h : l.length ≤ i) : oneAt l i = [] := by unfold oneAt; rw [List.getElem?_eq_none h]
theorem alt_drop {α : Type} : ∀ (i : Nat) (l m : List α), alt (l.drop i) (m.drop i) = oneAt l i ++ (oneAt m i ++ alt (l.drop (i + 1)) (m.drop (i + 1))) := by
  intro i
  induction i with
  | zero =>
    intro l m
    cases l with
    | nil => cases m with
      | nil => rfl
      | cons b m => simp [alt, oneAt]
    | cons a l => cases m with
      | nil => simp [oneAt, alt_nil]
      | cons b m => simp [alt, oneAt]
  | succ i ih =>
    intro l m
    have e : ∀ (x : List α), oneAt x (i + 1) = oneAt x.tail i := by intro x; cases x <;> simp [oneAt]
    have d : ∀ (x : List α) (k : Nat), x.drop (k + 1) = x.tail.drop k := by intro x k; cases x <;> simp
    rw [e, e, d, d, ih, d l (i + 1), d m (i + 1)]

/-- ALL NODES, each with its depth, ahead of those in it, a key ahead of its kid. -/
def seq : Tr → Nat → List (Tr × Nat)
  | ⟨k, b, c, d, e, f, g, keys, kids⟩, n => (⟨k, b, c, d, e, f, g, keys, kids⟩, n) :: (alt (keys.map fun u => seq u (n + 1)) (kids.map fun u => seq u (n + 1))).flatten
theorem seq_eq (t : Tr) (n : Nat) : t.seq n = (t, n) :: (alt (t.keys.map fun u => seq u (n + 1)) (t.kids.map fun u => seq u (n + 1))).flatten := by
  cases t; rw [seq]
/-- Those in it. -/
def seqs (l : List Tr) (n : Nat) : List (Tr × Nat) := (l.map fun u => seq u n).flatten
theorem seq_alt (t : Tr) (n : Nat) : t.seq n = (t, n) :: seqs (alt t.keys t.kids) (n + 1) := by
  rw [seq_eq, seqs, alt_map]
theorem seqs_app (l m : List Tr) (n : Nat) : seqs (l ++ m) n = seqs l n ++ seqs m n := by simp [seqs]
theorem seqs_one (t : Tr) (n : Nat) : seqs [t] n = seq t n := by simp [seqs]
theorem seqs_nil (n : Nat) : seqs [] n = [] := rfl
theorem seqs_cons (t : Tr) (l : List Tr) (n : Nat) : seqs (t :: l) n = seq t n ++ seqs l n := by simp [seqs]

theorem seq_len (t : Tr) : ∀ n, (t.seq n).length = t.size := by
  induction t using ind with
  | h t hk hi =>
    intro n
    rw [seq_eq, List.length_cons, List.length_flatten, alt_map, alt_sum, size_eq, sizes, sizes, List.map_map, List.map_map]
    have a : t.keys.map (List.length ∘ fun u => seq u (n + 1)) = t.keys.map size := List.map_congr_left fun u hu => hk u hu _
    have b : t.kids.map (List.length ∘ fun u => seq u (n + 1)) = t.kids.map size := List.map_congr_left fun u hu => hi u hu _
    rw [a, b]; omega

theorem foldl_max_app (l m : List Nat) : (l ++ m).foldl max 0 = max (l.foldl max 0) (m.foldl max 0) := by
  have : ∀ (m : List Nat) (a : Nat), m.foldl max a = max a (m.foldl max 0) := by
    intro m
    induction m with
    | nil => intro a; simp
    | cons x m ih => intro a; rw [List.foldl_cons, ih, List.foldl_cons, ih (max 0 x)]; omega
  rw [List.foldl_append, this m]
theorem mx_app (l m : List Nat) : mx (l ++ m) = max (mx l) (mx m) := foldl_max_app l m
theorem mx_cons (a : Nat) (m : List Nat) : mx (a :: m) = max a (mx m) := by
  have := mx_app [a] m
  simpa [mx] using this
theorem mx_flat (l : List (List Nat)) : mx l.flatten = mx (l.map mx) := by
  induction l with
  | nil => rfl
  | cons a l ih => rw [List.flatten_cons, mx_app, ih, List.map_cons, mx_cons]
theorem mx_alt : ∀ l m : List Nat, mx (alt l m) = max (mx l) (mx m) := by
  intro l
  induction l with
  | nil => intro m; simp [alt, mx]
  | cons a l ih =>
    intro m
    cases m with
    | nil => simp [alt, mx]
    | cons b m => simp only [alt, mx_cons, ih]; omega
theorem mx_addL (n : Nat) : ∀ l : List Nat, l ≠ [] → mx (l.map (n + ·)) = n + mx l := by
  intro l
  induction l with
  | nil => intro h; exact absurd rfl h
  | cons a l ih =>
    intro _
    rw [List.map_cons, mx_cons, mx_cons]
    cases l with
    | nil => simp [mx]
    | cons b l => rw [ih (by simp)]; omega

/-- The deepest. -/
theorem seq_deep (t : Tr) : ∀ n, mx ((t.seq (n + 1)).map Prod.snd) = n + t.deep := by
  induction t using ind with
  | h t hk hi =>
    intro n
    rw [seq_eq, List.map_cons, mx_cons, List.map_flatten, mx_flat, List.map_map, alt_map, mx_alt, List.map_map, List.map_map, deep_eq]
    have a : t.keys.map ((mx ∘ List.map Prod.snd) ∘ fun u => seq u (n + 1 + 1)) = (t.keys.map deep).map ((n + 1) + ·) := by
      rw [List.map_map]; exact List.map_congr_left fun u hu => hk u hu (n + 1)
    have b : t.kids.map ((mx ∘ List.map Prod.snd) ∘ fun u => seq u (n + 1 + 1)) = (t.kids.map deep).map ((n + 1) + ·) := by
      rw [List.map_map]; exact List.map_congr_left fun u hu => hi u hu (n + 1)
    rw [a, b]
    show max (n + 1) _ = _
    unfold deeps
    by_cases h1 : t.keys.map deep = []
    · by_cases h2 : t.kids.map deep = []
      · rw [h1, h2]; simp [mx]
      · rw [h1, mx_addL _ _ h2]; simp [mx]; omega
    · by_cases h2 : t.kids.map deep = []
      · rw [h2, mx_addL _ _ h1]; simp [mx]; omega
      · rw [mx_addL _ _ h1, mx_addL _ _ h2]; omega

/-- GOING OVER THEM, as long as more is wanted: was all wanted, and what is known behind it. -/
def go {σ : Type} (f : Tr → Nat → σ → Bool × σ) : List (Tr × Nat) → σ → Bool × σ
  | [], s => (true, s)
  | x :: l, s => if (f x.1 x.2 s).1 = true then go f l (f x.1 x.2 s).2 else (false, (f x.1 x.2 s).2)
theorem go_nil {σ : Type} (f : Tr → Nat → σ → Bool × σ) (s : σ) : go f [] s = (true, s) := rfl
theorem go_cons {σ : Type} (f : Tr → Nat → σ → Bool × σ) (x : Tr × Nat) (l : List (Tr × Nat)) (s : σ) : go f (x :: l) s = if (f x.1 x.2 s).1 = true then go f l (f x.1 x.2 s).2 else (false, (f x.1 x.2 s).2) := rfl
theorem go_app {σ : Type} (f : Tr → Nat → σ → Bool × σ) (m : List (Tr × Nat)) : ∀ (l : List (Tr × Nat)) (s : σ), go f (l ++ m) s = if (go f l s).1 = true then go f m (go f l s).2 else go f l s := by
  intro l
  induction l with
  | nil => intro s; simp [go]
  | cons x l ih =>
    intro s
    rw [List.cons_append, go_cons, go_cons]
    by_cases h : (f x.1 x.2 s).1 = true
    · rw [if_pos h, if_pos h, ih]
    · rw [if_neg h, if_neg h]; simp

/-! ### How many, how deep -/

/-- One more node: its number, the deepest. -/
def meas (_ : Tr) (d : Nat) (s : Nat × Nat) : Bool × (Nat × Nat) := (decide (s.1 + 1 ≤ 1024), (s.1 + 1, max s.2 d))
theorem meas_go : ∀ (l : List (Tr × Nat)) (a b : Nat), a ≤ 1024 → go meas l (a, b) = if a + l.length ≤ 1024 then (true, (a + l.length, max b (mx (l.map Prod.snd)))) else (false, (go meas l (a, b)).2) := by
  intro l
  induction l with
  | nil => intro a b ha; simp [go, mx, ha]
  | cons x l ih =>
    intro a b ha
    rw [go_cons]
    simp only [meas, List.length_cons, List.map_cons, mx_cons]
    by_cases h : a + 1 ≤ 1024
    · simp only [h, decide_true, if_true]
      rw [ih (a + 1) (max b x.2) h]
      by_cases h2 : a + 1 + l.length ≤ 1024
      · rw [if_pos h2, if_pos (by omega)]
        simp only [Prod.mk.injEq, true_and]
        exact ⟨by omega, by omega⟩
      · rw [if_neg h2, if_neg (by omega)]
    · have e : ¬ (a + (l.length + 1) ≤ 1024) := by omega
      rw [if_neg e]
      simp [h]
/-- What the program tells of how many there are, and how deep. -/
def mes (t : Tr) : Nat × Nat := if t.size ≤ 1024 then (t.size, t.deep) else (1025, 1025)
theorem meas_all (t : Tr) : (go meas (t.seq 1) (0, 0)).1 = decide (t.size ≤ 1024) ∧ (t.size ≤ 1024 → (go meas (t.seq 1) (0, 0)).2 = (t.size, t.deep)) := by
  rw [meas_go _ _ _ (by omega), seq_len, seq_deep t 0]
  by_cases h : t.size ≤ 1024
  · rw [if_pos (by omega)]
    refine ⟨by simp [h], fun _ => ?_⟩
    simp
  · rw [if_neg (by omega)]
    exact ⟨by simp [h], fun h' => absurd h' h⟩

/-! ### The first fault -/

/-- The fault of the node: go on, if there is none. -/
def flt (al : Tr → Int) (t : Tr) (_ : Nat) (_ : Int) : Bool × Int := (decide (al t = 0), al t)
theorem flt_go (al : Tr → Int) : ∀ (l : List (Tr × Nat)), (go (flt al) l 0).2 = firstE (l.map fun x => al x.1) := by
  have : ∀ (l : List (Tr × Nat)) (s : Int), s = 0 → (go (flt al) l s).2 = firstE (l.map fun x => al x.1) := by
    intro l
    induction l with
    | nil => intro s hs; exact hs
    | cons x l ih =>
      intro s hs
      rw [go_cons, List.map_cons]
      by_cases h : al x.1 = 0
      · rw [if_pos (show (flt al x.1 x.2 s).1 = true from decide_eq_true h), ih (flt al x.1 x.2 s).2 h, h, firstE_zero]
      · rw [if_neg (show ¬ (flt al x.1 x.2 s).1 = true from fun e => h (of_decide_eq_true e)), firstE_not _ h]
        rfl
  exact fun l => this l 0 rfl
theorem seq_forms {al : Tr → Int} (hs : Shaped al) (t : Tr) : ∀ n, firstE ((t.seq n).map fun x => al x.1) = t.forms al := by
  induction t using ind with
  | h t hk hi =>
    intro n
    rw [forms_eq, seq_eq, List.map_cons]
    by_cases h0 : al t = 0
    · show firstE (al t :: _) = _
      rw [h0, firstE_zero, firstE_zero, List.map_flatten, firstE_flat, List.map_map, alt_map, List.map_map, List.map_map]
      have a : t.keys.map ((firstE ∘ List.map fun x => al x.1) ∘ fun u => seq u (n + 1)) = t.keys.map (forms al) := List.map_congr_left fun u hu => hk u hu (n + 1)
      have b : t.kids.map ((firstE ∘ List.map fun x => al x.1) ∘ fun u => seq u (n + 1)) = t.kids.map (forms al) := List.map_congr_left fun u hu => hi u hu (n + 1)
      rw [a, b, ← alt_map]
      congr 2
      unfold steps
      split
      · rename_i h8; exact alt_inter _ _ ((hs t h0).1 h8)
      · rename_i h8; rw [(hs t h0).2 h8]; rfl
    · show firstE (al t :: _) = _
      rw [firstE_not _ h0, firstE_not _ h0]
theorem flt_all {al : Tr → Int} (hs : Shaped al) (t : Tr) (n : Nat) : (go (flt al) (t.seq n) 0).2 = t.forms al := by
  rw [flt_go, seq_forms hs]

/-! ### Keys twice -/

/-- Go on, if no two keys are the same. -/
def twc (p : Tr → Bool) (t : Tr) (_ : Nat) (s : Unit) : Bool × Unit := (p t, s)
theorem twc_go (p : Tr → Bool) : ∀ (l : List (Tr × Nat)), (go (twc p) l ()).1 = l.all fun x => p x.1 := by
  intro l
  induction l with
  | nil => rfl
  | cons x l ih =>
    rw [go_cons, List.all_cons]
    by_cases h : p x.1 = true
    · rw [if_pos (show (twc p x.1 x.2 ()).1 = true from h), h, Bool.true_and]; exact ih
    · rw [if_neg (show ¬ (twc p x.1 x.2 ()).1 = true from h)]; simp at h; simp [h]
theorem seq_all (Q : Tr → Prop) (t : Tr) : ∀ n, (∀ x ∈ t.seq n, Q x.1) ↔ t.All Q := by
  induction t using ind with
  | h t hk hi =>
    intro n
    rw [seq_eq, all_eq]
    constructor
    · intro h
      refine ⟨h (t, n) List.mem_cons_self, fun k hm => (hk k hm (n + 1)).1 fun x hx => h x ?_, fun k hm => (hi k hm (n + 1)).1 fun x hx => h x ?_⟩
      · exact List.mem_cons_of_mem _ (List.mem_flatten.2 ⟨_, (alt_mem _ _ _).2 (.inl (List.mem_map.2 ⟨k, hm, rfl⟩)), hx⟩)
      · exact List.mem_cons_of_mem _ (List.mem_flatten.2 ⟨_, (alt_mem _ _ _).2 (.inr (List.mem_map.2 ⟨k, hm, rfl⟩)), hx⟩)
    · rintro ⟨h0, h1, h2⟩ x hx
      rcases List.mem_cons.1 hx with rfl | hx
      · exact h0
      · obtain ⟨l, hl, hx⟩ := List.mem_flatten.1 hx
        rcases (alt_mem _ _ _).1 hl with hl | hl
        · obtain ⟨k, hm, rfl⟩ := List.mem_map.1 hl
          exact (hk k hm (n + 1)).2 (h1 k hm) x hx
        · obtain ⟨k, hm, rfl⟩ := List.mem_map.1 hl
          exact (hi k hm (n + 1)).2 (h2 k hm) x hx
theorem twc_all (p : Tr → Bool) (t : Tr) (n : Nat) : (go (twc p) (t.seq n) ()).1 = true ↔ t.All (fun u => p u = true) := by
  rw [twc_go, List.all_eq_true]
  exact seq_all (fun u => p u = true) t n
end Tr
end Go.Proofs.Ytkealjaealeojab
