/-
  A tree's text has no byte of a gap outside of strings, as plain data.
  A tree's whole text, as plain data: where it is short enough nothing of it was left out.
  Which trees have a text, and how long a whole text may be, as plain data.
  Parts one behind the other: jsay.join.
  Texts with commas between: jsay.row.
  The texts of an Array's Kids: jsay.kidTexts.
-/
import Derived.Test.YtelabgonpmafpaaGreatDoorP16
namespace Go.Proofs.YtelabgonpmafpaaGreatDoor
open Go.RowKit
set_option linter.unusedVariables false
theorem bs_range (x : ByteArray) : ∀ c ∈ bs x, 0 ≤ c ∧ c < 256 := by
  intro c hc
  unfold bs at hc
  obtain ⟨b, _, rfl⟩ := List.mem_map.1 hc
  have := b.toNat_lt
  omega
end Go.Proofs.YtelabgonpmafpaaGreatDoor
namespace Go.Proofs.YtelabgonpmafpaaGreatDoor
open Go.RowKit
set_option linter.unusedVariables false
def cat (l : List ByteArray) : List Int := (l.map bs).flatten
def catB (l : List ByteArray) : ByteArray := strOfNums (cat l)
theorem cat_nil : cat [] = [] := rfl
theorem cat_cons (x : ByteArray) (l : List ByteArray) : cat (x :: l) = bs x ++ cat l := by simp [cat]
theorem cat_range (l : List ByteArray) : ∀ c ∈ cat l, 0 ≤ c ∧ c < 256 := by
  induction l with
  | nil => intro c hc; cases hc
  | cons x l ih =>
    intro c hc
    rw [cat_cons] at hc
    rcases List.mem_append.1 hc with h | h
    · exact bs_range x c h
    · exact ih c h
theorem catB_bs (l : List ByteArray) : bs (catB l) = cat l := bs_str (cat_range l)
theorem catB_size (l : List ByteArray) : (catB l).size = (cat l).length := by unfold catB; exact str_size _
theorem cat_mem {l : List ByteArray} {x : ByteArray} (h : x ∈ l) : x.size ≤ (cat l).length := by
  induction l with
  | nil => cases h
  | cons y l ih =>
    rw [cat_cons, List.length_append, bs_len]
    rcases List.mem_cons.1 h with rfl | h
    · omega
    · have := ih h; omega
/-- What join keeps begins the whole; and is it, if it is short enough. -/
theorem jn_cat (l : List ByteArray) : ∀ acc, (jn l acc).length ≤ acc.length + (cat l).length ∧ ((jn l acc).length ≤ 4096 → jn l acc = acc ++ cat l) := by
  induction l with
  | nil => intro acc; rw [jn, cat_nil, List.append_nil]; exact ⟨by simp, fun _ => rfl⟩
  | cons x l ih =>
    intro acc
    rw [jn, cat_cons]
    split
    · exact ⟨by omega, fun h => by omega⟩
    · obtain ⟨h1, h2⟩ := ih (acc ++ bs x)
      rw [List.length_append] at h1
      refine ⟨by rw [List.length_append]; omega, fun h => ?_⟩
      rw [h2 h, List.append_assoc]
theorem jnB_size_eq (l : List ByteArray) : (jnB l).size = (jn l []).length := str_size _
/-- Two texts, of which the second is the whole. -/
def Rz (x y : ByteArray) : Prop := (x.size ≤ 4096 → y = x) ∧ (4096 < x.size → 4096 < y.size)
theorem Rz.refl (x : ByteArray) : Rz x x := ⟨fun _ => rfl, fun h => h⟩
def RL : List ByteArray → List ByteArray → Prop
  | [], [] => True
  | x :: l, y :: m => Rz x y ∧ RL l m
  | _, _ => False
theorem RL.eq : ∀ {l m : List ByteArray}, RL l m → (∀ x ∈ l, x.size ≤ 4096) → m = l := by
  intro l
  induction l with
  | nil => intro m h _; cases m with
    | nil => rfl
    | cons y m => exact h.elim
  | cons x l ih => intro m h hs; cases m with
    | nil => exact h.elim
    | cons y m => rw [h.1.1 (hs x List.mem_cons_self), ih h.2 fun z hz => hs z (List.mem_cons_of_mem _ hz)]
theorem RL.big : ∀ {l m : List ByteArray}, RL l m → (∃ x ∈ l, 4096 < x.size) → ∃ y ∈ m, 4096 < y.size := by
  intro l
  induction l with
  | nil => intro m h ⟨x, hx, _⟩; cases hx
  | cons x l ih => intro m h hs; cases m with
    | nil => exact h.elim
    | cons y m =>
      obtain ⟨z, hz, hb⟩ := hs
      rcases List.mem_cons.1 hz with rfl | hz
      · exact ⟨y, List.mem_cons_self, h.1.2 hb⟩
      · obtain ⟨u, hu, hb⟩ := ih h.2 ⟨z, hz, hb⟩
        exact ⟨u, List.mem_cons_of_mem _ hu, hb⟩
theorem rz_join {l m : List ByteArray} (h : RL l m) : Rz (jnB l) (catB m) := by
  have hj := jn_cat l []
  rw [List.length_nil, Nat.zero_add, List.nil_append] at hj
  by_cases hb : ∃ x ∈ l, 4096 < x.size
  · obtain ⟨y, hy, hyb⟩ := h.big hb
    have h1 := cat_mem hy
    refine ⟨fun hs => ?_, fun _ => by rw [catB_size]; omega⟩
    rw [jnB_size_eq] at hs
    obtain ⟨x, hx, hxb⟩ := hb
    have h2 := cat_mem hx
    rw [hj.2 hs] at hs
    omega
  · have he : m = l := h.eq fun x hx => by
      rcases Nat.lt_or_ge 4096 x.size with q | q
      · exact absurd ⟨x, hx, q⟩ hb
      · exact q
    subst he
    refine ⟨fun hs => ?_, fun hs => ?_⟩
    · rw [jnB_size_eq] at hs
      unfold jnB catB
      rw [hj.2 hs]
    · rw [jnB_size_eq] at hs
      rw [catB_size]
      omega
theorem RL.row : ∀ {l m : List ByteArray}, RL l m → RL (rowP l) (rowP m) := by
  have aux : ∀ {l m : List ByteArray}, RL l m → RL (l.map fun y => [(⟨#[44]⟩ : ByteArray), y]).flatten (m.map fun y => [(⟨#[44]⟩ : ByteArray), y]).flatten := by
    intro l
    induction l with
    | nil => intro m h; cases m with
      | nil => trivial
      | cons y m => exact h.elim
    | cons x l ih => intro m h; cases m with
      | nil => exact h.elim
      | cons y m => exact ⟨Rz.refl _, h.1, ih h.2⟩
  intro l m h
  cases l with
  | nil => cases m with
    | nil => trivial
    | cons y m => exact h.elim
  | cons x l => cases m with
    | nil => exact h.elim
    | cons y m => exact ⟨h.1, aux h.2⟩
def memG (f : Tr → Option ByteArray) (k u : Tr) : Option ByteArray := if k.kind = 5 then (f u).map fun x => catB [strOfNums (escA (bs k.txt)), ⟨#[58]⟩, x] else none
/-- A TREE's WHOLE TEXT. -/
def txF : Nat → Tr → Option ByteArray
  | 0, _ => none
  | d + 1, t =>
    if t.kind = 0 then some sNull
    else if t.kind = 1 then some (if t.num = 1 then sTrue else sFalse)
    else if t.kind = 2 then some (catB [sign t.neg, t.dig])
    else if t.kind = 3 then some (textA t.neg t.dig t.exp)
    else if t.kind = 5 then some (strOfNums (escA (bs t.txt)))
    else if t.kind = 7 then (optAll (t.kids.map (txF d))).map fun l => catB [⟨#[91]⟩, catB (rowP l), ⟨#[93]⟩]
    else if t.kind = 8 then (optAll (List.zipWith (memG (txF d)) t.keys t.kids)).map fun l => catB [⟨#[123]⟩, catB (rowP l), ⟨#[125]⟩]
    else none
/-- The one has a text just if the other has. -/
def RO (x y : Option ByteArray) : Prop := match x, y with
  | none, none => True
  | some a, some b => Rz a b
  | _, _ => False
theorem ro_all : ∀ {l m : List (Option ByteArray)}, l.length = m.length → (∀ (i : Nat) (x y : Option ByteArray), l[i]? = some x → m[i]? = some y → RO x y) → (optAll l = none ∧ optAll m = none) ∨ ∃ a b, optAll l = some a ∧ optAll m = some b ∧ RL a b := by
  intro l
  induction l with
  | nil => intro m hl _; cases m with
    | nil => exact .inr ⟨[], [], rfl, rfl, trivial⟩
    | cons y m => cases hl
  | cons x l ih => intro m hl h; cases m with
    | nil => cases hl
    | cons y m =>
      have h0 := h 0 x y rfl rfl
      have hr := ih (m := m) (by simpa using hl) (fun i a b ha hb => h (i + 1) a b (by simpa using ha) (by simpa using hb))
      cases x with
      | none => cases y with
        | none => exact .inl ⟨rfl, rfl⟩
        | some y => exact h0.elim
      | some x => cases y with
        | none => exact h0.elim
        | some y =>
          rcases hr with ⟨h1, h2⟩ | ⟨a, b, h1, h2, h3⟩
          · exact .inl ⟨by rw [optAll, h1]; rfl, by rw [optAll, h2]; rfl⟩
          · exact .inr ⟨x :: a, y :: b, by rw [optAll, h1]; rfl, by rw [optAll, h2]; rfl, h0, h3⟩
/-- WHAT IS KEPT OF A TEXT IS THE WHOLE OF IT, IF IT IS SHORT ENOUGH; else the whole is too long, too. -/
theorem tx_full : ∀ (d : Nat) (t : Tr), RO (txT d t) (txF d t) := by
  intro d
  induction d with
  | zero => intro t; trivial
  | succ d ih =>
    intro t
    rw [txT, txF]
    by_cases k0 : t.kind = 0
    · rw [if_pos k0, if_pos k0]; exact Rz.refl _
    rw [if_neg k0, if_neg k0]
    by_cases k1 : t.kind = 1
    · rw [if_pos k1, if_pos k1]; exact Rz.refl _
    rw [if_neg k1, if_neg k1]
    by_cases k2 : t.kind = 2
    · rw [if_pos k2, if_pos k2]; exact rz_join ⟨Rz.refl _, Rz.refl _, trivial⟩
    rw [if_neg k2, if_neg k2]
    by_cases k3 : t.kind = 3
    · rw [if_pos k3, if_pos k3]; exact Rz.refl _
    rw [if_neg k3, if_neg k3]
    by_cases k5 : t.kind = 5
    · rw [if_pos k5, if_pos k5]; exact Rz.refl _
    rw [if_neg k5, if_neg k5]
    by_cases k7 : t.kind = 7
    · rw [if_pos k7, if_pos k7]
      rcases ro_all (l := t.kids.map (txT d)) (m := t.kids.map (txF d)) (by simp) (fun i x y hx hy => by
        rw [List.getElem?_map] at hx hy
        cases hk : t.kids[i]? with
        | none => rw [hk] at hx; cases hx
        | some u => rw [hk] at hx hy; cases hx; cases hy; exact ih u) with ⟨h1, h2⟩ | ⟨a, b, h1, h2, h3⟩
      · rw [h1, h2]; trivial
      · rw [h1, h2]; exact rz_join ⟨Rz.refl _, rz_join h3.row, Rz.refl _, trivial⟩
    rw [if_neg k7, if_neg k7]
    by_cases k8 : t.kind = 8
    · rw [if_pos k8, if_pos k8]
      rcases ro_all (l := List.zipWith (memF (txT d)) t.keys t.kids) (m := List.zipWith (memG (txF d)) t.keys t.kids) (by simp) (fun i x y hx hy => by
        rw [List.getElem?_zipWith] at hx hy
        cases hk : t.keys[i]? with
        | none => rw [hk] at hx; cases hx
        | some k =>
          cases hu : t.kids[i]? with
          | none => rw [hk, hu] at hx; cases hx
          | some u =>
            rw [hk, hu] at hx hy
            cases hx
            cases hy
            unfold memF memG
            by_cases k5 : k.kind = 5
            · rw [if_pos k5, if_pos k5]
              have hr := ih u
              cases hxu : txT d u with
              | none => cases hyu : txF d u with
                | none => trivial
                | some y => rw [hxu, hyu] at hr; exact hr.elim
              | some x => cases hyu : txF d u with
                | none => rw [hxu, hyu] at hr; exact hr.elim
                | some y => rw [hxu, hyu] at hr; exact rz_join ⟨Rz.refl _, Rz.refl _, hr, trivial⟩
            · rw [if_neg k5, if_neg k5]; trivial) with ⟨h1, h2⟩ | ⟨a, b, h1, h2, h3⟩
      · rw [h1, h2]; trivial
      · rw [h1, h2]; exact rz_join ⟨Rz.refl _, rz_join h3.row, Rz.refl _, trivial⟩
    rw [if_neg k8, if_neg k8]
    trivial
end Go.Proofs.YtelabgonpmafpaaGreatDoor
namespace Go.Proofs.YtelabgonpmafpaaGreatDoor
open Go.RowKit
set_option linter.unusedVariables false
theorem al_clean {t : Tr} (h : alF t = 0) : t.bare = t := by
  have ho := Tr.alo_odd h
  unfold Tr.odd at ho
  simp only [Bool.or_eq_false_iff, Bool.and_eq_false_imp, decide_eq_true_eq, decide_eq_false_iff_not, Bool.not_eq_false', Classical.not_not] at ho
  exact (Tr.clean_iff t).1 ho.1.1.1.1.2
theorem al_keys {t : Tr} (h : alF t = 0) (k : t.kind ≠ 8) : t.keys = [] := by
  have := congrArg Tr.keys (al_clean h)
  simp only [Tr.bare, if_neg k] at this
  exact this.symm
theorem al_kids {t : Tr} (h : alF t = 0) (k : ¬ (t.kind = 7 ∨ t.kind = 8 ∨ t.kind = 9)) : t.kids = [] := by
  have := congrArg Tr.kids (al_clean h)
  simp only [Tr.bare, if_neg k] at this
  exact this.symm
theorem opt_is {l : List (Option ByteArray)} : (optAll l).isSome = true ↔ ∀ x ∈ l, x.isSome = true := by
  constructor
  · intro h x hx
    cases ho : optAll l with
    | none => rw [ho] at h; cases h
    | some m => rw [opt_mem ho] at hx; obtain ⟨y, _, rfl⟩ := List.mem_map.1 hx; rfl
  · intro h
    induction l with
    | nil => rfl
    | cons x l ih =>
      have h1 := h x List.mem_cons_self
      cases x with
      | none => cases h1
      | some x =>
        have h2 := ih fun y hy => h y (List.mem_cons_of_mem _ hy)
        cases ho : optAll l with
        | none => rw [ho] at h2; cases h2
        | some m => rw [optAll, ho]; rfl
theorem zip_all {f : Tr → Tr → Option ByteArray} : ∀ {k l : List Tr}, k.length = l.length → ((∀ x ∈ List.zipWith f k l, x.isSome = true) ↔ ∀ i (h1 : i < k.length) (h2 : i < l.length), (f k[i] l[i]).isSome = true) := by
  intro k l hl
  constructor
  · intro h i h1 h2
    refine h _ ?_
    rw [List.mem_iff_getElem?]
    exact ⟨i, by rw [List.getElem?_zipWith, List.getElem?_eq_getElem h1, List.getElem?_eq_getElem h2]⟩
  · intro h x hx
    obtain ⟨i, hi⟩ := List.mem_iff_getElem?.1 hx
    rw [List.getElem?_zipWith] at hi
    rcases Nat.lt_or_ge i k.length with q | q
    · rw [List.getElem?_eq_getElem q, List.getElem?_eq_getElem (by omega)] at hi
      have := h i q (by omega)
      cases hi
      exact this
    · rw [List.getElem?_eq_none q] at hi; cases hi
theorem memG_is {f : Tr → Option ByteArray} {k u : Tr} : (memG f k u).isSome = true ↔ k.kind = 5 ∧ (f u).isSome = true := by
  unfold memG
  by_cases h : k.kind = 5
  · rw [if_pos h]; cases f u <;> simp [h]
  · rw [if_neg h]; simp [h]
/-- A TREE HAS A TEXT just if its Kind may be told, its Keys are Texts and its Kids have one. -/
theorem tx_is {d : Nat} {t : Tr} (h : alF t = 0) : (txF (d + 1) t).isSome = true ↔ (t.kind ≤ 8 ∧ t.kind ≠ 4 ∧ t.kind ≠ 6) ∧ (∀ i (hi : i < t.keys.length), (t.keys[i]).kind = 5) ∧ (∀ i (hi : i < t.kids.length), (txF d t.kids[i]).isSome = true) := by
  have ho := Tr.alo_odd h
  unfold Tr.odd at ho
  simp only [Bool.or_eq_false_iff, Bool.and_eq_false_imp, decide_eq_true_eq, decide_eq_false_iff_not, Bool.not_eq_false', Classical.not_not] at ho
  have hk0 : 0 ≤ t.kind := by have := ho.1.1.1.1.1.1; omega
  have leaf : ¬ (t.kind = 7 ∨ t.kind = 8 ∨ t.kind = 9) → (∀ i (hi : i < t.keys.length), (t.keys[i]).kind = 5) ∧ (∀ i (hi : i < t.kids.length), (txF d t.kids[i]).isSome = true) := fun q => by
    have e1 := al_keys h (fun e => q (.inr (.inl e)))
    have e2 := al_kids h q
    exact ⟨fun i hi => by rw [e1] at hi; simp at hi, fun i hi => by rw [e2] at hi; simp at hi⟩
  rw [txF]
  by_cases k0 : t.kind = 0
  · rw [if_pos k0]; exact ⟨fun _ => ⟨by omega, leaf (by omega)⟩, fun _ => rfl⟩
  rw [if_neg k0]
  by_cases k1 : t.kind = 1
  · rw [if_pos k1]; exact ⟨fun _ => ⟨by omega, leaf (by omega)⟩, fun _ => rfl⟩
  rw [if_neg k1]
  by_cases k2 : t.kind = 2
  · rw [if_pos k2]; exact ⟨fun _ => ⟨by omega, leaf (by omega)⟩, fun _ => rfl⟩
  rw [if_neg k2]
  by_cases k3 : t.kind = 3
  · rw [if_pos k3]; exact ⟨fun _ => ⟨by omega, leaf (by omega)⟩, fun _ => rfl⟩
  rw [if_neg k3]
  by_cases k5 : t.kind = 5
  · rw [if_pos k5]; exact ⟨fun _ => ⟨by omega, leaf (by omega)⟩, fun _ => rfl⟩
  rw [if_neg k5]
  by_cases k7 : t.kind = 7
  · rw [if_pos k7, Option.isSome_map, opt_is]
    have e1 := al_keys h (by omega)
    constructor
    · intro q
      refine ⟨by omega, fun i hi => by rw [e1] at hi; simp at hi, fun i hi => q _ (List.mem_map_of_mem (List.getElem_mem hi))⟩
    · rintro ⟨_, _, q⟩ x hx
      obtain ⟨u, hu, rfl⟩ := List.mem_map.1 hx
      obtain ⟨i, hi, rfl⟩ := List.getElem_of_mem hu
      exact q i hi
  rw [if_neg k7]
  by_cases k8 : t.kind = 8
  · rw [if_pos k8, Option.isSome_map, opt_is, zip_all (al_map h k8)]
    have hl := al_map h k8
    constructor
    · intro q
      exact ⟨by omega, fun i hi => (memG_is.1 (q i hi (by omega))).1, fun i hi => (memG_is.1 (q i (by omega) hi)).2⟩
    · rintro ⟨_, q1, q2⟩ i h1 h2
      exact memG_is.2 ⟨q1 i h1, q2 i h2⟩
  rw [if_neg k8]
  exact ⟨(fun q => by cases q), (fun q => by have := q.1; omega)⟩
theorem cat_app (l m : List ByteArray) : cat (l ++ m) = cat l ++ cat m := by
  induction l with
  | nil => rfl
  | cons x l ih => rw [List.cons_append, cat_cons, ih, cat_cons, List.append_assoc]
/-- A row's length, by its parts'. -/
theorem row_len (l : List ByteArray) : (cat (rowP l)).length ≤ (l.map fun x => x.size + 1).sum := by
  have aux : ∀ l : List ByteArray, (cat (l.map fun y => [(⟨#[44]⟩ : ByteArray), y]).flatten).length = (l.map fun x => x.size + 1).sum := by
    intro l
    induction l with
    | nil => rfl
    | cons x l ih =>
      rw [List.map_cons, List.flatten_cons, List.map_cons, List.sum_cons, cat_app, List.length_append, ih]
      show ([(44 : Int)] ++ (bs x ++ [])).length + _ = _
      simp [bs_len]; try omega
  cases l with
  | nil => simp [rowP, cat]
  | cons x l =>
    rw [rowP, cat_cons, List.length_append, aux, bs_len, List.map_cons, List.sum_cons]
    omega
theorem sum_le {l : List Tr} {m : List ByteArray} {f : Tr → Option ByteArray} (h : l.map f = m.map some) (hb : ∀ u ∈ l, ∀ s, f u = some s → s.size + 1 ≤ 30000 * u.size) : (m.map fun x => x.size + 1).sum ≤ 30000 * Tr.sizes l := by
  induction l generalizing m with
  | nil => cases m with
    | nil => simp [Tr.sizes_nil]
    | cons y m => simp at h
  | cons a l ih => cases m with
    | nil => simp at h
    | cons y m =>
      simp only [List.map_cons, List.cons.injEq] at h
      have h1 := hb a List.mem_cons_self y h.1
      have h2 := ih h.2 (fun u hu => hb u (List.mem_cons_of_mem _ hu))
      rw [List.map_cons, List.sum_cons, Tr.sizes_cons]
      omega
theorem sumZ_le {d : Nat} : ∀ {k l : List Tr} {m : List ByteArray}, k.length = l.length → List.zipWith (memG (txF d)) k l = m.map some → (∀ u ∈ k, u.kind = 5 → u.txt.size ≤ 4096) → (∀ u ∈ l, ∀ s, txF d u = some s → s.size + 1 ≤ 30000 * u.size) → (m.map fun x => x.size + 1).sum ≤ 30000 * Tr.sizes k + 30000 * Tr.sizes l := by
  intro k
  induction k with
  | nil => intro l m hl h _ _; cases m with
    | nil => simp
    | cons y m => simp at h
  | cons a k ih => intro l m hl h ha hb; cases l with
    | nil => simp at hl
    | cons b l => cases m with
      | nil => simp at h
      | cons y m =>
        simp only [List.zipWith_cons_cons, List.map_cons, List.cons.injEq] at h
        have h2 := ih (by simpa using hl) h.2 (fun u hu => ha u (List.mem_cons_of_mem _ hu)) (fun u hu => hb u (List.mem_cons_of_mem _ hu))
        have h1 := h.1
        unfold memG at h1
        by_cases k5 : a.kind = 5
        · rw [if_pos k5] at h1
          cases hz : txF d b with
          | none => rw [hz] at h1; cases h1
          | some z =>
            rw [hz] at h1
            simp only [Option.map_some, Option.some.injEq] at h1
            have h3 := hb b List.mem_cons_self z hz
            have h4 := ha a List.mem_cons_self k5
            have h5 := esc_size a.txt
            have h6 := Tr.size_pos a
            have e : y.size = (strOfNums (escA (bs a.txt))).size + 1 + z.size := by
              rw [← h1, catB_size, cat_cons, cat_cons, cat_cons, cat_nil, List.length_append, List.length_append, List.length_append, bs_len, bs_len, bs_len]
              show _ + (1 + (_ + 0)) = _
              omega
            rw [List.map_cons, List.sum_cons, Tr.sizes_cons, Tr.sizes_cons]
            omega
        · rw [if_neg k5] at h1; cases h1
/-- HOW LONG A WHOLE TEXT MAY BE. -/
theorem txF_size : ∀ (d : Nat) (t : Tr) (s : ByteArray), t.All (fun u => alF u = 0) → txF d t = some s → s.size + 1 ≤ 30000 * t.size := by
  intro d
  induction d with
  | zero => intro t s _ h; cases h
  | succ d ih =>
    intro t s ha h
    obtain ⟨h0, hk, hi⟩ := (Tr.all_eq _ t).1 ha
    have hp := Tr.size_pos t
    rw [txF] at h
    by_cases k0 : t.kind = 0
    · rw [if_pos k0] at h; cases h; have : sNull.size = 4 := rfl; omega
    rw [if_neg k0] at h
    by_cases k1 : t.kind = 1
    · rw [if_pos k1] at h; cases h; split
      · have : sTrue.size = 4 := rfl; omega
      · have : sFalse.size = 5 := rfl; omega
    rw [if_neg k1] at h
    by_cases k2 : t.kind = 2
    · rw [if_pos k2] at h; cases h
      have := (al_dig h0 k2).1
      have := sign_size t.neg
      rw [catB_size, cat_cons, cat_cons, cat_nil, List.append_nil, List.length_append, bs_len, bs_len]
      omega
    rw [if_neg k2] at h
    by_cases k3 : t.kind = 3
    · rw [if_pos k3] at h; cases h; have := text_size t.neg t.dig t.exp; omega
    rw [if_neg k3] at h
    by_cases k5 : t.kind = 5
    · rw [if_pos k5] at h; cases h; have := esc_size t.txt; have := (al_txt h0 k5).1; omega
    rw [if_neg k5] at h
    have hs := Tr.size_eq t
    have two : ∀ (a b : UInt8) (l : List ByteArray), (catB [⟨#[a]⟩, catB (rowP l), ⟨#[b]⟩]).size = 2 + (cat (rowP l)).length := fun a b l => by
      rw [catB_size, cat_cons, cat_cons, cat_cons, cat_nil, List.length_append, List.length_append, List.length_append, bs_len, bs_len, bs_len, catB_size]
      show 1 + (_ + (1 + 0)) = _
      omega
    by_cases k7 : t.kind = 7
    · rw [if_pos k7] at h
      cases ho : optAll (t.kids.map (txF d)) with
      | none => rw [ho] at h; cases h
      | some l =>
        rw [ho] at h; simp only [Option.map_some, Option.some.injEq] at h; subst h
        have h1 := sum_le (opt_mem ho) (fun u hu s h => ih u s (hi u hu) h)
        have h2 := row_len l
        rw [two]
        omega
    rw [if_neg k7] at h
    by_cases k8 : t.kind = 8
    · rw [if_pos k8] at h
      cases ho : optAll (List.zipWith (memG (txF d)) t.keys t.kids) with
      | none => rw [ho] at h; cases h
      | some l =>
        rw [ho] at h; simp only [Option.map_some, Option.some.injEq] at h; subst h
        have h1 := sumZ_le (al_map h0 k8) (opt_mem ho) (fun u hu k5 => (al_txt ((Tr.all_eq _ u).1 (hk u hu)).1 k5).1) (fun u hu s h => ih u s (hi u hu) h)
        have h2 := row_len l
        rw [two]
        omega
    rw [if_neg k8] at h
    cases h
end Go.Proofs.YtelabgonpmafpaaGreatDoor
namespace Go.Proofs.YtelabgonpmafpaaGreatDoor
open Go.RowKit
set_option linter.unusedVariables false
set_option maxHeartbeats 1000000 in
set_option maxRecDepth 100000 in
theorem len_bb {w : World} {g B : Nat} {zs : List Int} (h : BB w g B zs) : Calls Tryz.prog 76 #[.pointer (some ⟨g, 0, none⟩)] w fun e w' => e = .returned (.int .i64 zs.length) ∧ Below w.heap.size w w' := by
  obtain ⟨cs, p, v, h⟩ := h
  obtain ⟨a, n, cap, rfl, hn, _, hc, hm, _⟩ := h.row.form
  have c1 : w.cell? ⟨g, 1, none⟩ = some (.slice a n cap) := by rw [h.blk.cell 1]; exact h.buf
  rw [hn.out]
  clear h hn
  go_enter Tryz.func76, Tryz.ntmps76
  go_wp2
  go_ret
  exact ⟨rfl, by first | exact Below.refl _ _ | exact (Below.refl _ _).drew⟩
theorem Strs.get {w : World} {b off : Nat} {l : List ByteArray} (hb : Strs w (some ⟨b, off, none⟩) l) {i : Nat} (hi : i < l.length) : w.cell? ⟨b, off + i, none⟩ = some (.string l[i]) := by
  have := hb.cell hi
  rw [List.getD_eq_getElem?_getD, List.getElem?_eq_getElem hi] at this
  exact this
set_option maxHeartbeats 2000000 in
set_option maxRecDepth 100000 in
/-- jsay.join. -/
theorem join_any (a : Option Addr) (n c : Nat) (l : List ByteArray) (w : World) (hl : l.length = n) (hb : Strs w a l) (hc : n ≤ c) (hcm : c ≤ 9223372036854775807) (hM : ∀ x ∈ l, x.size ≤ 1000000) :
    Calls Tryz.prog 47 #[.slice a n c] w fun e w' => e = .returned (.string (jnB l)) ∧ Below w.heap.size w w' := by
  have hx : Hid (l.length = n) := hl
  have hB : Hid (Strs w a l) := hb
  have hm : Hid (∀ x ∈ l, x.size ≤ 1000000) := hM
  have hal := alloc_below w (.cells #[.pointer none, .slice none 0 0] 100)
  have A0 : Hid (Below w.heap.size w (w.alloc (.cells #[.pointer none, .slice none 0 0] 100))) := hal
  have N0 : Hid (BB (w.alloc (.cells #[.pointer none, .slice none 0 0] 100)) w.heap.size (w.heap.size + 1) []) := bb_new w
  obtain ⟨R, hR⟩ : ∃ R, jn l [] = R := ⟨_, rfl⟩
  have hR' : Hid (jn (l.drop 0) [] = R) := hR
  have eR : jnB l = strOfNums R := by unfold jnB; rw [hR]
  rw [eR]
  clear hl hb hM hal hR eR
  go_enter Tryz.func47, Tryz.ntmps47
  go_wp2
  go_loopw [5, 8] (fun _ s8 wr => ∃ (i : Nat) (zs : List Int), i ≤ n ∧ s8 = .int .i64 i ∧ Hid (Below w.heap.size w wr) ∧ Hid (BB wr w.heap.size (w.heap.size + 1) zs) ∧ Hid (zs.length ≤ 4096 + 1000000) ∧ Hid (jn (l.drop i) zs = R)) (fun _ i _ => n - (intOf i).toNat)
  case atStart => exact ⟨0, [], Nat.zero_le _, rfl, A0, N0, by show _ ≤ _; simp, hR'⟩
  case round =>
    obtain ⟨i, zs, him, rfl, hbl, hN, hZ, hJ⟩ := hrel
    by_cases hlt : i < n
    · have hz : (i : Int) < (n : Int) := by omega
      have hix : i < l.length := by rw [hx.out]; exact hlt
      obtain ⟨bk, ok, rfl⟩ := strs_some hB.out (by omega)
      have hlt0 : bk < w.heap.size := hB.out.lt (by intro h; rw [h] at hix; simp at hix)
      have hck : wr.cell? ⟨bk, ok + i, none⟩ = some (.string l[i]) := (hbl.out.cell (p := ⟨bk, ok + i, none⟩) hlt0).trans (hB.out.get hix)
      have wi : IntKind.i64.wrap ((i : Int) + 1) = (i : Int) + 1 := by rw [IntKind.wrap_i64]; omega
      have hdr : Hid (l.drop i = l[i] :: l.drop (i + 1)) := List.drop_eq_getElem_cons hix
      have hsz : Hid (l[i].size ≤ 1000000) := hm.out _ (List.getElem_mem hix)
      generalize l[i] = x at *
      have kL := len_bb hN.out
      by_cases hlong : 4096 < zs.length
      · have g1 : decide ((4096 : Int) < (zs.length : Int)) = true := by simp; omega
        have hE : Hid (zs = R) := by have := hJ.out; rw [jn_stop _ hlong] at this; exact this
        obtain ⟨LN, hLN⟩ : ∃ LN, zs.length = LN := ⟨_, rfl⟩
        rw [hLN] at kL g1
        clear hJ hlong hZ hLN
        go_wp2_with (first
          | (go_at_call 76; refine kL.mono ?_; rintro e w2 ⟨rfl, hb2⟩; have hN2 : Hid (BB w2 w.heap.size (w.heap.size + 1) zs) := hN.out.on hb2; have kS := st_bb hN2.out; have b2 : Hid (Below w.heap.size w w2) := hbl.out.trans (hb2.mono hbl.out.size))
          | (go_at_call 78; refine kS.mono ?_; rintro e w3 ⟨rfl, hb3⟩))
        go_ret
        exact ⟨by rw [hE.out]; rfl, b2.out.trans (hb3.mono (Nat.le_succ _))⟩
      · have g1 : decide ((4096 : Int) < (zs.length : Int)) = false := by simp; omega
        have hJ2 : Hid (jn (l.drop (i + 1)) (zs ++ bs x) = R) := by have := hJ.out; rw [hdr.out, jn_on _ _ (by omega)] at this; exact this
        have hZ2 : Hid ((zs ++ bs x).length ≤ 4096 + 1000000) := by show _ ≤ _; rw [List.length_append, bs_len]; have := hsz.out; omega
        have hZ3 : Hid (zs.length + x.size ≤ 140737488355328) := by show _ ≤ _; have := hsz.out; omega
        obtain ⟨LN, hLN⟩ : ∃ LN, zs.length = LN := ⟨_, rfl⟩
        rw [hLN] at kL g1
        clear hJ hlong hZ hLN
        go_wp2_with (first
          | (go_at_call 76; refine kL.mono ?_; rintro e w2 ⟨rfl, hb2⟩; have hN2 : Hid (BB w2 w.heap.size (w.heap.size + 1) zs) := hN.out.on hb2; have kS := ws_bb x hN2.out hZ3.out; have b2 : Hid (Below w.heap.size w w2) := hbl.out.trans (hb2.mono hbl.out.size))
          | (go_at_call 77; refine kS.mono ?_; rintro e w3 ⟨⟨m, rfl⟩, hN3, hK3⟩; have N3 : Hid (BB w3 w.heap.size (w.heap.size + 1) (zs ++ bs x)) := hN3; have b3 : Hid (Below w.heap.size w w3) := b2.out.trans (hK3.1.below (Nat.le_succ _)); clear hN3 hK3))
        go_roundw
        case rel => exact ⟨i + 1, _, by omega, by go_num, b3, N3, hZ2, hJ2⟩
        case measure => simp [intOf]; omega
    · have hz : ¬ (i : Int) < (n : Int) := by omega
      have hE : Hid (zs = R) := by have := hJ.out; rw [List.drop_eq_nil_of_le (by rw [hx.out]; omega)] at this; exact this
      have kS := st_bb hN.out
      clear hJ hZ
      go_wp2_with (go_at_call 78; refine kS.mono ?_; rintro e w3 ⟨rfl, hb3⟩)
      go_ret
      exact ⟨by rw [hE.out]; rfl, hbl.out.trans (hb3.mono (Nat.le_succ _))⟩
end Go.Proofs.YtelabgonpmafpaaGreatDoor
namespace Go.Proofs.YtelabgonpmafpaaGreatDoor
open Go.RowKit
set_option linter.unusedVariables false
/-- What stands there behind i texts. -/
theorem rowP_snoc (l : List ByteArray) (x : ByteArray) : rowP (l ++ [x]) = rowP l ++ (if l = [] then [x] else [⟨#[44]⟩, x]) := by
  cases l with
  | nil => rfl
  | cons y l => simp [rowP]
theorem rowP_len (l : List ByteArray) : (rowP l).length ≤ 2 * l.length := by
  cases l with
  | nil => simp [rowP]
  | cons x l =>
    rw [rowP, List.length_cons, List.length_cons]
    have : (l.map fun y => [(⟨#[44]⟩ : ByteArray), y]).flatten.length = 2 * l.length := by
      induction l with
      | nil => rfl
      | cons y l ih => rw [List.map_cons, List.flatten_cons, List.length_append, ih, List.length_cons, List.length_cons]; simp; omega
    omega
set_option maxHeartbeats 2000000 in
set_option maxRecDepth 100000 in
/-- jsay.row. -/
theorem row_any (a : Option Addr) (n c : Nat) (l : List ByteArray) (w : World) (hl : l.length = n) (hb : Strs w a l) (hc : n ≤ c) (hcm : c ≤ 9223372036854775807) (hn : n ≤ 1000000) (hM : ∀ x ∈ l, x.size ≤ 1000000) :
    Calls Tryz.prog 52 #[.slice a n c] w fun e w' => e = .returned (.string (jnB (rowP l))) ∧ Below w.heap.size w w' := by
  have hx : Hid (l.length = n) := hl
  have hB : Hid (Strs w a l) := hb
  have hm : Hid (∀ x ∈ rowP l, x.size ≤ 1000000) := fun x hx => by
    rcases rowP_mem hx with h | rfl
    · exact hM x h
    · show 1 ≤ _; omega
  have hn' : Hid (n ≤ 1000000) := hn
  clear hl hb hM hn
  go_enter Tryz.func52, Tryz.ntmps52
  go_wp2
  go_loopw [3, 4, 5, 8] (fun s3 _ _ s8 wr => ∃ (i : Nat) (v : Value), i ≤ n ∧ s3 = v ∧ s8 = .int .i64 i ∧ Hid (Below w.heap.size w wr) ∧ Hid (OwnsZ wr w.heap.size v (rowP (l.take i)))) (fun _ _ _ i _ => n - (intOf i).toNat)
  case atStart => exact ⟨0, _, Nat.zero_le _, rfl, rfl, Below.refl _ _, ownsZ_nil _ _⟩
  case round =>
    obtain ⟨i, v, him, rfl, rfl, hbl, hO⟩ := hrel
    by_cases hlt : i < n
    · have hz : (i : Int) < (n : Int) := by omega
      have hix : i < l.length := by rw [hx.out]; exact hlt
      obtain ⟨bk, ok, rfl⟩ := strs_some hB.out (by omega)
      have hlt0 : bk < w.heap.size := hB.out.lt (by intro h; rw [h] at hix; simp at hix)
      have hck : wr.cell? ⟨bk, ok + i, none⟩ = some (.string l[i]) := (hbl.out.cell (p := ⟨bk, ok + i, none⟩) hlt0).trans (hB.out.get hix)
      have wi : IntKind.i64.wrap ((i : Int) + 1) = (i : Int) + 1 := by rw [IntKind.wrap_i64]; omega
      have hR : Hid (rowP (l.take (i + 1)) = rowP (l.take i) ++ (if l.take i = [] then [l[i]] else [⟨#[44]⟩, l[i]])) := by
        show _ = _
        rw [List.take_succ_eq_append_getElem hix, rowP_snoc]
      have hln : Hid ((rowP (l.take i)).length ≤ 2000000) := by
        show _ ≤ _
        have := rowP_len (l.take i)
        rw [List.length_take] at this
        have := hn'.out
        omega
      have hsz := hbl.out.size
      have hsz' : Hid (w.heap.size ≤ wr.heap.size) := hsz
      by_cases h0 : i = 0
      · have g1 : decide ((0 : Int) < (i : Int)) = false := by simp; omega
        have g2 : decide (0 < i) = false := by simp; omega
        have hR1 : Hid (rowP (l.take (i + 1)) = rowP (l.take i) ++ [l[i]]) := by have := hR.out; rw [if_pos (by rw [h0]; rfl)] at this; exact this
        generalize l[i] = x at *
        generalize rowP (l.take i) = ys at *
        clear hR hsz h0
        go_wp2_with (at_builtin; refine wpList_append_strs rfl _ _ rfl w.heap.size u3 ys [x] rfl (hO.out.alloc _) (some ⟨wr.heap.size, 0, none⟩) 1 1 rfl rfl (by simp) (one_str wr x) (by have := hln.out; simp; omega) (Nat.le_trans hsz'.out (by simp)) ?_; intro v2 w2 ho2 hg2; have b2 : Hid (Below w.heap.size w w2) := grownZ_below (hbl.out.trans ((alloc_below wr _).mono hsz'.out)) (hO.out.alloc _) hg2 (Nat.le_trans hsz'.out (by simp)); have O2 : Hid (OwnsZ w2 w.heap.size v2 (ys ++ [x])) := ho2; clear ho2 hg2)
        go_roundw
        case rel => exact ⟨i + 1, v2, by omega, rfl, by go_num, b2, by rw [hR1.out]; exact O2⟩
        case measure => simp [intOf]; omega
      · have g1 : decide ((0 : Int) < (i : Int)) = true := by simp; omega
        have g2 : decide (0 < i) = true := by simp; omega
        have hR1 : Hid (rowP (l.take (i + 1)) = (rowP (l.take i) ++ [⟨#[44]⟩]) ++ [l[i]]) := by
          have := hR.out
          rw [if_neg (by intro h; have := congrArg List.length h; rw [List.length_take, List.length_nil] at this; omega)] at this
          show _ = _
          rw [this]
          simp
        generalize l[i] = x at *
        generalize rowP (l.take i) = ys at *
        clear hR hsz h0
        go_wp2_with (first
          | (at_builtin; guard_hyp hO; refine wpList_append_strs rfl _ _ rfl w.heap.size u3 ys [⟨#[44]⟩] rfl (hO.out.alloc _) (some ⟨wr.heap.size, 0, none⟩) 1 1 rfl rfl (by simp) (one_str wr _) (by have := hln.out; simp; omega) (Nat.le_trans hsz'.out (by simp)) ?_; intro v2 w2 ho2 hg2; have b2 : Hid (Below w.heap.size w w2) := grownZ_below (hbl.out.trans ((alloc_below wr _).mono hsz'.out)) (hO.out.alloc _) hg2 (Nat.le_trans hsz'.out (by simp)); have O2 : Hid (OwnsZ w2 w.heap.size v2 (ys ++ [⟨#[44]⟩])) := ho2; clear ho2 hg2 hO)
          | (at_builtin; guard_hyp O2; refine wpList_append_strs rfl _ _ rfl w.heap.size v2 (ys ++ [⟨#[44]⟩]) [x] rfl (O2.out.alloc _) (some ⟨w2.heap.size, 0, none⟩) 1 1 rfl rfl (by simp) (one_str w2 x) (by have := hln.out; simp; omega) (Nat.le_trans b2.out.size (by simp)) ?_; intro v3 w3 ho3 hg3; have b3 : Hid (Below w.heap.size w w3) := grownZ_below (b2.out.trans ((alloc_below w2 _).mono b2.out.size)) (O2.out.alloc _) hg3 (Nat.le_trans b2.out.size (by simp)); have O3 : Hid (OwnsZ w3 w.heap.size v3 ((ys ++ [⟨#[44]⟩]) ++ [x])) := ho3; clear ho3 hg3 O2))
        go_roundw
        case rel => exact ⟨i + 1, v3, by omega, rfl, by go_num, b3, by rw [hR1.out]; exact O3⟩
        case measure => simp [intOf]; omega
    · have hz : ¬ (i : Int) < (n : Int) := by omega
      have hO' := hO.out
      rw [List.take_of_length_le (by rw [hx.out]; omega)] at hO'
      obtain ⟨a2, n2, c2, rfl, hl2, _, hc2, hm2, hb2⟩ := hO'.form
      have kJ := join_any a2 n2 c2 (rowP l) wr hl2.out hb2.out hc2 hm2 hm.out
      clear hO hO' hb2
      go_wp2_with (go_at_call 47; refine kJ.mono ?_; rintro e w3 ⟨rfl, hb3⟩)
      go_ret
      exact ⟨rfl, hbl.out.trans (hb3.mono hbl.out.size)⟩
end Go.Proofs.YtelabgonpmafpaaGreatDoor
namespace Go.Proofs.YtelabgonpmafpaaGreatDoor
open Go.RowKit
set_option linter.unusedVariables false
def TextR (x : Option ByteArray) (e : Ending) : Prop := ∃ s ok, e = .returned (.tuple #[.string s, .bool ok]) ∧ Hid ((ok = true → x = some s) ∧ (ok = false → x = none))
def KidsR (x : Option (List ByteArray)) (base : Nat) (e : Ending) (w' : World) : Prop := ∃ v ok, e = .returned (.tuple #[v, .bool ok]) ∧ Hid ((ok = true ∧ ∃ m, x = some m ∧ OwnsZ w' base v m) ∨ (ok = false ∧ v = .slice none 0 0 ∧ x = none))
/-- What jsay.textOf answers. -/
def TextAt (D : Nat) : Prop := ∀ (t : Tr) (b : Nb) (w : World), Nd D w b t → t.All (fun u => alF u = 0) → t.deep ≤ 24 → t.size ≤ 1000000 → Tab w.heap.size w →
  Calls Tryz.prog 26 #[.agg b.arr] w fun e w' => TextR (txT D t) e ∧ Below w.heap.size w w'
theorem take_map {D : Nat} {l : List Tr} {i : Nat} (hi : i < l.length) {m : List ByteArray} {s : ByteArray} (h : (l.take i).map (txT D) = m.map some) (hs : txT D l[i] = some s) : (l.take (i + 1)).map (txT D) = (m ++ [s]).map some := by
  rw [List.take_succ_eq_append_getElem hi, List.map_append, h, List.map_append]
  simp [hs]
set_option maxHeartbeats 2000000 in
set_option maxRecDepth 100000 in
/-- jsay.kidTexts. -/
theorem kids_step {D : Nat} (ih : TextAt D) (a : Option Addr) (n c : Nat) (l : List Tr) (w : World) (hl : RowN (Nd D w) w a n c l) (hA : ∀ u ∈ l, u.All (fun u => alF u = 0)) (hD : ∀ u ∈ l, u.deep ≤ 24) (hS : Tr.sizes l ≤ 1000000) (hT : Tab w.heap.size w) :
    Calls Tryz.prog 51 #[.slice a n c] w fun e w' => KidsR (optAll (l.map (txT D))) w.heap.size e w' ∧ Below w.heap.size w w' := by
  have hx : Hid (l.length = n) := hl.1
  have mk := hl.2.1.1
  have mk' := hl.2.1.2.1
  unfold maxLen at mk'
  have hR : Hid (RowN (Nd D w) w a n c l) := hl
  have hAD : Hid ((∀ u ∈ l, u.All (fun u => alF u = 0)) ∧ (∀ u ∈ l, u.deep ≤ 24)) := ⟨hA, hD⟩
  have hn' : Hid (l.length ≤ 1000000) := Nat.le_trans (Tr.length_le l) hS
  have hS' : Hid (Tr.sizes l ≤ 1000000) := hS
  have hT' : Hid (Tab w.heap.size w) := hT
  clear hl hA hD hS hT
  go_enter Tryz.func51, Tryz.ntmps51
  go_wp2
  go_loopw [4, 6, 7, 8, 11] (fun s4 _ _ _ s11 wr => ∃ (i : Nat) (v : Value) (m : List ByteArray), i ≤ n ∧ s4 = v ∧ s11 = .int .i64 i ∧ Hid (Below w.heap.size w wr) ∧ Hid (OwnsZ wr w.heap.size v m) ∧ Hid ((l.take i).map (txT D) = m.map some)) (fun _ _ _ _ i _ => n - (intOf i).toNat)
  case atStart => exact ⟨0, _, [], Nat.zero_le _, rfl, rfl, Below.refl _ _, ownsZ_nil _ _, rfl⟩
  case round =>
    obtain ⟨i, v, m, him, rfl, rfl, hbl, hO, hM⟩ := hrel
    by_cases hlt : i < n
    · have hz : (i : Int) < (n : Int) := by omega
      have hix : i < l.length := by rw [hx.out]; exact hlt
      obtain ⟨bk, ok, nk, rfl, hck, hNk, hbk⟩ := row_el hR.out hbl.out hix
      obtain ⟨f0, f1, f2, f3, f4, f5, f6, f7, f8⟩ := elem_fields hck
      have hal := alloc_below wr (.cells nk.arr 26)
      have hB : Hid (Below wr.heap.size wr (wr.alloc (.cells nk.arr 26))) := hal
      have hBw : Hid (Below w.heap.size w (wr.alloc (.cells nk.arr 26))) := hbl.out.trans (hal.mono hbl.out.size)
      have kk := ih l[i] nk (wr.alloc (.cells nk.arr 26)) (hNk.kept hal) (hAD.out.1 _ (List.getElem_mem hix)) (hAD.out.2 _ (List.getElem_mem hix)) (Nat.le_trans (Tr.size_le (List.getElem_mem hix)) hS'.out) ((hT'.out.on hBw.out).up hBw.out.size)
      have wi : IntKind.i64.wrap ((i : Int) + 1) = (i : Int) + 1 := by rw [IntKind.wrap_i64]; omega
      have hTM : Hid (∀ s, txT D l[i] = some s → (l.take (i + 1)).map (txT D) = (m ++ [s]).map some) := fun s hs => take_map hix hM.out hs
      have hTN : Hid (txT D l[i] = none → optAll (l.map (txT D)) = none) := fun h => opt_none i (by rw [List.getElem?_map, List.getElem?_eq_getElem hix]; simp [h])
      have hml : Hid (m.length ≤ 1000000) := by show _ ≤ _; have := congrArg List.length hM.out; simp at this; have := hn'.out; omega
      have bx := (nbox_new wr nk).fields
      obtain ⟨q0, q1, q2, q3, q4, q5, q6, q7, q8⟩ := bx
      generalize txT D l[i] = tx at *
      clear hck hNk hbk hal
      go_wp2_with fail
      refine kk.mono ?_
      rintro e w2 ⟨⟨s, okv, rfl, hs⟩, hb2⟩
      have b2 : Hid (Below w.heap.size w w2) := hBw.out.trans (hb2.mono hBw.out.size)
      have O2 : Hid (OwnsZ w2 w.heap.size u4 m) := (hO.out.below hB.out).below (hb2.mono (Nat.le_refl _))
      clear hb2 kk hO hB hBw
      cases okv with
      | true =>
        have hs1 : Hid ((l.take (i + 1)).map (txT D) = (m ++ [s]).map some) := hTM.out s (hs.out.1 rfl)
        clear hs hTM hTN
        go_wp2_with (at_builtin; refine wpList_append_strs rfl _ _ rfl w.heap.size u4 m [s] rfl (O2.out.alloc _) (some ⟨w2.heap.size, 0, none⟩) 1 1 rfl rfl (by simp) (one_str w2 s) (by have := hml.out; simp; omega) (Nat.le_trans b2.out.size (by simp)) ?_; intro v3 w3 ho3 hg3; have b3 : Hid (Below w.heap.size w w3) := grownZ_below (b2.out.trans ((alloc_below w2 _).mono b2.out.size)) (O2.out.alloc _) hg3 (Nat.le_trans b2.out.size (by simp)); have O3 : Hid (OwnsZ w3 w.heap.size v3 (m ++ [s])) := ho3; clear ho3 hg3 O2)
        go_roundw
        case rel => exact ⟨i + 1, v3, m ++ [s], by omega, rfl, by go_num, b3, O3, hs1⟩
        case measure => simp [intOf]; omega
      | false =>
        have hs0 : Hid (optAll (l.map (txT D)) = none) := hTN.out (hs.out.2 rfl)
        clear hs hTM hTN
        go_wp2_with fail
        refine bodyPost_ret (v := .tuple #[.slice none 0 0, .bool false]) (by simp [results, Tryz.results51, go_sem, *]) rfl ⟨⟨_, _, rfl, .inr ⟨rfl, rfl, hs0.out⟩⟩, b2.out⟩
    · have hz : ¬ (i : Int) < (n : Int) := by omega
      have hM' : Hid (optAll (l.map (txT D)) = some m) := by
        have := hM.out
        rw [List.take_of_length_le (by rw [hx.out]; omega)] at this
        show _ = _
        rw [this]
        exact opt_some m
      clear hM
      go_wp2_with fail
      refine bodyPost_ret (v := .tuple #[u4, .bool true]) (by simp [results, Tryz.results51, go_sem, *]) rfl ⟨⟨_, _, rfl, .inl ⟨rfl, m, hM'.out, hO.out⟩⟩, hbl.out⟩
end Go.Proofs.YtelabgonpmafpaaGreatDoor
