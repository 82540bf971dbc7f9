/-
  A tree's text has no byte of a gap outside of strings, as plain data.
  A tree's whole text, as plain data: where it is short enough nothing of it was left out.
  Trees that have the same text are the same, as plain data.
  Trees that have the same text are the same, as plain data: rows, and the whole.
  Trees that have the same text are the same.
-/
import Derived.Test.YtelabgonpmafpaaDoorU11
namespace Go.Proofs.YtelabgonpmafpaaDoor
open Go.RowKit
set_option linter.unusedVariables false
/-- What a byte does: 0 outside of strings, 1 within, 2 behind a backslash within, 9 a byte that may not be. -/
def tgS (s : Nat) (c : Int) : Nat := if s = 2 then 1 else if s = 1 then (if c = 92 then 2 else if c = 34 then 0 else 1) else if s = 0 then (if c = 34 then 1 else if c ≤ 32 ∨ 126 < c then 9 else 0) else 9
def tgL (s : Nat) (l : List Int) : Nat := l.foldl tgS s
theorem tgL_cons (s : Nat) (c : Int) (l : List Int) : tgL s (c :: l) = tgL (tgS s c) l := rfl
def Tight (x : ByteArray) : Prop := tgL 0 (bs x) = 0
theorem bs_range (x : ByteArray) : ∀ c ∈ bs x, 0 ≤ c ∧ c < 256 := by
  intro c hc
  unfold bs at hc
  obtain ⟨b, _, rfl⟩ := List.mem_map.1 hc
  have := b.toNat_lt
  omega
theorem tg_plain (l : List Int) (h : ∀ c ∈ l, 33 ≤ c ∧ c ≤ 126 ∧ c ≠ 34) : tgL 0 l = 0 := by
  induction l with
  | nil => rfl
  | cons c l ih =>
    obtain ⟨h1, h2, h3⟩ := h c List.mem_cons_self
    rw [tgL_cons]
    have e : tgS 0 c = 0 := by
      unfold tgS
      rw [if_neg (by decide), if_neg (by decide), if_pos rfl, if_neg h3, if_neg (by omega)]
    rw [e]
    exact ih fun x hx => h x (List.mem_cons_of_mem _ hx)
theorem num_digits (n : Nat) : ∀ c ∈ numL n, 48 ≤ c ∧ c ≤ 57 := by
  induction n using Nat.strongRecOn with
  | _ n ih =>
    by_cases h : n < 10
    · rw [num_small h]; intro c hc; simp at hc; omega
    · rw [num_big (by omega)]
      intro c hc
      rcases List.mem_append.1 hc with q | q
      · exact ih (n / 10) (by omega) c q
      · simp at q; omega
theorem rt_digits {s : ByteArray} (h : rt s = true) : ∀ c ∈ bs s, 48 ≤ c ∧ c ≤ 57 := by
  unfold rt rightT at h
  simp only [Bool.and_eq_true, List.all_eq_true, decide_eq_true_eq] at h
  exact h.2.2.2
theorem tight_text (n : Bool) (s : ByteArray) (x : Int) : Tight (textA n s x) := by
  unfold Tight textA
  by_cases h : rtN n s x = true
  · rw [if_pos h]
    have hd : ∀ c ∈ bs s, 48 ≤ c ∧ c ≤ 57 := by
      unfold rtN at h
      by_cases h0 : bs s = [48]
      · rw [h0]; intro c hc; simp at hc; omega
      · rw [if_neg h0] at h
        simp only [Bool.and_eq_true] at h
        exact rt_digits h.1
    have hi : ∀ c ∈ itoaL x, 33 ≤ c ∧ c ≤ 126 ∧ c ≠ 34 := by
      unfold itoaL
      intro c hc
      split at hc
      · rcases List.mem_cons.1 hc with rfl | q
        · omega
        · have := num_digits _ c q; omega
      · have := num_digits _ c hc; omega
    have hp : ∀ c ∈ textL n (bs s) x, 33 ≤ c ∧ c ≤ 126 ∧ c ≠ 34 := by
      unfold textL
      intro c hc
      rcases List.mem_append.1 hc with q | q
      · rcases List.mem_append.1 q with q | q
        · split at q
          · simp at q; omega
          · cases q
        · have := hd c q; omega
      · split at q
        · cases q
        · rcases List.mem_cons.1 q with rfl | q
          · omega
          · exact hi c q
    rw [bs_str (fun c hc => by have := hp c hc; omega)]
    exact tg_plain _ hp
  · rw [if_neg h]; rfl
end Go.Proofs.YtelabgonpmafpaaDoor
namespace Go.Proofs.YtelabgonpmafpaaDoor
open Go.RowKit
set_option linter.unusedVariables false
def cat (l : List ByteArray) : List Int := (l.map bs).flatten
def catB (l : List ByteArray) : ByteArray := strOfNums (cat l)
theorem cat_nil : cat [] = [] := rfl
theorem cat_cons (x : ByteArray) (l : List ByteArray) : cat (x :: l) = bs x ++ cat l := by simp [cat]
theorem cat_range (l : List ByteArray) : ∀ c ∈ cat l, 0 ≤ c ∧ c < 256 := by
  induction l with
  | nil => intro c hc; cases hc
  | cons x l ih =>
    intro c hc
    rw [cat_cons] at hc
    rcases List.mem_append.1 hc with h | h
    · exact bs_range x c h
    · exact ih c h
theorem catB_bs (l : List ByteArray) : bs (catB l) = cat l := bs_str (cat_range l)
theorem catB_size (l : List ByteArray) : (catB l).size = (cat l).length := by unfold catB; exact str_size _
theorem cat_mem {l : List ByteArray} {x : ByteArray} (h : x ∈ l) : x.size ≤ (cat l).length := by
  induction l with
  | nil => cases h
  | cons y l ih =>
    rw [cat_cons, List.length_append, bs_len]
    rcases List.mem_cons.1 h with rfl | h
    · omega
    · have := ih h; omega
/-- What join keeps begins the whole; and is it, if it is short enough. -/
theorem jn_cat (l : List ByteArray) : ∀ acc, (jn l acc).length ≤ acc.length + (cat l).length ∧ ((jn l acc).length ≤ 4096 → jn l acc = acc ++ cat l) := by
  induction l with
  | nil => intro acc; rw [jn, cat_nil, List.append_nil]; exact ⟨by simp, fun _ => rfl⟩
  | cons x l ih =>
    intro acc
    rw [jn, cat_cons]
    split
    · exact ⟨by omega, fun h => by omega⟩
    · obtain ⟨h1, h2⟩ := ih (acc ++ bs x)
      rw [List.length_append] at h1
      refine ⟨by rw [List.length_append]; omega, fun h => ?_⟩
      rw [h2 h, List.append_assoc]
theorem jnB_size_eq (l : List ByteArray) : (jnB l).size = (jn l []).length := str_size _
/-- Two texts, of which the second is the whole. -/
def Rz (x y : ByteArray) : Prop := (x.size ≤ 4096 → y = x) ∧ (4096 < x.size → 4096 < y.size)
theorem Rz.refl (x : ByteArray) : Rz x x := ⟨fun _ => rfl, fun h => h⟩
def RL : List ByteArray → List ByteArray → Prop
  | [], [] => True
  | x :: l, y :: m => Rz x y ∧ RL l m
  | _, _ => False
theorem RL.eq : ∀ {l m : List ByteArray}, RL l m → (∀ x ∈ l, x.size ≤ 4096) → m = l := by
  intro l
  induction l with
  | nil => intro m h _; cases m with
    | nil => rfl
    | cons y m => exact h.elim
  | cons x l ih => intro m h hs; cases m with
    | nil => exact h.elim
    | cons y m => rw [h.1.1 (hs x List.mem_cons_self), ih h.2 fun z hz => hs z (List.mem_cons_of_mem _ hz)]
theorem RL.big : ∀ {l m : List ByteArray}, RL l m → (∃ x ∈ l, 4096 < x.size) → ∃ y ∈ m, 4096 < y.size := by
  intro l
  induction l with
  | nil => intro m h ⟨x, hx, _⟩; cases hx
  | cons x l ih => intro m h hs; cases m with
    | nil => exact h.elim
    | cons y m =>
      obtain ⟨z, hz, hb⟩ := hs
      rcases List.mem_cons.1 hz with rfl | hz
      · exact ⟨y, List.mem_cons_self, h.1.2 hb⟩
      · obtain ⟨u, hu, hb⟩ := ih h.2 ⟨z, hz, hb⟩
        exact ⟨u, List.mem_cons_of_mem _ hu, hb⟩
theorem rz_join {l m : List ByteArray} (h : RL l m) : Rz (jnB l) (catB m) := by
  have hj := jn_cat l []
  rw [List.length_nil, Nat.zero_add, List.nil_append] at hj
  by_cases hb : ∃ x ∈ l, 4096 < x.size
  · obtain ⟨y, hy, hyb⟩ := h.big hb
    have h1 := cat_mem hy
    refine ⟨fun hs => ?_, fun _ => by rw [catB_size]; omega⟩
    rw [jnB_size_eq] at hs
    obtain ⟨x, hx, hxb⟩ := hb
    have h2 := cat_mem hx
    rw [hj.2 hs] at hs
    omega
  · have he : m = l := h.eq fun x hx => by
      rcases Nat.lt_or_ge 4096 x.size with q | q
      · exact absurd ⟨x, hx, q⟩ hb
      · exact q
    subst he
    refine ⟨fun hs => ?_, fun hs => ?_⟩
    · rw [jnB_size_eq] at hs
      unfold jnB catB
      rw [hj.2 hs]
    · rw [jnB_size_eq] at hs
      rw [catB_size]
      omega
theorem RL.row : ∀ {l m : List ByteArray}, RL l m → RL (rowP l) (rowP m) := by
  have aux : ∀ {l m : List ByteArray}, RL l m → RL (l.map fun y => [(⟨#[44]⟩ : ByteArray), y]).flatten (m.map fun y => [(⟨#[44]⟩ : ByteArray), y]).flatten := by
    intro l
    induction l with
    | nil => intro m h; cases m with
      | nil => trivial
      | cons y m => exact h.elim
    | cons x l ih => intro m h; cases m with
      | nil => exact h.elim
      | cons y m => exact ⟨Rz.refl _, h.1, ih h.2⟩
  intro l m h
  cases l with
  | nil => cases m with
    | nil => trivial
    | cons y m => exact h.elim
  | cons x l => cases m with
    | nil => exact h.elim
    | cons y m => exact ⟨h.1, aux h.2⟩
def memG (f : Tr → Option ByteArray) (k u : Tr) : Option ByteArray := if k.kind = 5 then (f u).map fun x => catB [strOfNums (escA (bs k.txt)), ⟨#[58]⟩, x] else none
/-- A TREE's WHOLE TEXT. -/
def txF : Nat → Tr → Option ByteArray
  | 0, _ => none
  | d + 1, t =>
    if t.kind = 0 then some sNull
    else if t.kind = 1 then some (if t.num = 1 then sTrue else sFalse)
    else if t.kind = 2 then some (catB [sign t.neg, t.dig])
    else if t.kind = 3 then some (textA t.neg t.dig t.exp)
    else if t.kind = 5 then some (strOfNums (escA (bs t.txt)))
    else if t.kind = 7 then (optAll (t.kids.map (txF d))).map fun l => catB [⟨#[91]⟩, catB (rowP l), ⟨#[93]⟩]
    else if t.kind = 8 then (optAll (List.zipWith (memG (txF d)) t.keys t.kids)).map fun l => catB [⟨#[123]⟩, catB (rowP l), ⟨#[125]⟩]
    else none
/-- The one has a text just if the other has. -/
def RO (x y : Option ByteArray) : Prop := match x, y with
  | none, none => True
  | some a, some b => Rz a b
  | _, _ => False
theorem ro_all : ∀ {l m : List (Option ByteArray)}, l.length = m.length → (∀ (i : Nat) (x y : Option ByteArray), l[i]? = some x → m[i]? = some y → RO x y) → (optAll l = none ∧ optAll m = none) ∨ ∃ a b, optAll l = some a ∧ optAll m = some b ∧ RL a b := by
  intro l
  induction l with
  | nil => intro m hl _; cases m with
    | nil => exact .inr ⟨[], [], rfl, rfl, trivial⟩
    | cons y m => cases hl
  | cons x l ih => intro m hl h; cases m with
    | nil => cases hl
    | cons y m =>
      have h0 := h 0 x y rfl rfl
      have hr := ih (m := m) (by simpa using hl) (fun i a b ha hb => h (i + 1) a b (by simpa using ha) (by simpa using hb))
      cases x with
      | none => cases y with
        | none => exact .inl ⟨rfl, rfl⟩
        | some y => exact h0.elim
      | some x => cases y with
        | none => exact h0.elim
        | some y =>
          rcases hr with ⟨h1, h2⟩ | ⟨a, b, h1, h2, h3⟩
          · exact .inl ⟨by rw [optAll, h1]; rfl, by rw [optAll, h2]; rfl⟩
          · exact .inr ⟨x :: a, y :: b, by rw [optAll, h1]; rfl, by rw [optAll, h2]; rfl, h0, h3⟩
/-- WHAT IS KEPT OF A TEXT IS THE WHOLE OF IT, IF IT IS SHORT ENOUGH; else the whole is too long, too. -/
theorem tx_full : ∀ (d : Nat) (t : Tr), RO (txT d t) (txF d t) := by
  intro d
  induction d with
  | zero => intro t; trivial
  | succ d ih =>
    intro t
    rw [txT, txF]
    by_cases k0 : t.kind = 0
    · rw [if_pos k0, if_pos k0]; exact Rz.refl _
    rw [if_neg k0, if_neg k0]
    by_cases k1 : t.kind = 1
    · rw [if_pos k1, if_pos k1]; exact Rz.refl _
    rw [if_neg k1, if_neg k1]
    by_cases k2 : t.kind = 2
    · rw [if_pos k2, if_pos k2]; exact rz_join ⟨Rz.refl _, Rz.refl _, trivial⟩
    rw [if_neg k2, if_neg k2]
    by_cases k3 : t.kind = 3
    · rw [if_pos k3, if_pos k3]; exact Rz.refl _
    rw [if_neg k3, if_neg k3]
    by_cases k5 : t.kind = 5
    · rw [if_pos k5, if_pos k5]; exact Rz.refl _
    rw [if_neg k5, if_neg k5]
    by_cases k7 : t.kind = 7
    · rw [if_pos k7, if_pos k7]
      rcases ro_all (l := t.kids.map (txT d)) (m := t.kids.map (txF d)) (by simp) (fun i x y hx hy => by
        rw [List.getElem?_map] at hx hy
        cases hk : t.kids[i]? with
        | none => rw [hk] at hx; cases hx
        | some u => rw [hk] at hx hy; cases hx; cases hy; exact ih u) with ⟨h1, h2⟩ | ⟨a, b, h1, h2, h3⟩
      · rw [h1, h2]; trivial
      · rw [h1, h2]; exact rz_join ⟨Rz.refl _, rz_join h3.row, Rz.refl _, trivial⟩
    rw [if_neg k7, if_neg k7]
    by_cases k8 : t.kind = 8
    · rw [if_pos k8, if_pos k8]
      rcases ro_all (l := List.zipWith (memF (txT d)) t.keys t.kids) (m := List.zipWith (memG (txF d)) t.keys t.kids) (by simp) (fun i x y hx hy => by
        rw [List.getElem?_zipWith] at hx hy
        cases hk : t.keys[i]? with
        | none => rw [hk] at hx; cases hx
        | some k =>
          cases hu : t.kids[i]? with
          | none => rw [hk, hu] at hx; cases hx
          | some u =>
            rw [hk, hu] at hx hy
            cases hx
            cases hy
            unfold memF memG
            by_cases k5 : k.kind = 5
            · rw [if_pos k5, if_pos k5]
              have hr := ih u
              cases hxu : txT d u with
              | none => cases hyu : txF d u with
                | none => trivial
                | some y => rw [hxu, hyu] at hr; exact hr.elim
              | some x => cases hyu : txF d u with
                | none => rw [hxu, hyu] at hr; exact hr.elim
                | some y => rw [hxu, hyu] at hr; exact rz_join ⟨Rz.refl _, Rz.refl _, hr, trivial⟩
            · rw [if_neg k5, if_neg k5]; trivial) with ⟨h1, h2⟩ | ⟨a, b, h1, h2, h3⟩
      · rw [h1, h2]; trivial
      · rw [h1, h2]; exact rz_join ⟨Rz.refl _, rz_join h3.row, Rz.refl _, trivial⟩
    rw [if_neg k8, if_neg k8]
    trivial
theorem tx_short {d : Nat} {t : Tr} {s : ByteArray} (h : txT d t = some s) (hs : s.size ≤ 4096) : txF d t = some s := by
  have hr := tx_full d t
  rw [h] at hr
  cases hf : txF d t with
  | none => rw [hf] at hr; exact hr.elim
  | some y => rw [hf] at hr; rw [hr.1 hs]
end Go.Proofs.YtelabgonpmafpaaDoor
namespace Go.Proofs.YtelabgonpmafpaaDoor
open Go.RowKit
set_option linter.unusedVariables false
/-- What may stand behind a text within another. -/
def Dl (r : List Int) : Prop := r = [] ∨ ∃ c q, r = c :: q ∧ (c = 44 ∨ c = 93 ∨ c = 125)
theorem dl_cons {c : Int} (q : List Int) (h : c = 44 ∨ c = 93 ∨ c = 125) : Dl (c :: q) := .inr ⟨c, q, rfl, h⟩
def digC (c : Int) : Prop := 48 ≤ c ∧ c ≤ 57
/-- With this no digit goes on. -/
def NoD (r : List Int) : Prop := ∀ c q, r = c :: q → ¬ digC c
theorem digs_span : ∀ (x y : List Int) (r q : List Int), (∀ c ∈ x, digC c) → (∀ c ∈ y, digC c) → NoD r → NoD q → x ++ r = y ++ q → x = y ∧ r = q := by
  intro x
  induction x with
  | nil => intro y r q _ hy hr _ h; cases y with
    | nil => exact ⟨rfl, h⟩
    | cons c y => exact absurd (hy c List.mem_cons_self) (hr c _ h)
  | cons a x ih => intro y r q hx hy hr hq h; cases y with
    | nil => exact absurd (hx a List.mem_cons_self) (hq a _ h.symm)
    | cons c y =>
      simp only [List.cons_append, List.cons.injEq] at h
      obtain ⟨h1, h2⟩ := ih y r q (fun z hz => hx z (List.mem_cons_of_mem _ hz)) (fun z hz => hy z (List.mem_cons_of_mem _ hz)) hr hq h.2
      exact ⟨by rw [h.1, h1], h2⟩
theorem dl_nod {r : List Int} (h : Dl r) : NoD r := by
  intro c q e
  rcases h with rfl | ⟨d, p, rfl, hd⟩
  · cases e
  · cases e; unfold digC; omega
theorem numl_ne (n : Nat) : numL n ≠ [] := by
  by_cases h : n < 10
  · rw [num_small h]; simp
  · rw [num_big (by omega)]; simp
theorem itoa_span {e f : Int} {r q : List Int} (hr : Dl r) (hq : Dl q) (h : itoaL e ++ r = itoaL f ++ q) : e = f ∧ r = q := by
  have hd : ∀ n, ∃ c l, numL n = c :: l ∧ digC c := fun n => by
    cases hn : numL n with
    | nil => exact absurd hn (numl_ne n)
    | cons c l => exact ⟨c, l, rfl, num_digits n c (by rw [hn]; exact List.mem_cons_self)⟩
  unfold itoaL at h
  by_cases h1 : e < 0
  · rw [if_pos h1] at h
    by_cases h2 : f < 0
    · rw [if_pos h2] at h
      simp only [List.cons_append, List.cons.injEq, true_and] at h
      obtain ⟨a, b⟩ := digs_span _ _ _ _ (num_digits _) (num_digits _) (dl_nod hr) (dl_nod hq) h
      have := num_inj a
      exact ⟨by omega, b⟩
    · rw [if_neg h2] at h
      obtain ⟨c, l, hc, hdc⟩ := hd f.toNat
      rw [hc] at h
      simp only [List.cons_append, List.cons.injEq] at h
      unfold digC at hdc
      omega
  · rw [if_neg h1] at h
    by_cases h2 : f < 0
    · rw [if_pos h2] at h
      obtain ⟨c, l, hc, hdc⟩ := hd e.toNat
      rw [hc] at h
      simp only [List.cons_append, List.cons.injEq] at h
      unfold digC at hdc
      omega
    · rw [if_neg h2] at h
      obtain ⟨a, b⟩ := digs_span _ _ _ _ (num_digits _) (num_digits _) (dl_nod hr) (dl_nod hq) h
      have := num_inj a
      exact ⟨by omega, b⟩
/-- A text as a string is told by its bytes, whatever stands behind. -/
theorem esc_span {a b : ByteArray} {r q : List Int} (ha : gtx a = true) (hb : gtx b = true) (h : escA (bs a) ++ r = escA (bs b) ++ q) : a = b ∧ r = q := by
  have key : ∀ s : ByteArray, gtx s = true → (runesL (bs s)).2 = none := fun s hs => by
    unfold gtx at hs
    have : whyL (bs s) = 0 := by simpa using hs
    cases hn : (runesL (bs s)).2 with
    | none => rfl
    | some x => have := (why_some hn).1; omega
  have ha' := key a ha
  have hb' := key b hb
  obtain ⟨a1, a2⟩ := enc_text (bs a) (bs_range a) ha'
  obtain ⟨b1, b2⟩ := enc_text (bs b) (bs_range b) hb'
  unfold escA at h
  rw [if_pos ha', if_pos hb'] at h
  have h' : escAll (runesL (bs a)).1 ++ (34 :: r) = escAll (runesL (bs b)).1 ++ (34 :: q) := by simpa using h
  have sa := str_escs (runesL (bs a)).1 (34 :: r) 0 [] a2
  have sb := str_escs (runesL (bs b)).1 (34 :: q) 0 [] b2
  rw [kstr_end, List.nil_append, a1] at sa
  rw [kstr_end, List.nil_append, b1, ← h', sa] at sb
  simp only [Prod.mk.injEq] at sb
  have hl : (escAll (runesL (bs a)).1).length = (escAll (runesL (bs b)).1).length := by omega
  obtain ⟨h1, h2⟩ := List.append_inj h' hl
  refine ⟨by rw [← str_bs a, ← str_bs b, sb.1], ?_⟩
  simpa using h2
/-- What is asked of a node: it may be, and its number is none below 0. -/
def Ok1 (t : Tr) : Prop := alF t = 0 ∧ 0 ≤ t.num
theorem ok_bare {t : Tr} (h : Ok1 t) : t.bare = t := by
  have ho := Tr.alo_odd h.1
  unfold Tr.odd at ho
  simp only [Bool.or_eq_false_iff, Bool.and_eq_false_imp, decide_eq_true_eq, decide_eq_false_iff_not, Bool.not_eq_false', Classical.not_not] at ho
  exact (Tr.clean_iff t).1 ho.1.1.1.1.2
theorem ok_bool {t : Tr} (h : Ok1 t) (k : t.kind = 1) : t.num = 0 ∨ t.num = 1 := by
  have ho := Tr.alo_odd h.1
  unfold Tr.odd at ho
  simp only [Bool.or_eq_false_iff, Bool.and_eq_false_imp, decide_eq_true_eq, decide_eq_false_iff_not, Bool.not_eq_false', Classical.not_not] at ho
  have h1 := ho.1.1.1.2 k
  have := h.2
  omega
theorem ok_same {t u : Tr} (ht : Ok1 t) (hu : Ok1 u) (hk : t.kind = u.kind) (h1 : t.kind = 1 → t.num = u.num) (h2 : t.kind = 2 ∨ t.kind = 3 → t.neg = u.neg ∧ t.dig = u.dig) (h3 : t.kind = 3 → t.exp = u.exp) (h5 : t.kind = 5 → t.txt = u.txt) (h8 : t.kind = 8 → t.keys = u.keys) (h7 : t.kind = 7 ∨ t.kind = 8 → t.kids = u.kids) (hn : t.kind ≠ 4 ∧ t.kind ≠ 6 ∧ t.kind ≠ 9 ∧ t.kind ≠ 10) : t = u := by
  rw [← ok_bare ht, ← ok_bare hu]
  unfold Tr.bare
  rw [← hk]
  have e1 : (if t.kind = 1 ∨ t.kind = 4 ∨ t.kind = 9 ∨ t.kind = 10 then t.num else 0) = (if t.kind = 1 ∨ t.kind = 4 ∨ t.kind = 9 ∨ t.kind = 10 then u.num else 0) := by
    by_cases q : t.kind = 1
    · rw [if_pos (.inl q), if_pos (.inl q), h1 q]
    · rw [if_neg (by omega), if_neg (by omega)]
  have e2 : (if t.kind = 2 ∨ t.kind = 3 then t.neg else false) = (if t.kind = 2 ∨ t.kind = 3 then u.neg else false) := by
    by_cases q : t.kind = 2 ∨ t.kind = 3
    · rw [if_pos q, if_pos q, (h2 q).1]
    · rw [if_neg q, if_neg q]
  have e3 : (if t.kind = 2 ∨ t.kind = 3 then t.dig else ⟨#[]⟩) = (if t.kind = 2 ∨ t.kind = 3 then u.dig else ⟨#[]⟩) := by
    by_cases q : t.kind = 2 ∨ t.kind = 3
    · rw [if_pos q, if_pos q, (h2 q).2]
    · rw [if_neg q, if_neg q]
  have e4 : (if t.kind = 3 then t.exp else 0) = (if t.kind = 3 then u.exp else 0) := by
    by_cases q : t.kind = 3
    · rw [if_pos q, if_pos q, h3 q]
    · rw [if_neg q, if_neg q]
  have e5 : (if t.kind = 5 then t.txt else ⟨#[]⟩) = (if t.kind = 5 then u.txt else ⟨#[]⟩) := by
    by_cases q : t.kind = 5
    · rw [if_pos q, if_pos q, h5 q]
    · rw [if_neg q, if_neg q]
  have e6 : (if t.kind = 6 then t.bytes else []) = (if t.kind = 6 then u.bytes else []) := by rw [if_neg hn.2.1, if_neg hn.2.1]
  have e7 : (if t.kind = 8 then t.keys else []) = (if t.kind = 8 then u.keys else []) := by
    by_cases q : t.kind = 8
    · rw [if_pos q, if_pos q, h8 q]
    · rw [if_neg q, if_neg q]
  have e8 : (if t.kind = 7 ∨ t.kind = 8 ∨ t.kind = 9 then t.kids else []) = (if t.kind = 7 ∨ t.kind = 8 ∨ t.kind = 9 then u.kids else []) := by
    by_cases q : t.kind = 7 ∨ t.kind = 8
    · rw [if_pos (by omega), if_pos (by omega), h7 q]
    · rw [if_neg (by omega), if_neg (by omega)]
  rw [e1, e2, e3, e4, e5, e6, e7, e8]
end Go.Proofs.YtelabgonpmafpaaDoor
namespace Go.Proofs.YtelabgonpmafpaaDoor
open Go.RowKit
set_option linter.unusedVariables false
/-- What stands behind a row's first text. -/
def tlL : List ByteArray → List Int
  | [] => []
  | x :: l => 44 :: (bs x ++ tlL l)
theorem cat_row (x : ByteArray) (l : List ByteArray) : cat (rowP (x :: l)) = bs x ++ tlL l := by
  rw [rowP, cat_cons]
  congr 1
  induction l with
  | nil => rfl
  | cons y l ih =>
    rw [List.map_cons, List.flatten_cons]
    show cat (⟨#[44]⟩ :: y :: (l.map fun y => [(⟨#[44]⟩ : ByteArray), y]).flatten) = _
    rw [cat_cons, cat_cons, ih]
    rfl
section
variable {α : Type} {T : α → Option ByteArray} {G : α → Prop} {e : Int}
theorem tl_dl (he : e = 93 ∨ e = 125) (l : List ByteArray) (r : List Int) : Dl (tlL l ++ e :: r) := by
  cases l with
  | nil => exact dl_cons _ (by omega)
  | cons x l => exact dl_cons _ (.inl rfl)
theorem tl_inj (he : e = 93 ∨ e = 125) (hj : ∀ a b x y r q, G a → G b → T a = some x → T b = some y → bs x ++ r = bs y ++ q → Dl r → Dl q → a = b ∧ r = q) :
    ∀ (A B : List α) (l m : List ByteArray) (r q : List Int), (∀ a ∈ A, G a) → (∀ b ∈ B, G b) → A.map T = l.map some → B.map T = m.map some → tlL l ++ e :: r = tlL m ++ e :: q → A = B ∧ r = q := by
  intro A
  induction A with
  | nil =>
    intro B l m r q _ _ hA hB h
    cases l with
    | cons x l => simp at hA
    | nil =>
      cases B with
      | nil =>
        cases m with
        | cons y m => simp at hB
        | nil => simp [tlL] at h; exact ⟨rfl, h⟩
      | cons b B =>
        cases m with
        | nil => simp at hB
        | cons y m => simp [tlL] at h; omega
  | cons a A ih =>
    intro B l m r q gA gB hA hB h
    cases l with
    | nil => simp at hA
    | cons x l =>
      simp only [List.map_cons, List.cons.injEq] at hA
      cases B with
      | nil =>
        cases m with
        | cons y m => simp at hB
        | nil => simp [tlL] at h; omega
      | cons b B =>
        cases m with
        | nil => simp at hB
        | cons y m =>
          simp only [List.map_cons, List.cons.injEq] at hB
          simp only [tlL, List.cons_append, List.cons.injEq, true_and, List.append_assoc] at h
          obtain ⟨h1, h2⟩ := hj a b x y _ _ (gA a List.mem_cons_self) (gB b List.mem_cons_self) hA.1 hB.1 h (tl_dl he l r) (tl_dl he m q)
          obtain ⟨h3, h4⟩ := ih B l m r q (fun z hz => gA z (List.mem_cons_of_mem _ hz)) (fun z hz => gB z (List.mem_cons_of_mem _ hz)) hA.2 hB.2 h2
          exact ⟨by rw [h1, h3], h4⟩
theorem row_inj (he : e = 93 ∨ e = 125) (hj : ∀ a b x y r q, G a → G b → T a = some x → T b = some y → bs x ++ r = bs y ++ q → Dl r → Dl q → a = b ∧ r = q)
    (hh : ∀ a x, G a → T a = some x → ∃ c l, bs x = c :: l ∧ c ≠ e) (A B : List α) (l m : List ByteArray) (r q : List Int) (gA : ∀ a ∈ A, G a) (gB : ∀ b ∈ B, G b) (hA : optAll (A.map T) = some l) (hB : optAll (B.map T) = some m) (h : cat (rowP l) ++ e :: r = cat (rowP m) ++ e :: q) : A = B ∧ r = q := by
  have hA' := opt_mem hA
  have hB' := opt_mem hB
  clear hA hB
  cases A with
  | nil =>
    cases l with
    | cons x l => simp at hA'
    | nil =>
      cases B with
      | nil =>
        cases m with
        | cons y m => simp at hB'
        | nil => simp [rowP, cat] at h; exact ⟨rfl, h⟩
      | cons b B =>
        cases m with
        | nil => simp at hB'
        | cons y m =>
          simp only [List.map_cons, List.cons.injEq] at hB'
          obtain ⟨c, z, hc, hn⟩ := hh b y (gB b List.mem_cons_self) hB'.1
          rw [cat_row, hc] at h
          simp [rowP, cat] at h
          exact absurd h.1.symm hn
  | cons a A =>
    cases l with
    | nil => simp at hA'
    | cons x l =>
      simp only [List.map_cons, List.cons.injEq] at hA'
      cases B with
      | nil =>
        cases m with
        | cons y m => simp at hB'
        | nil =>
          obtain ⟨c, z, hc, hn⟩ := hh a x (gA a List.mem_cons_self) hA'.1
          rw [cat_row, hc] at h
          simp [rowP, cat] at h
          exact absurd h.1 hn
      | cons b B =>
        cases m with
        | nil => simp at hB'
        | cons y m =>
          simp only [List.map_cons, List.cons.injEq] at hB'
          rw [cat_row, cat_row, List.append_assoc, List.append_assoc] at h
          obtain ⟨h1, h2⟩ := hj a b x y _ _ (gA a List.mem_cons_self) (gB b List.mem_cons_self) hA'.1 hB'.1 h (tl_dl he l r) (tl_dl he m q)
          obtain ⟨h3, h4⟩ := tl_inj he hj A B l m r q (fun z hz => gA z (List.mem_cons_of_mem _ hz)) (fun z hz => gB z (List.mem_cons_of_mem _ hz)) hA'.2 hB'.2 h2
          exact ⟨by rw [h1, h3], h4⟩
end
/-- By what a text begins. -/
def cls (c : Int) : Int := if c = 110 then 0 else if c = 116 ∨ c = 102 then 1 else if c = 45 ∨ (48 ≤ c ∧ c ≤ 57) then 2 else if c = 34 then 5 else if c = 91 then 7 else if c = 123 then 8 else 99
theorem cls_dig {c : Int} (h : digC c) : cls c = 2 := by
  unfold digC at h
  unfold cls
  rw [if_neg (by omega), if_neg (by omega), if_pos (.inr h)]
theorem cls_end {c : Int} (h : cls c ≠ 99) : c ≠ 93 ∧ c ≠ 125 := ⟨fun e => by subst e; exact h (by decide), fun e => by subst e; exact h (by decide)⟩
theorem sign_bs (n : Bool) : bs (sign n) = if n = true then [45] else [] := by cases n <;> rfl
theorem rt_ne {s : ByteArray} (h : rt s = true) : ∃ c l, bs s = c :: l ∧ digC c := by
  have hd := rt_digits h
  unfold rt rightT at h
  simp only [Bool.and_eq_true] at h
  cases hs : bs s with
  | nil => rw [hs] at h; simp at h
  | cons c l => exact ⟨c, l, rfl, hd c (by rw [hs]; exact List.mem_cons_self)⟩
/-- A Dec's text. -/
theorem dec_shape {t : Tr} (h : Ok1 t) (k : t.kind = 3) : rt t.dig = true ∧ t.exp ≠ 0 ∧ bs (textA t.neg t.dig t.exp) = (if t.neg = true then [45] else []) ++ (bs t.dig ++ 101 :: itoaL t.exp) := by
  have h0 := h.1
  unfold alF Tr.alo at h0
  rw [if_neg (by omega), if_neg (by omega), if_neg (by omega)] at h0
  have hr : rdN t.neg t.dig t.exp = true := by
    cases hg : rdN t.neg t.dig t.exp with
    | true => rfl
    | false => rw [if_pos ⟨k, hg⟩] at h0; cases h0
  unfold rdN at hr
  simp only [Bool.and_eq_true, Bool.not_eq_true'] at hr
  have hrt : rt t.dig = true := by
    have := hr.1
    unfold rtN at this
    by_cases q : bs t.dig = [48]
    · unfold rt; rw [q]; decide
    · rw [if_neg q] at this; simp only [Bool.and_eq_true] at this; exact this.1
  have hsz : t.dig.size ≤ 800 := by
    have := hrt
    unfold rt rightT at this
    simp only [Bool.and_eq_true, decide_eq_true_eq] at this
    rw [← bs_len]
    exact this.2.1
  have he : t.exp ≠ 0 := by
    intro e
    have h2 := hr.2
    unfold wholeA at h2
    rw [if_pos ⟨hr.1, by omega, by omega⟩] at h2
    cases h2
  refine ⟨hrt, he, ?_⟩
  have hT := tight_text t.neg t.dig t.exp
  unfold textA
  rw [if_pos hr.1, bs_str]
  · unfold textL
    rw [if_neg he, List.append_assoc]
  · intro c hc
    unfold textL at hc
    rw [if_neg he] at hc
    rcases List.mem_append.1 hc with q | q
    · rcases List.mem_append.1 q with q | q
      · split at q
        · simp at q; omega
        · cases q
      · exact bs_range _ c q
    · rcases List.mem_cons.1 q with rfl | q
      · omega
      · unfold itoaL at q
        split at q
        · rcases List.mem_cons.1 q with rfl | q
          · omega
          · have := num_digits _ c q; omega
        · have := num_digits _ c q; omega
theorem esc_cons {s : ByteArray} (h : gtx s = true) : ∃ l, escA (bs s) = 34 :: l := by
  have hn : (runesL (bs s)).2 = none := by
    unfold gtx at h
    have : whyL (bs s) = 0 := by simpa using h
    cases hn : (runesL (bs s)).2 with
    | none => rfl
    | some x => have := (why_some hn).1; omega
  exact ⟨_, by unfold escA; rw [if_pos hn]; rfl⟩
/-- The first byte tells the Kind, Int and Dec aside. -/
theorem tx_head {d : Nat} {t : Tr} {x : ByteArray} (ht : Ok1 t) (h : txF d t = some x) : ∃ c l, bs x = c :: l ∧ cls c = (if t.kind = 3 then 2 else t.kind) ∧ cls c ≠ 99 := by
  cases d with
  | zero => cases h
  | succ d =>
    rw [txF] at h
    by_cases k0 : t.kind = 0
    · rw [if_pos k0] at h; cases h; exact ⟨110, _, rfl, by rw [k0]; decide, by decide⟩
    rw [if_neg k0] at h
    by_cases k1 : t.kind = 1
    · rw [if_pos k1] at h; cases h
      by_cases q : t.num = 1
      · rw [if_pos q]; exact ⟨116, _, rfl, by rw [k1]; decide, by decide⟩
      · rw [if_neg q]; exact ⟨102, _, rfl, by rw [k1]; decide, by decide⟩
    rw [if_neg k1] at h
    by_cases k2 : t.kind = 2
    · rw [if_pos k2] at h; cases h
      obtain ⟨c, l, hc, hd⟩ := rt_ne (al_dig ht.1 k2).2
      rw [catB_bs, cat_cons, cat_cons, cat_nil, List.append_nil, sign_bs, hc, k2]
      by_cases q : t.neg = true
      · rw [if_pos q]; exact ⟨45, _, rfl, by decide, by decide⟩
      · rw [if_neg q]; exact ⟨c, l, rfl, by rw [cls_dig hd]; decide, by rw [cls_dig hd]; decide⟩
    rw [if_neg k2] at h
    by_cases k3 : t.kind = 3
    · rw [if_pos k3] at h; cases h
      obtain ⟨hr, _, hb⟩ := dec_shape ht k3
      obtain ⟨c, l, hc, hd⟩ := rt_ne hr
      rw [hb, hc, if_pos k3]
      by_cases q : t.neg = true
      · rw [if_pos q]; exact ⟨45, _, rfl, by decide, by decide⟩
      · rw [if_neg q]; exact ⟨c, _, rfl, cls_dig hd, by rw [cls_dig hd]; decide⟩
    rw [if_neg k3] at h
    by_cases k5 : t.kind = 5
    · rw [if_pos k5] at h; cases h
      rw [bs_str (escA_bytes _ (bs_range _)), if_neg k3, k5]
      obtain ⟨l, hl⟩ := esc_cons (al_txt ht.1 k5).2
      exact ⟨34, l, hl, by decide, by decide⟩
    rw [if_neg k5] at h
    by_cases k7 : t.kind = 7
    · rw [if_pos k7] at h
      cases ho : optAll (t.kids.map (txF d)) with
      | none => rw [ho] at h; cases h
      | some l =>
        rw [ho] at h; simp only [Option.map_some, Option.some.injEq] at h; subst h
        rw [catB_bs, cat_cons, k7]
        exact ⟨91, _, rfl, by decide, by decide⟩
    rw [if_neg k7] at h
    by_cases k8 : t.kind = 8
    · rw [if_pos k8] at h
      cases ho : optAll (List.zipWith (memG (txF d)) t.keys t.kids) with
      | none => rw [ho] at h; cases h
      | some l =>
        rw [ho] at h; simp only [Option.map_some, Option.some.injEq] at h; subst h
        rw [catB_bs, cat_cons, k8]
        exact ⟨123, _, rfl, by decide, by decide⟩
    rw [if_neg k8] at h
    cases h
end Go.Proofs.YtelabgonpmafpaaDoor
namespace Go.Proofs.YtelabgonpmafpaaDoor
open Go.RowKit
set_option linter.unusedVariables false
theorem zip_map (f : Tr → Tr → Option ByteArray) : ∀ k l : List Tr, List.zipWith f k l = (k.zip l).map fun p => f p.1 p.2 := by
  intro k
  induction k with
  | nil => intro l; rfl
  | cons a k ih => intro l; cases l with
    | nil => rfl
    | cons b l => rw [List.zipWith_cons_cons, ih, List.zip_cons_cons, List.map_cons]
theorem zip_both : ∀ {k l : List Tr} {a b : Tr}, (a, b) ∈ k.zip l → a ∈ k ∧ b ∈ l := by
  intro k
  induction k with
  | nil => intro l a b h; simp at h
  | cons x k ih => intro l a b h; cases l with
    | nil => simp at h
    | cons y l =>
      rw [List.zip_cons_cons, List.mem_cons] at h
      rcases h with h | h
      · cases h; exact ⟨List.mem_cons_self, List.mem_cons_self⟩
      · obtain ⟨h1, h2⟩ := ih h
        exact ⟨List.mem_cons_of_mem _ h1, List.mem_cons_of_mem _ h2⟩
theorem zip_inj : ∀ {k l m n : List Tr}, k.length = l.length → m.length = n.length → k.zip l = m.zip n → k = m ∧ l = n := by
  intro k
  induction k with
  | nil => intro l m n h1 h2 h; cases l with
    | cons b l => simp at h1
    | nil => cases m with
      | nil => cases n with
        | nil => exact ⟨rfl, rfl⟩
        | cons y n => simp at h2
      | cons x m => cases n with
        | nil => simp at h2
        | cons y n => simp at h
  | cons a k ih => intro l m n h1 h2 h; cases l with
    | nil => simp at h1
    | cons b l => cases m with
      | nil => simp at h
      | cons x m => cases n with
        | nil => simp at h2
        | cons y n =>
          simp only [List.zip_cons_cons, List.cons.injEq, Prod.mk.injEq] at h
          obtain ⟨i1, i2⟩ := ih (by simpa using h1) (by simpa using h2) h.2
          exact ⟨by rw [h.1.1, i1], by rw [h.1.2, i2]⟩
theorem int_shape {d : Nat} {t : Tr} (k : t.kind = 2) : txF (d + 1) t = some (catB [sign t.neg, t.dig]) := by rw [txF, if_neg (by omega), if_neg (by omega), if_pos k]
theorem dec_form {d : Nat} {t : Tr} (k : t.kind = 3) : txF (d + 1) t = some (textA t.neg t.dig t.exp) := by rw [txF, if_neg (by omega), if_neg (by omega), if_neg (by omega), if_pos k]
theorem int_bs {t : Tr} : bs (catB [sign t.neg, t.dig]) = (if t.neg = true then [45] else []) ++ bs t.dig := by rw [catB_bs, cat_cons, cat_cons, cat_nil, List.append_nil, sign_bs]
/-- A sign, and digits. -/
theorem sgn_span {m n : Bool} {x y : List Int} (hx : ∃ c l, x = c :: l ∧ digC c) (hy : ∃ c l, y = c :: l ∧ digC c) (h : (if m = true then [(45 : Int)] else []) ++ x = (if n = true then [45] else []) ++ y) : m = n ∧ x = y := by
  obtain ⟨c, l, rfl, hc⟩ := hx
  obtain ⟨e, k, rfl, he⟩ := hy
  unfold digC at hc he
  cases m <;> cases n <;> simp at h ⊢
  · exact h
  · omega
  · omega
  · exact h
theorem dig_app {s : ByteArray} (h : rt s = true) (r : List Int) : ∃ c l, bs s ++ r = c :: l ∧ digC c := by
  obtain ⟨c, l, hc, hd⟩ := rt_ne h
  exact ⟨c, l ++ r, by rw [hc]; rfl, hd⟩
set_option maxHeartbeats 1000000 in
/-- TREES THAT HAVE THE SAME TEXT ARE THE SAME. -/
theorem tx_inj : ∀ (d : Nat) (t u : Tr) (x y : ByteArray) (r q : List Int), t.All Ok1 → u.All Ok1 → txF d t = some x → txF d u = some y → bs x ++ r = bs y ++ q → Dl r → Dl q → t = u ∧ r = q := by
  intro d
  induction d with
  | zero => intro t u x y r q _ _ h; cases h
  | succ d ih =>
    intro t u x y r q ha hb hx hy h hr hq
    obtain ⟨t0, tk, ti⟩ := (Tr.all_eq _ t).1 ha
    obtain ⟨u0, uk, ui⟩ := (Tr.all_eq _ u).1 hb
    obtain ⟨c, l, hc, hcc, _⟩ := tx_head t0 hx
    obtain ⟨c', l', hc', hcc', _⟩ := tx_head u0 hy
    have hcl : (if t.kind = 3 then 2 else t.kind) = (if u.kind = 3 then (2 : Int) else u.kind) := by
      have h' := h
      rw [hc, hc', List.cons_append, List.cons_append, List.cons.injEq] at h'
      rw [← hcc, ← hcc', h'.1]
    clear hc hc' hcc hcc'
    by_cases k2 : t.kind = 2 ∨ t.kind = 3
    · have k2' : u.kind = 2 ∨ u.kind = 3 := by
        rcases k2 with k | k
        · rw [k] at hcl; by_cases j : u.kind = 3
          · exact .inr j
          · rw [if_neg (by decide), if_neg j] at hcl; exact .inl hcl.symm
        · rw [if_pos k] at hcl; by_cases j : u.kind = 3
          · exact .inr j
          · rw [if_neg j] at hcl; exact .inl hcl.symm
      have nod : ∀ e (z : List Int), NoD (101 :: (itoaL e ++ z)) := fun e z c' q' e' => by cases e'; unfold digC; omega
      rcases k2 with k | k
      · have rtt := (al_dig t0.1 k).2
        rw [int_shape k] at hx; cases hx
        rw [int_bs, List.append_assoc] at h
        rcases k2' with j | j
        · have rtu := (al_dig u0.1 j).2
          rw [int_shape j] at hy; cases hy
          rw [int_bs, List.append_assoc] at h
          obtain ⟨s1, s2⟩ := sgn_span (dig_app rtt r) (dig_app rtu q) h
          obtain ⟨s3, s4⟩ := digs_span _ _ _ _ (rt_digits rtt) (rt_digits rtu) (dl_nod hr) (dl_nod hq) s2
          have s5 : t.dig = u.dig := by rw [← str_bs t.dig, ← str_bs u.dig, s3]
          exact ⟨ok_same t0 u0 (by rw [k, j]) (fun e => by omega) (fun _ => ⟨s1, s5⟩) (fun e => by omega) (fun e => by omega) (fun e => by omega) (fun e => by omega) (by omega), s4⟩
        · obtain ⟨rtu, _, ub⟩ := dec_shape u0 j
          rw [dec_form j] at hy; cases hy
          rw [ub, List.append_assoc, List.append_assoc] at h
          obtain ⟨s1, s2⟩ := sgn_span (dig_app rtt r) (dig_app rtu _) h
          obtain ⟨s3, s4⟩ := digs_span _ _ _ _ (rt_digits rtt) (rt_digits rtu) (dl_nod hr) (nod _ _) s2
          rcases hr with rfl | ⟨e, p, rfl, he⟩
          · cases s4
          · rw [List.cons.injEq] at s4; omega
      · obtain ⟨rtt, _, tb⟩ := dec_shape t0 k
        rw [dec_form k] at hx; cases hx
        rw [tb, List.append_assoc, List.append_assoc] at h
        rcases k2' with j | j
        · have rtu := (al_dig u0.1 j).2
          rw [int_shape j] at hy; cases hy
          rw [int_bs, List.append_assoc] at h
          obtain ⟨s1, s2⟩ := sgn_span (dig_app rtt _) (dig_app rtu q) h
          obtain ⟨s3, s4⟩ := digs_span _ _ _ _ (rt_digits rtt) (rt_digits rtu) (nod _ _) (dl_nod hq) s2
          rcases hq with rfl | ⟨e, p, rfl, he⟩
          · cases s4
          · rw [List.cons.injEq] at s4; omega
        · obtain ⟨rtu, _, ub⟩ := dec_shape u0 j
          rw [dec_form j] at hy; cases hy
          rw [ub, List.append_assoc, List.append_assoc] at h
          obtain ⟨s1, s2⟩ := sgn_span (dig_app rtt _) (dig_app rtu _) h
          obtain ⟨s3, s4⟩ := digs_span _ _ _ _ (rt_digits rtt) (rt_digits rtu) (nod _ _) (nod _ _) s2
          have s5 : t.dig = u.dig := by rw [← str_bs t.dig, ← str_bs u.dig, s3]
          rw [List.cons.injEq] at s4
          obtain ⟨s6, s7⟩ := itoa_span hr hq s4.2
          exact ⟨ok_same t0 u0 (by rw [k, j]) (fun e => by omega) (fun _ => ⟨s1, s5⟩) (fun _ => s6) (fun e => by omega) (fun e => by omega) (fun e => by omega) (by omega), s7⟩
    have kk : t.kind = u.kind := by
      rw [if_neg (fun e => k2 (.inr e))] at hcl
      by_cases j : u.kind = 3
      · rw [if_pos j] at hcl; exact absurd (.inl hcl) k2
      · rw [if_neg j] at hcl; exact hcl
    rw [txF] at hx hy
    rw [← kk] at hy
    by_cases k0 : t.kind = 0
    · rw [if_pos k0] at hx hy; cases hx; cases hy
      exact ⟨ok_same t0 u0 kk (fun e => by omega) (fun e => absurd e k2) (fun e => by omega) (fun e => by omega) (fun e => by omega) (fun e => by omega) (by omega), List.append_cancel_left h⟩
    rw [if_neg k0] at hx hy
    by_cases k1 : t.kind = 1
    · rw [if_pos k1] at hx hy; cases hx; cases hy
      have nt := ok_bool t0 k1
      have nu := ok_bool u0 (by rw [← kk]; exact k1)
      by_cases a : t.num = 1
      · by_cases b : u.num = 1
        · rw [if_pos a, if_pos b] at h
          exact ⟨ok_same t0 u0 kk (fun _ => by rw [a, b]) (fun e => absurd e k2) (fun e => by omega) (fun e => by omega) (fun e => by omega) (fun e => by omega) (by omega), List.append_cancel_left h⟩
        · rw [if_pos a, if_neg b] at h
          have h1 : (116 : Int) :: ([114, 117, 101] ++ r) = 102 :: ([97, 108, 115, 101] ++ q) := h
          rw [List.cons.injEq] at h1; omega
      · by_cases b : u.num = 1
        · rw [if_neg a, if_pos b] at h
          have h1 : (102 : Int) :: ([97, 108, 115, 101] ++ r) = 116 :: ([114, 117, 101] ++ q) := h
          rw [List.cons.injEq] at h1; omega
        · rw [if_neg a, if_neg b] at h
          exact ⟨ok_same t0 u0 kk (fun _ => by omega) (fun e => absurd e k2) (fun e => by omega) (fun e => by omega) (fun e => by omega) (fun e => by omega) (by omega), List.append_cancel_left h⟩
    rw [if_neg k1, if_neg (fun e => k2 (.inl e)), if_neg (fun e => k2 (.inr e))] at hx hy
    by_cases k5 : t.kind = 5
    · rw [if_pos k5] at hx hy; cases hx; cases hy
      rw [bs_str (escA_bytes _ (bs_range _)), bs_str (escA_bytes _ (bs_range _))] at h
      obtain ⟨s1, s2⟩ := esc_span (al_txt t0.1 k5).2 (al_txt u0.1 (by rw [← kk]; exact k5)).2 h
      exact ⟨ok_same t0 u0 kk (fun e => by omega) (fun e => absurd e k2) (fun e => by omega) (fun _ => s1) (fun e => by omega) (fun e => by omega) (by omega), s2⟩
    rw [if_neg k5] at hx hy
    by_cases k7 : t.kind = 7
    · rw [if_pos k7] at hx hy
      cases ho : optAll (t.kids.map (txF d)) with
      | none => rw [ho] at hx; cases hx
      | some l =>
        cases hp : optAll (u.kids.map (txF d)) with
        | none => rw [hp] at hy; cases hy
        | some m =>
          rw [ho] at hx; rw [hp] at hy
          simp only [Option.map_some, Option.some.injEq] at hx hy
          subst hx hy
          have h1 : (91 : Int) :: (cat (rowP l) ++ 93 :: r) = 91 :: (cat (rowP m) ++ 93 :: q) := by
            have e : ∀ (l : List ByteArray) (z : List Int), bs (catB [⟨#[91]⟩, catB (rowP l), ⟨#[93]⟩]) ++ z = 91 :: (cat (rowP l) ++ 93 :: z) := fun l z => by
              rw [catB_bs, cat_cons, cat_cons, cat_cons, cat_nil, catB_bs]
              show ([(91 : Int)] ++ (cat (rowP l) ++ ([93] ++ []))) ++ z = _
              simp
            rw [e, e] at h; exact h
          rw [List.cons.injEq] at h1
          obtain ⟨s1, s2⟩ := row_inj (α := Tr) (T := txF d) (G := fun z => z.All Ok1) (.inl rfl) (fun a b x y r q ga gb hx hy h hr hq => ih a b x y r q ga gb hx hy h hr hq) (fun a x ga hx => by
            obtain ⟨c, l, hc, _, h99⟩ := tx_head ((Tr.all_eq _ a).1 ga).1 hx
            exact ⟨c, l, hc, (cls_end h99).1⟩) t.kids u.kids l m r q ti ui ho hp h1.2
          exact ⟨ok_same t0 u0 kk (fun e => by omega) (fun e => absurd e k2) (fun e => by omega) (fun e => by omega) (fun e => by omega) (fun _ => s1) (by omega), s2⟩
    rw [if_neg k7] at hx hy
    by_cases k8 : t.kind = 8
    · rw [if_pos k8] at hx hy
      rw [zip_map] at hx hy
      cases ho : optAll ((t.keys.zip t.kids).map fun p => memG (txF d) p.1 p.2) with
      | none => rw [ho] at hx; cases hx
      | some l =>
        cases hp : optAll ((u.keys.zip u.kids).map fun p => memG (txF d) p.1 p.2) with
        | none => rw [hp] at hy; cases hy
        | some m =>
          rw [ho] at hx; rw [hp] at hy
          simp only [Option.map_some, Option.some.injEq] at hx hy
          subst hx hy
          have h1 : (123 : Int) :: (cat (rowP l) ++ 125 :: r) = 123 :: (cat (rowP m) ++ 125 :: q) := by
            have e : ∀ (l : List ByteArray) (z : List Int), bs (catB [⟨#[123]⟩, catB (rowP l), ⟨#[125]⟩]) ++ z = 123 :: (cat (rowP l) ++ 125 :: z) := fun l z => by
              rw [catB_bs, cat_cons, cat_cons, cat_cons, cat_nil, catB_bs]
              show ([(123 : Int)] ++ (cat (rowP l) ++ ([125] ++ []))) ++ z = _
              simp
            rw [e, e] at h; exact h
          rw [List.cons.injEq] at h1
          have mem : ∀ (p : Tr × Tr) (x : ByteArray), memG (txF d) p.1 p.2 = some x → p.1.kind = 5 ∧ ∃ z, txF d p.2 = some z ∧ ∀ r, bs x ++ r = escA (bs p.1.txt) ++ 58 :: (bs z ++ r) := by
            intro p x hx
            unfold memG at hx
            by_cases k5 : p.1.kind = 5
            · rw [if_pos k5] at hx
              cases hz : txF d p.2 with
              | none => rw [hz] at hx; cases hx
              | some z =>
                rw [hz] at hx
                simp only [Option.map_some, Option.some.injEq] at hx
                subst hx
                refine ⟨k5, z, rfl, fun r => ?_⟩
                rw [catB_bs, cat_cons, cat_cons, cat_cons, cat_nil, bs_str (escA_bytes _ (bs_range _))]
                show (escA (bs p.1.txt) ++ ([(58 : Int)] ++ (bs z ++ []))) ++ r = _
                simp
            · rw [if_neg k5] at hx; cases hx
          obtain ⟨s1, s2⟩ := row_inj (α := Tr × Tr) (T := fun p => memG (txF d) p.1 p.2) (G := fun p => p.1.All Ok1 ∧ p.2.All Ok1) (.inr rfl) (fun a b x y r q ga gb hx hy h hr hq => by
            obtain ⟨a1, z, a2, a3⟩ := mem a x hx
            obtain ⟨b1, z', b2, b3⟩ := mem b y hy
            rw [a3, b3] at h
            have a0 := ((Tr.all_eq _ a.1).1 ga.1).1
            have b0 := ((Tr.all_eq _ b.1).1 gb.1).1
            obtain ⟨e1, e2⟩ := esc_span (al_txt a0.1 a1).2 (al_txt b0.1 b1).2 h
            rw [List.cons.injEq] at e2
            obtain ⟨e3, e4⟩ := ih a.2 b.2 z z' r q ga.2 gb.2 a2 b2 e2.2 hr hq
            have e5 : a.1 = b.1 := ok_same a0 b0 (by rw [a1, b1]) (fun e => by omega) (fun e => by omega) (fun e => by omega) (fun _ => e1) (fun e => by omega) (fun e => by omega) (by omega)
            exact ⟨Prod.ext e5 e3, e4⟩) (fun a x ga hx => by
            obtain ⟨a1, z, a2, a3⟩ := mem a x hx
            have a0 := ((Tr.all_eq _ a.1).1 ga.1).1
            obtain ⟨l, hl⟩ := esc_cons (al_txt a0.1 a1).2
            have := a3 []
            rw [List.append_nil, hl] at this
            exact ⟨34, _, this, by decide⟩) (t.keys.zip t.kids) (u.keys.zip u.kids) l m r q (fun p hp => ⟨tk _ (zip_both (a := p.1) (b := p.2) hp).1, ti _ (zip_both (a := p.1) (b := p.2) hp).2⟩) (fun p hp => ⟨uk _ (zip_both (a := p.1) (b := p.2) hp).1, ui _ (zip_both (a := p.1) (b := p.2) hp).2⟩) ho hp h1.2
          obtain ⟨s3, s4⟩ := zip_inj (al_map t0.1 k8) (al_map u0.1 (by rw [← kk]; exact k8)) s1
          exact ⟨ok_same t0 u0 kk (fun e => by omega) (fun e => absurd e k2) (fun e => by omega) (fun e => by omega) (fun _ => s3) (fun _ => s4) (by omega), s2⟩
    rw [if_neg k8] at hx
    cases hx
end Go.Proofs.YtelabgonpmafpaaDoor
