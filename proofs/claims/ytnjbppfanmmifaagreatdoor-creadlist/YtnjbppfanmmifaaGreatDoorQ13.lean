/-
  CBOR items as plain data: what is read may be.
  CBOR items as plain data: faults are told of places that are there; what follows of the reading alone.
  CBOR items as plain data: items one behind the other, with how many they are ahead, are an Array of them.
  A word as a number: strconv.FormatUint at base 10, nat.FromWord.
-/
import Derived.Test.YtnjbppfanmmifaaGreatDoorQ12
import Derived.Test.YtnjbppfanmmifaaGreatDoorQ3
import Derived.Test.YtnjbppfanmmifaaGreatDoorQ1
import Derived.Lib.AppendIntMem
import Derived.Lib.Walk
namespace Go.Proofs.YtnjbppfanmmifaaGreatDoor
open Go.RowKit
set_option linter.unusedVariables false
/-- Every node is of its form, and no keys stand twice. -/
def NOK (t : Tr) : Prop := t.All (fun u => alF u = 0) ∧ t.All (fun u => u.keys.Nodup)
theorem nok_leaf {t : Tr} (hk : t.keys = [] ∧ t.kids = []) (ha : alF t = 0) : NOK t := by
  refine ⟨(Tr.all_eq _ t).2 ⟨ha, fun k h => ?_, fun k h => ?_⟩, (Tr.all_eq _ t).2 ⟨by rw [hk.1]; exact List.nodup_nil, fun k h => ?_, fun k h => ?_⟩⟩
  · rw [hk.1] at h; cases h
  · rw [hk.2] at h; cases h
  · rw [hk.1] at h; cases h
  · rw [hk.2] at h; cases h
theorem al_txt {x : ByteArray} (h : gtx x = true) (hs : x.size ≤ 4096) : alF (txtT x) = 0 := by
  have o : (txtT x).odd = false := rfl
  show Tr.alo gtx rt rdN (txtT x) = 0
  unfold Tr.alo
  rw [o, show (txtT x).txt = x from rfl, h]
  rw [if_neg (by rintro (⟨_, q⟩ | ⟨q, _⟩); exact absurd q (by omega); exact absurd (show (5 : Int) = 6 from q) (by decide)), if_neg (by simp), if_neg (fun q => absurd (show (5 : Int) = 2 from q.1) (by decide)), if_neg (fun q => absurd (show (5 : Int) = 3 from q.1) (by decide)), if_neg (by decide)]
theorem al_byt {l : List Int} (hs : l.length ≤ 4096) : alF (bytT l) = 0 := by
  have o : (bytT l).odd = false := by simp [Tr.odd, Tr.clean, bytT, ByteArray.size]
  show Tr.alo gtx rt rdN (bytT l) = 0
  unfold Tr.alo
  rw [o]
  simp [bytT]
  omega
theorem al_int {n : Bool} {d : ByteArray} (h : rt d = true) (hz : ¬ (n = true ∧ d = ⟨#[48]⟩)) : alF (intT n d) = 0 := by
  have o : (intT n d).odd = false := by cases n <;> rfl
  show Tr.alo gtx rt rdN (intT n d) = 0
  unfold Tr.alo
  rw [o, show (intT n d).dig = d from rfl, show (intT n d).neg = n from rfl, h]
  rw [if_neg (by rintro (⟨q, _⟩ | ⟨q, _⟩); exact absurd (show (2 : Int) = 5 from q) (by decide); exact absurd (show (2 : Int) = 6 from q) (by decide)), if_neg (fun q => absurd (show (2 : Int) = 5 from q.1) (by decide)), if_neg (by rintro ⟨_, q | q⟩; exact absurd q (by decide); exact hz q), if_neg (fun q => absurd (show (2 : Int) = 3 from q.1) (by decide)), if_neg (by decide)]
theorem al_dec {n : Bool} {d : ByteArray} {x : Int} (h : rdN n d x = true) : alF (decT n d x) = 0 := by
  have o : (decT n d x).odd = false := by cases n <;> rfl
  show Tr.alo gtx rt rdN (decT n d x) = 0
  unfold Tr.alo
  rw [o, show (decT n d x).dig = d from rfl, show (decT n d x).neg = n from rfl, show (decT n d x).exp = x from rfl, h]
  rw [if_neg (by rintro (⟨q, _⟩ | ⟨q, _⟩); exact absurd (show (3 : Int) = 5 from q) (by decide); exact absurd (show (3 : Int) = 6 from q) (by decide)), if_neg (fun q => absurd (show (3 : Int) = 5 from q.1) (by decide)), if_neg (fun q => absurd (show (3 : Int) = 2 from q.1) (by decide)), if_neg (fun q => absurd q.2 (by decide)), if_neg (by decide)]
theorem al_arr (kids : List Tr) : alF (arrT kids) = 0 := by
  have o : (arrT kids).odd = false := by simp [Tr.odd, Tr.clean, arrT, ByteArray.size]
  show Tr.alo gtx rt rdN (arrT kids) = 0
  unfold Tr.alo
  rw [o]
  simp [arrT]
theorem al_tag (n : Int) (u : Tr) : alF (tgT n u) = 0 := by
  have o : (tgT n u).odd = false := by simp [Tr.odd, Tr.clean, tgT, ByteArray.size]
  show Tr.alo gtx rt rdN (tgT n u) = 0
  unfold Tr.alo
  rw [o]
  simp [tgT]
theorem al_map {keys kids : List Tr} (h : keys.length = kids.length) : alF (mapT keys kids) = 0 := by
  have o : (mapT keys kids).odd = false := by simp [Tr.odd, Tr.clean, mapT, ByteArray.size, h]
  show Tr.alo gtx rt rdN (mapT keys kids) = 0
  unfold Tr.alo
  rw [o]
  simp [mapT]
theorem al_kind {k n : Int} (h : (k = 0 ∧ n = 0) ∨ (k = 1 ∧ n ≤ 1) ∨ k = 4 ∨ (k = 10 ∧ Tr.smp n = true)) : alF (kindT k n) = 0 := by
  have o : (kindT k n).odd = false := by
    rcases h with ⟨rfl, rfl⟩ | ⟨rfl, h⟩ | rfl | ⟨rfl, h⟩
    · rfl
    · have h' : ¬ (1 : Int) < n := by omega
      simp [Tr.odd, Tr.clean, kindT, ByteArray.size, h']
    · simp [Tr.odd, Tr.clean, kindT, ByteArray.size]
    · simp [Tr.odd, Tr.clean, kindT, ByteArray.size, h]
  show Tr.alo gtx rt rdN (kindT k n) = 0
  unfold Tr.alo
  rw [o]
  have hk : k ≠ 5 ∧ k ≠ 6 ∧ k ≠ 2 ∧ k ≠ 3 := by omega
  simp [kindT, hk]
theorem nok_arr {kids : List Tr} (h : ∀ k ∈ kids, NOK k) : NOK (arrT kids) :=
  ⟨(Tr.all_eq _ _).2 ⟨al_arr kids, fun k hk => absurd hk (by simp [arrT]), fun k hk => (h k hk).1⟩, (Tr.all_eq _ _).2 ⟨List.nodup_nil, fun k hk => absurd hk (by simp [arrT]), fun k hk => (h k hk).2⟩⟩
theorem nok_tag (n : Int) {u : Tr} (h : NOK u) : NOK (tgT n u) :=
  ⟨(Tr.all_eq _ _).2 ⟨al_tag n u, fun k hk => absurd hk (by simp [tgT]), fun k hk => by simp [tgT] at hk; subst hk; exact h.1⟩, (Tr.all_eq _ _).2 ⟨List.nodup_nil, fun k hk => absurd hk (by simp [tgT]), fun k hk => by simp [tgT] at hk; subst hk; exact h.2⟩⟩
theorem nok_map {keys kids : List Tr} (hl : keys.length = kids.length) (hk : ∀ k ∈ keys, NOK k) (hi : ∀ k ∈ kids, NOK k) (hn : keys.Nodup) : NOK (mapT keys kids) :=
  ⟨(Tr.all_eq _ _).2 ⟨al_map hl, fun k h => (hk k h).1, fun k h => (hi k h).1⟩, (Tr.all_eq _ _).2 ⟨hn, fun k h => (hk k h).2, fun k h => (hi k h).2⟩⟩
theorem deeps_leq {l : List Tr} {n : Nat} (h : ∀ k ∈ l, k.deep ≤ n) : Tr.deeps l ≤ n := Tr.mx_le fun x hx => by
  obtain ⟨k, hm, rfl⟩ := List.mem_map.1 hx
  exact h k hm
theorem pad_zero {s : ByteArray} {k : Nat} (h : padW s k = ⟨#[48]⟩) : k = 0 ∨ s.size = 0 := by
  have := congrArg ByteArray.size h
  rw [padW_size] at this
  have e : (⟨#[48]⟩ : ByteArray).size = 1 := rfl
  rw [e] at this
  omega
/-- A number in its form, as an Int, if it is whole, else as a Dec. -/
theorem dcm_al {r : Nm} (hr : rtN r.1 r.2.1 r.2.2 = true) : alF (dcm r) = 0 := by
  unfold dcm
  by_cases hw : (wholeA r.1 r.2.1 r.2.2).2 = true
  · rw [if_pos hw]
    unfold wholeA at hw ⊢
    by_cases hc : rtN r.1 r.2.1 r.2.2 = true ∧ 0 ≤ r.2.2 ∧ ((r.2.1.size : Nat) : Int) + r.2.2 ≤ 800
    · rw [if_pos hc]
      obtain ⟨c1, c2, c3⟩ := hc
      obtain ⟨e, he⟩ : ∃ e : Nat, r.2.2 = (e : Int) := ⟨r.2.2.toNat, by omega⟩
      rw [he] at c1 c3
      have hrt := rt_padW c1
      show alF (intT r.1 (padW r.2.1 r.2.2.toNat)) = 0
      rw [he, Int.toNat_natCast]
      refine al_int (by rw [hrt]; simp; omega) ?_
      rintro ⟨hn, hz⟩
      rcases pad_zero hz with h0 | h0
      · subst h0
        rw [padW_zero] at hz
        unfold rtN at c1
        rw [hz] at c1
        rw [if_pos (by rfl), hn] at c1
        simp at c1
      · have := rt_size (rtN_rt c1)
        omega
    · rw [if_neg hc] at hw; exact absurd hw (by decide)
  · rw [if_neg hw]
    refine al_dec ?_
    unfold rdN
    rw [hr]
    simpa using hw
theorem word_top {n : Nat} (h : n ≤ 18446744073709551616) : n < top := by
  unfold top
  have h3 : ∀ m, 20 ≤ m → 10 ^ 20 ≤ 10 ^ m := fun m h => Nat.pow_le_pow_right (by omega) h
  exact Nat.lt_of_lt_of_le (Nat.lt_of_le_of_lt h (by decide)) (h3 800 (by decide))
theorem rt_one : rt oneS = true := by decide
theorem val_one : val oneS = 1 := by decide
theorem bel_al {d : ByteArray} (h : (belA d).2 = 0) : alF (belA d).1 = 0 := by
  unfold belA addA at h ⊢
  by_cases hc : rt d = true ∧ rt oneS = true
  · rw [if_pos hc] at h ⊢
    unfold shortA at h ⊢
    split at h
    · rename_i hl
      rw [if_pos hl]
      refine al_int (rt_txt hl) ?_
      rintro ⟨_, hz⟩
      have := congrArg val hz
      rw [val_txt, val_one] at this
      have h0 : val ⟨#[48]⟩ = 0 := by decide
      rw [h0] at this
      omega
    · exact absurd h (by decide)
  · rw [if_neg hc] at h; exact absurd h (by decide)
theorem bel_word {n : Nat} (h : n < 18446744073709551616) : (belA (txt n)).2 = 0 := by
  unfold belA addA
  rw [if_pos ⟨rt_txt (word_top (by omega)), rt_one⟩, val_txt, val_one]
  unfold shortA
  rw [if_pos (word_top (by omega))]
/-- What is leaf-like: no keys, no kids. -/
def Lf (t : Tr) : Prop := t.keys = [] ∧ t.kids = []
theorem lf_size {t : Tr} (h : Lf t) : t.size = 1 := by rw [Tr.size_eq, h.1, h.2]; rfl
theorem lf_deep {t : Tr} (h : Lf t) : t.deep = 1 := by rw [Tr.deep_eq, h.1, h.2]; rfl
theorem dcm_lf (r : Nm) : Lf (dcm r) := by unfold dcm; split <;> exact ⟨rfl, rfl⟩
theorem tag_al {n : Nat} {u : Tr} (h : (tagA n u).2 = 0) : (alF (tagA n u).1 = 0 ∧ Lf (tagA n u).1) ∨ (tagA n u).1 = tgT (n : Nat) u := by
  unfold tagA at h ⊢
  split at h
  · rename_i c
    rw [if_pos c]
    left
    refine ⟨?_, rfl, rfl⟩
    unfold frbA at h ⊢
    split at h
    · rename_i c2
      rw [if_pos c2]
      unfold shortA at h ⊢
      split at h
      · rename_i c3
        rw [if_pos c3]
        exact al_int (rt_txt c3) (by simp)
      · exact absurd h (by decide)
    · exact absurd h (by decide)
  rename_i c1
  rw [if_neg c1]
  split at h
  · rename_i c
    rw [if_pos c]
    left
    split at h
    · rename_i c2; exact absurd h c2
    · rename_i c2
      rw [if_neg c2]
      exact ⟨bel_al h, rfl, rfl⟩
  rename_i c2
  rw [if_neg c2]
  split at h
  · rename_i c
    rw [if_pos c]
    split at h
    · rename_i a b hab
      left
      unfold dcmA at h ⊢
      split at h
      · exact absurd h (by decide)
      rename_i c3
      rw [if_neg c3]
      split at h
      · rename_i c4; exact absurd h c4
      · rename_i c4
        rw [if_neg c4]
        have h0 : (makeA b.neg b.dig (sgn a.neg (towA a.dig).1)).2 = 0 := by simpa using c4
        exact ⟨dcm_al (make_right (m := (makeA b.neg b.dig (sgn a.neg (towA a.dig).1)).1) (by rw [← h0])), dcm_lf _⟩
    · exact .inr rfl
  · rename_i c3
    rw [if_neg c3]
    exact .inr rfl
theorem oth_al {zs : List Int} (hz : ∀ c ∈ zs, 0 ≤ c ∧ c < 256) {p q : Nat} {h : Hd} {t : Tr} (e : hdA zs p = some (h, q)) (hc : h.cut = false) (hm : h.lo ≤ 27) (ho : othA h = .inr t) : alF t = 0 ∧ Lf t := by
  obtain ⟨hp, h1, h2, h3, h4, h5, h6, h7, h8, h9⟩ := hd_inv e
  have hb := hz _ (List.getElem_mem hp)
  unfold othA at ho
  split at ho
  · simp at ho; subst ho; exact ⟨al_kind (.inr (.inl ⟨rfl, by omega⟩)), rfl, rfl⟩
  split at ho
  · simp at ho; subst ho; exact ⟨al_kind (.inr (.inl ⟨rfl, by omega⟩)), rfl, rfl⟩
  split at ho
  · simp at ho; subst ho; exact ⟨al_kind (.inl ⟨rfl, rfl⟩), rfl, rfl⟩
  split at ho
  · simp at ho; subst ho; exact ⟨al_kind (.inr (.inr (.inl rfl))), rfl, rfl⟩
  split at ho
  · simp at ho
  · rename_i i1 i2 i3 i4 i5
    simp at ho
    subst ho
    refine ⟨al_kind (.inr (.inr (.inr ⟨rfl, ?_⟩))), rfl, rfl⟩
    unfold Tr.smp
    by_cases hl : h.lo < 24
    · have hn := (h8 hl).2.1
      simp
      omega
    · have h24 : h.lo = 24 := by omega
      have hn := (h9 hl hc).1
      have hw : hwd h.lo = 1 := by rw [h24]; rfl
      rw [hw] at hn
      have hlt := bytV_lt (here zs (p + 1) 1) fun c hc => hz c (List.mem_of_mem_drop (List.mem_of_mem_take hc))
      have hle : (here zs (p + 1) 1).length ≤ 1 := by unfold here; rw [List.length_take]; omega
      have h256 : bytV (here zs (p + 1) 1) < 256 := Nat.lt_of_lt_of_le hlt (by have := Nat.pow_le_pow_right (n := 256) (by decide) hle; simpa using this)
      have h32 : ¬ h.n < 32 := fun q => i5 ⟨h24, q⟩
      simp
      omega
/-- WHAT IS READ MAY BE. -/
theorem rc_may (zs : List Int) (hz : ∀ c ∈ zs, 0 ≤ c ∧ c < 256) : ∀ (k j : Nat), j ≤ 2 → ∀ (d p m : Nat) (lim : Option Nat) (keys kids : List Tr) (t : Tr) (r n : Nat), rcF k zs j d p m lim keys kids = .inr (t, r, n) → m ≤ 1024 → p ≤ zs.length →
    (∀ u ∈ keys, NOK u ∧ u.deep + d ≤ 25) → (∀ u ∈ kids, NOK u ∧ u.deep + d ≤ 25) → (j = 2 → keys.length = kids.length ∧ keys.Nodup) →
    NOK t ∧ (j = 0 → t.deep + d ≤ 25 ∧ t.size + m ≤ n) ∧ (0 < j → d ≤ 25 → t.deep + d ≤ 26) ∧ (j = 1 → t.size + m ≤ n + 1 + Tr.sizes kids) ∧ (j = 2 → t.size + m ≤ n + 1 + Tr.sizes keys + Tr.sizes kids) := by
  intro k
  induction k with
  | zero => intro j _ d p m lim keys kids t r n e; simp [rcF] at e
  | succ k ih =>
    intro j hj d p m lim keys kids t r n e hm hp hK hI hN
    rcases j with _ | _ | j
    · obtain ⟨h, q, h1, h2, h3, h4, h5, h6, h7⟩ := rc0_inv e
      obtain ⟨hp', a1, a2, a3, _⟩ := hd_inv h1
      have a3' := a3 h6
      have hw := hd_word hz h1
      have z0 : ∀ {t : Tr}, NOK t ∧ t.deep + d ≤ 25 ∧ t.size + m ≤ n → NOK t ∧ (0 = 0 → t.deep + d ≤ 25 ∧ t.size + m ≤ n) ∧ (0 < 0 → d ≤ 25 → t.deep + d ≤ 26) ∧ (0 = 1 → t.size + m ≤ n + 1 + Tr.sizes kids) ∧ (0 = 2 → t.size + m ≤ n + 1 + Tr.sizes keys + Tr.sizes kids) := fun z => ⟨z.1, fun _ => z.2, fun h => absurd h (by omega), fun h => absurd h (by omega), fun h => absurd h (by omega)⟩
      have lf : ∀ {t : Tr}, alF t = 0 → Lf t → m + 1 ≤ n → NOK t ∧ t.deep + d ≤ 25 ∧ t.size + m ≤ n := fun {t} ha hl hn => ⟨nok_leaf hl ha, by rw [lf_deep hl]; omega, by rw [lf_size hl]; omega⟩
      refine z0 ?_
      rcases bod_inv h7 with ⟨rfl, rfl, hb⟩ | ⟨rfl, l, hl, hb⟩ | ⟨_, hf⟩ | ⟨_, hf⟩ | ⟨_, u, hf, h0, rfl⟩
      · rcases hb with ⟨_, rfl⟩ | ⟨_, rfl⟩ | ⟨hmj, ho⟩
        · exact lf (al_int (rt_txt (word_top (by omega))) (by simp)) ⟨rfl, rfl⟩ (Nat.le_refl _)
        · exact lf (bel_al (bel_word hw.1)) ⟨rfl, rfl⟩ (Nat.le_refl _)
        · have hlo : h.lo ≤ 27 := by
            unfold mayA at h2
            simp at h2
            omega
          obtain ⟨o1, o2⟩ := oth_al hz h1 h6 hlo ho
          exact lf o1 o2 (Nat.le_refl _)
      · obtain ⟨b1, b2, b3, b4, b5⟩ := all_ok hl
        have hr : isR h = true := by unfold isR; rcases hb with ⟨q, _⟩ | ⟨q, _⟩ <;> simp [q]
        have hlen := b3 (h4 hr)
        rcases hb with ⟨_, rfl⟩ | ⟨h3', rfl⟩
        · exact lf (al_byt hlen) ⟨rfl, rfl⟩ (Nat.le_refl _)
        · refine lf (al_txt ?_ ?_) ⟨rfl, rfl⟩ (Nat.le_refl _)
          · unfold gtx; rw [bs_str (b5 hz), b4 h3']; rfl
          · rw [strOfNums_size]; exact hlen
      · obtain ⟨c1, _, c3, c4, _⟩ := ih 1 (by omega) _ _ _ _ _ _ _ _ _ hf h3 (by omega) (by simp) (by simp) (by omega)
        have := c3 (by omega) (by omega)
        have := c4 rfl
        rw [Tr.sizes_nil] at this
        exact ⟨c1, by omega, by omega⟩
      · obtain ⟨c1, _, c3, _, c5⟩ := ih 2 (by omega) _ _ _ _ _ _ _ _ _ hf h3 (by omega) (by simp) (by simp) (fun _ => ⟨rfl, List.nodup_nil⟩)
        have := c3 (by omega) (by omega)
        have := c5 rfl
        rw [Tr.sizes_nil] at this
        exact ⟨c1, by omega, by omega⟩
      · obtain ⟨c1, c2, _⟩ := ih 0 (by omega) _ _ _ _ _ _ _ _ _ hf h3 (by omega) (by simp) (by simp) (by omega)
        have c2 := c2 rfl
        have bb := rc_bnd zs _ 0 (by omega) _ _ _ _ _ _ _ _ _ hf h3 (by omega)
        rcases tag_al h0 with ⟨t1, t2⟩ | t1
        · exact lf t1 t2 (by omega)
        · rw [t1]
          refine ⟨nok_tag _ c1, ?_, ?_⟩
          · rw [Tr.deep_eq]
            have e1 : Tr.deeps (tgT (h.n : Nat) u).keys = 0 := rfl
            have e2 : Tr.deeps (tgT (h.n : Nat) u).kids ≤ u.deep := deeps_leq fun k hk => by simp [tgT] at hk; subst hk; exact Nat.le_refl _
            omega
          · rw [Tr.size_eq]
            have e1 : Tr.sizes (tgT (h.n : Nat) u).keys = 0 := rfl
            have e2 : Tr.sizes (tgT (h.n : Nat) u).kids = u.size + 0 := Tr.sizes_cons _ _
            omega
    · rcases rc1_inv e with ⟨hg, rfl, rfl⟩ | ⟨g, hg, u, q, o, hu, hr⟩
      · refine ⟨nok_arr fun k hk => (hI k hk).1, fun h => by omega, fun _ hd => ?_, fun _ => ?_, fun h => by omega⟩
        · rw [Tr.deep_eq]
          have e1 : Tr.deeps (arrT kids).keys = 0 := rfl
          have e2 : Tr.deeps (arrT kids).kids ≤ 25 - d := deeps_leq fun k hk => by have := (hI k hk).2; omega
          omega
        · rw [Tr.size_eq]
          have e1 : Tr.sizes (arrT kids).keys = 0 := rfl
          have e2 : Tr.sizes (arrT kids).kids = Tr.sizes kids := rfl
          omega
      · obtain ⟨b1, b2, b3, b4, b5⟩ := rc_bnd zs _ 0 (by omega) _ _ _ _ _ _ _ _ _ hu hm hp
        obtain ⟨u1, u2, _⟩ := ih 0 (by omega) _ _ _ _ _ _ _ _ _ hu hm hp (by simp) (by simp) (by omega)
        have u3 := u2 rfl
        obtain ⟨c1, _, c3, c4, _⟩ := ih 1 (by omega) _ _ _ _ _ _ _ _ _ hr b4 b2 (by simp) (fun k hk => by
          rcases List.mem_append.1 hk with hk | hk
          · exact hI k hk
          · rw [List.mem_singleton] at hk; subst hk; exact ⟨u1, u3.1⟩) (by omega)
        refine ⟨c1, fun h => by omega, c3, fun _ => ?_, fun h => by omega⟩
        have := c4 rfl
        rw [Tr.sizes_app, Tr.sizes_cons, Tr.sizes_nil] at this
        omega
    · obtain rfl : j = 0 := by omega
      obtain ⟨n1, n2⟩ := hN rfl
      rcases rc2_inv e with ⟨hg, rfl, rfl⟩ | ⟨g, hg, u, q, o, hu, hk, v, s, i, hv, hr⟩
      · refine ⟨nok_map n1 (fun k hk => (hK k hk).1) (fun k hk => (hI k hk).1) n2, fun h => by omega, fun _ hd => ?_, fun h => by omega, fun _ => ?_⟩
        · rw [Tr.deep_eq]
          have e1 : Tr.deeps (mapT keys kids).keys ≤ 25 - d := deeps_leq fun k hk => by have := (hK k hk).2; omega
          have e2 : Tr.deeps (mapT keys kids).kids ≤ 25 - d := deeps_leq fun k hk => by have := (hI k hk).2; omega
          omega
        · rw [Tr.size_eq]
          have e1 : Tr.sizes (mapT keys kids).keys = Tr.sizes keys := rfl
          have e2 : Tr.sizes (mapT keys kids).kids = Tr.sizes kids := rfl
          omega
      · obtain ⟨b1, b2, b3, b4, b5⟩ := rc_bnd zs _ 0 (by omega) _ _ _ _ _ _ _ _ _ hu hm hp
        obtain ⟨d1, d2, d3, d4, d5⟩ := rc_bnd zs _ 0 (by omega) _ _ _ _ _ _ _ _ _ hv b4 b2
        obtain ⟨u1, u2, _⟩ := ih 0 (by omega) _ _ _ _ _ _ _ _ _ hu hm hp (by simp) (by simp) (by omega)
        obtain ⟨v1, v2, _⟩ := ih 0 (by omega) _ _ _ _ _ _ _ _ _ hv b4 b2 (by simp) (by simp) (by omega)
        have u3 := u2 rfl
        have v3 := v2 rfl
        have hnot : u ∉ keys := fun hm => by rw [(hasK_iff keys u).2 hm] at hk; cases hk
        obtain ⟨c1, _, c3, _, c5⟩ := ih 2 (by omega) _ _ _ _ _ _ _ _ _ hr d4 d2 (fun k hk => by
          rcases List.mem_append.1 hk with hk | hk
          · exact hK k hk
          · rw [List.mem_singleton] at hk; subst hk; exact ⟨u1, u3.1⟩) (fun k hk => by
          rcases List.mem_append.1 hk with hk | hk
          · exact hI k hk
          · rw [List.mem_singleton] at hk; subst hk; exact ⟨v1, v3.1⟩) (fun _ => ⟨by simp [n1], List.nodup_append.2 ⟨n2, by simp, fun x hx y hy => by rw [List.mem_singleton] at hy; subst hy; exact fun e => hnot (e ▸ hx)⟩⟩)
        refine ⟨c1, fun h => by omega, c3, fun h => by omega, fun _ => ?_⟩
        have := c5 rfl
        rw [Tr.sizes_app, Tr.sizes_cons, Tr.sizes_nil, Tr.sizes_app, Tr.sizes_cons, Tr.sizes_nil] at this
        omega
end Go.Proofs.YtnjbppfanmmifaaGreatDoor
namespace Go.Proofs.YtnjbppfanmmifaaGreatDoor
open Go.RowKit
set_option linter.unusedVariables false
theorem run_err {zs : List Int} {mj : Int} {q n : Nat} {f : Int × Nat} (e : runA zs mj q n = .inl f) (hq : q ≤ zs.length) : f.1 ≠ 0 ∧ f.2 ≤ zs.length := by
  unfold runA at e
  split at e
  · simp at e
    subst e
    have h1 := why_le (here zs q n)
    have h2 : (here zs q n).length ≤ zs.length - q := by unfold here; rw [List.length_take, List.length_drop]; omega
    exact ⟨by simp, by show q + _ ≤ _; omega⟩
  split at e
  · simp at e; subst e; exact ⟨by simp, Nat.le_refl _⟩
  · simp at e
theorem prt_err : ∀ (k : Nat) {zs : List Int} {mj : Int} {pl p : Nat} {out : List Int} {f : Int × Nat}, prtF k zs mj pl p out = .inl f → pl ≤ zs.length → p ≤ zs.length → zs.length - p < k → f.1 ≠ 0 ∧ f.2 ≤ zs.length := by
  intro k
  induction k with
  | zero => intro zs mj pl p out f e _ _ h; omega
  | succ k ih =>
    intro zs mj pl p out f e hpl hp hk
    simp only [prtF] at e
    cases hh : hdA zs p with
    | none => rw [hh] at e; simp at e; subst e; exact ⟨by simp, Nat.le_refl _⟩
    | some hq =>
      obtain ⟨h, q⟩ := hq
      obtain ⟨hp', h1, h2, h3, h4, _⟩ := hd_inv hh
      rw [hh] at e
      simp only at e
      split at e
      · simp at e
      split at e
      · simp at e; subst e; exact ⟨by simp, hp⟩
      split at e
      · simp at e; subst e; exact ⟨by simp, Nat.le_refl _⟩
      rename_i hc
      have h3' := h3 (by simpa using hc)
      split at e
      · simp at e; subst e; exact ⟨by simp, hpl⟩
      split at e
      · rename_i g hr; simp at e; subst e; exact run_err hr h3'
      · rename_i l r hr
        obtain ⟨g1, g2, _⟩ := run_ok hr
        exact ih e hpl g2 (by omega)
theorem all_err {zs : List Int} {h : Hd} {q : Nat} {f : Int × Nat} (e : allA zs h q = .inl f) (hq : q ≤ zs.length) (hpl : h.pl ≤ zs.length) (hl : zs.length ≤ 4096) : f.1 ≠ 0 ∧ f.2 ≤ zs.length := by
  unfold allA at e
  split at e
  · exact run_err e hq
  · exact prt_err _ e hpl hq (by omega)
theorem bod_congr {zs : List Int} {h : Hd} {q m : Nat} {f g : Nat → Option Nat → Sum (Int × Nat) (Tr × Nat × Nat)} (e : ∀ j lim, j ≤ 2 → f j lim = g j lim) : bodA zs h q m f = bodA zs h q m g := by
  unfold bodA
  rw [e 0 none (by omega), e 1 (limA h) (by omega), e 2 (limA h) (by omega)]
theorem rc0_eq (k : Nat) (zs : List Int) (d p m : Nat) (lim : Option Nat) (keys kids : List Tr) : rcF (k + 1) zs 0 d p m lim keys kids = match hdA zs p with
    | none => .inl (3, zs.length)
    | some (h, q) => if mayA h = false then .inl (5, p)
      else if 1024 < m + 1 ∨ (isR h = true ∧ 4096 < h.n) then .inl (8, p)
      else if 24 < d then .inl (7, p)
      else if h.cut = true then .inl (3, zs.length)
      else bodA zs h q (m + 1) fun j lim => rcF k zs j (d + 1) q (m + 1) lim [] [] := rfl
theorem rc1_eq (k : Nat) (zs : List Int) (d p m : Nat) (lim : Option Nat) (keys kids : List Tr) : rcF (k + 1) zs 1 d p m lim keys kids = match gonA zs p lim with
    | .inl f => .inl f
    | .inr (false, q) => .inr (arrT kids, q, m)
    | .inr (true, _) => match rcF k zs 0 d p m none [] [] with
      | .inl f => .inl f
      | .inr (t, q, n) => rcF k zs 1 d q n (lim.map (· - 1)) [] (kids ++ [t]) := rfl
theorem rc2_eq (k : Nat) (zs : List Int) (d p m : Nat) (lim : Option Nat) (keys kids : List Tr) : rcF (k + 1) zs 2 d p m lim keys kids = match gonA zs p lim with
    | .inl f => .inl f
    | .inr (false, q) => .inr (mapT keys kids, q, m)
    | .inr (true, _) => match rcF k zs 0 d p m none [] [] with
      | .inl f => .inl f
      | .inr (t, q, n) => if hasK keys t = true then .inl (9, p) else match rcF k zs 0 d q n none [] [] with
        | .inl f => .inl f
        | .inr (u, r, o) => rcF k zs 2 d r o (lim.map (· - 1)) (keys ++ [t]) (kids ++ [u]) := rfl
/-- More steps turn nothing. -/
theorem rc_fuel (zs : List Int) : ∀ (k j : Nat), j ≤ 2 → ∀ (d p m : Nat) (lim : Option Nat) (keys kids : List Tr), m ≤ 1024 → p ≤ zs.length → 2 * (zs.length - p) + (if j = 0 then 1 else 2) ≤ k → rcF (k + 1) zs j d p m lim keys kids = rcF k zs j d p m lim keys kids := by
  intro k
  induction k with
  | zero => intro j _ d p m lim keys kids _ _ h; split at h <;> omega
  | succ k ih =>
    intro j hj d p m lim keys kids hm hp hk
    rcases j with _ | _ | j
    · rw [if_pos rfl] at hk
      rw [rc0_eq, rc0_eq]
      cases hh : hdA zs p with
      | none => rfl
      | some hq =>
        obtain ⟨h, q⟩ := hq
        obtain ⟨hp', h1, h2, h3, h4, _⟩ := hd_inv hh
        simp only
        split
        · rfl
        split
        · rfl
        split
        · rfl
        split
        · rfl
        · rename_i c1 c2 c3 c4
          have h3' := h3 (by simpa using c4)
          exact bod_congr fun j lim hj => ih j hj _ _ _ _ _ _ (by omega) h3' (by split <;> omega)
    · rw [if_neg (by omega)] at hk
      show rcF (k + 1 + 1) zs 1 d p m lim keys kids = rcF (k + 1) zs 1 d p m lim keys kids
      rw [rc1_eq, rc1_eq k]
      cases hg : gonA zs p lim with
      | inl f => rfl
      | inr bg =>
        obtain ⟨b, g⟩ := bg
        cases b with
        | false => rfl
        | true =>
          simp only
          rw [ih 0 (by omega) d p m none [] [] hm hp (by rw [if_pos rfl]; omega)]
          cases hr : rcF k zs 0 d p m none [] [] with
          | inl f => rfl
          | inr x =>
            obtain ⟨t, q, n⟩ := x
            obtain ⟨b1, b2, b3, b4, b5⟩ := rc_bnd zs _ 0 (by omega) _ _ _ _ _ _ _ _ _ hr hm hp
            have b6 := b5 rfl
            exact ih 1 (by omega) _ _ _ _ _ _ b4 b2 (by rw [if_neg (by omega)]; omega)
    · obtain rfl : j = 0 := by omega
      rw [if_neg (by omega)] at hk
      show rcF (k + 1 + 1) zs 2 d p m lim keys kids = rcF (k + 1) zs 2 d p m lim keys kids
      rw [rc2_eq, rc2_eq k]
      cases hg : gonA zs p lim with
      | inl f => rfl
      | inr bg =>
        obtain ⟨b, g⟩ := bg
        cases b with
        | false => rfl
        | true =>
          simp only
          rw [ih 0 (by omega) d p m none [] [] hm hp (by rw [if_pos rfl]; omega)]
          cases hr : rcF k zs 0 d p m none [] [] with
          | inl f => rfl
          | inr x =>
            obtain ⟨t, q, n⟩ := x
            obtain ⟨b1, b2, b3, b4, b5⟩ := rc_bnd zs _ 0 (by omega) _ _ _ _ _ _ _ _ _ hr hm hp
            have b6 := b5 rfl
            simp only
            split
            · rfl
            rw [ih 0 (by omega) d q n none [] [] b4 b2 (by rw [if_pos rfl]; omega)]
            cases hv : rcF k zs 0 d q n none [] [] with
            | inl f => rfl
            | inr x =>
              obtain ⟨u, r, o⟩ := x
              obtain ⟨c1, c2, c3, c4, c5⟩ := rc_bnd zs _ 0 (by omega) _ _ _ _ _ _ _ _ _ hv b4 b2
              have c6 := c5 rfl
              exact ih 2 (by omega) _ _ _ _ _ _ c4 c2 (by rw [if_neg (by omega)]; omega)
theorem rc_err (zs : List Int) (hl : zs.length ≤ 4096) : ∀ (k j : Nat), j ≤ 2 → ∀ (d p m : Nat) (lim : Option Nat) (keys kids : List Tr) (f : Int × Nat), rcF k zs j d p m lim keys kids = .inl f → m ≤ 1024 → p ≤ zs.length → 2 * (zs.length - p) + (if j = 0 then 1 else 2) ≤ k → f.1 ≠ 0 ∧ f.2 ≤ zs.length := by
  intro k
  induction k with
  | zero => intro j _ d p m lim keys kids f _ _ _ h; split at h <;> omega
  | succ k ih =>
    intro j hj d p m lim keys kids f e hm hp hk
    have gon : ∀ {f : Int × Nat}, gonA zs p lim = .inl f → f.1 ≠ 0 ∧ f.2 ≤ zs.length := by
      intro f hg
      unfold gonA at hg
      split at hg
      · simp at hg
      · simp at hg
      · split at hg
        · simp at hg; subst hg; exact ⟨by simp, Nat.le_refl _⟩
        · split at hg <;> simp at hg
    rcases j with _ | _ | j
    · rw [if_pos rfl] at hk
      rw [rc0_eq] at e
      cases hh : hdA zs p with
      | none => rw [hh] at e; simp at e; subst e; exact ⟨by simp, Nat.le_refl _⟩
      | some hq =>
        obtain ⟨h, q⟩ := hq
        obtain ⟨hp', h1, h2, h3, h4, h5, h6, h7, h8, h9⟩ := hd_inv hh
        rw [hh] at e
        simp only at e
        split at e
        · simp at e; subst e; exact ⟨by simp, hp⟩
        split at e
        · simp at e; subst e; exact ⟨by simp, hp⟩
        split at e
        · simp at e; subst e; exact ⟨by simp, hp⟩
        split at e
        · simp at e; subst e; exact ⟨by simp, Nat.le_refl _⟩
        rename_i c1 c2 c3 c4
        have hcf : h.cut = false := by simpa using c4
        have h3' := h3 hcf
        unfold bodA at e
        split at e
        · simp at e
        split at e
        · simp at e
        split at e
        · split at e
          · rename_i g hg; simp at e; subst e; exact all_err hg h3' (by omega) hl
          · simp at e
        split at e
        · split at e
          · rename_i g hg; simp at e; subst e; exact all_err hg h3' (by omega) hl
          · simp at e
        split at e
        · exact ih 1 (by omega) _ _ _ _ _ _ _ e (by omega) h3' (by rw [if_neg (by omega)]; omega)
        split at e
        · exact ih 2 (by omega) _ _ _ _ _ _ _ e (by omega) h3' (by rw [if_neg (by omega)]; omega)
        split at e
        · split at e
          · rename_i g hg; simp at e; subst e; exact ih 0 (by omega) _ _ _ _ _ _ _ hg (by omega) h3' (by rw [if_pos rfl]; omega)
          · split at e
            · simp at e; subst e; exact ⟨by simp, by show h.pl ≤ _; omega⟩
            · simp at e
        · split at e
          · rename_i g hg
            simp at e
            subst e
            unfold othA at hg
            split at hg
            · simp at hg
            split at hg
            · simp at hg
            split at hg
            · simp at hg
            split at hg
            · simp at hg
            split at hg
            · rename_i q1
              simp at hg
              subst hg
              have h24 : hwd h.lo = 1 := by rw [q1.1]; rfl
              have := (h9 (by omega) hcf).2
              exact ⟨by simp, by show h.pl + 1 ≤ _; omega⟩
            · simp at hg
          · simp at e
    · rw [if_neg (by omega)] at hk
      rw [show (0 + 1 : Nat) = 1 from rfl, rc1_eq] at e
      cases hg : gonA zs p lim with
      | inl g => rw [hg] at e; simp at e; subst e; exact gon hg
      | inr bg =>
        obtain ⟨b, g⟩ := bg
        rw [hg] at e
        cases b with
        | false => simp at e
        | true =>
          simp only at e
          split at e
          · rename_i g hr; simp at e; subst e; exact ih 0 (by omega) _ _ _ _ _ _ _ hr hm hp (by rw [if_pos rfl]; omega)
          · rename_i t q n hr
            obtain ⟨b1, b2, b3, b4, b5⟩ := rc_bnd zs _ 0 (by omega) _ _ _ _ _ _ _ _ _ hr hm hp
            have b6 := b5 rfl
            exact ih 1 (by omega) _ _ _ _ _ _ _ e b4 b2 (by rw [if_neg (by omega)]; omega)
    · obtain rfl : j = 0 := by omega
      rw [if_neg (by omega)] at hk
      rw [show (0 + 1 + 1 : Nat) = 2 from rfl, rc2_eq] at e
      cases hg : gonA zs p lim with
      | inl g => rw [hg] at e; simp at e; subst e; exact gon hg
      | inr bg =>
        obtain ⟨b, g⟩ := bg
        rw [hg] at e
        cases b with
        | false => simp at e
        | true =>
          simp only at e
          split at e
          · rename_i g hr; simp at e; subst e; exact ih 0 (by omega) _ _ _ _ _ _ _ hr hm hp (by rw [if_pos rfl]; omega)
          · rename_i t q n hr
            obtain ⟨b1, b2, b3, b4, b5⟩ := rc_bnd zs _ 0 (by omega) _ _ _ _ _ _ _ _ _ hr hm hp
            have b6 := b5 rfl
            split at e
            · simp at e; subst e; exact ⟨by simp, hp⟩
            split at e
            · rename_i g hv; simp at e; subst e; exact ih 0 (by omega) _ _ _ _ _ _ _ hv b4 b2 (by rw [if_pos rfl]; omega)
            · rename_i u r o hv
              obtain ⟨c1, c2, c3, c4, c5⟩ := rc_bnd zs _ 0 (by omega) _ _ _ _ _ _ _ _ _ hv b4 b2
              have c6 := c5 rfl
              exact ih 2 (by omega) _ _ _ _ _ _ _ e c4 c2 (by rw [if_neg (by omega)]; omega)
/-! ### Item and Decode -/
theorem itm_ok {zs : List Int} {x : Int} {t : Tr} {r : Nat} (e : itmA zs x = .inr (t, r)) : zs.length ≤ 4096 ∧ 0 ≤ x ∧ x < zs.length ∧ x < r ∧ r ≤ zs.length ∧ ∃ n, n ≤ 1024 ∧ rcF 10000 zs 0 1 x.toNat 0 none [] [] = .inr (t, r, n) := by
  unfold itmA at e
  split at e
  · simp at e
  split at e
  · simp at e
  split at e
  · simp at e
  · rename_i u q n hr
    simp at e
    obtain ⟨rfl, rfl⟩ := e
    obtain ⟨b1, b2, b3, b4, b5⟩ := rc_bnd zs _ 0 (by omega) _ _ _ _ _ _ _ _ _ hr (by omega) (by omega)
    have b6 := b5 rfl
    exact ⟨by omega, by omega, by omega, by omega, b2, n, b4, hr⟩
theorem itm_err {zs : List Int} {x : Int} {f : Int × Nat} (e : itmA zs x = .inl f) : f.1 ≠ 0 ∧ f.2 ≤ zs.length := by
  unfold itmA at e
  split at e
  · simp at e; subst e; exact ⟨by simp, Nat.zero_le _⟩
  split at e
  · simp at e; subst e; exact ⟨by simp, Nat.le_refl _⟩
  split at e
  · rename_i g hr
    simp at e
    subst e
    exact rc_err zs (by omega) _ 0 (by omega) _ _ _ _ _ _ _ hr (by omega) (by omega) (by rw [if_pos rfl]; omega)
  · simp at e
theorem dcd_err {zs : List Int} {f : Int × Nat} (e : dcdA zs = .inl f) : f.1 ≠ 0 ∧ f.2 ≤ zs.length := by
  unfold dcdA at e
  split at e
  · rename_i g hg; simp at e; subst e; exact itm_err hg
  · rename_i t q hq
    split at e
    · simp at e; subst e; exact ⟨by simp, (itm_ok hq).2.2.2.2.1⟩
    · simp at e
theorem dcd_ok {zs : List Int} {t : Tr} (e : dcdA zs = .inr t) : itmA zs 0 = .inr (t, zs.length) := by
  unfold dcdA at e
  split at e
  · simp at e
  · rename_i u q hq
    split at e
    · simp at e
    · rename_i h
      simp at e h
      subst e h
      exact hq
/-- P12.3: a tree that is decoded may be. -/
theorem itm_may {zs : List Int} (hz : ∀ c ∈ zs, 0 ≤ c ∧ c < 256) {x : Int} {t : Tr} {r : Nat} (e : itmA zs x = .inr (t, r)) : NOK t ∧ t.deep ≤ 24 ∧ t.size ≤ 1024 := by
  obtain ⟨h1, h2, h3, h4, h5, n, h6, hr⟩ := itm_ok e
  obtain ⟨c1, c2, _⟩ := rc_may zs hz _ 0 (by omega) _ _ _ _ _ _ _ _ _ hr (by omega) (by omega) (by simp) (by simp) (by omega)
  have := c2 rfl
  exact ⟨c1, by omega, by omega⟩
/-- The same bytes up to its end: the same item. -/
theorem itm_same {zs zs' : List Int} {t : Tr} {r : Nat} (e : itmA zs 0 = .inr (t, r)) (hl : zs'.length ≤ 4096) (ha : Ag 0 0 r zs zs') : itmA zs' 0 = .inr (t, r) := by
  obtain ⟨h1, h2, h3, h4, h5, n, h6, hr⟩ := itm_ok e
  have hlen := ha.len (by omega)
  unfold itmA
  rw [if_neg (by omega), if_neg (by omega), rc_same hr (by simp) ha]
/-- P12.4: behind an item anything may stand. -/
theorem itm_behind {zs b : List Int} {t : Tr} {r : Nat} (e : itmA zs 0 = .inr (t, r)) (hl : zs.length + b.length ≤ 4096) : itmA (zs.take r ++ b) 0 = .inr (t, r) := by
  obtain ⟨h1, h2, h3, h4, h5, n, h6, hr⟩ := itm_ok e
  refine itm_same e (by rw [List.length_append, List.length_take]; omega) ⟨h5, fun i _ hi => ?_⟩
  rw [Nat.add_zero, List.getElem?_append_left (by rw [List.length_take]; omega), List.getElem?_take, if_pos hi]
/-- P12.5: no beginning of an item's bytes is one. -/
theorem dcd_heads {zs : List Int} {t : Tr} {r c : Nat} (e : itmA zs 0 = .inr (t, r)) (hc : c < r) : ∃ f, dcdA (zs.take c) = .inl f := by
  cases h : dcdA (zs.take c) with
  | inl f => exact ⟨f, rfl⟩
  | inr u =>
    exfalso
    obtain ⟨h1, h2, h3, h4, h5, _⟩ := itm_ok e
    have hl : (zs.take c).length = c := by rw [List.length_take]; omega
    have h2 := dcd_ok h
    rw [hl] at h2
    have := itm_same h2 h1 ⟨by omega, fun i _ hi => by rw [Nat.add_zero, List.getElem?_take, if_pos hi]⟩
    rw [e] at this
    simp at this
    omega
end Go.Proofs.YtnjbppfanmmifaaGreatDoor
namespace Go.Proofs.YtnjbppfanmmifaaGreatDoor
open Go.RowKit
set_option linter.unusedVariables false
theorem rc_down {zs : List Int} (hl : zs.length ≤ 4096) {j d p m : Nat} {lim : Option Nat} {keys kids : List Tr} (hj : j ≤ 2) (hm : m ≤ 1024) (hp : p ≤ zs.length) (i : Nat) (hi : i ≤ 1000) : rcF 10000 zs j d p m lim keys kids = rcF (10000 - i) zs j d p m lim keys kids := by
  induction i with
  | zero => rfl
  | succ i ih =>
    rw [ih (by omega), show 10000 - i = (10000 - (i + 1)) + 1 by omega]
    exact rc_fuel zs _ j hj _ _ _ _ _ _ hm hp (by split <;> omega)
/-- Two items, told ahead by c: read as an Array of both, or too many, or too deep. -/
theorem two_read {a b zs : List Int} {n m : Tr} {na nb : Nat} (la : a.length ≤ 4096) (lb : b.length ≤ 4096) (ea : rcF 10000 a 0 1 0 0 none [] [] = .inr (n, a.length, na)) (eb : rcF 10000 b 0 1 0 0 none [] [] = .inr (m, b.length, nb))
    (ga : Ag 0 1 a.length a zs) (gb : Ag 0 (1 + a.length) b.length b zs) (lim : Option Nat) (q : Nat) (g0 : gonA zs 1 lim = .inr (true, 1)) (g1 : gonA zs (1 + a.length) (lim.map (· - 1)) = .inr (true, 1 + a.length)) (g2 : gonA zs (1 + a.length + b.length) ((lim.map (· - 1)).map (· - 1)) = .inr (false, q)) :
    (rcF 9998 zs 0 2 1 1 none [] [] = .inr (n, 1 + a.length, 1 + na) ∧ rcF 9997 zs 0 2 (1 + a.length) (1 + na) none [] [] = .inr (m, 1 + a.length + b.length, 1 + na + nb) ∧ rcF 9999 zs 1 2 1 1 lim [] [] = .inr (arrT [n, m], q, 1 + na + nb)) ∨
    (∃ e pl, rcF 9999 zs 1 2 1 1 lim [] [] = .inl (e, pl) ∧ (e = 7 ∨ e = 8)) := by
  have ea2 := ea
  have eb2 := eb
  rw [rc_down la (by omega) (by omega) (by omega) 2 (by omega)] at ea2
  rw [rc_down lb (by omega) (by omega) (by omega) 3 (by omega)] at eb2
  rw [show (9999 : Nat) = 9998 + 1 from rfl, rc1_eq, g0]
  simp only
  rcases rc_shift a zs 0 1 _ 0 (by omega) _ _ _ _ _ _ _ _ _ ea2 (by omega) (by omega) ga (by omega) 2 1 with h | ⟨⟨e, pl, h, h1⟩, _⟩
  · have h' : rcF 9998 zs 0 2 1 1 none [] [] = .inr (n, 1 + a.length, 1 + na) := by rw [show 1 + a.length = a.length + 1 by omega]; exact h
    rw [h']
    simp only
    rw [show (9998 : Nat) = 9997 + 1 from rfl, rc1_eq 9997, g1]
    simp only
    rcases rc_shift b zs 0 (1 + a.length) _ 0 (by omega) _ _ _ _ _ _ _ _ _ eb2 (by omega) (by omega) gb (by omega) 2 (1 + na) with k | ⟨⟨e, pl, k, k1⟩, _⟩
    · have k' : rcF 9997 zs 0 2 (1 + a.length) (1 + na) none [] [] = .inr (m, 1 + a.length + b.length, 1 + na + nb) := by
        rw [show 1 + a.length + b.length = b.length + (1 + a.length) by omega]
        rw [Nat.zero_add] at k
        exact k
      rw [k']
      simp only
      rw [show (9997 : Nat) = 9996 + 1 from rfl, rc1_eq 9996, g2]
      first
        | exact .inl ⟨trivial, trivial, rfl⟩
        | simp
    · right
      rw [Nat.zero_add] at k
      rw [show rcF 9997 zs 0 2 (1 + a.length) (1 + na) none [] [] = .inl (e, pl) from k]
      exact ⟨e, pl, rfl, k1⟩
  · right
    rw [show rcF 9998 zs 0 2 1 1 none [] [] = .inl (e, pl) from h]
    exact ⟨e, pl, rfl, h1⟩
theorem ab_at {a b c : List Int} {x : Int} {i : Nat} (h : i < a.length) : (x :: (a ++ b) ++ c)[i + 1]? = a[i]? := by
  rw [List.cons_append, List.getElem?_cons_succ, List.getElem?_append_left (by rw [List.length_append]; omega), List.getElem?_append_left h]
theorem ab_at2 {a b c : List Int} {x : Int} {i : Nat} (h : i < b.length) : (x :: (a ++ b) ++ c)[i + (1 + a.length)]? = b[i]? := by
  rw [List.cons_append, show i + (1 + a.length) = (i + a.length) + 1 by omega, List.getElem?_cons_succ, List.getElem?_append_left (by rw [List.length_append]; omega), List.getElem?_append_right (by omega)]
  congr 1
  omega
/-- A first byte of an item is none that ends. -/
theorem first_not {zs : List Int} {k d m r n : Nat} {t : Tr} (e : rcF k zs 0 d 0 m none [] [] = .inr (t, r, n)) : ∃ c, zs[0]? = some c ∧ c ≠ 255 := by
  cases k with
  | zero => simp [rcF] at e
  | succ k =>
    obtain ⟨h, q, h1, h2, _⟩ := rc0_inv e
    obtain ⟨hp, _, _, _, _, h5, h6, _⟩ := hd_inv h1
    refine ⟨zs[0], List.getElem?_eq_getElem hp, fun hc => ?_⟩
    rw [hc] at h5 h6
    unfold mayA at h2
    rw [h5, h6] at h2
    simp at h2
/-- P12.1: items one behind the other, with how many they are ahead, or up to the byte 255. -/
theorem dcd_list {a b : List Int} {n m : Tr} (ea : dcdA a = .inr n) (eb : dcdA b = .inr m) (hl : a.length + b.length < 4096) :
    (dcdA (130 :: (a ++ b)) = .inr (arrT [n, m]) ∧ (a.length + b.length + 2 ≤ 4096 → dcdA (159 :: (a ++ b) ++ [255]) = .inr (arrT [n, m]))) ∨ (∃ e pl, dcdA (130 :: (a ++ b)) = .inl (e, pl) ∧ (e = 7 ∨ e = 8)) := by
  obtain ⟨_, _, a3, a4, a5, na, a6, ra⟩ := itm_ok (dcd_ok ea)
  obtain ⟨_, _, b3, b4, b5, nb, b6, rb⟩ := itm_ok (dcd_ok eb)
  obtain ⟨ca, ha, hca⟩ := first_not ra
  obtain ⟨cb, hb, hcb⟩ := first_not rb
  have xe : 130 :: (a ++ b) = 130 :: (a ++ b) ++ ([] : List Int) := by simp
  have e2 : ∀ zs : List Int, zs = 130 :: (a ++ b) → hdA zs 0 = some (⟨0, 4, 2, 2, false⟩, 1) := fun zs h => by subst h; rfl
  have e3 : ∀ zs c : List Int, zs = 159 :: (a ++ b) ++ c → zs.length ≠ 0 → hdA zs 0 = some (⟨0, 4, 31, 0, false⟩, 1) := fun zs c h _ => by
    subst h
    unfold hdA
    simp [hwd, bytV]
  have gx := two_read (zs := 130 :: (a ++ b)) (by omega) (by omega) ra rb ⟨Nat.le_refl _, fun i _ hi => by rw [xe]; exact ab_at hi⟩ ⟨Nat.le_refl _, fun i _ hi => by rw [xe]; exact ab_at2 hi⟩ (some 2) (1 + a.length + b.length) rfl rfl rfl
  have top : ∀ (zs : List Int) (h : Hd), hdA zs 0 = some (h, 1) → h.mj = 4 → h.cut = false → mayA h = true → rcF 10000 zs 0 1 0 0 none [] [] = rcF 9999 zs 1 2 1 1 (limA h) [] [] := by
    intro zs h hh hm hc hy
    rw [show (10000 : Nat) = 9999 + 1 from rfl, rc0_eq, hh]
    simp only
    rw [if_neg (by rw [hy]; simp), if_neg (by rintro (q | ⟨q, _⟩); omega; unfold isR at q; simp [hm] at q), if_neg (by omega), if_neg (by rw [hc]; simp)]
    unfold bodA
    rw [if_neg (by omega), if_neg (by omega), if_neg (by omega), if_neg (by omega), if_pos hm]
  have tx := top _ _ (e2 _ rfl) rfl rfl rfl
  rcases gx with ⟨g1, g2, g3⟩ | ⟨e, pl, g3, g4⟩
  · left
    refine ⟨?_, fun hL => ?_⟩
    · unfold dcdA itmA
      rw [if_neg (by simp; omega), if_neg (by simp; omega)]
      rw [show (0 : Int).toNat = 0 from rfl, tx, show limA (⟨0, 4, 2, 2, false⟩ : Hd) = some 2 from rfl, g3]
      simp only
      rw [if_neg (by simp; omega)]
    · have hy := e3 (159 :: (a ++ b) ++ [255]) [255] rfl (by simp)
      have ty := top _ _ hy rfl rfl rfl
      have q1 : rcF 9998 (159 :: (a ++ b) ++ [255]) 0 2 1 1 none [] [] = .inr (n, 1 + a.length, 1 + na) := by
        rcases rc_shift (130 :: (a ++ b)) (159 :: (a ++ b) ++ [255]) 1 0 _ 0 (by omega) _ _ _ _ _ _ _ _ _ g1 (by omega) (by simp) ⟨by simp; omega, fun i h0 hi => by
          obtain ⟨j, rfl⟩ : ∃ j, i = j + 1 := ⟨i - 1, by omega⟩
          rw [Nat.add_zero, ab_at (by omega), xe, ab_at (by omega)]⟩ (by omega) 2 1 with h | ⟨_, h⟩
        · rw [h]; congr 3; omega
        · omega
      have q2 : rcF 9997 (159 :: (a ++ b) ++ [255]) 0 2 (1 + a.length) (1 + na) none [] [] = .inr (m, 1 + a.length + b.length, 1 + na + nb) := by
        have hna : 1 + na ≤ 1024 := (rc_bnd _ _ 0 (by omega) _ _ _ _ _ _ _ _ _ g1 (by omega) (by simp)).2.2.2.1
        rcases rc_shift (130 :: (a ++ b)) (159 :: (a ++ b) ++ [255]) (1 + a.length) 0 _ 0 (by omega) _ _ _ _ _ _ _ _ _ g2 hna (by simp; omega) ⟨by simp; omega, fun i h0 hi => by
          obtain ⟨j, rfl⟩ : ∃ j, i = j + (1 + a.length) := ⟨i - (1 + a.length), by omega⟩
          rw [Nat.add_zero, ab_at2 (by omega), xe, ab_at2 (by omega)]⟩ (by omega) 2 (1 + na) with h | ⟨_, h⟩
        · rw [show rcF 9997 (159 :: (a ++ b) ++ [255]) 0 2 (1 + a.length) (1 + na) none [] [] = _ from h]; congr 3; omega
        · omega
      have z0 : gonA (159 :: (a ++ b) ++ [255]) 1 none = .inr (true, 1) := by
        unfold gonA
        simp only
        rw [show (159 :: (a ++ b) ++ [255])[1]? = some ca from by rw [show (1 : Nat) = 0 + 1 from rfl, ab_at (by omega), ha]]
        simp only
        rw [if_neg hca]
      have z1 : gonA (159 :: (a ++ b) ++ [255]) (1 + a.length) none = .inr (true, 1 + a.length) := by
        unfold gonA
        simp only
        rw [show (159 :: (a ++ b) ++ [255])[1 + a.length]? = some cb from by rw [show 1 + a.length = 0 + (1 + a.length) by omega, ab_at2 (by omega), hb]]
        simp only
        rw [if_neg hcb]
      have z2 : gonA (159 :: (a ++ b) ++ [255]) (1 + a.length + b.length) none = .inr (false, 1 + a.length + b.length + 1) := by
        unfold gonA
        simp only
        rw [show (159 :: (a ++ b) ++ [255])[1 + a.length + b.length]? = some 255 from by
          rw [List.getElem?_append_right (by simp; omega)]
          simp
          rw [show 1 + a.length + b.length - (a.length + b.length + 1) = 0 by omega]
          rfl]
        simp
      unfold dcdA itmA
      rw [if_neg (by simp; omega), if_neg (by simp; omega)]
      rw [show (0 : Int).toNat = 0 from rfl, ty, show limA (⟨0, 4, 31, 0, false⟩ : Hd) = none from rfl]
      rw [show (9999 : Nat) = 9998 + 1 from rfl, rc1_eq, z0]
      simp only
      rw [q1]
      simp only
      rw [show (9998 : Nat) = 9997 + 1 from rfl, rc1_eq, show Option.map (fun x => x - 1) (none : Option Nat) = none from rfl, z1]
      simp only
      rw [q2]
      simp only
      rw [show (9997 : Nat) = 9996 + 1 from rfl, rc1_eq, show Option.map (fun x => x - 1) (none : Option Nat) = none from rfl, z2]
      simp only
      rw [if_neg (by simp; omega)]
      rfl
  · right
    refine ⟨e, pl, ?_, g4⟩
    unfold dcdA itmA
    rw [if_neg (by simp; omega), if_neg (by simp; omega)]
    rw [show (0 : Int).toNat = 0 from rfl, tx, show limA (⟨0, 4, 2, 2, false⟩ : Hd) = some 2 from rfl, g3]
end Go.Proofs.YtnjbppfanmmifaaGreatDoor
namespace Go.Proofs.YtnjbppfanmmifaaGreatDoor
open Go.RowKit Go.Shelf Go.Lib Go.Sort

theorem dec_numF (u : Nat) : (Lib.decDigits u).map (fun b : UInt8 => ((b.toNat : Nat) : Int)) = numL u := by
  induction u using Nat.strongRecOn with
  | _ u ih =>
    by_cases h : u < 10
    · rw [Lib.decDigits_one h, num_small h]
      simp only [List.map_cons, List.map_nil]
      rw [UInt8.toNat_ofNat', Nat.mod_eq_of_lt (by omega)]
    · rw [Lib.decDigits, dif_neg h, num_big (by omega), List.map_append, ih (u / 10) (by omega)]
      simp only [List.map_cons, List.map_nil]
      rw [UInt8.toNat_ofNat', Nat.mod_eq_of_lt (by omega)]
theorem dec_txt (u : Nat) : (⟨(Lib.decDigits u).toArray⟩ : ByteArray) = txt u := bs_inj (by rw [bs_txt]; exact dec_numF u)

set_option maxHeartbeats 4000000 in
set_option maxRecDepth 100000 in
theorem ifmt_any (u : Nat) (hu64 : u < 18446744073709551616) (w : World) (htab : Lib.TabIs Tryz.prog w "internal/strconv.uint64pow10" .u64 Lib.pow10Tab) :
    Calls Tryz.prog 195 #[.int .u64 u, .int .i64 10] w fun e w' => e = .returned (.string (txt u)) ∧ Below w.heap.size w w' := by
  rw [← dec_txt u]
  by_cases hs : u < 100
  · have hk := Any.internal_strconv_small lays283 u hs w
    have iu : (u : Int) < 100 := by omega
    have w1 : IntKind.i64.wrap (u : Int) = (u : Int) := by rw [IntKind.wrap_i64]; omega
    go_enter Tryz.func195, Tryz.ntmps195
    go_wp2_with (go_at_call 213; refine hk.mono ?_; rintro e w' ⟨rfl, hw⟩; obtain rfl : w = w' := hw.symm)
    go_ret
    exact ⟨rfl, Below.refl _ _⟩
  · have hu1 : 1 ≤ u := by omega
    have hnd20 : Lib.nDigits u ≤ 20 := by have := Lib.numDigits_eq u hu1 hu64; split at this <;> omega
    have hal : Tryz.prog.arrayLen 208 = 24 := by simp [Program.arrayLen, Tryz.underlying208]
    have hsl : ∀ W, (Instr.sliceAt 208 (.pointer (some ⟨w.heap.size, 0, none⟩)) none (some (.int .i64 (Lib.nDigits u : Int))) none).run Tryz.prog W = .ok (.slice (some ⟨w.heap.size, 0, none⟩) (Lib.nDigits u) 24) W := fun W => by
      rw [run_sliceAt_array_h W 208 ⟨w.heap.size, 0, none⟩ (by simp [Program.arrayLen, Program.elem, Tryz.underlying208]) .i64 (Lib.nDigits u : Int) (by omega) (by rw [hal]; omega)]
      go_simp
    have hH0 := Lib.holds_zero0 w 208 (Lib.nDigits u) (by omega)
    have hfmt := Any.internal_strconv_formatBase10 lays285 w.heap.size 0 24 u (Array.replicate (Lib.nDigits u) 0) (w.alloc (.cells Lib.zeros24 208)) hH0 (by rw [Array.size_replicate]; exact Lib.lt_pow_nDigits u) hu64 (by rw [Array.size_replicate]; omega)
    rw [Array.size_replicate] at hfmt
    have hnum := Any.internal_strconv_numDigits laysM284 u hu1 hu64 _ (Lib.tabIs_alloc htab (.cells Lib.zeros24 208))
    have HH0 := Lib.hid hH0
    have iu : ¬ (u : Int) < 100 := by omega
    clear hH0 hal
    go_enter Tryz.func195, Tryz.ntmps195
    go_wp2_with (go_at_call 214; refine hnum.mono ?_; rintro e w' ⟨rfl, rfl⟩)
    refine hfmt.mono ?_
    rintro e w' ⟨rfl, k, v', dk, rfl, hF⟩
    have hcv : (convert 22 9 (.slice (some ⟨w.heap.size, 0, none⟩) (Lib.nDigits u) 24)).run Tryz.prog ((putRow (fun (b : UInt8) => Value.int .u8 (b.toNat : Int)) (w.alloc (.cells Lib.zeros24 208)) w.heap.size 0 dk).drewN k) = .ok (.string ⟨(Lib.decDigits u).toArray⟩) ((putRow (fun (b : UInt8) => Value.int .u8 (b.toNat : Int)) (w.alloc (.cells Lib.zeros24 208)) w.heap.size 0 dk).drewN k) := by
      have h := run_convert_bytes_back (P := Tryz.prog) ((putRow (fun (b : UInt8) => Value.int .u8 (b.toNat : Int)) (w.alloc (.cells Lib.zeros24 208)) w.heap.size 0 dk).drewN k) 22 9 5 ⟨w.heap.size, 0, none⟩ 24 (Lib.decDigits u) Tryz.underlying22 Tryz.underlying5 Tryz.underlying9 (fun j hj => by
        rw [Lib.row_is_numeral hF j hj, Lib.add_plain, World.cell?_drewN]
        exact cell?_putRow (fun (b : UInt8) => Value.int .u8 (b.toNat : Int)) _ w.heap.size 0 _ dk HH0.out (by rw [hF.size, Array.size_replicate]) j (by rw [hF.size]; rw [Lib.decDigits_length] at hj; exact hj))
      rw [Lib.decDigits_length] at h
      exact h
    go_wp2
    go_ret
    obtain ⟨os, eo⟩ := Lib.fin_at w (.cells Lib.zeros24 208) dk k 0
    exact ⟨rfl, by rw [eo]; exact Lib.below_grow _ w (Nat.le_refl _) k os⟩
theorem fmt_any (u : Nat) (hu64 : u < 18446744073709551616) (w : World) (htab : Lib.TabIs Tryz.prog w "internal/strconv.uint64pow10" .u64 Lib.pow10Tab) :
    Calls Tryz.prog 163 #[.int .u64 u, .int .i64 10] w fun e w' => e = .returned (.string (txt u)) ∧ Below w.heap.size w w' := by
  have hk := ifmt_any u hu64 w htab
  clear htab hu64
  generalize txt u = T at *
  go_enter Tryz.func163, Tryz.ntmps163
  go_wp2_with (go_at_call 195; refine hk.mono ?_; rintro e w1 ⟨rfl, hb⟩)
  go_ret
  exact ⟨rfl, hb⟩
theorem frw_any (u : Nat) (hu64 : u < 18446744073709551616) (w : World) (htab : Lib.TabIs Tryz.prog w "internal/strconv.uint64pow10" .u64 Lib.pow10Tab) :
    Calls Tryz.prog 124 #[.int .u64 u] w fun e w' => e = .returned (.string (txt u)) ∧ Below w.heap.size w w' := by
  have hk := fmt_any u hu64 w htab
  clear htab hu64
  generalize txt u = T at *
  go_enter Tryz.func124, Tryz.ntmps124
  go_wp2_with (go_at_call 163; refine hk.mono ?_; rintro e w1 ⟨rfl, hb⟩)
  go_ret
  exact ⟨rfl, hb⟩
end Go.Proofs.YtnjbppfanmmifaaGreatDoor
