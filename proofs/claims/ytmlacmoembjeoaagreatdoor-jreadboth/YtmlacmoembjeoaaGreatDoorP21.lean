/-
  What is read by descent, within bounds, may be.
  Tokens of bytes that are put together: one behind the other, gaps between them, other places.
  What Parse and Valid answer, by descent; two values in brackets.
  The constant texts of the program's own look, as plain data.
  The program's own look: a text has its tree, a wrong byte its place.
-/
import Derived.Test.YtmlacmoembjeoaaGreatDoorP20
import Derived.Test.YtmlacmoembjeoaaGreatDoorP19
import Derived.Test.YtmlacmoembjeoaaGreatDoorP6
import Derived.Lib.SlBytesConst
namespace Go.Proofs.YtmlacmoembjeoaaGreatDoor
open Go.RowKit
set_option linter.unusedVariables false
/-- Every node is of its form, and no keys stand twice. -/
def NOK (t : Tr) : Prop := t.All (fun u => alF u = 0) ∧ t.All (fun u => u.keys.Nodup)
/-- A string's text may be a node's. -/
def TkG (t : Tk) : Prop := t.kind = 7 → gtx (strOfNums t.txt) = true ∧ (strOfNums t.txt).size ≤ 4096
theorem tkG_of {t : Tk} (h : TkOK 4096 t) : TkG t := fun h7 => by
  obtain ⟨h1, h2⟩ := h
  obtain ⟨g1, g2⟩ := h2 h7
  refine ⟨?_, by rw [strOfNums_size]; exact h1⟩
  unfold gtx whyL
  rw [bs_str g2, g1]
  rfl
theorem nok_leaf {t : Tr} (hk : t.keys = [] ∧ t.kids = []) (ha : alF t = 0) : NOK t := by
  refine ⟨(Tr.all_eq _ t).2 ⟨ha, fun k h => ?_, fun k h => ?_⟩, (Tr.all_eq _ t).2 ⟨by rw [hk.1]; exact List.nodup_nil, fun k h => ?_, fun k h => ?_⟩⟩
  · rw [hk.1] at h; cases h
  · rw [hk.2] at h; cases h
  · rw [hk.1] at h; cases h
  · rw [hk.2] at h; cases h
theorem al_txt {x : ByteArray} (h : gtx x = true) (hs : x.size ≤ 4096) : alF (txtT x) = 0 := by
  have o : (txtT x).odd = false := rfl
  show Tr.alo gtx rt rdN (txtT x) = 0
  unfold Tr.alo
  rw [o, show (txtT x).txt = x from rfl, h]
  rw [if_neg (by rintro (⟨_, q⟩ | ⟨q, _⟩); exact absurd q (by omega); exact absurd (show (5 : Int) = 6 from q) (by decide)), if_neg (by simp), if_neg (fun q => absurd (show (5 : Int) = 2 from q.1) (by decide)), if_neg (fun q => absurd (show (5 : Int) = 3 from q.1) (by decide)), if_neg (by decide)]
theorem al_int {n : Bool} {d : ByteArray} (h : rt d = true) (hz : ¬ (n = true ∧ d = ⟨#[48]⟩)) : alF (intT n d) = 0 := by
  have o : (intT n d).odd = false := by cases n <;> rfl
  show Tr.alo gtx rt rdN (intT n d) = 0
  unfold Tr.alo
  rw [o, show (intT n d).dig = d from rfl, show (intT n d).neg = n from rfl, h]
  rw [if_neg (by rintro (⟨q, _⟩ | ⟨q, _⟩); exact absurd (show (2 : Int) = 5 from q) (by decide); exact absurd (show (2 : Int) = 6 from q) (by decide)), if_neg (fun q => absurd (show (2 : Int) = 5 from q.1) (by decide)), if_neg (by rintro ⟨_, q | q⟩; exact absurd q (by decide); exact hz q), if_neg (fun q => absurd (show (2 : Int) = 3 from q.1) (by decide)), if_neg (by decide)]
theorem al_dec {n : Bool} {d : ByteArray} {x : Int} (h : rdN n d x = true) : alF (decT n d x) = 0 := by
  have o : (decT n d x).odd = false := by cases n <;> rfl
  show Tr.alo gtx rt rdN (decT n d x) = 0
  unfold Tr.alo
  rw [o, show (decT n d x).dig = d from rfl, show (decT n d x).neg = n from rfl, show (decT n d x).exp = x from rfl, h]
  rw [if_neg (by rintro (⟨q, _⟩ | ⟨q, _⟩); exact absurd (show (3 : Int) = 5 from q) (by decide); exact absurd (show (3 : Int) = 6 from q) (by decide)), if_neg (fun q => absurd (show (3 : Int) = 5 from q.1) (by decide)), if_neg (fun q => absurd (show (3 : Int) = 2 from q.1) (by decide)), if_neg (fun q => absurd q.2 (by decide)), if_neg (by decide)]
theorem al_arr (kids : List Tr) : alF (arrT kids) = 0 := by
  have o : (arrT kids).odd = false := by simp [Tr.odd, Tr.clean, arrT, ByteArray.size]
  show Tr.alo gtx rt rdN (arrT kids) = 0
  unfold Tr.alo
  rw [o]
  simp [arrT]
theorem al_map {keys kids : List Tr} (h : keys.length = kids.length) : alF (mapT keys kids) = 0 := by
  have o : (mapT keys kids).odd = false := by simp [Tr.odd, Tr.clean, mapT, ByteArray.size, h]
  show Tr.alo gtx rt rdN (mapT keys kids) = 0
  unfold Tr.alo
  rw [o]
  simp [mapT]
theorem pad_zero {s : ByteArray} {k : Nat} (h : padW s k = ⟨#[48]⟩) : k = 0 ∨ s.size = 0 := by
  have := congrArg ByteArray.size h
  rw [padW_size] at this
  have e : (⟨#[48]⟩ : ByteArray).size = 1 := rfl
  rw [e] at this
  omega
theorem num_al (x : ByteArray) (h : (numA x).2 = 0) : alF (numA x).1 = 0 := by
  unfold numA at h ⊢
  by_cases hp : (parseA x).2.1 ≠ 0
  · rw [if_pos hp] at h; exact absurd (show (11 : Int) = 0 from h) (by decide)
  rw [if_neg hp]
  have hr := parse_ok (s := x) (by simpa using hp)
  generalize parseA x = p at *
  by_cases hw : (wholeA p.1.1 p.1.2.1 p.1.2.2).2 = true
  · rw [if_pos hw]
    show alF (intT p.1.1 (wholeA p.1.1 p.1.2.1 p.1.2.2).1) = 0
    unfold wholeA at hw ⊢
    by_cases hc : rtN p.1.1 p.1.2.1 p.1.2.2 = true ∧ 0 ≤ p.1.2.2 ∧ ((p.1.2.1.size : Nat) : Int) + p.1.2.2 ≤ 800
    · rw [if_pos hc]
      obtain ⟨c1, c2, c3⟩ := hc
      obtain ⟨e, he⟩ : ∃ e : Nat, p.1.2.2 = (e : Int) := ⟨p.1.2.2.toNat, by omega⟩
      rw [he] at c1 c3
      have hrt := rt_padW c1
      show alF (intT p.1.1 (padW p.1.2.1 p.1.2.2.toNat)) = 0
      rw [he, Int.toNat_natCast]
      refine al_int (by rw [hrt]; simp; omega) ?_
      rintro ⟨hn, hz⟩
      have hb := (rtN_iff _ _ _).1 c1
      rcases pad_zero hz with h0 | h0
      · subst h0
        rw [padW_zero] at hz
        unfold rtN at c1
        rw [hz] at c1
        rw [if_pos (by rfl), hn] at c1
        simp at c1
      · unfold rtN at c1
        have hbs : bs p.1.2.1 = [] := List.eq_nil_of_length_eq_zero (by rw [bs_len]; exact h0)
        rw [hbs, if_neg (by simp)] at c1
        simp at c1
        have := (rt_iff _).1 c1.1
        unfold RightS Canon at this
        rw [hbs] at this
        exact absurd rfl this.1.1
    · rw [if_neg hc] at hw; exact absurd hw (by decide)
  · rw [if_neg hw]
    refine al_dec ?_
    unfold rdN
    rw [hr]
    simpa using hw
theorem node_al {k : Nat} {x : ByteArray} (h0 : (nodeA k x).2 = 0) (h3 : k ≠ 3) (h1 : k ≠ 1) (hx : k = 7 → gtx x = true ∧ x.size ≤ 4096) : alF (nodeA k x).1 = 0 := by
  unfold nodeA at h0 ⊢
  rw [if_neg h1, if_neg h3] at h0 ⊢
  by_cases h7 : k = 7
  · rw [if_pos h7]; exact al_txt (hx h7).1 (hx h7).2
  rw [if_neg h7] at h0 ⊢
  by_cases h8 : k = 8
  · rw [if_pos h8] at h0 ⊢; exact num_al x h0
  rw [if_neg h8]
  split
  · rfl
  split
  · rfl
  · rfl
theorem nok_arr {kids : List Tr} (h : ∀ k ∈ kids, NOK k) : NOK (arrT kids) :=
  ⟨(Tr.all_eq _ _).2 ⟨al_arr kids, fun k hk => absurd hk (by simp [arrT]), fun k hk => (h k hk).1⟩, (Tr.all_eq _ _).2 ⟨List.nodup_nil, fun k hk => absurd hk (by simp [arrT]), fun k hk => (h k hk).2⟩⟩
theorem nok_map {keys kids : List Tr} (hl : keys.length = kids.length) (hk : ∀ k ∈ keys, NOK k) (hi : ∀ k ∈ kids, NOK k) (hn : keys.Nodup) : NOK (mapT keys kids) :=
  ⟨(Tr.all_eq _ _).2 ⟨al_map hl, fun k h => (hk k h).1, fun k h => (hi k h).1⟩, (Tr.all_eq _ _).2 ⟨hn, fun k h => (hk k h).2, fun k h => (hi k h).2⟩⟩
/-- A key that was not there is no key that was. -/
theorem twT_not {keys : List Tr} {x : ByteArray} (h : twT keys x = false) : txtT x ∉ keys := fun hm => by
  unfold twT at h
  rw [List.any_eq_false] at h
  have := h _ hm
  simp [txtT] at this
theorem deeps_leq {l : List Tr} {n : Nat} (h : ∀ k ∈ l, k.deep ≤ n) : Tr.deeps l ≤ n := Tr.mx_le fun x hx => by
  obtain ⟨k, hm, rfl⟩ := List.mem_map.1 hx
  exact h k hm
/-- WHAT IS READ WITHIN BOUNDS MAY BE. -/
theorem rd_may : ∀ (k q : Nat), q ≤ 2 → ∀ (d n : Nat) (keys kids : List Tr) (L : List Tk) (t : Tr) (m : Nat) (M : List Tk), rdF k q false d n keys kids L = .inr (t, m, M) → (∀ x ∈ L, TkG x) → n ≤ 1024 →
    (∀ x ∈ M, TkG x) ∧ m ≤ 1024 ∧ (q = 0 → NOK t ∧ t.deep + d ≤ 24) ∧
    (q = 1 → (∀ u ∈ kids, NOK u ∧ u.deep + d ≤ 24) → NOK t ∧ t.deep + d ≤ 25) ∧
    (q = 2 → (∀ u ∈ keys, NOK u ∧ u.deep + d ≤ 24) → (∀ u ∈ kids, NOK u ∧ u.deep + d ≤ 24) → keys.length = kids.length → keys.Nodup → NOK t ∧ t.deep + d ≤ 25) := by
  intro k
  induction k with
  | zero => intro q _ d n keys kids L t m M h; simp [rdF] at h
  | succ k ih =>
    intro q hq d n keys kids L t m M h hL hn
    rcases q with _ | _ | q
    · obtain ⟨a, L', rfl, hb, hg, hz⟩ := rd_inv0 h
      clear h
      have h := hz
      clear hz
      obtain ⟨g1, g2, g3⟩ := begin_zero hg
      have hL' : ∀ x ∈ L', TkG x := fun x hx => hL x (List.mem_cons_of_mem _ hx)
      refine (fun (z : (∀ x ∈ M, TkG x) ∧ m ≤ 1024 ∧ NOK t ∧ t.deep + d ≤ 24) => ⟨z.1, z.2.1, fun _ => z.2.2, fun e => absurd e (by omega), fun e => absurd e (by omega)⟩) ?_
      rcases h with ⟨h3, u, N, rfl, ⟨h4, rfl, rfl, rfl⟩ | ⟨h4, h⟩⟩ | ⟨h1, u, N, rfl, ⟨h4, rfl, rfl, rfl⟩ | ⟨h4, h⟩⟩ | ⟨h3, h1, rfl, rfl, rfl⟩
      · refine ⟨fun x hx => hL' x (List.mem_cons_of_mem _ hx), by omega, nok_arr (fun k hk => absurd hk (by simp)), ?_⟩
        rw [(size_one (t := arrT []) ⟨rfl, rfl⟩).2]; omega
      · obtain ⟨i1, i2, _, i4, _⟩ := ih 1 (by omega) _ _ _ _ _ _ _ _ h hL' (by omega)
        obtain ⟨j1, j2⟩ := i4 rfl (fun u hu => absurd hu (by simp))
        exact ⟨i1, i2, j1, by omega⟩
      · refine ⟨fun x hx => hL' x (List.mem_cons_of_mem _ hx), by omega, nok_map rfl (fun k hk => absurd hk (by simp)) (fun k hk => absurd hk (by simp)) List.nodup_nil, ?_⟩
        rw [(size_one (t := mapT [] []) ⟨rfl, rfl⟩).2]; omega
      · obtain ⟨i1, i2, _, _, i4⟩ := ih 2 (by omega) _ _ _ _ _ _ _ _ h hL' (by omega)
        obtain ⟨j1, j2⟩ := i4 rfl (fun u hu => absurd hu (by simp)) (fun u hu => absurd hu (by simp)) rfl List.nodup_nil
        exact ⟨i1, i2, j1, by omega⟩
      · refine ⟨hL', by omega, nok_leaf (nodeA_one _ _) (node_al g3 h3 h1 fun h7 => hL a List.mem_cons_self h7), ?_⟩
        rw [(size_one (nodeA_one _ _)).2]; omega
    · obtain ⟨u, n', c, N, hr, hz⟩ := rd_inv1 h
      clear h
      have h := hz
      clear hz
      obtain ⟨i1, i2, i3, _⟩ := ih 0 (by omega) _ _ _ _ _ _ _ _ hr hL hn
      obtain ⟨j1, j2⟩ := i3 rfl
      have hN : ∀ x ∈ N, TkG x := fun x hx => i1 x (List.mem_cons_of_mem _ hx)
      rcases h with ⟨h6, h⟩ | ⟨h4, rfl, rfl, rfl⟩
      · obtain ⟨p1, p2, _, p3, _⟩ := ih 1 (by omega) _ _ _ _ _ _ _ _ h hN i2
        refine ⟨p1, p2, fun e => absurd e (by omega), fun _ hk => p3 rfl fun v hv => ?_, fun e => absurd e (by omega)⟩
        rcases List.mem_append.1 hv with hv | hv
        · exact hk v hv
        · rw [List.mem_singleton.1 hv]; exact ⟨j1, j2⟩
      · refine ⟨hN, i2, fun e => absurd e (by omega), fun _ hk => ?_, fun e => absurd e (by omega)⟩
        have hk' : ∀ v ∈ kids ++ [u], NOK v ∧ v.deep + d ≤ 24 := fun v hv => by
          rcases List.mem_append.1 hv with hv | hv
          · exact hk v hv
          · rw [List.mem_singleton.1 hv]; exact ⟨j1, j2⟩
        refine ⟨nok_arr fun v hv => (hk' v hv).1, ?_⟩
        have e : (arrT (kids ++ [u])).deep = 1 + max (Tr.deeps []) (Tr.deeps (kids ++ [u])) := Tr.deep_eq _
        have e0 : Tr.deeps [] = 0 := rfl
        have e1 := deeps_leq (l := kids ++ [u]) (n := 24 - d) fun v hv => by have := (hk' v hv).2; omega
        omega
    · obtain rfl : q = 0 := by omega
      obtain ⟨a, c, L', rfl, h7, hg, h5, u, n', e, N, hr, hz⟩ := rd_inv2 h
      clear h
      have h := hz
      clear hz
      obtain ⟨g1, g2, g3⟩ := begin_zero hg
      have hLa := hL a List.mem_cons_self h7
      have hL' : ∀ x ∈ L', TkG x := fun x hx => hL x (List.mem_cons_of_mem _ (List.mem_cons_of_mem _ hx))
      have htw : twT keys (strOfNums a.txt) = false := by
        cases htw : twT keys (strOfNums a.txt) with
        | false => rfl
        | true => rw [htw, if_pos rfl] at g3; omega
      have kx : NOK (txtT (strOfNums a.txt)) ∧ (txtT (strOfNums a.txt)).deep + d ≤ 24 := ⟨nok_leaf ⟨rfl, rfl⟩ (al_txt hLa.1 hLa.2), by rw [(size_one ⟨rfl, rfl⟩).2]; omega⟩
      obtain ⟨i1, i2, i3, _⟩ := ih 0 (by omega) _ _ _ _ _ _ _ _ hr hL' (by omega)
      obtain ⟨j1, j2⟩ := i3 rfl
      have hN : ∀ x ∈ N, TkG x := fun x hx => i1 x (List.mem_cons_of_mem _ hx)
      have hks : (∀ u ∈ keys, NOK u ∧ u.deep + d ≤ 24) → ∀ v ∈ keys ++ [txtT (strOfNums a.txt)], NOK v ∧ v.deep + d ≤ 24 := fun hk v hv => by
        rcases List.mem_append.1 hv with hv | hv
        · exact hk v hv
        · rw [List.mem_singleton.1 hv]; exact kx
      have his : (∀ u ∈ kids, NOK u ∧ u.deep + d ≤ 24) → ∀ v ∈ kids ++ [u], NOK v ∧ v.deep + d ≤ 24 := fun hk v hv => by
        rcases List.mem_append.1 hv with hv | hv
        · exact hk v hv
        · rw [List.mem_singleton.1 hv]; exact ⟨j1, j2⟩
      have hnd : keys.Nodup → (keys ++ [txtT (strOfNums a.txt)]).Nodup := fun hk => by
        rw [List.nodup_append]
        refine ⟨hk, by simp, fun x hx y hy => ?_⟩
        rw [List.mem_singleton.1 hy]
        intro e
        rw [e] at hx
        exact twT_not htw hx
      rcases h with ⟨h6, h⟩ | ⟨h4, rfl, rfl, rfl⟩
      · obtain ⟨p1, p2, _, _, p3⟩ := ih 2 (by omega) _ _ _ _ _ _ _ _ h hN i2
        exact ⟨p1, p2, fun e => absurd e (by omega), fun e => absurd e (by omega), fun _ hk hi hl hn => p3 rfl (hks hk) (his hi) (by simp [hl]) (hnd hn)⟩
      · refine ⟨hN, i2, fun e => absurd e (by omega), fun e => absurd e (by omega), fun _ hk hi hl hn => ⟨nok_map (by simp [hl]) (fun v hv => (hks hk v hv).1) (fun v hv => (his hi v hv).1) (hnd hn), ?_⟩⟩
        have e : (mapT (keys ++ [txtT (strOfNums a.txt)]) (kids ++ [u])).deep = 1 + max (Tr.deeps (keys ++ [txtT (strOfNums a.txt)])) (Tr.deeps (kids ++ [u])) := Tr.deep_eq _
        have e1 := deeps_leq (l := kids ++ [u]) (n := 24 - d) fun v hv => by have := (his hi v hv).2; omega
        have e2 := deeps_leq (l := keys ++ [txtT (strOfNums a.txt)]) (n := 24 - d) fun v hv => by have := (hks hk v hv).2; omega
        omega
/-- A WHOLE TEXT'S TREE MAY BE. -/
theorem rdW_may {L : List Tk} {t : Tr} {m : Nat} {M : List Tk} (h : rdW false L = .inr (t, m, M)) (hL : ∀ x ∈ L, TkOK 4096 x) : t.size = m ∧ t.May (fun u => alF u = 0) := by
  have hs := (rd_size _ 0 (by omega) _ _ _ _ _ _ _ _ _ h).2.1 rfl
  obtain ⟨_, i2, i3, _⟩ := rd_may _ 0 (by omega) _ _ _ _ _ _ _ _ h (fun x hx => tkG_of (hL x hx)) (by omega)
  obtain ⟨j1, j2⟩ := i3 rfl
  exact ⟨by omega, by omega, by omega, j1.1, j1.2⟩
end Go.Proofs.YtmlacmoembjeoaaGreatDoor
namespace Go.Proofs.YtmlacmoembjeoaaGreatDoor
open Go
set_option linter.unusedVariables false
/-- With these bytes no number goes on. -/
def Stop (t : List Int) : Prop := ∀ c r, t = c :: r → ∀ q, afterS q c = 9
theorem stop_of {c : Int} (h : c = 32 ∨ c = 9 ∨ c = 10 ∨ c = 13 ∨ c = 44 ∨ c = 93) (r : List Int) : Stop (c :: r) := by
  intro c' r' e q
  cases e
  have hd : isD c = false := by rcases h with rfl | rfl | rfl | rfl | rfl | rfl <;> decide
  have h1 : afMinus c = 9 := by rcases h with rfl | rfl | rfl | rfl | rfl | rfl <;> decide
  have h2 : afWhole c = 9 := by rcases h with rfl | rfl | rfl | rfl | rfl | rfl <;> decide
  have h3 : afPart c = 9 := by rcases h with rfl | rfl | rfl | rfl | rfl | rfl <;> decide
  have h4 : ¬ c = 45 := by omega
  have h5 : ¬ c = 43 := by omega
  unfold afterS
  rw [hd, h1, h2, h3]
  simp [h4, h5]
theorem nu_join (t : List Int) (hs : Stop t) (l : List Int) : ∀ k q m, (nuF l k q).1 ≤ k + m → nuF (l.take m ++ t) k q = nuF l k q := by
  have ht : ∀ k q, nuF t k q = (k, q) := fun k q => by
    rcases t with _ | ⟨c, r⟩
    · rfl
    · rw [nuF, if_pos (hs c r rfl q)]
  induction l with
  | nil => intro k q m h; rw [List.take_nil, List.nil_append]; exact ht k q
  | cons c l ih =>
    intro k q m h
    by_cases h9 : afterS q c = 9
    · have e : nuF (c :: l) k q = (k, q) := by rw [nuF, if_pos h9]
      rcases m with _ | m
      · rw [List.take_zero, List.nil_append, e]; exact ht k q
      · rw [List.take_succ_cons, List.cons_append, e, nuF, if_pos h9]
    · rw [nuF, if_neg h9] at h
      have hb := (nu_bounds l (k + 1) (afterS q c)).1
      obtain ⟨m, rfl⟩ : ∃ m', m = m' + 1 := ⟨m - 1, by omega⟩
      rw [List.take_succ_cons, List.cons_append, nuF, if_neg h9, nuF, if_neg h9]
      exact ih _ _ _ (by omega)
/-- A TOKEN STAYS, where it is cut off behind it or where a byte comes that goes on with none. -/
theorem tok_join {b : List Int} (h0 : b ≠ []) {p k : Nat} (t : List Int) (hs : Stop t) (h : (tokR b p).2.1 = 0) (hk : (tokR b p).1.to ≤ p + k) : tokR (b.take k ++ t) p = tokR b p := by
  have hb := ((tok_bounds h0 p).1 h).2.1
  obtain ⟨e1, e2⟩ := head_on h0 (k := k) (by omega) t
  unfold tokR at *
  rw [e1, e2]
  by_cases h1 : signN (b.getD 0 0) ≠ 0
  · rw [if_pos h1, if_pos h1]
  rw [if_neg h1] at h hk ⊢
  rw [if_neg h1]
  by_cases h2 : b.getD 0 0 = 34
  · rw [if_pos h2] at h hk ⊢
    rw [if_pos h2]
    have hk' : (strL (b.drop 1) (p + 1) r0).2.1 ≤ p + k := hk
    have hb' := (str_bounds (b.drop 1) (p + 1) r0).1 h
    rw [str_local_ok t (b.drop 1) (p + 1) (k - 1) r0 r0_q h (by omega)]
  rw [if_neg h2] at h hk ⊢
  rw [if_neg h2]
  by_cases h3 : b.getD 0 0 = 45 ∨ isD (b.getD 0 0) = true
  · rw [if_pos h3] at h hk ⊢
    rw [if_pos h3]
    have he := (nuT_why b p).1 h
    have hk' : (nuF b 0 0).1 ≤ k := by
      unfold nuT at hk
      rw [if_pos he] at hk
      have hk2 : p + (nuF b 0 0).1 ≤ p + k := hk
      omega
    have hl := (nu_bounds b 0 0).2
    have e := nu_join t hs b 0 0 k (by omega)
    unfold nuT
    rw [e, if_pos he, if_pos he, List.take_append_of_le_length (by rw [List.length_take]; omega), List.take_take, Nat.min_eq_left (by omega)]
  rw [if_neg h3] at h hk ⊢
  rw [if_neg h3]
  by_cases h4 : b.getD 0 0 = 116
  · rw [if_pos h4] at h hk ⊢; rw [if_pos h4]; exact wrdT_local_ok t h hk
  rw [if_neg h4] at h hk ⊢
  rw [if_neg h4]
  by_cases h5 : b.getD 0 0 = 102
  · rw [if_pos h5] at h hk ⊢; rw [if_pos h5]; exact wrdT_local_ok t h hk
  rw [if_neg h5] at h hk ⊢
  rw [if_neg h5]
  by_cases h6 : b.getD 0 0 = 110
  · rw [if_pos h6] at h hk ⊢; rw [if_pos h6]; exact wrdT_local_ok t h hk
  rw [if_neg h6, if_neg h6]
theorem gap_app (g t : List Int) (h : ∀ c ∈ g, isGap c = true) : gapN (g ++ t) = g.length + gapN t := by
  induction g with
  | nil => simp
  | cons c g ih =>
    rw [List.cons_append, gapN, if_pos (h c List.mem_cons_self), ih fun x hx => h x (List.mem_cons_of_mem _ hx), List.length_cons]
    omega
theorem gap_left (b t : List Int) : gapN b < b.length → gapN (b ++ t) = gapN b := by
  induction b with
  | nil => intro h; simp [gapN] at h
  | cons c b ih =>
    intro h
    rw [List.cons_append, gapN, gapN]
    rw [gapN] at h
    by_cases hc : isGap c = true
    · rw [if_pos hc] at h
      rw [if_pos hc, if_pos hc, ih (by simpa using h)]
    · rw [if_neg hc, if_neg hc]
theorem gap_only {b : List Int} (h : b.drop (gapN b) = []) : ∀ c ∈ b, isGap c = true := by
  intro c hc
  obtain ⟨i, hi, rfl⟩ := List.getElem_of_mem hc
  have hl : b.length ≤ gapN b := by
    have := congrArg List.length h
    rw [List.length_drop, List.length_nil] at this
    omega
  have := gap_all b i (by omega)
  rw [List.getD_eq_getElem?_getD, List.getElem?_eq_getElem hi] at this
  exact this
/-- Gaps ahead. -/
theorem lex_gaps (g t : List Int) (p : Nat) (h : ∀ c ∈ g, isGap c = true) : lexA (g ++ t) p = lexA t (p + g.length) := by
  have e1 := gap_app g t h
  have e2 : (g ++ t).drop (gapN (g ++ t)) = t.drop (gapN t) := by rw [e1, ← List.drop_drop, List.drop_left]
  have e3 : p + gapN (g ++ t) = p + g.length + gapN t := by omega
  by_cases h1 : t.drop (gapN t) = []
  · rw [lex_end (by rw [e2]; exact h1), lex_end h1]
  by_cases h2 : (tokR (t.drop (gapN t)) (p + g.length + gapN t)).2.1 = 0
  · have hb := (tok_bounds h1 (p + g.length + gapN t)).1 h2
    rw [lex_tok (by rw [e2]; exact h1) (by rw [e2, e3]; exact h2), lex_tok h1 h2, e2, e3]
    have e4 : (g ++ t).drop ((tokR (t.drop (gapN t)) (p + g.length + gapN t)).1.to - p) = t.drop ((tokR (t.drop (gapN t)) (p + g.length + gapN t)).1.to - (p + g.length)) := by
      rw [show (tokR (t.drop (gapN t)) (p + g.length + gapN t)).1.to - p = g.length + ((tokR (t.drop (gapN t)) (p + g.length + gapN t)).1.to - (p + g.length)) by omega, ← List.drop_drop, List.drop_left]
    rw [e4]
  · rw [lex_bad (by rw [e2]; exact h1) (by rw [e2, e3]; exact h2), lex_bad h1 h2, e2, e3]
/-- BYTES ONE BEHIND THE OTHER. -/
theorem lex_join (t : List Int) (hs : Stop t) (x : List Int) (p : Nat) : (lexA x p).2.1 = 0 → lexA (x ++ t) p = ((lexA x p).1 ++ (lexA t (p + x.length)).1, (lexA t (p + x.length)).2) := by
  induction x, p using lex_ind with
  | nil b p h =>
    intro _
    rw [lex_gaps b t p (gap_only h), lex_end h]
    rfl
  | bad b p h h2 => intro e; rw [lex_bad h h2] at e; exact absurd e h2
  | tok b p h h2 ih =>
    intro e
    have hgl := drop_lt h
    have hb := (tok_bounds h (p + gapN b)).1 h2
    rw [lex_tok h h2] at e ⊢
    have eg := gap_left b t hgl
    have ed : (b ++ t).drop (gapN b) = b.drop (gapN b) ++ t := List.drop_append_of_le_length (by omega)
    have et := tok_join h (p := p + gapN b) (k := (b.drop (gapN b)).length) t hs h2 hb.2.2.1
    rw [List.take_length] at et
    rw [List.length_drop] at hb
    have ed2 : (b ++ t).drop ((tokR (b.drop (gapN b)) (p + gapN b)).1.to - p) = b.drop ((tokR (b.drop (gapN b)) (p + gapN b)).1.to - p) ++ t := List.drop_append_of_le_length (by omega)
    have hne : (b ++ t).drop (gapN (b ++ t)) ≠ [] := by rw [eg, ed]; simp [h]
    rw [lex_tok hne (by rw [eg, ed, et]; exact h2), eg, ed, et, ed2, ih e]
    have el : (tokR (b.drop (gapN b)) (p + gapN b)).1.to + (b.drop ((tokR (b.drop (gapN b)) (p + gapN b)).1.to - p)).length = p + b.length := by rw [List.length_drop]; omega
    rw [el]
    rfl
/-- A sign. -/
theorem lex_sign {c : Int} (t : List Int) (p : Nat) (h : signN c ≠ 0) : lexA (c :: t) p = (⟨signN c, p, p + 1, []⟩ :: (lexA t (p + 1)).1, (lexA t (p + 1)).2) := by
  have hg : isGap c = false := by
    cases hc : isGap c with
    | false => rfl
    | true =>
      exfalso
      apply h
      unfold isGap at hc
      simp at hc
      rcases hc with rfl | rfl | rfl | rfl <;> decide
  have g0 : gapN (c :: t) = 0 := by rw [gapN, if_neg (by rw [hg]; decide)]
  have et : tokR (c :: t) p = (⟨signN c, p, p + 1, []⟩, 0, 0) := by unfold tokR; rw [if_pos (show signN ((c :: t).getD 0 0) ≠ 0 from h)]; rfl
  have e1 : tokR ((c :: t).drop (gapN (c :: t))) (p + gapN (c :: t)) = (⟨signN c, p, p + 1, []⟩, 0, 0) := by rw [g0]; exact et
  have := lex_tok (b := c :: t) (p := p) (by rw [g0]; simp) (by rw [e1])
  rw [e1] at this
  rw [this]
  simp only [Nat.add_sub_cancel_left, List.drop_succ_cons, List.drop_zero]
/-- A token elsewhere. -/
def shT (q : Nat) (t : Tk) : Tk := ⟨t.kind, t.frm + q, t.to + q, t.txt⟩
theorem brk_shift (b : List Int) (p q : Nat) (f : Bool) : (brkR b (p + q) f).1 = (brkR b p f).1 := by
  unfold brkR
  repeat' split
  all_goals rfl
theorem str_shift (b : List Int) (q : Nat) : ∀ (p : Nat) (s : RS), (strL b (p + q) s).1 = (strL b p s).1 ∧ (strL b (p + q) s).2.2.1 = (strL b p s).2.2.1 ∧ ((strL b p s).2.2.1 = 0 → (strL b (p + q) s).2.1 = (strL b p s).2.1 + q) := by
  induction b using text_ind with
  | nil => intro p s; rw [str_nil, str_nil]; exact ⟨rfl, rfl, fun h => absurd h (by simp)⟩
  | good b h0 h ih =>
    intro p s
    by_cases h5 : (takeR s (valB b)).q = 5
    · rw [str_all h0 h h5, str_all h0 h h5]; exact ⟨rfl, rfl, fun _ => by simp; omega⟩
    by_cases h6 : (takeR s (valB b)).q = 6
    · rw [str_wrong h0 h h6, str_wrong h0 h h6]; exact ⟨rfl, rfl, fun h => absurd h (by simp)⟩
    rw [str_on h0 h h5 h6, str_on h0 h h5 h6, show p + q + lenB b = p + lenB b + q by omega]
    exact ih _ _
  | bad b h0 h =>
    intro p s
    rw [str_bad h0 h, str_bad h0 h]
    refine ⟨rfl, brk_shift b p q _, fun e => ?_⟩
    exfalso
    have hw' : (brkR b p (s.q == 0)).1 = 0 := e
    unfold brkR at hw'
    revert hw'
    repeat' split
    all_goals simp
theorem wrdT_shift (kind : Nat) (w b : List Int) (p q : Nat) : (wrdT kind w b (p + q)).2.1 = (wrdT kind w b p).2.1 ∧ ((wrdT kind w b p).2.1 = 0 → (wrdT kind w b (p + q)).1 = shT q (wrdT kind w b p).1) := by
  unfold wrdT
  by_cases h : (wrdF w b 0).1 = 0
  · rw [if_pos h, if_pos h]; refine ⟨rfl, fun _ => ?_⟩; simp [shT]; omega
  · rw [if_neg h, if_neg h]; exact ⟨rfl, fun e => absurd e h⟩
theorem tok_shift (b : List Int) (p q : Nat) : (tokR b (p + q)).2.1 = (tokR b p).2.1 ∧ ((tokR b p).2.1 = 0 → (tokR b (p + q)).1 = shT q (tokR b p).1) := by
  unfold tokR
  by_cases h1 : signN (b.getD 0 0) ≠ 0
  · rw [if_pos h1, if_pos h1]; refine ⟨rfl, fun _ => ?_⟩; simp [shT]; omega
  rw [if_neg h1, if_neg h1]
  by_cases h2 : b.getD 0 0 = 34
  · rw [if_pos h2, if_pos h2]
    obtain ⟨s1, s2, s3⟩ := str_shift (b.drop 1) q (p + 1) r0
    rw [show p + 1 + q = p + q + 1 by omega] at s1 s2 s3
    refine ⟨s2, fun e => ?_⟩
    have := s3 e
    simp only [shT]
    rw [s1, this]
  rw [if_neg h2, if_neg h2]
  by_cases h3 : b.getD 0 0 = 45 ∨ isD (b.getD 0 0) = true
  · rw [if_pos h3, if_pos h3]
    unfold nuT
    by_cases h : endS (nuF b 0 0).2 = true
    · rw [if_pos h, if_pos h]; refine ⟨rfl, fun _ => ?_⟩; simp [shT]; omega
    · rw [if_neg h, if_neg h]
      by_cases h' : (nuF b 0 0).1 = b.length
      · rw [if_pos h', if_pos h']; exact ⟨rfl, fun e => absurd e (by simp)⟩
      · rw [if_neg h', if_neg h']; exact ⟨rfl, fun e => absurd e (by simp)⟩
  rw [if_neg h3, if_neg h3]
  by_cases h4 : b.getD 0 0 = 116
  · rw [if_pos h4, if_pos h4]; exact wrdT_shift _ _ _ _ _
  rw [if_neg h4, if_neg h4]
  by_cases h5 : b.getD 0 0 = 102
  · rw [if_pos h5, if_pos h5]; exact wrdT_shift _ _ _ _ _
  rw [if_neg h5, if_neg h5]
  by_cases h6 : b.getD 0 0 = 110
  · rw [if_pos h6, if_pos h6]; exact wrdT_shift _ _ _ _ _
  rw [if_neg h6, if_neg h6]
  exact ⟨rfl, fun e => absurd e (by simp)⟩
/-- THE SAME BYTES AT ANOTHER PLACE. -/
theorem lex_shift (q : Nat) (b : List Int) (p : Nat) : (lexA b (p + q)).1 = (lexA b p).1.map (shT q) ∧ (lexA b (p + q)).2.1 = (lexA b p).2.1 := by
  induction b, p using lex_ind with
  | nil b p h => rw [lex_end h, lex_end h]; exact ⟨rfl, rfl⟩
  | bad b p h h2 =>
    obtain ⟨s1, _⟩ := tok_shift (b.drop (gapN b)) (p + gapN b) q
    rw [lex_bad h h2, lex_bad h (by rw [show p + q + gapN b = p + gapN b + q by omega, s1]; exact h2), show p + q + gapN b = p + gapN b + q by omega]
    exact ⟨rfl, s1⟩
  | tok b p h h2 ih =>
    obtain ⟨s1, s2⟩ := tok_shift (b.drop (gapN b)) (p + gapN b) q
    have hb := (tok_bounds h (p + gapN b)).1 h2
    rw [lex_tok h h2, lex_tok h (by rw [show p + q + gapN b = p + gapN b + q by omega, s1]; exact h2), show p + q + gapN b = p + gapN b + q by omega, s2 h2]
    have e1 : (shT q (tokR (b.drop (gapN b)) (p + gapN b)).1).to = (tokR (b.drop (gapN b)) (p + gapN b)).1.to + q := rfl
    rw [e1, show (tokR (b.drop (gapN b)) (p + gapN b)).1.to + q - (p + q) = (tokR (b.drop (gapN b)) (p + gapN b)).1.to - p by omega, ih.1, ih.2]
    exact ⟨rfl, rfl⟩
end Go.Proofs.YtmlacmoembjeoaaGreatDoor
namespace Go.Proofs.YtmlacmoembjeoaaGreatDoor
open Go.RowKit
set_option linter.unusedVariables false
theorem read_ok {free : Bool} {zs : List Int} {t : Tr} {n : Nat} (h : rdW free (lexW zs).1 = .inr (t, n, [])) (hf : (lexW zs).2.1 = 0) : readA (newS free) zs = (endS' free n t, 0, (lexW zs).2.2) := by
  have hw := read_whole free (lexW zs).1
  rw [h] at hw
  unfold readA
  simp only at hw
  rw [hw, if_neg (by simp), if_neg (fun q => by have := q.2; simp [endS'] at this), hf]
  rfl
theorem read_back {free : Bool} {zs : List Int} (h : (readA (newS free) zs).2.1 = 0) : ∃ t n, rdW free (lexW zs).1 = .inr (t, n, []) ∧ (lexW zs).2.1 = 0 ∧ (readA (newS free) zs).1.root = t := by
  have hw := read_whole free (lexW zs).1
  rcases hr : rdW free (lexW zs).1 with ⟨e, _ | ⟨t, M⟩⟩ | ⟨t, n, _ | ⟨c, M⟩⟩
  · rw [hr] at hw
    simp only at hw
    exfalso
    unfold readA at h
    rw [if_neg (by rw [hw.1]; simp)] at h
    by_cases hf : (lexW zs).2.1 = 0
    · rw [if_pos ⟨hf, hw.2⟩] at h
      simp at h
    · rw [if_neg (fun q => hf q.1)] at h
      simp only at h
      omega
  · rw [hr] at hw
    simp only at hw
    exfalso
    unfold readA at h
    rw [if_pos (by rw [hw.2]; exact hw.1), hw.2] at h
    exact hw.1 h
  · rw [hr] at hw
    simp only at hw
    unfold readA at h ⊢
    rw [hw, if_neg (by simp), if_neg (fun q => by have := q.2; simp [endS'] at this)] at h ⊢
    simp only at h
    exact ⟨t, n, rfl, by omega, rfl⟩
  · rw [hr] at hw
    simp only at hw
    exfalso
    unfold readA at h
    rw [if_pos (by rw [hw]; simp), hw] at h
    simp at h
theorem par_ok {zs : List Int} (h : (parA zs).2.1 = 0) : ∃ n, rdW false (lexW zs).1 = .inr ((parA zs).1, n, []) ∧ (lexW zs).2.1 = 0 ∧ (parA zs).2.2 = 0 := by
  unfold parA at h ⊢
  by_cases h0 : (readA (newS false) zs).2.1 ≠ 0
  · rw [if_pos h0] at h; exact absurd h h0
  rw [if_neg h0]
  obtain ⟨t, n, h1, h2, h3⟩ := read_back (by simpa using h0)
  exact ⟨n, by rw [h3]; exact h1, h2, rfl⟩
theorem par_of {zs : List Int} {t : Tr} {n : Nat} (h : rdW false (lexW zs).1 = .inr (t, n, [])) (hf : (lexW zs).2.1 = 0) : parA zs = (t, 0, 0) := by
  unfold parA
  rw [read_ok h hf, if_neg (by simp)]
  rfl
/-- A TREE THAT IS READ MAY BE, AND IS OF A VALID TEXT. -/
theorem par_right {zs : List Int} (h : (parA zs).2.1 = 0) : (parA zs).2.2 = 0 ∧ (parA zs).1.May (fun u => alF u = 0) ∧ (readA (newS true) zs).2.1 = 0 := by
  obtain ⟨n, h1, h2, h3⟩ := par_ok h
  refine ⟨h3, (rdW_may h1 (lexW_text zs)).2, ?_⟩
  rw [read_ok (free := true) (rd_free _ 0 (by omega) _ _ _ _ _ _ _ _ h1) h2]
theorem rd_shiftf : ∀ (k q : Nat), q ≤ 2 → ∀ (d n : Nat) (keys kids : List Tr) (L : List Tk) (t : Tr) (m : Nat) (M : List Tk), rdF k q true d n keys kids L = .inr (t, m, M) → ∀ (d' n' : Nat), rdF k q true d' n' keys kids L = .inr (t, n' + (m - n), M) := by
  intro k
  induction k with
  | zero => intro q _ d n keys kids L t m M h; simp [rdF] at h
  | succ k ih =>
    intro q hq d n keys kids L t m M h d' n'
    rcases q with _ | _ | q
    · obtain ⟨a, L', rfl, hb, hg, hz⟩ := rd_inv0 h
      clear h
      have h := hz
      clear hz
      rcases h with ⟨h3, u, N, rfl, ⟨h4, rfl, rfl, rfl⟩ | ⟨h4, h⟩⟩ | ⟨h1, u, N, rfl, ⟨h4, rfl, rfl, rfl⟩ | ⟨h4, h⟩⟩ | ⟨h3, h1, rfl, rfl, rfl⟩
      · rw [rd_arr0 hb rfl h3 h4]; simp
      · have hs := (rd_size k 1 (by omega) _ _ _ _ _ _ _ _ _ h).1
        rw [rd_arr hb rfl h3 h4, ih 1 (by omega) _ _ _ _ _ _ _ _ h (d' + 1) (n' + 1), show n' + 1 + (m - (n + 1)) = n' + (m - n) by omega]
      · rw [rd_map0 hb rfl h1 h4]; simp
      · have hs := (rd_size k 2 (by omega) _ _ _ _ _ _ _ _ _ h).1
        rw [rd_map hb rfl h1 h4, ih 2 (by omega) _ _ _ _ _ _ _ _ h (d' + 1) (n' + 1), show n' + 1 + (m - (n + 1)) = n' + (m - n) by omega]
      · rw [rd_leaf hb rfl h3 h1]; simp
    · obtain ⟨u, n1, c, N, hr, hz⟩ := rd_inv1 h
      clear h
      have h := hz
      clear hz
      have s0 := (rd_size k 0 (by omega) _ _ _ _ _ _ _ _ _ hr).1
      rw [rd_one (ih 0 (by omega) _ _ _ _ _ _ _ _ hr d' n')]
      rcases h with ⟨h6, h⟩ | ⟨h4, rfl, rfl, rfl⟩
      · have s1 := (rd_size k 1 (by omega) _ _ _ _ _ _ _ _ _ h).1
        rw [if_pos h6, ih 1 (by omega) _ _ _ _ _ _ _ _ h d' _, show n' + (n1 - n) + (m - n1) = n' + (m - n) by omega]
      · rw [if_neg (by omega), if_pos h4]
    · obtain rfl : q = 0 := by omega
      obtain ⟨a, c, L', rfl, h7, hg, h5, u, n1, e, N, hr, hz⟩ := rd_inv2 h
      clear h
      have h := hz
      clear hz
      have s0 := (rd_size k 0 (by omega) _ _ _ _ _ _ _ _ _ hr).1
      refine Eq.trans (rd_two_ok (free := true) (d := d') (n := n') (keys := keys) (kids := kids) h7 rfl h5 (ih 0 (by omega) _ _ _ _ _ _ _ _ hr d' (n' + 1))) ?_
      rw [show n' + 1 + (n1 - (n + 1)) = n' + (n1 - n) by omega]
      rcases h with ⟨h6, h⟩ | ⟨h4, rfl, rfl, rfl⟩
      · have s1 := (rd_size k 2 (by omega) _ _ _ _ _ _ _ _ _ h).1
        rw [if_pos h6, ih 2 (by omega) _ _ _ _ _ _ _ _ h d' _, show n' + (n1 - n) + (m - n1) = n' + (m - n) by omega]
      · rw [if_neg (by omega), if_pos h4]
theorem kt_sh (q : Nat) (L : List Tk) : KT L (L.map (shT q)) := by unfold KT; rw [List.map_map]; rfl
/-- Two values in brackets. -/
def bothL (x y : List Int) : List Int := 91 :: (x ++ 44 :: (y ++ [93]))
theorem lex_zero {zs : List Int} (h : (lexW zs).2.1 = 0) (hl : zs.length ≤ 4096) : lexW zs = lexA zs 0 := by unfold lexW; rw [if_pos hl]
theorem both_lex {x y : List Int} (hx : (lexW x).2.1 = 0) (hy : (lexW y).2.1 = 0) (hl : x.length + y.length + 3 ≤ 4096) : ∃ a c e X Y, KT (lexW x).1 X ∧ KT (lexW y).1 Y ∧ a.kind = 3 ∧ c.kind = 6 ∧ e.kind = 4 ∧ (lexW (bothL x y)).1 = a :: (X ++ c :: (Y ++ [e])) ∧ (lexW (bothL x y)).2.1 = 0 := by
  have ex := lex_zero hx (by omega)
  have ey := lex_zero hy (by omega)
  have hbl : (bothL x y).length ≤ 4096 := by simp [bothL]; omega
  have hW : lexW (bothL x y) = lexA (bothL x y) 0 := by unfold lexW; rw [if_pos hbl]
  have s1 := lex_sign (c := 91) (x ++ 44 :: (y ++ [93])) 0 (by decide)
  have fx := lex_shift 1 x 0
  rw [Nat.zero_add] at fx
  rw [ex] at hx
  have j1 := lex_join (44 :: (y ++ [93])) (stop_of (.inr (.inr (.inr (.inr (.inl rfl))))) _) x 1 (by rw [fx.2]; exact hx)
  have s2 := lex_sign (c := 44) (y ++ [93]) (1 + x.length) (by decide)
  have fy := lex_shift (1 + x.length + 1) y 0
  rw [Nat.zero_add] at fy
  rw [ey] at hy
  have j2 := lex_join [93] (stop_of (.inr (.inr (.inr (.inr (.inr rfl))))) _) y (1 + x.length + 1) (by rw [fy.2]; exact hy)
  have s3 := lex_sign (c := 93) [] (1 + x.length + 1 + y.length) (by decide)
  have s4 : lexA [] (1 + x.length + 1 + y.length + 1) = ([], 0, 0) := lex_end rfl
  rw [hW, ex, ey]
  unfold bothL
  rw [s1, Nat.zero_add, j1, s2, j2, s3, s4, fx.1, fy.1]
  exact ⟨_, _, _, _, _, kt_sh _ _, kt_sh _ _, rfl, rfl, rfl, rfl, rfl⟩
theorem beg_arr {free : Bool} {a : Tk} (h : a.kind = 3) (hn : free = true ∨ free = false) : bvA a.kind = true ∧ beginA free 0 0 (nodeA a.kind (strOfNums a.txt)).2 = 0 := by
  rw [h]
  rcases hn with rfl | rfl
  · exact ⟨rfl, rfl⟩
  · exact ⟨rfl, rfl⟩
/-- What comes of both, if each is read within. -/
theorem both_rd {free : Bool} {X Y : List Tk} {a c e : Tk} {t u : Tr} {X0 Y0 : List Tk} {kx ky n1 n2 : Nat} (ha : a.kind = 3) (hc : c.kind = 6) (he : e.kind = 4) (hX : KT X0 X) (hY : KT Y0 Y)
    (h1 : rdF kx 0 free 1 1 [] [] X0 = .inr (t, n1, [])) (h2 : rdF ky 0 free 1 n1 [] [] Y0 = .inr (u, n2, [])) (k1 : kx ≤ 2 * X.length + 1) (k2 : ky ≤ 2 * Y.length + 1) :
    rdW free (a :: (X ++ c :: (Y ++ [e]))) = .inr (arrT [t, u], n2, []) := by
  obtain ⟨b1, b2⟩ := beg_arr (free := free) ha (by cases free <;> simp)
  have hx0 : X0 ≠ [] := by rintro rfl; rcases kx with _ | kx <;> simp [rdF] at h1
  obtain ⟨x, X0', rfl⟩ := List.exists_cons_of_ne_nil hx0
  obtain ⟨x', X', rfl, e1, e2, _⟩ := hX.cons
  have hk4 : x'.kind ≠ 4 := by
    intro h4
    rcases kx with _ | kx
    · simp [rdF] at h1
    · obtain ⟨z, Z, hz, hb, _⟩ := rd_inv0 h1
      cases hz
      rw [← e1, h4] at hb
      exact absurd hb (by decide)
  unfold rdW
  obtain ⟨M1, q1, g1⟩ := rd_more kx 0 (by omega) _ _ _ _ _ _ _ _ _ h1 (2 * (x' :: X' ++ c :: (Y ++ [e])).length + 1) (x' :: X') (c :: (Y ++ [e])) (by simp at k1 ⊢; omega) hX
  obtain rfl : M1 = [] := by unfold KT at q1; simpa using q1.symm
  obtain ⟨M2, q2, g2⟩ := rd_more ky 0 (by omega) _ _ _ _ _ _ _ _ _ h2 (2 * (x' :: X' ++ c :: (Y ++ [e])).length) Y [e] (by simp at k2 ⊢; omega) hY
  obtain rfl : M2 = [] := by unfold KT at q2; simpa using q2.symm
  have f1 : 2 * (a :: (x' :: X' ++ c :: (Y ++ [e]))).length + 1 = 2 * (x' :: X' ++ c :: (Y ++ [e])).length + 1 + 1 + 1 := by simp; omega
  rw [f1]
  refine Eq.trans (rd_arr (u := x') (N := X' ++ c :: (Y ++ [e])) b1 b2 ha hk4) ?_
  refine Eq.trans (rd_one (c := c) (N := Y ++ [e]) g1) ?_
  rw [if_pos hc]
  refine Eq.trans (rd_one (c := e) (N := []) g2) ?_
  rw [if_neg (by omega), if_pos he]
  rfl
/-- TWO VALUES IN BRACKETS ARE AN ARRAY OF BOTH, IF THAT MAY BE. -/
theorem par_both {x y : List Int} (hx : (parA x).2.1 = 0) (hy : (parA y).2.1 = 0) (hl : x.length + y.length + 3 ≤ 4096) :
    ((arrT [(parA x).1, (parA y).1]).May (fun u => alF u = 0) → parA (bothL x y) = (arrT [(parA x).1, (parA y).1], 0, 0)) ∧
    (¬ (arrT [(parA x).1, (parA y).1]).May (fun u => alF u = 0) → (parA (bothL x y)).2.1 ≠ 0 ∧ (readA (newS true) (bothL x y)).2.1 = 0) := by
  obtain ⟨n, h1, f1, _⟩ := par_ok hx
  obtain ⟨m, h2, f2, _⟩ := par_ok hy
  obtain ⟨a, c, e, X, Y, kX, kY, ka, kc, ke, eL, ef⟩ := both_lex f1 f2 hl
  have lX : (lexW x).1.length = X.length := by have := congrArg List.length kX; simpa using this
  have lY : (lexW y).1.length = Y.length := by have := congrArg List.length kY; simpa using this
  have z1 := (rd_size _ 0 (by omega) _ _ _ _ _ _ _ _ _ h1).2.1 rfl
  have z2 := (rd_size _ 0 (by omega) _ _ _ _ _ _ _ _ _ h2).2.1 rfl
  generalize (parA x).1 = t at *
  generalize (parA y).1 = u at *
  have esz : (arrT [t, u]).size = 1 + (t.size + u.size) := by rw [Tr.size_eq]; show 1 + Tr.sizes [] + Tr.sizes [t, u] = _; rw [Tr.sizes_cons, Tr.sizes_cons, Tr.sizes_nil]; omega
  have hd1 : t.deep < (arrT [t, u]).deep := Tr.kid_deep (by simp [arrT])
  have hd2 : u.deep < (arrT [t, u]).deep := Tr.kid_deep (by simp [arrT])
  have hfree : rdW true (a :: (X ++ c :: (Y ++ [e]))) = .inr (arrT [t, u], 1 + n + m, []) := by
    refine both_rd (n1 := 1 + n) ka kc ke kX kY ?_ ?_ (by rw [← lX]; exact Nat.le_refl _) (by rw [← lY]; exact Nat.le_refl _)
    · exact rd_shiftf _ 0 (by omega) _ _ _ _ _ _ _ _ (rd_free _ 0 (by omega) _ _ _ _ _ _ _ _ h1) 1 1
    · exact rd_shiftf _ 0 (by omega) _ _ _ _ _ _ _ _ (rd_free _ 0 (by omega) _ _ _ _ _ _ _ _ h2) 1 (1 + n)
  refine ⟨fun hm => ?_, fun hm => ⟨fun h0 => ?_, ?_⟩⟩
  · obtain ⟨m1, m2, _⟩ := hm
    have hr : rdW false (lexW (bothL x y)).1 = .inr (arrT [t, u], 1 + n + m, []) := by
      rw [eL]
      refine both_rd (n1 := 1 + n) ka kc ke kX kY ?_ ?_ (by rw [← lX]; exact Nat.le_refl _) (by rw [← lY]; exact Nat.le_refl _)
      · rcases rd_shift _ 0 (by omega) _ _ _ _ _ _ _ _ h1 1 1 (.inl rfl) with g | ⟨f, _, g⟩
        · exact g
        · exact absurd ⟨by omega, by rw [if_pos rfl]; omega⟩ g
      · rcases rd_shift _ 0 (by omega) _ _ _ _ _ _ _ _ h2 1 (1 + n) (.inl rfl) with g | ⟨f, _, g⟩
        · exact g
        · exact absurd ⟨by omega, by rw [if_pos rfl]; omega⟩ g
    exact par_of hr ef
  · obtain ⟨k, g1, _, _⟩ := par_ok h0
    have hmay := (rdW_may g1 (lexW_text _)).2
    have g2 := rd_free _ 0 (by omega) _ _ _ _ _ _ _ _ g1
    rw [eL] at g2
    have g3 : rdW true (a :: (X ++ c :: (Y ++ [e]))) = .inr ((parA (bothL x y)).1, k, []) := g2
    rw [hfree] at g3
    simp at g3
    rw [← g3.1] at hmay
    exact hm hmay
  · rw [read_ok (by rw [eL]; exact hfree) ef]
end Go.Proofs.YtmlacmoembjeoaaGreatDoor
namespace Go.Proofs.YtmlacmoembjeoaaGreatDoor
open Go.RowKit
set_option linter.unusedVariables false
def c0L : List Int := [123, 34, 97, 34, 58, 91, 49, 44, 50, 46, 53, 48, 93, 125]
def t0T : Tr := mapT [txtT ⟨#[97]⟩] [arrT [intT false ⟨#[49]⟩, decT false ⟨#[50, 53]⟩ (-1)]]
theorem par_c0 : parA c0L = (t0T, 0, 0) := by kernel_rfl
theorem par_c1 : parA [91, 49, 44, 93] = (zT, 5, 3) := by kernel_rfl
theorem val_c2 : (readA (newS true) [49]).2.1 = 0 := by kernel_rfl
end Go.Proofs.YtmlacmoembjeoaaGreatDoor
namespace Go.Proofs.YtmlacmoembjeoaaGreatDoor
open Go.RowKit
set_option linter.unusedVariables false
theorem bytes_row (w : World) (zs : List Int) (m : Nat × Nat) (hz : ∀ c ∈ zs, 0 ≤ c ∧ c < 256) (hl : zs.length ≤ maxLen) : Bytes (w.alloc (.cells (zs.map (Value.int .u8)).toArray 5 m)) (some ⟨w.heap.size, 0, none⟩) zs := by
  refine ⟨hz, hl, .inr ⟨_, _, rfl, ?_⟩⟩
  intro i hi
  rw [Nat.zero_add, World.cell?_alloc_mark]
  simp [List.getElem?_map, List.getElem?_eq_getElem hi, List.getD_eq_getElem?_getD]
/-- What stands in memory of the first text's tree. -/
structure T0At (w : World) (b : Nb) (g1 o1 g2 o2 c2 : Nat) : Prop where
  k : b.lk = 1
  i : b.li = 1
  a : b.ai = some ⟨g1, o1, none⟩
  ck : 1 ≤ b.ck ∧ b.ck ≤ maxLen
  ci : 1 ≤ b.ci ∧ b.ci ≤ maxLen
  c : 2 ≤ c2 ∧ c2 ≤ maxLen
  l1 : g1 < w.heap.size
  l2 : g2 < w.heap.size
  x1 : w.cell? ⟨g1, o1 + 8, none⟩ = some (.slice (some ⟨g2, o2, none⟩) 2 c2)
  x2 : w.cell? ⟨g2, o2 + 13, none⟩ = some (.int .i64 (-1))
theorem t0_at {D : Nat} {w : World} {b : Nb} (h : Nd D w b t0T) : ∃ g1 o1 g2 o2 c2, T0At w b g1 o1 g2 o2 c2 := by
  rcases D with _ | D
  · exact absurd h id
  obtain ⟨_, _, _, ⟨k1, k2, k3⟩, ⟨i1, i2, i3⟩⟩ := h
  have e1 : b.lk = 1 := k1.symm
  have e2 : b.li = 1 := i1.symm
  rcases i3 with i3 | ⟨g1, o1, ha, hc⟩
  · exact absurd i3 (by simp [t0T, mapT])
  obtain ⟨nb, hn, hq⟩ := hc 0 (by omega)
  have hq' : Nd D w nb (arrT [intT false ⟨#[49]⟩, decT false ⟨#[50, 53]⟩ (-1)]) := hq
  rcases D with _ | D
  · exact absurd hq' id
  obtain ⟨_, _, _, _, ⟨j1, j2, j3⟩⟩ := hq'
  have e3 : nb.li = 2 := j1.symm
  rcases j3 with j3 | ⟨g2, o2, hb, hd⟩
  · exact absurd j3 (by simp [arrT])
  obtain ⟨mb, hm, hr⟩ := hd 1 (by omega)
  have hr' : Nd D w mb (decT false ⟨#[50, 53]⟩ (-1)) := hr
  rcases D with _ | D
  · exact absurd hr' id
  have e4 : mb.exp = -1 := hr'.1.2.2.2.2.1
  have x1 := hn 8 (by omega)
  have x2 := hm 4 (by omega)
  rw [show nb.cells[8]? = some (.slice nb.ai nb.li nb.ci) from rfl, hb, e3] at x1
  rw [show mb.cells[4]? = some (.int .i64 mb.exp) from rfl, e4] at x2
  exact ⟨g1, o1, g2, o2, nb.ci, e1, e2, ha, ⟨by have := k2.1; omega, k2.2.1⟩, ⟨by have := i2.1; omega, i2.2.1⟩, ⟨by have := j2.1; omega, j2.2.1⟩, some_block x1, some_block x2, by simpa using x1, by simpa using x2⟩
theorem T0At.kept {w w' : World} {b : Nb} {g1 o1 g2 o2 c2 : Nat} (h : T0At w b g1 o1 g2 o2 c2) (hb : Below w.heap.size w w') : T0At w' b g1 o1 g2 o2 c2 := ⟨h.k, h.i, h.a, h.ck, h.ci, h.c, Nat.lt_of_lt_of_le h.l1 hb.size, Nat.lt_of_lt_of_le h.l2 hb.size, (hb.cell (p := ⟨g1, o1 + 8, none⟩) h.l1).trans h.x1, (hb.cell (p := ⟨g2, o2 + 13, none⟩) h.l2).trans h.x2⟩
set_option maxHeartbeats 1000000 in
set_option maxRecDepth 100000 in
theorem alive_any (w : World) : Calls Tryz.prog 12 #[] w fun e w' => e = .returned (.bool true) ∧ Below w.heap.size w w' := by
  have kc := fun (w : World) (C : Array Value) (n c : Nat) => Lib.run_convert_bytes_const (P := Tryz.prog) w 22 5 C n c Tryz.underlying22 Tryz.underlying5
  have kP : Calls Tryz.prog 9 #[.slice (some ⟨w.heap.size, 0, none⟩) 14 14] (w.alloc (.cells #[.int .u8 123, .int .u8 34, .int .u8 97, .int .u8 34, .int .u8 58, .int .u8 91, .int .u8 49, .int .u8 44, .int .u8 50, .int .u8 46, .int .u8 53, .int .u8 48, .int .u8 93, .int .u8 125] 5 (14, 15))) fun e w' => ∃ b g1 o1 g2 o2 c2, e = .returned (.tuple #[.agg b.arr, .agg #[.int .i64 0, .int .i64 0]]) ∧ Hid (T0At w' b g1 o1 g2 o2 c2) ∧ Hid (Below w.heap.size w w') := by
    have hA := alloc_below w (.cells (c0L.map (Value.int .u8)).toArray 5 (14, 15))
    have := rparse_any (some ⟨w.heap.size, 0, none⟩) 14 14 c0L (w.alloc (.cells (c0L.map (Value.int .u8)).toArray 5 (14, 15))) rfl (bytes_row w c0L (14, 15) (by decide) (by decide)) (Nat.le_refl _) (by decide)
    rw [par_c0] at this
    refine this.mono ?_
    rintro e w' ⟨D, b, h1, h2, h3⟩
    obtain ⟨g1, o1, g2, o2, c2, h4⟩ := t0_at h2
    exact ⟨b, g1, o1, g2, o2, c2, h1, h4, hA.trans (h3.mono hA.size)⟩
  have kQ : Hid (∀ w, Calls Tryz.prog 9 #[.slice (some ⟨w.heap.size, 0, none⟩) 4 4] (w.alloc (.cells #[.int .u8 91, .int .u8 49, .int .u8 44, .int .u8 93] 5 (4, 5))) fun e w' => ∃ b : Nb, e = .returned (.tuple #[.agg b.arr, .agg #[.int .i64 5, .int .i64 3]]) ∧ Hid (Below w.heap.size w w')) := fun w => by
    have hA := alloc_below w (.cells (([91, 49, 44, 93] : List Int).map (Value.int .u8)).toArray 5 (4, 5))
    have := rparse_any (some ⟨w.heap.size, 0, none⟩) 4 4 [91, 49, 44, 93] (w.alloc (.cells (([91, 49, 44, 93] : List Int).map (Value.int .u8)).toArray 5 (4, 5))) rfl (bytes_row w [91, 49, 44, 93] (4, 5) (by decide) (by decide)) (Nat.le_refl _) (by decide)
    rw [par_c1] at this
    refine this.mono ?_
    rintro e w' ⟨D, b, h1, h2, h3⟩
    exact ⟨b, h1, hA.trans (h3.mono hA.size)⟩
  have kV : Hid (∀ w, Calls Tryz.prog 13 #[.slice (some ⟨w.heap.size, 0, none⟩) 1 1] (w.alloc (.cells #[.int .u8 49] 5 (1, 2))) fun e w' => e = .returned (.bool true) ∧ Hid (Below w.heap.size w w')) := fun w => by
    have hA := alloc_below w (.cells (([49] : List Int).map (Value.int .u8)).toArray 5 (1, 2))
    have := rvalid_any (some ⟨w.heap.size, 0, none⟩) 1 1 [49] (w.alloc (.cells (([49] : List Int).map (Value.int .u8)).toArray 5 (1, 2))) rfl (bytes_row w [49] (1, 2) (by decide) (by decide)) (Nat.le_refl _) (by decide)
    rw [val_c2] at this
    refine this.mono ?_
    rintro e w' ⟨h1, h3⟩
    exact ⟨h1, hA.trans (h3.mono hA.size)⟩
  go_enter Tryz.func12, Tryz.ntmps12
  go_wp2_with (go_at_call 9; refine kP.mono ?_; rintro e w1 ⟨b, g1, o1, g2, o2, c2, he, hT, hB⟩; rw [Nb.arr] at he; subst he; clear kP; have hs : ((w1.alloc (.cells #[.int .i64 b.kind, .int .u64 b.num, .bool b.neg, .string b.dig, .int .i64 b.exp, .string b.txt, .slice b.ab b.lb b.cb, .slice b.ak b.lk b.ck, .slice b.ai b.li b.ci] 26)).alloc (.cells #[.int .i64 0, .int .i64 0] 29)).heap.size = w1.heap.size + 1 + 1 := (by simp); have kc1 := kc ((w1.alloc (.cells #[.int .i64 b.kind, .int .u64 b.num, .bool b.neg, .string b.dig, .int .i64 b.exp, .string b.txt, .slice b.ab b.lb b.cb, .slice b.ak b.lk b.ck, .slice b.ai b.li b.ci] 26)).alloc (.cells #[.int .i64 0, .int .i64 0] 29)) #[.int .u8 91, .int .u8 49, .int .u8 44, .int .u8 93] 4 4; rw [hs] at kc1; have kQ1 := kQ.out ((w1.alloc (.cells #[.int .i64 b.kind, .int .u64 b.num, .bool b.neg, .string b.dig, .int .i64 b.exp, .string b.txt, .slice b.ab b.lb b.cb, .slice b.ak b.lk b.ck, .slice b.ai b.li b.ci] 26)).alloc (.cells #[.int .i64 0, .int .i64 0] 29)); rw [hs] at kQ1; clear kQ; have A1 := (alloc_below w1 (.cells #[.int .i64 b.kind, .int .u64 b.num, .bool b.neg, .string b.dig, .int .i64 b.exp, .string b.txt, .slice b.ab b.lb b.cb, .slice b.ak b.lk b.ck, .slice b.ai b.li b.ci] 26)); have A2 := alloc_below (w1.alloc (.cells #[.int .i64 b.kind, .int .u64 b.num, .bool b.neg, .string b.dig, .int .i64 b.exp, .string b.txt, .slice b.ab b.lb b.cb, .slice b.ak b.lk b.ck, .slice b.ai b.li b.ci] 26)) (.cells #[.int .i64 0, .int .i64 0] 29); have A3 : Hid (Below w1.heap.size w1 ((w1.alloc (.cells #[.int .i64 b.kind, .int .u64 b.num, .bool b.neg, .string b.dig, .int .i64 b.exp, .string b.txt, .slice b.ab b.lb b.cb, .slice b.ak b.lk b.ck, .slice b.ai b.li b.ci] 26)).alloc (.cells #[.int .i64 0, .int .i64 0] 29))) := A1.trans (A2.mono (by simp)); have X0 : Hid (NBox ((w1.alloc (.cells #[.int .i64 b.kind, .int .u64 b.num, .bool b.neg, .string b.dig, .int .i64 b.exp, .string b.txt, .slice b.ab b.lb b.cb, .slice b.ak b.lk b.ck, .slice b.ai b.li b.ci] 26)).alloc (.cells #[.int .i64 0, .int .i64 0] 29)) w1.heap.size b ∧ Blk ((w1.alloc (.cells #[.int .i64 b.kind, .int .u64 b.num, .bool b.neg, .string b.dig, .int .i64 b.exp, .string b.txt, .slice b.ab b.lb b.cb, .slice b.ak b.lk b.ck, .slice b.ai b.li b.ci] 26)).alloc (.cells #[.int .i64 0, .int .i64 0] 29)) (w1.heap.size + 1) #[.int .i64 0, .int .i64 0] 29) := ⟨(nbox_new w1 b).kept A2 (by simp), by have := blk_new (w1.alloc (.cells #[.int .i64 b.kind, .int .u64 b.num, .bool b.neg, .string b.dig, .int .i64 b.exp, .string b.txt, .slice b.ab b.lb b.cb, .slice b.ak b.lk b.ck, .slice b.ai b.li b.ci] 26)) #[.int .i64 0, .int .i64 0] 29; simpa using this⟩; have hs' : Hid (((w1.alloc (.cells #[.int .i64 b.kind, .int .u64 b.num, .bool b.neg, .string b.dig, .int .i64 b.exp, .string b.txt, .slice b.ab b.lb b.cb, .slice b.ak b.lk b.ck, .slice b.ai b.li b.ci] 26)).alloc (.cells #[.int .i64 0, .int .i64 0] 29)).heap.size = w1.heap.size + 1 + 1) := hs; clear A1 A2 hs)
  refine kQ1.mono ?_
  rintro e w2 ⟨b2, he, hB2⟩
  rw [Nb.arr] at he; subst he; clear kQ1 kc1
  have hs2 : ((w2.alloc (.cells #[.int .i64 b2.kind, .int .u64 b2.num, .bool b2.neg, .string b2.dig, .int .i64 b2.exp, .string b2.txt, .slice b2.ab b2.lb b2.cb, .slice b2.ak b2.lk b2.ck, .slice b2.ai b2.li b2.ci] 26)).alloc (.cells #[.int .i64 5, .int .i64 3] 29)).heap.size = w2.heap.size + 1 + 1 := by simp
  have kc2 := kc ((w2.alloc (.cells #[.int .i64 b2.kind, .int .u64 b2.num, .bool b2.neg, .string b2.dig, .int .i64 b2.exp, .string b2.txt, .slice b2.ab b2.lb b2.cb, .slice b2.ak b2.lk b2.ck, .slice b2.ai b2.li b2.ci] 26)).alloc (.cells #[.int .i64 5, .int .i64 3] 29)) #[.int .u8 49] 1 1; rw [hs2] at kc2; have kV2 := kV.out ((w2.alloc (.cells #[.int .i64 b2.kind, .int .u64 b2.num, .bool b2.neg, .string b2.dig, .int .i64 b2.exp, .string b2.txt, .slice b2.ab b2.lb b2.cb, .slice b2.ak b2.lk b2.ck, .slice b2.ai b2.li b2.ci] 26)).alloc (.cells #[.int .i64 5, .int .i64 3] 29)); rw [hs2] at kV2; clear kV
  have D1 := (alloc_below w2 (.cells #[.int .i64 b2.kind, .int .u64 b2.num, .bool b2.neg, .string b2.dig, .int .i64 b2.exp, .string b2.txt, .slice b2.ab b2.lb b2.cb, .slice b2.ak b2.lk b2.ck, .slice b2.ai b2.li b2.ci] 26)); have D2 := alloc_below (w2.alloc (.cells #[.int .i64 b2.kind, .int .u64 b2.num, .bool b2.neg, .string b2.dig, .int .i64 b2.exp, .string b2.txt, .slice b2.ab b2.lb b2.cb, .slice b2.ak b2.lk b2.ck, .slice b2.ai b2.li b2.ci] 26)) (.cells #[.int .i64 5, .int .i64 3] 29)
  have D3 : Hid (Below w2.heap.size w2 ((w2.alloc (.cells #[.int .i64 b2.kind, .int .u64 b2.num, .bool b2.neg, .string b2.dig, .int .i64 b2.exp, .string b2.txt, .slice b2.ab b2.lb b2.cb, .slice b2.ak b2.lk b2.ck, .slice b2.ai b2.li b2.ci] 26)).alloc (.cells #[.int .i64 5, .int .i64 3] 29))) := D1.trans (D2.mono (by simp))
  have Y0 : Blk ((w2.alloc (.cells #[.int .i64 b2.kind, .int .u64 b2.num, .bool b2.neg, .string b2.dig, .int .i64 b2.exp, .string b2.txt, .slice b2.ab b2.lb b2.cb, .slice b2.ak b2.lk b2.ck, .slice b2.ai b2.li b2.ci] 26)).alloc (.cells #[.int .i64 5, .int .i64 3] 29)) (w2.heap.size + 1) #[.int .i64 5, .int .i64 3] 29 := by have := blk_new (w2.alloc (.cells #[.int .i64 b2.kind, .int .u64 b2.num, .bool b2.neg, .string b2.dig, .int .i64 b2.exp, .string b2.txt, .slice b2.ab b2.lb b2.cb, .slice b2.ak b2.lk b2.ck, .slice b2.ai b2.li b2.ci] 26)) #[.int .i64 5, .int .i64 3] 29; simpa using this
  have E1 : Hid (Below w1.heap.size w1 ((w2.alloc (.cells #[.int .i64 b2.kind, .int .u64 b2.num, .bool b2.neg, .string b2.dig, .int .i64 b2.exp, .string b2.txt, .slice b2.ab b2.lb b2.cb, .slice b2.ak b2.lk b2.ck, .slice b2.ai b2.li b2.ci] 26)).alloc (.cells #[.int .i64 5, .int .i64 3] 29))) := A3.out.trans ((hB2.out.mono (by omega)).trans (D3.out.mono (by have := hB2.out.size; rw [hs'.out] at this; omega)))
  have T2 := hT.out.kept E1.out
  have E2 : Below (w1.heap.size + 1 + 1) ((w1.alloc (.cells #[.int .i64 b.kind, .int .u64 b.num, .bool b.neg, .string b.dig, .int .i64 b.exp, .string b.txt, .slice b.ab b.lb b.cb, .slice b.ak b.lk b.ck, .slice b.ai b.li b.ci] 26)).alloc (.cells #[.int .i64 0, .int .i64 0] 29)) ((w2.alloc (.cells #[.int .i64 b2.kind, .int .u64 b2.num, .bool b2.neg, .string b2.dig, .int .i64 b2.exp, .string b2.txt, .slice b2.ab b2.lb b2.cb, .slice b2.ak b2.lk b2.ck, .slice b2.ai b2.li b2.ci] 26)).alloc (.cells #[.int .i64 5, .int .i64 3] 29)) := by have h1 := hB2.out; exact h1.trans (D3.out.mono (by have := hB2.out.size; rw [hs'.out] at this; omega))
  have X2 := X0.out.1.kept E2 (by omega)
  have Z2 : Blk ((w2.alloc (.cells #[.int .i64 b2.kind, .int .u64 b2.num, .bool b2.neg, .string b2.dig, .int .i64 b2.exp, .string b2.txt, .slice b2.ab b2.lb b2.cb, .slice b2.ak b2.lk b2.ck, .slice b2.ai b2.li b2.ci] 26)).alloc (.cells #[.int .i64 5, .int .i64 3] 29)) (w1.heap.size + 1) #[.int .i64 0, .int .i64 0] 29 := (E2.block _ (by omega)).trans X0.out.2
  obtain ⟨n0, n1, n2, n3, n4, n5, n6, n7, n8⟩ := X2.fields
  have y0 := Y0.cell 0; have y1 := Y0.cell 1; have z0 := Z2.cell 0; have z1 := Z2.cell 1
  obtain ⟨k1, k2, k3, k4, k5, k6, k7, k8, k9, k10⟩ := T2
  rw [k1] at n7; rw [k2, k3] at n8
  have E3 : Hid (Below w.heap.size w ((w2.alloc (.cells #[.int .i64 b2.kind, .int .u64 b2.num, .bool b2.neg, .string b2.dig, .int .i64 b2.exp, .string b2.txt, .slice b2.ab b2.lb b2.cb, .slice b2.ak b2.lk b2.ck, .slice b2.ai b2.li b2.ci] 26)).alloc (.cells #[.int .i64 5, .int .i64 3] 29))) := hB.out.trans (E1.out.mono hB.out.size)
  clear hs2 D1 D2 Y0 Z2 X2 E2 X0 hT hB hs' A3 D3 hB2
  go_wp2_with (go_at_call 13; refine kV2.mono ?_; rintro e w3 ⟨rfl, hB3⟩; clear kV2)
  go_ret
  exact ⟨rfl, E3.out.trans (hB3.out.mono (by have := E3.out.size; simpa using this))⟩
end Go.Proofs.YtmlacmoembjeoaaGreatDoor
