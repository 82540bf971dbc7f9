/-
  What is read by descent, within bounds, may be.
  Tokens of bytes that are put together: one behind the other, gaps between them, other places.
  What Parse and Valid answer, by descent; two values in brackets.
  A gap ahead of a token, as plain data: the tokens stay what they are, and so does the tree.
  A region that draws its order, by what holds whatever has been done: one proof for each operation, none for an order.
  A frame by a function of its slots; single operations of a region that draws its order.
  jread.Parse of a text that is read: its tree lies in new memory.
  Gaps between tokens: the text with a gap put together and read, in any order that Go leaves open.
-/
import Derived.Test.YtmlacmoembjeoaaGreatDoorG23
import Derived.Test.YtmlacmoembjeoaaGreatDoorG22
import Derived.Test.YtmlacmoembjeoaaGreatDoorG8
import Derived.Test.YtmlacmoembjeoaaGreatDoorG1
namespace Go.Proofs.YtmlacmoembjeoaaGreatDoor
open Go.RowKit
set_option linter.unusedVariables false
/-- Every node is of its form, and no keys stand twice. -/
def NOK (t : Tr) : Prop := t.All (fun u => alF u = 0) ∧ t.All (fun u => u.keys.Nodup)
/-- A string's text may be a node's. -/
def TkG (t : Tk) : Prop := t.kind = 7 → gtx (strOfNums t.txt) = true ∧ (strOfNums t.txt).size ≤ 4096
theorem tkG_of {t : Tk} (h : TkOK 4096 t) : TkG t := fun h7 => by
  obtain ⟨h1, h2⟩ := h
  obtain ⟨g1, g2⟩ := h2 h7
  refine ⟨?_, by rw [strOfNums_size]; exact h1⟩
  unfold gtx whyL
  rw [bs_str g2, g1]
  rfl
theorem nok_leaf {t : Tr} (hk : t.keys = [] ∧ t.kids = []) (ha : alF t = 0) : NOK t := by
  refine ⟨(Tr.all_eq _ t).2 ⟨ha, fun k h => ?_, fun k h => ?_⟩, (Tr.all_eq _ t).2 ⟨by rw [hk.1]; exact List.nodup_nil, fun k h => ?_, fun k h => ?_⟩⟩
  · rw [hk.1] at h; cases h
  · rw [hk.2] at h; cases h
  · rw [hk.1] at h; cases h
  · rw [hk.2] at h; cases h
theorem al_txt {x : ByteArray} (h : gtx x = true) (hs : x.size ≤ 4096) : alF (txtT x) = 0 := by
  have o : (txtT x).odd = false := rfl
  show Tr.alo gtx rt rdN (txtT x) = 0
  unfold Tr.alo
  rw [o, show (txtT x).txt = x from rfl, h]
  rw [if_neg (by rintro (⟨_, q⟩ | ⟨q, _⟩); exact absurd q (by omega); exact absurd (show (5 : Int) = 6 from q) (by decide)), if_neg (by simp), if_neg (fun q => absurd (show (5 : Int) = 2 from q.1) (by decide)), if_neg (fun q => absurd (show (5 : Int) = 3 from q.1) (by decide)), if_neg (by decide)]
theorem al_int {n : Bool} {d : ByteArray} (h : rt d = true) (hz : ¬ (n = true ∧ d = ⟨#[48]⟩)) : alF (intT n d) = 0 := by
  have o : (intT n d).odd = false := by cases n <;> rfl
  show Tr.alo gtx rt rdN (intT n d) = 0
  unfold Tr.alo
  rw [o, show (intT n d).dig = d from rfl, show (intT n d).neg = n from rfl, h]
  rw [if_neg (by rintro (⟨q, _⟩ | ⟨q, _⟩); exact absurd (show (2 : Int) = 5 from q) (by decide); exact absurd (show (2 : Int) = 6 from q) (by decide)), if_neg (fun q => absurd (show (2 : Int) = 5 from q.1) (by decide)), if_neg (by rintro ⟨_, q | q⟩; exact absurd q (by decide); exact hz q), if_neg (fun q => absurd (show (2 : Int) = 3 from q.1) (by decide)), if_neg (by decide)]
theorem al_dec {n : Bool} {d : ByteArray} {x : Int} (h : rdN n d x = true) : alF (decT n d x) = 0 := by
  have o : (decT n d x).odd = false := by cases n <;> rfl
  show Tr.alo gtx rt rdN (decT n d x) = 0
  unfold Tr.alo
  rw [o, show (decT n d x).dig = d from rfl, show (decT n d x).neg = n from rfl, show (decT n d x).exp = x from rfl, h]
  rw [if_neg (by rintro (⟨q, _⟩ | ⟨q, _⟩); exact absurd (show (3 : Int) = 5 from q) (by decide); exact absurd (show (3 : Int) = 6 from q) (by decide)), if_neg (fun q => absurd (show (3 : Int) = 5 from q.1) (by decide)), if_neg (fun q => absurd (show (3 : Int) = 2 from q.1) (by decide)), if_neg (fun q => absurd q.2 (by decide)), if_neg (by decide)]
theorem al_arr (kids : List Tr) : alF (arrT kids) = 0 := by
  have o : (arrT kids).odd = false := by simp [Tr.odd, Tr.clean, arrT, ByteArray.size]
  show Tr.alo gtx rt rdN (arrT kids) = 0
  unfold Tr.alo
  rw [o]
  simp [arrT]
theorem al_map {keys kids : List Tr} (h : keys.length = kids.length) : alF (mapT keys kids) = 0 := by
  have o : (mapT keys kids).odd = false := by simp [Tr.odd, Tr.clean, mapT, ByteArray.size, h]
  show Tr.alo gtx rt rdN (mapT keys kids) = 0
  unfold Tr.alo
  rw [o]
  simp [mapT]
theorem pad_zero {s : ByteArray} {k : Nat} (h : padW s k = ⟨#[48]⟩) : k = 0 ∨ s.size = 0 := by
  have := congrArg ByteArray.size h
  rw [padW_size] at this
  have e : (⟨#[48]⟩ : ByteArray).size = 1 := rfl
  rw [e] at this
  omega
theorem num_al (x : ByteArray) (h : (numA x).2 = 0) : alF (numA x).1 = 0 := by
  unfold numA at h ⊢
  by_cases hp : (parseA x).2.1 ≠ 0
  · rw [if_pos hp] at h; exact absurd (show (11 : Int) = 0 from h) (by decide)
  rw [if_neg hp]
  have hr := parse_ok (s := x) (by simpa using hp)
  generalize parseA x = p at *
  by_cases hw : (wholeA p.1.1 p.1.2.1 p.1.2.2).2 = true
  · rw [if_pos hw]
    show alF (intT p.1.1 (wholeA p.1.1 p.1.2.1 p.1.2.2).1) = 0
    unfold wholeA at hw ⊢
    by_cases hc : rtN p.1.1 p.1.2.1 p.1.2.2 = true ∧ 0 ≤ p.1.2.2 ∧ ((p.1.2.1.size : Nat) : Int) + p.1.2.2 ≤ 800
    · rw [if_pos hc]
      obtain ⟨c1, c2, c3⟩ := hc
      obtain ⟨e, he⟩ : ∃ e : Nat, p.1.2.2 = (e : Int) := ⟨p.1.2.2.toNat, by omega⟩
      rw [he] at c1 c3
      have hrt := rt_padW c1
      show alF (intT p.1.1 (padW p.1.2.1 p.1.2.2.toNat)) = 0
      rw [he, Int.toNat_natCast]
      refine al_int (by rw [hrt]; simp; omega) ?_
      rintro ⟨hn, hz⟩
      have hb := (rtN_iff _ _ _).1 c1
      rcases pad_zero hz with h0 | h0
      · subst h0
        rw [padW_zero] at hz
        unfold rtN at c1
        rw [hz] at c1
        rw [if_pos (by rfl), hn] at c1
        simp at c1
      · unfold rtN at c1
        have hbs : bs p.1.2.1 = [] := List.eq_nil_of_length_eq_zero (by rw [bs_len]; exact h0)
        rw [hbs, if_neg (by simp)] at c1
        simp at c1
        have := (rt_iff _).1 c1.1
        unfold RightS Canon at this
        rw [hbs] at this
        exact absurd rfl this.1.1
    · rw [if_neg hc] at hw; exact absurd hw (by decide)
  · rw [if_neg hw]
    refine al_dec ?_
    unfold rdN
    rw [hr]
    simpa using hw
theorem node_al {k : Nat} {x : ByteArray} (h0 : (nodeA k x).2 = 0) (h3 : k ≠ 3) (h1 : k ≠ 1) (hx : k = 7 → gtx x = true ∧ x.size ≤ 4096) : alF (nodeA k x).1 = 0 := by
  unfold nodeA at h0 ⊢
  rw [if_neg h1, if_neg h3] at h0 ⊢
  by_cases h7 : k = 7
  · rw [if_pos h7]; exact al_txt (hx h7).1 (hx h7).2
  rw [if_neg h7] at h0 ⊢
  by_cases h8 : k = 8
  · rw [if_pos h8] at h0 ⊢; exact num_al x h0
  rw [if_neg h8]
  split
  · rfl
  split
  · rfl
  · rfl
theorem nok_arr {kids : List Tr} (h : ∀ k ∈ kids, NOK k) : NOK (arrT kids) :=
  ⟨(Tr.all_eq _ _).2 ⟨al_arr kids, fun k hk => absurd hk (by simp [arrT]), fun k hk => (h k hk).1⟩, (Tr.all_eq _ _).2 ⟨List.nodup_nil, fun k hk => absurd hk (by simp [arrT]), fun k hk => (h k hk).2⟩⟩
theorem nok_map {keys kids : List Tr} (hl : keys.length = kids.length) (hk : ∀ k ∈ keys, NOK k) (hi : ∀ k ∈ kids, NOK k) (hn : keys.Nodup) : NOK (mapT keys kids) :=
  ⟨(Tr.all_eq _ _).2 ⟨al_map hl, fun k h => (hk k h).1, fun k h => (hi k h).1⟩, (Tr.all_eq _ _).2 ⟨hn, fun k h => (hk k h).2, fun k h => (hi k h).2⟩⟩
/-- A key that was not there is no key that was. -/
theorem twT_not {keys : List Tr} {x : ByteArray} (h : twT keys x = false) : txtT x ∉ keys := fun hm => by
  unfold twT at h
  rw [List.any_eq_false] at h
  have := h _ hm
  simp [txtT] at this
theorem deeps_leq {l : List Tr} {n : Nat} (h : ∀ k ∈ l, k.deep ≤ n) : Tr.deeps l ≤ n := Tr.mx_le fun x hx => by
  obtain ⟨k, hm, rfl⟩ := List.mem_map.1 hx
  exact h k hm
/-- WHAT IS READ WITHIN BOUNDS MAY BE. -/
theorem rd_may : ∀ (k q : Nat), q ≤ 2 → ∀ (d n : Nat) (keys kids : List Tr) (L : List Tk) (t : Tr) (m : Nat) (M : List Tk), rdF k q false d n keys kids L = .inr (t, m, M) → (∀ x ∈ L, TkG x) → n ≤ 1024 →
    (∀ x ∈ M, TkG x) ∧ m ≤ 1024 ∧ (q = 0 → NOK t ∧ t.deep + d ≤ 24) ∧
    (q = 1 → (∀ u ∈ kids, NOK u ∧ u.deep + d ≤ 24) → NOK t ∧ t.deep + d ≤ 25) ∧
    (q = 2 → (∀ u ∈ keys, NOK u ∧ u.deep + d ≤ 24) → (∀ u ∈ kids, NOK u ∧ u.deep + d ≤ 24) → keys.length = kids.length → keys.Nodup → NOK t ∧ t.deep + d ≤ 25) := by
  intro k
  induction k with
  | zero => intro q _ d n keys kids L t m M h; simp [rdF] at h
  | succ k ih =>
    intro q hq d n keys kids L t m M h hL hn
    rcases q with _ | _ | q
    · obtain ⟨a, L', rfl, hb, hg, hz⟩ := rd_inv0 h
      clear h
      have h := hz
      clear hz
      obtain ⟨g1, g2, g3⟩ := begin_zero hg
      have hL' : ∀ x ∈ L', TkG x := fun x hx => hL x (List.mem_cons_of_mem _ hx)
      refine (fun (z : (∀ x ∈ M, TkG x) ∧ m ≤ 1024 ∧ NOK t ∧ t.deep + d ≤ 24) => ⟨z.1, z.2.1, fun _ => z.2.2, fun e => absurd e (by omega), fun e => absurd e (by omega)⟩) ?_
      rcases h with ⟨h3, u, N, rfl, ⟨h4, rfl, rfl, rfl⟩ | ⟨h4, h⟩⟩ | ⟨h1, u, N, rfl, ⟨h4, rfl, rfl, rfl⟩ | ⟨h4, h⟩⟩ | ⟨h3, h1, rfl, rfl, rfl⟩
      · refine ⟨fun x hx => hL' x (List.mem_cons_of_mem _ hx), by omega, nok_arr (fun k hk => absurd hk (by simp)), ?_⟩
        rw [(size_one (t := arrT []) ⟨rfl, rfl⟩).2]; omega
      · obtain ⟨i1, i2, _, i4, _⟩ := ih 1 (by omega) _ _ _ _ _ _ _ _ h hL' (by omega)
        obtain ⟨j1, j2⟩ := i4 rfl (fun u hu => absurd hu (by simp))
        exact ⟨i1, i2, j1, by omega⟩
      · refine ⟨fun x hx => hL' x (List.mem_cons_of_mem _ hx), by omega, nok_map rfl (fun k hk => absurd hk (by simp)) (fun k hk => absurd hk (by simp)) List.nodup_nil, ?_⟩
        rw [(size_one (t := mapT [] []) ⟨rfl, rfl⟩).2]; omega
      · obtain ⟨i1, i2, _, _, i4⟩ := ih 2 (by omega) _ _ _ _ _ _ _ _ h hL' (by omega)
        obtain ⟨j1, j2⟩ := i4 rfl (fun u hu => absurd hu (by simp)) (fun u hu => absurd hu (by simp)) rfl List.nodup_nil
        exact ⟨i1, i2, j1, by omega⟩
      · refine ⟨hL', by omega, nok_leaf (nodeA_one _ _) (node_al g3 h3 h1 fun h7 => hL a List.mem_cons_self h7), ?_⟩
        rw [(size_one (nodeA_one _ _)).2]; omega
    · obtain ⟨u, n', c, N, hr, hz⟩ := rd_inv1 h
      clear h
      have h := hz
      clear hz
      obtain ⟨i1, i2, i3, _⟩ := ih 0 (by omega) _ _ _ _ _ _ _ _ hr hL hn
      obtain ⟨j1, j2⟩ := i3 rfl
      have hN : ∀ x ∈ N, TkG x := fun x hx => i1 x (List.mem_cons_of_mem _ hx)
      rcases h with ⟨h6, h⟩ | ⟨h4, rfl, rfl, rfl⟩
      · obtain ⟨p1, p2, _, p3, _⟩ := ih 1 (by omega) _ _ _ _ _ _ _ _ h hN i2
        refine ⟨p1, p2, fun e => absurd e (by omega), fun _ hk => p3 rfl fun v hv => ?_, fun e => absurd e (by omega)⟩
        rcases List.mem_append.1 hv with hv | hv
        · exact hk v hv
        · rw [List.mem_singleton.1 hv]; exact ⟨j1, j2⟩
      · refine ⟨hN, i2, fun e => absurd e (by omega), fun _ hk => ?_, fun e => absurd e (by omega)⟩
        have hk' : ∀ v ∈ kids ++ [u], NOK v ∧ v.deep + d ≤ 24 := fun v hv => by
          rcases List.mem_append.1 hv with hv | hv
          · exact hk v hv
          · rw [List.mem_singleton.1 hv]; exact ⟨j1, j2⟩
        refine ⟨nok_arr fun v hv => (hk' v hv).1, ?_⟩
        have e : (arrT (kids ++ [u])).deep = 1 + max (Tr.deeps []) (Tr.deeps (kids ++ [u])) := Tr.deep_eq _
        have e0 : Tr.deeps [] = 0 := rfl
        have e1 := deeps_leq (l := kids ++ [u]) (n := 24 - d) fun v hv => by have := (hk' v hv).2; omega
        omega
    · obtain rfl : q = 0 := by omega
      obtain ⟨a, c, L', rfl, h7, hg, h5, u, n', e, N, hr, hz⟩ := rd_inv2 h
      clear h
      have h := hz
      clear hz
      obtain ⟨g1, g2, g3⟩ := begin_zero hg
      have hLa := hL a List.mem_cons_self h7
      have hL' : ∀ x ∈ L', TkG x := fun x hx => hL x (List.mem_cons_of_mem _ (List.mem_cons_of_mem _ hx))
      have htw : twT keys (strOfNums a.txt) = false := by
        cases htw : twT keys (strOfNums a.txt) with
        | false => rfl
        | true => rw [htw, if_pos rfl] at g3; omega
      have kx : NOK (txtT (strOfNums a.txt)) ∧ (txtT (strOfNums a.txt)).deep + d ≤ 24 := ⟨nok_leaf ⟨rfl, rfl⟩ (al_txt hLa.1 hLa.2), by rw [(size_one ⟨rfl, rfl⟩).2]; omega⟩
      obtain ⟨i1, i2, i3, _⟩ := ih 0 (by omega) _ _ _ _ _ _ _ _ hr hL' (by omega)
      obtain ⟨j1, j2⟩ := i3 rfl
      have hN : ∀ x ∈ N, TkG x := fun x hx => i1 x (List.mem_cons_of_mem _ hx)
      have hks : (∀ u ∈ keys, NOK u ∧ u.deep + d ≤ 24) → ∀ v ∈ keys ++ [txtT (strOfNums a.txt)], NOK v ∧ v.deep + d ≤ 24 := fun hk v hv => by
        rcases List.mem_append.1 hv with hv | hv
        · exact hk v hv
        · rw [List.mem_singleton.1 hv]; exact kx
      have his : (∀ u ∈ kids, NOK u ∧ u.deep + d ≤ 24) → ∀ v ∈ kids ++ [u], NOK v ∧ v.deep + d ≤ 24 := fun hk v hv => by
        rcases List.mem_append.1 hv with hv | hv
        · exact hk v hv
        · rw [List.mem_singleton.1 hv]; exact ⟨j1, j2⟩
      have hnd : keys.Nodup → (keys ++ [txtT (strOfNums a.txt)]).Nodup := fun hk => by
        rw [List.nodup_append]
        refine ⟨hk, by simp, fun x hx y hy => ?_⟩
        rw [List.mem_singleton.1 hy]
        intro e
        rw [e] at hx
        exact twT_not htw hx
      rcases h with ⟨h6, h⟩ | ⟨h4, rfl, rfl, rfl⟩
      · obtain ⟨p1, p2, _, _, p3⟩ := ih 2 (by omega) _ _ _ _ _ _ _ _ h hN i2
        exact ⟨p1, p2, fun e => absurd e (by omega), fun e => absurd e (by omega), fun _ hk hi hl hn => p3 rfl (hks hk) (his hi) (by simp [hl]) (hnd hn)⟩
      · refine ⟨hN, i2, fun e => absurd e (by omega), fun e => absurd e (by omega), fun _ hk hi hl hn => ⟨nok_map (by simp [hl]) (fun v hv => (hks hk v hv).1) (fun v hv => (his hi v hv).1) (hnd hn), ?_⟩⟩
        have e : (mapT (keys ++ [txtT (strOfNums a.txt)]) (kids ++ [u])).deep = 1 + max (Tr.deeps (keys ++ [txtT (strOfNums a.txt)])) (Tr.deeps (kids ++ [u])) := Tr.deep_eq _
        have e1 := deeps_leq (l := kids ++ [u]) (n := 24 - d) fun v hv => by have := (his hi v hv).2; omega
        have e2 := deeps_leq (l := keys ++ [txtT (strOfNums a.txt)]) (n := 24 - d) fun v hv => by have := (hks hk v hv).2; omega
        omega
/-- A WHOLE TEXT'S TREE MAY BE. -/
theorem rdW_may {L : List Tk} {t : Tr} {m : Nat} {M : List Tk} (h : rdW false L = .inr (t, m, M)) (hL : ∀ x ∈ L, TkOK 4096 x) : t.size = m ∧ t.May (fun u => alF u = 0) := by
  have hs := (rd_size _ 0 (by omega) _ _ _ _ _ _ _ _ _ h).2.1 rfl
  obtain ⟨_, i2, i3, _⟩ := rd_may _ 0 (by omega) _ _ _ _ _ _ _ _ h (fun x hx => tkG_of (hL x hx)) (by omega)
  obtain ⟨j1, j2⟩ := i3 rfl
  exact ⟨by omega, by omega, by omega, j1.1, j1.2⟩
end Go.Proofs.YtmlacmoembjeoaaGreatDoor
namespace Go.Proofs.YtmlacmoembjeoaaGreatDoor
open Go
set_option linter.unusedVariables false
/-- With these bytes no number goes on. -/
def Stop (t : List Int) : Prop := ∀ c r, t = c :: r → ∀ q, afterS q c = 9
theorem stop_nil : Stop [] := fun c r h => by cases h
theorem stop_of {c : Int} (h : c = 32 ∨ c = 9 ∨ c = 10 ∨ c = 13 ∨ c = 44 ∨ c = 93) (r : List Int) : Stop (c :: r) := by
  intro c' r' e q
  cases e
  have hd : isD c = false := by rcases h with rfl | rfl | rfl | rfl | rfl | rfl <;> decide
  have h1 : afMinus c = 9 := by rcases h with rfl | rfl | rfl | rfl | rfl | rfl <;> decide
  have h2 : afWhole c = 9 := by rcases h with rfl | rfl | rfl | rfl | rfl | rfl <;> decide
  have h3 : afPart c = 9 := by rcases h with rfl | rfl | rfl | rfl | rfl | rfl <;> decide
  have h4 : ¬ c = 45 := by omega
  have h5 : ¬ c = 43 := by omega
  unfold afterS
  rw [hd, h1, h2, h3]
  simp [h4, h5]
theorem nu_join (t : List Int) (hs : Stop t) (l : List Int) : ∀ k q m, (nuF l k q).1 ≤ k + m → nuF (l.take m ++ t) k q = nuF l k q := by
  have ht : ∀ k q, nuF t k q = (k, q) := fun k q => by
    rcases t with _ | ⟨c, r⟩
    · rfl
    · rw [nuF, if_pos (hs c r rfl q)]
  induction l with
  | nil => intro k q m h; rw [List.take_nil, List.nil_append]; exact ht k q
  | cons c l ih =>
    intro k q m h
    by_cases h9 : afterS q c = 9
    · have e : nuF (c :: l) k q = (k, q) := by rw [nuF, if_pos h9]
      rcases m with _ | m
      · rw [List.take_zero, List.nil_append, e]; exact ht k q
      · rw [List.take_succ_cons, List.cons_append, e, nuF, if_pos h9]
    · rw [nuF, if_neg h9] at h
      have hb := (nu_bounds l (k + 1) (afterS q c)).1
      obtain ⟨m, rfl⟩ : ∃ m', m = m' + 1 := ⟨m - 1, by omega⟩
      rw [List.take_succ_cons, List.cons_append, nuF, if_neg h9, nuF, if_neg h9]
      exact ih _ _ _ (by omega)
/-- A TOKEN STAYS, where it is cut off behind it or where a byte comes that goes on with none. -/
theorem tok_join {b : List Int} (h0 : b ≠ []) {p k : Nat} (t : List Int) (hs : Stop t) (h : (tokR b p).2.1 = 0) (hk : (tokR b p).1.to ≤ p + k) : tokR (b.take k ++ t) p = tokR b p := by
  have hb := ((tok_bounds h0 p).1 h).2.1
  obtain ⟨e1, e2⟩ := head_on h0 (k := k) (by omega) t
  unfold tokR at *
  rw [e1, e2]
  by_cases h1 : signN (b.getD 0 0) ≠ 0
  · rw [if_pos h1, if_pos h1]
  rw [if_neg h1] at h hk ⊢
  rw [if_neg h1]
  by_cases h2 : b.getD 0 0 = 34
  · rw [if_pos h2] at h hk ⊢
    rw [if_pos h2]
    have hk' : (strL (b.drop 1) (p + 1) r0).2.1 ≤ p + k := hk
    have hb' := (str_bounds (b.drop 1) (p + 1) r0).1 h
    rw [str_local_ok t (b.drop 1) (p + 1) (k - 1) r0 r0_q h (by omega)]
  rw [if_neg h2] at h hk ⊢
  rw [if_neg h2]
  by_cases h3 : b.getD 0 0 = 45 ∨ isD (b.getD 0 0) = true
  · rw [if_pos h3] at h hk ⊢
    rw [if_pos h3]
    have he := (nuT_why b p).1 h
    have hk' : (nuF b 0 0).1 ≤ k := by
      unfold nuT at hk
      rw [if_pos he] at hk
      have hk2 : p + (nuF b 0 0).1 ≤ p + k := hk
      omega
    have hl := (nu_bounds b 0 0).2
    have e := nu_join t hs b 0 0 k (by omega)
    unfold nuT
    rw [e, if_pos he, if_pos he, List.take_append_of_le_length (by rw [List.length_take]; omega), List.take_take, Nat.min_eq_left (by omega)]
  rw [if_neg h3] at h hk ⊢
  rw [if_neg h3]
  by_cases h4 : b.getD 0 0 = 116
  · rw [if_pos h4] at h hk ⊢; rw [if_pos h4]; exact wrdT_local_ok t h hk
  rw [if_neg h4] at h hk ⊢
  rw [if_neg h4]
  by_cases h5 : b.getD 0 0 = 102
  · rw [if_pos h5] at h hk ⊢; rw [if_pos h5]; exact wrdT_local_ok t h hk
  rw [if_neg h5] at h hk ⊢
  rw [if_neg h5]
  by_cases h6 : b.getD 0 0 = 110
  · rw [if_pos h6] at h hk ⊢; rw [if_pos h6]; exact wrdT_local_ok t h hk
  rw [if_neg h6, if_neg h6]
theorem gap_app (g t : List Int) (h : ∀ c ∈ g, isGap c = true) : gapN (g ++ t) = g.length + gapN t := by
  induction g with
  | nil => simp
  | cons c g ih =>
    rw [List.cons_append, gapN, if_pos (h c List.mem_cons_self), ih fun x hx => h x (List.mem_cons_of_mem _ hx), List.length_cons]
    omega
theorem gap_left (b t : List Int) : gapN b < b.length → gapN (b ++ t) = gapN b := by
  induction b with
  | nil => intro h; simp [gapN] at h
  | cons c b ih =>
    intro h
    rw [List.cons_append, gapN, gapN]
    rw [gapN] at h
    by_cases hc : isGap c = true
    · rw [if_pos hc] at h
      rw [if_pos hc, if_pos hc, ih (by simpa using h)]
    · rw [if_neg hc, if_neg hc]
theorem gap_only {b : List Int} (h : b.drop (gapN b) = []) : ∀ c ∈ b, isGap c = true := by
  intro c hc
  obtain ⟨i, hi, rfl⟩ := List.getElem_of_mem hc
  have hl : b.length ≤ gapN b := by
    have := congrArg List.length h
    rw [List.length_drop, List.length_nil] at this
    omega
  have := gap_all b i (by omega)
  rw [List.getD_eq_getElem?_getD, List.getElem?_eq_getElem hi] at this
  exact this
/-- Gaps ahead. -/
theorem lex_gaps (g t : List Int) (p : Nat) (h : ∀ c ∈ g, isGap c = true) : lexA (g ++ t) p = lexA t (p + g.length) := by
  have e1 := gap_app g t h
  have e2 : (g ++ t).drop (gapN (g ++ t)) = t.drop (gapN t) := by rw [e1, ← List.drop_drop, List.drop_left]
  have e3 : p + gapN (g ++ t) = p + g.length + gapN t := by omega
  by_cases h1 : t.drop (gapN t) = []
  · rw [lex_end (by rw [e2]; exact h1), lex_end h1]
  by_cases h2 : (tokR (t.drop (gapN t)) (p + g.length + gapN t)).2.1 = 0
  · have hb := (tok_bounds h1 (p + g.length + gapN t)).1 h2
    rw [lex_tok (by rw [e2]; exact h1) (by rw [e2, e3]; exact h2), lex_tok h1 h2, e2, e3]
    have e4 : (g ++ t).drop ((tokR (t.drop (gapN t)) (p + g.length + gapN t)).1.to - p) = t.drop ((tokR (t.drop (gapN t)) (p + g.length + gapN t)).1.to - (p + g.length)) := by
      rw [show (tokR (t.drop (gapN t)) (p + g.length + gapN t)).1.to - p = g.length + ((tokR (t.drop (gapN t)) (p + g.length + gapN t)).1.to - (p + g.length)) by omega, ← List.drop_drop, List.drop_left]
    rw [e4]
  · rw [lex_bad (by rw [e2]; exact h1) (by rw [e2, e3]; exact h2), lex_bad h1 h2, e2, e3]
/-- BYTES ONE BEHIND THE OTHER. -/
theorem lex_join (t : List Int) (hs : Stop t) (x : List Int) (p : Nat) : (lexA x p).2.1 = 0 → lexA (x ++ t) p = ((lexA x p).1 ++ (lexA t (p + x.length)).1, (lexA t (p + x.length)).2) := by
  induction x, p using lex_ind with
  | nil b p h =>
    intro _
    rw [lex_gaps b t p (gap_only h), lex_end h]
    rfl
  | bad b p h h2 => intro e; rw [lex_bad h h2] at e; exact absurd e h2
  | tok b p h h2 ih =>
    intro e
    have hgl := drop_lt h
    have hb := (tok_bounds h (p + gapN b)).1 h2
    rw [lex_tok h h2] at e ⊢
    have eg := gap_left b t hgl
    have ed : (b ++ t).drop (gapN b) = b.drop (gapN b) ++ t := List.drop_append_of_le_length (by omega)
    have et := tok_join h (p := p + gapN b) (k := (b.drop (gapN b)).length) t hs h2 hb.2.2.1
    rw [List.take_length] at et
    rw [List.length_drop] at hb
    have ed2 : (b ++ t).drop ((tokR (b.drop (gapN b)) (p + gapN b)).1.to - p) = b.drop ((tokR (b.drop (gapN b)) (p + gapN b)).1.to - p) ++ t := List.drop_append_of_le_length (by omega)
    have hne : (b ++ t).drop (gapN (b ++ t)) ≠ [] := by rw [eg, ed]; simp [h]
    rw [lex_tok hne (by rw [eg, ed, et]; exact h2), eg, ed, et, ed2, ih e]
    have el : (tokR (b.drop (gapN b)) (p + gapN b)).1.to + (b.drop ((tokR (b.drop (gapN b)) (p + gapN b)).1.to - p)).length = p + b.length := by rw [List.length_drop]; omega
    rw [el]
    rfl
/-- A token elsewhere. -/
def shT (q : Nat) (t : Tk) : Tk := ⟨t.kind, t.frm + q, t.to + q, t.txt⟩
theorem brk_shift (b : List Int) (p q : Nat) (f : Bool) : (brkR b (p + q) f).1 = (brkR b p f).1 := by
  unfold brkR
  repeat' split
  all_goals rfl
theorem str_shift (b : List Int) (q : Nat) : ∀ (p : Nat) (s : RS), (strL b (p + q) s).1 = (strL b p s).1 ∧ (strL b (p + q) s).2.2.1 = (strL b p s).2.2.1 ∧ ((strL b p s).2.2.1 = 0 → (strL b (p + q) s).2.1 = (strL b p s).2.1 + q) := by
  induction b using text_ind with
  | nil => intro p s; rw [str_nil, str_nil]; exact ⟨rfl, rfl, fun h => absurd h (by simp)⟩
  | good b h0 h ih =>
    intro p s
    by_cases h5 : (takeR s (valB b)).q = 5
    · rw [str_all h0 h h5, str_all h0 h h5]; exact ⟨rfl, rfl, fun _ => by simp; omega⟩
    by_cases h6 : (takeR s (valB b)).q = 6
    · rw [str_wrong h0 h h6, str_wrong h0 h h6]; exact ⟨rfl, rfl, fun h => absurd h (by simp)⟩
    rw [str_on h0 h h5 h6, str_on h0 h h5 h6, show p + q + lenB b = p + lenB b + q by omega]
    exact ih _ _
  | bad b h0 h =>
    intro p s
    rw [str_bad h0 h, str_bad h0 h]
    refine ⟨rfl, brk_shift b p q _, fun e => ?_⟩
    exfalso
    have hw' : (brkR b p (s.q == 0)).1 = 0 := e
    unfold brkR at hw'
    revert hw'
    repeat' split
    all_goals simp
theorem wrdT_shift (kind : Nat) (w b : List Int) (p q : Nat) : (wrdT kind w b (p + q)).2.1 = (wrdT kind w b p).2.1 ∧ ((wrdT kind w b p).2.1 = 0 → (wrdT kind w b (p + q)).1 = shT q (wrdT kind w b p).1) := by
  unfold wrdT
  by_cases h : (wrdF w b 0).1 = 0
  · rw [if_pos h, if_pos h]; refine ⟨rfl, fun _ => ?_⟩; simp [shT]; omega
  · rw [if_neg h, if_neg h]; exact ⟨rfl, fun e => absurd e h⟩
theorem tok_shift (b : List Int) (p q : Nat) : (tokR b (p + q)).2.1 = (tokR b p).2.1 ∧ ((tokR b p).2.1 = 0 → (tokR b (p + q)).1 = shT q (tokR b p).1) := by
  unfold tokR
  by_cases h1 : signN (b.getD 0 0) ≠ 0
  · rw [if_pos h1, if_pos h1]; refine ⟨rfl, fun _ => ?_⟩; simp [shT]; omega
  rw [if_neg h1, if_neg h1]
  by_cases h2 : b.getD 0 0 = 34
  · rw [if_pos h2, if_pos h2]
    obtain ⟨s1, s2, s3⟩ := str_shift (b.drop 1) q (p + 1) r0
    rw [show p + 1 + q = p + q + 1 by omega] at s1 s2 s3
    refine ⟨s2, fun e => ?_⟩
    have := s3 e
    simp only [shT]
    rw [s1, this]
  rw [if_neg h2, if_neg h2]
  by_cases h3 : b.getD 0 0 = 45 ∨ isD (b.getD 0 0) = true
  · rw [if_pos h3, if_pos h3]
    unfold nuT
    by_cases h : endS (nuF b 0 0).2 = true
    · rw [if_pos h, if_pos h]; refine ⟨rfl, fun _ => ?_⟩; simp [shT]; omega
    · rw [if_neg h, if_neg h]
      by_cases h' : (nuF b 0 0).1 = b.length
      · rw [if_pos h', if_pos h']; exact ⟨rfl, fun e => absurd e (by simp)⟩
      · rw [if_neg h', if_neg h']; exact ⟨rfl, fun e => absurd e (by simp)⟩
  rw [if_neg h3, if_neg h3]
  by_cases h4 : b.getD 0 0 = 116
  · rw [if_pos h4, if_pos h4]; exact wrdT_shift _ _ _ _ _
  rw [if_neg h4, if_neg h4]
  by_cases h5 : b.getD 0 0 = 102
  · rw [if_pos h5, if_pos h5]; exact wrdT_shift _ _ _ _ _
  rw [if_neg h5, if_neg h5]
  by_cases h6 : b.getD 0 0 = 110
  · rw [if_pos h6, if_pos h6]; exact wrdT_shift _ _ _ _ _
  rw [if_neg h6, if_neg h6]
  exact ⟨rfl, fun e => absurd e (by simp)⟩
/-- THE SAME BYTES AT ANOTHER PLACE. -/
theorem lex_shift (q : Nat) (b : List Int) (p : Nat) : (lexA b (p + q)).1 = (lexA b p).1.map (shT q) ∧ (lexA b (p + q)).2.1 = (lexA b p).2.1 := by
  induction b, p using lex_ind with
  | nil b p h => rw [lex_end h, lex_end h]; exact ⟨rfl, rfl⟩
  | bad b p h h2 =>
    obtain ⟨s1, _⟩ := tok_shift (b.drop (gapN b)) (p + gapN b) q
    rw [lex_bad h h2, lex_bad h (by rw [show p + q + gapN b = p + gapN b + q by omega, s1]; exact h2), show p + q + gapN b = p + gapN b + q by omega]
    exact ⟨rfl, s1⟩
  | tok b p h h2 ih =>
    obtain ⟨s1, s2⟩ := tok_shift (b.drop (gapN b)) (p + gapN b) q
    have hb := (tok_bounds h (p + gapN b)).1 h2
    rw [lex_tok h h2, lex_tok h (by rw [show p + q + gapN b = p + gapN b + q by omega, s1]; exact h2), show p + q + gapN b = p + gapN b + q by omega, s2 h2]
    have e1 : (shT q (tokR (b.drop (gapN b)) (p + gapN b)).1).to = (tokR (b.drop (gapN b)) (p + gapN b)).1.to + q := rfl
    rw [e1, show (tokR (b.drop (gapN b)) (p + gapN b)).1.to + q - (p + q) = (tokR (b.drop (gapN b)) (p + gapN b)).1.to - p by omega, ih.1, ih.2]
    exact ⟨rfl, rfl⟩
end Go.Proofs.YtmlacmoembjeoaaGreatDoor
namespace Go.Proofs.YtmlacmoembjeoaaGreatDoor
open Go.RowKit
set_option linter.unusedVariables false
theorem read_ok {free : Bool} {zs : List Int} {t : Tr} {n : Nat} (h : rdW free (lexW zs).1 = .inr (t, n, [])) (hf : (lexW zs).2.1 = 0) : readA (newS free) zs = (endS' free n t, 0, (lexW zs).2.2) := by
  have hw := read_whole free (lexW zs).1
  rw [h] at hw
  unfold readA
  simp only at hw
  rw [hw, if_neg (by simp), if_neg (fun q => by have := q.2; simp [endS'] at this), hf]
  rfl
theorem read_back {free : Bool} {zs : List Int} (h : (readA (newS free) zs).2.1 = 0) : ∃ t n, rdW free (lexW zs).1 = .inr (t, n, []) ∧ (lexW zs).2.1 = 0 ∧ (readA (newS free) zs).1.root = t := by
  have hw := read_whole free (lexW zs).1
  rcases hr : rdW free (lexW zs).1 with ⟨e, _ | ⟨t, M⟩⟩ | ⟨t, n, _ | ⟨c, M⟩⟩
  · rw [hr] at hw
    simp only at hw
    exfalso
    unfold readA at h
    rw [if_neg (by rw [hw.1]; simp)] at h
    by_cases hf : (lexW zs).2.1 = 0
    · rw [if_pos ⟨hf, hw.2⟩] at h
      simp at h
    · rw [if_neg (fun q => hf q.1)] at h
      simp only at h
      omega
  · rw [hr] at hw
    simp only at hw
    exfalso
    unfold readA at h
    rw [if_pos (by rw [hw.2]; exact hw.1), hw.2] at h
    exact hw.1 h
  · rw [hr] at hw
    simp only at hw
    unfold readA at h ⊢
    rw [hw, if_neg (by simp), if_neg (fun q => by have := q.2; simp [endS'] at this)] at h ⊢
    simp only at h
    exact ⟨t, n, rfl, by omega, rfl⟩
  · rw [hr] at hw
    simp only at hw
    exfalso
    unfold readA at h
    rw [if_pos (by rw [hw]; simp), hw] at h
    simp at h
theorem par_ok {zs : List Int} (h : (parA zs).2.1 = 0) : ∃ n, rdW false (lexW zs).1 = .inr ((parA zs).1, n, []) ∧ (lexW zs).2.1 = 0 ∧ (parA zs).2.2 = 0 := by
  unfold parA at h ⊢
  by_cases h0 : (readA (newS false) zs).2.1 ≠ 0
  · rw [if_pos h0] at h; exact absurd h h0
  rw [if_neg h0]
  obtain ⟨t, n, h1, h2, h3⟩ := read_back (by simpa using h0)
  exact ⟨n, by rw [h3]; exact h1, h2, rfl⟩
theorem par_of {zs : List Int} {t : Tr} {n : Nat} (h : rdW false (lexW zs).1 = .inr (t, n, [])) (hf : (lexW zs).2.1 = 0) : parA zs = (t, 0, 0) := by
  unfold parA
  rw [read_ok h hf, if_neg (by simp)]
  rfl
/-- A TREE THAT IS READ MAY BE, AND IS OF A VALID TEXT. -/
theorem par_right {zs : List Int} (h : (parA zs).2.1 = 0) : (parA zs).2.2 = 0 ∧ (parA zs).1.May (fun u => alF u = 0) ∧ (readA (newS true) zs).2.1 = 0 := by
  obtain ⟨n, h1, h2, h3⟩ := par_ok h
  refine ⟨h3, (rdW_may h1 (lexW_text zs)).2, ?_⟩
  rw [read_ok (free := true) (rd_free _ 0 (by omega) _ _ _ _ _ _ _ _ h1) h2]
theorem lex_zero {zs : List Int} (h : (lexW zs).2.1 = 0) (hl : zs.length ≤ 4096) : lexW zs = lexA zs 0 := by unfold lexW; rw [if_pos hl]
end Go.Proofs.YtmlacmoembjeoaaGreatDoor
namespace Go.Proofs.YtmlacmoembjeoaaGreatDoor
open Go.RowKit
set_option linter.unusedVariables false
theorem gap_take (b : List Int) : (b.take (gapN b)).drop (gapN (b.take (gapN b))) = [] := by
  have h : ∀ c ∈ b.take (gapN b), isGap c = true := by
    intro c hc
    obtain ⟨i, hi, rfl⟩ := List.getElem_of_mem hc
    rw [List.length_take] at hi
    have := gap_all b i (by omega)
    rw [List.getElem_take]
    rw [List.getD_eq_getElem?_getD, List.getElem?_eq_getElem (by omega)] at this
    exact this
  have e := gap_app (b.take (gapN b)) [] h
  rw [List.append_nil] at e
  rw [e]
  apply List.drop_eq_nil_of_le
  simp [gapN]
/-- BYTES ARE CUT WHERE A TOKEN BEGINS. -/
theorem lex_cut (b : List Int) (p : Nat) : ∀ (A : List Tk) (c : Tk) (B : List Tk), (lexA b p).1 = A ++ c :: B → (lexA b p).2.1 = 0 →
    p ≤ c.frm ∧ c.frm ≤ p + b.length ∧ (lexA (b.take (c.frm - p)) p).1 = A ∧ (lexA (b.take (c.frm - p)) p).2.1 = 0 ∧ lexA (b.drop (c.frm - p)) c.frm = (c :: B, (lexA b p).2) := by
  induction b, p using lex_ind with
  | nil b p h => intro A c B e; rw [lex_end h] at e; simp at e
  | bad b p h h2 => intro A c B e; rw [lex_bad h h2] at e; simp at e
  | tok b p h h2 ih =>
    intro A c B e e0
    have hgl := drop_lt h
    have hb := (tok_bounds h (p + gapN b)).1 h2
    have hl := lex_tok h h2
    rw [hl] at e e0
    simp only at e e0
    rcases A with _ | ⟨a, A⟩
    · simp only [List.nil_append, List.cons.injEq] at e
      obtain ⟨e1, e2⟩ := e
      have hf : c.frm = p + gapN b := by rw [← e1]; exact hb.1
      have hs : c.frm - p = gapN b := by omega
      rw [hs, hf]
      refine ⟨by omega, by omega, ?_, ?_, ?_⟩
      · rw [lex_end (gap_take b)]
      · rw [lex_end (gap_take b)]
      · have hg : ∀ c ∈ b.take (gapN b), isGap c = true := gap_only (gap_take b)
        have := lex_gaps (b.take (gapN b)) (b.drop (gapN b)) p hg
        rw [List.take_append_drop, List.length_take, Nat.min_eq_left (by omega)] at this
        rw [← this, hl, e2, e1]
    · simp only [List.cons_append, List.cons.injEq] at e
      obtain ⟨e1, e2⟩ := e
      rw [List.length_drop] at hb
      obtain ⟨i1, i2, i3, i4, i5⟩ := ih A c B e2 e0
      rw [List.length_drop] at i2
      obtain ⟨T, hT⟩ : ∃ T, (tokR (b.drop (gapN b)) (p + gapN b)).1.to = T := ⟨_, rfl⟩
      rw [hT] at hb i1 i2 i3 i4 i5 e0
      have eg : gapN (b.take (c.frm - p)) = gapN b := by
        have := gap_local [] b (c.frm - p) (by omega) hgl
        rwa [List.append_nil] at this
      have ed : (b.take (c.frm - p)).drop (gapN b) = (b.drop (gapN b)).take (c.frm - p - gapN b) := by rw [List.drop_take]
      have et := tok_join h (p := p + gapN b) (k := c.frm - p - gapN b) [] stop_nil h2 (by rw [hT]; omega)
      rw [List.append_nil] at et
      have hne : (b.take (c.frm - p)).drop (gapN (b.take (c.frm - p))) ≠ [] := by
        rw [eg, ed]
        have := take_ne (b := b.drop (gapN b)) [] (k := c.frm - p - gapN b) (by omega) h
        rwa [List.append_nil] at this
      have hl2 := lex_tok (p := p) hne (by rw [eg, ed, et]; exact h2)
      rw [eg, ed, et, hT] at hl2
      have ed2 : (b.take (c.frm - p)).drop (T - p) = (b.drop (T - p)).take (c.frm - T) := by rw [List.drop_take]; congr 1; omega
      rw [ed2] at hl2
      refine ⟨by omega, by omega, ?_, ?_, ?_⟩
      · rw [hl2]; simp only; rw [i3, e1]
      · rw [hl2]; exact i4
      · rw [List.drop_drop, show T - p + (c.frm - T) = c.frm - p by omega] at i5
        rw [i5, hl, hT]
/-- GAPS BETWEEN TOKENS TURN NOTHING OF THE TREE. -/
theorem par_gaps {zs : List Int} {A : List Tk} {c : Tk} {B : List Tk} {g : Int} (hp : (parA zs).2.1 = 0) (hL : (lexW zs).1 = A ++ c :: B) (hl : zs.length < 4096) (hg : g = 32 ∨ g = 9 ∨ g = 10 ∨ g = 13) :
    c.frm ≤ zs.length ∧ parA (zs.take c.frm ++ g :: zs.drop c.frm) = ((parA zs).1, 0, 0) := by
  obtain ⟨n, h1, f1, _⟩ := par_ok hp
  have ex := lex_zero f1 (by omega)
  rw [ex] at hL f1
  obtain ⟨_, i2, i3, i4, i5⟩ := lex_cut zs 0 A c B hL f1
  rw [Nat.sub_zero] at i3 i4 i5
  rw [Nat.zero_add] at i2
  refine ⟨i2, ?_⟩
  have hW : lexW (zs.take c.frm ++ g :: zs.drop c.frm) = lexA (zs.take c.frm ++ g :: zs.drop c.frm) 0 := by unfold lexW; rw [if_pos (by simp; omega)]
  have j := lex_join (g :: zs.drop c.frm) (stop_of (by omega) _) (zs.take c.frm) 0 i4
  have gg : isGap g = true := by rcases hg with rfl | rfl | rfl | rfl <;> rfl
  have k : lexA (g :: zs.drop c.frm) (0 + (zs.take c.frm).length) = lexA (zs.drop c.frm) (c.frm + 1) := by
    have := lex_gaps [g] (zs.drop c.frm) (0 + (zs.take c.frm).length) (fun x hx => by simp at hx; rw [hx]; exact gg)
    rw [List.length_take, Nat.min_eq_left i2, Nat.zero_add] at this
    rw [List.length_take, Nat.min_eq_left i2, Nat.zero_add]
    exact this
  have sh := lex_shift 1 (zs.drop c.frm) c.frm
  rw [i5] at sh
  simp only at sh
  have eL : (lexW (zs.take c.frm ++ g :: zs.drop c.frm)).1 = A ++ (c :: B).map (shT 1) := by rw [hW, j, k, sh.1, i3]
  have eF : (lexW (zs.take c.frm ++ g :: zs.drop c.frm)).2.1 = 0 := by rw [hW, j, k]; simp only; rw [sh.2]; exact f1
  have hK : KT (lexW zs).1 (lexW (zs.take c.frm ++ g :: zs.drop c.frm)).1 := by
    rw [eL, ex, hL]
    unfold KT
    rw [List.map_append, List.map_append, List.map_map]
    rfl
  have hlen : (lexW zs).1.length = (lexW (zs.take c.frm ++ g :: zs.drop c.frm)).1.length := by have := congrArg List.length hK; simpa using this
  refine par_of (n := n) ?_ eF
  unfold rdW at h1 ⊢
  obtain ⟨M, q, r⟩ := rd_more _ 0 (by omega) _ _ _ _ _ _ _ _ _ h1 (2 * (lexW (zs.take c.frm ++ g :: zs.drop c.frm)).1.length + 1) (lexW (zs.take c.frm ++ g :: zs.drop c.frm)).1 [] (by rw [hlen]; omega) hK
  obtain rfl : M = [] := by unfold KT at q; simpa using q.symm
  rw [List.append_nil] at r
  exact r
end Go.Proofs.YtmlacmoembjeoaaGreatDoor
namespace Go.Proofs.YtmlacmoembjeoaaGreatDoor
open Go
set_option linter.unusedVariables false

/-- How many operations are yet to come. -/
def unl (n : Nat) (listed : Array Bool) : Nat := ((List.range n).filter fun i => !listed.getD i true).length
theorem filter_lt {p q : Nat → Bool} (hpq : ∀ x, q x = true → p x = true) : ∀ (l : List Nat) (i : Nat), i ∈ l → p i = true → q i = false → (l.filter q).length < (l.filter p).length := by
  have hle : ∀ l : List Nat, (l.filter q).length ≤ (l.filter p).length := by
    intro l
    induction l with
    | nil => simp
    | cons x l ih =>
      by_cases hq : q x = true
      · rw [List.filter_cons_of_pos hq, List.filter_cons_of_pos (hpq x hq)]; simp only [List.length_cons]; omega
      · rw [List.filter_cons_of_neg hq]
        by_cases hp : p x = true
        · rw [List.filter_cons_of_pos hp]; simp only [List.length_cons]; omega
        · rw [List.filter_cons_of_neg hp]; exact ih
  intro l
  induction l with
  | nil => intro i h; cases h
  | cons x l ih =>
    intro i hi hp hq
    rcases List.mem_cons.1 hi with rfl | hi
    · rw [List.filter_cons_of_neg (by rw [hq]; simp), List.filter_cons_of_pos hp]
      have := hle l
      simp only [List.length_cons]; omega
    · have h1 := ih i hi hp hq
      by_cases hqx : q x = true
      · rw [List.filter_cons_of_pos hqx, List.filter_cons_of_pos (hpq x hqx)]; simp only [List.length_cons]; omega
      · rw [List.filter_cons_of_neg hqx]
        by_cases hpx : p x = true
        · rw [List.filter_cons_of_pos hpx]; simp only [List.length_cons]; omega
        · rw [List.filter_cons_of_neg hpx]; exact h1
theorem unl_set {n i : Nat} {listed : Array Bool} (hi : i < n) (hl : listed.getD i true = false) : unl n (listed.setIfInBounds i true) < unl n listed := by
  have hlt : i < listed.size := by
    rcases Nat.lt_or_ge i listed.size with h | h
    · exact h
    · simp [Array.getD, Nat.not_lt.2 h] at hl
  refine filter_lt (fun x hx => ?_) _ i (List.mem_range.2 hi) (by rw [hl]; rfl) (by simp [hlt])
  by_cases hxi : i = x
  · subst hxi; simp [hlt] at hx
  · rw [getD_set_ne true hxi] at hx; exact hx
/-- A REGION BY AN INVARIANT over what has been done. -/
theorem wpAny_inv {P : Program} {md : Region.Mode} {ops : Array Oper} {Q : Exit → Act → World → Prop} (I : Array Bool → Act → World → Prop)
    (hs : ∀ listed a w i, I listed a w → i ∈ Region.ready md ops listed → wpOp P ops Q i (I (listed.setIfInBounds i true)) a w)
    (he : ∀ listed a w, I listed a w → Region.ready md ops listed = [] → Q .normal a w) :
    ∀ (fuel : Nat) (listed : Array Bool) (a : Act) (w : World), unl ops.size listed ≤ fuel → I listed a w → wpAny P md ops Q fuel listed a w := by
  intro fuel
  induction fuel with
  | zero =>
    intro listed a w hf hI
    have hr : Region.ready md ops listed = [] := by
      cases hr : Region.ready md ops listed with
      | nil => rfl
      | cons i l =>
        obtain ⟨h1, o, h2, _⟩ := mem_ready.1 (show i ∈ Region.ready md ops listed by rw [hr]; exact List.mem_cons_self)
        have := unl_set (Array.getElem?_eq_some_iff.1 h2).1 h1
        omega
    exact ⟨hr, he listed a w hI hr⟩
  | succ fuel ih =>
    intro listed a w hf hI
    refine ⟨fun hr => he listed a w hI hr, fun i hi => ?_⟩
    obtain ⟨h1, o, h2, _⟩ := mem_ready.1 hi
    have := unl_set (Array.getElem?_eq_some_iff.1 h2).1 h1
    exact wpOp_mono (fun a' w' h => ih _ a' w' (by omega) h) (hs listed a w i hI hi)
end Go.Proofs.YtmlacmoembjeoaaGreatDoor
namespace Go.Proofs.YtmlacmoembjeoaaGreatDoor
open Go
set_option linter.unusedVariables false

/-- A frame of n slots, slot k holds u k. -/
def frm (n : Nat) (u : Nat → Value) (d : List Deferred) : Act := { tmps := ((List.range n).map u).toArray, defers := d }
def upd (u : Nat → Value) (k : Nat) (v : Value) : Nat → Value := fun j => if j = k then v else u j
theorem upd_ne (u : Nat → Value) {k j : Nat} (v : Value) (h : j ≠ k) : upd u k v j = u j := if_neg h
theorem frm_eval {n k : Nat} {u : Nat → Value} {d : List Deferred} (h : k < n) : (frm n u d).eval (.tmp k) = u k := by
  simp [frm, Act.eval, h]
theorem frm_put {n k : Nat} {u : Nat → Value} {d : List Deferred} {v : Value} : (frm n u d).put (some k) v = frm n (upd u k v) d := by
  have h : (((List.range n).map u).toArray).setIfInBounds k v = ((List.range n).map (upd u k v)).toArray := by
    apply Array.ext
    · simp
    · intro i h1 h2
      by_cases hik : i = k
      · subst hik; simp [upd]
      · simp [upd, hik, Ne.symm hik]
  show Act.mk (Array.setIfInBounds ((List.range n).map u).toArray k v) d = Act.mk _ d
  rw [h]
theorem frm_of (a : Act) : a = frm a.tmps.size (fun k => a.tmps.getD k undef) a.defers := by
  cases a with
  | mk t d =>
    have h : t = ((List.range t.size).map (fun k => t.getD k undef)).toArray := by
      apply Array.ext
      · simp
      · intro i h1 h2
        simp [h1]
    show Act.mk t d = Act.mk _ d
    rw [← h]
theorem wpOp_of {P : Program} {ops : Array Oper} {Q : Exit → Act → World → Prop} {i : Nat} {o : Oper} {a : Act} {w : World} {K : Act → World → Prop} (ho : ops[i]? = some o)
    (h : if Region.wanted o (yielded ops a.tmps) = true then Oper.wp P o a w K Q else K (a.put o.dst undef) w) : wpOp P ops Q i K a w := by
  unfold wpOp
  simp only [ho]
  split at h
  · rename_i hw; rw [if_pos hw]; exact .inl h
  · rename_i hw; rw [if_neg hw]; exact h
theorem wpOp_run {P : Program} {ops : Array Oper} {Q : Exit → Act → World → Prop} {i : Nat} {o : Oper} {a : Act} {w w' : World} {v : Value} {K : Act → World → Prop} (ho : ops[i]? = some o) (hg : o.guard = none)
    (hr : (execOp a.eval o).run P w = .ok (.value v) w') (h : K (a.put o.dst v) w') : wpOp P ops Q i K a w := by
  refine wpOp_of ho ?_
  rw [if_pos (by simp [Region.wanted, hg])]
  unfold Oper.wp
  rw [hr]
  exact h
theorem wpOp_skip {P : Program} {ops : Array Oper} {Q : Exit → Act → World → Prop} {i : Nat} {o : Oper} {a : Act} {w w' : World} {K : Act → World → Prop} (ho : ops[i]? = some o) (hg : o.guard = none)
    (hr : (execOp a.eval o).run P w = .ok .skip w') (h : K (a.put o.dst undef) w') : wpOp P ops Q i K a w := by
  refine wpOp_of ho ?_
  rw [if_pos (by simp [Region.wanted, hg])]
  unfold Oper.wp
  rw [hr]
  exact h
/-- What must have been done ahead of an operation. -/
def needs (md : Region.Mode) (ops : Array Oper) (i : Nat) : List Nat := match ops[i]? with | none => [] | some o => ((o.after.toList.filter (Region.binds md)).map (·.on))
theorem ready_needs {md : Region.Mode} {ops : Array Oper} {i : Nat} {listed : Array Bool} {l : List Nat} (h : i ∈ Region.ready md ops listed) (hn : needs md ops i = l) : ∀ j ∈ l, listed.getD j false = true := by
  obtain ⟨_, o, h2, h3⟩ := mem_ready.1 h
  intro j hj
  subst hn
  simp only [needs, h2, List.mem_map, List.mem_filter] at hj
  obtain ⟨e, ⟨he, hb⟩, rfl⟩ := hj
  exact h3 e (by simpa using he) hb
theorem ready_lt {md : Region.Mode} {ops : Array Oper} {i : Nat} {listed : Array Bool} (h : i ∈ Region.ready md ops listed) : i < ops.size := by
  obtain ⟨_, o, h2, _⟩ := mem_ready.1 h
  exact (Array.getElem?_eq_some_iff.1 h2).1
theorem ready_not {md : Region.Mode} {ops : Array Oper} {i : Nat} {listed : Array Bool} (h : i ∈ Region.ready md ops listed) : listed.getD i false = false := by
  have h1 := (mem_ready.1 h).1
  rcases Nat.lt_or_ge i listed.size with h' | h'
  · simpa [h'] using h1
  · simp [h']
/-- Nothing is left: all has been done. -/
theorem ready_done {md : Region.Mode} {ops : Array Oper} {listed : Array Bool} (hr : Region.ready md ops listed = []) (hs : listed.size = ops.size) (hlow : ∀ i, i < ops.size → ∀ j ∈ needs md ops i, j < i) : ∀ i, i < ops.size → listed.getD i false = true := by
  intro i
  induction i using Nat.strongRecOn with
  | ind i ih =>
    intro hi
    cases hl : listed.getD i false with
    | true => rfl
    | false =>
      have : i ∈ Region.ready md ops listed := by
        refine mem_ready.2 ⟨by have h' : i < listed.size := by omega
                               simpa [h'] using hl, ops[i], Array.getElem?_eq_getElem hi, fun e he hb => ?_⟩
        have hm : e.on ∈ needs md ops i := by
          simp only [needs, Array.getElem?_eq_getElem hi, List.mem_map, List.mem_filter]
          exact ⟨e, ⟨by simpa using he, hb⟩, rfl⟩
        exact ih e.on (hlow i hi _ hm) (by have := hlow i hi _ hm; omega)
      rw [hr] at this
      cases this
theorem got_set {listed : Array Bool} {i j : Nat} (h : i < listed.size) : (listed.setIfInBounds i true).getD j false = if j = i then true else listed.getD j false := by
  by_cases hij : j = i
  · subst hij; simp [h]
  · rw [if_neg hij, getD_set_ne false (Ne.symm hij)]
end Go.Proofs.YtmlacmoembjeoaaGreatDoor
namespace Go.Proofs.YtmlacmoembjeoaaGreatDoor
open Go.RowKit
set_option linter.unusedVariables false
set_option maxHeartbeats 4000000 in
set_option maxRecDepth 100000 in
/-- jread.Parse of a text that is read: the tree lies in new memory. -/
theorem rparse_new (a : Option Addr) (n cap : Nat) (zs : List Int) (w : World) (hl : zs.length = n) (hb : Bytes w a zs) (hc : n ≤ cap) (hsm : n ≤ 140737488351232) (h00 : (parA zs).2.1 = 0) :
    Calls Tryz.prog 9 #[.slice a n cap] w fun e w' => ∃ D b, e = .returned (.tuple #[.agg b.arr, .agg #[.int .i64 (parA zs).2.1, .int .i64 ((parA zs).2.2 : Nat)]]) ∧ NdS (fun k => w.heap.size ≤ k ∧ k < w'.heap.size) D w' b (parA zs).1 ∧ Below w.heap.size w w' := by
  have hA1 := alloc_below w (.cells #[.int .i64 0, .int .u64 0, .bool false, .string ⟨#[]⟩, .int .i64 0, .string ⟨#[]⟩, .slice none 0 0, .slice none 0 0, .slice none 0 0] 26)
  have hA2 := alloc_below (w.alloc (.cells #[.int .i64 0, .int .u64 0, .bool false, .string ⟨#[]⟩, .int .i64 0, .string ⟨#[]⟩, .slice none 0 0, .slice none 0 0, .slice none 0 0] 26)) (.cells #[.int .i64 0, .int .i64 0] 29)
  have s1 : (w.alloc (.cells #[.int .i64 0, .int .u64 0, .bool false, .string ⟨#[]⟩, .int .i64 0, .string ⟨#[]⟩, .slice none 0 0, .slice none 0 0, .slice none 0 0] 26)).heap.size = w.heap.size + 1 := by simp
  have s2 : ((w.alloc (.cells #[.int .i64 0, .int .u64 0, .bool false, .string ⟨#[]⟩, .int .i64 0, .string ⟨#[]⟩, .slice none 0 0, .slice none 0 0, .slice none 0 0] 26)).alloc (.cells #[.int .i64 0, .int .i64 0] 29)).heap.size = w.heap.size + 2 := by simp
  have R0 : Res ((w.alloc (.cells #[.int .i64 0, .int .u64 0, .bool false, .string ⟨#[]⟩, .int .i64 0, .string ⟨#[]⟩, .slice none 0 0, .slice none 0 0, .slice none 0 0] 26)).alloc (.cells #[.int .i64 0, .int .i64 0] 29)) w.heap.size zN 0 0 :=
    ⟨(nbox_new w zN).kept hA2 (by omega), by have := blk_new (w.alloc (.cells #[.int .i64 0, .int .u64 0, .bool false, .string ⟨#[]⟩, .int .i64 0, .string ⟨#[]⟩, .slice none 0 0, .slice none 0 0, .slice none 0 0] 26)) #[.int .i64 0, .int .i64 0] 29; rwa [s1] at this⟩
  have B0 : Below w.heap.size w ((w.alloc (.cells #[.int .i64 0, .int .u64 0, .bool false, .string ⟨#[]⟩, .int .i64 0, .string ⟨#[]⟩, .slice none 0 0, .slice none 0 0, .slice none 0 0] 26)).alloc (.cells #[.int .i64 0, .int .i64 0] 29)) := hA1.trans (hA2.mono (by omega))
  have k1 : Calls Tryz.prog 17 #[] ((w.alloc (.cells #[.int .i64 0, .int .u64 0, .bool false, .string ⟨#[]⟩, .int .i64 0, .string ⟨#[]⟩, .slice none 0 0, .slice none 0 0, .slice none 0 0] 26)).alloc (.cells #[.int .i64 0, .int .i64 0] 29)) fun e w1 => ∃ g, e = .returned (.pointer (some ⟨g, 0, none⟩)) ∧ Hid (g = w.heap.size + 2 ∧ RBox w1 g false 27 none 0 0 0 zN false ∧ Below w.heap.size w w1 ∧ w1.heap.size = w.heap.size + 3 ∧ Res w1 w.heap.size zN 0 0) :=
    (new_any _).mono fun e w1 ⟨q1, q2, q3, q4⟩ => ⟨_, q1, s2, q2, B0.trans (q3.mono (by omega)), by rw [q4, s2], R0.call (q3.block _ (by omega)) (q3.block _ (by omega))⟩
  have kR : Hid (∀ w1 g, g = w.heap.size + 2 ∧ RBox w1 g false 27 none 0 0 0 zN false ∧ Below w.heap.size w w1 ∧ w1.heap.size = w.heap.size + 3 ∧ Res w1 w.heap.size zN 0 0 → Calls Tryz.prog 18 #[.pointer (some ⟨g, 0, none⟩), .slice a n cap] w1 fun e w2 => e = .returned (.agg #[.int .i64 (readA (newS false) zs).2.1, .int .i64 ((readA (newS false) zs).2.2 : Nat)]) ∧ Hid (Below w.heap.size w w2 ∧ w.heap.size + 3 ≤ w2.heap.size ∧ Res w2 w.heap.size zN 0 0 ∧ ((readA (newS false) zs).2.1 = 0 → ∃ D r free nx ao no co nodes ended, RBox w2 g free nx ao no co nodes r ended ∧ NdS (fun k => w.heap.size + 2 ≤ k ∧ k < w2.heap.size) D w2 r (readA (newS false) zs).1.root))) := fun w1 g ⟨q1, q2, q3, q4, q5⟩ =>
    (read_new false (B := w.heap.size + 2) q2 (by omega) a n cap zs hl (hb.kept q3) hc hsm).mono fun e w2 ⟨p1, p2, p3, p4⟩ => ⟨p1, q3.trans (p4.mono (by omega)), by have := p4.size; omega, q5.call (p3 _ (by omega) (by omega)) (p3 _ (by omega) (by omega)), fun h0 => by obtain ⟨lab', hj⟩ := p2 h0; exact jmx_root hj⟩
  have hP : Hid (parA zs = if (readA (newS false) zs).2.1 ≠ 0 then (zT, (readA (newS false) zs).2) else ((readA (newS false) zs).1.root, 0, 0)) := rfl
  obtain ⟨PA, hPA⟩ : ∃ PA, parA zs = PA := ⟨_, rfl⟩
  rw [hPA] at hP h00 ⊢
  have H00 : Hid (PA.2.1 = 0) := h00
  clear h00
  obtain ⟨⟨s, X, Y⟩, hRA⟩ : ∃ R, readA (newS false) zs = R := ⟨_, rfl⟩
  rw [hRA] at kR hP
  simp only at kR hP
  clear hRA hPA hl hb hc hsm hA1 hA2 s1 s2 R0 B0
  by_cases hX : X = 0
  · subst hX
    have hP' : Hid (PA = (s.root, 0, 0)) := by show _ = _; rw [hP.out]; rfl
    clear hP
    go_enter Tryz.func9, Tryz.ntmps9
    go_wp2_with (first
      | (go_at_call 17; refine k1.mono ?_; rintro e w1 ⟨g, rfl, h1⟩; clear k1; have k2 := kR.out w1 g h1.out; have hg : Hid (g = w.heap.size + 2) := h1.out.1; clear h1)
      | (go_at_call 18; refine k2.mono ?_; rintro e w2 ⟨rfl, h2⟩; clear k2; obtain ⟨D, r, free, nx, ao, no, co, nodes, ended, hR, hN⟩ := h2.out.2.2.2 (by first | rfl | trivial); have HR : Hid (NdS (fun k => w.heap.size + 2 ≤ k ∧ k < w2.heap.size) D w2 r s.root) := hN; have hA3 := alloc_below w2 (.cells #[.int .i64 0, .int .i64 (Y : Nat)] 29); have R3 : Hid (RBox (w2.alloc (.cells #[.int .i64 0, .int .i64 (Y : Nat)] 29)) g free nx ao no co nodes r ended) := hR.same (hA3.block _ hR.lt); obtain ⟨m0, m1, m2, m3, m4, m5, m6, m7, m8⟩ := R3.out.root; have X3 : Hid (Res (w2.alloc (.cells #[.int .i64 0, .int .i64 (Y : Nat)] 29)) w.heap.size zN 0 0) := h2.out.2.2.1.call (hA3.block _ (by have := h2.out.2.1; omega)) (hA3.block _ (by have := h2.out.2.1; omega)); obtain ⟨n0, n1, n2, n3, n4, n5, n6, n7, n8⟩ := X3.out.1.fields; have z0 := X3.out.1.fz 0; have z1 := X3.out.1.fz 1; have z2 := X3.out.1.fz 2; have z3 := X3.out.1.fz 3; have z4 := X3.out.1.fz 4; have z5 := X3.out.1.fz 5; have z6 := X3.out.1.fz 6; have z7 := X3.out.1.fz 7; have z8 := X3.out.1.fz 8; have y0 := X3.out.2.cell 0; have y1 := X3.out.2.cell 1; have v0 := X3.out.2.fz 0; have v1 := X3.out.2.fz 1; clear hR hN hA3))
    have F := res_put (W := w2.alloc (.cells #[.int .i64 0, .int .i64 (Y : Nat)] 29)) X3.out r 0 0
    obtain ⟨u0, u1, u2, u3, u4, u5, u6, u7, u8⟩ := F.1.1.fields
    have t0 := F.1.2.cell 0
    have t1 := F.1.2.cell 1
    refine bodyPost_ret (v := .tuple #[.agg r.arr, .agg #[.int .i64 0, .int .i64 0]]) (by simp [results, Tryz.results9, go_sem, u0, u1, u2, u3, u4, u5, u6, u7, u8, t0, t1, Nb.arr]) rfl ⟨D, r, by rw [hP'.out]; rfl, ?_, ?_⟩
    · rw [hP'.out]
      refine (HR.out.stays fun k hk => (F.2.1 k (by omega) (by omega)).trans ((alloc_below w2 _).block k hk.2)).mono fun k hk => ⟨by omega, Nat.lt_of_lt_of_le hk.2 (Nat.le_trans (alloc_below w2 (.cells #[.int .i64 0, .int .i64 (Y : Nat)] 29)).size F.2.2.size)⟩
    · have hb := h2.out.1.trans ((alloc_below w2 (.cells #[.int .i64 0, .int .i64 (Y : Nat)] 29)).mono h2.out.1.size)
      exact hb.trans F.2.2
  · exact absurd (by have := H00.out; rw [hP.out, if_pos hX] at this; exact this) hX
end Go.Proofs.YtmlacmoembjeoaaGreatDoor
namespace Go.Proofs.YtmlacmoembjeoaaGreatDoor
open Go.RowKit
set_option linter.unusedVariables false

/-- The operations of 'm, g := jread.Parse(append(append(append([]byte(nil), b[:at]...), gap), b[at:]...))'. -/
def gapOps : Array Oper := #[{ dst := some 58, op := Op.move (Operand.tmp 0), type := 22, pos := "law.go:50", after := #[], guard := none }, { dst := some 59, op := Op.move (Operand.tmp 1), type := 3, pos := "law.go:50", after := #[], guard := none }, { dst := some 60, op := Op.slice 22 (Operand.tmp 58) none (some (Operand.tmp 59)) none, type := 22, pos := "law.go:50", after := #[{ on := 0, ground := Ground.data }, { on := 1, ground := Ground.data }], guard := none }, { dst := some 61, op := Op.call { callee := Callee.builtin Builtin.append, args := #[Operand.const (Value.slice none 0 0), Operand.tmp 60], argTypes := #[22, 22] }, type := 22, pos := "law.go:50", after := #[{ on := 2, ground := Ground.data }], guard := none }, { dst := some 62, op := Op.move (Operand.tmp 11), type := 5, pos := "law.go:50", after := #[], guard := none }, { dst := some 63, op := Op.buildSlice 22 1 #[(0, Operand.tmp 62)], type := 22, pos := "law.go:50", after := #[{ on := 4, ground := Ground.data }], guard := none }, { dst := some 64, op := Op.call { callee := Callee.builtin Builtin.append, args := #[Operand.tmp 61, Operand.tmp 63], argTypes := #[22, 22] }, type := 22, pos := "law.go:50", after := #[{ on := 3, ground := Ground.data }, { on := 5, ground := Ground.data }, { on := 3, ground := Ground.chain }], guard := none }, { dst := some 65, op := Op.move (Operand.tmp 0), type := 22, pos := "law.go:50", after := #[], guard := none }, { dst := some 66, op := Op.move (Operand.tmp 1), type := 3, pos := "law.go:50", after := #[], guard := none }, { dst := some 67, op := Op.slice 22 (Operand.tmp 65) (some (Operand.tmp 66)) none none, type := 22, pos := "law.go:50", after := #[{ on := 7, ground := Ground.data }, { on := 8, ground := Ground.data }], guard := none }, { dst := some 68, op := Op.call { callee := Callee.builtin Builtin.append, args := #[Operand.tmp 64, Operand.tmp 67], argTypes := #[22, 22] }, type := 22, pos := "law.go:50", after := #[{ on := 6, ground := Ground.data }, { on := 9, ground := Ground.data }, { on := 6, ground := Ground.chain }], guard := none }, { dst := some 69, op := Op.call { callee := Callee.value (Operand.func 9), args := #[Operand.tmp 68], argTypes := #[22] }, type := 30, pos := "law.go:50", after := #[{ on := 10, ground := Ground.data }, { on := 10, ground := Ground.chain }], guard := none }, { dst := some 57, op := Op.move (Operand.tmp 69), type := 30, pos := "law.go:50", after := #[{ on := 11, ground := Ground.data }], guard := none }, { dst := some 70, op := Op.extract (Operand.tmp 57) 0, type := 26, pos := "law.go:50", after := #[{ on := 12, ground := Ground.data }], guard := none }, { dst := some 71, op := Op.extract (Operand.tmp 57) 1, type := 29, pos := "law.go:50", after := #[{ on := 12, ground := Ground.data }, { on := 17, ground := Ground.gcOnly Departure.lateStores }], guard := none }, { dst := some 12, op := Op.alloc 26, type := 0, pos := "law.go:50", after := #[], guard := none }, { dst := some 13, op := Op.alloc 29, type := 0, pos := "law.go:50", after := #[], guard := none }, { dst := none, op := Op.store 26 (Operand.tmp 12) (Operand.tmp 70), type := 0, pos := "law.go:50", after := #[{ on := 15, ground := Ground.data }, { on := 13, ground := Ground.data }, { on := 11, ground := Ground.chain }, { on := 0, ground := Ground.phase }, { on := 1, ground := Ground.phase }, { on := 2, ground := Ground.phase }, { on := 3, ground := Ground.phase }, { on := 4, ground := Ground.phase }, { on := 5, ground := Ground.phase }, { on := 6, ground := Ground.phase }, { on := 7, ground := Ground.phase }, { on := 8, ground := Ground.phase }, { on := 9, ground := Ground.phase }, { on := 10, ground := Ground.phase }, { on := 11, ground := Ground.phase }, { on := 12, ground := Ground.phase }, { on := 13, ground := Ground.phase }, { on := 14, ground := Ground.textOnly Departure.lateStores }, { on := 15, ground := Ground.phase }, { on := 16, ground := Ground.phase }], guard := none }, { dst := none, op := Op.store 29 (Operand.tmp 13) (Operand.tmp 71), type := 0, pos := "law.go:50", after := #[{ on := 16, ground := Ground.data }, { on := 14, ground := Ground.data }, { on := 17, ground := Ground.chain }, { on := 0, ground := Ground.phase }, { on := 1, ground := Ground.phase }, { on := 2, ground := Ground.phase }, { on := 3, ground := Ground.phase }, { on := 4, ground := Ground.phase }, { on := 5, ground := Ground.phase }, { on := 6, ground := Ground.phase }, { on := 7, ground := Ground.phase }, { on := 8, ground := Ground.phase }, { on := 9, ground := Ground.phase }, { on := 10, ground := Ground.phase }, { on := 11, ground := Ground.phase }, { on := 12, ground := Ground.phase }, { on := 13, ground := Ground.phase }, { on := 14, ground := Ground.phase }, { on := 15, ground := Ground.phase }, { on := 16, ground := Ground.phase }, { on := 17, ground := Ground.phase }], guard := none }]

section runs
variable {ev : Operand → Value} {w : World}
theorem run_mv {o : Oper} {s : Operand} (ho : o.op = .move s) : (execOp ev o).run Tryz.prog w = .ok (.value (ev s)) w := by
  simp [execOp, ho]
theorem run_ex {o : Oper} {s : Operand} {vs : Array Value} {k : Nat} {v : Value} (ho : o.op = .extract s k) (hs : ev s = .tuple vs) (hv : vs[k]? = some v) : (execOp ev o).run Tryz.prog w = .ok (.value v) w := by
  simp [execOp, ho, hs, hv, go_sem]
theorem run_sl1 {o : Oper} {bb oo n0 c0 q : Nat} (ho : o.op = .slice 22 (.tmp 58) none (some (.tmp 59)) none) (h1 : ev (.tmp 58) = .slice (some ⟨bb, oo, none⟩) n0 c0) (h2 : ev (.tmp 59) = .int .i64 q) (hq : q ≤ n0) (hc : n0 ≤ c0) (hm : c0 ≤ 140737488351232) : (execOp ev o).run Tryz.prog w = .ok (.value (.slice (some ⟨bb, oo, none⟩) q c0)) w := by
  have hq' : q ≤ c0 := by omega
  simp [execOp, ho, h1, h2, go_sem, hq']
theorem run_sl2 {o : Oper} {bb oo n0 c0 q : Nat} (ho : o.op = .slice 22 (.tmp 65) (some (.tmp 66)) none none) (h1 : ev (.tmp 65) = .slice (some ⟨bb, oo, none⟩) n0 c0) (h2 : ev (.tmp 66) = .int .i64 q) (hq : q < n0) (hc : n0 ≤ c0) (hm : c0 ≤ 140737488351232) : (execOp ev o).run Tryz.prog w = .ok (.value (.slice (some ⟨bb, oo + q, none⟩) (n0 - q) (c0 - q))) w := by
  have hq' : q ≤ n0 := by omega
  simp [execOp, ho, h1, h2, go_sem, hq']
  omega
theorem run_bs {o : Oper} {g : Int} (ho : o.op = .buildSlice 22 1 #[(0, .tmp 62)]) (h1 : ev (.tmp 62) = .int .u8 g) : (execOp ev o).run Tryz.prog w = .ok (.value (.slice (some ⟨w.heap.size, 0, none⟩) 1 1)) (w.alloc (.cells #[.int .u8 g] 5)) := by
  simp [execOp, ho, h1, go_sem]
theorem run_al1 {o : Oper} (ho : o.op = .alloc 26) : (execOp ev o).run Tryz.prog w = .ok (.value (.pointer (some ⟨w.heap.size, 0, none⟩))) (w.alloc (.cells zN.arr 26)) := by
  simp [execOp, ho, go_sem]
  rfl
theorem run_al2 {o : Oper} (ho : o.op = .alloc 29) : (execOp ev o).run Tryz.prog w = .ok (.value (.pointer (some ⟨w.heap.size, 0, none⟩))) (w.alloc (.cells #[.int .i64 0, .int .i64 0] 29)) := by
  simp [execOp, ho, go_sem]
/-- A node stored whole into a box. -/
theorem run_st1 {o : Oper} {g : Nat} {b z : Nb} (ho : o.op = .store 26 (.tmp 12) (.tmp 70)) (h1 : ev (.tmp 12) = .pointer (some ⟨g, 0, none⟩)) (h2 : ev (.tmp 70) = .agg b.arr) (hz : NBox w g z) : (execOp ev o).run Tryz.prog w = .ok .skip (((((((((w.setCell ⟨g, 0, none⟩ (.int .i64 b.kind)).setCell ⟨g, 1, none⟩ (.int .u64 b.num)).setCell ⟨g, 2, none⟩ (.bool b.neg)).setCell ⟨g, 3, none⟩ (.string b.dig)).setCell ⟨g, 4, none⟩ (.int .i64 b.exp)).setCell ⟨g, 5, none⟩ (.string b.txt)).setCell ⟨g, 6, none⟩ (.slice b.ab b.lb b.cb)).setCell ⟨g, 7, none⟩ (.slice b.ak b.lk b.ck)).setCell ⟨g, 8, none⟩ (.slice b.ai b.li b.ci)) := by
  obtain ⟨a0, a1, a2, a3, a4, a5, a6, a7, a8⟩ := hz.fields
  have z0 := hz.fz 0
  have z1 := hz.fz 1
  have z2 := hz.fz 2
  have z3 := hz.fz 3
  have z4 := hz.fz 4
  have z5 := hz.fz 5
  have z6 := hz.fz 6
  have z7 := hz.fz 7
  have z8 := hz.fz 8
  rw [Nb.arr] at h2
  simp [execOp, go_sem, *]
theorem run_st2 {o : Oper} {g : Nat} {x y x' y' : Int} (ho : o.op = .store 29 (.tmp 13) (.tmp 71)) (h1 : ev (.tmp 13) = .pointer (some ⟨g, 0, none⟩)) (h2 : ev (.tmp 71) = .agg #[.int .i64 x, .int .i64 y]) (hz : Blk w g #[.int .i64 x', .int .i64 y'] 29) : (execOp ev o).run Tryz.prog w = .ok .skip ((w.setCell ⟨g, 0, none⟩ (.int .i64 x)).setCell ⟨g, 1, none⟩ (.int .i64 y)) := by
  have a0 := hz.cell 0
  have a1 := hz.cell 1
  have z0 := hz.fz 0
  have z1 := hz.fz 1
  simp at a0 a1
  simp [execOp, go_sem, *]
end runs
end Go.Proofs.YtmlacmoembjeoaaGreatDoor
