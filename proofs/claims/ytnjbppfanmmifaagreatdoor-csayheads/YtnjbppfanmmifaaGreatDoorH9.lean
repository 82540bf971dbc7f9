/-
  CBOR items as plain data: what is read hangs on the bytes read alone.
  CBOR items as plain data: the bounds of what is read, and that it hangs on its own bytes alone, wherever they stand.
  CBOR items as plain data: what is read may be.
-/
import Derived.Test.YtnjbppfanmmifaaGreatDoorH8
namespace Go.Proofs.YtnjbppfanmmifaaGreatDoor
open Go.RowKit
set_option linter.unusedVariables false
/-- The bytes zs from P up to L stand in zs', o further on. -/
def Ag (P o L : Nat) (zs zs' : List Int) : Prop := L ≤ zs.length ∧ ∀ i, P ≤ i → i < L → zs'[i + o]? = zs[i]?
theorem Ag.le {P o L K : Nat} {zs zs' : List Int} (h : Ag P o L zs zs') (hk : K ≤ L) : Ag P o K zs zs' := ⟨Nat.le_trans hk h.1, fun i h0 hi => h.2 i h0 (by omega)⟩
theorem Ag.len {P o L : Nat} {zs zs' : List Int} (h : Ag P o L zs zs') (h0 : P < L) : L + o ≤ zs'.length := by
  have h1 := h.2 (L - 1) (by omega) (by omega)
  rw [List.getElem?_eq_getElem (show L - 1 < zs.length by have := h.1; omega)] at h1
  have := (List.getElem?_eq_some_iff.1 h1).1
  omega
theorem Ag.here {P o L : Nat} {zs zs' : List Int} (h : Ag P o L zs zs') {q n : Nat} (hP : P ≤ q) (hq : q + n ≤ L) : here zs' (q + o) n = here zs q n := by
  unfold Go.Proofs.YtnjbppfanmmifaaGreatDoor.here
  refine List.ext_getElem? fun i => ?_
  rw [List.getElem?_take, List.getElem?_take]
  split
  · rw [List.getElem?_drop, List.getElem?_drop, show q + o + i = q + i + o by omega]
    exact h.2 _ (by omega) (by omega)
  · rfl
theorem hwd_le (c : Int) : hwd c ≤ 8 := by
  unfold hwd
  split
  · omega
  split
  · omega
  split
  · omega
  split <;> omega
theorem hd_none {zs : List Int} {p : Nat} : hdA zs p = none ↔ zs.length ≤ p := by
  unfold hdA
  cases h : zs[p]? with
  | none => simpa using h
  | some c =>
    have := (List.getElem?_eq_some_iff.1 h).1
    simp only
    split
    · simp; omega
    split <;> simp <;> omega
theorem hd_inv {zs : List Int} {p q : Nat} {h : Hd} (e : hdA zs p = some (h, q)) : ∃ hp : p < zs.length, h.pl = p ∧ p < q ∧ (h.cut = false → q ≤ zs.length) ∧ q ≤ p + 9 ∧ h.mj = zs[p] / 32 ∧ h.lo = zs[p] % 32 ∧ (h.cut = true → h.n = 0 ∧ q = p + 1) ∧ (h.lo < 24 → h.cut = false ∧ h.n = (zs[p] % 32).toNat ∧ q = p + 1) ∧ (¬ h.lo < 24 → h.cut = false → h.n = bytV (here zs (p + 1) (hwd h.lo)) ∧ q = p + 1 + hwd h.lo) := by
  unfold hdA at e
  cases hz : zs[p]? with
  | none => rw [hz] at e; simp at e
  | some c =>
    obtain ⟨hp, hc⟩ := List.getElem?_eq_some_iff.1 hz
    rw [hz] at e
    simp only at e
    refine ⟨hp, ?_⟩
    rw [hc]
    have h8 := hwd_le (c % 32)
    split at e
    · simp at e
      obtain ⟨rfl, rfl⟩ := e
      exact ⟨rfl, by omega, fun _ => by omega, by omega, rfl, rfl, by simp, fun _ => ⟨rfl, rfl, rfl⟩, fun h => by simp at h; omega⟩
    split at e
    · simp at e
      obtain ⟨rfl, rfl⟩ := e
      exact ⟨rfl, by omega, by simp, by omega, rfl, rfl, by simp, fun h => by simp at h; omega, by simp⟩
    · simp at e
      obtain ⟨rfl, rfl⟩ := e
      exact ⟨rfl, by omega, fun _ => by omega, by omega, rfl, rfl, by simp, fun h => by simp at h; omega, fun _ _ => ⟨rfl, rfl⟩⟩
theorem bytV_lt (l : List Int) (hz : ∀ c ∈ l, 0 ≤ c ∧ c < 256) : bytV l < 256 ^ l.length := by
  have aux : ∀ (l : List Int) (a k : Nat), (∀ c ∈ l, 0 ≤ c ∧ c < 256) → a < 256 ^ k → l.foldl (fun n c => n * 256 + c.toNat) a < 256 ^ (k + l.length) := by
    intro l
    induction l with
    | nil => intro a k _ h; simpa using h
    | cons c l ih =>
      intro a k hz h
      have hc := hz c List.mem_cons_self
      rw [List.foldl_cons, List.length_cons, show k + (l.length + 1) = (k + 1) + l.length by omega]
      refine ih _ _ (fun x hx => hz x (List.mem_cons_of_mem _ hx)) ?_
      rw [Nat.pow_succ]
      omega
  have := aux l 0 0 hz (by simp)
  rwa [Nat.zero_add] at this
/-- The argument is a word. -/
theorem hd_word {zs : List Int} (hz : ∀ c ∈ zs, 0 ≤ c ∧ c < 256) {p q : Nat} {h : Hd} (e : hdA zs p = some (h, q)) : h.n < 18446744073709551616 ∧ 0 ≤ h.mj ∧ h.mj < 8 ∧ 0 ≤ h.lo ∧ h.lo < 32 := by
  obtain ⟨hp, h1, h2, h3, h4, h5, h6, h7, h8, h9⟩ := hd_inv e
  have hc := hz _ (List.getElem_mem hp)
  refine ⟨?_, by omega, by omega, by omega, by omega⟩
  cases hcut : h.cut with
  | true => rw [(h7 hcut).1]; decide
  | false =>
    by_cases hl : h.lo < 24
    · rw [(h8 hl).2.1]; omega
    · rw [(h9 hl hcut).1]
      have hb := bytV_lt (here zs (p + 1) (hwd h.lo)) fun c hc => hz c (List.mem_of_mem_drop (List.mem_of_mem_take hc))
      have hl : (here zs (p + 1) (hwd h.lo)).length ≤ 8 := by unfold here; rw [List.length_take]; have := hwd_le h.lo; omega
      exact Nat.lt_of_lt_of_le hb (Nat.le_trans (Nat.pow_le_pow_right (by decide) hl) (by decide))
theorem why_le (l : List Int) : atL l ≤ l.length := by
  unfold atL
  cases h : (runesL l).2 with
  | none => simp
  | some p => exact fault_le l p h
theorem here_len {zs : List Int} {q n : Nat} (h : q + n ≤ zs.length) : (here zs q n).length = n := by unfold here; rw [List.length_take, List.length_drop]; omega
theorem run_ok {zs : List Int} {mj : Int} {q n r : Nat} {l : List Int} (e : runA zs mj q n = .inr (l, r)) : r = q + n ∧ r ≤ zs.length ∧ l = here zs q n ∧ l.length = n ∧ (mj = 3 → whyL l = 0) := by
  unfold runA at e
  split at e
  · simp at e
  rename_i hw
  split at e
  · simp at e
  · rename_i hn
    simp at e
    obtain ⟨rfl, rfl⟩ := e
    have hl := here_len (zs := zs) (q := q) (n := n) (by omega)
    refine ⟨rfl, by omega, rfl, hl, fun h3 => ?_⟩
    have hle := why_le (here zs q n)
    by_cases h0 : whyL (here zs q n) = 0
    · exact h0
    · exact absurd ⟨h3, h0, by omega⟩ hw
theorem why_app {a b : List Int} (ha : whyL a = 0) (hb : whyL b = 0) : whyL (a ++ b) = 0 := by
  unfold whyL at *
  cases h1 : (runesL a).2 with
  | some p => rw [h1] at ha; simp at ha
  | none =>
    cases h2 : (runesL b).2 with
    | some p => rw [h2] at hb; simp at hb
    | none => rw [runes_append a b h1, h2]; rfl
theorem prt_ok : ∀ (k : Nat) {zs : List Int} {mj : Int} {pl p r : Nat} {out l : List Int}, prtF k zs mj pl p out = .inr (l, r) → p < r ∧ r ≤ zs.length ∧ (out.length ≤ 4096 → l.length ≤ 4096) ∧ (mj = 3 → whyL out = 0 → whyL l = 0) ∧ ((∀ c ∈ zs, 0 ≤ c ∧ c < 256) → (∀ c ∈ out, 0 ≤ c ∧ c < 256) → ∀ c ∈ l, 0 ≤ c ∧ c < 256) := by
  intro k
  induction k with
  | zero => intro zs mj pl p r out l e; simp [prtF] at e
  | succ k ih =>
    intro zs mj pl p r out l e
    simp only [prtF] at e
    cases hh : hdA zs p with
    | none => rw [hh] at e; simp at e
    | some hq =>
      obtain ⟨h, q⟩ := hq
      obtain ⟨hp, h1, h2, h3, h4, h5, h6, h7, h8, h9⟩ := hd_inv hh
      rw [hh] at e
      simp only at e
      split at e
      · simp at e; obtain ⟨rfl, rfl⟩ := e; exact ⟨by omega, by omega, fun h => h, fun _ h => h, fun _ h => h⟩
      split at e
      · simp at e
      split at e
      · simp at e
      split at e
      · simp at e
      rename_i hm
      split at e
      · simp at e
      · rename_i l1 r1 hr
        obtain ⟨g1, g2, g3, g4, g5⟩ := run_ok hr
        obtain ⟨i1, i2, i3, i4, i5⟩ := ih e
        refine ⟨by omega, i2, fun ho => i3 (by rw [List.length_append]; omega), fun h3 hw => i4 h3 (why_app hw (g5 h3)), fun hz ho => i5 hz fun c hc => ?_⟩
        rcases List.mem_append.1 hc with hc | hc
        · exact ho c hc
        · rw [g3] at hc; exact hz c (List.mem_of_mem_drop (List.mem_of_mem_take hc))
theorem all_ok {zs : List Int} {h : Hd} {q r : Nat} {l : List Int} (e : allA zs h q = .inr (l, r)) : q ≤ r ∧ r ≤ zs.length ∧ (h.n ≤ 4096 → l.length ≤ 4096) ∧ (h.mj = 3 → whyL l = 0) ∧ ((∀ c ∈ zs, 0 ≤ c ∧ c < 256) → ∀ c ∈ l, 0 ≤ c ∧ c < 256) := by
  unfold allA at e
  split at e
  · obtain ⟨g1, g2, g3, g4, g5⟩ := run_ok e
    exact ⟨by omega, g2, fun h => by omega, g5, fun hz c hc => by rw [g3] at hc; exact hz c (List.mem_of_mem_drop (List.mem_of_mem_take hc))⟩
  · obtain ⟨g1, g2, g3, g4, g5⟩ := prt_ok _ e
    exact ⟨by omega, g2, fun _ => g3 (by simp), fun h3 => g4 h3 rfl, fun hz => g5 hz (by simp)⟩
theorem gon_ok {zs : List Int} {p q : Nat} {lim : Option Nat} {b : Bool} (e : gonA zs p lim = .inr (b, q)) (hp : p ≤ zs.length) : p ≤ q ∧ q ≤ zs.length ∧ (b = true → q = p) := by
  unfold gonA at e
  split at e
  · simp at e; omega
  · simp at e; omega
  · split at e
    · simp at e
    · rename_i c hc
      have := (List.getElem?_eq_some_iff.1 hc).1
      split at e
      · simp at e; obtain ⟨rfl, rfl⟩ := e; simp; omega
      · simp at e; omega
end Go.Proofs.YtnjbppfanmmifaaGreatDoor
namespace Go.Proofs.YtnjbppfanmmifaaGreatDoor
open Go.RowKit
set_option linter.unusedVariables false
theorem bod_inv {zs : List Int} {h : Hd} {q m r n : Nat} {t : Tr} {f : Nat → Option Nat → Sum (Int × Nat) (Tr × Nat × Nat)} (e : bodA zs h q m f = .inr (t, r, n)) :
    (r = q ∧ n = m ∧ ((h.mj = 0 ∧ t = intT false (txt h.n)) ∨ (h.mj = 1 ∧ t = (belA (txt h.n)).1) ∨ ((h.mj ≠ 0 ∧ h.mj ≠ 1 ∧ h.mj ≠ 2 ∧ h.mj ≠ 3 ∧ h.mj ≠ 4 ∧ h.mj ≠ 5 ∧ h.mj ≠ 6) ∧ othA h = .inr t))) ∨
    (n = m ∧ ∃ l, allA zs h q = .inr (l, r) ∧ ((h.mj = 2 ∧ t = bytT l) ∨ (h.mj = 3 ∧ t = txtT (strOfNums l)))) ∨
    (h.mj = 4 ∧ f 1 (limA h) = .inr (t, r, n)) ∨ (h.mj = 5 ∧ f 2 (limA h) = .inr (t, r, n)) ∨
    (h.mj = 6 ∧ ∃ u, f 0 none = .inr (u, r, n) ∧ (tagA h.n u).2 = 0 ∧ t = (tagA h.n u).1) := by
  unfold bodA at e
  split at e
  · simp at e; obtain ⟨rfl, rfl, rfl⟩ := e; exact .inl ⟨rfl, rfl, .inl ⟨‹_›, rfl⟩⟩
  split at e
  · simp at e; obtain ⟨rfl, rfl, rfl⟩ := e; exact .inl ⟨rfl, rfl, .inr (.inl ⟨‹_›, rfl⟩)⟩
  split at e
  · split at e
    · simp at e
    · rename_i l r' hl; simp at e; obtain ⟨rfl, rfl, rfl⟩ := e; exact .inr (.inl ⟨rfl, l, hl, .inl ⟨‹_›, rfl⟩⟩)
  split at e
  · split at e
    · simp at e
    · rename_i l r' hl; simp at e; obtain ⟨rfl, rfl, rfl⟩ := e; exact .inr (.inl ⟨rfl, l, hl, .inr ⟨‹_›, rfl⟩⟩)
  split at e
  · exact .inr (.inr (.inl ⟨‹_›, e⟩))
  split at e
  · exact .inr (.inr (.inr (.inl ⟨‹_›, e⟩)))
  split at e
  · split at e
    · simp at e
    · rename_i u r' n' hu
      split at e
      · simp at e
      · rename_i h0
        simp at e
        obtain ⟨rfl, rfl, rfl⟩ := e
        exact .inr (.inr (.inr (.inr ⟨‹_›, u, hu, by simpa using h0, rfl⟩)))
  · split at e
    · simp at e
    · rename_i u hu
      simp at e
      obtain ⟨rfl, rfl, rfl⟩ := e
      exact .inl ⟨rfl, rfl, .inr (.inr ⟨⟨‹_›, ‹_›, ‹_›, ‹_›, ‹_›, ‹_›, ‹_›⟩, hu⟩)⟩
theorem rc0_inv {k : Nat} {zs : List Int} {d p m r n : Nat} {lim : Option Nat} {keys kids : List Tr} {t : Tr} (e : rcF (k + 1) zs 0 d p m lim keys kids = .inr (t, r, n)) :
    ∃ h q, hdA zs p = some (h, q) ∧ mayA h = true ∧ m + 1 ≤ 1024 ∧ (isR h = true → h.n ≤ 4096) ∧ d ≤ 24 ∧ h.cut = false ∧ bodA zs h q (m + 1) (fun j lim => rcF k zs j (d + 1) q (m + 1) lim [] []) = .inr (t, r, n) := by
  simp only [rcF] at e
  cases hh : hdA zs p with
  | none => rw [hh] at e; simp at e
  | some hq =>
    obtain ⟨h, q⟩ := hq
    rw [hh] at e
    simp only at e
    split at e
    · simp at e
    split at e
    · simp at e
    split at e
    · simp at e
    split at e
    · simp at e
    rename_i h1 h2 h3 h4
    exact ⟨h, q, rfl, by simpa using h1, by omega, fun hr => Nat.le_of_not_lt fun q => h2 (.inr ⟨hr, q⟩), by omega, by simpa using h4, e⟩
theorem rc1_inv {k : Nat} {zs : List Int} {d p m r n : Nat} {lim : Option Nat} {keys kids : List Tr} {t : Tr} (e : rcF (k + 1) zs 1 d p m lim keys kids = .inr (t, r, n)) :
    (gonA zs p lim = .inr (false, r) ∧ t = arrT kids ∧ n = m) ∨ (∃ g, gonA zs p lim = .inr (true, g) ∧ ∃ u q o, rcF k zs 0 d p m none [] [] = .inr (u, q, o) ∧ rcF k zs 1 d q o (lim.map (· - 1)) [] (kids ++ [u]) = .inr (t, r, n)) := by
  simp only [rcF] at e
  cases hg : gonA zs p lim with
  | inl f => rw [hg] at e; simp at e
  | inr bg =>
    obtain ⟨b, g⟩ := bg
    rw [hg] at e
    cases b with
    | false => simp at e; obtain ⟨rfl, rfl, rfl⟩ := e; exact .inl ⟨rfl, rfl, rfl⟩
    | true =>
      simp only at e
      split at e
      · simp at e
      · rename_i u q o hu
        exact .inr ⟨g, rfl, u, q, o, hu, e⟩
theorem rc2_inv {k : Nat} {zs : List Int} {d p m r n : Nat} {lim : Option Nat} {keys kids : List Tr} {t : Tr} (e : rcF (k + 1) zs 2 d p m lim keys kids = .inr (t, r, n)) :
    (gonA zs p lim = .inr (false, r) ∧ t = mapT keys kids ∧ n = m) ∨ (∃ g, gonA zs p lim = .inr (true, g) ∧ ∃ u q o, rcF k zs 0 d p m none [] [] = .inr (u, q, o) ∧ hasK keys u = false ∧ ∃ v s i, rcF k zs 0 d q o none [] [] = .inr (v, s, i) ∧ rcF k zs 2 d s i (lim.map (· - 1)) (keys ++ [u]) (kids ++ [v]) = .inr (t, r, n)) := by
  simp only [rcF] at e
  cases hg : gonA zs p lim with
  | inl f => rw [hg] at e; simp at e
  | inr bg =>
    obtain ⟨b, g⟩ := bg
    rw [hg] at e
    cases b with
    | false => simp at e; obtain ⟨rfl, rfl, rfl⟩ := e; exact .inl ⟨rfl, rfl, rfl⟩
    | true =>
      simp only at e
      split at e
      · simp at e
      · rename_i u q o hu
        split at e
        · simp at e
        · rename_i hk
          split at e
          · simp at e
          · rename_i v s i hv
            exact .inr ⟨g, rfl, u, q, o, hu, by simpa using hk, v, s, i, hv, e⟩
/-- THE BOUNDS OF WHAT IS READ. -/
theorem rc_bnd (zs : List Int) : ∀ (k j : Nat), j ≤ 2 → ∀ (d p m : Nat) (lim : Option Nat) (keys kids : List Tr) (t : Tr) (r n : Nat), rcF k zs j d p m lim keys kids = .inr (t, r, n) → m ≤ 1024 → p ≤ zs.length →
    p ≤ r ∧ r ≤ zs.length ∧ m ≤ n ∧ n ≤ 1024 ∧ (j = 0 → p < r ∧ m < n) := by
  intro k
  induction k with
  | zero => intro j _ d p m lim keys kids t r n e; simp [rcF] at e
  | succ k ih =>
    intro j hj d p m lim keys kids t r n e hm hp
    rcases j with _ | _ | j
    · obtain ⟨h, q, h1, h2, h3, h4, h5, h6, h7⟩ := rc0_inv e
      obtain ⟨hp', a1, a2, a3, _⟩ := hd_inv h1
      have a3' := a3 h6
      rcases bod_inv h7 with ⟨rfl, rfl, _⟩ | ⟨rfl, l, hl, _⟩ | ⟨_, hf⟩ | ⟨_, hf⟩ | ⟨_, u, hf, _⟩
      · exact ⟨by omega, by omega, by omega, by omega, fun _ => ⟨by omega, by omega⟩⟩
      · obtain ⟨b1, b2, _⟩ := all_ok hl
        exact ⟨by omega, by omega, by omega, by omega, fun _ => ⟨by omega, by omega⟩⟩
      · obtain ⟨b1, b2, b3, b4, _⟩ := ih 1 (by omega) _ _ _ _ _ _ _ _ _ hf h3 (by omega)
        exact ⟨by omega, by omega, by omega, by omega, fun _ => ⟨by omega, by omega⟩⟩
      · obtain ⟨b1, b2, b3, b4, _⟩ := ih 2 (by omega) _ _ _ _ _ _ _ _ _ hf h3 (by omega)
        exact ⟨by omega, by omega, by omega, by omega, fun _ => ⟨by omega, by omega⟩⟩
      · obtain ⟨b1, b2, b3, b4, _⟩ := ih 0 (by omega) _ _ _ _ _ _ _ _ _ hf h3 (by omega)
        exact ⟨by omega, by omega, by omega, by omega, fun _ => ⟨by omega, by omega⟩⟩
    · rcases rc1_inv e with ⟨hg, rfl, rfl⟩ | ⟨g, hg, u, q, o, hu, hr⟩
      · obtain ⟨g1, g2, _⟩ := gon_ok hg hp
        exact ⟨g1, g2, Nat.le_refl _, hm, fun h => by omega⟩
      · obtain ⟨b1, b2, b3, b4, b5⟩ := ih 0 (by omega) _ _ _ _ _ _ _ _ _ hu hm hp
        obtain ⟨c1, c2, c3, c4, _⟩ := ih 1 (by omega) _ _ _ _ _ _ _ _ _ hr b4 b2
        exact ⟨by omega, c2, by omega, c4, fun h => by omega⟩
    · obtain rfl : j = 0 := by omega
      rcases rc2_inv e with ⟨hg, rfl, rfl⟩ | ⟨g, hg, u, q, o, hu, hk, v, s, i, hv, hr⟩
      · obtain ⟨g1, g2, _⟩ := gon_ok hg hp
        exact ⟨g1, g2, Nat.le_refl _, hm, fun h => by omega⟩
      · obtain ⟨b1, b2, b3, b4, b5⟩ := ih 0 (by omega) _ _ _ _ _ _ _ _ _ hu hm hp
        obtain ⟨d1, d2, d3, d4, d5⟩ := ih 0 (by omega) _ _ _ _ _ _ _ _ _ hv b4 b2
        obtain ⟨c1, c2, c3, c4, _⟩ := ih 2 (by omega) _ _ _ _ _ _ _ _ _ hr d4 d2
        exact ⟨by omega, c2, by omega, c4, fun h => by omega⟩
end Go.Proofs.YtnjbppfanmmifaaGreatDoor
namespace Go.Proofs.YtnjbppfanmmifaaGreatDoor
open Go.RowKit
set_option linter.unusedVariables false
/-- Every node is of its form, and no keys stand twice. -/
def NOK (t : Tr) : Prop := t.All (fun u => alF u = 0) ∧ t.All (fun u => u.keys.Nodup)
theorem nok_leaf {t : Tr} (hk : t.keys = [] ∧ t.kids = []) (ha : alF t = 0) : NOK t := by
  refine ⟨(Tr.all_eq _ t).2 ⟨ha, fun k h => ?_, fun k h => ?_⟩, (Tr.all_eq _ t).2 ⟨by rw [hk.1]; exact List.nodup_nil, fun k h => ?_, fun k h => ?_⟩⟩
  · rw [hk.1] at h; cases h
  · rw [hk.2] at h; cases h
  · rw [hk.1] at h; cases h
  · rw [hk.2] at h; cases h
theorem al_txt {x : ByteArray} (h : gtx x = true) (hs : x.size ≤ 4096) : alF (txtT x) = 0 := by
  have o : (txtT x).odd = false := rfl
  show Tr.alo gtx rt rdN (txtT x) = 0
  unfold Tr.alo
  rw [o, show (txtT x).txt = x from rfl, h]
  rw [if_neg (by rintro (⟨_, q⟩ | ⟨q, _⟩); exact absurd q (by omega); exact absurd (show (5 : Int) = 6 from q) (by decide)), if_neg (by simp), if_neg (fun q => absurd (show (5 : Int) = 2 from q.1) (by decide)), if_neg (fun q => absurd (show (5 : Int) = 3 from q.1) (by decide)), if_neg (by decide)]
theorem al_byt {l : List Int} (hs : l.length ≤ 4096) : alF (bytT l) = 0 := by
  have o : (bytT l).odd = false := by simp [Tr.odd, Tr.clean, bytT, ByteArray.size]
  show Tr.alo gtx rt rdN (bytT l) = 0
  unfold Tr.alo
  rw [o]
  simp [bytT]
  omega
theorem al_int {n : Bool} {d : ByteArray} (h : rt d = true) (hz : ¬ (n = true ∧ d = ⟨#[48]⟩)) : alF (intT n d) = 0 := by
  have o : (intT n d).odd = false := by cases n <;> rfl
  show Tr.alo gtx rt rdN (intT n d) = 0
  unfold Tr.alo
  rw [o, show (intT n d).dig = d from rfl, show (intT n d).neg = n from rfl, h]
  rw [if_neg (by rintro (⟨q, _⟩ | ⟨q, _⟩); exact absurd (show (2 : Int) = 5 from q) (by decide); exact absurd (show (2 : Int) = 6 from q) (by decide)), if_neg (fun q => absurd (show (2 : Int) = 5 from q.1) (by decide)), if_neg (by rintro ⟨_, q | q⟩; exact absurd q (by decide); exact hz q), if_neg (fun q => absurd (show (2 : Int) = 3 from q.1) (by decide)), if_neg (by decide)]
theorem al_dec {n : Bool} {d : ByteArray} {x : Int} (h : rdN n d x = true) : alF (decT n d x) = 0 := by
  have o : (decT n d x).odd = false := by cases n <;> rfl
  show Tr.alo gtx rt rdN (decT n d x) = 0
  unfold Tr.alo
  rw [o, show (decT n d x).dig = d from rfl, show (decT n d x).neg = n from rfl, show (decT n d x).exp = x from rfl, h]
  rw [if_neg (by rintro (⟨q, _⟩ | ⟨q, _⟩); exact absurd (show (3 : Int) = 5 from q) (by decide); exact absurd (show (3 : Int) = 6 from q) (by decide)), if_neg (fun q => absurd (show (3 : Int) = 5 from q.1) (by decide)), if_neg (fun q => absurd (show (3 : Int) = 2 from q.1) (by decide)), if_neg (fun q => absurd q.2 (by decide)), if_neg (by decide)]
theorem al_arr (kids : List Tr) : alF (arrT kids) = 0 := by
  have o : (arrT kids).odd = false := by simp [Tr.odd, Tr.clean, arrT, ByteArray.size]
  show Tr.alo gtx rt rdN (arrT kids) = 0
  unfold Tr.alo
  rw [o]
  simp [arrT]
theorem al_tag (n : Int) (u : Tr) : alF (tgT n u) = 0 := by
  have o : (tgT n u).odd = false := by simp [Tr.odd, Tr.clean, tgT, ByteArray.size]
  show Tr.alo gtx rt rdN (tgT n u) = 0
  unfold Tr.alo
  rw [o]
  simp [tgT]
theorem al_map {keys kids : List Tr} (h : keys.length = kids.length) : alF (mapT keys kids) = 0 := by
  have o : (mapT keys kids).odd = false := by simp [Tr.odd, Tr.clean, mapT, ByteArray.size, h]
  show Tr.alo gtx rt rdN (mapT keys kids) = 0
  unfold Tr.alo
  rw [o]
  simp [mapT]
theorem al_kind {k n : Int} (h : (k = 0 ∧ n = 0) ∨ (k = 1 ∧ n ≤ 1) ∨ k = 4 ∨ (k = 10 ∧ Tr.smp n = true)) : alF (kindT k n) = 0 := by
  have o : (kindT k n).odd = false := by
    rcases h with ⟨rfl, rfl⟩ | ⟨rfl, h⟩ | rfl | ⟨rfl, h⟩
    · rfl
    · have h' : ¬ (1 : Int) < n := by omega
      simp [Tr.odd, Tr.clean, kindT, ByteArray.size, h']
    · simp [Tr.odd, Tr.clean, kindT, ByteArray.size]
    · simp [Tr.odd, Tr.clean, kindT, ByteArray.size, h]
  show Tr.alo gtx rt rdN (kindT k n) = 0
  unfold Tr.alo
  rw [o]
  have hk : k ≠ 5 ∧ k ≠ 6 ∧ k ≠ 2 ∧ k ≠ 3 := by omega
  simp [kindT, hk]
theorem nok_arr {kids : List Tr} (h : ∀ k ∈ kids, NOK k) : NOK (arrT kids) :=
  ⟨(Tr.all_eq _ _).2 ⟨al_arr kids, fun k hk => absurd hk (by simp [arrT]), fun k hk => (h k hk).1⟩, (Tr.all_eq _ _).2 ⟨List.nodup_nil, fun k hk => absurd hk (by simp [arrT]), fun k hk => (h k hk).2⟩⟩
theorem nok_tag (n : Int) {u : Tr} (h : NOK u) : NOK (tgT n u) :=
  ⟨(Tr.all_eq _ _).2 ⟨al_tag n u, fun k hk => absurd hk (by simp [tgT]), fun k hk => by simp [tgT] at hk; subst hk; exact h.1⟩, (Tr.all_eq _ _).2 ⟨List.nodup_nil, fun k hk => absurd hk (by simp [tgT]), fun k hk => by simp [tgT] at hk; subst hk; exact h.2⟩⟩
theorem nok_map {keys kids : List Tr} (hl : keys.length = kids.length) (hk : ∀ k ∈ keys, NOK k) (hi : ∀ k ∈ kids, NOK k) (hn : keys.Nodup) : NOK (mapT keys kids) :=
  ⟨(Tr.all_eq _ _).2 ⟨al_map hl, fun k h => (hk k h).1, fun k h => (hi k h).1⟩, (Tr.all_eq _ _).2 ⟨hn, fun k h => (hk k h).2, fun k h => (hi k h).2⟩⟩
theorem deeps_leq {l : List Tr} {n : Nat} (h : ∀ k ∈ l, k.deep ≤ n) : Tr.deeps l ≤ n := Tr.mx_le fun x hx => by
  obtain ⟨k, hm, rfl⟩ := List.mem_map.1 hx
  exact h k hm
theorem pad_zero {s : ByteArray} {k : Nat} (h : padW s k = ⟨#[48]⟩) : k = 0 ∨ s.size = 0 := by
  have := congrArg ByteArray.size h
  rw [padW_size] at this
  have e : (⟨#[48]⟩ : ByteArray).size = 1 := rfl
  rw [e] at this
  omega
/-- A number in its form, as an Int, if it is whole, else as a Dec. -/
theorem dcm_al {r : Nm} (hr : rtN r.1 r.2.1 r.2.2 = true) : alF (dcm r) = 0 := by
  unfold dcm
  by_cases hw : (wholeA r.1 r.2.1 r.2.2).2 = true
  · rw [if_pos hw]
    unfold wholeA at hw ⊢
    by_cases hc : rtN r.1 r.2.1 r.2.2 = true ∧ 0 ≤ r.2.2 ∧ ((r.2.1.size : Nat) : Int) + r.2.2 ≤ 800
    · rw [if_pos hc]
      obtain ⟨c1, c2, c3⟩ := hc
      obtain ⟨e, he⟩ : ∃ e : Nat, r.2.2 = (e : Int) := ⟨r.2.2.toNat, by omega⟩
      rw [he] at c1 c3
      have hrt := rt_padW c1
      show alF (intT r.1 (padW r.2.1 r.2.2.toNat)) = 0
      rw [he, Int.toNat_natCast]
      refine al_int (by rw [hrt]; simp; omega) ?_
      rintro ⟨hn, hz⟩
      rcases pad_zero hz with h0 | h0
      · subst h0
        rw [padW_zero] at hz
        unfold rtN at c1
        rw [hz] at c1
        rw [if_pos (by rfl), hn] at c1
        simp at c1
      · have := rt_size (rtN_rt c1)
        omega
    · rw [if_neg hc] at hw; exact absurd hw (by decide)
  · rw [if_neg hw]
    refine al_dec ?_
    unfold rdN
    rw [hr]
    simpa using hw
theorem word_top {n : Nat} (h : n ≤ 18446744073709551616) : n < top := by
  unfold top
  have h3 : ∀ m, 20 ≤ m → 10 ^ 20 ≤ 10 ^ m := fun m h => Nat.pow_le_pow_right (by omega) h
  exact Nat.lt_of_lt_of_le (Nat.lt_of_le_of_lt h (by decide)) (h3 800 (by decide))
theorem rt_one : rt oneS = true := by decide
theorem val_one : val oneS = 1 := by decide
theorem bel_al {d : ByteArray} (h : (belA d).2 = 0) : alF (belA d).1 = 0 := by
  unfold belA addA at h ⊢
  by_cases hc : rt d = true ∧ rt oneS = true
  · rw [if_pos hc] at h ⊢
    unfold shortA at h ⊢
    split at h
    · rename_i hl
      rw [if_pos hl]
      refine al_int (rt_txt hl) ?_
      rintro ⟨_, hz⟩
      have := congrArg val hz
      rw [val_txt, val_one] at this
      have h0 : val ⟨#[48]⟩ = 0 := by decide
      rw [h0] at this
      omega
    · exact absurd h (by decide)
  · rw [if_neg hc] at h; exact absurd h (by decide)
theorem bel_word {n : Nat} (h : n < 18446744073709551616) : (belA (txt n)).2 = 0 := by
  unfold belA addA
  rw [if_pos ⟨rt_txt (word_top (by omega)), rt_one⟩, val_txt, val_one]
  unfold shortA
  rw [if_pos (word_top (by omega))]
/-- What is leaf-like: no keys, no kids. -/
def Lf (t : Tr) : Prop := t.keys = [] ∧ t.kids = []
theorem lf_size {t : Tr} (h : Lf t) : t.size = 1 := by rw [Tr.size_eq, h.1, h.2]; rfl
theorem lf_deep {t : Tr} (h : Lf t) : t.deep = 1 := by rw [Tr.deep_eq, h.1, h.2]; rfl
theorem dcm_lf (r : Nm) : Lf (dcm r) := by unfold dcm; split <;> exact ⟨rfl, rfl⟩
theorem tag_al {n : Nat} {u : Tr} (h : (tagA n u).2 = 0) : (alF (tagA n u).1 = 0 ∧ Lf (tagA n u).1) ∨ (tagA n u).1 = tgT (n : Nat) u := by
  unfold tagA at h ⊢
  split at h
  · rename_i c
    rw [if_pos c]
    left
    refine ⟨?_, rfl, rfl⟩
    unfold frbA at h ⊢
    split at h
    · rename_i c2
      rw [if_pos c2]
      unfold shortA at h ⊢
      split at h
      · rename_i c3
        rw [if_pos c3]
        exact al_int (rt_txt c3) (by simp)
      · exact absurd h (by decide)
    · exact absurd h (by decide)
  rename_i c1
  rw [if_neg c1]
  split at h
  · rename_i c
    rw [if_pos c]
    left
    split at h
    · rename_i c2; exact absurd h c2
    · rename_i c2
      rw [if_neg c2]
      exact ⟨bel_al h, rfl, rfl⟩
  rename_i c2
  rw [if_neg c2]
  split at h
  · rename_i c
    rw [if_pos c]
    split at h
    · rename_i a b hab
      left
      unfold dcmA at h ⊢
      split at h
      · exact absurd h (by decide)
      rename_i c3
      rw [if_neg c3]
      split at h
      · rename_i c4; exact absurd h c4
      · rename_i c4
        rw [if_neg c4]
        have h0 : (makeA b.neg b.dig (sgn a.neg (towA a.dig).1)).2 = 0 := by simpa using c4
        exact ⟨dcm_al (make_right (m := (makeA b.neg b.dig (sgn a.neg (towA a.dig).1)).1) (by rw [← h0])), dcm_lf _⟩
    · exact .inr rfl
  · rename_i c3
    rw [if_neg c3]
    exact .inr rfl
theorem oth_al {zs : List Int} (hz : ∀ c ∈ zs, 0 ≤ c ∧ c < 256) {p q : Nat} {h : Hd} {t : Tr} (e : hdA zs p = some (h, q)) (hc : h.cut = false) (hm : h.lo ≤ 27) (ho : othA h = .inr t) : alF t = 0 ∧ Lf t := by
  obtain ⟨hp, h1, h2, h3, h4, h5, h6, h7, h8, h9⟩ := hd_inv e
  have hb := hz _ (List.getElem_mem hp)
  unfold othA at ho
  split at ho
  · simp at ho; subst ho; exact ⟨al_kind (.inr (.inl ⟨rfl, by omega⟩)), rfl, rfl⟩
  split at ho
  · simp at ho; subst ho; exact ⟨al_kind (.inr (.inl ⟨rfl, by omega⟩)), rfl, rfl⟩
  split at ho
  · simp at ho; subst ho; exact ⟨al_kind (.inl ⟨rfl, rfl⟩), rfl, rfl⟩
  split at ho
  · simp at ho; subst ho; exact ⟨al_kind (.inr (.inr (.inl rfl))), rfl, rfl⟩
  split at ho
  · simp at ho
  · rename_i i1 i2 i3 i4 i5
    simp at ho
    subst ho
    refine ⟨al_kind (.inr (.inr (.inr ⟨rfl, ?_⟩))), rfl, rfl⟩
    unfold Tr.smp
    by_cases hl : h.lo < 24
    · have hn := (h8 hl).2.1
      simp
      omega
    · have h24 : h.lo = 24 := by omega
      have hn := (h9 hl hc).1
      have hw : hwd h.lo = 1 := by rw [h24]; rfl
      rw [hw] at hn
      have hlt := bytV_lt (here zs (p + 1) 1) fun c hc => hz c (List.mem_of_mem_drop (List.mem_of_mem_take hc))
      have hle : (here zs (p + 1) 1).length ≤ 1 := by unfold here; rw [List.length_take]; omega
      have h256 : bytV (here zs (p + 1) 1) < 256 := Nat.lt_of_lt_of_le hlt (by have := Nat.pow_le_pow_right (n := 256) (by decide) hle; simpa using this)
      have h32 : ¬ h.n < 32 := fun q => i5 ⟨h24, q⟩
      simp
      omega
/-- WHAT IS READ MAY BE. -/
theorem rc_may (zs : List Int) (hz : ∀ c ∈ zs, 0 ≤ c ∧ c < 256) : ∀ (k j : Nat), j ≤ 2 → ∀ (d p m : Nat) (lim : Option Nat) (keys kids : List Tr) (t : Tr) (r n : Nat), rcF k zs j d p m lim keys kids = .inr (t, r, n) → m ≤ 1024 → p ≤ zs.length →
    (∀ u ∈ keys, NOK u ∧ u.deep + d ≤ 25) → (∀ u ∈ kids, NOK u ∧ u.deep + d ≤ 25) → (j = 2 → keys.length = kids.length ∧ keys.Nodup) →
    NOK t ∧ (j = 0 → t.deep + d ≤ 25 ∧ t.size + m ≤ n) ∧ (0 < j → d ≤ 25 → t.deep + d ≤ 26) ∧ (j = 1 → t.size + m ≤ n + 1 + Tr.sizes kids) ∧ (j = 2 → t.size + m ≤ n + 1 + Tr.sizes keys + Tr.sizes kids) := by
  intro k
  induction k with
  | zero => intro j _ d p m lim keys kids t r n e; simp [rcF] at e
  | succ k ih =>
    intro j hj d p m lim keys kids t r n e hm hp hK hI hN
    rcases j with _ | _ | j
    · obtain ⟨h, q, h1, h2, h3, h4, h5, h6, h7⟩ := rc0_inv e
      obtain ⟨hp', a1, a2, a3, _⟩ := hd_inv h1
      have a3' := a3 h6
      have hw := hd_word hz h1
      have z0 : ∀ {t : Tr}, NOK t ∧ t.deep + d ≤ 25 ∧ t.size + m ≤ n → NOK t ∧ (0 = 0 → t.deep + d ≤ 25 ∧ t.size + m ≤ n) ∧ (0 < 0 → d ≤ 25 → t.deep + d ≤ 26) ∧ (0 = 1 → t.size + m ≤ n + 1 + Tr.sizes kids) ∧ (0 = 2 → t.size + m ≤ n + 1 + Tr.sizes keys + Tr.sizes kids) := fun z => ⟨z.1, fun _ => z.2, fun h => absurd h (by omega), fun h => absurd h (by omega), fun h => absurd h (by omega)⟩
      have lf : ∀ {t : Tr}, alF t = 0 → Lf t → m + 1 ≤ n → NOK t ∧ t.deep + d ≤ 25 ∧ t.size + m ≤ n := fun {t} ha hl hn => ⟨nok_leaf hl ha, by rw [lf_deep hl]; omega, by rw [lf_size hl]; omega⟩
      refine z0 ?_
      rcases bod_inv h7 with ⟨rfl, rfl, hb⟩ | ⟨rfl, l, hl, hb⟩ | ⟨_, hf⟩ | ⟨_, hf⟩ | ⟨_, u, hf, h0, rfl⟩
      · rcases hb with ⟨_, rfl⟩ | ⟨_, rfl⟩ | ⟨hmj, ho⟩
        · exact lf (al_int (rt_txt (word_top (by omega))) (by simp)) ⟨rfl, rfl⟩ (Nat.le_refl _)
        · exact lf (bel_al (bel_word hw.1)) ⟨rfl, rfl⟩ (Nat.le_refl _)
        · have hlo : h.lo ≤ 27 := by
            unfold mayA at h2
            simp at h2
            omega
          obtain ⟨o1, o2⟩ := oth_al hz h1 h6 hlo ho
          exact lf o1 o2 (Nat.le_refl _)
      · obtain ⟨b1, b2, b3, b4, b5⟩ := all_ok hl
        have hr : isR h = true := by unfold isR; rcases hb with ⟨q, _⟩ | ⟨q, _⟩ <;> simp [q]
        have hlen := b3 (h4 hr)
        rcases hb with ⟨_, rfl⟩ | ⟨h3', rfl⟩
        · exact lf (al_byt hlen) ⟨rfl, rfl⟩ (Nat.le_refl _)
        · refine lf (al_txt ?_ ?_) ⟨rfl, rfl⟩ (Nat.le_refl _)
          · unfold gtx; rw [bs_str (b5 hz), b4 h3']; rfl
          · rw [strOfNums_size]; exact hlen
      · obtain ⟨c1, _, c3, c4, _⟩ := ih 1 (by omega) _ _ _ _ _ _ _ _ _ hf h3 (by omega) (by simp) (by simp) (by omega)
        have := c3 (by omega) (by omega)
        have := c4 rfl
        rw [Tr.sizes_nil] at this
        exact ⟨c1, by omega, by omega⟩
      · obtain ⟨c1, _, c3, _, c5⟩ := ih 2 (by omega) _ _ _ _ _ _ _ _ _ hf h3 (by omega) (by simp) (by simp) (fun _ => ⟨rfl, List.nodup_nil⟩)
        have := c3 (by omega) (by omega)
        have := c5 rfl
        rw [Tr.sizes_nil] at this
        exact ⟨c1, by omega, by omega⟩
      · obtain ⟨c1, c2, _⟩ := ih 0 (by omega) _ _ _ _ _ _ _ _ _ hf h3 (by omega) (by simp) (by simp) (by omega)
        have c2 := c2 rfl
        have bb := rc_bnd zs _ 0 (by omega) _ _ _ _ _ _ _ _ _ hf h3 (by omega)
        rcases tag_al h0 with ⟨t1, t2⟩ | t1
        · exact lf t1 t2 (by omega)
        · rw [t1]
          refine ⟨nok_tag _ c1, ?_, ?_⟩
          · rw [Tr.deep_eq]
            have e1 : Tr.deeps (tgT (h.n : Nat) u).keys = 0 := rfl
            have e2 : Tr.deeps (tgT (h.n : Nat) u).kids ≤ u.deep := deeps_leq fun k hk => by simp [tgT] at hk; subst hk; exact Nat.le_refl _
            omega
          · rw [Tr.size_eq]
            have e1 : Tr.sizes (tgT (h.n : Nat) u).keys = 0 := rfl
            have e2 : Tr.sizes (tgT (h.n : Nat) u).kids = u.size + 0 := Tr.sizes_cons _ _
            omega
    · rcases rc1_inv e with ⟨hg, rfl, rfl⟩ | ⟨g, hg, u, q, o, hu, hr⟩
      · refine ⟨nok_arr fun k hk => (hI k hk).1, fun h => by omega, fun _ hd => ?_, fun _ => ?_, fun h => by omega⟩
        · rw [Tr.deep_eq]
          have e1 : Tr.deeps (arrT kids).keys = 0 := rfl
          have e2 : Tr.deeps (arrT kids).kids ≤ 25 - d := deeps_leq fun k hk => by have := (hI k hk).2; omega
          omega
        · rw [Tr.size_eq]
          have e1 : Tr.sizes (arrT kids).keys = 0 := rfl
          have e2 : Tr.sizes (arrT kids).kids = Tr.sizes kids := rfl
          omega
      · obtain ⟨b1, b2, b3, b4, b5⟩ := rc_bnd zs _ 0 (by omega) _ _ _ _ _ _ _ _ _ hu hm hp
        obtain ⟨u1, u2, _⟩ := ih 0 (by omega) _ _ _ _ _ _ _ _ _ hu hm hp (by simp) (by simp) (by omega)
        have u3 := u2 rfl
        obtain ⟨c1, _, c3, c4, _⟩ := ih 1 (by omega) _ _ _ _ _ _ _ _ _ hr b4 b2 (by simp) (fun k hk => by
          rcases List.mem_append.1 hk with hk | hk
          · exact hI k hk
          · rw [List.mem_singleton] at hk; subst hk; exact ⟨u1, u3.1⟩) (by omega)
        refine ⟨c1, fun h => by omega, c3, fun _ => ?_, fun h => by omega⟩
        have := c4 rfl
        rw [Tr.sizes_app, Tr.sizes_cons, Tr.sizes_nil] at this
        omega
    · obtain rfl : j = 0 := by omega
      obtain ⟨n1, n2⟩ := hN rfl
      rcases rc2_inv e with ⟨hg, rfl, rfl⟩ | ⟨g, hg, u, q, o, hu, hk, v, s, i, hv, hr⟩
      · refine ⟨nok_map n1 (fun k hk => (hK k hk).1) (fun k hk => (hI k hk).1) n2, fun h => by omega, fun _ hd => ?_, fun h => by omega, fun _ => ?_⟩
        · rw [Tr.deep_eq]
          have e1 : Tr.deeps (mapT keys kids).keys ≤ 25 - d := deeps_leq fun k hk => by have := (hK k hk).2; omega
          have e2 : Tr.deeps (mapT keys kids).kids ≤ 25 - d := deeps_leq fun k hk => by have := (hI k hk).2; omega
          omega
        · rw [Tr.size_eq]
          have e1 : Tr.sizes (mapT keys kids).keys = Tr.sizes keys := rfl
          have e2 : Tr.sizes (mapT keys kids).kids = Tr.sizes kids := rfl
          omega
      · obtain ⟨b1, b2, b3, b4, b5⟩ := rc_bnd zs _ 0 (by omega) _ _ _ _ _ _ _ _ _ hu hm hp
        obtain ⟨d1, d2, d3, d4, d5⟩ := rc_bnd zs _ 0 (by omega) _ _ _ _ _ _ _ _ _ hv b4 b2
        obtain ⟨u1, u2, _⟩ := ih 0 (by omega) _ _ _ _ _ _ _ _ _ hu hm hp (by simp) (by simp) (by omega)
        obtain ⟨v1, v2, _⟩ := ih 0 (by omega) _ _ _ _ _ _ _ _ _ hv b4 b2 (by simp) (by simp) (by omega)
        have u3 := u2 rfl
        have v3 := v2 rfl
        have hnot : u ∉ keys := fun hm => by rw [(hasK_iff keys u).2 hm] at hk; cases hk
        obtain ⟨c1, _, c3, _, c5⟩ := ih 2 (by omega) _ _ _ _ _ _ _ _ _ hr d4 d2 (fun k hk => by
          rcases List.mem_append.1 hk with hk | hk
          · exact hK k hk
          · rw [List.mem_singleton] at hk; subst hk; exact ⟨u1, u3.1⟩) (fun k hk => by
          rcases List.mem_append.1 hk with hk | hk
          · exact hI k hk
          · rw [List.mem_singleton] at hk; subst hk; exact ⟨v1, v3.1⟩) (fun _ => ⟨by simp [n1], List.nodup_append.2 ⟨n2, by simp, fun x hx y hy => by rw [List.mem_singleton] at hy; subst hy; exact fun e => hnot (e ▸ hx)⟩⟩)
        refine ⟨c1, fun h => by omega, c3, fun h => by omega, fun _ => ?_⟩
        have := c5 rfl
        rw [Tr.sizes_app, Tr.sizes_cons, Tr.sizes_nil, Tr.sizes_app, Tr.sizes_cons, Tr.sizes_nil] at this
        omega
end Go.Proofs.YtnjbppfanmmifaaGreatDoor
