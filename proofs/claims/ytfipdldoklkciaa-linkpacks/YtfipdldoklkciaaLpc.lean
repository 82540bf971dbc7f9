/-
  What the document's own reader of datagrams calls.
-/
import Derived.Test.YtfipdldoklkciaaLpa
import Derived.Test.YtfipdldoklkciaaRefAt
import Derived.Test.YtfipdldoklkciaaQrs
namespace Go.Proofs.Ytfipdldoklkciaa
open Go.RowKit
set_option linter.unusedVariables false
set_option maxRecDepth 100000 in
theorem rat_zero (a : Option Addr) (cap : Nat) (w : World) : Calls Try.prog 49 #[.slice a 0 cap] w fun e w' => (∃ u : Bool, e = .returned (.tuple #[.slice none 0 0, .bool false, .bool u])) ∧ Hid (Below w.heap.size w w') := by
  go_enter Try.func49, Try.ntmps49
  go_wp2
  go_quiet (fail)
  go_wp2
  go_ret3
  exact ⟨⟨_, rfl⟩, (show Below _ _ _ from ⟨rfl, rfl, rfl, Nat.le_refl _, fun _ _ => rfl⟩)⟩
/-- What stands at the front of bytes. -/
def XAt (w' : World) (zs : List Int) (e : Ending) : Prop := (Whole zs → ∃ a c, e = .returned (.tuple #[.slice a (nAt zs) c, .bool true, .bool false]) ∧ Load w' 0 (.slice a (nAt zs) c) (loadAt zs) ∧ (∀ x, a = some x → x.spot = none)) ∧ (¬ Whole zs → ∃ u : Bool, e = .returned (.tuple #[.slice none 0 0, .bool false, .bool u]))
theorem xat_any (a : Option Addr) (n cap : Nat) (zs : List Int) (w : World) (hl : zs.length = n) (hB : Bytes w a zs) (hc : n ≤ cap) (hcm : cap ≤ 9223372036854775807) :
    Calls Try.prog 49 #[.slice a n cap] w fun e w' => Hid (XAt w' zs e) ∧ Hid (Below w.heap.size w w') := by
  by_cases h0 : n = 0
  · subst h0
    have hz : zs = [] := List.eq_nil_of_length_eq_zero hl
    have hw : ¬ Whole zs := fun h => by
      have := h.2.1
      rw [hz] at this
      simp at this
    refine (rat_zero a cap w).mono ?_
    rintro e w' ⟨⟨u, rfl⟩, hb⟩
    exact ⟨⟨fun h => absurd h hw, fun _ => ⟨u, rfl⟩⟩, hb⟩
  · obtain ⟨b, off, rfl⟩ := bytes_some hB (by omega)
    have no : ∀ (u : Bool) (h : ¬ Whole zs) w', XAt w' zs (.returned (.tuple #[.slice none 0 0, .bool false, .bool u])) := fun u h w' => ⟨fun k => absurd k h, fun _ => ⟨u, rfl⟩⟩
    by_cases hm : Marked zs
    · by_cases h4 : n < 4
      · have hw : ¬ Whole zs := fun h => by have := h.2.1; omega
        refine (rat_short b off n cap zs w hl (by omega) h4 hB hm).mono ?_
        rintro e w' ⟨rfl, hb⟩
        exact ⟨no _ hw w', hb⟩
      · by_cases hN : 1200 < nAt zs
        · have hw : ¬ Whole zs := fun h => by have := h.1.2; omega
          refine (rat_no4 b off n cap zs w hl (by omega) hB hm hN).mono ?_
          rintro e w' ⟨rfl, hb⟩
          exact ⟨no _ hw w', hb⟩
        · have hf : Front zs := ⟨hm, by omega⟩
          by_cases h8 : n < nAt zs + 8
          · have hw : ¬ Whole zs := fun h => by have := h.2.1; omega
            refine (rat_few4 b off n cap zs w hl (by omega) hB ⟨hf, by omega⟩).mono ?_
            rintro e w' ⟨rfl, hb⟩
            exact ⟨no _ hw w', hb⟩
          · by_cases hs : Sealed ((zs.take (nAt zs + 8)).drop 2)
            · have hw : Whole zs := ⟨hf, by omega, hs⟩
              refine (rat_whole b off n cap zs w hl hc hcm hB hw).mono ?_
              rintro e w' ⟨a', c', rfl, hL, hsp, hb⟩
              exact ⟨⟨fun _ => ⟨a', c', rfl, hL, hsp⟩, fun k => absurd hw k⟩, hb⟩
            · have hw : ¬ Whole zs := fun h => hs h.2.2
              refine (rat_bad b off n cap zs w hl hc hcm hB hf (by omega) hs).mono ?_
              rintro e w' ⟨rfl, hb⟩
              exact ⟨no _ hw w', hb⟩
    · have hw : ¬ Whole zs := fun h => hm h.1.1
      refine (rat_mark b off n cap zs w hl (by omega) hB hm).mono ?_
      rintro e w' ⟨rfl, rfl⟩
      exact ⟨no _ hw _, Below.refl _ _⟩
/-- A short number, read at any state. -/
theorem rshort_u (r p y f n cap : Nat) (a : Option Addr) (zs : List Int) (w : World) (h : RCur w r a n cap zs p y f) :
    Calls Try.prog 51 #[.pointer (some ⟨r, 0, none⟩)] w fun e w' => e = .returned (.int .u64 ((sS zs p y f).1 : Nat)) ∧ Hid (RCur w' r a n cap zs (sS zs p y f).2.1 (sS zs p y f).2.2.1 (sS zs p y f).2.2.2) ∧ Hid (w.grownBy w' (some r)) := by
  by_cases hy : y = 0
  · subst hy
    refine (rshort_go r p f n cap a zs w h).mono ?_
    rintro e w' ⟨rfl, h1, h2⟩
    exact ⟨rfl, h1, h2⟩
  · have e1 : sS zs p y f = (0, p, y, f) := by unfold sS; rw [if_pos hy]
    rw [e1]
    refine (rshort_stop r p y f n cap a zs w h hy).mono ?_
    rintro e w' ⟨rfl, rfl⟩
    exact ⟨rfl, h, World.grownBy.refl _ _⟩
/-- All that is left, taken. -/
theorem rtake_rest (r p y f n cap : Nat) (a : Option Addr) (zs : List Int) (w : World) (h : RCur w r a n cap zs p y f) (ha : y = 0 → a ≠ none) :
    Calls Try.prog 52 #[.pointer (some ⟨r, 0, none⟩), .int .i64 ((n - p : Nat) : Int)] w fun e w' => ∃ a3 k c3, e = .returned (.slice a3 k c3) ∧ Hid (Bytes w' a3 (if y = 0 then zs.drop p else []) ∧ (if y = 0 then zs.drop p else []).length = k ∧ (∀ x, a3 = some x → w.heap.size ≤ x.block)) ∧ Hid (∃ p', RCur w' r a n cap zs p' y f) ∧ Hid (w.grownBy w' (some r)) := by
  by_cases hy : y = 0
  · subst hy
    obtain ⟨x, rfl⟩ : ∃ x, a = some x := by
      cases a with
      | none => exact absurd rfl (ha rfl)
      | some x => exact ⟨x, rfl⟩
    have hp := h.2.2.2.1
    have hn := h.2.2.1
    have hc := h.2.2.2.2.2.1
    by_cases hpc : p < cap
    · have hsp := h.2.2.2.2.2.2.2.2.2 x rfl (by omega)
      obtain ⟨b, off, sp⟩ := x
      obtain rfl : sp = none := hsp
      refine (rtake_mid r p f n cap (n - p) b off zs w h (by omega) hpc).mono ?_
      rintro e w' ⟨v, rfl, hO, hC, hG⟩
      obtain ⟨a3, n3, c3, rfl, hl3, h03, hc3, hm3, hB3⟩ := hO.form
      have e1 : (zs.drop p).take (n - p) = zs.drop p := List.take_of_length_le (by rw [List.length_drop]; omega)
      have hat : ∀ x, a3 = some x → w.heap.size ≤ x.block := fun x hx => by
        obtain ⟨a4, c4, hv, _, _, _, h5⟩ := hO.shape
        cases hv
        exact (h5 x hx).1
      rw [e1] at hB3 hl3
      exact ⟨a3, n3, c3, rfl, ⟨hB3.out, hl3.out, hat⟩, ⟨_, hC⟩, hG⟩
    · have e1 : n = p := by omega
      have e2 : cap = p := by omega
      subst e1
      subst e2
      have h' := rtake_last r f _ x zs w h
      rw [Nat.sub_self]
      refine h'.mono ?_
      rintro e w' ⟨v, rfl, hO, hC, hG⟩
      obtain ⟨a3, n3, c3, rfl, hl3, h03, hc3, hm3, hB3⟩ := hO.form
      have hat : ∀ x, a3 = some x → w.heap.size ≤ x.block := fun x hx => by
        obtain ⟨a4, c4, hv, _, _, _, h5⟩ := hO.shape
        cases hv
        exact (h5 x hx).1
      have e3 : zs.drop zs.length = [] := List.drop_length
      rw [hn] at e3
      rw [if_pos rfl, e3]
      exact ⟨a3, n3, c3, rfl, ⟨hB3.out, hl3.out, hat⟩, ⟨_, hC⟩, hG⟩
  · rw [if_neg hy]
    refine (rtake_stop r p y f n cap a zs _ w h hy).mono ?_
    rintro e w' ⟨rfl, rfl⟩
    exact ⟨none, 0, 0, rfl, ⟨⟨by simp, by simp, .inl rfl⟩, rfl, fun x hx => by cases hx⟩, ⟨p, h⟩, World.grownBy.refl _ _⟩
/-- The message that the document's own reader reads. -/
def xM (l : List Int) : Mg := ⟨xnum (uV l 0), uV l 1, xnum (uV l 2), xnum (uV l 3), xnum (uV l 4), uV l 5, xnum (uV l 6), xnum (uV l 7), if (uS l 8).2.1 = 0 then l.drop (uS l 8).1 else []⟩
theorem uV_lt (l : List Int) (hz : ∀ c ∈ l, 0 ≤ c ∧ c < 256) (k : Nat) : uV l k < 18446744073709551616 := by
  unfold uV sS
  split
  · show (0 : Nat) < 18446744073709551616; decide
  split
  · exact rdS_lt _ 0 0 (fun c hc => hz c (List.mem_of_mem_drop hc)) (by omega) (by simp)
  split
  · show (0 : Nat) < 18446744073709551616; decide
  · show (0 : Nat) < 18446744073709551616; decide
theorem x_one {v : Nat} (h : v < 18446744073709551616) {lo hi : Int} (h0 : 0 ≤ lo) (h1 : hi ≤ 4611686018427387904) : (lo ≤ xnum v ∧ xnum v ≤ hi ↔ lo ≤ IntKind.i64.wrap (v : Int) ∧ IntKind.i64.wrap (v : Int) ≤ hi) ∧ (lo ≤ xnum v ∧ xnum v ≤ hi → xnum v = IntKind.i64.wrap (v : Int)) := by
  rw [IntKind.wrap_i64]
  unfold xnum
  split
  · refine ⟨⟨fun k => by omega, fun k => by omega⟩, fun k => by omega⟩
  · refine ⟨⟨fun k => by omega, fun k => by omega⟩, fun k => by omega⟩
/-- THEY READ ALIKE. -/
theorem xM_may (l : List Int) (hz : ∀ c ∈ l, 0 ≤ c ∧ c < 256) : mayM (xM l) = mayM (upM l) ∧ (mayM (xM l) = true → xM l = upM l) := by
  have b0 := uV_lt l hz 0
  have b2 := uV_lt l hz 2
  have b3 := uV_lt l hz 3
  have b4 := uV_lt l hz 4
  have b6 := uV_lt l hz 6
  have b7 := uV_lt l hz 7
  unfold xM upM ui
  generalize uV l 0 = v0 at *
  generalize uV l 1 = v1 at *
  generalize uV l 2 = v2 at *
  generalize uV l 3 = v3 at *
  generalize uV l 4 = v4 at *
  generalize uV l 5 = v5 at *
  generalize uV l 6 = v6 at *
  generalize uV l 7 = v7 at *
  generalize uS l 8 = u at *
  have f0 := x_one b0 (lo := 1) (hi := 7) (by decide) (by decide)
  have f2 := x_one b2 (lo := 0) (hi := 4611686018427387904) (by decide) (by decide)
  have f3 := x_one b3 (lo := 0) (hi := 4611686018427387904) (by decide) (by decide)
  have f4 := x_one b4 (lo := 0) (hi := 4611686018427387904) (by decide) (by decide)
  have f6 := x_one b6 (lo := 0) (hi := 4611686018427387904) (by decide) (by decide)
  have f7 := x_one b7 (lo := 0) (hi := 2) (by decide) (by decide)
  refine ⟨?_, fun hm => ?_⟩
  · rw [Bool.eq_iff_iff, mayM_iff, mayM_iff]
    dsimp only
    rw [f0.1, f2.1, f3.1, f4.1, f6.1, f7.1]
  · have h1 := mayM_iff.1 hm
    dsimp only at h1
    rw [f0.2 h1.1, f7.2 h1.2.1, f2.2 h1.2.2.1, f3.2 h1.2.2.2.1, f4.2 h1.2.2.2.2.1, f6.2 h1.2.2.2.2.2]
end Go.Proofs.Ytfipdldoklkciaa
