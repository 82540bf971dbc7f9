/-
  What can be told of a place, in the program: the least length by the head, the mark, and whether a whole frame stands there.
-/
import Derived.Test.YtfipdldoklkciaaLoads
namespace Go.Proofs.Ytfipdldoklkciaa
open Go.RowKit

theorem byte_at {w : World} {b off : Nat} {zs : List Int} (hB : Bytes w (some ⟨b, off, none⟩) zs) {i : Nat} (hi : i < zs.length) :
    w.cell? ⟨b, off + i, none⟩ = some (.int .u8 ((zs.getD i 0).toNat : Int)) ∧ (zs.getD i 0).toNat < 256 := by
  rcases hB.2.2 with h0 | ⟨b', off', hx, hc⟩
  · subst h0; simp at hi
  · cases hx
    have hm : zs.getD i 0 ∈ zs := by rw [List.getD_eq_getElem?_getD, List.getElem?_eq_getElem hi]; exact List.getElem_mem hi
    have hz := hB.1 _ hm
    refine ⟨?_, by omega⟩
    rw [hc i hi, Int.toNat_of_nonneg hz.1]

set_option maxHeartbeats 400000 in
theorem least_any (b off n cap : Nat) (zs : List Int) (w : World) (hl : zs.length = n) (hB : Bytes w (some ⟨b, off, none⟩) zs) :
    Calls Try.prog 109 #[.slice (some ⟨b, off, none⟩) n cap] w fun e w' => e = .returned (.int .i64 (nAt zs : Nat)) ∧ w' = w := by
  by_cases h3 : 3 < n
  · obtain ⟨c2, z2⟩ := byte_at hB (i := 2) (by omega)
    obtain ⟨c3, z3⟩ := byte_at hB (i := 3) (by omega)
    have e : Hid (nAt zs = (zs.getD 2 0).toNat * 256 + (zs.getD 3 0).toNat) := rfl
    generalize (zs.getD 2 0).toNat = m2 at *
    generalize (zs.getD 3 0).toNat = m3 at *
    clear hB hl
    have d1 : decide (2 < (n : Int)) = true := by simp; omega
    have d2 : decide (3 < (n : Int)) = true := by simp; omega
    go_enter Try.func109, Try.ntmps109
    go_wp2
    go_ret
    exact ⟨by rw [e.out]; rfl, rfl⟩
  · by_cases h2 : 2 < n
    · obtain ⟨c2, z2⟩ := byte_at hB (i := 2) (by omega)
      have e : Hid (nAt zs = (zs.getD 2 0).toNat * 256) := by show _ = _; unfold nAt; rw [getD_out (i := 3) (by omega)]; exact Nat.add_zero _
      generalize (zs.getD 2 0).toNat = m2 at *
      clear hB hl
      have d1 : decide (2 < (n : Int)) = true := by simp; omega
      have d2 : decide (3 < (n : Int)) = false := by simp; omega
      go_enter Try.func109, Try.ntmps109
      go_wp2
      go_ret
      exact ⟨by rw [e.out]; rfl, rfl⟩
    · have e : Hid (nAt zs = 0) := by show _ = _; unfold nAt; rw [getD_out (i := 3) (by omega), getD_out (i := 2) (by omega)]; rfl
      clear hB hl
      have d1 : decide (2 < (n : Int)) = false := by simp; omega
      have d2 : decide (3 < (n : Int)) = false := by simp; omega
      go_enter Try.func109, Try.ntmps109
      go_wp2
      go_ret
      exact ⟨by rw [e.out]; rfl, rfl⟩

instance (b : List Int) : Decidable (Marked b) := by unfold Marked; infer_instance

set_option maxHeartbeats 400000 in
theorem marked_any (b off n cap : Nat) (zs : List Int) (w : World) (hl : zs.length = n) (hp : 0 < n) (hB : Bytes w (some ⟨b, off, none⟩) zs) :
    Calls Try.prog 110 #[.slice (some ⟨b, off, none⟩) n cap] w fun e w' => e = .returned (.bool (decide (Marked zs))) ∧ w' = w := by
  obtain ⟨c0', z0⟩ := byte_at hB (i := 0) (by omega)
  have c0 : w.cell? ⟨b, off, none⟩ = some (.int .u8 ((zs.getD 0 0).toNat : Int)) := c0'
  clear c0'
  by_cases h0 : zs.getD 0 0 = 165
  · rw [h0] at c0
    by_cases h1 : n < 2
    · have e : Hid (decide (Marked zs) = true) := by exact decide_eq_true (⟨h0, .inl (by omega)⟩ : Marked zs)
      have d1 : decide ((n : Int) < 2) = true := by simp; omega
      clear hB hl h0 z0
      go_enter Try.func110, Try.ntmps110
      go_wp2
      go_ret
      exact ⟨by rw [e.out]; rfl, rfl⟩
    · obtain ⟨c1, z1⟩ := byte_at hB (i := 1) (by omega)
      have d1 : decide ((n : Int) < 2) = false := by simp; omega
      have z : 0 ≤ zs.getD 1 0 := (hB.1 _ (by rw [List.getD_eq_getElem?_getD, List.getElem?_eq_getElem (by omega)]; exact List.getElem_mem _)).1
      have e : Hid (decide (Marked zs) = (((zs.getD 1 0).toNat : Int) == 90)) := by
        show _ = _
        rw [Int.toNat_of_nonneg z, Bool.eq_iff_iff, decide_eq_true_iff, beq_iff_eq]
        exact ⟨fun h => by rcases h.2 with h5 | h5 <;> omega, fun h => ⟨h0, .inr h⟩⟩
      generalize (zs.getD 1 0).toNat = m1 at *
      clear hB hl h0 z0 z
      go_enter Try.func110, Try.ntmps110
      go_wp2
      go_ret
      exact ⟨by rw [e.out]; rfl, rfl⟩
  · have z : 0 ≤ zs.getD 0 0 := (hB.1 _ (by rw [List.getD_eq_getElem?_getD, List.getElem?_eq_getElem (by omega)]; exact List.getElem_mem _)).1
    have e : Hid (decide (Marked zs) = false) := by exact decide_eq_false (fun h : Marked zs => h0 h.1)
    have d0 : ((((zs.getD 0 0).toNat : Nat) : Int) == 165) = false := by rw [Int.toNat_of_nonneg z]; simpa using h0
    generalize (zs.getD 0 0).toNat = m0 at *
    clear hB hl h0 z
    go_enter Try.func110, Try.ntmps110
    go_wp2
    go_ret
    exact ⟨by rw [e.out]; rfl, rfl⟩

set_option maxHeartbeats 400000 in
theorem tell_no (b off n cap : Nat) (zs : List Int) (w : World) (hl : zs.length = n) (hp : 0 < n) (hB : Bytes w (some ⟨b, off, none⟩) zs) (h : ¬ Front zs) :
    Calls Try.prog 106 #[.slice (some ⟨b, off, none⟩) n cap] w fun e w' => e = .returned (.tuple #[.slice none 0 0, .int .i64 0]) ∧ w' = w := by
  have k1 := least_any b off n cap zs w hl hB
  have k2 := marked_any b off n cap zs w hl hp hB
  by_cases hm : Marked zs
  · have d1 : decide (Marked zs) = true := decide_eq_true hm
    have d2 : decide (1200 < ((nAt zs : Nat) : Int)) = true := by
      have : 1200 < nAt zs := by
        rcases Nat.lt_or_ge 1200 (nAt zs) with h1 | h1
        · exact h1
        · exact absurd ⟨hm, h1⟩ h
      simp; omega
    rw [d1] at k2
    clear hB hl h hm d1
    generalize nAt zs = N at *
    go_enter Try.func106, Try.ntmps106
    go_wp2_with (first | (go_at_call 109; refine k1.mono ?_; rintro e w' ⟨rfl, rfl⟩) | (go_at_call 110; refine k2.mono ?_; rintro e w' ⟨rfl, rfl⟩))
    go_ret2
    exact ⟨rfl, rfl⟩
  · have d1 : decide (Marked zs) = false := decide_eq_false hm
    rw [d1] at k2
    clear hB hl h hm d1
    generalize nAt zs = N at *
    go_enter Try.func106, Try.ntmps106
    go_wp2_with (first | (go_at_call 109; refine k1.mono ?_; rintro e w' ⟨rfl, rfl⟩) | (go_at_call 110; refine k2.mono ?_; rintro e w' ⟨rfl, rfl⟩))
    go_ret2
    exact ⟨rfl, rfl⟩

set_option maxHeartbeats 400000 in
theorem tell_few (b off n cap : Nat) (zs : List Int) (w : World) (hl : zs.length = n) (hp : 0 < n) (hB : Bytes w (some ⟨b, off, none⟩) zs) (h : Few zs) :
    Calls Try.prog 106 #[.slice (some ⟨b, off, none⟩) n cap] w fun e w' => e = .returned (.tuple #[.slice none 0 0, .int .i64 1]) ∧ w' = w := by
  have k1 := least_any b off n cap zs w hl hB
  have k2 := marked_any b off n cap zs w hl hp hB
  have d1 : decide (Marked zs) = true := decide_eq_true h.1.1
  have z1 : nAt zs ≤ 1200 := h.1.2
  have z2 : n < nAt zs + 8 := by rw [← hl]; exact h.2
  rw [d1] at k2
  clear hB hl h d1
  generalize nAt zs = N at *
  have d2 : decide (1200 < (N : Int)) = false := by simp; omega
  have d3 : decide ((n : Int) < (N : Int) + 8) = true := by simp; omega
  go_enter Try.func106, Try.ntmps106
  go_wp2_with (first | (go_at_call 109; refine k1.mono ?_; rintro e w' ⟨rfl, rfl⟩) | (go_at_call 110; refine k2.mono ?_; rintro e w' ⟨rfl, rfl⟩))
  go_ret2
  exact ⟨rfl, rfl⟩

theorem inner_len {zs : List Int} {N : Nat} (h : N + 8 ≤ zs.length) : ((zs.take (N + 8)).drop 2).length = N + 6 := by
  rw [List.length_drop, List.length_take]; omega
theorem inner_load {zs : List Int} {N : Nat} : (((zs.take (N + 8)).drop 2).take (N + 2)).drop 2 = (zs.drop 4).take N := by
  rw [List.drop_take, List.drop_drop, List.drop_take, List.take_take]
  congr 1
  omega

set_option maxHeartbeats 400000 in
theorem tell_bad (b off n cap : Nat) (zs : List Int) (w : World) (hl : zs.length = n) (hc : n ≤ cap) (hcm : cap ≤ 9223372036854775807) (hB : Bytes w (some ⟨b, off, none⟩) zs) (hf : Front zs) (hn : nAt zs + 8 ≤ n) (hs : ¬ Sealed ((zs.take (nAt zs + 8)).drop 2)) :
    Calls Try.prog 106 #[.slice (some ⟨b, off, none⟩) n cap] w fun e w' => e = .returned (.tuple #[.slice none 0 0, .int .i64 0]) ∧ Below w.heap.size w w' := by
  have k1 := least_any b off n cap zs w hl hB
  have k2 := marked_any b off n cap zs w hl (by omega) hB
  have d1 : decide (Marked zs) = true := decide_eq_true hf.1
  have z1 : nAt zs ≤ 1200 := hf.2
  rw [d1] at k2
  have k3 := fun c h1 h2 => opens_not (some ⟨b, off + 2, none⟩) (nAt zs + 6) c ((zs.take (nAt zs + 8)).drop 2) w ((hB.take _).drop 2) (inner_len (by omega)) h1 h2 hs
  clear hB hl hf d1 hs
  generalize nAt zs = N at *
  have d2 : decide (1200 < (N : Int)) = false := by simp; omega
  have d3 : decide ((n : Int) < (N : Int) + 8) = false := by simp; omega
  have i1 : (N : Int) + 8 ≤ (cap : Int) := by omega
  have i2 : (2 : Int) ≤ (N : Int) + 8 := by omega
  have i3 : (cap = 2) = False := by simp; omega
  have i4 : N + 8 - 2 = N + 6 := by omega
  go_enter Try.func106, Try.ntmps106
  go_wp2_with (first | (go_at_call 109; refine k1.mono ?_; rintro e w' ⟨rfl, rfl⟩) | (go_at_call 110; refine k2.mono ?_; rintro e w' ⟨rfl, rfl⟩) | (go_at_call 111; refine (k3 _ (by omega) (by omega)).mono ?_; rintro e w1 ⟨rfl, hb1⟩))
  go_ret2
  exact ⟨rfl, hb1⟩

set_option maxHeartbeats 400000 in
theorem tell_whole (b off n cap : Nat) (zs : List Int) (w : World) (hl : zs.length = n) (hc : n ≤ cap) (hcm : cap ≤ 9223372036854775807) (hB : Bytes w (some ⟨b, off, none⟩) zs) (h : Whole zs) :
    Calls Try.prog 106 #[.slice (some ⟨b, off, none⟩) n cap] w fun e w' => ∃ a' c', e = .returned (.tuple #[.slice a' (nAt zs) c', .int .i64 2]) ∧ Load w' 0 (.slice a' (nAt zs) c') (loadAt zs) ∧ Below w.heap.size w w' := by
  obtain ⟨hf, hn, hs⟩ := h
  rw [hl] at hn
  have k1 := least_any b off n cap zs w hl hB
  have k2 := marked_any b off n cap zs w hl (by omega) hB
  have d1 : decide (Marked zs) = true := decide_eq_true hf.1
  have z1 : nAt zs ≤ 1200 := hf.2
  rw [d1] at k2
  have il := inner_len (zs := zs) (N := nAt zs) (by omega)
  have k3 := fun c h1 h2 => opens (some ⟨b, off + 2, none⟩) (nAt zs + 6) c ((zs.take (nAt zs + 8)).drop 2) w ((hB.take _).drop 2) il h1 h2 (by omega) hs
  rw [il, show nAt zs + 6 - 4 = nAt zs + 2 from by omega] at k3
  have hT : Hid (((zs.take (nAt zs + 8)).drop 2).take (nAt zs + 2) = ((zs.take (nAt zs + 8)).drop 2).take (nAt zs + 2)) := rfl
  have hTl : Hid ((((zs.take (nAt zs + 8)).drop 2).take (nAt zs + 2)).length = nAt zs + 2) := by show _ = _; rw [List.length_take, il]; omega
  have hLd : Hid ((((zs.take (nAt zs + 8)).drop 2).take (nAt zs + 2)).drop 2 = loadAt zs) := inner_load
  have hLl : Hid ((loadAt zs).length = nAt zs) := load_len (by omega)
  clear hB hl hf d1 hs hT il
  generalize ((zs.take (nAt zs + 8)).drop 2).take (nAt zs + 2) = T at *
  generalize loadAt zs = L at *
  generalize nAt zs = N at *
  have d2 : decide (1200 < (N : Int)) = false := by simp; omega
  have d3 : decide ((n : Int) < (N : Int) + 8) = false := by simp; omega
  have i1 : (N : Int) + 8 ≤ (cap : Int) := by omega
  have i2 : (2 : Int) ≤ (N : Int) + 8 := by omega
  have i3 : (cap = 2) = False := by simp; omega
  have i4 : N + 8 - 2 = N + 6 := by omega
  go_enter Try.func106, Try.ntmps106
  go_wp2_with (first | (go_at_call 109; refine k1.mono ?_; rintro e w' ⟨rfl, rfl⟩) | (go_at_call 110; refine k2.mono ?_; rintro e w' ⟨rfl, rfl⟩))
  refine (k3 _ (by omega) (by omega)).mono ?_
  rintro e w1 ⟨v1, rfl, ho1, hb1⟩
  obtain ⟨g1, n1, cap1, rfl, hR1, hl1, hc1, hm1⟩ := ho1.row (by have := hTl.out; omega)
  obtain rfl : n1 = N + 2 := by rw [← hl1.out, hTl.out]
  clear hl1 k3
  have j1 : (2 : Int) ≤ (N : Int) + 2 := by omega
  have j2 : N + 2 - 2 = N := by omega
  by_cases hq : cap1 = 2
  · subst hq
    go_wp2
    go_ret2
    obtain rfl : N = 0 := by omega
    refine ⟨_, _, rfl, ?_, hb1⟩
    have h1 : L = [] := List.eq_nil_of_length_eq_zero hLl.out
    subst h1
    refine ⟨_, _, rfl, ⟨by simp, by simp, .inl rfl⟩, by simp, by simp, by simp [maxLen], fun x hx _ => ?_⟩
    cases hx
    rcases hR1.out.1.2 with ⟨h1, _⟩ | ⟨g, cap', cur, h1, _, hg, _⟩
    · cases h1
    · cases h1
      exact .inr ⟨_, _, hg⟩
  · have j3 : (cap1 = 2) = False := by simp [hq]
    go_wp2
    go_ret2
    refine ⟨_, _, rfl, ?_, hb1⟩
    have hby := hR1.out.bytes.drop 2
    rw [hLd.out] at hby
    refine ⟨some ⟨g1, 0 + 2, none⟩, cap1 - 2, by rw [hLl.out], hby, by simp, by rw [hLl.out]; omega, by unfold maxLen; omega, fun x hx _ => ?_⟩
    cases hx
    rcases hR1.out.1.2 with ⟨h1, _⟩ | ⟨g, cap', cur, h1, _, hg, _⟩
    · cases h1
    · cases h1
      exact .inr ⟨_, _, hg⟩
