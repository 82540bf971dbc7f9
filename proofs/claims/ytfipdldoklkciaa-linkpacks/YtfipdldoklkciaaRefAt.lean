/-
  What stands at a place, and the look through bytes, as the document's own answer has them.
-/
import Derived.Test.YtfipdldoklkciaaGae
import Derived.Test.YtfipdldoklkciaaRefOpen
namespace Go.Proofs.Ytfipdldoklkciaa
open Go.RowKit

set_option maxRecDepth 100000 in
theorem nat_byte {w : World} {a : Option Addr} {zs : List Int} (hB : Bytes w a zs) (i : Nat) (hi : i < zs.length) : 0 ≤ zs.getD i 0 := by
  have hm : zs.getD i 0 ∈ zs := by rw [List.getD_eq_getElem?_getD, List.getElem?_eq_getElem hi]; exact List.getElem_mem hi
  exact (hB.1 _ hm).1

set_option maxHeartbeats 400000 in
set_option maxRecDepth 100000 in
/-- No mark. -/
theorem rat_mark (b off n cap : Nat) (zs : List Int) (w : World) (hl : zs.length = n) (hp : 0 < n) (hB : Bytes w (some ⟨b, off, none⟩) zs) (h : ¬ Marked zs) :
    Calls Try.prog 49 #[.slice (some ⟨b, off, none⟩) n cap] w fun e w' => e = .returned (.tuple #[.slice none 0 0, .bool false, .bool false]) ∧ w' = w := by
  obtain ⟨c0', z0⟩ := byte_at hB (i := 0) (by omega)
  have c0 : w.cell? ⟨b, off, none⟩ = some (.int .u8 ((zs.getD 0 0).toNat : Int)) := c0'
  have y0 := nat_byte hB 0 (by omega)
  have d1 : decide ((1 : Int) ≤ (n : Int)) = true := by simp; omega
  clear c0'
  by_cases h0 : zs.getD 0 0 = 165
  · have h1 : 2 ≤ n := by
      rcases Nat.lt_or_ge n 2 with h2 | h2
      · exact absurd ⟨h0, .inl (by omega)⟩ h
      · exact h2
    obtain ⟨c1, z1⟩ := byte_at hB (i := 1) (by omega)
    have y1 := nat_byte hB 1 (by omega)
    have hne : zs.getD 1 0 ≠ 90 := fun h2 => h ⟨h0, .inr h2⟩
    have e1 : ((((zs.getD 1 0).toNat : Nat) : Int) != 90) = true := by rw [Int.toNat_of_nonneg y1, bne_iff_ne]; exact hne
    have d2 : decide ((2 : Int) ≤ (n : Int)) = true := by simp; omega
    rw [h0] at c0
    generalize (zs.getD 1 0).toNat = m1 at *
    clear hB hl h0 h z0 y0 y1 hne
    go_enter Try.func49, Try.ntmps49
    go_wp2
    go_ret3
    exact ⟨rfl, rfl⟩
  · have e0 : ((((zs.getD 0 0).toNat : Nat) : Int) != 165) = true := by rw [Int.toNat_of_nonneg y0, bne_iff_ne]; exact h0
    generalize (zs.getD 0 0).toNat = m0 at *
    clear hB hl h0 h y0
    go_enter Try.func49, Try.ntmps49
    go_wp2
    go_ret3
    exact ⟨rfl, rfl⟩

set_option maxRecDepth 100000 in
/-- The mark's two bytes, as the walk reads them. -/
theorem mark_cells {w : World} {b off : Nat} {zs : List Int} (hB : Bytes w (some ⟨b, off, none⟩) zs) (hm : Marked zs) (hp : 0 < zs.length) :
    w.cell? ⟨b, off, none⟩ = some (.int .u8 165) ∧ (2 ≤ zs.length → w.cell? ⟨b, off + 1, none⟩ = some (.int .u8 90)) := by
  obtain ⟨c0, _⟩ := byte_at hB (i := 0) hp
  rw [hm.1] at c0
  refine ⟨c0, fun h2 => ?_⟩
  obtain ⟨c1, _⟩ := byte_at hB (i := 1) (by omega)
  rcases hm.2 with h | h
  · omega
  · rw [h] at c1
    exact c1

set_option maxHeartbeats 400000 in
set_option maxRecDepth 100000 in
/-- Fewer than four bytes. -/
theorem rat_short (b off n cap : Nat) (zs : List Int) (w : World) (hl : zs.length = n) (hp : 0 < n) (h4 : n < 4) (hB : Bytes w (some ⟨b, off, none⟩) zs) (hm : Marked zs) :
    Calls Try.prog 49 #[.slice (some ⟨b, off, none⟩) n cap] w fun e w' => e = .returned (.tuple #[.slice none 0 0, .bool false, .bool (decide (nAt zs ≤ 1200))]) ∧ Below w.heap.size w w' := by
  obtain ⟨c0, c1⟩ := mark_cells hB hm (by omega)
  rw [hl] at c1
  have d1 : decide ((1 : Int) ≤ (n : Int)) = true := by simp; omega
  have d4 : decide ((n : Int) < 4) = true := by simp; omega
  have e3 : nAt zs = (zs.getD 2 0).toNat * 256 := by unfold nAt; rw [getD_out (i := 3) (by omega)]; exact Nat.add_zero _
  by_cases h3 : n < 3
  · have hf : Hid (decide (nAt zs ≤ 1200) = true) := by
      refine decide_eq_true ?_
      rw [e3, getD_out (i := 2) (by omega)]
      decide
    have d3 : decide ((n : Int) < 3) = true := by simp; omega
    clear hB hm e3 hl
    by_cases h2 : 2 ≤ n
    · have c1' := c1 h2
      have d2 : decide ((2 : Int) ≤ (n : Int)) = true := by simp; omega
      clear c1
      go_enter Try.func49, Try.ntmps49
      go_wp2
      go_quiet (fail)
      go_wp2
      go_ret3
      exact ⟨by rw [hf.out]; rfl, below_drewN (Below.refl _ _) nq⟩
    · have d2 : decide ((2 : Int) ≤ (n : Int)) = false := by simp; omega
      clear c1
      go_enter Try.func49, Try.ntmps49
      go_wp2
      go_quiet (fail)
      go_wp2
      go_ret3
      exact ⟨by rw [hf.out]; rfl, below_drewN (Below.refl _ _) nq⟩
  · have c1' := c1 (by omega)
    have d2 : decide ((2 : Int) ≤ (n : Int)) = true := by simp; omega
    have d3 : decide ((n : Int) < 3) = false := by simp; omega
    obtain ⟨c2, z2⟩ := byte_at hB (i := 2) (by omega)
    rw [e3]
    clear hB hm hl c1 e3
    generalize (zs.getD 2 0).toNat = m2 at *
    have hf : Hid (decide (m2 * 256 ≤ 1200) = decide ((m2 : Int) * 256 ≤ 1200)) := by
      show _ = _
      rw [decide_eq_decide]
      omega
    have i1 : (2 : Int) < (n : Int) := by omega
    go_enter Try.func49, Try.ntmps49
    go_wp2
    go_quiet (fail)
    go_wp2
    go_ret3
    exact ⟨by rw [hf.out]; rfl, below_drewN (Below.refl _ _) nq⟩

set_option maxRecDepth 100000 in
/-- What a walk is told of four bytes and more. -/
theorem head_cells {w : World} {b off n : Nat} {zs : List Int} (hB : Bytes w (some ⟨b, off, none⟩) zs) (hm : Marked zs) (hl : zs.length = n) (h4 : 4 ≤ n) :
    ∃ m2 m3 : Nat, m2 < 256 ∧ m3 < 256 ∧ w.cell? ⟨b, off, none⟩ = some (.int .u8 165) ∧ w.cell? ⟨b, off + 1, none⟩ = some (.int .u8 90) ∧ w.cell? ⟨b, off + 2, none⟩ = some (.int .u8 m2) ∧ w.cell? ⟨b, off + 3, none⟩ = some (.int .u8 m3) ∧ nAt zs = m2 * 256 + m3 := by
  obtain ⟨c0, c1⟩ := mark_cells hB hm (by omega)
  obtain ⟨c2, z2⟩ := byte_at hB (i := 2) (by omega)
  obtain ⟨c3, z3⟩ := byte_at hB (i := 3) (by omega)
  exact ⟨_, _, z2, z3, c0, c1 (by omega), c2, c3, rfl⟩

set_option maxHeartbeats 400000 in
set_option maxRecDepth 100000 in
theorem rat_no4 (b off n cap : Nat) (zs : List Int) (w : World) (hl : zs.length = n) (h4 : 4 ≤ n) (hB : Bytes w (some ⟨b, off, none⟩) zs) (hm : Marked zs) (hN : 1200 < nAt zs) :
    Calls Try.prog 49 #[.slice (some ⟨b, off, none⟩) n cap] w fun e w' => e = .returned (.tuple #[.slice none 0 0, .bool false, .bool false]) ∧ Below w.heap.size w w' := by
  obtain ⟨m2, m3, z2, z3, c0, c1, c2, c3, hn⟩ := head_cells hB hm hl h4
  rw [hn] at hN
  have d1 : decide ((1 : Int) ≤ (n : Int)) = true := by simp; omega
  have d2 : decide ((2 : Int) ≤ (n : Int)) = true := by simp; omega
  have d4 : decide ((n : Int) < 4) = false := by simp; omega
  have i2 : (2 : Int) < (n : Int) := by omega
  have i3 : (3 : Int) < (n : Int) := by omega
  have d5 : decide (1200 < (m2 : Int) * 256 + (m3 : Int)) = true := by simp; omega
  clear hB hm hl hn
  go_enter Try.func49, Try.ntmps49
  go_wp2
  go_quiet (fail)
  go_wp2
  go_ret3
  exact ⟨rfl, below_drewN (Below.refl _ _) nq⟩

set_option maxHeartbeats 400000 in
set_option maxRecDepth 100000 in
theorem rat_few4 (b off n cap : Nat) (zs : List Int) (w : World) (hl : zs.length = n) (h4 : 4 ≤ n) (hB : Bytes w (some ⟨b, off, none⟩) zs) (hf : Few zs) :
    Calls Try.prog 49 #[.slice (some ⟨b, off, none⟩) n cap] w fun e w' => e = .returned (.tuple #[.slice none 0 0, .bool false, .bool true]) ∧ Below w.heap.size w w' := by
  obtain ⟨m2, m3, z2, z3, c0, c1, c2, c3, hn⟩ := head_cells hB hf.1.1 hl h4
  have hN := hf.1.2
  have hF := hf.2
  rw [hn] at hN hF
  rw [hl] at hF
  have d1 : decide ((1 : Int) ≤ (n : Int)) = true := by simp; omega
  have d2 : decide ((2 : Int) ≤ (n : Int)) = true := by simp; omega
  have d4 : decide ((n : Int) < 4) = false := by simp; omega
  have i2 : (2 : Int) < (n : Int) := by omega
  have i3 : (3 : Int) < (n : Int) := by omega
  have d5 : decide (1200 < (m2 : Int) * 256 + (m3 : Int)) = false := by simp; omega
  have d6 : decide ((n : Int) < (m2 : Int) * 256 + (m3 : Int) + 8) = true := by simp; omega
  clear hB hl hn hf
  go_enter Try.func49, Try.ntmps49
  go_wp2
  go_quiet (fail)
  go_wp2
  go_ret3
  exact ⟨rfl, below_drewN (Below.refl _ _) nq⟩

set_option maxHeartbeats 400000 in
set_option maxRecDepth 100000 in
theorem rat_bad (b off n cap : Nat) (zs : List Int) (w : World) (hl : zs.length = n) (hc : n ≤ cap) (hcm : cap ≤ 9223372036854775807) (hB : Bytes w (some ⟨b, off, none⟩) zs) (hf : Front zs) (hn8 : nAt zs + 8 ≤ n) (hs : ¬ Sealed ((zs.take (nAt zs + 8)).drop 2)) :
    Calls Try.prog 49 #[.slice (some ⟨b, off, none⟩) n cap] w fun e w' => e = .returned (.tuple #[.slice none 0 0, .bool false, .bool false]) ∧ Below w.heap.size w w' := by
  obtain ⟨m2, m3, z2, z3, c0, c1, c2, c3, hn⟩ := head_cells hB hf.1 hl (by omega)
  have hN := hf.2
  have k3 := fun c h1 h2 W (hW : Below w.heap.size w W) => refOpens_not (some ⟨b, off + 2, none⟩) (nAt zs + 6) c ((zs.take (nAt zs + 8)).drop 2) W (((hB.kept hW).take _).drop 2) (inner_len (by omega)) h1 h2 (by omega) hs
  have hz : (m2 : Int) * 256 + (m3 : Int) = ((nAt zs : Nat) : Int) := by rw [hn]; omega
  clear hB hl hn hf hs
  generalize nAt zs = N at *
  have d1 : decide ((1 : Int) ≤ (n : Int)) = true := by simp; omega
  have d2 : decide ((2 : Int) ≤ (n : Int)) = true := by simp; omega
  have d4 : decide ((n : Int) < 4) = false := by simp; omega
  have i2 : (2 : Int) < (n : Int) := by omega
  have i3 : (3 : Int) < (n : Int) := by omega
  have d5 : decide (1200 < (N : Int)) = false := by simp; omega
  have d6 : decide ((n : Int) < (N : Int) + 8) = false := by simp; omega
  have j1 : (N : Int) + 8 ≤ (cap : Int) := by omega
  have j2 : (2 : Int) ≤ (N : Int) + 8 := by omega
  have j3 : (cap = 2) = False := by simp; omega
  have j4 : N + 8 - 2 = N + 6 := by omega
  go_enter Try.func49, Try.ntmps49
  go_wp2
  go_quiet (fail)
  go_wp2_with fail
  refine (k3 _ (by omega) (by omega) _ (below_drewN (Below.refl _ _) nq)).mono ?_
  rintro e w1 ⟨rfl, hb1⟩
  have hb2 : Below w.heap.size w w1 := (below_drewN (Below.refl w.heap.size w) nq).trans (hb1.mono (Nat.le_refl _))
  go_wp2
  go_ret3
  exact ⟨rfl, hb2⟩

set_option maxHeartbeats 400000 in
set_option maxRecDepth 100000 in
theorem rat_whole (b off n cap : Nat) (zs : List Int) (w : World) (hl : zs.length = n) (hc : n ≤ cap) (hcm : cap ≤ 9223372036854775807) (hB : Bytes w (some ⟨b, off, none⟩) zs) (h : Whole zs) :
    Calls Try.prog 49 #[.slice (some ⟨b, off, none⟩) n cap] w fun e w' => ∃ a' c', e = .returned (.tuple #[.slice a' (nAt zs) c', .bool true, .bool false]) ∧ Load w' 0 (.slice a' (nAt zs) c') (loadAt zs) ∧ (∀ x, a' = some x → x.spot = none) ∧ Below w.heap.size w w' := by
  obtain ⟨hf, hn8, hs⟩ := h
  rw [hl] at hn8
  obtain ⟨m2, m3, z2, z3, c0, c1, c2, c3, hn⟩ := head_cells hB hf.1 hl (by omega)
  have hN := hf.2
  have il := inner_len (zs := zs) (N := nAt zs) (by omega)
  have k3 := fun c h1 h2 W (hW : Below w.heap.size w W) => refOpens (some ⟨b, off + 2, none⟩) (nAt zs + 6) c ((zs.take (nAt zs + 8)).drop 2) W (((hB.kept hW).take _).drop 2) il h1 h2 (by omega) hs
  rw [il, show nAt zs + 6 - 4 = nAt zs + 2 from by omega] at k3
  have hz : (m2 : Int) * 256 + (m3 : Int) = ((nAt zs : Nat) : Int) := by rw [hn]; omega
  have hTl : Hid ((((zs.take (nAt zs + 8)).drop 2).take (nAt zs + 2)).length = nAt zs + 2) := by show _ = _; rw [List.length_take, il]; omega
  have hLd : Hid ((((zs.take (nAt zs + 8)).drop 2).take (nAt zs + 2)).drop 2 = loadAt zs) := inner_load
  have hLl : Hid ((loadAt zs).length = nAt zs) := load_len (by omega)
  clear hB hl hn hf hs il
  generalize ((zs.take (nAt zs + 8)).drop 2).take (nAt zs + 2) = T at *
  generalize loadAt zs = L at *
  generalize nAt zs = N at *
  have d1 : decide ((1 : Int) ≤ (n : Int)) = true := by simp; omega
  have d2 : decide ((2 : Int) ≤ (n : Int)) = true := by simp; omega
  have d4 : decide ((n : Int) < 4) = false := by simp; omega
  have i2 : (2 : Int) < (n : Int) := by omega
  have i3 : (3 : Int) < (n : Int) := by omega
  have d5 : decide (1200 < (N : Int)) = false := by simp; omega
  have d6 : decide ((n : Int) < (N : Int) + 8) = false := by simp; omega
  have j1 : (N : Int) + 8 ≤ (cap : Int) := by omega
  have j2 : (2 : Int) ≤ (N : Int) + 8 := by omega
  have j3 : (cap = 2) = False := by simp; omega
  have j4 : N + 8 - 2 = N + 6 := by omega
  go_enter Try.func49, Try.ntmps49
  go_wp2
  go_quiet (fail)
  go_wp2_with fail
  refine (k3 _ (by omega) (by omega) _ (below_drewN (Below.refl _ _) nq)).mono ?_
  rintro e w1 ⟨v1, rfl, ho1, hb1'⟩
  have hb1 : Below w.heap.size w w1 := (below_drewN (Below.refl w.heap.size w) nq).trans (hb1'.mono (Nat.le_refl _))
  obtain ⟨g1, n1, cap1, rfl, hR1, hl1, hc1, hm1⟩ := ho1.row (by have := hTl.out; omega)
  obtain rfl : n1 = N + 2 := by rw [← hl1.out, hTl.out]
  clear hl1 k3 hb1' ho1
  have q1 : (2 : Int) ≤ (N : Int) + 2 := by omega
  have q2 : N + 2 - 2 = N := by omega
  by_cases hq : cap1 = 2
  · subst hq
    go_wp2
    go_ret3
    obtain rfl : N = 0 := by omega
    refine ⟨_, _, rfl, ?_, (fun x hx => by cases hx; rfl), hb1⟩
    have h1 : L = [] := List.eq_nil_of_length_eq_zero hLl.out
    subst h1
    refine ⟨_, _, rfl, ⟨by simp, by simp, .inl rfl⟩, by simp, by simp, by simp [maxLen], fun x hx _ => ?_⟩
    cases hx
    rcases hR1.out.1.2 with ⟨h1, _⟩ | ⟨g, cap', cur, h1, _, hg, _⟩
    · cases h1
    · cases h1
      exact .inr ⟨_, _, hg⟩
  · have q3 : (cap1 = 2) = False := by simp [hq]
    go_wp2
    go_ret3
    refine ⟨_, _, rfl, ?_, (fun x hx => by cases hx; rfl), hb1⟩
    have hby := hR1.out.bytes.drop 2
    rw [hLd.out] at hby
    refine ⟨some ⟨g1, 0 + 2, none⟩, cap1 - 2, by rw [hLl.out], hby, by simp, by rw [hLl.out]; omega, by unfold maxLen; omega, fun x hx _ => ?_⟩
    cases hx
    rcases hR1.out.1.2 with ⟨h1, _⟩ | ⟨g, cap', cur, h1, _, hg, _⟩
    · cases h1
    · cases h1
      exact .inr ⟨_, _, hg⟩
