/-
  Texts RefAt, Qnm, Qpt, Qsh, Qrp.
-/
import Derived.Test.YtfipdldoklkciaaGreatGac
import Derived.Test.YtfipdldoklkciaaGreatGaa
namespace Go.Proofs.YtfipdldoklkciaaGreat
open Go.RowKit

set_option maxRecDepth 100000 in
theorem nat_byte {w : World} {a : Option Addr} {zs : List Int} (hB : Bytes w a zs) (i : Nat) (hi : i < zs.length) : 0 ≤ zs.getD i 0 := by
  have hm : zs.getD i 0 ∈ zs := by rw [List.getD_eq_getElem?_getD, List.getElem?_eq_getElem hi]; exact List.getElem_mem hi
  exact (hB.1 _ hm).1

set_option maxHeartbeats 400000 in
set_option maxRecDepth 100000 in
/-- No mark. -/
theorem rat_mark (b off n cap : Nat) (zs : List Int) (w : World) (hl : zs.length = n) (hp : 0 < n) (hB : Bytes w (some ⟨b, off, none⟩) zs) (h : ¬ Marked zs) :
    Calls Tryz.prog 99 #[.slice (some ⟨b, off, none⟩) n cap] w fun e w' => e = .returned (.tuple #[.slice none 0 0, .bool false, .bool false]) ∧ w' = w := by
  obtain ⟨c0', z0⟩ := byte_at hB (i := 0) (by omega)
  have c0 : w.cell? ⟨b, off, none⟩ = some (.int .u8 ((zs.getD 0 0).toNat : Int)) := c0'
  have y0 := nat_byte hB 0 (by omega)
  have d1 : decide ((1 : Int) ≤ (n : Int)) = true := by simp; omega
  clear c0'
  by_cases h0 : zs.getD 0 0 = 165
  · have h1 : 2 ≤ n := by
      rcases Nat.lt_or_ge n 2 with h2 | h2
      · exact absurd ⟨h0, .inl (by omega)⟩ h
      · exact h2
    obtain ⟨c1, z1⟩ := byte_at hB (i := 1) (by omega)
    have y1 := nat_byte hB 1 (by omega)
    have hne : zs.getD 1 0 ≠ 90 := fun h2 => h ⟨h0, .inr h2⟩
    have e1 : ((((zs.getD 1 0).toNat : Nat) : Int) != 90) = true := by rw [Int.toNat_of_nonneg y1, bne_iff_ne]; exact hne
    have d2 : decide ((2 : Int) ≤ (n : Int)) = true := by simp; omega
    rw [h0] at c0
    generalize (zs.getD 1 0).toNat = m1 at *
    clear hB hl h0 h z0 y0 y1 hne
    go_enter Tryz.func99, Tryz.ntmps99
    go_wp2
    go_ret3
    exact ⟨rfl, rfl⟩
  · have e0 : ((((zs.getD 0 0).toNat : Nat) : Int) != 165) = true := by rw [Int.toNat_of_nonneg y0, bne_iff_ne]; exact h0
    generalize (zs.getD 0 0).toNat = m0 at *
    clear hB hl h0 h y0
    go_enter Tryz.func99, Tryz.ntmps99
    go_wp2
    go_ret3
    exact ⟨rfl, rfl⟩

set_option maxRecDepth 100000 in
/-- The mark's two bytes, as the walk reads them. -/
theorem mark_cells {w : World} {b off : Nat} {zs : List Int} (hB : Bytes w (some ⟨b, off, none⟩) zs) (hm : Marked zs) (hp : 0 < zs.length) :
    w.cell? ⟨b, off, none⟩ = some (.int .u8 165) ∧ (2 ≤ zs.length → w.cell? ⟨b, off + 1, none⟩ = some (.int .u8 90)) := by
  obtain ⟨c0, _⟩ := byte_at hB (i := 0) hp
  rw [hm.1] at c0
  refine ⟨c0, fun h2 => ?_⟩
  obtain ⟨c1, _⟩ := byte_at hB (i := 1) (by omega)
  rcases hm.2 with h | h
  · omega
  · rw [h] at c1
    exact c1

set_option maxHeartbeats 400000 in
set_option maxRecDepth 100000 in
/-- Fewer than four bytes. -/
theorem rat_short (b off n cap : Nat) (zs : List Int) (w : World) (hl : zs.length = n) (hp : 0 < n) (h4 : n < 4) (hB : Bytes w (some ⟨b, off, none⟩) zs) (hm : Marked zs) :
    Calls Tryz.prog 99 #[.slice (some ⟨b, off, none⟩) n cap] w fun e w' => e = .returned (.tuple #[.slice none 0 0, .bool false, .bool (decide (nAt zs ≤ 1200))]) ∧ Below w.heap.size w w' := by
  obtain ⟨c0, c1⟩ := mark_cells hB hm (by omega)
  rw [hl] at c1
  have d1 : decide ((1 : Int) ≤ (n : Int)) = true := by simp; omega
  have d4 : decide ((n : Int) < 4) = true := by simp; omega
  have e3 : nAt zs = (zs.getD 2 0).toNat * 256 := by unfold nAt; rw [getD_out (i := 3) (by omega)]; exact Nat.add_zero _
  by_cases h3 : n < 3
  · have hf : Hid (decide (nAt zs ≤ 1200) = true) := by
      refine decide_eq_true ?_
      rw [e3, getD_out (i := 2) (by omega)]
      decide
    have d3 : decide ((n : Int) < 3) = true := by simp; omega
    clear hB hm e3 hl
    by_cases h2 : 2 ≤ n
    · have c1' := c1 h2
      have d2 : decide ((2 : Int) ≤ (n : Int)) = true := by simp; omega
      clear c1
      go_enter Tryz.func99, Tryz.ntmps99
      go_wp2
      go_quiet (fail)
      go_wp2
      go_ret3
      exact ⟨by rw [hf.out]; rfl, below_drewN (Below.refl _ _) nq⟩
    · have d2 : decide ((2 : Int) ≤ (n : Int)) = false := by simp; omega
      clear c1
      go_enter Tryz.func99, Tryz.ntmps99
      go_wp2
      go_quiet (fail)
      go_wp2
      go_ret3
      exact ⟨by rw [hf.out]; rfl, below_drewN (Below.refl _ _) nq⟩
  · have c1' := c1 (by omega)
    have d2 : decide ((2 : Int) ≤ (n : Int)) = true := by simp; omega
    have d3 : decide ((n : Int) < 3) = false := by simp; omega
    obtain ⟨c2, z2⟩ := byte_at hB (i := 2) (by omega)
    rw [e3]
    clear hB hm hl c1 e3
    generalize (zs.getD 2 0).toNat = m2 at *
    have hf : Hid (decide (m2 * 256 ≤ 1200) = decide ((m2 : Int) * 256 ≤ 1200)) := by
      show _ = _
      rw [decide_eq_decide]
      omega
    have i1 : (2 : Int) < (n : Int) := by omega
    go_enter Tryz.func99, Tryz.ntmps99
    go_wp2
    go_quiet (fail)
    go_wp2
    go_ret3
    exact ⟨by rw [hf.out]; rfl, below_drewN (Below.refl _ _) nq⟩

set_option maxRecDepth 100000 in
/-- What a walk is told of four bytes and more. -/
theorem head_cells {w : World} {b off n : Nat} {zs : List Int} (hB : Bytes w (some ⟨b, off, none⟩) zs) (hm : Marked zs) (hl : zs.length = n) (h4 : 4 ≤ n) :
    ∃ m2 m3 : Nat, m2 < 256 ∧ m3 < 256 ∧ w.cell? ⟨b, off, none⟩ = some (.int .u8 165) ∧ w.cell? ⟨b, off + 1, none⟩ = some (.int .u8 90) ∧ w.cell? ⟨b, off + 2, none⟩ = some (.int .u8 m2) ∧ w.cell? ⟨b, off + 3, none⟩ = some (.int .u8 m3) ∧ nAt zs = m2 * 256 + m3 := by
  obtain ⟨c0, c1⟩ := mark_cells hB hm (by omega)
  obtain ⟨c2, z2⟩ := byte_at hB (i := 2) (by omega)
  obtain ⟨c3, z3⟩ := byte_at hB (i := 3) (by omega)
  exact ⟨_, _, z2, z3, c0, c1 (by omega), c2, c3, rfl⟩

set_option maxHeartbeats 400000 in
set_option maxRecDepth 100000 in
theorem rat_no4 (b off n cap : Nat) (zs : List Int) (w : World) (hl : zs.length = n) (h4 : 4 ≤ n) (hB : Bytes w (some ⟨b, off, none⟩) zs) (hm : Marked zs) (hN : 1200 < nAt zs) :
    Calls Tryz.prog 99 #[.slice (some ⟨b, off, none⟩) n cap] w fun e w' => e = .returned (.tuple #[.slice none 0 0, .bool false, .bool false]) ∧ Below w.heap.size w w' := by
  obtain ⟨m2, m3, z2, z3, c0, c1, c2, c3, hn⟩ := head_cells hB hm hl h4
  rw [hn] at hN
  have d1 : decide ((1 : Int) ≤ (n : Int)) = true := by simp; omega
  have d2 : decide ((2 : Int) ≤ (n : Int)) = true := by simp; omega
  have d4 : decide ((n : Int) < 4) = false := by simp; omega
  have i2 : (2 : Int) < (n : Int) := by omega
  have i3 : (3 : Int) < (n : Int) := by omega
  have d5 : decide (1200 < (m2 : Int) * 256 + (m3 : Int)) = true := by simp; omega
  clear hB hm hl hn
  go_enter Tryz.func99, Tryz.ntmps99
  go_wp2
  go_quiet (fail)
  go_wp2
  go_ret3
  exact ⟨rfl, below_drewN (Below.refl _ _) nq⟩

set_option maxHeartbeats 400000 in
set_option maxRecDepth 100000 in
theorem rat_few4 (b off n cap : Nat) (zs : List Int) (w : World) (hl : zs.length = n) (h4 : 4 ≤ n) (hB : Bytes w (some ⟨b, off, none⟩) zs) (hf : Few zs) :
    Calls Tryz.prog 99 #[.slice (some ⟨b, off, none⟩) n cap] w fun e w' => e = .returned (.tuple #[.slice none 0 0, .bool false, .bool true]) ∧ Below w.heap.size w w' := by
  obtain ⟨m2, m3, z2, z3, c0, c1, c2, c3, hn⟩ := head_cells hB hf.1.1 hl h4
  have hN := hf.1.2
  have hF := hf.2
  rw [hn] at hN hF
  rw [hl] at hF
  have d1 : decide ((1 : Int) ≤ (n : Int)) = true := by simp; omega
  have d2 : decide ((2 : Int) ≤ (n : Int)) = true := by simp; omega
  have d4 : decide ((n : Int) < 4) = false := by simp; omega
  have i2 : (2 : Int) < (n : Int) := by omega
  have i3 : (3 : Int) < (n : Int) := by omega
  have d5 : decide (1200 < (m2 : Int) * 256 + (m3 : Int)) = false := by simp; omega
  have d6 : decide ((n : Int) < (m2 : Int) * 256 + (m3 : Int) + 8) = true := by simp; omega
  clear hB hl hn hf
  go_enter Tryz.func99, Tryz.ntmps99
  go_wp2
  go_quiet (fail)
  go_wp2
  go_ret3
  exact ⟨rfl, below_drewN (Below.refl _ _) nq⟩

set_option maxHeartbeats 400000 in
set_option maxRecDepth 100000 in
theorem rat_bad (b off n cap : Nat) (zs : List Int) (w : World) (hl : zs.length = n) (hc : n ≤ cap) (hcm : cap ≤ 9223372036854775807) (hB : Bytes w (some ⟨b, off, none⟩) zs) (hf : Front zs) (hn8 : nAt zs + 8 ≤ n) (hs : ¬ Sealed ((zs.take (nAt zs + 8)).drop 2)) :
    Calls Tryz.prog 99 #[.slice (some ⟨b, off, none⟩) n cap] w fun e w' => e = .returned (.tuple #[.slice none 0 0, .bool false, .bool false]) ∧ Below w.heap.size w w' := by
  obtain ⟨m2, m3, z2, z3, c0, c1, c2, c3, hn⟩ := head_cells hB hf.1 hl (by omega)
  have hN := hf.2
  have k3 := fun c h1 h2 W (hW : Below w.heap.size w W) => refOpens_not (some ⟨b, off + 2, none⟩) (nAt zs + 6) c ((zs.take (nAt zs + 8)).drop 2) W (((hB.kept hW).take _).drop 2) (inner_len (by omega)) h1 h2 (by omega) hs
  have hz : (m2 : Int) * 256 + (m3 : Int) = ((nAt zs : Nat) : Int) := by rw [hn]; omega
  clear hB hl hn hf hs
  generalize nAt zs = N at *
  have d1 : decide ((1 : Int) ≤ (n : Int)) = true := by simp; omega
  have d2 : decide ((2 : Int) ≤ (n : Int)) = true := by simp; omega
  have d4 : decide ((n : Int) < 4) = false := by simp; omega
  have i2 : (2 : Int) < (n : Int) := by omega
  have i3 : (3 : Int) < (n : Int) := by omega
  have d5 : decide (1200 < (N : Int)) = false := by simp; omega
  have d6 : decide ((n : Int) < (N : Int) + 8) = false := by simp; omega
  have j1 : (N : Int) + 8 ≤ (cap : Int) := by omega
  have j2 : (2 : Int) ≤ (N : Int) + 8 := by omega
  have j3 : (cap = 2) = False := by simp; omega
  have j4 : N + 8 - 2 = N + 6 := by omega
  go_enter Tryz.func99, Tryz.ntmps99
  go_wp2
  go_quiet (fail)
  go_wp2_with fail
  refine (k3 _ (by omega) (by omega) _ (below_drewN (Below.refl _ _) nq)).mono ?_
  rintro e w1 ⟨rfl, hb1⟩
  have hb2 : Below w.heap.size w w1 := (below_drewN (Below.refl w.heap.size w) nq).trans (hb1.mono (Nat.le_refl _))
  go_wp2
  go_ret3
  exact ⟨rfl, hb2⟩

set_option maxHeartbeats 400000 in
set_option maxRecDepth 100000 in
theorem rat_whole (b off n cap : Nat) (zs : List Int) (w : World) (hl : zs.length = n) (hc : n ≤ cap) (hcm : cap ≤ 9223372036854775807) (hB : Bytes w (some ⟨b, off, none⟩) zs) (h : Whole zs) :
    Calls Tryz.prog 99 #[.slice (some ⟨b, off, none⟩) n cap] w fun e w' => ∃ a' c', e = .returned (.tuple #[.slice a' (nAt zs) c', .bool true, .bool false]) ∧ Load w' 0 (.slice a' (nAt zs) c') (loadAt zs) ∧ (∀ x, a' = some x → x.spot = none) ∧ Below w.heap.size w w' := by
  obtain ⟨hf, hn8, hs⟩ := h
  rw [hl] at hn8
  obtain ⟨m2, m3, z2, z3, c0, c1, c2, c3, hn⟩ := head_cells hB hf.1 hl (by omega)
  have hN := hf.2
  have il := inner_len (zs := zs) (N := nAt zs) (by omega)
  have k3 := fun c h1 h2 W (hW : Below w.heap.size w W) => refOpens (some ⟨b, off + 2, none⟩) (nAt zs + 6) c ((zs.take (nAt zs + 8)).drop 2) W (((hB.kept hW).take _).drop 2) il h1 h2 (by omega) hs
  rw [il, show nAt zs + 6 - 4 = nAt zs + 2 from by omega] at k3
  have hz : (m2 : Int) * 256 + (m3 : Int) = ((nAt zs : Nat) : Int) := by rw [hn]; omega
  have hTl : Hid ((((zs.take (nAt zs + 8)).drop 2).take (nAt zs + 2)).length = nAt zs + 2) := by show _ = _; rw [List.length_take, il]; omega
  have hLd : Hid ((((zs.take (nAt zs + 8)).drop 2).take (nAt zs + 2)).drop 2 = loadAt zs) := inner_load
  have hLl : Hid ((loadAt zs).length = nAt zs) := load_len (by omega)
  clear hB hl hn hf hs il
  generalize ((zs.take (nAt zs + 8)).drop 2).take (nAt zs + 2) = T at *
  generalize loadAt zs = L at *
  generalize nAt zs = N at *
  have d1 : decide ((1 : Int) ≤ (n : Int)) = true := by simp; omega
  have d2 : decide ((2 : Int) ≤ (n : Int)) = true := by simp; omega
  have d4 : decide ((n : Int) < 4) = false := by simp; omega
  have i2 : (2 : Int) < (n : Int) := by omega
  have i3 : (3 : Int) < (n : Int) := by omega
  have d5 : decide (1200 < (N : Int)) = false := by simp; omega
  have d6 : decide ((n : Int) < (N : Int) + 8) = false := by simp; omega
  have j1 : (N : Int) + 8 ≤ (cap : Int) := by omega
  have j2 : (2 : Int) ≤ (N : Int) + 8 := by omega
  have j3 : (cap = 2) = False := by simp; omega
  have j4 : N + 8 - 2 = N + 6 := by omega
  go_enter Tryz.func99, Tryz.ntmps99
  go_wp2
  go_quiet (fail)
  go_wp2_with fail
  refine (k3 _ (by omega) (by omega) _ (below_drewN (Below.refl _ _) nq)).mono ?_
  rintro e w1 ⟨v1, rfl, ho1, hb1'⟩
  have hb1 : Below w.heap.size w w1 := (below_drewN (Below.refl w.heap.size w) nq).trans (hb1'.mono (Nat.le_refl _))
  obtain ⟨g1, n1, cap1, rfl, hR1, hl1, hc1, hm1⟩ := ho1.row (by have := hTl.out; omega)
  obtain rfl : n1 = N + 2 := by rw [← hl1.out, hTl.out]
  clear hl1 k3 hb1' ho1
  have q1 : (2 : Int) ≤ (N : Int) + 2 := by omega
  have q2 : N + 2 - 2 = N := by omega
  by_cases hq : cap1 = 2
  · subst hq
    go_wp2
    go_ret3
    obtain rfl : N = 0 := by omega
    refine ⟨_, _, rfl, ?_, (fun x hx => by cases hx; rfl), hb1⟩
    have h1 : L = [] := List.eq_nil_of_length_eq_zero hLl.out
    subst h1
    refine ⟨_, _, rfl, ⟨by simp, by simp, .inl rfl⟩, by simp, by simp, by simp [maxLen], fun x hx _ => ?_⟩
    cases hx
    rcases hR1.out.1.2 with ⟨h1, _⟩ | ⟨g, cap', cur, h1, _, hg, _⟩
    · cases h1
    · cases h1
      exact .inr ⟨_, _, hg⟩
  · have q3 : (cap1 = 2) = False := by simp [hq]
    go_wp2
    go_ret3
    refine ⟨_, _, rfl, ?_, (fun x hx => by cases hx; rfl), hb1⟩
    have hby := hR1.out.bytes.drop 2
    rw [hLd.out] at hby
    refine ⟨some ⟨g1, 0 + 2, none⟩, cap1 - 2, by rw [hLl.out], hby, by simp, by rw [hLl.out]; omega, by unfold maxLen; omega, fun x hx _ => ?_⟩
    cases hx
    rcases hR1.out.1.2 with ⟨h1, _⟩ | ⟨g, cap', cur, h1, _, hg, _⟩
    · cases h1
    · cases h1
      exact .inr ⟨_, _, hg⟩
end Go.Proofs.YtfipdldoklkciaaGreat
namespace Go.Proofs.YtfipdldoklkciaaGreat

/-- In how many groups of seven bits a number stands, none for 0 (with a bound). -/
def c0 : Nat → Nat → Nat
  | 0, _ => 0
  | f + 1, r => if r = 0 then 0 else 1 + c0 f (r / 128)

theorem c0_spec : ∀ (f r : Nat), r < 128 ^ f → ∀ i, i < c0 f r ↔ r / 128 ^ i ≠ 0 := by
  intro f
  induction f with
  | zero =>
    intro r hr i
    have h0 : r = 0 := by simpa using hr
    subst h0
    simp [c0]
  | succ f ih =>
    intro r hr i
    by_cases h0 : r = 0
    · subst h0; simp [c0]
    · have h1 : r / 128 < 128 ^ f := by rw [Nat.div_lt_iff_lt_mul (by decide), ← Nat.pow_succ]; exact hr
      simp only [c0, if_neg h0]
      cases i with
      | zero => simp [h0]; omega
      | succ i =>
        have h2 := ih (r / 128) h1 i
        rw [Nat.div_div_eq_div_mul, Nat.mul_comm, ← Nat.pow_succ] at h2
        rw [← h2]
        omega

/-- In how many groups of seven bits a number of 64 bits stands. -/
def cg (n : Nat) : Nat := 1 + c0 9 (n / 128)

theorem cg_spec (n : Nat) (hn : n < 18446744073709551616) (i : Nat) : i + 1 < cg n ↔ n / 128 ^ (i + 1) ≠ 0 := by
  have h := c0_spec 9 (n / 128) (by omega) i
  rw [Nat.div_div_eq_div_mul, Nat.mul_comm, ← Nat.pow_succ] at h
  rw [← h]
  unfold cg
  omega

theorem cg_pos (n : Nat) : 1 ≤ cg n := by unfold cg; omega

theorem cg_le (n : Nat) (hn : n < 18446744073709551616) : cg n ≤ 10 := by
  rcases Nat.lt_or_ge 10 (cg n) with h | h
  · have := (cg_spec n hn 9).1 h
    exact absurd (Nat.div_eq_of_lt (by omega)) this
  · exact h

theorem cg_top (n : Nat) (hn : n < 18446744073709551616) : n / 128 ^ cg n = 0 := by
  have h1 := cg_pos n
  obtain ⟨i, hi⟩ : ∃ i, cg n = i + 1 := ⟨cg n - 1, by omega⟩
  have h2 := cg_spec n hn i
  rw [hi]
  rcases Nat.eq_zero_or_pos (n / 128 ^ (i + 1)) with h3 | h3
  · exact h3
  · have := h2.2 (by omega)
    omega

/-- The lower i + 1 groups of a number, as bytes of its short form. -/
def tl (n : Nat) : Nat → List Int
  | 0 => [((n % 128 : Nat) : Int)]
  | i + 1 => ((128 + n / 128 ^ (i + 1) % 128 : Nat) : Int) :: tl n i

/-- A NUMBER's SHORT FORM. -/
def shortL (n : Nat) : List Int := tl n (cg n - 1)

theorem tl_length (n i : Nat) : (tl n i).length = i + 1 := by
  induction i with
  | zero => rfl
  | succ i ih => simp [tl, ih]

theorem tl_bytes (n i : Nat) : ∀ c ∈ tl n i, 0 ≤ c ∧ c < 256 := by
  induction i with
  | zero => intro c hc; simp [tl] at hc; omega
  | succ i ih =>
    intro c hc
    simp only [tl, List.mem_cons] at hc
    rcases hc with rfl | hc
    · omega
    · exact ih c hc

theorem shortL_length (n : Nat) : (shortL n).length = cg n := by
  rw [shortL, tl_length]
  have := cg_pos n
  omega

/-- The short form as the document's own answer builds it: every group of ten that is not ahead of the number. -/
def rl (n : Nat) : Nat → List Int
  | 0 => [((n % 128 : Nat) : Int)]
  | i + 1 => if n / 128 ^ (i + 1) = 0 then rl n i else ((128 + n / 128 ^ (i + 1) % 128 : Nat) : Int) :: rl n i

theorem rl_eq (n : Nat) (hn : n < 18446744073709551616) (i : Nat) : rl n i = tl n (min i (cg n - 1)) := by
  induction i with
  | zero => simp [rl, tl]
  | succ i ih =>
    have h := cg_spec n hn i
    by_cases h0 : n / 128 ^ (i + 1) = 0
    · rw [rl, if_pos h0, ih]
      have h1 : ¬ (i + 1 < cg n) := fun h2 => h.1 h2 h0
      congr 1
      omega
    · have h1 := h.2 h0
      rw [rl, if_neg h0, ih, show min (i + 1) (cg n - 1) = min i (cg n - 1) + 1 from by omega, show min i (cg n - 1) = i from by omega]
      rfl

theorem rl_short (n : Nat) (hn : n < 18446744073709551616) : rl n 9 = shortL n := by
  rw [rl_eq n hn, shortL]
  have := cg_le n hn
  congr 1
  omega

theorem cg_mono {a b : Nat} (hb : b < 18446744073709551616) (h : a ≤ b) : cg a ≤ cg b := by
  have ha := cg_pos b
  rcases Nat.lt_or_ge (cg b) (cg a) with h1 | h1
  · obtain ⟨i, hi⟩ : ∃ i, cg b = i + 1 := ⟨cg b - 1, by omega⟩
    rw [hi] at h1
    have h2 := (cg_spec a (by omega) i).1 h1
    have h3 := cg_top b hb
    rw [hi] at h3
    have h4 : a / 128 ^ (i + 1) ≤ b / 128 ^ (i + 1) := Nat.div_le_div_right h
    rw [h3] at h4
    exact absurd (Nat.le_antisymm h4 (Nat.zero_le _)) h2
  · exact h1

/-- HOW A SHORT NUMBER IS READ: the kind (0: it is there; 3: a byte is missing; 5: a byte that may not stand there), the number, the place behind it or of the fault; i bytes, which are n, have been read. -/
def rdS : List Int → Nat → Nat → Nat × Nat × Nat
  | [], i, _ => (3, 0, i)
  | x :: l, i, n =>
    if (i = 0 ∧ x = 128) ∨ (i = 9 ∧ (128 ≤ x ∨ 144115188075855872 ≤ n)) then (5, 0, i)
    else if x < 128 then (0, n * 128 + x.toNat, i + 1)
    else rdS l (i + 1) (n * 128 + (x - 128).toNat)

theorem rdS_lt : ∀ (l : List Int) (i n : Nat), (∀ c ∈ l, 0 ≤ c ∧ c < 256) → i ≤ 9 → n < 128 ^ i → (rdS l i n).2.1 < 18446744073709551616 := by
  intro l
  induction l with
  | nil => intro i n _ _ _; simp [rdS]
  | cons x l ih =>
    intro i n hz hi hn
    have hx := hz x (by simp)
    unfold rdS
    by_cases hw : (i = 0 ∧ x = 128) ∨ (i = 9 ∧ (128 ≤ x ∨ 144115188075855872 ≤ n))
    · simp [hw]
    · rw [if_neg hw]
      by_cases h1 : x < 128
      · rw [if_pos h1]
        have h2 : n < 144115188075855872 := by
          by_cases h9 : i = 9
          · omega
          · have : 128 ^ i ≤ 128 ^ 8 := Nat.pow_le_pow_right (by decide) (by omega)
            omega
        show n * 128 + x.toNat < _
        omega
      · rw [if_neg h1]
        have h9 : i + 1 ≤ 9 := by omega
        refine ih (i + 1) _ (fun c hc => hz c (by simp [hc])) h9 ?_
        rw [Nat.pow_succ]
        omega

/-- What was put is read. -/
theorem rd_tl (n : Nat) (hn : n < 18446744073709551616) (rest : List Int) : ∀ (j i : Nat), i + j ≤ 9 → (i = 0 → j ≠ 0 → n / 128 ^ j % 128 ≠ 0) → rdS (tl n j ++ rest) i (n / 128 ^ (j + 1)) = (0, n, i + j + 1) := by
  intro j
  induction j with
  | zero =>
    intro i hi _
    simp only [tl, List.cons_append, List.nil_append, rdS, Nat.zero_add, Nat.pow_one]
    rw [if_neg (by omega), if_pos (by omega)]
    simp only [Prod.mk.injEq, true_and, and_true, Int.toNat_natCast]
    omega
  | succ j ih =>
    intro i hi h0
    have hd : n / 128 ^ (j + 1 + 1) * 128 + n / 128 ^ (j + 1) % 128 = n / 128 ^ (j + 1) := by
      rw [Nat.pow_succ 128 (j + 1), ← Nat.div_div_eq_div_mul]
      omega
    have h1 := ih (i + 1) (by omega) (by omega)
    simp only [tl, List.cons_append, rdS]
    rw [if_neg (by omega), if_neg (by omega), show ((128 + n / 128 ^ (j + 1) % 128 : Nat) : Int) - 128 = ((n / 128 ^ (j + 1) % 128 : Nat) : Int) from by omega, Int.toNat_natCast, hd, h1]
    simp only [Prod.mk.injEq, true_and]
    omega

theorem rd_short (n : Nat) (hn : n < 18446744073709551616) (rest : List Int) : rdS (shortL n ++ rest) 0 0 = (0, n, cg n) := by
  have h1 := cg_pos n
  have h2 := cg_le n hn
  have h3 := cg_top n hn
  obtain ⟨j, hj⟩ : ∃ j, cg n = j + 1 := ⟨cg n - 1, by omega⟩
  have h := rd_tl n hn rest j 0 (by omega) (fun _ h0 => by
    obtain ⟨i, rfl⟩ : ∃ i, j = i + 1 := ⟨j - 1, by omega⟩
    have h4 := (cg_spec n hn i).1 (by omega)
    rw [hj, Nat.pow_succ, ← Nat.div_div_eq_div_mul] at h3
    omega)
  rw [← hj, h3] at h
  rw [shortL, show cg n - 1 = j from by omega, h]
  simp only [Prod.mk.injEq, true_and]
  omega

/-- What is read is what would be put. -/
theorem rd_one : ∀ (l : List Int) (i n m k : Nat), (∀ c ∈ l, 0 ≤ c ∧ c < 256) → rdS l i n = (0, m, k) → i < k ∧ k ≤ i + l.length ∧ l.take (k - i) = tl m (k - i - 1) ∧ m / 128 ^ (k - i) = n := by
  intro l
  induction l with
  | nil => intro i n m k _ h; simp [rdS] at h
  | cons x l ih =>
    intro i n m k hz h
    have hx := hz x (by simp)
    unfold rdS at h
    by_cases hw : (i = 0 ∧ x = 128) ∨ (i = 9 ∧ (128 ≤ x ∨ 144115188075855872 ≤ n))
    · simp [hw] at h
    · rw [if_neg hw] at h
      by_cases h1 : x < 128
      · rw [if_pos h1] at h
        simp only [Prod.mk.injEq, true_and] at h
        obtain ⟨rfl, rfl⟩ := h
        refine ⟨by omega, by simp, ?_, ?_⟩
        · rw [show i + 1 - i = 1 from by omega]
          have e : x = (((n * 128 + x.toNat) % 128 : Nat) : Int) := by omega
          show [x] = [(((n * 128 + x.toNat) % 128 : Nat) : Int)]
          rw [← e]
        · rw [show i + 1 - i = 1 from by omega, Nat.pow_one]
          omega
      · rw [if_neg h1] at h
        obtain ⟨g1, g2, g3, g4⟩ := ih (i + 1) _ m k (fun c hc => hz c (by simp [hc])) h
        obtain ⟨t, ht⟩ : ∃ t, k - i = t + 1 + 1 := ⟨k - i - 2, by omega⟩
        rw [show k - (i + 1) = t + 1 from by omega] at g3 g4
        refine ⟨by omega, by simp; omega, ?_, ?_⟩
        · rw [ht, List.take_succ_cons, g3, show t + 1 + 1 - 1 = t + 1 from by omega, show t + 1 - 1 = t from by omega]
          simp only [tl, List.cons.injEq, and_true]
          rw [g4]
          omega
        · rw [ht, Nat.pow_succ 128 (t + 1), ← Nat.div_div_eq_div_mul, g4]
          omega

theorem rd_whole (zs : List Int) (m k : Nat) (hz : ∀ c ∈ zs, 0 ≤ c ∧ c < 256) (h : rdS zs 0 0 = (0, m, k)) : m < 18446744073709551616 ∧ 1 ≤ k ∧ k ≤ zs.length ∧ zs.take k = shortL m ∧ k = cg m := by
  have hm : m < 18446744073709551616 := by
    have := rdS_lt zs 0 0 hz (by omega) (by simp)
    rwa [h] at this
  obtain ⟨g1, g2, g3, g4⟩ := rd_one zs 0 0 m k hz h
  rw [Nat.sub_zero] at g3 g4
  have hc : k = cg m := by
    have h1 := cg_pos m
    have h2 : ¬ (k < cg m) := fun h3 => by
      obtain ⟨i, rfl⟩ : ∃ i, k = i + 1 := ⟨k - 1, by omega⟩
      exact (cg_spec m hm i).1 h3 g4
    by_cases hk : k = 1
    · omega
    · obtain ⟨i, rfl⟩ : ∃ i, k = i + 1 + 1 := ⟨k - 2, by omega⟩
      have h3 : m / 128 ^ (i + 1) ≠ 0 := by
        intro h4
        cases zs with
        | nil => simp [rdS] at h
        | cons x l =>
          rw [show i + 1 + 1 - 1 = i + 1 from by omega] at g3
          simp only [List.take_succ_cons, tl, List.cons.injEq] at g3
          rw [h4] at g3
          unfold rdS at h
          simp [g3.1] at h
      have h5 := (cg_spec m hm i).2 h3
      omega
  refine ⟨hm, by omega, by omega, ?_, hc⟩
  rw [g3, shortL, hc]

/-- The lower i bytes of a number, the highest first. -/
def wl (n : Nat) : Nat → List Int
  | 0 => []
  | i + 1 => ((n / 256 ^ i % 256 : Nat) : Int) :: wl n i

theorem wl_length (n i : Nat) : (wl n i).length = i := by
  induction i with
  | zero => rfl
  | succ i ih => simp [wl, ih]

theorem wl_bytes (n i : Nat) : ∀ c ∈ wl n i, 0 ≤ c ∧ c < 256 := by
  induction i with
  | zero => intro c hc; simp [wl] at hc
  | succ i ih =>
    intro c hc
    simp only [wl, List.mem_cons] at hc
    rcases hc with rfl | hc
    · omega
    · exact ih c hc

/-- HOW A WIDE NUMBER IS READ, behind n. -/
def rdW (n : Nat) : List Int → Nat
  | [] => n
  | x :: l => rdW (n * 256 + x.toNat) l

theorem rdW_snoc (n : Nat) (l : List Int) (x : Int) : rdW n (l ++ [x]) = rdW n l * 256 + x.toNat := by
  induction l generalizing n with
  | nil => rfl
  | cons y l ih => exact ih _

theorem rdW_lt (l : List Int) (hz : ∀ c ∈ l, 0 ≤ c ∧ c < 256) : ∀ n i, n < 256 ^ i → rdW n l < 256 ^ (i + l.length) := by
  induction l with
  | nil => intro n i h; exact h
  | cons x l ih =>
    intro n i h
    have hx := hz x (by simp)
    have h1 := ih (fun c hc => hz c (by simp [hc])) (n * 256 + x.toNat) (i + 1) (by rw [Nat.pow_succ]; omega)
    rw [List.length_cons, show i + (l.length + 1) = i + 1 + l.length from by omega]
    exact h1

theorem rdW_wl (n : Nat) : ∀ i, rdW (n / 256 ^ i) (wl n i) = n := by
  intro i
  induction i with
  | zero => simp [wl, rdW]
  | succ i ih =>
    show rdW (n / 256 ^ (i + 1) * 256 + ((n / 256 ^ i % 256 : Nat) : Int).toNat) (wl n i) = n
    rw [Int.toNat_natCast, Nat.pow_succ, ← Nat.div_div_eq_div_mul, show n / 256 ^ i / 256 * 256 + n / 256 ^ i % 256 = n / 256 ^ i from by omega]
    exact ih

theorem rdW_eight (n : Nat) (hn : n < 18446744073709551616) : rdW 0 (wl n 8) = n := by
  have h := rdW_wl n 8
  rwa [Nat.div_eq_of_lt (by omega)] at h

theorem rdW_small (l : List Int) (hz : ∀ c ∈ l, 0 ≤ c ∧ c < 256) (hl : l.length ≤ 8) : rdW 0 l < 18446744073709551616 := by
  have h1 := rdW_lt l hz 0 0 (by simp)
  have h2 : 256 ^ (0 + l.length) ≤ 256 ^ 8 := Nat.pow_le_pow_right (by decide) (by omega)
  omega
end Go.Proofs.YtfipdldoklkciaaGreat
namespace Go.Proofs.YtfipdldoklkciaaGreat
open Go.RowKit

set_option maxHeartbeats 400000 in
theorem groups_any (n : Nat) (hn : n < 18446744073709551616) (w : World) :
    Calls Tryz.prog 120 #[.int .u64 n] w fun e w' => e = .returned (.int .i64 (cg n : Nat)) ∧ w' = w := by
  go_enter Tryz.func120, Tryz.ntmps120
  go_wp2
  go_loop [3, 4] (fun k r => ∃ K R F : Nat, k = .int .i64 K ∧ r = .int .u64 R ∧ F ≤ 9 ∧ R < 128 ^ F ∧ K + F ≤ 10 ∧ Hid (K + c0 F R = cg n)) (fun _ r => (intOf r).toNat)
  case atStart => exact ⟨1, n / 128, 9, rfl, by simp, by omega, by omega, by omega, rfl⟩
  case round =>
    obtain ⟨K, R, F, rfl, rfl, hF, hR, hK, hh⟩ := hrel
    have hc : c0 F 0 = 0 := by cases F <;> rfl
    by_cases h0 : R = 0
    · subst h0
      have hh' : Hid (K = cg n) := by rw [hc] at hh; exact hh
      clear hh hc
      go_wp2
      go_ret
      exact ⟨by rw [← hh'.out]; rfl, rfl⟩
    · obtain ⟨F, rfl⟩ : ∃ F', F = F' + 1 := by
        cases F with
        | zero => simp at hR; omega
        | succ F => exact ⟨F, rfl⟩
      have hR2 : Hid (R / 128 < 128 ^ F) := by
        show _ < _
        rw [Nat.div_lt_iff_lt_mul (by decide), ← Nat.pow_succ]; exact hR
      have hh' : Hid (K + 1 + c0 F (R / 128) = cg n) := by
        have h1 := hh.out
        simp only [c0, if_neg h0] at h1
        show _ = _
        omega
      clear hh hc hR
      go_wp2
      go_round
      case rel => exact ⟨K + 1, R / 128, F, by go_num, by go_num, by omega, hR2.out, by omega, hh'⟩
      case measure => simp [intOf]; omega

set_option maxHeartbeats 400000 in
theorem room_any (a : Option Addr) (n cap k : Nat) (zs : List Int) (w : World) (hl : zs.length = n) (hb : Bytes w a zs) (hn : a = none → cap = 0) (hm : n + k ≤ 140737488355328) :
    Calls Tryz.prog 121 #[.slice a n cap, .int .i64 k] w fun e w' => ∃ v, e = .returned v ∧ OwnsB w' w.heap.size v zs ∧ Below w.heap.size w w' := by
  obtain ⟨i0, hi, hz0, hz1, hz2⟩ := info_parts info5
  have hB : Hid (Bytes w a zs) := hb
  have hL : Hid (zs.length = n) := hl
  clear hb hl
  go_enter Tryz.func121, Tryz.ntmps121
  go_wp2_with (first
    | (at_make; refine wpList_make_own _ rfl _ _ 42 rfl w.heap.size 5 i0 (.int .u8 0) 1 Tryz.underlying42 hi hz0 hz1 .i64 .i64 _ (n + k) rfl rfl (by omega) (by rw [hz2]; omega) (by unfold maxLen; omega) (Nat.le_refl _) ?_; intro w2 ho2 hg2; have hb2 : Below w.heap.size w w2 := (Below.refl _ _).grown hg2 (Nat.le_refl _) (by simp); have hB2 : Hid (Bytes w2 a zs) := Bytes.kept hB.out hb2; have hs2 := hb2.size)
    | (at_builtin; refine wpList_append_bytes rfl (.tmp 9) (.tmp 10) rfl w.heap.size (.slice (some ⟨w.heap.size, 0, none⟩) 0 (n + k)) [] zs rfl ⟨ho2, by simp⟩ a n cap rfl hL.out hn hB2.out (by rw [hL.out]; simp; omega) hs2 ?_; intro v3 w3 ho3 hg3; have hb3 := grown_below hb2 (zs := []) ⟨ho2, by simp⟩ hg3 hs2; simp only [List.nil_append] at ho3; clear ho2 hg2 hB2 hs2 hg3))
  go_ret
  exact ⟨_, rfl, ho3, hb3⟩

theorem room_at (a : Option Addr) (n cap : Nat) (k : Int) (zs : List Int) (w : World) (hl : zs.length = n) (hb : Bytes w a zs) (hn : a = none → cap = 0) (hk : 0 ≤ k) (hm : n + k.toNat ≤ 140737488355328) :
    Calls Tryz.prog 121 #[.slice a n cap, .int .i64 k] w fun e w' => ∃ v, e = .returned v ∧ OwnsB w' w.heap.size v zs ∧ Below w.heap.size w w' := by
  have h := room_any a n cap k.toNat zs w hl hb hn hm
  rwa [Int.toNat_of_nonneg hk] at h

theorem shr8 (m t : Nat) : (m : Int) / 2 ^ (8 * t) = ((m / 256 ^ t : Nat) : Int) := by
  rw [show (256 : Nat) ^ t = 2 ^ (8 * t) from by rw [Nat.pow_mul], Int.natCast_ediv, Int.natCast_pow]
  rfl

theorem shr7 (m t : Nat) : (m : Int) / 2 ^ (7 * t) = ((m / 128 ^ t : Nat) : Int) := by
  rw [show (128 : Nat) ^ t = 2 ^ (7 * t) from by rw [Nat.pow_mul], Int.natCast_ediv, Int.natCast_pow]
  rfl

theorem or_all : ∀ x : Nat, x < 256 → 128 ||| x = 128 + x % 128 := by decide +kernel

theorem seven_in (x : Nat) (hx : x < 256) : bits .or .u8 128 (x : Int) = ((128 + x % 128 : Nat) : Int) := by
  rw [show (128 : Int) = ((128 : Nat) : Int) from rfl, u8_or_nat 128 x (by decide) hx, or_all x hx]

theorem low_in (m : Nat) (hm : m < 18446744073709551616) : bits .and .u64 (m : Int) 127 = ((m % 128 : Nat) : Int) := by
  rw [show (127 : Int) = ((127 : Nat) : Int) from rfl, u64_and_nat m 127 hm (by decide), nat_mask7]

/-- The byte of a group that is not the last. -/
theorem group_in (m t : Nat) : bits .or .u8 128 ((m : Int) / 128 ^ t % 256) = ((128 + m / 128 ^ t % 128 : Nat) : Int) := by
  rw [show (m : Int) / 128 ^ t % 256 = ((m / 128 ^ t % 256 : Nat) : Int) from by rw [Int.natCast_emod, Int.natCast_ediv, Int.natCast_pow]; rfl, seven_in _ (by omega)]
  omega

set_option maxHeartbeats 400000 in
theorem putShort_any (a : Option Addr) (n cap : Nat) (m : Nat) (zs : List Int) (w : World) (hM : m < 18446744073709551616)
    (hl : zs.length = n) (hb : Bytes w a zs) (hn : a = none → cap = 0) (hx : n + 10 ≤ 140737488355328) :
    Calls Tryz.prog 107 #[.slice a n cap, .int .u64 m] w fun e w' => ∃ v, e = .returned v ∧ OwnsB w' w.heap.size v (zs ++ shortL m) ∧ Below w.heap.size w w' := by
  have hg1 := cg_pos m
  have hg2 := cg_le m hM
  have hgo := groups_any m hM
  have hS : Hid (tl m (cg m - 1) = shortL m) := rfl
  generalize cg m = k at *
  go_enter Tryz.func107, Tryz.ntmps107
  go_wp2_with fail
  refine (hgo _).mono ?_
  rintro e w1 ⟨rfl, rfl⟩
  clear hgo
  go_wp2_with fail
  refine (room_any a n cap k zs w1 hl hb hn (by omega)).mono ?_
  rintro e w2 ⟨v2, rfl, ho2, hb2⟩
  clear hb hn
  go_wp2_with fail
  go_loopw [6, 7] (fun v i wr => ∃ (pre : List Int) (t : Nat), Hid (OwnsB wr w1.heap.size v (zs ++ pre)) ∧ Hid (pre ++ tl m t = shortL m) ∧ pre.length + t ≤ 9 ∧ Below w1.heap.size w1 wr ∧ i = .int .i64 t) (fun _ i _ => (intOf i).toNat)
  case atStart =>
    obtain ⟨t, rfl⟩ : ∃ t, k = t + 1 := ⟨k - 1, by omega⟩
    exact ⟨[], t, by show OwnsB _ _ _ _; simpa using ho2, hS, by simp; omega, hb2, by go_num⟩
  case round =>
    obtain ⟨pre, t, ho, hp, hj, hbr, rfl⟩ := hrel
    have hsz := hbr.size
    have hlen : (zs ++ pre).length + 1 ≤ 140737488355328 := by rw [List.length_append, hl]; omega
    cases t with
    | zero =>
      have hlow := low_in m hM
      obtain ⟨B, hB⟩ : ∃ B : Nat, B = m % 128 := ⟨_, rfl⟩
      rw [← hB] at hlow
      have hB1 : B < 256 := by omega
      have hp' : Hid (pre ++ [(B : Int)] = shortL m) := by rw [hB]; exact hp
      clear hB hp hS
      go_wp2_with (at_builtin; refine wpList_append_bytes rfl (.tmp 28) (.tmp 32) rfl w1.heap.size u6 (zs ++ pre) [(B : Int)] rfl (ho.out.alloc _) (some ⟨wr.heap.size, 0, none⟩) 1 1 rfl rfl (by simp) (one_byte wr _ (by omega) (by omega)) hlen (by simp; omega) ?_; intro v3 w3 ho3 hg3; have hb3 := grown_below (hbr.alloc hsz _) (ho.out.alloc _) hg3 (by simp; omega); clear hg3 ho)
      go_ret
      refine ⟨_, rfl, ?_, hb3⟩
      rw [List.append_assoc, hp'.out] at ho3
      exact ho3
    | succ t =>
      have hbyte := shr7 m (t + 1)
      have hor := group_in m (t + 1)
      obtain ⟨B, hB⟩ : ∃ B : Nat, B = 128 + m / 128 ^ (t + 1) % 128 := ⟨_, rfl⟩
      rw [← hB] at hor
      have hB1 : B < 256 := by omega
      have hp' : Hid ((pre ++ [(B : Int)]) ++ tl m t = shortL m) := by
        show _ = _
        rw [hB, List.append_assoc]
        exact hp.out
      clear hB hp hS
      go_wp2_with (at_builtin; refine wpList_append_bytes rfl (.tmp 19) (.tmp 26) rfl w1.heap.size u6 (zs ++ pre) [(B : Int)] rfl (ho.out.alloc _) (some ⟨wr.heap.size, 0, none⟩) 1 1 rfl rfl (by simp) (one_byte wr _ (by omega) (by omega)) hlen (by simp; omega) ?_; intro v3 w3 ho3 hg3; have hb3 := grown_below (hbr.alloc hsz _) (ho.out.alloc _) hg3 (by simp; omega); clear hg3 ho)
      rw [List.append_assoc] at ho3
      clear hbyte hor ho2
      go_roundw
      case rel => exact ⟨pre ++ [(B : Int)], t, ho3, hp', by simp; omega, hb3, by go_num⟩
      case measure => simp [intOf]
end Go.Proofs.YtfipdldoklkciaaGreat
namespace Go.Proofs.YtfipdldoklkciaaGreat
open Go.RowKit

/-- A byte that may not stand there, at place i of a short number, behind groups that are n. -/
def wrongB (i : Nat) (x : Int) (n : Nat) : Bool := decide ((i = 0 ∧ x = 128) ∨ (i = 9 ∧ (128 ≤ x ∨ 144115188075855872 ≤ n)))

set_option maxHeartbeats 400000 in
theorem wrong_any (i n : Nat) (x : Int) (w : World) :
    Calls Tryz.prog 113 #[.int .i64 i, .int .u8 x, .int .u64 n] w fun e w' => e = .returned (.bool (wrongB i x n)) ∧ w' = w := by
  go_enter Tryz.func113, Tryz.ntmps113
  go_wp2
  all_goals
    go_ret
    refine ⟨?_, rfl⟩
    show Ending.returned (Value.bool _) = _
    unfold wrongB
    congr 2
    first | (simp_all; done) | (rw [Bool.eq_iff_iff]; simp_all; done) | (rw [Bool.eq_iff_iff]; simp at *; omega) | (simp at *; omega)

theorem pass_at (base g p y f n k : Nat) (K : Int) (a : Option Addr) (zs : List Int) (w : World) (h : Cur w base g a n zs p y f) (hK : K = (k : Int)) (hk : p + k ≤ n) :
    Calls Tryz.prog 114 #[.pointer (some ⟨g, 0, none⟩), .int .i64 K] w fun e w' => ∃ a' c', e = .returned (.slice a' k c') ∧ Cur w' base g a n zs (p + k) y f ∧ w.grownBy w' (some g) := by
  subst hK
  refine (pass_any base g p y f n k a zs w h hk).mono ?_
  rintro e w' ⟨a', c', rfl, _, _, _, hc, hg⟩
  exact ⟨a', c', rfl, hc, hg⟩

theorem mask_in (x : Int) (h0 : 0 ≤ x) (h1 : x < 256) : bits .and .u8 x 127 = x % 128 := by
  obtain ⟨d, rfl⟩ : ∃ d : Nat, x = (d : Int) := ⟨x.toNat, by omega⟩
  rw [show (127 : Int) = ((127 : Nat) : Int) from rfl, u8_and_nat d 127 (by omega) (by decide), nat_mask7]
  omega

theorem join7 (A : Nat) (c : Int) (hA : A < 144115188075855872) (h0 : 0 ≤ c) (h1 : c < 128) : bits .or .u64 ((A : Int) * 128) c = ((A * 128 + c.toNat : Nat) : Int) := by
  obtain ⟨d, rfl⟩ : ∃ d : Nat, c = (d : Int) := ⟨c.toNat, by omega⟩
  rw [show (A : Int) * 128 = ((A * 128 : Nat) : Int) from rfl, u64_or_nat (A * 128) d (by omega) (by omega), nat_join 7 (A * 128) d (by omega) (by omega)]
  rfl

set_option maxHeartbeats 400000 in
theorem short_stop (base g p y f n : Nat) (a : Option Addr) (zs : List Int) (w : World) (h : Cur w base g a n zs p y f) (hy : y ≠ 0) :
    Calls Tryz.prog 88 #[.pointer (some ⟨g, 0, none⟩)] w fun e w' => e = .returned (.int .u64 0) ∧ Cur w' base g a n zs p y f ∧ w.grownBy w' (some g) := by
  go_enter Tryz.func88, Tryz.ntmps88
  go_wp2_with fail
  go_loopw [3, 6] (fun t i wr => t = .int .u64 0 ∧ i = .int .i64 0 ∧ Hid (wr = w)) (fun _ _ _ => 0)
  case atStart => exact ⟨rfl, rfl, rfl⟩
  case round =>
    obtain ⟨rfl, rfl, hw⟩ := hrel
    have hwr := hw.out
    subst hwr
    go_wp2_with fail
    refine (canRead_stop _ _ _ _ _ _ _ _ h.1 hy).mono ?_
    rintro e w2 ⟨rfl, hb2⟩
    go_wp2
    go_ret
    exact ⟨rfl, h.kept hb2, Below.but hb2 _⟩

/-- What a cursor's Short answers, and where it stands then. -/
def sS (zs : List Int) (p y f : Nat) : Nat × Nat × Nat × Nat :=
  if y ≠ 0 then (0, p, y, f)
  else if (rdS (zs.drop p) 0 0).1 = 0 then ((rdS (zs.drop p) 0 0).2.1, p + (rdS (zs.drop p) 0 0).2.2, 0, f)
  else if (rdS (zs.drop p) 0 0).1 = 3 then (0, p, 3, zs.length)
  else (0, p, 5, p + (rdS (zs.drop p) 0 0).2.2)

set_option maxHeartbeats 1000000 in
theorem short_go (base g p f n : Nat) (a : Option Addr) (zs : List Int) (w : World) (h : Cur w base g a n zs p 0 f) :
    Calls Tryz.prog 88 #[.pointer (some ⟨g, 0, none⟩)] w fun e w' => e = .returned (.int .u64 ((sS zs p 0 f).1 : Nat)) ∧ Cur w' base g a n zs (sS zs p 0 f).2.1 (sS zs p 0 f).2.2.1 (sS zs p 0 f).2.2.2 ∧ w.grownBy w' (some g) := by
  have hn : n ≤ 140737488355328 := h.2.2.2.2.1
  have hl : Hid (zs.length = n) := h.2.2.1
  have hz : Hid (∀ c ∈ zs, 0 ≤ c ∧ c < 256) := h.2.1.1
  go_enter Tryz.func88, Tryz.ntmps88
  go_wp2_with fail
  go_loopw [3, 6] (fun t i wr => ∃ I A : Nat, I ≤ 9 ∧ p + I ≤ n ∧ t = .int .u64 A ∧ i = .int .i64 I ∧ Hid (A < 128 ^ I) ∧ Hid (rdS (zs.drop p) 0 0 = rdS (zs.drop (p + I)) I A) ∧ Hid (Cur wr base g a n zs p 0 f) ∧ w.grownBy wr (some g)) (fun _ i _ => 9 - (intOf i).toNat)
  case atStart => exact ⟨0, 0, by omega, h.2.2.2.1, rfl, rfl, by show _ < _; simp, rfl, h, World.grownBy.refl _ _⟩
  case round =>
    obtain ⟨I, A, hI, hpI, rfl, rfl, hA, hrd, hcur, hgr⟩ := hrel
    have hp : p ≤ n := by omega
    clear h
    by_cases hlt : p + I < n
    · obtain ⟨x, hx⟩ : ∃ x, zs[p + I]? = some x := ⟨_, List.getElem?_eq_getElem (by rw [hl.out]; exact hlt)⟩
      have hx' : Hid (zs.drop (p + I) = x :: zs.drop (p + I + 1)) := by
        obtain ⟨hx1, hx2⟩ := List.getElem?_eq_some_iff.1 hx
        show _ = _
        rw [List.drop_eq_getElem_cons hx1, hx2]
      have hx0 : 0 ≤ x ∧ x < 256 := hz.out x (List.mem_of_getElem? hx)
      obtain ⟨hx1, hx2⟩ := hx0
      go_wp2_with fail
      refine (canRead_ok _ _ _ _ _ _ _ _ hcur.out.1 hp (by omega) (by omega)).mono ?_
      rintro e w2 ⟨rfl, hb2⟩
      have hc2 : Hid (Cur w2 base g a n zs p 0 f) := hcur.out.kept hb2
      have hg2 : w.grownBy w2 (some g) := hgr.trans (Below.but hb2 _)
      obtain ⟨b, off, rfl⟩ := bytes_some hc2.out.2.1 (by rw [hl.out]; omega)
      have hcell : w2.cell? ⟨b, off + (p + I), none⟩ = some (.int .u8 x) := by
        obtain ⟨_, _, h0 | ⟨b', off', h1, hcell⟩⟩ := hc2.out.2.1
        · have := hl.out
          rw [h0] at this
          simp at this
          omega
        · cases h1
          rw [hcell (p + I) (by rw [hl.out]; exact hlt), List.getD_eq_getElem?_getD, hx]
          rfl
      have c1 := hc2.out.1.c1
      have c2 := hc2.out.1.c2
      clear hcur hgr hb2 hx
      go_wp2_with fail
      go_quiet (fail)
      have hb3 := below_drewN (Below.refl w2.heap.size w2) nq
      have hc3 : Hid (Cur (w2.drewN nq) base g (some ⟨b, off, none⟩) n zs p 0 f) := hc2.out.kept hb3
      have hg3 : w.grownBy (w2.drewN nq) (some g) := but_drewN hg2 nq
      clear hb3 hc2 hg2 hcell c1 c2
      generalize w2.drewN nq = w3 at *
      go_wp2_with fail
      refine (wrong_any _ _ _ _).mono ?_
      rintro e w4 ⟨rfl, rfl⟩
      have c2 := hc3.out.1.c2
      have c3 := hc3.out.1.c3
      have c4 := hc3.out.1.c4
      have z3 := hc3.out.1.fz 3
      have z4 := hc3.out.1.fz 4
      by_cases hwr : wrongB I x A = true
      · rw [hwr]
        have hr : Hid (rdS (zs.drop p) 0 0 = (5, 0, I)) := by
          show _ = _
          rw [hrd.out, hx'.out, rdS, if_pos (of_decide_eq_true hwr)]
        clear hrd hx' hwr hA
        go_wp2
        go_ret
        have hf := hc3.out.1.fails 5 (p + I)
        have hg := but_setCell (but_setCell (World.grownBy.refl w4 (some g)) 3 (.int .i64 (5 : Nat))) 4 (.int .i64 ((p + I : Nat) : Int))
        have hs : sS zs p 0 f = (0, p, 5, p + I) := by simp [sS, hr.out]
        rw [hs]
        exact ⟨rfl, hc3.out.turned hg hf hp, hg3.trans hg⟩
      · have hwf : wrongB I x A = false := by simpa using hwr
        rw [hwf]
        have hnw : ¬ ((I = 0 ∧ x = 128) ∨ (I = 9 ∧ (128 ≤ x ∨ 144115188075855872 ≤ A))) := of_decide_eq_false hwf
        have hA57 : A < 144115188075855872 := by
          by_cases h9 : I = 9
          · omega
          · have h1 : 128 ^ I ≤ 128 ^ 8 := Nat.pow_le_pow_right (by decide) (by omega)
            have h2 := hA.out
            omega
        have hmask := mask_in x hx1 hx2
        have hor := join7 A (x % 128) hA57 (by omega) (by omega)
        obtain ⟨B, hB0⟩ : ∃ B : Nat, Hid (B = A * 128 + (x % 128).toNat) := ⟨_, rfl⟩
        rw [← hB0.out] at hor
        clear hwr hwf
        by_cases hx8 : x < 128
        · have hr : Hid (rdS (zs.drop p) 0 0 = (0, B, I + 1)) := by
            show _ = _
            rw [hrd.out, hx'.out, rdS, if_neg hnw, if_pos hx8, hB0.out]
            simp only [Prod.mk.injEq, true_and, and_true]
            omega
          have hnw' : Hid (¬ ((I = 0 ∧ x = 128) ∨ (I = 9 ∧ (128 ≤ x ∨ 144115188075855872 ≤ A)))) := hnw
          clear hnw hrd hx' hA
          go_wp2_with fail
          refine (pass_at base g p 0 f n (I + 1) _ _ zs _ hc3.out (by omega) (by omega)).mono ?_
          rintro e w5 ⟨a5, k5, rfl, hc5, hg5⟩
          go_wp2
          go_ret
          have hs : sS zs p 0 f = (B, p + (I + 1), 0, f) := by simp [sS, hr.out]
          rw [hs]
          exact ⟨rfl, hc5, hg3.trans hg5⟩
        · have hI8 : I + 1 ≤ 9 := by omega
          have hr : Hid (rdS (zs.drop p) 0 0 = rdS (zs.drop (p + (I + 1))) (I + 1) B) := by
            show _ = _
            rw [hrd.out, hx'.out, rdS, if_neg hnw, if_neg hx8, hB0.out, show A * 128 + (x - 128).toNat = A * 128 + (x % 128).toNat from by omega]
            rfl
          have hA' : Hid (B < 128 ^ (I + 1)) := by
            show _ < _
            have h2 := hA.out
            rw [hB0.out, Nat.pow_succ]
            omega
          clear hnw hrd hx' hA
          go_wp2
          go_roundw
          case rel => exact ⟨I + 1, B, hI8, by omega, rfl, by go_num, hA', hr, hc3, hg3⟩
          case measure => simp [intOf]; omega
    · have hr : Hid (rdS (zs.drop p) 0 0 = (3, 0, I)) := by
        show _ = _
        rw [hrd.out, List.drop_eq_nil_of_le (by rw [hl.out]; omega), rdS]
      clear hrd hA
      go_wp2_with fail
      refine (canRead_end _ _ _ _ _ _ _ _ hcur.out.1 hp (by omega) (by omega)).mono ?_
      rintro e w2 ⟨rfl, hc2, hg2⟩
      go_wp2
      go_ret
      have hs : sS zs p 0 f = (0, p, 3, n) := by simp [sS, hr.out, hl.out]
      rw [hs]
      exact ⟨rfl, hcur.out.turned hg2 hc2 hp, hgr.trans hg2⟩
end Go.Proofs.YtfipdldoklkciaaGreat
namespace Go.Proofs.YtfipdldoklkciaaGreat
open Go.RowKit

theorem ref_group_in (m t : Nat) : bits .or .u8 ((m : Int) / 128 ^ t % 256) 128 = ((128 + m / 128 ^ t % 128 : Nat) : Int) := by
  rw [show (m : Int) / 128 ^ t % 256 = ((m / 128 ^ t % 256 : Nat) : Int) from by rw [Int.natCast_emod, Int.natCast_ediv, Int.natCast_pow]; rfl, show (128 : Int) = ((128 : Nat) : Int) from rfl, u8_or_nat _ 128 (by omega) (by decide), Nat.or_comm, or_all _ (by omega)]
  omega

set_option maxHeartbeats 1000000 in
theorem refPutShort_any (a : Option Addr) (n cap : Nat) (m : Nat) (zs : List Int) (w : World) (hM : m < 18446744073709551616)
    (hl : zs.length = n) (hb : Bytes w a zs) (hn : a = none → cap = 0) (hx : n + 10 ≤ 140737488355328) :
    Calls Tryz.prog 116 #[.slice a n cap, .int .u64 m] w fun e w' => ∃ v, e = .returned v ∧ OwnsB w' w.heap.size v (zs ++ shortL m) ∧ Below w.heap.size w w' := by
  have hS : Hid (rl m 9 = shortL m) := rl_short m hM
  have hB : Hid (Bytes w a zs) := hb
  have hL : Hid (zs.length = n) := hl
  clear hb hl
  go_enter Tryz.func116, Tryz.ntmps116
  go_wp2_with (at_builtin; refine wpList_append_bytes rfl _ (.tmp 7) rfl w.heap.size (.slice none 0 0) [] zs rfl (ownsB_nil _ _) a n cap rfl hL.out hn hB.out (by rw [hL.out]; simp; omega) (Nat.le_refl _) ?_; intro v2 w2 ho2 hg2; have hb2 := grown_below (Below.refl _ _) (ownsB_nil _ _) hg2 (Nat.le_refl _); simp only [List.nil_append] at ho2; clear hg2)
  go_loopw [5, 6] (fun v i wr => ∃ (pre : List Int) (t : Nat), Hid (OwnsB wr w.heap.size v (zs ++ pre)) ∧ Hid (pre ++ rl m t = shortL m) ∧ pre.length + t ≤ 9 ∧ Below w.heap.size w wr ∧ i = .int .i64 t) (fun _ i _ => (intOf i).toNat)
  case atStart => exact ⟨[], 9, by show OwnsB _ _ _ _; simpa using ho2, hS, by simp, hb2, by go_num⟩
  case round =>
    obtain ⟨pre, t, ho, hp, hj, hbr, rfl⟩ := hrel
    have hsz := hbr.size
    have hlen : (zs ++ pre).length + 1 ≤ 140737488355328 := by rw [List.length_append, hL.out]; omega
    cases t with
    | zero =>
      have hlow := low_in m hM
      obtain ⟨B, hB0⟩ : ∃ B : Nat, B = m % 128 := ⟨_, rfl⟩
      rw [← hB0] at hlow
      have hB1 : B < 256 := by omega
      have hp' : Hid (pre ++ [(B : Int)] = shortL m) := by rw [hB0]; exact hp
      clear hB0 hp hS
      go_wp2_with (at_builtin; refine wpList_append_bytes rfl (.tmp 27) (.tmp 31) rfl w.heap.size u5 (zs ++ pre) [(B : Int)] rfl (ho.out.alloc _) (some ⟨wr.heap.size, 0, none⟩) 1 1 rfl rfl (by simp) (one_byte wr _ (by omega) (by omega)) hlen (by simp; omega) ?_; intro v3 w3 ho3 hg3; have hb3 := grown_below (hbr.alloc hsz _) (ho.out.alloc _) hg3 (by simp; omega); clear hg3 ho)
      go_ret
      refine ⟨_, rfl, ?_, hb3⟩
      rw [List.append_assoc, hp'.out] at ho3
      exact ho3
    | succ t =>
      have hbyte := shr7 m (t + 1)
      by_cases h0 : m / 128 ^ (t + 1) = 0
      · have hz : (((m / 128 ^ (t + 1) : Nat) : Int) != 0) = false := by rw [h0]; rfl
        have hz' : ((m : Int) / 128 ^ (t + 1) != 0) = false := by
          rw [← hz, Int.natCast_ediv, Int.natCast_pow]; rfl
        have hp' : Hid (pre ++ rl m t = shortL m) := by
          have h1 := hp.out
          rw [rl, if_pos h0] at h1
          exact h1
        clear hp hS ho2
        go_wp2
        go_roundw
        case rel => exact ⟨pre, t, ho, hp', by omega, hbr, by go_num⟩
        case measure => simp [intOf]
      · have hz : (((m / 128 ^ (t + 1) : Nat) : Int) != 0) = true := by rw [bne_iff_ne]; omega
        have hz' : ((m : Int) / 128 ^ (t + 1) != 0) = true := by
          rw [← hz, Int.natCast_ediv, Int.natCast_pow]; rfl
        have hor := ref_group_in m (t + 1)
        obtain ⟨B, hB0⟩ : ∃ B : Nat, B = 128 + m / 128 ^ (t + 1) % 128 := ⟨_, rfl⟩
        rw [← hB0] at hor
        have hB1 : B < 256 := by omega
        have hp' : Hid ((pre ++ [(B : Int)]) ++ rl m t = shortL m) := by
          have h1 := hp.out
          rw [rl, if_neg h0] at h1
          show _ = _
          rw [hB0, List.append_assoc]
          exact h1
        clear hB0 hp hS
        go_wp2_with (at_builtin; refine wpList_append_bytes rfl (.tmp 18) (.tmp 25) rfl w.heap.size u5 (zs ++ pre) [(B : Int)] rfl (ho.out.alloc _) (some ⟨wr.heap.size, 0, none⟩) 1 1 rfl rfl (by simp) (one_byte wr _ (by omega) (by omega)) hlen (by simp; omega) ?_; intro v3 w3 ho3 hg3; have hb3 := grown_below (hbr.alloc hsz _) (ho.out.alloc _) hg3 (by simp; omega); clear hg3 ho)
        rw [List.append_assoc] at ho3
        clear hbyte hor ho2
        go_roundw
        case rel => exact ⟨pre ++ [(B : Int)], t, ho3, hp', by simp; omega, hb3, by go_num⟩
        case measure => simp [intOf]
end Go.Proofs.YtfipdldoklkciaaGreat
