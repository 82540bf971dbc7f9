/-
  The document's character of bytes, and its first character.
-/
import Derived.Test.YtfkoghmbkgbgbaaDoorUref
import Derived.Test.YtfkoghmbkgbgbaaDoorUref
namespace Go.Proofs.YtfkoghmbkgbgbaaDoor
open Go.RowKit

theorem i64_or_nat (a b : Nat) (ha : a < 4611686018427387904) (hb : b < 4611686018427387904) : bits .or .i64 (a : Int) (b : Int) = ((a ||| b : Nat) : Int) := by
  have hx : a ||| b < 2 ^ 62 := Nat.or_lt_two_pow (by omega) (by omega)
  have h1 : (BitVec.ofInt 64 (a : Int)).toNat = a := by
    rw [BitVec.ofInt_natCast, BitVec.toNat_ofNat]; exact Nat.mod_eq_of_lt (by omega)
  have h2 : (BitVec.ofInt 64 (b : Int)).toNat = b := by
    rw [BitVec.ofInt_natCast, BitVec.toNat_ofNat]; exact Nat.mod_eq_of_lt (by omega)
  show IntKind.i64.wrap ((BitVec.ofInt 64 (a : Int) ||| BitVec.ofInt 64 (b : Int)).toNat : Int) = _
  rw [BitVec.toNat_or, h1, h2, IntKind.wrap_i64]
  omega
theorem or_join (i X y : Nat) (hX : X % 2 ^ i = 0) (hy : y < 2 ^ i) (h1 : X < 4611686018427387904) (h2 : y < 4611686018427387904) : bits .or .i64 (X : Int) (y : Int) = ((X + y : Nat) : Int) := by
  rw [i64_or_nat X y h1 h2, nat_join i X y hX hy]
theorem two_in (c0 c1 : Nat) : bits .or .i64 ((c0 : Int) % 32 * 64) ((c1 : Int) % 64) = ((c0 % 32 * 64 + c1 % 64 : Nat) : Int) := by
  have e := or_join 6 (c0 % 32 * 64) (c1 % 64) (by omega) (by omega) (by omega) (by omega)
  rw [← e]
  simp
theorem three_in (c0 c1 c2 : Nat) : bits .or .i64 (bits .or .i64 ((c0 : Int) % 16 * 4096) ((c1 : Int) % 64 * 64)) ((c2 : Int) % 64) = ((c0 % 16 * 4096 + c1 % 64 * 64 + c2 % 64 : Nat) : Int) := by
  have e := or_join 12 (c0 % 16 * 4096) (c1 % 64 * 64) (by omega) (by omega) (by omega) (by omega)
  have e2 := or_join 6 (c0 % 16 * 4096 + c1 % 64 * 64) (c2 % 64) (by omega) (by omega) (by omega) (by omega)
  rw [← e2, ← e]
  simp
theorem four_in (c0 c1 c2 c3 : Nat) : bits .or .i64 (bits .or .i64 (bits .or .i64 ((c0 : Int) % 8 * 262144) ((c1 : Int) % 64 * 4096)) ((c2 : Int) % 64 * 64)) ((c3 : Int) % 64) = ((c0 % 8 * 262144 + c1 % 64 * 4096 + c2 % 64 * 64 + c3 % 64 : Nat) : Int) := by
  have e := or_join 18 (c0 % 8 * 262144) (c1 % 64 * 4096) (by omega) (by omega) (by omega) (by omega)
  have e2 := or_join 12 (c0 % 8 * 262144 + c1 % 64 * 4096) (c2 % 64 * 64) (by omega) (by omega) (by omega) (by omega)
  have e3 := or_join 6 (c0 % 8 * 262144 + c1 % 64 * 4096 + c2 % 64 * 64) (c3 % 64) (by omega) (by omega) (by omega) (by omega)
  rw [← e3, ← e2, ← e]
  simp

theorem xvalue_1 (b off cap : Nat) (c0 : Nat) (w : World) (k0 : w.cell? ⟨b, off, none⟩ = some (.int .u8 c0)) (h0 : c0 < 256) :
    Calls Tryd.prog 32 #[.slice (some ⟨b, off, none⟩) 1 cap] w fun e w' => e = .returned (.int .i64 (c0 : Nat)) ∧ ∃ q, w' = w.drewN q := by
  go_enter Tryd.func32, Tryd.ntmps32
  go_wp2
  go_ret
  exact ⟨rfl, 0, rfl⟩
set_option maxHeartbeats 1000000 in
theorem xvalue_2 (b off cap : Nat) (c0 c1 : Nat) (w : World) (h0 : c0 < 256) (h1 : c1 < 256)
    (k0 : w.cell? ⟨b, off, none⟩ = some (.int .u8 c0)) (k1 : w.cell? ⟨b, off + 1, none⟩ = some (.int .u8 c1)) :
    Calls Tryd.prog 32 #[.slice (some ⟨b, off, none⟩) 2 cap] w fun e w' => e = .returned (.int .i64 (c0 % 32 * 64 + c1 % 64 : Nat)) ∧ ∃ q, w' = w.drewN q := by
  have he : Hid _ := two_in c0 c1
  go_enter Tryd.func32, Tryd.ntmps32
  go_wp2
  go_quiet (fail)
  go_wp2
  go_ret
  exact ⟨by rw [← he.out]; rfl, nq, rfl⟩
set_option maxHeartbeats 1000000 in
theorem xvalue_3 (b off cap : Nat) (c0 c1 c2 : Nat) (w : World) (h0 : c0 < 256) (h1 : c1 < 256) (h2 : c2 < 256)
    (k0 : w.cell? ⟨b, off, none⟩ = some (.int .u8 c0)) (k1 : w.cell? ⟨b, off + 1, none⟩ = some (.int .u8 c1)) (k2 : w.cell? ⟨b, off + 2, none⟩ = some (.int .u8 c2)) :
    Calls Tryd.prog 32 #[.slice (some ⟨b, off, none⟩) 3 cap] w fun e w' => e = .returned (.int .i64 (c0 % 16 * 4096 + c1 % 64 * 64 + c2 % 64 : Nat)) ∧ ∃ q, w' = w.drewN q := by
  have he : Hid _ := three_in c0 c1 c2
  go_enter Tryd.func32, Tryd.ntmps32
  go_wp2
  go_quiet (fail)
  go_wp2
  go_ret
  exact ⟨by rw [← he.out]; rfl, nq, rfl⟩
set_option maxHeartbeats 1000000 in
theorem xvalue_4 (b off cap : Nat) (c0 c1 c2 c3 : Nat) (w : World) (h0 : c0 < 256) (h1 : c1 < 256) (h2 : c2 < 256) (h3 : c3 < 256)
    (k0 : w.cell? ⟨b, off, none⟩ = some (.int .u8 c0)) (k1 : w.cell? ⟨b, off + 1, none⟩ = some (.int .u8 c1)) (k2 : w.cell? ⟨b, off + 2, none⟩ = some (.int .u8 c2)) (k3 : w.cell? ⟨b, off + 3, none⟩ = some (.int .u8 c3)) :
    Calls Tryd.prog 32 #[.slice (some ⟨b, off, none⟩) 4 cap] w fun e w' => e = .returned (.int .i64 (c0 % 8 * 262144 + c1 % 64 * 4096 + c2 % 64 * 64 + c3 % 64 : Nat)) ∧ ∃ q, w' = w.drewN q := by
  have he : Hid _ := four_in c0 c1 c2 c3
  go_enter Tryd.func32, Tryd.ntmps32
  go_wp2
  go_quiet (fail)
  go_wp2
  go_ret
  exact ⟨by rw [← he.out]; rfl, nq, rfl⟩
theorem xvalue_any (b off cap : Nat) (zs : List Int) (w : World) (hg : Good zs) (hl : lenB zs ≤ zs.length) (hb : Bytes w (some ⟨b, off, none⟩) zs) :
    Calls Tryd.prog 32 #[.slice (some ⟨b, off, none⟩) (lenB zs) cap] w fun e w' => e = .returned (.int .i64 (valB zs : Nat)) ∧ ∃ q, w' = w.drewN q := by
  have z := nth_lt hb.1
  have hB : lenB zs = lenN (nth zs 0) := rfl
  have c : ∀ i, i < lenB zs → w.cell? ⟨b, off + i, none⟩ = some (.int .u8 (nth zs i : Nat)) := fun i hi => hb.nat (by omega)
  have k0 := hg.1
  rcases len_cases (nth zs 0) with ⟨e, k⟩ | ⟨e, k⟩ | ⟨e, k⟩ | ⟨e, k⟩ | ⟨e, k⟩ <;> rw [← hB] at e <;> rw [e] at c ⊢
  · rw [show valB zs = nth zs 0 from by unfold valB valN; rw [if_pos k]]
    exact xvalue_1 b off cap _ w (c 0 (by omega)) (z 0)
  · rw [show valB zs = _ from by unfold valB valN; rw [if_neg (by omega), if_pos (by omega)]]
    exact xvalue_2 b off cap _ _ w (z 0) (z 1) (c 0 (by omega)) (c 1 (by omega))
  · rw [show valB zs = _ from by unfold valB valN; rw [if_neg (by omega), if_neg (by omega), if_pos (by omega)]]
    exact xvalue_3 b off cap _ _ _ w (z 0) (z 1) (z 2) (c 0 (by omega)) (c 1 (by omega)) (c 2 (by omega))
  · rw [show valB zs = _ from by unfold valB valN; rw [if_neg (by omega), if_neg (by omega), if_neg (by omega)]]
    exact xvalue_4 b off cap _ _ _ _ w (z 0) (z 1) (z 2) (z 3) (c 0 (by omega)) (c 1 (by omega)) (c 2 (by omega)) (c 3 (by omega))
  · exact absurd (hB.symm.trans e) k0

/-- The two ways 'first' ends. -/
theorem xfirst_good (b off n cap : Nat) (zs : List Int) (w : World) (hl : zs.length = n) (h0 : 0 < n) (hb : Bytes w (some ⟨b, off, none⟩) zs) (hn : n ≤ 4611686018427387904) (hg : Good zs) :
    Calls Tryd.prog 31 #[.slice (some ⟨b, off, none⟩) n cap] w fun e w' => e = .returned (.tuple #[.int .i64 (lenB zs : Nat), .int .i64 (-1)]) ∧ ∃ q, w' = w.drewN q := by
  have hne := good_ne hg (fun h => by rw [h] at hl; simp at hl; omega)
  exact xfirst_any b off n cap zs w hl h0 hb hn (by omega) (lenB zs) hne.1 (fun i h1 h2 => good_okAt hl hg h1 h2) _ (.inl ⟨rfl, rfl⟩)
theorem xfirst_bad (b off n cap : Nat) (zs : List Int) (w : World) (hl : zs.length = n) (h0 : 0 < n) (hb : Bytes w (some ⟨b, off, none⟩) zs) (hn : n ≤ 4611686018427387904) (hg : ¬ Good zs) :
    Calls Tryd.prog 31 #[.slice (some ⟨b, off, none⟩) n cap] w fun e w' => e = .returned (.tuple #[.int .i64 0, .int .i64 (badB zs : Nat)]) ∧ ∃ q, w' = w.drewN q := by
  by_cases hz : lenB zs = 0
  · have hB0 : badB zs = 0 := by unfold badB; rw [if_pos hz]
    rw [hB0]
    have c0 : w.cell? ⟨b, off, none⟩ = some (.int .u8 (nth zs 0 : Nat)) := hb.nat (i := 0) (by omega)
    have kl := xlength_any (nth zs 0) w
    rw [show lenN (nth zs 0) = 0 from hz] at kl
    clear hg hb hB0 hz hl
    generalize nth zs 0 = c at *
    go_enter Tryd.func31, Tryd.ntmps31
    go_wp2_with (go_at_call 49; refine kl.mono ?_; rintro e w' ⟨rfl, hw⟩; obtain rfl : w = w' := hw.symm)
    go_ret2
    exact ⟨rfl, 0, rfl⟩
  · obtain ⟨h1, h2, h3, h4⟩ := bad_okAt hl hg hz
    have hle : badB zs ≤ n := by
      rw [← hl]
      exact bad_le (fun h => by rw [h] at hl; simp at hl; omega) hg
    exact xfirst_any b off n cap zs w hl h0 hb hn hz (badB zs) h2 h3 _ (.inr ⟨h1, h4, rfl, hle⟩)

end Go.Proofs.YtfkoghmbkgbgbaaDoor
