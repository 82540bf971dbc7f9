/-
  Four bytes read as a check sum, the lowest first.
-/
import Derived.Test.YtfipdldoklkciaaRefSeal
import Derived.Deep.QuietTactic
import Derived.BigQuiet
namespace Go.Proofs.Ytfipdldoklkciaa
open Go.RowKit

theorem or_in (a c p : Nat) (i : Nat) (hp : p = 2 ^ i) (ha : a < p) (hc : c * p < 4294967296) (hp0 : a + c * p < 4294967296) :
    bits .or .u32 (a : Int) ((c : Int) * (p : Int)) = ((a + c * p : Nat) : Int) := by
  rw [show (c : Int) * (p : Int) = ((c * p : Nat) : Int) from by rw [Int.natCast_mul], u32_or_nat a (c * p) (by omega) hc, Nat.or_comm, nat_join i (c * p) a (by rw [hp]; exact Nat.mul_mod_left _ _) (by omega), Nat.add_comm]

theorem four_in (c0 c1 c2 c3 : Nat) (h0 : c0 < 256) (h1 : c1 < 256) (h2 : c2 < 256) (h3 : c3 < 256) :
    bits .or .u32 (bits .or .u32 (bits .or .u32 (c0 : Int) ((c1 : Int) * 256)) ((c2 : Int) * 65536)) ((c3 : Int) * 16777216) = ((c0 + 256 * c1 + 65536 * c2 + 16777216 * c3 : Nat) : Int) := by
  have e1 := or_in c0 c1 256 8 (by decide) (by omega) (by omega) (by omega)
  have e2 := or_in (c0 + c1 * 256) c2 65536 16 (by decide) (by omega) (by omega) (by omega)
  have e3 := or_in (c0 + c1 * 256 + c2 * 65536) c3 16777216 24 (by decide) (by omega) (by omega) (by omega)
  rw [show ((256 : Nat) : Int) = 256 from rfl] at e1
  rw [show ((65536 : Nat) : Int) = 65536 from rfl] at e2
  rw [show ((16777216 : Nat) : Int) = 16777216 from rfl] at e3
  rw [e1, e2, e3]
  omega

set_option maxHeartbeats 400000 in
theorem read_any (b off cap : Nat) (c0 c1 c2 c3 : Nat) (w : World) (h0 : c0 < 256) (h1 : c1 < 256) (h2 : c2 < 256) (h3 : c3 < 256)
    (k0 : w.cell? ⟨b, off, none⟩ = some (.int .u8 c0)) (k1 : w.cell? ⟨b, off + 1, none⟩ = some (.int .u8 c1)) (k2 : w.cell? ⟨b, off + 2, none⟩ = some (.int .u8 c2)) (k3 : w.cell? ⟨b, off + 3, none⟩ = some (.int .u8 c3)) :
    Calls Try.prog 114 #[.slice (some ⟨b, off, none⟩) 4 cap] w fun e w' => e = .returned (.int .u32 (c0 + 256 * c1 + 65536 * c2 + 16777216 * c3 : Nat)) ∧ ∃ n, w' = w.drewN n := by
  have he : Hid _ := four_in c0 c1 c2 c3 h0 h1 h2 h3
  go_enter Try.func114, Try.ntmps114
  go_wp2
  go_quiet (fail)
  go_wp2
  go_ret
  exact ⟨by rw [← he.out]; rfl, nq, rfl⟩

/-- Four bytes as a number, the lowest first. -/
def rd4 (l : List Int) : Nat := (l.getD 0 0).toNat + 256 * (l.getD 1 0).toNat + 65536 * (l.getD 2 0).toNat + 16777216 * (l.getD 3 0).toNat

theorem read_at (b off cap : Nat) (l : List Int) (w : World) (hl : l.length = 4) (hb : Bytes w (some ⟨b, off, none⟩) l) :
    Calls Try.prog 114 #[.slice (some ⟨b, off, none⟩) 4 cap] w fun e w' => e = .returned (.int .u32 (rd4 l : Nat)) ∧ ∃ n, w' = w.drewN n := by
  match l, hl with
  | [c0, c1, c2, c3], _ =>
    obtain ⟨hz, _, ha⟩ := hb
    rcases ha with ha | ⟨b', off', hx, hc⟩
    · cases ha
    · cases hx
      have z0 := hz c0 (by simp)
      have z1 := hz c1 (by simp)
      have z2 := hz c2 (by simp)
      have z3 := hz c3 (by simp)
      have e0 : ((c0.toNat : Nat) : Int) = c0 := Int.toNat_of_nonneg z0.1
      have e1 : ((c1.toNat : Nat) : Int) = c1 := Int.toNat_of_nonneg z1.1
      have e2 : ((c2.toNat : Nat) : Int) = c2 := Int.toNat_of_nonneg z2.1
      have e3 : ((c3.toNat : Nat) : Int) = c3 := Int.toNat_of_nonneg z3.1
      exact read_any b off cap c0.toNat c1.toNat c2.toNat c3.toNat w (by omega) (by omega) (by omega) (by omega)
        (by rw [e0]; exact hc 0 (by simp)) (by rw [e1]; exact hc 1 (by simp)) (by rw [e2]; exact hc 2 (by simp)) (by rw [e3]; exact hc 3 (by simp))

theorem rd4_le4 (m : Nat) (l : List Int) (hl : l.length = 4) (hz : ∀ c ∈ l, 0 ≤ c ∧ c < 256) (hm : m < 4294967296) : m = rd4 l ↔ l = le4 m := by
  match l, hl with
  | [c0, c1, c2, c3], _ =>
    have z0 := hz c0 (by simp)
    have z1 := hz c1 (by simp)
    have z2 := hz c2 (by simp)
    have z3 := hz c3 (by simp)
    show m = c0.toNat + 256 * c1.toNat + 65536 * c2.toNat + 16777216 * c3.toNat ↔ _
    constructor
    · intro h
      simp only [le4, List.cons.injEq, and_true]
      omega
    · intro h
      simp only [le4, List.cons.injEq, and_true] at h
      omega
end Go.Proofs.Ytfipdldoklkciaa
