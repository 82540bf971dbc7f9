/-
  Parts of the proof.
-/
import Derived.Test.YtmlacmoembjeoaaGreatDoorV29
import Derived.Test.YtmlacmoembjeoaaGreatDoorV30
import Derived.Test.YtmlacmoembjeoaaGreatDoorV31
import Derived.Test.YtmlacmoembjeoaaGreatDoorV4
import Derived.Test.YtmlacmoembjeoaaGreatDoorV7
import Derived.Deep.QuietTactic
import Derived.BigQuiet
namespace Go.Proofs.YtmlacmoembjeoaaGreatDoor
open Go.RowKit
set_option linter.unusedVariables false

end Go.Proofs.YtmlacmoembjeoaaGreatDoor
namespace Go.Proofs.YtmlacmoembjeoaaGreatDoor
open Go.RowKit

theorem xlength_0 (c : Nat) (w : World) (h : c < 128) : Calls Tryz.prog 102 #[.int .u8 c] w fun e w' => e = .returned (.int .i64 1) ∧ w' = w := by
  have d0 : decide ((c : Int) < 128) = true := by simp; omega
  go_enter Tryz.func102, Tryz.ntmps102
  go_wp2
  go_ret
  exact ⟨rfl, rfl⟩
theorem xlength_1 (c : Nat) (w : World) (h : 194 ≤ c ∧ c ≤ 223) : Calls Tryz.prog 102 #[.int .u8 c] w fun e w' => e = .returned (.int .i64 2) ∧ w' = w := by
  have d0 : decide ((c : Int) < 128) = false := by simp; omega
  have d2 : decide ((194 : Int) ≤ (c : Int)) = true := by simp; omega
  have d4 : decide ((c : Int) ≤ 223) = true := by simp; omega
  go_enter Tryz.func102, Tryz.ntmps102
  go_wp2
  go_ret
  exact ⟨rfl, rfl⟩
theorem xlength_2 (c : Nat) (w : World) (h : 224 ≤ c ∧ c ≤ 239) : Calls Tryz.prog 102 #[.int .u8 c] w fun e w' => e = .returned (.int .i64 3) ∧ w' = w := by
  have d0 : decide ((c : Int) < 128) = false := by simp; omega
  have d2 : decide ((194 : Int) ≤ (c : Int)) = true := by simp; omega
  have d4 : decide ((c : Int) ≤ 223) = false := by simp; omega
  have d6 : decide ((224 : Int) ≤ (c : Int)) = true := by simp; omega
  have d8 : decide ((c : Int) ≤ 239) = true := by simp; omega
  go_enter Tryz.func102, Tryz.ntmps102
  go_wp2
  go_ret
  exact ⟨rfl, rfl⟩
theorem xlength_3 (c : Nat) (w : World) (h : 240 ≤ c ∧ c ≤ 244) : Calls Tryz.prog 102 #[.int .u8 c] w fun e w' => e = .returned (.int .i64 4) ∧ w' = w := by
  have d0 : decide ((c : Int) < 128) = false := by simp; omega
  have d2 : decide ((194 : Int) ≤ (c : Int)) = true := by simp; omega
  have d4 : decide ((c : Int) ≤ 223) = false := by simp; omega
  have d6 : decide ((224 : Int) ≤ (c : Int)) = true := by simp; omega
  have d8 : decide ((c : Int) ≤ 239) = false := by simp; omega
  have d10 : decide ((240 : Int) ≤ (c : Int)) = true := by simp; omega
  have d12 : decide ((c : Int) ≤ 244) = true := by simp; omega
  go_enter Tryz.func102, Tryz.ntmps102
  go_wp2
  go_ret
  exact ⟨rfl, rfl⟩
theorem xlength_4 (c : Nat) (w : World) (h : 128 ≤ c ∧ c < 194) : Calls Tryz.prog 102 #[.int .u8 c] w fun e w' => e = .returned (.int .i64 0) ∧ w' = w := by
  have d0 : decide ((c : Int) < 128) = false := by simp; omega
  have d2 : decide ((194 : Int) ≤ (c : Int)) = false := by simp; omega
  have d4 : decide ((224 : Int) ≤ (c : Int)) = false := by simp; omega
  have d6 : decide ((240 : Int) ≤ (c : Int)) = false := by simp; omega
  go_enter Tryz.func102, Tryz.ntmps102
  go_wp2
  go_ret
  exact ⟨rfl, rfl⟩
theorem xlength_5 (c : Nat) (w : World) (h : 244 < c) : Calls Tryz.prog 102 #[.int .u8 c] w fun e w' => e = .returned (.int .i64 0) ∧ w' = w := by
  have d0 : decide ((c : Int) < 128) = false := by simp; omega
  have d2 : decide ((194 : Int) ≤ (c : Int)) = true := by simp; omega
  have d4 : decide ((c : Int) ≤ 223) = false := by simp; omega
  have d6 : decide ((224 : Int) ≤ (c : Int)) = true := by simp; omega
  have d8 : decide ((c : Int) ≤ 239) = false := by simp; omega
  have d10 : decide ((240 : Int) ≤ (c : Int)) = true := by simp; omega
  have d12 : decide ((c : Int) ≤ 244) = false := by simp; omega
  go_enter Tryz.func102, Tryz.ntmps102
  go_wp2
  go_ret
  exact ⟨rfl, rfl⟩
theorem xlength_any (c : Nat) (w : World) : Calls Tryz.prog 102 #[.int .u8 c] w fun e w' => e = .returned (.int .i64 (lenN c : Nat)) ∧ w' = w := by
  rcases len_cases c with ⟨e, h⟩ | ⟨e, h⟩ | ⟨e, h⟩ | ⟨e, h⟩ | ⟨e, h0, h | h⟩ <;> rw [e]
  · exact xlength_0 c w h
  · exact xlength_1 c w h
  · exact xlength_2 c w h
  · exact xlength_3 c w h
  · exact xlength_4 c w ⟨h0, h⟩
  · exact xlength_5 c w h
theorem xleast_any (c : Nat) (w : World) : Calls Tryz.prog 103 #[.int .u8 c] w fun e w' => e = .returned (.int .u8 (lo2 c : Nat)) ∧ w' = w := by
  have hc := lo2_cases c
  generalize lo2 c = L at *
  rcases hc with ⟨rfl, rfl⟩ | ⟨rfl, rfl⟩ | ⟨h1, h2, rfl⟩
  · go_enter Tryz.func103, Tryz.ntmps103
    go_wp2
    go_ret
    exact ⟨rfl, rfl⟩
  · go_enter Tryz.func103, Tryz.ntmps103
    go_wp2
    go_ret
    exact ⟨rfl, rfl⟩
  · have e1 : ((c : Int) == 224) = false := by simp; omega
    have e2 : ((c : Int) == 240) = false := by simp; omega
    go_enter Tryz.func103, Tryz.ntmps103
    go_wp2
    go_ret
    exact ⟨rfl, rfl⟩
theorem xmost_any (c : Nat) (w : World) : Calls Tryz.prog 104 #[.int .u8 c] w fun e w' => e = .returned (.int .u8 (hi2 c : Nat)) ∧ w' = w := by
  have hc := hi2_cases c
  generalize hi2 c = L at *
  rcases hc with ⟨rfl, rfl⟩ | ⟨rfl, rfl⟩ | ⟨h1, h2, rfl⟩
  · go_enter Tryz.func104, Tryz.ntmps104
    go_wp2
    go_ret
    exact ⟨rfl, rfl⟩
  · go_enter Tryz.func104, Tryz.ntmps104
    go_wp2
    go_ret
    exact ⟨rfl, rfl⟩
  · have e1 : ((c : Int) == 237) = false := by simp; omega
    have e2 : ((c : Int) == 244) = false := by simp; omega
    go_enter Tryz.func104, Tryz.ntmps104
    go_wp2
    go_ret
    exact ⟨rfl, rfl⟩

def okAt (zs : List Int) (n i : Nat) : Prop := i < n ∧ ((i = 1 ∧ lo2 (nth zs 0) ≤ nth zs 1 ∧ nth zs 1 ≤ hi2 (nth zs 0)) ∨ (2 ≤ i ∧ 128 ≤ nth zs i ∧ nth zs i ≤ 191))
theorem good_okAt {zs : List Int} {n : Nat} (hl : zs.length = n) (h : Good zs) {i : Nat} (h1 : 1 ≤ i) (h2 : i < lenB zs) : okAt zs n i := by
  obtain ⟨k0, k1, k2, k3⟩ := h
  unfold ok1 at k1
  unfold okK at k2 k3
  rw [hl] at k1 k2 k3
  have hb : lenB zs = lenN (nth zs 0) := rfl
  rw [hb] at h2
  unfold okAt
  have hc := len_cases (nth zs 0)
  have h4 : i = 1 ∨ i = 2 ∨ i = 3 := by omega
  rcases h4 with rfl | rfl | rfl
  · have := k1 (by omega); omega
  · have := k2 (by omega); omega
  · have := k3 (by omega); omega
theorem bad_okAt {zs : List Int} {n : Nat} (hl : zs.length = n) (h : ¬ Good zs) (h0 : lenB zs ≠ 0) :
    badB zs < lenB zs ∧ 1 ≤ badB zs ∧ (∀ i, 1 ≤ i → i < badB zs → okAt zs n i) ∧ ¬ okAt zs n (badB zs) := by
  unfold okAt
  have hb := bad_cases h
  unfold ok1 okK at hb
  rw [hl] at hb
  rcases hb with ⟨e, k0⟩ | ⟨e, k1, k2⟩ | ⟨e, k1, k2, k3⟩ | ⟨e, k1, k2, k3, k4⟩
  · exact absurd k0 h0
  · rw [e]
    exact ⟨by omega, by omega, fun i h1 h2 => by omega, by omega⟩
  · rw [e]
    refine ⟨by omega, by omega, fun i h1 h2 => ?_, by omega⟩
    obtain rfl : i = 1 := by omega
    omega
  · rw [e]
    refine ⟨by omega, by omega, fun i h1 h2 => ?_, by omega⟩
    have h3 : i = 1 ∨ i = 2 := by omega
    rcases h3 with rfl | rfl
    · omega
    · omega

set_option maxHeartbeats 1000000 in
theorem xfirst_any (b off n cap : Nat) (zs : List Int) (w : World) (hl : zs.length = n) (h0 : 0 < n) (hb : Bytes w (some ⟨b, off, none⟩) zs) (hn : n ≤ 4611686018427387904)
    (hL : lenB zs ≠ 0) (S : Nat) (hS1 : 1 ≤ S) (hS : ∀ i, 1 ≤ i → i < S → okAt zs n i) (R : Value)
    (hend : (S = lenB zs ∧ R = .tuple #[.int .i64 (lenB zs : Nat), .int .i64 (-1)]) ∨ (S < lenB zs ∧ ¬ okAt zs n S ∧ R = .tuple #[.int .i64 0, .int .i64 (S : Nat)] ∧ S ≤ n)) :
    Calls Tryz.prog 80 #[.slice (some ⟨b, off, none⟩) n cap] w fun e w' => e = .returned R ∧ ∃ q, w' = w.drewN q := by
  have hLen : Hid (zs.length = n) := hl
  have hB : Hid (Bytes w (some ⟨b, off, none⟩) zs) := hb
  have c0 : w.cell? ⟨b, off, none⟩ = some (.int .u8 (nth zs 0 : Nat)) := hb.nat (i := 0) (by omega)
  have kl := xlength_any (nth zs 0) w
  rw [show lenN (nth zs 0) = lenB zs from rfl] at kl
  have k1 := fun w1 => xleast_any (nth zs 0) w1
  have k2 := fun w1 => xmost_any (nth zs 0) w1
  have hle : lenB zs ≤ 4 := by
    have := len_cases (nth zs 0)
    unfold lenB
    omega
  have hl0 : (((lenB zs : Nat) : Int) == 0) = false := by simp; omega
  have hSH : Hid (∀ i, 1 ≤ i → i < S → okAt zs n i) := hS
  have hEH : Hid ((S = lenB zs ∧ R = .tuple #[.int .i64 (lenB zs : Nat), .int .i64 (-1)]) ∨ (S < lenB zs ∧ ¬ okAt zs n S ∧ R = .tuple #[.int .i64 0, .int .i64 (S : Nat)] ∧ S ≤ n)) := hend
  have hSL : S ≤ lenB zs := by rcases hend with h | h <;> omega
  clear hl hb hS hend hL
  generalize hLL : lenB zs = L at *
  clear hLL
  unfold okAt at hSH hEH
  generalize nth zs 0 = c at *
  generalize lo2 c = l0 at *
  generalize hi2 c = u0 at *
  go_enter Tryz.func80, Tryz.ntmps80
  go_wp2_with (go_at_call 102; refine kl.mono ?_; rintro e w' ⟨rfl, hw⟩; obtain rfl : w = w' := hw.symm)
  go_loopw [5] (fun i wr => ∃ k : Nat, 1 ≤ k ∧ k ≤ S ∧ i = .int .i64 k ∧ Hid (∃ q, wr = w.drewN q)) (fun i _ => S - (intOf i).toNat)
  case atStart => exact ⟨1, Nat.le_refl _, hS1, rfl, 0, rfl⟩
  case round =>
    obtain ⟨k, hk1, hk2, rfl, hQ⟩ := hrel
    have hcell : Hid (∀ p, wr.cell? p = w.cell? p) := by obtain ⟨q0, h⟩ := hQ.out; intro p; rw [h]; rfl
    have c0r : wr.cell? ⟨b, off, none⟩ = some (.int .u8 (c : Nat)) := by rw [hcell.out]; exact c0
    have hmore : Hid (∀ q, ∃ q', wr.drewN q = w.drewN q') := fun q => by obtain ⟨q0, h⟩ := hQ.out; exact ⟨q0 + q, by rw [h, World.drewN_drewN]⟩
    by_cases hlt : k < S
    · obtain ⟨s1, s2⟩ := hSH.out k hk1 hlt
      have ck : wr.cell? ⟨b, off + k, none⟩ = some (.int .u8 (nth zs k : Nat)) := by rw [hcell.out]; exact hB.out.nat (by rw [hLen.out]; exact s1)
      have j1 : (k : Int) < (L : Int) := by omega
      have j2 : (k : Int) < (n : Int) := by omega
      rcases s2 with ⟨rfl, s2, s3⟩ | ⟨s2, s3, s4⟩
      · generalize nth zs 1 = d at *
        go_wp2
        go_quiet (first | (go_at_call 103; exact Calls.quiet_of_same (k1 _)) | (go_at_call 104; exact Calls.quiet_of_same (k2 _)))
        go_wp2
        go_roundw
        case rel => exact ⟨2, by omega, by omega, rfl, hmore.out _⟩
        case measure => simp [intOf]; omega
      · have e1 : ((k : Int) == 1) = false := by simp; omega
        generalize nth zs k = d at *
        go_wp2
        go_roundw
        case rel => exact ⟨k + 1, by omega, by omega, by go_num, hQ⟩
        case measure => simp [intOf]; omega
    · obtain rfl : k = S := by omega
      rcases hEH.out with ⟨rfl, hR⟩ | ⟨h1, h2, hR, h3⟩
      · have hR' : Hid (R = _) := hR
        clear hR
        go_wp2
        go_ret2
        rw [hR'.out]
        exact ⟨rfl, hQ.out⟩
      · have hR' : Hid (R = _) := hR
        clear hR
        by_cases hkn : k < n
        · have ck : wr.cell? ⟨b, off + k, none⟩ = some (.int .u8 (nth zs k : Nat)) := by rw [hcell.out]; exact hB.out.nat (by rw [hLen.out]; exact hkn)
          have j2 : (k : Int) < (n : Int) := by omega
          by_cases e1 : k = 1
          · subst e1
            have hno : Hid (¬ (l0 ≤ nth zs 1 ∧ nth zs 1 ≤ u0)) := fun h => h2 ⟨hkn, .inl ⟨rfl, h⟩⟩
            clear h2
            generalize nth zs 1 = d at *
            go_wp2
            go_quiet (first | (go_at_call 103; exact Calls.quiet_of_same (k1 _)) | (go_at_call 104; exact Calls.quiet_of_same (k2 _)))
            go_wp2
            all_goals first
              | (exfalso; have := hno.out; omega)
              | (go_ret2
                 rw [hR'.out]
                 exact ⟨rfl, hmore.out _⟩)
          · have hno : Hid (¬ (128 ≤ nth zs k ∧ nth zs k ≤ 191)) := fun h => h2 ⟨hkn, .inr ⟨by omega, h⟩⟩
            have e2 : ((k : Int) == 1) = false := by simp; omega
            clear h2 e1
            generalize nth zs k = d at *
            go_wp2
            all_goals first
              | (exfalso; have := hno.out; omega)
              | (go_ret2
                 rw [hR'.out]
                 exact ⟨rfl, hQ.out⟩)
        · obtain rfl : k = n := by omega
          clear h2
          go_wp2
          go_ret2
          rw [hR'.out]
          exact ⟨rfl, hQ.out⟩
end Go.Proofs.YtmlacmoembjeoaaGreatDoor
