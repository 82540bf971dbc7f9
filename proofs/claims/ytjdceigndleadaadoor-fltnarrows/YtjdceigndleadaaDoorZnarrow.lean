/-
  The document's side: Narrow.
-/
import Derived.Test.YtjdceigndleadaaDoorZcands
import Derived.Test.YtjdceigndleadaaDoorZwid
import Derived.Test.YtjdceigndleadaaDoorFcal
namespace Go.Proofs.YtjdceigndleadaaDoor
open Go.RowKit
set_option linter.unusedVariables false

theorem take_all {l : List Int} {p : Int → Prop} {i : Nat} (hi : i < l.length) (h : ∀ c ∈ l.take i, p c) (hc : p (l.getD i 0)) : ∀ c ∈ l.take (i + 1), p c := by
  intro c hm
  rw [List.take_succ_eq_append_getElem hi] at hm
  rcases List.mem_append.1 hm with h1 | h1
  · exact h c h1
  · simp at h1
    rw [h1]
    rwa [List.getD_eq_getElem?_getD, List.getElem?_eq_getElem hi] at hc
theorem getD_in {l : List Int} {i : Nat} (hi : i < l.length) : l.getD i 0 ∈ l := by
  rw [List.getD_eq_getElem?_getD, List.getElem?_eq_getElem hi]
  exact List.getElem_mem hi
set_option maxRecDepth 100000 in
set_option maxHeartbeats 2000000 in
theorem znarrow_any (n : Int) (hn : 0 ≤ n ∧ n < 18446744073709551616) (w : World) : Calls Tryd.prog 12 #[.int .u64 n] w fun e w' => e = .returned (.tuple #[.int .u64 (narrowA n).1, .int .i64 (narrowA n).2]) ∧ Below w.heap.size w w' := by
  obtain ⟨R, hR⟩ : ∃ R, narrowA n = R := ⟨_, rfl⟩
  rw [hR]
  have a0 : Hid (widen2 (near2 n) = n → R = (near2 n, 2)) := fun h => by rw [← hR]; unfold narrowA; rw [if_pos h]
  have a1 : Hid (¬ widen2 (near2 n) = n → widen4 (near4 n) = n → R = (near4 n, 4)) := fun h h1 => by rw [← hR]; unfold narrowA; rw [if_neg h, if_pos h1]
  have a2 : Hid (¬ widen2 (near2 n) = n → ¬ widen4 (near4 n) = n → R = (n, 8)) := fun h h1 => by rw [← hR]; unfold narrowA; rw [if_neg h, if_neg h1]
  have hn' : Hid (0 ≤ n ∧ n < 18446744073709551616) := hn
  clear hR hn
  go_enter Tryd.func12, Tryd.ntmps12
  go_wp2
  go_loopw [4] (fun iv wr => ∃ k : Nat, k ≤ 2 ∧ iv = .int .i64 (2 ^ (k + 1) : Nat) ∧ Hid (1 ≤ k → ¬ widen2 (near2 n) = n) ∧ Hid (2 ≤ k → ¬ widen4 (near4 n) = n) ∧ Hid (Below w.heap.size w wr)) (fun iv _ => (8 - intOf iv).toNat)
  case atStart => exact ⟨0, by decide, rfl, (fun h => by omega), (fun h => by omega), Below.refl _ _⟩
  case round =>
    obtain ⟨k, hk, rfl, f1, f2, hbl⟩ := hrel
    have hks : k = 0 ∨ k = 1 ∨ k = 2 := by omega
    rcases hks with rfl | rfl | rfl
    · have kC := zcands2_any n hn'.out
      have hlen := cand_len2 n
      have hrm : Hid (∀ c ∈ candN2 n, 0 ≤ c ∧ c < 65536) := fun c hc => cand_room2 hn'.out hc
      have hone : Hid (∀ c ∈ candN2 n, widen2 c = n → c = near2 n) := fun c hc h => cand_one2 hn'.out hc h
      have hnone : Hid ((∀ c ∈ candN2 n, widen2 c ≠ n) → ¬ widen2 (near2 n) = n) := fun h => cand_none2 hn'.out h
      generalize candN2 n = l at *
      clear hk
      go_wp2_with (go_at_call 23; refine (kC _).mono ?_; rintro e w1 ⟨⟨v, rfl, ho⟩, c1⟩)
      obtain ⟨g, m, cap, rfl, hm, hmc, hcm, hg⟩ := ho.row hlen.1
      obtain ⟨B0, hB0⟩ : ∃ b, wr.heap.size = b := ⟨_, rfl⟩
      have hO : Hid (OwnsW w1 B0 (.slice (some ⟨g, 0, none⟩) m cap) l) := by rw [← hB0]; exact ho
      have d1 : Hid (Below w.heap.size w w1) := hbl.out.trans (c1.mono hbl.out.size)
      have hlm : Hid (l.length ≤ 2) := hlen.2
      clear ho c1 hg kC hlen hB0
      go_wp2
      go_loopw [6] (fun jv wx => ∃ j : Nat, j ≤ m ∧ jv = .int .i64 j ∧ Hid (∀ c ∈ l.take j, widen2 c ≠ n) ∧ Hid (OwnsW wx B0 (.slice (some ⟨g, 0, none⟩) m cap) l) ∧ Hid (Below w.heap.size w wx)) (fun jv _ => m - (intOf jv).toNat)
      case atStart => exact ⟨0, Nat.zero_le _, rfl, (fun c hc => by simp at hc), hO, d1⟩
      case round =>
        obtain ⟨j, hj, rfl, ht, hO2, hb2⟩ := hrel
        clear hO d1
        by_cases hlt : j < m
        · have hjl : j < l.length := by rw [hm.out]; exact hlt
          have hcell := hO2.out.cell hjl
          have hin := getD_in hjl
          have kw := zwid2_any (l.getD j 0) (hrm.out _ hin)
          have hstep : Hid (widen2 (l.getD j 0) ≠ n → ∀ c ∈ l.take (j + 1), widen2 c ≠ n) := fun h => take_all hjl ht.out h
          have heq : Hid (widen2 (l.getD j 0) = n → l.getD j 0 = near2 n) := hone.out _ hin
          have i1 : (j : Int) < (m : Int) := by omega
          have wj : IntKind.i64.wrap ((j : Int) + 1) = (j : Int) + 1 := by have := hlm.out; have := hm.out; rw [IntKind.wrap_i64]; omega
          clear hin hjl
          generalize l.getD j 0 = C at *
          by_cases hw : widen2 C = n
          · have hCn := heq.out hw
            have hfin : R = (C, 2) := by
              rw [hCn]
              have hw2 : widen2 (near2 n) = n := by rw [← hCn]; exact hw
              exact a0.out hw2
            subst hfin
            have he : (widen2 C == n) = true := by simpa using hw
            clear hw hCn heq hstep a0 a1 a2 f1 f2 hnone hone hrm
            generalize widen2 C = W at *
            go_wp2_with (go_at_call 20; refine (kw _).mono ?_; rintro e w3 ⟨rfl, c3⟩; have d3 : Below w.heap.size w w3 := hb2.out.trans (c3.mono hb2.out.size); have hc3 : w3.cell? ⟨g, j, none⟩ = some (.int .u64 C) := (c3.cell (p := ⟨g, j, none⟩) (hO2.out.ge.2)).trans hcell)
            go_ret2
            exact ⟨rfl, d3⟩
          · have he : (widen2 C == n) = false := by simpa using hw
            have hst := hstep.out hw
            have hst' : Hid (∀ c ∈ l.take (j + 1), widen2 c ≠ n) := hst
            clear hw heq hstep hst
            generalize hWW : widen2 C = W at kw he
            clear hWW
            go_wp2_with (go_at_call 20; refine (kw _).mono ?_; rintro e w3 ⟨rfl, c3⟩; have d3 : Below w.heap.size w w3 := hb2.out.trans (c3.mono hb2.out.size); have hO3 : Hid (OwnsW w3 B0 (.slice (some ⟨g, 0, none⟩) m cap) l) := hO2.out.below c3)
            go_roundw
            case rel => exact ⟨j + 1, by omega, by go_num, hst', hO3, d3⟩
            case measure => simp [intOf]; omega
        · obtain rfl : j = m := by omega
          have hx : Hid (¬ widen2 (near2 n) = n) := hnone.out (fun c hc => ht.out c (by rw [List.take_of_length_le (by rw [hm.out]; exact Nat.le_refl _)]; exact hc))
          clear hlt ht hnone hone hrm
          go_wp2
          go_roundw
          case rel => exact ⟨1, by decide, by first | rfl | simp, (fun _ => hx.out), (fun h => by omega), hb2⟩
          case measure => simp [intOf]
    · have kC := zcands4_any n hn'.out
      have hlen := cand_len4 n
      have hrm : Hid (∀ c ∈ candN4 n, 0 ≤ c ∧ c < 4294967296) := fun c hc => cand_room4 hn'.out hc
      have hone : Hid (∀ c ∈ candN4 n, widen4 c = n → c = near4 n) := fun c hc h => cand_one4 hn'.out hc h
      have hnone : Hid ((∀ c ∈ candN4 n, widen4 c ≠ n) → ¬ widen4 (near4 n) = n) := fun h => cand_none4 hn'.out h
      generalize candN4 n = l at *
      clear hk
      go_wp2_with (go_at_call 23; refine (kC _).mono ?_; rintro e w1 ⟨⟨v, rfl, ho⟩, c1⟩)
      obtain ⟨g, m, cap, rfl, hm, hmc, hcm, hg⟩ := ho.row hlen.1
      obtain ⟨B0, hB0⟩ : ∃ b, wr.heap.size = b := ⟨_, rfl⟩
      have hO : Hid (OwnsW w1 B0 (.slice (some ⟨g, 0, none⟩) m cap) l) := by rw [← hB0]; exact ho
      have d1 : Hid (Below w.heap.size w w1) := hbl.out.trans (c1.mono hbl.out.size)
      have hlm : Hid (l.length ≤ 2) := hlen.2
      clear ho c1 hg kC hlen hB0
      go_wp2
      go_loopw [6] (fun jv wx => ∃ j : Nat, j ≤ m ∧ jv = .int .i64 j ∧ Hid (∀ c ∈ l.take j, widen4 c ≠ n) ∧ Hid (OwnsW wx B0 (.slice (some ⟨g, 0, none⟩) m cap) l) ∧ Hid (Below w.heap.size w wx)) (fun jv _ => m - (intOf jv).toNat)
      case atStart => exact ⟨0, Nat.zero_le _, rfl, (fun c hc => by simp at hc), hO, d1⟩
      case round =>
        obtain ⟨j, hj, rfl, ht, hO2, hb2⟩ := hrel
        clear hO d1
        by_cases hlt : j < m
        · have hjl : j < l.length := by rw [hm.out]; exact hlt
          have hcell := hO2.out.cell hjl
          have hin := getD_in hjl
          have kw := zwid4_any (l.getD j 0) (hrm.out _ hin)
          have hstep : Hid (widen4 (l.getD j 0) ≠ n → ∀ c ∈ l.take (j + 1), widen4 c ≠ n) := fun h => take_all hjl ht.out h
          have heq : Hid (widen4 (l.getD j 0) = n → l.getD j 0 = near4 n) := hone.out _ hin
          have i1 : (j : Int) < (m : Int) := by omega
          have wj : IntKind.i64.wrap ((j : Int) + 1) = (j : Int) + 1 := by have := hlm.out; have := hm.out; rw [IntKind.wrap_i64]; omega
          clear hin hjl
          generalize l.getD j 0 = C at *
          by_cases hw : widen4 C = n
          · have hCn := heq.out hw
            have hfin : R = (C, 4) := by
              rw [hCn]
              have hw2 : widen4 (near4 n) = n := by rw [← hCn]; exact hw
              exact a1.out (f1.out (by decide)) hw2
            subst hfin
            have he : (widen4 C == n) = true := by simpa using hw
            clear hw hCn heq hstep a0 a1 a2 f1 f2 hnone hone hrm
            generalize widen4 C = W at *
            go_wp2_with (go_at_call 20; refine (kw _).mono ?_; rintro e w3 ⟨rfl, c3⟩; have d3 : Below w.heap.size w w3 := hb2.out.trans (c3.mono hb2.out.size); have hc3 : w3.cell? ⟨g, j, none⟩ = some (.int .u64 C) := (c3.cell (p := ⟨g, j, none⟩) (hO2.out.ge.2)).trans hcell)
            go_ret2
            exact ⟨rfl, d3⟩
          · have he : (widen4 C == n) = false := by simpa using hw
            have hst := hstep.out hw
            have hst' : Hid (∀ c ∈ l.take (j + 1), widen4 c ≠ n) := hst
            clear hw heq hstep hst
            generalize hWW : widen4 C = W at kw he
            clear hWW
            go_wp2_with (go_at_call 20; refine (kw _).mono ?_; rintro e w3 ⟨rfl, c3⟩; have d3 : Below w.heap.size w w3 := hb2.out.trans (c3.mono hb2.out.size); have hO3 : Hid (OwnsW w3 B0 (.slice (some ⟨g, 0, none⟩) m cap) l) := hO2.out.below c3)
            go_roundw
            case rel => exact ⟨j + 1, by omega, by go_num, hst', hO3, d3⟩
            case measure => simp [intOf]; omega
        · obtain rfl : j = m := by omega
          have hx : Hid (¬ widen4 (near4 n) = n) := hnone.out (fun c hc => ht.out c (by rw [List.take_of_length_le (by rw [hm.out]; exact Nat.le_refl _)]; exact hc))
          clear hlt ht hnone hone hrm
          go_wp2
          go_roundw
          case rel => exact ⟨2, by decide, by first | rfl | simp, (fun _ => f1.out (by decide)), (fun _ => hx.out), hb2⟩
          case measure => simp [intOf]
    · have hfin := a2.out (f1.out (by decide)) (f2.out (by decide))
      subst hfin
      clear hk a0 a1 a2 f1 f2
      go_wp2
      go_ret2
      exact ⟨rfl, hbl.out⟩
end Go.Proofs.YtjdceigndleadaaDoor
