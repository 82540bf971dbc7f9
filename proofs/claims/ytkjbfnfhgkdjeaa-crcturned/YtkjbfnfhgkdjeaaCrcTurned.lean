/-
  For every list of bytes, every place and every word that is not 0: sealed bytes of which the four from that place on are turned by the word are not opened; where the word is 0 the sealed bytes are at least four; the bytes that came stay as they were.
-/
import Derived.Test.YtkjbfnfhgkdjeaaRows
import Derived.Test.YtkjbfnfhgkdjeaaStore
import Derived.WalkKit
import Derived.ProofKit
import Derived.OpenShut
import Derived.ShutString
import Derived.ChangeOld
import Derived.Below
import Derived.SizedLaws
namespace Go.Proofs.Ytkjbfnfhgkdjeaa.crcTurned
open Go.ChangeShapes Go.WideShapes Go.ChangeAt Go.RowKit
open Go.ChangeMaps (open_string shut_string)
set_option linter.unusedVariables false

theorem own : ownKnob Try.prog.godebug = none := by kernel_rfl
theorem laidOut : laidOutB Try.prog = true := by kernel_rfl
theorem bytes_e : Try.prog.bytesOf 5 = 1 := by kernel_rfl

set_option maxHeartbeats 1000000 in
theorem walk (a0 : Option Addr) (len0 cap0 : Nat) (z0 : List Int) (a1 : Int) (a2 : Int) (w : World) (w0 : IsRow .u8 w a0 len0 cap0 z0) (r0 : cap0 ≤ 140737488351232) (w1 : (Lit.int .i64 a1).wf = true) (w2 : (Lit.int .u32 a2).wf = true) :
    Calls Try.prog 8 #[.slice a0 len0 cap0, .int .i64 a1, .int .u32 a2] w fun e w' => e = .returned (.bool true) ∧ Below w.heap.size w w' := by
  have hnil : Hid (a0 = none → cap0 = 0) := nil_cap w0
  obtain ⟨hl, hb⟩ := bytes_of_row w0
  have hlc := row_le w0
  generalize z0.take len0 = zs at *
  subst hl
  have hB : Hid (Bytes w a0 zs) := hb
  clear hb w0
  simp [Lit.wf, show IntKind.i64.min = -9223372036854775808 from by decide, show IntKind.i64.max = 9223372036854775807 from by decide] at w1
  simp [Lit.wf, show IntKind.u32.min = 0 from by decide, show IntKind.u32.max = 4294967295 from by decide] at w2
  obtain ⟨y, rfl⟩ := Int.eq_ofNat_of_zero_le w2.1
  have hy : y < 4294967296 := by omega
  clear w2
  by_cases hy0 : y = 0
  · subst hy0
    go_enter Try.func8, Try.ntmps8
    go_wp2_with fail
    refine (seal_any _ _ _ _ hB.out hnil.out (by omega)).mono ?_
    rintro e v1 ⟨x1, rfl, ho1, hb1⟩
    obtain ⟨a3, n1, cap1, rfl, hl1, -, hc1, hm1, hB1⟩ := ho1.form
    have hn4 : (4 : Int) ≤ (n1 : Int) := by have := hl1.out; rw [List.length_append] at this; simp [le4] at this; omega
    go_wp2_with fail
    refine (alive_any _).mono ?_
    rintro e w4 ⟨rfl, hb4⟩
    go_wp2_with fail
    go_ret
    exact ⟨rfl, hb1.trans (hb4.mono hb1.size)⟩
  · have hyb : ((y : Int) == 0) = false := by rw [beq_eq_false_iff_ne]; omega
    go_enter Try.func8, Try.ntmps8
    go_wp2_with fail
    refine (seal_any _ _ _ _ hB.out hnil.out (by omega)).mono ?_
    rintro e v1 ⟨x1, rfl, ho1, hb1⟩
    obtain ⟨g, n1, cap1, rfl, hO, hl1, hc1, hm1⟩ := ho1.row (by rw [List.length_append]; simp [le4])
    have hn4 : (4 : Int) ≤ (n1 : Int) := by have := hl1.out; rw [List.length_append] at this; simp [le4] at this; omega
    have hlt4 : decide ((n1 : Int) < 4) = false := by simp; omega
    have hn47 : n1 ≤ 140737488355328 := by have := hl1.out; rw [List.length_append] at this; simp [le4] at this; omega
    have ht0 : -((n1 : Int) - 3) < a1.tmod ((n1 : Int) - 3) := Int.lt_tmod_of_pos _ (by omega)
    have ht1 : a1.tmod ((n1 : Int) - 3) < (n1 : Int) - 3 := Int.tmod_lt_of_pos _ (by omega)
    clear ho1
    go_wp2_with fail
    obtain ⟨t, ht, htn⟩ : ∃ t : Nat, (a1.tmod ((n1 : Int) - 3) + (n1 : Int) - 3) % ((n1 : Int) - 3) = (t : Int) ∧ t + 4 ≤ n1 := by
      have q0 := Int.emod_nonneg (a1.tmod ((n1 : Int) - 3) + (n1 : Int) - 3) (show (n1 : Int) - 3 ≠ 0 by omega)
      have q1 := Int.emod_lt_of_pos (a1.tmod ((n1 : Int) - 3) + (n1 : Int) - 3) (show 0 < (n1 : Int) - 3 by omega)
      exact ⟨((a1.tmod ((n1 : Int) - 3) + (n1 : Int) - 3) % ((n1 : Int) - 3)).toNat, (Int.toNat_of_nonneg q0).symm, by omega⟩
    rw [ht]
    obtain ⟨p, c0, c1, c2, c3, r, hL, hpl⟩ := split4 (zs ++ le4 (moreL 0 zs)) t (by rw [hl1.out]; exact htn)
    have hS := (sealed_seal zs).1
    rw [hL] at hO hS
    have hnot : Hid _ := turned_not p r c0 c1 c2 c3 y hy hy0 hO.out.2.2.1 hS
    have hpl' : Hid (p.length = t) := hpl
    clear hL hpl hS ht ht0 ht1 hl1 hyb hlt4 hy0
    go_loopw [39] (fun i wr => ∃ k : Nat, k ≤ 4 ∧ i = .int .i64 k ∧ OwnR wr w.heap.size g n1 cap1 (p ++ (qs c0 c1 c2 c3 y k ++ r)) ∧ Below w.heap.size w wr) (fun i _ => 4 - (intOf i).toNat)
    case atStart => exact ⟨0, by omega, rfl, hO.out, hb1⟩
    case round =>
      obtain ⟨k, hk, rfl, hOr, hbr⟩ := hrel
      by_cases hlt4 : k < 4
      · rcases (show k = 0 ∨ k = 1 ∨ k = 2 ∨ k = 3 by omega) with rfl | rfl | rfl | rfl
        · have hcl : wr.cell? ⟨g, t, none⟩ = some (.int .u8 c0) := mid_cell hOr 0 _ c0 (by simp [qs]) rfl (by have := hpl'.out; omega)
          have hfr : wr.frozen? ⟨g, t, none⟩ = false := hOr.frozen _
          have i0 : (0 : Int) ≤ (t : Int) := by omega
          have i1 : (t : Int) < (n1 : Int) := by omega
          go_wp2
          go_region
          go_wp2
          go_roundw
          case rel => exact ⟨1, by omega, rfl, turn_row hOr 0 _ c0 ((y : Int) % 256) _ (by simp [qs]) rfl (by omega) rfl (by have := hpl'.out; omega), (hbr.setCell (by exact hOr.2.2.2) _).drew⟩
          case measure => simp [intOf]
        · have hcl : wr.cell? ⟨g, t + 1, none⟩ = some (.int .u8 c1) := mid_cell hOr 1 _ c1 (by simp [qs]) rfl (by have := hpl'.out; omega)
          have hfr : wr.frozen? ⟨g, t + 1, none⟩ = false := hOr.frozen _
          have i0 : (0 : Int) ≤ (t : Int) + 1 := by omega
          have i1 : (t : Int) + 1 < (n1 : Int) := by omega
          go_wp2
          go_region
          go_wp2
          go_roundw
          case rel => exact ⟨2, by omega, rfl, turn_row hOr 1 _ c1 ((y : Int) / 256 % 256) _ (by simp [qs]) rfl (by omega) rfl (by have := hpl'.out; omega), (hbr.setCell (by exact hOr.2.2.2) _).drew⟩
          case measure => simp [intOf]
        · have hcl : wr.cell? ⟨g, t + 2, none⟩ = some (.int .u8 c2) := mid_cell hOr 2 _ c2 (by simp [qs]) rfl (by have := hpl'.out; omega)
          have hfr : wr.frozen? ⟨g, t + 2, none⟩ = false := hOr.frozen _
          have i0 : (0 : Int) ≤ (t : Int) + 2 := by omega
          have i1 : (t : Int) + 2 < (n1 : Int) := by omega
          go_wp2
          go_region
          go_wp2
          go_roundw
          case rel => exact ⟨3, by omega, rfl, turn_row hOr 2 _ c2 ((y : Int) / 65536 % 256) _ (by simp [qs]) rfl (by omega) rfl (by have := hpl'.out; omega), (hbr.setCell (by exact hOr.2.2.2) _).drew⟩
          case measure => simp [intOf]
        · have hcl : wr.cell? ⟨g, t + 3, none⟩ = some (.int .u8 c3) := mid_cell hOr 3 _ c3 (by simp [qs]) rfl (by have := hpl'.out; omega)
          have hfr : wr.frozen? ⟨g, t + 3, none⟩ = false := hOr.frozen _
          have i0 : (0 : Int) ≤ (t : Int) + 3 := by omega
          have i1 : (t : Int) + 3 < (n1 : Int) := by omega
          go_wp2
          go_region
          go_wp2
          go_roundw
          case rel => exact ⟨4, by omega, rfl, turn_row hOr 3 _ c3 ((y : Int) / 16777216) _ (by simp [qs]) rfl (by omega) rfl (by have := hpl'.out; omega), (hbr.setCell (by exact hOr.2.2.2) _).drew⟩
          case measure => simp [intOf]
      · obtain rfl : k = 4 := by omega
        have hO4 : Hid _ := hOr.bytes
        have hl4 : Hid _ := hOr.2.1
        clear hOr hO
        go_wp2_with fail
        refine (opens_not _ _ _ _ _ hO4.out hl4.out hc1 hm1 hnot.out).mono ?_
        rintro e w4 ⟨rfl, hb4⟩
        have hb5 : Below w.heap.size w w4 := hbr.trans (hb4.mono hbr.size)
        clear hb4
        go_wp2_with fail
        refine (alive_any _).mono ?_
        rintro e w5 ⟨rfl, hb6⟩
        go_wp2_with fail
        go_ret
        exact ⟨rfl, hb5.trans (hb6.mono hb5.size)⟩


set_option maxRecDepth 100000 in
theorem lifted (os : Os) (started : os.Started) (H : Type) (enc : TypeId × Value → H) :
    ReturnsInHanded {} Try.checked os 8 .any (Rows.crcTurnedSpec.pre6 enc Try.prog Try.f8 Rows.crcTurnedRow.domain false) (Rows.crcTurnedSpec.post enc Try.prog Try.f8 false true false false) := by
  refine returnsInHanded_of_change_sized (C := Try.checked) own started (by kernel_rfl) Try.func8
    (ChangeSpec.witness6 (enc := enc) (C := Try.checked) false ⟨#[], #[.slice none 0 0, .int .i64 0, .int .u32 0], []⟩ 8 (by kernel_rfl) (by kernel_rfl) (by kernel_rfl) (by kernel_rfl)) ?_
  intro W base args ds gs before hval0 hW hcnd hsz0 _
  have hval : ∀ (j : Nat) t v, Try.f8.params[j]? = some t → args[j]? = some v → Value.okWide Try.prog W .any base t v := hval0
  have hW' := hW
  have hsz : (DataW.weightsEach Try.prog (Try.f8.params.toList ++ Rows.crcTurnedSpec.plain.varTypes Try.prog) (ds ++ gs)).all (· ≤ reachBytes) = true := hsz0
  obtain ⟨p, q, hA0, hV, rfl, hfz, hnd⟩ := hW
  have hA : DataW.TrodAll enc Try.prog W 0 (fun _ => true) true Try.f8.params.toList args.toList ds p := hA0
  rw [Try.params8] at hA hval hsz
  obtain ⟨v0, vs0, d0, ds0, p0, q0, hargs, rfl, rfl, h0, r0'⟩ := trodAll_cons hA
  obtain ⟨v1, vs1, d1, ds1, p1, q1, rfl, rfl, rfl, h1, r1'⟩ := trodAll_cons r0'
  obtain ⟨v2, vs2, d2, ds2, p2, q2, rfl, rfl, rfl, h2, r2'⟩ := trodAll_cons r1'
  obtain ⟨rfl, rfl, rfl⟩ := trodAll_nil r2'
  obtain rfl : args = #[v0, v1, v2] := by cases args; simp_all
  obtain ⟨rfl, rfl⟩ := trodVars_none hV
  obtain ⟨a0, len0, cap0, rfl⟩ := okWide_slice Try.underlying22 (hval 0 22 v0 rfl rfl)
  have k0 := h0
  have lt0 : ∀ x ∈ p0, x.block < W.heap.size := by obtain ⟨m, hm⟩ := k0; exact DataW.trod_lt m _ _ _ hm
  obtain ⟨z0, w0, r0⟩ : ∃ zs, IsRow .u8 W a0 len0 cap0 zs ∧ cap0 ≤ 140737488351232 := by
    obtain ⟨fuel, hf⟩ := h0
    rcases open_ints Try.underlying22 Try.underlying5 (by kernel_rfl) hf with ⟨hcs, hx⟩ | ⟨x, l, c, zs, hcs, _, hl, hm, hz, hx, hcell, hwz⟩
    · simp [Value.cells] at hcs
      obtain ⟨rfl, rfl, rfl⟩ := hcs
      exact ⟨[], .inl ⟨rfl, rfl, rfl, rfl⟩, by omega⟩
    · simp [Value.cells] at hcs
      obtain ⟨rfl, rfl, rfl⟩ := hcs
      have hd : d0 = .slice (lits .u8 (zs.take len0)) (lits .u8 (zs.drop len0)) := (Prod.mk.inj hx).1
      have hz' : zs.length = cap0 := by simpa using hz
      have hr : cap0 ≤ 140737488351232 := by
        have := sized_slice hsz (j := 0) (t := 22) (e := 5) rfl (by rw [← hd]; rfl) Try.underlying22
        rw [bytes_e] at this
        simp only [lits, List.length_map, List.length_take, List.length_drop, reachBytes] at this
        omega
      exact ⟨zs, .inr ⟨_, rfl, hl, hm, hz', hcell, hwz⟩, hr⟩
  obtain ⟨a1, rfl, rfl, rfl, w1⟩ := open_int Try.underlying3 (hval 1 3 v1 rfl rfl) h1
  obtain ⟨a2, rfl, rfl, rfl, w2⟩ := open_int Try.underlying23 (hval 2 23 v2 rfl rfl) h2
  clear hA0 hval0
  refine (walk a0 len0 cap0 z0 a1 a2 W w0 r0 w1 w2).mono fun e W' ⟨he, bel⟩ => ?_
  subst he
  exact ⟨_, rfl, _, _, _, [], _, [], hW', trodAll_mk1 (shut_bool Try.underlying4 _), (trodAll_cons_mk (Below.trod laidOut (by kernel_rfl) (of_decide_eq_true (by kernel_rfl)) k0 bel lt0) (trodAll_cons_mk (shut_int Try.underlying3 w1) (trodAll_cons_mk (shut_int Try.underlying23 w2) trodAll_mk0))), rfl, bel.frame _, fun h => by cases h⟩

theorem over : Rows.crcTurnedRow.holds Try.pinned (OpenSpec.ofChange Rows.crcTurnedSpec) :=
  OpenClaim.holds_of_wide 8 Try.f8 rfl rfl rfl rfl rfl rfl rfl ⟨rfl, rfl, rfl, rfl, rfl⟩ rfl rfl rfl rfl rfl (by kernel_rfl) Try.func8 (by kernel_rfl)
    (of_decide_eq_true (by kernel_rfl)) (by unfold Func.isWrapper; first | (rw [if_pos (by decide +kernel)]; kernel_rfl) | (rw [if_neg (by decide +kernel)]; exact ⟨rfl, rfl⟩))
    (fun os started H enc _ => lifted os started H enc)

end Go.Proofs.Ytkjbfnfhgkdjeaa.crcTurned
namespace Go.Proofs.Ytkjbfnfhgkdjeaa

theorem crcTurned_holds : Rows.CrcTurnedSaid := crcTurned.over
#print axioms crcTurned_holds
end Go.Proofs.Ytkjbfnfhgkdjeaa
