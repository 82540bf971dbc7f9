/-
  For every list of bytes what the program seals, what it opens of them, and whether it opens them, is the document's, and the nine digits have their check sum; the bytes stay as they were.
-/
import Derived.Test.YtkjbfnfhgkdjeaaRows
import Derived.Test.YtkjbfnfhgkdjeaaRefOpen
import Derived.WalkKit
import Derived.ProofKit
import Derived.OpenShut
import Derived.ShutString
import Derived.ChangeOld
import Derived.Below
import Derived.SizedLaws
namespace Go.Proofs.Ytkjbfnfhgkdjeaa.crcSeals
open Go.ChangeShapes Go.WideShapes Go.ChangeAt Go.RowKit
open Go.ChangeMaps (open_string shut_string)
set_option linter.unusedVariables false

theorem own : ownKnob Try.prog.godebug = none := by kernel_rfl
theorem laidOut : laidOutB Try.prog = true := by kernel_rfl
theorem bytes_e : Try.prog.bytesOf 5 = 1 := by kernel_rfl

/-- BYTES AND THEIR LENGTH, kept over what is made later. -/
def Kept (w : World) (a : Option Addr) (n : Nat) (zs : List Int) : Prop := zs.length = n ∧ Bytes w a zs
theorem Kept.below {w w' : World} {a : Option Addr} {n : Nat} {zs : List Int} (h : Kept w a n zs) (hb : Below w.heap.size w w') : Kept w' a n zs := ⟨h.1, h.2.kept hb⟩

set_option maxHeartbeats 1000000 in
theorem walk (a0 : Option Addr) (len0 cap0 : Nat) (z0 : List Int) (w : World) (w0 : IsRow .u8 w a0 len0 cap0 z0) (r0 : cap0 ≤ 140737488351232) :
    Calls Try.prog 5 #[.slice a0 len0 cap0] w fun e w' => e = .returned (.bool true) ∧ Below w.heap.size w w' := by
  have hnil : Hid (a0 = none → cap0 = 0) := nil_cap w0
  obtain ⟨hl, hb⟩ := bytes_of_row w0
  have hc0 := (row_le w0).1
  have hm0 : cap0 ≤ 9223372036854775807 := by omega
  generalize z0.take len0 = zs at *
  subst hl
  have hB : Hid (Bytes w a0 zs) := hb
  clear hb w0
  by_cases hs : Sealed zs
  · have hs' : Hid _ := hs
    clear hs
    go_enter Try.func5, Try.ntmps5
    go_wp2_with fail
    refine (opens _ _ _ _ _ hB.out rfl hc0 hm0 (by omega) hs'.out).mono ?_
    rintro e w4 ⟨v4, rfl, ho4, hb4⟩
    obtain ⟨x4, n4, cap4, rfl, hl4, -, -, -, hB4⟩ := ho4.form
    have hA : Kept w4 x4 n4 (zs.take (zs.length - 4)) := ⟨hl4.out, hB4.out⟩
    clear ho4 hl4 hB4
    go_wp2_with fail
    refine (refOpens _ _ _ _ _ (hB.out.kept hb4) rfl hc0 hm0 (by omega) hs'.out).mono ?_
    rintro e w5 ⟨v5, rfl, ho5, hb5'⟩
    have hb5 : Below w.heap.size w w5 := hb4.trans (hb5'.mono hb4.size)
    replace hA := hA.below hb5'
    obtain ⟨x5, n5, cap5, rfl, hl5, -, -, -, hB5⟩ := ho5.form
    have hC : Kept w5 x5 n5 (zs.take (zs.length - 4)) := ⟨hl5.out, hB5.out⟩
    clear ho5 hl5 hB5 hb4 hb5'
    clear hm0
    go_wp2_with fail
    refine (seal_any _ _ _ _ (hB.out.kept hb5) hnil.out (by omega)).mono ?_
    rintro e w6 ⟨v6, rfl, ho6, hb6'⟩
    have hb6 : Below w.heap.size w w6 := hb5.trans (hb6'.mono hb5.size)
    replace hA := hA.below hb6'
    replace hC := hC.below hb6'
    obtain ⟨x6, n6, cap6, rfl, hl6, -, -, -, -⟩ := ho6.form
    clear hb5 hb6'
    go_wp2_with fail
    refine (refSeal_any _ _ _ _ (hB.out.kept hb6) hnil.out (by omega)).mono ?_
    rintro e w7 ⟨v7, rfl, ho7, hb7'⟩
    have hb7 : Below w.heap.size w w7 := hb6.trans (hb7'.mono hb6.size)
    replace hA := hA.below hb7'
    replace hC := hC.below hb7'
    replace ho6 := ho6.below hb7'
    obtain ⟨y6, m6, caq6, h6, k6, -, -, -, hB6⟩ := ho6.form
    cases h6
    obtain ⟨x7, n7, cap7, rfl, hl7, -, -, -, hB7⟩ := ho7.form
    clear hb6 hb7' ho6 ho7 k6
    go_wp2_with fail
    refine (same_yes _ _ _ _ _ _ (zs ++ le4 (moreL 0 zs)) _ hl6.out hl7.out hB6.out hB7.out).mono ?_
    rintro e w8 ⟨rfl, rfl⟩
    clear hB6 hB7 hl6 hl7
    have hA3 : Hid ((zs.take (zs.length - 4)).length = _) := hA.1
    have hA4 : Hid (Bytes w8 x4 (zs.take (zs.length - 4))) := hA.2
    have hC3 : Hid ((zs.take (zs.length - 4)).length = _) := hC.1
    have hC4 : Hid (Bytes w8 x5 (zs.take (zs.length - 4))) := hC.2
    clear hA hC
    go_wp2_with fail
    refine (same_yes _ _ _ _ _ _ (zs.take (zs.length - 4)) _ hA3.out hC3.out hA4.out hC4.out).mono ?_
    rintro e w9 ⟨rfl, rfl⟩
    go_wp2_with fail
    refine (alive_any _).mono ?_
    rintro e w10 ⟨rfl, hb10⟩
    go_wp2_with fail
    go_ret
    exact ⟨rfl, hb7.trans (hb10.mono hb7.size)⟩
  · have hs' : Hid _ := hs
    clear hs
    go_enter Try.func5, Try.ntmps5
    go_wp2_with fail
    refine (opens_not _ _ _ _ _ hB.out rfl hc0 hm0 hs'.out).mono ?_
    rintro e w4 ⟨rfl, hb4⟩
    have hA : Kept w4 none 0 [] := ⟨rfl, by simp, by simp, .inl rfl⟩
    go_wp2_with fail
    refine (refOpens_not _ _ _ _ _ (hB.out.kept hb4) rfl hc0 hm0 (by omega) hs'.out).mono ?_
    rintro e w5 ⟨rfl, hb5'⟩
    have hb5 : Below w.heap.size w w5 := hb4.trans (hb5'.mono hb4.size)
    replace hA := hA.below hb5'
    have hC : Kept w5 none 0 [] := ⟨rfl, by simp, by simp, .inl rfl⟩
    clear hb4 hb5'
    clear hm0
    go_wp2_with fail
    refine (seal_any _ _ _ _ (hB.out.kept hb5) hnil.out (by omega)).mono ?_
    rintro e w6 ⟨v6, rfl, ho6, hb6'⟩
    have hb6 : Below w.heap.size w w6 := hb5.trans (hb6'.mono hb5.size)
    replace hA := hA.below hb6'
    replace hC := hC.below hb6'
    obtain ⟨x6, n6, cap6, rfl, hl6, -, -, -, -⟩ := ho6.form
    clear hb5 hb6'
    go_wp2_with fail
    refine (refSeal_any _ _ _ _ (hB.out.kept hb6) hnil.out (by omega)).mono ?_
    rintro e w7 ⟨v7, rfl, ho7, hb7'⟩
    have hb7 : Below w.heap.size w w7 := hb6.trans (hb7'.mono hb6.size)
    replace hA := hA.below hb7'
    replace hC := hC.below hb7'
    replace ho6 := ho6.below hb7'
    obtain ⟨y6, m6, caq6, h6, k6, -, -, -, hB6⟩ := ho6.form
    cases h6
    obtain ⟨x7, n7, cap7, rfl, hl7, -, -, -, hB7⟩ := ho7.form
    clear hb6 hb7' ho6 ho7 k6
    go_wp2_with fail
    refine (same_yes _ _ _ _ _ _ (zs ++ le4 (moreL 0 zs)) _ hl6.out hl7.out hB6.out hB7.out).mono ?_
    rintro e w8 ⟨rfl, rfl⟩
    clear hB6 hB7 hl6 hl7
    have hA3 : Hid (([] : List Int).length = _) := hA.1
    have hA4 : Hid (Bytes w8 none ([] : List Int)) := hA.2
    have hC3 : Hid (([] : List Int).length = _) := hC.1
    have hC4 : Hid (Bytes w8 none ([] : List Int)) := hC.2
    clear hA hC
    go_wp2_with fail
    refine (same_yes _ _ _ _ _ _ ([] : List Int) _ hA3.out hC3.out hA4.out hC4.out).mono ?_
    rintro e w9 ⟨rfl, rfl⟩
    go_wp2_with fail
    refine (alive_any _).mono ?_
    rintro e w10 ⟨rfl, hb10⟩
    go_wp2_with fail
    go_ret
    exact ⟨rfl, hb7.trans (hb10.mono hb7.size)⟩


set_option maxRecDepth 100000 in
theorem lifted (os : Os) (started : os.Started) (H : Type) (enc : TypeId × Value → H) :
    ReturnsInHanded {} Try.checked os 5 .any (Rows.crcSealsSpec.pre6 enc Try.prog Try.f5 Rows.crcSealsRow.domain false) (Rows.crcSealsSpec.post enc Try.prog Try.f5 false true false false) := by
  refine returnsInHanded_of_change_sized (C := Try.checked) own started (by kernel_rfl) Try.func5
    (ChangeSpec.witness6 (enc := enc) (C := Try.checked) false ⟨#[], #[.slice none 0 0], []⟩ 8 (by kernel_rfl) (by kernel_rfl) (by kernel_rfl) (by kernel_rfl)) ?_
  intro W base args ds gs before hval0 hW hcnd hsz0 _
  have hval : ∀ (j : Nat) t v, Try.f5.params[j]? = some t → args[j]? = some v → Value.okWide Try.prog W .any base t v := hval0
  have hW' := hW
  have hsz : (DataW.weightsEach Try.prog (Try.f5.params.toList ++ Rows.crcSealsSpec.plain.varTypes Try.prog) (ds ++ gs)).all (· ≤ reachBytes) = true := hsz0
  obtain ⟨p, q, hA0, hV, rfl, hfz, hnd⟩ := hW
  have hA : DataW.TrodAll enc Try.prog W 0 (fun _ => true) true Try.f5.params.toList args.toList ds p := hA0
  rw [Try.params5] at hA hval hsz
  obtain ⟨v0, vs0, d0, ds0, p0, q0, hargs, rfl, rfl, h0, r0'⟩ := trodAll_cons hA
  obtain ⟨rfl, rfl, rfl⟩ := trodAll_nil r0'
  obtain rfl : args = #[v0] := by cases args; simp_all
  obtain ⟨rfl, rfl⟩ := trodVars_none hV
  obtain ⟨a0, len0, cap0, rfl⟩ := okWide_slice Try.underlying22 (hval 0 22 v0 rfl rfl)
  have k0 := h0
  have lt0 : ∀ x ∈ p0, x.block < W.heap.size := by obtain ⟨m, hm⟩ := k0; exact DataW.trod_lt m _ _ _ hm
  obtain ⟨z0, w0, r0⟩ : ∃ zs, IsRow .u8 W a0 len0 cap0 zs ∧ cap0 ≤ 140737488351232 := by
    obtain ⟨fuel, hf⟩ := h0
    rcases open_ints Try.underlying22 Try.underlying5 (by kernel_rfl) hf with ⟨hcs, hx⟩ | ⟨x, l, c, zs, hcs, _, hl, hm, hz, hx, hcell, hwz⟩
    · simp [Value.cells] at hcs
      obtain ⟨rfl, rfl, rfl⟩ := hcs
      exact ⟨[], .inl ⟨rfl, rfl, rfl, rfl⟩, by omega⟩
    · simp [Value.cells] at hcs
      obtain ⟨rfl, rfl, rfl⟩ := hcs
      have hd : d0 = .slice (lits .u8 (zs.take len0)) (lits .u8 (zs.drop len0)) := (Prod.mk.inj hx).1
      have hz' : zs.length = cap0 := by simpa using hz
      have hr : cap0 ≤ 140737488351232 := by
        have := sized_slice hsz (j := 0) (t := 22) (e := 5) rfl (by rw [← hd]; rfl) Try.underlying22
        rw [bytes_e] at this
        simp only [lits, List.length_map, List.length_take, List.length_drop, reachBytes] at this
        omega
      exact ⟨zs, .inr ⟨_, rfl, hl, hm, hz', hcell, hwz⟩, hr⟩
  clear hA0 hval0
  refine (walk a0 len0 cap0 z0 W w0 r0).mono fun e W' ⟨he, bel⟩ => ?_
  subst he
  exact ⟨_, rfl, _, _, _, [], _, [], hW', trodAll_mk1 (shut_bool Try.underlying4 _), (trodAll_cons_mk (Below.trod laidOut (by kernel_rfl) (of_decide_eq_true (by kernel_rfl)) k0 bel lt0) trodAll_mk0), rfl, bel.frame _, fun h => by cases h⟩

theorem over : Rows.crcSealsRow.holds Try.pinned (OpenSpec.ofChange Rows.crcSealsSpec) :=
  OpenClaim.holds_of_wide 5 Try.f5 rfl rfl rfl rfl rfl rfl rfl ⟨rfl, rfl, rfl, rfl, rfl⟩ rfl rfl rfl rfl rfl (by kernel_rfl) Try.func5 (by kernel_rfl)
    (of_decide_eq_true (by kernel_rfl)) (by unfold Func.isWrapper; first | (rw [if_pos (by decide +kernel)]; kernel_rfl) | (rw [if_neg (by decide +kernel)]; exact ⟨rfl, rfl⟩))
    (fun os started H enc _ => lifted os started H enc)

end Go.Proofs.Ytkjbfnfhgkdjeaa.crcSeals
namespace Go.Proofs.Ytkjbfnfhgkdjeaa

theorem crcSeals_holds : Rows.CrcSealsSaid := crcSeals.over
#print axioms crcSeals_holds
end Go.Proofs.Ytkjbfnfhgkdjeaa
