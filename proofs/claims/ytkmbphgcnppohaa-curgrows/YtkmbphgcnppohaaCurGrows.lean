/-
  For every two numbers of 64 bits the short form of the greater one has no fewer bytes than the other's, and a number is written and read.
-/
import Derived.Test.YtkmbphgcnppohaaRows
import Derived.Test.YtkmbphgcnppohaaAlive
import Derived.WalkKit
import Derived.ProofKit
import Derived.OpenShut
import Derived.ShutString
import Derived.ChangeOld
import Derived.Below
import Derived.SizedLaws
namespace Go.Proofs.Ytkmbphgcnppohaa.curGrows
open Go.ChangeShapes Go.WideShapes Go.ChangeAt Go.RowKit
open Go.ChangeMaps (open_string shut_string)
set_option linter.unusedVariables false

theorem own : ownKnob Try.prog.godebug = none := by kernel_rfl
theorem laidOut : laidOutB Try.prog = true := by kernel_rfl
theorem bytes_e : Try.prog.bytesOf 5 = 1 := by kernel_rfl

set_option maxHeartbeats 2000000 in
theorem walk (a0 : Int) (a1 : Int) (w : World) (w0 : (Lit.int .u64 a0).wf = true) (w1 : (Lit.int .u64 a1).wf = true) :
    Calls Try.prog 7 #[.int .u64 a0, .int .u64 a1] w fun e w' => e = .returned (.bool true) ∧ Below w.heap.size w w' := by
  obtain ⟨m0, rfl, hm0⟩ := u64_of w0
  obtain ⟨m1, rfl, hm1⟩ := u64_of w1
  clear w0 w1
  rcases Nat.lt_trichotomy m0 m1 with h | h | h
  · have hmono : cg m0 ≤ cg m1 := cg_mono (by omega) (by omega)
    go_enter Try.func7, Try.ntmps7
    go_wp2_with fail
    refine (putShort_any none 0 0 m0 [] w (by omega) rfl (no_bytes w none) (fun _ => rfl) (by decide)).mono ?_
    rintro e w2 ⟨v2, rfl, ho2, hb2⟩
    obtain ⟨a2, n2, cap2, rfl, hl2, -, hc2, hm2, -⟩ := ho2.form
    clear ho2
    go_wp2_with fail
    refine (putShort_any none 0 0 m1 [] w2 (by omega) rfl (no_bytes w2 none) (fun _ => rfl) (by decide)).mono ?_
    rintro e w3 ⟨v3, rfl, ho3, hb3⟩
    obtain ⟨a3, n3, cap3, rfl, hl3, -, hc3, hm3, -⟩ := ho3.form
    clear ho3
    have hle : n2 ≤ n3 := by
      have h2 := hl2.out
      have h3 := hl3.out
      rw [List.nil_append, shortL_length] at h2 h3
      omega
    go_wp2_with fail
    refine (alive_any _).mono ?_
    rintro e w4 ⟨rfl, hb4⟩
    go_wp2_with fail
    go_ret
    exact ⟨rfl, trans_kept (trans_kept hb2 hb3) hb4⟩
  · subst h
    have hmono : cg m0 ≤ cg m0 := cg_mono (by omega) (by omega)
    go_enter Try.func7, Try.ntmps7
    go_wp2_with fail
    refine (putShort_any none 0 0 m0 [] w (by omega) rfl (no_bytes w none) (fun _ => rfl) (by decide)).mono ?_
    rintro e w2 ⟨v2, rfl, ho2, hb2⟩
    obtain ⟨a2, n2, cap2, rfl, hl2, -, hc2, hm2, -⟩ := ho2.form
    clear ho2
    go_wp2_with fail
    refine (putShort_any none 0 0 m0 [] w2 (by omega) rfl (no_bytes w2 none) (fun _ => rfl) (by decide)).mono ?_
    rintro e w3 ⟨v3, rfl, ho3, hb3⟩
    obtain ⟨a3, n3, cap3, rfl, hl3, -, hc3, hm3, -⟩ := ho3.form
    clear ho3
    have hle : n2 ≤ n3 := by
      have h2 := hl2.out
      have h3 := hl3.out
      rw [List.nil_append, shortL_length] at h2 h3
      omega
    go_wp2_with fail
    refine (alive_any _).mono ?_
    rintro e w4 ⟨rfl, hb4⟩
    go_wp2_with fail
    go_ret
    exact ⟨rfl, trans_kept (trans_kept hb2 hb3) hb4⟩
  · have hmono : cg m1 ≤ cg m0 := cg_mono (by omega) (by omega)
    go_enter Try.func7, Try.ntmps7
    go_wp2_with fail
    refine (putShort_any none 0 0 m1 [] w (by omega) rfl (no_bytes w none) (fun _ => rfl) (by decide)).mono ?_
    rintro e w2 ⟨v2, rfl, ho2, hb2⟩
    obtain ⟨a2, n2, cap2, rfl, hl2, -, hc2, hm2, -⟩ := ho2.form
    clear ho2
    go_wp2_with fail
    refine (putShort_any none 0 0 m0 [] w2 (by omega) rfl (no_bytes w2 none) (fun _ => rfl) (by decide)).mono ?_
    rintro e w3 ⟨v3, rfl, ho3, hb3⟩
    obtain ⟨a3, n3, cap3, rfl, hl3, -, hc3, hm3, -⟩ := ho3.form
    clear ho3
    have hle : n2 ≤ n3 := by
      have h2 := hl2.out
      have h3 := hl3.out
      rw [List.nil_append, shortL_length] at h2 h3
      omega
    go_wp2_with fail
    refine (alive_any _).mono ?_
    rintro e w4 ⟨rfl, hb4⟩
    go_wp2_with fail
    go_ret
    exact ⟨rfl, trans_kept (trans_kept hb2 hb3) hb4⟩

set_option maxRecDepth 100000 in
theorem lifted (os : Os) (started : os.Started) (H : Type) (enc : TypeId × Value → H) :
    ReturnsInHanded {} Try.checked os 7 .any (Rows.curGrowsSpec.pre6 enc Try.prog Try.f7 Rows.curGrowsRow.domain false) (Rows.curGrowsSpec.post enc Try.prog Try.f7 false true false false) := by
  refine returnsInHanded_of_change_sized (C := Try.checked) own started (by kernel_rfl) Try.func7
    (ChangeSpec.witness6 (enc := enc) (C := Try.checked) false ⟨#[], #[.int .u64 0, .int .u64 0], []⟩ 8 (by kernel_rfl) (by kernel_rfl) (by kernel_rfl) (by kernel_rfl)) ?_
  intro W base args ds gs before hval0 hW hcnd hsz0 _
  have hval : ∀ (j : Nat) t v, Try.f7.params[j]? = some t → args[j]? = some v → Value.okWide Try.prog W .any base t v := hval0
  have hW' := hW
  have hsz : (DataW.weightsEach Try.prog (Try.f7.params.toList ++ Rows.curGrowsSpec.plain.varTypes Try.prog) (ds ++ gs)).all (· ≤ reachBytes) = true := hsz0
  obtain ⟨p, q, hA0, hV, rfl, hfz, hnd⟩ := hW
  have hA : DataW.TrodAll enc Try.prog W 0 (fun _ => true) true Try.f7.params.toList args.toList ds p := hA0
  rw [Try.params7] at hA hval hsz
  obtain ⟨v0, vs0, d0, ds0, p0, q0, hargs, rfl, rfl, h0, r0'⟩ := trodAll_cons hA
  obtain ⟨v1, vs1, d1, ds1, p1, q1, rfl, rfl, rfl, h1, r1'⟩ := trodAll_cons r0'
  obtain ⟨rfl, rfl, rfl⟩ := trodAll_nil r1'
  obtain rfl : args = #[v0, v1] := by cases args; simp_all
  obtain ⟨rfl, rfl⟩ := trodVars_none hV
  obtain ⟨a0, rfl, rfl, rfl, w0⟩ := open_int Try.underlying23 (hval 0 23 v0 rfl rfl) h0
  obtain ⟨a1, rfl, rfl, rfl, w1⟩ := open_int Try.underlying23 (hval 1 23 v1 rfl rfl) h1
  clear hA0 hval0
  refine (walk a0 a1 W w0 w1).mono fun e W' ⟨he, bel⟩ => ?_
  subst he
  exact ⟨_, rfl, _, _, _, [], _, [], hW', trodAll_mk1 (shut_bool Try.underlying4 _), (trodAll_cons_mk (shut_int Try.underlying23 w0) (trodAll_cons_mk (shut_int Try.underlying23 w1) trodAll_mk0)), rfl, bel.frame _, fun h => by cases h⟩

theorem over : Rows.curGrowsRow.holds Try.pinned (OpenSpec.ofChange Rows.curGrowsSpec) :=
  OpenClaim.holds_of_wide 7 Try.f7 rfl rfl rfl rfl rfl rfl rfl ⟨rfl, rfl, rfl, rfl, rfl⟩ rfl rfl rfl rfl rfl (by kernel_rfl) Try.func7 (by kernel_rfl)
    (of_decide_eq_true (by kernel_rfl)) (by unfold Func.isWrapper; first | (rw [if_pos (by decide +kernel)]; kernel_rfl) | (rw [if_neg (by decide +kernel)]; exact ⟨rfl, rfl⟩))
    (fun os started H enc _ => lifted os started H enc)

end Go.Proofs.Ytkmbphgcnppohaa.curGrows
namespace Go.Proofs.Ytkmbphgcnppohaa

theorem curGrows_holds : Rows.CurGrowsSaid := curGrows.over
#print axioms curGrows_holds
end Go.Proofs.Ytkmbphgcnppohaa
