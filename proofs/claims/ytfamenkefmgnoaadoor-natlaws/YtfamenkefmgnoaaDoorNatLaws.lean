/-
  For every two texts: sum and product hang on no order, and a sum less the one is the other; the arguments stay as they were.
-/
import Derived.Test.YtfamenkefmgnoaaDoorRows
import Derived.Test.YtfamenkefmgnoaaDoorTie
import Derived.Test.YtfamenkefmgnoaaDoorCards
import Derived.Test.YtfamenkefmgnoaaDoorAlive
import Derived.Test.YtfamenkefmgnoaaDoorSub
import Derived.Test.YtfamenkefmgnoaaDoorMul
import Derived.WalkKit
import Derived.ProofKit
import Derived.OpenShut
import Derived.ShutString
import Derived.ChangeOld
import Derived.Below
import Derived.SizedLaws
import Derived.LaidMore
import Derived.Lay
import Derived.SevenTiedAt
import Derived.Stop.Joined
namespace Go.Proofs.YtfamenkefmgnoaaDoor.natLaws
open Go.ChangeShapes Go.WideShapes Go.ChangeAt Go.RowKit
open Go.ChangeMaps (open_string shut_string)
set_option linter.unusedVariables false

theorem own : ownKnob Tryd.prog.godebug = none := by kernel_rfl
theorem laidOut : laidOutB Tryd.prog = true := by kernel_rfl
theorem bytes_e : Tryd.prog.bytesOf 5 = 1 := by kernel_rfl

set_option maxRecDepth 100000 in
set_option maxHeartbeats 2000000 in
theorem walk (a0 : ByteArray) (a1 : ByteArray) (w : World) (w0 : a0.size ≤ maxLen) (w1 : a1.size ≤ maxLen) :
    Calls Tryd.prog 8 #[.string a0, .string a1] w fun e w' => e = .returned (.bool true) ∧ Below w.heap.size w w' := by
  clear w0 w1
  have eA : addA a1 a0 = addA a0 a1 := by unfold addA; rw [Nat.add_comm (val a1)]; simp only [and_comm]
  have eM : mulA a1 a0 = mulA a0 a1 := by unfold mulA; rw [Nat.mul_comm (val a1)]; simp only [and_comm]
  have k1 : Hid (∀ w, _) := fun w => add_any a0 a1 w
  have k2 : Hid (∀ w, _) := fun w => add_any a1 a0 w
  have k3 : Hid (∀ w, _) := fun w => mul_any a0 a1 w
  have k4 : Hid (∀ w, _) := fun w => mul_any a1 a0 w
  rw [eA] at k2
  rw [eM] at k4
  have hsub : Hid ((addA a0 a1).2 = 0 → ∀ w, Calls Tryd.prog 13 #[.string (addA a0 a1).1, .string a1] w fun e w' => e = .returned (.tuple #[.string a0, .int .i64 0]) ∧ Below w.heap.size w w') := by
    intro h w
    have hk := sub_any (addA a0 a1).1 a1 w
    have e : subA (addA a0 a1).1 a1 = (a0, 0) := by
      unfold addA at h ⊢
      by_cases hr : rt a0 = true ∧ rt a1 = true
      · rw [if_pos hr] at h ⊢
        unfold shortA at h ⊢
        by_cases ht : val a0 + val a1 < top
        · rw [if_pos ht]
          unfold subA
          rw [val_txt, if_pos ⟨rt_txt ht, hr.2, Nat.le_add_left _ _⟩, Nat.add_sub_cancel, txt_rt hr.1]
        · rw [if_neg ht] at h
          exact absurd h (by decide)
      · rw [if_neg hr] at h
        exact absurd h (by decide)
    rw [e] at hk
    exact hk
  generalize (addA a0 a1).1 = A1 at *
  generalize (addA a0 a1).2 = B1 at *
  generalize (mulA a0 a1).1 = A3 at *
  generalize (mulA a0 a1).2 = B3 at *
  clear eA eM
  go_enter Tryd.func8, Tryd.ntmps8
  go_wp2_with fail
  refine (k1.out w).mono ?_
  rintro e x1 ⟨rfl, b1⟩
  go_wp2_with fail
  refine (k2.out x1).mono ?_
  rintro e x2 ⟨rfl, c2⟩
  have b2 : Hid (Below w.heap.size w x2) := b1.trans (c2.mono b1.size)
  clear b1 c2
  go_wp2_with fail
  refine (k3.out x2).mono ?_
  rintro e x3 ⟨rfl, c3⟩
  have b3 : Hid (Below w.heap.size w x3) := b2.out.trans (c3.mono b2.out.size)
  clear b2 c3
  go_wp2_with fail
  refine (k4.out x3).mono ?_
  rintro e x4 ⟨rfl, c4⟩
  have b4 : Hid (Below w.heap.size w x4) := b3.out.trans (c4.mono b3.out.size)
  clear b3 c4
  by_cases h0 : B1 = 0
  · have hk := hsub.out h0 x4
    subst h0
    go_wp2_with fail
    refine hk.mono ?_
    rintro e x5 ⟨rfl, c5⟩
    have b5 : Hid (Below w.heap.size w x5) := b4.out.trans (c5.mono b4.out.size)
    clear b4 c5
    go_wp2_with (go_at_call 19; refine (alive_any _).mono ?_; rintro e x9 ⟨rfl, b9⟩)
    go_ret
    exact ⟨rfl, b5.out.trans (b9.mono b5.out.size)⟩
  · go_wp2_with (go_at_call 19; refine (alive_any _).mono ?_; rintro e x9 ⟨rfl, b9⟩)
    go_ret
    exact ⟨rfl, b4.out.trans (b9.mono b4.out.size)⟩

set_option maxRecDepth 100000 in
theorem lifted (os : Os) (started : os.Started) (H : Type) (enc : TypeId × Value → H) :
    ReturnsInHanded {} Tryd.checked os 8 .any (fun w args => (Rows.natLawsSpec.pre enc Tryd.prog Tryd.f8 Rows.natLawsRow.domain false w args ∧ laidMetH Tryd.prog Rows.natLawsRow.laid w) ∧ sizedMet enc Tryd.prog Tryd.f8 (OpenSpec.ofChange Rows.natLawsSpec) false w args)
      (Rows.natLawsSpec.post enc Tryd.prog Tryd.f8 false true false false) := by
  refine returnsInHanded_of_change_and (C := Tryd.checked) (X := fun w _ => laidMetH Tryd.prog Rows.natLawsRow.laid w) (fun _ _ _ hh h => h.of_heap hh) own started (by kernel_rfl) Tryd.func8
    (ChangeSpec.witness_shaped (enc := enc) (C := Tryd.checked) (os := os) (X := fun w _ => laidMetH Tryd.prog Rows.natLawsRow.laid w) false (World.laidAll Tryd.prog os Rows.natLawsRow.laid) #[.string ⟨#[]⟩, .string ⟨#[]⟩] 8 (World.laidAll_os _ _ _)
      (World.shaped_of_ZipB (by kernel_rfl) (by kernel_rfl)) (by kernel_rfl) (by kernel_rfl) (by kernel_rfl)
      (by rw [MakeChecks.laidMetH_plain _ _ _ (by kernel_rfl)]; exact laidMet_laidAll _ (by kernel_rfl) (by kernel_rfl))) ?_
  intro W base args ds gs before hval0 hW hcnd hsz0 hL _
  have hval : ∀ (j : Nat) t v, Tryd.f8.params[j]? = some t → args[j]? = some v → Value.okWide Tryd.prog W .any base t v := hval0
  have hW' := hW
  have hsz : (DataW.weightsEach Tryd.prog (Tryd.f8.params.toList ++ Rows.natLawsSpec.plain.varTypes Tryd.prog) (ds ++ gs)).all (· ≤ reachBytes) = true := hsz0
  obtain ⟨p, q, hA0, hV, rfl, hfz, hnd⟩ := hW
  have hA : DataW.TrodAll enc Tryd.prog W 0 (fun _ => true) true Tryd.f8.params.toList args.toList ds p := hA0
  rw [Tryd.params8] at hA hval hsz
  obtain ⟨v0, vs0, d0, ds0, p0, q0, hargs, rfl, rfl, h0, r0'⟩ := trodAll_cons hA
  obtain ⟨v1, vs1, d1, ds1, p1, q1, rfl, rfl, rfl, h1, r1'⟩ := trodAll_cons r0'
  obtain ⟨rfl, rfl, rfl⟩ := trodAll_nil r1'
  obtain rfl : args = #[v0, v1] := by cases args; simp_all
  obtain ⟨rfl, rfl⟩ := trodVars_none hV
  obtain ⟨a0, rfl, rfl, rfl, w0⟩ := open_string Tryd.underlying9 (hval 0 9 v0 rfl rfl) h0
  obtain ⟨a1, rfl, rfl, rfl, w1⟩ := open_string Tryd.underlying9 (hval 1 9 v1 rfl rfl) h1
  clear hA0 hval0
  refine (walk a0 a1 W w0 w1).mono fun e W' ⟨he, bel⟩ => ?_
  subst he
  exact ⟨_, rfl, _, _, _, [], _, [], hW', trodAll_mk1 (shut_bool Tryd.underlying4 _), (trodAll_cons_mk (shut_string Tryd.underlying9 w0) (trodAll_cons_mk (shut_string Tryd.underlying9 w1) trodAll_mk0)), rfl, bel.frame _, fun h => by cases h⟩

theorem over : Rows.natLawsRow.holds Tryd.pinned (OpenSpec.ofChange Rows.natLawsSpec) :=
  OpenClaim.holds_of_wide 8 Tryd.f8 rfl rfl rfl rfl rfl rfl rfl ⟨rfl, rfl, rfl, rfl, rfl⟩ rfl rfl rfl rfl rfl (by kernel_rfl) Tryd.func8 (by kernel_rfl)
    (of_decide_eq_true (by kernel_rfl)) (by unfold Func.isWrapper; first | (rw [if_pos (by decide +kernel)]; kernel_rfl) | (rw [if_neg (by decide +kernel)]; exact ⟨rfl, rfl⟩))
    (fun os started H enc _ => lifted os started H enc)

end Go.Proofs.YtfamenkefmgnoaaDoor.natLaws
namespace Go.Proofs.YtfamenkefmgnoaaDoor
open Go

theorem natLaws_holds : Rows.NatLawsCardSaid :=
  Claim7.holds_tied_plain_at .later [] [.data, .pinned] true (true, "1ec1c03c1c774060f417e528e93b215f1f0a9326793d8ab0cb6920e9c175b7d3") true
    natLaws.over (fun _ h => by cases h) (by kernel_rfl) (fun _ h => by cases h) natLaws_row_tie rfl ⟨rfl, rfl⟩ (by kernel_rfl) rfl
    (fun f fn hf hfn => by
      obtain rfl : f = 8 := Option.some.inj ((show Tryd.prog.funcNamed Tryd.f8.name = some 8 by kernel_rfl).symm.trans hf) |>.symm
      obtain rfl : fn = Tryd.f8 := (Option.some.inj (Tryd.func8.symm.trans hfn)).symm
      exact ⟨by kernel_rfl, fun j t ht => by
        rw [Tryd.params8] at ht
        have hm : t ∈ [9, 9] := by simpa using Array.mem_of_getElem? ht
        have hall : ([9, 9].all fun u => !Tryd.prog.wantsStandIn u) = true := by kernel_rfl
        exact (show Tryd.prog.wantsStandIn t = false by simpa using List.all_eq_true.1 hall t hm)⟩)
    (by kernel_rfl)
#print axioms natLaws_holds
end Go.Proofs.YtfamenkefmgnoaaDoor
