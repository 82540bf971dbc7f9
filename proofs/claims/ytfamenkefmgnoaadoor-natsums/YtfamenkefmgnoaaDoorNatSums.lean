/-
  For every two texts: order, sum, difference and product are the document's, or both refuse; the arguments stay as they were.
-/
import Derived.Test.YtfamenkefmgnoaaDoorRows
import Derived.Test.YtfamenkefmgnoaaDoorTie
import Derived.Test.YtfamenkefmgnoaaDoorCards
import Derived.Test.YtfamenkefmgnoaaDoorAlive
import Derived.Test.YtfamenkefmgnoaaDoorXsub
import Derived.Test.YtfamenkefmgnoaaDoorMul
import Derived.WalkKit
import Derived.ProofKit
import Derived.OpenShut
import Derived.ShutString
import Derived.ChangeOld
import Derived.Below
import Derived.SizedLaws
import Derived.LaidMore
import Derived.Lay
import Derived.SevenTiedAt
import Derived.Stop.Joined
namespace Go.Proofs.YtfamenkefmgnoaaDoor.natSums
open Go.ChangeShapes Go.WideShapes Go.ChangeAt Go.RowKit
open Go.ChangeMaps (open_string shut_string)
set_option linter.unusedVariables false

theorem own : ownKnob Tryd.prog.godebug = none := by kernel_rfl
theorem laidOut : laidOutB Tryd.prog = true := by kernel_rfl
theorem bytes_e : Tryd.prog.bytesOf 5 = 1 := by kernel_rfl

set_option maxRecDepth 100000 in
set_option maxHeartbeats 2000000 in
theorem walk (a0 : ByteArray) (a1 : ByteArray) (w : World) (w0 : a0.size ≤ maxLen) (w1 : a1.size ≤ maxLen) :
    Calls Tryd.prog 3 #[.string a0, .string a1] w fun e w' => e = .returned (.bool true) ∧ Below w.heap.size w w' := by
  clear w0 w1
  have k1 : Hid (∀ w, _) := fun w => order_any a0 a1 w
  have m1 : Hid (∀ w, _) := fun w => xorder_any a0 a1 w
  have k2 : Hid (∀ w, _) := fun w => add_any a0 a1 w
  have m2 : Hid (∀ w, _) := fun w => xadd_any a0 a1 w
  have k3 : Hid (∀ w, _) := fun w => sub_any a0 a1 w
  have m3 : Hid (∀ w, _) := fun w => xsub_any a0 a1 w
  have k4 : Hid (∀ w, _) := fun w => mul_any a0 a1 w
  have m4 : Hid (∀ w, _) := fun w => xmul_any a0 a1 w
  have r1 : Hid (∀ w, _) := fun w => right_any a0 w
  have r2 : Hid (∀ w, _) := fun w => xright_any a0 w
  obtain ⟨A1, hA1⟩ : ∃ R, (ordA a0 a1).1 = R := ⟨_, rfl⟩
  obtain ⟨B1, hB1⟩ : ∃ R, (ordA a0 a1).2 = R := ⟨_, rfl⟩
  rw [hA1, hB1] at k1 m1
  clear hA1 hB1
  obtain ⟨A2, hA2⟩ : ∃ R, (addA a0 a1).1 = R := ⟨_, rfl⟩
  obtain ⟨B2, hB2⟩ : ∃ R, (addA a0 a1).2 = R := ⟨_, rfl⟩
  rw [hA2, hB2] at k2 m2
  clear hA2 hB2
  obtain ⟨A3, hA3⟩ : ∃ R, (subA a0 a1).1 = R := ⟨_, rfl⟩
  obtain ⟨B3, hB3⟩ : ∃ R, (subA a0 a1).2 = R := ⟨_, rfl⟩
  rw [hA3, hB3] at k3 m3
  clear hA3 hB3
  obtain ⟨A4, hA4⟩ : ∃ R, (mulA a0 a1).1 = R := ⟨_, rfl⟩
  obtain ⟨B4, hB4⟩ : ∃ R, (mulA a0 a1).2 = R := ⟨_, rfl⟩
  rw [hA4, hB4] at k4 m4
  clear hA4 hB4
  generalize rt a0 = RT at r1 r2
  go_enter Tryd.func3, Tryd.ntmps3
  go_wp2_with fail
  refine (k1.out w).mono ?_
  rintro e x1 ⟨rfl, hx1⟩
  obtain rfl : w = x1 := hx1.symm
  go_wp2_with fail
  refine (m1.out w).mono ?_
  rintro e x1 ⟨rfl, hx1⟩
  obtain rfl : w = x1 := hx1.symm
  go_wp2_with fail
  refine (k2.out w).mono ?_
  rintro e x1 ⟨rfl, b1⟩
  go_wp2_with fail
  refine (m2.out x1).mono ?_
  rintro e x2 ⟨rfl, c2⟩
  have b2 : Hid (Below w.heap.size w x2) := b1.trans (c2.mono b1.size)
  clear b1 c2
  go_wp2_with fail
  refine (k3.out x2).mono ?_
  rintro e x3 ⟨rfl, c3⟩
  have b3 : Hid (Below w.heap.size w x3) := b2.out.trans (c3.mono b2.out.size)
  clear b2 c3
  go_wp2_with fail
  refine (m3.out x3).mono ?_
  rintro e x4 ⟨rfl, c4⟩
  have b4 : Hid (Below w.heap.size w x4) := b3.out.trans (c4.mono b3.out.size)
  clear b3 c4
  go_wp2_with fail
  refine (k4.out x4).mono ?_
  rintro e x5 ⟨rfl, c5⟩
  have b5 : Hid (Below w.heap.size w x5) := b4.out.trans (c5.mono b4.out.size)
  clear b4 c5
  go_wp2_with fail
  refine (m4.out x5).mono ?_
  rintro e x6 ⟨rfl, c6⟩
  have b6 : Hid (Below w.heap.size w x6) := b5.out.trans (c6.mono b5.out.size)
  clear b5 c6
  go_wp2_with (first
    | (go_at_call 17; refine (r1.out x6).mono ?_; rintro e x7 ⟨rfl, hx7⟩; obtain rfl : x6 = x7 := hx7.symm)
    | (go_at_call 18; refine (r2.out x6).mono ?_; rintro e x7 ⟨rfl, hx7⟩; obtain rfl : x6 = x7 := hx7.symm)
    | (go_at_call 19; refine (alive_any _).mono ?_; rintro e x9 ⟨rfl, b9⟩))
  go_ret
  exact ⟨rfl, b6.out.trans (b9.mono b6.out.size)⟩

set_option maxRecDepth 100000 in
theorem lifted (os : Os) (started : os.Started) (H : Type) (enc : TypeId × Value → H) :
    ReturnsInHanded {} Tryd.checked os 3 .any (fun w args => (Rows.natSumsSpec.pre enc Tryd.prog Tryd.f3 Rows.natSumsRow.domain false w args ∧ laidMetH Tryd.prog Rows.natSumsRow.laid w) ∧ sizedMet enc Tryd.prog Tryd.f3 (OpenSpec.ofChange Rows.natSumsSpec) false w args)
      (Rows.natSumsSpec.post enc Tryd.prog Tryd.f3 false true false false) := by
  refine returnsInHanded_of_change_and (C := Tryd.checked) (X := fun w _ => laidMetH Tryd.prog Rows.natSumsRow.laid w) (fun _ _ _ hh h => h.of_heap hh) own started (by kernel_rfl) Tryd.func3
    (ChangeSpec.witness_shaped (enc := enc) (C := Tryd.checked) (os := os) (X := fun w _ => laidMetH Tryd.prog Rows.natSumsRow.laid w) false (World.laidAll Tryd.prog os Rows.natSumsRow.laid) #[.string ⟨#[]⟩, .string ⟨#[]⟩] 8 (World.laidAll_os _ _ _)
      (World.shaped_of_ZipB (by kernel_rfl) (by kernel_rfl)) (by kernel_rfl) (by kernel_rfl) (by kernel_rfl)
      (by rw [MakeChecks.laidMetH_plain _ _ _ (by kernel_rfl)]; exact laidMet_laidAll _ (by kernel_rfl) (by kernel_rfl))) ?_
  intro W base args ds gs before hval0 hW hcnd hsz0 hL _
  have hval : ∀ (j : Nat) t v, Tryd.f3.params[j]? = some t → args[j]? = some v → Value.okWide Tryd.prog W .any base t v := hval0
  have hW' := hW
  have hsz : (DataW.weightsEach Tryd.prog (Tryd.f3.params.toList ++ Rows.natSumsSpec.plain.varTypes Tryd.prog) (ds ++ gs)).all (· ≤ reachBytes) = true := hsz0
  obtain ⟨p, q, hA0, hV, rfl, hfz, hnd⟩ := hW
  have hA : DataW.TrodAll enc Tryd.prog W 0 (fun _ => true) true Tryd.f3.params.toList args.toList ds p := hA0
  rw [Tryd.params3] at hA hval hsz
  obtain ⟨v0, vs0, d0, ds0, p0, q0, hargs, rfl, rfl, h0, r0'⟩ := trodAll_cons hA
  obtain ⟨v1, vs1, d1, ds1, p1, q1, rfl, rfl, rfl, h1, r1'⟩ := trodAll_cons r0'
  obtain ⟨rfl, rfl, rfl⟩ := trodAll_nil r1'
  obtain rfl : args = #[v0, v1] := by cases args; simp_all
  obtain ⟨rfl, rfl⟩ := trodVars_none hV
  obtain ⟨a0, rfl, rfl, rfl, w0⟩ := open_string Tryd.underlying9 (hval 0 9 v0 rfl rfl) h0
  obtain ⟨a1, rfl, rfl, rfl, w1⟩ := open_string Tryd.underlying9 (hval 1 9 v1 rfl rfl) h1
  clear hA0 hval0
  refine (walk a0 a1 W w0 w1).mono fun e W' ⟨he, bel⟩ => ?_
  subst he
  exact ⟨_, rfl, _, _, _, [], _, [], hW', trodAll_mk1 (shut_bool Tryd.underlying4 _), (trodAll_cons_mk (shut_string Tryd.underlying9 w0) (trodAll_cons_mk (shut_string Tryd.underlying9 w1) trodAll_mk0)), rfl, bel.frame _, fun h => by cases h⟩

theorem over : Rows.natSumsRow.holds Tryd.pinned (OpenSpec.ofChange Rows.natSumsSpec) :=
  OpenClaim.holds_of_wide 3 Tryd.f3 rfl rfl rfl rfl rfl rfl rfl ⟨rfl, rfl, rfl, rfl, rfl⟩ rfl rfl rfl rfl rfl (by kernel_rfl) Tryd.func3 (by kernel_rfl)
    (of_decide_eq_true (by kernel_rfl)) (by unfold Func.isWrapper; first | (rw [if_pos (by decide +kernel)]; kernel_rfl) | (rw [if_neg (by decide +kernel)]; exact ⟨rfl, rfl⟩))
    (fun os started H enc _ => lifted os started H enc)

end Go.Proofs.YtfamenkefmgnoaaDoor.natSums
namespace Go.Proofs.YtfamenkefmgnoaaDoor
open Go

theorem natSums_holds : Rows.NatSumsCardSaid :=
  Claim7.holds_tied_plain_at .later [] [.data, .pinned] true (true, "1ec1c03c1c774060f417e528e93b215f1f0a9326793d8ab0cb6920e9c175b7d3") true
    natSums.over (fun _ h => by cases h) (by kernel_rfl) (fun _ h => by cases h) natSums_row_tie rfl ⟨rfl, rfl⟩ (by kernel_rfl) rfl
    (fun f fn hf hfn => by
      obtain rfl : f = 3 := Option.some.inj ((show Tryd.prog.funcNamed Tryd.f3.name = some 3 by kernel_rfl).symm.trans hf) |>.symm
      obtain rfl : fn = Tryd.f3 := (Option.some.inj (Tryd.func3.symm.trans hfn)).symm
      exact ⟨by kernel_rfl, fun j t ht => by
        rw [Tryd.params3] at ht
        have hm : t ∈ [9, 9] := by simpa using Array.mem_of_getElem? ht
        have hall : ([9, 9].all fun u => !Tryd.prog.wantsStandIn u) = true := by kernel_rfl
        exact (show Tryd.prog.wantsStandIn t = false by simpa using List.all_eq_true.1 hall t hm)⟩)
    (by kernel_rfl)
#print axioms natSums_holds
end Go.Proofs.YtfamenkefmgnoaaDoor
