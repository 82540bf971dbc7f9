/-
  For any bits: whether they are of a number, which one, and its sign, is told as the document says; the argument stays as it was.
-/
import Derived.Test.YtjdceigndleadaaGreatDoorRows
import Derived.Test.YtjdceigndleadaaGreatDoorTie
import Derived.Test.YtjdceigndleadaaGreatDoorCards
import Derived.Test.YtjdceigndleadaaGreatDoorFalive
import Derived.Test.YtjdceigndleadaaGreatDoorZexw
import Derived.WalkKit
import Derived.ProofKit
import Derived.OpenShut
import Derived.ShutString
import Derived.ChangeOld
import Derived.Below
import Derived.SizedLaws
import Derived.LaidMore
import Derived.Lay
import Derived.SevenTiedAt
import Derived.Stop.Joined
import Derived.LaidSub
import Derived.Lib.LaidTab
import Derived.Lib.SmallJoins
namespace Go.Proofs.YtjdceigndleadaaGreatDoor.fltExact
open Go.ChangeShapes Go.WideShapes Go.ChangeAt Go.RowKit
open Go.ChangeMaps (open_string shut_string)
set_option linter.unusedVariables false

theorem own : ownKnob Tryz.prog.godebug = none := by kernel_rfl
theorem laidOut : laidOutB Tryz.prog = true := by kernel_rfl
theorem bytes_e : Tryz.prog.bytesOf 5 = 1 := by kernel_rfl
theorem cellsN : Tryz.prog.cellsOf 24 = 3 := by kernel_rfl

set_option maxRecDepth 100000 in
set_option maxHeartbeats 2000000 in
theorem walk (a0 : Int) (w : World) (w0 : (Lit.int .u64 a0).wf = true) (hL : laidMetH Tryz.prog Rows.fltExactRow.laid w) :
    Calls Tryz.prog 3 #[.int .u64 a0] w fun e w' => e = .returned (.bool true) ∧ Below w.heap.size w w' := by
  have htab : Lib.TabIs Tryz.prog w "internal/strconv.uint64pow10" .u64 Lib.pow10Tab := by
    have h1 := laidMetH.filter (fun x => x.1 == "internal/strconv.uint64pow10") hL
    have h2 : Rows.fltExactRow.laid.filter (fun x => x.1 == "internal/strconv.uint64pow10") = [("internal/strconv.uint64pow10", Lib.tabData .u64 Lib.pow10Tab)] := by kernel_rfl
    rw [h2, MakeChecks.laidMetH_plain _ _ _ (by kernel_rfl)] at h1
    exact Lib.tabIs_of_head (g := Tryz.prog.globalNamed "internal/strconv.uint64pow10" |>.getD 0) (by kernel_rfl) (by kernel_rfl) Tryz.underlying121 Tryz.underlying22 (by kernel_rfl) (by kernel_rfl) h1
  have hT : Hid (Tab w.heap.size w) := Lib.tabBelow_of_tabIs htab
  clear htab hL
  have kA : Hid (∀ wx, Below w.heap.size w wx → Calls Tryz.prog 10 #[] wx fun e w' => e = .returned (.bool true) ∧ Below wx.heap.size wx w') := fun wx h => alive_any w.heap.size wx (hT.out.on h) h.size
  have b0 := bounds_u64 w0
  have hn : 0 ≤ a0 ∧ a0 < 18446744073709551616 := by omega
  have k1 := exact_any a0 hn w.heap.size w hT.out (Nat.le_refl _)
  have k2 := zexact_any a0 hn
  have kf := finite_any a0 hn
  have kg := zfinite_any a0 hn
  have kn := negative_any a0 hn
  have km := znegative_any a0 hn
  generalize exactA a0 = P at *
  generalize decide (9223372036854775808 ≤ a0) = D1 at *
  generalize decide (a0 / 4503599627370496 % 2048 ≠ 2047) = D2 at *
  obtain ⟨⟨n, s, x⟩, y⟩ := P
  dsimp only at k1 k2
  clear hT w0 b0 hn
  go_enter Tryz.func3, Tryz.ntmps3
  go_wp2_with fail
  refine k1.mono ?_
  rintro e z1 ⟨rfl, c1⟩
  have r1 := row3_new z1 24 (.bool n) (.string s) (.int .i64 x)
  have d1 := c1.alloc c1.size (.cells #[.bool n, .string s, .int .i64 x] 24)
  go_wp2_with fail
  refine (k2 _).mono ?_
  rintro e z2 ⟨rfl, c2⟩
  have d2 := d1.trans (c2.mono d1.size)
  have t2 := r1.kept c2 r1.lt
  have r2 := row3_new z2 24 (.bool n) (.string s) (.int .i64 x)
  have t3 := t2.kept (alloc_below z2 (.cells #[.bool n, .string s, .int .i64 x] 24)) t2.lt
  have d3 := d2.alloc d2.size (.cells #[.bool n, .string s, .int .i64 x] 24)
  obtain ⟨p0, p1, p2⟩ := t3.at
  clear k1 k2 c1 c2 d1 d2 r1 t2
  go_wp2_with fail
  refine (kf _).mono ?_
  rintro e z3 ⟨rfl, c3⟩
  have d4 := d3.trans (c3.mono d3.size)
  go_wp2_with fail
  refine (kg _).mono ?_
  rintro e z4 ⟨rfl, hz4⟩
  obtain rfl : z3 = z4 := hz4.symm
  go_wp2_with fail
  refine (kn _).mono ?_
  rintro e z5 ⟨rfl, c5⟩
  have d5 := d4.trans (c5.mono d4.size)
  go_wp2_with fail
  refine (km _).mono ?_
  rintro e z6 ⟨rfl, hz6⟩
  obtain rfl : z5 = z6 := hz6.symm
  go_wp2_with (go_at_call 10; refine (kA.out _ d5).mono ?_; rintro e z9 ⟨rfl, c9⟩)
  go_ret
  exact ⟨rfl, d5.trans (c9.mono d5.size)⟩


set_option maxRecDepth 100000 in
theorem lifted (os : Os) (started : os.Started) (H : Type) (enc : TypeId × Value → H) :
    ReturnsInHanded {} Tryz.checked os 3 .any (fun w args => (Rows.fltExactSpec.pre enc Tryz.prog Tryz.f3 Rows.fltExactRow.domain false w args ∧ laidMetH Tryz.prog Rows.fltExactRow.laid w) ∧ sizedMet enc Tryz.prog Tryz.f3 (OpenSpec.ofChange Rows.fltExactSpec) false w args)
      (Rows.fltExactSpec.post enc Tryz.prog Tryz.f3 false true false false) := by
  refine returnsInHanded_of_change_and (C := Tryz.checked) (X := fun w _ => laidMetH Tryz.prog Rows.fltExactRow.laid w) (fun _ _ _ hh h => h.of_heap hh) own started (by kernel_rfl) Tryz.func3
    (ChangeSpec.witness_shaped (enc := enc) (C := Tryz.checked) (os := os) (X := fun w _ => laidMetH Tryz.prog Rows.fltExactRow.laid w) false (World.laidAll Tryz.prog os Rows.fltExactRow.laid) #[.int .u64 0] 8 (World.laidAll_os _ _ _)
      (World.shaped_of_ZipB (by kernel_rfl) (by kernel_rfl)) (by kernel_rfl) (by kernel_rfl) (by kernel_rfl)
      (by rw [MakeChecks.laidMetH_plain _ _ _ (by kernel_rfl)]; exact laidMet_laidAll _ (by kernel_rfl) (by kernel_rfl))) ?_
  intro W base args ds gs before hval0 hW hcnd hsz0 hL _
  have hval : ∀ (j : Nat) t v, Tryz.f3.params[j]? = some t → args[j]? = some v → Value.okWide Tryz.prog W .any base t v := hval0
  have hW' := hW
  have hsz : (DataW.weightsEach Tryz.prog (Tryz.f3.params.toList ++ Rows.fltExactSpec.plain.varTypes Tryz.prog) (ds ++ gs)).all (· ≤ reachBytes) = true := hsz0
  obtain ⟨p, q, hA0, hV, rfl, hfz, hnd⟩ := hW
  have hA : DataW.TrodAll enc Tryz.prog W 0 (fun _ => true) true Tryz.f3.params.toList args.toList ds p := hA0
  rw [Tryz.params3] at hA hval hsz
  obtain ⟨v0, vs0, d0, ds0, p0, q0, hargs, rfl, rfl, h0, r0'⟩ := trodAll_cons hA
  obtain ⟨rfl, rfl, rfl⟩ := trodAll_nil r0'
  obtain rfl : args = #[v0] := by cases args; simp_all
  obtain ⟨rfl, rfl⟩ := trodVars_none hV
  obtain ⟨a0, rfl, rfl, rfl, w0⟩ := open_int Tryz.underlying22 (hval 0 22 v0 rfl rfl) h0
  clear hA0 hval0
  refine (walk a0 W w0 hL).mono fun e W' ⟨he, bel⟩ => ?_
  subst he
  exact ⟨_, rfl, _, _, _, [], _, [], hW', trodAll_mk1 (shut_bool Tryz.underlying4 _), (trodAll_cons_mk (shut_int Tryz.underlying22 w0) trodAll_mk0), rfl, bel.frame _, fun h => by cases h⟩

theorem over : Rows.fltExactRow.holds Tryz.pinned (OpenSpec.ofChange Rows.fltExactSpec) :=
  OpenClaim.holds_of_wide 3 Tryz.f3 rfl rfl rfl rfl rfl rfl rfl ⟨rfl, rfl, rfl, rfl, rfl⟩ rfl rfl rfl rfl rfl (by kernel_rfl) Tryz.func3 (by kernel_rfl)
    (of_decide_eq_true (by kernel_rfl)) (by unfold Func.isWrapper; first | (rw [if_pos (by decide +kernel)]; kernel_rfl) | (rw [if_neg (by decide +kernel)]; exact ⟨rfl, rfl⟩))
    (fun os started H enc _ => lifted os started H enc)

end Go.Proofs.YtjdceigndleadaaGreatDoor.fltExact
namespace Go.Proofs.YtjdceigndleadaaGreatDoor
open Go

theorem fltExact_holds : Rows.FltExactCardSaid :=
  Claim7.holds_tied_plain_at .later [] [.data, .data, .data, .data, .pinned] true (true, "6aed3b545b7deb36d671c5a61335eceb10fa8b1fbcde41b20ef12c153e08e6be") false
    fltExact.over (fun _ h => by cases h) (by kernel_rfl) (fun _ h => by cases h) fltExact_row_tie rfl ⟨rfl, rfl⟩ (by kernel_rfl) rfl
    (fun f fn hf hfn => by
      obtain rfl : f = 3 := Option.some.inj ((show Tryz.prog.funcNamed Tryz.f3.name = some 3 by kernel_rfl).symm.trans hf) |>.symm
      obtain rfl : fn = Tryz.f3 := (Option.some.inj (Tryz.func3.symm.trans hfn)).symm
      exact ⟨by kernel_rfl, fun j t ht => by
        rw [Tryz.params3] at ht
        have hm : t ∈ [22] := by simpa using Array.mem_of_getElem? ht
        have hall : ([22].all fun u => !Tryz.prog.wantsStandIn u) = true := by kernel_rfl
        exact (show Tryz.prog.wantsStandIn t = false by simpa using List.all_eq_true.1 hall t hm)⟩)
    (by kernel_rfl)
#print axioms fltExact_holds
end Go.Proofs.YtjdceigndleadaaGreatDoor
