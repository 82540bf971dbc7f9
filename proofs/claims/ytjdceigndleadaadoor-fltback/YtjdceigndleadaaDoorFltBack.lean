/-
  For any bits: what was narrowed is widened to the same bits, and what was widened is narrowed to no more bytes; the arguments stay as they were.
-/
import Derived.Test.YtjdceigndleadaaDoorRows
import Derived.Test.YtjdceigndleadaaDoorTie
import Derived.Test.YtjdceigndleadaaDoorCards
import Derived.Test.YtjdceigndleadaaDoorFalive
import Derived.WalkKit
import Derived.ProofKit
import Derived.OpenShut
import Derived.ShutString
import Derived.ChangeOld
import Derived.Below
import Derived.SizedLaws
import Derived.LaidMore
import Derived.Lay
import Derived.SevenTiedAt
import Derived.Stop.Joined
import Derived.LaidSub
import Derived.Lib.LaidTab
import Derived.Lib.SmallJoins
namespace Go.Proofs.YtjdceigndleadaaDoor.fltBack
open Go.ChangeShapes Go.WideShapes Go.ChangeAt Go.RowKit
open Go.ChangeMaps (open_string shut_string)
set_option linter.unusedVariables false

theorem own : ownKnob Tryd.prog.godebug = none := by kernel_rfl
theorem laidOut : laidOutB Tryd.prog = true := by kernel_rfl
theorem bytes_e : Tryd.prog.bytesOf 5 = 1 := by kernel_rfl
theorem cellsN : Tryd.prog.cellsOf 36 = 3 := by kernel_rfl

set_option maxRecDepth 100000 in
set_option maxHeartbeats 2000000 in
theorem walk (a0 : Int) (a1 : Int) (a2 : Int) (w : World) (w0 : (Lit.int .u64 a0).wf = true) (w1 : (Lit.int .u16 a1).wf = true) (w2 : (Lit.int .u32 a2).wf = true) (hL : laidMetH Tryd.prog Rows.fltBackRow.laid w) :
    Calls Tryd.prog 5 #[.int .u64 a0, .int .u16 a1, .int .u32 a2] w fun e w' => e = .returned (.bool true) ∧ Below w.heap.size w w' := by
  have htab : Lib.TabIs Tryd.prog w "internal/strconv.uint64pow10" .u64 Lib.pow10Tab := by
    have h1 := laidMetH.filter (fun x => x.1 == "internal/strconv.uint64pow10") hL
    have h2 : Rows.fltBackRow.laid.filter (fun x => x.1 == "internal/strconv.uint64pow10") = [("internal/strconv.uint64pow10", Lib.tabData .u64 Lib.pow10Tab)] := by kernel_rfl
    rw [h2, MakeChecks.laidMetH_plain _ _ _ (by kernel_rfl)] at h1
    exact Lib.tabIs_of_head (g := Tryd.prog.globalNamed "internal/strconv.uint64pow10" |>.getD 0) (by kernel_rfl) (by kernel_rfl) Tryd.underlying124 Tryd.underlying22 (by kernel_rfl) (by kernel_rfl) h1
  have hT : Hid (Tab w.heap.size w) := Lib.tabBelow_of_tabIs htab
  clear htab hL
  have kA : Hid (∀ wx, Below w.heap.size w wx → Calls Tryd.prog 10 #[] wx fun e w' => e = .returned (.bool true) ∧ Below wx.heap.size wx w') := fun wx h => alive_any w.heap.size wx (hT.out.on h) h.size
  have b0 := bounds_u64 w0
  have b1 : 0 ≤ a1 ∧ a1 < 65536 := by
    simp [Lit.wf, show IntKind.u16.min = 0 from by decide, show IntKind.u16.max = 65535 from by decide] at w1
    omega
  have b2 : 0 ≤ a2 ∧ a2 < 4294967296 := by
    simp [Lit.wf, show IntKind.u32.min = 0 from by decide, show IntKind.u32.max = 4294967295 from by decide] at w2
    omega
  have hn : 0 ≤ a0 ∧ a0 < 18446744073709551616 := by omega
  obtain ⟨f1, f2⟩ := back_wide hn
  obtain ⟨g1, g2⟩ := back_half b1
  obtain ⟨h1, h2⟩ := back_single b2
  have k1 := narrow_any a0 hn w
  have k2 := widen_any (narrowA a0).1 (narrowA a0).2 f2
  have k3 := widen_any a1 2 (by omega)
  have k4 := widen_any a2 4 (by omega)
  have k5 := narrow_any (widen2 a1) (widen_room2 b1)
  have k6 := narrow_any (widen4 a2) (widen_room4 b2)
  rw [f1] at k2
  rw [g1] at k3
  rw [g2] at k5
  rw [h1] at k4
  have v1 : IntKind.u64.wrap a1 = a1 := by rw [IntKind.wrap_u64]; omega
  have v2 : IntKind.u64.wrap a2 = a2 := by rw [IntKind.wrap_u64]; omega
  have e6 : decide ((narrowA (widen4 a2)).2 ≤ 4) = true := by simpa using h2
  generalize narrowA (widen4 a2) = N6 at *
  generalize widen2 a1 = W2 at *
  generalize widen4 a2 = W4 at *
  generalize narrowA a0 = N1 at *
  obtain ⟨p6, q6⟩ := N6
  obtain ⟨p1, q1⟩ := N1
  dsimp only at k1 k2 k3 k4 k5 k6 e6
  clear hT w0 w1 w2 b0 b1 b2 hn f1 f2 g1 g2 h1 h2
  go_enter Tryd.func5, Tryd.ntmps5
  go_wp2_with fail
  refine k1.mono ?_
  rintro e x1 ⟨rfl, d1⟩
  go_wp2_with fail
  refine (k2 _).mono ?_
  rintro e x2 ⟨rfl, c2⟩
  have d2 := d1.trans (c2.mono d1.size)
  go_wp2_with fail
  refine (k3 _).mono ?_
  rintro e x3 ⟨rfl, c3⟩
  have d3 := d2.trans (c3.mono d2.size)
  go_wp2_with fail
  refine (k4 _).mono ?_
  rintro e x4 ⟨rfl, c4⟩
  have d4 := d3.trans (c4.mono d3.size)
  go_wp2_with fail
  refine (k5 _).mono ?_
  rintro e x5 ⟨rfl, c5⟩
  have d5 := d4.trans (c5.mono d4.size)
  go_wp2_with fail
  refine (k6 _).mono ?_
  rintro e x6 ⟨rfl, c6⟩
  have d6 := d5.trans (c6.mono d5.size)
  go_wp2_with (go_at_call 10; refine (kA.out _ d6).mono ?_; rintro e x9 ⟨rfl, c9⟩)
  go_ret
  exact ⟨rfl, d6.trans (c9.mono d6.size)⟩


set_option maxRecDepth 100000 in
theorem lifted (os : Os) (started : os.Started) (H : Type) (enc : TypeId × Value → H) :
    ReturnsInHanded {} Tryd.checked os 5 .any (fun w args => (Rows.fltBackSpec.pre enc Tryd.prog Tryd.f5 Rows.fltBackRow.domain false w args ∧ laidMetH Tryd.prog Rows.fltBackRow.laid w) ∧ sizedMet enc Tryd.prog Tryd.f5 (OpenSpec.ofChange Rows.fltBackSpec) false w args)
      (Rows.fltBackSpec.post enc Tryd.prog Tryd.f5 false true false false) := by
  refine returnsInHanded_of_change_and (C := Tryd.checked) (X := fun w _ => laidMetH Tryd.prog Rows.fltBackRow.laid w) (fun _ _ _ hh h => h.of_heap hh) own started (by kernel_rfl) Tryd.func5
    (ChangeSpec.witness_shaped (enc := enc) (C := Tryd.checked) (os := os) (X := fun w _ => laidMetH Tryd.prog Rows.fltBackRow.laid w) false (World.laidAll Tryd.prog os Rows.fltBackRow.laid) #[.int .u64 0, .int .u16 0, .int .u32 0] 8 (World.laidAll_os _ _ _)
      (World.shaped_of_ZipB (by kernel_rfl) (by kernel_rfl)) (by kernel_rfl) (by kernel_rfl) (by kernel_rfl)
      (by rw [MakeChecks.laidMetH_plain _ _ _ (by kernel_rfl)]; exact laidMet_laidAll _ (by kernel_rfl) (by kernel_rfl))) ?_
  intro W base args ds gs before hval0 hW hcnd hsz0 hL _
  have hval : ∀ (j : Nat) t v, Tryd.f5.params[j]? = some t → args[j]? = some v → Value.okWide Tryd.prog W .any base t v := hval0
  have hW' := hW
  have hsz : (DataW.weightsEach Tryd.prog (Tryd.f5.params.toList ++ Rows.fltBackSpec.plain.varTypes Tryd.prog) (ds ++ gs)).all (· ≤ reachBytes) = true := hsz0
  obtain ⟨p, q, hA0, hV, rfl, hfz, hnd⟩ := hW
  have hA : DataW.TrodAll enc Tryd.prog W 0 (fun _ => true) true Tryd.f5.params.toList args.toList ds p := hA0
  rw [Tryd.params5] at hA hval hsz
  obtain ⟨v0, vs0, d0, ds0, p0, q0, hargs, rfl, rfl, h0, r0'⟩ := trodAll_cons hA
  obtain ⟨v1, vs1, d1, ds1, p1, q1, rfl, rfl, rfl, h1, r1'⟩ := trodAll_cons r0'
  obtain ⟨v2, vs2, d2, ds2, p2, q2, rfl, rfl, rfl, h2, r2'⟩ := trodAll_cons r1'
  obtain ⟨rfl, rfl, rfl⟩ := trodAll_nil r2'
  obtain rfl : args = #[v0, v1, v2] := by cases args; simp_all
  obtain ⟨rfl, rfl⟩ := trodVars_none hV
  obtain ⟨a0, rfl, rfl, rfl, w0⟩ := open_int Tryd.underlying22 (hval 0 22 v0 rfl rfl) h0
  obtain ⟨a1, rfl, rfl, rfl, w1⟩ := open_int Tryd.underlying32 (hval 1 32 v1 rfl rfl) h1
  obtain ⟨a2, rfl, rfl, rfl, w2⟩ := open_int Tryd.underlying33 (hval 2 33 v2 rfl rfl) h2
  clear hA0 hval0
  refine (walk a0 a1 a2 W w0 w1 w2 hL).mono fun e W' ⟨he, bel⟩ => ?_
  subst he
  exact ⟨_, rfl, _, _, _, [], _, [], hW', trodAll_mk1 (shut_bool Tryd.underlying4 _), (trodAll_cons_mk (shut_int Tryd.underlying22 w0) (trodAll_cons_mk (shut_int Tryd.underlying32 w1) (trodAll_cons_mk (shut_int Tryd.underlying33 w2) trodAll_mk0))), rfl, bel.frame _, fun h => by cases h⟩

theorem over : Rows.fltBackRow.holds Tryd.pinned (OpenSpec.ofChange Rows.fltBackSpec) :=
  OpenClaim.holds_of_wide 5 Tryd.f5 rfl rfl rfl rfl rfl rfl rfl ⟨rfl, rfl, rfl, rfl, rfl⟩ rfl rfl rfl rfl rfl (by kernel_rfl) Tryd.func5 (by kernel_rfl)
    (of_decide_eq_true (by kernel_rfl)) (by unfold Func.isWrapper; first | (rw [if_pos (by decide +kernel)]; kernel_rfl) | (rw [if_neg (by decide +kernel)]; exact ⟨rfl, rfl⟩))
    (fun os started H enc _ => lifted os started H enc)

end Go.Proofs.YtjdceigndleadaaDoor.fltBack
namespace Go.Proofs.YtjdceigndleadaaDoor
open Go

theorem fltBack_holds : Rows.FltBackCardSaid :=
  Claim7.holds_tied_plain_at .later [] [.data, .data, .data, .data, .pinned] true (true, "e0a54645fc59091a7f8b99062e912a849103fc86ac876f66c6b0c953c9d077d4") false
    fltBack.over (fun _ h => by cases h) (by kernel_rfl) (fun _ h => by cases h) fltBack_row_tie rfl ⟨rfl, rfl⟩ (by kernel_rfl) rfl
    (fun f fn hf hfn => by
      obtain rfl : f = 5 := Option.some.inj ((show Tryd.prog.funcNamed Tryd.f5.name = some 5 by kernel_rfl).symm.trans hf) |>.symm
      obtain rfl : fn = Tryd.f5 := (Option.some.inj (Tryd.func5.symm.trans hfn)).symm
      exact ⟨by kernel_rfl, fun j t ht => by
        rw [Tryd.params5] at ht
        have hm : t ∈ [22, 32, 33] := by simpa using Array.mem_of_getElem? ht
        have hall : ([22, 32, 33].all fun u => !Tryd.prog.wantsStandIn u) = true := by kernel_rfl
        exact (show Tryd.prog.wantsStandIn t = false by simpa using List.all_eq_true.1 hall t hm)⟩)
    (by kernel_rfl)
#print axioms fltBack_holds
end Go.Proofs.YtjdceigndleadaaDoor
