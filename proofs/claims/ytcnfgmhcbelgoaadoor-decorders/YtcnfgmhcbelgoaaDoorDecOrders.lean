/-
  For any two numbers: how they stand is told as the document says, or refused; the arguments stay as they were.
-/
import Derived.Test.YtcnfgmhcbelgoaaDoorRows
import Derived.Test.YtcnfgmhcbelgoaaDoorTie
import Derived.Test.YtcnfgmhcbelgoaaDoorCards
import Derived.Test.YtcnfgmhcbelgoaaDoorDalive
import Derived.Test.YtcnfgmhcbelgoaaDoorDord
import Derived.Test.YtcnfgmhcbelgoaaDoorYsize
import Derived.WalkKit
import Derived.ProofKit
import Derived.OpenShut
import Derived.ShutString
import Derived.ChangeOld
import Derived.Below
import Derived.SizedLaws
import Derived.LaidMore
import Derived.Lay
import Derived.SevenTiedAt
import Derived.Stop.Joined
import Derived.LaidSub
import Derived.Lib.LaidTab
import Derived.Lib.SmallJoins
namespace Go.Proofs.YtcnfgmhcbelgoaaDoor.decOrders
open Go.ChangeShapes Go.WideShapes Go.ChangeAt Go.RowKit
open Go.ChangeMaps (open_string shut_string)
set_option linter.unusedVariables false

theorem own : ownKnob Tryd.prog.godebug = none := by kernel_rfl
theorem laidOut : laidOutB Tryd.prog = true := by kernel_rfl
theorem bytes_e : Tryd.prog.bytesOf 5 = 1 := by kernel_rfl
theorem cellsN : Tryd.prog.cellsOf 23 = 3 := by kernel_rfl

set_option maxRecDepth 100000 in
set_option maxHeartbeats 2000000 in
theorem walk (n0 : Bool) (s0 : ByteArray) (x0 : Int) (n1 : Bool) (s1 : ByteArray) (x1 : Int) (w : World) (w0 : s0.size ≤ maxLen) (r0 : (Lit.int .i64 x0).wf = true) (w1 : s1.size ≤ maxLen) (r1 : (Lit.int .i64 x1).wf = true) (hL : laidMetH Tryd.prog Rows.decOrdersRow.laid w) :
    Calls Tryd.prog 6 #[.agg #[.bool n0, .string s0, .int .i64 x0], .agg #[.bool n1, .string s1, .int .i64 x1]] w fun e w' => e = .returned (.bool true) ∧ Below w.heap.size w w' := by
  have htab : Lib.TabIs Tryd.prog w "internal/strconv.uint64pow10" .u64 Lib.pow10Tab := by
    have h1 := laidMetH.filter (fun x => x.1 == "internal/strconv.uint64pow10") hL
    have h2 : Rows.decOrdersRow.laid.filter (fun x => x.1 == "internal/strconv.uint64pow10") = [("internal/strconv.uint64pow10", Lib.tabData .u64 Lib.pow10Tab)] := by kernel_rfl
    rw [h2, MakeChecks.laidMetH_plain _ _ _ (by kernel_rfl)] at h1
    exact Lib.tabIs_of_head (g := Tryd.prog.globalNamed "internal/strconv.uint64pow10" |>.getD 0) (by kernel_rfl) (by kernel_rfl) Tryd.underlying100 Tryd.underlying63 (by kernel_rfl) (by kernel_rfl) h1
  have hT : Hid (Tab w.heap.size w) := Lib.tabBelow_of_tabIs htab
  clear htab hL
  have hTw0 := two_new w n0 s0 x0 n1 s1 x1
  obtain ⟨⟨p0, p1, p2⟩, ⟨q0, q1, q2⟩⟩ := id hTw0
  have hTw : Hid (Two w ((w.alloc (.cells #[.bool n0, .string s0, .int .i64 x0] 23)).alloc (.cells #[.bool n1, .string s1, .int .i64 x1] 23)) n0 s0 x0 n1 s1 x1) := hTw0
  have hbl : Hid (Below w.heap.size w ((w.alloc (.cells #[.bool n0, .string s0, .int .i64 x0] 23)).alloc (.cells #[.bool n1, .string s1, .int .i64 x1] 23))) := two_below _ _ _
  have hsz : Hid (((w.alloc (.cells #[.bool n0, .string s0, .int .i64 x0] 23)).alloc (.cells #[.bool n1, .string s1, .int .i64 x1] 23)).heap.size = w.heap.size + 2) := two_size _ _ _
  have k1 := order_any n0 s0 x0 n1 s1 x1
  have k2 := yorder_any n0 s0 x0 n1 s1 x1
  have kA : Hid (∀ wx, Below w.heap.size w wx → Calls Tryd.prog 11 #[] wx fun e w' => e = .returned (.bool true) ∧ Below wx.heap.size wx w') := fun wx h => alive_any w.heap.size wx (hT.out.on h) h.size
  generalize orderA (n0, s0, x0) (n1, s1, x1) = O at *
  obtain ⟨X, y⟩ := O
  dsimp only at k1 k2
  clear hTw0 hT w0 w1 r0 r1
  go_enter Tryd.func6, Tryd.ntmps6
  go_wp2_with fail
  refine (k1 _).mono ?_
  rintro e z3 ⟨rfl, q3⟩
  have hT3 := hTw.out.on q3 (by have := hsz.out; omega)
  have b3 : Hid (Below w.heap.size w z3) := hbl.out.trans (q3.mono (by have := hsz.out; omega))
  obtain ⟨⟨c0, c1, c2⟩, ⟨d0, d1, d2⟩⟩ := hT3
  clear q3 k1 hTw hbl hsz
  go_wp2_with fail
  refine (k2 _).mono ?_
  rintro e z4 ⟨rfl, q4⟩
  have b4 : Hid (Below w.heap.size w z4) := b3.out.trans (q4.mono b3.out.size)
  clear q4 k2 b3
  go_wp2_with (go_at_call 11; refine (kA.out _ b4.out).mono ?_; rintro e x9 ⟨rfl, b9⟩)
  go_ret
  exact ⟨rfl, b4.out.trans (b9.mono b4.out.size)⟩


set_option maxRecDepth 100000 in
theorem lifted (os : Os) (started : os.Started) (H : Type) (enc : TypeId × Value → H) :
    ReturnsInHanded {} Tryd.checked os 6 .any (fun w args => (Rows.decOrdersSpec.pre enc Tryd.prog Tryd.f6 Rows.decOrdersRow.domain false w args ∧ laidMetH Tryd.prog Rows.decOrdersRow.laid w) ∧ sizedMet enc Tryd.prog Tryd.f6 (OpenSpec.ofChange Rows.decOrdersSpec) false w args)
      (Rows.decOrdersSpec.post enc Tryd.prog Tryd.f6 false true false false) := by
  refine returnsInHanded_of_change_and (C := Tryd.checked) (X := fun w _ => laidMetH Tryd.prog Rows.decOrdersRow.laid w) (fun _ _ _ hh h => h.of_heap hh) own started (by kernel_rfl) Tryd.func6
    (ChangeSpec.witness_shaped (enc := enc) (C := Tryd.checked) (os := os) (X := fun w _ => laidMetH Tryd.prog Rows.decOrdersRow.laid w) false (World.laidAll Tryd.prog os Rows.decOrdersRow.laid) #[.agg #[.bool false, .string ⟨#[]⟩, .int .i64 0], .agg #[.bool false, .string ⟨#[]⟩, .int .i64 0]] 8 (World.laidAll_os _ _ _)
      (World.shaped_of_ZipB (by kernel_rfl) (by kernel_rfl)) (by kernel_rfl) (by kernel_rfl) (by kernel_rfl)
      (by rw [MakeChecks.laidMetH_plain _ _ _ (by kernel_rfl)]; exact laidMet_laidAll _ (by kernel_rfl) (by kernel_rfl))) ?_
  intro W base args ds gs before hval0 hW hcnd hsz0 hL _
  have hval : ∀ (j : Nat) t v, Tryd.f6.params[j]? = some t → args[j]? = some v → Value.okWide Tryd.prog W .any base t v := hval0
  have hW' := hW
  have hsz : (DataW.weightsEach Tryd.prog (Tryd.f6.params.toList ++ Rows.decOrdersSpec.plain.varTypes Tryd.prog) (ds ++ gs)).all (· ≤ reachBytes) = true := hsz0
  obtain ⟨p, q, hA0, hV, rfl, hfz, hnd⟩ := hW
  have hA : DataW.TrodAll enc Tryd.prog W 0 (fun _ => true) true Tryd.f6.params.toList args.toList ds p := hA0
  rw [Tryd.params6] at hA hval hsz
  obtain ⟨v0, vs0, d0, ds0, p0, q0, hargs, rfl, rfl, h0, r0'⟩ := trodAll_cons hA
  obtain ⟨v1, vs1, d1, ds1, p1, q1, rfl, rfl, rfl, h1, r1'⟩ := trodAll_cons r0'
  obtain ⟨rfl, rfl, rfl⟩ := trodAll_nil r1'
  obtain rfl : args = #[v0, v1] := by cases args; simp_all
  obtain ⟨rfl, rfl⟩ := trodVars_none hV
  obtain ⟨c0, c1, c2, y0, y1, y2, m, rfl, rfl, rfl, hy0, hy1, hy2⟩ := Joins.open_agg3 Tryd.underlying23 (by kernel_rfl) cellsN (hval 0 23 v0 rfl rfl) h0
  obtain ⟨n0, e0, rfl⟩ := DataW.trod_bool Tryd.underlying4 hy0
  obtain ⟨s0, e1, rfl, w0⟩ := DataW.trod_string Tryd.underlying9 hy1
  obtain ⟨x0, e2, rfl, r0⟩ := DataW.trod_int Tryd.underlying3 hy2
  simp only [List.cons.injEq, and_true] at e0 e1 e2
  subst e0 e1 e2
  clear hy0 hy1 hy2
  obtain ⟨c0, c1, c2, y0, y1, y2, m, rfl, rfl, rfl, hy0, hy1, hy2⟩ := Joins.open_agg3 Tryd.underlying23 (by kernel_rfl) cellsN (hval 1 23 v1 rfl rfl) h1
  obtain ⟨n1, e0, rfl⟩ := DataW.trod_bool Tryd.underlying4 hy0
  obtain ⟨s1, e1, rfl, w1⟩ := DataW.trod_string Tryd.underlying9 hy1
  obtain ⟨x1, e2, rfl, r1⟩ := DataW.trod_int Tryd.underlying3 hy2
  simp only [List.cons.injEq, and_true] at e0 e1 e2
  subst e0 e1 e2
  clear hy0 hy1 hy2
  clear hA0 hval0
  refine (walk n0 s0 x0 n1 s1 x1 W w0 r0 w1 r1 hL).mono fun e W' ⟨he, bel⟩ => ?_
  subst he
  exact ⟨_, rfl, _, _, _, [], _, [], hW', trodAll_mk1 (shut_bool Tryd.underlying4 _), (trodAll_cons_mk (Joins.shut_agg3 (y0 := (.lit (.bool n0), [])) (y1 := (.lit (.string s0.data.toList), [])) (y2 := (.lit (.int .i64 x0), [])) Tryd.underlying23 (by kernel_rfl) cellsN (shut_bool Tryd.underlying4 _) (shut_string Tryd.underlying9 w0) (shut_int Tryd.underlying3 r0)) (trodAll_cons_mk (Joins.shut_agg3 (y0 := (.lit (.bool n1), [])) (y1 := (.lit (.string s1.data.toList), [])) (y2 := (.lit (.int .i64 x1), [])) Tryd.underlying23 (by kernel_rfl) cellsN (shut_bool Tryd.underlying4 _) (shut_string Tryd.underlying9 w1) (shut_int Tryd.underlying3 r1)) trodAll_mk0)), rfl, bel.frame _, fun h => by cases h⟩

theorem over : Rows.decOrdersRow.holds Tryd.pinned (OpenSpec.ofChange Rows.decOrdersSpec) :=
  OpenClaim.holds_of_wide 6 Tryd.f6 rfl rfl rfl rfl rfl rfl rfl ⟨rfl, rfl, rfl, rfl, rfl⟩ rfl rfl rfl rfl rfl (by kernel_rfl) Tryd.func6 (by kernel_rfl)
    (of_decide_eq_true (by kernel_rfl)) (by unfold Func.isWrapper; first | (rw [if_pos (by decide +kernel)]; kernel_rfl) | (rw [if_neg (by decide +kernel)]; exact ⟨rfl, rfl⟩))
    (fun os started H enc _ => lifted os started H enc)

end Go.Proofs.YtcnfgmhcbelgoaaDoor.decOrders
namespace Go.Proofs.YtcnfgmhcbelgoaaDoor
open Go

theorem decOrders_holds : Rows.DecOrdersCardSaid :=
  Claim7.holds_tied_plain_at .later [] [.data, .data, .data, .data, .pinned] true (true, "c9ba189e4fbfcab0d6459c5155be4fbfcc07bb386b5380dc4fdb1d4b0ec9cf06") false
    decOrders.over (fun _ h => by cases h) (by kernel_rfl) (fun _ h => by cases h) decOrders_row_tie rfl ⟨rfl, rfl⟩ (by kernel_rfl) rfl
    (fun f fn hf hfn => by
      obtain rfl : f = 6 := Option.some.inj ((show Tryd.prog.funcNamed Tryd.f6.name = some 6 by kernel_rfl).symm.trans hf) |>.symm
      obtain rfl : fn = Tryd.f6 := (Option.some.inj (Tryd.func6.symm.trans hfn)).symm
      exact ⟨by kernel_rfl, fun j t ht => by
        rw [Tryd.params6] at ht
        have hm : t ∈ [23, 23] := by simpa using Array.mem_of_getElem? ht
        have hall : ([23, 23].all fun u => !Tryd.prog.wantsStandIn u) = true := by kernel_rfl
        exact (show Tryd.prog.wantsStandIn t = false by simpa using List.all_eq_true.1 hall t hm)⟩)
    (by kernel_rfl)
#print axioms decOrders_holds
end Go.Proofs.YtcnfgmhcbelgoaaDoor
