/-
  For any sign, text and exponent: what is made of them is the document's number, or refused as the document says; the arguments stay as they were.
-/
import Derived.Test.YtcnfgmhcbelgoaaDoorRows
import Derived.Test.YtcnfgmhcbelgoaaDoorTie
import Derived.Test.YtcnfgmhcbelgoaaDoorCards
import Derived.Test.YtcnfgmhcbelgoaaDoorDalive
import Derived.Test.YtcnfgmhcbelgoaaDoorYmake
import Derived.WalkKit
import Derived.ProofKit
import Derived.OpenShut
import Derived.ShutString
import Derived.ChangeOld
import Derived.Below
import Derived.SizedLaws
import Derived.LaidMore
import Derived.Lay
import Derived.SevenTiedAt
import Derived.Stop.Joined
import Derived.LaidSub
import Derived.Lib.LaidTab
import Derived.Lib.SmallJoins
namespace Go.Proofs.YtcnfgmhcbelgoaaDoor.decMakes
open Go.ChangeShapes Go.WideShapes Go.ChangeAt Go.RowKit
open Go.ChangeMaps (open_string shut_string)
set_option linter.unusedVariables false

theorem own : ownKnob Tryd.prog.godebug = none := by kernel_rfl
theorem laidOut : laidOutB Tryd.prog = true := by kernel_rfl
theorem bytes_e : Tryd.prog.bytesOf 5 = 1 := by kernel_rfl
theorem cellsN : Tryd.prog.cellsOf 23 = 3 := by kernel_rfl

set_option maxRecDepth 100000 in
set_option maxHeartbeats 2000000 in
theorem walk (a0 : Bool) (a1 : ByteArray) (a2 : Int) (w : World)  (w1 : a1.size ≤ maxLen) (w2 : (Lit.int .i64 a2).wf = true) (hL : laidMetH Tryd.prog Rows.decMakesRow.laid w) :
    Calls Tryd.prog 3 #[.bool a0, .string a1, .int .i64 a2] w fun e w' => e = .returned (.bool true) ∧ Below w.heap.size w w' := by
  have htab : Lib.TabIs Tryd.prog w "internal/strconv.uint64pow10" .u64 Lib.pow10Tab := by
    have h1 := laidMetH.filter (fun x => x.1 == "internal/strconv.uint64pow10") hL
    have h2 : Rows.decMakesRow.laid.filter (fun x => x.1 == "internal/strconv.uint64pow10") = [("internal/strconv.uint64pow10", Lib.tabData .u64 Lib.pow10Tab)] := by kernel_rfl
    rw [h2, MakeChecks.laidMetH_plain _ _ _ (by kernel_rfl)] at h1
    exact Lib.tabIs_of_head (g := Tryd.prog.globalNamed "internal/strconv.uint64pow10" |>.getD 0) (by kernel_rfl) (by kernel_rfl) Tryd.underlying100 Tryd.underlying63 (by kernel_rfl) (by kernel_rfl) h1
  have hT : Hid (Tab w.heap.size w) := Lib.tabBelow_of_tabIs htab
  clear htab hL
  have k1 := make_any a0 a1 a2 w
  have k2 := ymake_any a0 a1 a2
  have kA : Hid (∀ wx, Below w.heap.size w wx → Calls Tryd.prog 11 #[] wx fun e w' => e = .returned (.bool true) ∧ Below wx.heap.size wx w') := fun wx h => alive_any w.heap.size wx (hT.out.on h) h.size
  generalize makeA a0 a1 a2 = M at *
  obtain ⟨⟨n, s, x⟩, y⟩ := M
  dsimp only at k1 k2
  clear hT w1 w2
  go_enter Tryd.func3, Tryd.ntmps3
  go_wp2_with fail
  refine k1.mono ?_
  rintro e z1 ⟨rfl, b1⟩
  have hb1 : Hid (Below w.heap.size w (z1.alloc (.cells #[.bool n, .string s, .int .i64 x] 23))) := b1.alloc b1.size _
  have hn1 := box_at z1 n s x 23
  go_wp2_with fail
  refine (k2 _).mono ?_
  rintro e z2 ⟨rfl, b2⟩
  have hb2 : Hid (Below w.heap.size w z2) := hb1.out.trans (b2.mono hb1.out.size)
  have hn2 := hn1.kept b2 (alloc_lt _ _)
  have hs2 : z1.heap.size < z2.heap.size := Nat.lt_of_lt_of_le (alloc_lt _ _) b2.size
  have hb3 : Hid (Below w.heap.size w (z2.alloc (.cells #[.bool n, .string s, .int .i64 x] 23))) := hb2.out.alloc hb2.out.size _
  obtain ⟨c0, c1, c2⟩ := hn2.kept (alloc_below z2 (.cells #[.bool n, .string s, .int .i64 x] 23)) hs2
  obtain ⟨d0, d1, d2⟩ := box_at z2 n s x 23
  clear hb1 hn1 b2 b1 k1 k2 hn2 hb2
  go_wp2_with (go_at_call 11; refine (kA.out _ hb3.out).mono ?_; rintro e x9 ⟨rfl, b9⟩)
  go_ret
  exact ⟨rfl, hb3.out.trans (b9.mono hb3.out.size)⟩


set_option maxRecDepth 100000 in
theorem lifted (os : Os) (started : os.Started) (H : Type) (enc : TypeId × Value → H) :
    ReturnsInHanded {} Tryd.checked os 3 .any (fun w args => (Rows.decMakesSpec.pre enc Tryd.prog Tryd.f3 Rows.decMakesRow.domain false w args ∧ laidMetH Tryd.prog Rows.decMakesRow.laid w) ∧ sizedMet enc Tryd.prog Tryd.f3 (OpenSpec.ofChange Rows.decMakesSpec) false w args)
      (Rows.decMakesSpec.post enc Tryd.prog Tryd.f3 false true false false) := by
  refine returnsInHanded_of_change_and (C := Tryd.checked) (X := fun w _ => laidMetH Tryd.prog Rows.decMakesRow.laid w) (fun _ _ _ hh h => h.of_heap hh) own started (by kernel_rfl) Tryd.func3
    (ChangeSpec.witness_shaped (enc := enc) (C := Tryd.checked) (os := os) (X := fun w _ => laidMetH Tryd.prog Rows.decMakesRow.laid w) false (World.laidAll Tryd.prog os Rows.decMakesRow.laid) #[.bool false, .string ⟨#[]⟩, .int .i64 0] 8 (World.laidAll_os _ _ _)
      (World.shaped_of_ZipB (by kernel_rfl) (by kernel_rfl)) (by kernel_rfl) (by kernel_rfl) (by kernel_rfl)
      (by rw [MakeChecks.laidMetH_plain _ _ _ (by kernel_rfl)]; exact laidMet_laidAll _ (by kernel_rfl) (by kernel_rfl))) ?_
  intro W base args ds gs before hval0 hW hcnd hsz0 hL _
  have hval : ∀ (j : Nat) t v, Tryd.f3.params[j]? = some t → args[j]? = some v → Value.okWide Tryd.prog W .any base t v := hval0
  have hW' := hW
  have hsz : (DataW.weightsEach Tryd.prog (Tryd.f3.params.toList ++ Rows.decMakesSpec.plain.varTypes Tryd.prog) (ds ++ gs)).all (· ≤ reachBytes) = true := hsz0
  obtain ⟨p, q, hA0, hV, rfl, hfz, hnd⟩ := hW
  have hA : DataW.TrodAll enc Tryd.prog W 0 (fun _ => true) true Tryd.f3.params.toList args.toList ds p := hA0
  rw [Tryd.params3] at hA hval hsz
  obtain ⟨v0, vs0, d0, ds0, p0, q0, hargs, rfl, rfl, h0, r0'⟩ := trodAll_cons hA
  obtain ⟨v1, vs1, d1, ds1, p1, q1, rfl, rfl, rfl, h1, r1'⟩ := trodAll_cons r0'
  obtain ⟨v2, vs2, d2, ds2, p2, q2, rfl, rfl, rfl, h2, r2'⟩ := trodAll_cons r1'
  obtain ⟨rfl, rfl, rfl⟩ := trodAll_nil r2'
  obtain rfl : args = #[v0, v1, v2] := by cases args; simp_all
  obtain ⟨rfl, rfl⟩ := trodVars_none hV
  obtain ⟨a0, rfl, rfl, rfl⟩ := open_bool Tryd.underlying4 (hval 0 4 v0 rfl rfl) h0
  obtain ⟨a1, rfl, rfl, rfl, w1⟩ := open_string Tryd.underlying9 (hval 1 9 v1 rfl rfl) h1
  obtain ⟨a2, rfl, rfl, rfl, w2⟩ := open_int Tryd.underlying3 (hval 2 3 v2 rfl rfl) h2
  clear hA0 hval0
  refine (walk a0 a1 a2 W  w1 w2 hL).mono fun e W' ⟨he, bel⟩ => ?_
  subst he
  exact ⟨_, rfl, _, _, _, [], _, [], hW', trodAll_mk1 (shut_bool Tryd.underlying4 _), (trodAll_cons_mk (shut_bool Tryd.underlying4 _) (trodAll_cons_mk (shut_string Tryd.underlying9 w1) (trodAll_cons_mk (shut_int Tryd.underlying3 w2) trodAll_mk0))), rfl, bel.frame _, fun h => by cases h⟩

theorem over : Rows.decMakesRow.holds Tryd.pinned (OpenSpec.ofChange Rows.decMakesSpec) :=
  OpenClaim.holds_of_wide 3 Tryd.f3 rfl rfl rfl rfl rfl rfl rfl ⟨rfl, rfl, rfl, rfl, rfl⟩ rfl rfl rfl rfl rfl (by kernel_rfl) Tryd.func3 (by kernel_rfl)
    (of_decide_eq_true (by kernel_rfl)) (by unfold Func.isWrapper; first | (rw [if_pos (by decide +kernel)]; kernel_rfl) | (rw [if_neg (by decide +kernel)]; exact ⟨rfl, rfl⟩))
    (fun os started H enc _ => lifted os started H enc)

end Go.Proofs.YtcnfgmhcbelgoaaDoor.decMakes
namespace Go.Proofs.YtcnfgmhcbelgoaaDoor
open Go

theorem decMakes_holds : Rows.DecMakesCardSaid :=
  Claim7.holds_tied_plain_at .later [] [.data, .data, .data, .data, .pinned] true (true, "c9ba189e4fbfcab0d6459c5155be4fbfcc07bb386b5380dc4fdb1d4b0ec9cf06") false
    decMakes.over (fun _ h => by cases h) (by kernel_rfl) (fun _ h => by cases h) decMakes_row_tie rfl ⟨rfl, rfl⟩ (by kernel_rfl) rfl
    (fun f fn hf hfn => by
      obtain rfl : f = 3 := Option.some.inj ((show Tryd.prog.funcNamed Tryd.f3.name = some 3 by kernel_rfl).symm.trans hf) |>.symm
      obtain rfl : fn = Tryd.f3 := (Option.some.inj (Tryd.func3.symm.trans hfn)).symm
      exact ⟨by kernel_rfl, fun j t ht => by
        rw [Tryd.params3] at ht
        have hm : t ∈ [4, 9, 3] := by simpa using Array.mem_of_getElem? ht
        have hall : ([4, 9, 3].all fun u => !Tryd.prog.wantsStandIn u) = true := by kernel_rfl
        exact (show Tryd.prog.wantsStandIn t = false by simpa using List.all_eq_true.1 hall t hm)⟩)
    (by kernel_rfl)
#print axioms decMakes_holds
end Go.Proofs.YtcnfgmhcbelgoaaDoor
