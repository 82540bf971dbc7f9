/-
  For any text: it is read as the document's number, or refused at the first byte that is wrong, as the document says; the argument stays as it was.
-/
import Derived.Test.YtcnfgmhcbelgoaaDoorRows
import Derived.Test.YtcnfgmhcbelgoaaDoorTie
import Derived.Test.YtcnfgmhcbelgoaaDoorCards
import Derived.Test.YtcnfgmhcbelgoaaDoorDalive
import Derived.Test.YtcnfgmhcbelgoaaDoorYpw
import Derived.WalkKit
import Derived.ProofKit
import Derived.OpenShut
import Derived.ShutString
import Derived.ChangeOld
import Derived.Below
import Derived.SizedLaws
import Derived.LaidMore
import Derived.Lay
import Derived.SevenTiedAt
import Derived.Stop.Joined
import Derived.LaidSub
import Derived.Lib.LaidTab
import Derived.Lib.SmallJoins
namespace Go.Proofs.YtcnfgmhcbelgoaaDoor.decReads
open Go.ChangeShapes Go.WideShapes Go.ChangeAt Go.RowKit
open Go.ChangeMaps (open_string shut_string)
set_option linter.unusedVariables false

theorem own : ownKnob Tryd.prog.godebug = none := by kernel_rfl
theorem laidOut : laidOutB Tryd.prog = true := by kernel_rfl
theorem bytes_e : Tryd.prog.bytesOf 5 = 1 := by kernel_rfl
theorem cellsN : Tryd.prog.cellsOf 23 = 3 := by kernel_rfl

set_option maxRecDepth 100000 in
set_option maxHeartbeats 2000000 in
theorem walk (a0 : ByteArray) (w : World) (w0 : a0.size ≤ maxLen) (hL : laidMetH Tryd.prog Rows.decReadsRow.laid w) :
    Calls Tryd.prog 4 #[.string a0] w fun e w' => e = .returned (.bool true) ∧ Below w.heap.size w w' := by
  have htab : Lib.TabIs Tryd.prog w "internal/strconv.uint64pow10" .u64 Lib.pow10Tab := by
    have h1 := laidMetH.filter (fun x => x.1 == "internal/strconv.uint64pow10") hL
    have h2 : Rows.decReadsRow.laid.filter (fun x => x.1 == "internal/strconv.uint64pow10") = [("internal/strconv.uint64pow10", Lib.tabData .u64 Lib.pow10Tab)] := by kernel_rfl
    rw [h2, MakeChecks.laidMetH_plain _ _ _ (by kernel_rfl)] at h1
    exact Lib.tabIs_of_head (g := Tryd.prog.globalNamed "internal/strconv.uint64pow10" |>.getD 0) (by kernel_rfl) (by kernel_rfl) Tryd.underlying100 Tryd.underlying63 (by kernel_rfl) (by kernel_rfl) h1
  have hT : Hid (Tab w.heap.size w) := Lib.tabBelow_of_tabIs htab
  clear htab hL
  have k1 := parse_any a0 w
  have k2 := yparse_any a0
  have kA : Hid (∀ wx, Below w.heap.size w wx → Calls Tryd.prog 11 #[] wx fun e w' => e = .returned (.bool true) ∧ Below wx.heap.size wx w') := fun wx h => alive_any w.heap.size wx (hT.out.on h) h.size
  generalize parseA a0 = M at *
  obtain ⟨⟨n, s, x⟩, y, f⟩ := M
  dsimp only at k1 k2
  clear hT w0
  go_enter Tryd.func4, Tryd.ntmps4
  go_wp2_with fail
  refine k1.mono ?_
  rintro e z1 ⟨rfl, b1⟩
  have r1 := row_new z1 n s x
  have d1 := b1.alloc b1.size (.cells #[.bool n, .string s, .int .i64 x] 23)
  generalize hZ1 : z1.alloc (.cells #[.bool n, .string s, .int .i64 x] 23) = y1 at *
  have sy1 : y1.heap.size = z1.heap.size + 1 := by rw [← hZ1]; simp
  have f1 : FRow (y1.alloc (.cells #[.int .i64 y, .int .i64 f] 32)) (z1.heap.size + 1) y f := by rw [← sy1]; exact heap_alloc_new y1 _
  have r2 := r1.keep (alloc_below y1 (.cells #[.int .i64 y, .int .i64 f] 32)) r1.lt
  have d2 := d1.alloc d1.size (.cells #[.int .i64 y, .int .i64 f] 32)
  subst hZ1
  clear b1 r1 d1 sy1
  go_wp2_with fail
  refine (k2 _).mono ?_
  rintro e z2 ⟨rfl, b2⟩
  have d3 := d2.trans (b2.mono d2.size)
  have r3 := r2.keep b2 r2.lt
  have f3 := f1.keep b2 f1.lt
  have r4 := r3.keep (alloc_below z2 (.cells #[.bool n, .string s, .int .i64 x] 23)) r3.lt
  have f4 := f3.keep (alloc_below z2 (.cells #[.bool n, .string s, .int .i64 x] 23)) f3.lt
  have m4 := row_new z2 n s x
  have d4 := d3.alloc d3.size (.cells #[.bool n, .string s, .int .i64 x] 23)
  generalize hZ2 : z2.alloc (.cells #[.bool n, .string s, .int .i64 x] 23) = y2 at *
  have sy2 : y2.heap.size = z2.heap.size + 1 := by rw [← hZ2]; simp
  have g5 : FRow (y2.alloc (.cells #[.int .i64 y, .int .i64 f] 32)) (z2.heap.size + 1) y f := by rw [← sy2]; exact heap_alloc_new y2 _
  have r5 := r4.keep (alloc_below y2 (.cells #[.int .i64 y, .int .i64 f] 32)) r4.lt
  have f5 := f4.keep (alloc_below y2 (.cells #[.int .i64 y, .int .i64 f] 32)) f4.lt
  have m5 := m4.keep (alloc_below y2 (.cells #[.int .i64 y, .int .i64 f] 32)) m4.lt
  have d5 := d4.alloc d4.size (.cells #[.int .i64 y, .int .i64 f] 32)
  subst hZ2
  obtain ⟨c0, c1, c2⟩ := r5.at
  obtain ⟨e0, e1, e2⟩ := m5.at
  have h0 := f5.c0
  have h1 := f5.c1
  have i0 := g5.c0
  have i1 := g5.c1
  clear k1 k2 b2 d2 d3 d4 r2 r3 r4 f1 f3 f4 m4 sy2
  go_wp2_with (go_at_call 11; refine (kA.out _ d5).mono ?_; rintro e x9 ⟨rfl, b9⟩)
  go_ret
  exact ⟨rfl, d5.trans (b9.mono d5.size)⟩


set_option maxRecDepth 100000 in
theorem lifted (os : Os) (started : os.Started) (H : Type) (enc : TypeId × Value → H) :
    ReturnsInHanded {} Tryd.checked os 4 .any (fun w args => (Rows.decReadsSpec.pre enc Tryd.prog Tryd.f4 Rows.decReadsRow.domain false w args ∧ laidMetH Tryd.prog Rows.decReadsRow.laid w) ∧ sizedMet enc Tryd.prog Tryd.f4 (OpenSpec.ofChange Rows.decReadsSpec) false w args)
      (Rows.decReadsSpec.post enc Tryd.prog Tryd.f4 false true false false) := by
  refine returnsInHanded_of_change_and (C := Tryd.checked) (X := fun w _ => laidMetH Tryd.prog Rows.decReadsRow.laid w) (fun _ _ _ hh h => h.of_heap hh) own started (by kernel_rfl) Tryd.func4
    (ChangeSpec.witness_shaped (enc := enc) (C := Tryd.checked) (os := os) (X := fun w _ => laidMetH Tryd.prog Rows.decReadsRow.laid w) false (World.laidAll Tryd.prog os Rows.decReadsRow.laid) #[.string ⟨#[]⟩] 8 (World.laidAll_os _ _ _)
      (World.shaped_of_ZipB (by kernel_rfl) (by kernel_rfl)) (by kernel_rfl) (by kernel_rfl) (by kernel_rfl)
      (by rw [MakeChecks.laidMetH_plain _ _ _ (by kernel_rfl)]; exact laidMet_laidAll _ (by kernel_rfl) (by kernel_rfl))) ?_
  intro W base args ds gs before hval0 hW hcnd hsz0 hL _
  have hval : ∀ (j : Nat) t v, Tryd.f4.params[j]? = some t → args[j]? = some v → Value.okWide Tryd.prog W .any base t v := hval0
  have hW' := hW
  have hsz : (DataW.weightsEach Tryd.prog (Tryd.f4.params.toList ++ Rows.decReadsSpec.plain.varTypes Tryd.prog) (ds ++ gs)).all (· ≤ reachBytes) = true := hsz0
  obtain ⟨p, q, hA0, hV, rfl, hfz, hnd⟩ := hW
  have hA : DataW.TrodAll enc Tryd.prog W 0 (fun _ => true) true Tryd.f4.params.toList args.toList ds p := hA0
  rw [Tryd.params4] at hA hval hsz
  obtain ⟨v0, vs0, d0, ds0, p0, q0, hargs, rfl, rfl, h0, r0'⟩ := trodAll_cons hA
  obtain ⟨rfl, rfl, rfl⟩ := trodAll_nil r0'
  obtain rfl : args = #[v0] := by cases args; simp_all
  obtain ⟨rfl, rfl⟩ := trodVars_none hV
  obtain ⟨a0, rfl, rfl, rfl, w0⟩ := open_string Tryd.underlying9 (hval 0 9 v0 rfl rfl) h0
  clear hA0 hval0
  refine (walk a0 W w0 hL).mono fun e W' ⟨he, bel⟩ => ?_
  subst he
  exact ⟨_, rfl, _, _, _, [], _, [], hW', trodAll_mk1 (shut_bool Tryd.underlying4 _), (trodAll_cons_mk (shut_string Tryd.underlying9 w0) trodAll_mk0), rfl, bel.frame _, fun h => by cases h⟩

theorem over : Rows.decReadsRow.holds Tryd.pinned (OpenSpec.ofChange Rows.decReadsSpec) :=
  OpenClaim.holds_of_wide 4 Tryd.f4 rfl rfl rfl rfl rfl rfl rfl ⟨rfl, rfl, rfl, rfl, rfl⟩ rfl rfl rfl rfl rfl (by kernel_rfl) Tryd.func4 (by kernel_rfl)
    (of_decide_eq_true (by kernel_rfl)) (by unfold Func.isWrapper; first | (rw [if_pos (by decide +kernel)]; kernel_rfl) | (rw [if_neg (by decide +kernel)]; exact ⟨rfl, rfl⟩))
    (fun os started H enc _ => lifted os started H enc)

end Go.Proofs.YtcnfgmhcbelgoaaDoor.decReads
namespace Go.Proofs.YtcnfgmhcbelgoaaDoor
open Go

theorem decReads_holds : Rows.DecReadsCardSaid :=
  Claim7.holds_tied_plain_at .later [] [.data, .data, .data, .data, .pinned] true (true, "c9ba189e4fbfcab0d6459c5155be4fbfcc07bb386b5380dc4fdb1d4b0ec9cf06") false
    decReads.over (fun _ h => by cases h) (by kernel_rfl) (fun _ h => by cases h) decReads_row_tie rfl ⟨rfl, rfl⟩ (by kernel_rfl) rfl
    (fun f fn hf hfn => by
      obtain rfl : f = 4 := Option.some.inj ((show Tryd.prog.funcNamed Tryd.f4.name = some 4 by kernel_rfl).symm.trans hf) |>.symm
      obtain rfl : fn = Tryd.f4 := (Option.some.inj (Tryd.func4.symm.trans hfn)).symm
      exact ⟨by kernel_rfl, fun j t ht => by
        rw [Tryd.params4] at ht
        have hm : t ∈ [9] := by simpa using Array.mem_of_getElem? ht
        have hall : ([9].all fun u => !Tryd.prog.wantsStandIn u) = true := by kernel_rfl
        exact (show Tryd.prog.wantsStandIn t = false by simpa using List.all_eq_true.1 hall t hm)⟩)
    (by kernel_rfl)
#print axioms decReads_holds
end Go.Proofs.YtcnfgmhcbelgoaaDoor
