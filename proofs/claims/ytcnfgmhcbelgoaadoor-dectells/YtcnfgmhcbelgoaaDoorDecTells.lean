/-
  For any number: whether it is in its form, its text and its whole digits are told as the document says; the argument stays as it was.
-/
import Derived.Test.YtcnfgmhcbelgoaaDoorRows
import Derived.Test.YtcnfgmhcbelgoaaDoorTie
import Derived.Test.YtcnfgmhcbelgoaaDoorCards
import Derived.Test.YtcnfgmhcbelgoaaDoorDalive
import Derived.Test.YtcnfgmhcbelgoaaDoorYtext
import Derived.WalkKit
import Derived.ProofKit
import Derived.OpenShut
import Derived.ShutString
import Derived.ChangeOld
import Derived.Below
import Derived.SizedLaws
import Derived.LaidMore
import Derived.Lay
import Derived.SevenTiedAt
import Derived.Stop.Joined
import Derived.LaidSub
import Derived.Lib.LaidTab
import Derived.Lib.SmallJoins
namespace Go.Proofs.YtcnfgmhcbelgoaaDoor.decTells
open Go.ChangeShapes Go.WideShapes Go.ChangeAt Go.RowKit
open Go.ChangeMaps (open_string shut_string)
set_option linter.unusedVariables false

theorem own : ownKnob Tryd.prog.godebug = none := by kernel_rfl
theorem laidOut : laidOutB Tryd.prog = true := by kernel_rfl
theorem bytes_e : Tryd.prog.bytesOf 5 = 1 := by kernel_rfl
theorem cellsN : Tryd.prog.cellsOf 23 = 3 := by kernel_rfl

set_option maxRecDepth 100000 in
set_option maxHeartbeats 2000000 in
theorem walk (n0 : Bool) (s0 : ByteArray) (x0 : Int) (w : World) (w0 : s0.size ≤ maxLen) (r0 : (Lit.int .i64 x0).wf = true) (hL : laidMetH Tryd.prog Rows.decTellsRow.laid w) :
    Calls Tryd.prog 5 #[.agg #[.bool n0, .string s0, .int .i64 x0]] w fun e w' => e = .returned (.bool true) ∧ Below w.heap.size w w' := by
  have htab : Lib.TabIs Tryd.prog w "internal/strconv.uint64pow10" .u64 Lib.pow10Tab := by
    have h1 := laidMetH.filter (fun x => x.1 == "internal/strconv.uint64pow10") hL
    have h2 : Rows.decTellsRow.laid.filter (fun x => x.1 == "internal/strconv.uint64pow10") = [("internal/strconv.uint64pow10", Lib.tabData .u64 Lib.pow10Tab)] := by kernel_rfl
    rw [h2, MakeChecks.laidMetH_plain _ _ _ (by kernel_rfl)] at h1
    exact Lib.tabIs_of_head (g := Tryd.prog.globalNamed "internal/strconv.uint64pow10" |>.getD 0) (by kernel_rfl) (by kernel_rfl) Tryd.underlying100 Tryd.underlying63 (by kernel_rfl) (by kernel_rfl) h1
  have hT : Hid (Tab w.heap.size w) := Lib.tabBelow_of_tabIs htab
  clear htab hL
  have hB0 := box_at w n0 s0 x0 23
  have hb0 := alloc_below w (.cells #[.bool n0, .string s0, .int .i64 x0] 23)
  have k1 := whole_any n0 s0 x0
  have k2 := ywhole_any n0 s0 x0
  have k3 := dright_any n0 s0 x0
  have k4 := yright_any n0 s0 x0
  have k5 : Hid (∀ wx, Below w.heap.size w wx → Calls Tryd.prog 18 #[.agg #[.bool n0, .string s0, .int .i64 x0]] wx fun e w' => e = .returned (.string (textA n0 s0 x0)) ∧ Below wx.heap.size wx w') := fun wx h => text_any n0 s0 x0 wx ((hT.out.on h).up h.size)
  have k6 := ytext_any n0 s0 x0
  have kA : Hid (∀ wx, Below w.heap.size w wx → Calls Tryd.prog 11 #[] wx fun e w' => e = .returned (.bool true) ∧ Below wx.heap.size wx w') := fun wx h => alive_any w.heap.size wx (hT.out.on h) h.size
  generalize wholeA n0 s0 x0 = WA at *
  generalize textA n0 s0 x0 = TA at *
  generalize rtN n0 s0 x0 = RA at *
  obtain ⟨ws, wb⟩ := WA
  dsimp only at k1 k2
  clear hT w0 r0
  obtain ⟨b0, b1, b2⟩ := id hB0
  go_enter Tryd.func5, Tryd.ntmps5
  go_wp2_with fail
  refine (k1 _).mono ?_
  rintro e z1 ⟨rfl, c1⟩
  have d1 := hb0.trans (c1.mono hb0.size)
  have hN1 := hB0.kept c1 (alloc_lt _ _)
  have hs1 : w.heap.size < z1.heap.size := Nat.lt_of_lt_of_le (alloc_lt _ _) c1.size
  obtain ⟨e0, e1, e2⟩ := id hN1
  clear b0 b1 b2 c1 hb0 hB0
  go_wp2_with fail
  refine (k2 _).mono ?_
  rintro e z2 ⟨rfl, c2⟩
  have d2 := d1.trans (c2.mono d1.size)
  have hN2 := hN1.kept c2 hs1
  have hs2 : w.heap.size < z2.heap.size := Nat.lt_of_lt_of_le hs1 c2.size
  clear e0 e1 e2 c2 hN1 d1 k1 k2 hs1
  go_wp2
  go_region_held3 (fun wx => wx.cell? ⟨w.heap.size, 0, none⟩ = some (.bool n0) ∧ wx.cell? ⟨w.heap.size, 1, none⟩ = some (.string s0) ∧ wx.cell? ⟨w.heap.size, 2, none⟩ = some (.int .i64 x0)) (first | exact hN2 | exact hN3 | exact hN4 | exact hN5 | exact hN6 | exact hN7) (first
    | (go_at_call 16; refine (k3 _).mono ?_; rintro e z3 ⟨rfl, c3⟩; have d3 : Below w.heap.size w z3 := d2.drew.trans (c3.mono d2.size); have hN3 : NmAt z3 w.heap.size n0 s0 x0 := NmAt.kept (w := z2.drew) hN2 c3 hs2; have hs3 : w.heap.size < z3.heap.size := Nat.lt_of_lt_of_le hs2 c3.size)
    | (go_at_call 17; refine (k4 _).mono ?_; rintro e z4 ⟨rfl, c4⟩; have d4 : Below w.heap.size w z4 := d3.trans (c4.mono d3.size); have hN4 : NmAt z4 w.heap.size n0 s0 x0 := hN3.kept c4 hs3; have hs4 : w.heap.size < z4.heap.size := Nat.lt_of_lt_of_le hs3 c4.size)
    | (go_at_call 18; refine (k5.out _ d4).mono ?_; rintro e z5 ⟨rfl, c5⟩; have d5 : Below w.heap.size w z5 := d4.trans (c5.mono d4.size); have hN5 : NmAt z5 w.heap.size n0 s0 x0 := hN4.kept c5 hs4; have hs5 : w.heap.size < z5.heap.size := Nat.lt_of_lt_of_le hs4 c5.size)
    | (go_at_call 19; refine (k6 _).mono ?_; rintro e z6 ⟨rfl, c6⟩; have d6 : Below w.heap.size w z6 := d5.trans (c6.mono d5.size); have hN6 : NmAt z6 w.heap.size n0 s0 x0 := hN5.kept c6 hs5; have hs6 : w.heap.size < z6.heap.size := Nat.lt_of_lt_of_le hs5 c6.size)
    | (go_at_call 11; refine (kA.out _ d6).mono ?_; rintro e z7 ⟨rfl, c7⟩; have d7 : Below w.heap.size w z7 := d6.trans (c7.mono d6.size); have hN7 : NmAt z7 w.heap.size n0 s0 x0 := hN6.kept c7 hs6))
  go_wp2
  go_ret
  exact ⟨rfl, d7⟩


set_option maxRecDepth 100000 in
theorem lifted (os : Os) (started : os.Started) (H : Type) (enc : TypeId × Value → H) :
    ReturnsInHanded {} Tryd.checked os 5 .any (fun w args => (Rows.decTellsSpec.pre enc Tryd.prog Tryd.f5 Rows.decTellsRow.domain false w args ∧ laidMetH Tryd.prog Rows.decTellsRow.laid w) ∧ sizedMet enc Tryd.prog Tryd.f5 (OpenSpec.ofChange Rows.decTellsSpec) false w args)
      (Rows.decTellsSpec.post enc Tryd.prog Tryd.f5 false true false false) := by
  refine returnsInHanded_of_change_and (C := Tryd.checked) (X := fun w _ => laidMetH Tryd.prog Rows.decTellsRow.laid w) (fun _ _ _ hh h => h.of_heap hh) own started (by kernel_rfl) Tryd.func5
    (ChangeSpec.witness_shaped (enc := enc) (C := Tryd.checked) (os := os) (X := fun w _ => laidMetH Tryd.prog Rows.decTellsRow.laid w) false (World.laidAll Tryd.prog os Rows.decTellsRow.laid) #[.agg #[.bool false, .string ⟨#[]⟩, .int .i64 0]] 8 (World.laidAll_os _ _ _)
      (World.shaped_of_ZipB (by kernel_rfl) (by kernel_rfl)) (by kernel_rfl) (by kernel_rfl) (by kernel_rfl)
      (by rw [MakeChecks.laidMetH_plain _ _ _ (by kernel_rfl)]; exact laidMet_laidAll _ (by kernel_rfl) (by kernel_rfl))) ?_
  intro W base args ds gs before hval0 hW hcnd hsz0 hL _
  have hval : ∀ (j : Nat) t v, Tryd.f5.params[j]? = some t → args[j]? = some v → Value.okWide Tryd.prog W .any base t v := hval0
  have hW' := hW
  have hsz : (DataW.weightsEach Tryd.prog (Tryd.f5.params.toList ++ Rows.decTellsSpec.plain.varTypes Tryd.prog) (ds ++ gs)).all (· ≤ reachBytes) = true := hsz0
  obtain ⟨p, q, hA0, hV, rfl, hfz, hnd⟩ := hW
  have hA : DataW.TrodAll enc Tryd.prog W 0 (fun _ => true) true Tryd.f5.params.toList args.toList ds p := hA0
  rw [Tryd.params5] at hA hval hsz
  obtain ⟨v0, vs0, d0, ds0, p0, q0, hargs, rfl, rfl, h0, r0'⟩ := trodAll_cons hA
  obtain ⟨rfl, rfl, rfl⟩ := trodAll_nil r0'
  obtain rfl : args = #[v0] := by cases args; simp_all
  obtain ⟨rfl, rfl⟩ := trodVars_none hV
  obtain ⟨c0, c1, c2, y0, y1, y2, m, rfl, rfl, rfl, hy0, hy1, hy2⟩ := Joins.open_agg3 Tryd.underlying23 (by kernel_rfl) cellsN (hval 0 23 v0 rfl rfl) h0
  obtain ⟨n0, e0, rfl⟩ := DataW.trod_bool Tryd.underlying4 hy0
  obtain ⟨s0, e1, rfl, w0⟩ := DataW.trod_string Tryd.underlying9 hy1
  obtain ⟨x0, e2, rfl, r0⟩ := DataW.trod_int Tryd.underlying3 hy2
  simp only [List.cons.injEq, and_true] at e0 e1 e2
  subst e0 e1 e2
  clear hy0 hy1 hy2
  clear hA0 hval0
  refine (walk n0 s0 x0 W w0 r0 hL).mono fun e W' ⟨he, bel⟩ => ?_
  subst he
  exact ⟨_, rfl, _, _, _, [], _, [], hW', trodAll_mk1 (shut_bool Tryd.underlying4 _), (trodAll_cons_mk (Joins.shut_agg3 (y0 := (.lit (.bool n0), [])) (y1 := (.lit (.string s0.data.toList), [])) (y2 := (.lit (.int .i64 x0), [])) Tryd.underlying23 (by kernel_rfl) cellsN (shut_bool Tryd.underlying4 _) (shut_string Tryd.underlying9 w0) (shut_int Tryd.underlying3 r0)) trodAll_mk0), rfl, bel.frame _, fun h => by cases h⟩

theorem over : Rows.decTellsRow.holds Tryd.pinned (OpenSpec.ofChange Rows.decTellsSpec) :=
  OpenClaim.holds_of_wide 5 Tryd.f5 rfl rfl rfl rfl rfl rfl rfl ⟨rfl, rfl, rfl, rfl, rfl⟩ rfl rfl rfl rfl rfl (by kernel_rfl) Tryd.func5 (by kernel_rfl)
    (of_decide_eq_true (by kernel_rfl)) (by unfold Func.isWrapper; first | (rw [if_pos (by decide +kernel)]; kernel_rfl) | (rw [if_neg (by decide +kernel)]; exact ⟨rfl, rfl⟩))
    (fun os started H enc _ => lifted os started H enc)

end Go.Proofs.YtcnfgmhcbelgoaaDoor.decTells
namespace Go.Proofs.YtcnfgmhcbelgoaaDoor
open Go

theorem decTells_holds : Rows.DecTellsCardSaid :=
  Claim7.holds_tied_plain_at .later [] [.data, .data, .data, .data, .pinned] true (true, "c9ba189e4fbfcab0d6459c5155be4fbfcc07bb386b5380dc4fdb1d4b0ec9cf06") false
    decTells.over (fun _ h => by cases h) (by kernel_rfl) (fun _ h => by cases h) decTells_row_tie rfl ⟨rfl, rfl⟩ (by kernel_rfl) rfl
    (fun f fn hf hfn => by
      obtain rfl : f = 5 := Option.some.inj ((show Tryd.prog.funcNamed Tryd.f5.name = some 5 by kernel_rfl).symm.trans hf) |>.symm
      obtain rfl : fn = Tryd.f5 := (Option.some.inj (Tryd.func5.symm.trans hfn)).symm
      exact ⟨by kernel_rfl, fun j t ht => by
        rw [Tryd.params5] at ht
        have hm : t ∈ [23] := by simpa using Array.mem_of_getElem? ht
        have hall : ([23].all fun u => !Tryd.prog.wantsStandIn u) = true := by kernel_rfl
        exact (show Tryd.prog.wantsStandIn t = false by simpa using List.all_eq_true.1 hall t hm)⟩)
    (by kernel_rfl)
#print axioms decTells_holds
end Go.Proofs.YtcnfgmhcbelgoaaDoor
