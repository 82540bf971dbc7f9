/-
  For any two bits whose sign is not set: the greater bits are the greater number; the arguments stay as they were.
-/
import Derived.Test.YtjdceigndleadaaDoorRows
import Derived.Test.YtjdceigndleadaaDoorTie
import Derived.Test.YtjdceigndleadaaDoorCards
import Derived.Test.YtjdceigndleadaaDoorFodw
import Derived.WalkKit
import Derived.ProofKit
import Derived.OpenShut
import Derived.ShutString
import Derived.ChangeOld
import Derived.Below
import Derived.SizedLaws
import Derived.LaidMore
import Derived.Lay
import Derived.SevenTiedAt
import Derived.Stop.Joined
import Derived.LaidSub
import Derived.Lib.LaidTab
import Derived.Lib.SmallJoins
namespace Go.Proofs.YtjdceigndleadaaDoor.fltOrders
open Go.ChangeShapes Go.WideShapes Go.ChangeAt Go.RowKit
open Go.ChangeMaps (open_string shut_string)
set_option linter.unusedVariables false

theorem own : ownKnob Tryd.prog.godebug = none := by kernel_rfl
theorem laidOut : laidOutB Tryd.prog = true := by kernel_rfl
theorem bytes_e : Tryd.prog.bytesOf 5 = 1 := by kernel_rfl
theorem cellsN : Tryd.prog.cellsOf 36 = 3 := by kernel_rfl

set_option maxRecDepth 100000 in
set_option maxHeartbeats 2000000 in
theorem walk (a0 : Int) (a1 : Int) (w : World) (w0 : (Lit.int .u64 a0).wf = true) (w1 : (Lit.int .u64 a1).wf = true) (hL : laidMetH Tryd.prog Rows.fltOrdersRow.laid w) :
    Calls Tryd.prog 6 #[.int .u64 a0, .int .u64 a1] w fun e w' => e = .returned (.bool true) ∧ Below w.heap.size w w' := by
  have htab : Lib.TabIs Tryd.prog w "internal/strconv.uint64pow10" .u64 Lib.pow10Tab := by
    have h1 := laidMetH.filter (fun x => x.1 == "internal/strconv.uint64pow10") hL
    have h2 : Rows.fltOrdersRow.laid.filter (fun x => x.1 == "internal/strconv.uint64pow10") = [("internal/strconv.uint64pow10", Lib.tabData .u64 Lib.pow10Tab)] := by kernel_rfl
    rw [h2, MakeChecks.laidMetH_plain _ _ _ (by kernel_rfl)] at h1
    exact Lib.tabIs_of_head (g := Tryd.prog.globalNamed "internal/strconv.uint64pow10" |>.getD 0) (by kernel_rfl) (by kernel_rfl) Tryd.underlying124 Tryd.underlying22 (by kernel_rfl) (by kernel_rfl) h1
  have hT : Hid (Tab w.heap.size w) := Lib.tabBelow_of_tabIs htab
  clear htab hL
  have kA : Hid (∀ wx, Below w.heap.size w wx → Calls Tryd.prog 10 #[] wx fun e w' => e = .returned (.bool true) ∧ Below wx.heap.size wx w') := fun wx h => alive_any w.heap.size wx (hT.out.on h) h.size
  have b0 := bounds_u64 w0
  have b1 := bounds_u64 w1
  have hx : bits .and .u64 a0 9223372036854775807 = a0 % 9223372036854775808 := and_low 63 (by decide) _ (by omega) (by omega)
  have hy : bits .and .u64 a1 9223372036854775807 = a1 % 9223372036854775808 := and_low 63 (by decide) _ (by omega) (by omega)
  have hc : 0 ≤ a0 % 9223372036854775808 ∧ a0 % 9223372036854775808 < 9223372036854775808 := by omega
  have hd : 0 ≤ a1 % 9223372036854775808 ∧ a1 % 9223372036854775808 < 9223372036854775808 := by omega
  generalize a0 % 9223372036854775808 = c at *
  generalize a1 % 9223372036854775808 = d at *
  have k1 := fun wx (h : Below w.heap.size w wx) => exact_any c (by omega) w.heap.size wx (hT.out.on h) h.size
  have k2 := fun wx (h : Below w.heap.size w wx) => exact_any d (by omega) w.heap.size wx (hT.out.on h) h.size
  have kf := finite_any c (by omega)
  have kg := finite_any d (by omega)
  unfold exactA at k1 k2
  rw [show decide (9223372036854775808 ≤ c) = false from by simp; omega] at k1
  rw [show decide (9223372036854775808 ≤ d) = false from by simp; omega] at k2
  have hX : 0 ≤ c / 4503599627370496 % 2048 ∧ c / 4503599627370496 % 2048 < 2048 := by omega
  have hG : 0 ≤ c % 4503599627370496 ∧ c % 4503599627370496 < 4503599627370496 := by omega
  have hY : 0 ≤ d / 4503599627370496 % 2048 ∧ d / 4503599627370496 % 2048 < 2048 := by omega
  have hH : 0 ≤ d % 4503599627370496 ∧ d % 4503599627370496 < 4503599627370496 := by omega
  have ec : c = c / 4503599627370496 % 2048 * 4503599627370496 + c % 4503599627370496 := by omega
  have ed : d = d / 4503599627370496 % 2048 * 4503599627370496 + d % 4503599627370496 := by omega
  generalize c / 4503599627370496 % 2048 = X at *
  generalize c % 4503599627370496 = G at *
  generalize d / 4503599627370496 % 2048 = Y at *
  generalize d % 4503599627370496 = H at *
  by_cases h1 : X = 2047
  · rw [show exA false X G = (noN, 12) from by unfold exA; rw [if_pos h1]] at k1
    rw [show decide (X ≠ 2047) = false from by simpa using h1] at kf
    exact od_one a0 a1 c d _ _ _ _ _ _ _ w hx hy k1 k2 kf kA
  · rw [show decide (X ≠ 2047) = true from by simpa using h1] at kf
    by_cases h2 : Y = 2047
    · obtain ⟨U, Z, e1, -, -⟩ := ex_key (X := X) (G := G) (by omega) hG
      rw [e1] at k1
      rw [show exA false Y H = (noN, 12) from by unfold exA; rw [if_pos h2]] at k2
      rw [show decide (Y ≠ 2047) = false from by simpa using h2] at kg
      exact od_two a0 a1 c d _ _ _ _ _ _ w hx hy k1 k2 kf kg kA
    · obtain ⟨U, Z, V, T, e1, e2, e3⟩ := ex_order (X := X) (G := G) (Y := Y) (H := H) (by omega) hG (by omega) hH
      rw [e1] at k1
      rw [e2] at k2
      have kO := yorder_any false U Z false V T
      rw [e3, ← ec, ← ed] at kO
      refine od_both a0 a1 c d _ _ _ _ _ _ w hx hy k1 k2 (cmpI c d) kO (decide (c < d)) (c == d) ?_ rfl ?_ rfl kA
      · rw [decide_eq_decide]
        unfold cmpI
        by_cases h : c < d
        · rw [if_pos h]; exact ⟨fun _ => h, fun _ => by decide⟩
        · rw [if_neg h]
          by_cases h3 : d < c
          · rw [if_pos h3]; exact ⟨fun h4 => absurd h4 (by decide), fun h4 => absurd h4 h⟩
          · rw [if_neg h3]; exact ⟨fun h4 => absurd h4 (by decide), fun h4 => absurd h4 h⟩
      · rw [Bool.eq_iff_iff, beq_iff_eq, beq_iff_eq]
        exact cmpI_zero


set_option maxRecDepth 100000 in
theorem lifted (os : Os) (started : os.Started) (H : Type) (enc : TypeId × Value → H) :
    ReturnsInHanded {} Tryd.checked os 6 .any (fun w args => (Rows.fltOrdersSpec.pre enc Tryd.prog Tryd.f6 Rows.fltOrdersRow.domain false w args ∧ laidMetH Tryd.prog Rows.fltOrdersRow.laid w) ∧ sizedMet enc Tryd.prog Tryd.f6 (OpenSpec.ofChange Rows.fltOrdersSpec) false w args)
      (Rows.fltOrdersSpec.post enc Tryd.prog Tryd.f6 false true false false) := by
  refine returnsInHanded_of_change_and (C := Tryd.checked) (X := fun w _ => laidMetH Tryd.prog Rows.fltOrdersRow.laid w) (fun _ _ _ hh h => h.of_heap hh) own started (by kernel_rfl) Tryd.func6
    (ChangeSpec.witness_shaped (enc := enc) (C := Tryd.checked) (os := os) (X := fun w _ => laidMetH Tryd.prog Rows.fltOrdersRow.laid w) false (World.laidAll Tryd.prog os Rows.fltOrdersRow.laid) #[.int .u64 0, .int .u64 0] 8 (World.laidAll_os _ _ _)
      (World.shaped_of_ZipB (by kernel_rfl) (by kernel_rfl)) (by kernel_rfl) (by kernel_rfl) (by kernel_rfl)
      (by rw [MakeChecks.laidMetH_plain _ _ _ (by kernel_rfl)]; exact laidMet_laidAll _ (by kernel_rfl) (by kernel_rfl))) ?_
  intro W base args ds gs before hval0 hW hcnd hsz0 hL _
  have hval : ∀ (j : Nat) t v, Tryd.f6.params[j]? = some t → args[j]? = some v → Value.okWide Tryd.prog W .any base t v := hval0
  have hW' := hW
  have hsz : (DataW.weightsEach Tryd.prog (Tryd.f6.params.toList ++ Rows.fltOrdersSpec.plain.varTypes Tryd.prog) (ds ++ gs)).all (· ≤ reachBytes) = true := hsz0
  obtain ⟨p, q, hA0, hV, rfl, hfz, hnd⟩ := hW
  have hA : DataW.TrodAll enc Tryd.prog W 0 (fun _ => true) true Tryd.f6.params.toList args.toList ds p := hA0
  rw [Tryd.params6] at hA hval hsz
  obtain ⟨v0, vs0, d0, ds0, p0, q0, hargs, rfl, rfl, h0, r0'⟩ := trodAll_cons hA
  obtain ⟨v1, vs1, d1, ds1, p1, q1, rfl, rfl, rfl, h1, r1'⟩ := trodAll_cons r0'
  obtain ⟨rfl, rfl, rfl⟩ := trodAll_nil r1'
  obtain rfl : args = #[v0, v1] := by cases args; simp_all
  obtain ⟨rfl, rfl⟩ := trodVars_none hV
  obtain ⟨a0, rfl, rfl, rfl, w0⟩ := open_int Tryd.underlying22 (hval 0 22 v0 rfl rfl) h0
  obtain ⟨a1, rfl, rfl, rfl, w1⟩ := open_int Tryd.underlying22 (hval 1 22 v1 rfl rfl) h1
  clear hA0 hval0
  refine (walk a0 a1 W w0 w1 hL).mono fun e W' ⟨he, bel⟩ => ?_
  subst he
  exact ⟨_, rfl, _, _, _, [], _, [], hW', trodAll_mk1 (shut_bool Tryd.underlying4 _), (trodAll_cons_mk (shut_int Tryd.underlying22 w0) (trodAll_cons_mk (shut_int Tryd.underlying22 w1) trodAll_mk0)), rfl, bel.frame _, fun h => by cases h⟩

theorem over : Rows.fltOrdersRow.holds Tryd.pinned (OpenSpec.ofChange Rows.fltOrdersSpec) :=
  OpenClaim.holds_of_wide 6 Tryd.f6 rfl rfl rfl rfl rfl rfl rfl ⟨rfl, rfl, rfl, rfl, rfl⟩ rfl rfl rfl rfl rfl (by kernel_rfl) Tryd.func6 (by kernel_rfl)
    (of_decide_eq_true (by kernel_rfl)) (by unfold Func.isWrapper; first | (rw [if_pos (by decide +kernel)]; kernel_rfl) | (rw [if_neg (by decide +kernel)]; exact ⟨rfl, rfl⟩))
    (fun os started H enc _ => lifted os started H enc)

end Go.Proofs.YtjdceigndleadaaDoor.fltOrders
namespace Go.Proofs.YtjdceigndleadaaDoor
open Go

theorem fltOrders_holds : Rows.FltOrdersCardSaid :=
  Claim7.holds_tied_plain_at .later [] [.data, .data, .data, .data, .pinned] true (true, "e0a54645fc59091a7f8b99062e912a849103fc86ac876f66c6b0c953c9d077d4") false
    fltOrders.over (fun _ h => by cases h) (by kernel_rfl) (fun _ h => by cases h) fltOrders_row_tie rfl ⟨rfl, rfl⟩ (by kernel_rfl) rfl
    (fun f fn hf hfn => by
      obtain rfl : f = 6 := Option.some.inj ((show Tryd.prog.funcNamed Tryd.f6.name = some 6 by kernel_rfl).symm.trans hf) |>.symm
      obtain rfl : fn = Tryd.f6 := (Option.some.inj (Tryd.func6.symm.trans hfn)).symm
      exact ⟨by kernel_rfl, fun j t ht => by
        rw [Tryd.params6] at ht
        have hm : t ∈ [22, 22] := by simpa using Array.mem_of_getElem? ht
        have hall : ([22, 22].all fun u => !Tryd.prog.wantsStandIn u) = true := by kernel_rfl
        exact (show Tryd.prog.wantsStandIn t = false by simpa using List.all_eq_true.1 hall t hm)⟩)
    (by kernel_rfl)
#print axioms fltOrders_holds
end Go.Proofs.YtjdceigndleadaaDoor
