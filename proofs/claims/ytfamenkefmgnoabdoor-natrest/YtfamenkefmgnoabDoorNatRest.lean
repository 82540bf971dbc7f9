/-
  For every text and every divisor: a quotient times the divisor, and the rest, are the number; the arguments stay as they were.
-/
import Derived.Test.YtfamenkefmgnoabDoorRows
import Derived.Test.YtfamenkefmgnoabDoorTie
import Derived.Test.YtfamenkefmgnoabDoorCards
import Derived.Test.YtfamenkefmgnoabDoorAlive
import Derived.Test.YtfamenkefmgnoabDoorDiv
import Derived.Test.YtfamenkefmgnoabDoorAdd
import Derived.Test.YtfamenkefmgnoabDoorMul
import Derived.Test.YtfamenkefmgnoabDoorFmt
import Derived.WalkKit
import Derived.ProofKit
import Derived.OpenShut
import Derived.ShutString
import Derived.ChangeOld
import Derived.Below
import Derived.SizedLaws
import Derived.LaidMore
import Derived.Lay
import Derived.SevenTiedAt
import Derived.Stop.Joined
import Derived.LaidSub
import Derived.Lib.LaidTab
namespace Go.Proofs.YtfamenkefmgnoabDoor.natRest
open Go.ChangeShapes Go.WideShapes Go.ChangeAt Go.RowKit
open Go.ChangeMaps (open_string shut_string)
set_option linter.unusedVariables false

theorem own : ownKnob Tryd.prog.godebug = none := by kernel_rfl
theorem laidOut : laidOutB Tryd.prog = true := by kernel_rfl
theorem bytes_e : Tryd.prog.bytesOf 5 = 1 := by kernel_rfl

set_option maxRecDepth 100000 in
set_option maxHeartbeats 2000000 in
theorem walk (a0 : ByteArray) (a1 : Int) (w : World) (w0 : a0.size ≤ maxLen) (w1 : (Lit.int .i64 a1).wf = true) (hL : laidMetH Tryd.prog Rows.natRestRow.laid w) :
    Calls Tryd.prog 3 #[.string a0, .int .i64 a1] w fun e w' => e = .returned (.bool true) ∧ Below w.heap.size w w' := by
  have htab : Lib.TabIs Tryd.prog w "internal/strconv.uint64pow10" .u64 Lib.pow10Tab := by
    have h1 := laidMetH.filter (fun x => x.1 == "internal/strconv.uint64pow10") hL
    have h2 : Rows.natRestRow.laid.filter (fun x => x.1 == "internal/strconv.uint64pow10") = [("internal/strconv.uint64pow10", Lib.tabData .u64 Lib.pow10Tab)] := by kernel_rfl
    rw [h2, MakeChecks.laidMetH_plain _ _ _ (by kernel_rfl)] at h1
    exact Lib.tabIs_of_head (g := Tryd.prog.globalNamed "internal/strconv.uint64pow10" |>.getD 0) (by kernel_rfl) (by kernel_rfl) Tryd.underlying74 Tryd.underlying29 (by kernel_rfl) (by kernel_rfl) h1
  have hT : Hid (Lib.TabBelow Tryd.prog w.heap.size w "internal/strconv.uint64pow10" .u64 Lib.pow10Tab) := Lib.tabBelow_of_tabIs htab
  clear htab hL
  have hb : -9223372036854775808 ≤ a1 ∧ a1 ≤ 9223372036854775807 := by
    simp [Lit.wf, show IntKind.i64.min = -9223372036854775808 from by decide, show IntKind.i64.max = 9223372036854775807 from by decide] at w1
    omega
  have k1 := div_any a0 a1 hb w
  clear w0 w1
  by_cases hok : rt a0 = true ∧ 1 ≤ a1 ∧ a1 ≤ 1000000
  · have e : divA a0 a1 = (txt (val a0 / a1.toNat), ((val a0 % a1.toNat : Nat) : Int), 0) := by unfold divA; rw [if_pos hok]
    rw [e] at k1
    obtain ⟨ha, hd1, hd2⟩ := hok
    obtain ⟨D, rfl⟩ : ∃ D : Nat, a1 = D := ⟨a1.toNat, by omega⟩
    rw [Int.toNat_natCast] at k1
    have htop := right_lt ha
    have hdm := Nat.div_add_mod (val a0) D
    rw [Nat.mul_comm] at hdm
    have hlt : val a0 % D < D := Nat.mod_lt _ (by omega)
    have hDt : D < top := by
      have h : ∀ m, 7 ≤ m → 10 ^ 7 ≤ 10 ^ m := fun m hm => Nat.pow_le_pow_right (by decide) hm
      have h7 : 10 ^ 7 ≤ top := by unfold top; exact h 800 (by decide)
      have e7 : 10 ^ 7 = 10000000 := by decide
      omega
    have eM : mulA (txt (val a0 / D)) (txt D) = (txt (val a0 / D * D), 0) := by
      unfold mulA
      rw [if_pos ⟨rt_txt (div_lt_top htop), rt_txt hDt⟩, val_txt, val_txt]
      exact short_lt (by omega)
    have eA : addA (txt (val a0 / D * D)) (txt (val a0 % D)) = (a0, 0) := by
      unfold addA
      rw [if_pos ⟨rt_txt (by omega), rt_txt (by omega)⟩, val_txt, val_txt, hdm, short_lt htop, txt_rt ha]
    have k3 : Hid (∀ w, _) := fun w => mul_any (txt (val a0 / D)) (txt D) w
    have k5 : Hid (∀ w, _) := fun w => add_any (txt (val a0 / D * D)) (txt (val a0 % D)) w
    have k2 : Hid (∀ w', Below w.heap.size w w' → _) := fun w' h => frw_any D (by omega) w' (hT.out w' h)
    have k4 : Hid (∀ w', Below w.heap.size w w' → _) := fun w' h => frw_any (val a0 % D) (by omega) w' (hT.out w' h)
    rw [eM] at k3
    rw [eA] at k5
    dsimp only at k1 k3 k5
    generalize txt (val a0 / D * D) = P1 at *
    generalize txt (val a0 / D) = Q1 at *
    generalize val a0 % D = r at *
    generalize txt D = T1 at *
    generalize txt r = T2 at *
    have wD : IntKind.u64.wrap (D : Int) = (D : Int) := by rw [IntKind.wrap_u64]; omega
    have wr : IntKind.u64.wrap (r : Int) = (r : Int) := by rw [IntKind.wrap_u64]; omega
    have r0 : (0 : Int) ≤ (r : Int) := by omega
    have rD : (r : Int) < (D : Int) := by omega
    clear e eM eA hdm htop hDt hT ha hb hd1 hd2
    go_enter Tryd.func3, Tryd.ntmps3
    go_wp2_with fail
    refine k1.mono ?_
    rintro e x1 ⟨rfl, b1⟩
    go_wp2_with fail
    refine (k2.out x1 b1).mono ?_
    rintro e x2 ⟨rfl, c2⟩
    have b2 : Hid (Below w.heap.size w x2) := b1.trans (c2.mono b1.size)
    clear k1 k2 b1 c2
    go_wp2_with fail
    refine (k3.out x2).mono ?_
    rintro e x3 ⟨rfl, c3⟩
    have b3 : Hid (Below w.heap.size w x3) := b2.out.trans (c3.mono b2.out.size)
    clear k3 b2 c3
    go_wp2_with fail
    refine (k4.out x3 b3.out).mono ?_
    rintro e x4 ⟨rfl, c4⟩
    have b4 : Hid (Below w.heap.size w x4) := b3.out.trans (c4.mono b3.out.size)
    clear k4 b3 c4
    go_wp2_with fail
    refine (k5.out x4).mono ?_
    rintro e x5 ⟨rfl, c5⟩
    have b5 : Hid (Below w.heap.size w x5) := b4.out.trans (c5.mono b4.out.size)
    clear k5 b4 c5
    go_wp2_with (go_at_call 6; refine (alive_any _).mono ?_; rintro e x9 ⟨rfl, b9⟩)
    go_ret
    exact ⟨rfl, b5.out.trans (b9.mono b5.out.size)⟩
  · have e : divA a0 a1 = (noS, 0, 1) := by unfold divA; rw [if_neg hok]
    rw [e] at k1
    clear e hok hb hT
    go_enter Tryd.func3, Tryd.ntmps3
    go_wp2_with fail
    refine k1.mono ?_
    rintro e x1 ⟨rfl, b1⟩
    go_wp2_with (go_at_call 6; refine (alive_any _).mono ?_; rintro e x9 ⟨rfl, b9⟩)
    go_ret
    exact ⟨rfl, b1.trans (b9.mono b1.size)⟩

set_option maxRecDepth 100000 in
theorem lifted (os : Os) (started : os.Started) (H : Type) (enc : TypeId × Value → H) :
    ReturnsInHanded {} Tryd.checked os 3 .any (fun w args => (Rows.natRestSpec.pre enc Tryd.prog Tryd.f3 Rows.natRestRow.domain false w args ∧ laidMetH Tryd.prog Rows.natRestRow.laid w) ∧ sizedMet enc Tryd.prog Tryd.f3 (OpenSpec.ofChange Rows.natRestSpec) false w args)
      (Rows.natRestSpec.post enc Tryd.prog Tryd.f3 false true false false) := by
  refine returnsInHanded_of_change_and (C := Tryd.checked) (X := fun w _ => laidMetH Tryd.prog Rows.natRestRow.laid w) (fun _ _ _ hh h => h.of_heap hh) own started (by kernel_rfl) Tryd.func3
    (ChangeSpec.witness_shaped (enc := enc) (C := Tryd.checked) (os := os) (X := fun w _ => laidMetH Tryd.prog Rows.natRestRow.laid w) false (World.laidAll Tryd.prog os Rows.natRestRow.laid) #[.string ⟨#[]⟩, .int .i64 0] 8 (World.laidAll_os _ _ _)
      (World.shaped_of_ZipB (by kernel_rfl) (by kernel_rfl)) (by kernel_rfl) (by kernel_rfl) (by kernel_rfl)
      (by rw [MakeChecks.laidMetH_plain _ _ _ (by kernel_rfl)]; exact laidMet_laidAll _ (by kernel_rfl) (by kernel_rfl))) ?_
  intro W base args ds gs before hval0 hW hcnd hsz0 hL _
  have hval : ∀ (j : Nat) t v, Tryd.f3.params[j]? = some t → args[j]? = some v → Value.okWide Tryd.prog W .any base t v := hval0
  have hW' := hW
  have hsz : (DataW.weightsEach Tryd.prog (Tryd.f3.params.toList ++ Rows.natRestSpec.plain.varTypes Tryd.prog) (ds ++ gs)).all (· ≤ reachBytes) = true := hsz0
  obtain ⟨p, q, hA0, hV, rfl, hfz, hnd⟩ := hW
  have hA : DataW.TrodAll enc Tryd.prog W 0 (fun _ => true) true Tryd.f3.params.toList args.toList ds p := hA0
  rw [Tryd.params3] at hA hval hsz
  obtain ⟨v0, vs0, d0, ds0, p0, q0, hargs, rfl, rfl, h0, r0'⟩ := trodAll_cons hA
  obtain ⟨v1, vs1, d1, ds1, p1, q1, rfl, rfl, rfl, h1, r1'⟩ := trodAll_cons r0'
  obtain ⟨rfl, rfl, rfl⟩ := trodAll_nil r1'
  obtain rfl : args = #[v0, v1] := by cases args; simp_all
  obtain ⟨rfl, rfl⟩ := trodVars_none hV
  obtain ⟨a0, rfl, rfl, rfl, w0⟩ := open_string Tryd.underlying9 (hval 0 9 v0 rfl rfl) h0
  obtain ⟨a1, rfl, rfl, rfl, w1⟩ := open_int Tryd.underlying3 (hval 1 3 v1 rfl rfl) h1
  clear hA0 hval0
  refine (walk a0 a1 W w0 w1 hL).mono fun e W' ⟨he, bel⟩ => ?_
  subst he
  exact ⟨_, rfl, _, _, _, [], _, [], hW', trodAll_mk1 (shut_bool Tryd.underlying4 _), (trodAll_cons_mk (shut_string Tryd.underlying9 w0) (trodAll_cons_mk (shut_int Tryd.underlying3 w1) trodAll_mk0)), rfl, bel.frame _, fun h => by cases h⟩

theorem over : Rows.natRestRow.holds Tryd.pinned (OpenSpec.ofChange Rows.natRestSpec) :=
  OpenClaim.holds_of_wide 3 Tryd.f3 rfl rfl rfl rfl rfl rfl rfl ⟨rfl, rfl, rfl, rfl, rfl⟩ rfl rfl rfl rfl rfl (by kernel_rfl) Tryd.func3 (by kernel_rfl)
    (of_decide_eq_true (by kernel_rfl)) (by unfold Func.isWrapper; first | (rw [if_pos (by decide +kernel)]; kernel_rfl) | (rw [if_neg (by decide +kernel)]; exact ⟨rfl, rfl⟩))
    (fun os started H enc _ => lifted os started H enc)

end Go.Proofs.YtfamenkefmgnoabDoor.natRest
namespace Go.Proofs.YtfamenkefmgnoabDoor
open Go

theorem natRest_holds : Rows.NatRestCardSaid :=
  Claim7.holds_tied_plain_at .later [] [.data, .data, .data, .data, .pinned] true (true, "5ffe5bfa09ea733e7ca02d3ed2c2cadea689c269636c6d308f6f9ae61076ebf4") false
    natRest.over (fun _ h => by cases h) (by kernel_rfl) (fun _ h => by cases h) natRest_row_tie rfl ⟨rfl, rfl⟩ (by kernel_rfl) rfl
    (fun f fn hf hfn => by
      obtain rfl : f = 3 := Option.some.inj ((show Tryd.prog.funcNamed Tryd.f3.name = some 3 by kernel_rfl).symm.trans hf) |>.symm
      obtain rfl : fn = Tryd.f3 := (Option.some.inj (Tryd.func3.symm.trans hfn)).symm
      exact ⟨by kernel_rfl, fun j t ht => by
        rw [Tryd.params3] at ht
        have hm : t ∈ [9, 3] := by simpa using Array.mem_of_getElem? ht
        have hall : ([9, 3].all fun u => !Tryd.prog.wantsStandIn u) = true := by kernel_rfl
        exact (show Tryd.prog.wantsStandIn t = false by simpa using List.all_eq_true.1 hall t hm)⟩)
    (by kernel_rfl)
#print axioms natRest_holds
end Go.Proofs.YtfamenkefmgnoabDoor
