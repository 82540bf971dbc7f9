/-
  For any three numbers: the order turns round and goes on, and is turned round by the sign; the arguments stay as they were.
-/
import Derived.Test.YtcnfgmhcbelgoabDoorRows
import Derived.Test.YtcnfgmhcbelgoabDoorTie
import Derived.Test.YtcnfgmhcbelgoabDoorCards
import Derived.Test.YtcnfgmhcbelgoabDoorDalive
import Derived.Test.YtcnfgmhcbelgoabDoorDord
import Derived.Test.YtcnfgmhcbelgoabDoorGoes
import Derived.Test.YtcnfgmhcbelgoabDoorGoesA
import Derived.Test.YtcnfgmhcbelgoabDoorGoesB
import Derived.Test.YtcnfgmhcbelgoabDoorGoesC
import Derived.Test.YtcnfgmhcbelgoabDoorGoesD
import Derived.Test.YtcnfgmhcbelgoabDoorGoesN
import Derived.WalkKit
import Derived.ProofKit
import Derived.OpenShut
import Derived.ShutString
import Derived.ChangeOld
import Derived.Below
import Derived.SizedLaws
import Derived.LaidMore
import Derived.Lay
import Derived.SevenTiedAt
import Derived.Stop.Joined
import Derived.LaidSub
import Derived.Lib.LaidTab
import Derived.Lib.SmallJoins
namespace Go.Proofs.YtcnfgmhcbelgoabDoor.decGoes
open Go.ChangeShapes Go.WideShapes Go.ChangeAt Go.RowKit
open Go.ChangeMaps (open_string shut_string)
set_option linter.unusedVariables false

theorem own : ownKnob Tryd.prog.godebug = none := by kernel_rfl
theorem laidOut : laidOutB Tryd.prog = true := by kernel_rfl
theorem bytes_e : Tryd.prog.bytesOf 5 = 1 := by kernel_rfl
theorem cellsN : Tryd.prog.cellsOf 23 = 3 := by kernel_rfl

theorem rtN_turn {n : Bool} {s : ByteArray} {x : Int} (h : s ≠ zS) : rtN (!n) s x = rtN n s x := by
  unfold rtN
  rw [if_neg (fun h1 => h ((z_iff s).1 h1)), if_neg (fun h1 => h ((z_iff s).1 h1))]
set_option maxRecDepth 100000 in
set_option maxHeartbeats 2000000 in
theorem walk (n0 : Bool) (s0 : ByteArray) (x0 : Int) (n1 : Bool) (s1 : ByteArray) (x1 : Int) (n2 : Bool) (s2 : ByteArray) (x2 : Int) (w : World) (w0 : s0.size ≤ maxLen) (r0 : (Lit.int .i64 x0).wf = true) (w1 : s1.size ≤ maxLen) (r1 : (Lit.int .i64 x1).wf = true) (w2 : s2.size ≤ maxLen) (r2 : (Lit.int .i64 x2).wf = true) (hL : laidMetH Tryd.prog Rows.decGoesRow.laid w) :
    Calls Tryd.prog 3 #[.agg #[.bool n0, .string s0, .int .i64 x0], .agg #[.bool n1, .string s1, .int .i64 x1], .agg #[.bool n2, .string s2, .int .i64 x2]] w fun e w' => e = .returned (.bool true) ∧ Below w.heap.size w w' := by
  have htab : Lib.TabIs Tryd.prog w "internal/strconv.uint64pow10" .u64 Lib.pow10Tab := by
    have h1 := laidMetH.filter (fun x => x.1 == "internal/strconv.uint64pow10") hL
    have h2 : Rows.decGoesRow.laid.filter (fun x => x.1 == "internal/strconv.uint64pow10") = [("internal/strconv.uint64pow10", Lib.tabData .u64 Lib.pow10Tab)] := by kernel_rfl
    rw [h2, MakeChecks.laidMetH_plain _ _ _ (by kernel_rfl)] at h1
    exact Lib.tabIs_of_head (g := Tryd.prog.globalNamed "internal/strconv.uint64pow10" |>.getD 0) (by kernel_rfl) (by kernel_rfl) Tryd.underlying80 Tryd.underlying65 (by kernel_rfl) (by kernel_rfl) h1
  have hT : Hid (Tab w.heap.size w) := Lib.tabBelow_of_tabIs htab
  clear htab hL
  have kA : ∀ wx, Below w.heap.size w wx → Calls Tryd.prog 5 #[] wx fun e w' => e = .returned (.bool true) ∧ Below wx.heap.size wx w' := fun wx h => alive_any w.heap.size wx (hT.out.on h) h.size
  clear hT w0 w1 w2 r0 r1 r2
  have o1 := order_any n0 s0 x0 n1 s1 x1
  have o2 := order_any n1 s1 x1 n2 s2 x2
  have o3 := order_any n0 s0 x0 n2 s2 x2
  have o4 := order_any n1 s1 x1 n0 s0 x0
  by_cases hab : rtN n0 s0 x0 = true ∧ rtN n1 s1 x1 = true
  · have e1 : orderA (n0, s0, x0) (n1, s1, x1) = (cmpI (skey n0 (bs s0) x0) (skey n1 (bs s1) x1), 0) := by unfold orderA; rw [if_pos hab]
    have e4 : orderA (n1, s1, x1) (n0, s0, x0) = (-cmpI (skey n0 (bs s0) x0) (skey n1 (bs s1) x1), 0) := by unfold orderA; rw [if_pos ⟨hab.2, hab.1⟩, cmpI_turn]
    have k5 : s0 ≠ zS → s1 ≠ zS → ∀ wx, Calls Tryd.prog 4 #[.agg #[.bool (!n0), .string s0, .int .i64 x0], .agg #[.bool (!n1), .string s1, .int .i64 x1]] wx fun e w' => e = .returned (.tuple #[.int .i64 (-cmpI (skey n0 (bs s0) x0) (skey n1 (bs s1) x1)), .int .i64 0]) ∧ Below wx.heap.size wx w' := fun h0 h1 wx => by
      have h := order_any (!n0) s0 x0 (!n1) s1 x1 wx
      have e5 : orderA (!n0, s0, x0) (!n1, s1, x1) = (-cmpI (skey n0 (bs s0) x0) (skey n1 (bs s1) x1), 0) := by
        unfold orderA
        have g0 : rtN (!n0) s0 x0 = true := by rw [rtN_turn h0]; exact hab.1
        have g1 : rtN (!n1) s1 x1 = true := by rw [rtN_turn h1]; exact hab.2
        rw [if_pos ⟨g0, g1⟩]
        simp only [skey_turn, cmpI_neg]
      rw [e5] at h
      exact h
    have hsm : -1 ≤ cmpI (skey n0 (bs s0) x0) (skey n1 (bs s1) x1) ∧ cmpI (skey n0 (bs s0) x0) (skey n1 (bs s1) x1) ≤ 1 := by
      unfold cmpI; split
      · omega
      · split <;> omega
    rw [e1] at o1
    rw [e4] at o4
    dsimp only at o1 o4
    have wV : IntKind.i64.wrap (-cmpI (skey n0 (bs s0) x0) (skey n1 (bs s1) x1)) = -cmpI (skey n0 (bs s0) x0) (skey n1 (bs s1) x1) := by rw [IntKind.wrap_i64] <;> omega
    by_cases hc : rtN n2 s2 x2 = true
    · have e2 : orderA (n1, s1, x1) (n2, s2, x2) = (cmpI (skey n1 (bs s1) x1) (skey n2 (bs s2) x2), 0) := by unfold orderA; rw [if_pos ⟨hab.2, hc⟩]
      have e3 : orderA (n0, s0, x0) (n2, s2, x2) = (cmpI (skey n0 (bs s0) x0) (skey n2 (bs s2) x2), 0) := by unfold orderA; rw [if_pos ⟨hab.1, hc⟩]
      rw [e2] at o2
      rw [e3] at o3
      dsimp only at o2 o3
      by_cases hx : cmpI (skey n0 (bs s0) x0) (skey n1 (bs s1) x1) ≤ 0
      · have d1 : decide (cmpI (skey n0 (bs s0) x0) (skey n1 (bs s1) x1) ≤ 0) = true := by simpa using hx
        by_cases hy : cmpI (skey n1 (bs s1) x1) (skey n2 (bs s2) x2) ≤ 0
        · have d2 : decide (cmpI (skey n1 (bs s1) x1) (skey n2 (bs s2) x2) ≤ 0) = true := by simpa using hy
          have d3 : decide (0 < cmpI (skey n0 (bs s0) x0) (skey n2 (bs s2) x2)) = false := decide_eq_false (cmpI_on hx hy)
          by_cases z0 : s0 = zS
          · have q0 : (s0.toList == [48]) = true := by rw [eq_size]; simpa using z0
            exact goes_Da n0 s0 x0 n1 s1 x1 n2 s2 x2 w _ _ _ _ 0 0 wV o1 o2 o3 o4 kA d1 d2 d3 q0
          · have q0 : (s0.toList == [48]) = false := by rw [eq_size]; simpa using z0
            by_cases z1 : s1 = zS
            · have q1 : (s1.toList == [48]) = true := by rw [eq_size]; simpa using z1
              exact goes_Db n0 s0 x0 n1 s1 x1 n2 s2 x2 w _ _ _ _ 0 0 wV o1 o2 o3 o4 kA d1 d2 d3 q0 q1
            · have q1 : (s1.toList == [48]) = false := by rw [eq_size]; simpa using z1
              exact goes_Dc n0 s0 x0 n1 s1 x1 n2 s2 x2 w _ _ _ _ 0 0 wV o1 o2 o3 o4 kA d1 d2 d3 q0 q1 (k5 z0 z1)
        · have d2 : decide (cmpI (skey n1 (bs s1) x1) (skey n2 (bs s2) x2) ≤ 0) = false := by simpa using hy
          by_cases z0 : s0 = zS
          · have q0 : (s0.toList == [48]) = true := by rw [eq_size]; simpa using z0
            exact goes_Ca n0 s0 x0 n1 s1 x1 n2 s2 x2 w _ _ _ _ 0 0 wV o1 o2 o3 o4 kA d1 d2 q0
          · have q0 : (s0.toList == [48]) = false := by rw [eq_size]; simpa using z0
            by_cases z1 : s1 = zS
            · have q1 : (s1.toList == [48]) = true := by rw [eq_size]; simpa using z1
              exact goes_Cb n0 s0 x0 n1 s1 x1 n2 s2 x2 w _ _ _ _ 0 0 wV o1 o2 o3 o4 kA d1 d2 q0 q1
            · have q1 : (s1.toList == [48]) = false := by rw [eq_size]; simpa using z1
              exact goes_Cc n0 s0 x0 n1 s1 x1 n2 s2 x2 w _ _ _ _ 0 0 wV o1 o2 o3 o4 kA d1 d2 q0 q1 (k5 z0 z1)
      · have d1 : decide (cmpI (skey n0 (bs s0) x0) (skey n1 (bs s1) x1) ≤ 0) = false := by simpa using hx
        by_cases z0 : s0 = zS
        · have q0 : (s0.toList == [48]) = true := by rw [eq_size]; simpa using z0
          exact goes_Ba n0 s0 x0 n1 s1 x1 n2 s2 x2 w _ _ _ _ 0 0 wV o1 o2 o3 o4 kA d1 q0
        · have q0 : (s0.toList == [48]) = false := by rw [eq_size]; simpa using z0
          by_cases z1 : s1 = zS
          · have q1 : (s1.toList == [48]) = true := by rw [eq_size]; simpa using z1
            exact goes_Bb n0 s0 x0 n1 s1 x1 n2 s2 x2 w _ _ _ _ 0 0 wV o1 o2 o3 o4 kA d1 q0 q1
          · have q1 : (s1.toList == [48]) = false := by rw [eq_size]; simpa using z1
            exact goes_Bc n0 s0 x0 n1 s1 x1 n2 s2 x2 w _ _ _ _ 0 0 wV o1 o2 o3 o4 kA d1 q0 q1 (k5 z0 z1)
    · have e2 : orderA (n1, s1, x1) (n2, s2, x2) = (0, 1) := by unfold orderA; rw [if_neg (fun h => hc h.2)]
      have e3 : orderA (n0, s0, x0) (n2, s2, x2) = (0, 1) := by unfold orderA; rw [if_neg (fun h => hc h.2)]
      rw [e2] at o2
      rw [e3] at o3
      dsimp only at o2 o3
      by_cases z0 : s0 = zS
      · have q0 : (s0.toList == [48]) = true := by rw [eq_size]; simpa using z0
        exact goes_Aa n0 s0 x0 n1 s1 x1 n2 s2 x2 w _ _ _ _ 1 1 wV o1 o2 o3 o4 kA (by decide) q0
      · have q0 : (s0.toList == [48]) = false := by rw [eq_size]; simpa using z0
        by_cases z1 : s1 = zS
        · have q1 : (s1.toList == [48]) = true := by rw [eq_size]; simpa using z1
          exact goes_Ab n0 s0 x0 n1 s1 x1 n2 s2 x2 w _ _ _ _ 1 1 wV o1 o2 o3 o4 kA (by decide) q0 q1
        · have q1 : (s1.toList == [48]) = false := by rw [eq_size]; simpa using z1
          exact goes_Ac n0 s0 x0 n1 s1 x1 n2 s2 x2 w _ _ _ _ 1 1 wV o1 o2 o3 o4 kA (by decide) q0 q1 (k5 z0 z1)
  · have e1 : orderA (n0, s0, x0) (n1, s1, x1) = (0, 1) := by unfold orderA; rw [if_neg hab]
    have e4 : orderA (n1, s1, x1) (n0, s0, x0) = (0, 1) := by unfold orderA; rw [if_neg (fun h => hab ⟨h.2, h.1⟩)]
    rw [e1] at o1
    rw [e4] at o4
    exact goes_N n0 s0 x0 n1 s1 x1 n2 s2 x2 w _ _ _ _ o1 o2 o3 o4 kA


set_option maxRecDepth 100000 in
theorem lifted (os : Os) (started : os.Started) (H : Type) (enc : TypeId × Value → H) :
    ReturnsInHanded {} Tryd.checked os 3 .any (fun w args => (Rows.decGoesSpec.pre enc Tryd.prog Tryd.f3 Rows.decGoesRow.domain false w args ∧ laidMetH Tryd.prog Rows.decGoesRow.laid w) ∧ sizedMet enc Tryd.prog Tryd.f3 (OpenSpec.ofChange Rows.decGoesSpec) false w args)
      (Rows.decGoesSpec.post enc Tryd.prog Tryd.f3 false true false false) := by
  refine returnsInHanded_of_change_and (C := Tryd.checked) (X := fun w _ => laidMetH Tryd.prog Rows.decGoesRow.laid w) (fun _ _ _ hh h => h.of_heap hh) own started (by kernel_rfl) Tryd.func3
    (ChangeSpec.witness_shaped (enc := enc) (C := Tryd.checked) (os := os) (X := fun w _ => laidMetH Tryd.prog Rows.decGoesRow.laid w) false (World.laidAll Tryd.prog os Rows.decGoesRow.laid) #[.agg #[.bool false, .string ⟨#[]⟩, .int .i64 0], .agg #[.bool false, .string ⟨#[]⟩, .int .i64 0], .agg #[.bool false, .string ⟨#[]⟩, .int .i64 0]] 8 (World.laidAll_os _ _ _)
      (World.shaped_of_ZipB (by kernel_rfl) (by kernel_rfl)) (by kernel_rfl) (by kernel_rfl) (by kernel_rfl)
      (by rw [MakeChecks.laidMetH_plain _ _ _ (by kernel_rfl)]; exact laidMet_laidAll _ (by kernel_rfl) (by kernel_rfl))) ?_
  intro W base args ds gs before hval0 hW hcnd hsz0 hL _
  have hval : ∀ (j : Nat) t v, Tryd.f3.params[j]? = some t → args[j]? = some v → Value.okWide Tryd.prog W .any base t v := hval0
  have hW' := hW
  have hsz : (DataW.weightsEach Tryd.prog (Tryd.f3.params.toList ++ Rows.decGoesSpec.plain.varTypes Tryd.prog) (ds ++ gs)).all (· ≤ reachBytes) = true := hsz0
  obtain ⟨p, q, hA0, hV, rfl, hfz, hnd⟩ := hW
  have hA : DataW.TrodAll enc Tryd.prog W 0 (fun _ => true) true Tryd.f3.params.toList args.toList ds p := hA0
  rw [Tryd.params3] at hA hval hsz
  obtain ⟨v0, vs0, d0, ds0, p0, q0, hargs, rfl, rfl, h0, r0'⟩ := trodAll_cons hA
  obtain ⟨v1, vs1, d1, ds1, p1, q1, rfl, rfl, rfl, h1, r1'⟩ := trodAll_cons r0'
  obtain ⟨v2, vs2, d2, ds2, p2, q2, rfl, rfl, rfl, h2, r2'⟩ := trodAll_cons r1'
  obtain ⟨rfl, rfl, rfl⟩ := trodAll_nil r2'
  obtain rfl : args = #[v0, v1, v2] := by cases args; simp_all
  obtain ⟨rfl, rfl⟩ := trodVars_none hV
  obtain ⟨c0, c1, c2, y0, y1, y2, m, rfl, rfl, rfl, hy0, hy1, hy2⟩ := Joins.open_agg3 Tryd.underlying23 (by kernel_rfl) cellsN (hval 0 23 v0 rfl rfl) h0
  obtain ⟨n0, e0, rfl⟩ := DataW.trod_bool Tryd.underlying4 hy0
  obtain ⟨s0, e1, rfl, w0⟩ := DataW.trod_string Tryd.underlying9 hy1
  obtain ⟨x0, e2, rfl, r0⟩ := DataW.trod_int Tryd.underlying3 hy2
  simp only [List.cons.injEq, and_true] at e0 e1 e2
  subst e0 e1 e2
  clear hy0 hy1 hy2
  obtain ⟨c0, c1, c2, y0, y1, y2, m, rfl, rfl, rfl, hy0, hy1, hy2⟩ := Joins.open_agg3 Tryd.underlying23 (by kernel_rfl) cellsN (hval 1 23 v1 rfl rfl) h1
  obtain ⟨n1, e0, rfl⟩ := DataW.trod_bool Tryd.underlying4 hy0
  obtain ⟨s1, e1, rfl, w1⟩ := DataW.trod_string Tryd.underlying9 hy1
  obtain ⟨x1, e2, rfl, r1⟩ := DataW.trod_int Tryd.underlying3 hy2
  simp only [List.cons.injEq, and_true] at e0 e1 e2
  subst e0 e1 e2
  clear hy0 hy1 hy2
  obtain ⟨c0, c1, c2, y0, y1, y2, m, rfl, rfl, rfl, hy0, hy1, hy2⟩ := Joins.open_agg3 Tryd.underlying23 (by kernel_rfl) cellsN (hval 2 23 v2 rfl rfl) h2
  obtain ⟨n2, e0, rfl⟩ := DataW.trod_bool Tryd.underlying4 hy0
  obtain ⟨s2, e1, rfl, w2⟩ := DataW.trod_string Tryd.underlying9 hy1
  obtain ⟨x2, e2, rfl, r2⟩ := DataW.trod_int Tryd.underlying3 hy2
  simp only [List.cons.injEq, and_true] at e0 e1 e2
  subst e0 e1 e2
  clear hy0 hy1 hy2
  clear hA0 hval0
  refine (walk n0 s0 x0 n1 s1 x1 n2 s2 x2 W w0 r0 w1 r1 w2 r2 hL).mono fun e W' ⟨he, bel⟩ => ?_
  subst he
  exact ⟨_, rfl, _, _, _, [], _, [], hW', trodAll_mk1 (shut_bool Tryd.underlying4 _), (trodAll_cons_mk (Joins.shut_agg3 (y0 := (.lit (.bool n0), [])) (y1 := (.lit (.string s0.data.toList), [])) (y2 := (.lit (.int .i64 x0), [])) Tryd.underlying23 (by kernel_rfl) cellsN (shut_bool Tryd.underlying4 _) (shut_string Tryd.underlying9 w0) (shut_int Tryd.underlying3 r0)) (trodAll_cons_mk (Joins.shut_agg3 (y0 := (.lit (.bool n1), [])) (y1 := (.lit (.string s1.data.toList), [])) (y2 := (.lit (.int .i64 x1), [])) Tryd.underlying23 (by kernel_rfl) cellsN (shut_bool Tryd.underlying4 _) (shut_string Tryd.underlying9 w1) (shut_int Tryd.underlying3 r1)) (trodAll_cons_mk (Joins.shut_agg3 (y0 := (.lit (.bool n2), [])) (y1 := (.lit (.string s2.data.toList), [])) (y2 := (.lit (.int .i64 x2), [])) Tryd.underlying23 (by kernel_rfl) cellsN (shut_bool Tryd.underlying4 _) (shut_string Tryd.underlying9 w2) (shut_int Tryd.underlying3 r2)) trodAll_mk0))), rfl, bel.frame _, fun h => by cases h⟩

theorem over : Rows.decGoesRow.holds Tryd.pinned (OpenSpec.ofChange Rows.decGoesSpec) :=
  OpenClaim.holds_of_wide 3 Tryd.f3 rfl rfl rfl rfl rfl rfl rfl ⟨rfl, rfl, rfl, rfl, rfl⟩ rfl rfl rfl rfl rfl (by kernel_rfl) Tryd.func3 (by kernel_rfl)
    (of_decide_eq_true (by kernel_rfl)) (by unfold Func.isWrapper; first | (rw [if_pos (by decide +kernel)]; kernel_rfl) | (rw [if_neg (by decide +kernel)]; exact ⟨rfl, rfl⟩))
    (fun os started H enc _ => lifted os started H enc)

end Go.Proofs.YtcnfgmhcbelgoabDoor.decGoes
namespace Go.Proofs.YtcnfgmhcbelgoabDoor
open Go

theorem decGoes_holds : Rows.DecGoesCardSaid :=
  Claim7.holds_tied_plain_at .later [] [.data, .data, .data, .data, .pinned] true (true, "cf4c92534ce33d33f2582efb3a9891ae3994f67be90285ebc169ba550abe2798") false
    decGoes.over (fun _ h => by cases h) (by kernel_rfl) (fun _ h => by cases h) decGoes_row_tie rfl ⟨rfl, rfl⟩ (by kernel_rfl) rfl
    (fun f fn hf hfn => by
      obtain rfl : f = 3 := Option.some.inj ((show Tryd.prog.funcNamed Tryd.f3.name = some 3 by kernel_rfl).symm.trans hf) |>.symm
      obtain rfl : fn = Tryd.f3 := (Option.some.inj (Tryd.func3.symm.trans hfn)).symm
      exact ⟨by kernel_rfl, fun j t ht => by
        rw [Tryd.params3] at ht
        have hm : t ∈ [23, 23, 23] := by simpa using Array.mem_of_getElem? ht
        have hall : ([23, 23, 23].all fun u => !Tryd.prog.wantsStandIn u) = true := by kernel_rfl
        exact (show Tryd.prog.wantsStandIn t = false by simpa using List.all_eq_true.1 hall t hm)⟩)
    (by kernel_rfl)
#print axioms decGoes_holds
end Go.Proofs.YtcnfgmhcbelgoabDoor
