/-
  For every word and every text: what is a word of a text, and the text of a word, are the document's; the arguments stay as they were.
-/
import Derived.Test.YtfamenkefmgnoaaDoorRows
import Derived.Test.YtfamenkefmgnoaaDoorTie
import Derived.Test.YtfamenkefmgnoaaDoorCards
import Derived.Test.YtfamenkefmgnoaaDoorAlive
import Derived.Test.YtfamenkefmgnoaaDoorXword
import Derived.Test.YtfamenkefmgnoaaDoorXfrw
import Derived.WalkKit
import Derived.ProofKit
import Derived.OpenShut
import Derived.ShutString
import Derived.ChangeOld
import Derived.Below
import Derived.SizedLaws
import Derived.LaidMore
import Derived.Lay
import Derived.SevenTiedAt
import Derived.Stop.Joined
import Derived.LaidSub
import Derived.LaidLaws
import Derived.Stop.LaidErr
import Derived.Lib.LaidTab
namespace Go.Proofs.YtfamenkefmgnoaaDoor.natWords
open Go.ChangeShapes Go.WideShapes Go.ChangeAt Go.RowKit
open Go.ChangeMaps (open_string shut_string)
set_option linter.unusedVariables false

theorem own : ownKnob Tryd.prog.godebug = none := by kernel_rfl
theorem laidOut : laidOutB Tryd.prog = true := by kernel_rfl
theorem bytes_e : Tryd.prog.bytesOf 5 = 1 := by kernel_rfl

theorem star : "*" ++ "errors.errorString" = "*errors.errorString" := by decide
theorem rowErr (u : TypeId) (h : Tryd.prog.typeName? 3 u = some "*errors.errorString") : u = 118 :=
  typeName_ptr_named (nm := "errors.errorString") (by rw [star]; kernel_rfl) (by kernel_rfl) (by decide) u (by rw [star]; exact h)
theorem range_cell {w : World} (hL : laidMetH Tryd.prog Rows.natWordsRow.laid w) : ∃ p, w.cell? ⟨2, 0, none⟩ = some (.iface 118 p) := by
  have h1 := laidMetH.filter (fun x => x.1 == "strconv.ErrRange") hL
  have h2 : Rows.natWordsRow.laid.filter (fun x => x.1 == "strconv.ErrRange") = [("strconv.ErrRange", Rows.laid_strconv_ErrRange)] := by kernel_rfl
  rw [h2, MakeChecks.laidMetH_plain _ _ _ (by kernel_rfl)] at h1
  obtain ⟨a, s, hv, -⟩ := laid_sentinel (g := 2) (ti := 72) (tp := 118) (te := 120) (ts := 9) h1 (by kernel_rfl) (by kernel_rfl) Tryd.underlying72 rowErr Tryd.underlying118 Tryd.underlying120 rfl rfl Tryd.underlying9 (by kernel_rfl) (by kernel_rfl)
  have h0 := World.var?_cell (g := 2) (by kernel_rfl) hv 0
  exact ⟨_, by simpa using h0⟩
set_option maxRecDepth 100000 in
set_option maxHeartbeats 2000000 in
theorem walk (a0 : Int) (a1 : ByteArray) (w : World) (w0 : (Lit.int .u64 a0).wf = true) (w1 : a1.size ≤ maxLen) (hL : laidMetH Tryd.prog Rows.natWordsRow.laid w) :
    Calls Tryd.prog 7 #[.int .u64 a0, .string a1] w fun e w' => e = .returned (.bool true) ∧ Below w.heap.size w w' := by
  have htab : Lib.TabIs Tryd.prog w "internal/strconv.uint64pow10" .u64 Lib.pow10Tab := by
    have h1 := laidMetH.filter (fun x => x.1 == "internal/strconv.uint64pow10") hL
    have h2 : Rows.natWordsRow.laid.filter (fun x => x.1 == "internal/strconv.uint64pow10") = [("internal/strconv.uint64pow10", Lib.tabData .u64 Lib.pow10Tab)] := by kernel_rfl
    rw [h2, MakeChecks.laidMetH_plain _ _ _ (by kernel_rfl)] at h1
    exact Lib.tabIs_of_head (g := Tryd.prog.globalNamed "internal/strconv.uint64pow10" |>.getD 0) (by kernel_rfl) (by kernel_rfl) Tryd.underlying113 Tryd.underlying51 (by kernel_rfl) (by kernel_rfl) h1
  have hT : Hid (Lib.TabBelow Tryd.prog w.heap.size w "internal/strconv.uint64pow10" .u64 Lib.pow10Tab) := Lib.tabBelow_of_tabIs htab
  clear htab
  obtain ⟨pe, hv0⟩ := range_cell hL
  clear hL
  have hv : Hid (∀ w', Below w.heap.size w w' → w'.cell? ⟨2, 0, none⟩ = some (.iface 118 pe)) := fun w' h => by rw [h.cell (cell_lt hv0)]; exact hv0
  have hb : 0 ≤ a0 ∧ a0 ≤ 18446744073709551615 := by
    simp [Lit.wf, show IntKind.u64.min = 0 from by decide, show IntKind.u64.max = 18446744073709551615 from by decide] at w0
    omega
  obtain ⟨n, rfl⟩ : ∃ n : Nat, a0 = n := ⟨a0.toNat, by omega⟩
  have hn : n < 18446744073709551616 := by omega
  have hnt : n < top := by
    have h : ∀ m, 20 ≤ m → 10 ^ 20 ≤ 10 ^ m := fun m hm => Nat.pow_le_pow_right (by decide) hm
    have h7 : 10 ^ 20 ≤ top := by unfold top; exact h 800 (by decide)
    have e7 : 10 ^ 20 = 100000000000000000000 := by decide
    omega
  have eW : towA (txt n) = ((n : Int), true) := by
    unfold towA
    rw [val_txt, if_pos ⟨rt_txt hnt, hn⟩]
  have k1 := tow_any a1 w 118 pe hv0
  have k2 : Hid (∀ w, _) := fun w => xtow_any a1 w
  have k3 : Hid (∀ w', Below w.heap.size w w' → _) := fun w' h => frw_any n hn w' (hT.out w' h)
  have k4 : Hid (∀ w', Below w.heap.size w w' → _) := fun w' h => tow_any (txt n) w' 118 pe (hv.out w' h)
  have k5 : Hid (∀ w, _) := fun w => xfrw_any n hn w
  rw [eW] at k4
  dsimp only at k4
  generalize (towA a1).1 = A1 at *
  generalize (towA a1).2 = B1 at *
  generalize txt n = T1 at *
  clear w0 w1 hb hn hnt eW hT hv hv0
  go_enter Tryd.func7, Tryd.ntmps7
  go_wp2_with fail
  refine k1.mono ?_
  rintro e x1 ⟨rfl, b1⟩
  go_wp2_with fail
  refine (k2.out x1).mono ?_
  rintro e x2 ⟨rfl, hx2⟩
  obtain rfl : x1 = x2 := hx2.symm
  go_wp2_with fail
  refine (k3.out x1 b1).mono ?_
  rintro e x3 ⟨rfl, c3⟩
  have b3 : Hid (Below w.heap.size w x3) := b1.trans (c3.mono b1.size)
  clear k1 k2 b1 c3
  go_wp2_with fail
  refine (k4.out x3 b3.out).mono ?_
  rintro e x4 ⟨rfl, c4⟩
  have b4 : Hid (Below w.heap.size w x4) := b3.out.trans (c4.mono b3.out.size)
  clear k4 b3 c4
  go_wp2_with fail
  refine (k3.out x4 b4.out).mono ?_
  rintro e x5 ⟨rfl, c5⟩
  have b5 : Hid (Below w.heap.size w x5) := b4.out.trans (c5.mono b4.out.size)
  clear k3 b4 c5
  go_wp2_with fail
  refine (k5.out x5).mono ?_
  rintro e x6 ⟨rfl, c6⟩
  have b6 : Hid (Below w.heap.size w x6) := b5.out.trans (c6.mono b5.out.size)
  clear k5 b5 c6
  go_wp2_with (go_at_call 19; refine (alive_any _).mono ?_; rintro e x9 ⟨rfl, b9⟩)
  go_ret
  exact ⟨rfl, b6.out.trans (b9.mono b6.out.size)⟩

set_option maxRecDepth 100000 in
theorem lifted (os : Os) (started : os.Started) (H : Type) (enc : TypeId × Value → H) :
    ReturnsInHanded {} Tryd.checked os 7 .any (fun w args => (Rows.natWordsSpec.pre enc Tryd.prog Tryd.f7 Rows.natWordsRow.domain false w args ∧ laidMetH Tryd.prog Rows.natWordsRow.laid w) ∧ sizedMet enc Tryd.prog Tryd.f7 (OpenSpec.ofChange Rows.natWordsSpec) false w args)
      (Rows.natWordsSpec.post enc Tryd.prog Tryd.f7 false true false false) := by
  refine returnsInHanded_of_change_and (C := Tryd.checked) (X := fun w _ => laidMetH Tryd.prog Rows.natWordsRow.laid w) (fun _ _ _ hh h => h.of_heap hh) own started (by kernel_rfl) Tryd.func7
    (ChangeSpec.witness_shaped (enc := enc) (C := Tryd.checked) (os := os) (X := fun w _ => laidMetH Tryd.prog Rows.natWordsRow.laid w) false (World.laidAll Tryd.prog os Rows.natWordsRow.laid) #[.int .u64 0, .string ⟨#[]⟩] 8 (World.laidAll_os _ _ _)
      (World.shaped_of_ZipB (by kernel_rfl) (by kernel_rfl)) (by kernel_rfl) (by kernel_rfl) (by kernel_rfl)
      (by rw [MakeChecks.laidMetH_plain _ _ _ (by kernel_rfl)]; exact laidMet_laidAll _ (by kernel_rfl) (by kernel_rfl))) ?_
  intro W base args ds gs before hval0 hW hcnd hsz0 hL _
  have hval : ∀ (j : Nat) t v, Tryd.f7.params[j]? = some t → args[j]? = some v → Value.okWide Tryd.prog W .any base t v := hval0
  have hW' := hW
  have hsz : (DataW.weightsEach Tryd.prog (Tryd.f7.params.toList ++ Rows.natWordsSpec.plain.varTypes Tryd.prog) (ds ++ gs)).all (· ≤ reachBytes) = true := hsz0
  obtain ⟨p, q, hA0, hV, rfl, hfz, hnd⟩ := hW
  have hA : DataW.TrodAll enc Tryd.prog W 0 (fun _ => true) true Tryd.f7.params.toList args.toList ds p := hA0
  rw [Tryd.params7] at hA hval hsz
  obtain ⟨v0, vs0, d0, ds0, p0, q0, hargs, rfl, rfl, h0, r0'⟩ := trodAll_cons hA
  obtain ⟨v1, vs1, d1, ds1, p1, q1, rfl, rfl, rfl, h1, r1'⟩ := trodAll_cons r0'
  obtain ⟨rfl, rfl, rfl⟩ := trodAll_nil r1'
  obtain rfl : args = #[v0, v1] := by cases args; simp_all
  obtain ⟨rfl, rfl⟩ := trodVars_none hV
  obtain ⟨a0, rfl, rfl, rfl, w0⟩ := open_int Tryd.underlying51 (hval 0 51 v0 rfl rfl) h0
  obtain ⟨a1, rfl, rfl, rfl, w1⟩ := open_string Tryd.underlying9 (hval 1 9 v1 rfl rfl) h1
  clear hA0 hval0
  refine (walk a0 a1 W w0 w1 hL).mono fun e W' ⟨he, bel⟩ => ?_
  subst he
  exact ⟨_, rfl, _, _, _, [], _, [], hW', trodAll_mk1 (shut_bool Tryd.underlying4 _), (trodAll_cons_mk (shut_int Tryd.underlying51 w0) (trodAll_cons_mk (shut_string Tryd.underlying9 w1) trodAll_mk0)), rfl, bel.frame _, fun h => by cases h⟩

theorem over : Rows.natWordsRow.holds Tryd.pinned (OpenSpec.ofChange Rows.natWordsSpec) :=
  OpenClaim.holds_of_wide 7 Tryd.f7 rfl rfl rfl rfl rfl rfl rfl ⟨rfl, rfl, rfl, rfl, rfl⟩ rfl rfl rfl rfl rfl (by kernel_rfl) Tryd.func7 (by kernel_rfl)
    (of_decide_eq_true (by kernel_rfl)) (by unfold Func.isWrapper; first | (rw [if_pos (by decide +kernel)]; kernel_rfl) | (rw [if_neg (by decide +kernel)]; exact ⟨rfl, rfl⟩))
    (fun os started H enc _ => lifted os started H enc)

end Go.Proofs.YtfamenkefmgnoaaDoor.natWords
namespace Go.Proofs.YtfamenkefmgnoaaDoor
open Go

theorem natWords_holds : Rows.NatWordsCardSaid :=
  Claim7.holds_tied_plain_at .later [] [.data, .data, .data, .data, .sentinel, .sentinel, .pinned] true (true, "1ec1c03c1c774060f417e528e93b215f1f0a9326793d8ab0cb6920e9c175b7d3") true
    natWords.over (fun _ h => by cases h) (by kernel_rfl) (fun _ h => by cases h) natWords_row_tie rfl ⟨rfl, rfl⟩ (by kernel_rfl) rfl
    (fun f fn hf hfn => by
      obtain rfl : f = 7 := Option.some.inj ((show Tryd.prog.funcNamed Tryd.f7.name = some 7 by kernel_rfl).symm.trans hf) |>.symm
      obtain rfl : fn = Tryd.f7 := (Option.some.inj (Tryd.func7.symm.trans hfn)).symm
      exact ⟨by kernel_rfl, fun j t ht => by
        rw [Tryd.params7] at ht
        have hm : t ∈ [51, 9] := by simpa using Array.mem_of_getElem? ht
        have hall : ([51, 9].all fun u => !Tryd.prog.wantsStandIn u) = true := by kernel_rfl
        exact (show Tryd.prog.wantsStandIn t = false by simpa using List.all_eq_true.1 hall t hm)⟩)
    (by kernel_rfl)
#print axioms natWords_holds
end Go.Proofs.YtfamenkefmgnoaaDoor
