/-
  For all bytes and every text: the number of the bytes and the bytes of the text are the document's, or both refuse; the arguments stay as they were.
-/
import Derived.Test.YtfamenkefmgnoaaDoorRows
import Derived.Test.YtfamenkefmgnoaaDoorTie
import Derived.Test.YtfamenkefmgnoaaDoorCards
import Derived.Test.YtfamenkefmgnoaaDoorAlive
import Derived.Test.YtfamenkefmgnoaaDoorXfrb
import Derived.Test.YtfamenkefmgnoaaDoorSame
import Derived.WalkKit
import Derived.ProofKit
import Derived.OpenShut
import Derived.ShutString
import Derived.ChangeOld
import Derived.Below
import Derived.SizedLaws
import Derived.LaidMore
import Derived.Lay
import Derived.SevenTiedAt
import Derived.Stop.Joined
namespace Go.Proofs.YtfamenkefmgnoaaDoor.natBytes
open Go.ChangeShapes Go.WideShapes Go.ChangeAt Go.RowKit
open Go.ChangeMaps (open_string shut_string)
set_option linter.unusedVariables false

theorem own : ownKnob Tryd.prog.godebug = none := by kernel_rfl
theorem laidOut : laidOutB Tryd.prog = true := by kernel_rfl
theorem bytes_e : Tryd.prog.bytesOf 5 = 1 := by kernel_rfl

set_option maxRecDepth 100000 in
set_option maxHeartbeats 2000000 in
theorem walk (a0 : Option Addr) (len0 cap0 : Nat) (z0 : List Int) (a1 : ByteArray) (w : World) (w0 : IsRow .u8 w a0 len0 cap0 z0) (r0 : cap0 ≤ 140737488351232) (w1 : a1.size ≤ maxLen) :
    Calls Tryd.prog 6 #[.slice a0 len0 cap0, .string a1] w fun e w' => e = .returned (.bool true) ∧ Below w.heap.size w w' := by
  obtain ⟨hl0, hb0⟩ := bytes_of_row w0
  have k1 := frb_any a0 len0 cap0 _ w hl0 hb0
  have k2 : Hid (∀ w', Below w.heap.size w w' → _) := fun w' h => xfrb_any a0 len0 cap0 _ w' hl0 (hb0.kept h)
  have k3 : Hid (∀ w, _) := fun w => tob_any a1 w
  have k4 : Hid (∀ w, _) := fun w => xtob_any a1 w
  clear w0 r0 w1 hl0 hb0
  generalize z0.take len0 = zs at *
  generalize (frbA zs).1 = A1 at *
  generalize (frbA zs).2 = B1 at *
  generalize (tobA a1).1 = A3 at *
  generalize (tobA a1).2 = B3 at *
  go_enter Tryd.func6, Tryd.ntmps6
  go_wp2_with fail
  refine k1.mono ?_
  rintro e x1 ⟨rfl, b1⟩
  go_wp2_with fail
  refine (k2.out x1 b1).mono ?_
  rintro e x2 ⟨rfl, c2⟩
  have b2 : Hid (Below w.heap.size w x2) := b1.trans (c2.mono b1.size)
  clear b1 c2
  go_wp2_with fail
  refine (k3.out x2).mono ?_
  rintro e x3 ⟨⟨v3, rfl, o3⟩, c3⟩
  have b3 : Hid (Below w.heap.size w x3) := b2.out.trans (c3.mono b2.out.size)
  clear b2 c3
  go_wp2_with fail
  refine (k4.out x3).mono ?_
  rintro e x4 ⟨⟨v4, rfl, o4⟩, c4⟩
  have b4 : Hid (Below w.heap.size w x4) := b3.out.trans (c4.mono b3.out.size)
  obtain ⟨ad3, n3, c3, rfl, hl3, -, -, -, hB3⟩ := (o3.below c4).form
  obtain ⟨ad4, n4, c4', rfl, hl4, -, -, -, hB4⟩ := o4.form
  have kS := same_yes ad3 ad4 n3 n4 c3 c4' A3 x4 hl3.out hl4.out hB3.out hB4.out
  clear b3 c4 o3 o4 hB3 hB4
  go_wp2_with (first
    | (go_at_call 28; refine kS.mono ?_; rintro e x7 ⟨rfl, hx7⟩; obtain rfl : x4 = x7 := hx7.symm)
    | (go_at_call 19; refine (alive_any _).mono ?_; rintro e x9 ⟨rfl, b9⟩))
  go_ret
  exact ⟨rfl, b4.out.trans (b9.mono b4.out.size)⟩

set_option maxRecDepth 100000 in
theorem lifted (os : Os) (started : os.Started) (H : Type) (enc : TypeId × Value → H) :
    ReturnsInHanded {} Tryd.checked os 6 .any (fun w args => (Rows.natBytesSpec.pre enc Tryd.prog Tryd.f6 Rows.natBytesRow.domain false w args ∧ laidMetH Tryd.prog Rows.natBytesRow.laid w) ∧ sizedMet enc Tryd.prog Tryd.f6 (OpenSpec.ofChange Rows.natBytesSpec) false w args)
      (Rows.natBytesSpec.post enc Tryd.prog Tryd.f6 false true false false) := by
  refine returnsInHanded_of_change_and (C := Tryd.checked) (X := fun w _ => laidMetH Tryd.prog Rows.natBytesRow.laid w) (fun _ _ _ hh h => h.of_heap hh) own started (by kernel_rfl) Tryd.func6
    (ChangeSpec.witness_shaped (enc := enc) (C := Tryd.checked) (os := os) (X := fun w _ => laidMetH Tryd.prog Rows.natBytesRow.laid w) false (World.laidAll Tryd.prog os Rows.natBytesRow.laid) #[.slice none 0 0, .string ⟨#[]⟩] 8 (World.laidAll_os _ _ _)
      (World.shaped_of_ZipB (by kernel_rfl) (by kernel_rfl)) (by kernel_rfl) (by kernel_rfl) (by kernel_rfl)
      (by rw [MakeChecks.laidMetH_plain _ _ _ (by kernel_rfl)]; exact laidMet_laidAll _ (by kernel_rfl) (by kernel_rfl))) ?_
  intro W base args ds gs before hval0 hW hcnd hsz0 hL _
  have hval : ∀ (j : Nat) t v, Tryd.f6.params[j]? = some t → args[j]? = some v → Value.okWide Tryd.prog W .any base t v := hval0
  have hW' := hW
  have hsz : (DataW.weightsEach Tryd.prog (Tryd.f6.params.toList ++ Rows.natBytesSpec.plain.varTypes Tryd.prog) (ds ++ gs)).all (· ≤ reachBytes) = true := hsz0
  obtain ⟨p, q, hA0, hV, rfl, hfz, hnd⟩ := hW
  have hA : DataW.TrodAll enc Tryd.prog W 0 (fun _ => true) true Tryd.f6.params.toList args.toList ds p := hA0
  rw [Tryd.params6] at hA hval hsz
  obtain ⟨v0, vs0, d0, ds0, p0, q0, hargs, rfl, rfl, h0, r0'⟩ := trodAll_cons hA
  obtain ⟨v1, vs1, d1, ds1, p1, q1, rfl, rfl, rfl, h1, r1'⟩ := trodAll_cons r0'
  obtain ⟨rfl, rfl, rfl⟩ := trodAll_nil r1'
  obtain rfl : args = #[v0, v1] := by cases args; simp_all
  obtain ⟨rfl, rfl⟩ := trodVars_none hV
  obtain ⟨a0, len0, cap0, rfl⟩ := okWide_slice Tryd.underlying42 (hval 0 42 v0 rfl rfl)
  have k0 := h0
  have lt0 : ∀ x ∈ p0, x.block < W.heap.size := by obtain ⟨m, hm⟩ := k0; exact DataW.trod_lt m _ _ _ hm
  obtain ⟨z0, w0, r0⟩ : ∃ zs, IsRow .u8 W a0 len0 cap0 zs ∧ cap0 ≤ 140737488351232 := by
    obtain ⟨fuel, hf⟩ := h0
    rcases open_ints Tryd.underlying42 Tryd.underlying5 (by kernel_rfl) hf with ⟨hcs, hx⟩ | ⟨x, l, c, zs, hcs, _, hl, hm, hz, hx, hcell, hwz⟩
    · simp [Value.cells] at hcs
      obtain ⟨rfl, rfl, rfl⟩ := hcs
      exact ⟨[], .inl ⟨rfl, rfl, rfl, rfl⟩, by omega⟩
    · simp [Value.cells] at hcs
      obtain ⟨rfl, rfl, rfl⟩ := hcs
      have hd : d0 = .slice (lits .u8 (zs.take len0)) (lits .u8 (zs.drop len0)) := (Prod.mk.inj hx).1
      have hz' : zs.length = cap0 := by simpa using hz
      have hr : cap0 ≤ 140737488351232 := by
        have := sized_slice hsz (j := 0) (t := 42) (e := 5) rfl (by rw [← hd]; rfl) Tryd.underlying42
        rw [bytes_e] at this
        simp only [lits, List.length_map, List.length_take, List.length_drop, reachBytes] at this
        omega
      exact ⟨zs, .inr ⟨_, rfl, hl, hm, hz', hcell, hwz⟩, hr⟩
  obtain ⟨a1, rfl, rfl, rfl, w1⟩ := open_string Tryd.underlying9 (hval 1 9 v1 rfl rfl) h1
  clear hA0 hval0
  refine (walk a0 len0 cap0 z0 a1 W w0 r0 w1).mono fun e W' ⟨he, bel⟩ => ?_
  subst he
  exact ⟨_, rfl, _, _, _, [], _, [], hW', trodAll_mk1 (shut_bool Tryd.underlying4 _), (trodAll_cons_mk (Below.trod laidOut (by kernel_rfl) (of_decide_eq_true (by kernel_rfl)) k0 bel lt0) (trodAll_cons_mk (shut_string Tryd.underlying9 w1) trodAll_mk0)), rfl, bel.frame _, fun h => by cases h⟩

theorem over : Rows.natBytesRow.holds Tryd.pinned (OpenSpec.ofChange Rows.natBytesSpec) :=
  OpenClaim.holds_of_wide 6 Tryd.f6 rfl rfl rfl rfl rfl rfl rfl ⟨rfl, rfl, rfl, rfl, rfl⟩ rfl rfl rfl rfl rfl (by kernel_rfl) Tryd.func6 (by kernel_rfl)
    (of_decide_eq_true (by kernel_rfl)) (by unfold Func.isWrapper; first | (rw [if_pos (by decide +kernel)]; kernel_rfl) | (rw [if_neg (by decide +kernel)]; exact ⟨rfl, rfl⟩))
    (fun os started H enc _ => lifted os started H enc)

end Go.Proofs.YtfamenkefmgnoaaDoor.natBytes
namespace Go.Proofs.YtfamenkefmgnoaaDoor
open Go

theorem natBytes_holds : Rows.NatBytesCardSaid :=
  Claim7.holds_tied_plain_at .later [] [.data, .pinned] true (true, "1ec1c03c1c774060f417e528e93b215f1f0a9326793d8ab0cb6920e9c175b7d3") true
    natBytes.over (fun _ h => by cases h) (by kernel_rfl) (fun _ h => by cases h) natBytes_row_tie rfl ⟨rfl, rfl⟩ (by kernel_rfl) rfl
    (fun f fn hf hfn => by
      obtain rfl : f = 6 := Option.some.inj ((show Tryd.prog.funcNamed Tryd.f6.name = some 6 by kernel_rfl).symm.trans hf) |>.symm
      obtain rfl : fn = Tryd.f6 := (Option.some.inj (Tryd.func6.symm.trans hfn)).symm
      exact ⟨by kernel_rfl, fun j t ht => by
        rw [Tryd.params6] at ht
        have hm : t ∈ [42, 9] := by simpa using Array.mem_of_getElem? ht
        have hall : ([42, 9].all fun u => !Tryd.prog.wantsStandIn u) = true := by kernel_rfl
        exact (show Tryd.prog.wantsStandIn t = false by simpa using List.all_eq_true.1 hall t hm)⟩)
    (by kernel_rfl)
#print axioms natBytes_holds
end Go.Proofs.YtfamenkefmgnoaaDoor
