/-
  For all bytes and every number: the number's bytes behind them are the document's, or it is refused as the document says; and a character is read and written, and a wrong byte told; the bytes stay as they were.
-/
import Derived.Test.YtjnhobohnkhpoaaRows
import Derived.Test.YtjnhobohnkhpoaaRPut
import Derived.Test.YtjnhobohnkhpoaaAlive
import Derived.WalkKit
import Derived.ProofKit
import Derived.OpenShut
import Derived.ShutString
import Derived.ChangeOld
import Derived.Below
import Derived.SizedLaws
namespace Go.Proofs.Ytjnhobohnkhpoaa.utfPuts
open Go.ChangeShapes Go.WideShapes Go.ChangeAt Go.RowKit
open Go.ChangeMaps (open_string shut_string)
set_option linter.unusedVariables false

theorem own : ownKnob Try.prog.godebug = none := by kernel_rfl
theorem laidOut : laidOutB Try.prog = true := by kernel_rfl
theorem bytes_e : Try.prog.bytesOf 5 = 1 := by kernel_rfl

set_option maxHeartbeats 2000000 in
theorem walk (a0 : Option Addr) (len0 cap0 : Nat) (z0 : List Int) (a1 : Int) (w : World) (w0 : IsRow .u8 w a0 len0 cap0 z0) (r0 : cap0 ≤ 140737488351232) (w1 : (Lit.int .i32 a1).wf = true) :
    Calls Try.prog 4 #[.slice a0 len0 cap0, .int .i32 a1] w fun e w' => e = .returned (.bool true) ∧ Below w.heap.size w w' := by
  obtain ⟨hl, hb⟩ := bytes_of_row w0
  obtain ⟨hlc, hcm⟩ := row_le w0
  have hn := nil_cap w0
  generalize z0.take len0 = zs at *
  have hB : Hid (Bytes w a0 zs) := hb
  have hL : Hid (zs.length = len0) := hl
  have hN : Hid (a0 = none → cap0 = 0) := hn
  clear hb hl hn w0
  unfold maxLen at hcm
  have hrange : -2147483648 ≤ a1 ∧ a1 ≤ 2147483647 := by
    have := w1
    simp [Lit.wf, show IntKind.i32.min = -2147483648 from by decide, show IntKind.i32.max = 2147483647 from by decide] at this
    omega
  clear w1
  by_cases hR : RightI a1
  · obtain ⟨m, rfl, hm⟩ := right_nat hR
    clear hR hrange
    go_enter Try.func4, Try.ntmps4
    go_wp2_with fail
    refine (put_ok a0 len0 cap0 zs m w hL.out hB.out hN.out (by omega) hm).mono ?_
    rintro e u1 ⟨v1, rfl, ho1, hb1⟩
    go_wp2_with fail
    refine (xput_ok a0 len0 cap0 zs m u1 hL.out (hB.out.kept hb1) hN.out (by omega) hm).mono ?_
    rintro e u2 ⟨v2, rfl, ho2, hb2⟩
    obtain ⟨a1, n1, c1, rfl, hl1, -, -, -, hB1⟩ := (ho1.below hb2).form
    obtain ⟨a2, n2, c2, rfl, hl2, -, -, -, hB2⟩ := ho2.form
    have hb3 : Below w.heap.size w u2 := hb1.trans (hb2.mono hb1.size)
    have k3 := same_yes a1 a2 n1 n2 c1 c2 (zs ++ encL m) u2 hl1.out hl2.out hB1.out hB2.out
    clear ho1 ho2 hb1 hb2
    go_wp2_with (first
      | (go_at_call 17; refine k3.mono ?_; rintro e w' ⟨rfl, hw⟩; obtain rfl : u2 = w' := hw.symm)
      | (go_at_call 14; refine (alive_any u2).mono ?_; rintro e u9 ⟨rfl, hb9⟩))
    go_ret
    exact ⟨rfl, hb3.trans (hb9.mono hb3.size)⟩
  · have k1 := put_bad (.slice a0 len0 cap0) a1 w hR
    have k2 := xput_bad (.slice a0 len0 cap0) a1 w hR hrange
    have k3 := same_yes none none 0 0 0 0 [] w rfl rfl (bytes_nil _ _) (bytes_nil _ _)
    clear hR
    go_enter Try.func4, Try.ntmps4
    go_wp2_with (first
      | (go_at_call 15; refine k1.mono ?_; rintro e w' ⟨rfl, hw⟩; obtain rfl : w = w' := hw.symm)
      | (go_at_call 16; refine k2.mono ?_; rintro e w' ⟨rfl, hw⟩; obtain rfl : w = w' := hw.symm)
      | (go_at_call 17; refine k3.mono ?_; rintro e w' ⟨rfl, hw⟩; obtain rfl : w = w' := hw.symm)
      | (go_at_call 14; refine (alive_any w).mono ?_; rintro e u9 ⟨rfl, hb9⟩))
    go_ret
    exact ⟨rfl, hb9⟩

set_option maxRecDepth 100000 in
theorem lifted (os : Os) (started : os.Started) (H : Type) (enc : TypeId × Value → H) :
    ReturnsInHanded {} Try.checked os 4 .any (Rows.utfPutsSpec.pre6 enc Try.prog Try.f4 Rows.utfPutsRow.domain false) (Rows.utfPutsSpec.post enc Try.prog Try.f4 false true false false) := by
  refine returnsInHanded_of_change_sized (C := Try.checked) own started (by kernel_rfl) Try.func4
    (ChangeSpec.witness6 (enc := enc) (C := Try.checked) false ⟨#[], #[.slice none 0 0, .int .i32 0], []⟩ 8 (by kernel_rfl) (by kernel_rfl) (by kernel_rfl) (by kernel_rfl)) ?_
  intro W base args ds gs before hval0 hW hcnd hsz0 _
  have hval : ∀ (j : Nat) t v, Try.f4.params[j]? = some t → args[j]? = some v → Value.okWide Try.prog W .any base t v := hval0
  have hW' := hW
  have hsz : (DataW.weightsEach Try.prog (Try.f4.params.toList ++ Rows.utfPutsSpec.plain.varTypes Try.prog) (ds ++ gs)).all (· ≤ reachBytes) = true := hsz0
  obtain ⟨p, q, hA0, hV, rfl, hfz, hnd⟩ := hW
  have hA : DataW.TrodAll enc Try.prog W 0 (fun _ => true) true Try.f4.params.toList args.toList ds p := hA0
  rw [Try.params4] at hA hval hsz
  obtain ⟨v0, vs0, d0, ds0, p0, q0, hargs, rfl, rfl, h0, r0'⟩ := trodAll_cons hA
  obtain ⟨v1, vs1, d1, ds1, p1, q1, rfl, rfl, rfl, h1, r1'⟩ := trodAll_cons r0'
  obtain ⟨rfl, rfl, rfl⟩ := trodAll_nil r1'
  obtain rfl : args = #[v0, v1] := by cases args; simp_all
  obtain ⟨rfl, rfl⟩ := trodVars_none hV
  obtain ⟨a0, len0, cap0, rfl⟩ := okWide_slice Try.underlying22 (hval 0 22 v0 rfl rfl)
  have k0 := h0
  have lt0 : ∀ x ∈ p0, x.block < W.heap.size := by obtain ⟨m, hm⟩ := k0; exact DataW.trod_lt m _ _ _ hm
  obtain ⟨z0, w0, r0⟩ : ∃ zs, IsRow .u8 W a0 len0 cap0 zs ∧ cap0 ≤ 140737488351232 := by
    obtain ⟨fuel, hf⟩ := h0
    rcases open_ints Try.underlying22 Try.underlying5 (by kernel_rfl) hf with ⟨hcs, hx⟩ | ⟨x, l, c, zs, hcs, _, hl, hm, hz, hx, hcell, hwz⟩
    · simp [Value.cells] at hcs
      obtain ⟨rfl, rfl, rfl⟩ := hcs
      exact ⟨[], .inl ⟨rfl, rfl, rfl, rfl⟩, by omega⟩
    · simp [Value.cells] at hcs
      obtain ⟨rfl, rfl, rfl⟩ := hcs
      have hd : d0 = .slice (lits .u8 (zs.take len0)) (lits .u8 (zs.drop len0)) := (Prod.mk.inj hx).1
      have hz' : zs.length = cap0 := by simpa using hz
      have hr : cap0 ≤ 140737488351232 := by
        have := sized_slice hsz (j := 0) (t := 22) (e := 5) rfl (by rw [← hd]; rfl) Try.underlying22
        rw [bytes_e] at this
        simp only [lits, List.length_map, List.length_take, List.length_drop, reachBytes] at this
        omega
      exact ⟨zs, .inr ⟨_, rfl, hl, hm, hz', hcell, hwz⟩, hr⟩
  obtain ⟨a1, rfl, rfl, rfl, w1⟩ := open_int Try.underlying21 (hval 1 21 v1 rfl rfl) h1
  clear hA0 hval0
  refine (walk a0 len0 cap0 z0 a1 W w0 r0 w1).mono fun e W' ⟨he, bel⟩ => ?_
  subst he
  exact ⟨_, rfl, _, _, _, [], _, [], hW', trodAll_mk1 (shut_bool Try.underlying4 _), (trodAll_cons_mk (Below.trod laidOut (by kernel_rfl) (of_decide_eq_true (by kernel_rfl)) k0 bel lt0) (trodAll_cons_mk (shut_int Try.underlying21 w1) trodAll_mk0)), rfl, bel.frame _, fun h => by cases h⟩

theorem over : Rows.utfPutsRow.holds Try.pinned (OpenSpec.ofChange Rows.utfPutsSpec) :=
  OpenClaim.holds_of_wide 4 Try.f4 rfl rfl rfl rfl rfl rfl rfl ⟨rfl, rfl, rfl, rfl, rfl⟩ rfl rfl rfl rfl rfl (by kernel_rfl) Try.func4 (by kernel_rfl)
    (of_decide_eq_true (by kernel_rfl)) (by unfold Func.isWrapper; first | (rw [if_pos (by decide +kernel)]; kernel_rfl) | (rw [if_neg (by decide +kernel)]; exact ⟨rfl, rfl⟩))
    (fun os started H enc _ => lifted os started H enc)

end Go.Proofs.Ytjnhobohnkhpoaa.utfPuts
namespace Go.Proofs.Ytjnhobohnkhpoaa

theorem utfPuts_holds : Rows.UtfPutsSaid := utfPuts.over
#print axioms utfPuts_holds
end Go.Proofs.Ytjnhobohnkhpoaa
