/-
  For every list of bytes, number of 64 bits and width: what is put behind the bytes, wide and short, is the document's, or refused as it says; and a number is written and read; the bytes stay as they were.
-/
import Derived.Test.YtkmbphgcnppohaaRows
import Derived.Test.YtkmbphgcnppohaaRefPut
import Derived.Test.YtkmbphgcnppohaaAlive
import Derived.WalkKit
import Derived.ProofKit
import Derived.OpenShut
import Derived.ShutString
import Derived.ChangeOld
import Derived.Below
import Derived.SizedLaws
namespace Go.Proofs.Ytkmbphgcnppohaa.curWrites
open Go.ChangeShapes Go.WideShapes Go.ChangeAt Go.RowKit
open Go.ChangeMaps (open_string shut_string)
set_option linter.unusedVariables false

theorem own : ownKnob Try.prog.godebug = none := by kernel_rfl
theorem laidOut : laidOutB Try.prog = true := by kernel_rfl
theorem bytes_e : Try.prog.bytesOf 5 = 1 := by kernel_rfl

set_option maxHeartbeats 2000000 in
theorem walk (a0 : Option Addr) (len0 cap0 : Nat) (z0 : List Int) (a1 : Int) (a2 : Int) (w : World) (w0 : IsRow .u8 w a0 len0 cap0 z0) (r0 : cap0 ≤ 140737488351232) (w1 : (Lit.int .u64 a1).wf = true) (w2 : (Lit.int .i64 a2).wf = true) :
    Calls Try.prog 3 #[.slice a0 len0 cap0, .int .u64 a1, .int .i64 a2] w fun e w' => e = .returned (.bool true) ∧ Below w.heap.size w w' := by
  obtain ⟨m, rfl, hm⟩ := u64_of w1
  have hk := i64_of w2
  have hnil : Hid (a0 = none → cap0 = 0) := nil_cap w0
  obtain ⟨hl, hb⟩ := bytes_of_row w0
  have hlc := (row_le w0).1
  generalize z0.take len0 = zs at *
  have hB : Hid (Bytes w a0 zs) := hb
  have hL : Hid (zs.length = len0) := hl
  clear hb w0 w1 w2 hl
  have hSL := shortL_length m
  have hcg := cg_le m hm
  by_cases hk0 : a2 = 1 ∨ a2 = 2 ∨ a2 = 4 ∨ a2 = 8
  · obtain ⟨k, rfl⟩ : ∃ k : Nat, a2 = (k : Int) := ⟨a2.toNat, by omega⟩
    have hkk : k = 1 ∨ k = 2 ∨ k = 4 ∨ k = 8 := by omega
    clear hk0
    by_cases hbig : m < 256 ^ k
    · have hkk' : Hid (k = 1 ∨ k = 2 ∨ k = 4 ∨ k = 8) := hkk
      have hbig' : Hid (m < 256 ^ k) := hbig
      clear hkk hbig
      go_enter Try.func3, Try.ntmps3
      go_wp2_with fail
      refine (putWide_ok a0 len0 cap0 m k zs w hkk'.out hbig'.out hm hL.out hB.out hnil.out (by omega)).mono ?_
      rintro e w1 ⟨v1, rfl, ho1, hb1⟩
      obtain ⟨a1, n1, cap1, rfl, hl1, -, hc1, hm1, hB1⟩ := ho1.form
      clear ho1
      go_wp2_with fail
      refine (refPutWide_ok a0 len0 cap0 m k zs w1 hkk'.out hbig'.out hm hL.out (hB.out.kept hb1) hnil.out (by omega)).mono ?_
      rintro e w2 ⟨v2, rfl, ho2, hb2⟩
      obtain ⟨a2, n2, cap2, rfl, hl2, -, hc2, hm2, hB2⟩ := ho2.form
      have hB1' : Hid (Bytes w2 a1 (zs ++ wl m k)) := hB1.out.kept hb2
      have bl2 : Below w.heap.size w w2 := trans_kept hb1 hb2
      clear ho2 hb1 hb2 hB1
      go_wp2_with fail
      refine (same_yes _ _ _ _ _ _ (zs ++ wl m k) _ hl1.out hl2.out hB1'.out hB2.out).mono ?_
      rintro e w3 ⟨rfl, rfl⟩
      go_wp2_with fail
      refine (putShort_any a0 len0 cap0 m zs w3 hm hL.out (hB.out.kept bl2) hnil.out (by omega)).mono ?_
      rintro e w5 ⟨v5, rfl, ho5, hb5⟩
      obtain ⟨a5, n5, cap5, rfl, hl5, -, hc5, hm5, hB5⟩ := ho5.form
      have bl5 : Below w.heap.size w w5 := bl2.trans (hb5.mono bl2.size)
      clear ho5 hb5
      go_wp2_with fail
      refine (refPutShort_any a0 len0 cap0 m zs w5 hm hL.out (hB.out.kept bl5) hnil.out (by omega)).mono ?_
      rintro e w6 ⟨v6, rfl, ho6, hb6⟩
      obtain ⟨a6, n6, cap6, rfl, hl6, -, hc6, hm6, hB6⟩ := ho6.form
      have hB5' : Hid (Bytes w6 a5 (zs ++ shortL m)) := hB5.out.kept hb6
      have bl6 : Below w.heap.size w w6 := bl5.trans (hb6.mono bl5.size)
      clear ho6 hb6 hB5
      go_wp2_with fail
      refine (same_yes _ _ _ _ _ _ (zs ++ shortL m) _ hl5.out hl6.out hB5'.out hB6.out).mono ?_
      rintro e w7 ⟨rfl, rfl⟩
      go_wp2_with fail
      refine (alive_any _).mono ?_
      rintro e w8 ⟨rfl, hb8⟩
      go_wp2_with fail
      go_ret
      exact ⟨rfl, bl6.trans (hb8.mono bl6.size)⟩
    · have hbig' : Hid (256 ^ k ≤ m) := Nat.le_of_not_lt hbig
      clear hbig
      have hkk' : Hid (k = 1 ∨ k = 2 ∨ k = 4 ∨ k = 8) := hkk
      clear hkk
      go_enter Try.func3, Try.ntmps3
      go_wp2_with fail
      refine (putWide_big a0 len0 cap0 m k w hkk'.out hbig'.out hm).mono ?_
      rintro e w1 ⟨rfl, rfl⟩
      go_wp2_with fail
      refine (refPutWide_big a0 len0 cap0 m k _ hkk'.out hbig'.out hm).mono ?_
      rintro e w2 ⟨rfl, rfl⟩
      go_wp2_with fail
      refine (same_yes none none 0 0 0 0 [] _ rfl rfl (no_bytes _ _) (no_bytes _ _)).mono ?_
      rintro e w3 ⟨rfl, rfl⟩
      have bl0 : Below w3.heap.size w3 w3 := Below.refl _ _
      go_wp2_with fail
      refine (putShort_any a0 len0 cap0 m zs w3 hm hL.out (hB.out.kept bl0) hnil.out (by omega)).mono ?_
      rintro e w5 ⟨v5, rfl, ho5, hb5⟩
      obtain ⟨a5, n5, cap5, rfl, hl5, -, hc5, hm5, hB5⟩ := ho5.form
      have bl5 : Below w3.heap.size w3 w5 := bl0.trans (hb5.mono bl0.size)
      clear ho5 hb5
      go_wp2_with fail
      refine (refPutShort_any a0 len0 cap0 m zs w5 hm hL.out (hB.out.kept bl5) hnil.out (by omega)).mono ?_
      rintro e w6 ⟨v6, rfl, ho6, hb6⟩
      obtain ⟨a6, n6, cap6, rfl, hl6, -, hc6, hm6, hB6⟩ := ho6.form
      have hB5' : Hid (Bytes w6 a5 (zs ++ shortL m)) := hB5.out.kept hb6
      have bl6 : Below w3.heap.size w3 w6 := bl5.trans (hb6.mono bl5.size)
      clear ho6 hb6 hB5
      go_wp2_with fail
      refine (same_yes _ _ _ _ _ _ (zs ++ shortL m) _ hl5.out hl6.out hB5'.out hB6.out).mono ?_
      rintro e w7 ⟨rfl, rfl⟩
      go_wp2_with fail
      refine (alive_any _).mono ?_
      rintro e w8 ⟨rfl, hb8⟩
      go_wp2_with fail
      go_ret
      exact ⟨rfl, bl6.trans (hb8.mono bl6.size)⟩
  · have hk1 : Hid (¬ (a2 = 1 ∨ a2 = 2 ∨ a2 = 4 ∨ a2 = 8)) := hk0
    clear hk0
    go_enter Try.func3, Try.ntmps3
    go_wp2_with fail
    refine (putWide_no a0 len0 cap0 m a2 w hk1.out).mono ?_
    rintro e w1 ⟨rfl, rfl⟩
    go_wp2_with fail
    refine (refPutWide_no a0 len0 cap0 m a2 _ hk1.out).mono ?_
    rintro e w2 ⟨rfl, rfl⟩
    go_wp2_with fail
    refine (same_yes none none 0 0 0 0 [] _ rfl rfl (no_bytes _ _) (no_bytes _ _)).mono ?_
    rintro e w3 ⟨rfl, rfl⟩
    have bl0 : Below w3.heap.size w3 w3 := Below.refl _ _
    go_wp2_with fail
    refine (putShort_any a0 len0 cap0 m zs w3 hm hL.out (hB.out.kept bl0) hnil.out (by omega)).mono ?_
    rintro e w5 ⟨v5, rfl, ho5, hb5⟩
    obtain ⟨a5, n5, cap5, rfl, hl5, -, hc5, hm5, hB5⟩ := ho5.form
    have bl5 : Below w3.heap.size w3 w5 := bl0.trans (hb5.mono bl0.size)
    clear ho5 hb5
    go_wp2_with fail
    refine (refPutShort_any a0 len0 cap0 m zs w5 hm hL.out (hB.out.kept bl5) hnil.out (by omega)).mono ?_
    rintro e w6 ⟨v6, rfl, ho6, hb6⟩
    obtain ⟨a6, n6, cap6, rfl, hl6, -, hc6, hm6, hB6⟩ := ho6.form
    have hB5' : Hid (Bytes w6 a5 (zs ++ shortL m)) := hB5.out.kept hb6
    have bl6 : Below w3.heap.size w3 w6 := bl5.trans (hb6.mono bl5.size)
    clear ho6 hb6 hB5
    go_wp2_with fail
    refine (same_yes _ _ _ _ _ _ (zs ++ shortL m) _ hl5.out hl6.out hB5'.out hB6.out).mono ?_
    rintro e w7 ⟨rfl, rfl⟩
    go_wp2_with fail
    refine (alive_any _).mono ?_
    rintro e w8 ⟨rfl, hb8⟩
    go_wp2_with fail
    go_ret
    exact ⟨rfl, bl6.trans (hb8.mono bl6.size)⟩

set_option maxRecDepth 100000 in
theorem lifted (os : Os) (started : os.Started) (H : Type) (enc : TypeId × Value → H) :
    ReturnsInHanded {} Try.checked os 3 .any (Rows.curWritesSpec.pre6 enc Try.prog Try.f3 Rows.curWritesRow.domain false) (Rows.curWritesSpec.post enc Try.prog Try.f3 false true false false) := by
  refine returnsInHanded_of_change_sized (C := Try.checked) own started (by kernel_rfl) Try.func3
    (ChangeSpec.witness6 (enc := enc) (C := Try.checked) false ⟨#[], #[.slice none 0 0, .int .u64 0, .int .i64 0], []⟩ 8 (by kernel_rfl) (by kernel_rfl) (by kernel_rfl) (by kernel_rfl)) ?_
  intro W base args ds gs before hval0 hW hcnd hsz0 _
  have hval : ∀ (j : Nat) t v, Try.f3.params[j]? = some t → args[j]? = some v → Value.okWide Try.prog W .any base t v := hval0
  have hW' := hW
  have hsz : (DataW.weightsEach Try.prog (Try.f3.params.toList ++ Rows.curWritesSpec.plain.varTypes Try.prog) (ds ++ gs)).all (· ≤ reachBytes) = true := hsz0
  obtain ⟨p, q, hA0, hV, rfl, hfz, hnd⟩ := hW
  have hA : DataW.TrodAll enc Try.prog W 0 (fun _ => true) true Try.f3.params.toList args.toList ds p := hA0
  rw [Try.params3] at hA hval hsz
  obtain ⟨v0, vs0, d0, ds0, p0, q0, hargs, rfl, rfl, h0, r0'⟩ := trodAll_cons hA
  obtain ⟨v1, vs1, d1, ds1, p1, q1, rfl, rfl, rfl, h1, r1'⟩ := trodAll_cons r0'
  obtain ⟨v2, vs2, d2, ds2, p2, q2, rfl, rfl, rfl, h2, r2'⟩ := trodAll_cons r1'
  obtain ⟨rfl, rfl, rfl⟩ := trodAll_nil r2'
  obtain rfl : args = #[v0, v1, v2] := by cases args; simp_all
  obtain ⟨rfl, rfl⟩ := trodVars_none hV
  obtain ⟨a0, len0, cap0, rfl⟩ := okWide_slice Try.underlying22 (hval 0 22 v0 rfl rfl)
  have k0 := h0
  have lt0 : ∀ x ∈ p0, x.block < W.heap.size := by obtain ⟨m, hm⟩ := k0; exact DataW.trod_lt m _ _ _ hm
  obtain ⟨z0, w0, r0⟩ : ∃ zs, IsRow .u8 W a0 len0 cap0 zs ∧ cap0 ≤ 140737488351232 := by
    obtain ⟨fuel, hf⟩ := h0
    rcases open_ints Try.underlying22 Try.underlying5 (by kernel_rfl) hf with ⟨hcs, hx⟩ | ⟨x, l, c, zs, hcs, _, hl, hm, hz, hx, hcell, hwz⟩
    · simp [Value.cells] at hcs
      obtain ⟨rfl, rfl, rfl⟩ := hcs
      exact ⟨[], .inl ⟨rfl, rfl, rfl, rfl⟩, by omega⟩
    · simp [Value.cells] at hcs
      obtain ⟨rfl, rfl, rfl⟩ := hcs
      have hd : d0 = .slice (lits .u8 (zs.take len0)) (lits .u8 (zs.drop len0)) := (Prod.mk.inj hx).1
      have hz' : zs.length = cap0 := by simpa using hz
      have hr : cap0 ≤ 140737488351232 := by
        have := sized_slice hsz (j := 0) (t := 22) (e := 5) rfl (by rw [← hd]; rfl) Try.underlying22
        rw [bytes_e] at this
        simp only [lits, List.length_map, List.length_take, List.length_drop, reachBytes] at this
        omega
      exact ⟨zs, .inr ⟨_, rfl, hl, hm, hz', hcell, hwz⟩, hr⟩
  obtain ⟨a1, rfl, rfl, rfl, w1⟩ := open_int Try.underlying23 (hval 1 23 v1 rfl rfl) h1
  obtain ⟨a2, rfl, rfl, rfl, w2⟩ := open_int Try.underlying3 (hval 2 3 v2 rfl rfl) h2
  clear hA0 hval0
  refine (walk a0 len0 cap0 z0 a1 a2 W w0 r0 w1 w2).mono fun e W' ⟨he, bel⟩ => ?_
  subst he
  exact ⟨_, rfl, _, _, _, [], _, [], hW', trodAll_mk1 (shut_bool Try.underlying4 _), (trodAll_cons_mk (Below.trod laidOut (by kernel_rfl) (of_decide_eq_true (by kernel_rfl)) k0 bel lt0) (trodAll_cons_mk (shut_int Try.underlying23 w1) (trodAll_cons_mk (shut_int Try.underlying3 w2) trodAll_mk0))), rfl, bel.frame _, fun h => by cases h⟩

theorem over : Rows.curWritesRow.holds Try.pinned (OpenSpec.ofChange Rows.curWritesSpec) :=
  OpenClaim.holds_of_wide 3 Try.f3 rfl rfl rfl rfl rfl rfl rfl ⟨rfl, rfl, rfl, rfl, rfl⟩ rfl rfl rfl rfl rfl (by kernel_rfl) Try.func3 (by kernel_rfl)
    (of_decide_eq_true (by kernel_rfl)) (by unfold Func.isWrapper; first | (rw [if_pos (by decide +kernel)]; kernel_rfl) | (rw [if_neg (by decide +kernel)]; exact ⟨rfl, rfl⟩))
    (fun os started H enc _ => lifted os started H enc)

end Go.Proofs.Ytkmbphgcnppohaa.curWrites
namespace Go.Proofs.Ytkmbphgcnppohaa

theorem curWrites_holds : Rows.CurWritesSaid := curWrites.over
#print axioms curWrites_holds
end Go.Proofs.Ytkmbphgcnppohaa
