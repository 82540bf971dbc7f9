/-
  For every list of bytes: sealing turns neither the bytes nor the room behind them, and writing over what was answered by sealing or opening turns neither the bytes nor what else was sealed; what is sealed is the document's, and the nine digits have their check sum.
-/
import Derived.Test.YtkjbfnfhgkdjeabRows
import Derived.Test.YtkjbfnfhgkdjeabSpare
import Derived.WalkKit
import Derived.ProofKit
import Derived.OpenShut
import Derived.ShutString
import Derived.ChangeOld
import Derived.Below
import Derived.SizedLaws
namespace Go.Proofs.Ytkjbfnfhgkdjeab.crcOwn
open Go.ChangeShapes Go.WideShapes Go.ChangeAt Go.RowKit
open Go.ChangeMaps (open_string shut_string)
set_option linter.unusedVariables false

theorem own : ownKnob Try.prog.godebug = none := by kernel_rfl
theorem laidOut : laidOutB Try.prog = true := by kernel_rfl
theorem bytes_e : Try.prog.bytesOf 5 = 1 := by kernel_rfl

theorem flip_byte (c : Int) : 0 ≤ bits .xor .u8 c 255 ∧ bits .xor .u8 c 255 < 256 := by
  have h := bits_within .xor .u8 c 255
  rw [show IntKind.u8.min = 0 from by decide, show IntKind.u8.max = 255 from by decide] at h
  omega

set_option maxHeartbeats 2000000 in
theorem walk (a0 : Option Addr) (len0 cap0 : Nat) (z0 : List Int) (w : World) (w0 : IsRow .u8 w a0 len0 cap0 z0) (r0 : cap0 ≤ 140737488351232) :
    Calls Try.prog 3 #[.slice a0 len0 cap0] w fun e w' => e = .returned (.bool true) ∧ Below w.heap.size w w' := by
  have hnil : Hid (a0 = none → cap0 = 0) := nil_cap w0
  obtain ⟨hl, hb⟩ := bytes_of_row w0
  have hc0 := (row_le w0).1
  generalize z0.take len0 = zs at *
  subst hl
  have hB : Hid (Bytes w a0 zs) := hb
  clear hb w0
  have hcv := conv_str hB.out zs.length cap0 rfl
  go_enter Try.func3, Try.ntmps3
  go_wp2_with (first
    | (at_make; refine wpList_make_block rfl _ _ rfl _ (zs.length + 8) rfl rfl (by omega) (by omega) ?_; intro w2 hk2 hb2)
    | (at_builtin; refine wpList_append_block rfl (.tmp 19) (.tmp 20) rfl w.heap.size (zs.length + 8) (List.replicate (zs.length + 8) 0) zs rfl hk2 (by simp) (by unfold maxLen; omega) a0 zs.length cap0 rfl rfl hnil.out (hB.out.kept hb2) (by omega) w hb2 (Nat.le_refl _) ?_; intro w3 hk3' hb3; clear hk2 hb2)
    | fail)
  have hk3 : Hid (Block w3 w.heap.size (zs ++ List.replicate 8 0)) := by
    rw [List.drop_replicate, Nat.add_sub_cancel_left] at hk3'
    exact hk3'
  clear hk3' hcv
  have hgl : w.heap.size < w3.heap.size := hk3.out.lt
  refine (seal_any _ _ _ _ (hk3.out.bytes hB.out.1 hB.out.2.1) (by simp) (by omega)).mono ?_
  rintro e w4 ⟨v4, rfl, ho4, hb4⟩
  obtain ⟨g4, n4, cap4, rfl, hO4, hl4, hc4, hm4⟩ := ho4.row (by rw [List.length_append]; simp [le4])
  clear ho4 hl4
  go_wp2_with fail
  go_loopw [26] (fun i wr => ∃ k : Nat, k ≤ n4 ∧ i = .int .i64 k ∧ (∃ ys, OwnR wr w3.heap.size g4 n4 cap4 ys) ∧ Below w3.heap.size w3 wr) (fun i _ => n4 - (intOf i).toNat)
  case atStart => exact ⟨0, by omega, rfl, ⟨_, hO4.out⟩, hb4⟩
  case round =>
    obtain ⟨k, hk, rfl, ⟨ys, hOr'⟩, hbr⟩ := hrel
    by_cases hlt : k < n4
    · have hcl := hOr'.cell k hlt
      have hfr : wr.frozen? ⟨g4, k, none⟩ = false := hOr'.frozen k
      have hOr : Hid (OwnR wr w3.heap.size g4 n4 cap4 ys) := hOr'
      clear hOr' hO4
      generalize ys.getD k 0 = c at hcl
      go_wp2
      go_roundw
      case rel => exact ⟨k + 1, by omega, by go_num, ⟨_, hOr.out.store k _ (flip_byte c)⟩, hbr.setCell (by exact hOr.out.2.2.2) _⟩
      case measure => simp [intOf]; omega
    · clear hOr' hO4
      obtain ⟨wA, rfl⟩ : ∃ x, x = wr := ⟨wr, rfl⟩
      have hkA : Hid (Block wA w.heap.size (zs ++ List.replicate 8 0)) := hk3.out.below hbr hgl
      have hbA : Below w.heap.size w wA := hb3.trans (hbr.mono hb3.size)
      have hgA : w.heap.size < wA.heap.size := hkA.out.lt
      clear hk3 hb3 hbr hb4
      go_wp2_with fail
      go_loop [46] (fun i => ∃ j : Nat, j ≤ 8 ∧ i = .int .i64 j) (fun i => 8 - (intOf i).toNat)
      case atStart => exact ⟨0, by omega, rfl⟩
      case round =>
        obtain ⟨j, hj, rfl⟩ := hrel
        by_cases hj8 : j < 8
        · have hcl : wA.cell? ⟨w.heap.size, zs.length + j, none⟩ = some (.int .u8 0) := by
            rw [hkA.out.cell (zs.length + j) (by rw [List.length_append, List.length_replicate]; omega), List.getD_eq_getElem?_getD, List.getElem?_append_right (by omega), Nat.add_sub_cancel_left, List.getElem?_replicate, if_pos hj8]
            rfl
          go_wp2
          go_round
          case rel => exact ⟨j + 1, by omega, by go_num⟩
          case measure => simp [intOf]; omega
        · go_wp2_with fail
          refine (seal_any _ _ _ _ (hB.out.kept hbA) hnil.out (by omega)).mono ?_
          rintro e w5 ⟨v5, rfl, ho5, hb5⟩
          obtain ⟨a5, n5, cap5, rfl, hl5, -, hc5, hm5, hB5⟩ := ho5.form
          have hL5 : n5 ≤ 140737488355328 := by have := hl5.out; rw [List.length_append] at this; simp [le4] at this; omega
          clear ho5
          go_wp2_with fail
          refine (opens _ _ _ _ _ hB5.out hl5.out hc5 hm5 hL5 (sealed_seal zs).1).mono ?_
          rintro e w6 ⟨v6, rfl, ho6, hb6⟩
          rw [(sealed_seal zs).2] at ho6
          by_cases hz : zs.length = 0
          · obtain ⟨a6, n6, cap6, rfl, hl6, -, -, -, -⟩ := ho6.form
            obtain rfl : n6 = 0 := by rw [← hl6.out]; exact hz
            have hz' : Hid (zs.length = 0) := hz
            clear ho6 hl6 hz
            go_wp2_with fail
            go_loopw [62] (fun i wr => i = .int .i64 0 ∧ Below w5.heap.size w5 wr) (fun _ _ => 0)
            case atStart => exact ⟨rfl, hb6⟩
            case round =>
              obtain ⟨rfl, hbr3⟩ := hrel
              obtain ⟨wB, rfl⟩ : ∃ x, x = wr := ⟨wr, rfl⟩
              have hbB : Below w.heap.size w wB := (hbA.trans (hb5.mono hbA.size)).trans (hbr3.mono (Nat.le_trans hbA.size hb5.size))
              have hS5 : Hid (Bytes wB a5 (zs ++ le4 (moreL 0 zs))) := hB5.out.kept hbr3
              have hcvb := conv_str (hB.out.kept hbB) zs.length cap0 rfl
              have hcvc := conv_str (Block.bytes ((hkA.out.below hb5 hgA).below hbr3 (Nat.lt_of_lt_of_le hgA hb5.size)) hB.out.1 hB.out.2.1) zs.length (zs.length + 8) rfl
              clear hbr3
              go_wp2_with fail
              refine (refSeal_any _ _ _ _ (hB.out.kept hbB) hnil.out (by omega)).mono ?_
              rintro e w8 ⟨v8, rfl, ho8, hb8⟩
              obtain ⟨a8, n8, cap8, rfl, hl8, -, -, -, hB8⟩ := ho8.form
              have hS8 : Hid (Bytes w8 a5 (zs ++ le4 (moreL 0 zs))) := hS5.out.kept hb8
              have hbC : Below w.heap.size w w8 := hbB.trans (hb8.mono hbB.size)
              clear ho8 hb8 hS5 hcvb hcvc hbB
              go_wp2_with fail
              refine (same_yes _ _ _ _ _ _ (zs ++ le4 (moreL 0 zs)) _ hl5.out hl8.out hS8.out hB8.out).mono ?_
              rintro e w9 ⟨rfl, rfl⟩
              go_wp2_with fail
              refine (alive_any _).mono ?_
              rintro e w10 ⟨rfl, hb10⟩
              go_wp2_with fail
              go_ret
              exact ⟨rfl, hbC.trans (hb10.mono hbC.size)⟩
          · obtain ⟨g6, n6, cap6, rfl, hO6, hl6, hc6, hm6⟩ := ho6.row (by omega)
            clear ho6 hl6
            go_wp2_with fail
            go_loopw [62] (fun i wr => ∃ k : Nat, k ≤ n6 ∧ i = .int .i64 k ∧ (∃ ys, OwnR wr w5.heap.size g6 n6 cap6 ys) ∧ Below w5.heap.size w5 wr) (fun i _ => n6 - (intOf i).toNat)
            case atStart => exact ⟨0, by omega, rfl, ⟨_, hO6.out⟩, hb6⟩
            case round =>
              obtain ⟨k6, hk6, rfl, ⟨ys, hOr'⟩, hbr3⟩ := hrel
              by_cases hlt6 : k6 < n6
              · have hcl := hOr'.cell k6 hlt6
                have hfr : wr.frozen? ⟨g6, k6, none⟩ = false := hOr'.frozen k6
                have hOr : Hid (OwnR wr w5.heap.size g6 n6 cap6 ys) := hOr'
                clear hOr' hO6
                generalize ys.getD k6 0 = c at hcl
                go_wp2
                go_roundw
                case rel => exact ⟨k6 + 1, by omega, by go_num, ⟨_, hOr.out.store k6 _ (flip_byte c)⟩, hbr3.setCell (by exact hOr.out.2.2.2) _⟩
                case measure => simp [intOf]; omega
              · clear hOr' hO6
                obtain ⟨wB, rfl⟩ : ∃ x, x = wr := ⟨wr, rfl⟩
                have hbB : Below w.heap.size w wB := (hbA.trans (hb5.mono hbA.size)).trans (hbr3.mono (Nat.le_trans hbA.size hb5.size))
                have hS5 : Hid (Bytes wB a5 (zs ++ le4 (moreL 0 zs))) := hB5.out.kept hbr3
                have hcvb := conv_str (hB.out.kept hbB) zs.length cap0 rfl
                have hcvc := conv_str (Block.bytes ((hkA.out.below hb5 hgA).below hbr3 (Nat.lt_of_lt_of_le hgA hb5.size)) hB.out.1 hB.out.2.1) zs.length (zs.length + 8) rfl
                clear hbr3
                go_wp2_with fail
                refine (refSeal_any _ _ _ _ (hB.out.kept hbB) hnil.out (by omega)).mono ?_
                rintro e w8 ⟨v8, rfl, ho8, hb8⟩
                obtain ⟨a8, n8, cap8, rfl, hl8, -, -, -, hB8⟩ := ho8.form
                have hS8 : Hid (Bytes w8 a5 (zs ++ le4 (moreL 0 zs))) := hS5.out.kept hb8
                have hbC : Below w.heap.size w w8 := hbB.trans (hb8.mono hbB.size)
                clear ho8 hb8 hS5 hcvb hcvc hbB
                go_wp2_with fail
                refine (same_yes _ _ _ _ _ _ (zs ++ le4 (moreL 0 zs)) _ hl5.out hl8.out hS8.out hB8.out).mono ?_
                rintro e w9 ⟨rfl, rfl⟩
                go_wp2_with fail
                refine (alive_any _).mono ?_
                rintro e w10 ⟨rfl, hb10⟩
                go_wp2_with fail
                go_ret
                exact ⟨rfl, hbC.trans (hb10.mono hbC.size)⟩


set_option maxRecDepth 100000 in
theorem lifted (os : Os) (started : os.Started) (H : Type) (enc : TypeId × Value → H) :
    ReturnsInHanded {} Try.checked os 3 .any (Rows.crcOwnSpec.pre6 enc Try.prog Try.f3 Rows.crcOwnRow.domain false) (Rows.crcOwnSpec.post enc Try.prog Try.f3 false true false false) := by
  refine returnsInHanded_of_change_sized (C := Try.checked) own started (by kernel_rfl) Try.func3
    (ChangeSpec.witness6 (enc := enc) (C := Try.checked) false ⟨#[], #[.slice none 0 0], []⟩ 8 (by kernel_rfl) (by kernel_rfl) (by kernel_rfl) (by kernel_rfl)) ?_
  intro W base args ds gs before hval0 hW hcnd hsz0 _
  have hval : ∀ (j : Nat) t v, Try.f3.params[j]? = some t → args[j]? = some v → Value.okWide Try.prog W .any base t v := hval0
  have hW' := hW
  have hsz : (DataW.weightsEach Try.prog (Try.f3.params.toList ++ Rows.crcOwnSpec.plain.varTypes Try.prog) (ds ++ gs)).all (· ≤ reachBytes) = true := hsz0
  obtain ⟨p, q, hA0, hV, rfl, hfz, hnd⟩ := hW
  have hA : DataW.TrodAll enc Try.prog W 0 (fun _ => true) true Try.f3.params.toList args.toList ds p := hA0
  rw [Try.params3] at hA hval hsz
  obtain ⟨v0, vs0, d0, ds0, p0, q0, hargs, rfl, rfl, h0, r0'⟩ := trodAll_cons hA
  obtain ⟨rfl, rfl, rfl⟩ := trodAll_nil r0'
  obtain rfl : args = #[v0] := by cases args; simp_all
  obtain ⟨rfl, rfl⟩ := trodVars_none hV
  obtain ⟨a0, len0, cap0, rfl⟩ := okWide_slice Try.underlying22 (hval 0 22 v0 rfl rfl)
  have k0 := h0
  have lt0 : ∀ x ∈ p0, x.block < W.heap.size := by obtain ⟨m, hm⟩ := k0; exact DataW.trod_lt m _ _ _ hm
  obtain ⟨z0, w0, r0⟩ : ∃ zs, IsRow .u8 W a0 len0 cap0 zs ∧ cap0 ≤ 140737488351232 := by
    obtain ⟨fuel, hf⟩ := h0
    rcases open_ints Try.underlying22 Try.underlying5 (by kernel_rfl) hf with ⟨hcs, hx⟩ | ⟨x, l, c, zs, hcs, _, hl, hm, hz, hx, hcell, hwz⟩
    · simp [Value.cells] at hcs
      obtain ⟨rfl, rfl, rfl⟩ := hcs
      exact ⟨[], .inl ⟨rfl, rfl, rfl, rfl⟩, by omega⟩
    · simp [Value.cells] at hcs
      obtain ⟨rfl, rfl, rfl⟩ := hcs
      have hd : d0 = .slice (lits .u8 (zs.take len0)) (lits .u8 (zs.drop len0)) := (Prod.mk.inj hx).1
      have hz' : zs.length = cap0 := by simpa using hz
      have hr : cap0 ≤ 140737488351232 := by
        have := sized_slice hsz (j := 0) (t := 22) (e := 5) rfl (by rw [← hd]; rfl) Try.underlying22
        rw [bytes_e] at this
        simp only [lits, List.length_map, List.length_take, List.length_drop, reachBytes] at this
        omega
      exact ⟨zs, .inr ⟨_, rfl, hl, hm, hz', hcell, hwz⟩, hr⟩
  clear hA0 hval0
  refine (walk a0 len0 cap0 z0 W w0 r0).mono fun e W' ⟨he, bel⟩ => ?_
  subst he
  exact ⟨_, rfl, _, _, _, [], _, [], hW', trodAll_mk1 (shut_bool Try.underlying4 _), (trodAll_cons_mk (Below.trod laidOut (by kernel_rfl) (of_decide_eq_true (by kernel_rfl)) k0 bel lt0) trodAll_mk0), rfl, bel.frame _, fun h => by cases h⟩

theorem over : Rows.crcOwnRow.holds Try.pinned (OpenSpec.ofChange Rows.crcOwnSpec) :=
  OpenClaim.holds_of_wide 3 Try.f3 rfl rfl rfl rfl rfl rfl rfl ⟨rfl, rfl, rfl, rfl, rfl⟩ rfl rfl rfl rfl rfl (by kernel_rfl) Try.func3 (by kernel_rfl)
    (of_decide_eq_true (by kernel_rfl)) (by unfold Func.isWrapper; first | (rw [if_pos (by decide +kernel)]; kernel_rfl) | (rw [if_neg (by decide +kernel)]; exact ⟨rfl, rfl⟩))
    (fun os started H enc _ => lifted os started H enc)

end Go.Proofs.Ytkjbfnfhgkdjeab.crcOwn
namespace Go.Proofs.Ytkjbfnfhgkdjeab

theorem crcOwn_holds : Rows.CrcOwnSaid := crcOwn.over
#print axioms crcOwn_holds
end Go.Proofs.Ytkjbfnfhgkdjeab
