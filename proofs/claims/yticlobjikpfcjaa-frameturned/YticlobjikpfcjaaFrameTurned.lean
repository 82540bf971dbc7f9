/-
  For every load, every place and every word: of a frame of which the four bytes from that place on are turned by a word that is not 0 the load is not found, neither fed nor flushed; and a load is framed and found; the load stays as it was.
-/
import Derived.Test.YticlobjikpfcjaaRows
import Derived.Test.YticlobjikpfcjaaTurned
import Derived.WalkKit
import Derived.ProofKit
import Derived.OpenShut
import Derived.ShutString
import Derived.ChangeOld
import Derived.Below
import Derived.SizedLaws
namespace Go.Proofs.Yticlobjikpfcjaa.frameTurned
open Go.ChangeShapes Go.WideShapes Go.ChangeAt Go.RowKit
open Go.ChangeMaps (open_string shut_string)
set_option linter.unusedVariables false

theorem own : ownKnob Try.prog.godebug = none := by kernel_rfl
theorem laidOut : laidOutB Try.prog = true := by kernel_rfl
theorem bytes_e : Try.prog.bytesOf 5 = 1 := by kernel_rfl

set_option maxHeartbeats 4000000 in
theorem walk (a0 : Option Addr) (len0 cap0 : Nat) (z0 : List Int) (a1 : Int) (a2 : Int) (w : World) (w0 : IsRow .u8 w a0 len0 cap0 z0) (r0 : cap0 ≤ 140737488351232) (w1 : (Lit.int .i64 a1).wf = true) (w2 : (Lit.int .u32 a2).wf = true) :
    Calls Try.prog 8 #[.slice a0 len0 cap0, .int .i64 a1, .int .u32 a2] w fun e w' => e = .returned (.bool true) ∧ Below w.heap.size w w' := by
  obtain ⟨hl, hb⟩ := bytes_of_row w0
  obtain ⟨hlc, hcm⟩ := row_le w0
  have hn := nil_cap w0
  generalize z0.take len0 = zs at *
  have hB : Hid (Bytes w a0 zs) := hb
  have hL : Hid (zs.length = len0) := hl
  have hN : Hid (a0 = none → cap0 = 0) := hn
  clear hb hl hn w0
  simp [Lit.wf, show IntKind.i64.min = -9223372036854775808 from by decide, show IntKind.i64.max = 9223372036854775807 from by decide] at w1
  simp [Lit.wf, show IntKind.u32.min = 0 from by decide, show IntKind.u32.max = 4294967295 from by decide] at w2
  obtain ⟨y, rfl⟩ := Int.eq_ofNat_of_zero_le w2.1
  have hy : y < 4294967296 := by omega
  clear w2
  by_cases hm : 1200 < len0
  · have d : decide (1200 < (len0 : Int)) = true := by simp; omega
    go_enter Try.func8, Try.ntmps8
    go_wp2_with (first
      | (go_at_call 9; refine (encode_many a0 len0 cap0 _ hm).mono ?_; rintro e w' ⟨rfl, hw⟩; obtain rfl : w = w' := hw.symm)
      | (go_at_call 12; refine (alive_any w).mono ?_; rintro e w9 ⟨rfl, hb9⟩))
    go_ret
    exact ⟨rfl, hb9⟩
  · have d : decide (1200 < (len0 : Int)) = false := by simp; omega
    by_cases hy0 : y = 0
    · subst hy0
      go_enter Try.func8, Try.ntmps8
      go_wp2_with fail
      refine (encode_ok a0 len0 cap0 zs w hL.out hB.out hN.out (by omega)).mono ?_
      rintro e v1 ⟨x1, rfl, ho1, hb1⟩
      obtain ⟨a3, n1, cap1, rfl, -, -, -, -, -⟩ := ho1.form
      clear ho1
      go_wp2_with (go_at_call 12; refine (alive_any v1).mono ?_; rintro e w9 ⟨rfl, hb9⟩)
      go_ret
      exact ⟨rfl, hb1.trans (hb9.mono hb1.size)⟩
    · have hyb : ((y : Int) == 0) = false := by rw [beq_eq_false_iff_ne]; omega
      go_enter Try.func8, Try.ntmps8
      go_wp2_with fail
      refine (encode_ok a0 len0 cap0 zs w hL.out hB.out hN.out (by omega)).mono ?_
      rintro e v1 ⟨x1, rfl, ho1, hb1⟩
      obtain ⟨g, n1, cap1, rfl, hO, hl1, hc1, hm1⟩ := ho1.row (by rw [frame_len]; omega)
      have hn8 : n1 = len0 + 8 := by rw [← hl1.out, frame_len, hL.out]
      have hn4 : (4 : Int) ≤ (n1 : Int) := by omega
      have hlt4 : decide ((n1 : Int) < 4) = false := by simp; omega
      have ht0 : -((n1 : Int) - 3) < a1.tmod ((n1 : Int) - 3) := Int.lt_tmod_of_pos _ (by omega)
      have ht1 : a1.tmod ((n1 : Int) - 3) < (n1 : Int) - 3 := Int.tmod_lt_of_pos _ (by omega)
      have hn47 : n1 ≤ 1208 := by omega
      have hN8 : Hid (n1 = len0 + 8) := hn8
      clear ho1 hn8
      go_wp2_with fail
      obtain ⟨t, ht, htn⟩ : ∃ t : Nat, (a1.tmod ((n1 : Int) - 3) + (n1 : Int) - 3) % ((n1 : Int) - 3) = (t : Int) ∧ t + 4 ≤ n1 := by
        have q0 := Int.emod_nonneg (a1.tmod ((n1 : Int) - 3) + (n1 : Int) - 3) (show (n1 : Int) - 3 ≠ 0 by omega)
        have q1 := Int.emod_lt_of_pos (a1.tmod ((n1 : Int) - 3) + (n1 : Int) - 3) (show 0 < (n1 : Int) - 3 by omega)
        exact ⟨((a1.tmod ((n1 : Int) - 3) + (n1 : Int) - 3) % ((n1 : Int) - 3)).toNat, (Int.toNat_of_nonneg q0).symm, by omega⟩
      rw [ht]
      obtain ⟨p, c0, c1, c2, c3, r, hL4, hpl⟩ := split4 (frameL zs) t (by rw [hl1.out]; exact htn)
      have hfz := hL4
      rw [hL4] at hO
      have hnot : Hid (p ++ (qs c0 c1 c2 c3 y 4 ++ r) ≠ frameL zs) := by
        rw [hfz]
        exact turned_ne p r c0 c1 c2 c3 y hy hy0 hO.out.2.2.1
      have hpl' : Hid (p.length = t) := hpl
      clear hL4 hpl ht ht0 ht1 hl1 hyb hlt4 hy0 hfz
      go_loopw [49] (fun i wr => ∃ k : Nat, k ≤ 4 ∧ i = .int .i64 k ∧ OwnR wr w.heap.size g n1 cap1 (p ++ (qs c0 c1 c2 c3 y k ++ r)) ∧ Below w.heap.size w wr) (fun i _ => 4 - (intOf i).toNat)
      case atStart => exact ⟨0, by omega, rfl, hO.out, hb1⟩
      case round =>
       obtain ⟨k, hk, rfl, hOr, hbr⟩ := hrel
       by_cases hlt4 : k < 4
       · rcases (show k = 0 ∨ k = 1 ∨ k = 2 ∨ k = 3 by omega) with rfl | rfl | rfl | rfl
         · have hcl : wr.cell? ⟨g, t, none⟩ = some (.int .u8 c0) := mid_cell hOr 0 _ c0 (by simp [qs]) rfl (by have := hpl'.out; omega)
           have hfr : wr.frozen? ⟨g, t, none⟩ = false := hOr.frozen _
           have i0 : (0 : Int) ≤ (t : Int) := by omega
           have i1 : (t : Int) < (n1 : Int) := by omega
           go_wp2
           go_region
           go_wp2
           go_roundw
           case rel => exact ⟨1, by omega, rfl, turn_row hOr 0 _ c0 ((y : Int) % 256) _ (by simp [qs]) rfl (by omega) rfl (by have := hpl'.out; omega), (hbr.setCell (by exact hOr.2.2.2) _).drew⟩
           case measure => simp [intOf]
         · have hcl : wr.cell? ⟨g, t + 1, none⟩ = some (.int .u8 c1) := mid_cell hOr 1 _ c1 (by simp [qs]) rfl (by have := hpl'.out; omega)
           have hfr : wr.frozen? ⟨g, t + 1, none⟩ = false := hOr.frozen _
           have i0 : (0 : Int) ≤ (t : Int) + 1 := by omega
           have i1 : (t : Int) + 1 < (n1 : Int) := by omega
           go_wp2
           go_region
           go_wp2
           go_roundw
           case rel => exact ⟨2, by omega, rfl, turn_row hOr 1 _ c1 ((y : Int) / 256 % 256) _ (by simp [qs]) rfl (by omega) rfl (by have := hpl'.out; omega), (hbr.setCell (by exact hOr.2.2.2) _).drew⟩
           case measure => simp [intOf]
         · have hcl : wr.cell? ⟨g, t + 2, none⟩ = some (.int .u8 c2) := mid_cell hOr 2 _ c2 (by simp [qs]) rfl (by have := hpl'.out; omega)
           have hfr : wr.frozen? ⟨g, t + 2, none⟩ = false := hOr.frozen _
           have i0 : (0 : Int) ≤ (t : Int) + 2 := by omega
           have i1 : (t : Int) + 2 < (n1 : Int) := by omega
           go_wp2
           go_region
           go_wp2
           go_roundw
           case rel => exact ⟨3, by omega, rfl, turn_row hOr 2 _ c2 ((y : Int) / 65536 % 256) _ (by simp [qs]) rfl (by omega) rfl (by have := hpl'.out; omega), (hbr.setCell (by exact hOr.2.2.2) _).drew⟩
           case measure => simp [intOf]
         · have hcl : wr.cell? ⟨g, t + 3, none⟩ = some (.int .u8 c3) := mid_cell hOr 3 _ c3 (by simp [qs]) rfl (by have := hpl'.out; omega)
           have hfr : wr.frozen? ⟨g, t + 3, none⟩ = false := hOr.frozen _
           have i0 : (0 : Int) ≤ (t : Int) + 3 := by omega
           have i1 : (t : Int) + 3 < (n1 : Int) := by omega
           go_wp2
           go_region
           go_wp2
           go_roundw
           case rel => exact ⟨4, by omega, rfl, turn_row hOr 3 _ c3 ((y : Int) / 16777216) _ (by simp [qs]) rfl (by omega) rfl (by have := hpl'.out; omega), (hbr.setCell (by exact hOr.2.2.2) _).drew⟩
           case measure => simp [intOf]
       · obtain rfl : k = 4 := by omega
         have hO4 : Hid (Bytes wr (some ⟨g, 0, none⟩) (p ++ (qs c0 c1 c2 c3 y 4 ++ r))) := hOr.bytes
         have hl4 : Hid ((p ++ (qs c0 c1 c2 c3 y 4 ++ r)).length = n1) := hOr.2.1
         have hz4 : Hid (∀ c ∈ p ++ (qs c0 c1 c2 c3 y 4 ++ r), 0 ≤ c ∧ c < 256) := hOr.2.2.1
         clear hOr hO
         generalize p ++ (qs c0 c1 c2 c3 y 4 ++ r) = b at *
         have hfound : Hid (∀ l ∈ (scanL b).1 ++ flushL (b.drop (scanL b).2), l ≠ zs) := fun l hl => turned_found hz4.out (by rw [hl4.out, hN8.out, hL.out]) hnot.out hl
         have hsr := hbr.size
         go_wp2_with fail
         refine (new_any wr).mono ?_
         rintro e w5 ⟨gs, rfl, hst5, hgs, hb5⟩
         have hO5 : Hid (Bytes w5 (some ⟨g, 0, none⟩) b) := hO4.out.kept hb5
         have hb6 : Below w.heap.size w w5 := hbr.trans (hb5.mono hsr)
         have hS5 : Hid (Stm w5 gs [] 0) := hst5
         have hs5 := hb6.size
         have hgs' : w.heap.size ≤ gs := by omega
         clear hO4 hb5 hst5
         go_wp2_with fail
         refine (feed_any gs [] 0 (some ⟨g, 0, none⟩) n1 cap1 b w5 hS5.out hl4.out hO5.out (by simp) (by simp; omega) (by simp)).mono ?_
         rintro e w7 ⟨v7, rfl, ho7, hst7, hg7⟩
         rw [List.nil_append] at ho7 hst7
         have hsc := scan_le b
         rw [hl4.out] at hsc
         have hb7 : Below w.heap.size w w7 := hb6.grown hg7 hs5 (fun k hk => by cases hk; omega)
         have hs7 := hb7.size
         have hT : Hid (OwnsL w7 w.heap.size 0 v7 (scanL b).1) := ho7.mono hs5
         have hS7 : Hid (Stm w7 gs (b.drop (scanL b).2) (0 + ((scanL b).2 - sz (scanL b).1))) := hst7
         clear ho7 hst7 hS5 hO5
         go_wp2_with fail
         refine (flush_any gs (b.drop (scanL b).2) _ w7 hS7.out (by rw [List.length_drop, hl4.out]; omega) (by omega)).mono ?_
         rintro e w8 ⟨v8, rfl, ho8, hst8, hg8⟩
         obtain ⟨cur, hcur⟩ := hS7.out.block
         have hT8 : Hid (OwnsL w8 w.heap.size 0 v7 (scanL b).1) := hT.out.but hg8 (Nat.zero_le _) hcur (by decide) (by decide)
         have hb8 : Below w.heap.size w w8 := hb7.grown hg8 hs7 (fun k hk => by cases hk; omega)
         have hs8 := hb8.size
         obtain ⟨a8, n8, c8, rfl, hl8, hn8, -, -, hL8⟩ := ho8.lists
         have hcnt : Hid (((scanL b).1.length + (flushL (b.drop (scanL b).2)).length) * 24 ≤ 140737488355328) := by
           show _ ≤ _
           have h1 := sz_many (scanL b).1
           have h2 := sz_many (flushL (b.drop (scanL b).2))
           have h3 := flush_le (b.drop (scanL b).2)
           rw [List.length_drop, hl4.out] at h3
           omega
         clear hT hS7 hcur ho8 hst8 hsc
         generalize (scanL b).1 = LA at *
         generalize flushL (b.drop (scanL b).2) = LB at *
         go_wp2_with (at_builtin; refine wpList_append_loads rfl _ (.tmp 73) rfl w.heap.size 0 (Nat.zero_le _) v7 LA LB rfl hT8.out a8 n8 c8 rfl hl8.out hn8.out hL8.out hcnt.out hs8 ?_; intro v9 w9 ho9 hg9; have hb9 := grownL_below hb8 hT8.out hg9 hs8; clear hg9 hT8 hL8; obtain ⟨a9, n9, c9, rfl, hl9, hn9, hc9, hm9, hL9⟩ := ho9.lists; clear ho9)
         have hBz : Hid (Bytes w9 a0 zs) := hB.out.kept hb9
         rcases hL9.out.2 with h0 | ⟨b9, o9, vs, rfl, _, hvl, hcl⟩
         · obtain rfl : n9 = 0 := by rw [← hl9.out, h0]; rfl
           go_loop [76] (fun i => i = .int .i64 0) (fun _ => 0)
           case atStart => exact rfl
           case round =>
             obtain rfl := hrel
             go_wp2_with (go_at_call 12; refine (alive_any _).mono ?_; rintro e w12 ⟨rfl, hb12⟩)
             go_ret
             exact ⟨rfl, hb9.trans (hb12.mono hb9.size)⟩
         · have hC : Hid (∀ i u, vs[i]? = some u → w9.cell? ⟨b9, o9 + i, none⟩ = some u ∧ Load w9 0 u ((LA ++ LB).getD i [])) := hcl
           have hV : Hid (vs.length = (LA ++ LB).length) := hvl
           clear hcl hvl
           go_loop [76] (fun i => ∃ k : Nat, k ≤ n9 ∧ i = .int .i64 k) (fun i => n9 - (intOf i).toNat)
           case atStart => exact ⟨0, Nat.zero_le _, rfl⟩
           case round =>
             obtain ⟨k, hk, rfl⟩ := hrel
             by_cases hlt : k < n9
             · obtain ⟨l, a1', n1', c1', hcell, hl1', hB1', -, hc1', hm1', -, -, hgk⟩ := next_load hV.out hC.out (k := k) (by rw [hl9.out]; exact hlt)
               have hne : decide (l = zs) = false := decide_eq_false (hfound.out l (List.mem_of_getElem? hgk.out))
               have ks := same_told hne (same_at a1' a0 n1' len0 c1' cap0 l zs w9 hl1'.out hL.out hB1'.out hBz.out)
               go_wp2_with (go_at_call 11; refine ks.mono ?_; rintro e w' ⟨rfl, hw⟩; obtain rfl : w9 = w' := hw.symm)
               go_round
               case rel => exact ⟨k + 1, by omega, by go_num⟩
               case measure => simp [intOf]; omega
             · go_wp2_with (go_at_call 12; refine (alive_any w9).mono ?_; rintro e w12 ⟨rfl, hb12⟩)
               go_ret
               exact ⟨rfl, hb9.trans (hb12.mono hb9.size)⟩

set_option maxRecDepth 100000 in
theorem lifted (os : Os) (started : os.Started) (H : Type) (enc : TypeId × Value → H) :
    ReturnsInHanded {} Try.checked os 8 .any (Rows.frameTurnedSpec.pre6 enc Try.prog Try.f8 Rows.frameTurnedRow.domain false) (Rows.frameTurnedSpec.post enc Try.prog Try.f8 false true false false) := by
  refine returnsInHanded_of_change_sized (C := Try.checked) own started (by kernel_rfl) Try.func8
    (ChangeSpec.witness6 (enc := enc) (C := Try.checked) false ⟨#[], #[.slice none 0 0, .int .i64 0, .int .u32 0], []⟩ 8 (by kernel_rfl) (by kernel_rfl) (by kernel_rfl) (by kernel_rfl)) ?_
  intro W base args ds gs before hval0 hW hcnd hsz0 _
  have hval : ∀ (j : Nat) t v, Try.f8.params[j]? = some t → args[j]? = some v → Value.okWide Try.prog W .any base t v := hval0
  have hW' := hW
  have hsz : (DataW.weightsEach Try.prog (Try.f8.params.toList ++ Rows.frameTurnedSpec.plain.varTypes Try.prog) (ds ++ gs)).all (· ≤ reachBytes) = true := hsz0
  obtain ⟨p, q, hA0, hV, rfl, hfz, hnd⟩ := hW
  have hA : DataW.TrodAll enc Try.prog W 0 (fun _ => true) true Try.f8.params.toList args.toList ds p := hA0
  rw [Try.params8] at hA hval hsz
  obtain ⟨v0, vs0, d0, ds0, p0, q0, hargs, rfl, rfl, h0, r0'⟩ := trodAll_cons hA
  obtain ⟨v1, vs1, d1, ds1, p1, q1, rfl, rfl, rfl, h1, r1'⟩ := trodAll_cons r0'
  obtain ⟨v2, vs2, d2, ds2, p2, q2, rfl, rfl, rfl, h2, r2'⟩ := trodAll_cons r1'
  obtain ⟨rfl, rfl, rfl⟩ := trodAll_nil r2'
  obtain rfl : args = #[v0, v1, v2] := by cases args; simp_all
  obtain ⟨rfl, rfl⟩ := trodVars_none hV
  obtain ⟨a0, len0, cap0, rfl⟩ := okWide_slice Try.underlying22 (hval 0 22 v0 rfl rfl)
  have k0 := h0
  have lt0 : ∀ x ∈ p0, x.block < W.heap.size := by obtain ⟨m, hm⟩ := k0; exact DataW.trod_lt m _ _ _ hm
  obtain ⟨z0, w0, r0⟩ : ∃ zs, IsRow .u8 W a0 len0 cap0 zs ∧ cap0 ≤ 140737488351232 := by
    obtain ⟨fuel, hf⟩ := h0
    rcases open_ints Try.underlying22 Try.underlying5 (by kernel_rfl) hf with ⟨hcs, hx⟩ | ⟨x, l, c, zs, hcs, _, hl, hm, hz, hx, hcell, hwz⟩
    · simp [Value.cells] at hcs
      obtain ⟨rfl, rfl, rfl⟩ := hcs
      exact ⟨[], .inl ⟨rfl, rfl, rfl, rfl⟩, by omega⟩
    · simp [Value.cells] at hcs
      obtain ⟨rfl, rfl, rfl⟩ := hcs
      have hd : d0 = .slice (lits .u8 (zs.take len0)) (lits .u8 (zs.drop len0)) := (Prod.mk.inj hx).1
      have hz' : zs.length = cap0 := by simpa using hz
      have hr : cap0 ≤ 140737488351232 := by
        have := sized_slice hsz (j := 0) (t := 22) (e := 5) rfl (by rw [← hd]; rfl) Try.underlying22
        rw [bytes_e] at this
        simp only [lits, List.length_map, List.length_take, List.length_drop, reachBytes] at this
        omega
      exact ⟨zs, .inr ⟨_, rfl, hl, hm, hz', hcell, hwz⟩, hr⟩
  obtain ⟨a1, rfl, rfl, rfl, w1⟩ := open_int Try.underlying3 (hval 1 3 v1 rfl rfl) h1
  obtain ⟨a2, rfl, rfl, rfl, w2⟩ := open_int Try.underlying43 (hval 2 43 v2 rfl rfl) h2
  clear hA0 hval0
  refine (walk a0 len0 cap0 z0 a1 a2 W w0 r0 w1 w2).mono fun e W' ⟨he, bel⟩ => ?_
  subst he
  exact ⟨_, rfl, _, _, _, [], _, [], hW', trodAll_mk1 (shut_bool Try.underlying4 _), (trodAll_cons_mk (Below.trod laidOut (by kernel_rfl) (of_decide_eq_true (by kernel_rfl)) k0 bel lt0) (trodAll_cons_mk (shut_int Try.underlying3 w1) (trodAll_cons_mk (shut_int Try.underlying43 w2) trodAll_mk0))), rfl, bel.frame _, fun h => by cases h⟩

theorem over : Rows.frameTurnedRow.holds Try.pinned (OpenSpec.ofChange Rows.frameTurnedSpec) :=
  OpenClaim.holds_of_wide 8 Try.f8 rfl rfl rfl rfl rfl rfl rfl ⟨rfl, rfl, rfl, rfl, rfl⟩ rfl rfl rfl rfl rfl (by kernel_rfl) Try.func8 (by kernel_rfl)
    (of_decide_eq_true (by kernel_rfl)) (by unfold Func.isWrapper; first | (rw [if_pos (by decide +kernel)]; kernel_rfl) | (rw [if_neg (by decide +kernel)]; exact ⟨rfl, rfl⟩))
    (fun os started H enc _ => lifted os started H enc)

end Go.Proofs.Yticlobjikpfcjaa.frameTurned
namespace Go.Proofs.Yticlobjikpfcjaa

theorem frameTurned_holds : Rows.FrameTurnedSaid := frameTurned.over
#print axioms frameTurned_holds
end Go.Proofs.Yticlobjikpfcjaa
