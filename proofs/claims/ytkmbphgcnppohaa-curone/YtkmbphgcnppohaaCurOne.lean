/-
  For every list of bytes: where a short number is read off them, the bytes read are what would be put for it; where none is, the place stays and the answer is 0; and a number is written and read; the bytes stay as they were.
-/
import Derived.Test.YtkmbphgcnppohaaRows
import Derived.Test.YtkmbphgcnppohaaAlive
import Derived.WalkKit
import Derived.Deep.RegionHeld3
import Derived.ProofKit
import Derived.OpenShut
import Derived.ShutString
import Derived.ChangeOld
import Derived.Below
import Derived.SizedLaws
namespace Go.Proofs.Ytkmbphgcnppohaa.curOne
open Go.ChangeShapes Go.WideShapes Go.ChangeAt Go.RowKit
open Go.ChangeMaps (open_string shut_string)
set_option linter.unusedVariables false

theorem own : ownKnob Try.prog.godebug = none := by kernel_rfl
theorem laidOut : laidOutB Try.prog = true := by kernel_rfl
theorem bytes_e : Try.prog.bytesOf 5 = 1 := by kernel_rfl

theorem short_at (base g p y f n m p' y' f' : Nat) (a : Option Addr) (zs : List Int) (w : World) (h : Cur w base g a n zs p y f) (hs : sS zs p y f = (m, p', y', f')) :
    Calls Try.prog 18 #[.pointer (some ⟨g, 0, none⟩)] w fun e w' => e = .returned (.int .u64 m) ∧ Cur w' base g a n zs p' y' f' ∧ w.grownBy w' (some g) := by
  by_cases hy : y = 0
  · subst hy
    have h1 := short_go base g p f n a zs w h
    rw [hs] at h1
    exact h1
  · have h1 := short_stop base g p y f n a zs w h hy
    rw [sS, if_pos hy] at hs
    cases hs
    exact h1

theorem rdS_kinds : ∀ (l : List Int) (i n : Nat), (rdS l i n).1 = 0 ∨ (rdS l i n).1 = 3 ∨ (rdS l i n).1 = 5 := by
  intro l
  induction l with
  | nil => intro i n; exact .inr (.inl rfl)
  | cons x l ih =>
    intro i n
    unfold rdS
    split
    · exact .inr (.inr rfl)
    · split
      · exact .inl rfl
      · exact ih _ _

set_option maxHeartbeats 2000000 in
theorem walk (a0 : Option Addr) (len0 cap0 : Nat) (z0 : List Int) (w : World) (w0 : IsRow .u8 w a0 len0 cap0 z0) (r0 : cap0 ≤ 140737488351232) :
    Calls Try.prog 6 #[.slice a0 len0 cap0] w fun e w' => e = .returned (.bool true) ∧ Below w.heap.size w w' := by
  have hnil : Hid (a0 = none → cap0 = 0) := nil_cap w0
  obtain ⟨hl, hb⟩ := bytes_of_row w0
  have hlc := (row_le w0).1
  generalize z0.take len0 = zs at *
  have hB : Hid (Bytes w a0 zs) := hb
  have hL : Hid (zs.length = len0) := hl
  clear hb w0 hl
  rcases rdS_kinds zs 0 0 with hk | hk | hk
  · obtain ⟨m, k, hr⟩ : ∃ m k, rdS zs 0 0 = (0, m, k) := ⟨(rdS zs 0 0).2.1, (rdS zs 0 0).2.2, Prod.ext hk rfl⟩
    have hs : Hid (sS zs 0 0 0 = (m, k, 0, 0)) := by
      show _ = _
      simp [sS, hr]
    obtain ⟨hm, hk1, hk2, htk, -⟩ := rd_whole zs m k hB.out.1 hr
    rw [hL.out] at hk2
    have hT : Hid (zs.take k = shortL m) := htk
    have hTl : Hid ((zs.take k).length = k) := by
      show _ = _
      rw [List.length_take, hL.out]
      omega
    clear hr htk hk
    go_enter Try.func6, Try.ntmps6
    go_wp2_with fail
    refine (new_any a0 len0 cap0 zs w hL.out hB.out hnil.out (by omega)).mono ?_
    rintro e w1 ⟨g, a1, rfl, hc1, hb1⟩
    go_wp2_with fail
    refine (short_at _ g 0 0 0 len0 m k 0 0 a1 zs w1 hc1 hs.out).mono ?_
    rintro e w2 ⟨rfl, hc2, hg2⟩
    have bl2 : Below w.heap.size w w2 := below_but hb1 hg2 hb1.size hc2.2.2.2.2.2.1
    clear hc1 hb1 hg2 hs
    go_wp2_with fail
    refine (fault_any _ _ _ _ _ _ hc2.1).mono ?_
    rintro e w3 ⟨rfl, hb3⟩
    have hc3 := hc2.kept hb3
    have bl3 : Below w.heap.size w w3 := bl2.trans (hb3.mono bl2.size)
    clear hc2 bl2 hb3
    go_wp2_with fail
    refine (at_any _ _ _ _ _ _ hc3.1).mono ?_
    rintro e w4 ⟨rfl, rfl⟩
    obtain ⟨b, off, rfl⟩ := bytes_some hB.out (by rw [hL.out]; omega)
    have hBt : Hid (Bytes w (some ⟨b, off, none⟩) (shortL m)) := by rw [← hT.out]; exact hB.out.take k
    have hBl : Hid ((shortL m).length = k) := by rw [← hT.out]; exact hTl
    clear hnil hB hL hT hTl hc3
    have g1 : decide ((1 : Int) ≤ (k : Int)) = true := by simp; omega
    have g2 : decide ((k : Int) ≤ (len0 : Int)) = true := by simp; omega
    have g3 : (k : Int) ≤ (cap0 : Int) := by omega
    go_wp2_with fail
    go_region_held3 (fun _ => True) (trivial) (first
      | (go_at_call 12; refine (putShort_any none 0 0 m [] _ hm rfl (no_bytes _ _) (fun _ => rfl) (by decide)).mono ?_; rintro e w5 ⟨v5, rfl, ho5, hb5'⟩; obtain ⟨a5, n5, cap5, rfl, hl5, -, hc5, hm5, hB5⟩ := ho5.form; have bl5 : Below w.heap.size w w5 := ⟨hb5'.os.trans bl3.os, hb5'.tape.trans bl3.tape, hb5'.output.trans bl3.output, Nat.le_trans bl3.size hb5'.size, fun q hq => (hb5'.block q (Nat.lt_of_lt_of_le hq bl3.size)).trans (bl3.block q hq)⟩; clear ho5 hb5')
      | (go_at_call 11; refine (same_yes _ _ _ _ _ _ (shortL m) _ hl5.out hBl.out hB5.out (hBt.out.kept bl5)).mono ?_; rintro e w6 ⟨rfl, rfl⟩)
      | (go_at_call 14; refine (alive_any _).mono ?_; rintro e w7 ⟨rfl, hb7⟩))
    all_goals
      go_wp2_with fail
      go_ret
      exact ⟨rfl, bl5.trans (hb7.mono bl5.size)⟩
  · have hs : Hid (sS zs 0 0 0 = (0, 0, 3, len0)) := by
      show _ = _
      simp [sS, hk, hL.out]
    clear hk
    go_enter Try.func6, Try.ntmps6
    go_wp2_with fail
    refine (new_any a0 len0 cap0 zs w hL.out hB.out hnil.out (by omega)).mono ?_
    rintro e w1 ⟨g, a1, rfl, hc1, hb1⟩
    go_wp2_with fail
    refine (short_at _ g 0 0 0 len0 0 0 3 len0 a1 zs w1 hc1 hs.out).mono ?_
    rintro e w2 ⟨rfl, hc2, hg2⟩
    have bl2 : Below w.heap.size w w2 := below_but hb1 hg2 hb1.size hc2.2.2.2.2.2.1
    clear hc1 hb1 hg2
    go_wp2_with fail
    refine (fault_any _ _ _ _ _ _ hc2.1).mono ?_
    rintro e w3 ⟨rfl, hb3⟩
    have hc3 := hc2.kept hb3
    have bl3 : Below w.heap.size w w3 := bl2.trans (hb3.mono bl2.size)
    clear hc2 bl2 hb3
    go_wp2_with fail
    refine (at_any _ _ _ _ _ _ hc3.1).mono ?_
    rintro e w4 ⟨rfl, rfl⟩
    go_wp2_with fail
    refine (alive_any _).mono ?_
    rintro e w5 ⟨rfl, hb5⟩
    go_wp2_with fail
    go_ret
    exact ⟨rfl, bl3.trans (hb5.mono bl3.size)⟩
  · obtain ⟨i, hi⟩ : ∃ i, i = (rdS zs 0 0).2.2 := ⟨_, rfl⟩
    have hs : Hid (sS zs 0 0 0 = (0, 0, 5, i)) := by
      show _ = _
      simp [sS, hk, hi]
    clear hk hi
    go_enter Try.func6, Try.ntmps6
    go_wp2_with fail
    refine (new_any a0 len0 cap0 zs w hL.out hB.out hnil.out (by omega)).mono ?_
    rintro e w1 ⟨g, a1, rfl, hc1, hb1⟩
    go_wp2_with fail
    refine (short_at _ g 0 0 0 len0 0 0 5 i a1 zs w1 hc1 hs.out).mono ?_
    rintro e w2 ⟨rfl, hc2, hg2⟩
    have bl2 : Below w.heap.size w w2 := below_but hb1 hg2 hb1.size hc2.2.2.2.2.2.1
    clear hc1 hb1 hg2
    go_wp2_with fail
    refine (fault_any _ _ _ _ _ _ hc2.1).mono ?_
    rintro e w3 ⟨rfl, hb3⟩
    have hc3 := hc2.kept hb3
    have bl3 : Below w.heap.size w w3 := bl2.trans (hb3.mono bl2.size)
    clear hc2 bl2 hb3
    go_wp2_with fail
    refine (at_any _ _ _ _ _ _ hc3.1).mono ?_
    rintro e w4 ⟨rfl, rfl⟩
    go_wp2_with fail
    refine (alive_any _).mono ?_
    rintro e w5 ⟨rfl, hb5⟩
    go_wp2_with fail
    go_ret
    exact ⟨rfl, bl3.trans (hb5.mono bl3.size)⟩

set_option maxRecDepth 100000 in
theorem lifted (os : Os) (started : os.Started) (H : Type) (enc : TypeId × Value → H) :
    ReturnsInHanded {} Try.checked os 6 .any (Rows.curOneSpec.pre6 enc Try.prog Try.f6 Rows.curOneRow.domain false) (Rows.curOneSpec.post enc Try.prog Try.f6 false true false false) := by
  refine returnsInHanded_of_change_sized (C := Try.checked) own started (by kernel_rfl) Try.func6
    (ChangeSpec.witness6 (enc := enc) (C := Try.checked) false ⟨#[], #[.slice none 0 0], []⟩ 8 (by kernel_rfl) (by kernel_rfl) (by kernel_rfl) (by kernel_rfl)) ?_
  intro W base args ds gs before hval0 hW hcnd hsz0 _
  have hval : ∀ (j : Nat) t v, Try.f6.params[j]? = some t → args[j]? = some v → Value.okWide Try.prog W .any base t v := hval0
  have hW' := hW
  have hsz : (DataW.weightsEach Try.prog (Try.f6.params.toList ++ Rows.curOneSpec.plain.varTypes Try.prog) (ds ++ gs)).all (· ≤ reachBytes) = true := hsz0
  obtain ⟨p, q, hA0, hV, rfl, hfz, hnd⟩ := hW
  have hA : DataW.TrodAll enc Try.prog W 0 (fun _ => true) true Try.f6.params.toList args.toList ds p := hA0
  rw [Try.params6] at hA hval hsz
  obtain ⟨v0, vs0, d0, ds0, p0, q0, hargs, rfl, rfl, h0, r0'⟩ := trodAll_cons hA
  obtain ⟨rfl, rfl, rfl⟩ := trodAll_nil r0'
  obtain rfl : args = #[v0] := by cases args; simp_all
  obtain ⟨rfl, rfl⟩ := trodVars_none hV
  obtain ⟨a0, len0, cap0, rfl⟩ := okWide_slice Try.underlying22 (hval 0 22 v0 rfl rfl)
  have k0 := h0
  have lt0 : ∀ x ∈ p0, x.block < W.heap.size := by obtain ⟨m, hm⟩ := k0; exact DataW.trod_lt m _ _ _ hm
  obtain ⟨z0, w0, r0⟩ : ∃ zs, IsRow .u8 W a0 len0 cap0 zs ∧ cap0 ≤ 140737488351232 := by
    obtain ⟨fuel, hf⟩ := h0
    rcases open_ints Try.underlying22 Try.underlying5 (by kernel_rfl) hf with ⟨hcs, hx⟩ | ⟨x, l, c, zs, hcs, _, hl, hm, hz, hx, hcell, hwz⟩
    · simp [Value.cells] at hcs
      obtain ⟨rfl, rfl, rfl⟩ := hcs
      exact ⟨[], .inl ⟨rfl, rfl, rfl, rfl⟩, by omega⟩
    · simp [Value.cells] at hcs
      obtain ⟨rfl, rfl, rfl⟩ := hcs
      have hd : d0 = .slice (lits .u8 (zs.take len0)) (lits .u8 (zs.drop len0)) := (Prod.mk.inj hx).1
      have hz' : zs.length = cap0 := by simpa using hz
      have hr : cap0 ≤ 140737488351232 := by
        have := sized_slice hsz (j := 0) (t := 22) (e := 5) rfl (by rw [← hd]; rfl) Try.underlying22
        rw [bytes_e] at this
        simp only [lits, List.length_map, List.length_take, List.length_drop, reachBytes] at this
        omega
      exact ⟨zs, .inr ⟨_, rfl, hl, hm, hz', hcell, hwz⟩, hr⟩
  clear hA0 hval0
  refine (walk a0 len0 cap0 z0 W w0 r0).mono fun e W' ⟨he, bel⟩ => ?_
  subst he
  exact ⟨_, rfl, _, _, _, [], _, [], hW', trodAll_mk1 (shut_bool Try.underlying4 _), (trodAll_cons_mk (Below.trod laidOut (by kernel_rfl) (of_decide_eq_true (by kernel_rfl)) k0 bel lt0) trodAll_mk0), rfl, bel.frame _, fun h => by cases h⟩

theorem over : Rows.curOneRow.holds Try.pinned (OpenSpec.ofChange Rows.curOneSpec) :=
  OpenClaim.holds_of_wide 6 Try.f6 rfl rfl rfl rfl rfl rfl rfl ⟨rfl, rfl, rfl, rfl, rfl⟩ rfl rfl rfl rfl rfl (by kernel_rfl) Try.func6 (by kernel_rfl)
    (of_decide_eq_true (by kernel_rfl)) (by unfold Func.isWrapper; first | (rw [if_pos (by decide +kernel)]; kernel_rfl) | (rw [if_neg (by decide +kernel)]; exact ⟨rfl, rfl⟩))
    (fun os started H enc _ => lifted os started H enc)

end Go.Proofs.Ytkmbphgcnppohaa.curOne
namespace Go.Proofs.Ytkmbphgcnppohaa

theorem curOne_holds : Rows.CurOneSaid := curOne.over
#print axioms curOne_holds
end Go.Proofs.Ytkmbphgcnppohaa
