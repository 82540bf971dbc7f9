/-
  For all bytes of bulk at most 1048576: their characters, or where they go wrong, and how many they are, are the document's; and a character is read and written, and a wrong byte told; the bytes stay as they were.
-/
import Derived.Test.YtjnhobohnkhpoaaRows
import Derived.Test.YtjnhobohnkhpoaaRRunes
import Derived.Test.YtjnhobohnkhpoaaCount
import Derived.WalkKit
import Derived.Deep.RegionHeld3
import Derived.ProofKit
import Derived.OpenShut
import Derived.ShutString
import Derived.ChangeOld
import Derived.Below
import Derived.SizedLaws
import Derived.Deep.CondSized
namespace Go.Proofs.Ytjnhobohnkhpoaa.utfReadsUpto
open Go.ChangeShapes Go.WideShapes Go.ChangeAt Go.RowKit
open Go.ChangeMaps (open_string shut_string)
set_option linter.unusedVariables false

theorem own : ownKnob Try.prog.godebug = none := by kernel_rfl
theorem laidOut : laidOutB Try.prog = true := by kernel_rfl
theorem bytes_e : Try.prog.bytesOf 5 = 1 := by kernel_rfl

theorem bulk_lits {H : Type} (k : IntKind) (zs : List Int) : Rows.uptoBulkAll (H := H) (lits k zs) = zs.length := by
  induction zs with
  | nil => rfl
  | cons z zs ih =>
    show Rows.uptoBulk (H := H) (.lit (.int k z)) + Rows.uptoBulkAll (H := H) (lits k zs) = _
    rw [ih, List.length_cons]
    show 1 + zs.length = _
    omega
theorem bulk_row {H : Type} {zs : List Int} {len cap : Nat} (h : cap ≤ zs.length) : cap ≤ Rows.uptoBulk (H := H) (.slice (lits .u8 (zs.take len)) (lits .u8 (zs.drop len))) := by
  simp only [Rows.uptoBulk, bulk_lits, List.length_take, List.length_drop]
  omega

theorem txt_many (zs : List Int) : (txtL zs).length ≤ zs.length := by
  cases h : (runesL zs).2 with
  | none => rw [(why_none h).2.2, ints_len]; exact runes_many zs
  | some p => rw [(why_some h).2.2]; simp
set_option maxHeartbeats 4000000 in
theorem walk (a0 : Option Addr) (len0 cap0 : Nat) (z0 : List Int) (w : World) (w0 : IsRow .u8 w a0 len0 cap0 z0) (r0 : cap0 ≤ 140737488351232) (small : cap0 ≤ 1048576) :
    Calls Try.prog 3 #[.slice a0 len0 cap0] w fun e w' => e = .returned (.bool true) ∧ Below w.heap.size w w' := by
  obtain ⟨hl, hb⟩ := bytes_of_row w0
  obtain ⟨hlc, hcm⟩ := row_le w0
  have hn := nil_cap w0
  generalize z0.take len0 = zs at *
  have hB : Hid (Bytes w a0 zs) := hb
  have hL : Hid (zs.length = len0) := hl
  have hN : Hid (a0 = none → cap0 = 0) := hn
  clear hb hl hn w0 r0
  unfold maxLen at hcm
  go_enter Try.func3, Try.ntmps3
  go_wp2_with fail
  refine (runes_any a0 len0 cap0 zs w hL.out hB.out hlc (by omega)).mono ?_
  rintro e w1 ⟨v1, rfl, ho1, hb1⟩
  go_wp2_with fail
  refine (xrunes_any a0 len0 cap0 zs (w1.alloc (.cells #[.int .i64 (whyL zs : Nat), .int .i64 (atL zs : Nat)] 26)) hL.out (hB.out.kept (hb1.alloc hb1.size _)) hlc (by omega)).mono ?_
  rintro e w2 ⟨v2, rfl, ho2, hb2⟩
  have hF4 : Hid (FAt (w2.alloc (.cells #[.int .i64 (whyL zs : Nat), .int .i64 (atL zs : Nat)] 26)) w1.heap.size (whyL zs) (atL zs)) := (FAt.kept (w := w1.alloc _) (heap_alloc_new w1 _) hb2).kept ((Below.refl _ _).alloc (Nat.le_refl _) _)
  have hF6 : Hid (FAt (w2.alloc (.cells #[.int .i64 (whyL zs : Nat), .int .i64 (atL zs : Nat)] 26)) w2.heap.size (whyL zs) (atL zs)) := heap_alloc_new w2 _
  have hbw2 : Below w.heap.size w w2 := (hb1.alloc hb1.size _).trans (hb2.mono (by have := hb1.size; simp; omega))
  have hbW : Hid (Below w.heap.size w (w2.alloc (.cells #[.int .i64 (whyL zs : Nat), .int .i64 (atL zs : Nat)] 26))) := hbw2.alloc hbw2.size _
  have hk2 : Below w1.heap.size w1 w2 := ((Below.refl _ _).alloc (Nat.le_refl _) _).trans (hb2.mono (by simp))
  have ho1' := (ho1.below hk2).alloc (.cells #[.int .i64 (whyL zs : Nat), .int .i64 (atL zs : Nat)] 26)
  have ho2' := ho2.alloc (.cells #[.int .i64 (whyL zs : Nat), .int .i64 (atL zs : Nat)] 26)
  obtain ⟨a1, n1, c1, rfl, hl1, -, hc1, hm1, hI1⟩ := ho1'.form
  obtain ⟨a2, n2, c2, rfl, hl2, -, hc2, hm2, hI2⟩ := ho2'.form
  have hnn : n1 ≤ 4611686018427387904 := by
    have h1 := hl1.out
    have h2 : (txtL zs).length ≤ zs.length := txt_many zs
    have h3 := hL.out
    omega
  obtain rfl : n1 = n2 := hl1.out.symm.trans hl2.out
  have kS : Hid (∀ X, Ints X a1 (txtL zs) → Ints X a2 (txtL zs) → Calls Try.prog 11 #[.slice a1 n1 c1, .slice a2 n1 c2] X fun e w' => e = .returned (.bool true) ∧ ∃ q, w' = X.drewN q) := fun X h1 h2 => by
    have h := sameI_any a1 a2 n1 n1 c1 c2 (txtL zs) (txtL zs) X hl1.out hl2.out h1 h2 hnn
    rw [decide_eq_true rfl] at h
    exact h
  have kC : Hid (∀ X, Bytes X a0 zs → Calls Try.prog 12 #[.slice a0 len0 cap0] X fun e w' => e = .returned (.agg #[.int .i64 (whyL zs : Nat), .int .i64 (atL zs : Nat)]) ∧ Below X.heap.size X w') := fun X h => check_any a0 len0 cap0 zs X hL.out h hlc (by omega)
  have kN : Hid (∀ X, Bytes X a0 zs → Calls Try.prog 13 #[.slice a0 len0 cap0] X fun e w' => e = .returned (.int .i64 (n1 : Nat)) ∧ Below X.heap.size X w') := fun X h => by
    have h9 := count_any a0 len0 cap0 zs X hL.out h hlc (by omega)
    rw [hl1.out] at h9
    exact h9
  have hBW : Hid (Bytes (w2.alloc (.cells #[.int .i64 (whyL zs : Nat), .int .i64 (atL zs : Nat)] 26)) a0 zs) := hB.out.kept hbW.out
  clear ho1 ho2 ho1' ho2' hb1 hb2 hbw2 hk2
  generalize w1.heap.size = g4 at *
  generalize whyL zs = y at *
  generalize atL zs = f at *
  go_wp2_with fail
  have hg6 : Hid (w2.heap.size = w2.heap.size) := rfl
  generalize w2.heap.size = g6 at *
  generalize w2.alloc (.cells #[.int .i64 (y : Nat), .int .i64 (f : Nat)] 26) = W at *
  clear hg6
  go_region_held3 (fun w' => w'.cell? ⟨g4, 0, none⟩ = some (.int .i64 (y : Nat)) ∧ w'.cell? ⟨g4, 1, none⟩ = some (.int .i64 (f : Nat)) ∧ w'.cell? ⟨g6, 0, none⟩ = some (.int .i64 (y : Nat)) ∧ w'.cell? ⟨g6, 1, none⟩ = some (.int .i64 (f : Nat)))
    (first | exact ⟨hF4.out.c0, hF4.out.c1, hF6.out.c0, hF6.out.c1⟩ | exact ⟨hF41.out.c0, hF41.out.c1, hF61.out.c0, hF61.out.c1⟩ | exact ⟨hF42.out.c0, hF42.out.c1, hF62.out.c0, hF62.out.c1⟩ | exact ⟨hF43.out.c0, hF43.out.c1, hF63.out.c0, hF63.out.c1⟩ | exact ⟨hF44.out.c0, hF44.out.c1, hF64.out.c0, hF64.out.c1⟩) (first
    | (go_at_call 11; refine (kS.out _ (by exact hI1.out) (by exact hI2.out)).mono ?_; rintro e y1 ⟨rfl, q1, hw1⟩; have hb1 : Below W.heap.size W y1 := (by rw [hw1]; exact ⟨rfl, rfl, rfl, Nat.le_refl _, fun _ _ => rfl⟩); have hF41 : Hid (FAt y1 g4 y f) := hF4.out.kept hb1; have hF61 : Hid (FAt y1 g6 y f) := hF6.out.kept hb1; have hB1 : Hid (Bytes y1 a0 zs) := hBW.out.kept hb1; have hy1 : Hid (Below w.heap.size w y1) := hbW.out.trans (hb1.mono hbW.out.size); clear hw1 hb1 hI1 hI2)
    | (go_at_call 12; refine (kC.out _ (by exact hB1.out)).mono ?_; rintro e y2 ⟨rfl, hb2'⟩; have hb2 : Below y1.heap.size y1 y2 := ⟨hb2'.os, hb2'.tape, hb2'.output, hb2'.size, hb2'.block⟩; have hF42 : Hid (FAt y2 g4 y f) := hF41.out.kept hb2; have hF62 : Hid (FAt y2 g6 y f) := hF61.out.kept hb2; have hB2 : Hid (Bytes y2 a0 zs) := hB1.out.kept hb2; have hy2 : Hid (Below w.heap.size w y2) := hy1.out.trans (hb2.mono hy1.out.size); clear hb2 hb2')
    | (go_at_call 13; refine (kN.out _ (by exact hB2.out)).mono ?_; rintro e y3 ⟨rfl, hb3'⟩; have hb3 : Below y2.heap.size y2 y3 := ⟨hb3'.os, hb3'.tape, hb3'.output, hb3'.size, hb3'.block⟩; have hF43 : Hid (FAt y3 g4 y f) := hF42.out.kept hb3; have hF63 : Hid (FAt y3 g6 y f) := hF62.out.kept hb3; have hy3 : Hid (Below w.heap.size w y3) := hy2.out.trans (hb3.mono hy2.out.size); clear hb3 hb3')
    | (go_at_call 14; refine (alive_any _).mono ?_; rintro e y4 ⟨rfl, hb4'⟩; have hb4 : Below y3.heap.size y3 y4 := ⟨hb4'.os, hb4'.tape, hb4'.output, hb4'.size, hb4'.block⟩; have hF44 : Hid (FAt y4 g4 y f) := hF43.out.kept hb4; have hF64 : Hid (FAt y4 g6 y f) := hF63.out.kept hb4; have hy4 : Hid (Below w.heap.size w y4) := hy3.out.trans (hb4.mono hy3.out.size); clear hb4 hb4'))
  all_goals
    go_wp2
    go_ret
    exact ⟨rfl, hy4.out⟩

set_option maxRecDepth 100000 in
theorem lifted (os : Os) (started : os.Started) (H : Type) (enc : TypeId × Value → H) (F : Stop.Interp) :
    ReturnsInHanded {} Try.checked os 3 .any ((Rows.OpenSpec.upto Rows.utfReadsSpec).pre6 enc Try.prog Try.f3 Rows.utfReadsUptoRow.domain false) (((Rows.OpenSpec.upto Rows.utfReadsSpec).at F).post enc Try.prog Try.f3 false true false false) := by
  refine returnsInHanded_of_cond_sized (C := Try.checked) (s := Rows.OpenSpec.upto Rows.utfReadsSpec) (k := Rows.uptoSmall) rfl own started (by kernel_rfl) Try.func3
    (OpenSpec.witness (enc := enc) (C := Try.checked) (s := Rows.OpenSpec.upto Rows.utfReadsSpec) (k := Rows.uptoSmall) rfl false ⟨#[], #[.slice none 0 0], []⟩ 8 (by kernel_rfl) (by kernel_rfl) (by kernel_rfl)
      (x := ([.nil], [], [])) (by kernel_rfl) rfl (by kernel_rfl)) ?_
  intro W base args ds gs before hval0 hW _ hk hsz0 _
  have hval : ∀ (j : Nat) t v, Try.f3.params[j]? = some t → args[j]? = some v → Value.okWide Try.prog W .any base t v := hval0
  have hW' := hW
  have hsz : (DataW.weightsEach Try.prog (Try.f3.params.toList ++ (Rows.OpenSpec.upto Rows.utfReadsSpec).bare.plain.varTypes Try.prog) (ds ++ gs)).all (· ≤ reachBytes) = true := hsz0
  obtain ⟨p, q, hA0, hV, rfl, hfz, hnd⟩ := hW
  have hA : DataW.TrodAll enc Try.prog W 0 (fun _ => true) true Try.f3.params.toList args.toList ds p := hA0
  rw [Try.params3] at hA hval hsz
  obtain ⟨v0, vs0, d0, ds0, p0, q0, hargs, rfl, rfl, h0, r0'⟩ := trodAll_cons hA
  obtain ⟨rfl, rfl, rfl⟩ := trodAll_nil r0'
  obtain rfl : args = #[v0] := by cases args; simp_all
  obtain ⟨rfl, rfl⟩ := trodVars_none hV
  obtain ⟨a0, len0, cap0, rfl⟩ := okWide_slice Try.underlying22 (hval 0 22 v0 rfl rfl)
  have k0 := h0
  have lt0 : ∀ x ∈ p0, x.block < W.heap.size := by obtain ⟨m, hm⟩ := k0; exact DataW.trod_lt m _ _ _ hm
  obtain ⟨z0, w0, r0, bk0⟩ : ∃ zs, IsRow .u8 W a0 len0 cap0 zs ∧ cap0 ≤ 140737488351232 ∧ cap0 ≤ Rows.uptoBulk d0 := by
    obtain ⟨fuel, hf⟩ := h0
    rcases open_ints Try.underlying22 Try.underlying5 (by kernel_rfl) hf with ⟨hcs, hx⟩ | ⟨x, l, c, zs, hcs, _, hl, hm, hz, hx, hcell, hwz⟩
    · simp [Value.cells] at hcs
      obtain ⟨rfl, rfl, rfl⟩ := hcs
      exact ⟨[], .inl ⟨rfl, rfl, rfl, rfl⟩, by omega, by omega⟩
    · simp [Value.cells] at hcs
      obtain ⟨rfl, rfl, rfl⟩ := hcs
      have hd : d0 = .slice (lits .u8 (zs.take len0)) (lits .u8 (zs.drop len0)) := (Prod.mk.inj hx).1
      have hz' : zs.length = cap0 := by simpa using hz
      have hr : cap0 ≤ 140737488351232 := by
        have := sized_slice hsz (j := 0) (t := 22) (e := 5) rfl (by rw [← hd]; rfl) Try.underlying22
        rw [bytes_e] at this
        simp only [lits, List.length_map, List.length_take, List.length_drop, reachBytes] at this
        omega
      exact ⟨zs, .inr ⟨_, rfl, hl, hm, hz', hcell, hwz⟩, hr, by rw [hd]; exact bulk_row (by omega)⟩
  have small : cap0 ≤ 1048576 := by
    have hu : Rows.uptoBulkAll [d0] ≤ 1048576 := of_decide_eq_true hk
    simp only [Rows.uptoBulkAll] at hu
    omega
  clear hA0 hval0
  refine (walk a0 len0 cap0 z0 W w0 r0 small).mono fun e W' ⟨he, bel⟩ => ?_
  subst he
  exact ⟨_, rfl, _, _, _, [], _, [], hW', trodAll_mk1 (shut_bool Try.underlying4 _), (trodAll_cons_mk (Below.trod laidOut (by kernel_rfl) (of_decide_eq_true (by kernel_rfl)) k0 bel lt0) trodAll_mk0), rfl, bel.frame _, fun h => by cases h⟩

theorem over : Rows.utfReadsUptoRow.holds Try.pinned (Rows.OpenSpec.upto Rows.utfReadsSpec) :=
  OpenClaim.holds_of_cond 3 Try.f3 rfl rfl rfl rfl rfl rfl rfl ⟨rfl, rfl, rfl, rfl, rfl⟩ rfl rfl rfl rfl rfl (by kernel_rfl) Try.func3 (by kernel_rfl)
    (of_decide_eq_true (by kernel_rfl)) (by unfold Func.isWrapper; first | (rw [if_pos (by decide +kernel)]; kernel_rfl) | (rw [if_neg (by decide +kernel)]; exact ⟨rfl, rfl⟩))
    (fun os started H enc _ F => lifted os started H enc F)

end Go.Proofs.Ytjnhobohnkhpoaa.utfReadsUpto
namespace Go.Proofs.Ytjnhobohnkhpoaa

theorem utfReadsUpto_holds : Rows.UtfReadsUptoSaid := utfReadsUpto.over
#print axioms utfReadsUpto_holds
end Go.Proofs.Ytjnhobohnkhpoaa
