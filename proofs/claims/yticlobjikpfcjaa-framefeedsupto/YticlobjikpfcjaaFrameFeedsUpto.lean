/-
  For all parts of bulk at most 1048576, and every place of a flush: a stream finds in the parts, and in the flush behind that part, what the document's stream finds, and has lost and keeps as many bytes; and a load is framed and found; the parts stay as they were.
-/
import Derived.Test.YticlobjikpfcjaaRows
import Derived.Test.YticlobjikpfcjaaFeeds
import Derived.WalkKit
import Derived.ProofKit
import Derived.OpenShut
import Derived.ShutString
import Derived.ChangeOld
import Derived.Below
import Derived.SizedLaws
import Derived.Deep.CondSized
namespace Go.Proofs.Yticlobjikpfcjaa.frameFeedsUpto
open Go.ChangeShapes Go.WideShapes Go.ChangeAt Go.RowKit
open Go.ChangeMaps (open_string shut_string)
set_option linter.unusedVariables false

theorem own : ownKnob Try.prog.godebug = none := by kernel_rfl
theorem laidOut : laidOutB Try.prog = true := by kernel_rfl
theorem bytes_e : Try.prog.bytesOf 5 = 1 := by kernel_rfl

theorem bulk_lits {H : Type} (k : IntKind) (zs : List Int) : Rows.uptoBulkAll (H := H) (lits k zs) = zs.length := by
  induction zs with
  | nil => rfl
  | cons z zs ih =>
    show Rows.uptoBulk (H := H) (.lit (.int k z)) + Rows.uptoBulkAll (H := H) (lits k zs) = _
    rw [ih, List.length_cons]
    show 1 + zs.length = _
    omega
theorem bulk_row {H : Type} {zs : List Int} {len cap : Nat} (h : cap ≤ zs.length) : cap ≤ Rows.uptoBulk (H := H) (.slice (lits .u8 (zs.take len)) (lits .u8 (zs.drop len))) := by
  simp only [Rows.uptoBulk, bulk_lits, List.length_take, List.length_drop]
  omega
theorem bulk_int {H : Type} (A : Option Addr) (L : Nat) (Z : List Int) (hn : A = none → Z = []) : (Z.take L).length + 1 ≤ Rows.uptoBulk (H := H) (Go.Deep.intRow .u8 A L Z) := by
  cases A with
  | none => rw [hn rfl]; simp [Go.Deep.intRow, Rows.uptoBulk]
  | some x =>
    simp only [Go.Deep.intRow, Rows.uptoBulk, bulk_lits]
    omega
theorem bulk_map {H : Type} (f : Nat → DataW H) (F : Nat → List Int) (l : List Nat) (h : ∀ r ∈ l, (F r).length + 1 ≤ Rows.uptoBulk (f r)) : tot (l.map F) + l.length ≤ Rows.uptoBulkAll (l.map f) := by
  induction l with
  | nil => simp [tot, Rows.uptoBulkAll]
  | cons r l ih =>
    have h1 := h r (by simp)
    have h2 := ih fun x hx => h x (by simp [hx])
    simp only [tot, List.map_cons, List.sum_cons, List.length_cons, Rows.uptoBulkAll] at *
    omega
theorem bulk_rows {H : Type} (A : Nat → Option Addr) (L : Nat → Nat) (Z : Nat → List Int) (len : Nat) (spare : List (DataW H)) (hn : ∀ r, r < len → A r = none → Z r = []) :
    tot ((List.range len).map fun r => (Z r).take (L r)) + len ≤ Rows.uptoBulk (H := H) (.slice ((List.range len).map fun r => Go.Deep.intRow .u8 (A r) (L r) (Z r)) spare) := by
  have h := bulk_map (H := H) (fun r => Go.Deep.intRow .u8 (A r) (L r) (Z r)) (fun r => (Z r).take (L r)) (List.range len) fun r hr => bulk_int _ _ _ (hn r (List.mem_range.1 hr))
  simp only [Rows.uptoBulk, List.length_range] at *
  omega

set_option maxHeartbeats 2000000 in
theorem walk (a0 : Option Addr) (len0 cap0 : Nat) (L0 : List (List Int)) (a1 : Int) (w : World) (w0 : IsRows w a0 len0 cap0 L0) (w1 : (Lit.int .i64 a1).wf = true) (small : (tot L0 + len0) ≤ 1048576) :
    Calls Try.prog 5 #[.slice a0 len0 cap0, .int .i64 a1] w fun e w' => e = .returned (.bool true) ∧ Below w.heap.size w w' := by
  exact feeds_walk a0 len0 cap0 L0 a1 w w0 w1 small

set_option maxRecDepth 100000 in
theorem lifted (os : Os) (started : os.Started) (H : Type) (enc : TypeId × Value → H) (F : Stop.Interp) :
    ReturnsInHanded {} Try.checked os 5 .any ((Rows.OpenSpec.upto Rows.frameFeedsSpec).pre6 enc Try.prog Try.f5 Rows.frameFeedsUptoRow.domain false) (((Rows.OpenSpec.upto Rows.frameFeedsSpec).at F).post enc Try.prog Try.f5 false true false false) := by
  refine returnsInHanded_of_cond_sized (C := Try.checked) (s := Rows.OpenSpec.upto Rows.frameFeedsSpec) (k := Rows.uptoSmall) rfl own started (by kernel_rfl) Try.func5
    (OpenSpec.witness (enc := enc) (C := Try.checked) (s := Rows.OpenSpec.upto Rows.frameFeedsSpec) (k := Rows.uptoSmall) rfl false ⟨#[], #[.slice none 0 0, .int .i64 0], []⟩ 8 (by kernel_rfl) (by kernel_rfl) (by kernel_rfl)
      (x := ([.nil, .lit (.int .i64 0)], [], [])) (by kernel_rfl) rfl (by kernel_rfl)) ?_
  intro W base args ds gs before hval0 hW _ hk hsz0 _
  have hval : ∀ (j : Nat) t v, Try.f5.params[j]? = some t → args[j]? = some v → Value.okWide Try.prog W .any base t v := hval0
  have hW' := hW
  have hsz : (DataW.weightsEach Try.prog (Try.f5.params.toList ++ (Rows.OpenSpec.upto Rows.frameFeedsSpec).bare.plain.varTypes Try.prog) (ds ++ gs)).all (· ≤ reachBytes) = true := hsz0
  obtain ⟨p, q, hA0, hV, rfl, hfz, hnd⟩ := hW
  have hA : DataW.TrodAll enc Try.prog W 0 (fun _ => true) true Try.f5.params.toList args.toList ds p := hA0
  rw [Try.params5] at hA hval hsz
  obtain ⟨v0, vs0, d0, ds0, p0, q0, hargs, rfl, rfl, h0, r0'⟩ := trodAll_cons hA
  obtain ⟨v1, vs1, d1, ds1, p1, q1, rfl, rfl, rfl, h1, r1'⟩ := trodAll_cons r0'
  obtain ⟨rfl, rfl, rfl⟩ := trodAll_nil r1'
  obtain rfl : args = #[v0, v1] := by cases args; simp_all
  obtain ⟨rfl, rfl⟩ := trodVars_none hV
  obtain ⟨a0, len0, cap0, rfl⟩ := okWide_slice Try.underlying31 (hval 0 31 v0 rfl rfl)
  have k0 := h0
  have lt0 : ∀ x ∈ p0, x.block < W.heap.size := by obtain ⟨m, hm⟩ := k0; exact DataW.trod_lt m _ _ _ hm
  obtain ⟨L0, w0, bk0⟩ : ∃ Ls, IsRows W a0 len0 cap0 Ls ∧ tot Ls + len0 ≤ Rows.uptoBulk d0 := by
    obtain ⟨fuel, hf⟩ := h0
    rcases Go.Deep.open_int_rows Try.underlying31 Try.underlying22 Try.underlying5 (by kernel_rfl) (by kernel_rfl) hf with ⟨hcs, hx⟩ | ⟨x, l, c, A, L, C, Z, hcs, _, hl, hm, hx, hall⟩
    · simp [Value.cells] at hcs
      obtain ⟨rfl, rfl, rfl⟩ := hcs
      exact ⟨[], rows_nil W, by simp [tot]⟩
    · simp [Value.cells] at hcs
      obtain ⟨rfl, rfl, rfl⟩ := hcs
      have hd : d0 = _ := (Prod.mk.inj hx).1
      refine ⟨_, rows_in hl hm hall, ?_⟩
      rw [hd]
      exact bulk_rows A L Z len0 _ fun r hr hA => List.eq_nil_of_length_eq_zero ((hall r (by omega)).2.2.2.1.trans ((hall r (by omega)).2.2.2.2.2.1 hA))
  obtain ⟨a1, rfl, rfl, rfl, w1⟩ := open_int Try.underlying3 (hval 1 3 v1 rfl rfl) h1
  have small : (tot L0 + len0) ≤ 1048576 := by
    have hu : Rows.uptoBulkAll [d0, DataW.lit (Lit.int .i64 a1)] ≤ 1048576 := of_decide_eq_true hk
    simp only [Rows.uptoBulkAll] at hu
    omega
  clear hA0 hval0
  refine (walk a0 len0 cap0 L0 a1 W w0 w1 small).mono fun e W' ⟨he, bel⟩ => ?_
  subst he
  exact ⟨_, rfl, _, _, _, [], _, [], hW', trodAll_mk1 (shut_bool Try.underlying4 _), (trodAll_cons_mk (Below.trod laidOut (by kernel_rfl) (of_decide_eq_true (by kernel_rfl)) k0 bel lt0) (trodAll_cons_mk (shut_int Try.underlying3 w1) trodAll_mk0)), rfl, bel.frame _, fun h => by cases h⟩

theorem over : Rows.frameFeedsUptoRow.holds Try.pinned (Rows.OpenSpec.upto Rows.frameFeedsSpec) :=
  OpenClaim.holds_of_cond 5 Try.f5 rfl rfl rfl rfl rfl rfl rfl ⟨rfl, rfl, rfl, rfl, rfl⟩ rfl rfl rfl rfl rfl (by kernel_rfl) Try.func5 (by kernel_rfl)
    (of_decide_eq_true (by kernel_rfl)) (by unfold Func.isWrapper; first | (rw [if_pos (by decide +kernel)]; kernel_rfl) | (rw [if_neg (by decide +kernel)]; exact ⟨rfl, rfl⟩))
    (fun os started H enc _ F => lifted os started H enc F)

end Go.Proofs.Yticlobjikpfcjaa.frameFeedsUpto
namespace Go.Proofs.Yticlobjikpfcjaa

theorem frameFeedsUpto_holds : Rows.FrameFeedsUptoSaid := frameFeedsUpto.over
#print axioms frameFeedsUpto_holds
end Go.Proofs.Yticlobjikpfcjaa
