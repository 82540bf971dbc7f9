/-
  For all parts of bulk at most 1048576, fed one behind the other: less than a frame's bytes wait, and each byte is waiting, lost, or of a load found; and a load is framed and found; the parts stay as they were.
-/
import Derived.Test.YticlobjikpfcjabRows
import Derived.Test.YticlobjikpfcjabAmong
import Derived.WalkKit
import Derived.ProofKit
import Derived.OpenShut
import Derived.ShutString
import Derived.ChangeOld
import Derived.Below
import Derived.SizedLaws
import Derived.Deep.CondSized
namespace Go.Proofs.Yticlobjikpfcjab.frameFewUpto
open Go.ChangeShapes Go.WideShapes Go.ChangeAt Go.RowKit
open Go.ChangeMaps (open_string shut_string)
set_option linter.unusedVariables false

theorem own : ownKnob Try.prog.godebug = none := by kernel_rfl
theorem laidOut : laidOutB Try.prog = true := by kernel_rfl
theorem bytes_e : Try.prog.bytesOf 5 = 1 := by kernel_rfl

theorem bulk_lits {H : Type} (k : IntKind) (zs : List Int) : Rows.uptoBulkAll (H := H) (lits k zs) = zs.length := by
  induction zs with
  | nil => rfl
  | cons z zs ih =>
    show Rows.uptoBulk (H := H) (.lit (.int k z)) + Rows.uptoBulkAll (H := H) (lits k zs) = _
    rw [ih, List.length_cons]
    show 1 + zs.length = _
    omega
theorem bulk_row {H : Type} {zs : List Int} {len cap : Nat} (h : cap ≤ zs.length) : cap ≤ Rows.uptoBulk (H := H) (.slice (lits .u8 (zs.take len)) (lits .u8 (zs.drop len))) := by
  simp only [Rows.uptoBulk, bulk_lits, List.length_take, List.length_drop]
  omega
theorem bulk_int {H : Type} (A : Option Addr) (L : Nat) (Z : List Int) (hn : A = none → Z = []) : (Z.take L).length + 1 ≤ Rows.uptoBulk (H := H) (Go.Deep.intRow .u8 A L Z) := by
  cases A with
  | none => rw [hn rfl]; simp [Go.Deep.intRow, Rows.uptoBulk]
  | some x =>
    simp only [Go.Deep.intRow, Rows.uptoBulk, bulk_lits]
    omega
theorem bulk_map {H : Type} (f : Nat → DataW H) (F : Nat → List Int) (l : List Nat) (h : ∀ r ∈ l, (F r).length + 1 ≤ Rows.uptoBulk (f r)) : tot (l.map F) + l.length ≤ Rows.uptoBulkAll (l.map f) := by
  induction l with
  | nil => simp [tot, Rows.uptoBulkAll]
  | cons r l ih =>
    have h1 := h r (by simp)
    have h2 := ih fun x hx => h x (by simp [hx])
    simp only [tot, List.map_cons, List.sum_cons, List.length_cons, Rows.uptoBulkAll] at *
    omega
theorem bulk_rows {H : Type} (A : Nat → Option Addr) (L : Nat → Nat) (Z : Nat → List Int) (len : Nat) (spare : List (DataW H)) (hn : ∀ r, r < len → A r = none → Z r = []) :
    tot ((List.range len).map fun r => (Z r).take (L r)) + len ≤ Rows.uptoBulk (H := H) (.slice ((List.range len).map fun r => Go.Deep.intRow .u8 (A r) (L r) (Z r)) spare) := by
  have h := bulk_map (H := H) (fun r => Go.Deep.intRow .u8 (A r) (L r) (Z r)) (fun r => (Z r).take (L r)) (List.range len) fun r hr => bulk_int _ _ _ (hn r (List.mem_range.1 hr))
  simp only [Rows.uptoBulk, List.length_range] at *
  omega

set_option maxHeartbeats 4000000 in
theorem walk (a0 : Option Addr) (len0 cap0 : Nat) (L0 : List (List Int)) (w : World) (w0 : IsRows w a0 len0 cap0 L0) (small : (tot L0 + len0) ≤ 1048576) :
    Calls Try.prog 3 #[.slice a0 len0 cap0] w fun e w' => e = .returned (.bool true) ∧ Below w.heap.size w w' := by
  obtain ⟨hl0, hlc0, hcm0, hn0, hI0⟩ := w0
  have hA : Hid (Lists w w.heap.size a0 L0) := hI0
  have hLA : Hid (L0.length = len0) := hl0
  have hS0 : Hid (tot L0 + len0 ≤ 1048576) := small
  have hm0 : len0 ≤ 1048576 := by omega
  clear hI0 hl0 small hcm0 hn0
  go_enter Try.func3, Try.ntmps3
  go_wp2_with fail
  refine (new_any w).mono ?_
  rintro e x1 ⟨g, rfl, hs1, hgs, hb1⟩
  have hz1 := hb1.size
  go_wp2_with (go_at_call 6; refine (alive_any x1).mono ?_; rintro e x2 ⟨rfl, hb2⟩)
  have hs2 : Hid (Stm x2 g (waitS []) (lostS [])) := stm_new (hs1.kept hb2)
  have hbx2 : Below w.heap.size w x2 := hb1.trans (hb2.mono hz1)
  clear hs1 hb1 hb2 hz1
  go_loopw [4, 5, 19] (fun i f j wr => ∃ (k al fo : Nat) (P : List Int), k ≤ len0 ∧ j = .int .i64 k ∧ i = .int .i64 al ∧ f = .int .i64 fo ∧ Hid (al = P.length) ∧ Hid (fo = sz (scanL P).1) ∧ Hid (Stm wr g (waitS P) (lostS P)) ∧ Hid (P.length = tot (L0.take k)) ∧ Below w.heap.size w wr) (fun _ _ j _ => len0 - (intOf j).toNat)
  case atStart => exact ⟨0, 0, 0, [], Nat.zero_le _, rfl, rfl, rfl, rfl, (by show _ = _; rw [scan_nil]; rfl), hs2, (by show _ = _; simp [tot]), hbx2⟩
  case round =>
    obtain ⟨k, al, fo, P, hk, rfl, rfl, rfl, hal, hfo, hstm, hPl, hbr⟩ := hrel
    have hzr := hbr.size
    by_cases hlt : k < len0
    · obtain ⟨l, b, off, a2, n2, c2, rfl, hcell, hl2, hB2, hn2, hc2, hm2, -, ht2, -⟩ := old_load hA.out hbr (k := k) (by rw [hLA.out]; exact hlt)
      have hT2 : Hid (tot (L0.take (k + 1)) = tot (L0.take k) + n2) := by show _ = _; rw [tot_next ht2.out, hl2.out]
      have hn2' : al + n2 ≤ 1048576 := by
        have h1 := hT2.out
        have h2 := tot_take L0 (k + 1)
        have h3 := hS0.out
        have h4 := hPl.out
        have h5 := hal.out
        omega
      have j1 : (k : Int) < (len0 : Int) := by omega
      go_wp2_with fail
      refine (feed_next g P a2 n2 c2 l wr hstm.out hl2.out (hB2.out.kept hbr) hn2.out (by omega) (by have := hal.out; omega)).mono ?_
      rintro e y1 ⟨v1, M, rfl, ho1, -, hM, hst1, hg1⟩
      have hby1 : Below w.heap.size w y1 := hbr.grown hg1 hzr (fun k hk => by cases hk; omega)
      obtain ⟨a6, n6, c6, rfl, hl6, hn6, hc6, hm6, hL6⟩ := ho1.lists
      have hS1 : Hid (Stm y1 g (waitS (P ++ l)) (lostS (P ++ l))) := hst1
      have hsum : Hid (fo + sz M = sz (scanL (P ++ l)).1) := by show _ = _; rw [hM.out, sz_append, hfo.out]
      have hall := wait_all (P ++ l)
      have hlen : Hid ((P ++ l).length = al + n2) := by show _ = _; rw [List.length_append, hal.out, hl2.out]
      have hfb : fo + sz M ≤ 1048576 := by rw [hsum.out]; have := hlen.out; omega
      have hnew : Hid ((P ++ l).length = tot (L0.take (k + 1))) := by show _ = _; rw [hT2.out, ← hPl.out, List.length_append, hl2.out]
      have kw := waits_any g _ _ y1 hst1
      have kl := lost_any g _ _ y1 hst1
      have hq := wait_lt (P ++ l)
      rw [← hsum.out, hlen.out] at hall
      have hE : Hid (∀ x, x = fo + sz M → (waitS (P ++ l)).length + lostS (P ++ l) + x = al + n2) := by intro x hx; rw [hx]; exact hall
      clear ho1 hst1 hg1 hstm hal hfo hPl hT2 hB2 hcell hall
      generalize (waitS (P ++ l)).length = qn at *
      generalize hlo : lostS (P ++ l) = lo at *
      have hqs : qn + lo ≤ 1048576 := by have := hE.out _ rfl; omega
      rw [← hlo] at hS1
      have hlo' : Hid (lostS (P ++ l) = lo) := hlo
      clear hlo
      have fin : Hid (∀ f : Nat, f = fo + sz M → qn + lo + f = al + n2) := hE.out
      clear hE
      rcases hL6.out.2 with h0 | ⟨b6, o6, vs, rfl, _, hvl, hcl⟩
      · obtain rfl : n6 = 0 := by rw [← hl6.out, h0]; rfl
        go_wp2
        go_loop [5, 31] (fun f i => i = .int .i64 0 ∧ f = .int .i64 fo) (fun _ _ => 0)
        case atStart => exact ⟨rfl, rfl⟩
        case round =>
          obtain ⟨rfl, rfl⟩ := hrel
          have hf : Hid (fo = fo + sz M) := by show _ = _; rw [h0]; rfl
          have hfo' : ∃ f : Nat, f = fo := ⟨fo, rfl⟩
          clear h0
          have d1 : decide ((qn : Int) < 0) = false := by simp
          have d2 : decide ((1208 : Int) ≤ (qn : Int)) = false := by simp; omega
          have d3 : decide ((lo : Int) < 0) = false := by simp
          have hbal := fin.out fo hf.out
          have d4 : (((qn : Int) + (lo : Int) + (fo : Int)) != ((al : Int) + (n2 : Int))) = false := by rw [bne_eq_false_iff_eq]; omega
          have hf2 : Hid (fo = sz (scanL (P ++ l)).1) := hf.out.trans hsum.out
          clear hbal
          go_wp2_with (first | (go_at_call 8; refine kw.mono ?_; rintro e y2 ⟨rfl, hw⟩; obtain rfl : y1 = y2 := hw.symm) | (go_at_call 9; refine kl.mono ?_; rintro e y2 ⟨rfl, hw⟩; obtain rfl : y1 = y2 := hw.symm))
          go_roundw
          case rel => exact ⟨k + 1, al + n2, fo, P ++ l, by omega, by go_num, by go_num, rfl, hlen.out.symm, hf2, hS1, hnew, hby1⟩
          case measure => simp [intOf]; omega
      · have hC : Hid (∀ i u, vs[i]? = some u → y1.cell? ⟨b6, o6 + i, none⟩ = some u ∧ Load y1 0 u (M.getD i [])) := hcl
        have hV : Hid (vs.length = M.length) := hvl
        have hmm := hL6.out.1
        rw [hl6.out] at hmm
        unfold maxLen at hmm
        clear hcl hvl
        go_wp2
        go_loop [5, 31] (fun f i => ∃ (t m : Nat), t ≤ n6 ∧ i = .int .i64 t ∧ f = .int .i64 m ∧ Hid (m = fo + sz (M.take t))) (fun _ i => n6 - (intOf i).toNat)
        case atStart => exact ⟨0, fo, Nat.zero_le _, rfl, rfl, rfl⟩
        case round =>
          obtain ⟨t, f, ht, rfl, rfl, hft⟩ := hrel
          by_cases htl : t < n6
          · obtain ⟨l7, a7, n7, c7, hcell7, hl7, -, -, hc7, hm7, -, ht7, -⟩ := next_load hV.out hC.out (k := t) (by rw [hl6.out]; exact htl)
            have hs2 : Hid (f + (n7 + 8) = fo + sz (M.take (t + 1))) := by
              show _ = _
              rw [ht7.out, sz_append, hft.out, sz_cons, hl7.out]; simp [sz]; omega
            have hb7 : f + (n7 + 8) ≤ 1048576 := by
              rw [hs2.out]
              have := sz_take M (t + 1)
              omega
            have j7 : (t : Int) < (n6 : Int) := by omega
            go_wp2
            go_round
            case rel => exact ⟨t + 1, f + (n7 + 8), by omega, by go_num, by go_num, hs2⟩
            case measure => simp [intOf]; omega
          · have hf : Hid (f = fo + sz M) := by show _ = _; rw [hft.out, List.take_of_length_le (by rw [hl6.out]; omega)]
            have j7 : ¬ (t : Int) < (n6 : Int) := by omega
            have hfb' : f ≤ 1048576 := by rw [hf.out]; exact hfb
            clear hft
            have d1 : decide ((qn : Int) < 0) = false := by simp
            have d2 : decide ((1208 : Int) ≤ (qn : Int)) = false := by simp; omega
            have d3 : decide ((lo : Int) < 0) = false := by simp
            have hbal := fin.out f hf.out
            have d4 : (((qn : Int) + (lo : Int) + (f : Int)) != ((al : Int) + (n2 : Int))) = false := by rw [bne_eq_false_iff_eq]; omega
            have hf2 : Hid (f = sz (scanL (P ++ l)).1) := hf.out.trans hsum.out
            clear hbal
            go_wp2_with (first | (go_at_call 8; refine kw.mono ?_; rintro e y2 ⟨rfl, hw⟩; obtain rfl : y1 = y2 := hw.symm) | (go_at_call 9; refine kl.mono ?_; rintro e y2 ⟨rfl, hw⟩; obtain rfl : y1 = y2 := hw.symm))
            go_roundw
            case rel => exact ⟨k + 1, al + n2, f, P ++ l, by omega, by go_num, by go_num, rfl, hlen.out.symm, hf2, hS1, hnew, hby1⟩
            case measure => simp [intOf]; omega
    · have j1 : ¬ (k : Int) < (len0 : Int) := by omega
      go_wp2
      go_ret
      exact ⟨rfl, hbr⟩

set_option maxRecDepth 100000 in
theorem lifted (os : Os) (started : os.Started) (H : Type) (enc : TypeId × Value → H) (F : Stop.Interp) :
    ReturnsInHanded {} Try.checked os 3 .any ((Rows.OpenSpec.upto Rows.frameFewSpec).pre6 enc Try.prog Try.f3 Rows.frameFewUptoRow.domain false) (((Rows.OpenSpec.upto Rows.frameFewSpec).at F).post enc Try.prog Try.f3 false true false false) := by
  refine returnsInHanded_of_cond_sized (C := Try.checked) (s := Rows.OpenSpec.upto Rows.frameFewSpec) (k := Rows.uptoSmall) rfl own started (by kernel_rfl) Try.func3
    (OpenSpec.witness (enc := enc) (C := Try.checked) (s := Rows.OpenSpec.upto Rows.frameFewSpec) (k := Rows.uptoSmall) rfl false ⟨#[], #[.slice none 0 0], []⟩ 8 (by kernel_rfl) (by kernel_rfl) (by kernel_rfl)
      (x := ([.nil], [], [])) (by kernel_rfl) rfl (by kernel_rfl)) ?_
  intro W base args ds gs before hval0 hW _ hk hsz0 _
  have hval : ∀ (j : Nat) t v, Try.f3.params[j]? = some t → args[j]? = some v → Value.okWide Try.prog W .any base t v := hval0
  have hW' := hW
  have hsz : (DataW.weightsEach Try.prog (Try.f3.params.toList ++ (Rows.OpenSpec.upto Rows.frameFewSpec).bare.plain.varTypes Try.prog) (ds ++ gs)).all (· ≤ reachBytes) = true := hsz0
  obtain ⟨p, q, hA0, hV, rfl, hfz, hnd⟩ := hW
  have hA : DataW.TrodAll enc Try.prog W 0 (fun _ => true) true Try.f3.params.toList args.toList ds p := hA0
  rw [Try.params3] at hA hval hsz
  obtain ⟨v0, vs0, d0, ds0, p0, q0, hargs, rfl, rfl, h0, r0'⟩ := trodAll_cons hA
  obtain ⟨rfl, rfl, rfl⟩ := trodAll_nil r0'
  obtain rfl : args = #[v0] := by cases args; simp_all
  obtain ⟨rfl, rfl⟩ := trodVars_none hV
  obtain ⟨a0, len0, cap0, rfl⟩ := okWide_slice Try.underlying22 (hval 0 22 v0 rfl rfl)
  have k0 := h0
  have lt0 : ∀ x ∈ p0, x.block < W.heap.size := by obtain ⟨m, hm⟩ := k0; exact DataW.trod_lt m _ _ _ hm
  obtain ⟨L0, w0, bk0⟩ : ∃ Ls, IsRows W a0 len0 cap0 Ls ∧ tot Ls + len0 ≤ Rows.uptoBulk d0 := by
    obtain ⟨fuel, hf⟩ := h0
    rcases Go.Deep.open_int_rows Try.underlying22 Try.underlying26 Try.underlying5 (by kernel_rfl) (by kernel_rfl) hf with ⟨hcs, hx⟩ | ⟨x, l, c, A, L, C, Z, hcs, _, hl, hm, hx, hall⟩
    · simp [Value.cells] at hcs
      obtain ⟨rfl, rfl, rfl⟩ := hcs
      exact ⟨[], rows_nil W, by simp [tot]⟩
    · simp [Value.cells] at hcs
      obtain ⟨rfl, rfl, rfl⟩ := hcs
      have hd : d0 = _ := (Prod.mk.inj hx).1
      refine ⟨_, rows_in hl hm hall, ?_⟩
      rw [hd]
      exact bulk_rows A L Z len0 _ fun r hr hA => List.eq_nil_of_length_eq_zero ((hall r (by omega)).2.2.2.1.trans ((hall r (by omega)).2.2.2.2.2.1 hA))
  have small : (tot L0 + len0) ≤ 1048576 := by
    have hu : Rows.uptoBulkAll [d0] ≤ 1048576 := of_decide_eq_true hk
    simp only [Rows.uptoBulkAll] at hu
    omega
  clear hA0 hval0
  refine (walk a0 len0 cap0 L0 W w0 small).mono fun e W' ⟨he, bel⟩ => ?_
  subst he
  exact ⟨_, rfl, _, _, _, [], _, [], hW', trodAll_mk1 (shut_bool Try.underlying4 _), (trodAll_cons_mk (Below.trod laidOut (by kernel_rfl) (of_decide_eq_true (by kernel_rfl)) k0 bel lt0) trodAll_mk0), rfl, bel.frame _, fun h => by cases h⟩

theorem over : Rows.frameFewUptoRow.holds Try.pinned (Rows.OpenSpec.upto Rows.frameFewSpec) :=
  OpenClaim.holds_of_cond 3 Try.f3 rfl rfl rfl rfl rfl rfl rfl ⟨rfl, rfl, rfl, rfl, rfl⟩ rfl rfl rfl rfl rfl (by kernel_rfl) Try.func3 (by kernel_rfl)
    (of_decide_eq_true (by kernel_rfl)) (by unfold Func.isWrapper; first | (rw [if_pos (by decide +kernel)]; kernel_rfl) | (rw [if_neg (by decide +kernel)]; exact ⟨rfl, rfl⟩))
    (fun os started H enc _ F => lifted os started H enc F)

end Go.Proofs.Yticlobjikpfcjab.frameFewUpto
namespace Go.Proofs.Yticlobjikpfcjab

theorem frameFewUpto_holds : Rows.FrameFewUptoSaid := frameFewUpto.over
#print axioms frameFewUpto_holds
end Go.Proofs.Yticlobjikpfcjab
