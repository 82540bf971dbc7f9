/-
  The fault of a string where no whole character stands: jlex.brokenFault.
-/
import Derived.Test.YtfkoghmbkgbgbaaDoorJst
import Derived.Test.YtfkoghmbkgbgbaaDoorJbd
namespace Go.Proofs.YtfkoghmbkgbgbaaDoor
open Go.RowKit
set_option linter.unusedVariables false
theorem field_at (x y : Value) (w : World) : Sem.run Tryd.prog (Instr.field 26 (.agg #[x, y]) 1) w = .ok y w := by
  have t1 := Tryd.underlying26
  simp [Instr.field, run_underlying t1, asAgg, part, go_sem, Tryd.isAgg3, Tryd.sizeOf3]
theorem convB_below (w : World) (s : ByteArray) : Below w.heap.size w (Lib.bytesWorld w 5 s) := ⟨rfl, rfl, rfl, by rw [Lib.bytesWorld_size]; omega, fun k hk => Lib.bytesWorld_at_old w 5 s k hk⟩
theorem at_bad {b : List Int} (h0 : b ≠ []) (h : ¬ Good b) : atL b = badB b := (why_some (by rw [runes_bad h0 h])).2.1
/-- utf.Check of a string's bytes. -/
theorem check_str (t : ByteArray) (w : World) (hs : t.size ≤ 10000000) : ∃ g n c W, (convert 9 22 (.string t)).run Tryd.prog w = .ok (.slice (some ⟨g, 0, none⟩) n c) W ∧ Below w.heap.size w W ∧ Calls Tryd.prog 27 #[.slice (some ⟨g, 0, none⟩) n c] W fun e w' => e = .returned (.agg #[.int .i64 (whyL (bs t) : Nat), .int .i64 (atL (bs t) : Nat)]) ∧ Below W.heap.size W w' := by
  have hcv := Lib.run_convert_string_bytes (P := Tryd.prog) w 9 22 5 t Tryd.underlying9 Tryd.underlying22 Tryd.underlying5
  obtain ⟨gC, nC, cC, hvC, hlC, hcC, hcC', hBC⟩ := (own_conv w t (by omega)).form
  have hvC' : (Value.slice (some ⟨w.heap.size, 0, none⟩) t.size (grownCap w t.size 0 5)) = Value.slice (some ⟨gC, 0, none⟩) nC cC := hvC
  rw [hvC'] at hcv
  exact ⟨gC, nC, cC, Lib.bytesWorld w 5 t, hcv, convB_below w t, check_any (some ⟨gC, 0, none⟩) nC cC (bs t) (Lib.bytesWorld w 5 t) hlC.out hBC.out hcC (by have := hlC.out; rw [bs_len] at this; omega)⟩
set_option maxHeartbeats 2000000 in
set_option maxRecDepth 100000 in
/-- jlex.brokenFault. -/
theorem brkf_any (s : ByteArray) (p : Nat) (free : Bool) (w : World) (hp : p < s.size) (hs : s.size ≤ 10000000) (hb : ¬ Good ((bs s).drop p)) :
    Calls Tryd.prog 39 #[.string s, .int .i64 (p : Int), .bool free] w fun e w' => e = .returned (.agg #[.int .i64 ((brkR ((bs s).drop p) p free).1 : Nat), .int .i64 ((brkR ((bs s).drop p) p free).2 : Nat)]) ∧ Below w.heap.size w w' := by
  have hA := alloc_below w (.cells #[.int .i64 0, .int .i64 0] 26)
  have B0 : Hid (Below w.heap.size w (w.alloc (.cells #[.int .i64 0, .int .i64 0] 26))) := hA
  have K0 : Hid (Blk (w.alloc (.cells #[.int .i64 0, .int .i64 0] 26)) w.heap.size #[.int .i64 0, .int .i64 0] 26) := blk_new w _ _
  have h0 : (bs s).drop p ≠ [] := by intro h; have := congrArg List.length h; rw [List.length_drop, bs_len] at this; simp at this; omega
  obtain ⟨gC, nC, cC, W, hcv, BC, kC⟩ := check_str (s.extract p s.size) (w.alloc (.cells #[.int .i64 0, .int .i64 0] 26)) (by rw [ext_size (by omega)]; omega)
  rw [bs_from, at_bad h0 hb] at kC
  have hz0 : (0 : Int) ≤ (p : Int) := by omega
  have hz1 : (p : Int) ≤ ((s.size : Nat) : Int) := by omega
  have hle : p + badB ((bs s).drop p) ≤ s.size := by have := bad_le h0 hb; rw [List.length_drop, bs_len] at this; omega
  have W1 : IntKind.i64.wrap ((p : Int) + ((badB ((bs s).drop p) : Nat) : Int)) = ((p + badB ((bs s).drop p) : Nat) : Int) := by rw [IntKind.wrap_i64]; omega
  have KW : Hid (Blk W w.heap.size #[.int .i64 0, .int .i64 0] 26) := K0.out.kept BC K0.out.lt
  have BW : Hid (Below w.heap.size w W) := B0.out.trans (BC.mono B0.out.size)
  have hlen : ((bs s).drop p).length = s.size - p := by rw [List.length_drop, bs_len]
  have hR : brkR ((bs s).drop p) p free = if badB ((bs s).drop p) = 0 then (6, p) else if free = false then (5, p) else if badB ((bs s).drop p) = ((bs s).drop p).length then (3, p + badB ((bs s).drop p)) else (6, p + badB ((bs s).drop p)) := rfl
  rw [hR, hlen]
  generalize whyL ((bs s).drop p) = Y at *
  generalize badB ((bs s).drop p) = D at *
  have hfw : ∀ (x y : Value) (w : World), Sem.run Tryd.prog (Instr.field 26 (.agg #[x, y]) 1) w = .ok y w := field_at
  clear hR hlen h0 hb hA BC K0 B0
  by_cases h1 : D = 0
  · have a1 : (((p + D : Nat) : Int) == (p : Int)) = true := by simp; omega
    rw [if_pos h1]
    generalize p + D = PD at *
    clear h1
    go_enter Tryd.func39, Tryd.ntmps39
    go_wp2_with (go_at_call 27; refine kC.mono ?_; rintro e w2 ⟨rfl, hb2⟩; have K2 := KW.out.kept hb2 KW.out.lt; have c0 : w2.cell? ⟨w.heap.size, 0, none⟩ = some (.int .i64 0) := K2.cell 0; have c1 : w2.cell? ⟨w.heap.size, 1, none⟩ = some (.int .i64 0) := K2.cell 1; have f0 := K2.fz 0; have f1 := K2.fz 1; have B2 : Hid (Below w.heap.size w w2) := BW.out.trans (hb2.mono BW.out.size))
    refine bodyPost_ret (v := .agg #[.int .i64 6, .int .i64 (p : Int)]) (by simp [results, Tryd.results39, go_sem, *]) rfl ⟨rfl, ?_⟩
    refine Below.setCell (Below.setCell B2.out ?_ _) ?_ _ <;> simp
  · have a1 : (((p + D : Nat) : Int) == (p : Int)) = false := by simp; omega
    rw [if_neg h1]
    cases free with
    | false =>
      rw [if_pos rfl]
      generalize p + D = PD at *
      clear h1
      go_enter Tryd.func39, Tryd.ntmps39
      go_wp2_with (go_at_call 27; refine kC.mono ?_; rintro e w2 ⟨rfl, hb2⟩; have K2 := KW.out.kept hb2 KW.out.lt; have c0 : w2.cell? ⟨w.heap.size, 0, none⟩ = some (.int .i64 0) := K2.cell 0; have c1 : w2.cell? ⟨w.heap.size, 1, none⟩ = some (.int .i64 0) := K2.cell 1; have f0 := K2.fz 0; have f1 := K2.fz 1; have B2 : Hid (Below w.heap.size w w2) := BW.out.trans (hb2.mono BW.out.size))
      refine bodyPost_ret (v := .agg #[.int .i64 5, .int .i64 (p : Int)]) (by simp [results, Tryd.results39, go_sem, *]) rfl ⟨rfl, ?_⟩
      refine Below.setCell (Below.setCell B2.out ?_ _) ?_ _ <;> simp
    | true =>
      rw [if_neg (by simp)]
      by_cases h2 : D = s.size - p
      · have a2 : (((p + D : Nat) : Int) == ((s.size : Nat) : Int)) = true := by simp; omega
        rw [if_pos h2]
        generalize p + D = PD at *
        clear h1 h2
        go_enter Tryd.func39, Tryd.ntmps39
        go_wp2_with (go_at_call 27; refine kC.mono ?_; rintro e w2 ⟨rfl, hb2⟩; have K2 := KW.out.kept hb2 KW.out.lt; have c0 : w2.cell? ⟨w.heap.size, 0, none⟩ = some (.int .i64 0) := K2.cell 0; have c1 : w2.cell? ⟨w.heap.size, 1, none⟩ = some (.int .i64 0) := K2.cell 1; have f0 := K2.fz 0; have f1 := K2.fz 1; have B2 : Hid (Below w.heap.size w w2) := BW.out.trans (hb2.mono BW.out.size))
        refine bodyPost_ret (v := .agg #[.int .i64 3, .int .i64 (PD : Nat)]) (by simp [results, Tryd.results39, go_sem, *]) rfl ⟨rfl, ?_⟩
        refine Below.setCell (Below.setCell B2.out ?_ _) ?_ _ <;> simp
      · have a2 : (((p + D : Nat) : Int) == ((s.size : Nat) : Int)) = false := by simp; omega
        rw [if_neg h2]
        generalize p + D = PD at *
        clear h1 h2
        go_enter Tryd.func39, Tryd.ntmps39
        go_wp2_with (go_at_call 27; refine kC.mono ?_; rintro e w2 ⟨rfl, hb2⟩; have K2 := KW.out.kept hb2 KW.out.lt; have c0 : w2.cell? ⟨w.heap.size, 0, none⟩ = some (.int .i64 0) := K2.cell 0; have c1 : w2.cell? ⟨w.heap.size, 1, none⟩ = some (.int .i64 0) := K2.cell 1; have f0 := K2.fz 0; have f1 := K2.fz 1; have B2 : Hid (Below w.heap.size w w2) := BW.out.trans (hb2.mono BW.out.size))
        refine bodyPost_ret (v := .agg #[.int .i64 6, .int .i64 (PD : Nat)]) (by simp [results, Tryd.results39, go_sem, *]) rfl ⟨rfl, ?_⟩
        refine Below.setCell (Below.setCell B2.out ?_ _) ?_ _ <;> simp
end Go.Proofs.YtfkoghmbkgbgbaaDoor
