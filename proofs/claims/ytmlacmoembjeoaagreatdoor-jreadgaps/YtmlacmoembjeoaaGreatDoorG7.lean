/-
  What reads a string's characters: jlex's reader, its digits and halves.
-/
import Derived.Test.YtmlacmoembjeoaaGreatDoorG6
namespace Go.Proofs.YtmlacmoembjeoaaGreatDoor
open Go.RowKit
set_option linter.unusedVariables false

/-- A reader's cells. -/
abbrev rdc (q : Int) (p : Option Addr) (v : Value) (num dig fst : Int) : Array Value := #[.int .i64 q, .pointer p, v, .int .i32 num, .int .i64 dig, .int .i32 fst]
/-- A READER in memory: its state, digits and first half, and the bytes read. -/
def Rdr (w : World) (g B : Nat) (q num dig fst : Nat) (zs : List Int) : Prop := ∃ p v, Bdr w g 1 B (rdc (q : Nat) p v (num : Nat) (dig : Nat) (fst : Nat)) 113 p v zs
theorem lies_rd : liesAt Tryz.prog Tryz.prog.depth 113 (6 / Tryz.prog.cellsOf 113) 1 111 1 = true := by kernel_rfl
theorem Bdr.other {w : World} {g o B : Nat} {cs : Array Value} {T : TypeId} {p : Option Addr} {v : Value} {zs : List Int} (h : Bdr w g o B cs T p v zs) (j : Nat) (h0 : j ≠ o) (h1 : j ≠ o + 1) (x : Value) : Bdr (w.setCell ⟨g, j, none⟩ x) g o B (cs.setIfInBounds j x) T p v zs :=
  ⟨h.blk.set j x, by rw [Array.getElem?_setIfInBounds_ne h0]; exact h.ptr, h.own, by rw [Array.getElem?_setIfInBounds_ne h1]; exact h.buf, by rw [Array.size_setIfInBounds]; exact h.lies, ⟨ownsRow_setCell_below h.row.1 (a := ⟨g, j, none⟩) h.low _, h.row.2⟩, h.low, Nat.le_trans h.top (Kq.set g B w j x).size⟩
theorem Rdr.c0 {w : World} {g B q num dig fst : Nat} {zs : List Int} (h : Rdr w g B q num dig fst zs) : w.cell? ⟨g, 0, none⟩ = some (.int .i64 (q : Nat)) := by obtain ⟨p, v, h⟩ := h; rw [h.blk.cell 0]; rfl
theorem Rdr.c3 {w : World} {g B q num dig fst : Nat} {zs : List Int} (h : Rdr w g B q num dig fst zs) : w.cell? ⟨g, 3, none⟩ = some (.int .i32 (num : Nat)) := by obtain ⟨p, v, h⟩ := h; rw [h.blk.cell 3]; rfl
theorem Rdr.c4 {w : World} {g B q num dig fst : Nat} {zs : List Int} (h : Rdr w g B q num dig fst zs) : w.cell? ⟨g, 4, none⟩ = some (.int .i64 (dig : Nat)) := by obtain ⟨p, v, h⟩ := h; rw [h.blk.cell 4]; rfl
theorem Rdr.c5 {w : World} {g B q num dig fst : Nat} {zs : List Int} (h : Rdr w g B q num dig fst zs) : w.cell? ⟨g, 5, none⟩ = some (.int .i32 (fst : Nat)) := by obtain ⟨p, v, h⟩ := h; rw [h.blk.cell 5]; rfl
theorem Rdr.fz {w : World} {g B q num dig fst : Nat} {zs : List Int} (h : Rdr w g B q num dig fst zs) (j : Nat) : w.frozen? ⟨g, j, none⟩ = false := by obtain ⟨p, v, h⟩ := h; exact h.blk.fz j
theorem Rdr.s0 {w : World} {g B q num dig fst : Nat} {zs : List Int} (h : Rdr w g B q num dig fst zs) (x : Nat) : Rdr (w.setCell ⟨g, 0, none⟩ (.int .i64 (x : Nat))) g B x num dig fst zs := by obtain ⟨p, v, h⟩ := h; exact ⟨p, v, h.other 0 (by omega) (by omega) _⟩
theorem Rdr.s3 {w : World} {g B q num dig fst : Nat} {zs : List Int} (h : Rdr w g B q num dig fst zs) (x : Nat) : Rdr (w.setCell ⟨g, 3, none⟩ (.int .i32 (x : Nat))) g B q x dig fst zs := by obtain ⟨p, v, h⟩ := h; exact ⟨p, v, h.other 3 (by omega) (by omega) _⟩
theorem Rdr.s4 {w : World} {g B q num dig fst : Nat} {zs : List Int} (h : Rdr w g B q num dig fst zs) (x : Nat) : Rdr (w.setCell ⟨g, 4, none⟩ (.int .i64 (x : Nat))) g B q num x fst zs := by obtain ⟨p, v, h⟩ := h; exact ⟨p, v, h.other 4 (by omega) (by omega) _⟩
theorem Rdr.s5 {w : World} {g B q num dig fst : Nat} {zs : List Int} (h : Rdr w g B q num dig fst zs) (x : Nat) : Rdr (w.setCell ⟨g, 5, none⟩ (.int .i32 (x : Nat))) g B q num dig x zs := by obtain ⟨p, v, h⟩ := h; exact ⟨p, v, h.other 5 (by omega) (by omega) _⟩
theorem Rdr.low {w : World} {g B q num dig fst : Nat} {zs : List Int} (h : Rdr w g B q num dig fst zs) : g < B := by obtain ⟨p, v, h⟩ := h; exact h.low

set_option maxHeartbeats 1000000 in
/-- jlex.onlyWith. -/
theorem only_any (r k : Nat) (q : Int) (w : World) (v : Bool) (hv : ((r : Int) == (k : Int)) = v) : Calls Tryz.prog 121 #[.int .i32 (r : Int), .int .i32 (k : Int), .int .i64 q] w fun e w' => e = .returned (.int .i64 (if v = true then q else 6)) ∧ w' = w := by
  cases v with
  | true =>
    go_enter Tryz.func121, Tryz.ntmps121
    go_wp2
    go_ret
    exact ⟨rfl, rfl⟩
  | false =>
    go_enter Tryz.func121, Tryz.ntmps121
    go_wp2
    go_ret
    exact ⟨rfl, rfl⟩
/-- What digitOf tells. -/
def hexI (r : Nat) : Int := match hexD r with | some d => (d : Nat) | none => -1
set_option maxHeartbeats 2000000 in
/-- jlex.digitOf. -/
theorem digit_any (r : Nat) (hr : r ≤ 1114111) (w : World) : Calls Tryz.prog 140 #[.int .i32 (r : Int)] w fun e w' => e = .returned (.int .i32 (hexI r)) ∧ w' = w := by
  by_cases h0 : r ≤ 47
  · have a1 : decide ((48 : Int) ≤ (r : Int)) = false := by simp; omega
    have a2 : decide ((r : Int) ≤ 57) = true := by simp; omega
    have a3 : decide ((97 : Int) ≤ (r : Int)) = false := by simp; omega
    have a4 : decide ((r : Int) ≤ 102) = true := by simp; omega
    have a5 : decide ((65 : Int) ≤ (r : Int)) = false := by simp; omega
    have a6 : decide ((r : Int) ≤ 70) = true := by simp; omega
    have hR : hexI r = -1 := by unfold hexI hexD; rw [if_neg (by omega), if_neg (by omega), if_neg (by omega)]
    rw [hR]
    clear hR
    clear hr h0
    go_enter Tryz.func140, Tryz.ntmps140
    go_wp2
    go_ret
    exact ⟨rfl, rfl⟩
  by_cases h1 : r ≤ 57
  · have a1 : decide ((48 : Int) ≤ (r : Int)) = true := by simp; omega
    have a2 : decide ((r : Int) ≤ 57) = true := by simp; omega
    have a3 : decide ((97 : Int) ≤ (r : Int)) = false := by simp; omega
    have a4 : decide ((r : Int) ≤ 102) = true := by simp; omega
    have a5 : decide ((65 : Int) ≤ (r : Int)) = false := by simp; omega
    have a6 : decide ((r : Int) ≤ 70) = true := by simp; omega
    have hR : hexI r = ((r : Int) - 48) := by unfold hexI hexD; rw [if_pos (by omega)]; show ((r - 48 : Nat) : Int) = _; omega
    rw [hR]
    clear hR
    have w1 : IntKind.i32.wrap ((r : Int) - 48) = (r : Int) - 48 := by rw [IntKind.wrap_i32]; omega
    clear hr h0 h1
    go_enter Tryz.func140, Tryz.ntmps140
    go_wp2
    go_ret
    exact ⟨rfl, rfl⟩
  by_cases h2 : r ≤ 64
  · have a1 : decide ((48 : Int) ≤ (r : Int)) = true := by simp; omega
    have a2 : decide ((r : Int) ≤ 57) = false := by simp; omega
    have a3 : decide ((97 : Int) ≤ (r : Int)) = false := by simp; omega
    have a4 : decide ((r : Int) ≤ 102) = true := by simp; omega
    have a5 : decide ((65 : Int) ≤ (r : Int)) = false := by simp; omega
    have a6 : decide ((r : Int) ≤ 70) = true := by simp; omega
    have hR : hexI r = -1 := by unfold hexI hexD; rw [if_neg (by omega), if_neg (by omega), if_neg (by omega)]
    rw [hR]
    clear hR
    clear hr h0 h1 h2
    go_enter Tryz.func140, Tryz.ntmps140
    go_wp2
    go_ret
    exact ⟨rfl, rfl⟩
  by_cases h3 : r ≤ 70
  · have a1 : decide ((48 : Int) ≤ (r : Int)) = true := by simp; omega
    have a2 : decide ((r : Int) ≤ 57) = false := by simp; omega
    have a3 : decide ((97 : Int) ≤ (r : Int)) = false := by simp; omega
    have a4 : decide ((r : Int) ≤ 102) = true := by simp; omega
    have a5 : decide ((65 : Int) ≤ (r : Int)) = true := by simp; omega
    have a6 : decide ((r : Int) ≤ 70) = true := by simp; omega
    have hR : hexI r = ((r : Int) - 55) := by unfold hexI hexD; rw [if_neg (by omega), if_neg (by omega), if_pos (by omega)]; show ((r - 55 : Nat) : Int) = _; omega
    rw [hR]
    clear hR
    have w1 : IntKind.i32.wrap ((r : Int) - 65) = (r : Int) - 65 := by rw [IntKind.wrap_i32]; omega
    have w2 : IntKind.i32.wrap ((r : Int) - 65 + 10) = (r : Int) - 55 := by rw [IntKind.wrap_i32]; omega
    clear hr h0 h1 h2 h3
    go_enter Tryz.func140, Tryz.ntmps140
    go_wp2
    go_ret
    exact ⟨rfl, rfl⟩
  by_cases h4 : r ≤ 96
  · have a1 : decide ((48 : Int) ≤ (r : Int)) = true := by simp; omega
    have a2 : decide ((r : Int) ≤ 57) = false := by simp; omega
    have a3 : decide ((97 : Int) ≤ (r : Int)) = false := by simp; omega
    have a4 : decide ((r : Int) ≤ 102) = true := by simp; omega
    have a5 : decide ((65 : Int) ≤ (r : Int)) = true := by simp; omega
    have a6 : decide ((r : Int) ≤ 70) = false := by simp; omega
    have hR : hexI r = -1 := by unfold hexI hexD; rw [if_neg (by omega), if_neg (by omega), if_neg (by omega)]
    rw [hR]
    clear hR
    clear hr h0 h1 h2 h3 h4
    go_enter Tryz.func140, Tryz.ntmps140
    go_wp2
    go_ret
    exact ⟨rfl, rfl⟩
  by_cases h5 : r ≤ 102
  · have a1 : decide ((48 : Int) ≤ (r : Int)) = true := by simp; omega
    have a2 : decide ((r : Int) ≤ 57) = false := by simp; omega
    have a3 : decide ((97 : Int) ≤ (r : Int)) = true := by simp; omega
    have a4 : decide ((r : Int) ≤ 102) = true := by simp; omega
    have a5 : decide ((65 : Int) ≤ (r : Int)) = true := by simp; omega
    have a6 : decide ((r : Int) ≤ 70) = false := by simp; omega
    have hR : hexI r = ((r : Int) - 87) := by unfold hexI hexD; rw [if_neg (by omega), if_pos (by omega)]; show ((r - 87 : Nat) : Int) = _; omega
    rw [hR]
    clear hR
    have w1 : IntKind.i32.wrap ((r : Int) - 97) = (r : Int) - 97 := by rw [IntKind.wrap_i32]; omega
    have w2 : IntKind.i32.wrap ((r : Int) - 97 + 10) = (r : Int) - 87 := by rw [IntKind.wrap_i32]; omega
    clear hr h0 h1 h2 h3 h4 h5
    go_enter Tryz.func140, Tryz.ntmps140
    go_wp2
    go_ret
    exact ⟨rfl, rfl⟩
  have a1 : decide ((48 : Int) ≤ (r : Int)) = true := by simp; omega
  have a2 : decide ((r : Int) ≤ 57) = false := by simp; omega
  have a3 : decide ((97 : Int) ≤ (r : Int)) = true := by simp; omega
  have a4 : decide ((r : Int) ≤ 102) = false := by simp; omega
  have a5 : decide ((65 : Int) ≤ (r : Int)) = true := by simp; omega
  have a6 : decide ((r : Int) ≤ 70) = false := by simp; omega
  have hR : hexI r = -1 := by unfold hexI hexD; rw [if_neg (by omega), if_neg (by omega), if_neg (by omega)]
  rw [hR]
  clear hR
  clear hr h0 h1 h2 h3 h4 h5
  go_enter Tryz.func140, Tryz.ntmps140
  go_wp2
  go_ret
  exact ⟨rfl, rfl⟩

set_option maxHeartbeats 1000000 in
/-- (*jlex.reader).put. -/
theorem put_any {w : World} {g B q num dig fst : Nat} {zs : List Int} (r : Nat) (hr : Right r) (h : Rdr w g B q num dig fst zs) (hlen : zs.length + 4 ≤ 140737488355328) :
    Calls Tryz.prog 138 #[.pointer (some ⟨g, 0, none⟩), .int .i32 (r : Int)] w fun e w' => e = .returned (.int .i64 0) ∧ Rdr w' g B q num dig fst (zs ++ encL r) ∧ Kq g B w w' := by
  obtain ⟨p, v, h⟩ := h
  have kW := wrune_any r hr h hlen
  clear h hr hlen
  go_enter Tryz.func138, Tryz.ntmps138
  go_wp2_with (go_at_call 154; refine kW.mono ?_; rintro e w1 ⟨⟨n, rfl⟩, ⟨v', h1⟩, hk1⟩)
  go_ret
  exact ⟨rfl, ⟨some ⟨g, 1, none⟩, v', h1⟩, hk1⟩

theorem may_shift (f n k s : Nat) (hs : 16 ^ (4 - k) = s) : mayGo f n k = if f = 0 then decide (((n * s : Nat) : Int) < 56320) || decide ((57344 : Int) < (((n + 1) * s : Nat) : Int)) else decide ((56320 : Int) < (((n + 1) * s : Nat) : Int)) && decide (((n * s : Nat) : Int) < 57344) := by
  unfold mayGo
  rw [hs]
  have e1 : ∀ a b : Nat, decide (a < b) = decide ((a : Int) < (b : Int)) := fun a b => by rw [Bool.eq_iff_iff]; simp
  simp only [e1]
  rfl

set_option maxHeartbeats 2000000 in
set_option maxRecDepth 100000 in
theorem may_1 {w : World} {g B q num fst : Nat} {zs : List Int} (h : Rdr w g B q num 1 fst zs) (hn : num < 16) :
    Calls Tryz.prog 141 #[.pointer (some ⟨g, 0, none⟩)] w fun e w' => e = .returned (.bool (mayGo fst num 1)) ∧ Below w.heap.size w w' := by
  have c3 : w.cell? ⟨g, 3, none⟩ = some (.int .i32 (num : Nat)) := h.c3
  have c4 : w.cell? ⟨g, 4, none⟩ = some (.int .i64 1) := h.c4
  have c5 : w.cell? ⟨g, 5, none⟩ = some (.int .i32 (fst : Nat)) := h.c5
  have D3 : w.drew.cell? ⟨g, 3, none⟩ = some (.int .i32 (num : Nat)) := c3
  have D5 : w.drew.cell? ⟨g, 5, none⟩ = some (.int .i32 (fst : Nat)) := c5
  have w1 : IntKind.i32.wrap (((num : Nat) : Int) * 4096) = ((num * 4096 : Nat) : Int) := by rw [IntKind.wrap_i32]; omega
  have w2 : IntKind.i32.wrap (((num : Nat) : Int) + 1) = ((num : Nat) : Int) + 1 := by rw [IntKind.wrap_i32]; omega
  have w3 : IntKind.i32.wrap ((((num : Nat) : Int) + 1) * 4096) = (((num + 1) * 4096 : Nat) : Int) := by rw [IntKind.wrap_i32]; omega
  rw [may_shift fst num 1 4096 (by decide)]
  have hB : Hid (Below w.heap.size w w.drew) := (Below.refl _ _).drew
  obtain ⟨L, hL⟩ : ∃ L, L = ((num * 4096 : Nat) : Int) := ⟨_, rfl⟩
  obtain ⟨H, hH⟩ : ∃ H, H = (((num + 1) * 4096 : Nat) : Int) := ⟨_, rfl⟩
  rw [← hL] at w1 ⊢
  rw [← hH] at w3 ⊢
  clear hL hH h hn
  by_cases hf : fst = 0
  · subst hf
    rw [if_pos rfl]
    cases a1 : decide (L < 56320) with
    | true =>
      go_enter Tryz.func141, Tryz.ntmps141
      go_wp2
      go_region
      all_goals (go_wp2; go_ret; exact ⟨rfl, hB.out⟩)
    | false =>
      cases a2 : decide ((57344 : Int) < H) with
      | true =>
        go_enter Tryz.func141, Tryz.ntmps141
        go_wp2
        go_region
        all_goals (go_wp2; go_ret; exact ⟨rfl, hB.out⟩)
      | false =>
        go_enter Tryz.func141, Tryz.ntmps141
        go_wp2
        go_region
        all_goals (go_wp2; go_ret; exact ⟨rfl, hB.out⟩)
  · rw [if_neg hf]
    have hf' : (((fst : Nat) : Int) != 0) = true := by simp; omega
    clear hf
    cases a1 : decide ((56320 : Int) < H) with
    | false =>
      go_enter Tryz.func141, Tryz.ntmps141
      go_wp2
      go_region
      all_goals (go_wp2; go_ret; exact ⟨rfl, hB.out⟩)
    | true =>
      cases a2 : decide (L < 57344) with
      | true =>
        go_enter Tryz.func141, Tryz.ntmps141
        go_wp2
        go_region
        all_goals (go_wp2; go_ret; exact ⟨rfl, hB.out⟩)
      | false =>
        go_enter Tryz.func141, Tryz.ntmps141
        go_wp2
        go_region
        all_goals (go_wp2; go_ret; exact ⟨rfl, hB.out⟩)

set_option maxHeartbeats 2000000 in
set_option maxRecDepth 100000 in
theorem may_2 {w : World} {g B q num fst : Nat} {zs : List Int} (h : Rdr w g B q num 2 fst zs) (hn : num < 256) :
    Calls Tryz.prog 141 #[.pointer (some ⟨g, 0, none⟩)] w fun e w' => e = .returned (.bool (mayGo fst num 2)) ∧ Below w.heap.size w w' := by
  have c3 : w.cell? ⟨g, 3, none⟩ = some (.int .i32 (num : Nat)) := h.c3
  have c4 : w.cell? ⟨g, 4, none⟩ = some (.int .i64 2) := h.c4
  have c5 : w.cell? ⟨g, 5, none⟩ = some (.int .i32 (fst : Nat)) := h.c5
  have D3 : w.drew.cell? ⟨g, 3, none⟩ = some (.int .i32 (num : Nat)) := c3
  have D5 : w.drew.cell? ⟨g, 5, none⟩ = some (.int .i32 (fst : Nat)) := c5
  have w1 : IntKind.i32.wrap (((num : Nat) : Int) * 256) = ((num * 256 : Nat) : Int) := by rw [IntKind.wrap_i32]; omega
  have w2 : IntKind.i32.wrap (((num : Nat) : Int) + 1) = ((num : Nat) : Int) + 1 := by rw [IntKind.wrap_i32]; omega
  have w3 : IntKind.i32.wrap ((((num : Nat) : Int) + 1) * 256) = (((num + 1) * 256 : Nat) : Int) := by rw [IntKind.wrap_i32]; omega
  rw [may_shift fst num 2 256 (by decide)]
  have hB : Hid (Below w.heap.size w w.drew) := (Below.refl _ _).drew
  obtain ⟨L, hL⟩ : ∃ L, L = ((num * 256 : Nat) : Int) := ⟨_, rfl⟩
  obtain ⟨H, hH⟩ : ∃ H, H = (((num + 1) * 256 : Nat) : Int) := ⟨_, rfl⟩
  rw [← hL] at w1 ⊢
  rw [← hH] at w3 ⊢
  clear hL hH h hn
  by_cases hf : fst = 0
  · subst hf
    rw [if_pos rfl]
    cases a1 : decide (L < 56320) with
    | true =>
      go_enter Tryz.func141, Tryz.ntmps141
      go_wp2
      go_region
      all_goals (go_wp2; go_ret; exact ⟨rfl, hB.out⟩)
    | false =>
      cases a2 : decide ((57344 : Int) < H) with
      | true =>
        go_enter Tryz.func141, Tryz.ntmps141
        go_wp2
        go_region
        all_goals (go_wp2; go_ret; exact ⟨rfl, hB.out⟩)
      | false =>
        go_enter Tryz.func141, Tryz.ntmps141
        go_wp2
        go_region
        all_goals (go_wp2; go_ret; exact ⟨rfl, hB.out⟩)
  · rw [if_neg hf]
    have hf' : (((fst : Nat) : Int) != 0) = true := by simp; omega
    clear hf
    cases a1 : decide ((56320 : Int) < H) with
    | false =>
      go_enter Tryz.func141, Tryz.ntmps141
      go_wp2
      go_region
      all_goals (go_wp2; go_ret; exact ⟨rfl, hB.out⟩)
    | true =>
      cases a2 : decide (L < 57344) with
      | true =>
        go_enter Tryz.func141, Tryz.ntmps141
        go_wp2
        go_region
        all_goals (go_wp2; go_ret; exact ⟨rfl, hB.out⟩)
      | false =>
        go_enter Tryz.func141, Tryz.ntmps141
        go_wp2
        go_region
        all_goals (go_wp2; go_ret; exact ⟨rfl, hB.out⟩)

set_option maxHeartbeats 2000000 in
set_option maxRecDepth 100000 in
theorem may_3 {w : World} {g B q num fst : Nat} {zs : List Int} (h : Rdr w g B q num 3 fst zs) (hn : num < 4096) :
    Calls Tryz.prog 141 #[.pointer (some ⟨g, 0, none⟩)] w fun e w' => e = .returned (.bool (mayGo fst num 3)) ∧ Below w.heap.size w w' := by
  have c3 : w.cell? ⟨g, 3, none⟩ = some (.int .i32 (num : Nat)) := h.c3
  have c4 : w.cell? ⟨g, 4, none⟩ = some (.int .i64 3) := h.c4
  have c5 : w.cell? ⟨g, 5, none⟩ = some (.int .i32 (fst : Nat)) := h.c5
  have D3 : w.drew.cell? ⟨g, 3, none⟩ = some (.int .i32 (num : Nat)) := c3
  have D5 : w.drew.cell? ⟨g, 5, none⟩ = some (.int .i32 (fst : Nat)) := c5
  have w1 : IntKind.i32.wrap (((num : Nat) : Int) * 16) = ((num * 16 : Nat) : Int) := by rw [IntKind.wrap_i32]; omega
  have w2 : IntKind.i32.wrap (((num : Nat) : Int) + 1) = ((num : Nat) : Int) + 1 := by rw [IntKind.wrap_i32]; omega
  have w3 : IntKind.i32.wrap ((((num : Nat) : Int) + 1) * 16) = (((num + 1) * 16 : Nat) : Int) := by rw [IntKind.wrap_i32]; omega
  rw [may_shift fst num 3 16 (by decide)]
  have hB : Hid (Below w.heap.size w w.drew) := (Below.refl _ _).drew
  obtain ⟨L, hL⟩ : ∃ L, L = ((num * 16 : Nat) : Int) := ⟨_, rfl⟩
  obtain ⟨H, hH⟩ : ∃ H, H = (((num + 1) * 16 : Nat) : Int) := ⟨_, rfl⟩
  rw [← hL] at w1 ⊢
  rw [← hH] at w3 ⊢
  clear hL hH h hn
  by_cases hf : fst = 0
  · subst hf
    rw [if_pos rfl]
    cases a1 : decide (L < 56320) with
    | true =>
      go_enter Tryz.func141, Tryz.ntmps141
      go_wp2
      go_region
      all_goals (go_wp2; go_ret; exact ⟨rfl, hB.out⟩)
    | false =>
      cases a2 : decide ((57344 : Int) < H) with
      | true =>
        go_enter Tryz.func141, Tryz.ntmps141
        go_wp2
        go_region
        all_goals (go_wp2; go_ret; exact ⟨rfl, hB.out⟩)
      | false =>
        go_enter Tryz.func141, Tryz.ntmps141
        go_wp2
        go_region
        all_goals (go_wp2; go_ret; exact ⟨rfl, hB.out⟩)
  · rw [if_neg hf]
    have hf' : (((fst : Nat) : Int) != 0) = true := by simp; omega
    clear hf
    cases a1 : decide ((56320 : Int) < H) with
    | false =>
      go_enter Tryz.func141, Tryz.ntmps141
      go_wp2
      go_region
      all_goals (go_wp2; go_ret; exact ⟨rfl, hB.out⟩)
    | true =>
      cases a2 : decide (L < 57344) with
      | true =>
        go_enter Tryz.func141, Tryz.ntmps141
        go_wp2
        go_region
        all_goals (go_wp2; go_ret; exact ⟨rfl, hB.out⟩)
      | false =>
        go_enter Tryz.func141, Tryz.ntmps141
        go_wp2
        go_region
        all_goals (go_wp2; go_ret; exact ⟨rfl, hB.out⟩)

set_option maxHeartbeats 2000000 in
set_option maxRecDepth 100000 in
theorem may_4 {w : World} {g B q num fst : Nat} {zs : List Int} (h : Rdr w g B q num 4 fst zs) (hn : num < 65536) :
    Calls Tryz.prog 141 #[.pointer (some ⟨g, 0, none⟩)] w fun e w' => e = .returned (.bool (mayGo fst num 4)) ∧ Below w.heap.size w w' := by
  have c3 : w.cell? ⟨g, 3, none⟩ = some (.int .i32 (num : Nat)) := h.c3
  have c4 : w.cell? ⟨g, 4, none⟩ = some (.int .i64 4) := h.c4
  have c5 : w.cell? ⟨g, 5, none⟩ = some (.int .i32 (fst : Nat)) := h.c5
  have D3 : w.drew.cell? ⟨g, 3, none⟩ = some (.int .i32 (num : Nat)) := c3
  have D5 : w.drew.cell? ⟨g, 5, none⟩ = some (.int .i32 (fst : Nat)) := c5
  have w1 : IntKind.i32.wrap ((num : Nat) : Int) = ((num * 1 : Nat) : Int) := by rw [IntKind.wrap_i32]; omega
  have w3 : IntKind.i32.wrap (((num : Nat) : Int) + 1) = (((num + 1) * 1 : Nat) : Int) := by rw [IntKind.wrap_i32]; omega
  have w4 : IntKind.i32.wrap (((num + 1) * 1 : Nat) : Int) = (((num + 1) * 1 : Nat) : Int) := by rw [IntKind.wrap_i32]; omega
  rw [may_shift fst num 4 1 (by decide)]
  have hB : Hid (Below w.heap.size w w.drew) := (Below.refl _ _).drew
  obtain ⟨L, hL⟩ : ∃ L, L = ((num * 1 : Nat) : Int) := ⟨_, rfl⟩
  obtain ⟨H, hH⟩ : ∃ H, H = (((num + 1) * 1 : Nat) : Int) := ⟨_, rfl⟩
  rw [← hL] at w1 ⊢
  rw [← hH] at w3 w4 ⊢
  clear hL hH h hn
  by_cases hf : fst = 0
  · subst hf
    rw [if_pos rfl]
    cases a1 : decide (L < 56320) with
    | true =>
      go_enter Tryz.func141, Tryz.ntmps141
      go_wp2
      go_region
      all_goals (go_wp2; go_ret; exact ⟨rfl, hB.out⟩)
    | false =>
      cases a2 : decide ((57344 : Int) < H) with
      | true =>
        go_enter Tryz.func141, Tryz.ntmps141
        go_wp2
        go_region
        all_goals (go_wp2; go_ret; exact ⟨rfl, hB.out⟩)
      | false =>
        go_enter Tryz.func141, Tryz.ntmps141
        go_wp2
        go_region
        all_goals (go_wp2; go_ret; exact ⟨rfl, hB.out⟩)
  · rw [if_neg hf]
    have hf' : (((fst : Nat) : Int) != 0) = true := by simp; omega
    clear hf
    cases a1 : decide ((56320 : Int) < H) with
    | false =>
      go_enter Tryz.func141, Tryz.ntmps141
      go_wp2
      go_region
      all_goals (go_wp2; go_ret; exact ⟨rfl, hB.out⟩)
    | true =>
      cases a2 : decide (L < 57344) with
      | true =>
        go_enter Tryz.func141, Tryz.ntmps141
        go_wp2
        go_region
        all_goals (go_wp2; go_ret; exact ⟨rfl, hB.out⟩)
      | false =>
        go_enter Tryz.func141, Tryz.ntmps141
        go_wp2
        go_region
        all_goals (go_wp2; go_ret; exact ⟨rfl, hB.out⟩)
end Go.Proofs.YtmlacmoembjeoaaGreatDoor
