/-
  strings.Builder, wherever it lies: a block of its own, or a field of a struct: what is written to it, and its string.
-/
import Derived.Test.YtfkoghmbkgbgbaaDoorNum
import Derived.Test.YtfkoghmbkgbgbaaDoorEnds
import Derived.Lib.Builder
import Derived.Lib.UnsafeStr
import Derived.Lib.RuneBytes
import Derived.Laws.Externs
namespace Go.Proofs.YtfkoghmbkgbgbaaDoor
open Go.RowKit
set_option linter.unusedVariables false

/-! ### A block, and what stays -/
/-- A block's whole. -/
def Blk (w : World) (g : Nat) (cs : Array Value) (T : TypeId) : Prop := w.heap[g]? = some (.cells cs T (0, 0))
theorem Blk.lt {w : World} {g : Nat} {cs : Array Value} {T : TypeId} (h : Blk w g cs T) : g < w.heap.size := (Array.getElem?_eq_some_iff.1 h).1
theorem Blk.cell {w : World} {g : Nat} {cs : Array Value} {T : TypeId} (h : Blk w g cs T) (j : Nat) : w.cell? ⟨g, j, none⟩ = cs[j]? := cell_row h j
theorem Blk.fz {w : World} {g : Nat} {cs : Array Value} {T : TypeId} (h : Blk w g cs T) (j : Nat) : w.frozen? ⟨g, j, none⟩ = false := by
  unfold Blk at h
  simp [World.frozen?, h]
theorem Blk.shape {w : World} {g : Nat} {cs : Array Value} {T : TypeId} (h : Blk w g cs T) : w.shape? g = some (T, cs.size) := by
  unfold Blk at h
  simp [World.shape?, h]
theorem Blk.set {w : World} {g : Nat} {cs : Array Value} {T : TypeId} (h : Blk w g cs T) (j : Nat) (v : Value) : Blk (w.setCell ⟨g, j, none⟩ v) g (cs.setIfInBounds j v) T := heap_setCell_same w g j cs T v h
theorem blk_new (w : World) (cs : Array Value) (T : TypeId) : Blk (w.alloc (.cells cs T)) w.heap.size cs T := heap_alloc_new w _
/-- ALL BLOCKS BELOW B STAY, g ASIDE. -/
structure Kq (g B : Nat) (w w' : World) : Prop where
  os : w'.os = w.os
  tape : w'.tape = w.tape
  output : w'.output = w.output
  size : w.heap.size ≤ w'.heap.size
  block : ∀ k, k < B → k ≠ g → w'.heap[k]? = w.heap[k]?
theorem Kq.refl (g B : Nat) (w : World) : Kq g B w w := ⟨rfl, rfl, rfl, Nat.le_refl _, fun _ _ _ => rfl⟩
theorem Kq.trans {g B : Nat} {a b c : World} (h : Kq g B a b) (k : Kq g B b c) : Kq g B a c := ⟨k.os.trans h.os, k.tape.trans h.tape, k.output.trans h.output, Nat.le_trans h.size k.size, fun i hi hc => (k.block i hi hc).trans (h.block i hi hc)⟩
theorem Kq.of {g B : Nat} {w w' : World} (h : Below B w w') : Kq g B w w' := ⟨h.os, h.tape, h.output, h.size, fun k hk _ => h.block k hk⟩
theorem Kq.set (g B : Nat) (w : World) (j : Nat) (v : Value) : Kq g B w (w.setCell ⟨g, j, none⟩ v) := by
  have hb : Below g w (w.setCell ⟨g, j, none⟩ v) := (Below.refl g w).setCell (p := ⟨g, j, none⟩) (Nat.le_refl _) v
  refine ⟨hb.os, hb.tape, hb.output, hb.size, fun k hk hg => ?_⟩
  unfold World.setCell
  simp [Array.getElem?_modify, Ne.symm hg]
theorem Kq.below {g B : Nat} {w w' : World} (h : Kq g B w w') (hg : g ≤ B) : Below g w w' := ⟨h.os, h.tape, h.output, h.size, fun k hk => h.block k (by omega) (by omega)⟩
theorem Blk.kq {w w' : World} {g k B : Nat} {cs : Array Value} {T : TypeId} (h : Blk w k cs T) (hq : Kq g B w w') (hk : k < B) (hne : k ≠ g) : Blk w' k cs T := (hq.block k hk hne).trans h
theorem Blk.kept {w w' : World} {k B : Nat} {cs : Array Value} {T : TypeId} (h : Blk w k cs T) (hb : Below B w w') (hk : k < B) : Blk w' k cs T := (hb.block k hk).trans h

/-! ### copyCheck -/
theorem size_sb : (Tryd.prog.info? 58).map (·.size) = some 2 := by kernel_rfl
set_option maxHeartbeats 1000000 in
set_option maxRecDepth 100000 in
theorem cc_used (g o : Nat) (w : World) (h0 : w.cell? ⟨g, o, none⟩ = some (.pointer (some ⟨g, o, none⟩))) :
    Calls Tryd.prog 45 #[.pointer (some ⟨g, o, none⟩)] w fun e w' => e = .returned (.tuple #[]) ∧ w' = w := by
  obtain ⟨j, hj, _⟩ := Option.map_eq_some_iff.1 size_sb
  go_enter Tryd.func45, Tryd.ntmps45
  go_wp2
  rw [Lib.run_neq_ptr_same w _ Tryd.underlying56 hj]
  go_wp2
  go_end0
  exact ⟨rfl, rfl⟩
set_option maxHeartbeats 1000000 in
set_option maxRecDepth 100000 in
theorem cc_fresh (g o : Nat) (w : World) (T cells : Nat) (h0 : w.cell? ⟨g, o, none⟩ = some (.pointer none)) (hfz : w.frozen? ⟨g, o, none⟩ = false) (hsh : w.shape? g = some (T, cells)) (ho : o < cells) (hl : liesAt Tryd.prog Tryd.prog.depth T (cells / Tryd.prog.cellsOf T) o 58 1 = true) :
    Calls Tryd.prog 45 #[.pointer (some ⟨g, o, none⟩)] w fun e w' => e = .returned (.tuple #[]) ∧ w' = w.setCell ⟨g, o, none⟩ (.pointer (some ⟨g, o, none⟩)) := by
  obtain ⟨j, hj, hjs⟩ := Option.map_eq_some_iff.1 size_sb
  go_enter Tryd.func45, Tryd.ntmps45
  go_wp2
  rw [Lib.run_to_unsafe w ⟨g, o, none⟩ Tryd.underlying56 Tryd.underlying100 hj (by rw [hjs]; decide) hsh ho]
  simp only [Result.andThen]
  rw [Oper.upon_value]
  go_wp2
  rw [run_callFunc_extern Tryd.func66 (by kernel_rfl) (by kernel_rfl) (by kernel_rfl) (e := Extern.AbiNoEscape.same) (by kernel_rfl)]
  rw [Lib.run_noEscape]
  simp only [Result.andThen]
  rw [Oper.upon_value]
  go_wp2
  rw [Lib.run_from_unsafe w ⟨g, o, none⟩ Tryd.underlying100 Tryd.underlying56 hj hsh hl]
  simp only [Result.andThen]
  rw [Oper.upon_value]
  go_wp2
  go_end0
  exact ⟨rfl, rfl⟩

/-- A BUILDER at a place of a block: its own address or none, and bytes that lie from B on. -/
structure Bdr (w : World) (g o B : Nat) (cs : Array Value) (T : TypeId) (p : Option Addr) (v : Value) (zs : List Int) : Prop where
  blk : Blk w g cs T
  ptr : cs[o]? = some (.pointer p)
  own : p = none ∨ p = some ⟨g, o, none⟩
  buf : cs[o + 1]? = some v
  lies : liesAt Tryd.prog Tryd.prog.depth T (cs.size / Tryd.prog.cellsOf T) o 58 1 = true
  row : OwnsB w B v zs
  low : g < B
  top : B ≤ w.heap.size
/-- The block behind a write. -/
def wrt (cs : Array Value) (g o : Nat) (v : Value) : Array Value := (cs.setIfInBounds o (.pointer (some ⟨g, o, none⟩))).setIfInBounds (o + 1) v
theorem set_same {cs : Array Value} {o : Nat} {x : Value} (h : cs[o]? = some x) : cs.setIfInBounds o x = cs := by
  apply Array.ext_getElem?
  intro i
  rw [Array.getElem?_setIfInBounds]
  split
  · rename_i e
    subst e
    split
    · exact h.symm
    · rename_i hn
      rw [Array.getElem?_eq_none (by omega)]
  · rfl
theorem cc_any {w : World} {g o B : Nat} {cs : Array Value} {T : TypeId} {p : Option Addr} {v : Value} {zs : List Int} (h : Bdr w g o B cs T p v zs) :
    Calls Tryd.prog 45 #[.pointer (some ⟨g, o, none⟩)] w fun e w' => e = .returned (.tuple #[]) ∧ Bdr w' g o B (cs.setIfInBounds o (.pointer (some ⟨g, o, none⟩))) T (some ⟨g, o, none⟩) v zs ∧ Kq g B w w' := by
  have ho : o < cs.size := by
    have := h.ptr
    rcases Nat.lt_or_ge o cs.size with h1 | h1
    · exact h1
    · rw [Array.getElem?_eq_none h1] at this; cases this
  rcases h.own with hp | hp
  · have h0 := h.blk.cell o
    rw [h.ptr, hp] at h0
    refine (cc_fresh g o w T cs.size h0 (h.blk.fz o) h.blk.shape ho h.lies).mono ?_
    rintro e w' ⟨rfl, rfl⟩
    refine ⟨rfl, ⟨h.blk.set o _, ?_, .inr rfl, ?_, ?_, ⟨ownsRow_setCell_below h.row.1 (a := ⟨g, o, none⟩) h.low _, h.row.2⟩, h.low, Nat.le_trans h.top (Kq.set g B w o _).size⟩, Kq.set g B w o _⟩
    · rw [Array.getElem?_setIfInBounds_self_of_lt ho]
    · rw [Array.getElem?_setIfInBounds_ne (by omega)]; exact h.buf
    · rw [Array.size_setIfInBounds]; exact h.lies
  · have h0 := h.blk.cell o
    rw [h.ptr, hp] at h0
    refine (cc_used g o w h0).mono ?_
    rintro e w' ⟨rfl, rfl⟩
    have e1 : cs.setIfInBounds o (.pointer (some ⟨g, o, none⟩)) = cs := set_same (by rw [h.ptr, hp])
    rw [e1]
    exact ⟨rfl, ⟨h.blk, by rw [h.ptr, hp], .inr rfl, h.buf, h.lies, h.row, h.low, h.top⟩, Kq.refl _ _ _⟩

theorem rune_cells {r : Nat} (hr : Right r) : Lib.runeCells (r : Int) = (encL r).map (Value.int .u8) := by
  unfold Lib.runeCells Lib.encodeRuneZ encL
  unfold Right at hr
  by_cases h1 : r < 128
  · rw [if_pos (by omega), if_pos h1]
  rw [if_neg (by omega), if_neg h1]
  by_cases h2 : r < 2048
  · rw [if_pos (by omega), if_pos h2]; simp
  rw [if_neg (by omega), if_neg h2]
  by_cases h3 : r < 65536
  · rw [if_pos (by omega), if_pos h3]; simp
  rw [if_neg (by omega), if_pos (by omega), if_neg h3]; simp
/-- utf8.AppendRune onto bytes of the call's own. -/
theorem app_rune (B : Nat) (v : Value) (zs : List Int) (r : Nat) (hr : Right r) (w : World) (hO : OwnsB w B v zs) (hlen : zs.length + 4 ≤ 140737488355328) (hB : B ≤ w.heap.size) :
    Calls Tryd.prog 70 #[v, .int .i32 (r : Int)] w fun e w' => ∃ v', e = .returned v' ∧ OwnsB w' B v' (zs ++ encL r) ∧ Below B w w' := by
  have hb : r ≤ 1114111 := hr.1
  have k : Calls Tryd.prog 70 #[v, .int .i32 (r : Int)] w _ := Any.utf8_AppendRune_plain lays242 (by kernel_rfl) B v zs.length (zs.map (Value.int .u8)) (r : Int) (by omega) (by omega) w hO.1 hlen hB
  refine k.mono ?_
  rintro e w' ⟨v', rfl, hO', o, hg⟩
  rw [rune_cells hr, ← List.map_append, List.length_map, ← List.length_append] at hO'
  refine ⟨v', rfl, ⟨hO', fun c hc => ?_⟩, ((Below.refl B w).alloc hB o).grown hg (by simp; omega) (fun k hk => (hO.1.lt k hk).1)⟩
  rcases List.mem_append.1 hc with hc | hc
  · exact hO.2 c hc
  · exact enc_bytes hr c hc

set_option maxHeartbeats 2000000 in
set_option maxRecDepth 100000 in
/-- (*strings.Builder).WriteRune. -/
theorem wrune_any {w : World} {g o B : Nat} {cs : Array Value} {T : TypeId} {p : Option Addr} {v : Value} {zs : List Int} (r : Nat) (hr : Right r) (h : Bdr w g o B cs T p v zs) (hlen : zs.length + 4 ≤ 140737488355328) :
    Calls Tryd.prog 48 #[.pointer (some ⟨g, o, none⟩), .int .i32 (r : Int)] w fun e w' => (∃ n, e = .returned (.tuple #[.int .i64 n, .nilIface])) ∧ (∃ v', Bdr w' g o B (wrt cs g o v') T (some ⟨g, o, none⟩) v' (zs ++ encL r)) ∧ Kq g B w w' := by
  have kC := cc_any h
  have hr' : Hid (Right r) := hr
  have hl' : Hid (zs.length + 4 ≤ 140737488355328) := hlen
  clear h hr hlen
  go_enter Tryd.func48, Tryd.ntmps48
  go_wp2_with (first
    | (go_at_call 45; refine kC.mono ?_; rintro e w1 ⟨rfl, h1, hk1⟩; clear kC; obtain ⟨a1, n1, cap1, hv, hn1, hc1, hle1, hm1, hb1⟩ := h1.row.form; subst hv; have c1 := h1.blk.cell (o + 1); rw [h1.buf] at c1; have kA := app_rune B (.slice a1 n1 cap1) zs r hr'.out w1 h1.row hl'.out h1.top; have H1 : Hid (Bdr w1 g o B (cs.setIfInBounds o (.pointer (some ⟨g, o, none⟩))) T (some ⟨g, o, none⟩) (.slice a1 n1 cap1) zs) := h1; clear h1 hn1 hb1 hc1)
    | (go_at_call 70; refine kA.mono ?_; rintro e w2 ⟨v2, rfl, hO2, hb2⟩; obtain ⟨a2, n2, cap2, hv2, hn2, hc2, hle2, hm2, hB2⟩ := hO2.form; subst hv2; have K2 := H1.out.blk.kept hb2 H1.out.low; have d1 := K2.cell (o + 1); rw [H1.out.buf] at d1; have f1 := K2.fz (o + 1); clear kA c1 hn2 hB2 hc2))
  go_ret2
  refine ⟨⟨_, rfl⟩, ⟨.slice a2 n2 cap2, K2.set (o + 1) _, ?_, .inr rfl, ?_, ?_, ⟨ownsRow_setCell_below hO2.1 (a := ⟨g, o + 1, none⟩) H1.out.low _, hO2.2⟩, H1.out.low, ?_⟩, (hk1.trans (Kq.of hb2)).trans (Kq.set g B w2 (o + 1) _)⟩
  · unfold wrt; rw [Array.getElem?_setIfInBounds_ne (by omega)]; exact H1.out.ptr
  · unfold wrt
    have := H1.out.buf
    rw [Array.getElem?_setIfInBounds_self_of_lt]
    rcases Nat.lt_or_ge (o + 1) (cs.setIfInBounds o (.pointer (some ⟨g, o, none⟩))).size with h1 | h1
    · exact h1
    · rw [Array.getElem?_eq_none h1] at this; cases this
  · unfold wrt; rw [Array.size_setIfInBounds]; exact H1.out.lies
  · exact Nat.le_trans H1.out.top (Nat.le_trans hb2.size (Kq.set g B w2 (o + 1) _).size)
end Go.Proofs.YtfkoghmbkgbgbaaDoor
