/-
  strings.Builder, wherever it lies: a block of its own, or a field of a struct: what is written to it, and its string.
  strings.Builder: a byte, a string that is written to it; the string that it is.
  Tokens of JSON texts as plain data: how a string's characters are read, where a number and a word end, the tokens one behind the other; that a fault hangs on the bytes up to it alone. No program is named here.
-/
import Derived.Test.YtmlacmoembjeoaaGreatDoorV4
import Derived.Test.YtmlacmoembjeoaaGreatDoorV3
import Derived.Lib.Builder
import Derived.Lib.UnsafeStr
import Derived.Lib.RuneBytes
import Derived.Laws.Externs
import Derived.Lib.AppendStr
namespace Go.Proofs.YtmlacmoembjeoaaGreatDoor
open Go.RowKit
set_option linter.unusedVariables false

/-! ### A block, and what stays -/
/-- A block's whole. -/
def Blk (w : World) (g : Nat) (cs : Array Value) (T : TypeId) : Prop := w.heap[g]? = some (.cells cs T (0, 0))
theorem Blk.lt {w : World} {g : Nat} {cs : Array Value} {T : TypeId} (h : Blk w g cs T) : g < w.heap.size := (Array.getElem?_eq_some_iff.1 h).1
theorem Blk.cell {w : World} {g : Nat} {cs : Array Value} {T : TypeId} (h : Blk w g cs T) (j : Nat) : w.cell? ⟨g, j, none⟩ = cs[j]? := cell_row h j
theorem Blk.fz {w : World} {g : Nat} {cs : Array Value} {T : TypeId} (h : Blk w g cs T) (j : Nat) : w.frozen? ⟨g, j, none⟩ = false := by
  unfold Blk at h
  simp [World.frozen?, h]
theorem Blk.shape {w : World} {g : Nat} {cs : Array Value} {T : TypeId} (h : Blk w g cs T) : w.shape? g = some (T, cs.size) := by
  unfold Blk at h
  simp [World.shape?, h]
theorem Blk.set {w : World} {g : Nat} {cs : Array Value} {T : TypeId} (h : Blk w g cs T) (j : Nat) (v : Value) : Blk (w.setCell ⟨g, j, none⟩ v) g (cs.setIfInBounds j v) T := heap_setCell_same w g j cs T v h
theorem blk_new (w : World) (cs : Array Value) (T : TypeId) : Blk (w.alloc (.cells cs T)) w.heap.size cs T := heap_alloc_new w _
/-- ALL BLOCKS BELOW B STAY, g ASIDE. -/
structure Kq (g B : Nat) (w w' : World) : Prop where
  os : w'.os = w.os
  tape : w'.tape = w.tape
  output : w'.output = w.output
  size : w.heap.size ≤ w'.heap.size
  block : ∀ k, k < B → k ≠ g → w'.heap[k]? = w.heap[k]?
theorem Kq.refl (g B : Nat) (w : World) : Kq g B w w := ⟨rfl, rfl, rfl, Nat.le_refl _, fun _ _ _ => rfl⟩
theorem Kq.trans {g B : Nat} {a b c : World} (h : Kq g B a b) (k : Kq g B b c) : Kq g B a c := ⟨k.os.trans h.os, k.tape.trans h.tape, k.output.trans h.output, Nat.le_trans h.size k.size, fun i hi hc => (k.block i hi hc).trans (h.block i hi hc)⟩
theorem Kq.of {g B : Nat} {w w' : World} (h : Below B w w') : Kq g B w w' := ⟨h.os, h.tape, h.output, h.size, fun k hk _ => h.block k hk⟩
theorem Kq.set (g B : Nat) (w : World) (j : Nat) (v : Value) : Kq g B w (w.setCell ⟨g, j, none⟩ v) := by
  have hb : Below g w (w.setCell ⟨g, j, none⟩ v) := (Below.refl g w).setCell (p := ⟨g, j, none⟩) (Nat.le_refl _) v
  refine ⟨hb.os, hb.tape, hb.output, hb.size, fun k hk hg => ?_⟩
  unfold World.setCell
  simp [Array.getElem?_modify, Ne.symm hg]
theorem Kq.below {g B : Nat} {w w' : World} (h : Kq g B w w') (hg : g ≤ B) : Below g w w' := ⟨h.os, h.tape, h.output, h.size, fun k hk => h.block k (by omega) (by omega)⟩
theorem Blk.kq {w w' : World} {g k B : Nat} {cs : Array Value} {T : TypeId} (h : Blk w k cs T) (hq : Kq g B w w') (hk : k < B) (hne : k ≠ g) : Blk w' k cs T := (hq.block k hk hne).trans h
theorem Blk.kept {w w' : World} {k B : Nat} {cs : Array Value} {T : TypeId} (h : Blk w k cs T) (hb : Below B w w') (hk : k < B) : Blk w' k cs T := (hb.block k hk).trans h

/-! ### copyCheck -/
theorem size_sb : (Tryz.prog.info? 111).map (·.size) = some 2 := by kernel_rfl
set_option maxHeartbeats 1000000 in
set_option maxRecDepth 100000 in
theorem cc_used (g o : Nat) (w : World) (h0 : w.cell? ⟨g, o, none⟩ = some (.pointer (some ⟨g, o, none⟩))) :
    Calls Tryz.prog 162 #[.pointer (some ⟨g, o, none⟩)] w fun e w' => e = .returned (.tuple #[]) ∧ w' = w := by
  obtain ⟨j, hj, _⟩ := Option.map_eq_some_iff.1 size_sb
  go_enter Tryz.func162, Tryz.ntmps162
  go_wp2
  rw [Lib.run_neq_ptr_same w _ Tryz.underlying109 hj]
  go_wp2
  go_end0
  exact ⟨rfl, rfl⟩
set_option maxHeartbeats 1000000 in
set_option maxRecDepth 100000 in
theorem cc_fresh (g o : Nat) (w : World) (T cells : Nat) (h0 : w.cell? ⟨g, o, none⟩ = some (.pointer none)) (hfz : w.frozen? ⟨g, o, none⟩ = false) (hsh : w.shape? g = some (T, cells)) (ho : o < cells) (hl : liesAt Tryz.prog Tryz.prog.depth T (cells / Tryz.prog.cellsOf T) o 111 1 = true) :
    Calls Tryz.prog 162 #[.pointer (some ⟨g, o, none⟩)] w fun e w' => e = .returned (.tuple #[]) ∧ w' = w.setCell ⟨g, o, none⟩ (.pointer (some ⟨g, o, none⟩)) := by
  obtain ⟨j, hj, hjs⟩ := Option.map_eq_some_iff.1 size_sb
  go_enter Tryz.func162, Tryz.ntmps162
  go_wp2
  rw [Lib.run_to_unsafe w ⟨g, o, none⟩ Tryz.underlying109 Tryz.underlying166 hj (by rw [hjs]; decide) hsh ho]
  simp only [Result.andThen]
  rw [Oper.upon_value]
  go_wp2
  rw [run_callFunc_extern Tryz.func166 (by kernel_rfl) (by kernel_rfl) (by kernel_rfl) (e := Extern.AbiNoEscape.same) (by kernel_rfl)]
  rw [Lib.run_noEscape]
  simp only [Result.andThen]
  rw [Oper.upon_value]
  go_wp2
  rw [Lib.run_from_unsafe w ⟨g, o, none⟩ Tryz.underlying166 Tryz.underlying109 hj hsh hl]
  simp only [Result.andThen]
  rw [Oper.upon_value]
  go_wp2
  go_end0
  exact ⟨rfl, rfl⟩

/-- A BUILDER at a place of a block: its own address or none, and bytes that lie from B on. -/
structure Bdr (w : World) (g o B : Nat) (cs : Array Value) (T : TypeId) (p : Option Addr) (v : Value) (zs : List Int) : Prop where
  blk : Blk w g cs T
  ptr : cs[o]? = some (.pointer p)
  own : p = none ∨ p = some ⟨g, o, none⟩
  buf : cs[o + 1]? = some v
  lies : liesAt Tryz.prog Tryz.prog.depth T (cs.size / Tryz.prog.cellsOf T) o 111 1 = true
  row : OwnsB w B v zs
  low : g < B
  top : B ≤ w.heap.size
/-- The block behind a write. -/
def wrt (cs : Array Value) (g o : Nat) (v : Value) : Array Value := (cs.setIfInBounds o (.pointer (some ⟨g, o, none⟩))).setIfInBounds (o + 1) v
theorem set_same {cs : Array Value} {o : Nat} {x : Value} (h : cs[o]? = some x) : cs.setIfInBounds o x = cs := by
  apply Array.ext_getElem?
  intro i
  rw [Array.getElem?_setIfInBounds]
  split
  · rename_i e
    subst e
    split
    · exact h.symm
    · rename_i hn
      rw [Array.getElem?_eq_none (by omega)]
  · rfl
theorem cc_any {w : World} {g o B : Nat} {cs : Array Value} {T : TypeId} {p : Option Addr} {v : Value} {zs : List Int} (h : Bdr w g o B cs T p v zs) :
    Calls Tryz.prog 162 #[.pointer (some ⟨g, o, none⟩)] w fun e w' => e = .returned (.tuple #[]) ∧ Bdr w' g o B (cs.setIfInBounds o (.pointer (some ⟨g, o, none⟩))) T (some ⟨g, o, none⟩) v zs ∧ Kq g B w w' := by
  have ho : o < cs.size := by
    have := h.ptr
    rcases Nat.lt_or_ge o cs.size with h1 | h1
    · exact h1
    · rw [Array.getElem?_eq_none h1] at this; cases this
  rcases h.own with hp | hp
  · have h0 := h.blk.cell o
    rw [h.ptr, hp] at h0
    refine (cc_fresh g o w T cs.size h0 (h.blk.fz o) h.blk.shape ho h.lies).mono ?_
    rintro e w' ⟨rfl, rfl⟩
    refine ⟨rfl, ⟨h.blk.set o _, ?_, .inr rfl, ?_, ?_, ⟨ownsRow_setCell_below h.row.1 (a := ⟨g, o, none⟩) h.low _, h.row.2⟩, h.low, Nat.le_trans h.top (Kq.set g B w o _).size⟩, Kq.set g B w o _⟩
    · rw [Array.getElem?_setIfInBounds_self_of_lt ho]
    · rw [Array.getElem?_setIfInBounds_ne (by omega)]; exact h.buf
    · rw [Array.size_setIfInBounds]; exact h.lies
  · have h0 := h.blk.cell o
    rw [h.ptr, hp] at h0
    refine (cc_used g o w h0).mono ?_
    rintro e w' ⟨rfl, rfl⟩
    have e1 : cs.setIfInBounds o (.pointer (some ⟨g, o, none⟩)) = cs := set_same (by rw [h.ptr, hp])
    rw [e1]
    exact ⟨rfl, ⟨h.blk, by rw [h.ptr, hp], .inr rfl, h.buf, h.lies, h.row, h.low, h.top⟩, Kq.refl _ _ _⟩

theorem rune_cells {r : Nat} (hr : Right r) : Lib.runeCells (r : Int) = (encL r).map (Value.int .u8) := by
  unfold Lib.runeCells Lib.encodeRuneZ encL
  unfold Right at hr
  by_cases h1 : r < 128
  · rw [if_pos (by omega), if_pos h1]
  rw [if_neg (by omega), if_neg h1]
  by_cases h2 : r < 2048
  · rw [if_pos (by omega), if_pos h2]; simp
  rw [if_neg (by omega), if_neg h2]
  by_cases h3 : r < 65536
  · rw [if_pos (by omega), if_pos h3]; simp
  rw [if_neg (by omega), if_pos (by omega), if_neg h3]; simp
/-- utf8.AppendRune onto bytes of the call's own. -/
theorem app_rune (B : Nat) (v : Value) (zs : List Int) (r : Nat) (hr : Right r) (w : World) (hO : OwnsB w B v zs) (hlen : zs.length + 4 ≤ 140737488355328) (hB : B ≤ w.heap.size) :
    Calls Tryz.prog 163 #[v, .int .i32 (r : Int)] w fun e w' => ∃ v', e = .returned v' ∧ OwnsB w' B v' (zs ++ encL r) ∧ Below B w w' := by
  have hb : r ≤ 1114111 := hr.1
  have k : Calls Tryz.prog 163 #[v, .int .i32 (r : Int)] w _ := Any.utf8_AppendRune_plain lays242 (by kernel_rfl) B v zs.length (zs.map (Value.int .u8)) (r : Int) (by omega) (by omega) w hO.1 hlen hB
  refine k.mono ?_
  rintro e w' ⟨v', rfl, hO', o, hg⟩
  rw [rune_cells hr, ← List.map_append, List.length_map, ← List.length_append] at hO'
  refine ⟨v', rfl, ⟨hO', fun c hc => ?_⟩, ((Below.refl B w).alloc hB o).grown hg (by simp; omega) (fun k hk => (hO.1.lt k hk).1)⟩
  rcases List.mem_append.1 hc with hc | hc
  · exact hO.2 c hc
  · exact enc_bytes hr c hc

set_option maxHeartbeats 2000000 in
set_option maxRecDepth 100000 in
/-- (*strings.Builder).WriteRune. -/
theorem wrune_any {w : World} {g o B : Nat} {cs : Array Value} {T : TypeId} {p : Option Addr} {v : Value} {zs : List Int} (r : Nat) (hr : Right r) (h : Bdr w g o B cs T p v zs) (hlen : zs.length + 4 ≤ 140737488355328) :
    Calls Tryz.prog 154 #[.pointer (some ⟨g, o, none⟩), .int .i32 (r : Int)] w fun e w' => (∃ n, e = .returned (.tuple #[.int .i64 n, .nilIface])) ∧ (∃ v', Bdr w' g o B (wrt cs g o v') T (some ⟨g, o, none⟩) v' (zs ++ encL r)) ∧ Kq g B w w' := by
  have kC := cc_any h
  have hr' : Hid (Right r) := hr
  have hl' : Hid (zs.length + 4 ≤ 140737488355328) := hlen
  clear h hr hlen
  go_enter Tryz.func154, Tryz.ntmps154
  go_wp2_with (first
    | (go_at_call 162; refine kC.mono ?_; rintro e w1 ⟨rfl, h1, hk1⟩; clear kC; obtain ⟨a1, n1, cap1, hv, hn1, hc1, hle1, hm1, hb1⟩ := h1.row.form; subst hv; have c1 := h1.blk.cell (o + 1); rw [h1.buf] at c1; have kA := app_rune B (.slice a1 n1 cap1) zs r hr'.out w1 h1.row hl'.out h1.top; have H1 : Hid (Bdr w1 g o B (cs.setIfInBounds o (.pointer (some ⟨g, o, none⟩))) T (some ⟨g, o, none⟩) (.slice a1 n1 cap1) zs) := h1; clear h1 hn1 hb1 hc1)
    | (go_at_call 163; refine kA.mono ?_; rintro e w2 ⟨v2, rfl, hO2, hb2⟩; obtain ⟨a2, n2, cap2, hv2, hn2, hc2, hle2, hm2, hB2⟩ := hO2.form; subst hv2; have K2 := H1.out.blk.kept hb2 H1.out.low; have d1 := K2.cell (o + 1); rw [H1.out.buf] at d1; have f1 := K2.fz (o + 1); clear kA c1 hn2 hB2 hc2))
  go_ret2
  refine ⟨⟨_, rfl⟩, ⟨.slice a2 n2 cap2, K2.set (o + 1) _, ?_, .inr rfl, ?_, ?_, ⟨ownsRow_setCell_below hO2.1 (a := ⟨g, o + 1, none⟩) H1.out.low _, hO2.2⟩, H1.out.low, ?_⟩, (hk1.trans (Kq.of hb2)).trans (Kq.set g B w2 (o + 1) _)⟩
  · unfold wrt; rw [Array.getElem?_setIfInBounds_ne (by omega)]; exact H1.out.ptr
  · unfold wrt
    have := H1.out.buf
    rw [Array.getElem?_setIfInBounds_self_of_lt]
    rcases Nat.lt_or_ge (o + 1) (cs.setIfInBounds o (.pointer (some ⟨g, o, none⟩))).size with h1 | h1
    · exact h1
    · rw [Array.getElem?_eq_none h1] at this; cases this
  · unfold wrt; rw [Array.size_setIfInBounds]; exact H1.out.lies
  · exact Nat.le_trans H1.out.top (Nat.le_trans hb2.size (Kq.set g B w2 (o + 1) _).size)
end Go.Proofs.YtmlacmoembjeoaaGreatDoor
namespace Go.Proofs.YtmlacmoembjeoaaGreatDoor
open Go.RowKit
set_option linter.unusedVariables false

/-- The builder behind a write of any bytes. -/
theorem Bdr.put {w w2 : World} {g o B : Nat} {cs : Array Value} {T : TypeId} {p : Option Addr} {v v2 : Value} {zs ys : List Int} (h : Bdr w g o B (cs.setIfInBounds o (.pointer (some ⟨g, o, none⟩))) T (some ⟨g, o, none⟩) v zs) (hb : Below B w w2) (hO : OwnsB w2 B v2 ys) :
    Bdr (w2.setCell ⟨g, o + 1, none⟩ v2) g o B (wrt cs g o v2) T (some ⟨g, o, none⟩) v2 ys := by
  have K2 := h.blk.kept hb h.low
  refine ⟨K2.set (o + 1) _, ?_, .inr rfl, ?_, ?_, ⟨ownsRow_setCell_below hO.1 (a := ⟨g, o + 1, none⟩) h.low _, hO.2⟩, h.low, ?_⟩
  · unfold wrt; rw [Array.getElem?_setIfInBounds_ne (by omega)]; exact h.ptr
  · unfold wrt
    have := h.buf
    rw [Array.getElem?_setIfInBounds_self_of_lt]
    rcases Nat.lt_or_ge (o + 1) (cs.setIfInBounds o (.pointer (some ⟨g, o, none⟩))).size with h1 | h1
    · exact h1
    · rw [Array.getElem?_eq_none h1] at this; cases this
  · unfold wrt; rw [Array.size_setIfInBounds]; exact h.lies
  · exact Nat.le_trans h.top (Nat.le_trans hb.size (Kq.set g B w2 (o + 1) _).size)

/-! ### String -/
theorem cells_byte : Tryz.prog.cellsOf 5 = 1 := by kernel_rfl
def u8s (zs : List Int) : List UInt8 := zs.map fun c => c.toNat.toUInt8
theorem u8s_str {zs : List Int} : (⟨(u8s zs).toArray⟩ : ByteArray) = strOfNums zs := by
  unfold strOfNums u8s
  rfl
theorem str_none (W : World) (q : Option Addr) : (Builtin.unsafeString_ #[139, 3] 9 #[.pointer q, .int .i64 0]).run Tryz.prog W = .ok (.string ⟨#[]⟩) W := Any.unsafeString_none lays169 Extra_169 W q
set_option maxHeartbeats 2000000 in
set_option maxRecDepth 100000 in
/-- (*strings.Builder).String. -/
theorem bstr_any {w : World} {g o B : Nat} {cs : Array Value} {T : TypeId} {p : Option Addr} {v : Value} {zs : List Int} (h : Bdr w g o B cs T p v zs) :
    Calls Tryz.prog 92 #[.pointer (some ⟨g, o, none⟩)] w fun e w' => e = .returned (.string (strOfNums zs)) ∧ Below B w w' := by
  have c1 : w.drew.cell? ⟨g, o + 1, none⟩ = some v := by
    have := h.blk.cell (o + 1)
    rw [h.buf] at this
    exact this
  rcases h.row.1.2 with ⟨hv, hz⟩ | ⟨g2, cap, cur, hv, hbg, hg, hnc, hcm, hcs, htk⟩
  · subst hv
    have hzs : zs = [] := List.eq_nil_of_length_eq_zero hz
    subst hzs
    have hUS := str_none w.drew none
    have hSD : (Builtin.unsafeSliceData_ #[22] 139 #[.slice none 0 0]).run Tryz.prog w.drew = .ok (.pointer none) w.drew := rfl
    have hB : Hid (Below B w w.drew) := (Below.refl B w).drew
    clear h
    go_enter Tryz.func92, Tryz.ntmps92
    go_wp2
    go_region
    all_goals (go_wp2; go_ret; exact ⟨rfl, hB.out⟩)
  · subst hv
    by_cases hzs : zs = []
    · subst hzs
      have c0 : w.cell? ⟨g, o + 1, none⟩ = some (.slice (some ⟨g2, 0, none⟩) 0 cap) := c1
      by_cases hc0 : cap = 0
      · subst hc0
        have hUS := str_none
        have hSD : (Builtin.unsafeSliceData_ #[22] 139 #[.slice (some ⟨g2, 0, none⟩) 0 0]).run Tryz.prog w.drew = .ok (.pointer (some ⟨w.drew.heap.size, 0, none⟩)) (w.drew.alloc (.view ⟨g2, 0, none⟩ 5)) :=
          Lib.run_unsafeSliceData_zero w.drew _ _ 5 Tryz.underlying139 ⟨g2, 0, none⟩ 0 (5, cur.size) (by have hg' : w.drew.heap[g2]? = some (.cells cur 5 (0, 0)) := hg; simp [World.shape?, hg'])
        have hlt := h.blk.lt
        have c2 : (w.drew.alloc (.view ⟨g2, 0, none⟩ 5)).cell? ⟨g, o + 1, none⟩ = some (.slice (some ⟨g2, 0, none⟩) 0 0) := by
          rw [((Below.refl w.heap.size w.drew).alloc (Nat.le_refl _) (.view ⟨g2, 0, none⟩ 5)).cell (p := ⟨g, o + 1, none⟩) hlt]
          exact c1
        have c3 : (w.alloc (.view ⟨g2, 0, none⟩ 5)).drew.cell? ⟨g, o + 1, none⟩ = some (.slice (some ⟨g2, 0, none⟩) 0 0) := c2
        have hB : Hid (Below B w (w.drew.alloc (.view ⟨g2, 0, none⟩ 5))) := (Below.drew (Below.refl B w)).alloc h.top _
        clear h
        go_enter Tryz.func92, Tryz.ntmps92
        go_wp2
        go_region
        all_goals (go_wp2; go_ret; exact ⟨rfl, hB.out⟩)
      · have hUS := str_none
        have hSD : (Builtin.unsafeSliceData_ #[22] 139 #[.slice (some ⟨g2, 0, none⟩) 0 cap]).run Tryz.prog w.drew = .ok (.pointer (some ⟨g2, 0, none⟩)) w.drew := Lib.run_unsafeSliceData_row _ _ _ _ _ _ hc0
        have hB : Hid (Below B w w.drew) := (Below.refl B w).drew
        clear h hc0
        go_enter Tryz.func92, Tryz.ntmps92
        go_wp2
        go_region
        all_goals (go_wp2; go_ret; exact ⟨rfl, hB.out⟩)
    · have hl0 : zs.length ≠ 0 := by simpa using hzs
      have hSD : (Builtin.unsafeSliceData_ #[22] 139 #[.slice (some ⟨g2, 0, none⟩) zs.length cap]).run Tryz.prog w.drew = .ok (.pointer (some ⟨g2, 0, none⟩)) w.drew := Lib.run_unsafeSliceData_row _ _ _ _ _ _ (by omega)
      have hlen : (u8s zs).length = zs.length := by unfold u8s; simp
      have hUS : (Builtin.unsafeString_ #[139, 3] 9 #[.pointer (some ⟨g2, 0, none⟩), .int .i64 zs.length]).run Tryz.prog w.drew = .ok (.string (strOfNums zs)) (w.drew.freeze ⟨g2, 0, none⟩ zs.length) := by
        have := Lib.run_unsafeString_row (P := Tryz.prog) w.drew 139 3 9 5 Tryz.underlying139 cells_byte g2 cur.size (by have hg' : w.drew.heap[g2]? = some (.cells cur 5 (0, 0)) := hg; simp [World.shape?, hg']) (u8s zs) (fun e => hl0 (by rw [← hlen, e]; rfl)) (by omega) (by unfold maxLen at hcm; omega) (fun j x hx => ?_)
        · rwa [u8s_str, hlen] at this
        · obtain ⟨a', cap', hv', _, _, hby, _⟩ := h.row.shape
          cases hv'
          rcases hby.2.2 with e | ⟨b', off', ha', hcell⟩
          · exact absurd e hzs
          · cases ha'
            have hj : j < zs.length := by rw [← hlen]; exact (List.getElem?_eq_some_iff.1 hx).1
            have hc := hcell j hj
            have hx' : x = (zs.getD j 0).toNat.toUInt8 := by
              unfold u8s at hx
              rw [List.getElem?_map, List.getElem?_eq_getElem hj] at hx
              simp only [Option.map_some, Option.some.injEq] at hx
              rw [List.getD_eq_getElem?_getD, List.getElem?_eq_getElem hj]
              exact hx.symm
            have hb := hby.1 (zs.getD j 0) (by rw [List.getD_eq_getElem?_getD, List.getElem?_eq_getElem hj]; exact List.getElem_mem hj)
            have e : ((x.toNat : Nat) : Int) = zs.getD j 0 := by
              rw [hx']
              have : (zs.getD j 0).toNat.toUInt8.toNat = (zs.getD j 0).toNat := by
                rw [Nat.toUInt8, UInt8.toNat_ofNat', Nat.mod_eq_of_lt (by omega)]
              rw [this]; omega
            show w.cell? _ = _
            rw [e, ← hc]
            congr 1
            simp [Addr.add]
            exact fun h => h.symm
      have hB : Hid (Below B w (w.drew.freeze ⟨g2, 0, none⟩ zs.length)) := Lib.below_freeze (Below.drew (Below.refl B w)) (p := ⟨g2, 0, none⟩) hbg _
      clear h
      go_enter Tryz.func92, Tryz.ntmps92
      go_wp2
      go_region
      all_goals (go_wp2; go_ret; exact ⟨rfl, hB.out⟩)
end Go.Proofs.YtmlacmoembjeoaaGreatDoor
namespace Go.Proofs.YtmlacmoembjeoaaGreatDoor
open Go
set_option linter.unusedVariables false

/-! ### A string's characters -/

/-- What was read of a string: its state (0 a character, 1 a backslash, 2 digits, 3 a first half, 4 a backslash behind it, 5 all, 6 wrong), the number of the digits, how many they are, a first half, the bytes that it means. -/
structure RS where
  q : Nat
  num : Nat
  dig : Nat
  fst : Nat
  txt : List Int
/-- Nothing was read yet. -/
def r0 : RS := ⟨0, 0, 0, 0, []⟩
/-- A digit of base 16. -/
def hexD (r : Nat) : Option Nat := if 48 ≤ r ∧ r ≤ 57 then some (r - 48) else if 97 ≤ r ∧ r ≤ 102 then some (r - 87) else if 65 ≤ r ∧ r ≤ 70 then some (r - 55) else none
/-- What a sign behind a backslash means. -/
def shortM (r : Nat) : Option Nat := if r = 34 then some 34 else if r = 92 then some 92 else if r = 98 then some 8 else if r = 102 then some 12 else if r = 110 then some 10 else if r = 114 then some 13 else if r = 116 then some 9 else none
/-- May a number go on so? -/
def mayGo (f n k : Nat) : Bool := if f = 0 then decide (n * 16 ^ (4 - k) < 56320) || decide (57344 < (n + 1) * 16 ^ (4 - k)) else decide (56320 < (n + 1) * 16 ^ (4 - k)) && decide (n * 16 ^ (4 - k) < 57344)
def putR (s : RS) (r : Nat) : RS := ⟨0, s.num, s.dig, s.fst, s.txt ++ encL r⟩
def digR (s : RS) (d : Nat) : RS :=
  if mayGo s.fst (s.num * 16 + d) (s.dig + 1) = false then ⟨6, s.num * 16 + d, s.dig + 1, s.fst, s.txt⟩
  else if s.dig + 1 < 4 then ⟨2, s.num * 16 + d, s.dig + 1, s.fst, s.txt⟩
  else if s.fst ≠ 0 then ⟨0, 0, 0, 0, s.txt ++ encL (65536 + (s.fst - 55296) * 1024 + (s.num * 16 + d) - 56320)⟩
  else if 55296 ≤ s.num * 16 + d ∧ s.num * 16 + d < 57344 then ⟨3, 0, 0, s.num * 16 + d, s.txt⟩
  else ⟨0, 0, 0, 0, s.txt ++ encL (s.num * 16 + d)⟩
/-- One more character. -/
def takeR (s : RS) (r : Nat) : RS :=
  if s.q = 0 then (if r = 34 then ⟨5, s.num, s.dig, s.fst, s.txt⟩ else if r = 92 then ⟨1, s.num, s.dig, s.fst, s.txt⟩ else if r < 32 then ⟨6, s.num, s.dig, s.fst, s.txt⟩ else putR s r)
  else if s.q = 1 then (if r = 117 then ⟨2, s.num, s.dig, s.fst, s.txt⟩ else if r = 47 then putR s 47 else match shortM r with | some m => putR s m | none => ⟨6, s.num, s.dig, s.fst, s.txt⟩)
  else if s.q = 2 then (match hexD r with | some d => digR s d | none => ⟨6, s.num, s.dig, s.fst, s.txt⟩)
  else if s.q = 3 then ⟨if r = 92 then 4 else 6, s.num, s.dig, s.fst, s.txt⟩
  else if s.q = 4 then ⟨if r = 117 then 2 else 6, s.num, s.dig, s.fst, s.txt⟩
  else s
theorem hex_big {r : Nat} (h : 128 ≤ r) : hexD r = none := by unfold hexD; rw [if_neg (by omega), if_neg (by omega), if_neg (by omega)]
theorem short_big {r : Nat} (h : 128 ≤ r) : shortM r = none := by
  unfold shortM
  rw [if_neg (by omega), if_neg (by omega), if_neg (by omega), if_neg (by omega), if_neg (by omega), if_neg (by omega), if_neg (by omega)]
/-- In an escape no character of several bytes may stand. -/
theorem take_big {s : RS} {r : Nat} (h0 : s.q ≠ 0) (h4 : s.q ≤ 4) (h : 128 ≤ r) : (takeR s r).q = 6 := by
  unfold takeR
  rw [if_neg h0]
  by_cases h1 : s.q = 1
  · rw [if_pos h1, if_neg (by omega), if_neg (by omega), short_big h]
  rw [if_neg h1]
  by_cases h2 : s.q = 2
  · rw [if_pos h2, hex_big h]
  rw [if_neg h2]
  by_cases h3 : s.q = 3
  · rw [if_pos h3]; exact if_neg (by omega)
  rw [if_neg h3, if_pos (by omega)]
  exact if_neg (by omega)
theorem dig_le (s : RS) (d : Nat) : (digR s d).q ≤ 6 := by
  unfold digR
  repeat' split
  all_goals simp
theorem take_le {s : RS} {r : Nat} (h : s.q ≤ 6) : (takeR s r).q ≤ 6 := by
  unfold takeR
  repeat' split
  all_goals first | exact dig_le _ _ | exact h | simp [putR]

/-- The fault where no whole character stands. -/
def brkR (b : List Int) (p : Nat) (free : Bool) : Nat × Nat :=
  if badB b = 0 then (6, p) else if free = false then (5, p) else if badB b = b.length then (3, p + badB b) else (6, p + badB b)
/-- THE STRING, its characters from a place on: the bytes that it means, the place behind it; its fault. -/
def strF : Nat → List Int → Nat → RS → List Int × Nat × Nat × Nat
  | 0, _, p, _ => ([], 0, 3, p)
  | k + 1, b, p, s => if b = [] then ([], 0, 3, p) else if goodB b = false then ([], 0, brkR b p (s.q == 0)) else
    if (takeR s (valB b)).q = 5 then ((takeR s (valB b)).txt, p + 1, 0, 0) else if (takeR s (valB b)).q = 6 then ([], 0, 5, p) else strF k (b.drop (lenB b)) (p + lenB b) (takeR s (valB b))
def strL (b : List Int) (p : Nat) (s : RS) : List Int × Nat × Nat × Nat := strF b.length b p s
theorem strF_nil (k p : Nat) (s : RS) : strF k [] p s = ([], 0, 3, p) := by
  cases k with
  | zero => rfl
  | succ k => rw [strF, if_pos rfl]
theorem strF_more (k : Nat) : ∀ (b : List Int) (m p : Nat) (s : RS), b.length ≤ k → k ≤ m → strF m b p s = strF k b p s := by
  induction k with
  | zero =>
    intro b m p s h _
    obtain rfl : b = [] := List.eq_nil_of_length_eq_zero (by omega)
    rw [strF_nil, strF_nil]
  | succ k ih =>
    intro b m p s h hm
    obtain ⟨m, rfl⟩ : ∃ m', m = m' + 1 := ⟨m - 1, by omega⟩
    by_cases h0 : b = []
    · subst h0; rw [strF_nil, strF_nil]
    · by_cases hg : Good b
      · have hn := good_ne hg h0
        rw [strF, strF, if_neg h0, if_neg h0, goodB_yes hg, if_neg (show ¬ true = false by decide), if_neg (show ¬ true = false by decide), ih (b.drop (lenB b)) m _ _ (by rw [List.length_drop]; omega) (by omega)]
      · rw [strF, strF, if_neg h0, if_neg h0, goodB_no hg, if_pos rfl, if_pos rfl]
theorem str_nil (p : Nat) (s : RS) : strL [] p s = ([], 0, 3, p) := rfl
theorem str_bad {b : List Int} {p : Nat} {s : RS} (h0 : b ≠ []) (h : ¬ Good b) : strL b p s = ([], 0, brkR b p (s.q == 0)) := by
  have hp := List.length_pos_iff.2 h0
  unfold strL
  obtain ⟨k, hk⟩ : ∃ k, b.length = k + 1 := ⟨b.length - 1, by omega⟩
  rw [hk, strF, if_neg h0, goodB_no h, if_pos rfl]
theorem str_good {b : List Int} {p : Nat} {s : RS} (h0 : b ≠ []) (h : Good b) : strL b p s =
    if (takeR s (valB b)).q = 5 then ((takeR s (valB b)).txt, p + 1, 0, 0) else if (takeR s (valB b)).q = 6 then ([], 0, 5, p) else strL (b.drop (lenB b)) (p + lenB b) (takeR s (valB b)) := by
  have hn := good_ne h h0
  unfold strL
  obtain ⟨k, hk⟩ : ∃ k, b.length = k + 1 := ⟨b.length - 1, by omega⟩
  rw [hk, strF, if_neg h0, goodB_yes h, if_neg (show ¬ true = false by decide), strF_more (b.drop (lenB b)).length (b.drop (lenB b)) k _ _ (Nat.le_refl _) (by rw [List.length_drop]; omega)]
theorem str_all {b : List Int} {p : Nat} {s : RS} (h0 : b ≠ []) (h : Good b) (h5 : (takeR s (valB b)).q = 5) : strL b p s = ((takeR s (valB b)).txt, p + 1, 0, 0) := by rw [str_good h0 h, if_pos h5]
theorem str_wrong {b : List Int} {p : Nat} {s : RS} (h0 : b ≠ []) (h : Good b) (h6 : (takeR s (valB b)).q = 6) : strL b p s = ([], 0, 5, p) := by rw [str_good h0 h, if_neg (by omega), if_pos h6]
theorem str_on {b : List Int} {p : Nat} {s : RS} (h0 : b ≠ []) (h : Good b) (h5 : (takeR s (valB b)).q ≠ 5) (h6 : (takeR s (valB b)).q ≠ 6) : strL b p s = strL (b.drop (lenB b)) (p + lenB b) (takeR s (valB b)) := by rw [str_good h0 h, if_neg h5, if_neg h6]

theorem lenB_two {b : List Int} (h : Good b) (h2 : 2 ≤ lenB b) : 128 ≤ valB b := by
  have hb : lenB b = lenN (nth b 0) := rfl
  have e := val_lenR h
  unfold lenR at e
  by_cases hv : valB b < 128
  · rw [if_pos hv] at e; omega
  · omega
theorem lenB_one {b : List Int} (h : Good b) (h1 : lenB b < 2) : valB b = nth b 0 ∧ nth b 0 < 128 := by
  have hb : lenB b = lenN (nth b 0) := rfl
  have h0 : lenB b ≠ 0 := h.1
  have hc : nth b 0 < 128 := by
    rcases len_cases (nth b 0) with ⟨e, k⟩ | ⟨e, k⟩ | ⟨e, k⟩ | ⟨e, k⟩ | ⟨e, k⟩ <;> omega
  refine ⟨?_, hc⟩
  unfold valB valN
  rw [if_pos hc]
/-- Where a character of one byte only may stand, one of several is wrong, whole or not. -/
theorem str_big {b : List Int} {p : Nat} {s : RS} (h0 : b ≠ []) (q0 : s.q ≠ 0) (q4 : s.q ≤ 4) (h2 : 2 ≤ lenB b) : (strL b p s).2.2 = (5, p) := by
  by_cases hg : Good b
  · rw [str_wrong h0 hg (take_big q0 q4 (lenB_two hg h2))]
  · rw [str_bad h0 hg]
    have hq : (s.q == 0) = false := by simp [q0]
    show brkR b p (s.q == 0) = _
    unfold brkR
    rw [hq, if_neg ?_, if_pos rfl]
    rcases bad_cases hg with ⟨e, k⟩ | ⟨e, k1, k2⟩ | ⟨e, k1, k2, k3⟩ | ⟨e, k1, k2, k3, k4⟩ <;> omega
/-- Where a string ends, or its fault lies. -/
theorem str_bounds (b : List Int) : ∀ (p : Nat) (s : RS), ((strL b p s).2.2.1 = 0 → p < (strL b p s).2.1 ∧ (strL b p s).2.1 ≤ p + b.length) ∧ ((strL b p s).2.2.1 ≠ 0 → p ≤ (strL b p s).2.2.2 ∧ (strL b p s).2.2.2 ≤ p + b.length) := by
  induction b using text_ind with
  | nil => intro p s; rw [str_nil]; exact ⟨fun h => by simp at h, fun _ => by simp⟩
  | good b h0 h ih =>
    intro p s
    have hg := good_ne h h0
    by_cases h5 : (takeR s (valB b)).q = 5
    · rw [str_all h0 h h5]; simp; omega
    by_cases h6 : (takeR s (valB b)).q = 6
    · rw [str_wrong h0 h h6]; simp
    rw [str_on h0 h h5 h6]
    have := ih (p + lenB b) (takeR s (valB b))
    rw [List.length_drop] at this
    exact ⟨fun e => by have := this.1 e; omega, fun e => by have := this.2 e; omega⟩
  | bad b h0 h =>
    intro p s
    have hl := bad_le h0 h
    rw [str_bad h0 h]
    show ((brkR b p (s.q == 0)).1 = 0 → _) ∧ ((brkR b p (s.q == 0)).1 ≠ 0 → p ≤ (brkR b p (s.q == 0)).2 ∧ (brkR b p (s.q == 0)).2 ≤ p + b.length)
    unfold brkR
    repeat' split
    all_goals simp <;> omega
theorem take_five {s : RS} {r : Nat} (h4 : s.q ≤ 4) (h5 : (takeR s r).q = 5) : r = 34 := by
  unfold takeR at h5
  by_cases h0 : s.q = 0
  · rw [if_pos h0] at h5
    by_cases h : r = 34
    · exact h
    · rw [if_neg h] at h5
      exfalso
      revert h5
      repeat' split
      all_goals simp [putR]
  rw [if_neg h0] at h5
  exfalso
  by_cases h1 : s.q = 1
  · rw [if_pos h1] at h5
    revert h5
    repeat' split
    all_goals simp [putR]
  rw [if_neg h1] at h5
  by_cases h2 : s.q = 2
  · rw [if_pos h2] at h5
    revert h5
    split
    · unfold digR
      repeat' split
      all_goals simp
    · simp
  rw [if_neg h2] at h5
  by_cases h3 : s.q = 3
  · rw [if_pos h3] at h5
    revert h5
    dsimp only
    split <;> omega
  rw [if_neg h3, if_pos (by omega)] at h5
  revert h5
  dsimp only
  split <;> omega
theorem take_on {s : RS} {r : Nat} (h4 : s.q ≤ 4) (h5 : (takeR s r).q ≠ 5) (h6 : (takeR s r).q ≠ 6) : (takeR s r).q ≤ 4 := by
  have := take_le (s := s) (r := r) (by omega)
  omega
end Go.Proofs.YtmlacmoembjeoaaGreatDoor
