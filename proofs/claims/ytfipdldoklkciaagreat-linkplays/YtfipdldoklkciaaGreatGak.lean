/-
  Texts Lkf, Lkg.
-/
import Derived.Test.YtfipdldoklkciaaGreatGaj
import Derived.Deep.RegionWith
namespace Go.Proofs.YtfipdldoklkciaaGreat
open Go.RowKit
set_option linter.unusedVariables false
/-- A datagram on its way. -/
structure Gr where
  a : Option Addr
  n : Nat
  c : Nat
  zs : List Int
  sp : Bool
def Gr.val (g : Gr) : Value := .agg #[.slice g.a g.n g.c, .bool g.sp]
/-- THE NET IN A BLOCK's CELLS, FROM o ON. -/
structure Net (cs : Array Value) (o : Nat) (G : List Gr) : Prop where
  few : G.length ≤ 256
  cnt : cs[o + 512]? = some (.int .i64 (G.length : Nat))
  row : ∀ i g, G[i]? = some g → cs[o + i * 2]? = some (.slice g.a g.n g.c) ∧ cs[o + i * 2 + 1]? = some (.bool g.sp)
  big : o + 515 ≤ cs.size
theorem net_put {cs : Array Value} {o : Nat} {G : List Gr} (h : Net cs o G) (hr : G.length < 256) (g : Gr) :
    Net (((cs.setIfInBounds (o + G.length * 2) (.slice g.a g.n g.c)).setIfInBounds (o + G.length * 2 + 1) (.bool g.sp)).setIfInBounds (o + 512) (.int .i64 ((G.length : Nat) + 1))) o (G ++ [g]) := by
  obtain ⟨h1, h2, h3, h4⟩ := h
  refine ⟨by simp; omega, ?_, fun i x hx => ?_, by simpa using h4⟩
  · rw [Array.getElem?_setIfInBounds_self_of_lt (by simp; omega), List.length_append]
    simp
  · rcases Nat.lt_trichotomy i G.length with hi | hi | hi
    · rw [List.getElem?_append_left hi] at hx
      rw [Array.getElem?_setIfInBounds_ne (by omega), Array.getElem?_setIfInBounds_ne (by omega), Array.getElem?_setIfInBounds_ne (by omega), Array.getElem?_setIfInBounds_ne (by omega), Array.getElem?_setIfInBounds_ne (by omega), Array.getElem?_setIfInBounds_ne (by omega)]
      exact h3 i x hx
    · subst hi
      rw [List.getElem?_append_right (Nat.le_refl _), Nat.sub_self] at hx
      obtain rfl : g = x := by simpa using hx
      rw [Array.getElem?_setIfInBounds_ne (by omega), Array.getElem?_setIfInBounds_ne (by omega), Array.getElem?_setIfInBounds_self_of_lt (by omega), Array.getElem?_setIfInBounds_ne (by omega), Array.getElem?_setIfInBounds_self_of_lt (by simp; omega)]
      exact ⟨rfl, rfl⟩
    · rw [List.getElem?_eq_none (by simp; omega)] at hx
      cases hx
/-- What stands elsewhere in the block. -/
def Apart (cs cs' : Array Value) (o : Nat) : Prop := cs'.size = cs.size ∧ ∀ j, j < o ∨ o + 513 ≤ j → cs'[j]? = cs[j]?
theorem put_room {w : World} {lb o : Nat} {cs : Array Value} {T : TypeId} {G : List Gr} (g : Gr) (hb : Blk w lb cs T) (hN : Net cs o G) (hr : G.length < 256) :
    Calls Tryz.prog 59 #[.pointer (some ⟨lb, o, none⟩), g.val] w fun e w' => e = .returned (.tuple #[]) ∧ ∃ cs', Hid (Blk w' lb cs' T) ∧ Hid (Net cs' o (G ++ [g])) ∧ Hid (Apart cs cs' o) ∧ Hid (K2 lb lb w w') := by
  have c0 : w.cell? ⟨lb, o + 512, none⟩ = some (.int .i64 (G.length : Nat)) := (hb.cell _).trans hN.cnt
  have hlt := hb.lt
  have d0 : decide (((G.length : Nat) : Int) < 256) = true := by simp; omega
  have d1 : decide ((0 : Int) ≤ ((G.length : Nat) : Int)) = true := by simp
  have f0 := hb.fz (o + 512)
  have f1 := hb.fz (o + G.length * 2)
  have f2 := hb.fz (o + G.length * 2 + 1)
  have hbig := hN.big
  have c1 : w.cell? ⟨lb, o + G.length * 2, none⟩ = some (cs[o + G.length * 2]'(by omega)) := (hb.cell _).trans (Array.getElem?_eq_getElem _)
  have c2 : w.cell? ⟨lb, o + G.length * 2 + 1, none⟩ = some (cs[o + G.length * 2 + 1]'(by omega)) := (hb.cell _).trans (Array.getElem?_eq_getElem _)
  have hw : IntKind.i64.wrap (((G.length : Nat) : Int) + 1) = ((G.length : Nat) : Int) + 1 := by rw [IntKind.wrap_i64]; omega
  have hNN := net_put hN hr g
  have hb' : Hid (Blk w lb cs T) := hb
  have hN' : Hid (Net (((cs.setIfInBounds (o + G.length * 2) (.slice g.a g.n g.c)).setIfInBounds (o + G.length * 2 + 1) (.bool g.sp)).setIfInBounds (o + 512) (.int .i64 ((G.length : Nat) + 1))) o (G ++ [g])) := hNN
  have hA : Hid (Apart cs (((cs.setIfInBounds (o + G.length * 2) (.slice g.a g.n g.c)).setIfInBounds (o + G.length * 2 + 1) (.bool g.sp)).setIfInBounds (o + 512) (.int .i64 ((G.length : Nat) + 1))) o) := by
    refine ⟨by simp, fun j hj => ?_⟩
    rw [Array.getElem?_setIfInBounds_ne (by omega), Array.getElem?_setIfInBounds_ne (by omega), Array.getElem?_setIfInBounds_ne (by omega)]
  generalize (cs[o + G.length * 2]'(by omega)) = u1 at *
  generalize (cs[o + G.length * 2 + 1]'(by omega)) = u2 at *
  have hr' : G.length < 256 := hr
  clear hb hN hNN hbig hr
  unfold Gr.val
  generalize G.length = k at *
  go_enter Tryz.func59, Tryz.ntmps59
  go_wp2
  go_region
  go_wp2
  refine bodyPost_end (results_none rfl _ _ _) rfl ?_
  refine ⟨rfl, _, (((hb'.out.set _ _).set _ _).set _ _).kept (((Below.refl _ _).alloc (Nat.le_refl _) _).drew), hN', hA, ?_⟩
  exact ((K2.set w _ _).trans ((K2.set _ _ _).trans (K2.set _ _ _))).trans (K2.of_below (((Below.refl _ _).alloc (Nat.le_refl _) _).drew))
theorem put_full {w : World} {lb o : Nat} {cs : Array Value} {T : TypeId} {G : List Gr} (g : Gr) (hb : Blk w lb cs T) (hN : Net cs o G) (hr : G.length = 256) :
    Calls Tryz.prog 59 #[.pointer (some ⟨lb, o, none⟩), g.val] w fun e w' => e = .returned (.tuple #[]) ∧ Hid (Below w.heap.size w w') := by
  have c0 : w.cell? ⟨lb, o + 512, none⟩ = some (.int .i64 (G.length : Nat)) := (hb.cell _).trans hN.cnt
  have hlt := hb.lt
  rw [hr] at c0
  clear hb hN hr
  unfold Gr.val
  go_enter Tryz.func59, Tryz.ntmps59
  go_wp2
  refine bodyPost_end (results_none rfl _ _ _) rfl ?_
  exact ⟨rfl, (Below.refl _ _).alloc (Nat.le_refl _) _⟩
def putG (G : List Gr) (g : Gr) : List Gr := if G.length < 256 then G ++ [g] else G
theorem put_any {w : World} {lb o : Nat} {cs : Array Value} {T : TypeId} {G : List Gr} (g : Gr) (hb : Blk w lb cs T) (hN : Net cs o G) :
    Calls Tryz.prog 59 #[.pointer (some ⟨lb, o, none⟩), g.val] w fun e w' => e = .returned (.tuple #[]) ∧ ∃ cs', Hid (Blk w' lb cs' T) ∧ Hid (Net cs' o (putG G g)) ∧ Hid (Apart cs cs' o) ∧ Hid (K2 lb lb w w') := by
  by_cases h : G.length < 256
  · unfold putG
    rw [if_pos h]
    exact put_room g hb hN h
  · unfold putG
    rw [if_neg h]
    refine (put_full g hb hN (by have := hN.few; omega)).mono ?_
    rintro e w' ⟨rfl, hB⟩
    exact ⟨rfl, cs, hb.kept hB.out, hN, ⟨rfl, fun _ _ => rfl⟩, K2.of_below hB.out⟩

/-! ### a datagram goes -/
theorem run_copy_two (w : World) (ty : TypeId) (g o dLen dCap : Nat) (a : Addr) (sLen sCap : Nat) (cur : Array Value) (t : TypeId) (cs : List Value)
    (hg : w.heap[g]? = some (.cells cur t (0, 0))) (hn : cs.length = 2 * Nat.min sLen dLen)
    (hsrc : ∀ j v, cs[j]? = some v → w.cell? (a.add j) = some v) (hfit : o + cs.length ≤ cur.size) (h1 : ∀ v ∈ cs, v.oneCell' = true) :
    (Builtin.copy_ #[144, 144] ty #[.slice (some ⟨g, o, none⟩) dLen dCap, .slice (some a) sLen sCap]).run Tryz.prog w =
      .ok (goInt (Nat.min sLen dLen)) (w.setRow g (cur.toList.take o ++ cs ++ cur.toList.drop (o + cs.length)).toArray) := by
  have hl := run_loadCells_list (P := Tryz.prog) w a cs hsrc
  have hst := run_storeCells_at Tryz.prog g o t cs 0 cur w hg (by simpa using hfit) h1
  have hs : (Tryz.prog.info? 61).map (·.size) = some 2 := by kernel_rfl
  have hu := Tryz.underlying144
  cases hq : Tryz.prog.info? 61 with
  | none => simp [hq] at hs
  | some i =>
    have hi : i.size = 2 := by simpa [hq] using hs
    have e2 : Nat.min sLen dLen * 2 = cs.length := by omega
    simp [Builtin.copy_, run_underlying hu, Builtin.lenOf, Builtin.firstCells, sizeOf, typeInfo, hq, hi, e2, hl, hst]
theorem run_copy_zero (w : World) (ty : TypeId) (d a : Option Addr) (dLen dCap sLen sCap : Nat) (hn : Nat.min sLen dLen = 0) :
    (Builtin.copy_ #[144, 144] ty #[.slice d dLen dCap, .slice a sLen sCap]).run Tryz.prog w = .ok (goInt 0) w := by
  have hs : (Tryz.prog.info? 61).map (·.size) = some 2 := by kernel_rfl
  have hu := Tryz.underlying144
  cases hq : Tryz.prog.info? 61 with
  | none => simp [hq] at hs
  | some i =>
    have hl : ∀ (x : Addr), (loadCells x 0).run Tryz.prog w = .ok #[] w := fun x => by simpa using run_loadCells_list (P := Tryz.prog) w x [] (by simp)
    cases d <;> cases a <;> simp [Builtin.copy_, run_underlying hu, Builtin.lenOf, Builtin.firstCells, sizeOf, typeInfo, hq, hn, storeCells, hl]
theorem step_cpy {w w2 : World} {ops : Array Oper} {o : Oper} {a : Act} {K : Act → World → Prop} {Q : Exit → Act → World → Prop} {E : Prop} (hgd : o.guard = none) (s x : Operand)
    (ho : o.op = .call { callee := .builtin .copy, args := #[s, x], argTypes := #[144, 144] }) (vs vx v2 : Value) (hs : a.eval s = vs) (hx : a.eval x = vx)
    (hr : (Builtin.copy_ #[144, 144] o.type #[vs, vx]).run Tryz.prog w = .ok v2 w2) (h : K (a.put o.dst v2) w2) :
    if Region.wanted o (yielded ops a.tmps) = true then Oper.wp Tryz.prog o a w K Q else E := by
  have hw : Region.wanted o (yielded ops a.tmps) = true := by simp [Region.wanted, hgd]
  rw [if_pos hw]
  unfold Oper.wp execOp
  simp only [ho, resolve, invoke, builtin, Sem.run_bind, Sem.run_pure, Result.andThen_ok, List.map_toArray, List.map_cons, List.map_nil, hs, hx, hr]
  exact h
end Go.Proofs.YtfipdldoklkciaaGreat
namespace Go.Proofs.YtfipdldoklkciaaGreat
open Go.RowKit
set_option linter.unusedVariables false
def segC (cs : Array Value) (o i k : Nat) : List Value := (cs.toList.drop (o + i * 2 + 2)).take (2 * (k - 1 - i))
def cutC (cs : Array Value) (o i k : Nat) : Array Value := (cs.toList.take (o + i * 2) ++ segC cs o i k ++ cs.toList.drop (o + i * 2 + (segC cs o i k).length)).toArray
theorem seg_len {cs : Array Value} {o i k : Nat} (hi : i < k) (hs : o + k * 2 ≤ cs.size) : (segC cs o i k).length = 2 * (k - 1 - i) := by
  unfold segC
  rw [List.length_take, List.length_drop, Array.length_toList]
  omega
theorem cut_get {cs : Array Value} {o i k : Nat} (hi : i < k) (hs : o + k * 2 ≤ cs.size) (j : Nat) : (cutC cs o i k)[j]? = if o + i * 2 ≤ j ∧ j < o + (k - 1) * 2 then cs[j + 2]? else cs[j]? := by
  have hl := seg_len hi hs
  unfold cutC
  rw [List.getElem?_toArray]
  have ht : (cs.toList.take (o + i * 2)).length = o + i * 2 := by rw [List.length_take, Array.length_toList]; omega
  rcases Nat.lt_or_ge j (o + i * 2) with h | h
  · rw [if_neg (by omega), List.getElem?_append_left (by rw [List.length_append]; omega), List.getElem?_append_left (by omega), List.getElem?_take, if_pos h, Array.getElem?_toList]
  · rcases Nat.lt_or_ge j (o + (k - 1) * 2) with h2 | h2
    · rw [if_pos ⟨h, h2⟩, List.getElem?_append_left (by rw [List.length_append]; omega), List.getElem?_append_right (by omega), ht]
      unfold segC
      rw [List.getElem?_take, if_pos (by omega), List.getElem?_drop, Array.getElem?_toList]
      congr 1
      omega
    · rw [if_neg (by omega), List.getElem?_append_right (by rw [List.length_append]; omega), List.getElem?_drop, Array.getElem?_toList, List.length_append, ht, hl]
      congr 1
      omega
theorem cut_size {cs : Array Value} {o i k : Nat} (hi : i < k) (hs : o + k * 2 ≤ cs.size) : (cutC cs o i k).size = cs.size := by
  have hl := seg_len hi hs
  unfold cutC
  rw [List.size_toArray, List.length_append, List.length_append, List.length_take, List.length_drop, Array.length_toList]
  omega
theorem net_out {cs : Array Value} {o : Nat} {G : List Gr} {i k : Nat} (h : Net cs o G) (hk : G.length = k) (hi : i < k) :
    Net ((((cutC cs o i k).setIfInBounds (o + 512) (.int .i64 ((k : Int) - 1))).setIfInBounds (o + (k - 1) * 2) (.slice none 0 0)).setIfInBounds (o + (k - 1) * 2 + 1) (.bool false)) o (G.eraseIdx i)
    ∧ Apart cs ((((cutC cs o i k).setIfInBounds (o + 512) (.int .i64 ((k : Int) - 1))).setIfInBounds (o + (k - 1) * 2) (.slice none 0 0)).setIfInBounds (o + (k - 1) * 2 + 1) (.bool false)) o := by
  obtain ⟨h1, h2, h3, h4⟩ := h
  have hz := cut_size (cs := cs) (o := o) hi (by omega)
  have hg := cut_get (cs := cs) (o := o) hi (by omega)
  have hlen : (G.eraseIdx i).length = k - 1 := by rw [List.length_eraseIdx_of_lt (by omega), hk]
  refine ⟨⟨by omega, ?_, fun j x hx => ?_, by simpa [hz] using h4⟩, by simp [hz], fun j hj => ?_⟩
  · rw [Array.getElem?_setIfInBounds_ne (by omega), Array.getElem?_setIfInBounds_ne (by omega), Array.getElem?_setIfInBounds_self_of_lt (by omega), hlen]
    congr 2
    omega
  · have hj : j < k - 1 := by rw [← hlen]; exact (List.getElem?_eq_some_iff.1 hx).1
    rw [Array.getElem?_setIfInBounds_ne (by omega), Array.getElem?_setIfInBounds_ne (by omega), Array.getElem?_setIfInBounds_ne (by omega), Array.getElem?_setIfInBounds_ne (by omega), Array.getElem?_setIfInBounds_ne (by omega), Array.getElem?_setIfInBounds_ne (by omega), hg, hg]
    rw [List.getElem?_eraseIdx] at hx
    by_cases hji : j < i
    · rw [if_pos hji] at hx
      rw [if_neg (by omega), if_neg (by omega)]
      exact h3 j x hx
    · rw [if_neg hji] at hx
      rw [if_pos (by omega), if_pos (by omega)]
      have := h3 (j + 1) x hx
      rw [show o + (j + 1) * 2 = o + j * 2 + 2 by omega] at this
      exact this
  · rw [Array.getElem?_setIfInBounds_ne (by omega), Array.getElem?_setIfInBounds_ne (by omega), Array.getElem?_setIfInBounds_ne (by omega), hg, if_neg (by omega)]
theorem Blk.set_ne {w : World} {g r : Nat} {cs : Array Value} {T : TypeId} (h : Blk w g cs T) (hr : g ≠ r) (j : Nat) (v : Value) : Blk (w.setCell ⟨r, j, none⟩ v) g cs T := (Below.heap_setCell _ _ _ _ (by simpa using hr)).trans h
theorem Blk.drew {w : World} {g : Nat} {cs : Array Value} {T : TypeId} (h : Blk w g cs T) : Blk w.drew g cs T := h
theorem K2.setnew {q g r : Nat} {w w' : World} (h : K2 q g w w') (hr : w.heap.size ≤ r) (j : Nat) (v : Value) : K2 q g w (w'.setCell ⟨r, j, none⟩ v) :=
  ⟨h.os, h.tape, h.output, by simpa [World.setCell] using h.size, fun k hk h1 h2 => (Below.heap_setCell _ _ _ _ (by simp; omega)).trans (h.block k hk h1 h2)⟩
def plcA (lb o l : Nat) : Addr := if 256 = l then ⟨lb, o, none⟩ else ⟨lb, o + l * 2, none⟩
theorem add_two (lb o l : Nat) : (⟨lb, o, none⟩ : Addr).add (l * 2) = ⟨lb, o + l * 2, none⟩ := by
  unfold Addr.add
  split
  · rename_i h; simp; try omega
  · rfl
theorem size_dg (W : World) : (sizeOf 61).run Tryz.prog W = .ok 2 W := by kernel_rfl
theorem len_ar : Tryz.prog.arrayLen 62 = 256 := by kernel_rfl
theorem elem_ar : Tryz.prog.elem 62 = 61 := by kernel_rfl
theorem slice_l (lb o i : Nat) (hi : i < 256) (W : World) : (Instr.sliceAt 62 (.pointer (some ⟨lb, o, none⟩)) (some (.int .i64 (i : Nat))) none none).run Tryz.prog W = .ok (.slice (some ⟨lb, o + i * 2, none⟩) (256 - i) (256 - i)) W := by
  rw [run_sliceAt_array_l (P := Tryz.prog) W 62 ⟨lb, o, none⟩ (by kernel_rfl) .i64 (i : Nat) (by omega) (by rw [len_ar]; omega), elem_ar, size_dg, len_ar]
  simp only [Result.andThen, slicedAt, Int.toNat_natCast]
  rw [if_neg (by omega), add_two]
theorem slice_lh (lb o i k : Nat) (hi : i ≤ k) (hk : k ≤ 256) (W : World) : (Instr.sliceAt 62 (.pointer (some ⟨lb, o, none⟩)) (some (.int .i64 (i : Nat))) (some (.int .i64 (k : Nat))) none).run Tryz.prog W = .ok (.slice (some (plcA lb o i)) (k - i) (256 - i)) W := by
  rw [run_sliceAt_array_lh (P := Tryz.prog) W 62 ⟨lb, o, none⟩ (by kernel_rfl) .i64 .i64 (i : Nat) (k : Nat) (by omega) (by omega) (by rw [len_ar]; omega), elem_ar, size_dg, len_ar]
  simp only [Result.andThen, slicedAt, Int.toNat_natCast]
  unfold plcA
  rw [add_two]
/-- The copy: what lies behind goes two cells down. -/
theorem cpy_any {w : World} {lb o : Nat} {cs : Array Value} {T : TypeId} {G : List Gr} {i k : Nat} (hb : Blk w lb cs T) (hN : Net cs o G) (hk : G.length = k) (hi : i < k) (ty : TypeId) (c2 : Nat) :
    ∃ w3, (Builtin.copy_ #[144, 144] ty #[.slice (some ⟨lb, o + i * 2, none⟩) (256 - i) (256 - i), .slice (some (plcA lb o (i + 1))) (k - (i + 1)) c2]).run Tryz.prog w = .ok (.int .i64 ((k - 1 - i : Nat) : Int)) w3 ∧ Blk w3 lb (cutC cs o i k) T ∧ K2 lb lb w w3 := by
  have hkk : k ≤ 256 := by rw [← hk]; exact hN.few
  have hbig := hN.big
  have hl := seg_len (cs := cs) (o := o) hi (by omega)
  have hm : Nat.min (k - (i + 1)) (256 - i) = k - 1 - i := by show min _ _ = _; omega
  by_cases h0 : k - 1 - i = 0
  · refine ⟨w, ?_, ?_, K2.refl _ _ _⟩
    · rw [run_copy_zero w ty _ _ _ _ _ _ (by rw [hm]; exact h0), h0]
      rfl
    · have e : cutC cs o i k = cs := by
        apply Array.ext'
        unfold cutC
        have : segC cs o i k = [] := List.eq_nil_of_length_eq_zero (by omega)
        rw [this]
        simp
      rw [e]
      exact hb
  · have hp : plcA lb o (i + 1) = ⟨lb, o + (i + 1) * 2, none⟩ := by unfold plcA; rw [if_neg (by omega)]
    have hr := run_copy_two w ty lb (o + i * 2) (256 - i) (256 - i) (plcA lb o (i + 1)) (k - (i + 1)) c2 cs T (segC cs o i k) hb (by rw [hl, hm]) (fun j v hv => by
        rw [hp]
        have hj : j < 2 * (k - 1 - i) := by rw [← hl]; exact (List.getElem?_eq_some_iff.1 hv).1
        unfold segC at hv
        rw [List.getElem?_take, if_pos hj, List.getElem?_drop, Array.getElem?_toList] at hv
        have ea : (⟨lb, o + (i + 1) * 2, none⟩ : Addr).add j = ⟨lb, o + i * 2 + 2 + j, none⟩ := by
          unfold Addr.add
          split
          · rename_i h; subst h; simp; try omega
          · simp; try omega
        rw [ea, hb.cell]
        exact hv) (by omega) (fun v hv => by
        obtain ⟨j, hv⟩ := List.mem_iff_getElem?.1 hv
        have hj : j < 2 * (k - 1 - i) := by rw [← hl]; exact (List.getElem?_eq_some_iff.1 hv).1
        unfold segC at hv
        rw [List.getElem?_take, if_pos hj, List.getElem?_drop, Array.getElem?_toList] at hv
        have hG : G[i + 1 + j / 2]? = some (G[i + 1 + j / 2]'(by omega)) := List.getElem?_eq_getElem (by omega)
        obtain ⟨r1, r2⟩ := hN.row _ _ hG
        rcases Nat.mod_two_eq_zero_or_one j with e | e
        · rw [show o + i * 2 + 2 + j = o + (i + 1 + j / 2) * 2 by omega, r1] at hv
          cases hv
          rfl
        · rw [show o + i * 2 + 2 + j = o + (i + 1 + j / 2) * 2 + 1 by omega, r2] at hv
          cases hv
          rfl)
    rw [hm] at hr
    exact ⟨_, hr, setRow_heap w lb cs _ T (0, 0) hb, ⟨rfl, rfl, rfl, by simp [World.setRow], fun x hx h1 _ => setRow_other w lb x _ h1⟩⟩
set_option maxRecDepth 100000 in
theorem out_any {w : World} {lb o : Nat} {cs : Array Value} {T : TypeId} {G : List Gr} {i k : Nat} {g : Gr} (hb : Blk w lb cs T) (hN : Net cs o G) (hk : G.length = k) (hi : i < k) (hg : G[i]? = some g) :
    Calls Tryz.prog 57 #[.pointer (some ⟨lb, o, none⟩), .int .i64 (i : Nat)] w fun e w' => e = .returned g.val ∧ ∃ cs', Hid (Blk w' lb cs' T) ∧ Hid (Net cs' o (G.eraseIdx i)) ∧ Hid (Apart cs cs' o) ∧ Hid (K2 lb lb w w') := by
  have c0 : w.cell? ⟨lb, o + 512, none⟩ = some (.int .i64 (k : Nat)) := by rw [← hk]; exact (hb.cell _).trans hN.cnt
  have hlt := hb.lt
  have hkk : k ≤ 256 := by rw [← hk]; exact hN.few
  have d0 : decide (((i : Nat) : Int) < 256) = true := by simp; omega
  have d1 : decide ((0 : Int) ≤ ((i : Nat) : Int)) = true := by simp
  have c1 : w.cell? ⟨lb, o + i * 2, none⟩ = some (.slice g.a g.n g.c) := (hb.cell _).trans (hN.row i g hg).1
  have c2 : w.cell? ⟨lb, o + i * 2 + 1, none⟩ = some (.bool g.sp) := (hb.cell _).trans (hN.row i g hg).2
  obtain ⟨f1, f2⟩ := net_out hN hk hi
  have f1' : Hid (Net _ o (G.eraseIdx i)) := f1
  have f2' : Hid (Apart cs _ o) := f2
  have hb' : Hid (Blk w lb cs T) := hb
  have hbig : Hid (o + 515 ≤ cs.size) := hN.big
  have hN' : Hid (Net cs o G) := hN
  have hk' : Hid (G.length = k) := hk
  obtain ⟨q, hq⟩ : ∃ q : Nat, k = q + 1 := ⟨k - 1, by omega⟩
  have hw : IntKind.i64.wrap (((i : Nat) : Int) + 1) = ((i : Nat) : Int) + 1 := by rw [IntKind.wrap_i64]; omega
  have hw2 : IntKind.i64.wrap ((k : Int) - 1) = (q : Int) := by rw [IntKind.wrap_i64]; omega
  have e1 : (k : Int) - 1 = (q : Int) := by omega
  have e2 : k - 1 = q := by omega
  rw [e1, e2] at f1' f2'
  have d2 : decide ((q : Int) < 256) = true := by simp; omega
  have d3 : decide ((0 : Int) ≤ (q : Int)) = true := by simp
  have hi' : Hid (i < k) := hi
  have sl1 : Hid (∀ W, _) := slice_l lb o i (by omega)
  have sl2 : Hid (∀ W, (Instr.sliceAt 62 (.pointer (some ⟨lb, o, none⟩)) (some (.int .i64 ((i : Nat) + 1))) (some (.int .i64 (k : Nat))) none).run Tryz.prog W = .ok (.slice (some (plcA lb o (i + 1))) (k - (i + 1)) (255 - i)) W) := fun W => by
    have := slice_lh lb o (i + 1) k (by omega) hkk W
    rw [show 256 - (i + 1) = 255 - i by omega] at this
    exact this
  have hqb : q < 256 := by omega
  have hib : i < 256 := by omega
  clear hb hN hg f1 f2 e1 e2 hi hk hq
  unfold Gr.val
  go_enter Tryz.func57, Tryz.ntmps57
  go_wp2
  have hB2 : Hid (Below w.heap.size w ((w.alloc (.cells #[.slice none 0 0, .bool false] 61)).alloc (.cells #[.slice g.a g.n g.c, .bool g.sp] 61))) := ((Below.refl w.heap.size w).alloc (Nat.le_refl _) _).alloc (by simp) _
  have hr2 : Hid (Blk ((w.alloc (.cells #[.slice none 0 0, .bool false] 61)).alloc (.cells #[.slice g.a g.n g.c, .bool g.sp] 61)) w.heap.size #[.slice none 0 0, .bool false] 61) := (blk_new w _ _).kept ((Below.refl _ _).alloc (Nat.le_refl _) _)
  have hs2 : Hid (Blk ((w.alloc (.cells #[.slice none 0 0, .bool false] 61)).alloc (.cells #[.slice g.a g.n g.c, .bool g.sp] 61)) (w.heap.size + 1) #[.slice g.a g.n g.c, .bool g.sp] 61) := by
    have := blk_new (w.alloc (.cells #[.slice none 0 0, .bool false] 61)) #[.slice g.a g.n g.c, .bool g.sp] 61
    rw [show (w.alloc (.cells #[.slice none 0 0, .bool false] 61)).heap.size = w.heap.size + 1 by simp] at this
    exact this
  have hb2 : Hid (Blk ((w.alloc (.cells #[.slice none 0 0, .bool false] 61)).alloc (.cells #[.slice g.a g.n g.c, .bool g.sp] 61)) lb cs T) := hb'.out.kept hB2.out
  have c02 := (hb2.out.cell (o + 512)).trans ((hb'.out.cell (o + 512)).symm.trans c0)
  have hlr : Hid (lb < w.heap.size) := hlt
  clear c0 c1 c2 hlt
  generalize ((w.alloc (.cells #[.slice none 0 0, .bool false] 61)).alloc (.cells #[.slice g.a g.n g.c, .bool g.sp] 61)) = W at *
  generalize hrg : w.heap.size = r at *
  have hrg' : Hid (w.heap.size = r) := hrg
  clear hrg
  have hcp := fun ty => cpy_any (w := W.drew) (T := T) hb2.out hN'.out hk'.out hi'.out ty (255 - i)
  obtain ⟨W3, hcr, hcb, hck⟩ := hcp 3
  have hcb' : Hid (Blk W3 lb (cutC cs o i k) T) := hcb
  have hck' : Hid (K2 lb lb W W3) := ⟨hck.os, hck.tape, hck.output, hck.size, hck.block⟩
  have hcr' : Hid ((Builtin.copy_ #[144, 144] 3 #[.slice (some ⟨lb, o + i * 2, none⟩) (256 - i) (256 - i), .slice (some (plcA lb o (i + 1))) (k - (i + 1)) (255 - i)]).run Tryz.prog W.drew = .ok (.int .i64 ((k - 1 - i : Nat) : Int)) W3) := hcr
  clear hcp hcr hcb hck
  have sl1' := sl1.out
  have sl2' := sl2.out
  go_region_law (refine step_cpy (by rfl) _ _ (by rfl) (.slice (some ⟨lb, o + i * 2, none⟩) (256 - i) (256 - i)) (.slice (some (plcA lb o (i + 1))) (k - (i + 1)) (255 - i)) (.int .i64 ((k - 1 - i : Nat) : Int)) (by rfl) (by rfl) hcr'.out ?_)
  have hgt := cut_get (cs := cs) (o := o) hi'.out (by have := hbig.out; omega)
  have hz := cut_size (cs := cs) (o := o) hi'.out (by have := hbig.out; omega)
  have q0 : W3.cell? ⟨lb, o + 512, none⟩ = some (.int .i64 (k : Nat)) := by
    rw [hcb'.out.cell, hgt, if_neg (by omega), ← hk'.out]
    exact hN'.out.cnt
  have q1 : W3.cell? ⟨lb, o + q * 2, none⟩ = some ((cutC cs o i k)[o + q * 2]'(by have := hbig.out; omega)) := (hcb'.out.cell _).trans (Array.getElem?_eq_getElem _)
  have q2 : W3.cell? ⟨lb, o + q * 2 + 1, none⟩ = some ((cutC cs o i k)[o + q * 2 + 1]'(by have := hbig.out; omega)) := (hcb'.out.cell _).trans (Array.getElem?_eq_getElem _)
  have g0 := hcb'.out.fz (o + 512)
  have g1 := hcb'.out.fz (o + q * 2)
  have g2 := hcb'.out.fz (o + q * 2 + 1)
  have hrs := hr2.out.lt
  have hss := hs2.out.lt
  have hr3 : Blk W3 r #[.slice none 0 0, .bool false] 61 := (hck'.out.block r hrs (by have := hlr.out; omega) (by have := hlr.out; omega)).trans hr2.out
  have hs3 : Blk W3 (r + 1) #[.slice g.a g.n g.c, .bool g.sp] 61 := (hck'.out.block (r + 1) hss (by have := hlr.out; omega) (by have := hlr.out; omega)).trans hs2.out
  have s0 : W3.cell? ⟨r + 1, 0, none⟩ = some (.slice g.a g.n g.c) := hs3.cell 0
  have s1 : W3.cell? ⟨r + 1, 1, none⟩ = some (.bool g.sp) := hs3.cell 1
  have r0 : W3.cell? ⟨r, 0, none⟩ = some (.slice none 0 0) := hr3.cell 0
  have r1 : W3.cell? ⟨r, 1, none⟩ = some (.bool false) := hr3.cell 1
  have r2 := hr3.fz 0
  have r3 := hr3.fz 1
  have hne1 : lb ≠ r := by have := hlr.out; omega
  have hne2 : lb ≠ r + 1 := by have := hlr.out; omega
  generalize ((cutC cs o i k)[o + q * 2]'(by have := hbig.out; omega)) = u1 at *
  generalize ((cutC cs o i k)[o + q * 2 + 1]'(by have := hbig.out; omega)) = u2 at *
  clear hr3 hs3 hgt hz hrs hss
  go_wp2
  go_region
  go_wp2
  refine bodyPost_ret (v := .agg #[.slice g.a g.n g.c, .bool g.sp]) (by simp [results, Tryz.results57, go_sem, *]) rfl ⟨rfl, _, ?_, f1', f2', ?_⟩
  · exact (((((hcb'.out.set _ _).set _ _).set _ _).set_ne hne1 _ _).set_ne hne1 _ _).drew
  · have hle : w.heap.size ≤ r := by have := hrg'.out; omega
    have h1 : K2 lb lb w W3 := (K2.of_below (by rw [hrg'.out]; exact hB2.out)).trans hck'.out
    exact (((((h1.trans (K2.set _ _ _)).trans (K2.set _ _ _)).trans (K2.set _ _ _)).setnew hle _ _).setnew hle _ _).drew
end Go.Proofs.YtfipdldoklkciaaGreat
