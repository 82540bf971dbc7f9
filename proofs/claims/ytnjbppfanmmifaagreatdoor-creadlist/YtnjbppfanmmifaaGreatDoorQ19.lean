/-
  Digits without the 0 ahead: bytes.TrimLeft.
  Groups told as a number: nat.tell.
  Order: how two numbers stand, told by nat.Order and by the document's side.
  Sums and differences: nat.Add, nat.Sub.
  Groups multiplied by a number, and a number added: nat.timesPlus; groups without the 0 at their end: nat.withoutZeros.
  Products: nat.Mul.
  The number of bytes: nat.FromBytes.
  A product is made, and bytes are a number.
-/
import Derived.Test.YtnjbppfanmmifaaGreatDoorQ18
import Derived.Test.YtnjbppfanmmifaaGreatDoorQ3
import Derived.Maps.AppendAt
import Derived.Lib.Hide
import Derived.Lib.MinMax
namespace Go.Proofs.YtnjbppfanmmifaaGreatDoor
open Go.RowKit Go.Shelf
attribute [local go_sem] Oper.semAt_some
open Go.RowKit

def lenV : Value → Nat | .slice _ n _ => n | _ => 0
theorem trim_zero (zs : List Int) : trimL (48 :: zs) = trimL zs := rfl
theorem trim_stop {c : Int} (h : c ≠ 48) (zs : List Int) : trimL (c :: zs) = c :: zs := by
  unfold trimL
  rw [List.dropWhile_cons, if_neg (by simpa using h)]
theorem Bytes.tail {w : World} {b off : Nat} {c : Int} {zs : List Int} (h : Bytes w (some ⟨b, off, none⟩) (c :: zs)) : Bytes w (some ⟨b, off + 1, none⟩) zs := h.drop 1
theorem bytes_none (w : World) (a : Option Addr) : Bytes w a [] := ⟨by simp, by simp, .inl rfl⟩

set_option maxHeartbeats 400000 in
theorem trimb_any (a : Option Addr) (n cap : Nat) (zs : List Int) (w : World) (hb : Bytes w a zs) (hl : zs.length = n) (hnc : n ≤ cap) (hcm : cap ≤ 9223372036854775807) :
    Calls Tryz.prog 207 #[.slice a n cap, .int .u8 48] w fun e w' => (∃ a' n' cap', e = .returned (.slice a' n' cap') ∧ (trimL zs).length = n' ∧ Bytes w a' (trimL zs) ∧ n' ≤ cap' ∧ cap' ≤ 9223372036854775807) ∧ w' = w := by
  have hB : Hid (Bytes w a zs) := hb
  have hL : Hid (zs.length = n) := hl
  clear hb hl
  go_enter Tryz.func207, Tryz.ntmps207
  go_wp2
  go_loop [0] (fun v => ∃ (a' : Option Addr) (n' c' : Nat) (ys : List Int), v = .slice a' n' c' ∧ Hid (ys.length = n') ∧ Hid (Bytes w a' ys) ∧ Hid (trimL ys = trimL zs) ∧ n' ≤ c' ∧ c' ≤ 9223372036854775807) (fun v => lenV v)
  case atStart => exact ⟨a, n, cap, zs, rfl, hL, hB, rfl, hnc, hcm⟩
  case round =>
    obtain ⟨a', n', c', ys, rfl, hy, hby, htr, hn', hc'⟩ := hrel
    clear hB hL hnc hcm
    cases ys with
    | nil =>
      obtain rfl : n' = 0 := hy.out.symm
      have hT : Hid (trimL zs = []) := htr.out.symm
      go_wp2
      go_ret
      exact ⟨⟨none, 0, 0, rfl, by rw [hT.out]; rfl, by rw [hT.out]; exact bytes_none _ _, Nat.le_refl _, by omega⟩, rfl⟩
    | cons c ys =>
      obtain ⟨m, rfl⟩ : ∃ m, n' = m + 1 := ⟨ys.length, by rw [← hy.out]; rfl⟩
      obtain ⟨b, off, rfl⟩ := bytes_some hby.out (by simp)
      have hcell : w.cell? ⟨b, off, none⟩ = some (.int .u8 c) := by
        rcases hby.out.2.2 with h | ⟨b', o', h, hcc⟩
        · cases h
        · cases h
          exact hcc 0 (by simp)
      have hy' : Hid (ys.length = m) := by have := hy.out; simp only [List.length_cons] at this; show _ = _; omega
      by_cases h48 : c = 48
      · subst h48
        have hbt : Hid _ := hby.out.tail
        have htr' : Hid (trimL ys = trimL zs) := by have := htr.out; rwa [trim_zero] at this
        by_cases hc1 : c' = 1
        · subst hc1
          obtain rfl : m = 0 := by omega
          have hys : ys = [] := List.eq_nil_of_length_eq_zero hy'.out
          go_wp2
          go_round
          case rel => exact ⟨_, 0, _, [], rfl, rfl, bytes_none _ _, (by rw [← hys]; exact htr'), by omega, by omega⟩
          case measure => simp [lenV]
        · have hc2 : (c' = 1) = False := by simp; omega
          clear hc1
          go_wp2
          go_round
          case rel => exact ⟨_, m, c' - 1, ys, by simp, hy', hbt, htr', by omega, by omega⟩
          case measure => simp [lenV]
      · have hT : Hid (trimL zs = c :: ys) := by rw [← htr.out]; exact trim_stop h48 ys
        have hd : (c == 48) = false := by simpa using h48
        clear h48
        go_wp2
        go_ret
        exact ⟨⟨_, m + 1, c', rfl, by rw [hT.out]; exact hy.out, by rw [hT.out]; exact hby.out, hn', hc'⟩, rfl⟩
set_option maxRecDepth 100000 in
set_option maxHeartbeats 400000 in
theorem trim_any (a : Option Addr) (n cap : Nat) (zs : List Int) (w : World) (hb : Bytes w a zs) (hl : zs.length = n) (hnc : n ≤ cap) (hcm : cap ≤ 9223372036854775807) :
    Calls Tryz.prog 183 #[.slice a n cap, .string ⟨#[48]⟩] w fun e w' => (∃ a' n' cap', e = .returned (.slice a' n' cap') ∧ (trimL zs).length = n' ∧ Bytes w a' (trimL zs) ∧ n' ≤ cap' ∧ cap' ≤ 9223372036854775807) ∧ w' = w := by
  by_cases h0 : n = 0
  · subst h0
    obtain rfl := List.eq_nil_of_length_eq_zero hl
    clear hb hl
    go_enter Tryz.func183, Tryz.ntmps183
    go_wp2
    go_ret
    exact ⟨⟨none, 0, 0, rfl, rfl, bytes_none _ _, Nat.le_refl _, by omega⟩, rfl⟩
  · have hk := trimb_any a n cap zs w hb hl hnc hcm
    have hn0 : ((n : Int) == 0) = false := by simp; omega
    clear hb hl hnc hcm h0
    go_enter Tryz.func183, Tryz.ntmps183
    go_wp2_with (go_at_call 207; refine hk.mono ?_; rintro e w' ⟨⟨a', n', cap', rfl, hx⟩, hw⟩; obtain rfl : w = w' := hw.symm)
    go_ret
    exact ⟨⟨a', n', cap', rfl, hx⟩, rfl⟩
end Go.Proofs.YtnjbppfanmmifaaGreatDoor
namespace Go.Proofs.YtnjbppfanmmifaaGreatDoor
open Go.RowKit Go.Shelf
attribute [local go_sem] Oper.semAt_some

/-- The weights of a group's six digits, and 0. -/
def wt (k : Nat) : Int := 1000000 / 10 ^ (k + 1)
theorem wt_pos {k : Nat} (h : k < 6) : 0 < wt k ∧ wt k ≤ 100000 := by
  match k, h with
  | 0, _ => decide
  | 1, _ => decide
  | 2, _ => decide
  | 3, _ => decide
  | 4, _ => decide
  | 5, _ => decide
theorem wt_next {k : Nat} (h : k < 6) : (wt k).tdiv 10 = wt (k + 1) := by
  match k, h with
  | 0, _ => decide
  | 1, _ => decide
  | 2, _ => decide
  | 3, _ => decide
  | 4, _ => decide
  | 5, _ => decide
theorem wt_dig {k : Nat} (h : k < 6) (z : Int) : (dig6 z).take (k + 1) = (dig6 z).take k ++ [48 + z / wt k % 10] := by
  match k, h with
  | 0, _ => rfl
  | 1, _ => rfl
  | 2, _ => rfl
  | 3, _ => rfl
  | 4, _ => rfl
  | 5, _ =>
    have e : z / wt 5 = z := Int.ediv_one z
    rw [e]
    rfl
/-- A group. -/
abbrev IsG (z : Int) : Prop := 0 ≤ z ∧ z < 1000000
/-- The digits of the groups that have come. -/
def digsOf {n : Nat} (pre : List (Bk n IsG)) : List Int := pre.flatMap fun x => dig6 x.1.2
theorem digsOf_snoc {n : Nat} (pre : List (Bk n IsG)) (x : Bk n IsG) : digsOf (pre ++ [x]) = digsOf pre ++ dig6 x.1.2 := by simp [digsOf]
theorem digsOf_len {n : Nat} (pre : List (Bk n IsG)) : (digsOf pre).length = 6 * pre.length := by
  induction pre with
  | nil => rfl
  | cons x pre ih =>
    have : digsOf (x :: pre) = dig6 x.1.2 ++ digsOf pre := by simp [digsOf]
    rw [this, List.length_append, ih, List.length_cons]
    show 6 + _ = _
    omega
/-- Bytes in a variable's box. -/
def BoxB (W : World) (B base : Nat) (zs : List Int) : Prop := ∃ v, Boxed W B 22 v ∧ OwnsB W base v zs

/-- Rows of unlike elements lie apart. -/
theorem rows_apart {w : World} {b1 b2 k1 k2 : Nat} {e1 e2 : TypeId} {v1 v2 : Value} {x1 x2 : List Value} (h1 : w.ownsRow b1 e1 1 v1 k1 x1) (h2 : w.ownsRow b2 e2 1 v2 k2 x2) (hne : e1 ≠ e2) : v1.ownBlock = none ∨ v1.ownBlock ≠ v2.ownBlock := by
  rcases h1.2 with ⟨rfl, _⟩ | ⟨g1, c1, cur1, rfl, _, hg1, _⟩
  · exact .inl rfl
  · refine .inr fun e => ?_
    rcases h2.2 with ⟨rfl, _⟩ | ⟨g2, c2, cur2, rfl, _, hg2, _⟩
    · simp [Value.ownBlock] at e
    · obtain rfl : g1 = g2 := by simpa [Value.ownBlock] using e
      rw [hg1] at hg2
      simp only [Option.some.injEq, Obj.cells.injEq] at hg2
      exact hne hg2.2.1
theorem byte_new (w : World) (c : Int) : ∀ (j : Nat) (u : Value), [Value.int .u8 c][j]? = some u → (w.alloc (.cells #[.int .u8 c] 5)).cell? ((⟨w.heap.size, 0, none⟩ : Addr).add j) = some u := cell_one_new _ _ _

/-- Bytes stay where a variable's box is written. -/
theorem bytes_apart {w : World} {B : Nat} {t : TypeId} {x : Option Addr} {n c : Nat} {u : Value} (h : Boxed w B t (.slice x n c)) {a : Option Addr} {zs : List Int} (hb : Bytes w a zs) : Bytes (w.setCell ⟨B, 0, none⟩ u) a zs := by
  refine ⟨hb.1, hb.2.1, ?_⟩
  rcases hb.2.2 with h0 | ⟨b, off, rfl, hc⟩
  · exact .inl h0
  · refine .inr ⟨b, off, rfl, fun i hi => ?_⟩
    have h1 := hc i hi
    have hne : B ≠ b := by
      rintro rfl
      rw [cell_row h] at h1
      obtain ⟨hlt, h2⟩ := Array.getElem?_eq_some_iff.1 h1
      have h3 : off + i = 0 := by simp at hlt; omega
      simp only [h3] at h2
      cases h2
    rw [cell_apart _ _ _ (by exact hne)]
    exact h1
theorem desc_digs {n : Nat} {l : List Int} {ys : List (Bk n IsG)} (h : Desc n IsG (fun j z => z = l.getD j 0 ∧ IsG z) ys n) (hl : l.length = n) : digsOf ys = tellL l := by
  have e : (ys.map fun x => x.1.2) = l.reverse := by
    have e1 : (ys.map fun x => x.1.2) = (ys.map fun x => x.1.1).map fun j => l.getD j 0 := by
      rw [List.map_map]
      exact List.map_congr_left fun x hx => (h.2 x hx).1
    rw [e1, h.1]
    unfold upto
    rw [List.map_map]
    subst hl
    apply List.ext_getElem
    · simp
    · intro i h1 h2
      simp only [List.length_map, List.length_range] at h1
      simp only [List.getElem_map, List.getElem_range, Function.comp_apply, List.getElem_reverse]
      rw [List.getD_eq_getElem?_getD, List.getElem?_eq_getElem (by omega)]
      rfl
  unfold digsOf tellL
  rw [← e, List.flatMap_map]

theorem short_fits {v : Nat} (h : (numL v).length ≤ 800) : shortA v = (strOfNums (numL v), 0) := by
  unfold shortA
  rw [if_pos (by unfold top; exact (num_len (k := 800) (by omega)).1 h)]
  rfl
theorem short_long {v : Nat} (h : 800 < (numL v).length) : shortA v = (noS, 11) := by
  unfold shortA
  rw [if_neg]
  unfold top
  intro h1
  have := (num_len (k := 800) (by omega)).2 h1
  omega
theorem short_zero : shortA 0 = (⟨#[48]⟩, 0) := by
  rw [short_fits (by decide)]
  rfl

/-- What the loop over a group's digits knows. -/
def TellI (w W0 W : World) (B base n cap : Nat) (a : Option Addr) (l zs : List Int) (wr : World) : Prop :=
  BoxB wr B base zs ∧ Boxed wr (B + 1) 133 (.slice a n cap) ∧ OwnsI wr base (.slice a n cap) l ∧ Below base w wr ∧ KeepsFrom W0.heap.size W wr
/-- One byte more. -/
theorem tell_append {w W0 W : World} {B base n cap : Nat} {a : Option Addr} {l zs : List Int} {wr : World} (h : TellI w W0 W B base n cap a l zs wr) (c : Int) (hc : 0 ≤ c ∧ c < 256) (hsm : zs.length ≤ 1000000) (hbB : base ≤ B) (hbw : base ≤ w.heap.size) :
    ∃ av nv cv g' cap' w1, Boxed wr B 22 (.slice av nv cv) ∧ (Builtin.append_ #[22, 22] 22 #[.slice av nv cv, .slice (some ⟨wr.heap.size, 0, none⟩) 1 1]).run Tryz.prog (wr.alloc (.cells #[.int .u8 c] 5)).drew = .ok (.slice (some ⟨g', 0, none⟩) (nv + 1) cap') w1 ∧
      w1.cell? ⟨B, 0, none⟩ = some (.slice av nv cv) ∧ w1.frozen? ⟨B, 0, none⟩ = false ∧ TellI w W0 W B base n cap a l (zs ++ [c]) (w1.setCell ⟨B, 0, none⟩ (.slice (some ⟨g', 0, none⟩) (nv + 1) cap')) := by
  obtain ⟨⟨v, hv, hO⟩, hbx, hOI, hbl, hkf⟩ := h
  obtain ⟨i0, hi, hz0, hz1, hz2⟩ := info_parts info5
  have hbr : base ≤ wr.heap.size := Nat.le_trans hbw hbl.size
  obtain ⟨v', w1, hrun, hown, hgrow, -⟩ := run_append_own (P := Tryz.prog) (wr.alloc (.cells #[.int .u8 c] 5)).drew base 22 22 5 i0 (.int .u8 0) 1 1 Tryz.underlying22 hi hz0 hz1 hz2 rfl (by decide) v zs.length _ (show ((wr.alloc (.cells #[.int .u8 c] 5)).drew).ownsRow base 5 1 v zs.length (zs.map (Value.int .u8)) from hO.1.alloc _) ⟨wr.heap.size, 0, none⟩ 1 1 [.int .u8 c] rfl (byte_new wr c) (by simp [Value.oneCell']) (by unfold maxLen; omega) (by omega) (by show base ≤ (wr.alloc _).heap.size; simp; omega)
  obtain ⟨g', cap', rfl⟩ := ownsRow_succ hown
  obtain ⟨av, cv, hve, -⟩ := hO.shape
  have hap := Boxed.appended (W := wr.drew) (tmp := .cells #[.int .u8 c] 5) (show Boxed wr.drew B 22 v from hv) (by decide) (show (wr.drew).ownsRow base 5 1 v zs.length (zs.map (Value.int .u8)) from hO.1) hbr hbB hown hgrow
  obtain ⟨p1, p2, p3, p4, p5⟩ := hap
  have q1 : OwnsI w1 base (.slice a n cap) l := World.ownsRow.kept (show ((wr.alloc (.cells #[.int .u8 c] 5)).drew).ownsRow base 3 1 (.slice a n cap) l.length (l.map (Value.int .i64)) from hOI.alloc _) hgrow (rows_apart hOI hO.1 (by decide))
  have q2 : OwnsI (w1.setCell ⟨B, 0, none⟩ (.slice (some ⟨g', 0, none⟩) (zs.length + 1) cap')) base (.slice a n cap) l := World.ownsRow.kept q1 (grownBy_setCell' w1 B _) (.inr (p1.not_row (by decide) q1).symm)
  have q3 : Boxed w1 (B + 1) 133 (.slice a n cap) := (show Boxed ((wr.alloc (.cells #[.int .u8 c] 5)).drew) (B + 1) 133 (.slice a n cap) from hbx.alloc _).kept hgrow (hbx.not_row (by decide) hO.1)
  refine ⟨av, zs.length, cv, g', cap', w1, by rw [← hve]; exact hv, by rw [← hve]; exact hrun, by rw [← hve]; exact p1.cell, p1.frozen, ⟨_, p2, ?_, ?_⟩, boxed_apart _ q3 (by show B ≠ B + 1; omega), q2, hbl.drew.trans p5, hkf.trans (((KeepsOthers.drew _).trans p4).from _)⟩
  · rw [List.length_append, List.map_append]
    exact p3
  · intro x hx
    rcases List.mem_append.1 hx with h1 | h1
    · exact hO.2 x h1
    · simp only [List.mem_cons, List.not_mem_nil, or_false] at h1
      rw [h1]; exact hc

set_option maxRecDepth 100000 in
set_option maxHeartbeats 2000000 in
theorem tell_fold (a : Option Addr) (g n cap base : Nat) (l : List Int) (w : World) (ha : 0 < n → a = some ⟨g, 0, none⟩) (hgw : g ≤ w.heap.size) (hn : n ≤ 100000) (hln : l.length = n) (hl : Grp 1000000 l) (hs : Calls Tryz.prog 181 #[.slice a n cap] w fun e w' => e = .returned (.tuple #[]) ∧ OwnsI w' base (.slice a n cap) l ∧ Below base w w') (hbw : base ≤ w.heap.size) :
    Calls Tryz.prog 149 #[.slice a n cap] w fun e w' => e = .returned (.tuple #[.string (shortA (lv 1000000 l).toNat).1, .int .i64 (shortA (lv 1000000 l).toNat).2]) ∧ Below base w w' := by
  obtain ⟨i0, hi, hz0, hz1, hz2⟩ := info_parts info5
  have w1 : IntKind.i64.wrap ((n : Int) * 6) = ((n * 6 : Nat) : Int) := by rw [wrap_fit (by omega) (by omega)]; omega
  refine (callsIn_wide (n := 5)).1 ?_
  refine callsIn_of_wp_marks Tryz.func149 rfl trivial ?_ rfl
  simp only [Tryz.ntmps149, List.size_toArray, List.length_cons, List.length_nil, Nat.reduceAdd, Nat.reduceSub, Array.replicate_succ, Array.replicate_zero, List.push_toArray, List.append_toArray, List.nil_append, List.cons_append]
  gi_wp2_with (first
    | (refine ⟨trivial, ?_⟩; gi_at_call 181; refine (callsIn_wide.2 hs).mono ?_; rintro e w2 ⟨rfl, ho2, hb2⟩)
    | (gi_at_make; refine wpListIn_make_own _ rfl _ _ 22 rfl base 5 i0 (.int .u8 0) 1 Tryz.underlying22 hi hz0 hz1 .i64 .i64 _ (n * 6) rfl rfl (by first | rfl | simp) (by rw [hz2]; omega) (by unfold maxLen; omega) (Nat.le_trans hbw hb2.size) ?_; intro w3 ho3 hg3)
    | (refine ⟨trivial, ?_⟩; gi_at_call 182; refine (back_in Fence.wide _ trivial rfl _ _ _ _).mono ?_; rintro e w' ⟨rfl, rfl⟩))
  have hb3 : Below base w w3 := hb2.grown hg3 (Nat.le_trans hbw hb2.size) (by simp)
  have hO3 : OwnsI w3 base (.slice a n cap) l := World.ownsRow.kept ho2 hg3 (by cases (Value.slice a n cap).ownBlock <;> simp)
  have hDn : OwnsB w3 base (.slice (some ⟨w2.heap.size, 0, none⟩) 0 (n * 6)) [] := ⟨ho3, by simp⟩
  clear ho2 hb2 hg3 ho3
  obtain ⟨W0, hW0⟩ : ∃ W0, (w3.alloc (.cells #[.slice (some ⟨w2.heap.size, 0, none⟩) 0 (n * 6)] 22)).alloc (.cells #[.slice a n cap] 133) = W0 := ⟨_, rfl⟩
  have hs0 : W0.heap.size = w3.heap.size + 2 := by rw [← hW0]; simp
  have hg0 : g < W0.heap.size := by have := hb3.size; omega
  have b1 : BoxB W0 w3.heap.size base [] := by rw [← hW0]; exact ⟨_, (Boxed.new w3 22 _).alloc _, (hDn.alloc _).alloc _⟩
  have b2 : Boxed W0 (w3.heap.size + 1) 133 (.slice a n cap) := by
    rw [← hW0]
    have := Boxed.new (w3.alloc (.cells #[.slice (some ⟨w2.heap.size, 0, none⟩) 0 (n * 6)] 22)) 133 (.slice a n cap)
    rw [World.size_alloc] at this
    exact this
  have hO : OwnsI W0 base (.slice a n cap) l := by rw [← hW0]; exact (hO3.alloc _).alloc _
  have hsz3 : base ≤ w3.heap.size := Nat.le_trans hbw hb3.size
  have hB : Below base w W0 := by
    rw [← hW0]
    exact (hb3.alloc hsz3 _).alloc (by simp; omega) _
  have hgood : ∀ W, OwnsI W base (.slice a n cap) l → GoodZ g n (fun j z => z = l.getD j 0 ∧ IsG z) W := fun W hW j hj => by
    obtain rfl := ha (by omega)
    exact ⟨_, hW.cell (by omega), rfl, hl.at (by omega)⟩
  rw [hW0]
  clear hW0 hO3 hDn hb3
  refine wpIn_rangeFunc_ownG (w := W0) rfl (by decide) (gf := 206) (lb := #[.pointer (some ⟨w3.heap.size + 1, 0, none⟩)]) rfl trivial (enters_of Tryz.func206 (by kernel_rfl) rfl)
    (back_stops Fence.wide _ trivial rfl (by decide) (w3.heap.size + 1) g n cap a ha (by omega) IsG (fun j z => z = l.getD j 0 ∧ IsG z) (fun _ _ h => h.2) W0 (by omega) hg0 b2.cell (hgood _ hO)) kpZ_t (kpZ_b (by omega) hg0) (Below.refl _ _) (fun _ => rfl)
    (fun pre W => BoxB W w3.heap.size base (digsOf pre) ∧ Boxed W (w3.heap.size + 1) 133 (.slice a n cap) ∧ OwnsI W base (.slice a n cap) l ∧ Below base w W)
    (fun _ _ _ => False)
    (fun s A B row hs hg hr => ⟨by
      obtain ⟨v, hv, ho⟩ := hs.1
      exact ⟨v, boxed_keep hv hg hr, row_keep ho.1 hg hr, ho.2⟩, boxed_keep hs.2.1 hg hr, row_keep hs.2.2.1 hg hr, below_keep hs.2.2.2 (by omega) hbw hg hr⟩)
    (fun _ _ _ _ _ hs _ _ => hs)
    ⟨b1, b2, hO, hB⟩
    (fun x => { tmps := #[.slice a n cap, undef, .string ⟨#[]⟩, .int .i64 0, .pointer (some ⟨w3.heap.size, 0, none⟩), undef, .int .i64 x.1.2, undef, .slice a n cap, .tuple #[], .slice a n cap, .int .i64 n, .int .i64 (n * 6), .slice (some ⟨w2.heap.size, 0, none⟩) 0 (n * 6), .slice a n cap, .func (.func 206) #[] #[.pointer (some ⟨w3.heap.size + 1, 0, none⟩)], .int .i64 (x.1.1 : Nat), .int .i64 x.1.2, undef, undef, undef, undef, undef, undef, undef, undef, undef, undef, undef, undef, undef, undef, undef, undef, undef, undef, undef, undef, undef, undef, undef], defers := [] }) ?assign ?body ?done ?stop
  case assign =>
    intro l x W K hK
    gi_wp2
    exact hK
  case body =>
    rintro lr pre x W ⟨c1, c2, hOr, hBr⟩ hlt
    obtain ⟨⟨q, z⟩, hq, hzG⟩ := x
    have hzs : Hid ((digsOf pre).length ≤ 700000) := by show _ ≤ _; rw [digsOf_len]; omega
    have hI : Hid (TellI w W0 W w3.heap.size base n cap a l (digsOf pre) W) := ⟨c1, c2, hOr, hBr, KeepsFrom.refl _ _⟩
    have mixed : Tryz.prog.follows .mixedOrders = true := by kernel_rfl
    have hfin : Hid (∀ wr, TellI w W0 W w3.heap.size base n cap a l (digsOf pre ++ dig6 z) wr → ownPostG W0.heap.size (KpZ (w3.heap.size + 1) g n fun j z => z = l.getD j 0 ∧ IsG z) (fun (pre : List (Bk n IsG)) W => BoxB W w3.heap.size base (digsOf pre) ∧ Boxed W (w3.heap.size + 1) 133 (.slice a n cap) ∧ OwnsI W base (.slice a n cap) l ∧ Below base w W) (fun _ _ _ => False) (pre ++ [⟨(q, z), hq, hzG⟩]) W .normal { tmps := #[], defers := [] } wr) := by
      rintro wr ⟨d1, d2, d3, d4, d5⟩
      refine ⟨d5, ⟨?_, fun _ => hgood _ d3⟩, ?_, d2, d3, d4⟩
      · unfold KpB
        rw [d2.cell, c2.cell]
      · rw [digsOf_snoc]
        exact d1
    clear c1 c2 hOr hBr b1 b2 hO hB
    have hzG' : IsG z := hzG
    generalize digsOf pre = zs at *
    gi_wp2
    gi_loopw [7] (fun wv wr => ∃ k : Nat, k ≤ 6 ∧ wv = .int .i64 (wt k) ∧ Hid (TellI w W0 W w3.heap.size base n cap a l (zs ++ (dig6 z).take k) wr)) (fun wv _ => (intOf wv).toNat)
    case atStart => exact ⟨0, by decide, rfl, (by show TellI _ _ _ _ _ _ _ _ _ _ _; rw [List.take_zero, List.append_nil]; exact hI.out)⟩
    case round =>
      obtain ⟨k, hk, rfl, hT⟩ := hrel
      by_cases hk6 : k < 6
      · have hwp := wt_pos hk6
        have hdz : 0 ≤ z / wt k % 10 ∧ z / wt k % 10 ≤ 9 := by omega
        obtain ⟨av, nv, cv, g', cap', w1', hbx, hrun, hcl, hfr, hI2⟩ := tell_append hT.out (48 + z / wt k % 10) (by omega) (by rw [List.length_append, List.length_take]; have := hzs.out; omega) (by omega) hbw
        rw [List.append_assoc, ← wt_dig hk6] at hI2
        have hI' : Hid _ := hI2
        have hcb := hbx.cell
        have hwn := wt_next hk6
        have hms : Hid ((intOf (.int .i64 (wt (k + 1)))).toNat < (intOf (.int .i64 (wt k))).toNat) := by
          show (wt (k + 1)).toNat < (wt k).toNat
          rw [← hwn, Int.tdiv_eq_ediv_of_nonneg (by omega)]
          omega
        have hY : IntKind.i64.wrap (z.tdiv (wt k)) = z / wt k := by
          rw [Int.tdiv_eq_ediv_of_nonneg hzG'.1]
          have h1 : 0 ≤ z / wt k := Int.ediv_nonneg hzG'.1 (by omega)
          have h2 : z / wt k ≤ z := Int.ediv_le_self _ hzG'.1
          exact wrap_fit (by omega) (by have := hzG'.2; omega)
        have hYn : 0 ≤ z / wt k := Int.ediv_nonneg hzG'.1 (by omega)
        have hR : Int.tmod (z / wt k) 10 = z / wt k % 10 := Int.tmod_eq_emod_of_nonneg hYn
        generalize z / wt k = Y at *
        generalize Y % 10 = D at *
        have hA : IntKind.i64.wrap (48 + D) = 48 + D := wrap_fit (by omega) (by omega)
        have hU : IntKind.u8.wrap (48 + D) = 48 + D := by rw [IntKind.wrap_u8]; omega
        have hw0 : (wt k = 0) = False := by simp; omega
        have hw1 : decide (0 < wt k) = true := by simp; omega
        have hwk : IntKind.i64.wrap (wt (k + 1)) = wt (k + 1) := by
          have h1 := hwn
          rw [Int.tdiv_eq_ediv_of_nonneg (by omega)] at h1
          exact wrap_fit (by omega) (by omega)
        obtain ⟨c, hcD⟩ : ∃ c, 48 + D = c := ⟨_, rfl⟩
        rw [hcD] at hA hU hrun
        have hcb2 : ∀ o, (wr.alloc o).cell? ⟨w3.heap.size, 0, none⟩ = some (.slice av nv cv) := fun o => (hbx.alloc o).cell
        clear hwp hdz hzG' hYn hI2 hT hI hfin
        gi_wp2
        refine region_round mixed (by rfl) ?_
        (refine wpAnyIn_take (i := 1) (v := ?_) rfl rfl (by kernel_rfl) (by kernel_rfl) (by kernel_rfl) (fun _ _ _ h => h) ⟨Or.inl ⟨by rfl, (by intro w; (go_simp <;> with_reducible rfl))⟩, fun _ => rfl⟩ ?_)
        (refine wpAnyIn_take (i := 2) (v := ?_) rfl rfl (by kernel_rfl) (by kernel_rfl) (by kernel_rfl) (fun _ _ _ h => h) ⟨Or.inl ⟨by rfl, (by intro w; (go_simp <;> with_reducible rfl))⟩, fun _ => rfl⟩ ?_)
        (refine wpAnyIn_take (i := 3) (v := ?_) rfl rfl (by kernel_rfl) (by kernel_rfl) (by kernel_rfl) (fun _ _ _ h => h) ⟨Or.inl ⟨by rfl, (by intro w; (go_simp <;> with_reducible rfl))⟩, fun _ => rfl⟩ ?_)
        (refine wpAnyIn_take (i := 4) (v := ?_) rfl rfl (by kernel_rfl) (by kernel_rfl) (by kernel_rfl) (fun _ _ _ h => h) ⟨Or.inl ⟨by rfl, (by intro w; (go_simp <;> with_reducible rfl))⟩, fun _ => rfl⟩ ?_)
        (refine wpAnyIn_take (i := 5) (v := ?_) rfl rfl (by kernel_rfl) (by kernel_rfl) (by kernel_rfl) (fun _ _ _ h => h) ⟨Or.inl ⟨by rfl, (by intro w; (go_simp <;> with_reducible rfl))⟩, fun _ => rfl⟩ ?_)
        (refine wpAnyIn_take (i := 6) (v := ?_) rfl rfl (by kernel_rfl) (by kernel_rfl) (by kernel_rfl) (fun _ _ _ h => h) ⟨Or.inl ⟨by rfl, (by intro w; (go_simp <;> with_reducible rfl))⟩, fun _ => rfl⟩ ?_)
        (refine wpAnyIn_ready (rs := [0, 7]) (by kernel_rfl) (by simp) ?_; refine (AllReadyIn.cons rfl (fun K hK => ?_) (AllReadyIn.cons rfl (fun K hK => ?_) AllReadyIn.nil)) <;> (go_simp; refine hK _ _ ?_; clear hK K))
        · (refine wpAnyIn_ready (rs := [7]) (by kernel_rfl) (by simp) ?_; refine (AllReadyIn.cons rfl (fun K hK => ?_) AllReadyIn.nil) <;> (go_simp; refine hK _ _ ?_; clear hK K))
          refine wpAnyIn_ready (rs := [8]) (by kernel_rfl) (by simp) (ready_append (s := .tmp 22) (x := .tmp 29) (t := 22) rfl rfl rfl hrun ?_)
          (refine wpAnyIn_ready (rs := [9]) (by kernel_rfl) (by simp) ?_; refine (AllReadyIn.cons rfl (fun K hK => ?_) AllReadyIn.nil) <;> (go_simp; refine hK _ _ ?_; clear hK K))
          (refine wpAnyIn_done (by kernel_rfl) ?_ _)
          gi_wp2
          go_roundw
          case rel => exact ⟨k + 1, by omega, rfl, hI'.out⟩
          case measure => exact hms.out
        · (refine wpAnyIn_ready (rs := [0]) (by kernel_rfl) (by simp) ?_; refine (AllReadyIn.cons rfl (fun K hK => ?_) AllReadyIn.nil) <;> (go_simp; refine hK _ _ ?_; clear hK K))
          refine wpAnyIn_ready (rs := [8]) (by kernel_rfl) (by simp) (ready_append (s := .tmp 22) (x := .tmp 29) (t := 22) rfl rfl rfl hrun ?_)
          (refine wpAnyIn_ready (rs := [9]) (by kernel_rfl) (by simp) ?_; refine (AllReadyIn.cons rfl (fun K hK => ?_) AllReadyIn.nil) <;> (go_simp; refine hK _ _ ?_; clear hK K))
          (refine wpAnyIn_done (by kernel_rfl) ?_ _)
          gi_wp2
          go_roundw
          case rel => exact ⟨k + 1, by omega, rfl, hI'.out⟩
          case measure => exact hms.out
      · obtain rfl : k = 6 := by omega
        have hT' := hT.out
        rw [show (dig6 z).take 6 = dig6 z from rfl] at hT'
        have hf := hfin.out wr hT'
        have e6 : wt 6 = 0 := by decide
        rw [e6]
        gi_wp2
        first | exact hf | (rw [hs0] at hf; exact hf)
  case done =>
    rintro D ys W hD hS ⟨c1, c2, hOr, hBr⟩ hK
    obtain ⟨v, hv, hOv⟩ := c1
    obtain ⟨av, m, cv, rfl, hm, -, hmc, hcc, hBy⟩ := hOv.form
    rw [desc_digs hS hln] at hm hBy
    have htr := trim_any av m cv (tellL l) W hBy.out hm.out hmc hcc
    have hcl := hv.cell
    have hfr := hv.frozen
    have hcl2 : ∀ u, (W.setCell ⟨w3.heap.size, 0, none⟩ u).cell? ⟨w3.heap.size, 0, none⟩ = some u := fun u => (hv.set u).cell
    have hV := tell_val hl
    have hDg := tell_digs l
    have hbap := fun u => fun (a' : Option Addr) (zs : List Int) (h : Bytes W a' zs) => bytes_apart (u := u) hv h
    have hkeep : Hid (∀ u, Below base w ((W.setCell ⟨w3.heap.size, 0, none⟩ u).putObj D (.deferred none))) := fun u => (hBr.setCell (p := ⟨w3.heap.size, 0, none⟩) hsz3 u).trans (belowK_b (w := w) hbw (W.setCell ⟨w3.heap.size, 0, none⟩ u) D _ _ (by have := hB.size; omega) ((KeepsOthers.setCell W ⟨w3.heap.size, 0, none⟩ u).same D _ hK rfl) rfl rfl)
    have hK' : ∀ u, (W.setCell ⟨w3.heap.size, 0, none⟩ u).heap[D]? = some (.deferred (some [])) := fun u => (KeepsOthers.setCell W ⟨w3.heap.size, 0, none⟩ u).same D _ hK rfl
    clear hBy hOv hOr c2 hS hBr
    gi_wp2_with (refine ⟨trivial, ?_⟩; gi_at_call 183; refine (callsIn_wide.2 htr).mono ?_; rintro e w9 ⟨⟨a', n', cap', rfl, hn', hb', hc1, hc2⟩, hw9⟩; obtain rfl : W = w9 := hw9.symm; refine Hid.out ?_)
    refine Lib.hid ?_
    have ks := conv_str (hbap (.slice a' n' cap') a' (trimL (tellL l)) hb') n' cap' hn'
    have hVn : Hid ((lv 1000000 l).toNat = valS (tellL l)) := by show _ = _; omega
    by_cases h0 : n' = 0
    · subst h0
      have ht0 := List.eq_nil_of_length_eq_zero hn'
      have hr : Hid (shortA (valS (tellL l)) = (⟨#[48]⟩, 0)) := by
        rw [trim_none ht0]
        exact short_zero
      clear htr ks hn' hb' ht0 hV hbap
      gi_wp2
      refine ⟨by simp, .inl ⟨_, _, rfl, run_takeDeferred (hK' _), ?_⟩⟩
      exact ⟨_, results_tmp2 rfl _ _ _, (by rw [hVn.out, hr.out]; rfl), hkeep.out _⟩
    · have hne : trimL (tellL l) ≠ [] := fun h => h0 (by rw [← hn', h]; rfl)
      have hnum := trim_num hDg hne
      have hd0 : ((n' : Int) == 0) = false := by simp; omega
      by_cases h8 : 800 < n'
      · have hr : Hid (shortA (valS (tellL l)) = (noS, 11)) := by
          refine short_long ?_
          rw [← hnum, hn']
          exact h8
        have hd8 : decide (800 < (n' : Int)) = true := by simp; omega
        clear htr ks hn' hb' hne hnum hV hbap h0 h8
        gi_wp2
        refine ⟨by simp, .inl ⟨_, _, rfl, run_takeDeferred (hK' _), ?_⟩⟩
        exact ⟨_, results_tmp2 rfl _ _ _, (by rw [hVn.out, hr.out]; rfl), hkeep.out _⟩
      · have hr : Hid (shortA (valS (tellL l)) = (strOfNums (trimL (tellL l)), 0)) := by
          rw [hnum]
          refine short_fits ?_
          rw [← hnum, hn']
          omega
        have hd8 : decide (800 < (n' : Int)) = false := by simp; omega
        clear htr hn' hb' hne hnum hV hbap h0 h8
        gi_wp2
        refine ⟨by simp, .inl ⟨_, _, rfl, run_takeDeferred (hK' _), ?_⟩⟩
        exact ⟨_, results_tmp2 rfl _ _ _, (by rw [hVn.out, hr.out]; rfl), hkeep.out _⟩
  case stop =>
    rintro D c pre W _ _ h _
    exact h.elim
theorem tell_any (v : Value) (l : List Int) (base : Nat) (w : World) (ho : OwnsI w base v l) (hb : ∀ g ∈ l, -1000000000000000000 ≤ g ∧ g ≤ 1000000000000000000) (h0 : 0 ≤ lv 1000000 l) (h1 : lv 1000000 l < 1000000 ^ l.length) (hn : l.length ≤ 100000) (hbw : base ≤ w.heap.size) :
    Calls Tryz.prog 149 #[v] w fun e w' => e = .returned (.tuple #[.string (shortA (lv 1000000 l).toNat).1, .int .i64 (shortA (lv 1000000 l).toNat).2]) ∧ Below base w w' := by
  have hs := settle_any v l base w ho hb
  obtain ⟨a1, a2, a3⟩ := settle_grp l 0
  rw [← settle_val h0 h1]
  obtain ⟨a, n, cap, rfl, hl, -, -, -, -⟩ := ho.form
  have hl' := hl.out
  by_cases hn0 : n = 0
  · exact tell_fold a w.heap.size n cap base (settleL 0 l).1 w (fun h => by omega) (Nat.le_refl _) (by omega) (by omega) a1 hs hbw
  · obtain ⟨g, n', cap', hv, -, -, -, hbg⟩ := ho.row (by omega)
    cases hv
    exact tell_fold _ g n cap base (settleL 0 l).1 w (fun _ => rfl) (by have := ho.ge; omega) (by omega) (by omega) a1 hs hbw
end Go.Proofs.YtnjbppfanmmifaaGreatDoor
namespace Go.Proofs.YtnjbppfanmmifaaGreatDoor
open Go.RowKit

end Go.Proofs.YtnjbppfanmmifaaGreatDoor
namespace Go.Proofs.YtnjbppfanmmifaaGreatDoor
open Go.RowKit

theorem pow_group (k : Nat) : (1000000 : Int) ^ k = 10 ^ (6 * k) := by rw [Int.pow_mul]; rfl
theorem val_pow {s : ByteArray} (h : rt s = true) : (val s : Int) < 10 ^ s.size := by
  have h1 := val_lt ((rt_iff s).1 h).1.2.1
  rw [bs_len] at h1
  have h2 : ((10 ^ s.size : Nat) : Int) = (10 : Int) ^ s.size := by rw [Int.natCast_pow]; rfl
  rw [← h2]
  exact Int.ofNat_lt.2 h1
theorem add_room {a b : ByteArray} (ha : rt a = true) (hb : rt b = true) {m k : Nat} (h1 : a.size ≤ m) (h2 : b.size ≤ m) (hk : m + 1 ≤ 6 * k) : (val a : Int) + (val b : Int) < 1000000 ^ k := by
  have e1 := val_pow ha
  have e2 := val_pow hb
  have e3 := pow_mono h1
  have e4 := pow_mono h2
  have e5 := pow_mono hk
  rw [pow_group]
  have e6 : (10 : Int) ^ (m + 1) = 10 ^ m * 10 := Int.pow_succ _ _
  omega
theorem zeros_bound (n : Nat) : ∀ g ∈ List.replicate n (0 : Int), -(0 : Int) ≤ g ∧ g ≤ 0 := fun g hg => by rw [(List.mem_replicate.1 hg).2]; decide
set_option maxHeartbeats 1000000 in
theorem add_no (a b : ByteArray) (w : World) (h : ¬ (rt a = true ∧ rt b = true)) :
    Calls Tryz.prog 164 #[.string a, .string b] w fun e w' => e = .returned (.tuple #[.string noS, .int .i64 1]) ∧ w' = w := by
  cases ha : rt a with
  | false =>
    clear h
    go_enter Tryz.func164, Tryz.ntmps164
    go_wp2_with (go_at_call 142; refine (right_any _ _).mono ?_; rintro e w1 ⟨rfl, hw⟩; obtain rfl : w = w1 := hw.symm; rw [ha])
    go_ret2
    exact ⟨rfl, rfl⟩
  | true =>
    have hb : rt b = false := by
      cases hb : rt b with
      | false => rfl
      | true => exact absurd ⟨ha, hb⟩ h
    clear h
    go_enter Tryz.func164, Tryz.ntmps164
    go_wp2_with (go_at_call 142; refine (right_any _ _).mono ?_; rintro e w1 ⟨rfl, hw⟩; obtain rfl : w = w1 := hw.symm; first | rw [ha] | rw [hb])
    go_ret2
    exact ⟨rfl, rfl⟩
set_option maxHeartbeats 1000000 in
theorem add_yes (a b : ByteArray) (w : World) (ha : rt a = true) (hb : rt b = true) :
    Calls Tryz.prog 164 #[.string a, .string b] w fun e w' => e = .returned (.tuple #[.string (shortA (val a + val b)).1, .int .i64 (shortA (val a + val b)).2]) ∧ Below w.heap.size w w' := by
  have ra := (rt_iff a).1 ha
  have rb := (rt_iff b).1 hb
  have sa := rt_size ha
  have sb := rt_size hb
  obtain ⟨m, hm, h1, h2, h3⟩ : ∃ m : Nat, max (a.size : Int) (b.size : Int) = (m : Int) ∧ a.size ≤ m ∧ b.size ≤ m ∧ m ≤ 800 := ⟨max a.size b.size, by omega, Nat.le_max_left _ _, Nat.le_max_right _ _, by omega⟩
  have kR := room_any (m + 1) (by omega) w
  obtain ⟨R, hR⟩ : ∃ R, shortA (val a + val b) = R := ⟨_, rfl⟩
  rw [hR]
  have hP : Hid (∀ v w1, OwnsI w1 w.heap.size v (List.replicate ((m + 1 + 5) / 6) 0) → w.heap.size ≤ w1.heap.size → Calls Tryz.prog 148 #[v, .string a, .int .i64 1] w1 fun e w' => e = .returned (.tuple #[]) ∧ (∃ l', OwnsI w' w.heap.size v l' ∧ l'.length = (m + 6) / 6 ∧ lv 1000000 l' = (val a : Nat) ∧ (∀ g ∈ l', -1000000000 ≤ g ∧ g ≤ 1000000000)) ∧ Below w.heap.size w1 w') := by
    intro v w1 ho hbw
    refine (put_any v w.heap.size _ a 1 (.inl rfl) 0 (by decide) (zeros_bound _) w1 ho sa.1 (by omega) ra.1.2.1 (by rw [List.length_replicate]; omega) hbw).mono ?_
    rintro e w' ⟨rfl, ⟨l', hO, hl, hv, hbd⟩, hB⟩
    rw [List.length_replicate] at hl
    rw [lv_zeros, Int.zero_add, Int.one_mul] at hv
    exact ⟨rfl, ⟨l', hO, hl, hv, fun g hg => by have := hbd g hg; omega⟩, hB⟩
  have hQ : Hid (∀ v l w1, OwnsI w1 w.heap.size v l → l.length = (m + 6) / 6 → lv 1000000 l = (val a : Nat) → (∀ g ∈ l, -1000000000 ≤ g ∧ g ≤ 1000000000) → w.heap.size ≤ w1.heap.size → Calls Tryz.prog 148 #[v, .string b, .int .i64 1] w1 fun e w' => e = .returned (.tuple #[]) ∧ (∃ l', OwnsI w' w.heap.size v l' ∧ l'.length = (m + 6) / 6 ∧ lv 1000000 l' = (val a : Nat) + (val b : Nat) ∧ (∀ g ∈ l', -2000000000 ≤ g ∧ g ≤ 2000000000)) ∧ Below w.heap.size w1 w') := by
    intro v l w1 ho hl hv hbd hbw
    refine (put_any v w.heap.size _ b 1 (.inl rfl) 1000000000 (by decide) hbd w1 ho sb.1 (by omega) rb.1.2.1 (by omega) hbw).mono ?_
    rintro e w' ⟨rfl, ⟨l', hO, hl', hv', hbd'⟩, hB⟩
    rw [hv, Int.one_mul] at hv'
    exact ⟨rfl, ⟨l', hO, by omega, hv', fun g hg => by have := hbd' g hg; omega⟩, hB⟩
  have hT : Hid (∀ v l w1, OwnsI w1 w.heap.size v l → l.length = (m + 6) / 6 → lv 1000000 l = (val a : Nat) + (val b : Nat) → (∀ g ∈ l, -2000000000 ≤ g ∧ g ≤ 2000000000) → w.heap.size ≤ w1.heap.size → Calls Tryz.prog 149 #[v] w1 fun e w' => e = .returned (.tuple #[.string R.1, .int .i64 R.2]) ∧ Below w.heap.size w1 w') := by
    intro v l w1 ho hl hv hbd hbw
    have hk := tell_any v l w.heap.size w1 ho (fun g hg => by have := hbd g hg; omega) (by rw [hv]; omega) (by rw [hv, hl]; exact add_room ha hb h1 h2 (by omega)) (by omega) hbw
    have hn : (lv 1000000 l).toNat = val a + val b := by rw [hv]; omega
    rw [hn, hR] at hk
    exact hk
  have wm : IntKind.i64.wrap ((m : Int) + 1) = ((m + 1 : Nat) : Int) := by rw [wrap_fit (by omega) (by omega)]; omega
  clear hR ra rb sa sb h1 h2 h3
  go_enter Tryz.func164, Tryz.ntmps164
  go_wp2_with (first
    | (go_at_call 142; refine (right_any _ _).mono ?_; rintro e w1 ⟨rfl, hw⟩; obtain rfl : w = w1 := hw.symm; first | rw [ha] | rw [hb])
    | (go_at_call 147; refine kR.mono ?_; rintro e w1 ⟨v, rfl, ho1, hb1⟩; have k2 := hP.out v w1 ho1 hb1.size))
  refine k2.mono ?_
  rintro e w2 ⟨rfl, ⟨l2, ho2, hl2, hv2, hd2⟩, hb2⟩
  have k3 := hQ.out v l2 w2 ho2 hl2 hv2 hd2 (by have := hb1.size; have := hb2.size; omega)
  go_wp2_with fail
  refine k3.mono ?_
  rintro e w3 ⟨rfl, ⟨l3, ho3, hl3, hv3, hd3⟩, hb3⟩
  have k4 := hT.out v l3 w3 ho3 hl3 hv3 hd3 (by have := hb1.size; have := hb2.size; have := hb3.size; omega)
  go_wp2_with (go_at_call 149; refine k4.mono ?_; rintro e w4 ⟨rfl, hb4⟩)
  go_ret2
  exact ⟨rfl, ((hb1.trans hb2).trans hb3).trans hb4⟩
theorem add_any (a b : ByteArray) (w : World) :
    Calls Tryz.prog 164 #[.string a, .string b] w fun e w' => e = .returned (.tuple #[.string (addA a b).1, .int .i64 (addA a b).2]) ∧ Below w.heap.size w w' := by
  unfold addA
  by_cases h : rt a = true ∧ rt b = true
  · rw [if_pos h]
    exact add_yes a b w h.1 h.2
  · rw [if_neg h]
    refine (add_no a b w h).mono ?_
    rintro e w' ⟨rfl, rfl⟩
    exact ⟨rfl, Below.refl _ _⟩
end Go.Proofs.YtnjbppfanmmifaaGreatDoor
namespace Go.Proofs.YtnjbppfanmmifaaGreatDoor
open Go.RowKit

theorem times_step {l r : List Int} {k : Nat} {by' over T : Int} (hk : k < l.length) (hr : r.length = k) (h : lv 1000000 r + 1000000 ^ k * (over + by' * lv 1000000 (l.drop k)) = T) :
    lv 1000000 (r ++ [(l.getD k 0 * by' + over) % 1000000]) + 1000000 ^ (k + 1) * ((l.getD k 0 * by' + over) / 1000000 + by' * lv 1000000 (l.drop (k + 1))) = T := by
  rw [lv_drop 1000000 l k hk] at h
  rw [lv_snoc, hr, ← h, Int.pow_succ, Int.add_assoc, Int.mul_assoc, ← Int.mul_add]
  congr 1
  congr 1
  generalize l.getD k 0 = X
  generalize lv 1000000 (l.drop (k + 1)) = Y
  have h1 := Int.mul_ediv_add_emod (X * by' + over) 1000000
  rw [Int.mul_add 1000000, Int.mul_add by', Int.mul_left_comm by']
  rw [Int.mul_comm X by'] at *
  omega
set_option maxHeartbeats 1000000 in
theorem times_any (v : Value) (l : List Int) (base : Nat) (w : World) (ho : OwnsI w base v l) (hl : Grp 1000000 l) (hn : l.length ≤ 1000000) (by' plus : Int) (hby : 0 ≤ by' ∧ by' ≤ 1000000) (hpl : 0 ≤ plus ∧ plus < 1000000) (hbw : base ≤ w.heap.size) :
    Calls Tryz.prog 217 #[v, .int .i64 by', .int .i64 plus] w fun e w' => (∃ v' l', e = .returned v' ∧ OwnsI w' base v' l' ∧ Grp 1000000 l' ∧ lv 1000000 l' = by' * lv 1000000 l + plus ∧ (l'.length = l.length ∨ (l'.length = l.length + 1 ∧ 1000000 ^ l.length ≤ lv 1000000 l'))) ∧ Below base w w' := by
  obtain ⟨a, n, cap, rfl, hL, -, hnc, hcm, -⟩ := ho.form
  have hO : Hid (OwnsI w base (.slice a n cap) l) := ho
  have hG : Hid (Grp 1000000 l) := hl
  obtain ⟨T, hT⟩ : ∃ T, by' * lv 1000000 l + plus = T := ⟨_, rfl⟩
  rw [hT]
  have hT' : Hid (by' * lv 1000000 l + plus = T) := hT
  have hn' : n ≤ 1000000 := by rw [← hL.out]; exact hn
  clear ho hl hT hn
  go_enter Tryz.func217, Tryz.ntmps217
  go_wp2
  go_loopw [7, 13] (fun ov i wr => ∃ (k : Nat) (over : Int) (r : List Int), k ≤ n ∧ i = .int .i64 k ∧ ov = .int .i64 over ∧ 0 ≤ over ∧ over < 1000000 ∧ Hid (r.length = k) ∧ Hid (Grp 1000000 r) ∧ Hid (OwnsI wr base (.slice a n cap) (r ++ l.drop k)) ∧ Hid (lv 1000000 r + 1000000 ^ k * (over + by' * lv 1000000 (l.drop k)) = T) ∧ Hid (Below base w wr)) (fun _ i _ => n - (intOf i).toNat)
  case atStart =>
    refine ⟨0, plus, [], Nat.zero_le _, rfl, rfl, hpl.1, hpl.2, rfl, grp_nil _, hO.out, ?_, Below.refl _ _⟩
    show 0 + 1000000 ^ 0 * (plus + by' * lv 1000000 l) = T
    rw [← hT'.out]
    omega
  case round =>
    obtain ⟨k, over, r, hk, rfl, rfl, ho1, ho2, hr, hgr, ho, hs, hbl⟩ := hrel
    by_cases hlt : k < n
    · have hkl : k < l.length := by rw [hL.out]; exact hlt
      obtain ⟨g, n', cap', hv, -, -, -, hbg⟩ := ho.out.row (by rw [List.length_append, List.length_drop]; omega)
      cases hv
      have hX := hG.out.at hkl
      have hc := ho.out.cell (j := k) (by rw [List.length_append, List.length_drop, hr.out]; omega)
      rw [getD_mid hr.out] at hc
      have hf := ho.out.frozen k
      have hst : Hid _ := times_step hkl hr.out hs.out
      have hset : Hid (∀ u, OwnsI (wr.setCell ⟨g, k, none⟩ (.int .i64 u)) base (.slice (some ⟨g, 0, none⟩) n cap) ((r ++ [u]) ++ l.drop (k + 1))) := fun u => by
        rw [← set_mid hr.out hkl]
        exact ho.out.store k u
      generalize l.getD k 0 = X at *
      have hXb : 0 ≤ X * by' ∧ X * by' ≤ 999999 * 1000000 := ⟨Int.mul_nonneg hX.1 hby.1, Int.le_trans (Int.mul_le_mul_of_nonneg_right (by omega : X ≤ 999999) hby.1) (Int.mul_le_mul_of_nonneg_left hby.2 (by decide))⟩
      obtain ⟨Y, hY⟩ : ∃ Y, X * by' = Y := ⟨_, rfl⟩
      rw [hY] at hXb hst
      have hw1 : IntKind.i64.wrap Y = Y := wrap_fit (by omega) (by omega)
      obtain ⟨m, hm⟩ : ∃ m, Y + over = m := ⟨_, rfl⟩
      rw [hm] at hst
      have hw2 : IntKind.i64.wrap m = m := wrap_fit (by omega) (by omega)
      have q1 : m.tmod 1000000 = m % 1000000 := Int.tmod_eq_emod_of_nonneg (by omega)
      have q2 : m.tdiv 1000000 = m / 1000000 := Int.tdiv_eq_ediv_of_nonneg (by omega)
      have q3 : 0 ≤ m / 1000000 ∧ m / 1000000 < 1000000 := by omega
      have q4 : 0 ≤ m % 1000000 ∧ m % 1000000 < 1000000 := by omega
      have q5 : IntKind.i64.wrap (m / 1000000) = m / 1000000 := wrap_fit (by omega) (by omega)
      generalize m / 1000000 = M1 at *
      generalize m % 1000000 = M2 at *
      clear hXb hX
      go_wp2
      go_roundw
      case rel => exact ⟨k + 1, M1, r ++ [M2], by omega, by go_num, rfl, q3.1, q3.2, (by show _ = _; rw [List.length_append, hr.out]; rfl), hgr.out.snoc q4, hset.out _, hst, hbl.out.setCell (p := ⟨g, k, none⟩) hbg _⟩
      case measure => simp [intOf]; omega
    · obtain rfl : k = n := by omega
      have hd : l.drop k = [] := List.drop_of_length_le (by rw [hL.out]; exact Nat.le_refl _)
      have hs' := hs.out
      have ho' := ho.out
      rw [hd] at hs' ho'
      rw [List.append_nil] at ho'
      have hs2 : lv 1000000 r + 1000000 ^ k * over = T := by
        rw [← hs']
        show _ = _ + _ * (over + by' * 0)
        rw [Int.mul_zero, Int.add_zero]
      have hO2 : Hid (OwnsI wr base (.slice a k cap) r) := ho'
      have hL' : l.length = k := hL.out
      by_cases h0 : over = 0
      · subst h0
        have hfin : Hid (lv 1000000 r = T) := by show _ = _; rw [Int.mul_zero, Int.add_zero] at hs2; exact hs2
        have hln : Hid (r.length = l.length) := by show _ = _; rw [hL.out]; exact hr.out
        clear hs2 hs' ho' hd hs ho hL'
        go_wp2
        go_ret
        exact ⟨⟨_, r, rfl, hO2.out, hgr.out, hfin.out, .inl hln.out⟩, hbl.out⟩
      · have hfin : Hid (lv 1000000 (r ++ [over]) = T) := by show _ = _; rw [lv_snoc, hr.out]; exact hs2
        have hge : Hid ((1000000 : Int) ^ l.length ≤ T) := by
          show _ ≤ _
          have h1 := (lv_lt (by decide) hgr.out).1
          have h2 : (1000000 : Int) ^ k * 1 ≤ 1000000 ^ k * over := Int.mul_le_mul_of_nonneg_left (by omega) (Int.le_of_lt (pow_pos' (by decide) _))
          rw [hL']
          omega
        have hln : Hid ((r ++ [over]).length = l.length + 1) := by show _ = _; rw [List.length_append, hL.out, hr.out]; rfl
        have hG2 : Hid (Grp 1000000 (r ++ [over])) := hgr.out.snoc ⟨ho1, ho2⟩
        have hd0 : decide (0 < over) = true := by simp; omega
        have hbs : base ≤ wr.heap.size := Nat.le_trans hbw hbl.out.size
        clear hs2 hs' ho' hd hs ho h0 hL'
        go_wp2_with (at_builtin; refine wpList_append_ints rfl _ _ rfl base _ r [over] rfl (hO2.out.alloc _) _ 1 1 rfl rfl (by intro h; cases h) (one_int _ _) (by have := hr.out; simp; omega) (by simp; omega) ?_; intro v' w2 ho2' hg2)
        go_ret
        exact ⟨⟨v', r ++ [over], rfl, ho2', hG2.out, hfin.out, .inr ⟨hln.out, by rw [hfin.out]; exact hge.out⟩⟩, grownI_below (hbl.out.alloc hbs _) (hO2.out.alloc _) hg2 (by simp; omega)⟩

end Go.Proofs.YtnjbppfanmmifaaGreatDoor
namespace Go.Proofs.YtnjbppfanmmifaaGreatDoor
open Go.RowKit

end Go.Proofs.YtnjbppfanmmifaaGreatDoor
namespace Go.Proofs.YtnjbppfanmmifaaGreatDoor
open Go.RowKit

theorem byt_take {zs : List Int} {k : Nat} (hz : ∀ c ∈ zs, 0 ≤ c ∧ c < 256) (hk : k < zs.length) : ((bytV (zs.take (k + 1)) : Nat) : Int) = 256 * ((bytV (zs.take k) : Nat) : Int) + zs.getD k 0 := by
  have h1 := hz _ (getD_mem hk)
  have e : zs.take (k + 1) = zs.take k ++ [zs.getD k 0] := by
    rw [List.take_succ_eq_append_getElem hk, List.getD_eq_getElem?_getD, List.getElem?_eq_getElem hk]; rfl
  rw [e, byt_snoc]
  generalize zs.getD k 0 = c at *
  omega
set_option maxHeartbeats 1000000 in
theorem frb_any (a : Option Addr) (n cap : Nat) (zs : List Int) (w : World) (hl : zs.length = n) (hb : Bytes w a zs) :
    Calls Tryz.prog 197 #[.slice a n cap] w fun e w' => e = .returned (.tuple #[.string (frbA zs).1, .int .i64 (frbA zs).2]) ∧ Below w.heap.size w w' := by
  by_cases h4 : n ≤ 400
  · obtain ⟨R, hR⟩ : ∃ R, frbA zs = R := ⟨_, rfl⟩
    rw [hR]
    have hR' : Hid (shortA (bytV zs) = R) := by rw [← hR]; unfold frbA; rw [if_pos (by omega)]; rfl
    have hd : decide (400 < (n : Int)) = false := by simp; omega
    have hL : Hid (zs.length = n) := hl
    have hB : Hid (Bytes w a zs) := hb
    clear hR hl hb
    go_enter Tryz.func197, Tryz.ntmps197
    go_wp2
    go_loopw [4, 12] (fun v i wr => ∃ (k : Nat) (l : List Int), k ≤ n ∧ i = .int .i64 k ∧ Hid (OwnsI wr w.heap.size v l) ∧ Hid (Grp 1000000 l) ∧ Hid (lv 1000000 l = (bytV (zs.take k) : Nat)) ∧ Hid (l.length ≤ k) ∧ Hid (Below w.heap.size w wr)) (fun _ i _ => n - (intOf i).toNat)
    case atStart => exact ⟨0, [], Nat.zero_le _, rfl, ownsI_nil _ _, grp_nil _, rfl, Nat.le_refl _, Below.refl _ _⟩
    case round =>
      obtain ⟨k, l, hk, rfl, hO, hG, hv, hln, hbl⟩ := hrel
      by_cases hlt : k < n
      · have hkl : k < zs.length := by rw [hL.out]; exact hlt
        obtain ⟨b, off, rfl⟩ := bytes_some hB.out (by rw [hL.out]; omega)
        obtain ⟨hz, -, hc⟩ := hB.out.kept hbl.out
        have hcell : wr.cell? ⟨b, off + k, none⟩ = some (.int .u8 (zs.getD k 0)) := by
          rcases hc with h | ⟨b', o', h, hc⟩
          · rw [h] at hkl; cases hkl
          · cases h
            exact hc k hkl
        have hcb := hz _ (getD_mem hkl)
        have hbt : Hid _ := byt_take hz hkl
        clear hc hz
        generalize zs.getD k 0 = c at *
        have i1 : (k : Int) < (n : Int) := by omega
        have hln' := hln.out
        have kt := times_any _ l w.heap.size wr hO.out hG.out (by omega) 256 c (by omega) (by omega) hbl.out.size
        have wc : IntKind.i64.wrap c = c := wrap_fit (by omega) (by omega)
        clear hln' hcb
        go_wp2_with (go_at_call 217; refine kt.mono ?_; rintro e w2 ⟨⟨v', l', rfl, hO2, hG2, hv2, hlen⟩, hb2⟩)
        go_roundw
        case rel => exact ⟨k + 1, l', by omega, by go_num, hO2, hG2, (by show _ = _; rw [hv2, hv.out]; exact hbt.out.symm), (by show _ ≤ _; have := hln.out; omega), hbl.out.trans hb2⟩
        case measure => simp [intOf]; omega
      · obtain rfl : k = n := by omega
        have hln' := hln.out
        have hlt2 := lv_lt (by decide) hG.out
        have ht := tell_any _ l w.heap.size wr hO.out (fun g hg => by have := hG.out g hg; omega) hlt2.1 hlt2.2 (by omega) hbl.out.size
        have hn : (lv 1000000 l).toNat = bytV zs := by rw [hv.out, List.take_of_length_le (by rw [hL.out]; exact Nat.le_refl _), Int.toNat_natCast]
        rw [hn, hR'.out] at ht
        clear hn hlt2 hln'
        go_wp2_with (go_at_call 149; refine ht.mono ?_; rintro e w9 ⟨rfl, hb9⟩)
        go_ret2
        exact ⟨rfl, hbl.out.trans hb9⟩
  · have e : frbA zs = (noS, 11) := by unfold frbA; rw [if_neg (by omega)]
    rw [e]
    have hd : decide (400 < (n : Int)) = true := by simp; omega
    clear hl hb h4 e
    go_enter Tryz.func197, Tryz.ntmps197
    go_wp2
    go_ret2
    exact ⟨rfl, Below.refl _ _⟩
end Go.Proofs.YtnjbppfanmmifaaGreatDoor
namespace Go.Proofs.YtnjbppfanmmifaaGreatDoor
open Go.RowKit

end Go.Proofs.YtnjbppfanmmifaaGreatDoor
