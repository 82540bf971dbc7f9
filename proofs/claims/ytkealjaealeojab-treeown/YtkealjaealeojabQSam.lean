/-
  When two trees are the same: tree.same, with slices.EqualFunc.
-/
import Derived.Test.YtkealjaealeojabQGc
import Derived.Test.YtkealjaealeojabQGa
import Derived.Shelf.Abstract
namespace Go.Proofs.Ytkealjaealeojab
open Go.RowKit
set_option linter.unusedVariables false

/-- bytes.Equal. -/
theorem beq_any (a b : Option Addr) (n m ca cb : Nat) (x y : List Int) (w : World) (hx : x.length = n) (hy : y.length = m) (ha : Bytes w a x) (hb : Bytes w b y) (v : Bool) (hv : v = true ↔ x = y) :
    Calls Try.prog 50 #[.slice a n ca, .slice b m cb] w fun e w' => e = .returned (.bool v) ∧ w' = w := by
  have c1 := conv_str ha n ca hx
  have c2 := conv_str hb m cb hy
  have hE : ((strOfNums x).toList == (strOfNums y).toList) = v := by
    rw [Bool.eq_iff_iff, hv, str_eq ha.1 hb.1, decide_eq_true_iff]
  clear hx hy ha hb hv
  generalize strOfNums x = p at *
  generalize strOfNums y = q at *
  go_enter Try.func50, Try.ntmps50
  go_wp2
  go_ret
  exact ⟨rfl, rfl⟩

/-- tree.same, at trees of a depth. -/
def SameAt (D : Nat) : Prop := ∀ (t u : Tr) (a b : Nb) (w : World) (v : Bool), Nd D w a t → Nd D w b u → (v = true ↔ t = u) → Calls Try.prog 38 #[.agg a.arr, .agg b.arr] w fun e w' => e = .returned (.bool v) ∧ Below w.heap.size w w'

/-- The element at i of a row, as the world has grown. -/
theorem row_el {D : Nat} {w w' : World} {a : Option Addr} {len cap : Nat} {l : List Tr} (h : RowN (Nd D w) w a len cap l) (hb : Below w.heap.size w w') {i : Nat} (hi : i < l.length) :
    ∃ (bk off : Nat) (nb : Nb), a = some ⟨bk, off, none⟩ ∧ (∀ j, j < 9 → w'.cell? ⟨bk, off + (i * 9 + j), none⟩ = nb.cells[j]?) ∧ Nd D w' nb l[i] ∧ bk < w.heap.size := by
  have hk := h.kept (R := Nd D w') hb (fun _ _ _ q => q.kept hb)
  obtain ⟨_, _, h2⟩ := h
  obtain ⟨_, _, h2'⟩ := hk
  rcases h2 with rfl | ⟨b, off, ha, hc⟩
  · cases hi
  · rcases h2' with rfl | ⟨b', off', ha', hc'⟩
    · cases hi
    · obtain ⟨nb, hn, hQ⟩ := hc' i hi
      rw [ha] at ha'
      cases ha'
      obtain ⟨nb0, hn0, _⟩ := hc i hi
      exact ⟨b, off, nb, ha, hn, hQ, some_block ((hn0 0 (by omega)).trans (List.getElem?_eq_getElem (by simp [Nb.cells])))⟩

set_option maxHeartbeats 4000000 in
set_option maxRecDepth 100000 in
theorem eqf_any {D : Nat} (ih : SameAt D) (a b : Option Addr) (n m ca cb : Nat) (x y : List Tr) (w : World) (ha : RowN (Nd D w) w a n ca x) (hb : RowN (Nd D w) w b m cb y) (v : Bool) (hv : v = true ↔ x = y) :
    Calls Try.prog 51 #[.slice a n ca, .slice b m cb, .func (.func 38) #[] #[]] w fun e w' => e = .returned (.bool v) ∧ Below w.heap.size w w' := by
  have e36 : ∀ args w, (callFunc 38 args).run Try.prog w = .ok (.enter 38 args) w := enters_of Try.func38 (by kernel_rfl) rfl
  have hx : Hid (x.length = n) := ha.1
  have hy : Hid (y.length = m) := hb.1
  have mk := ha.2.1.1
  have mk' := ha.2.1.2.1
  have mi := hb.2.1.1
  have mi' := hb.2.1.2.1
  unfold maxLen at mk' mi'
  have hA : Hid (RowN (Nd D w) w a n ca x) := ha
  have hB : Hid (RowN (Nd D w) w b m cb y) := hb
  have hV : Hid (v = true ↔ x = y) := hv
  clear ha hb hv
  by_cases hnm : n = m
  · subst hnm
    go_enter Try.func51, Try.ntmps51
    go_wp2
    go_loopw [7, 8, 9, 17] (fun _ _ _ s17 wr => ∃ (i : Nat), i ≤ n ∧ s17 = .int .i64 i ∧ Hid (Below w.heap.size w wr) ∧ Hid (x.take i = y.take i)) (fun _ _ _ i _ => n - (intOf i).toNat)
    case atStart => exact ⟨0, Nat.zero_le _, rfl, Below.refl _ _, rfl⟩
    case round =>
      obtain ⟨i, him, rfl, hbl, hT⟩ := hrel
      by_cases hlt : i < n
      · have hz : (i : Int) < (n : Int) := by omega
        have hix : i < x.length := by rw [hx.out]; exact hlt
        have hiy : i < y.length := by rw [hy.out]; exact hlt
        obtain ⟨bk, ok, nk, rfl, hck, hNk, hbk⟩ := row_el hA.out hbl.out hix
        obtain ⟨bi, oi, ni, rfl, hci, hNi, hbi⟩ := row_el hB.out hbl.out hiy
        obtain ⟨f0, f1, f2, f3, f4, f5, f6, f7, f8⟩ := elem_fields hck
        obtain ⟨p0, p1, p2, p3, p4, p5, p6, p7, p8⟩ := elem_fields hci
        have hw : Hid (w.heap.size ≤ wr.heap.size) := hbl.out.size
        have lk : bk < wr.heap.size := Nat.lt_of_lt_of_le hbk hbl.out.size
        have li : bi < wr.heap.size := Nat.lt_of_lt_of_le hbi hbl.out.size
        have b1 := alloc_below wr (.cells nk.arr 26)
        have b2 := alloc_below (wr.alloc (.cells nk.arr 26)) (.cells ni.arr 26)
        have b12 : Hid (Below wr.heap.size wr ((wr.alloc (.cells nk.arr 26)).alloc (.cells ni.arr 26))) := b1.trans (b2.mono b1.size)
        have kk := fun v' => ih x[i] y[i] nk ni ((wr.alloc (.cells nk.arr 26)).alloc (.cells ni.arr 26)) v' ((hNk.kept b1).kept b2) ((hNi.kept b1).kept b2)
        have wi : IntKind.i64.wrap ((i : Int) + 1) = (i : Int) + 1 := by rw [IntKind.wrap_i64]; omega
        by_cases hE : x[i] = y[i]
        · have k1 := kk true (by simp [hE])
          have hT' : Hid (x.take (i + 1) = y.take (i + 1)) := by
            show _ = _
            rw [List.take_succ_eq_append_getElem hix, List.take_succ_eq_append_getElem hiy, hT.out, hE]
          clear hck hci hNk hNi kk hE b1 b2 hbk hbi ih
          go_wp2_with (go_at_fn 38; refine k1.mono ?_; rintro e w1 ⟨rfl, hb1⟩)
          go_roundw
          case rel => exact ⟨i + 1, by omega, by go_num, (hbl.out.trans (b12.out.mono hw.out)).trans (hb1.mono (Nat.le_trans hw.out b12.out.size)), hT'⟩
          case measure => simp [intOf]; omega
        · have k1 := kk false (by simp [hE])
          have hv : v = false := by
            cases hv : v with
            | false => rfl
            | true =>
              exfalso
              have := hV.out.1 hv
              subst this
              exact hE rfl
          subst hv
          clear hck hci hNk hNi kk hE b1 b2 hbk hbi ih
          go_wp2_with (go_at_fn 38; refine k1.mono ?_; rintro e w1 ⟨rfl, hb1⟩)
          go_ret
          exact ⟨rfl, (hbl.out.trans (b12.out.mono hw.out)).trans (hb1.mono (Nat.le_trans hw.out b12.out.size))⟩
      · have hz : ¬ (i : Int) < (n : Int) := by omega
        have hv : v = true := hV.out.2 (by
          have h1 := hT.out
          rwa [List.take_of_length_le (by rw [hx.out]; omega), List.take_of_length_le (by rw [hy.out]; omega)] at h1)
        subst hv
        clear ih
        go_wp2
        go_ret
        exact ⟨rfl, hbl.out⟩
  · have hv : v = false := by
      cases hv : v with
      | false => rfl
      | true =>
        exfalso
        have h1 := hV.out.1 hv
        apply hnm
        rw [← hx.out, ← hy.out, h1]
    subst hv
    have hz : (n : Int) ≠ (m : Int) := by omega
    clear ih
    go_enter Try.func51, Try.ntmps51
    go_wp2
    go_ret
    exact ⟨rfl, Below.refl _ _⟩
end Go.Proofs.Ytkealjaealeojab
