/-
  A copy of bytes with no room behind it; a cursor made over one; bytes taken.
-/
import Derived.Test.YtgfnohgpmmaocaaDoorQcu
namespace Go.Proofs.YtgfnohgpmmaocaaDoor
open Go.RowKit

/-- BYTES IN A ROW OF THEIR OWN (from 'base' on), at its head. -/
def Row (w : World) (base : Nat) (a : Option Addr) (zs : List Int) : Prop :=
  (a = none ∧ zs = []) ∨ ∃ g cur, a = some ⟨g, 0, none⟩ ∧ base ≤ g ∧ w.heap[g]? = some (.cells cur 5 (0, 0)) ∧ cur.toList.take zs.length = zs.map (Value.int .u8)

theorem row_of_owns {w : World} {base n cap : Nat} {a : Option Addr} {zs : List Int} (h : OwnsB w base (.slice a n cap) zs) : Row w base a zs := by
  obtain ⟨⟨hl, hv⟩, hz⟩ := h
  rcases hv with ⟨h1, hn⟩ | ⟨g, cap', cur, h1, hb, hg, hnc, hcm, hcs, htk⟩
  · cases h1
    exact .inl ⟨rfl, List.eq_nil_of_length_eq_zero hn⟩
  · cases h1
    exact .inr ⟨g, cur, rfl, hb, hg, by simpa using htk⟩

theorem Row.places {w : World} {base : Nat} {a : Option Addr} {zs : List Int} (h : Row w base a zs) : ∀ x, a = some x → base ≤ x.block ∧ x.block < w.heap.size ∧ x.spot = none := by
  intro x hx
  rcases h with ⟨rfl, _⟩ | ⟨g, cur, rfl, hb, hg, _⟩
  · cases hx
  · cases hx
    exact ⟨hb, (Array.getElem?_eq_some_iff.1 hg).1, rfl⟩

set_option maxHeartbeats 400000 in
theorem cutOff_any (a : Option Addr) (n cap : Nat) (zs : List Int) (w : World) (hl : zs.length = n) (hb : Bytes w a zs) (hn : a = none → cap = 0) (hm : n ≤ 140737488355328) :
    Calls Tryd.prog 34 #[.slice a n cap] w fun e w' => ∃ a', e = .returned (.slice a' n n) ∧ Hid (Row w' w.heap.size a' zs) ∧ Hid (Bytes w' a' zs) ∧ Below w.heap.size w w' := by
  have hB : Hid (Bytes w a zs) := hb
  have hL : Hid (zs.length = n) := hl
  clear hb hl
  go_enter Tryd.func34, Tryd.ntmps34
  go_wp2_with (at_builtin; refine wpList_append_bytes rfl _ (.tmp 4) rfl w.heap.size (.slice none 0 0) [] zs rfl (ownsB_nil _ _) a n cap rfl hL.out hn hB.out (by rw [hL.out]; simp; omega) (Nat.le_refl _) ?_; intro v2 w2 ho2 hg2; have hb2 := grown_below (Below.refl _ _) (ownsB_nil _ _) hg2 (Nat.le_refl _); simp only [List.nil_append] at ho2; clear hg2; obtain ⟨a2, n2, cap2, rfl, hl2, hn2, hc2, hm2, hB2⟩ := ho2.form; obtain rfl : n2 = n := hl2.out.symm.trans hL.out)
  go_ret
  exact ⟨a2, rfl, row_of_owns ho2, hB2, hb2⟩

theorem alloc_lt (w : World) (o : Obj) : (w.alloc o).heap.size = w.heap.size + 1 := by simp

set_option maxHeartbeats 400000 in
theorem new_any (a : Option Addr) (n cap : Nat) (zs : List Int) (w : World) (hl : zs.length = n) (hb : Bytes w a zs) (hn : a = none → cap = 0) (hm : n ≤ 140737488355328) :
    Calls Tryd.prog 23 #[.slice a n cap] w fun e w' => ∃ g a', e = .returned (.pointer (some ⟨g, 0, none⟩)) ∧ Cur w' w.heap.size g a' n zs 0 0 0 ∧ Below w.heap.size w w' := by
  go_enter Tryd.func23, Tryd.ntmps23
  go_wp2_with fail
  refine (cutOff_any a n cap zs w hl hb hn hm).mono ?_
  rintro e w1 ⟨a1, rfl, hr1, hB1, hb1⟩
  clear hb hn
  go_wp2
  go_ret
  have hb2 := (Below.refl w1.heap.size w1).alloc (Nat.le_refl _) (.cells #[.bool true, .slice a1 n n, .int .i64 0, .int .i64 0, .int .i64 0] 64)
  refine ⟨w1.heap.size, a1, rfl, ⟨heap_alloc_new _ _, hB1.out.kept hb2, hl, Nat.zero_le _, hm, hb1.size, ?_, ?_⟩, trans_kept hb1 hb2⟩
  · rintro rfl
    rcases hr1.out with ⟨_, h0⟩ | ⟨_, _, h0, _⟩
    · rw [← hl, h0]; rfl
    · cases h0
  · intro x hx
    obtain ⟨h1, h2, h3⟩ := hr1.out.places x hx
    exact ⟨by omega, Nat.lt_of_lt_of_le h2 hb2.size, h3, h1⟩

end Go.Proofs.YtgfnohgpmmaocaaDoor
