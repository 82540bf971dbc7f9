/-
  A copy of bytes with no room behind it; a cursor made over one; bytes taken.
-/
import Derived.Test.YtfipdldoklkciaaQcu
namespace Go.Proofs.Ytfipdldoklkciaa
open Go.RowKit

/-- BYTES IN A ROW OF THEIR OWN (from 'base' on), at its head. -/
def Row (w : World) (base : Nat) (a : Option Addr) (zs : List Int) : Prop :=
  (a = none ∧ zs = []) ∨ ∃ g cur, a = some ⟨g, 0, none⟩ ∧ base ≤ g ∧ w.heap[g]? = some (.cells cur 5 (0, 0)) ∧ cur.toList.take zs.length = zs.map (Value.int .u8)

theorem row_of_owns {w : World} {base n cap : Nat} {a : Option Addr} {zs : List Int} (h : OwnsB w base (.slice a n cap) zs) : Row w base a zs := by
  obtain ⟨⟨hl, hv⟩, hz⟩ := h
  rcases hv with ⟨h1, hn⟩ | ⟨g, cap', cur, h1, hb, hg, hnc, hcm, hcs, htk⟩
  · cases h1
    exact .inl ⟨rfl, List.eq_nil_of_length_eq_zero hn⟩
  · cases h1
    exact .inr ⟨g, cur, rfl, hb, hg, by simpa using htk⟩

theorem Row.places {w : World} {base : Nat} {a : Option Addr} {zs : List Int} (h : Row w base a zs) : ∀ x, a = some x → base ≤ x.block ∧ x.block < w.heap.size ∧ x.spot = none := by
  intro x hx
  rcases h with ⟨rfl, _⟩ | ⟨g, cur, rfl, hb, hg, _⟩
  · cases hx
  · cases hx
    exact ⟨hb, (Array.getElem?_eq_some_iff.1 hg).1, rfl⟩

set_option maxHeartbeats 400000 in
theorem cutOff_any (a : Option Addr) (n cap : Nat) (zs : List Int) (w : World) (hl : zs.length = n) (hb : Bytes w a zs) (hn : a = none → cap = 0) (hm : n ≤ 140737488355328) :
    Calls Try.prog 83 #[.slice a n cap] w fun e w' => ∃ a', e = .returned (.slice a' n n) ∧ Hid (Row w' w.heap.size a' zs) ∧ Hid (Bytes w' a' zs) ∧ Below w.heap.size w w' := by
  have hB : Hid (Bytes w a zs) := hb
  have hL : Hid (zs.length = n) := hl
  clear hb hl
  go_enter Try.func83, Try.ntmps83
  go_wp2_with (at_builtin; refine wpList_append_bytes rfl _ (.tmp 4) rfl w.heap.size (.slice none 0 0) [] zs rfl (ownsB_nil _ _) a n cap rfl hL.out hn hB.out (by rw [hL.out]; simp; omega) (Nat.le_refl _) ?_; intro v2 w2 ho2 hg2; have hb2 := grown_below (Below.refl _ _) (ownsB_nil _ _) hg2 (Nat.le_refl _); simp only [List.nil_append] at ho2; clear hg2; obtain ⟨a2, n2, cap2, rfl, hl2, hn2, hc2, hm2, hB2⟩ := ho2.form; obtain rfl : n2 = n := hl2.out.symm.trans hL.out)
  go_ret
  exact ⟨a2, rfl, row_of_owns ho2, hB2, hb2⟩

theorem alloc_lt (w : World) (o : Obj) : (w.alloc o).heap.size = w.heap.size + 1 := by simp

set_option maxHeartbeats 400000 in
theorem new_any (a : Option Addr) (n cap : Nat) (zs : List Int) (w : World) (hl : zs.length = n) (hb : Bytes w a zs) (hn : a = none → cap = 0) (hm : n ≤ 140737488355328) :
    Calls Try.prog 43 #[.slice a n cap] w fun e w' => ∃ g a', e = .returned (.pointer (some ⟨g, 0, none⟩)) ∧ Cur w' w.heap.size g a' n zs 0 0 0 ∧ Below w.heap.size w w' := by
  go_enter Try.func43, Try.ntmps43
  go_wp2_with fail
  refine (cutOff_any a n cap zs w hl hb hn hm).mono ?_
  rintro e w1 ⟨a1, rfl, hr1, hB1, hb1⟩
  clear hb hn
  go_wp2
  go_ret
  have hb2 := (Below.refl w1.heap.size w1).alloc (Nat.le_refl _) (.cells #[.bool true, .slice a1 n n, .int .i64 0, .int .i64 0, .int .i64 0] 129)
  refine ⟨w1.heap.size, a1, rfl, ⟨heap_alloc_new _ _, hB1.out.kept hb2, hl, Nat.zero_le _, hm, hb1.size, ?_, ?_⟩, trans_kept hb1 hb2⟩
  · rintro rfl
    rcases hr1.out with ⟨_, h0⟩ | ⟨_, _, h0, _⟩
    · rw [← hl, h0]; rfl
    · cases h0
  · intro x hx
    obtain ⟨h1, h2, h3⟩ := hr1.out.places x hx
    exact ⟨by omega, Nat.lt_of_lt_of_le h2 hb2.size, h3, h1⟩

set_option maxHeartbeats 400000 in
theorem take_stop (base g p y f n : Nat) (a : Option Addr) (zs : List Int) (k : Int) (w : World) (h : Cur w base g a n zs p y f) (hy : y ≠ 0) :
    Calls Try.prog 46 #[.pointer (some ⟨g, 0, none⟩), .int .i64 k] w fun e w' => e = .returned (.slice none 0 0) ∧ Cur w' base g a n zs p y f ∧ w.grownBy w' (some g) := by
  go_enter Try.func46, Try.ntmps46
  go_wp2_with fail
  refine (canRead_stop _ _ _ _ _ _ _ _ h.1 hy).mono ?_
  rintro e w1 ⟨rfl, hb1⟩
  go_wp2
  go_ret
  exact ⟨rfl, h.kept hb1, Below.but hb1 _⟩

set_option maxHeartbeats 400000 in
theorem take_arg (base g p f n : Nat) (a : Option Addr) (zs : List Int) (k : Int) (w : World) (h : Cur w base g a n zs p 0 f) (hk : k < 0) :
    Calls Try.prog 46 #[.pointer (some ⟨g, 0, none⟩), .int .i64 k] w fun e w' => e = .returned (.slice none 0 0) ∧ Cur w' base g a n zs p 1 p ∧ w.grownBy w' (some g) := by
  have hd : decide (0 ≤ k) = false := by simp; omega
  go_enter Try.func46, Try.ntmps46
  go_wp2_with fail
  refine (canRead_arg _ _ _ _ _ _ h.1).mono ?_
  rintro e w1 ⟨rfl, hc1, hg1⟩
  go_wp2
  go_ret
  exact ⟨rfl, h.turned hg1 hc1 h.2.2.2.1, hg1⟩

set_option maxHeartbeats 400000 in
theorem take_end (base g p f n : Nat) (a : Option Addr) (zs : List Int) (k : Int) (w : World) (h : Cur w base g a n zs p 0 f) (hk : ((n - p : Nat) : Int) < k) :
    Calls Try.prog 46 #[.pointer (some ⟨g, 0, none⟩), .int .i64 k] w fun e w' => e = .returned (.slice none 0 0) ∧ Cur w' base g a n zs p 3 n ∧ w.grownBy w' (some g) := by
  have hp : p ≤ n := h.2.2.2.1
  have hn : n ≤ 140737488355328 := h.2.2.2.2.1
  have hd : decide (0 ≤ k) = true := by simp; omega
  go_enter Try.func46, Try.ntmps46
  go_wp2_with fail
  refine (canRead_end _ _ _ _ _ _ _ _ h.1 hp (by omega) hk).mono ?_
  rintro e w1 ⟨rfl, hc1, hg1⟩
  go_wp2
  go_ret
  exact ⟨rfl, h.turned hg1 hc1 hp, hg1⟩

set_option maxHeartbeats 400000 in
theorem take_ok (base g p f n k : Nat) (a : Option Addr) (zs : List Int) (w : World) (h : Cur w base g a n zs p 0 f) (hk : p + k ≤ n) :
    Calls Try.prog 46 #[.pointer (some ⟨g, 0, none⟩), .int .i64 k] w fun e w' => ∃ a', e = .returned (.slice a' k k) ∧ Hid (Row w' w.heap.size a' ((zs.drop p).take k)) ∧ Hid (Bytes w' a' ((zs.drop p).take k)) ∧ Cur w' base g a n zs (p + k) 0 f ∧ w.grownBy w' (some g) := by
  have hp : p ≤ n := h.2.2.2.1
  have hn : n ≤ 140737488355328 := h.2.2.2.2.1
  go_enter Try.func46, Try.ntmps46
  go_wp2_with fail
  refine (canRead_ok _ _ _ _ _ _ _ _ h.1 hp (by omega) (by omega)).mono ?_
  rintro e w1 ⟨rfl, hb1⟩
  go_wp2_with fail
  refine (pass_any base g p 0 f n k a zs w1 (h.kept hb1) hk).mono ?_
  rintro e w2 ⟨a2, c2, rfl, hB2, hl2, hn2, hc2, hg2⟩
  go_wp2_with fail
  refine (cutOff_any a2 k c2 _ w2 hl2.out hB2.out hn2.out (by omega)).mono ?_
  rintro e w3 ⟨a3, rfl, hr3, hB3, hb3⟩
  go_wp2
  go_ret
  refine ⟨a3, rfl, ?_, hB3, hc2.kept hb3, ?_⟩
  · show Row _ _ _ _
    rcases hr3.out with h1 | ⟨g3, cur, h1, h2, h3⟩
    · exact .inl h1
    · exact .inr ⟨g3, cur, h1, Nat.le_trans (Nat.le_trans hb1.size hg2.size) h2, h3⟩
  · exact ((Below.but hb1 _).trans hg2).trans (Below.but hb3 _)
end Go.Proofs.Ytfipdldoklkciaa
