/-
  Groups of digits: room for them (nat.room), and what is carried in them (nat.settle).
-/
import Derived.Test.YtjdceigndleadaaGreatDoorRight
namespace Go.Proofs.YtjdceigndleadaaGreatDoor
open Go.RowKit

theorem tmod_neg {n : Int} (h : n.tmod 1000000 < 0) : n % 1000000 = n.tmod 1000000 + 1000000 ∧ n / 1000000 = n.tdiv 1000000 - 1 := by
  have h1 := Int.tmod_add_mul_tdiv n 1000000
  have h2 : -1000000 < n.tmod 1000000 := by
    have := Int.lt_tmod_of_pos n (b := 1000000) (by decide)
    omega
  omega
theorem tmod_pos {n : Int} (h : ¬ n.tmod 1000000 < 0) : n % 1000000 = n.tmod 1000000 ∧ n / 1000000 = n.tdiv 1000000 := by
  have h1 := Int.tmod_add_mul_tdiv n 1000000
  have h2 := Int.tmod_lt_of_pos n (b := 1000000) (by decide)
  omega
theorem set_mid {r l : List Int} {k : Nat} (hr : r.length = k) (hk : k < l.length) (u : Int) : (r ++ l.drop k).set k u = (r ++ [u]) ++ l.drop (k + 1) := by
  rw [List.drop_eq_getElem_cons hk, List.set_append_right _ _ (by omega), hr, Nat.sub_self, List.set_cons_zero, List.append_assoc]
  rfl
theorem getD_mid {r l : List Int} {k : Nat} (hr : r.length = k) : (r ++ l.drop k).getD k 0 = l.getD k 0 := by
  rw [List.getD_eq_getElem?_getD, List.getElem?_append_right (by omega), hr, Nat.sub_self, List.getElem?_drop, Nat.add_zero, List.getD_eq_getElem?_getD]
theorem getD_mem {l : List Int} {k : Nat} (hk : k < l.length) : l.getD k 0 ∈ l := by
  rw [List.getD_eq_getElem?_getD, List.getElem?_eq_getElem hk]
  exact List.getElem_mem hk
theorem settle_step {l r : List Int} {k : Nat} {over : Int} (hk : k < l.length) (h : settleL 0 l = (r ++ (settleL over (l.drop k)).1, (settleL over (l.drop k)).2)) :
    settleL 0 l = ((r ++ [(l.getD k 0 + over) % 1000000]) ++ (settleL ((l.getD k 0 + over) / 1000000) (l.drop (k + 1))).1, (settleL ((l.getD k 0 + over) / 1000000) (l.drop (k + 1))).2) := by
  rw [h, List.drop_eq_getElem_cons hk, settleL, List.getD_eq_getElem?_getD, List.getElem?_eq_getElem hk, List.append_assoc]
  rfl
theorem cell_set {w : World} {g k : Nat} {x : Value} (h : w.cell? ⟨g, k, none⟩ = some x) (u : Value) : (w.setCell ⟨g, k, none⟩ u).cell? ⟨g, k, none⟩ = some u := World.cell?_setCell_same' _ _ _ (by rw [h]; rfl)

set_option maxHeartbeats 1000000 in
theorem settle_any (v : Value) (l : List Int) (base : Nat) (w : World) (h : OwnsI w base v l) (hb : ∀ g ∈ l, -1000000000000000000 ≤ g ∧ g ≤ 1000000000000000000) :
    Calls Tryz.prog 67 #[v] w fun e w' => e = .returned (.tuple #[]) ∧ OwnsI w' base v (settleL 0 l).1 ∧ Below base w w' := by
  obtain ⟨a, n, cap, rfl, hl, -, hnc, hcm, -⟩ := h.form
  have hO : Hid (OwnsI w base (.slice a n cap) l) := h
  have hB : Hid (∀ g ∈ l, -1000000000000000000 ≤ g ∧ g ≤ 1000000000000000000) := hb
  clear h hb
  go_enter Tryz.func67, Tryz.ntmps67
  go_wp2
  go_loopw [2, 7] (fun ov i wr => ∃ (k : Nat) (over : Int) (r : List Int), k ≤ n ∧ i = .int .i64 k ∧ ov = .int .i64 over ∧ -10000000000000 ≤ over ∧ over ≤ 10000000000000 ∧ Hid (r.length = k) ∧ Hid (OwnsI wr base (.slice a n cap) (r ++ l.drop k)) ∧ Hid (settleL 0 l = (r ++ (settleL over (l.drop k)).1, (settleL over (l.drop k)).2)) ∧ Hid (Below base w wr)) (fun _ i _ => n - (intOf i).toNat)
  case atStart => exact ⟨0, 0, [], Nat.zero_le _, rfl, rfl, by decide, by decide, rfl, hO.out, rfl, Below.refl _ _⟩
  case round =>
    obtain ⟨k, over, r, hk, rfl, rfl, ho1, ho2, hr, ho, hs, hbl⟩ := hrel
    by_cases hlt : k < n
    · have hkl : k < l.length := by rw [hl.out]; exact hlt
      obtain ⟨g, n', cap', hv, -, -, -, hbg⟩ := ho.out.row (by rw [List.length_append, List.length_drop]; omega)
      cases hv
      have hX := hB.out _ (getD_mem hkl)
      have hc := ho.out.cell (j := k) (by rw [List.length_append, List.length_drop, hr.out]; omega)
      rw [getD_mid hr.out] at hc
      have hf := ho.out.frozen k
      have hst : Hid _ := settle_step hkl hs.out
      have hset : Hid (∀ u, OwnsI (wr.setCell ⟨g, k, none⟩ (.int .i64 u)) base (.slice (some ⟨g, 0, none⟩) n cap) ((r ++ [u]) ++ l.drop (k + 1))) := fun u => by
        rw [← set_mid hr.out hkl]
        exact ho.out.store k u
      have hset2 : Hid (∀ u u', OwnsI ((wr.setCell ⟨g, k, none⟩ (.int .i64 u)).setCell ⟨g, k, none⟩ (.int .i64 u')) base (.slice (some ⟨g, 0, none⟩) n cap) ((r ++ [u']) ++ l.drop (k + 1))) := fun u u' => by
        have h1 := (ho.out.store k u).store k u'
        rw [List.set_set, set_mid hr.out hkl] at h1
        exact h1
      generalize l.getD k 0 = X at *
      have hw : IntKind.i64.wrap (X + over) = X + over := by rw [IntKind.wrap_i64]; omega
      obtain ⟨m, hm⟩ : ∃ m, X + over = m := ⟨_, rfl⟩
      have hm' : Hid (X + over = m) := hm
      have hmb : -1100000000000000000 ≤ m ∧ m ≤ 1100000000000000000 := by omega
      have hcs := fun u => cell_set hc u
      rw [hm] at hw
      by_cases hneg : m.tmod 1000000 < 0
      · obtain ⟨e1, e2⟩ := tmod_neg hneg
        have d1 : decide (m.tmod 1000000 < 0) = true := by simpa using hneg
        have hov : -10000000000000 ≤ m.tdiv 1000000 - 1 ∧ m.tdiv 1000000 - 1 ≤ 10000000000000 := by omega
        have w1 : IntKind.i64.wrap (m.tmod 1000000 + 1000000) = m.tmod 1000000 + 1000000 := by rw [IntKind.wrap_i64]; omega
        have w2 : IntKind.i64.wrap (m.tdiv 1000000 - 1) = m.tdiv 1000000 - 1 := by rw [IntKind.wrap_i64]; omega
        rw [hm, e1, e2] at hst
        clear e1 e2 hneg hmb
        go_wp2
        go_roundw
        case rel => exact ⟨k + 1, _, r ++ [m.tmod 1000000 + 1000000], by omega, by go_num, rfl, hov.1, hov.2, (by show _ = _; rw [List.length_append, hr.out]; rfl), hset2.out _ _, hst, (hbl.out.setCell (p := ⟨g, k, none⟩) hbg _).setCell (p := ⟨g, k, none⟩) hbg _⟩
        case measure => simp [intOf]; omega
      · obtain ⟨e1, e2⟩ := tmod_pos hneg
        have d1 : decide (m.tmod 1000000 < 0) = false := by simpa using hneg
        have hov : -10000000000000 ≤ m.tdiv 1000000 ∧ m.tdiv 1000000 ≤ 10000000000000 := by omega
        rw [hm, e1, e2] at hst
        clear e1 e2 hneg hmb
        go_wp2
        go_roundw
        case rel => exact ⟨k + 1, _, r ++ [m.tmod 1000000], by omega, by go_num, rfl, hov.1, hov.2, (by show _ = _; rw [List.length_append, hr.out]; rfl), hset.out _, hst, hbl.out.setCell (p := ⟨g, k, none⟩) hbg _⟩
        case measure => simp [intOf]; omega
    · obtain rfl : k = n := by omega
      have hd : l.drop k = [] := List.drop_of_length_le (by rw [hl.out]; exact Nat.le_refl _)
      have hs' := hs.out
      have ho' := ho.out
      rw [hd] at hs' ho'
      have hfin : Hid (OwnsI wr base (.slice a k cap) (settleL 0 l).1) := by
        rw [hs']
        exact ho'
      clear hd hs' ho'
      go_wp2
      go_end0
      exact ⟨rfl, hfin.out, hbl.out⟩

theorem zeros_made (n : Nat) : (madeCells (Value.int .i64 0).cells (n * 1)).toList = (List.replicate n (0 : Int)).map (Value.int .i64) := by
  apply List.ext_getElem
  · simp [size_madeCells]
  · intro i h1 h2
    simp [madeCells, Value.cells, Nat.mod_one]
set_option maxHeartbeats 400000 in
theorem room_any (d : Nat) (hd : d ≤ 100000) (w : World) :
    Calls Tryz.prog 70 #[.int .i64 d] w fun e w' => ∃ v, e = .returned v ∧ OwnsI w' w.heap.size v (List.replicate ((d + 5) / 6) 0) ∧ Below w.heap.size w w' := by
  obtain ⟨i0, hi, hz0, hz1, hz2⟩ := info_parts info3
  have w1 : IntKind.i64.wrap ((d : Int) + 6) = (d : Int) + 6 := by rw [IntKind.wrap_i64]; omega
  have w2 : IntKind.i64.wrap ((d : Int) + 6 - 1) = ((d + 5 : Nat) : Int) := by rw [IntKind.wrap_i64]; omega
  have w3 : Int.tdiv ((d + 5 : Nat) : Int) 6 = (((d + 5) / 6 : Nat) : Int) := by rfl
  have hle : (d + 5) / 6 ≤ 100000 := by omega
  generalize d + 5 = D at *
  generalize D / 6 = n at *
  go_enter Tryz.func70, Tryz.ntmps70
  go_wp2_with (at_make; refine wpList_make_full _ rfl _ _ 78 rfl w.heap.size 3 i0 (.int .i64 0) 1 Tryz.underlying78 hi hz0 hz1 .i64 .i64 _ _ n rfl rfl (by first | rfl | simp) (by first | rfl | simp) (by rw [hz2]; omega) (by unfold maxLen; omega) (Nat.le_refl _) ?_; intro w2 ho2 hg2)
  go_ret
  refine ⟨_, rfl, ?_, (Below.refl _ _).grown hg2 (Nat.le_refl _) (by simp)⟩
  rw [zeros_made] at ho2
  unfold OwnsI
  rw [List.length_replicate]
  exact ho2
end Go.Proofs.YtjdceigndleadaaGreatDoor
