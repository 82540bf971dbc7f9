/-
  tree.each: it wants more.
-/
import Derived.Test.YtkealjaealeojabQGj
namespace Go.Proofs.Ytkealjaealeojab
open Go.RowKit
set_option linter.unusedVariables false

set_option maxHeartbeats 4000000 in
set_option maxRecDepth 100000 in
theorem each_lt {g : Nat} {cap : Array Value} {σ : Type} {f : Tr → Nat → σ → Bool × σ} {I : σ → World → Prop} {J : σ → Nat → Tr → Prop} {C : Nat → Prop} {B : Nat} (T : Takes g cap σ f I J C B) {D : Nat} (ih : EachAt g cap σ f I J C B D)
    (t : Tr) (d : Nat) (b : Nb) (s : σ) (w : World) (hN : NdS (· < B) (D + 1) w b t) (hI : I s w) (hJ : J s d t) (h1 : (f t d s).1 = true) (hM : b.lk < b.li) (hMz : (b.lk : Int) < (b.li : Int)) :
    Calls Try.prog 20 #[.agg b.arr, .int .i64 d, .func (.func g) #[] cap] w fun e w' => e = .returned (.bool (Tr.go f (t.seq d) s).1) ∧ I (Tr.go f (t.seq d) s).2 w' ∧ Kp C w w' := by
  obtain ⟨hBw, hC⟩ := T.room s w hI
  have hbox := nbox_new w b
  have hal := alloc_below w (.cells b.arr 26)
  have hNC : ¬ C w.heap.size := fun h => by have := (hC _ h).2; omega
  have hN0 : NdS (· < B) (D + 1) (w.alloc (.cells b.arr 26)) b t := hN.below (hal.mono hBw) fun k hk => hk
  have k0 := T.call s (w.alloc (.cells b.arr 26)) _ t d (D + 1) (T.keeps _ _ _ hI hal) hJ hN0
  have hL0 := left_start f (t := t) (d := d) s
  have e0 := T.enter
  have hj1 := fun u hu => T.first s d t u hJ hu
  obtain ⟨c0, c1, c2, c3, c4, c5, c6, c7, c8⟩ := hbox.fields
  rw [h1, if_pos rfl] at hL0
  rw [h1] at k0
  have hj1' : Hid (∀ u, (u ∈ t.keys ∨ u ∈ t.kids) → J (f t d s).2 (d + 1) u ∧ d < 4611686018427387904) := fun u hu => hj1 u hu h1
  rw [hL0]
  generalize (f t d s).2 = s1 at *
  have hAl : Hid (Kp C w (w.alloc (.cells b.arr 26))) := Kp.of hal
  have hCB : Hid (∀ k, C k → B ≤ k) := fun k hk => (hC k hk).1
  have hin := hN.2.2.2.1
  have hrk := hN.2.2.2.2.1
  have hri := hN.2.2.2.2.2
  clear hN
  have hlk : Hid (t.keys.length = b.lk) := hrk.1
  have hli : Hid (t.kids.length = b.li) := hri.1
  have hRk : Hid (RowN (NdS (· < B) D w) w b.ak b.lk b.ck t.keys) := hrk
  have hRi : Hid (RowN (NdS (· < B) D w) w b.ai b.li b.ci t.kids) := hri
  have hIn : Hid (In (· < B) b.ak b.lk ∧ In (· < B) b.ai b.li) := ⟨hin.2.1, hin.2.2⟩
  have mk := hrk.2.1.1
  have mk' := hrk.2.1.2.1
  have mi := hri.2.1.1
  have mi' := hri.2.1.2.1
  have hBw' : Hid (B ≤ w.heap.size) := hBw
  have hNC' : Hid (¬ C w.heap.size) := hNC
  unfold maxLen at mk' mi'
  clear hN0 hJ hI hC hNC hal h1 hL0 hj1 hin hrk hri hBw
  go_enter Try.func20, Try.ntmps20
  go_wp2_with (go_at_fn g; refine k0.mono ?_; rintro e w1 ⟨rfl, hI1, hK1⟩; have hbx1 := hbox.same (hK1.block _ hbox.lt hNC'.out); obtain ⟨d0, d1, d2, d3, d4, d5, d6, d7, d8⟩ := hbx1.fields)
  go_loopw [7, 20] (fun _ s20 wr => ∃ (i : Nat) (si : σ), i ≤ b.li ∧ s20 = .int .i64 i ∧ Hid (I si wr) ∧ Hid (Kp C (w.alloc (.cells b.arr 26)) wr) ∧ Hid (Left f t d 0 s1 = Left f t d i si) ∧ Hid (∀ u, (u ∈ t.keys ∨ u ∈ t.kids) → J si (d + 1) u)) (fun _ i _ => b.li - (intOf i).toNat)
  case atStart => exact ⟨0, s1, Nat.zero_le _, rfl, hI1, hK1, rfl, fun u hu => (hj1'.out u hu).1⟩
  case round =>
    obtain ⟨i, si, him, rfl, hIi, hKi, hLi, hJi⟩ := hrel
    clear k0 c0 c1 c2 c3 c4 c5 c6 c7 c8 d0 d1 d2 d3 d4 d5 d6 d7 d8 hbx1 hI1 hK1
    have hbx := hbox.same (hKi.out.block _ hbox.lt hNC'.out)
    have hKw : Hid (Kp C w wr) := hAl.out.trans hKi.out
    have hBel : Below B w wr := hKw.out.below hBw'.out hCB.out
    obtain ⟨c0, c1, c2, c3, c4, c5, c6, c7, c8⟩ := hbx.fields
    by_cases hlt : i < b.li
    · have hz : (i : Int) < (b.li : Int) := by omega
      by_cases hk : i < b.lk
      · have hk' : i < t.keys.length := by rw [hlk.out]; exact hk
        have hkz : (i : Int) < (b.lk : Int) := by omega
        obtain ⟨bk, ok, nk, hak, hck, hNk⟩ := row_at hRk.out hIn.out.1 hBel hk'
        obtain ⟨f0, f1, f2, f3, f4, f5, f6, f7, f8⟩ := elem_fields hck
        have hd : d < 4611686018427387904 := (hj1'.out _ (.inl (List.getElem_mem hk'))).2
        have wd : IntKind.i64.wrap ((d : Int) + 1) = ((d + 1 : Nat) : Int) := by rw [IntKind.wrap_i64]; omega
        have wi : IntKind.i64.wrap ((i : Int) + 1) = ((i + 1 : Nat) : Int) := by rw [IntKind.wrap_i64]; omega
        have kk := ih t.keys[i] (d + 1) nk si wr hNk hIi.out (hJi.out _ (.inl (List.getElem_mem hk')))
        have hJk : Hid ((Tr.go f ((t.keys[i]).seq (d + 1)) si).1 = true → ∀ u, (u ∈ t.keys ∨ u ∈ t.kids) → J (Tr.go f ((t.keys[i]).seq (d + 1)) si).2 (d + 1) u) := fun h u hu => T.goes _ _ (hJi.out u hu) h
        cases hr : (Tr.go f ((t.keys[i]).seq (d + 1)) si).1 with
        | false =>
          have hfin : Hid (Left f t d 0 s1 = Tr.go f ((t.keys[i]).seq (d + 1)) si) := by
            show _ = _
            by_cases hi : i < t.kids.length
            · rw [hLi.out, left_both f hk' hi, if_neg (by rw [hr]; simp)]
            · rw [hLi.out, left_key f hk' (by omega), if_neg (by rw [hr]; simp)]
          have hr' : Hid ((Tr.go f ((t.keys[i]).seq (d + 1)) si).1 = false) := hr
          rw [hr] at kk
          clear hr hNk hck hBel hIi hJi hLi hJk
          go_wp2_with (go_at_call 20; refine kk.mono ?_; rintro e w2 ⟨rfl, hI2, hK2⟩)
          go_ret
          exact ⟨by rw [hfin.out, hr'.out]; rfl, by rw [hfin.out]; exact hI2, hKw.out.trans hK2⟩
        | true =>
          have hJk : Hid (∀ u, (u ∈ t.keys ∨ u ∈ t.kids) → J (Tr.go f ((t.keys[i]).seq (d + 1)) si).2 (d + 1) u) := hJk.out hr
          rw [hr] at kk
          by_cases hi : i < b.li
          · have hi' : i < t.kids.length := by rw [hli.out]; exact hi
            have hiz : (i : Int) < (b.li : Int) := by omega
            have hst : Hid (Left f t d 0 s1 = if (Tr.go f ((t.kids[i]).seq (d + 1)) (Tr.go f ((t.keys[i]).seq (d + 1)) si).2).1 = true then Left f t d (i + 1) (Tr.go f ((t.kids[i]).seq (d + 1)) (Tr.go f ((t.keys[i]).seq (d + 1)) si).2).2 else Tr.go f ((t.kids[i]).seq (d + 1)) (Tr.go f ((t.keys[i]).seq (d + 1)) si).2) := by
              show _ = _
              rw [hLi.out, left_both f hk' hi', if_pos hr]
            have k2 : ∀ (w2 : World) (ni : Nb), NdS (· < B) D w2 ni t.kids[i] → I (Tr.go f ((t.keys[i]).seq (d + 1)) si).2 w2 → _ := fun w2 ni hn hI => ih t.kids[i] (d + 1) ni (Tr.go f ((t.keys[i]).seq (d + 1)) si).2 w2 hn hI (hJk.out _ (.inr (List.getElem_mem hi')))
            have hJ2 : Hid ((Tr.go f ((t.kids[i]).seq (d + 1)) (Tr.go f ((t.keys[i]).seq (d + 1)) si).2).1 = true → ∀ u, (u ∈ t.keys ∨ u ∈ t.kids) → J (Tr.go f ((t.kids[i]).seq (d + 1)) (Tr.go f ((t.keys[i]).seq (d + 1)) si).2).2 (d + 1) u) := fun h u hu => T.goes _ _ (hJk.out u hu) h
            generalize Tr.go f ((t.keys[i]).seq (d + 1)) si = R1 at *
            cases hr2 : (Tr.go f ((t.kids[i]).seq (d + 1)) R1.2).1 with
            | false =>
              rw [hr2] at k2
              have hst : Hid (Left f t d 0 s1 = Tr.go f ((t.kids[i]).seq (d + 1)) R1.2) := by
                show _ = _
                rw [hst.out, if_neg (by rw [hr2]; simp)]
              have hr2' : Hid ((Tr.go f ((t.kids[i]).seq (d + 1)) R1.2).1 = false) := hr2
              clear hr hr2 hNk hck hBel hIi hJi hLi hJk ih
              go_wp2_with (first
                | (go_at_call 20; refine kk.mono ?_; rintro e w2 ⟨rfl, hI2, hK2⟩; clear kk; have hbx2 := hbx.same (hK2.block _ hbx.lt hNC'.out); obtain ⟨g0, g1, g2, g3, g4, g5, g6, g7, g8⟩ := hbx2.fields; obtain ⟨bi, oi, ni, hai, hci, hNi⟩ := row_at hRi.out hIn.out.2 ((hKw.out.trans hK2).below hBw'.out hCB.out) hi'; obtain ⟨p0, p1, p2, p3, p4, p5, p6, p7, p8⟩ := elem_fields hci; have k3 := k2 w2 ni hNi hI2; clear k2 hci hNi)
                | (go_at_call 20; refine k3.mono ?_; rintro e w3 ⟨rfl, hI3, hK3⟩))
              go_ret
              exact ⟨by rw [hst.out, hr2'.out]; rfl, by rw [hst.out]; exact hI3, (hKw.out.trans hK2).trans hK3⟩
            | true =>
              rw [hr2] at k2
              have hst : Hid (Left f t d 0 s1 = Left f t d (i + 1) (Tr.go f ((t.kids[i]).seq (d + 1)) R1.2).2) := by
                show _ = _
                rw [hst.out, if_pos hr2]
              have hJ2 : Hid (∀ u, (u ∈ t.keys ∨ u ∈ t.kids) → J (Tr.go f ((t.kids[i]).seq (d + 1)) R1.2).2 (d + 1) u) := hJ2.out hr2
              clear hr hr2 hNk hck hBel hIi hJi hLi hJk ih
              go_wp2_with (first
                | (go_at_call 20; refine kk.mono ?_; rintro e w2 ⟨rfl, hI2, hK2⟩; clear kk; have hbx2 := hbx.same (hK2.block _ hbx.lt hNC'.out); obtain ⟨g0, g1, g2, g3, g4, g5, g6, g7, g8⟩ := hbx2.fields; obtain ⟨bi, oi, ni, hai, hci, hNi⟩ := row_at hRi.out hIn.out.2 ((hKw.out.trans hK2).below hBw'.out hCB.out) hi'; obtain ⟨p0, p1, p2, p3, p4, p5, p6, p7, p8⟩ := elem_fields hci; have k3 := k2 w2 ni hNi hI2; clear k2 hci hNi)
                | (go_at_call 20; refine k3.mono ?_; rintro e w3 ⟨rfl, hI3, hK3⟩))
              simp only [hak, hai]
              go_roundw
              case rel => exact ⟨i + 1, _, by omega, by go_num, hI3, (hKi.out.trans hK2).trans hK3, hst, hJ2⟩
              case measure => simp [intOf]; omega
          · exfalso; omega
      · have hi : i < b.li := by omega
        have hk' : t.keys.length ≤ i := by rw [hlk.out]; omega
        have hi' : i < t.kids.length := by rw [hli.out]; exact hi
        have hkz : ¬ (i : Int) < (b.lk : Int) := by omega
        have hiz : (i : Int) < (b.li : Int) := by omega
        obtain ⟨bk, ok, nk, hak, hck, hNk⟩ := row_at hRi.out hIn.out.2 hBel hi'
        obtain ⟨f0, f1, f2, f3, f4, f5, f6, f7, f8⟩ := elem_fields hck
        have hd : d < 4611686018427387904 := (hj1'.out _ (.inr (List.getElem_mem hi'))).2
        have wd : IntKind.i64.wrap ((d : Int) + 1) = ((d + 1 : Nat) : Int) := by rw [IntKind.wrap_i64]; omega
        have wi : IntKind.i64.wrap ((i : Int) + 1) = ((i + 1 : Nat) : Int) := by rw [IntKind.wrap_i64]; omega
        have kk := ih t.kids[i] (d + 1) nk si wr hNk hIi.out (hJi.out _ (.inr (List.getElem_mem hi')))
        have hJk : Hid ((Tr.go f ((t.kids[i]).seq (d + 1)) si).1 = true → ∀ u, (u ∈ t.keys ∨ u ∈ t.kids) → J (Tr.go f ((t.kids[i]).seq (d + 1)) si).2 (d + 1) u) := fun h u hu => T.goes _ _ (hJi.out u hu) h
        cases hr : (Tr.go f ((t.kids[i]).seq (d + 1)) si).1 with
        | false =>
          have hfin : Hid (Left f t d 0 s1 = Tr.go f ((t.kids[i]).seq (d + 1)) si) := by
            show _ = _
            rw [hLi.out, left_kid f hk' hi', if_neg (by rw [hr]; simp)]
          have hr' : Hid ((Tr.go f ((t.kids[i]).seq (d + 1)) si).1 = false) := hr
          rw [hr] at kk
          clear hr hNk hck hBel hIi hJi hLi hJk ih
          go_wp2_with (go_at_call 20; refine kk.mono ?_; rintro e w2 ⟨rfl, hI2, hK2⟩)
          go_ret
          exact ⟨by rw [hfin.out, hr'.out]; rfl, by rw [hfin.out]; exact hI2, hKw.out.trans hK2⟩
        | true =>
          have hst : Hid (Left f t d 0 s1 = Left f t d (i + 1) (Tr.go f ((t.kids[i]).seq (d + 1)) si).2) := by
            show _ = _
            rw [hLi.out, left_kid f hk' hi', if_pos hr]
          have hJk : Hid (∀ u, (u ∈ t.keys ∨ u ∈ t.kids) → J (Tr.go f ((t.kids[i]).seq (d + 1)) si).2 (d + 1) u) := hJk.out hr
          rw [hr] at kk
          clear hr hNk hck hBel hIi hJi hLi ih
          go_wp2_with (go_at_call 20; refine kk.mono ?_; rintro e w2 ⟨rfl, hI2, hK2⟩)
          simp only [hak]
          go_roundw
          case rel => exact ⟨i + 1, _, by omega, by go_num, hI2, hKi.out.trans hK2, hst, hJk⟩
          case measure => simp [intOf]; omega
    · have hz : ¬ (i : Int) < (b.li : Int) := by omega
      have hst : Hid (Left f t d 0 s1 = (true, si)) := by
        show _ = _
        rw [hLi.out, left_end f (by rw [hlk.out]; omega) (by rw [hli.out]; omega)]
      clear hBel hJi hLi ih
      go_wp2
      go_ret
      exact ⟨by rw [hst.out]; rfl, by rw [hst.out]; exact hIi.out, hKw.out⟩
end Go.Proofs.Ytkealjaealeojab
