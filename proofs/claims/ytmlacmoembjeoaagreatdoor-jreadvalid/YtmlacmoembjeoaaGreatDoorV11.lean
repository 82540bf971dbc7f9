/-
  A number is read: dec.Parse.
  The number that begins at a place: jlex.numberAt.
  The number that begins at a place: jlex.numberAt, the walk.
  The word that begins at a place: jlex.wordOf, jlex.wordAt.
-/
import Derived.Test.YtmlacmoembjeoaaGreatDoorV10
import Derived.Deep.RegionHeld3
namespace Go.Proofs.YtmlacmoembjeoaaGreatDoor
open Go.RowKit

/-- A fault as a block's whole. -/
def FRow (w : World) (g : Nat) (y f : Int) : Prop := w.heap[g]? = some (.cells #[.int .i64 y, .int .i64 f] 29 (0, 0))
theorem FRow.lt {w : World} {g : Nat} {y f : Int} (h : FRow w g y f) : g < w.heap.size := (Array.getElem?_eq_some_iff.1 h).1
theorem FRow.c0 {w : World} {g : Nat} {y f : Int} (h : FRow w g y f) : w.cell? ⟨g, 0, none⟩ = some (.int .i64 y) := by rw [cell_row h]; rfl
theorem FRow.c1 {w : World} {g : Nat} {y f : Int} (h : FRow w g y f) : w.cell? ⟨g, 1, none⟩ = some (.int .i64 f) := by rw [cell_row h]; rfl
theorem FRow.fz {w : World} {g : Nat} {y f : Int} (h : FRow w g y f) (j : Nat) : w.frozen? ⟨g, j, none⟩ = false := by
  unfold FRow at h
  simp [World.frozen?, h]
theorem FRow.keep {w w' : World} {B g : Nat} {y f : Int} (h : FRow w g y f) (hb : Below B w w') (hg : g < B) : FRow w' g y f := by
  unfold FRow
  rw [hb.block g hg]
  exact h
theorem NRow.keep {w w' : World} {B g : Nat} {n : Bool} {s : ByteArray} {x : Int} (h : NRow w g n s x) (hb : Below B w w') (hg : g < B) : NRow w' g n s x := by
  unfold NRow
  rw [hb.block g hg]
  exact h
/-- What Parse has in memory: its two results, what was read. -/
def Mem (w wr : World) (p : Pd) : Prop := NRow wr w.heap.size false noS 0 ∧ FRow wr (w.heap.size + 1) 0 0 ∧ Prt wr (w.heap.size + 2) p ∧ Below w.heap.size w wr
theorem Mem.on {w wr w' : World} {p p' : Pd} (h : Mem w wr p) (hp : Prt w' (w.heap.size + 2) p') (hb : Below (w.heap.size + 2) wr w') : Mem w w' p' :=
  ⟨h.1.keep hb (by omega), h.2.1.keep hb (by omega), hp, h.2.2.2.trans (hb.mono (by omega))⟩
theorem mem0 (w : World) : Mem w (((w.alloc (.cells #[.bool false, .string ⟨#[]⟩, .int .i64 0] 84)).alloc (.cells #[.int .i64 0, .int .i64 0] 29)).alloc (.cells #[.bool false, .slice none 0 0, .int .i64 0, .bool false, .int .i64 0] 129)) p0 := by
  have a1 := alloc_below w (.cells #[.bool false, .string ⟨#[]⟩, .int .i64 0] 84)
  have h1 := row_new w false ⟨#[]⟩ 0
  generalize hw1 : w.alloc (.cells #[.bool false, .string ⟨#[]⟩, .int .i64 0] 84) = w1 at *
  have s1 : w1.heap.size = w.heap.size + 1 := by rw [← hw1]; simp
  have a2 := alloc_below w1 (.cells #[.int .i64 0, .int .i64 0] 29)
  have h2 : FRow (w1.alloc (.cells #[.int .i64 0, .int .i64 0] 29)) (w.heap.size + 1) 0 0 := by rw [← s1]; exact heap_alloc_new w1 _
  generalize hw2 : w1.alloc (.cells #[.int .i64 0, .int .i64 0] 29) = w2 at *
  have s2 : w2.heap.size = w.heap.size + 2 := by rw [← hw2]; simp; omega
  have a3 := alloc_below w2 (.cells #[.bool false, .slice none 0 0, .int .i64 0, .bool false, .int .i64 0] 129)
  have h3 : PAt (w2.alloc (.cells #[.bool false, .slice none 0 0, .int .i64 0, .bool false, .int .i64 0] 129)) (w.heap.size + 2) false (.slice none 0 0) 0 false 0 := by rw [← s2]; exact heap_alloc_new w2 _
  exact ⟨(h1.keep a2 (by omega)).keep a3 (by omega), h2.keep a3 (by omega), ⟨_, h3, ownsB_nil _ _⟩, a1.trans ((a2.mono (by omega)).trans (a3.mono (by omega)))⟩
theorem NRow.set {w : World} {g : Nat} {n : Bool} {s : ByteArray} {x : Int} (h : NRow w g n s x) (n' : Bool) (s' : ByteArray) (x' : Int) : NRow (((w.setCell ⟨g, 0, none⟩ (.bool n')).setCell ⟨g, 1, none⟩ (.string s')).setCell ⟨g, 2, none⟩ (.int .i64 x')) g n' s' x' := by
  unfold NRow at *
  rw [heap_setCell_same _ g 2 _ 84 _ (heap_setCell_same _ g 1 _ 84 _ (heap_setCell_same _ g 0 _ 84 _ h))]
  rfl
/-- What Parse has in memory at its end. -/
def Fin3 (w wz : World) (h : Nat) (mb : Bool) (ms : ByteArray) (mx : Int) : Prop := NRow wz h mb ms mx ∧ NRow wz w.heap.size false noS 0 ∧ FRow wz (w.heap.size + 1) 0 0 ∧ Below w.heap.size w wz ∧ w.heap.size + 1 < h
theorem fin3 {w wr wz : World} {h : Nat} {mb : Bool} {ms : ByteArray} {mx : Int} (hN : NRow wr w.heap.size false noS 0) (hF : FRow wr (w.heap.size + 1) 0 0) (hB : Below w.heap.size w wr) (hb : Below wr.heap.size wr wz) (hr : NRow wz h mb ms mx) (hh : wr.heap.size ≤ h) : Fin3 w wz h mb ms mx :=
  ⟨hr, hN.keep hb hN.lt, hF.keep hb hF.lt, hB.trans (hb.mono hB.size), Nat.lt_of_lt_of_le hF.lt hh⟩
theorem done_wrong (n k : Nat) (p : Pd) : doneA n (some k, 9, p) = (noN, 5, ((k : Nat) : Int)) := rfl
theorem done_early (n q : Nat) (p : Pd) (h : endS q = false) : doneA n (none, q, p) = (noN, 3, ((n : Nat) : Int)) := by
  show (if endS q = true then _ else _) = _
  rw [h]; rfl
theorem done_made (n q : Nat) (p : Pd) (h : endS q = true) : doneA n (none, q, p) = ((makeA p.1 (strOfNums p.2.1) (expS p)).1, (makeA p.1 (strOfNums p.2.1) (expS p)).2, 0) := by
  show (if endS q = true then _ else _) = _
  rw [if_pos h]
theorem getD_mem {l : List Int} {k : Nat} (h : k < l.length) : l.getD k 0 ∈ l := by
  rw [List.getD_eq_getElem?_getD, List.getElem?_eq_getElem h]
  exact List.getElem_mem h
set_option maxRecDepth 100000 in
set_option maxHeartbeats 2000000 in
theorem parse_any (s : ByteArray) (w : World) : Calls Tryz.prog 84 #[.string s] w fun e w' => e = .returned (.tuple #[.agg #[.bool (parseA s).1.1, .string (parseA s).1.2.1, .int .i64 (parseA s).1.2.2], .agg #[.int .i64 (parseA s).2.1, .int .i64 (parseA s).2.2]]) ∧ Below w.heap.size w w' := by
  by_cases h1 : 4096 < s.size
  · have hR : parseA s = (noN, 11, 0) := by unfold parseA; rw [if_pos h1]
    rw [hR]
    have d1 : decide (4096 < ((s.size : Nat) : Int)) = true := by simp; omega
    clear h1 hR
    unfold noN noS
    go_enter Tryz.func84, Tryz.ntmps84
    go_wp2
    refine bodyPost_ret (v := .tuple #[.agg #[.bool false, .string ⟨#[]⟩, .int .i64 0], .agg #[.int .i64 11, .int .i64 0]]) (by simp [results, Tryz.results84, go_sem]) rfl ⟨rfl, ?_⟩
    exact (alloc_below _ _).alloc (by simp) _
  have hR : Hid (doneA s.size (runS (bs s) 0 0 p0) = parseA s) := by show _ = _; unfold parseA; rw [if_neg h1]
  have d1 : decide (4096 < ((s.size : Nat) : Int)) = false := by simp; omega
  have hsz : s.size ≤ 4096 := by omega
  generalize parseA s = P at *
  generalize hrun : runS (bs s) 0 0 p0 = R at *
  have kA := after_any
  have hM := mem0 w
  clear h1
  go_enter Tryz.func84, Tryz.ntmps84
  go_wp2
  go_loopw [16, 5] (fun v u wr => ∃ (k q : Nat) (p : Pd), k ≤ s.size ∧ q ≤ 8 ∧ v = .int .i64 k ∧ u = .int .i64 q ∧ Hid (runS ((bs s).drop k) k q p = R) ∧ Hid (InS p k) ∧ Hid (Mem w wr p)) (fun v _ _ => s.size - (intOf v).toNat)
  case atStart => exact ⟨0, 0, p0, Nat.zero_le _, by omega, rfl, rfl, hrun, in0, hM⟩
  case round =>
    clear hM hrun
    obtain ⟨k, q, p, hk, hq, rfl, rfl, hrun, hin, hmem⟩ := hrel
    by_cases hlt : k < s.size
    · have bk := bs_at s hlt
      obtain ⟨r1, r2⟩ := run_step (by rw [bs_len]; exact hlt) hrun.out
      have k1 := kA q hq ((bs s).getD k 0) wr
      have hq9 := after_le q ((bs s).getD k 0)
      have ht := in_take (q := q) (c := (bs s).getD k 0) hin.out
      have hdg := take_dig (q := q) (c := (bs s).getD k 0)
      have hb255 := bs_bytes s _ (getD_mem (l := bs s) (k := k) (by rw [bs_len]; exact hlt))
      rw [bk] at r1 r2 k1 hq9 ht hdg hb255
      clear bk kA hrun
      obtain ⟨Q, hQ⟩ : ∃ Q, afterS q (((s[k]'hlt).toNat : Nat) : Int) = Q := ⟨_, rfl⟩
      rw [hQ] at r1 r2 k1 hq9 ht hdg
      clear hQ
      by_cases h9 : Q = 9
      · subst h9
        obtain rfl := r1 rfl
        have hP := hR.out
        rw [done_wrong] at hP
        subst hP
        obtain ⟨m1, m2, m3, m4⟩ := hmem.out
        obtain ⟨c0, c1, c2⟩ := m1.at
        have f0 := m1.fz 0
        have f1 := m1.fz 1
        have f2 := m1.fz 2
        have e0 := m2.c0
        have e1 := m2.c1
        have g0 := m2.fz 0
        have g1 := m2.fz 1
        have hB : Hid (Below w.heap.size w wr) := m4
        clear r1 r2 hq9 ht hdg hb255 hR m1 m2 m3 m4 hmem hin
        unfold noN noS at *
        go_wp2_with (go_at_call 106; refine k1.mono ?_; rintro e w1 ⟨rfl, hw⟩; obtain rfl : wr = w1 := hw.symm)
        refine bodyPost_ret (v := .tuple #[.agg #[.bool false, .string ⟨#[]⟩, .int .i64 0], .agg #[.int .i64 5, .int .i64 ((k : Nat) : Int)]]) (by simp [results, Tryz.results84, go_sem, *]) rfl ⟨rfl, ?_⟩
        refine Below.setCell (Below.setCell (Below.setCell (Below.setCell (Below.setCell hB.out ?_ _) ?_ _) ?_ _) ?_ _) ?_ _ <;> simp
      · have hrun' : Hid _ := r2 h9
        have hin' : Hid _ := ht
        have d9 : (((Q : Nat) : Int) == 9) = false := by simp; omega
        obtain ⟨i1, i2, i3, i4⟩ := hin.out
        have k2 := take_some (w.heap.size + 2) p Q (((s[k]'hlt).toNat : Nat) : Int) wr hmem.out.2.2.1 ⟨by omega, by omega, i3⟩ hb255 (fun h => (hdg (by omega)).1) (by omega)
        have hk1 : k + 1 ≤ s.size := by omega
        have hQ8 : Q ≤ 8 := by omega
        clear r1 r2 hq9 ht hdg hb255 hR hin i1 i2 i3 i4 h9
        generalize hT : takeS p Q (((s[k]'hlt).toNat : Nat) : Int) = p' at *
        clear hT
        go_wp2_with (first
          | (go_at_call 106; refine k1.mono ?_; rintro e w1 ⟨rfl, hw⟩; obtain rfl : wr = w1 := hw.symm)
          | (go_at_call 107; refine k2.mono ?_; rintro e w2 ⟨⟨u, rfl⟩, hp2, hb2⟩))
        go_roundw
        case rel => exact ⟨k + 1, Q, p', by omega, by omega, by go_num, rfl, hrun', hin', hmem.out.on hp2 hb2⟩
        case measure => simp [intOf]; omega
    · obtain rfl : k = s.size := by omega
      have hr := hrun.out
      rw [List.drop_of_length_le (by rw [bs_len]; exact Nat.le_refl _)] at hr
      have hr' : (none, q, p) = R := hr
      subst hr'
      clear hr hrun kA hlt
      have kQ := mayend_any q hq
      obtain ⟨m1, m2, ⟨v, m3, m5⟩, m4⟩ := hmem.out
      obtain ⟨i1, i2, i3, i4⟩ := hin.out
      cases hE : endS q with
      | false =>
        rw [hE] at kQ
        have hP := hR.out
        rw [done_early _ _ _ hE] at hP
        subst hP
        obtain ⟨c0, c1, c2⟩ := m1.at
        have f0 := m1.fz 0
        have f1 := m1.fz 1
        have f2 := m1.fz 2
        have e0 := m2.c0
        have e1 := m2.c1
        have g0 := m2.fz 0
        have g1 := m2.fz 1
        have hB : Hid (Below w.heap.size w wr) := m4
        clear m1 m2 m3 m4 m5 hmem hin hR i1 i2 i3 i4
        unfold noN noS at *
        go_wp2_with (go_at_call 108; refine (kQ _).mono ?_; rintro e w1 ⟨rfl, hw⟩; obtain rfl : wr = w1 := hw.symm)
        refine bodyPost_ret (v := .tuple #[.agg #[.bool false, .string ⟨#[]⟩, .int .i64 0], .agg #[.int .i64 3, .int .i64 ((s.size : Nat) : Int)]]) (by simp [results, Tryz.results84, go_sem, *]) rfl ⟨rfl, ?_⟩
        refine Below.setCell (Below.setCell (Below.setCell (Below.setCell (Below.setCell hB.out ?_ _) ?_ _) ?_ _) ?_ _) ?_ _ <;> simp
      | true =>
        rw [hE] at kQ
        have hP0 := hR.out
        rw [done_made _ _ _ hE] at hP0
        obtain ⟨n, ds, kk, l, m⟩ := p
        dsimp only at m3 m5 i1 i2 i3 i4 hP0
        have kM := make_any n (strOfNums ds) (expS (n, ds, kk, l, m))
        have kE := fun wx (h : PAt wx (w.heap.size + 2) n v kk l m) => exp_any (w.heap.size + 2) n v kk l m ds wx h (by omega) i3
        generalize makeA n (strOfNums ds) (expS (n, ds, kk, l, m)) = MM at *
        generalize expS (n, ds, kk, l, m) = E at *
        obtain ⟨⟨mb, ms, mx⟩, me⟩ := MM
        dsimp only at kM hP0
        have hPP : Hid (((mb, ms, mx), me, 0) = P) := hP0
        clear hP0
        have hP : Hid (PAt wr (w.heap.size + 2) n v kk l m) := m3
        have hO : Hid (OwnsB wr (w.heap.size + 3) v ds) := m5
        have hN : Hid (NRow wr w.heap.size false noS 0) := m1
        have hF : Hid (FRow wr (w.heap.size + 1) 0 0) := m2
        have hB : Hid (Below w.heap.size w wr) := m4
        have c0 := m3.c0
        have c1 := m3.c1
        obtain ⟨a, nn, cc, rfl, hl, -, -, -, hby⟩ := m5.form
        have hcv := conv_str hby.out nn cc hl.out
        have hS := fun (wx : World) (h : Below wr.heap.size wr wx) => (⟨by rw [h.cell (p := ⟨w.heap.size + 2, 0, none⟩) hP.out.lt]; exact c0, by rw [h.cell (p := ⟨w.heap.size + 2, 1, none⟩) hP.out.lt]; exact c1, conv_str (hby.out.kept h) nn cc hl.out⟩ : wx.cell? ⟨w.heap.size + 2, 0, none⟩ = some (.bool n) ∧ wx.cell? ⟨w.heap.size + 2, 1, none⟩ = some (.slice a nn cc) ∧ (convert 22 9 (.slice a nn cc)).run Tryz.prog wx = .ok (.string (strOfNums ds)) wx)
        clear m1 m2 m3 m4 m5 hmem hin hR i1 i2 i3 i4 hq hsz hk
        generalize hSt : strOfNums ds = St at *
        clear hSt
        have hS' : Hid _ := hS
        clear hS
        go_wp2_with (go_at_call 108; refine (kQ _).mono ?_; rintro e w1 ⟨rfl, hw⟩; obtain rfl : wr = w1 := hw.symm)
        go_region_held3 (fun wx => wx.cell? ⟨w.heap.size + 2, 0, none⟩ = some (.bool n) ∧ wx.cell? ⟨w.heap.size + 2, 1, none⟩ = some (.slice a nn cc) ∧ (convert 22 9 (.slice a nn cc)).run Tryz.prog wx = .ok (.string St) wx) (first | exact ⟨c0, c1, hcv⟩ | exact hS'.out _ (Below.refl wr.heap.size wr).drew | exact hS'.out _ b1 | exact hS'.out _ b2 | exact hS'.out _ (b2.alloc b2.size _) | exact hS'.out _ (Below.setCell (Below.setCell (Below.setCell b2 b1.size _) b1.size _) b1.size _) | exact hS'.out _ (Below.setCell (Below.setCell (Below.setCell b2 (Nat.le_refl wr.heap.size) _) (Nat.le_refl wr.heap.size) _) (Nat.le_refl wr.heap.size) _) | exact hS'.out _ (b1.alloc b1.size _) | exact hS'.out _ ((Below.refl wr.heap.size wr).drew.alloc (Nat.le_refl _) _)) (first
          | (go_at_call 110; refine (kE _ (by exact hP.out)).mono ?_; rintro e w3 ⟨rfl, b0⟩; have b1 : Below wr.heap.size wr w3 := ((Below.refl wr.heap.size wr).drew).trans b0)
          | (go_at_call 110; refine (kE _ (PAt.kept (w := wr.drew) hP.out (alloc_below _ _) hP.out.lt)).mono ?_; rintro e w3 ⟨rfl, b0⟩; have b1 : Below wr.heap.size wr w3 := (((Below.refl wr.heap.size wr).drew).alloc (Nat.le_refl _) _).trans (b0.mono (by simp)); have r3 : Hid (NRow w3 wr.heap.size false ⟨#[]⟩ 0) := (row_new wr.drew false ⟨#[]⟩ 0).keep b0 (by simp))
          | (go_at_call 109; refine (kM _).mono ?_; rintro e w4 ⟨rfl, b2'⟩; have b2 : Below wr.heap.size wr w4 := b1.trans (b2'.mono b1.size); have r4 : NRow w4 wr.heap.size false ⟨#[]⟩ 0 := r3.out.keep b2' r3.out.lt; obtain ⟨p0', p1', p2'⟩ := r4.at; have q0 := r4.fz 0; have q1 := r4.fz 1; have q2 := r4.fz 2)
          | (go_at_call 109; refine (kM _).mono ?_; rintro e w4 ⟨rfl, b2'⟩; have b2 : Below wr.heap.size wr w4 := (b1.alloc b1.size _).trans (b2'.mono (by have := b1.size; simp; omega)); have r4 : NRow w4 w3.heap.size false ⟨#[]⟩ 0 := (row_new w3 false ⟨#[]⟩ 0).keep b2' (by simp); obtain ⟨p0', p1', p2'⟩ := r4.at; have q0 := r4.fz 0; have q1 := r4.fz 1; have q2 := r4.fz 2)
          | (go_at_call 109; refine (kM _).mono ?_; rintro e w4 ⟨rfl, b2'⟩; have b2 : Below wr.heap.size wr w4 := b1.trans (b2'.mono b1.size)))
        · have hfin := fin3 hN.out hF.out hB.out (b2.alloc b2.size (.cells #[.bool mb, .string ms, .int .i64 mx] 84)) (row_new w4 mb ms mx) b2.size
          clear kE kM kQ hP hO hN hF hB c0 c1 hl hby hcv hS'
          obtain ⟨z1, z2, z3, z4, z5⟩ := hfin
          generalize w4.alloc (.cells #[.bool mb, .string ms, .int .i64 mx] 84) = wz at *
          generalize w4.heap.size = h7 at *
          clear b2 b2' b1 b0
          obtain ⟨c0, c1, c2⟩ := z2.at
          obtain ⟨k0, k1, k2⟩ := z1.at
          have f0 := z2.fz 0
          have f1 := z2.fz 1
          have f2 := z2.fz 2
          have e0 := z3.c0
          have e1 := z3.c1
          have g0 := z3.fz 0
          have g1 := z3.fz 1
          have hB4 : Hid (Below w.heap.size w wz) := z4
          clear z1 z2 z3 z4 z5
          unfold noS at *
          go_wp2
          refine bodyPost_ret (v := .tuple #[.agg #[.bool mb, .string ms, .int .i64 mx], .agg #[.int .i64 me, .int .i64 0]]) (by simp [results, Tryz.results84, go_sem, *]) rfl ⟨?_, ?_⟩
          · rw [← hPP.out]
          · refine Below.setCell (Below.setCell (Below.setCell (Below.setCell (Below.setCell hB4.out ?_ _) ?_ _) ?_ _) ?_ _) ?_ _ <;> simp
        · have hfin := fin3 hN.out hF.out hB.out (Below.setCell (Below.setCell (Below.setCell b2 (p := ⟨w3.heap.size, 0, none⟩) b1.size (.bool mb)) (p := ⟨w3.heap.size, 1, none⟩) b1.size (.string ms)) (p := ⟨w3.heap.size, 2, none⟩) b1.size (.int .i64 mx)) (r4.set mb ms mx) b1.size
          clear kE kM kQ hP hO hN hF hB c0 c1 hl hby hcv hS'
          obtain ⟨z1, z2, z3, z4, z5⟩ := hfin
          generalize (((w4.setCell ⟨w3.heap.size, 0, none⟩ (.bool mb)).setCell ⟨w3.heap.size, 1, none⟩ (.string ms)).setCell ⟨w3.heap.size, 2, none⟩ (.int .i64 mx)) = wz at *
          clear r4 p0' p1' p2' q0 q1 q2 b2 b2'
          generalize w3.heap.size = h7 at *
          clear b1 b0
          obtain ⟨c0, c1, c2⟩ := z2.at
          obtain ⟨k0, k1, k2⟩ := z1.at
          have f0 := z2.fz 0
          have f1 := z2.fz 1
          have f2 := z2.fz 2
          have e0 := z3.c0
          have e1 := z3.c1
          have g0 := z3.fz 0
          have g1 := z3.fz 1
          have hB4 : Hid (Below w.heap.size w wz) := z4
          clear z1 z2 z3 z4 z5
          unfold noS at *
          go_wp2
          refine bodyPost_ret (v := .tuple #[.agg #[.bool mb, .string ms, .int .i64 mx], .agg #[.int .i64 me, .int .i64 0]]) (by simp [results, Tryz.results84, go_sem, *]) rfl ⟨?_, ?_⟩
          · rw [← hPP.out]
          · refine Below.setCell (Below.setCell (Below.setCell (Below.setCell (Below.setCell hB4.out ?_ _) ?_ _) ?_ _) ?_ _) ?_ _ <;> simp
        · have hfin := fin3 hN.out hF.out hB.out (Below.setCell (Below.setCell (Below.setCell b2 (p := ⟨wr.heap.size, 0, none⟩) (Nat.le_refl _) (.bool mb)) (p := ⟨wr.heap.size, 1, none⟩) (Nat.le_refl _) (.string ms)) (p := ⟨wr.heap.size, 2, none⟩) (Nat.le_refl _) (.int .i64 mx)) (r4.set mb ms mx) (Nat.le_refl _)
          clear kE kM kQ hP hO hN hF hB c0 c1 hl hby hcv hS'
          obtain ⟨z1, z2, z3, z4, z5⟩ := hfin
          generalize (((w4.setCell ⟨wr.heap.size, 0, none⟩ (.bool mb)).setCell ⟨wr.heap.size, 1, none⟩ (.string ms)).setCell ⟨wr.heap.size, 2, none⟩ (.int .i64 mx)) = wz at *
          clear r4 p0' p1' p2' q0 q1 q2 b2 b2' r3
          clear b1 b0
          generalize wr.heap.size = h7 at *
          obtain ⟨c0, c1, c2⟩ := z2.at
          obtain ⟨k0, k1, k2⟩ := z1.at
          have f0 := z2.fz 0
          have f1 := z2.fz 1
          have f2 := z2.fz 2
          have e0 := z3.c0
          have e1 := z3.c1
          have g0 := z3.fz 0
          have g1 := z3.fz 1
          have hB4 : Hid (Below w.heap.size w wz) := z4
          clear z1 z2 z3 z4 z5
          unfold noS at *
          go_wp2
          refine bodyPost_ret (v := .tuple #[.agg #[.bool mb, .string ms, .int .i64 mx], .agg #[.int .i64 me, .int .i64 0]]) (by simp [results, Tryz.results84, go_sem, *]) rfl ⟨?_, ?_⟩
          · rw [← hPP.out]
          · refine Below.setCell (Below.setCell (Below.setCell (Below.setCell (Below.setCell hB4.out ?_ _) ?_ _) ?_ _) ?_ _) ?_ _ <;> simp
end Go.Proofs.YtmlacmoembjeoaaGreatDoor
namespace Go.Proofs.YtmlacmoembjeoaaGreatDoor
open Go.RowKit
set_option linter.unusedVariables false

/-- A token, or a fault, as an answer. -/
def tokV (R : Tk × Nat × Nat) : Value := .tuple #[.agg #[.int .i64 (R.1.kind : Nat), .int .i64 (R.1.frm : Nat), .int .i64 (R.1.to : Nat), .string (strOfNums R.1.txt)], .agg #[.int .i64 (R.2.1 : Nat), .int .i64 (R.2.2 : Nat)]]
/-- The two results in memory, still zero. -/
structure TB (w wx : World) : Prop where
  tok : Blk wx w.heap.size #[.int .i64 0, .int .i64 0, .int .i64 0, .string ⟨#[]⟩] 40
  flt : Blk wx (w.heap.size + 1) #[.int .i64 0, .int .i64 0] 29
  bel : Below w.heap.size w wx
theorem tb_new (w : World) : TB w ((w.alloc (.cells #[.int .i64 0, .int .i64 0, .int .i64 0, .string ⟨#[]⟩] 40)).alloc (.cells #[.int .i64 0, .int .i64 0] 29)) := by
  have a1 := alloc_below w (.cells #[.int .i64 0, .int .i64 0, .int .i64 0, .string ⟨#[]⟩] 40)
  have h1 := blk_new w #[.int .i64 0, .int .i64 0, .int .i64 0, .string ⟨#[]⟩] 40
  generalize hw1 : w.alloc (.cells #[.int .i64 0, .int .i64 0, .int .i64 0, .string ⟨#[]⟩] 40) = w1 at *
  have s1 : w1.heap.size = w.heap.size + 1 := by rw [← hw1]; simp
  have a2 := alloc_below w1 (.cells #[.int .i64 0, .int .i64 0] 29)
  have h2 := blk_new w1 #[.int .i64 0, .int .i64 0] 29
  exact ⟨h1.kept a2 (by omega), by rw [← s1]; exact h2, a1.trans (a2.mono (by omega))⟩
theorem TB.on {w wx wy : World} (h : TB w wx) (hb : Below wx.heap.size wx wy) : TB w wy := ⟨h.tok.kept hb h.tok.lt, h.flt.kept hb h.flt.lt, h.bel.trans (hb.mono h.bel.size)⟩
theorem TB.cells {w wx : World} (h : TB w wx) : wx.cell? ⟨w.heap.size, 0, none⟩ = some (.int .i64 0) ∧ wx.cell? ⟨w.heap.size, 1, none⟩ = some (.int .i64 0) ∧ wx.cell? ⟨w.heap.size, 2, none⟩ = some (.int .i64 0) ∧ wx.cell? ⟨w.heap.size, 3, none⟩ = some (.string ⟨#[]⟩) ∧ wx.cell? ⟨w.heap.size + 1, 0, none⟩ = some (.int .i64 0) ∧ wx.cell? ⟨w.heap.size + 1, 1, none⟩ = some (.int .i64 0) :=
  ⟨h.tok.cell 0, h.tok.cell 1, h.tok.cell 2, h.tok.cell 3, h.flt.cell 0, h.flt.cell 1⟩
theorem TB.fz {w wx : World} (h : TB w wx) : wx.frozen? ⟨w.heap.size, 0, none⟩ = false ∧ wx.frozen? ⟨w.heap.size, 1, none⟩ = false ∧ wx.frozen? ⟨w.heap.size, 2, none⟩ = false ∧ wx.frozen? ⟨w.heap.size, 3, none⟩ = false ∧ wx.frozen? ⟨w.heap.size + 1, 0, none⟩ = false ∧ wx.frozen? ⟨w.heap.size + 1, 1, none⟩ = false :=
  ⟨h.tok.fz 0, h.tok.fz 1, h.tok.fz 2, h.tok.fz 3, h.flt.fz 0, h.flt.fz 1⟩
/-- What Parse answers of a number's bytes. -/
theorem parse_of (t : ByteArray) (ht : t.size ≤ 4096) : ((nuF (bs t) 0 0).1 < (bs t).length → (parseA t).2 = (5, (((nuF (bs t) 0 0).1 : Nat) : Int))) ∧ ((nuF (bs t) 0 0).1 = (bs t).length → (endS (nuF (bs t) 0 0).2 = true → (parseA t).2.1 ≠ 5 ∧ (parseA t).2.1 ≠ 3) ∧ (endS (nuF (bs t) 0 0).2 = false → (parseA t).2 = (3, ((t.size : Nat) : Int)))) := by
  have hR : parseA t = doneA t.size (runS (bs t) 0 0 p0) := by unfold parseA; rw [if_neg (by omega)]
  refine ⟨fun h => ?_, fun h => ⟨fun he => ?_, fun he => ?_⟩⟩
  · obtain ⟨p', e⟩ := nu_wrong (bs t) 0 0 p0 (by omega)
    rw [hR, e, done_wrong]
  · obtain ⟨p', e⟩ := nu_whole (bs t) 0 0 p0 (by omega)
    rw [hR, e, done_made _ _ _ he]
    rcases make_errs p'.1 (strOfNums p'.2.1) (expS p') with h1 | h1 | h1
    · rw [h1]; simp
    · rw [h1]; simp
    · rw [h1]; simp
  · obtain ⟨p', e⟩ := nu_whole (bs t) 0 0 p0 (by omega)
    rw [hR, e, done_early _ _ _ he]
end Go.Proofs.YtmlacmoembjeoaaGreatDoor
namespace Go.Proofs.YtmlacmoembjeoaaGreatDoor
open Go.RowKit
set_option linter.unusedVariables false

theorem tok_set {w w3 : World} {g : Nat} (h : TB w w3) (hg : w.heap.size + 1 < g) (u v : Value) : TB w ((w3.setCell ⟨g, 0, none⟩ u).setCell ⟨g, 1, none⟩ v) := by
  have k1 := Kq.set g g w3 0 u
  have k2 := Kq.set g g (w3.setCell ⟨g, 0, none⟩ u) 1 v
  have k := k1.trans k2
  exact ⟨h.tok.kq k (by omega) (by omega), h.flt.kq k (by omega) (by omega), h.bel.trans ((k.below (Nat.le_refl _)).mono (by omega))⟩
set_option maxHeartbeats 8000000 in
set_option maxRecDepth 100000 in
/-- jlex.numberAt. -/
theorem numat_any (s : ByteArray) (p : Nat) (w : World) (hp : p < s.size) (hs : s.size ≤ 4096) :
    Calls Tryz.prog 73 #[.string s, .int .i64 (p : Int)] w fun e w' => e = .returned (tokV (nuT ((bs s).drop p) p)) ∧ Below w.heap.size w w' := by
  have T0 : Hid (TB w ((w.alloc (.cells #[.int .i64 0, .int .i64 0, .int .i64 0, .string ⟨#[]⟩] 40)).alloc (.cells #[.int .i64 0, .int .i64 0] 29))) := tb_new w
  have kA := parse_any (s.extract p s.size) ((w.alloc (.cells #[.int .i64 0, .int .i64 0, .int .i64 0, .string ⟨#[]⟩] 40)).alloc (.cells #[.int .i64 0, .int .i64 0] 29))
  have hsz : (s.extract p s.size).size = s.size - p := ext_size (by omega)
  have hP := parse_of (s.extract p s.size) (by omega)
  rw [bs_from] at hP
  have hbl : ((bs s).drop p).length = s.size - p := by rw [List.length_drop, bs_len]
  have hnb := nu_bounds ((bs s).drop p) 0 0
  obtain ⟨k, hk⟩ : ∃ k, (nuF ((bs s).drop p) 0 0).1 = k := ⟨_, rfl⟩
  obtain ⟨q, hq⟩ : ∃ q, (nuF ((bs s).drop p) 0 0).2 = q := ⟨_, rfl⟩
  have hU : nuT ((bs s).drop p) p = if endS q = true then (⟨8, p, p + k, ((bs s).drop p).take k⟩, 0, 0) else if k = ((bs s).drop p).length then (z0, 3, p + ((bs s).drop p).length) else (z0, 5, p + k) := by unfold nuT; rw [hk, hq]
  rw [hU]
  rw [hk, hq, hbl] at hP
  rw [hk, hbl] at hnb
  obtain ⟨n1, hn1⟩ : ∃ n1, (parseA (s.extract p s.size)).1.1 = n1 := ⟨_, rfl⟩
  obtain ⟨d1, hd1⟩ : ∃ d1, (parseA (s.extract p s.size)).1.2.1 = d1 := ⟨_, rfl⟩
  obtain ⟨x1, hx1⟩ : ∃ x1, (parseA (s.extract p s.size)).1.2.2 = x1 := ⟨_, rfl⟩
  rw [hn1, hd1, hx1] at kA
  clear hU hn1 hd1 hx1
  have y0 : (0 : Int) ≤ (p : Int) := by omega
  have y1 : (p : Int) ≤ ((s.size : Nat) : Int) := by omega
  have e2 : bs (s.extract p (p + k)) = ((bs s).drop p).take k := by
    rw [bs_ext, List.drop_take]
    congr 1
    omega
  have etx : strOfNums (((bs s).drop p).take k) = s.extract p (p + k) := by rw [← e2, str_bs]
  have hV8 : tokV (⟨8, p, p + k, ((bs s).drop p).take k⟩, 0, 0) = .tuple #[.agg #[.int .i64 8, .int .i64 (p : Int), .int .i64 ((p + k : Nat) : Int), .string (s.extract p (p + k))], .agg #[.int .i64 0, .int .i64 0]] := by unfold tokV; rw [← etx]; rfl
  have hVf : ∀ y a : Nat, tokV (z0, y, a) = .tuple #[.agg #[.int .i64 0, .int .i64 0, .int .i64 0, .string ⟨#[]⟩], .agg #[.int .i64 (y : Int), .int .i64 (a : Int)]] := fun y a => rfl
  have hx2 : k ≤ s.size - p → (s.extract p (p + k)).size = k := fun h => by rw [← bs_len, e2, List.length_take, hbl]; omega
  by_cases hlt : k < s.size - p
  · have hY1 : (parseA (s.extract p s.size)).2.1 = 5 := by rw [hP.1 hlt]
    have hY2 : (parseA (s.extract p s.size)).2.2 = (k : Nat) := by rw [hP.1 hlt]
    rw [hY1, hY2] at kA
    have hx3 := hx2 (by omega)
    have hP2 := parse_of (s.extract p (p + k)) (by omega)
    rw [e2] at hP2
    have hnt := nu_take ((bs s).drop p) 0 0
    rw [hk, Nat.sub_zero] at hnt
    rw [hnt, hk, hq] at hP2
    have hl2 : (((bs s).drop p).take k).length = k := by rw [List.length_take, hbl]; omega
    rw [hl2, hx3] at hP2
    have hP3 := hP2.2 rfl
    have hkB := fun w' => parse_any (s.extract p (p + k)) w'
    obtain ⟨n2, hn2⟩ : ∃ n1, (parseA (s.extract p (p + k))).1.1 = n1 := ⟨_, rfl⟩
    obtain ⟨d2, hd2⟩ : ∃ d1, (parseA (s.extract p (p + k))).1.2.1 = d1 := ⟨_, rfl⟩
    obtain ⟨x2, hxx⟩ : ∃ x1, (parseA (s.extract p (p + k))).1.2.2 = x1 := ⟨_, rfl⟩
    rw [hn2, hd2, hxx] at hkB
    have W1 : IntKind.i64.wrap ((p : Int) + (k : Int)) = ((p + k : Nat) : Int) := by rw [IntKind.wrap_i64]; omega
    have y2 : (p : Int) ≤ ((p + k : Nat) : Int) := by omega
    have y3 : ((p + k : Nat) : Int) ≤ ((s.size : Nat) : Int) := by omega
    clear hn2 hd2 hxx hP hP2 hnt hl2 hY1 hY2
    by_cases he : endS q = true
    · obtain ⟨h5, h3⟩ := hP3.1 he
      rw [if_pos he, hV8]
      have kC := fun w' => clone_any (s.extract p (p + k)) w' (by omega)
      obtain ⟨Y, hY⟩ : ∃ Y, (parseA (s.extract p (p + k))).2.1 = Y := ⟨_, rfl⟩
      obtain ⟨Z, hZ⟩ : ∃ Z, (parseA (s.extract p (p + k))).2.2 = Z := ⟨_, rfl⟩
      rw [hY, hZ] at hkB
      rw [hY] at h5 h3
      have a3 : (Y == 3) = false := by simp [h3]
      clear hY hZ h5 h3 hP3 he hx2 hx3 e2 etx hbl hnb hsz hk hq hV8 hVf hlt
      generalize p + k = PK at *
      go_enter Tryz.func73, Tryz.ntmps73
      go_wp2_with (first
        | (go_at_call 84; refine kA.mono ?_; rintro e w1 ⟨rfl, hb1⟩; clear kA; have T1 : Hid (TB w w1) := T0.out.on hb1; have A1 := alloc_below w1 (.cells #[.bool n1, .string d1, .int .i64 x1] 84); have A2 := alloc_below (w1.alloc (.cells #[.bool n1, .string d1, .int .i64 x1] 84)) (.cells #[.int .i64 5, .int .i64 (k : Nat)] 29); have s1 : (w1.alloc (.cells #[.bool n1, .string d1, .int .i64 x1] 84)).heap.size = w1.heap.size + 1 := (by simp); have T2 : Hid (TB w ((w1.alloc (.cells #[.bool n1, .string d1, .int .i64 x1] 84)).alloc (.cells #[.int .i64 5, .int .i64 (k : Nat)] 29))) := T1.out.on (A1.trans (A2.mono (by omega))); have K2 : Hid (Blk ((w1.alloc (.cells #[.bool n1, .string d1, .int .i64 x1] 84)).alloc (.cells #[.int .i64 5, .int .i64 (k : Nat)] 29)) (w1.heap.size + 1) #[.int .i64 5, .int .i64 (k : Nat)] 29) := (by (rw [← s1]; exact blk_new _ _ _)); clear s1 A1 A2)
        | (go_at_call 84; refine (hkB _).mono ?_; rintro e w3 ⟨rfl, hb3⟩; clear hkB; have T3 : Hid (TB w w3) := T2.out.on hb3; have K3 := K2.out.kept hb3 K2.out.lt; have g0 : w3.cell? ⟨w1.heap.size + 1, 0, none⟩ = some (.int .i64 5) := K3.cell 0; have g1 : w3.cell? ⟨w1.heap.size + 1, 1, none⟩ = some (.int .i64 (k : Nat)) := K3.cell 1; have q0 := K3.fz 0; have q1 := K3.fz 1; have N1 : Hid (w.heap.size + 1 < w1.heap.size + 1) := (by have := T1.out.flt.lt; show _ < _; omega); have T4 : Hid (TB w ((w3.setCell ⟨w1.heap.size + 1, 0, none⟩ (.int .i64 Y)).setCell ⟨w1.heap.size + 1, 1, none⟩ (.int .i64 Z))) := tok_set T3.out N1.out _ _; clear K3)
        | (go_at_call 93; refine (kC _).mono ?_; rintro e w5 ⟨rfl, hb5⟩; clear kC; have T5 : Hid (TB w w5) := T4.out.on hb5; obtain ⟨c0, c1, c2, c3, c4, c5⟩ := T5.out.cells; obtain ⟨f0, f1, f2, f3, f4, f5⟩ := T5.out.fz))
      refine bodyPost_ret (v := .tuple #[.agg #[.int .i64 8, .int .i64 (p : Int), .int .i64 (PK : Nat), .string (s.extract p PK)], .agg #[.int .i64 0, .int .i64 0]]) (by simp [results, Tryz.results73, go_sem, *]) rfl ⟨rfl, ?_⟩
      refine Below.setCell (Below.setCell (Below.setCell (Below.setCell (Below.setCell (Below.setCell T5.out.bel ?_ _) ?_ _) ?_ _) ?_ _) ?_ _) ?_ _ <;> simp
    · have he' : endS q = false := by simpa using he
      have hQ := hP3.2 he'
      have hY1 : (parseA (s.extract p (p + k))).2.1 = 3 := by rw [hQ]
      have hY2 : (parseA (s.extract p (p + k))).2.2 = (k : Nat) := by rw [hQ]
      rw [hY1, hY2] at hkB
      rw [if_neg he, if_neg (by rw [hbl]; omega), hVf]
      clear hQ hY1 hY2 hP3 he he' hx2 hx3 e2 etx hbl hnb hsz hk hq hV8 hVf hlt
      generalize p + k = PK at *
      go_enter Tryz.func73, Tryz.ntmps73
      go_wp2_with (first
        | (go_at_call 84; refine kA.mono ?_; rintro e w1 ⟨rfl, hb1⟩; clear kA; have T1 : Hid (TB w w1) := T0.out.on hb1; have A1 := alloc_below w1 (.cells #[.bool n1, .string d1, .int .i64 x1] 84); have A2 := alloc_below (w1.alloc (.cells #[.bool n1, .string d1, .int .i64 x1] 84)) (.cells #[.int .i64 5, .int .i64 (k : Nat)] 29); have s1 : (w1.alloc (.cells #[.bool n1, .string d1, .int .i64 x1] 84)).heap.size = w1.heap.size + 1 := (by simp); have T2 : Hid (TB w ((w1.alloc (.cells #[.bool n1, .string d1, .int .i64 x1] 84)).alloc (.cells #[.int .i64 5, .int .i64 (k : Nat)] 29))) := T1.out.on (A1.trans (A2.mono (by omega))); have K2 : Hid (Blk ((w1.alloc (.cells #[.bool n1, .string d1, .int .i64 x1] 84)).alloc (.cells #[.int .i64 5, .int .i64 (k : Nat)] 29)) (w1.heap.size + 1) #[.int .i64 5, .int .i64 (k : Nat)] 29) := (by (rw [← s1]; exact blk_new _ _ _)); clear s1 A1 A2)
        | (go_at_call 84; refine (hkB _).mono ?_; rintro e w3 ⟨rfl, hb3⟩; clear hkB; have T3 : Hid (TB w w3) := T2.out.on hb3; have K3 := K2.out.kept hb3 K2.out.lt; have g0 : w3.cell? ⟨w1.heap.size + 1, 0, none⟩ = some (.int .i64 5) := K3.cell 0; have g1 : w3.cell? ⟨w1.heap.size + 1, 1, none⟩ = some (.int .i64 (k : Nat)) := K3.cell 1; have q0 := K3.fz 0; have q1 := K3.fz 1; have N1 : Hid (w.heap.size + 1 < w1.heap.size + 1) := (by have := T1.out.flt.lt; show _ < _; omega); have T4 : Hid (TB w ((w3.setCell ⟨w1.heap.size + 1, 0, none⟩ (.int .i64 3)).setCell ⟨w1.heap.size + 1, 1, none⟩ (.int .i64 (k : Nat)))) := tok_set T3.out N1.out _ _; clear K3; obtain ⟨c0, c1, c2, c3, c4, c5⟩ := T4.out.cells; obtain ⟨f0, f1, f2, f3, f4, f5⟩ := T4.out.fz))
      refine bodyPost_ret (v := .tuple #[.agg #[.int .i64 0, .int .i64 0, .int .i64 0, .string ⟨#[]⟩], .agg #[.int .i64 5, .int .i64 (PK : Nat)]]) (by simp [results, Tryz.results73, go_sem, *]) rfl ⟨rfl, ?_⟩
      refine Below.setCell (Below.setCell (Below.setCell (Below.setCell (Below.setCell (Below.setCell T4.out.bel ?_ _) ?_ _) ?_ _) ?_ _) ?_ _) ?_ _ <;> simp
  · have hkl : k = s.size - p := by omega
    have hP1 := hP.2 hkl
    have hpk : p + k = s.size := by omega
    by_cases he : endS q = true
    · obtain ⟨h5, h3⟩ := hP1.1 he
      rw [if_pos he, hV8, hpk]
      have kC := fun w' => clone_any (s.extract p s.size) w' (by omega)
      obtain ⟨Y, hY⟩ : ∃ Y, (parseA (s.extract p s.size)).2.1 = Y := ⟨_, rfl⟩
      obtain ⟨Z, hZ⟩ : ∃ Z, (parseA (s.extract p s.size)).2.2 = Z := ⟨_, rfl⟩
      rw [hY, hZ] at kA
      rw [hY] at h5 h3
      have a3 : (Y == 3) = false := by simp [h3]
      have a5 : (Y == 5) = false := by simp [h5]
      have y4 : ((s.size : Nat) : Int) ≤ ((s.size : Nat) : Int) := by omega
      clear hY hZ h5 h3 hP hP1 he hx2 e2 etx hbl hnb hsz hk hq hV8 hVf hlt hkl hpk
      go_enter Tryz.func73, Tryz.ntmps73
      go_wp2_with (first
        | (go_at_call 84; refine kA.mono ?_; rintro e w1 ⟨rfl, hb1⟩; clear kA; have T1 : Hid (TB w w1) := T0.out.on hb1; have A1 := alloc_below w1 (.cells #[.bool n1, .string d1, .int .i64 x1] 84); have A2 := alloc_below (w1.alloc (.cells #[.bool n1, .string d1, .int .i64 x1] 84)) (.cells #[.int .i64 Y, .int .i64 Z] 29); have s1 : (w1.alloc (.cells #[.bool n1, .string d1, .int .i64 x1] 84)).heap.size = w1.heap.size + 1 := (by simp); have T2 : Hid (TB w ((w1.alloc (.cells #[.bool n1, .string d1, .int .i64 x1] 84)).alloc (.cells #[.int .i64 Y, .int .i64 Z] 29))) := T1.out.on (A1.trans (A2.mono (by omega))); have K2 : Hid (Blk ((w1.alloc (.cells #[.bool n1, .string d1, .int .i64 x1] 84)).alloc (.cells #[.int .i64 Y, .int .i64 Z] 29)) (w1.heap.size + 1) #[.int .i64 Y, .int .i64 Z] 29) := (by (rw [← s1]; exact blk_new _ _ _)); clear s1 A1 A2)
        | (go_at_call 93; refine (kC _).mono ?_; rintro e w5 ⟨rfl, hb5⟩; clear kC; have T5 : Hid (TB w w5) := T2.out.on hb5; obtain ⟨c0, c1, c2, c3, c4, c5⟩ := T5.out.cells; obtain ⟨f0, f1, f2, f3, f4, f5⟩ := T5.out.fz))
      refine bodyPost_ret (v := .tuple #[.agg #[.int .i64 8, .int .i64 (p : Int), .int .i64 (s.size : Nat), .string (s.extract p s.size)], .agg #[.int .i64 0, .int .i64 0]]) (by simp [results, Tryz.results73, go_sem, *]) rfl ⟨rfl, ?_⟩
      refine Below.setCell (Below.setCell (Below.setCell (Below.setCell (Below.setCell (Below.setCell T5.out.bel ?_ _) ?_ _) ?_ _) ?_ _) ?_ _) ?_ _ <;> simp
    · have he' : endS q = false := by simpa using he
      have hQ := hP1.2 he'
      have hY1 : (parseA (s.extract p s.size)).2.1 = 3 := by rw [hQ]
      have hY2 : (parseA (s.extract p s.size)).2.2 = ((s.extract p s.size).size : Nat) := by rw [hQ]
      rw [hY1, hY2] at kA
      rw [if_neg he, if_pos (by rw [hbl]; omega), hVf, hbl, show p + (s.size - p) = s.size from by omega]
      generalize (s.extract p s.size).size = Z at *
      clear hQ hY1 hY2 hP hP1 he he' hx2 e2 etx hbl hnb hsz hk hq hV8 hVf hlt hkl hpk
      go_enter Tryz.func73, Tryz.ntmps73
      go_wp2_with (first
        | (go_at_call 84; refine kA.mono ?_; rintro e w1 ⟨rfl, hb1⟩; clear kA; have T1 : Hid (TB w w1) := T0.out.on hb1; have A1 := alloc_below w1 (.cells #[.bool n1, .string d1, .int .i64 x1] 84); have A2 := alloc_below (w1.alloc (.cells #[.bool n1, .string d1, .int .i64 x1] 84)) (.cells #[.int .i64 3, .int .i64 (Z : Nat)] 29); have s1 : (w1.alloc (.cells #[.bool n1, .string d1, .int .i64 x1] 84)).heap.size = w1.heap.size + 1 := (by simp); have T2 : Hid (TB w ((w1.alloc (.cells #[.bool n1, .string d1, .int .i64 x1] 84)).alloc (.cells #[.int .i64 3, .int .i64 (Z : Nat)] 29))) := T1.out.on (A1.trans (A2.mono (by omega))); have K2 : Hid (Blk ((w1.alloc (.cells #[.bool n1, .string d1, .int .i64 x1] 84)).alloc (.cells #[.int .i64 3, .int .i64 (Z : Nat)] 29)) (w1.heap.size + 1) #[.int .i64 3, .int .i64 (Z : Nat)] 29) := (by (rw [← s1]; exact blk_new _ _ _)); clear s1 A1 A2; obtain ⟨c0, c1, c2, c3, c4, c5⟩ := T2.out.cells; obtain ⟨f0, f1, f2, f3, f4, f5⟩ := T2.out.fz))
      refine bodyPost_ret (v := .tuple #[.agg #[.int .i64 0, .int .i64 0, .int .i64 0, .string ⟨#[]⟩], .agg #[.int .i64 3, .int .i64 (s.size : Nat)]]) (by simp [results, Tryz.results73, go_sem, *]) rfl ⟨rfl, ?_⟩
      refine Below.setCell (Below.setCell (Below.setCell (Below.setCell (Below.setCell (Below.setCell T2.out.bel ?_ _) ?_ _) ?_ _) ?_ _) ?_ _) ?_ _ <;> simp
end Go.Proofs.YtmlacmoembjeoaaGreatDoor
namespace Go.Proofs.YtmlacmoembjeoaaGreatDoor
open Go.RowKit
set_option linter.unusedVariables false

theorem wrd_step {v b : List Int} {i : Nat} (hv : i < v.length) (hb : i < b.length) (k : Nat) : wrdF (v.drop i) (b.drop i) k = if b.getD i 0 = v.getD i 0 then wrdF (v.drop (i + 1)) (b.drop (i + 1)) (k + 1) else (5, k) := by
  rw [List.drop_eq_getElem_cons hv, List.drop_eq_getElem_cons hb, wrdF, List.getD_eq_getElem?_getD, List.getD_eq_getElem?_getD, List.getElem?_eq_getElem hv, List.getElem?_eq_getElem hb]
  rfl
theorem wrd_short {v b : List Int} {i : Nat} (hv : i < v.length) (hb : b.length ≤ i) (k : Nat) : wrdF (v.drop i) (b.drop i) k = (3, k) := by
  rw [List.drop_eq_getElem_cons hv, List.drop_of_length_le hb, wrdF]
theorem wrd_done {v b : List Int} {i : Nat} (hv : v.length ≤ i) (k : Nat) : wrdF (v.drop i) (b.drop i) k = (0, k) := by
  rw [List.drop_of_length_le hv, wrdF]
set_option maxHeartbeats 8000000 in
set_option maxRecDepth 100000 in
theorem wordat_word (s : ByteArray) (p : Nat) (w : World) (hp : p < s.size) (hs : s.size ≤ 4096) (kind : Nat) (v : ByteArray) (hv0 : 0 < v.size) (hv1 : v.size ≤ 10)
    (kO : ∀ w', Calls Tryz.prog 94 #[.int .u8 (((s[p]'hp).toNat : Nat) : Int)] w' fun e w'' => e = .returned (.tuple #[.int .i64 (kind : Nat), .string v]) ∧ w'' = w') :
    Calls Tryz.prog 74 #[.string s, .int .i64 (p : Int)] w fun e w' => e = .returned (tokV (wrdT kind (bs v) ((bs s).drop p) p)) ∧ Below w.heap.size w w' := by
  have T0 : Hid (TB w ((w.alloc (.cells #[.int .i64 0, .int .i64 0, .int .i64 0, .string ⟨#[]⟩] 40)).alloc (.cells #[.int .i64 0, .int .i64 0] 29))) := tb_new w
  have ne := not_empty hv0
  obtain ⟨PV, hPV⟩ : ∃ PV, p + v.size = PV := ⟨_, rfl⟩
  have hbl : Hid (((bs s).drop p).length = s.size - p) := by show _ = _; rw [List.length_drop, bs_len]
  obtain ⟨R, hR⟩ : ∃ R, wrdF (bs v) ((bs s).drop p) 0 = R := ⟨_, rfl⟩
  have hU : wrdT kind (bs v) ((bs s).drop p) p = if R.1 = 0 then (⟨kind, p, PV, []⟩, 0, 0) else (z0, R.1, p + R.2) := by unfold wrdT; rw [hR, bs_len, hPV]
  rw [hU]
  have hVf : Hid (∀ y a : Nat, tokV (z0, y, a) = .tuple #[.agg #[.int .i64 0, .int .i64 0, .int .i64 0, .string ⟨#[]⟩], .agg #[.int .i64 (y : Int), .int .i64 (a : Int)]]) := fun y a => rfl
  have hVk : Hid (tokV (⟨kind, p, PV, []⟩, 0, 0) = .tuple #[.agg #[.int .i64 (kind : Nat), .int .i64 (p : Int), .int .i64 (PV : Nat), .string ⟨#[]⟩], .agg #[.int .i64 0, .int .i64 0]]) := rfl
  obtain ⟨V, hV⟩ : ∃ V, tokV (if R.1 = 0 then (⟨kind, p, PV, []⟩, 0, 0) else (z0, R.1, p + R.2)) = V := ⟨_, rfl⟩
  rw [hV]
  have hV' : Hid (tokV (if R.1 = 0 then (⟨kind, p, PV, []⟩, 0, 0) else (z0, R.1, p + R.2)) = V) := hV
  have hR' : Hid (wrdF ((bs v).drop 0) (((bs s).drop p).drop 0) 0 = R) := hR
  have wS : IntKind.i64.wrap ((p : Int) + ((v.size : Nat) : Int)) = ((PV : Nat) : Int) := by rw [IntKind.wrap_i64]; omega
  clear hU hR hV hv0 hPV
  go_enter Tryz.func74, Tryz.ntmps74
  go_wp2_with (go_at_call 94; refine (kO _).mono ?_; rintro e w1 ⟨rfl, hw1⟩; subst hw1; clear kO)
  go_loopw [23, 8] (fun u _ wr => ∃ i : Nat, i ≤ v.size ∧ u = .int .i64 i ∧ Hid (p + i ≤ s.size) ∧ Hid (TB w wr) ∧ Hid (wrdF ((bs v).drop i) (((bs s).drop p).drop i) i = R)) (fun u _ _ => v.size - (intOf u).toNat)
  case atStart => exact ⟨0, Nat.zero_le _, rfl, Nat.le_of_lt hp, T0, hR'⟩
  case round =>
    clear hR'
    obtain ⟨i, hi, rfl, hpi, hT, hE⟩ := hrel
    obtain ⟨c0, c1, c2, c3, c4, c5⟩ := hT.out.cells
    obtain ⟨f0, f1, f2, f3, f4, f5⟩ := hT.out.fz
    by_cases hlt : i < v.size
    · have hz : (i : Int) < ((v.size : Nat) : Int) := by omega
      have hvl : i < (bs v).length := by rw [bs_len]; exact hlt
      obtain ⟨T, hTT⟩ : ∃ T, T = p + i := ⟨_, rfl⟩
      have wT : IntKind.i64.wrap ((p : Int) + (i : Int)) = ((T : Nat) : Int) := by rw [IntKind.wrap_i64]; omega
      have wi : IntKind.i64.wrap ((i : Int) + 1) = ((i + 1 : Nat) : Int) := by rw [IntKind.wrap_i64]; omega
      by_cases hend : T = s.size
      · have hRR : R = (3, i) := by rw [← hE.out, wrd_short hvl (by rw [hbl.out]; omega)]
        have aE : (((T : Nat) : Int) == ((s.size : Nat) : Int)) = true := by simp; omega
        have hVV : V = .tuple #[.agg #[.int .i64 0, .int .i64 0, .int .i64 0, .string ⟨#[]⟩], .agg #[.int .i64 3, .int .i64 (s.size : Nat)]] := by
          rw [← hV'.out, hRR, if_neg (by simp), hVf.out, ← hend, hTT]; rfl
        clear hV' hE hRR hTT hend hvl
        subst hVV
        have hB : Hid (Below w.heap.size w wr) := hT.out.bel
        go_wp2
        refine bodyPost_ret (v := .tuple #[.agg #[.int .i64 0, .int .i64 0, .int .i64 0, .string ⟨#[]⟩], .agg #[.int .i64 3, .int .i64 (s.size : Nat)]]) (by simp [results, Tryz.results74, go_sem, *]) rfl ⟨rfl, ?_⟩
        refine Below.setCell (Below.setCell (Below.setCell (Below.setCell (Below.setCell (Below.setCell hB.out ?_ _) ?_ _) ?_ _) ?_ _) ?_ _) ?_ _ <;> simp
      · have aE : (((T : Nat) : Int) == ((s.size : Nat) : Int)) = false := by simp; omega
        have hsT : T < s.size := by have := hpi.out; omega
        have hble : i < ((bs s).drop p).length := by rw [hbl.out]; omega
        have hst := wrd_step hvl hble i
        rw [getD_drop, ← hTT, bs_at s hsT, bs_at v hlt, hE.out] at hst
        by_cases heq : (((s[T]'hsT).toNat : Nat) : Int) = (((v[i]'hlt).toNat : Nat) : Int)
        · have aN : ((((s[T]'hsT).toNat : Nat) : Int) != (((v[i]'hlt).toNat : Nat) : Int)) = false := by simp [heq]
          rw [if_pos heq] at hst
          have hE' : Hid (wrdF ((bs v).drop (i + 1)) (((bs s).drop p).drop (i + 1)) (i + 1) = R) := hst.symm
          have hpi' : Hid (p + (i + 1) ≤ s.size) := by show _ ≤ _; omega
          clear hst heq hE hTT hend hvl hble
          go_wp2
          go_quiet (fail)
          go_wp2
          go_roundw
          case rel => exact ⟨i + 1, by omega, by go_num, hpi', hT.out.on ⟨rfl, rfl, rfl, Nat.le_refl _, fun _ _ => rfl⟩, hE'⟩
          case measure => simp [intOf]; omega
        · have aN : ((((s[T]'hsT).toNat : Nat) : Int) != (((v[i]'hlt).toNat : Nat) : Int)) = true := by simp; omega
          rw [if_neg heq] at hst
          have hVV : V = .tuple #[.agg #[.int .i64 0, .int .i64 0, .int .i64 0, .string ⟨#[]⟩], .agg #[.int .i64 5, .int .i64 (T : Nat)]] := by
            rw [← hV'.out, hst, if_neg (by simp), hVf.out, ← hTT]; rfl
          clear hV' hE hst hTT hend hvl hble heq
          subst hVV
          have hB : Hid (Below w.heap.size w wr) := hT.out.bel
          go_wp2
          go_quiet (fail)
          go_wp2
          refine bodyPost_ret (v := .tuple #[.agg #[.int .i64 0, .int .i64 0, .int .i64 0, .string ⟨#[]⟩], .agg #[.int .i64 5, .int .i64 (T : Nat)]]) (by simp [results, Tryz.results74, go_sem, *]) rfl ⟨rfl, ?_⟩
          have hBd := fun n => (⟨hB.out.os, hB.out.tape, hB.out.output, hB.out.size, hB.out.block⟩ : Below w.heap.size w (wr.drewN n))
          first
          | (refine Below.setCell (Below.setCell (Below.setCell (Below.setCell (Below.setCell (Below.setCell (hBd _) ?_ _) ?_ _) ?_ _) ?_ _) ?_ _) ?_ _ <;> simp)
          | (refine below_drewN (Below.setCell (Below.setCell (Below.setCell (Below.setCell (Below.setCell (Below.setCell hB.out ?_ _) ?_ _) ?_ _) ?_ _) ?_ _) ?_ _) _ <;> simp)
          | (refine Below.drew (Below.setCell (Below.setCell (Below.setCell (Below.setCell (Below.setCell (Below.setCell hB.out ?_ _) ?_ _) ?_ _) ?_ _) ?_ _) ?_ _) <;> simp)
    · have hz : ¬ (i : Int) < ((v.size : Nat) : Int) := by omega
      obtain rfl : i = v.size := by omega
      have hRR : R = (0, v.size) := by rw [← hE.out, wrd_done (by rw [bs_len]; exact Nat.le_refl _)]
      have hVV : V = .tuple #[.agg #[.int .i64 (kind : Nat), .int .i64 (p : Int), .int .i64 (PV : Nat), .string ⟨#[]⟩], .agg #[.int .i64 0, .int .i64 0]] := by
        rw [← hV'.out, hRR, if_pos rfl, hVk.out]
      clear hV' hE hRR
      subst hVV
      have hB : Hid (Below w.heap.size w wr) := hT.out.bel
      go_wp2
      refine bodyPost_ret (v := .tuple #[.agg #[.int .i64 (kind : Nat), .int .i64 (p : Int), .int .i64 (PV : Nat), .string ⟨#[]⟩], .agg #[.int .i64 0, .int .i64 0]]) (by simp [results, Tryz.results74, go_sem, *]) rfl ⟨rfl, ?_⟩
      refine Below.setCell (Below.setCell (Below.setCell (Below.setCell (Below.setCell (Below.setCell hB.out ?_ _) ?_ _) ?_ _) ?_ _) ?_ _) ?_ _ <;> simp
set_option maxHeartbeats 1000000 in
/-- jlex.wordOf. -/
theorem wof_any (c : Nat) (w : World) : Calls Tryz.prog 94 #[.int .u8 (c : Int)] w fun e w' => e = .returned (if c = 116 then .tuple #[.int .i64 9, .string ⟨#[116, 114, 117, 101]⟩] else if c = 102 then .tuple #[.int .i64 10, .string ⟨#[102, 97, 108, 115, 101]⟩] else if c = 110 then .tuple #[.int .i64 11, .string ⟨#[110, 117, 108, 108]⟩] else .tuple #[.int .i64 0, .string ⟨#[]⟩]) ∧ w' = w := by
  by_cases h1 : c = 116
  · rw [if_pos h1]
    have a1 : ((c : Int) == 116) = true := by simp; omega
    clear h1
    go_enter Tryz.func94, Tryz.ntmps94
    go_wp2
    go_ret2
    exact ⟨rfl, rfl⟩
  rw [if_neg h1]
  have a1 : ((c : Int) == 116) = false := by simp; omega
  by_cases h2 : c = 102
  · rw [if_pos h2]
    have a2 : ((c : Int) == 102) = true := by simp; omega
    clear h1 h2
    go_enter Tryz.func94, Tryz.ntmps94
    go_wp2
    go_ret2
    exact ⟨rfl, rfl⟩
  rw [if_neg h2]
  have a2 : ((c : Int) == 102) = false := by simp; omega
  by_cases h3 : c = 110
  · rw [if_pos h3]
    have a3 : ((c : Int) == 110) = true := by simp; omega
    clear h1 h2 h3
    go_enter Tryz.func94, Tryz.ntmps94
    go_wp2
    go_ret2
    exact ⟨rfl, rfl⟩
  rw [if_neg h3]
  have a3 : ((c : Int) == 110) = false := by simp; omega
  clear h1 h2 h3
  go_enter Tryz.func94, Tryz.ntmps94
  go_wp2
  go_ret2
  exact ⟨rfl, rfl⟩
/-- What wordAt tells. -/
def wdR (c : Int) (b : List Int) (p : Nat) : Tk × Nat × Nat := if c = 116 then wrdT 9 [116, 114, 117, 101] b p else if c = 102 then wrdT 10 [102, 97, 108, 115, 101] b p else if c = 110 then wrdT 11 [110, 117, 108, 108] b p else (z0, 5, p)
set_option maxHeartbeats 2000000 in
set_option maxRecDepth 100000 in
/-- jlex.wordAt. -/
theorem wordat_any (s : ByteArray) (p : Nat) (w : World) (hp : p < s.size) (hs : s.size ≤ 4096) :
    Calls Tryz.prog 74 #[.string s, .int .i64 (p : Int)] w fun e w' => e = .returned (tokV (wdR (((s[p]'hp).toNat : Nat) : Int) ((bs s).drop p) p)) ∧ Below w.heap.size w w' := by
  have kO := fun w' => wof_any (s[p]'hp).toNat w'
  unfold wdR
  by_cases h1 : (s[p]'hp).toNat = 116
  · rw [if_pos (by omega)]
    rw [if_pos h1] at kO
    exact wordat_word s p w hp hs 9 ⟨#[116, 114, 117, 101]⟩ (by decide) (by decide) kO
  rw [if_neg (by omega)]
  rw [if_neg h1] at kO
  by_cases h2 : (s[p]'hp).toNat = 102
  · rw [if_pos (by omega)]
    rw [if_pos h2] at kO
    exact wordat_word s p w hp hs 10 ⟨#[102, 97, 108, 115, 101]⟩ (by decide) (by decide) kO
  rw [if_neg (by omega)]
  rw [if_neg h2] at kO
  by_cases h3 : (s[p]'hp).toNat = 110
  · rw [if_pos (by omega)]
    rw [if_pos h3] at kO
    exact wordat_word s p w hp hs 11 ⟨#[110, 117, 108, 108]⟩ (by decide) (by decide) kO
  rw [if_neg (by omega)]
  rw [if_neg h3] at kO
  have T0 : Hid (TB w ((w.alloc (.cells #[.int .i64 0, .int .i64 0, .int .i64 0, .string ⟨#[]⟩] 40)).alloc (.cells #[.int .i64 0, .int .i64 0] 29))) := tb_new w
  have hVf : tokV (z0, 5, p) = .tuple #[.agg #[.int .i64 0, .int .i64 0, .int .i64 0, .string ⟨#[]⟩], .agg #[.int .i64 5, .int .i64 (p : Int)]] := rfl
  rw [hVf]
  clear hVf h1 h2 h3
  go_enter Tryz.func74, Tryz.ntmps74
  go_wp2_with (go_at_call 94; refine (kO _).mono ?_; rintro e w1 ⟨rfl, hw1⟩; subst hw1; clear kO; obtain ⟨c0, c1, c2, c3, c4, c5⟩ := T0.out.cells; obtain ⟨f0, f1, f2, f3, f4, f5⟩ := T0.out.fz)
  refine bodyPost_ret (v := .tuple #[.agg #[.int .i64 0, .int .i64 0, .int .i64 0, .string ⟨#[]⟩], .agg #[.int .i64 5, .int .i64 (p : Int)]]) (by simp [results, Tryz.results74, go_sem, *]) rfl ⟨rfl, ?_⟩
  first
  | exact T0.out.bel
  | exact (alloc_below w _).trans ((alloc_below _ _).mono (Nat.le_of_lt (alloc_lt _ _)))
  | (refine Below.setCell (Below.setCell (Below.setCell (Below.setCell (Below.setCell (Below.setCell T0.out.bel ?_ _) ?_ _) ?_ _) ?_ _) ?_ _) ?_ _ <;> simp)
end Go.Proofs.YtmlacmoembjeoaaGreatDoor
