/-
  A number is read: dec.Parse.
-/
import Derived.Test.YtfkoghmbkgbgbaaDoorExp
import Derived.Deep.RegionHeld3
namespace Go.Proofs.YtfkoghmbkgbgbaaDoor
open Go.RowKit

/-- A fault as a block's whole. -/
def FRow (w : World) (g : Nat) (y f : Int) : Prop := w.heap[g]? = some (.cells #[.int .i64 y, .int .i64 f] 26 (0, 0))
theorem FRow.lt {w : World} {g : Nat} {y f : Int} (h : FRow w g y f) : g < w.heap.size := (Array.getElem?_eq_some_iff.1 h).1
theorem FRow.c0 {w : World} {g : Nat} {y f : Int} (h : FRow w g y f) : w.cell? ⟨g, 0, none⟩ = some (.int .i64 y) := by rw [cell_row h]; rfl
theorem FRow.c1 {w : World} {g : Nat} {y f : Int} (h : FRow w g y f) : w.cell? ⟨g, 1, none⟩ = some (.int .i64 f) := by rw [cell_row h]; rfl
theorem FRow.fz {w : World} {g : Nat} {y f : Int} (h : FRow w g y f) (j : Nat) : w.frozen? ⟨g, j, none⟩ = false := by
  unfold FRow at h
  simp [World.frozen?, h]
theorem FRow.keep {w w' : World} {B g : Nat} {y f : Int} (h : FRow w g y f) (hb : Below B w w') (hg : g < B) : FRow w' g y f := by
  unfold FRow
  rw [hb.block g hg]
  exact h
theorem NRow.keep {w w' : World} {B g : Nat} {n : Bool} {s : ByteArray} {x : Int} (h : NRow w g n s x) (hb : Below B w w') (hg : g < B) : NRow w' g n s x := by
  unfold NRow
  rw [hb.block g hg]
  exact h
/-- What Parse has in memory: its two results, what was read. -/
def Mem (w wr : World) (p : Pd) : Prop := NRow wr w.heap.size false noS 0 ∧ FRow wr (w.heap.size + 1) 0 0 ∧ Prt wr (w.heap.size + 2) p ∧ Below w.heap.size w wr
theorem Mem.on {w wr w' : World} {p p' : Pd} (h : Mem w wr p) (hp : Prt w' (w.heap.size + 2) p') (hb : Below (w.heap.size + 2) wr w') : Mem w w' p' :=
  ⟨h.1.keep hb (by omega), h.2.1.keep hb (by omega), hp, h.2.2.2.trans (hb.mono (by omega))⟩
theorem mem0 (w : World) : Mem w (((w.alloc (.cells #[.bool false, .string ⟨#[]⟩, .int .i64 0] 87)).alloc (.cells #[.int .i64 0, .int .i64 0] 26)).alloc (.cells #[.bool false, .slice none 0 0, .int .i64 0, .bool false, .int .i64 0] 107)) p0 := by
  have a1 := alloc_below w (.cells #[.bool false, .string ⟨#[]⟩, .int .i64 0] 87)
  have h1 := row_new w false ⟨#[]⟩ 0
  generalize hw1 : w.alloc (.cells #[.bool false, .string ⟨#[]⟩, .int .i64 0] 87) = w1 at *
  have s1 : w1.heap.size = w.heap.size + 1 := by rw [← hw1]; simp
  have a2 := alloc_below w1 (.cells #[.int .i64 0, .int .i64 0] 26)
  have h2 : FRow (w1.alloc (.cells #[.int .i64 0, .int .i64 0] 26)) (w.heap.size + 1) 0 0 := by rw [← s1]; exact heap_alloc_new w1 _
  generalize hw2 : w1.alloc (.cells #[.int .i64 0, .int .i64 0] 26) = w2 at *
  have s2 : w2.heap.size = w.heap.size + 2 := by rw [← hw2]; simp; omega
  have a3 := alloc_below w2 (.cells #[.bool false, .slice none 0 0, .int .i64 0, .bool false, .int .i64 0] 107)
  have h3 : PAt (w2.alloc (.cells #[.bool false, .slice none 0 0, .int .i64 0, .bool false, .int .i64 0] 107)) (w.heap.size + 2) false (.slice none 0 0) 0 false 0 := by rw [← s2]; exact heap_alloc_new w2 _
  exact ⟨(h1.keep a2 (by omega)).keep a3 (by omega), h2.keep a3 (by omega), ⟨_, h3, ownsB_nil _ _⟩, a1.trans ((a2.mono (by omega)).trans (a3.mono (by omega)))⟩
theorem NRow.set {w : World} {g : Nat} {n : Bool} {s : ByteArray} {x : Int} (h : NRow w g n s x) (n' : Bool) (s' : ByteArray) (x' : Int) : NRow (((w.setCell ⟨g, 0, none⟩ (.bool n')).setCell ⟨g, 1, none⟩ (.string s')).setCell ⟨g, 2, none⟩ (.int .i64 x')) g n' s' x' := by
  unfold NRow at *
  rw [heap_setCell_same _ g 2 _ 87 _ (heap_setCell_same _ g 1 _ 87 _ (heap_setCell_same _ g 0 _ 87 _ h))]
  rfl
/-- What Parse has in memory at its end. -/
def Fin3 (w wz : World) (h : Nat) (mb : Bool) (ms : ByteArray) (mx : Int) : Prop := NRow wz h mb ms mx ∧ NRow wz w.heap.size false noS 0 ∧ FRow wz (w.heap.size + 1) 0 0 ∧ Below w.heap.size w wz ∧ w.heap.size + 1 < h
theorem fin3 {w wr wz : World} {h : Nat} {mb : Bool} {ms : ByteArray} {mx : Int} (hN : NRow wr w.heap.size false noS 0) (hF : FRow wr (w.heap.size + 1) 0 0) (hB : Below w.heap.size w wr) (hb : Below wr.heap.size wr wz) (hr : NRow wz h mb ms mx) (hh : wr.heap.size ≤ h) : Fin3 w wz h mb ms mx :=
  ⟨hr, hN.keep hb hN.lt, hF.keep hb hF.lt, hB.trans (hb.mono hB.size), Nat.lt_of_lt_of_le hF.lt hh⟩
theorem done_wrong (n k : Nat) (p : Pd) : doneA n (some k, 9, p) = (noN, 5, ((k : Nat) : Int)) := rfl
theorem done_early (n q : Nat) (p : Pd) (h : endS q = false) : doneA n (none, q, p) = (noN, 3, ((n : Nat) : Int)) := by
  show (if endS q = true then _ else _) = _
  rw [h]; rfl
theorem done_made (n q : Nat) (p : Pd) (h : endS q = true) : doneA n (none, q, p) = ((makeA p.1 (strOfNums p.2.1) (expS p)).1, (makeA p.1 (strOfNums p.2.1) (expS p)).2, 0) := by
  show (if endS q = true then _ else _) = _
  rw [if_pos h]
theorem getD_mem {l : List Int} {k : Nat} (h : k < l.length) : l.getD k 0 ∈ l := by
  rw [List.getD_eq_getElem?_getD, List.getElem?_eq_getElem h]
  exact List.getElem_mem h
set_option maxRecDepth 100000 in
set_option maxHeartbeats 2000000 in
theorem parse_any (s : ByteArray) (w : World) : Calls Tryd.prog 53 #[.string s] w fun e w' => e = .returned (.tuple #[.agg #[.bool (parseA s).1.1, .string (parseA s).1.2.1, .int .i64 (parseA s).1.2.2], .agg #[.int .i64 (parseA s).2.1, .int .i64 (parseA s).2.2]]) ∧ Below w.heap.size w w' := by
  by_cases h1 : 4096 < s.size
  · have hR : parseA s = (noN, 11, 0) := by unfold parseA; rw [if_pos h1]
    rw [hR]
    have d1 : decide (4096 < ((s.size : Nat) : Int)) = true := by simp; omega
    clear h1 hR
    unfold noN noS
    go_enter Tryd.func53, Tryd.ntmps53
    go_wp2
    refine bodyPost_ret (v := .tuple #[.agg #[.bool false, .string ⟨#[]⟩, .int .i64 0], .agg #[.int .i64 11, .int .i64 0]]) (by simp [results, Tryd.results53, go_sem]) rfl ⟨rfl, ?_⟩
    exact (alloc_below _ _).alloc (by simp) _
  have hR : Hid (doneA s.size (runS (bs s) 0 0 p0) = parseA s) := by show _ = _; unfold parseA; rw [if_neg h1]
  have d1 : decide (4096 < ((s.size : Nat) : Int)) = false := by simp; omega
  have hsz : s.size ≤ 4096 := by omega
  generalize parseA s = P at *
  generalize hrun : runS (bs s) 0 0 p0 = R at *
  have kA := after_any
  have hM := mem0 w
  clear h1
  go_enter Tryd.func53, Tryd.ntmps53
  go_wp2
  go_loopw [16, 5] (fun v u wr => ∃ (k q : Nat) (p : Pd), k ≤ s.size ∧ q ≤ 8 ∧ v = .int .i64 k ∧ u = .int .i64 q ∧ Hid (runS ((bs s).drop k) k q p = R) ∧ Hid (InS p k) ∧ Hid (Mem w wr p)) (fun v _ _ => s.size - (intOf v).toNat)
  case atStart => exact ⟨0, 0, p0, Nat.zero_le _, by omega, rfl, rfl, hrun, in0, hM⟩
  case round =>
    clear hM hrun
    obtain ⟨k, q, p, hk, hq, rfl, rfl, hrun, hin, hmem⟩ := hrel
    by_cases hlt : k < s.size
    · have bk := bs_at s hlt
      obtain ⟨r1, r2⟩ := run_step (by rw [bs_len]; exact hlt) hrun.out
      have k1 := kA q hq ((bs s).getD k 0) wr
      have hq9 := after_le q ((bs s).getD k 0)
      have ht := in_take (q := q) (c := (bs s).getD k 0) hin.out
      have hdg := take_dig (q := q) (c := (bs s).getD k 0)
      have hb255 := bs_bytes s _ (getD_mem (l := bs s) (k := k) (by rw [bs_len]; exact hlt))
      rw [bk] at r1 r2 k1 hq9 ht hdg hb255
      clear bk kA hrun
      obtain ⟨Q, hQ⟩ : ∃ Q, afterS q (((s[k]'hlt).toNat : Nat) : Int) = Q := ⟨_, rfl⟩
      rw [hQ] at r1 r2 k1 hq9 ht hdg
      clear hQ
      by_cases h9 : Q = 9
      · subst h9
        obtain rfl := r1 rfl
        have hP := hR.out
        rw [done_wrong] at hP
        subst hP
        obtain ⟨m1, m2, m3, m4⟩ := hmem.out
        obtain ⟨c0, c1, c2⟩ := m1.at
        have f0 := m1.fz 0
        have f1 := m1.fz 1
        have f2 := m1.fz 2
        have e0 := m2.c0
        have e1 := m2.c1
        have g0 := m2.fz 0
        have g1 := m2.fz 1
        have hB : Hid (Below w.heap.size w wr) := m4
        clear r1 r2 hq9 ht hdg hb255 hR m1 m2 m3 m4 hmem hin
        unfold noN noS at *
        go_wp2_with (go_at_call 72; refine k1.mono ?_; rintro e w1 ⟨rfl, hw⟩; obtain rfl : wr = w1 := hw.symm)
        refine bodyPost_ret (v := .tuple #[.agg #[.bool false, .string ⟨#[]⟩, .int .i64 0], .agg #[.int .i64 5, .int .i64 ((k : Nat) : Int)]]) (by simp [results, Tryd.results53, go_sem, *]) rfl ⟨rfl, ?_⟩
        refine Below.setCell (Below.setCell (Below.setCell (Below.setCell (Below.setCell hB.out ?_ _) ?_ _) ?_ _) ?_ _) ?_ _ <;> simp
      · have hrun' : Hid _ := r2 h9
        have hin' : Hid _ := ht
        have d9 : (((Q : Nat) : Int) == 9) = false := by simp; omega
        obtain ⟨i1, i2, i3, i4⟩ := hin.out
        have k2 := take_some (w.heap.size + 2) p Q (((s[k]'hlt).toNat : Nat) : Int) wr hmem.out.2.2.1 ⟨by omega, by omega, i3⟩ hb255 (fun h => (hdg (by omega)).1) (by omega)
        have hk1 : k + 1 ≤ s.size := by omega
        have hQ8 : Q ≤ 8 := by omega
        clear r1 r2 hq9 ht hdg hb255 hR hin i1 i2 i3 i4 h9
        generalize hT : takeS p Q (((s[k]'hlt).toNat : Nat) : Int) = p' at *
        clear hT
        go_wp2_with (first
          | (go_at_call 72; refine k1.mono ?_; rintro e w1 ⟨rfl, hw⟩; obtain rfl : wr = w1 := hw.symm)
          | (go_at_call 73; refine k2.mono ?_; rintro e w2 ⟨⟨u, rfl⟩, hp2, hb2⟩))
        go_roundw
        case rel => exact ⟨k + 1, Q, p', by omega, by omega, by go_num, rfl, hrun', hin', hmem.out.on hp2 hb2⟩
        case measure => simp [intOf]; omega
    · obtain rfl : k = s.size := by omega
      have hr := hrun.out
      rw [List.drop_of_length_le (by rw [bs_len]; exact Nat.le_refl _)] at hr
      have hr' : (none, q, p) = R := hr
      subst hr'
      clear hr hrun kA hlt
      have kQ := mayend_any q hq
      obtain ⟨m1, m2, ⟨v, m3, m5⟩, m4⟩ := hmem.out
      obtain ⟨i1, i2, i3, i4⟩ := hin.out
      cases hE : endS q with
      | false =>
        rw [hE] at kQ
        have hP := hR.out
        rw [done_early _ _ _ hE] at hP
        subst hP
        obtain ⟨c0, c1, c2⟩ := m1.at
        have f0 := m1.fz 0
        have f1 := m1.fz 1
        have f2 := m1.fz 2
        have e0 := m2.c0
        have e1 := m2.c1
        have g0 := m2.fz 0
        have g1 := m2.fz 1
        have hB : Hid (Below w.heap.size w wr) := m4
        clear m1 m2 m3 m4 m5 hmem hin hR i1 i2 i3 i4
        unfold noN noS at *
        go_wp2_with (go_at_call 74; refine (kQ _).mono ?_; rintro e w1 ⟨rfl, hw⟩; obtain rfl : wr = w1 := hw.symm)
        refine bodyPost_ret (v := .tuple #[.agg #[.bool false, .string ⟨#[]⟩, .int .i64 0], .agg #[.int .i64 3, .int .i64 ((s.size : Nat) : Int)]]) (by simp [results, Tryd.results53, go_sem, *]) rfl ⟨rfl, ?_⟩
        refine Below.setCell (Below.setCell (Below.setCell (Below.setCell (Below.setCell hB.out ?_ _) ?_ _) ?_ _) ?_ _) ?_ _ <;> simp
      | true =>
        rw [hE] at kQ
        have hP0 := hR.out
        rw [done_made _ _ _ hE] at hP0
        obtain ⟨n, ds, kk, l, m⟩ := p
        dsimp only at m3 m5 i1 i2 i3 i4 hP0
        have kM := make_any n (strOfNums ds) (expS (n, ds, kk, l, m))
        have kE := fun wx (h : PAt wx (w.heap.size + 2) n v kk l m) => exp_any (w.heap.size + 2) n v kk l m ds wx h (by omega) i3
        generalize makeA n (strOfNums ds) (expS (n, ds, kk, l, m)) = MM at *
        generalize expS (n, ds, kk, l, m) = E at *
        obtain ⟨⟨mb, ms, mx⟩, me⟩ := MM
        dsimp only at kM hP0
        have hPP : Hid (((mb, ms, mx), me, 0) = P) := hP0
        clear hP0
        have hP : Hid (PAt wr (w.heap.size + 2) n v kk l m) := m3
        have hO : Hid (OwnsB wr (w.heap.size + 3) v ds) := m5
        have hN : Hid (NRow wr w.heap.size false noS 0) := m1
        have hF : Hid (FRow wr (w.heap.size + 1) 0 0) := m2
        have hB : Hid (Below w.heap.size w wr) := m4
        have c0 := m3.c0
        have c1 := m3.c1
        obtain ⟨a, nn, cc, rfl, hl, -, -, -, hby⟩ := m5.form
        have hcv := conv_str hby.out nn cc hl.out
        have hS := fun (wx : World) (h : Below wr.heap.size wr wx) => (⟨by rw [h.cell (p := ⟨w.heap.size + 2, 0, none⟩) hP.out.lt]; exact c0, by rw [h.cell (p := ⟨w.heap.size + 2, 1, none⟩) hP.out.lt]; exact c1, conv_str (hby.out.kept h) nn cc hl.out⟩ : wx.cell? ⟨w.heap.size + 2, 0, none⟩ = some (.bool n) ∧ wx.cell? ⟨w.heap.size + 2, 1, none⟩ = some (.slice a nn cc) ∧ (convert 22 9 (.slice a nn cc)).run Tryd.prog wx = .ok (.string (strOfNums ds)) wx)
        clear m1 m2 m3 m4 m5 hmem hin hR i1 i2 i3 i4 hq hsz hk
        generalize hSt : strOfNums ds = St at *
        clear hSt
        have hS' : Hid _ := hS
        clear hS
        go_wp2_with (go_at_call 74; refine (kQ _).mono ?_; rintro e w1 ⟨rfl, hw⟩; obtain rfl : wr = w1 := hw.symm)
        go_region_held3 (fun wx => wx.cell? ⟨w.heap.size + 2, 0, none⟩ = some (.bool n) ∧ wx.cell? ⟨w.heap.size + 2, 1, none⟩ = some (.slice a nn cc) ∧ (convert 22 9 (.slice a nn cc)).run Tryd.prog wx = .ok (.string St) wx) (first | exact ⟨c0, c1, hcv⟩ | exact hS'.out _ (Below.refl wr.heap.size wr).drew | exact hS'.out _ b1 | exact hS'.out _ b2 | exact hS'.out _ (b2.alloc b2.size _) | exact hS'.out _ (Below.setCell (Below.setCell (Below.setCell b2 b1.size _) b1.size _) b1.size _) | exact hS'.out _ (Below.setCell (Below.setCell (Below.setCell b2 (Nat.le_refl wr.heap.size) _) (Nat.le_refl wr.heap.size) _) (Nat.le_refl wr.heap.size) _) | exact hS'.out _ (b1.alloc b1.size _) | exact hS'.out _ ((Below.refl wr.heap.size wr).drew.alloc (Nat.le_refl _) _)) (first
          | (go_at_call 76; refine (kE _ (by exact hP.out)).mono ?_; rintro e w3 ⟨rfl, b0⟩; have b1 : Below wr.heap.size wr w3 := ((Below.refl wr.heap.size wr).drew).trans b0)
          | (go_at_call 76; refine (kE _ (PAt.kept (w := wr.drew) hP.out (alloc_below _ _) hP.out.lt)).mono ?_; rintro e w3 ⟨rfl, b0⟩; have b1 : Below wr.heap.size wr w3 := (((Below.refl wr.heap.size wr).drew).alloc (Nat.le_refl _) _).trans (b0.mono (by simp)); have r3 : Hid (NRow w3 wr.heap.size false ⟨#[]⟩ 0) := (row_new wr.drew false ⟨#[]⟩ 0).keep b0 (by simp))
          | (go_at_call 75; refine (kM _).mono ?_; rintro e w4 ⟨rfl, b2'⟩; have b2 : Below wr.heap.size wr w4 := b1.trans (b2'.mono b1.size); have r4 : NRow w4 wr.heap.size false ⟨#[]⟩ 0 := r3.out.keep b2' r3.out.lt; obtain ⟨p0', p1', p2'⟩ := r4.at; have q0 := r4.fz 0; have q1 := r4.fz 1; have q2 := r4.fz 2)
          | (go_at_call 75; refine (kM _).mono ?_; rintro e w4 ⟨rfl, b2'⟩; have b2 : Below wr.heap.size wr w4 := (b1.alloc b1.size _).trans (b2'.mono (by have := b1.size; simp; omega)); have r4 : NRow w4 w3.heap.size false ⟨#[]⟩ 0 := (row_new w3 false ⟨#[]⟩ 0).keep b2' (by simp); obtain ⟨p0', p1', p2'⟩ := r4.at; have q0 := r4.fz 0; have q1 := r4.fz 1; have q2 := r4.fz 2)
          | (go_at_call 75; refine (kM _).mono ?_; rintro e w4 ⟨rfl, b2'⟩; have b2 : Below wr.heap.size wr w4 := b1.trans (b2'.mono b1.size)))
        · have hfin := fin3 hN.out hF.out hB.out (b2.alloc b2.size (.cells #[.bool mb, .string ms, .int .i64 mx] 87)) (row_new w4 mb ms mx) b2.size
          clear kE kM kQ hP hO hN hF hB c0 c1 hl hby hcv hS'
          obtain ⟨z1, z2, z3, z4, z5⟩ := hfin
          generalize w4.alloc (.cells #[.bool mb, .string ms, .int .i64 mx] 87) = wz at *
          generalize w4.heap.size = h7 at *
          clear b2 b2' b1 b0
          obtain ⟨c0, c1, c2⟩ := z2.at
          obtain ⟨k0, k1, k2⟩ := z1.at
          have f0 := z2.fz 0
          have f1 := z2.fz 1
          have f2 := z2.fz 2
          have e0 := z3.c0
          have e1 := z3.c1
          have g0 := z3.fz 0
          have g1 := z3.fz 1
          have hB4 : Hid (Below w.heap.size w wz) := z4
          clear z1 z2 z3 z4 z5
          unfold noS at *
          go_wp2
          refine bodyPost_ret (v := .tuple #[.agg #[.bool mb, .string ms, .int .i64 mx], .agg #[.int .i64 me, .int .i64 0]]) (by simp [results, Tryd.results53, go_sem, *]) rfl ⟨?_, ?_⟩
          · rw [← hPP.out]
          · refine Below.setCell (Below.setCell (Below.setCell (Below.setCell (Below.setCell hB4.out ?_ _) ?_ _) ?_ _) ?_ _) ?_ _ <;> simp
        · have hfin := fin3 hN.out hF.out hB.out (Below.setCell (Below.setCell (Below.setCell b2 (p := ⟨w3.heap.size, 0, none⟩) b1.size (.bool mb)) (p := ⟨w3.heap.size, 1, none⟩) b1.size (.string ms)) (p := ⟨w3.heap.size, 2, none⟩) b1.size (.int .i64 mx)) (r4.set mb ms mx) b1.size
          clear kE kM kQ hP hO hN hF hB c0 c1 hl hby hcv hS'
          obtain ⟨z1, z2, z3, z4, z5⟩ := hfin
          generalize (((w4.setCell ⟨w3.heap.size, 0, none⟩ (.bool mb)).setCell ⟨w3.heap.size, 1, none⟩ (.string ms)).setCell ⟨w3.heap.size, 2, none⟩ (.int .i64 mx)) = wz at *
          clear r4 p0' p1' p2' q0 q1 q2 b2 b2'
          generalize w3.heap.size = h7 at *
          clear b1 b0
          obtain ⟨c0, c1, c2⟩ := z2.at
          obtain ⟨k0, k1, k2⟩ := z1.at
          have f0 := z2.fz 0
          have f1 := z2.fz 1
          have f2 := z2.fz 2
          have e0 := z3.c0
          have e1 := z3.c1
          have g0 := z3.fz 0
          have g1 := z3.fz 1
          have hB4 : Hid (Below w.heap.size w wz) := z4
          clear z1 z2 z3 z4 z5
          unfold noS at *
          go_wp2
          refine bodyPost_ret (v := .tuple #[.agg #[.bool mb, .string ms, .int .i64 mx], .agg #[.int .i64 me, .int .i64 0]]) (by simp [results, Tryd.results53, go_sem, *]) rfl ⟨?_, ?_⟩
          · rw [← hPP.out]
          · refine Below.setCell (Below.setCell (Below.setCell (Below.setCell (Below.setCell hB4.out ?_ _) ?_ _) ?_ _) ?_ _) ?_ _ <;> simp
        · have hfin := fin3 hN.out hF.out hB.out (Below.setCell (Below.setCell (Below.setCell b2 (p := ⟨wr.heap.size, 0, none⟩) (Nat.le_refl _) (.bool mb)) (p := ⟨wr.heap.size, 1, none⟩) (Nat.le_refl _) (.string ms)) (p := ⟨wr.heap.size, 2, none⟩) (Nat.le_refl _) (.int .i64 mx)) (r4.set mb ms mx) (Nat.le_refl _)
          clear kE kM kQ hP hO hN hF hB c0 c1 hl hby hcv hS'
          obtain ⟨z1, z2, z3, z4, z5⟩ := hfin
          generalize (((w4.setCell ⟨wr.heap.size, 0, none⟩ (.bool mb)).setCell ⟨wr.heap.size, 1, none⟩ (.string ms)).setCell ⟨wr.heap.size, 2, none⟩ (.int .i64 mx)) = wz at *
          clear r4 p0' p1' p2' q0 q1 q2 b2 b2' r3
          clear b1 b0
          generalize wr.heap.size = h7 at *
          obtain ⟨c0, c1, c2⟩ := z2.at
          obtain ⟨k0, k1, k2⟩ := z1.at
          have f0 := z2.fz 0
          have f1 := z2.fz 1
          have f2 := z2.fz 2
          have e0 := z3.c0
          have e1 := z3.c1
          have g0 := z3.fz 0
          have g1 := z3.fz 1
          have hB4 : Hid (Below w.heap.size w wz) := z4
          clear z1 z2 z3 z4 z5
          unfold noS at *
          go_wp2
          refine bodyPost_ret (v := .tuple #[.agg #[.bool mb, .string ms, .int .i64 mx], .agg #[.int .i64 me, .int .i64 0]]) (by simp [results, Tryd.results53, go_sem, *]) rfl ⟨?_, ?_⟩
          · rw [← hPP.out]
          · refine Below.setCell (Below.setCell (Below.setCell (Below.setCell (Below.setCell hB4.out ?_ _) ?_ _) ?_ _) ?_ _) ?_ _ <;> simp
end Go.Proofs.YtfkoghmbkgbgbaaDoor
