/-
  The program's reader of CBOR: an Array.
  The program's reader of CBOR: an Array of two Int.
-/
import Derived.Test.YtnjbppfanmmifaaGreatDoorQ22
namespace Go.Proofs.YtnjbppfanmmifaaGreatDoor
open Go.RowKit
set_option linter.unusedVariables false
theorem nine1 (w : World) (nb : Nb) : Nine (w.alloc (.cells nb.arr 26)) (some ⟨w.heap.size, 0, none⟩) [nb] := by
  refine .inr ⟨w.heap.size, 0, rfl, fun i hi j hj => ?_⟩
  have e : i = 0 := by simp at hi; omega
  subst e
  rw [Nat.zero_add, Nat.zero_mul, Nat.zero_add]
  exact (nbox_new w nb).cell j
def JR (C : CX) (w X : World) (r n D : Nat) (nb : Nb) (t : Tr) : Prop := RK C w X r n ∧ NdW (Rg (w.heap.size + 3) X.heap.size) D X nb t
theorem JR.set {C : CX} {w X : World} {r n D j k : Nat} {nb : Nb} {t : Tr} {v : Value} (h : JR C w X r n D nb t) (h0 : w.heap.size ≤ k) (h1 : k < w.heap.size + 3) : JR C w (X.setCell ⟨k, j, none⟩ v) r n D nb t :=
  ⟨h.1.set h0, by rw [set_size]; exact h.2.stays fun i hi => setk (by have := hi.1; omega) v⟩
theorem JR.out {C : CX} {w X : World} {r n D : Nat} {nb : Nb} {t : Tr} (h : JR C w X r n D nb t) : (∃ nb' : Nb, Ending.returned (.agg nb.arr) = .returned (.agg nb'.arr) ∧ NdW (Rg w.heap.size X.heap.size) D X nb' t) ∧ RK C w X r n := ⟨⟨nb, rfl, h.2.mono fun k hk => ⟨by have := hk.1; omega, hk.2⟩⟩, h.1⟩
theorem AS.fin3 {C : CX} {w wr : World} {hd : Hd} {D : Nat} {l : List Tr} {a : Option Addr} {n c p m : Nat} (h : AS C w wr hd D l a n c p m) (hl : l.length ≤ 1024) : JR C w wr p m (D + 1) (nbA a n c) (arrT l) := by
  obtain ⟨h1, h2, h3, h4, bi, S, r1, r2, r3, r4, r5, r6, r7, r8⟩ := h
  obtain ⟨f1, f2, f3⟩ := rown_fin r2 r4 r6 (fun k hk => ⟨(r7 k hk).1, (r7 k hk).2.1⟩) (by omega)
  have r0 : ∀ k, Room k none 0 0 := fun k => ⟨Nat.le_refl _, Nat.zero_le _, fun _ => rfl, by omega⟩
  refine ⟨h1, ⟨rfl, rfl, rfl, rfl, rfl, rfl⟩, ⟨rfl, rfl, rfl, by show (0 : Nat) ≤ _; omega, by show (0 : Nat) ≤ _; omega⟩, ⟨rfl, r0 1, ⟨by simp [arrT], by simp [arrT], .inl rfl⟩⟩, ⟨wn_zero _ _ _ _, wn_zero _ _ _ _, f3⟩, ⟨rfl, r0 136, .inl rfl⟩, f2⟩
theorem AS.kq {C : CX} {w wr wx : World} {hd : Hd} {D : Nat} {l : List Tr} {a : Option Addr} {n c p m q o : Nat} (h : AS C w wr hd D l a n c p m) (hk : RK C wr wx q o) : AS C w wx hd D l a n c q o := by
  obtain ⟨h1, h2, h3, h4, bi, S, hr⟩ := h
  have hg := h1.2.2
  exact ⟨h1.next hk, Blk.kq h2 hk.2.1 h2.lt (by omega), h3.same (hk.2.1.block _ h3.lt (by omega)), h4.same (hk.2.1.block _ h4.lt (by omega)), bi, S, hr.kq hk.2.1 (by omega)⟩
/-- What is left of an Array to be read. -/
def AL (C : CX) (w wr : World) (hd : Hd) (d : Nat) (K : Nat) (done : Nat) (R : Sum (Int × Nat) (Tr × Nat × Nat)) : Prop := ∃ (j p m : Nat) (l : List Tr) (a : Option Addr) (n c : Nat), AS C w wr hd (26 - d) l a n c p m ∧ done = l.length ∧ rcF j C.zs 1 (d + 1) p m ((limA hd).map (· - l.length)) [] l = R ∧ j ≤ K ∧ m ≤ 1024 ∧ p ≤ C.zs.length ∧ 2 * (C.zs.length - p) + 2 ≤ j ∧ l.length ≤ m
/-- An Array. -/
def ArrAt (C : CX) (k : Nat) : Prop := ∀ (w : World) (hd : Hd) (d q m : Nat), RSt C w q m → m ≤ 1024 → d ≤ 24 → q ≤ C.zs.length → 2 * (C.zs.length - q) + 2 ≤ k → Calls Tryz.prog 127 #[.pointer (some ⟨C.g, 0, none⟩), .agg hd.arr, .int .i64 (d : Nat)] w fun x w' => ItmIs C w w' (27 - d) x (rcF k C.zs 1 (d + 1) q m (limA hd) [] [])
theorem lim_next (o : Option Nat) (n : Nat) : (o.map (· - n)).map (· - 1) = o.map (· - (n + 1)) := by cases o <;> simp; omega
set_option maxHeartbeats 8000000 in
set_option maxRecDepth 100000 in
theorem array_step {C : CX} {k : Nat} (ih : ∀ j, j ≤ k → ItmAt C j) : ArrAt C k := by
  intro w hd d q m h hm hd24 hq hk
  have hgl : Hid (C.g < w.heap.size) := h.lt
  have kG : Hid (∀ wx p m (done : Nat), RSt C wx p m → Calls Tryz.prog 167 #[.pointer (some ⟨C.g, 0, none⟩), .agg hd.arr, .int .u64 (done : Nat)] wx fun x w' => GonIs C wx w' m x (gonA C.zs p ((limA hd).map (· - done)))) := fun wx p m done hx => cgoes_any hx hd done
  obtain ⟨R, hRR⟩ : ∃ R, R = rcF k C.zs 1 (d + 1) q m (limA hd) [] [] := ⟨_, rfl⟩
  rw [← hRR]
  have hIh : Hid (∀ j, j ≤ k → ItmAt C j) := ih
  have wd : IntKind.i64.wrap ((d : Int) + 1) = (d : Int) + 1 := by rw [IntKind.wrap_i64]; omega
  have hdd : Hid (d ≤ 24) := hd24
  have hB0 := blk_new w hd.arr 94
  have hA0 : Hid (AL C w (((w.alloc (.cells hd.arr 94)).alloc (.cells zN.arr 26)).alloc (.cells (nbA none 0 0).arr 26)) hd d k 0 R) := by
    have h1 := alloc_below w (.cells hd.arr 94)
    have h2 := alloc_below (w.alloc (.cells hd.arr 94)) (.cells zN.arr 26)
    have h3 := alloc_below ((w.alloc (.cells hd.arr 94)).alloc (.cells zN.arr 26)) (.cells (nbA none 0 0).arr 26)
    have s1 : (w.alloc (.cells hd.arr 94)).heap.size = w.heap.size + 1 := by simp
    have s2 : ((w.alloc (.cells hd.arr 94)).alloc (.cells zN.arr 26)).heap.size = w.heap.size + 2 := by simp
    refine ⟨k, q, m, [], none, 0, 0, ⟨((h.rk.alloc _).alloc _).alloc _, Blk.kept (Blk.kept hB0 h2 (by omega)) h3 (by omega), ?_, ?_, [], fun _ => False, r2_nil _ _ _⟩, rfl, ?_, Nat.le_refl _, hm, hq, hk, Nat.zero_le _⟩
    · have := (nbox_new (w.alloc (.cells hd.arr 94)) zN).kept h3 (by omega)
      rwa [s1] at this
    · have := nbox_new ((w.alloc (.cells hd.arr 94)).alloc (.cells zN.arr 26)) (nbA none 0 0)
      rwa [s2] at this
    · rw [hRR]
      congr 1
      cases limA hd <;> simp
  obtain ⟨pl, mj, lo, nn, cut⟩ := hd
  unfold Hd.arr zN nbA Nb.arr at *
  simp only at *
  clear hRR h hm hd24 hq hk ih hB0
  go_enter Tryz.func127, Tryz.ntmps127
  go_wp2_with fail
  rw [show w.heap.size + 1 + 1 = w.heap.size + 2 from rfl]
  go_loopw [8] (fun s8 wr => ∃ done : Nat, s8 = .int .u64 done ∧ Hid (AL C w wr ⟨pl, mj, lo, nn, cut⟩ d k done R)) (fun _ wr => C.zs.length + 1 - pAt C wr)
  case atStart => exact ⟨0, rfl, hA0⟩
  case round =>
    obtain ⟨done, rfl, hP⟩ := hrel
    obtain ⟨j, p, m', l, a, n, c, hS', hdn, hF', hjk', hm', hp', hfu', hlm'⟩ := hP.out
    subst hdn
    have hS : Hid (AS C w wr ⟨pl, mj, lo, nn, cut⟩ (26 - d) l a n c p m') := hS'
    have hnl : n = l.length := hS'.len
    obtain rfl := hnl
    have hF : Hid (rcF j C.zs 1 (d + 1) p m' ((limA ⟨pl, mj, lo, nn, cut⟩).map (· - l.length)) [] l = R) := hF'
    have hJ : Hid (j ≤ k ∧ m' ≤ 1024 ∧ p ≤ C.zs.length ∧ 2 * (C.zs.length - p) + 2 ≤ j ∧ l.length ≤ m') := ⟨hjk', hm', hp', hfu', hlm'⟩
    have hpA : Hid (pAt C wr = p) := pAt_of hS'.1.1
    have hx := hS'.2.1
    have b0 := hx.cell 0
    have b1 := hx.cell 1
    have b2 := hx.cell 2
    have b3 := hx.cell 3
    have b4 := hx.cell 4
    unfold Hd.arr at b0 b1 b2 b3 b4
    simp at b0 b1 b2 b3 b4
    have kG1 := kG.out wr p m' l.length hS'.1.1
    obtain ⟨j, rfl⟩ : ∃ j', j = j' + 1 := ⟨j - 1, by omega⟩
    have hF2 := hF'
    rw [rc1_eq] at hF2
    clear hS' hF' hjk' hm' hp' hfu' hlm' hP hx hA0
    cases hg : gonA C.zs p ((limA ⟨pl, mj, lo, nn, cut⟩).map (· - l.length)) with
    | inl f =>
      rw [hg] at hF2 kG1
      simp only at hF2
      have hR3 : Hid (R = .inl f) := hF2.symm
      unfold GonIs at kG1
      simp only at kG1
      rw [pn_eq] at kG1
      have kG2 : Hid (Calls Tryz.prog 167 #[.pointer (some ⟨C.g, 0, none⟩), .agg #[.int .i64 (pl : Nat), .int .u8 mj, .int .u8 lo, .int .u64 (nn : Nat), .bool cut], .int .u64 (l.length : Nat)] wr fun x w' => x = .panicked [{ v := .iface 61 (.agg #[.int .i64 f.1, .int .i64 (f.2 : Nat)]), recovered := false }] ∧ Kq C.g wr.heap.size wr w') := kG1
      clear hF2 hg kG1 kG
      go_wp2_with (go_at_call 167; refine kG2.out.mono ?_; rintro e w3 ⟨rfl, hq3⟩)
      show _ ∧ ItmIs C w w3 _ _ R
      rw [hR3.out]
      exact ⟨rfl, rfl, hS.out.1.2.1.next hq3⟩
    | inr bq =>
      obtain ⟨bb, q'⟩ := bq
      rw [hg] at hF2 kG1
      unfold GonIs at kG1
      simp only at kG1
      have kG2 : Hid (Calls Tryz.prog 167 #[.pointer (some ⟨C.g, 0, none⟩), .agg #[.int .i64 (pl : Nat), .int .u8 mj, .int .u8 lo, .int .u64 (nn : Nat), .bool cut], .int .u64 (l.length : Nat)] wr fun x w' => x = .returned (.bool bb) ∧ RK C wr w' q' m') := kG1
      have hgo := gon_ok hg hJ.out.2.2.1
      clear kG1 kG hg
      cases bb with
      | false =>
        simp only at hF2
        have hR3 : Hid (R = .inr (arrT l, q', m')) := hF2.symm
        clear hF2 hgo
        go_wp2_with (go_at_call 167; refine kG2.out.mono ?_; rintro e w3 ⟨rfl, hq3⟩; have S3 : Hid (AS C w w3 ⟨pl, mj, lo, nn, cut⟩ (26 - d) l a l.length c q' m') := hS.out.kq hq3; obtain ⟨f0, f1, f2, f3, f4, f5, f6, f7, f8⟩ := S3.out.2.2.2.1.fields; obtain ⟨⟨y0, y1, y2, y3, y4, y5, y6, y7, y8⟩, z0, z1, z2, z3, z4, z5, z6, z7, z8⟩ := zbox S3.out.2.2.1; unfold nbA at f0 f1 f2 f3 f4 f5 f6 f7 f8; simp only at f0 f1 f2 f3 f4 f5 f6 f7 f8; clear hq3)
        refine bodyPost_ret (v := .agg (nbA a l.length c).arr) (by unfold nbA Nb.arr; simp [results, Tryz.results127, go_sem, *]) rfl ?_
        show ItmIs C w _ _ _ R
        rw [hR3.out]
        have hJR : Hid (JR C w w3 q' m' (27 - d) (nbA a l.length c) (arrT l)) := by have := S3.out.fin3 (by have := hJ.out; omega); rw [show 26 - d + 1 = 27 - d by have := hdd.out; omega] at this; exact this
        refine JR.out (nb := nbA a l.length c) ?_
        repeat (first | with_reducible exact hJR.out | with_reducible refine JR.set ?_ (by omega) (by omega))
      | true =>
        obtain rfl : p = q' := (hgo.2.2 rfl).symm
        clear hgo
        simp only at hF2
        have kI0 : Hid (∀ wx, RSt C wx p m' → Calls Tryz.prog 48 #[.pointer (some ⟨C.g, 0, none⟩), .int .i64 ((d : Int) + 1)] wx fun x w' => ItmIs C wx w' (26 - d) x (rcF j C.zs 0 (d + 1) p m' none [] [])) := fun wx hx => by
          have hJ' := hJ.out
          have := hIh.out j (by omega) wx (d + 1) p m' hx hJ'.2.1 (by have := hdd.out; omega) hJ'.2.2.1 (by omega)
          rw [show 27 - (d + 1) = 26 - d by omega, show (((d + 1 : Nat) : Nat) : Int) = (d : Int) + 1 by omega] at this
          exact this
        have hbn := fun t r o (e : rcF j C.zs 0 (d + 1) p m' none [] [] = .inr (t, r, o)) => rc_bnd C.zs j 0 (by omega) _ _ _ _ _ _ _ _ _ e hJ.out.2.1 hJ.out.2.2.1
        have hbn' : Hid (∀ t r o, rcF j C.zs 0 (d + 1) p m' none [] [] = .inr (t, r, o) → p < r ∧ r ≤ C.zs.length ∧ m' < o ∧ o ≤ 1024) := fun t r o e => ⟨((hbn t r o e).2.2.2.2 rfl).1, (hbn t r o e).2.1, ((hbn t r o e).2.2.2.2 rfl).2, (hbn t r o e).2.2.2.1⟩
        clear hbn
        generalize hIR : rcF j C.zs 0 (d + 1) p m' none [] [] = IRR at *
        cases IRR with
        | inl f =>
          simp only at hF2
          have hR3 : Hid (R = .inl f) := hF2.symm
          unfold ItmIs at kI0
          simp only at kI0
          rw [pn_eq] at kI0
          clear hF2 hIR hbn'
          go_upto_region 5 with (go_at_call 167; refine kG2.out.mono ?_; rintro e w3 ⟨rfl, hq3⟩; have S3 : Hid (AS C w w3 ⟨pl, mj, lo, nn, cut⟩ (26 - d) l a l.length c p m') := hS.out.kq hq3; clear hq3)
          have c8 : w3.cell? ⟨w.heap.size + 2, 8, none⟩ = some (.slice a l.length c) := S3.out.2.2.2.1.cell 8
          go_region_dies
          all_goals (refine (kI0.out _ S3.out.1.1.drew).mono ?_; rintro e w5 ⟨rfl, hk5⟩; show _ ∧ ItmIs C w w5 _ _ R; rw [hR3.out]; exact ⟨rfl, rfl, (kqd S3.out.1.2.1).trans (hk5.mono S3.out.1.2.1.size)⟩)
        | inr tro =>
          obtain ⟨t, r, o⟩ := tro
          simp only at hF2
          have hN1 : Hid (p < r ∧ r ≤ C.zs.length ∧ m' < o ∧ o ≤ 1024) := hbn'.out t r o rfl
          have hR3 : Hid (rcF j C.zs 1 (d + 1) r o ((limA ⟨pl, mj, lo, nn, cut⟩).map (· - (l.length + 1))) [] (l ++ [t]) = R) := by show _ = _; rw [← lim_next]; exact hF2
          unfold ItmIs at kI0
          simp only at kI0
          have hcf : ∀ args w, (callFunc 48 args).run Tryz.prog w = .ok (.enter 48 args) w := fun _ _ => rfl
          clear hF2 hIR hbn'
          go_upto_region 5 with (go_at_call 167; refine kG2.out.mono ?_; rintro e w3 ⟨rfl, hq3⟩; have S3 : Hid (AS C w w3 ⟨pl, mj, lo, nn, cut⟩ (26 - d) l a l.length c p m') := hS.out.kq hq3; clear hq3)
          have c8 : w3.cell? ⟨w.heap.size + 2, 8, none⟩ = some (.slice a l.length c) := S3.out.2.2.2.1.cell 8
          have kV : Hid (Calls Tryz.prog 48 #[.pointer (some ⟨C.g, 0, none⟩), .int .i64 ((d : Int) + 1)] w3.drew fun e w' => ∃ x, e = .returned x ∧ ((∃ nb : Nb, x = .agg nb.arr ∧ NdW (Rg w3.drew.heap.size w'.heap.size) (26 - d) w' nb t) ∧ RK C w3.drew w' r o)) := (kI0.out _ S3.out.1.1.drew).mono fun e w' ⟨⟨nb, he, hn⟩, hk⟩ => ⟨_, he, ⟨nb, rfl, hn⟩, hk⟩
          obtain ⟨bi, S, hR2⟩ := S3.out.2.2.2.2
          have hR2' : Hid (R2 (w.heap.size + 3) (26 - d) w3.drew (.slice none 0 0) (.slice a l.length c) [] l [] bi S) := hR2.keep (Nat.le_refl _) fun _ _ _ => rfl
          have S3d : Hid (RK C w w3.drew p m' ∧ Blk w3.drew w.heap.size (Hd.arr ⟨pl, mj, lo, nn, cut⟩) 94 ∧ NBox w3.drew (w.heap.size + 1) zN ∧ NBox w3.drew (w.heap.size + 2) (nbA a l.length c)) := ⟨S3.out.1.drew, S3.out.2.1, S3.out.2.2.1, S3.out.2.2.2.1⟩
          have hbl : Hid (bi.length = l.length ∧ l.length ≤ 1024) := ⟨hR2.2.2.2.1, by have := hJ.out; omega⟩
          clear hR2 kG2 hIh
          go_region_law (first
            | (refine step_call2 (by rfl) 18 20 50 3 (by rfl) (by rfl) (by rfl) hcf kV.out ?_; rintro x w5 ⟨⟨b', hb', hn5⟩, hk5⟩; rw [Nb.arr] at hb'; subst hb'; have N5 : Hid (NdW (Rg w3.drew.heap.size w5.heap.size) (26 - d) w5 b' t) := hn5; have K5 : Hid (RK C w3.drew w5 r o) := hk5; have B5 : Hid (NBox w5 (w.heap.size + 2) (nbA a l.length c)) := S3d.out.2.2.2.same (hk5.2.1.block _ S3d.out.2.2.2.lt (by have := hgl.out; omega)); have c85 : w5.cell? ⟨w.heap.size + 2, 8, none⟩ = some (.slice a l.length c) := B5.out.cell 8; have c8a : (w5.alloc (.cells #[.int .i64 b'.kind, .int .u64 b'.num, .bool b'.neg, .string b'.dig, .int .i64 b'.exp, .string b'.txt, .slice b'.ab b'.lb b'.cb, .slice b'.ak b'.lk b'.ck, .slice b'.ai b'.li b'.ci] 26)).cell? ⟨w.heap.size + 2, 8, none⟩ = some (.slice a l.length c) := (B5.out.kept (alloc_below _ _) B5.out.lt).cell 8; have O5 : Hid (OwnsN 26 w5 (w.heap.size + 3) (.slice a l.length c) bi) := (hR2'.out.kq hk5.2.1 (by have := hgl.out; omega)).2.1; have l5 : Hid (w.heap.size + 3 ≤ w5.heap.size) := B5.out.lt; clear hn5 hk5)
            | (refine step_append_node (by rfl) _ _ (by rfl) (w.heap.size + 3) (.slice a l.length c) bi [b'] (by rfl) (World.ownsRow.kept (row := none) O5.out (⟨(alloc_below w5 _).os, (alloc_below w5 _).tape, (alloc_below w5 _).output, (alloc_below w5 _).size, fun k hk _ => (alloc_below w5 _).block k hk⟩) (by cases hv : (Value.slice a l.length c).ownBlock <;> simp)) ⟨w5.heap.size, 0, none⟩ 1 1 (by rfl) rfl (by decide) (nine1 w5 b') (by have := hbl.out; simp; omega) (Nat.le_trans l5.out (alloc_below w5 _).size) ?_; intro v6 w6 ho6 hg6 hn6; obtain ⟨a6, c6, rfl, e6, f6, F6⟩ := arr_put S3d.out.1 S3d.out.2.1 S3d.out.2.2.1 S3d.out.2.2.2 hR2'.out K5.out N5.out ho6 hg6 hn6; have F : Hid (∃ a' c', AS C w (w6.setCell ⟨w.heap.size + 2, 8, none⟩ (.slice a6 (l.length + 1) c6)) ⟨pl, mj, lo, nn, cut⟩ (26 - d) (l ++ [t]) a' (l.length + 1) c' r o) := ⟨a6, c6, F6⟩; clear ho6 hg6 hn6 F6))
          all_goals
            have wl : IntKind.u64.wrap ((l.length : Int) + 1) = (l.length : Int) + 1 := by rw [IntKind.wrap_u64]; have := hJ.out; omega
            go_wp2_with fail
            go_roundw
            case rel =>
              obtain ⟨a', c', hAS'⟩ := F.out
              exact ⟨l.length + 1, by go_num, j, r, o, l ++ [t], a', l.length + 1, c', hAS', by simp, by rw [List.length_append, List.length_singleton]; exact hR3.out, by have := hJ.out; omega, hN1.out.2.2.2, hN1.out.2.1, by have := hJ.out; have := hN1.out; omega, by have := hJ.out; have := hN1.out; rw [List.length_append, List.length_singleton]; omega⟩
            case measure =>
              obtain ⟨a', c', hAS'⟩ := F.out
              rw [pAt_of hAS'.1.1]
              have := hpA.out
              have := hN1.out
              omega
end Go.Proofs.YtnjbppfanmmifaaGreatDoor
namespace Go.Proofs.YtnjbppfanmmifaaGreatDoor
open Go.RowKit
set_option linter.unusedVariables false
/-- The kinds of a row's first two nodes. -/
theorem pr_cases (t : Tr) : (prT t).isSome = (decide (t.kind = 7) && (decide (t.kids.length = 2) && (decide ((t.kids.getD 0 zT).kind = 2) && decide ((t.kids.getD 1 zT).kind = 2)))) := by
  unfold prT
  split
  · rename_i a b h
    rw [h]
    by_cases h1 : t.kind = 7 ∧ a.kind = 2 ∧ b.kind = 2
    · rw [if_pos h1]; simp [h1.1, h1.2.1, h1.2.2]
    · rw [if_neg h1]
      simp
      intro q1 q2 q3
      exact h1 ⟨q1, q2, q3⟩
  · rename_i h
    have : t.kids.length ≠ 2 := fun hl => by
      match hk : t.kids, hl with
      | [a, b], _ => exact h a b hk
    simp [this]
set_option maxHeartbeats 4000000 in
set_option maxRecDepth 100000 in
theorem cispair_any {D : Nat} {t : Tr} {b : Nb} {w : World} (hN : Nd (D + 1) w b t) : Calls Tryz.prog 198 #[.agg b.arr] w fun e w' => e = .returned (.bool (prT t).isSome) ∧ Below w.heap.size w w' := by
  have hal := alloc_below w (.cells b.arr 26)
  have hW : Hid (Below w.heap.size w (w.alloc (.cells b.arr 26))) := hal
  obtain ⟨a0, a1, a2, a3, a4, a5, a6, a7, a8⟩ := (nbox_new w b).fields
  have hk0 : b.kind = t.kind := hN.1.1
  have hRow := hN.2.2.2.2
  have hlen : t.kids.length = b.li := hRow.1
  rw [pr_cases t]
  by_cases h7 : t.kind = 7
  · by_cases h2 : t.kids.length = 2
    · have hl2 : b.li = 2 := by omega
      rcases hRow.2.2 with h0 | ⟨bk, off, ha, hc⟩
      · rw [h0] at h2; simp at h2
      · obtain ⟨n0, hc0, hq0⟩ := hc 0 (by omega)
        obtain ⟨n1, hc1, hq1⟩ := hc 1 (by omega)
        have e0 : (t.kids.getD 0 zT).kind = n0.kind := by
          rw [List.getD_eq_getElem?_getD, List.getElem?_eq_getElem (by omega : 0 < t.kids.length)]
          match D, hq0 with
          | D + 1, hq0 => exact hq0.1.1.symm
        have e1 : (t.kids.getD 1 zT).kind = n1.kind := by
          rw [List.getD_eq_getElem?_getD, List.getElem?_eq_getElem (by omega : 1 < t.kids.length)]
          match D, hq1 with
          | D + 1, hq1 => exact hq1.1.1.symm
        have g0 := hc0 0 (by omega)
        have g1 := hc1 0 (by omega)
        have hbk : bk < w.heap.size := some_block (g0.trans (List.getElem?_eq_getElem (by simp [Nb.cells])))
        have c0 : (w.alloc (.cells b.arr 26)).cell? ⟨bk, off, none⟩ = some (.int .i64 n0.kind) := by rw [hal.cell (p := ⟨bk, off, none⟩) hbk]; simpa [Nb.cells] using g0
        have c1 : (w.alloc (.cells b.arr 26)).cell? ⟨bk, off + 9, none⟩ = some (.int .i64 n1.kind) := by rw [hal.cell (p := ⟨bk, off + 9, none⟩) hbk]; simpa [Nb.cells] using g1
        rw [e0, e1, show decide (t.kind = 7) = true from by simpa using h7, show decide (t.kids.length = 2) = true from by simpa using h2, Bool.true_and, Bool.true_and]
        have hk7 : b.kind = 7 := by omega
        rw [hl2, ha] at a8
        rw [hk7] at a0
        have hcap := hRow.2.1.1
        rw [hl2] at hcap
        obtain ⟨cc, hcc⟩ : ∃ cc, b.ci = cc := ⟨_, rfl⟩
        rw [hcc] at a8 hcap
        clear hN hRow hc hc0 hc1 hq0 hq1 g0 g1 e0 e1 h7 h2 hlen hk0 hal
        unfold Nb.arr at *
        generalize n0.kind = x0 at *
        generalize n1.kind = x1 at *
        have hcc2 : (2 : Nat) ≤ cc := hcap
        rw [hk7, hl2, ha, hcc] at hW a1 a2 a3 a4 a5 a6 a7 a0 a8 c0 c1 ⊢
        clear hcc ha hl2 hk7 hcap
        by_cases q0 : x0 = 2
        · subst q0
          rw [show decide ((2 : Int) = 2) = true from rfl, Bool.true_and]
          have hx1 : (x1 == 2) = decide (x1 = 2) := by by_cases q : x1 = 2 <;> simp [q]
          go_enter Tryz.func198, Tryz.ntmps198
          go_wp2
          go_ret
          exact ⟨rfl, hW.out⟩
        · have z0 : (x0 == 2) = false := by simpa using q0
          rw [show decide (x0 = 2) = false from by simpa using q0, Bool.false_and]
          clear q0
          go_enter Tryz.func198, Tryz.ntmps198
          go_wp2
          go_ret
          exact ⟨rfl, hW.out⟩
    · have hl2 : ¬ b.li = 2 := by omega
      have z2 : ((b.li : Int) == 2) = false := by simp; omega
      have z2' : (b.li == 2) = false := by simpa using hl2
      rw [show decide (t.kids.length = 2) = false from by simpa using h2, Bool.false_and, Bool.and_false]
      have hk7 : b.kind = 7 := by omega
      rw [hk7] at a0
      unfold Nb.arr at *
      rw [hk7] at hW a1 a2 a3 a4 a5 a6 a7 a0 a8 ⊢
      clear hN hRow h7 h2 hlen hk0 hal hl2 hk7
      go_enter Tryz.func198, Tryz.ntmps198
      go_wp2
      go_ret
      exact ⟨rfl, hW.out⟩
  · have z7 : (b.kind == 7) = false := by rw [hk0]; simpa using h7
    rw [show decide (t.kind = 7) = false from by simpa using h7, Bool.false_and]
    unfold Nb.arr at *
    clear hN hRow h7 hlen hk0 hal
    go_enter Tryz.func198, Tryz.ntmps198
    go_wp2
    go_ret
    exact ⟨rfl, hW.out⟩
end Go.Proofs.YtnjbppfanmmifaaGreatDoor
