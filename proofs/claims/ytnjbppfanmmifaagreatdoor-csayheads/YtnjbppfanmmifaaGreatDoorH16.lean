/-
  The program's reader of CBOR: an Array.
  The program's reader of CBOR: an Array of two Int.
  The program's reader of CBOR: simple values and Floats.
  The program's reader of CBOR: a tag and what it stands ahead of: the node, where it is no number.
  The program's reader of CBOR: the tags 2 and 3 of Bytes.
  The program's reader of CBOR: the tag 4 of two Int.
  The program's reader of CBOR: the tag 4 of two Int; every tag.
  The program's reader of CBOR: a tag and its item.
  The program's reader of CBOR: a tag, whatever its item is.
-/
import Derived.Test.YtnjbppfanmmifaaGreatDoorH15
namespace Go.Proofs.YtnjbppfanmmifaaGreatDoor
open Go.RowKit
set_option linter.unusedVariables false
theorem nine1 (w : World) (nb : Nb) : Nine (w.alloc (.cells nb.arr 26)) (some ⟨w.heap.size, 0, none⟩) [nb] := by
  refine .inr ⟨w.heap.size, 0, rfl, fun i hi j hj => ?_⟩
  have e : i = 0 := by simp at hi; omega
  subst e
  rw [Nat.zero_add, Nat.zero_mul, Nat.zero_add]
  exact (nbox_new w nb).cell j
def JR (C : CX) (w X : World) (r n D : Nat) (nb : Nb) (t : Tr) : Prop := RK C w X r n ∧ NdW (Rg (w.heap.size + 3) X.heap.size) D X nb t
theorem JR.set {C : CX} {w X : World} {r n D j k : Nat} {nb : Nb} {t : Tr} {v : Value} (h : JR C w X r n D nb t) (h0 : w.heap.size ≤ k) (h1 : k < w.heap.size + 3) : JR C w (X.setCell ⟨k, j, none⟩ v) r n D nb t :=
  ⟨h.1.set h0, by rw [set_size]; exact h.2.stays fun i hi => setk (by have := hi.1; omega) v⟩
theorem JR.out {C : CX} {w X : World} {r n D : Nat} {nb : Nb} {t : Tr} (h : JR C w X r n D nb t) : (∃ nb' : Nb, Ending.returned (.agg nb.arr) = .returned (.agg nb'.arr) ∧ NdW (Rg w.heap.size X.heap.size) D X nb' t) ∧ RK C w X r n := ⟨⟨nb, rfl, h.2.mono fun k hk => ⟨by have := hk.1; omega, hk.2⟩⟩, h.1⟩
theorem AS.fin3 {C : CX} {w wr : World} {hd : Hd} {D : Nat} {l : List Tr} {a : Option Addr} {n c p m : Nat} (h : AS C w wr hd D l a n c p m) (hl : l.length ≤ 1024) : JR C w wr p m (D + 1) (nbA a n c) (arrT l) := by
  obtain ⟨h1, h2, h3, h4, bi, S, r1, r2, r3, r4, r5, r6, r7, r8⟩ := h
  obtain ⟨f1, f2, f3⟩ := rown_fin r2 r4 r6 (fun k hk => ⟨(r7 k hk).1, (r7 k hk).2.1⟩) (by omega)
  have r0 : ∀ k, Room k none 0 0 := fun k => ⟨Nat.le_refl _, Nat.zero_le _, fun _ => rfl, by omega⟩
  refine ⟨h1, ⟨rfl, rfl, rfl, rfl, rfl, rfl⟩, ⟨rfl, rfl, rfl, by show (0 : Nat) ≤ _; omega, by show (0 : Nat) ≤ _; omega⟩, ⟨rfl, r0 1, ⟨by simp [arrT], by simp [arrT], .inl rfl⟩⟩, ⟨wn_zero _ _ _ _, wn_zero _ _ _ _, f3⟩, ⟨rfl, r0 136, .inl rfl⟩, f2⟩
theorem AS.kq {C : CX} {w wr wx : World} {hd : Hd} {D : Nat} {l : List Tr} {a : Option Addr} {n c p m q o : Nat} (h : AS C w wr hd D l a n c p m) (hk : RK C wr wx q o) : AS C w wx hd D l a n c q o := by
  obtain ⟨h1, h2, h3, h4, bi, S, hr⟩ := h
  have hg := h1.2.2
  exact ⟨h1.next hk, Blk.kq h2 hk.2.1 h2.lt (by omega), h3.same (hk.2.1.block _ h3.lt (by omega)), h4.same (hk.2.1.block _ h4.lt (by omega)), bi, S, hr.kq hk.2.1 (by omega)⟩
/-- What is left of an Array to be read. -/
def AL (C : CX) (w wr : World) (hd : Hd) (d : Nat) (K : Nat) (done : Nat) (R : Sum (Int × Nat) (Tr × Nat × Nat)) : Prop := ∃ (j p m : Nat) (l : List Tr) (a : Option Addr) (n c : Nat), AS C w wr hd (26 - d) l a n c p m ∧ done = l.length ∧ rcF j C.zs 1 (d + 1) p m ((limA hd).map (· - l.length)) [] l = R ∧ j ≤ K ∧ m ≤ 1024 ∧ p ≤ C.zs.length ∧ 2 * (C.zs.length - p) + 2 ≤ j ∧ l.length ≤ m
/-- An Array. -/
def ArrAt (C : CX) (k : Nat) : Prop := ∀ (w : World) (hd : Hd) (d q m : Nat), RSt C w q m → m ≤ 1024 → d ≤ 24 → q ≤ C.zs.length → 2 * (C.zs.length - q) + 2 ≤ k → Calls Tryz.prog 127 #[.pointer (some ⟨C.g, 0, none⟩), .agg hd.arr, .int .i64 (d : Nat)] w fun x w' => ItmIs C w w' (27 - d) x (rcF k C.zs 1 (d + 1) q m (limA hd) [] [])
theorem lim_next (o : Option Nat) (n : Nat) : (o.map (· - n)).map (· - 1) = o.map (· - (n + 1)) := by cases o <;> simp; omega
set_option maxHeartbeats 8000000 in
set_option maxRecDepth 100000 in
theorem array_step {C : CX} {k : Nat} (ih : ∀ j, j ≤ k → ItmAt C j) : ArrAt C k := by
  intro w hd d q m h hm hd24 hq hk
  have hgl : Hid (C.g < w.heap.size) := h.lt
  have kG : Hid (∀ wx p m (done : Nat), RSt C wx p m → Calls Tryz.prog 167 #[.pointer (some ⟨C.g, 0, none⟩), .agg hd.arr, .int .u64 (done : Nat)] wx fun x w' => GonIs C wx w' m x (gonA C.zs p ((limA hd).map (· - done)))) := fun wx p m done hx => cgoes_any hx hd done
  obtain ⟨R, hRR⟩ : ∃ R, R = rcF k C.zs 1 (d + 1) q m (limA hd) [] [] := ⟨_, rfl⟩
  rw [← hRR]
  have hIh : Hid (∀ j, j ≤ k → ItmAt C j) := ih
  have wd : IntKind.i64.wrap ((d : Int) + 1) = (d : Int) + 1 := by rw [IntKind.wrap_i64]; omega
  have hdd : Hid (d ≤ 24) := hd24
  have hB0 := blk_new w hd.arr 94
  have hA0 : Hid (AL C w (((w.alloc (.cells hd.arr 94)).alloc (.cells zN.arr 26)).alloc (.cells (nbA none 0 0).arr 26)) hd d k 0 R) := by
    have h1 := alloc_below w (.cells hd.arr 94)
    have h2 := alloc_below (w.alloc (.cells hd.arr 94)) (.cells zN.arr 26)
    have h3 := alloc_below ((w.alloc (.cells hd.arr 94)).alloc (.cells zN.arr 26)) (.cells (nbA none 0 0).arr 26)
    have s1 : (w.alloc (.cells hd.arr 94)).heap.size = w.heap.size + 1 := by simp
    have s2 : ((w.alloc (.cells hd.arr 94)).alloc (.cells zN.arr 26)).heap.size = w.heap.size + 2 := by simp
    refine ⟨k, q, m, [], none, 0, 0, ⟨((h.rk.alloc _).alloc _).alloc _, Blk.kept (Blk.kept hB0 h2 (by omega)) h3 (by omega), ?_, ?_, [], fun _ => False, r2_nil _ _ _⟩, rfl, ?_, Nat.le_refl _, hm, hq, hk, Nat.zero_le _⟩
    · have := (nbox_new (w.alloc (.cells hd.arr 94)) zN).kept h3 (by omega)
      rwa [s1] at this
    · have := nbox_new ((w.alloc (.cells hd.arr 94)).alloc (.cells zN.arr 26)) (nbA none 0 0)
      rwa [s2] at this
    · rw [hRR]
      congr 1
      cases limA hd <;> simp
  obtain ⟨pl, mj, lo, nn, cut⟩ := hd
  unfold Hd.arr zN nbA Nb.arr at *
  simp only at *
  clear hRR h hm hd24 hq hk ih hB0
  go_enter Tryz.func127, Tryz.ntmps127
  go_wp2_with fail
  rw [show w.heap.size + 1 + 1 = w.heap.size + 2 from rfl]
  go_loopw [8] (fun s8 wr => ∃ done : Nat, s8 = .int .u64 done ∧ Hid (AL C w wr ⟨pl, mj, lo, nn, cut⟩ d k done R)) (fun _ wr => C.zs.length + 1 - pAt C wr)
  case atStart => exact ⟨0, rfl, hA0⟩
  case round =>
    obtain ⟨done, rfl, hP⟩ := hrel
    obtain ⟨j, p, m', l, a, n, c, hS', hdn, hF', hjk', hm', hp', hfu', hlm'⟩ := hP.out
    subst hdn
    have hS : Hid (AS C w wr ⟨pl, mj, lo, nn, cut⟩ (26 - d) l a n c p m') := hS'
    have hnl : n = l.length := hS'.len
    obtain rfl := hnl
    have hF : Hid (rcF j C.zs 1 (d + 1) p m' ((limA ⟨pl, mj, lo, nn, cut⟩).map (· - l.length)) [] l = R) := hF'
    have hJ : Hid (j ≤ k ∧ m' ≤ 1024 ∧ p ≤ C.zs.length ∧ 2 * (C.zs.length - p) + 2 ≤ j ∧ l.length ≤ m') := ⟨hjk', hm', hp', hfu', hlm'⟩
    have hpA : Hid (pAt C wr = p) := pAt_of hS'.1.1
    have hx := hS'.2.1
    have b0 := hx.cell 0
    have b1 := hx.cell 1
    have b2 := hx.cell 2
    have b3 := hx.cell 3
    have b4 := hx.cell 4
    unfold Hd.arr at b0 b1 b2 b3 b4
    simp at b0 b1 b2 b3 b4
    have kG1 := kG.out wr p m' l.length hS'.1.1
    obtain ⟨j, rfl⟩ : ∃ j', j = j' + 1 := ⟨j - 1, by omega⟩
    have hF2 := hF'
    rw [rc1_eq] at hF2
    clear hS' hF' hjk' hm' hp' hfu' hlm' hP hx hA0
    cases hg : gonA C.zs p ((limA ⟨pl, mj, lo, nn, cut⟩).map (· - l.length)) with
    | inl f =>
      rw [hg] at hF2 kG1
      simp only at hF2
      have hR3 : Hid (R = .inl f) := hF2.symm
      unfold GonIs at kG1
      simp only at kG1
      rw [pn_eq] at kG1
      have kG2 : Hid (Calls Tryz.prog 167 #[.pointer (some ⟨C.g, 0, none⟩), .agg #[.int .i64 (pl : Nat), .int .u8 mj, .int .u8 lo, .int .u64 (nn : Nat), .bool cut], .int .u64 (l.length : Nat)] wr fun x w' => x = .panicked [{ v := .iface 61 (.agg #[.int .i64 f.1, .int .i64 (f.2 : Nat)]), recovered := false }] ∧ Kq C.g wr.heap.size wr w') := kG1
      clear hF2 hg kG1 kG
      go_wp2_with (go_at_call 167; refine kG2.out.mono ?_; rintro e w3 ⟨rfl, hq3⟩)
      show _ ∧ ItmIs C w w3 _ _ R
      rw [hR3.out]
      exact ⟨rfl, rfl, hS.out.1.2.1.next hq3⟩
    | inr bq =>
      obtain ⟨bb, q'⟩ := bq
      rw [hg] at hF2 kG1
      unfold GonIs at kG1
      simp only at kG1
      have kG2 : Hid (Calls Tryz.prog 167 #[.pointer (some ⟨C.g, 0, none⟩), .agg #[.int .i64 (pl : Nat), .int .u8 mj, .int .u8 lo, .int .u64 (nn : Nat), .bool cut], .int .u64 (l.length : Nat)] wr fun x w' => x = .returned (.bool bb) ∧ RK C wr w' q' m') := kG1
      have hgo := gon_ok hg hJ.out.2.2.1
      clear kG1 kG hg
      cases bb with
      | false =>
        simp only at hF2
        have hR3 : Hid (R = .inr (arrT l, q', m')) := hF2.symm
        clear hF2 hgo
        go_wp2_with (go_at_call 167; refine kG2.out.mono ?_; rintro e w3 ⟨rfl, hq3⟩; have S3 : Hid (AS C w w3 ⟨pl, mj, lo, nn, cut⟩ (26 - d) l a l.length c q' m') := hS.out.kq hq3; obtain ⟨f0, f1, f2, f3, f4, f5, f6, f7, f8⟩ := S3.out.2.2.2.1.fields; obtain ⟨⟨y0, y1, y2, y3, y4, y5, y6, y7, y8⟩, z0, z1, z2, z3, z4, z5, z6, z7, z8⟩ := zbox S3.out.2.2.1; unfold nbA at f0 f1 f2 f3 f4 f5 f6 f7 f8; simp only at f0 f1 f2 f3 f4 f5 f6 f7 f8; clear hq3)
        refine bodyPost_ret (v := .agg (nbA a l.length c).arr) (by unfold nbA Nb.arr; simp [results, Tryz.results127, go_sem, *]) rfl ?_
        show ItmIs C w _ _ _ R
        rw [hR3.out]
        have hJR : Hid (JR C w w3 q' m' (27 - d) (nbA a l.length c) (arrT l)) := by have := S3.out.fin3 (by have := hJ.out; omega); rw [show 26 - d + 1 = 27 - d by have := hdd.out; omega] at this; exact this
        refine JR.out (nb := nbA a l.length c) ?_
        repeat (first | with_reducible exact hJR.out | with_reducible refine JR.set ?_ (by omega) (by omega))
      | true =>
        obtain rfl : p = q' := (hgo.2.2 rfl).symm
        clear hgo
        simp only at hF2
        have kI0 : Hid (∀ wx, RSt C wx p m' → Calls Tryz.prog 48 #[.pointer (some ⟨C.g, 0, none⟩), .int .i64 ((d : Int) + 1)] wx fun x w' => ItmIs C wx w' (26 - d) x (rcF j C.zs 0 (d + 1) p m' none [] [])) := fun wx hx => by
          have hJ' := hJ.out
          have := hIh.out j (by omega) wx (d + 1) p m' hx hJ'.2.1 (by have := hdd.out; omega) hJ'.2.2.1 (by omega)
          rw [show 27 - (d + 1) = 26 - d by omega, show (((d + 1 : Nat) : Nat) : Int) = (d : Int) + 1 by omega] at this
          exact this
        have hbn := fun t r o (e : rcF j C.zs 0 (d + 1) p m' none [] [] = .inr (t, r, o)) => rc_bnd C.zs j 0 (by omega) _ _ _ _ _ _ _ _ _ e hJ.out.2.1 hJ.out.2.2.1
        have hbn' : Hid (∀ t r o, rcF j C.zs 0 (d + 1) p m' none [] [] = .inr (t, r, o) → p < r ∧ r ≤ C.zs.length ∧ m' < o ∧ o ≤ 1024) := fun t r o e => ⟨((hbn t r o e).2.2.2.2 rfl).1, (hbn t r o e).2.1, ((hbn t r o e).2.2.2.2 rfl).2, (hbn t r o e).2.2.2.1⟩
        clear hbn
        generalize hIR : rcF j C.zs 0 (d + 1) p m' none [] [] = IRR at *
        cases IRR with
        | inl f =>
          simp only at hF2
          have hR3 : Hid (R = .inl f) := hF2.symm
          unfold ItmIs at kI0
          simp only at kI0
          rw [pn_eq] at kI0
          clear hF2 hIR hbn'
          go_upto_region 5 with (go_at_call 167; refine kG2.out.mono ?_; rintro e w3 ⟨rfl, hq3⟩; have S3 : Hid (AS C w w3 ⟨pl, mj, lo, nn, cut⟩ (26 - d) l a l.length c p m') := hS.out.kq hq3; clear hq3)
          have c8 : w3.cell? ⟨w.heap.size + 2, 8, none⟩ = some (.slice a l.length c) := S3.out.2.2.2.1.cell 8
          go_region_dies
          all_goals (refine (kI0.out _ S3.out.1.1.drew).mono ?_; rintro e w5 ⟨rfl, hk5⟩; show _ ∧ ItmIs C w w5 _ _ R; rw [hR3.out]; exact ⟨rfl, rfl, (kqd S3.out.1.2.1).trans (hk5.mono S3.out.1.2.1.size)⟩)
        | inr tro =>
          obtain ⟨t, r, o⟩ := tro
          simp only at hF2
          have hN1 : Hid (p < r ∧ r ≤ C.zs.length ∧ m' < o ∧ o ≤ 1024) := hbn'.out t r o rfl
          have hR3 : Hid (rcF j C.zs 1 (d + 1) r o ((limA ⟨pl, mj, lo, nn, cut⟩).map (· - (l.length + 1))) [] (l ++ [t]) = R) := by show _ = _; rw [← lim_next]; exact hF2
          unfold ItmIs at kI0
          simp only at kI0
          have hcf : ∀ args w, (callFunc 48 args).run Tryz.prog w = .ok (.enter 48 args) w := fun _ _ => rfl
          clear hF2 hIR hbn'
          go_upto_region 5 with (go_at_call 167; refine kG2.out.mono ?_; rintro e w3 ⟨rfl, hq3⟩; have S3 : Hid (AS C w w3 ⟨pl, mj, lo, nn, cut⟩ (26 - d) l a l.length c p m') := hS.out.kq hq3; clear hq3)
          have c8 : w3.cell? ⟨w.heap.size + 2, 8, none⟩ = some (.slice a l.length c) := S3.out.2.2.2.1.cell 8
          have kV : Hid (Calls Tryz.prog 48 #[.pointer (some ⟨C.g, 0, none⟩), .int .i64 ((d : Int) + 1)] w3.drew fun e w' => ∃ x, e = .returned x ∧ ((∃ nb : Nb, x = .agg nb.arr ∧ NdW (Rg w3.drew.heap.size w'.heap.size) (26 - d) w' nb t) ∧ RK C w3.drew w' r o)) := (kI0.out _ S3.out.1.1.drew).mono fun e w' ⟨⟨nb, he, hn⟩, hk⟩ => ⟨_, he, ⟨nb, rfl, hn⟩, hk⟩
          obtain ⟨bi, S, hR2⟩ := S3.out.2.2.2.2
          have hR2' : Hid (R2 (w.heap.size + 3) (26 - d) w3.drew (.slice none 0 0) (.slice a l.length c) [] l [] bi S) := hR2.keep (Nat.le_refl _) fun _ _ _ => rfl
          have S3d : Hid (RK C w w3.drew p m' ∧ Blk w3.drew w.heap.size (Hd.arr ⟨pl, mj, lo, nn, cut⟩) 94 ∧ NBox w3.drew (w.heap.size + 1) zN ∧ NBox w3.drew (w.heap.size + 2) (nbA a l.length c)) := ⟨S3.out.1.drew, S3.out.2.1, S3.out.2.2.1, S3.out.2.2.2.1⟩
          have hbl : Hid (bi.length = l.length ∧ l.length ≤ 1024) := ⟨hR2.2.2.2.1, by have := hJ.out; omega⟩
          clear hR2 kG2 hIh
          go_region_law (first
            | (refine step_call2 (by rfl) 18 20 50 3 (by rfl) (by rfl) (by rfl) hcf kV.out ?_; rintro x w5 ⟨⟨b', hb', hn5⟩, hk5⟩; rw [Nb.arr] at hb'; subst hb'; have N5 : Hid (NdW (Rg w3.drew.heap.size w5.heap.size) (26 - d) w5 b' t) := hn5; have K5 : Hid (RK C w3.drew w5 r o) := hk5; have B5 : Hid (NBox w5 (w.heap.size + 2) (nbA a l.length c)) := S3d.out.2.2.2.same (hk5.2.1.block _ S3d.out.2.2.2.lt (by have := hgl.out; omega)); have c85 : w5.cell? ⟨w.heap.size + 2, 8, none⟩ = some (.slice a l.length c) := B5.out.cell 8; have c8a : (w5.alloc (.cells #[.int .i64 b'.kind, .int .u64 b'.num, .bool b'.neg, .string b'.dig, .int .i64 b'.exp, .string b'.txt, .slice b'.ab b'.lb b'.cb, .slice b'.ak b'.lk b'.ck, .slice b'.ai b'.li b'.ci] 26)).cell? ⟨w.heap.size + 2, 8, none⟩ = some (.slice a l.length c) := (B5.out.kept (alloc_below _ _) B5.out.lt).cell 8; have O5 : Hid (OwnsN 26 w5 (w.heap.size + 3) (.slice a l.length c) bi) := (hR2'.out.kq hk5.2.1 (by have := hgl.out; omega)).2.1; have l5 : Hid (w.heap.size + 3 ≤ w5.heap.size) := B5.out.lt; clear hn5 hk5)
            | (refine step_append_node (by rfl) _ _ (by rfl) (w.heap.size + 3) (.slice a l.length c) bi [b'] (by rfl) (World.ownsRow.kept (row := none) O5.out (⟨(alloc_below w5 _).os, (alloc_below w5 _).tape, (alloc_below w5 _).output, (alloc_below w5 _).size, fun k hk _ => (alloc_below w5 _).block k hk⟩) (by cases hv : (Value.slice a l.length c).ownBlock <;> simp)) ⟨w5.heap.size, 0, none⟩ 1 1 (by rfl) rfl (by decide) (nine1 w5 b') (by have := hbl.out; simp; omega) (Nat.le_trans l5.out (alloc_below w5 _).size) ?_; intro v6 w6 ho6 hg6 hn6; obtain ⟨a6, c6, rfl, e6, f6, F6⟩ := arr_put S3d.out.1 S3d.out.2.1 S3d.out.2.2.1 S3d.out.2.2.2 hR2'.out K5.out N5.out ho6 hg6 hn6; have F : Hid (∃ a' c', AS C w (w6.setCell ⟨w.heap.size + 2, 8, none⟩ (.slice a6 (l.length + 1) c6)) ⟨pl, mj, lo, nn, cut⟩ (26 - d) (l ++ [t]) a' (l.length + 1) c' r o) := ⟨a6, c6, F6⟩; clear ho6 hg6 hn6 F6))
          all_goals
            have wl : IntKind.u64.wrap ((l.length : Int) + 1) = (l.length : Int) + 1 := by rw [IntKind.wrap_u64]; have := hJ.out; omega
            go_wp2_with fail
            go_roundw
            case rel =>
              obtain ⟨a', c', hAS'⟩ := F.out
              exact ⟨l.length + 1, by go_num, j, r, o, l ++ [t], a', l.length + 1, c', hAS', by simp, by rw [List.length_append, List.length_singleton]; exact hR3.out, by have := hJ.out; omega, hN1.out.2.2.2, hN1.out.2.1, by have := hJ.out; have := hN1.out; omega, by have := hJ.out; have := hN1.out; rw [List.length_append, List.length_singleton]; omega⟩
            case measure =>
              obtain ⟨a', c', hAS'⟩ := F.out
              rw [pAt_of hAS'.1.1]
              have := hpA.out
              have := hN1.out
              omega
end Go.Proofs.YtnjbppfanmmifaaGreatDoor
namespace Go.Proofs.YtnjbppfanmmifaaGreatDoor
open Go.RowKit
set_option linter.unusedVariables false
/-- The kinds of a row's first two nodes. -/
theorem pr_cases (t : Tr) : (prT t).isSome = (decide (t.kind = 7) && (decide (t.kids.length = 2) && (decide ((t.kids.getD 0 zT).kind = 2) && decide ((t.kids.getD 1 zT).kind = 2)))) := by
  unfold prT
  split
  · rename_i a b h
    rw [h]
    by_cases h1 : t.kind = 7 ∧ a.kind = 2 ∧ b.kind = 2
    · rw [if_pos h1]; simp [h1.1, h1.2.1, h1.2.2]
    · rw [if_neg h1]
      simp
      intro q1 q2 q3
      exact h1 ⟨q1, q2, q3⟩
  · rename_i h
    have : t.kids.length ≠ 2 := fun hl => by
      match hk : t.kids, hl with
      | [a, b], _ => exact h a b hk
    simp [this]
set_option maxHeartbeats 4000000 in
set_option maxRecDepth 100000 in
theorem cispair_any {D : Nat} {t : Tr} {b : Nb} {w : World} (hN : Nd (D + 1) w b t) : Calls Tryz.prog 198 #[.agg b.arr] w fun e w' => e = .returned (.bool (prT t).isSome) ∧ Below w.heap.size w w' := by
  have hal := alloc_below w (.cells b.arr 26)
  have hW : Hid (Below w.heap.size w (w.alloc (.cells b.arr 26))) := hal
  obtain ⟨a0, a1, a2, a3, a4, a5, a6, a7, a8⟩ := (nbox_new w b).fields
  have hk0 : b.kind = t.kind := hN.1.1
  have hRow := hN.2.2.2.2
  have hlen : t.kids.length = b.li := hRow.1
  rw [pr_cases t]
  by_cases h7 : t.kind = 7
  · by_cases h2 : t.kids.length = 2
    · have hl2 : b.li = 2 := by omega
      rcases hRow.2.2 with h0 | ⟨bk, off, ha, hc⟩
      · rw [h0] at h2; simp at h2
      · obtain ⟨n0, hc0, hq0⟩ := hc 0 (by omega)
        obtain ⟨n1, hc1, hq1⟩ := hc 1 (by omega)
        have e0 : (t.kids.getD 0 zT).kind = n0.kind := by
          rw [List.getD_eq_getElem?_getD, List.getElem?_eq_getElem (by omega : 0 < t.kids.length)]
          match D, hq0 with
          | D + 1, hq0 => exact hq0.1.1.symm
        have e1 : (t.kids.getD 1 zT).kind = n1.kind := by
          rw [List.getD_eq_getElem?_getD, List.getElem?_eq_getElem (by omega : 1 < t.kids.length)]
          match D, hq1 with
          | D + 1, hq1 => exact hq1.1.1.symm
        have g0 := hc0 0 (by omega)
        have g1 := hc1 0 (by omega)
        have hbk : bk < w.heap.size := some_block (g0.trans (List.getElem?_eq_getElem (by simp [Nb.cells])))
        have c0 : (w.alloc (.cells b.arr 26)).cell? ⟨bk, off, none⟩ = some (.int .i64 n0.kind) := by rw [hal.cell (p := ⟨bk, off, none⟩) hbk]; simpa [Nb.cells] using g0
        have c1 : (w.alloc (.cells b.arr 26)).cell? ⟨bk, off + 9, none⟩ = some (.int .i64 n1.kind) := by rw [hal.cell (p := ⟨bk, off + 9, none⟩) hbk]; simpa [Nb.cells] using g1
        rw [e0, e1, show decide (t.kind = 7) = true from by simpa using h7, show decide (t.kids.length = 2) = true from by simpa using h2, Bool.true_and, Bool.true_and]
        have hk7 : b.kind = 7 := by omega
        rw [hl2, ha] at a8
        rw [hk7] at a0
        have hcap := hRow.2.1.1
        rw [hl2] at hcap
        obtain ⟨cc, hcc⟩ : ∃ cc, b.ci = cc := ⟨_, rfl⟩
        rw [hcc] at a8 hcap
        clear hN hRow hc hc0 hc1 hq0 hq1 g0 g1 e0 e1 h7 h2 hlen hk0 hal
        unfold Nb.arr at *
        generalize n0.kind = x0 at *
        generalize n1.kind = x1 at *
        have hcc2 : (2 : Nat) ≤ cc := hcap
        rw [hk7, hl2, ha, hcc] at hW a1 a2 a3 a4 a5 a6 a7 a0 a8 c0 c1 ⊢
        clear hcc ha hl2 hk7 hcap
        by_cases q0 : x0 = 2
        · subst q0
          rw [show decide ((2 : Int) = 2) = true from rfl, Bool.true_and]
          have hx1 : (x1 == 2) = decide (x1 = 2) := by by_cases q : x1 = 2 <;> simp [q]
          go_enter Tryz.func198, Tryz.ntmps198
          go_wp2
          go_ret
          exact ⟨rfl, hW.out⟩
        · have z0 : (x0 == 2) = false := by simpa using q0
          rw [show decide (x0 = 2) = false from by simpa using q0, Bool.false_and]
          clear q0
          go_enter Tryz.func198, Tryz.ntmps198
          go_wp2
          go_ret
          exact ⟨rfl, hW.out⟩
    · have hl2 : ¬ b.li = 2 := by omega
      have z2 : ((b.li : Int) == 2) = false := by simp; omega
      have z2' : (b.li == 2) = false := by simpa using hl2
      rw [show decide (t.kids.length = 2) = false from by simpa using h2, Bool.false_and, Bool.and_false]
      have hk7 : b.kind = 7 := by omega
      rw [hk7] at a0
      unfold Nb.arr at *
      rw [hk7] at hW a1 a2 a3 a4 a5 a6 a7 a0 a8 ⊢
      clear hN hRow h7 h2 hlen hk0 hal hl2 hk7
      go_enter Tryz.func198, Tryz.ntmps198
      go_wp2
      go_ret
      exact ⟨rfl, hW.out⟩
  · have z7 : (b.kind == 7) = false := by rw [hk0]; simpa using h7
    rw [show decide (t.kind = 7) = false from by simpa using h7, Bool.false_and]
    unfold Nb.arr at *
    clear hN hRow h7 hlen hk0 hal
    go_enter Tryz.func198, Tryz.ntmps198
    go_wp2
    go_ret
    exact ⟨rfl, hW.out⟩
end Go.Proofs.YtnjbppfanmmifaaGreatDoor
namespace Go.Proofs.YtnjbppfanmmifaaGreatDoor
open Go.RowKit
set_option linter.unusedVariables false
theorem bal2 (w : World) (o o2 : Obj) : Below w.heap.size w ((w.alloc o).alloc o2) := (alloc_below w o).trans ((alloc_below (w.alloc o) o2).mono (alloc_below w o).size)
def OthIs (w w' : World) (x : Ending) (R : Sum (Int × Nat) Tr) : Prop := (match R with
  | .inl f => x = Pn f
  | .inr t => x = .returned (.agg (nbL t).arr)) ∧ Below w.heap.size w w'
set_option maxHeartbeats 4000000 in
set_option maxRecDepth 100000 in
theorem cother_any (C : CX) (hd : Hd) (hpl : hd.pl ≤ 4096) (h64 : hd.n < 18446744073709551616) (w : World) : Calls Tryz.prog 130 #[.pointer (some ⟨C.g, 0, none⟩), .agg hd.arr] w fun x w' => OthIs w w' x (othA hd) := by
  obtain ⟨pl, mj, lo, n, cut⟩ := hd
  simp only at hpl h64
  unfold Hd.arr
  simp only
  have hB := blk_new w #[.int .i64 (pl : Nat), .int .u8 mj, .int .u8 lo, .int .u64 (n : Nat), .bool cut] 94
  have hal := alloc_below w (.cells #[.int .i64 (pl : Nat), .int .u8 mj, .int .u8 lo, .int .u64 (n : Nat), .bool cut] 94)
  have hal2 := alloc_below (w.alloc (.cells #[.int .i64 (pl : Nat), .int .u8 mj, .int .u8 lo, .int .u64 (n : Nat), .bool cut] 94)) (.cells #[.int .i64 0, .int .u64 0, .bool false, .string ⟨#[]⟩, .int .i64 0, .string ⟨#[]⟩, .slice none 0 0, .slice none 0 0, .slice none 0 0] 26)
  have hW : Hid (Below w.heap.size w ((w.alloc (.cells #[.int .i64 (pl : Nat), .int .u8 mj, .int .u8 lo, .int .u64 (n : Nat), .bool cut] 94)).alloc (.cells #[.int .i64 0, .int .u64 0, .bool false, .string ⟨#[]⟩, .int .i64 0, .string ⟨#[]⟩, .slice none 0 0, .slice none 0 0, .slice none 0 0] 26))) := hal.trans (hal2.mono hal.size)
  have hB2 := Blk.kept hB hal2 hB.lt
  obtain ⟨x0, x1, x2, x3, x4⟩ := hbox w pl n mj lo cut
  have wpl : IntKind.i64.wrap ((pl : Int) + 1) = (pl : Int) + 1 := by rw [IntKind.wrap_i64]; omega
  by_cases h20 : lo = 20
  · subst h20
    rw [show othA ⟨pl, mj, 20, n, cut⟩ = .inr (kindT 1 0) from rfl]
    unfold OthIs nbL Nb.arr kindT
    simp only
    go_enter Tryz.func130, Tryz.ntmps130
    go_wp2_with fail
    refine bodyPost_ret (v := .agg #[.int .i64 1, .int .u64 0, .bool false, .string ⟨#[]⟩, .int .i64 0, .string ⟨#[]⟩, .slice none 0 0, .slice none 0 0, .slice none 0 0]) (by simp [results, Tryz.results130, go_sem, *]) rfl ⟨rfl, ?_⟩
    first
      | exact hW.out
      | exact bal2 _ _ _
  by_cases h21 : lo = 21
  · subst h21
    rw [show othA ⟨pl, mj, 21, n, cut⟩ = .inr (kindT 1 1) from rfl]
    unfold OthIs nbL Nb.arr kindT
    simp only
    go_enter Tryz.func130, Tryz.ntmps130
    go_wp2_with fail
    refine bodyPost_ret (v := .agg #[.int .i64 1, .int .u64 1, .bool false, .string ⟨#[]⟩, .int .i64 0, .string ⟨#[]⟩, .slice none 0 0, .slice none 0 0, .slice none 0 0]) (by simp [results, Tryz.results130, go_sem, *]) rfl ⟨rfl, ?_⟩
    first
      | exact hW.out
      | exact bal2 _ _ _
  by_cases h22 : lo = 22
  · subst h22
    rw [show othA ⟨pl, mj, 22, n, cut⟩ = .inr (kindT 0 0) from rfl]
    unfold OthIs nbL Nb.arr kindT
    simp only
    go_enter Tryz.func130, Tryz.ntmps130
    go_wp2_with fail
    refine bodyPost_ret (v := .agg #[.int .i64 0, .int .u64 0, .bool false, .string ⟨#[]⟩, .int .i64 0, .string ⟨#[]⟩, .slice none 0 0, .slice none 0 0, .slice none 0 0]) (by simp [results, Tryz.results130, go_sem, *]) rfl ⟨rfl, ?_⟩
    first
      | exact hW.out
      | exact bal2 _ _ _
  have e20 : (lo == 20) = false := by simpa using h20
  have e21 : (lo == 21) = false := by simpa using h21
  have e22 : (lo == 22) = false := by simpa using h22
  by_cases h24 : lo = 24
  · subst h24
    by_cases hn : n < 32
    · rw [show othA ⟨pl, mj, 24, n, cut⟩ = .inl (5, pl + 1) from by unfold othA; simp [hn]]
      have g32 : decide ((n : Int) < 32) = true := by simp; omega
      have g32' : decide (n < 32) = true := by simpa using hn
      unfold OthIs Pn
      simp only
      clear hn
      go_enter Tryz.func130, Tryz.ntmps130
      go_wp2_with fail
      exact ⟨rfl, by rw [show (((pl + 1 : Nat) : Nat) : Int) = (pl : Int) + 1 by omega], hW.out⟩
    · rw [show othA ⟨pl, mj, 24, n, cut⟩ = .inr (kindT 10 (n : Nat)) from by unfold othA; simp [hn]]
      have g32 : decide ((n : Int) < 32) = false := by simp; omega
      have g32' : decide (n < 32) = false := by simpa using hn
      unfold OthIs nbL Nb.arr kindT
      simp only
      clear hn
      go_enter Tryz.func130, Tryz.ntmps130
      go_wp2_with fail
      refine bodyPost_ret (v := .agg #[.int .i64 10, .int .u64 (n : Nat), .bool false, .string ⟨#[]⟩, .int .i64 0, .string ⟨#[]⟩, .slice none 0 0, .slice none 0 0, .slice none 0 0]) (by simp [results, Tryz.results130, go_sem, *]) rfl ⟨rfl, ?_⟩
      first
        | exact hW.out
        | exact bal2 _ _ _
  by_cases hF : lo = 25 ∨ lo = 26 ∨ lo = 27
  · rw [show othA ⟨pl, mj, lo, n, cut⟩ = .inr (kindT 4 (widenA (n : Nat) (hwd lo : Nat)).1) from by unfold othA; rw [if_neg h20, if_neg h21, if_neg h22, if_pos hF]]
    have kW : Hid (∀ wx, Calls Tryz.prog 122 #[.agg #[.int .i64 (pl : Nat), .int .u8 mj, .int .u8 lo, .int .u64 (n : Nat), .bool cut]] wx fun e w' => e = .returned (.int .i64 (hwd lo : Nat)) ∧ Below wx.heap.size wx w') := fun wx => cwidth_any ⟨pl, mj, lo, n, cut⟩ wx
    have kX : Hid (∀ wx, Calls Tryz.prog 170 #[.int .u64 (n : Nat), .int .i64 (hwd lo : Nat)] wx fun e w' => e = .returned (.tuple #[.int .u64 (widenA (n : Nat) (hwd lo : Nat)).1, .int .i64 (widenA (n : Nat) (hwd lo : Nat)).2]) ∧ Below wx.heap.size wx w') := fun wx => widen_any _ _ (by omega) wx
    unfold OthIs nbL Nb.arr kindT
    simp only
    have hZ : Hid (NBox ((w.alloc (.cells #[.int .i64 (pl : Nat), .int .u8 mj, .int .u8 lo, .int .u64 (n : Nat), .bool cut] 94)).alloc (.cells #[.int .i64 0, .int .u64 0, .bool false, .string ⟨#[]⟩, .int .i64 0, .string ⟨#[]⟩, .slice none 0 0, .slice none 0 0, .slice none 0 0] 26)) (w.heap.size + 1) zN) := by have := nbox_new (w.alloc (.cells #[.int .i64 (pl : Nat), .int .u8 mj, .int .u8 lo, .int .u64 (n : Nat), .bool cut] 94)) zN; rw [show (w.alloc (.cells #[.int .i64 (pl : Nat), .int .u8 mj, .int .u8 lo, .int .u64 (n : Nat), .bool cut] 94)).heap.size = w.heap.size + 1 by simp] at this; exact this
    clear hB hal hal2 h64 hpl
    rcases hF with rfl | rfl | rfl
    · generalize (widenA (n : Nat) (hwd 25 : Nat)).2 = y at *
      generalize (widenA (n : Nat) (hwd 25 : Nat)).1 = v at *
      generalize hwd 25 = wd at *
      go_enter Tryz.func130, Tryz.ntmps130
      go_upto_region 11 with fail
      generalize hWW : (w.alloc (.cells #[.int .i64 (pl : Nat), .int .u8 mj, .int .u8 25, .int .u64 (n : Nat), .bool cut] 94)).alloc (.cells #[.int .i64 0, .int .u64 0, .bool false, .string ⟨#[]⟩, .int .i64 0, .string ⟨#[]⟩, .slice none 0 0, .slice none 0 0, .slice none 0 0] 26) = W at *
      go_cut [5] (fun s5 wx => s5 = .int .u64 v ∧ Hid (Below W.heap.size W wx))
      case first =>
        have SK : Hid (∀ wx, Below W.heap.size W wx → wx.cell? ⟨w.heap.size, 0, none⟩ = some (.int .i64 (pl : Nat)) ∧ wx.cell? ⟨w.heap.size, 1, none⟩ = some (.int .u8 mj) ∧ wx.cell? ⟨w.heap.size, 2, none⟩ = some (.int .u8 25) ∧ wx.cell? ⟨w.heap.size, 3, none⟩ = some (.int .u64 (n : Nat)) ∧ wx.cell? ⟨w.heap.size, 4, none⟩ = some (.bool cut)) := fun wx hb => by
          have hx := Blk.kept hB2 hb hB2.lt
          exact ⟨hx.cell 0, hx.cell 1, hx.cell 2, hx.cell 3, hx.cell 4⟩
        clear hB2 x0 x1 x2 x3 x4 hWW hZ
        go_region_held3 (fun wx => wx.cell? ⟨w.heap.size, 0, none⟩ = some (.int .i64 (pl : Nat)) ∧ wx.cell? ⟨w.heap.size, 1, none⟩ = some (.int .u8 mj) ∧ wx.cell? ⟨w.heap.size, 2, none⟩ = some (.int .u8 25) ∧ wx.cell? ⟨w.heap.size, 3, none⟩ = some (.int .u64 (n : Nat)) ∧ wx.cell? ⟨w.heap.size, 4, none⟩ = some (.bool cut)) (((with_reducible refine SK.out _ ?_); (repeat' with_reducible first | exact Below.refl _ _ | exact b4.out | exact b3.out | refine Below.drew ?_); (all_goals exact Nat.le_refl _))) (first
          | (go_at_call 122; refine (kW.out _).mono ?_; rintro e w3 ⟨rfl, hb3⟩; have b3 : Hid (Below W.heap.size W w3) := ⟨hb3.os, hb3.tape, hb3.output, hb3.size, hb3.block⟩; clear hb3)
          | (go_at_call 170; refine (kX.out _).mono ?_; rintro e w4 ⟨rfl, hb4⟩; have b4 : Hid (Below W.heap.size W w4) := b3.out.trans (hb4.mono b3.out.size); clear hb4))
        all_goals
          go_wp2_with fail
          go_meet
          exact ⟨rfl, b4⟩
      case rest =>
        obtain ⟨rfl, hcb⟩ := hcut
        obtain ⟨⟨f0, f1, f2, f3, f4, f5, f6, f7, f8⟩, z0, z1, z2, z3, z4, z5, z6, z7, z8⟩ := zbox (hZ.out.kept hcb.out hZ.out.lt)
        have hWc : Hid (Below w.heap.size w wc) := hW.out.trans (hcb.out.mono hW.out.size)
        clear hB2 x0 x1 x2 x3 x4 hWW hZ kW kX
        go_wp2_with fail
        refine bodyPost_ret (v := .agg #[.int .i64 4, .int .u64 v, .bool false, .string ⟨#[]⟩, .int .i64 0, .string ⟨#[]⟩, .slice none 0 0, .slice none 0 0, .slice none 0 0]) (by simp [results, Tryz.results130, go_sem, *]) rfl ⟨rfl, ?_⟩
        repeat (first | with_reducible exact hWc.out | with_reducible refine bset ?_ (by omega))
    · generalize (widenA (n : Nat) (hwd 26 : Nat)).2 = y at *
      generalize (widenA (n : Nat) (hwd 26 : Nat)).1 = v at *
      generalize hwd 26 = wd at *
      go_enter Tryz.func130, Tryz.ntmps130
      go_upto_region 11 with fail
      generalize hWW : (w.alloc (.cells #[.int .i64 (pl : Nat), .int .u8 mj, .int .u8 26, .int .u64 (n : Nat), .bool cut] 94)).alloc (.cells #[.int .i64 0, .int .u64 0, .bool false, .string ⟨#[]⟩, .int .i64 0, .string ⟨#[]⟩, .slice none 0 0, .slice none 0 0, .slice none 0 0] 26) = W at *
      go_cut [5] (fun s5 wx => s5 = .int .u64 v ∧ Hid (Below W.heap.size W wx))
      case first =>
        have SK : Hid (∀ wx, Below W.heap.size W wx → wx.cell? ⟨w.heap.size, 0, none⟩ = some (.int .i64 (pl : Nat)) ∧ wx.cell? ⟨w.heap.size, 1, none⟩ = some (.int .u8 mj) ∧ wx.cell? ⟨w.heap.size, 2, none⟩ = some (.int .u8 26) ∧ wx.cell? ⟨w.heap.size, 3, none⟩ = some (.int .u64 (n : Nat)) ∧ wx.cell? ⟨w.heap.size, 4, none⟩ = some (.bool cut)) := fun wx hb => by
          have hx := Blk.kept hB2 hb hB2.lt
          exact ⟨hx.cell 0, hx.cell 1, hx.cell 2, hx.cell 3, hx.cell 4⟩
        clear hB2 x0 x1 x2 x3 x4 hWW hZ
        go_region_held3 (fun wx => wx.cell? ⟨w.heap.size, 0, none⟩ = some (.int .i64 (pl : Nat)) ∧ wx.cell? ⟨w.heap.size, 1, none⟩ = some (.int .u8 mj) ∧ wx.cell? ⟨w.heap.size, 2, none⟩ = some (.int .u8 26) ∧ wx.cell? ⟨w.heap.size, 3, none⟩ = some (.int .u64 (n : Nat)) ∧ wx.cell? ⟨w.heap.size, 4, none⟩ = some (.bool cut)) (((with_reducible refine SK.out _ ?_); (repeat' with_reducible first | exact Below.refl _ _ | exact b4.out | exact b3.out | refine Below.drew ?_); (all_goals exact Nat.le_refl _))) (first
          | (go_at_call 122; refine (kW.out _).mono ?_; rintro e w3 ⟨rfl, hb3⟩; have b3 : Hid (Below W.heap.size W w3) := ⟨hb3.os, hb3.tape, hb3.output, hb3.size, hb3.block⟩; clear hb3)
          | (go_at_call 170; refine (kX.out _).mono ?_; rintro e w4 ⟨rfl, hb4⟩; have b4 : Hid (Below W.heap.size W w4) := b3.out.trans (hb4.mono b3.out.size); clear hb4))
        all_goals
          go_wp2_with fail
          go_meet
          exact ⟨rfl, b4⟩
      case rest =>
        obtain ⟨rfl, hcb⟩ := hcut
        obtain ⟨⟨f0, f1, f2, f3, f4, f5, f6, f7, f8⟩, z0, z1, z2, z3, z4, z5, z6, z7, z8⟩ := zbox (hZ.out.kept hcb.out hZ.out.lt)
        have hWc : Hid (Below w.heap.size w wc) := hW.out.trans (hcb.out.mono hW.out.size)
        clear hB2 x0 x1 x2 x3 x4 hWW hZ kW kX
        go_wp2_with fail
        refine bodyPost_ret (v := .agg #[.int .i64 4, .int .u64 v, .bool false, .string ⟨#[]⟩, .int .i64 0, .string ⟨#[]⟩, .slice none 0 0, .slice none 0 0, .slice none 0 0]) (by simp [results, Tryz.results130, go_sem, *]) rfl ⟨rfl, ?_⟩
        repeat (first | with_reducible exact hWc.out | with_reducible refine bset ?_ (by omega))
    · generalize (widenA (n : Nat) (hwd 27 : Nat)).2 = y at *
      generalize (widenA (n : Nat) (hwd 27 : Nat)).1 = v at *
      generalize hwd 27 = wd at *
      go_enter Tryz.func130, Tryz.ntmps130
      go_upto_region 11 with fail
      generalize hWW : (w.alloc (.cells #[.int .i64 (pl : Nat), .int .u8 mj, .int .u8 27, .int .u64 (n : Nat), .bool cut] 94)).alloc (.cells #[.int .i64 0, .int .u64 0, .bool false, .string ⟨#[]⟩, .int .i64 0, .string ⟨#[]⟩, .slice none 0 0, .slice none 0 0, .slice none 0 0] 26) = W at *
      go_cut [5] (fun s5 wx => s5 = .int .u64 v ∧ Hid (Below W.heap.size W wx))
      case first =>
        have SK : Hid (∀ wx, Below W.heap.size W wx → wx.cell? ⟨w.heap.size, 0, none⟩ = some (.int .i64 (pl : Nat)) ∧ wx.cell? ⟨w.heap.size, 1, none⟩ = some (.int .u8 mj) ∧ wx.cell? ⟨w.heap.size, 2, none⟩ = some (.int .u8 27) ∧ wx.cell? ⟨w.heap.size, 3, none⟩ = some (.int .u64 (n : Nat)) ∧ wx.cell? ⟨w.heap.size, 4, none⟩ = some (.bool cut)) := fun wx hb => by
          have hx := Blk.kept hB2 hb hB2.lt
          exact ⟨hx.cell 0, hx.cell 1, hx.cell 2, hx.cell 3, hx.cell 4⟩
        clear hB2 x0 x1 x2 x3 x4 hWW hZ
        go_region_held3 (fun wx => wx.cell? ⟨w.heap.size, 0, none⟩ = some (.int .i64 (pl : Nat)) ∧ wx.cell? ⟨w.heap.size, 1, none⟩ = some (.int .u8 mj) ∧ wx.cell? ⟨w.heap.size, 2, none⟩ = some (.int .u8 27) ∧ wx.cell? ⟨w.heap.size, 3, none⟩ = some (.int .u64 (n : Nat)) ∧ wx.cell? ⟨w.heap.size, 4, none⟩ = some (.bool cut)) (((with_reducible refine SK.out _ ?_); (repeat' with_reducible first | exact Below.refl _ _ | exact b4.out | exact b3.out | refine Below.drew ?_); (all_goals exact Nat.le_refl _))) (first
          | (go_at_call 122; refine (kW.out _).mono ?_; rintro e w3 ⟨rfl, hb3⟩; have b3 : Hid (Below W.heap.size W w3) := ⟨hb3.os, hb3.tape, hb3.output, hb3.size, hb3.block⟩; clear hb3)
          | (go_at_call 170; refine (kX.out _).mono ?_; rintro e w4 ⟨rfl, hb4⟩; have b4 : Hid (Below W.heap.size W w4) := b3.out.trans (hb4.mono b3.out.size); clear hb4))
        all_goals
          go_wp2_with fail
          go_meet
          exact ⟨rfl, b4⟩
      case rest =>
        obtain ⟨rfl, hcb⟩ := hcut
        obtain ⟨⟨f0, f1, f2, f3, f4, f5, f6, f7, f8⟩, z0, z1, z2, z3, z4, z5, z6, z7, z8⟩ := zbox (hZ.out.kept hcb.out hZ.out.lt)
        have hWc : Hid (Below w.heap.size w wc) := hW.out.trans (hcb.out.mono hW.out.size)
        clear hB2 x0 x1 x2 x3 x4 hWW hZ kW kX
        go_wp2_with fail
        refine bodyPost_ret (v := .agg #[.int .i64 4, .int .u64 v, .bool false, .string ⟨#[]⟩, .int .i64 0, .string ⟨#[]⟩, .slice none 0 0, .slice none 0 0, .slice none 0 0]) (by simp [results, Tryz.results130, go_sem, *]) rfl ⟨rfl, ?_⟩
        repeat (first | with_reducible exact hWc.out | with_reducible refine bset ?_ (by omega))
  · rw [show othA ⟨pl, mj, lo, n, cut⟩ = .inr (kindT 10 (n : Nat)) from by unfold othA; rw [if_neg h20, if_neg h21, if_neg h22, if_neg hF, if_neg (fun z => h24 z.1)]]
    have e24 : (lo == 24) = false := by simpa using h24
    have e25 : (lo == 25) = false := by simp; omega
    have e26 : (lo == 26) = false := by simp; omega
    have e27 : (lo == 27) = false := by simp; omega
    unfold OthIs nbL Nb.arr kindT
    simp only
    clear h20 h21 h22 h24 hF
    go_enter Tryz.func130, Tryz.ntmps130
    go_wp2_with fail
    refine bodyPost_ret (v := .agg #[.int .i64 10, .int .u64 (n : Nat), .bool false, .string ⟨#[]⟩, .int .i64 0, .string ⟨#[]⟩, .slice none 0 0, .slice none 0 0, .slice none 0 0]) (by simp [results, Tryz.results130, go_sem, *]) rfl ⟨rfl, ?_⟩
    first
      | exact hW.out
      | exact bal2 _ _ _
end Go.Proofs.YtnjbppfanmmifaaGreatDoor
namespace Go.Proofs.YtnjbppfanmmifaaGreatDoor
open Go.RowKit
set_option linter.unusedVariables false
/-- The blocks of S, and new ones. -/
def SU (S : Nat → Prop) (w X : World) : Nat → Prop := fun k => S k ∨ Rg w.heap.size X.heap.size k
/-- A Tag's node in memory. -/
theorem tag_nd {S : Nat → Prop} {D g : Nat} {w X : World} {b : Nb} {t : Tr} (n : Nat) (hn : n < 18446744073709551616) (h : NdW S D w b t) (hE : ∀ k, S k → k < w.heap.size) (hb : Below w.heap.size w X) (hg : w.heap.size ≤ g) (hX : X.heap[g]? = some (.cells b.arr 26 (0, 0))) :
    NdW (SU S w X) (D + 1) X ⟨9, (n : Nat), false, ⟨#[]⟩, 0, ⟨#[]⟩, none, 0, 0, none, 0, 0, some ⟨g, 0, none⟩, 1, 1⟩ (tgT (n : Nat) t) := by
  have r0 : ∀ k, Room k none 0 0 := fun k => ⟨Nat.le_refl _, Nat.zero_le _, fun _ => rfl, by omega⟩
  have hgl : g < X.heap.size := (Array.getElem?_eq_some_iff.1 hX).1
  have hk : NdW (SU S w X) D X b t := (h.stays fun k hk => hb.block k (hE k hk)).mono fun k hk => .inl hk
  refine ⟨⟨rfl, rfl, rfl, rfl, rfl, rfl⟩, ⟨rfl, ?_, rfl, by show (0 : Nat) ≤ _; omega, by show (0 : Nat) ≤ _; omega⟩, ⟨rfl, r0 1, ⟨by simp [tgT], by simp [tgT], .inl rfl⟩⟩, ⟨wn_zero _ _ _ _, wn_zero _ _ _ _, fun _ => ⟨g, _, rfl, .inr ⟨hg, hgl⟩, hX⟩⟩, ⟨rfl, r0 136, .inl rfl⟩, rfl, ⟨Nat.le_refl _, by show (1 : Nat) ≤ maxLen; unfold maxLen; omega, (fun z => by cases z), by show (1 : Nat) * 136 ≤ _; omega⟩, .inr ⟨g, 0, rfl, fun i hi => ?_⟩⟩
  · show (Lit.int .u64 ((n : Nat) : Int)).wf = true
    simp [Lit.wf, show IntKind.u64.min = 0 from by decide, show IntKind.u64.max = 18446744073709551615 from by decide]
    omega
  · have e : i = 0 := by simp [tgT] at hi; omega
    subst e
    refine ⟨b, fun j hj => ?_, hk⟩
    rw [Nat.zero_add, Nat.zero_mul, Nat.zero_add]
    exact NBox.cell hX j
/-- What is answered of a tag. -/
def TgIs (S : Nat → Prop) (w w' : World) (D : Nat) (x : Ending) (R : Tr × Int) : Prop := (∃ nb : Nb, x = .returned (.tuple #[.agg nb.arr, .int .i64 R.2]) ∧ (R.2 = 0 → NdW (SU S w w') (D + 1) w' nb R.1)) ∧ Below w.heap.size w w'
theorem bal3 (w : World) (o o2 : Obj) (cs : Array Value) (T : TypeId) : Below w.heap.size w (((w.alloc o).alloc o2).alloc (.cells cs T)) ∧ (((w.alloc o).alloc o2).alloc (.cells cs T)).heap[w.heap.size + 2]? = some (.cells cs T (0, 0)) := by
  refine ⟨(bal2 w o o2).trans ((alloc_below _ _).mono (bal2 w o o2).size), ?_⟩
  have := heap_alloc_new ((w.alloc o).alloc o2) (.cells cs T)
  rw [show ((w.alloc o).alloc o2).heap.size = w.heap.size + 2 by simp] at this
  exact this
/-- A block made behind nine stores. -/
theorem put9 {w Y : World} {g k : Nat} (hb : Below w.heap.size w Y) (hg : w.heap.size ≤ g) (hk : Y.heap.size = k) (v0 v1 v2 v3 v4 v5 v6 v7 v8 : Value) (cs : Array Value) (T : TypeId) :
    Below w.heap.size w ((((((((((Y.setCell ⟨g, 0, none⟩ v0).setCell ⟨g, 1, none⟩ v1).setCell ⟨g, 2, none⟩ v2).setCell ⟨g, 3, none⟩ v3).setCell ⟨g, 4, none⟩ v4).setCell ⟨g, 5, none⟩ v5).setCell ⟨g, 6, none⟩ v6).setCell ⟨g, 7, none⟩ v7).setCell ⟨g, 8, none⟩ v8).alloc (.cells cs T)) ∧
    ((((((((((Y.setCell ⟨g, 0, none⟩ v0).setCell ⟨g, 1, none⟩ v1).setCell ⟨g, 2, none⟩ v2).setCell ⟨g, 3, none⟩ v3).setCell ⟨g, 4, none⟩ v4).setCell ⟨g, 5, none⟩ v5).setCell ⟨g, 6, none⟩ v6).setCell ⟨g, 7, none⟩ v7).setCell ⟨g, 8, none⟩ v8).alloc (.cells cs T)).heap[k]? = some (.cells cs T (0, 0)) := by
  refine ⟨ballo (bset (bset (bset (bset (bset (bset (bset (bset (bset hb hg) hg) hg) hg) hg) hg) hg) hg) hg) (Nat.le_refl _) _, ?_⟩
  have := heap_alloc_new (((((((((Y.setCell ⟨g, 0, none⟩ v0).setCell ⟨g, 1, none⟩ v1).setCell ⟨g, 2, none⟩ v2).setCell ⟨g, 3, none⟩ v3).setCell ⟨g, 4, none⟩ v4).setCell ⟨g, 5, none⟩ v5).setCell ⟨g, 6, none⟩ v6).setCell ⟨g, 7, none⟩ v7).setCell ⟨g, 8, none⟩ v8) (.cells cs T)
  simp only [set_size] at this
  rw [hk] at this
  exact this
set_option maxHeartbeats 4000000 in
set_option maxRecDepth 100000 in
theorem ctagged_plain {S : Nat → Prop} {D : Nat} {w : World} {b : Nb} {t : Tr} (n : Nat) (hn : n < 18446744073709551616) (h : NdW S (D + 1) w b t) (hE : ∀ k, S k → k < w.heap.size) (h2 : n ≠ 2) (h3 : n ≠ 3) (h4 : n ≠ 4) : Calls Tryz.prog 169 #[.int .u64 (n : Nat), .agg b.arr] w fun x w' => TgIs S w w' (D + 1) x (tagA n t) := by
  have e : tagA n t = (tgT (n : Nat) t, 0) := by unfold tagA; rw [if_neg (fun z => h2 z.1), if_neg (fun z => h3 z.1), if_neg h4]
  rw [e]
  have e2 : ((n : Int) == 2) = false := by simp; omega
  have e3 : ((n : Int) == 3) = false := by simp; omega
  have e4 : ((n : Int) == 4) = false := by simp; omega
  have e2' : (n == 2) = false := by simpa using h2
  have e3' : (n == 3) = false := by simpa using h3
  have e4' : (n == 4) = false := by simpa using h4
  have hF : Hid (∀ X g, Below w.heap.size w X → w.heap.size ≤ g → X.heap[g]? = some (.cells b.arr 26 (0, 0)) → NdW (SU S w X) (D + 1 + 1) X ⟨9, (n : Nat), false, ⟨#[]⟩, 0, ⟨#[]⟩, none, 0, 0, none, 0, 0, some ⟨g, 0, none⟩, 1, 1⟩ (tgT (n : Nat) t)) := fun X g h1 h2 h3 => tag_nd n hn h hE h1 h2 h3
  obtain ⟨a0, a1, a2, a3, a4, a5, a6, a7, a8⟩ := (nbox_new w b).fields
  unfold TgIs
  simp only
  unfold Nb.arr at *
  clear e h hE h2 h3 h4 hn
  go_enter Tryz.func169, Tryz.ntmps169
  go_wp2_with fail
  refine bodyPost_ret (v := .tuple #[.agg #[.int .i64 9, .int .u64 (n : Nat), .bool false, .string ⟨#[]⟩, .int .i64 0, .string ⟨#[]⟩, .slice none 0 0, .slice none 0 0, .slice (some ⟨w.heap.size + 1 + 1, 0, none⟩) 1 1], .int .i64 0]) (by simp [results, Tryz.results169, go_sem, *]) rfl ⟨⟨⟨9, (n : Nat), false, ⟨#[]⟩, 0, ⟨#[]⟩, none, 0, 0, none, 0, 0, some ⟨w.heap.size + 1 + 1, 0, none⟩, 1, 1⟩, rfl, fun _ => hF.out _ _ (bal3 w _ _ _ _).1 (by omega) (bal3 w _ _ _ _).2⟩, (bal3 w _ _ _ _).1⟩
set_option maxHeartbeats 4000000 in
set_option maxRecDepth 100000 in
theorem ctagged_two {S : Nat → Prop} {D : Nat} {w : World} {b : Nb} {t : Tr} (h : NdW S (D + 1) w b t) (hE : ∀ k, S k → k < w.heap.size) (h6 : t.kind ≠ 6) : Calls Tryz.prog 169 #[.int .u64 2, .agg b.arr] w fun x w' => TgIs S w w' (D + 1) x (tagA 2 t) := by
  have e : tagA 2 t = (tgT 2 t, 0) := by unfold tagA; simp [h6]
  rw [e]
  have e6 : (b.kind == 6) = false := by rw [show b.kind = t.kind from h.1.1]; simpa using h6
  have hF : Hid (∀ X g, Below w.heap.size w X → w.heap.size ≤ g → X.heap[g]? = some (.cells b.arr 26 (0, 0)) → NdW (SU S w X) (D + 1 + 1) X ⟨9, 2, false, ⟨#[]⟩, 0, ⟨#[]⟩, none, 0, 0, none, 0, 0, some ⟨g, 0, none⟩, 1, 1⟩ (tgT 2 t)) := fun X g h1 h2 h3 => tag_nd 2 (by decide) h hE h1 h2 h3
  obtain ⟨a0, a1, a2, a3, a4, a5, a6, a7, a8⟩ := (nbox_new w b).fields
  unfold TgIs
  simp only
  unfold Nb.arr at *
  clear e h hE h6
  go_enter Tryz.func169, Tryz.ntmps169
  go_wp2_with fail
  refine bodyPost_ret (v := .tuple #[.agg #[.int .i64 9, .int .u64 2, .bool false, .string ⟨#[]⟩, .int .i64 0, .string ⟨#[]⟩, .slice none 0 0, .slice none 0 0, .slice (some ⟨w.heap.size + 1 + 1, 0, none⟩) 1 1], .int .i64 0]) (by simp [results, Tryz.results169, go_sem, *]) rfl ⟨⟨⟨9, 2, false, ⟨#[]⟩, 0, ⟨#[]⟩, none, 0, 0, none, 0, 0, some ⟨w.heap.size + 1 + 1, 0, none⟩, 1, 1⟩, rfl, fun _ => hF.out _ _ (bal3 w _ _ _ _).1 (by omega) (bal3 w _ _ _ _).2⟩, (bal3 w _ _ _ _).1⟩
set_option maxHeartbeats 4000000 in
set_option maxRecDepth 100000 in
theorem ctagged_three {S : Nat → Prop} {D : Nat} {w : World} {b : Nb} {t : Tr} (h : NdW S (D + 1) w b t) (hE : ∀ k, S k → k < w.heap.size) (h6 : t.kind ≠ 6) : Calls Tryz.prog 169 #[.int .u64 3, .agg b.arr] w fun x w' => TgIs S w w' (D + 1) x (tagA 3 t) := by
  have e : tagA 3 t = (tgT 3 t, 0) := by unfold tagA; simp [h6]
  rw [e]
  have e6 : (b.kind == 6) = false := by rw [show b.kind = t.kind from h.1.1]; simpa using h6
  have hF : Hid (∀ X g, Below w.heap.size w X → w.heap.size ≤ g → X.heap[g]? = some (.cells b.arr 26 (0, 0)) → NdW (SU S w X) (D + 1 + 1) X ⟨9, 3, false, ⟨#[]⟩, 0, ⟨#[]⟩, none, 0, 0, none, 0, 0, some ⟨g, 0, none⟩, 1, 1⟩ (tgT 3 t)) := fun X g h1 h2 h3 => tag_nd 3 (by decide) h hE h1 h2 h3
  obtain ⟨a0, a1, a2, a3, a4, a5, a6, a7, a8⟩ := (nbox_new w b).fields
  unfold TgIs
  simp only
  unfold Nb.arr at *
  clear e h hE h6
  go_enter Tryz.func169, Tryz.ntmps169
  go_wp2_with fail
  refine bodyPost_ret (v := .tuple #[.agg #[.int .i64 9, .int .u64 3, .bool false, .string ⟨#[]⟩, .int .i64 0, .string ⟨#[]⟩, .slice none 0 0, .slice none 0 0, .slice (some ⟨w.heap.size + 1 + 1, 0, none⟩) 1 1], .int .i64 0]) (by simp [results, Tryz.results169, go_sem, *]) rfl ⟨⟨⟨9, 3, false, ⟨#[]⟩, 0, ⟨#[]⟩, none, 0, 0, none, 0, 0, some ⟨w.heap.size + 1 + 1, 0, none⟩, 1, 1⟩, rfl, fun _ => hF.out _ _ (bal3 w _ _ _ _).1 (by omega) (bal3 w _ _ _ _).2⟩, (bal3 w _ _ _ _).1⟩
set_option maxHeartbeats 4000000 in
set_option maxRecDepth 100000 in
theorem ctagged_four {S : Nat → Prop} {D : Nat} {w : World} {b : Nb} {t : Tr} (h : NdW S (D + 1) w b t) (hE : ∀ k, S k → k < w.heap.size) (hp : prT t = none) : Calls Tryz.prog 169 #[.int .u64 4, .agg b.arr] w fun x w' => TgIs S w w' (D + 1) x (tagA 4 t) := by
  have e : tagA 4 t = (tgT 4 t, 0) := by unfold tagA; rw [if_neg (by simp), if_neg (by simp), if_pos rfl, hp]; rfl
  rw [e]
  have hX : Hid (∀ w3, Below ((w.alloc (.cells b.arr 26)).alloc (.cells zN.arr 26)).heap.size ((w.alloc (.cells b.arr 26)).alloc (.cells zN.arr 26)) w3 → NBox w3 w.heap.size b ∧ NBox w3 (w.heap.size + 1) zN ∧ Below w.heap.size w w3) := fun w3 hb => by
    have s1 : (w.alloc (.cells b.arr 26)).heap.size = w.heap.size + 1 := by simp
    have n1 := (nbox_new w b).kept (alloc_below (w.alloc (.cells b.arr 26)) (.cells zN.arr 26)) (by omega)
    have n2 := nbox_new (w.alloc (.cells b.arr 26)) zN
    rw [s1] at n2
    exact ⟨n1.kept hb n1.lt, n2.kept hb n2.lt, (bal2 w _ _).trans (hb.mono (bal2 w _ _).size)⟩
  have kP : Hid (∀ wx, Below w.heap.size w wx → Calls Tryz.prog 198 #[.agg b.arr] wx fun e w' => e = .returned (.bool false) ∧ Below wx.heap.size wx w') := fun wx hx => by have := cispair_any (h.nd.kept hx); rw [hp] at this; exact this
  have hF : Hid (∀ X g, Below w.heap.size w X → w.heap.size ≤ g → X.heap[g]? = some (.cells b.arr 26 (0, 0)) → NdW (SU S w X) (D + 1 + 1) X ⟨9, 4, false, ⟨#[]⟩, 0, ⟨#[]⟩, none, 0, 0, none, 0, 0, some ⟨g, 0, none⟩, 1, 1⟩ (tgT 4 t)) := fun X g h1 h2 h3 => tag_nd 4 (by decide) h hE h1 h2 h3
  obtain ⟨a0, a1, a2, a3, a4, a5, a6, a7, a8⟩ := (nbox_new w b).fields
  unfold TgIs
  simp only
  unfold zN Nb.arr at *
  clear e h hE hp
  go_enter Tryz.func169, Tryz.ntmps169
  go_wp2_with (go_at_call 198; refine (kP.out _ (bal2 w _ _)).mono ?_; rintro e w3 ⟨rfl, hb3⟩; obtain ⟨hN3, hZ3, hW3⟩ := hX.out _ hb3; obtain ⟨d0, d1, d2, d3, d4, d5, d6, d7, d8⟩ := hN3.fields; obtain ⟨⟨f0, f1, f2, f3, f4, f5, f6, f7, f8⟩, z0, z1, z2, z3, z4, z5, z6, z7, z8⟩ := zbox hZ3; have hW4 : Hid (Below w.heap.size w w3) := hW3; have hl4 : w.heap.size + 1 < w3.heap.size := hZ3.lt; clear hb3 hN3 hZ3 hW3)
  refine bodyPost_ret (v := .tuple #[.agg #[.int .i64 9, .int .u64 4, .bool false, .string ⟨#[]⟩, .int .i64 0, .string ⟨#[]⟩, .slice none 0 0, .slice none 0 0, .slice (some ⟨w3.heap.size, 0, none⟩) 1 1], .int .i64 0]) (by simp [results, Tryz.results169, go_sem, *]) rfl ?_
  have P := put9 hW4.out (Nat.le_succ w.heap.size) rfl (.int .i64 9) (.int .u64 4) (.bool false) (.string ⟨#[]⟩) (.int .i64 0) (.string ⟨#[]⟩) (.slice none 0 0) (.slice none 0 0) (.slice (some ⟨w3.heap.size, 0, none⟩) 1 1) #[.int .i64 b.kind, .int .u64 b.num, .bool b.neg, .string b.dig, .int .i64 b.exp, .string b.txt, .slice b.ab b.lb b.cb, .slice b.ak b.lk b.ck, .slice b.ai b.li b.ci] 26
  exact ⟨⟨⟨9, 4, false, ⟨#[]⟩, 0, ⟨#[]⟩, none, 0, 0, none, 0, 0, some ⟨w3.heap.size, 0, none⟩, 1, 1⟩, rfl, fun _ => hF.out _ _ P.1 (by omega) P.2⟩, P.1⟩
end Go.Proofs.YtnjbppfanmmifaaGreatDoor
namespace Go.Proofs.YtnjbppfanmmifaaGreatDoor
open Go.RowKit
set_option linter.unusedVariables false
theorem frb_size {z : List Int} (h : (frbA z).2 = 0) : (frbA z).1.size ≤ 800 := by
  unfold frbA at h ⊢
  split at h
  · rename_i c
    rw [if_pos c]
    unfold shortA at h ⊢
    split at h
    · rename_i c2; rw [if_pos c2]; exact (rt_size (rt_txt c2)).2
    · exact absurd h (by decide)
  · exact absurd h (by decide)
theorem bel_size {d : ByteArray} (h : (belA d).2 = 0) : (addA d oneS).1.size ≤ 800 := by
  unfold belA addA at h
  unfold addA
  simp only at h
  split at h
  · rename_i c
    rw [if_pos c]
    unfold shortA at h ⊢
    split at h
    · rename_i c2; rw [if_pos c2]; exact (rt_size (rt_txt c2)).2
    · exact absurd h (by decide)
  · exact absurd h (by decide)
/-- Two boxes of tagged: what it was called with, and its result. -/
theorem tbox {w : World} (b : Nb) (w3 : World) (hb : Below ((w.alloc (.cells b.arr 26)).alloc (.cells zN.arr 26)).heap.size ((w.alloc (.cells b.arr 26)).alloc (.cells zN.arr 26)) w3) : NBox w3 w.heap.size b ∧ NBox w3 (w.heap.size + 1) zN ∧ Below w.heap.size w w3 := by
  have s1 : (w.alloc (.cells b.arr 26)).heap.size = w.heap.size + 1 := by simp
  have n1 := (nbox_new w b).kept (alloc_below (w.alloc (.cells b.arr 26)) (.cells zN.arr 26)) (by omega)
  have n2 := nbox_new (w.alloc (.cells b.arr 26)) zN
  rw [s1] at n2
  exact ⟨n1.kept hb n1.lt, n2.kept hb n2.lt, (bal2 w _ _).trans (hb.mono (bal2 w _ _).size)⟩
set_option maxHeartbeats 4000000 in
set_option maxRecDepth 100000 in
theorem ctagged_b2 {S : Nat → Prop} {D : Nat} {w : World} {b : Nb} {t : Tr} (h : NdW S (D + 1) w b t) (h6 : t.kind = 6) : Calls Tryz.prog 169 #[.int .u64 2, .agg b.arr] w fun x w' => TgIs S w w' (D + 1) x (tagA 2 t) := by
  have e : tagA 2 t = (intT false (frbA t.bytes).1, (frbA t.bytes).2) := by unfold tagA; rw [if_pos ⟨rfl, h6⟩]
  rw [e]
  have hk6 : b.kind = 6 := by rw [show b.kind = t.kind from h.1.1]; exact h6
  have hby := h.2.2.1
  have kF : Hid (∀ wx, Below w.heap.size w wx → Calls Tryz.prog 197 #[.slice b.ab b.lb b.cb] wx fun e w' => e = .returned (.tuple #[.string (frbA t.bytes).1, .int .i64 (frbA t.bytes).2]) ∧ Below wx.heap.size wx w') := fun wx hx => frb_any b.ab b.lb b.cb t.bytes wx hby.1 (hby.2.2.kept hx)
  have hL : Hid (∀ X, (frbA t.bytes).2 = 0 → NdW (SU S w X) (D + 1 + 1) X ⟨2, 0, false, (frbA t.bytes).1, 0, ⟨#[]⟩, none, 0, 0, none, 0, 0, none, 0, 0⟩ (intT false (frbA t.bytes).1)) := fun X h0 => ndw_leaf _ _ X (t := intT false (frbA t.bytes).1) rfl ⟨rfl, rfl⟩ rfl rfl rfl (Nat.le_trans (frb_size h0) (by omega)) (by show (0 : Nat) ≤ _; omega)
  have hX : Hid (∀ w3, Below ((w.alloc (.cells b.arr 26)).alloc (.cells zN.arr 26)).heap.size ((w.alloc (.cells b.arr 26)).alloc (.cells zN.arr 26)) w3 → NBox w3 w.heap.size b ∧ NBox w3 (w.heap.size + 1) zN ∧ Below w.heap.size w w3) := fun w3 hb => tbox b w3 hb
  obtain ⟨a0, a1, a2, a3, a4, a5, a6, a7, a8⟩ := (nbox_new w b).fields
  unfold TgIs
  simp only
  unfold zN Nb.arr at *
  rw [hk6] at a0 a1 a2 a3 a4 a5 a6 a7 a8 hX ⊢
  generalize (frbA t.bytes).1 = s at *
  generalize (frbA t.bytes).2 = y at *
  clear e h h6 hk6 hby
  go_enter Tryz.func169, Tryz.ntmps169
  go_wp2_with (go_at_call 197; refine (kF.out _ (bal2 w _ _)).mono ?_; rintro e w3 ⟨rfl, hb3⟩; obtain ⟨hN3, hZ3, hW3⟩ := hX.out _ hb3; obtain ⟨⟨f0, f1, f2, f3, f4, f5, f6, f7, f8⟩, z0, z1, z2, z3, z4, z5, z6, z7, z8⟩ := zbox hZ3; have hW4 : Hid (Below w.heap.size w w3) := hW3; clear hb3 hN3 hZ3 hW3)
  refine bodyPost_ret (v := .tuple #[.agg #[.int .i64 2, .int .u64 0, .bool false, .string s, .int .i64 0, .string ⟨#[]⟩, .slice none 0 0, .slice none 0 0, .slice none 0 0], .int .i64 y]) (by simp [results, Tryz.results169, go_sem, *]) rfl ⟨⟨⟨2, 0, false, s, 0, ⟨#[]⟩, none, 0, 0, none, 0, 0, none, 0, 0⟩, rfl, fun h0 => hL.out _ h0⟩, ?_⟩
  repeat (first | with_reducible exact hW4.out | with_reducible refine bset ?_ (by omega))
set_option maxHeartbeats 4000000 in
set_option maxRecDepth 100000 in
theorem ctagged_b3 {S : Nat → Prop} {D : Nat} {w : World} {b : Nb} {t : Tr} (h : NdW S (D + 1) w b t) (h6 : t.kind = 6) : Calls Tryz.prog 169 #[.int .u64 3, .agg b.arr] w fun x w' => TgIs S w w' (D + 1) x (tagA 3 t) := by
  have e : tagA 3 t = if (frbA t.bytes).2 ≠ 0 then (zT, (frbA t.bytes).2) else belA (frbA t.bytes).1 := by unfold tagA; rw [if_neg (by simp), if_pos ⟨rfl, h6⟩]
  rw [e]
  have hk6 : b.kind = 6 := by rw [show b.kind = t.kind from h.1.1]; exact h6
  have hby := h.2.2.1
  have kF : Hid (∀ wx, Below w.heap.size w wx → Calls Tryz.prog 197 #[.slice b.ab b.lb b.cb] wx fun e w' => e = .returned (.tuple #[.string (frbA t.bytes).1, .int .i64 (frbA t.bytes).2]) ∧ Below wx.heap.size wx w') := fun wx hx => frb_any b.ab b.lb b.cb t.bytes wx hby.1 (hby.2.2.kept hx)
  have hX : Hid (∀ w3, Below ((w.alloc (.cells b.arr 26)).alloc (.cells zN.arr 26)).heap.size ((w.alloc (.cells b.arr 26)).alloc (.cells zN.arr 26)) w3 → NBox w3 w.heap.size b ∧ NBox w3 (w.heap.size + 1) zN ∧ Below w.heap.size w w3) := fun w3 hb => tbox b w3 hb
  obtain ⟨a0, a1, a2, a3, a4, a5, a6, a7, a8⟩ := (nbox_new w b).fields
  have kB : Hid (∀ (d : ByteArray) (wx : World), Calls Tryz.prog 125 #[.string d] wx fun e w' => e = .returned (.tuple #[.agg (nbL (belA d).1).arr, .int .i64 (belA d).2]) ∧ Below wx.heap.size wx w') := fun d wx => cbelow_any d wx
  have hLb : Hid (∀ (d : ByteArray) (X : World), (belA d).2 = 0 → NdW (SU S w X) (D + 1 + 1) X ⟨2, 0, true, (addA d oneS).1, 0, ⟨#[]⟩, none, 0, 0, none, 0, 0, none, 0, 0⟩ (belA d).1) := fun d X h0 => ndw_leaf _ _ X (t := (belA d).1) rfl ⟨rfl, rfl⟩ rfl rfl rfl (Nat.le_trans (bel_size h0) (by omega)) (by show (0 : Nat) ≤ _; omega)
  unfold zN Nb.arr at *
  rw [hk6] at a0 a1 a2 a3 a4 a5 a6 a7 a8 hX ⊢
  generalize (frbA t.bytes).1 = s at *
  generalize (frbA t.bytes).2 = y at *
  clear e h h6 hk6 hby
  by_cases hy : y = 0
  · subst hy
    rw [if_neg (by simp)]
    have kB2 := kB.out s
    have hL2 := hLb.out s
    unfold TgIs
    unfold belA nbL intT at kB2
    unfold belA intT at hL2 ⊢
    simp only at kB2 hL2 ⊢
    generalize (addA s oneS).1 = u at *
    generalize (addA s oneS).2 = v at *
    have kB3 : Hid (∀ wx, Calls Tryz.prog 125 #[.string s] wx fun e w' => e = .returned (.tuple #[.agg #[.int .i64 2, .int .u64 0, .bool true, .string u, .int .i64 0, .string ⟨#[]⟩, .slice none 0 0, .slice none 0 0, .slice none 0 0], .int .i64 v]) ∧ Below wx.heap.size wx w') := kB2
    have hL3 : Hid (∀ X : World, v = 0 → NdW (SU S w X) (D + 1 + 1) X ⟨2, 0, true, u, 0, ⟨#[]⟩, none, 0, 0, none, 0, 0, none, 0, 0⟩ ⟨2, 0, true, u, 0, ⟨#[]⟩, [], [], []⟩) := hL2
    clear kB kB2 hL2 hLb
    go_enter Tryz.func169, Tryz.ntmps169
    go_wp2_with (first
      | (go_at_call 197; refine (kF.out _ (bal2 w _ _)).mono ?_; rintro e w3 ⟨rfl, hb3⟩; obtain ⟨hN3, hZ3, hW3⟩ := hX.out _ hb3; have hZ4 : Hid (NBox w3 (w.heap.size + 1) zN) := hZ3; have hW4 : Hid (Below w.heap.size w w3) := hW3; clear hb3 hN3 hZ3 hW3)
      | (go_at_call 125; refine (kB3.out _).mono ?_; rintro e w5 ⟨rfl, hb5⟩; obtain ⟨⟨f0, f1, f2, f3, f4, f5, f6, f7, f8⟩, z0, z1, z2, z3, z4, z5, z6, z7, z8⟩ := zbox (hZ4.out.kept hb5 hZ4.out.lt); have hW5 : Hid (Below w.heap.size w w5) := hW4.out.trans (hb5.mono hW4.out.size); clear hb5))
    refine bodyPost_ret (v := .tuple #[.agg #[.int .i64 2, .int .u64 0, .bool true, .string u, .int .i64 0, .string ⟨#[]⟩, .slice none 0 0, .slice none 0 0, .slice none 0 0], .int .i64 v]) (by simp [results, Tryz.results169, go_sem, *]) rfl ⟨⟨⟨2, 0, true, u, 0, ⟨#[]⟩, none, 0, 0, none, 0, 0, none, 0, 0⟩, rfl, fun h0 => hL3.out _ h0⟩, ?_⟩
    repeat (first | with_reducible exact hW5.out | with_reducible refine bset ?_ (by omega))
  · rw [if_pos hy]
    have gy : (y != 0) = true := by simpa using hy
    have hy' : Hid (¬ y = 0) := hy
    unfold TgIs
    simp only
    clear hy kB hLb
    go_enter Tryz.func169, Tryz.ntmps169
    go_wp2_with (go_at_call 197; refine (kF.out _ (bal2 w _ _)).mono ?_; rintro e w3 ⟨rfl, hb3⟩; obtain ⟨hN3, hZ3, hW3⟩ := hX.out _ hb3; obtain ⟨⟨f0, f1, f2, f3, f4, f5, f6, f7, f8⟩, z0, z1, z2, z3, z4, z5, z6, z7, z8⟩ := zbox hZ3; have hW4 : Hid (Below w.heap.size w w3) := hW3; clear hb3 hN3 hZ3 hW3)
    refine bodyPost_ret (v := .tuple #[.agg #[.int .i64 0, .int .u64 0, .bool false, .string ⟨#[]⟩, .int .i64 0, .string ⟨#[]⟩, .slice none 0 0, .slice none 0 0, .slice none 0 0], .int .i64 y]) (by simp [results, Tryz.results169, go_sem, *]) rfl ⟨⟨zN, rfl, fun h0 => absurd h0 hy'.out⟩, ?_⟩
    repeat (first | with_reducible exact hW4.out | with_reducible refine bset ?_ (by omega))
end Go.Proofs.YtnjbppfanmmifaaGreatDoor
namespace Go.Proofs.YtnjbppfanmmifaaGreatDoor
open Go.RowKit
set_option linter.unusedVariables false
theorem tow_nn (s : ByteArray) : 0 ≤ (towA s).1 := by unfold towA; split <;> simp
/-- A decimal number, whatever it is. -/
theorem cdecimal_any (a b : Nb) (ta tb : Tr) (w : World) {B : Nat} (hLv : Lw B w) (hBw : B ≤ w.heap.size) (h0 : a.dig = ta.dig) (h1 : a.neg = ta.neg) (h2 : b.dig = tb.dig) (h3 : b.neg = tb.neg) : Calls Tryz.prog 199 #[.agg a.arr, .agg b.arr] w fun e w' => (∃ nb : Nb, e = .returned (.tuple #[.agg nb.arr, .int .i64 (dcmA ta tb).2]) ∧ ((dcmA ta tb).2 = 0 → nb = nbL (dcmA ta tb).1)) ∧ Below w.heap.size w w' := by
  unfold dcmA
  rw [← h0, ← h1, ← h2, ← h3]
  by_cases hf : (towA a.dig).2 = false ∨ 1000000 < (towA a.dig).1
  · rw [if_pos hf]
    exact (cdecimal_far a b w hLv hBw hf).mono fun e w' ⟨⟨nb, he⟩, hb⟩ => ⟨⟨nb, he, fun z => absurd z (by decide)⟩, hb⟩
  · rw [if_neg hf]
    have ok : (towA a.dig).2 = true := by
      cases hx : (towA a.dig).2 with
      | true => rfl
      | false => exact absurd (.inl hx) hf
    have near : (towA a.dig).1 ≤ 1000000 := by have := fun z => hf (.inr z); omega
    by_cases hm : (makeA b.neg b.dig (sgn a.neg (towA a.dig).1)).2 = 0
    · rw [if_neg (by simpa using hm)]
      exact (cdecimal_near a b w hLv hBw ok (tow_nn _) near (nbL (dcm (makeA b.neg b.dig (sgn a.neg (towA a.dig).1)).1)) 0 (fun z => absurd hm z) (fun _ => ⟨rfl, rfl⟩)).mono fun e w' ⟨he, hb⟩ => ⟨⟨_, he, fun _ => rfl⟩, hb⟩
    · rw [if_pos hm]
      exact (cdecimal_near a b w hLv hBw ok (tow_nn _) near zN _ (fun _ => ⟨rfl, rfl⟩) (fun z => absurd z hm)).mono fun e w' ⟨he, hb⟩ => ⟨⟨_, he, fun z => absurd z hm⟩, hb⟩
theorem pr_some {t ta tb : Tr} (h : prT t = some (ta, tb)) : t.kind = 7 ∧ t.kids = [ta, tb] := by
  unfold prT at h
  split at h
  · rename_i a b hk
    split at h
    · rename_i hc; simp at h; obtain ⟨rfl, rfl⟩ := h; exact ⟨hc.1, hk⟩
    · simp at h
  · simp at h
theorem dcm_leaf {ta tb : Tr} (h : (dcmA ta tb).2 = 0) : (dcmA ta tb).1.bytes = [] ∧ Lf (dcmA ta tb).1 ∧ (Lit.int .i64 (dcmA ta tb).1.kind).wf = true ∧ (Lit.int .u64 (dcmA ta tb).1.num).wf = true ∧ (Lit.int .i64 (dcmA ta tb).1.exp).wf = true ∧ (dcmA ta tb).1.dig.size ≤ 140737488351232 ∧ (dcmA ta tb).1.txt.size ≤ 140737488351232 := by
  unfold dcmA at h ⊢
  split at h
  · exact absurd h (by decide)
  rename_i c1
  rw [if_neg c1]
  split at h
  · rename_i c2; exact absurd h c2
  · rename_i c2
    rw [if_neg c2]
    have hm : (makeA tb.neg tb.dig (sgn ta.neg (towA ta.dig).1)).2 = 0 := by simpa using c2
    have hr := make_right (m := (makeA tb.neg tb.dig (sgn ta.neg (towA ta.dig).1)).1) (by rw [← hm])
    generalize (makeA tb.neg tb.dig (sgn ta.neg (towA ta.dig).1)).1 = r at *
    have hsz := (rt_size (rtN_rt hr)).2
    have hex := rtN_exp hr
    show (dcm r).bytes = [] ∧ Lf (dcm r) ∧ _
    unfold dcm
    split
    · refine ⟨rfl, ⟨rfl, rfl⟩, rfl, rfl, rfl, ?_, by show (0 : Nat) ≤ _; omega⟩
      show (wholeA r.1 r.2.1 r.2.2).1.size ≤ _
      unfold wholeA
      split
      · rename_i q; show (padW _ _).size ≤ _; rw [padW_size]; omega
      · show (0 : Nat) ≤ _; omega
    · refine ⟨rfl, ⟨rfl, rfl⟩, rfl, rfl, ?_, by show r.2.1.size ≤ _; omega, by show (0 : Nat) ≤ _; omega⟩
      show (Lit.int .i64 r.2.2).wf = true
      simp [Lit.wf, show IntKind.i64.min = -9223372036854775808 from by decide, show IntKind.i64.max = 9223372036854775807 from by decide]
      omega
end Go.Proofs.YtnjbppfanmmifaaGreatDoor
namespace Go.Proofs.YtnjbppfanmmifaaGreatDoor
open Go.RowKit
set_option linter.unusedVariables false
set_option maxHeartbeats 4000000 in
set_option maxRecDepth 100000 in
theorem ctagged_d4 {S : Nat → Prop} {D L : Nat} {w : World} {b : Nb} {t ta tb : Tr} (h : NdW S (D + 1) w b t) (hp : prT t = some (ta, tb)) (hLv : Lw L w) (hLw : L ≤ w.heap.size) : Calls Tryz.prog 169 #[.int .u64 4, .agg b.arr] w fun x w' => TgIs S w w' (D + 1) x (tagA 4 t) := by
  have e : tagA 4 t = dcmA ta tb := by unfold tagA; rw [if_neg (by simp), if_neg (by simp), if_pos rfl, hp]
  rw [e]
  obtain ⟨h7, hkk⟩ := pr_some hp
  have kP : Hid (∀ wx, Below w.heap.size w wx → Calls Tryz.prog 198 #[.agg b.arr] wx fun e w' => e = .returned (.bool true) ∧ Below wx.heap.size wx w') := fun wx hx => by have := cispair_any (h.nd.kept hx); rw [hp] at this; exact this
  have hRow := h.nd.2.2.2.2
  have hlen : t.kids.length = b.li := hRow.1
  have hl2 : b.li = 2 := by rw [← hlen, hkk]; rfl
  rcases hRow.2.2 with hz | ⟨bk, off, ha, hc⟩
  · rw [hkk] at hz; cases hz
  obtain ⟨n0, hc0, hq0⟩ := hc 0 (by rw [hkk]; simp)
  obtain ⟨n1, hc1, hq1⟩ := hc 1 (by rw [hkk]; simp)
  have q0 : n0.dig = ta.dig ∧ n0.neg = ta.neg := by
    have e0 : t.kids[0]'(by rw [hkk]; simp) = ta := by simp [hkk]
    rw [e0] at hq0
    match D, hq0 with
    | D + 1, hq0 => exact ⟨hq0.1.2.2.2.1, hq0.1.2.2.1⟩
  have q1 : n1.dig = tb.dig ∧ n1.neg = tb.neg := by
    have e0 : t.kids[1]'(by rw [hkk]; simp) = tb := by simp [hkk]
    rw [e0] at hq1
    match D, hq1 with
    | D + 1, hq1 => exact ⟨hq1.1.2.2.2.1, hq1.1.2.2.1⟩
  have g0 := hc0 0 (by omega)
  have hbk : bk < w.heap.size := some_block (g0.trans (List.getElem?_eq_getElem (by simp [Nb.cells])))
  have kD : Hid (∀ wx, Below w.heap.size w wx → Calls Tryz.prog 199 #[.agg n0.arr, .agg n1.arr] wx fun e w' => (∃ nb : Nb, e = .returned (.tuple #[.agg nb.arr, .int .i64 (dcmA ta tb).2]) ∧ ((dcmA ta tb).2 = 0 → nb = nbL (dcmA ta tb).1)) ∧ Below wx.heap.size wx w') := fun wx hx => cdecimal_any n0 n1 ta tb wx (hLv.on (hx.mono hLw)) (Nat.le_trans hLw hx.size) q0.1 q0.2 q1.1 q1.2
  have hL : Hid (∀ (X : World) (nb : Nb), (dcmA ta tb).2 = 0 → nb = nbL (dcmA ta tb).1 → NdW (SU S w X) (D + 1 + 1) X nb (dcmA ta tb).1) := fun X nb hz hn => by
    obtain ⟨l1, l2, l3, l4, l5, l6, l7⟩ := dcm_leaf hz
    rw [hn]
    exact ndw_leaf _ _ X l1 l2 l3 l4 l5 l6 l7
  have hX : Hid (∀ w3, Below ((w.alloc (.cells b.arr 26)).alloc (.cells zN.arr 26)).heap.size ((w.alloc (.cells b.arr 26)).alloc (.cells zN.arr 26)) w3 → NBox w3 w.heap.size b ∧ NBox w3 (w.heap.size + 1) zN ∧ Below w.heap.size w w3) := fun w3 hb => tbox b w3 hb
  have hEl : Hid (∀ wx, Below w.heap.size w wx → (∀ j, j < 9 → wx.cell? ⟨bk, off + (0 * 9 + j), none⟩ = n0.cells[j]?) ∧ (∀ j, j < 9 → wx.cell? ⟨bk, off + (1 * 9 + j), none⟩ = n1.cells[j]?)) := fun wx hx => ⟨fun j hj => by rw [hx.cell (p := ⟨bk, off + (0 * 9 + j), none⟩) hbk]; exact hc0 j hj, fun j hj => by rw [hx.cell (p := ⟨bk, off + (1 * 9 + j), none⟩) hbk]; exact hc1 j hj⟩
  obtain ⟨a0, a1, a2, a3, a4, a5, a6, a7, a8⟩ := (nbox_new w b).fields
  have hcap := hRow.2.1.1
  rw [hl2] at hcap
  unfold TgIs
  unfold zN Nb.arr at *
  obtain ⟨cc, hcc⟩ : ∃ cc, b.ci = cc := ⟨_, rfl⟩
  rw [hl2, ha, hcc] at a8 hX kP ⊢
  rw [hl2, ha, hcc] at a0 a1 a2 a3 a4 a5 a6 a7
  rw [hcc] at hcap
  have hcc2 : (2 : Nat) ≤ cc := hcap
  generalize dcmA ta tb = DR at *
  obtain ⟨dt, y⟩ := DR
  simp only at *
  have hA8 : Hid (b.ai = some ⟨bk, off, none⟩ ∧ b.li = 2 ∧ b.ci = cc) := ⟨ha, hl2, hcc⟩
  clear e h hp h7 hkk hRow hlen hl2 hc hc0 hc1 hq0 hq1 q0 q1 g0 hLv hLw hcc ha hcap
  go_enter Tryz.func169, Tryz.ntmps169
  go_upto_region 10 with (go_at_call 198; refine (kP.out _ (bal2 w _ _)).mono ?_; rintro e w3 ⟨rfl, hb3⟩; obtain ⟨hN3, hZ3, hW3⟩ := hX.out _ hb3; have hN4 : Hid (NBox w3 w.heap.size b) := hN3; have hZ4 : Hid (NBox w3 (w.heap.size + 1) zN) := hZ3; have hW4 : Hid (Below w.heap.size w w3) := hW3; clear hb3 hN3 hZ3 hW3)
  have SK : Hid (∀ wx, Below (w.heap.size + 1) w3 wx → wx.cell? ⟨w.heap.size, 8, none⟩ = some (.slice (some ⟨bk, off, none⟩) 2 cc) ∧ wx.cell? ⟨bk, off, none⟩ = some (.int .i64 n0.kind) ∧ wx.cell? ⟨bk, off + 1, none⟩ = some (.int .u64 n0.num) ∧ wx.cell? ⟨bk, off + 2, none⟩ = some (.bool n0.neg) ∧ wx.cell? ⟨bk, off + 3, none⟩ = some (.string n0.dig) ∧ wx.cell? ⟨bk, off + 4, none⟩ = some (.int .i64 n0.exp) ∧ wx.cell? ⟨bk, off + 5, none⟩ = some (.string n0.txt) ∧ wx.cell? ⟨bk, off + 6, none⟩ = some (.slice n0.ab n0.lb n0.cb) ∧ wx.cell? ⟨bk, off + 7, none⟩ = some (.slice n0.ak n0.lk n0.ck) ∧ wx.cell? ⟨bk, off + 8, none⟩ = some (.slice n0.ai n0.li n0.ci) ∧ wx.cell? ⟨bk, off + 9, none⟩ = some (.int .i64 n1.kind) ∧ wx.cell? ⟨bk, off + 10, none⟩ = some (.int .u64 n1.num) ∧ wx.cell? ⟨bk, off + 11, none⟩ = some (.bool n1.neg) ∧ wx.cell? ⟨bk, off + 12, none⟩ = some (.string n1.dig) ∧ wx.cell? ⟨bk, off + 13, none⟩ = some (.int .i64 n1.exp) ∧ wx.cell? ⟨bk, off + 14, none⟩ = some (.string n1.txt) ∧ wx.cell? ⟨bk, off + 15, none⟩ = some (.slice n1.ab n1.lb n1.cb) ∧ wx.cell? ⟨bk, off + 16, none⟩ = some (.slice n1.ak n1.lk n1.ck) ∧ wx.cell? ⟨bk, off + 17, none⟩ = some (.slice n1.ai n1.li n1.ci)) := fun wx hx => by
    have hN := hN4.out.kept (hx.mono (Nat.le_refl _)) (Nat.lt_succ_self _)
    have d8 := hN.fields.2.2.2.2.2.2.2.2
    rw [hA8.out.1, hA8.out.2.1, hA8.out.2.2] at d8
    have hb : Below w.heap.size w wx := hW4.out.trans (hx.mono (Nat.le_succ _))
    obtain ⟨u, v⟩ := hEl.out _ hb
    obtain ⟨u0, u1, u2, u3, u4, u5, u6, u7, u8⟩ := elem_fields (i := 0) u
    obtain ⟨v0, v1, v2, v3, v4, v5, v6, v7, v8⟩ := elem_fields (i := 1) v
    simp only [Nat.zero_mul, Nat.add_zero, Nat.one_mul] at u0 u1 u2 u3 u4 u5 u6 u7 u8 v0 v1 v2 v3 v4 v5 v6 v7 v8
    exact ⟨d8, u0, u1, u2, u3, u4, u5, u6, u7, u8, v0, v1, v2, v3, v4, v5, v6, v7, v8⟩
  have hlw : Hid (w.heap.size + 1 ≤ w3.heap.size) := Nat.le_of_lt hZ4.out.lt
  clear a0 a1 a2 a3 a4 a5 a6 a7 a8 hX kP hEl
  go_region_held3 (fun wx => wx.cell? ⟨w.heap.size, 8, none⟩ = some (.slice (some ⟨bk, off, none⟩) 2 cc) ∧ wx.cell? ⟨bk, off, none⟩ = some (.int .i64 n0.kind) ∧ wx.cell? ⟨bk, off + 1, none⟩ = some (.int .u64 n0.num) ∧ wx.cell? ⟨bk, off + 2, none⟩ = some (.bool n0.neg) ∧ wx.cell? ⟨bk, off + 3, none⟩ = some (.string n0.dig) ∧ wx.cell? ⟨bk, off + 4, none⟩ = some (.int .i64 n0.exp) ∧ wx.cell? ⟨bk, off + 5, none⟩ = some (.string n0.txt) ∧ wx.cell? ⟨bk, off + 6, none⟩ = some (.slice n0.ab n0.lb n0.cb) ∧ wx.cell? ⟨bk, off + 7, none⟩ = some (.slice n0.ak n0.lk n0.ck) ∧ wx.cell? ⟨bk, off + 8, none⟩ = some (.slice n0.ai n0.li n0.ci) ∧ wx.cell? ⟨bk, off + 9, none⟩ = some (.int .i64 n1.kind) ∧ wx.cell? ⟨bk, off + 10, none⟩ = some (.int .u64 n1.num) ∧ wx.cell? ⟨bk, off + 11, none⟩ = some (.bool n1.neg) ∧ wx.cell? ⟨bk, off + 12, none⟩ = some (.string n1.dig) ∧ wx.cell? ⟨bk, off + 13, none⟩ = some (.int .i64 n1.exp) ∧ wx.cell? ⟨bk, off + 14, none⟩ = some (.string n1.txt) ∧ wx.cell? ⟨bk, off + 15, none⟩ = some (.slice n1.ab n1.lb n1.cb) ∧ wx.cell? ⟨bk, off + 16, none⟩ = some (.slice n1.ak n1.lk n1.ck) ∧ wx.cell? ⟨bk, off + 17, none⟩ = some (.slice n1.ai n1.li n1.ci)) (((with_reducible refine SK.out _ ?_); (repeat' with_reducible first | exact Below.refl _ _ | exact b5.out | refine Below.drew ?_ | refine bset ?_ ?_); (all_goals exact Nat.le_refl _))) (first | (go_at_call 199; refine (kD.out _ (Below.drew hW4.out)).mono ?_; rintro e w5 ⟨⟨nb, he5, hn5⟩, hb5⟩; subst he5; have b5 : Hid (Below (w.heap.size + 1) w3 w5) := Below.mono ⟨hb5.os, hb5.tape, hb5.output, hb5.size, hb5.block⟩ hlw.out; have hN5 : Hid (y = 0 → nb = nbL dt) := hn5; have W5 : Hid (Below w.heap.size w w5) := hW4.out.trans (b5.out.mono (Nat.le_succ _)); have Z5 : Hid (NBox w5 (w.heap.size + 1) zN) := hZ4.out.same (hb5.block _ hZ4.out.lt); obtain ⟨⟨f0, f1, f2, f3, f4, f5, f6, f7, f8⟩, z0, z1, z2, z3, z4, z5, z6, z7, z8⟩ := zbox Z5.out; clear hb5 hn5))
  all_goals
    go_wp2_with fail
    refine bodyPost_ret (v := .tuple #[.agg nb.arr, .int .i64 y]) (by rw [Nb.arr]; simp [results, Tryz.results169, go_sem, *]) rfl ⟨⟨nb, rfl, fun z => hL.out _ _ z (hN5.out z)⟩, ?_⟩
    repeat (first | with_reducible exact W5.out | with_reducible refine bset ?_ (by omega))
end Go.Proofs.YtnjbppfanmmifaaGreatDoor
namespace Go.Proofs.YtnjbppfanmmifaaGreatDoor
open Go.RowKit
set_option linter.unusedVariables false
/-- Every tag. -/
theorem ctagged_any {S : Nat → Prop} {D L : Nat} {w : World} {b : Nb} {t : Tr} (n : Nat) (hn : n < 18446744073709551616) (h : NdW S (D + 1) w b t) (hE : ∀ k, S k → k < w.heap.size) (hLv : Lw L w) (hL : L ≤ w.heap.size) : Calls Tryz.prog 169 #[.int .u64 (n : Nat), .agg b.arr] w fun x w' => TgIs S w w' (D + 1) x (tagA n t) := by
  by_cases h2 : n = 2
  · subst h2
    by_cases h6 : t.kind = 6
    · exact ctagged_b2 h h6
    · exact ctagged_two h hE h6
  by_cases h3 : n = 3
  · subst h3
    by_cases h6 : t.kind = 6
    · exact ctagged_b3 h h6
    · exact ctagged_three h hE h6
  by_cases h4 : n = 4
  · subst h4
    cases hp : prT t with
    | none => exact ctagged_four h hE hp
    | some ab =>
      obtain ⟨ta, tb⟩ := ab
      exact ctagged_d4 h hp hLv hL
  · exact ctagged_plain n hn h hE h2 h3 h4
/-- What comes of a tag, by what comes of its item. -/
def tagR (hd : Hd) (R : Sum (Int × Nat) (Tr × Nat × Nat)) : Sum (Int × Nat) (Tr × Nat × Nat) := match R with
  | .inl e => .inl e
  | .inr (t, r, n) => if (tagA hd.n t).2 ≠ 0 then .inl (11, hd.pl) else .inr ((tagA hd.n t).1, r, n)
/-- A tag. -/
def TagAt (C : CX) (k : Nat) : Prop := ∀ (w : World) (hd : Hd) (d q m : Nat), RSt C w q m → hd.n < 18446744073709551616 → m ≤ 1024 → d ≤ 24 → q ≤ C.zs.length → 2 * (C.zs.length - q) + 1 ≤ k → Calls Tryz.prog 129 #[.pointer (some ⟨C.g, 0, none⟩), .agg hd.arr, .int .i64 (d : Nat)] w fun x w' => ItmIs C w w' (27 - d) x (tagR hd (rcF k C.zs 0 (d + 1) q m none [] []))
/-- The reader behind an item and its tag: the boxes, the node that is answered. -/
def TD (C : CX) (w X : World) (hd : Hd) (r o D : Nat) (nb : Nb) (R : Tr × Int) (S : Nat → Prop) : Prop := RK C w X r o ∧ Blk X w.heap.size hd.arr 94 ∧ NBox X (w.heap.size + 1) zN ∧ (R.2 = 0 → NdW S (D + 1) X nb R.1) ∧ (∀ k, S k → w.heap.size + 2 ≤ k ∧ k < X.heap.size) ∧ w.heap.size + 2 ≤ X.heap.size
/-- The same, the node in a box. -/
def TC (C : CX) (w X : World) (hd : Hd) (r o D g : Nat) (nb : Nb) (R : Tr × Int) : Prop := RK C w X r o ∧ Blk X w.heap.size hd.arr 94 ∧ NBox X (w.heap.size + 1) zN ∧ NBox X g nb ∧ (R.2 = 0 → NdW (Rg (w.heap.size + 2) X.heap.size) (D + 1) X nb R.1)
theorem tc_c {C : CX} {w X : World} {hd : Hd} {r o D : Nat} {nb : Nb} {R : Tr × Int} {S : Nat → Prop} (h : TD C w X hd r o D nb R S) : TC C w (X.alloc (.cells nb.arr 26)) hd r o D X.heap.size nb R := by
  obtain ⟨h1, h2, h3, h4, h5, h6⟩ := h
  have A := alloc_below X (.cells nb.arr 26)
  refine ⟨h1.alloc _, Blk.kept h2 A h2.lt, h3.kept A h3.lt, nbox_new X nb, fun z => ((h4 z).stays fun k hk => A.block k (h5 k hk).2).mono fun k hk => ⟨(h5 k hk).1, Nat.lt_of_lt_of_le (h5 k hk).2 A.size⟩⟩
theorem nine_put {X : World} {g : Nat} {nb : Nb} (h : NBox X g zN) : NBox (((((((((X.setCell ⟨g, 0, none⟩ (.int .i64 nb.kind)).setCell ⟨g, 1, none⟩ (.int .u64 nb.num)).setCell ⟨g, 2, none⟩ (.bool nb.neg)).setCell ⟨g, 3, none⟩ (.string nb.dig)).setCell ⟨g, 4, none⟩ (.int .i64 nb.exp)).setCell ⟨g, 5, none⟩ (.string nb.txt)).setCell ⟨g, 6, none⟩ (.slice nb.ab nb.lb nb.cb)).setCell ⟨g, 7, none⟩ (.slice nb.ak nb.lk nb.ck)).setCell ⟨g, 8, none⟩ (.slice nb.ai nb.li nb.ci)) g nb := by
  have h0 : X.heap[g]? = some (.cells #[.int .i64 0, .int .u64 0, .bool false, .string ⟨#[]⟩, .int .i64 0, .string ⟨#[]⟩, .slice none 0 0, .slice none 0 0, .slice none 0 0] 26 (0, 0)) := h
  have h1 : (X.setCell ⟨g, 0, none⟩ (.int .i64 nb.kind)).heap[g]? = some (.cells #[.int .i64 nb.kind, .int .u64 0, .bool false, .string ⟨#[]⟩, .int .i64 0, .string ⟨#[]⟩, .slice none 0 0, .slice none 0 0, .slice none 0 0] 26 (0, 0)) := (heap_setCell_same _ g 0 _ 26 _ h0).trans rfl
  have h2 : ((X.setCell ⟨g, 0, none⟩ (.int .i64 nb.kind)).setCell ⟨g, 1, none⟩ (.int .u64 nb.num)).heap[g]? = some (.cells #[.int .i64 nb.kind, .int .u64 nb.num, .bool false, .string ⟨#[]⟩, .int .i64 0, .string ⟨#[]⟩, .slice none 0 0, .slice none 0 0, .slice none 0 0] 26 (0, 0)) := (heap_setCell_same _ g 1 _ 26 _ h1).trans rfl
  have h3 : (((X.setCell ⟨g, 0, none⟩ (.int .i64 nb.kind)).setCell ⟨g, 1, none⟩ (.int .u64 nb.num)).setCell ⟨g, 2, none⟩ (.bool nb.neg)).heap[g]? = some (.cells #[.int .i64 nb.kind, .int .u64 nb.num, .bool nb.neg, .string ⟨#[]⟩, .int .i64 0, .string ⟨#[]⟩, .slice none 0 0, .slice none 0 0, .slice none 0 0] 26 (0, 0)) := (heap_setCell_same _ g 2 _ 26 _ h2).trans rfl
  have h4 : ((((X.setCell ⟨g, 0, none⟩ (.int .i64 nb.kind)).setCell ⟨g, 1, none⟩ (.int .u64 nb.num)).setCell ⟨g, 2, none⟩ (.bool nb.neg)).setCell ⟨g, 3, none⟩ (.string nb.dig)).heap[g]? = some (.cells #[.int .i64 nb.kind, .int .u64 nb.num, .bool nb.neg, .string nb.dig, .int .i64 0, .string ⟨#[]⟩, .slice none 0 0, .slice none 0 0, .slice none 0 0] 26 (0, 0)) := (heap_setCell_same _ g 3 _ 26 _ h3).trans rfl
  have h5 : (((((X.setCell ⟨g, 0, none⟩ (.int .i64 nb.kind)).setCell ⟨g, 1, none⟩ (.int .u64 nb.num)).setCell ⟨g, 2, none⟩ (.bool nb.neg)).setCell ⟨g, 3, none⟩ (.string nb.dig)).setCell ⟨g, 4, none⟩ (.int .i64 nb.exp)).heap[g]? = some (.cells #[.int .i64 nb.kind, .int .u64 nb.num, .bool nb.neg, .string nb.dig, .int .i64 nb.exp, .string ⟨#[]⟩, .slice none 0 0, .slice none 0 0, .slice none 0 0] 26 (0, 0)) := (heap_setCell_same _ g 4 _ 26 _ h4).trans rfl
  have h6 : ((((((X.setCell ⟨g, 0, none⟩ (.int .i64 nb.kind)).setCell ⟨g, 1, none⟩ (.int .u64 nb.num)).setCell ⟨g, 2, none⟩ (.bool nb.neg)).setCell ⟨g, 3, none⟩ (.string nb.dig)).setCell ⟨g, 4, none⟩ (.int .i64 nb.exp)).setCell ⟨g, 5, none⟩ (.string nb.txt)).heap[g]? = some (.cells #[.int .i64 nb.kind, .int .u64 nb.num, .bool nb.neg, .string nb.dig, .int .i64 nb.exp, .string nb.txt, .slice none 0 0, .slice none 0 0, .slice none 0 0] 26 (0, 0)) := (heap_setCell_same _ g 5 _ 26 _ h5).trans rfl
  have h7 : (((((((X.setCell ⟨g, 0, none⟩ (.int .i64 nb.kind)).setCell ⟨g, 1, none⟩ (.int .u64 nb.num)).setCell ⟨g, 2, none⟩ (.bool nb.neg)).setCell ⟨g, 3, none⟩ (.string nb.dig)).setCell ⟨g, 4, none⟩ (.int .i64 nb.exp)).setCell ⟨g, 5, none⟩ (.string nb.txt)).setCell ⟨g, 6, none⟩ (.slice nb.ab nb.lb nb.cb)).heap[g]? = some (.cells #[.int .i64 nb.kind, .int .u64 nb.num, .bool nb.neg, .string nb.dig, .int .i64 nb.exp, .string nb.txt, .slice nb.ab nb.lb nb.cb, .slice none 0 0, .slice none 0 0] 26 (0, 0)) := (heap_setCell_same _ g 6 _ 26 _ h6).trans rfl
  have h8 : ((((((((X.setCell ⟨g, 0, none⟩ (.int .i64 nb.kind)).setCell ⟨g, 1, none⟩ (.int .u64 nb.num)).setCell ⟨g, 2, none⟩ (.bool nb.neg)).setCell ⟨g, 3, none⟩ (.string nb.dig)).setCell ⟨g, 4, none⟩ (.int .i64 nb.exp)).setCell ⟨g, 5, none⟩ (.string nb.txt)).setCell ⟨g, 6, none⟩ (.slice nb.ab nb.lb nb.cb)).setCell ⟨g, 7, none⟩ (.slice nb.ak nb.lk nb.ck)).heap[g]? = some (.cells #[.int .i64 nb.kind, .int .u64 nb.num, .bool nb.neg, .string nb.dig, .int .i64 nb.exp, .string nb.txt, .slice nb.ab nb.lb nb.cb, .slice nb.ak nb.lk nb.ck, .slice none 0 0] 26 (0, 0)) := (heap_setCell_same _ g 7 _ 26 _ h7).trans rfl
  have h9 : (((((((((X.setCell ⟨g, 0, none⟩ (.int .i64 nb.kind)).setCell ⟨g, 1, none⟩ (.int .u64 nb.num)).setCell ⟨g, 2, none⟩ (.bool nb.neg)).setCell ⟨g, 3, none⟩ (.string nb.dig)).setCell ⟨g, 4, none⟩ (.int .i64 nb.exp)).setCell ⟨g, 5, none⟩ (.string nb.txt)).setCell ⟨g, 6, none⟩ (.slice nb.ab nb.lb nb.cb)).setCell ⟨g, 7, none⟩ (.slice nb.ak nb.lk nb.ck)).setCell ⟨g, 8, none⟩ (.slice nb.ai nb.li nb.ci)).heap[g]? = some (.cells #[.int .i64 nb.kind, .int .u64 nb.num, .bool nb.neg, .string nb.dig, .int .i64 nb.exp, .string nb.txt, .slice nb.ab nb.lb nb.cb, .slice nb.ak nb.lk nb.ck, .slice nb.ai nb.li nb.ci] 26 (0, 0)) := (heap_setCell_same _ g 8 _ 26 _ h8).trans rfl
  exact h9
theorem TD.set {C : CX} {w X : World} {hd : Hd} {r o D g j : Nat} {nb : Nb} {R : Tr × Int} {S : Nat → Prop} {v : Value} (h : TD C w X hd r o D nb R S) (hg : w.heap.size + 2 ≤ g) (hS : ¬ S g) : TD C w (X.setCell ⟨g, j, none⟩ v) hd r o D nb R S := by
  obtain ⟨h1, h2, h3, h4, h5, h6⟩ := h
  exact ⟨h1.set (by omega), (setk (by omega) v).trans h2, h3.same (setk (by omega) v), fun z => (h4 z).stays fun k hk => setk (by intro e; subst e; exact hS hk) v, fun k hk => ⟨(h5 k hk).1, by rw [set_size]; exact (h5 k hk).2⟩, by rw [set_size]; exact h6⟩
theorem tc_ab {C : CX} {w X : World} {hd : Hd} {r o D g : Nat} {nb : Nb} {R : Tr × Int} {S : Nat → Prop} (h : TD C w X hd r o D nb R S) (hN : NBox X g zN) (hg : w.heap.size + 2 ≤ g) (hS : ¬ S g) : TC C w (((((((((X.setCell ⟨g, 0, none⟩ (.int .i64 nb.kind)).setCell ⟨g, 1, none⟩ (.int .u64 nb.num)).setCell ⟨g, 2, none⟩ (.bool nb.neg)).setCell ⟨g, 3, none⟩ (.string nb.dig)).setCell ⟨g, 4, none⟩ (.int .i64 nb.exp)).setCell ⟨g, 5, none⟩ (.string nb.txt)).setCell ⟨g, 6, none⟩ (.slice nb.ab nb.lb nb.cb)).setCell ⟨g, 7, none⟩ (.slice nb.ak nb.lk nb.ck)).setCell ⟨g, 8, none⟩ (.slice nb.ai nb.li nb.ci)) hd r o D g nb R := by
  have T := ((((((((h.set (j := 0) (v := .int .i64 nb.kind) hg hS).set (j := 1) (v := .int .u64 nb.num) hg hS).set (j := 2) (v := .bool nb.neg) hg hS).set (j := 3) (v := .string nb.dig) hg hS).set (j := 4) (v := .int .i64 nb.exp) hg hS).set (j := 5) (v := .string nb.txt) hg hS).set (j := 6) (v := .slice nb.ab nb.lb nb.cb) hg hS).set (j := 7) (v := .slice nb.ak nb.lk nb.ck) hg hS).set (j := 8) (v := .slice nb.ai nb.li nb.ci) hg hS
  exact ⟨T.1, T.2.1, T.2.2.1, nine_put hN, fun z => (T.2.2.2.1 z).mono T.2.2.2.2.1⟩
theorem kz_set {g B k j : Nat} {w X : World} {v : Value} (h : Kq g B w X) (hk : B ≤ k) : Kq g B w (X.setCell ⟨k, j, none⟩ v) := by
  have hb : Below B X (X.setCell ⟨k, j, none⟩ v) := (Below.refl B X).setCell (p := ⟨k, j, none⟩) hk v
  exact h.trans (Kq.of hb)
theorem kz_alloc {g B : Nat} {w X : World} (h : Kq g B w X) (hB : B ≤ w.heap.size) (o : Obj) : Kq g B w (X.alloc o) := h.trans (Kq.of ((alloc_below X o).mono (Nat.le_trans hB h.size)))
end Go.Proofs.YtnjbppfanmmifaaGreatDoor
namespace Go.Proofs.YtnjbppfanmmifaaGreatDoor
open Go.RowKit
set_option linter.unusedVariables false
theorem td_of {C : CX} {w W1 X : World} {hd : Hd} {r o D : Nat} {nb : Nb} {R : Tr × Int} {S : Nat → Prop} (hB : Blk W1 w.heap.size hd.arr 94) (hZ : NBox W1 (w.heap.size + 1) zN) (hs : W1.heap.size = w.heap.size + 2) (hg : C.g < w.heap.size) (hq : Kq C.g W1.heap.size W1 X) (hK : RK C w X r o) (hn : R.2 = 0 → NdW S (D + 1) X nb R.1) (hS : ∀ k, S k → W1.heap.size ≤ k ∧ k < X.heap.size) : TD C w X hd r o D nb R S :=
  ⟨hK, Blk.kq hB hq hB.lt (by omega), hZ.same (hq.block _ hZ.lt (by omega)), hn, fun k hk => ⟨by have := (hS k hk).1; omega, (hS k hk).2⟩, by have := hq.size; omega⟩
theorem td_a {C : CX} {w W1 w4 w6 : World} {hd : Hd} {r o D B : Nat} {nb : Nb} {R : Tr × Int} (hB : Blk W1 w.heap.size hd.arr 94) (hZ : NBox W1 (w.heap.size + 1) zN) (hs : W1.heap.size = w.heap.size + 2) (hg : C.g < w.heap.size) (b4 : Kq C.g W1.heap.size W1 w4) (K4 : RK C w w4 r o) (hb : Below w4.heap.size w4 w6) (hBB : W1.heap.size ≤ B) (hn : R.2 = 0 → NdW (SU (Rg B w4.heap.size) w4 w6) (D + 1) w6 nb R.1) : TD C w w6 hd r o D nb R (SU (Rg B w4.heap.size) w4 w6) := by
  have s4 := b4.size
  have s6 := hb.size
  refine td_of hB hZ hs hg (b4.trans (Kq.of (hb.mono s4))) (K4.below hb) hn fun k hk => ?_
  rcases hk with q | q
  · have := q.1; have := q.2; exact ⟨by omega, by omega⟩
  · have := q.1; have := q.2; exact ⟨by omega, by omega⟩
theorem td_b {C : CX} {w W1 w4 w6 : World} {hd : Hd} {r o D B : Nat} {nb : Nb} {R : Tr × Int} {ob : Obj} (hB : Blk W1 w.heap.size hd.arr 94) (hZ : NBox W1 (w.heap.size + 1) zN) (hs : W1.heap.size = w.heap.size + 2) (hg : C.g < w.heap.size) (b4 : Kq C.g W1.heap.size W1 w4) (K4 : RK C w w4 r o) (hb : Below (w4.alloc ob).heap.size (w4.alloc ob) w6) (hBB : W1.heap.size ≤ B) (hn : R.2 = 0 → NdW (SU (Rg B w4.heap.size) (w4.alloc ob) w6) (D + 1) w6 nb R.1) : TD C w w6 hd r o D nb R (SU (Rg B w4.heap.size) (w4.alloc ob) w6) := by
  have s4 := b4.size
  have s5 := (alloc_below w4 ob).size
  have s6 := hb.size
  refine td_of hB hZ hs hg ((kz_alloc b4 (Nat.le_refl _) ob).trans (Kq.of (hb.mono (by omega)))) ((K4.alloc _).below hb) hn fun k hk => ?_
  rcases hk with q | q
  · have := q.1; have := q.2; exact ⟨by omega, by omega⟩
  · have := q.1; have := q.2; exact ⟨by omega, by omega⟩
theorem gs_a {W1 w4 w6 : World} {ob : Obj} (hs : (W1.alloc ob).drew.heap.size ≤ w4.heap.size) : ¬ SU (Rg (W1.alloc ob).drew.heap.size w4.heap.size) w4 w6 W1.heap.size := by
  have e : (W1.alloc ob).drew.heap.size = W1.heap.size + 1 := by show (W1.alloc ob).heap.size = _; simp
  rintro (q | q)
  · have := q.1; omega
  · have := q.1; omega
theorem gs_b {w4 w6 : World} {B : Nat} {ob : Obj} : ¬ SU (Rg B w4.heap.size) (w4.alloc ob) w6 w4.heap.size := by
  have e : (w4.alloc ob).heap.size = w4.heap.size + 1 := by simp
  rintro (q | q)
  · have := q.2; omega
  · have := q.1; omega
/-- A reader, and a tree that was read, behind b boxes. -/
def GR (b : Nat) (C : CX) (w X : World) (r n D : Nat) (nb : Nb) (t : Tr) : Prop := RK C w X r n ∧ NdW (Rg (w.heap.size + b) X.heap.size) D X nb t
theorem GR.set {b : Nat} {C : CX} {w X : World} {r n D j k : Nat} {nb : Nb} {t : Tr} {v : Value} (h : GR b C w X r n D nb t) (h0 : w.heap.size ≤ k) (h1 : k < w.heap.size + b) : GR b C w (X.setCell ⟨k, j, none⟩ v) r n D nb t :=
  ⟨h.1.set h0, by rw [set_size]; exact h.2.stays fun i hi => setk (by have := hi.1; omega) v⟩
theorem GR.out {b : Nat} {C : CX} {w X : World} {r n D : Nat} {nb : Nb} {t : Tr} (h : GR b C w X r n D nb t) : ItmIs C w X D (.returned (.agg nb.arr)) (.inr (t, r, n)) := ⟨⟨nb, rfl, h.2.mono fun k hk => ⟨by have := hk.1; omega, hk.2⟩⟩, h.1⟩
set_option maxHeartbeats 8000000 in
set_option maxRecDepth 100000 in
theorem tag_step {C : CX} {k : Nat} (ih : ItmAt C k) : TagAt C k := by
  intro w hd d q m h hn hm hd24 hq hk
  obtain ⟨D, hD⟩ : ∃ D, d + D = 25 := ⟨25 - d, by omega⟩
  have kI : Hid (∀ wx, RSt C wx q m → Calls Tryz.prog 48 #[.pointer (some ⟨C.g, 0, none⟩), .int .i64 ((d : Int) + 1)] wx fun x w' => ItmIs C wx w' (D + 1) x (rcF k C.zs 0 (d + 1) q m none [] [])) := fun wx hx => by
    have := ih wx (d + 1) q m hx hm (by omega) hq hk
    rw [show 27 - (d + 1) = D + 1 by omega, show (((d + 1 : Nat) : Nat) : Int) = (d : Int) + 1 by omega] at this
    exact this
  have wd : IntKind.i64.wrap ((d : Int) + 1) = (d : Int) + 1 := by rw [IntKind.wrap_i64]; omega
  have hgl : Hid (C.g < w.heap.size) := h.lt
  rw [show 27 - d = D + 1 + 1 by omega]
  generalize rcF k C.zs 0 (d + 1) q m none [] [] = IRR at *
  have s1 : (w.alloc (.cells hd.arr 94)).heap.size = w.heap.size + 1 := by simp
  have A1 := alloc_below (w.alloc (.cells hd.arr 94)) (.cells zN.arr 26)
  have hK1 : Hid (RK C w ((w.alloc (.cells hd.arr 94)).alloc (.cells zN.arr 26)) q m) := (h.rk.alloc _).alloc _
  have hB1 : Hid (Blk ((w.alloc (.cells hd.arr 94)).alloc (.cells zN.arr 26)) w.heap.size hd.arr 94) := Blk.kept (blk_new w hd.arr 94) A1 (by omega)
  have hZ1 : Hid (NBox ((w.alloc (.cells hd.arr 94)).alloc (.cells zN.arr 26)) (w.heap.size + 1) zN) := by have := nbox_new (w.alloc (.cells hd.arr 94)) zN; rw [s1] at this; exact this
  have hWs : Hid (((w.alloc (.cells hd.arr 94)).alloc (.cells zN.arr 26)).heap.size = w.heap.size + 2) := by show _ = _; simp
  obtain ⟨W1, hW1⟩ : ∃ W1, W1 = (w.alloc (.cells hd.arr 94)).alloc (.cells zN.arr 26) := ⟨_, rfl⟩
  rw [← hW1] at hK1 hB1 hZ1 hWs
  have KA : Hid (RK C w W1.drew q m) := hK1.out.drew
  have KB : Hid (RK C w (W1.alloc (.cells zN.arr 26)).drew q m) := (hK1.out.alloc _).drew
  have KA1 : Hid (RSt C W1.drew q m) := KA.out.1
  have KB1 : Hid (RSt C (W1.alloc (.cells zN.arr 26)).drew q m) := KB.out.1
  have a3 : Hid (Kq C.g W1.heap.size W1 (W1.alloc (.cells zN.arr 26))) := Kq.of (alloc_below W1 _)
  have l3 : Hid (NBox (W1.alloc (.cells zN.arr 26)) W1.heap.size zN) := nbox_new W1 zN
  obtain ⟨pl, mj, lo, n, cut⟩ := hd
  have hW2 : ((w.alloc (.cells #[.int .i64 (pl : Nat), .int .u8 mj, .int .u8 lo, .int .u64 (n : Nat), .bool cut] 94)).alloc (.cells #[.int .i64 0, .int .u64 0, .bool false, .string ⟨#[]⟩, .int .i64 0, .string ⟨#[]⟩, .slice none 0 0, .slice none 0 0, .slice none 0 0] 26)) = W1 := hW1.symm
  have hW3 : Hid (((w.alloc (.cells #[.int .i64 (pl : Nat), .int .u8 mj, .int .u8 lo, .int .u64 (n : Nat), .bool cut] 94)).alloc (.cells #[.int .i64 0, .int .u64 0, .bool false, .string ⟨#[]⟩, .int .i64 0, .string ⟨#[]⟩, .slice none 0 0, .slice none 0 0, .slice none 0 0] 26)) = W1) := hW2
  have hn' : Hid (n < 18446744073709551616) := hn
  clear hW1 hW2 A1 s1 h hm hd24 hq hk ih hn
  cases IRR with
  | inl f =>
    have e : tagR ⟨pl, mj, lo, n, cut⟩ (.inl f) = .inl f := rfl
    have q3 : W1.cell? ⟨w.heap.size, 3, none⟩ = some (.int .u64 (n : Nat)) := hB1.out.cell 3
    have q3a : (W1.alloc (.cells #[.int .i64 0, .int .u64 0, .bool false, .string ⟨#[]⟩, .int .i64 0, .string ⟨#[]⟩, .slice none 0 0, .slice none 0 0, .slice none 0 0] 26)).cell? ⟨w.heap.size, 3, none⟩ = some (.int .u64 (n : Nat)) := (Blk.kept hB1.out (alloc_below W1 _) hB1.out.lt).cell 3
    rw [e]
    unfold ItmIs at kI ⊢
    simp only at kI ⊢
    rw [pn_eq] at kI
    unfold Hd.arr zN Nb.arr at *
    simp only at *
    clear e hB1 hZ1 l3 a3 hn'
    go_enter Tryz.func129, Tryz.ntmps129
    go_upto_region 1 with fail
    rw [hW3.out]
    go_region_dies
    all_goals
      refine (kI.out _ (by first | with_reducible exact KA1.out | with_reducible exact KB1.out)).mono ?_
      rintro e w5 ⟨rfl, hk5⟩
      refine ⟨rfl, rfl, ?_⟩
      first
        | (have hX : Kq C.g W1.drew.heap.size W1.drew w5 := (by with_reducible exact hk5); exact KA.out.2.1.next hX)
        | exact KB.out.2.1.next hk5
  | inr tro =>
    obtain ⟨t, r, o⟩ := tro
    unfold ItmIs at kI
    simp only at kI
    have kT : Hid (∀ wx (S : Nat → Prop) (nb : Nb), NdW S (D + 1) wx nb t → (∀ k, S k → k < wx.heap.size) → RK C w wx r o → Calls Tryz.prog 169 #[.int .u64 (n : Nat), .agg nb.arr] wx fun x w' => TgIs S wx w' (D + 1) x (tagA n t)) := fun wx S nb h1 h2 h3 => ctagged_any n hn'.out h1 h2 h3.1.lw (Nat.le_of_lt h3.1.lt)
    obtain ⟨PR, hPR⟩ : ∃ PR, PR = tagR ⟨pl, mj, lo, n, cut⟩ (.inr (t, r, o)) := ⟨_, rfl⟩
    rw [← hPR]
    have hP : Hid (PR = if (tagA n t).2 ≠ 0 then .inl (11, pl) else .inr ((tagA n t).1, r, o)) := hPR
    clear hPR
    generalize tagA n t = TR at *
    obtain ⟨tt, y⟩ := TR
    unfold TgIs at kT
    unfold Nb.arr at kT KB KB1 a3 l3
    unfold Hd.arr zN at *
    simp only at *
    clear hn'
    go_enter Tryz.func129, Tryz.ntmps129
    go_upto_region 1 with fail
    rw [hW3.out]
    go_cut [7, 8] (fun s7 s8 wx => ∃ (g7 : Nat) (nb : Nb), s7 = .pointer (some ⟨g7, 0, none⟩) ∧ s8 = .int .i64 y ∧ Hid (TC C w wx ⟨pl, mj, lo, n, cut⟩ r o (D + 1) g7 nb (tt, y)))
    case first =>
      have SK : Hid (∀ wx, Kq C.g W1.heap.size W1 wx → wx.cell? ⟨w.heap.size, 3, none⟩ = some (.int .u64 (n : Nat))) := fun wx hx => (Blk.kq hB1.out hx hB1.out.lt (by have := hgl.out; omega)).cell 3
      have hCg : Hid (C.g < W1.heap.size) := by have := hWs.out; have := hgl.out; show _ < _; omega
      have hB0 : Hid (W1.heap.size ≤ (W1.alloc (.cells #[.int .i64 0, .int .u64 0, .bool false, .string ⟨#[]⟩, .int .i64 0, .string ⟨#[]⟩, .slice none 0 0, .slice none 0 0, .slice none 0 0] 26)).drew.heap.size) := a3.out.size
      have hW0 : Hid (w.heap.size + 2 ≤ W1.heap.size) := Nat.le_of_eq hWs.out.symm
      go_region_held3 (fun wx => wx.cell? ⟨w.heap.size, 3, none⟩ = some (.int .u64 (n : Nat))) (((with_reducible refine SK.out _ ?_); (repeat' with_reducible first | exact Kq.refl _ _ _ | exact a3.out | exact b6.out | exact b4.out | refine kqd ?_ | refine kz_set ?_ ?_ | refine kz_alloc ?_ ?_ _); (all_goals first | exact Nat.le_refl _ | exact b4.out.size))) (first
        | (go_at_call 48; refine (kI.out _ (by first | exact KA1.out | exact KB1.out)).mono ?_; rintro e w4 ⟨⟨nb4, he4, hn4⟩, hk4⟩; rw [Nb.arr] at he4; subst he4; first
          | (have hX : RK C W1.drew w4 r o := hk4; have K4 : Hid (RK C w w4 r o) := KA.out.next hX; have b4 : Hid (Kq C.g W1.heap.size W1 w4) := (Kq.drew C.g W1.heap.size W1).trans hX.2.1; have N4 : Hid (NdW (Rg W1.heap.size w4.heap.size) (D + 1) w4 nb4 t) := hn4; have N4b : Hid (NdW (Rg W1.heap.size w4.heap.size) (D + 1) (w4.alloc (.cells #[.int .i64 0, .int .u64 0, .bool false, .string ⟨#[]⟩, .int .i64 0, .string ⟨#[]⟩, .slice none 0 0, .slice none 0 0, .slice none 0 0] 26)) nb4 t) := N4.out.stays (fun k hk => (alloc_below w4 (.cells #[.int .i64 0, .int .u64 0, .bool false, .string ⟨#[]⟩, .int .i64 0, .string ⟨#[]⟩, .slice none 0 0, .slice none 0 0, .slice none 0 0] 26)).block k hk.2); have L4 : Hid (∀ k, Rg W1.heap.size w4.heap.size k → k < w4.heap.size) := fun k hk => hk.2; have L4b : Hid (∀ k, Rg W1.heap.size w4.heap.size k → k < (w4.alloc (.cells #[.int .i64 0, .int .u64 0, .bool false, .string ⟨#[]⟩, .int .i64 0, .string ⟨#[]⟩, .slice none 0 0, .slice none 0 0, .slice none 0 0] 26)).heap.size) := fun k hk => Nat.lt_of_lt_of_le hk.2 (alloc_below w4 (.cells #[.int .i64 0, .int .u64 0, .bool false, .string ⟨#[]⟩, .int .i64 0, .string ⟨#[]⟩, .slice none 0 0, .slice none 0 0, .slice none 0 0] 26)).size; have K4b : Hid (RK C w (w4.alloc (.cells #[.int .i64 0, .int .u64 0, .bool false, .string ⟨#[]⟩, .int .i64 0, .string ⟨#[]⟩, .slice none 0 0, .slice none 0 0, .slice none 0 0] 26)) r o) := K4.out.alloc _; clear hk4 hn4 hX)
          | (have hX : RK C (W1.alloc (.cells #[.int .i64 0, .int .u64 0, .bool false, .string ⟨#[]⟩, .int .i64 0, .string ⟨#[]⟩, .slice none 0 0, .slice none 0 0, .slice none 0 0] 26)).drew w4 r o := hk4; have K4 : Hid (RK C w w4 r o) := KB.out.next hX; have b4 : Hid (Kq C.g W1.heap.size W1 w4) := (kqd a3.out).trans (hX.2.1.mono (kqd a3.out).size); have N4 : Hid (NdW (Rg (W1.alloc (.cells #[.int .i64 0, .int .u64 0, .bool false, .string ⟨#[]⟩, .int .i64 0, .string ⟨#[]⟩, .slice none 0 0, .slice none 0 0, .slice none 0 0] 26)).drew.heap.size w4.heap.size) (D + 1) w4 nb4 t) := hn4; have L4 : Hid (∀ k, Rg (W1.alloc (.cells #[.int .i64 0, .int .u64 0, .bool false, .string ⟨#[]⟩, .int .i64 0, .string ⟨#[]⟩, .slice none 0 0, .slice none 0 0, .slice none 0 0] 26)).drew.heap.size w4.heap.size k → k < w4.heap.size) := fun k hk => hk.2; have Z4 : Hid (NBox w4 W1.heap.size zN) := l3.out.same (hX.2.1.block _ l3.out.lt (Nat.ne_of_gt hCg.out)); have s44 : Hid ((W1.alloc (.cells #[.int .i64 0, .int .u64 0, .bool false, .string ⟨#[]⟩, .int .i64 0, .string ⟨#[]⟩, .slice none 0 0, .slice none 0 0, .slice none 0 0] 26)).drew.heap.size ≤ w4.heap.size) := hX.2.1.size; clear hk4 hn4 hX)
          | fail)
        | (go_at_call 169; refine (kT.out _ _ nb4 (by first | exact N4.out | exact N4b.out) (by first | exact L4.out | exact L4b.out) (by first | exact K4.out | exact K4b.out)).mono ?_; rintro e w6 ⟨⟨nb6, he6, hn6⟩, hb6⟩; subst he6; first
          | (have hY : Below w4.heap.size w4 w6 := hb6; have b6 : Hid (Kq C.g W1.heap.size W1 w6) := b4.out.trans (Kq.of (hY.mono b4.out.size)); first
            | (have Z6 : Hid (NBox w6 W1.heap.size zN) := Z4.out.kept hY Z4.out.lt; have T6 : Hid (TD C w w6 ⟨pl, mj, lo, n, cut⟩ r o (D + 1) nb6 (tt, y) (SU (Rg (W1.alloc (.cells #[.int .i64 0, .int .u64 0, .bool false, .string ⟨#[]⟩, .int .i64 0, .string ⟨#[]⟩, .slice none 0 0, .slice none 0 0, .slice none 0 0] 26)).drew.heap.size w4.heap.size) w4 w6)) := td_a hB1.out hZ1.out hWs.out hgl.out b4.out K4.out hY hB0.out hn6; have G6 : Hid (w.heap.size + 2 ≤ W1.heap.size ∧ ¬ SU (Rg (W1.alloc (.cells #[.int .i64 0, .int .u64 0, .bool false, .string ⟨#[]⟩, .int .i64 0, .string ⟨#[]⟩, .slice none 0 0, .slice none 0 0, .slice none 0 0] 26)).drew.heap.size w4.heap.size) w4 w6 W1.heap.size) := ⟨hW0.out, gs_a s44.out⟩; obtain ⟨⟨f0, f1, f2, f3, f4, f5, f6, f7, f8⟩, z0, z1, z2, z3, z4, z5, z6, z7, z8⟩ := zbox Z6.out; clear hn6 hb6 hY)
            | (have T6 : Hid (TD C w w6 ⟨pl, mj, lo, n, cut⟩ r o (D + 1) nb6 (tt, y) (SU (Rg W1.heap.size w4.heap.size) w4 w6)) := td_a hB1.out hZ1.out hWs.out hgl.out b4.out K4.out hY (Nat.le_refl _) hn6; clear hn6 hb6 hY)
            | fail)
          | (have hY : Below (w4.alloc (.cells #[.int .i64 0, .int .u64 0, .bool false, .string ⟨#[]⟩, .int .i64 0, .string ⟨#[]⟩, .slice none 0 0, .slice none 0 0, .slice none 0 0] 26)).heap.size (w4.alloc (.cells #[.int .i64 0, .int .u64 0, .bool false, .string ⟨#[]⟩, .int .i64 0, .string ⟨#[]⟩, .slice none 0 0, .slice none 0 0, .slice none 0 0] 26)) w6 := hb6; have b5 : Hid (Kq C.g W1.heap.size W1 (w4.alloc (.cells #[.int .i64 0, .int .u64 0, .bool false, .string ⟨#[]⟩, .int .i64 0, .string ⟨#[]⟩, .slice none 0 0, .slice none 0 0, .slice none 0 0] 26))) := kz_alloc b4.out (Nat.le_refl _) _; have b6 : Hid (Kq C.g W1.heap.size W1 w6) := b5.out.trans (Kq.of (hY.mono b5.out.size)); have Z6 : Hid (NBox w6 w4.heap.size zN) := (nbox_new w4 zN).kept hY (nbox_new w4 zN).lt; have T6 : Hid (TD C w w6 ⟨pl, mj, lo, n, cut⟩ r o (D + 1) nb6 (tt, y) (SU (Rg W1.heap.size w4.heap.size) (w4.alloc (.cells #[.int .i64 0, .int .u64 0, .bool false, .string ⟨#[]⟩, .int .i64 0, .string ⟨#[]⟩, .slice none 0 0, .slice none 0 0, .slice none 0 0] 26)) w6)) := td_b hB1.out hZ1.out hWs.out hgl.out b4.out K4.out hY (Nat.le_refl _) hn6; have G6 : Hid (w.heap.size + 2 ≤ w4.heap.size ∧ ¬ SU (Rg W1.heap.size w4.heap.size) (w4.alloc (.cells #[.int .i64 0, .int .u64 0, .bool false, .string ⟨#[]⟩, .int .i64 0, .string ⟨#[]⟩, .slice none 0 0, .slice none 0 0, .slice none 0 0] 26)) w6 w4.heap.size) := ⟨Nat.le_trans hW0.out b4.out.size, gs_b⟩; obtain ⟨⟨f0, f1, f2, f3, f4, f5, f6, f7, f8⟩, z0, z1, z2, z3, z4, z5, z6, z7, z8⟩ := zbox Z6.out; clear hn6 hb6 hY)
          | fail))
      all_goals
        go_wp2_with fail
        go_meet
        refine ⟨_, nb6, rfl, rfl, ?_⟩
        first
          | (have F : Hid (TC C w _ ⟨pl, mj, lo, n, cut⟩ r o (D + 1) _ nb6 (tt, y)) := tc_ab T6.out Z6.out G6.out.1 G6.out.2; with_reducible exact F)
          | (have F : Hid (TC C w _ ⟨pl, mj, lo, n, cut⟩ r o (D + 1) _ nb6 (tt, y)) := tc_c T6.out; exact F)
          | fail
    case rest =>
      obtain ⟨g7, nb, rfl, rfl, hT⟩ := hcut
      obtain ⟨⟨f0, f1, f2, f3, f4, f5, f6, f7, f8⟩, z0, z1, z2, z3, z4, z5, z6, z7, z8⟩ := zbox hT.out.2.2.1
      have b0 := hT.out.2.1.cell 0
      unfold Hd.arr at b0
      simp at b0
      by_cases hy : y = 0
      · have gy : (y != 0) = false := by simpa using hy
        have hP2 : Hid (PR = .inr (tt, r, o)) := by have := hP.out; rw [if_neg (by simpa using hy)] at this; exact this
        have hF : Hid (GR 2 C w wc r o (D + 1 + 1) nb tt) := ⟨hT.out.1, hT.out.2.2.2.2 hy⟩
        obtain ⟨n0, n1, n2, n3, n4, n5, n6, n7, n8⟩ := hT.out.2.2.2.1.fields
        clear hy hP hT
        go_wp2_with fail
        refine bodyPost_ret (v := .agg nb.arr) (by rw [Nb.arr]; simp [results, Tryz.results129, go_sem, *]) rfl ?_
        show ItmIs C w _ _ _ PR
        rw [hP2.out]
        refine GR.out (b := 2) ?_
        repeat (first | with_reducible exact hF.out | with_reducible refine GR.set ?_ (by omega) (by omega))
      · have gy : (y != 0) = true := by simpa using hy
        have hP2 : Hid (PR = .inl (11, pl)) := by have := hP.out; rw [if_pos (by simpa using hy)] at this; exact this
        have hF : Hid (Kq C.g w.heap.size w wc) := hT.out.1.2.1
        clear hy hP hT
        go_wp2_with fail
        show _ ∧ ItmIs C w _ _ _ PR
        rw [hP2.out]
        exact ⟨rfl, rfl, hF.out⟩
end Go.Proofs.YtnjbppfanmmifaaGreatDoor
