/-
  The program's reader of CBOR: a Map.
-/
import Derived.Test.YtnjbppfanmmifaaGreatDoorQ26
namespace Go.Proofs.YtnjbppfanmmifaaGreatDoor
open Go.RowKit
set_option linter.unusedVariables false
/-- Behind a key that was read, boxed, and looked for. -/
def MK (C : CX) (w wr X : World) (gk r o D : Nat) (nb : Nb) (t : Tr) (E : Nat) : Prop := RK C wr X r o ∧ NBox X gk nb ∧ NdW (Rg wr.heap.size E) D X nb t ∧ E ≤ X.heap.size
theorem mk_new {C : CX} {w wr w5 : World} {r o D : Nat} {nb : Nb} {t : Tr} (hk : RK C wr w5 r o) (hn : NdW (Rg wr.heap.size w5.heap.size) D w5 nb t) : MK C w wr (w5.alloc (.cells nb.arr 26)) w5.heap.size r o D nb t w5.heap.size :=
  ⟨hk.alloc _, nbox_new w5 nb, hn.stays fun k hk => (alloc_below w5 _).block k hk.2, (alloc_below w5 _).size⟩
theorem MK.call {C : CX} {w wr X Y : World} {gk r o D E : Nat} {nb : Nb} {t : Tr} (h : MK C w wr X gk r o D nb t E) (hb : Below X.heap.size X Y) : MK C w wr Y gk r o D nb t E :=
  ⟨h.1.below hb, h.2.1.kept hb h.2.1.lt, h.2.2.1.stays fun k hk => hb.block k (Nat.lt_of_lt_of_le hk.2 h.2.2.2), Nat.le_trans h.2.2.2 hb.size⟩
set_option maxHeartbeats 16000000 in
set_option maxRecDepth 100000 in
theorem map_step {C : CX} {k : Nat} (ih : ∀ j, j ≤ k → ItmAt C j) : MapAt C k := by
  intro w hd d q m h hm hd24 hq hk
  have hgl : Hid (C.g < w.heap.size) := h.lt
  have hz : Hid (∀ c ∈ C.zs, 0 ≤ c ∧ c < 256) := h.2.1.1.1
  have kG : Hid (∀ wx p m (done : Nat), RSt C wx p m → Calls Tryz.prog 167 #[.pointer (some ⟨C.g, 0, none⟩), .agg hd.arr, .int .u64 (done : Nat)] wx fun x w' => GonIs C wx w' m x (gonA C.zs p ((limA hd).map (· - done)))) := fun wx p m done hx => cgoes_any hx hd done
  obtain ⟨R, hRR⟩ : ∃ R, R = rcF k C.zs 2 (d + 1) q m (limA hd) [] [] := ⟨_, rfl⟩
  rw [← hRR]
  have hIh : Hid (∀ j, j ≤ k → ItmAt C j) := ih
  have wd : IntKind.i64.wrap ((d : Int) + 1) = (d : Int) + 1 := by rw [IntKind.wrap_i64]; omega
  have hdd : Hid (d ≤ 24) := hd24
  have hB0 := blk_new w hd.arr 94
  have hA0 : Hid (ML C w (((w.alloc (.cells hd.arr 94)).alloc (.cells zN.arr 26)).alloc (.cells (nbM none 0 0 none 0 0).arr 26)) hd d k 0 R) := by
    have h1 := alloc_below w (.cells hd.arr 94)
    have h2 := alloc_below (w.alloc (.cells hd.arr 94)) (.cells zN.arr 26)
    have h3 := alloc_below ((w.alloc (.cells hd.arr 94)).alloc (.cells zN.arr 26)) (.cells (nbM none 0 0 none 0 0).arr 26)
    have s1 : (w.alloc (.cells hd.arr 94)).heap.size = w.heap.size + 1 := by simp
    have s2 : ((w.alloc (.cells hd.arr 94)).alloc (.cells zN.arr 26)).heap.size = w.heap.size + 2 := by simp
    refine ⟨k, q, m, [], [], none, 0, 0, none, 0, 0, ⟨((h.rk.alloc _).alloc _).alloc _, Blk.kept (Blk.kept hB0 h2 (by omega)) h3 (by omega), ?_, ?_, [], [], fun _ => False, r2_nil _ _ _⟩, rfl, ?_, ⟨Nat.le_refl _, hm, hq, hk, rfl, Nat.zero_le _⟩, (fun u hu => by cases hu)⟩
    · have := (nbox_new (w.alloc (.cells hd.arr 94)) zN).kept h3 (by omega)
      rwa [s1] at this
    · have := nbox_new ((w.alloc (.cells hd.arr 94)).alloc (.cells zN.arr 26)) (nbM none 0 0 none 0 0)
      rwa [s2] at this
    · rw [hRR]
      congr 1
      cases limA hd <;> simp
  obtain ⟨pl, mj, lo, nn, cut⟩ := hd
  unfold Hd.arr zN nbM Nb.arr at *
  simp only at *
  clear hRR h hm hd24 hq hk ih hB0
  go_enter Tryz.func128, Tryz.ntmps128
  go_wp2_with fail
  rw [show w.heap.size + 1 + 1 = w.heap.size + 2 from rfl]
  go_loopw [8, 9, 10] (fun s8 _ _ wr => ∃ done : Nat, s8 = .int .u64 done ∧ Hid (ML C w wr ⟨pl, mj, lo, nn, cut⟩ d k done R)) (fun _ _ _ wr => C.zs.length + 1 - pAt C wr)
  case atStart => exact ⟨0, rfl, hA0⟩
  case round =>
    obtain ⟨done, rfl, hP⟩ := hrel
    obtain ⟨j, p, m', lk, li, ak, nk, ck, ai, ni, ci, hS', hdn, hF', hJ', hsz'⟩ := hP.out
    subst hdn
    have hS : Hid (MS C w wr ⟨pl, mj, lo, nn, cut⟩ (26 - d) lk li ak nk ck ai ni ci p m') := hS'
    have hnl := hS'.len
    obtain ⟨rfl, rfl⟩ := hnl
    have hF : Hid (rcF j C.zs 2 (d + 1) p m' ((limA ⟨pl, mj, lo, nn, cut⟩).map (· - li.length)) lk li = R) := hF'
    have hJ : Hid (j ≤ k ∧ m' ≤ 1024 ∧ p ≤ C.zs.length ∧ 2 * (C.zs.length - p) + 2 ≤ j ∧ lk.length = li.length ∧ li.length ≤ m') := hJ'
    have hsz : Hid (∀ u ∈ lk, u.size ≤ 1024) := hsz'
    have hpA : Hid (pAt C wr = p) := pAt_of hS'.1.1
    have hx := hS'.2.1
    have b0 := hx.cell 0
    have b1 := hx.cell 1
    have b2 := hx.cell 2
    have b3 := hx.cell 3
    have b4 := hx.cell 4
    unfold Hd.arr at b0 b1 b2 b3 b4
    simp at b0 b1 b2 b3 b4
    have kG1 := kG.out wr p m' li.length hS'.1.1
    obtain ⟨j, rfl⟩ : ∃ j', j = j' + 1 := ⟨j - 1, by have := hJ.out; omega⟩
    have hF2 := hF'
    rw [rc2_eq] at hF2
    clear hS' hF' hJ' hP hx hA0 hsz'
    cases hg : gonA C.zs p ((limA ⟨pl, mj, lo, nn, cut⟩).map (· - li.length)) with
    | inl f =>
      rw [hg] at hF2 kG1
      simp only at hF2
      have hR3 : Hid (R = .inl f) := hF2.symm
      unfold GonIs at kG1
      simp only at kG1
      rw [pn_eq] at kG1
      have kG2 : Hid (Calls Tryz.prog 167 #[.pointer (some ⟨C.g, 0, none⟩), .agg #[.int .i64 (pl : Nat), .int .u8 mj, .int .u8 lo, .int .u64 (nn : Nat), .bool cut], .int .u64 (li.length : Nat)] wr fun x w' => x = .panicked [{ v := .iface 61 (.agg #[.int .i64 f.1, .int .i64 (f.2 : Nat)]), recovered := false }] ∧ Kq C.g wr.heap.size wr w') := kG1
      clear hF2 hg kG1 kG
      go_wp2_with (go_at_call 167; refine kG2.out.mono ?_; rintro e w3 ⟨rfl, hq3⟩)
      show _ ∧ ItmIs C w w3 _ _ R
      rw [hR3.out]
      exact ⟨rfl, rfl, hS.out.1.2.1.next hq3⟩
    | inr bq =>
      obtain ⟨bb, q'⟩ := bq
      rw [hg] at hF2 kG1
      unfold GonIs at kG1
      simp only at kG1
      have kG2 : Hid (Calls Tryz.prog 167 #[.pointer (some ⟨C.g, 0, none⟩), .agg #[.int .i64 (pl : Nat), .int .u8 mj, .int .u8 lo, .int .u64 (nn : Nat), .bool cut], .int .u64 (li.length : Nat)] wr fun x w' => x = .returned (.bool bb) ∧ RK C wr w' q' m') := kG1
      have hgo := gon_ok hg hJ.out.2.2.1
      clear kG1 kG hg
      cases bb with
      | false =>
        simp only at hF2
        have hR3 : Hid (R = .inr (mapT lk li, q', m')) := hF2.symm
        clear hF2 hgo
        go_wp2_with (go_at_call 167; refine kG2.out.mono ?_; rintro e w3 ⟨rfl, hq3⟩; have S3 : Hid (MS C w w3 ⟨pl, mj, lo, nn, cut⟩ (26 - d) lk li ak lk.length ck ai li.length ci q' m') := hS.out.kq hq3; obtain ⟨f0, f1, f2, f3, f4, f5, f6, f7, f8⟩ := S3.out.2.2.2.1.fields; obtain ⟨⟨y0, y1, y2, y3, y4, y5, y6, y7, y8⟩, z0, z1, z2, z3, z4, z5, z6, z7, z8⟩ := zbox S3.out.2.2.1; unfold nbM at f0 f1 f2 f3 f4 f5 f6 f7 f8; simp only at f0 f1 f2 f3 f4 f5 f6 f7 f8; clear hq3)
        refine bodyPost_ret (v := .agg (nbM ak lk.length ck ai li.length ci).arr) (by unfold nbM Nb.arr; simp [results, Tryz.results128, go_sem, *]) rfl ?_
        show ItmIs C w _ _ _ R
        rw [hR3.out]
        have hJR : Hid (JR C w w3 q' m' (27 - d) (nbM ak lk.length ck ai li.length ci) (mapT lk li)) := by have := S3.out.fin (by have := hJ.out; omega) (by have := hJ.out; omega); rw [show 26 - d + 1 = 27 - d by have := hdd.out; omega] at this; exact this
        refine JR.out (nb := nbM ak lk.length ck ai li.length ci) ?_
        repeat (first | with_reducible exact hJR.out | with_reducible refine JR.set ?_ (by omega) (by omega))
      | true =>
        obtain rfl : p = q' := (hgo.2.2 rfl).symm
        clear hgo
        simp only at hF2
        have kI0 : Hid (∀ wx, RSt C wx p m' → Calls Tryz.prog 48 #[.pointer (some ⟨C.g, 0, none⟩), .int .i64 ((d : Int) + 1)] wx fun x w' => ItmIs C wx w' (26 - d) x (rcF j C.zs 0 (d + 1) p m' none [] [])) := fun wx hx => by
          have hJ' := hJ.out
          have := hIh.out j (by omega) wx (d + 1) p m' hx hJ'.2.1 (by have := hdd.out; omega) hJ'.2.2.1 (by omega)
          rw [show 27 - (d + 1) = 26 - d by omega, show (((d + 1 : Nat) : Nat) : Int) = (d : Int) + 1 by omega] at this
          exact this
        have hbn := fun t r o (e : rcF j C.zs 0 (d + 1) p m' none [] [] = .inr (t, r, o)) => rc_bnd C.zs j 0 (by omega) _ _ _ _ _ _ _ _ _ e hJ.out.2.1 hJ.out.2.2.1
        have hmay := fun t r o (e : rcF j C.zs 0 (d + 1) p m' none [] [] = .inr (t, r, o)) => (rc_may C.zs hz.out j 0 (by omega) _ _ _ _ _ _ _ _ _ e hJ.out.2.1 hJ.out.2.2.1 (fun u hu => by cases hu) (fun u hu => by cases hu) (fun z => by cases z)).2.1 rfl
        have hbn' : Hid (∀ t r o, rcF j C.zs 0 (d + 1) p m' none [] [] = .inr (t, r, o) → p < r ∧ r ≤ C.zs.length ∧ m' < o ∧ o ≤ 1024 ∧ t.size ≤ 1024) := fun t r o e => ⟨((hbn t r o e).2.2.2.2 rfl).1, (hbn t r o e).2.1, ((hbn t r o e).2.2.2.2 rfl).2, (hbn t r o e).2.2.2.1, by have := (hmay t r o e).2; have := (hbn t r o e).2.2.2.1; omega⟩
        clear hbn hmay
        generalize hIR : rcF j C.zs 0 (d + 1) p m' none [] [] = IRR at *
        cases IRR with
        | inl f =>
          simp only at hF2
          have hR3 : Hid (R = .inl f) := hF2.symm
          unfold ItmIs at kI0
          simp only at kI0
          rw [pn_eq] at kI0
          clear hF2 hIR hbn'
          go_wp2_with (first
            | (go_at_call 167; refine kG2.out.mono ?_; rintro e w3 ⟨rfl, hq3⟩; have S3 : Hid (MS C w w3 ⟨pl, mj, lo, nn, cut⟩ (26 - d) lk li ak lk.length ck ai li.length ci p m') := hS.out.kq hq3; have r1 : w3.cell? ⟨C.g, 1, none⟩ = some (.int .i64 (p : Nat)) := S3.out.1.1.1.cell 1; clear hq3)
            | (go_at_call 48; refine (kI0.out _ S3.out.1.1).mono ?_; rintro e w5 ⟨rfl, hk5⟩))
          show _ ∧ ItmIs C w w5 _ _ R
          rw [hR3.out]
          exact ⟨rfl, rfl, S3.out.1.2.1.next hk5⟩
        | inr tro =>
          obtain ⟨t, r, o⟩ := tro
          simp only at hF2
          have hN1 : Hid (p < r ∧ r ≤ C.zs.length ∧ m' < o ∧ o ≤ 1024 ∧ t.size ≤ 1024) := hbn'.out t r o rfl
          unfold ItmIs at kI0
          simp only at kI0
          have kC : Hid (∀ wx wy gk nb (E : Nat), MS C w wx ⟨pl, mj, lo, nn, cut⟩ (26 - d) lk li ak lk.length ck ai li.length ci p m' → MK C w wx wy gk r o (26 - d) nb t E → Calls Tryz.prog 108 #[.slice ak lk.length ck, .func (.func 168) #[] #[.pointer (some ⟨gk, 0, none⟩)]] wy fun e w' => e = .returned (.bool (hasK lk t)) ∧ Below wy.heap.size wy w') := fun wx wy gk nb E hM hY => by
            have hMy := hM.kq hY.1
            obtain ⟨_, _, _, _, bk, bi, S, r1, r2, r3, r4, r5, r6, _⟩ := hMy
            obtain ⟨a', c', hv, hc, hnine, _⟩ := r1.shape
            simp at hv
            obtain ⟨rfl, hbl, rfl⟩ := hv
            exact contm_any _ _ _ bk lk gk nb t wy hY.2.1 hY.2.2.1.nd hN1.out.2.2.2.2 r3 hnine ⟨r3, fun i h1 h2 => (r5 i h1 h2).nd, hsz.out⟩ (by rw [← r3]; exact hc.1) (by have := hc.2.1; unfold maxLen at this; omega)
          clear hIR hbn'
          cases hK : hasK lk t with
          | true =>
            rw [hK] at kC hF2
            simp only [if_true] at hF2
            have hR3 : Hid (R = .inl (9, p)) := hF2.symm
            clear hF2 hK
            go_wp2_with (first
              | (go_at_call 167; refine kG2.out.mono ?_; rintro e w3 ⟨rfl, hq3⟩; have S3 : Hid (MS C w w3 ⟨pl, mj, lo, nn, cut⟩ (26 - d) lk li ak lk.length ck ai li.length ci p m') := hS.out.kq hq3; have r1 : w3.cell? ⟨C.g, 1, none⟩ = some (.int .i64 (p : Nat)) := S3.out.1.1.1.cell 1; clear hq3)
              | (go_at_call 48; refine (kI0.out _ S3.out.1.1).mono ?_; rintro e w5 ⟨⟨b', hb', hn5⟩, hk5⟩; rw [Nb.arr] at hb'; subst hb'; have M5 : Hid (MK C w w3 (w5.alloc (.cells b'.arr 26)) w5.heap.size r o (26 - d) b' t w5.heap.size) := mk_new hk5 hn5; have S5 : Hid (MS C w (w5.alloc (.cells b'.arr 26)) ⟨pl, mj, lo, nn, cut⟩ (26 - d) lk li ak lk.length ck ai li.length ci r o) := S3.out.kq M5.out.1; have c7' := S5.out.2.2.2.1.cell 7; unfold Nb.arr at M5 S5 c7'; have c7 : (w5.alloc (.cells #[.int .i64 b'.kind, .int .u64 b'.num, .bool b'.neg, .string b'.dig, .int .i64 b'.exp, .string b'.txt, .slice b'.ab b'.lb b'.cb, .slice b'.ak b'.lk b'.ck, .slice b'.ai b'.li b'.ci] 26)).cell? ⟨w.heap.size + 2, 7, none⟩ = some (.slice ak lk.length ck) := c7'; clear hk5 hn5 c7')
              | (go_at_call 108; refine (kC.out _ _ _ _ _ S3.out M5.out).mono ?_; rintro e w7 ⟨rfl, hb7⟩))
            show _ ∧ ItmIs C w w7 _ _ R
            rw [hR3.out]
            exact ⟨rfl, rfl, ((S3.out.1.next M5.out.1).below hb7).2.1⟩
          | false =>
            rw [hK] at kC hF2
            simp only [Bool.false_eq_true, if_false] at hF2
            have hF3 : Hid ((match rcF j C.zs 0 (d + 1) r o none [] [] with | .inl f => .inl f | .inr (u, s, i) => rcF j C.zs 2 (d + 1) s i (((limA ⟨pl, mj, lo, nn, cut⟩).map (· - li.length)).map (· - 1)) (lk ++ [t]) (li ++ [u])) = R) := hF2
            clear hF2 hK
            go_upto_region 10 with (first
              | (go_at_call 167; refine kG2.out.mono ?_; rintro e w3 ⟨rfl, hq3⟩; have S3 : Hid (MS C w w3 ⟨pl, mj, lo, nn, cut⟩ (26 - d) lk li ak lk.length ck ai li.length ci p m') := hS.out.kq hq3; have r1 : w3.cell? ⟨C.g, 1, none⟩ = some (.int .i64 (p : Nat)) := S3.out.1.1.1.cell 1; clear hq3)
              | (go_at_call 48; refine (kI0.out _ S3.out.1.1).mono ?_; rintro e w5 ⟨⟨b', hb', hn5⟩, hk5⟩; rw [Nb.arr] at hb'; subst hb'; have M5 : Hid (MK C w w3 (w5.alloc (.cells b'.arr 26)) w5.heap.size r o (26 - d) b' t w5.heap.size) := mk_new hk5 hn5; have S5 : Hid (MS C w (w5.alloc (.cells b'.arr 26)) ⟨pl, mj, lo, nn, cut⟩ (26 - d) lk li ak lk.length ck ai li.length ci r o) := S3.out.kq M5.out.1; have c7' := S5.out.2.2.2.1.cell 7; unfold Nb.arr at M5 S5 c7'; have c7 : (w5.alloc (.cells #[.int .i64 b'.kind, .int .u64 b'.num, .bool b'.neg, .string b'.dig, .int .i64 b'.exp, .string b'.txt, .slice b'.ab b'.lb b'.cb, .slice b'.ak b'.lk b'.ck, .slice b'.ai b'.li b'.ci] 26)).cell? ⟨w.heap.size + 2, 7, none⟩ = some (.slice ak lk.length ck) := c7'; clear hk5 hn5 c7')
              | (go_at_call 108; refine (kC.out _ _ _ _ _ S3.out M5.out).mono ?_; rintro e w7 ⟨rfl, hb7⟩; have M7 : Hid (MK C w w3 w7 w5.heap.size r o (26 - d) b' t w5.heap.size) := M5.out.call hb7; have S7 := S3.out.kq M7.out.1; have d7 : w7.cell? ⟨w.heap.size + 2, 7, none⟩ = some (.slice ak lk.length ck) := S7.2.2.2.1.cell 7; obtain ⟨n0, n1, n2, n3, n4, n5, n6, n7, n8⟩ := M7.out.2.1.fields; obtain ⟨bk, bi, S, hR2'⟩ := S3.out.2.2.2.2; have hR2 : Hid (R2 (w.heap.size + 3) (26 - d) w3 (.slice ak lk.length ck) (.slice ai li.length ci) lk li bk bi S) := hR2'; have O7 : Hid (OwnsN 26 w7 (w.heap.size + 3) (.slice ak lk.length ck) bk) := (hR2'.kq M7.out.1.2.1 (by have := hgl.out; omega)).1; have l7 : Hid (w.heap.size + 3 ≤ w7.heap.size) := S7.2.2.2.1.lt; have hbl : Hid (bk.length = lk.length ∧ lk.length ≤ 1024) := ⟨hR2'.2.2.1, by have := hJ.out; omega⟩; clear hb7 S7 hR2')
              | (at_builtin; refine wpl_append_node rfl _ _ rfl (w.heap.size + 3) (.slice ak lk.length ck) bk [b'] (by rfl) (World.ownsRow.kept (row := none) O7.out (⟨(alloc_below w7 _).os, (alloc_below w7 _).tape, (alloc_below w7 _).output, (alloc_below w7 _).size, fun k hk _ => (alloc_below w7 _).block k hk⟩) (by cases hv : (Value.slice ak lk.length ck).ownBlock <;> simp)) ⟨w7.heap.size, 0, none⟩ 1 1 (by rfl) rfl (by decide) (nine1 w7 b') (by have := hbl.out; simp; omega) (Nat.le_trans l7.out (alloc_below w7 _).size) ?_; intro v9 w9 ho9 hg9 hn9; obtain ⟨a9, c9, rfl, e9, f9, F9⟩ := mkey_put S3.out.1 S3.out.2.1 S3.out.2.2.1 S3.out.2.2.2.1 hR2.out M7.out.1 M7.out.2.2.1 M7.out.2.2.2 ho9 hg9 hn9; have F : Hid (MS C w (w9.setCell ⟨w.heap.size + 2, 7, none⟩ (.slice a9 (lk.length + 1) c9)) ⟨pl, mj, lo, nn, cut⟩ (26 - d) (lk ++ [t]) li a9 (lk.length + 1) c9 ai li.length ci r o) := F9; clear ho9 hg9 hn9 F9))
            generalize w9.setCell ⟨w.heap.size + 2, 7, none⟩ (.slice a9 (lk.length + 1) c9) = W at F ⊢
            have kI1 : Hid (∀ wx, RSt C wx r o → Calls Tryz.prog 48 #[.pointer (some ⟨C.g, 0, none⟩), .int .i64 ((d : Int) + 1)] wx fun x w' => ItmIs C wx w' (26 - d) x (rcF j C.zs 0 (d + 1) r o none [] [])) := fun wx hx => by
              have hJ' := hJ.out
              have hN' := hN1.out
              have := hIh.out j (by omega) wx (d + 1) r o hx hN'.2.2.2.1 (by have := hdd.out; omega) hN'.2.1 (by omega)
              rw [show 27 - (d + 1) = 26 - d by omega, show (((d + 1 : Nat) : Nat) : Int) = (d : Int) + 1 by omega] at this
              exact this
            have hbn := fun u s i (e : rcF j C.zs 0 (d + 1) r o none [] [] = .inr (u, s, i)) => rc_bnd C.zs j 0 (by omega) _ _ _ _ _ _ _ _ _ e hN1.out.2.2.2.1 hN1.out.2.1
            have hbn' : Hid (∀ u s i, rcF j C.zs 0 (d + 1) r o none [] [] = .inr (u, s, i) → r < s ∧ s ≤ C.zs.length ∧ o < i ∧ i ≤ 1024) := fun u s i e => ⟨((hbn u s i e).2.2.2.2 rfl).1, (hbn u s i e).2.1, ((hbn u s i e).2.2.2.2 rfl).2, (hbn u s i e).2.2.2.1⟩
            have c8 : W.cell? ⟨w.heap.size + 2, 8, none⟩ = some (.slice ai li.length ci) := F.out.2.2.2.1.cell 8
            have hF4 := hF3.out
            clear hbn S3 r1 M5 S5 c7 M7 d7 n0 n1 n2 n3 n4 n5 n6 n7 n8 hR2 O7 l7 hbl e9 f9 hF3 kI0 kC kG2 hS hF b0 b1 b2 b3 b4
            generalize hIR : rcF j C.zs 0 (d + 1) r o none [] [] = IRR at *
            cases IRR with
            | inl f =>
              simp only at hF4
              have hR3 : Hid (R = .inl f) := hF4.symm
              unfold ItmIs at kI1
              simp only at kI1
              rw [pn_eq] at kI1
              clear hF4 hIR hbn'
              go_region_dies
              all_goals (refine (kI1.out _ F.out.1.1.drew).mono ?_; rintro e w11 ⟨rfl, hk11⟩; show _ ∧ ItmIs C w w11 _ _ R; rw [hR3.out]; exact ⟨rfl, rfl, (kqd F.out.1.2.1).trans (hk11.mono F.out.1.2.1.size)⟩)
            | inr usi =>
              obtain ⟨u, s, i⟩ := usi
              simp only at hF4
              have hN2 : Hid (r < s ∧ s ≤ C.zs.length ∧ o < i ∧ i ≤ 1024) := hbn'.out u s i rfl
              have hR3 : Hid (rcF j C.zs 2 (d + 1) s i ((limA ⟨pl, mj, lo, nn, cut⟩).map (· - (li.length + 1))) (lk ++ [t]) (li ++ [u]) = R) := by show _ = _; rw [← lim_next]; exact hF4
              unfold ItmIs at kI1
              simp only at kI1
              have hcf : ∀ args w, (callFunc 48 args).run Tryz.prog w = .ok (.enter 48 args) w := fun _ _ => rfl
              have kV : Hid (Calls Tryz.prog 48 #[.pointer (some ⟨C.g, 0, none⟩), .int .i64 ((d : Int) + 1)] W.drew fun e w' => ∃ x, e = .returned x ∧ ((∃ nb : Nb, x = .agg nb.arr ∧ NdW (Rg W.drew.heap.size w'.heap.size) (26 - d) w' nb u) ∧ RK C W.drew w' s i)) := (kI1.out _ F.out.1.1.drew).mono fun e w' ⟨⟨nb, he, hn⟩, hk⟩ => ⟨_, he, ⟨nb, rfl, hn⟩, hk⟩
              obtain ⟨bk2, bi2, S2, hR2⟩ := F.out.2.2.2.2
              have hR2' : Hid (R2 (w.heap.size + 3) (26 - d) W.drew (.slice a9 (lk.length + 1) c9) (.slice ai li.length ci) (lk ++ [t]) li bk2 bi2 S2) := hR2.keep (Nat.le_refl _) fun _ _ _ => rfl
              have S3d : Hid (RK C w W.drew r o ∧ Blk W.drew w.heap.size (Hd.arr ⟨pl, mj, lo, nn, cut⟩) 94 ∧ NBox W.drew (w.heap.size + 1) zN ∧ NBox W.drew (w.heap.size + 2) (nbM a9 (lk.length + 1) c9 ai li.length ci)) := ⟨F.out.1.drew, F.out.2.1, F.out.2.2.1, F.out.2.2.2.1⟩
              have hbl : Hid (bi2.length = li.length ∧ li.length ≤ 1024) := ⟨hR2.2.2.2.1, by have := hJ.out; omega⟩
              clear hR2 hIh hF4 hIR hbn' F
              go_region_law (first
                | (refine step_call2 (by rfl) 41 43 50 3 (by rfl) (by rfl) (by rfl) hcf kV.out ?_; rintro x w5 ⟨⟨b', hb', hn5⟩, hk5⟩; rw [Nb.arr] at hb'; subst hb'; have N5 : Hid (NdW (Rg W.drew.heap.size w5.heap.size) (26 - d) w5 b' u) := hn5; have K5 : Hid (RK C W.drew w5 s i) := hk5; have B5 : Hid (NBox w5 (w.heap.size + 2) (nbM a9 (lk.length + 1) c9 ai li.length ci)) := S3d.out.2.2.2.same (hk5.2.1.block _ S3d.out.2.2.2.lt (by have := hgl.out; omega)); have c85 : w5.cell? ⟨w.heap.size + 2, 8, none⟩ = some (.slice ai li.length ci) := B5.out.cell 8; have c8a : (w5.alloc (.cells #[.int .i64 b'.kind, .int .u64 b'.num, .bool b'.neg, .string b'.dig, .int .i64 b'.exp, .string b'.txt, .slice b'.ab b'.lb b'.cb, .slice b'.ak b'.lk b'.ck, .slice b'.ai b'.li b'.ci] 26)).cell? ⟨w.heap.size + 2, 8, none⟩ = some (.slice ai li.length ci) := (B5.out.kept (alloc_below _ _) B5.out.lt).cell 8; have O5 : Hid (OwnsN 26 w5 (w.heap.size + 3) (.slice ai li.length ci) bi2) := (hR2'.out.kq hk5.2.1 (by have := hgl.out; omega)).2.1; have l5 : Hid (w.heap.size + 3 ≤ w5.heap.size) := B5.out.lt; clear hn5 hk5)
                | (refine step_append_node (by rfl) _ _ (by rfl) (w.heap.size + 3) (.slice ai li.length ci) bi2 [b'] (by rfl) (World.ownsRow.kept (row := none) O5.out (⟨(alloc_below w5 _).os, (alloc_below w5 _).tape, (alloc_below w5 _).output, (alloc_below w5 _).size, fun k hk _ => (alloc_below w5 _).block k hk⟩) (by cases hv : (Value.slice ai li.length ci).ownBlock <;> simp)) ⟨w5.heap.size, 0, none⟩ 1 1 (by rfl) rfl (by decide) (nine1 w5 b') (by have := hbl.out; simp; omega) (Nat.le_trans l5.out (alloc_below w5 _).size) ?_; intro v6 w6 ho6 hg6 hn6; obtain ⟨a6, c6, rfl, e6, f6, F6⟩ := mkid_put S3d.out.1 S3d.out.2.1 S3d.out.2.2.1 S3d.out.2.2.2 hR2'.out K5.out N5.out (Nat.le_refl _) ho6 hg6 hn6; have F : Hid (∃ a' c', MS C w (w6.setCell ⟨w.heap.size + 2, 8, none⟩ (.slice a6 (li.length + 1) c6)) ⟨pl, mj, lo, nn, cut⟩ (26 - d) (lk ++ [t]) (li ++ [u]) a9 (lk.length + 1) c9 a' (li.length + 1) c' s i) := ⟨a6, c6, F6⟩; clear ho6 hg6 hn6 F6))
              all_goals
                have wl : IntKind.u64.wrap ((li.length : Int) + 1) = (li.length : Int) + 1 := by rw [IntKind.wrap_u64]; have := hJ.out; omega
                go_wp2_with fail
                go_roundw
                case rel =>
                  obtain ⟨a', c', hMS'⟩ := F.out
                  have hJ' := hJ.out
                  have hN' := hN1.out
                  have hN2' := hN2.out
                  exact ⟨li.length + 1, by go_num, j, s, i, lk ++ [t], li ++ [u], a9, lk.length + 1, c9, a', li.length + 1, c', hMS', by simp, by rw [List.length_append, List.length_singleton]; exact hR3.out, ⟨by omega, hN2'.2.2.2, hN2'.2.1, by omega, by rw [List.length_append, List.length_append, hJ'.2.2.2.2.1]; rfl, by rw [List.length_append, List.length_singleton]; omega⟩, fun v hv => by
                    rcases List.mem_append.1 hv with q | q
                    · exact hsz.out v q
                    · rw [List.mem_singleton.1 q]; exact hN'.2.2.2.2⟩
                case measure =>
                  obtain ⟨a', c', hMS'⟩ := F.out
                  rw [pAt_of hMS'.1.1]
                  have := hpA.out
                  have := hN1.out
                  have := hN2.out
                  omega
end Go.Proofs.YtnjbppfanmmifaaGreatDoor
