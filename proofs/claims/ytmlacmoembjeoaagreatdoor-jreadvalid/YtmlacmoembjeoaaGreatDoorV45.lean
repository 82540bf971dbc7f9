/-
  Parts of the proof.
-/
import Derived.Test.YtmlacmoembjeoaaGreatDoorV42
import Derived.Test.YtmlacmoembjeoaaGreatDoorV44
namespace Go.Proofs.YtmlacmoembjeoaaGreatDoor
open Go.RowKit
set_option linter.unusedVariables false
def mpO (k : Nat) (L : List Tk) : Option (List Tk) := match L with
  | [] => none
  | u :: N => if u.kind = 2 then some N else skF k 2 (u :: N)
theorem mpO_cons (k : Nat) (u : Tk) (N : List Tk) : mpO k (u :: N) = if u.kind = 2 then some N else skF k 2 (u :: N) := rfl
def MAt (C : RC) (k : Nat) : Prop := ∀ (w : World) (p n d : Nat),Sg C w p n 0 → n ≤ p + 1 → d ≤ p + 1 → p < C.L.length → 2 * (C.L.length - (p + 1)) + 2 ≤ k → Calls Tryz.prog 48 #[.pointer (some ⟨C.g,0,none⟩),.int .i64 (d : Nat)] w fun e w' => ∃ r,e = .returned r ∧ ((∃ b : Nb,r = .agg b.arr) ∧ VR C p (mpO k (C.L.drop (p + 1))) w' ∧ Kq C.g w.heap.size w w')
theorem sk0_cons (k : Nat) (t : Tk) (M : List Tk) : skF (k + 1) 0 (t :: M) = if bvA t.kind = false then none else if t.kind = 3 then arO k M else if t.kind = 1 then mpO k M else some M := by
  simp only [skF]
  rfl
theorem val_put {C : RC} {w w5 wx : World} {p n a : Nat} {b : Nb} (hS : Sg C w5 p n 0) (hT : Tg w C.g C.lv C.L) (hK : Kq C.g w.heap.size w w5) (hR : NBox w5 w.heap.size zN) (ha : w.heap.size < a) (hx : NBox wx a b ∧ Kp (fun k => k = a) w5 wx) (hg : C.g < w.heap.size) :
    Sg C wx p n 0 ∧ Kq C.g w.heap.size w wx ∧ NBox wx w.heap.size zN ∧ NBox wx a b := by
  have h2 := kq_kp hK hx.2 (Nat.le_of_lt ha)
  have hs := hR.lt
  exact ⟨hS.move hT h2 (hx.2.below hK.size fun k e => by omega) hg,h2,(hx.2.block _ hs (by omega)).trans hR,hx.1⟩
theorem vdrew {C : RC} {w X : World} {p n a b : Nat} {x y : Nb} (h : Sg C X p n 0 ∧ Kq C.g w.heap.size w X ∧ NBox X a x ∧ NBox X b y) : Sg C X.drew p n 0 ∧ Kq C.g w.heap.size w X.drew ∧ NBox X.drew a x ∧ NBox X.drew b y :=
  ⟨h.1,⟨h.2.1.os,h.2.1.tape,h.2.1.output,h.2.1.size,h.2.1.block⟩,h.2.2.1,h.2.2.2⟩
set_option maxHeartbeats 4000000 in
set_option maxRecDepth 100000 in
theorem value_step {C : RC} (hL : ∀ t ∈ C.L,1 ≤ t.kind ∧ t.kind ≤ 11) (hN : C.L.length ≤ 4096) (hfr : C.free = true) {k : Nat} (il : LAt C k) (im : MAt C k) : VAt C (k + 1) := by
  intro w p n d h hn hd hp hk
  have A1 := alloc_below w (.cells #[.int .i64 0,.int .u64 0,.bool false,.string ⟨#[]⟩,.int .i64 0,.string ⟨#[]⟩,.slice none 0 0,.slice none 0 0,.slice none 0 0] 26)
  have S1 : Hid (Sg C (w.alloc (.cells #[.int .i64 0,.int .u64 0,.bool false,.string ⟨#[]⟩,.int .i64 0,.string ⟨#[]⟩,.slice none 0 0,.slice none 0 0,.slice none 0 0] 26)) p n 0) := h.below A1
  have LG : Hid (C.g < w.heap.size) := h.lt
  have TG : Hid (Tg w C.g C.lv C.L) := h.2
  have NR : Hid (NBox (w.alloc (.cells #[.int .i64 0,.int .u64 0,.bool false,.string ⟨#[]⟩,.int .i64 0,.string ⟨#[]⟩,.slice none 0 0,.slice none 0 0,.slice none 0 0] 26)) w.heap.size zN) := nbox_new w zN
  have BW : Hid (Below w.heap.size w (w.alloc (.cells #[.int .i64 0,.int .u64 0,.bool false,.string ⟨#[]⟩,.int .i64 0,.string ⟨#[]⟩,.slice none 0 0,.slice none 0 0,.slice none 0 0] 26))) := A1
  have HK : Hid (n ≤ p ∧ d ≤ p + 1 ∧ p ≤ C.L.length ∧ 2 * (C.L.length - p) + 1 ≤ k + 1 ∧ C.L.length ≤ 4096 ∧ C.free = true) := ⟨hn,hd,hp,hk,hN,hfr⟩
  have IL : Hid (LAt C k) := il
  have IM : Hid (MAt C k) := im
  clear A1 h hn hd hk hN hfr il im
  by_cases hl : p < C.L.length
  · have kK := gkind S1.out hl
    have hkk := hL _ (List.getElem_mem hl)
    have ho : Hid ((skF (k + 1) 0 (C.L.drop p)) = if bvA C.L[p].kind = false then none else if C.L[p].kind = 3 then arO k (C.L.drop (p + 1)) else if C.L[p].kind = 1 then mpO k (C.L.drop (p + 1)) else some (C.L.drop (p + 1))) := by
      show _ = _
      rw [List.drop_eq_getElem_cons hl]
      rw [sk0_cons]
    have hTa := S1.out.2
    obtain ⟨gl,cv,hlv,hc,hcm,x1,x2,x3⟩ := hTa.at hl
    have TA : Hid (∀ wx,Sg C wx p (n + 1) 0 → wx.cell? ⟨gl,p * 4 + 3,none⟩ = some (.string (strOfNums C.L[p].txt))) := fun wx hx => by
      obtain ⟨gl',cv',e',_,_,_,_,x⟩ := hx.2.at hl
      rw [hlv] at e'
      cases e'
      exact x
    have LV : Hid (C.lv = .slice (some ⟨gl,0,none⟩) C.L.length cv ∧ C.L.length ≤ cv ∧ cv ≤ 9223372036854775807) := ⟨hlv,hc,hcm⟩
    generalize strOfNums C.L[p].txt = tx at *
    have kNu : Hid (∀ wx,Sg C wx p (n + 1) 0 → Calls Tryz.prog 50 #[.pointer (some ⟨C.g,0,none⟩)] wx fun e w' => (∃ b : Nb,e = .returned (.agg b.arr)) ∧ Below wx.heap.size wx w') := fun wx hx => (gnumber hx hl (.inr HK.out.2.2.2.2.2)).mono fun e w' ⟨⟨b,e1,_⟩,hb⟩ => ⟨⟨b,e1⟩,hb⟩
    have kF : Hid (∀ wx,Sg C wx p n 0 → Calls Tryz.prog 31 #[.pointer (some ⟨C.g,0,none⟩),.int .i64 5] wx fun e w' => e = .returned (.tuple #[]) ∧ Sg C w' p n 5 ∧ Kq C.g wx.heap.size wx w') := fun wx hx => gfails 5 hx hl
    generalize C.L[p].kind = kd at *
    have HL : Hid (p < C.L.length) := hl
    clear hTa hlv hc hcm hL hp x1 x2 x3
    by_cases hb : bvA kd = false
    · have ht : kd = 2 ∨ kd = 4 ∨ kd = 5 ∨ kd = 6 := by simp [bvA] at hb; omega
      have ho' : Hid ((skF (k + 1) 0 (C.L.drop p)) = none) := by have := ho.out; rw [if_pos hb] at this; exact this
      have g0 : (((kd : Nat) : Int) == 0) = false := by simp; omega
      have g1 : (((kd : Nat) : Int) != 1) = true := by simp; omega
      have g3 : (((kd : Nat) : Int) != 3) = true := by simp; omega
      have g7 : ((kd : Nat) : Int) < 7 := by omega
      clear ho hb ht hkk hl TA kNu IL IM LV
      go_enter Tryz.func29,Tryz.ntmps29
      go_upto_region 2 with (go_at_call 46; refine kK.mono ?_; rintro e w4 ⟨rfl,s4,q4⟩; have S4 : Hid (Sg C w4 p n 0) := s4; have Q4 : Hid _ := q4; clear s4 q4)
      have NR4 : Hid (NBox w4 w.heap.size zN) := nbox_kq NR.out Q4.out NR.out.lt (Nat.ne_of_gt LG.out)
      have K4 : Hid (Kq C.g w.heap.size w w4) := (Kq.of BW.out).trans (Q4.out.mono BW.out.size)
      have kF4 := kF.out w4 S4.out
      clear kK kF NR BW S1 Q4
      go_upto_region 6 with (go_at_call 31; refine kF4.mono ?_; rintro e w5 ⟨rfl,s5,q5⟩; have S5 : Hid (Sg C w5 p n 5) := s5; have Q5 : Hid (Kq C.g w4.heap.size w4 w5) := q5; clear s5 q5)
      have V5 : Hid (VR C p (skF (k + 1) 0 (C.L.drop p)) w5) := by show VR _ _ _ _; rw [ho'.out]; exact ⟨p,n,5,by decide,S5.out⟩
      have NR5 : Hid (NBox w5 w.heap.size zN) := nbox_kq NR4.out Q5.out NR4.out.lt (Nat.ne_of_gt LG.out)
      have K5 : Hid (Kq C.g w.heap.size w w5) := K4.out.trans (Q5.out.mono K4.out.size)
      clear kF4 S4 S5 NR4 K4 Q5 ho'
      have x9 := nbox_put NR5.out zN
      dsimp only [zN] at x9
      have F9 : Hid (VR C p (skF (k + 1) 0 (C.L.drop p)) _ ∧ Kq C.g w.heap.size w _) := vr_fin V5.out TG.out K5.out x9.2 (Nat.le_refl _) LG.out
      have qf := NR5.out.fz
      obtain ⟨t0,t1,t2,t3,t4,t5,t6,t7,t8⟩ := NR5.out.fields
      obtain ⟨u0,u1,u2,u3,u4,u5,u6,u7,u8⟩ := x9.1.fields
      go_wp2_with fail
      refine bodyPost_ret (v := .agg zN.arr) (by simp [results,Tryz.results29,go_sem,zN,Nb.arr] at *; simp [go_sem,u0,u1,u2,u3,u4,u5,u6,u7,u8]) rfl ⟨_,rfl,⟨zN,rfl⟩,F9.out⟩
    · have hb1 : bvA kd = true := by simpa using hb
      have ht : kd = 1 ∨ kd = 3 ∨ (7 ≤ kd ∧ kd ≤ 11) := by simp [bvA] at hb1; omega
      have g0 : (((kd : Nat) : Int) == 0) = false := by simp; omega
      have ho1 : Hid ((skF (k + 1) 0 (C.L.drop p)) = if kd = 3 then arO k (C.L.drop (p + 1)) else if kd = 1 then mpO k (C.L.drop (p + 1)) else some (C.L.drop (p + 1))) := by have := ho.out; rw [if_neg hb] at this; exact this
      have kB : Hid (∀ wx,Sg C wx p n 0 → Calls Tryz.prog 47 #[.pointer (some ⟨C.g,0,none⟩),.int .i64 (d : Nat)] wx fun e w' => e = .returned (.tuple #[]) ∧ Sg C w' p (n + 1) 0 ∧ Kq C.g wx.heap.size wx w') := fun wx hx => gbeg_ok hx (by have := HK.out; omega) (by have := HK.out; omega) (.inl HK.out.2.2.2.2.2)
      clear ho hb hb1 hl kF
      go_enter Tryz.func29,Tryz.ntmps29
      go_upto_region 2 with (go_at_call 46; refine kK.mono ?_; rintro e w4 ⟨rfl,s4,q4⟩; have S4 : Hid (Sg C w4 p n 0) := s4; have Q4 : Hid _ := q4; clear s4 q4)
      have NR4 : Hid (NBox w4 w.heap.size zN) := nbox_kq NR.out Q4.out NR.out.lt (Nat.ne_of_gt LG.out)
      have K4 : Hid (Kq C.g w.heap.size w w4) := (Kq.of BW.out).trans (Q4.out.mono BW.out.size)
      clear kK NR BW S1 Q4
      go_upto_region 4 with fail
      go_cut [21] (fun s21 wx => s21 = .bool false ∧ Hid (Sg C wx p n 0 ∧ NBox wx w.heap.size zN ∧ Kq C.g w.heap.size w wx))
      case first =>
        rcases ht with rfl | rfl | ⟨h7,_⟩
        · go_wp2_with fail
          go_meet
          exact ⟨rfl,S4.out,NR4.out,K4.out⟩
        · go_wp2_with fail
          go_meet
          exact ⟨rfl,S4.out,NR4.out,K4.out⟩
        · have g1 : (((kd : Nat) : Int) != 1) = true := by simp; omega
          have g3 : (((kd : Nat) : Int) != 3) = true := by simp; omega
          have g7 : ¬ ((kd : Nat) : Int) < 7 := by omega
          go_wp2_with fail
          go_meet
          exact ⟨rfl,S4.out,NR4.out,K4.out⟩
      case rest =>
        obtain ⟨rfl,hcut⟩ := hcut
        have kBc := kB.out wc hcut.out.1
        clear S4 NR4 K4 kB
        go_upto_region 8 with (go_at_call 47; refine kBc.mono ?_; rintro e w5 ⟨rfl,s5,q5⟩; have S5 : Hid (Sg C w5 p (n + 1) 0) := s5; have Q5 : Hid (Kq C.g wc.heap.size wc w5) := q5; clear s5 q5)
        have NR5 : Hid (NBox w5 w.heap.size zN) := nbox_kq hcut.out.2.1 Q5.out hcut.out.2.1.lt (Nat.ne_of_gt LG.out)
        have K5 : Hid (Kq C.g w.heap.size w w5) := hcut.out.2.2.trans (Q5.out.mono hcut.out.2.2.size)
        clear kBc hcut Q5
        have A6 := alloc_below w5 (.cells #[.int .i64 0,.int .u64 0,.bool false,.string ⟨#[]⟩,.int .i64 0,.string ⟨#[]⟩,.slice none 0 0,.slice none 0 0,.slice none 0 0] 26)
        have S6 : Hid (Sg C (w5.alloc (.cells #[.int .i64 0,.int .u64 0,.bool false,.string ⟨#[]⟩,.int .i64 0,.string ⟨#[]⟩,.slice none 0 0,.slice none 0 0,.slice none 0 0] 26)) p (n + 1) 0) := S5.out.below A6
        have NR6 : Hid (NBox (w5.alloc (.cells #[.int .i64 0,.int .u64 0,.bool false,.string ⟨#[]⟩,.int .i64 0,.string ⟨#[]⟩,.slice none 0 0,.slice none 0 0,.slice none 0 0] 26)) w.heap.size zN) := NR5.out.kept A6 NR5.out.lt
        have NN6 : Hid (NBox (w5.alloc (.cells #[.int .i64 0,.int .u64 0,.bool false,.string ⟨#[]⟩,.int .i64 0,.string ⟨#[]⟩,.slice none 0 0,.slice none 0 0,.slice none 0 0] 26)) w5.heap.size zN) := nbox_new w5 zN
        have K6 : Hid (Kq C.g w.heap.size w (w5.alloc (.cells #[.int .i64 0,.int .u64 0,.bool false,.string ⟨#[]⟩,.int .i64 0,.string ⟨#[]⟩,.slice none 0 0,.slice none 0 0,.slice none 0 0] 26))) := K5.out.trans ((Kq.of A6).mono K5.out.size)
        have L6 : Hid (w.heap.size < w5.heap.size) := NR5.out.lt
        clear A6 S5 NR5 K5
        rcases ht with rfl | rfl | ⟨h7,h11⟩
        · have kM0 := IM.out (w5.alloc (.cells #[.int .i64 0,.int .u64 0,.bool false,.string ⟨#[]⟩,.int .i64 0,.string ⟨#[]⟩,.slice none 0 0,.slice none 0 0,.slice none 0 0] 26)) p (n + 1) d S6.out (by have := HK.out; omega) HK.out.2.1 HL.out (by have := HK.out; have := HL.out; omega)
          have ho2 : Hid ((skF (k + 1) 0 (C.L.drop p)) = mpO k (C.L.drop (p + 1))) := ho1.out
          clear ho1 IL IM LV TA kNu
          go_upto_region 11 with fail
          generalize w5.alloc (.cells #[.int .i64 0,.int .u64 0,.bool false,.string ⟨#[]⟩,.int .i64 0,.string ⟨#[]⟩,.slice none 0 0,.slice none 0 0,.slice none 0 0] 26) = W6 at *
          clear NN6 L6 S6
          go_wp2_with (go_at_call 48; refine kM0.mono ?_; rintro e w7 ⟨r,rfl,⟨nb,hb⟩,v7,q7⟩; rw [Nb.arr] at hb; subst hb; have NR7 : Hid (NBox w7 w.heap.size zN) := nbox_kq NR6.out q7 NR6.out.lt (Nat.ne_of_gt LG.out); have K7 : Hid (Kq C.g w.heap.size w w7) := K6.out.trans (q7.mono K6.out.size); have V7 : Hid (VR C p (skF (k + 1) 0 (C.L.drop p)) w7) := (by show VR _ _ _ _; rw [ho2.out]; exact v7); have x9 := nbox_put NR7.out nb; have F9 : Hid (VR C p (skF (k + 1) 0 (C.L.drop p)) _ ∧ Kq C.g w.heap.size w _) := vr_fin V7.out TG.out K7.out x9.2 (Nat.le_refl _) LG.out; have qf := NR7.out.fz; obtain ⟨t0,t1,t2,t3,t4,t5,t6,t7,t8⟩ := NR7.out.fields; obtain ⟨u0,u1,u2,u3,u4,u5,u6,u7,u8⟩ := x9.1.fields; clear v7 q7 x9 NR7 K7 V7)
          refine bodyPost_ret (v := .agg nb.arr) (by simp [results,Tryz.results29,go_sem,Nb.arr] at *; simp [go_sem,u0,u1,u2,u3,u4,u5,u6,u7,u8]) rfl ⟨_,rfl,⟨nb,rfl⟩,F9.out⟩
        · have kM0 := IL.out (w5.alloc (.cells #[.int .i64 0,.int .u64 0,.bool false,.string ⟨#[]⟩,.int .i64 0,.string ⟨#[]⟩,.slice none 0 0,.slice none 0 0,.slice none 0 0] 26)) p (n + 1) d S6.out (by have := HK.out; omega) HK.out.2.1 HL.out (by have := HK.out; have := HL.out; omega)
          have ho2 : Hid ((skF (k + 1) 0 (C.L.drop p)) = arO k (C.L.drop (p + 1))) := ho1.out
          clear ho1 IL IM LV TA kNu
          go_upto_region 13 with fail
          generalize w5.alloc (.cells #[.int .i64 0,.int .u64 0,.bool false,.string ⟨#[]⟩,.int .i64 0,.string ⟨#[]⟩,.slice none 0 0,.slice none 0 0,.slice none 0 0] 26) = W6 at *
          clear NN6 L6 S6
          go_wp2_with (go_at_call 49; refine kM0.mono ?_; rintro e w7 ⟨r,rfl,⟨nb,hb⟩,v7,q7⟩; rw [Nb.arr] at hb; subst hb; have NR7 : Hid (NBox w7 w.heap.size zN) := nbox_kq NR6.out q7 NR6.out.lt (Nat.ne_of_gt LG.out); have K7 : Hid (Kq C.g w.heap.size w w7) := K6.out.trans (q7.mono K6.out.size); have V7 : Hid (VR C p (skF (k + 1) 0 (C.L.drop p)) w7) := (by show VR _ _ _ _; rw [ho2.out]; exact v7); have x9 := nbox_put NR7.out nb; have F9 : Hid (VR C p (skF (k + 1) 0 (C.L.drop p)) _ ∧ Kq C.g w.heap.size w _) := vr_fin V7.out TG.out K7.out x9.2 (Nat.le_refl _) LG.out; have qf := NR7.out.fz; obtain ⟨t0,t1,t2,t3,t4,t5,t6,t7,t8⟩ := NR7.out.fields; obtain ⟨u0,u1,u2,u3,u4,u5,u6,u7,u8⟩ := x9.1.fields; clear v7 q7 x9 NR7 K7 V7)
          refine bodyPost_ret (v := .agg nb.arr) (by simp [results,Tryz.results29,go_sem,Nb.arr] at *; simp [go_sem,u0,u1,u2,u3,u4,u5,u6,u7,u8]) rfl ⟨_,rfl,⟨nb,rfl⟩,F9.out⟩
        · have ho2 : Hid ((skF (k + 1) 0 (C.L.drop p)) = some (C.L.drop (p + 1))) := by have := ho1.out; rw [if_neg (by omega),if_neg (by omega)] at this; exact this
          have kN6 := kNu.out (w5.alloc (.cells #[.int .i64 0,.int .u64 0,.bool false,.string ⟨#[]⟩,.int .i64 0,.string ⟨#[]⟩,.slice none 0 0,.slice none 0 0,.slice none 0 0] 26)) S6.out
          have t3 := TA.out (w5.alloc (.cells #[.int .i64 0,.int .u64 0,.bool false,.string ⟨#[]⟩,.int .i64 0,.string ⟨#[]⟩,.slice none 0 0,.slice none 0 0,.slice none 0 0] 26)) S6.out
          obtain ⟨⟨z,hr⟩,_⟩ := S6.out
          have c1 := hr.c1
          have c2 := hr.c2
          rw [LV.out.1] at c1
          have hz : (p : Int) < (C.L.length : Int) := by have := HL.out; omega
          have hz0 : (0 : Int) ≤ (p : Int) := by omega
          have hc := LV.out.2.1
          have hcm := LV.out.2.2
          clear ho1 IL IM LV TA kNu hr
          go_upto_block 0 with fail
          generalize w5.alloc (.cells #[.int .i64 0,.int .u64 0,.bool false,.string ⟨#[]⟩,.int .i64 0,.string ⟨#[]⟩,.slice none 0 0,.slice none 0 0,.slice none 0 0] 26) = W6 at *
          go_cut [] (fun wx => Hid (∃ nb : Nb,Sg C wx p (n + 1) 0 ∧ Kq C.g w.heap.size w wx ∧ NBox wx w.heap.size zN ∧ NBox wx w5.heap.size nb))
          case first =>
            have qf := NN6.out.fz
            obtain ⟨v0,v1,v2,v3,v4,v5,v6,v7,v8⟩ := NN6.out.fields
            obtain rfl | rfl | rfl | rfl | rfl : kd = 7 ∨ kd = 8 ∨ kd = 9 ∨ kd = 10 ∨ kd = 11 := by omega
            · have x9 := nbox_put NN6.out ⟨5,0,false,⟨#[]⟩,0,tx,none,0,0,none,0,0,none,0,0⟩
              dsimp only at x9
              have F9 : Hid _ := val_put S6.out TG.out K6.out NR6.out L6.out x9 LG.out
              clear x9 kN6
              go_wp2_with fail
              go_region
              go_wp2_with fail
              go_meet
              exact ⟨_,vdrew F9.out⟩
            · clear t3 c1 c2
              go_wp2_with (go_at_call 50; refine kN6.mono ?_; rintro e w7 ⟨⟨nb,hb⟩,b7⟩; rw [Nb.arr] at hb; subst hb; have NN7 : Hid (NBox w7 w5.heap.size zN) := NN6.out.kept b7 NN6.out.lt; have NR7 : Hid (NBox w7 w.heap.size zN) := NR6.out.kept b7 NR6.out.lt; have x9 := nbox_put NN7.out nb; have F9 : Hid _ := val_put (S6.out.below b7) TG.out (K6.out.trans ((Kq.of b7).mono K6.out.size)) NR7.out L6.out x9 LG.out; have qg := NN7.out.fz; obtain ⟨u0,u1,u2,u3,u4,u5,u6,u7,u8⟩ := NN7.out.fields; clear x9 NN7 NR7 b7)
              go_meet
              exact ⟨_,F9.out⟩
            · have x9 := nbox_put NN6.out ⟨1,1,false,⟨#[]⟩,0,⟨#[]⟩,none,0,0,none,0,0,none,0,0⟩
              dsimp only at x9
              have F9 : Hid _ := val_put S6.out TG.out K6.out NR6.out L6.out x9 LG.out
              clear x9 kN6 t3 c1 c2
              go_wp2_with fail
              go_meet
              exact ⟨_,F9.out⟩
            · have x9 := nbox_put NN6.out ⟨1,0,false,⟨#[]⟩,0,⟨#[]⟩,none,0,0,none,0,0,none,0,0⟩
              dsimp only at x9
              have F9 : Hid _ := val_put S6.out TG.out K6.out NR6.out L6.out x9 LG.out
              clear x9 kN6 t3 c1 c2
              go_wp2_with fail
              go_meet
              exact ⟨_,F9.out⟩
            · clear kN6 t3 c1 c2
              go_wp2_with fail
              go_meet
              exact ⟨zN,S6.out,K6.out,NR6.out,NN6.out⟩
          case rest =>
            obtain ⟨nb,s7,k7,r7,n7⟩ := hcut.out
            clear hcut S6 NR6 NN6 K6 kN6 t3 c1 c2 hz hz0 hc hcm
            have S8 : Hid (Sg C (wc.setCell ⟨C.g,2,none⟩ (.int .i64 ((p : Int) + 1))) (p + 1) (n + 1) 0) := by have := s7.at_ (p + 1); rw [show (((p + 1 : Nat) : Nat) : Int) = (p : Int) + 1 by omega] at this; exact this
            have q8 := Kq.set C.g wc.heap.size wc 2 (.int .i64 ((p : Int) + 1))
            have K8 : Hid (Kq C.g w.heap.size w (wc.setCell ⟨C.g,2,none⟩ (.int .i64 ((p : Int) + 1)))) := k7.trans (Kq.set _ _ _ _ _)
            have NR8 : Hid (NBox (wc.setCell ⟨C.g,2,none⟩ (.int .i64 ((p : Int) + 1))) w.heap.size zN) := nbox_kq r7 q8 r7.lt (Nat.ne_of_gt LG.out)
            have NN8 : Hid (NBox (wc.setCell ⟨C.g,2,none⟩ (.int .i64 ((p : Int) + 1))) w5.heap.size nb) := nbox_kq n7 q8 n7.lt (by have := LG.out; have := L6.out; omega)
            have V8 : Hid (VR C p (skF (k + 1) 0 (C.L.drop p)) (wc.setCell ⟨C.g,2,none⟩ (.int .i64 ((p : Int) + 1)))) := by
              show VR _ _ _ _
              rw [ho2.out]
              exact ⟨p + 1,n + 1,by omega,HL.out,rfl,by have := HK.out; omega,S8.out⟩
            obtain ⟨⟨z,hr⟩,_⟩ := s7
            have c2 := hr.c2
            have f2 := hr.fz 2
            have wi : IntKind.i64.wrap ((p : Int) + 1) = (p : Int) + 1 := by have := HK.out; rw [IntKind.wrap_i64] <;> omega
            clear hr q8 k7 r7 n7 ho2 S8
            go_upto_region 23 with fail
            clear c2 f2
            generalize wc.setCell ⟨C.g,2,none⟩ (.int .i64 ((p : Int) + 1)) = W8 at *
            obtain ⟨v0,v1,v2,v3,v4,v5,v6,v7,v8⟩ := NN8.out.fields
            have x9 := nbox_put NR8.out nb
            have F9 : Hid (VR C p (skF (k + 1) 0 (C.L.drop p)) _ ∧ Kq C.g w.heap.size w _) := vr_fin V8.out TG.out K8.out x9.2 (Nat.le_refl _) LG.out
            have qf := NR8.out.fz
            obtain ⟨t0,t1,t2,t3,t4,t5,t6,t7,t8⟩ := NR8.out.fields
            obtain ⟨u0,u1,u2,u3,u4,u5,u6,u7,u8⟩ := x9.1.fields
            go_wp2_with fail
            refine bodyPost_ret (v := .agg nb.arr) (by simp [results,Tryz.results29,go_sem,Nb.arr] at *; simp [go_sem,u0,u1,u2,u3,u4,u5,u6,u7,u8]) rfl ⟨_,rfl,⟨nb,rfl⟩,F9.out⟩
  · have kK := gkind_out S1.out hl
    have ho' : Hid ((skF (k + 1) 0 (C.L.drop p)) = none) := by
      show _ = _
      rw [List.drop_eq_nil_of_le (by omega)]
      rfl
    clear hl
    go_enter Tryz.func29,Tryz.ntmps29
    go_upto_region 3 with (go_at_call 46; refine kK.mono ?_; rintro e w5 ⟨rfl,s4,q4⟩; have S4 : Hid (Sb C w5) := s4; have Q4 : Hid (Kq C.g (w.alloc (.cells #[.int .i64 0,.int .u64 0,.bool false,.string ⟨#[]⟩,.int .i64 0,.string ⟨#[]⟩,.slice none 0 0,.slice none 0 0,.slice none 0 0] 26)).heap.size (w.alloc (.cells #[.int .i64 0,.int .u64 0,.bool false,.string ⟨#[]⟩,.int .i64 0,.string ⟨#[]⟩,.slice none 0 0,.slice none 0 0,.slice none 0 0] 26)) w5) := q4; clear s4 q4)
    have V5 : Hid (VR C p (skF (k + 1) 0 (C.L.drop p)) w5) := by show VR _ _ _ _; rw [ho'.out]; exact S4.out
    have NR5 : Hid (NBox w5 w.heap.size zN) := nbox_kq NR.out Q4.out NR.out.lt (Nat.ne_of_gt LG.out)
    have K5 : Hid (Kq C.g w.heap.size w w5) := (Kq.of BW.out).trans (Q4.out.mono BW.out.size)
    clear kK S4 NR BW Q4 ho' S1
    have x9 := nbox_put NR5.out zN
    dsimp only [zN] at x9
    have F9 : Hid (VR C p (skF (k + 1) 0 (C.L.drop p)) _ ∧ Kq C.g w.heap.size w _) := vr_fin V5.out TG.out K5.out x9.2 (Nat.le_refl _) LG.out
    have qf := NR5.out.fz
    obtain ⟨t0,t1,t2,t3,t4,t5,t6,t7,t8⟩ := NR5.out.fields
    obtain ⟨u0,u1,u2,u3,u4,u5,u6,u7,u8⟩ := x9.1.fields
    go_wp2_with fail
    refine bodyPost_ret (v := .agg zN.arr) (by simp [results,Tryz.results29,go_sem,zN,Nb.arr] at *; simp [go_sem,u0,u1,u2,u3,u4,u5,u6,u7,u8]) rfl ⟨_,rfl,⟨zN,rfl⟩,F9.out⟩
end Go.Proofs.YtmlacmoembjeoaaGreatDoor
