/-
  Parts of the proof.
-/
import Derived.Test.YtmlacmoembjeoaaGreatDoorV46
import Derived.Test.YtmlacmoembjeoaaGreatDoorV40
import Derived.Test.YtmlacmoembjeoaaGreatDoorV27
import Derived.Test.YtmlacmoembjeoaaGreatDoorV25
namespace Go.Proofs.YtmlacmoembjeoaaGreatDoor
open Go.RowKit
set_option linter.unusedVariables false
theorem vat_all {C : RC} (hL : ∀ t ∈ C.L,1 ≤ t.kind ∧ t.kind ≤ 11) (hN : C.L.length ≤ 4096) (hfr : C.free = true) : ∀ k,VAt C k := by
  intro k
  induction k using Nat.strongRecOn with
  | _ k ih =>
    cases k with
    | zero => intro w p n d h hn hd hp hk; omega
    | succ k => exact value_step hL hN hfr (list_step hL hN fun j hj => ih j (by omega)) (memb_step hL hN hfr fun j hj => ih j (by omega))
theorem lex_kinds (b : List Int) (p : Nat) : ∀ t ∈ (lexA b p).1,1 ≤ t.kind ∧ t.kind ≤ 11 := by
  induction b,p using lex_ind with
  | nil b p h => intro t ht; rw [lex_end h] at ht; simp at ht
  | bad b p h h2 => intro t ht; rw [lex_bad h h2] at ht; simp at ht
  | tok b p h h2 ih =>
    intro t ht
    rw [lex_tok h h2] at ht
    rcases List.mem_cons.1 ht with rfl | ht
    · exact ((tok_bounds h _).1 h2).2.2.2
    · exact ih t ht
theorem lexW_kinds (zs : List Int) : ∀ t ∈ (lexW zs).1,1 ≤ t.kind ∧ t.kind ≤ 11 := by
  intro t ht
  unfold lexW at ht
  by_cases h : zs.length ≤ 4096
  · rw [if_pos h] at ht
    exact lex_kinds zs 0 t ht
  · rw [if_neg h] at ht; simp at ht
theorem tg_of {w : World} {B g : Nat} {v : Value} {L : List Tk} (h : OwnsT w B v L) (hg : w.heap.size ≤ g) : Tg w g v L := by
  by_cases h0 : L = []
  · obtain ⟨a,n,cap,hv,hl,hc,hm⟩ := h.form
    exact ⟨a,cap,by rw [hv,hl.out],by rw [hl.out]; exact hc,hm,fun e => absurd h0 e⟩
  · obtain ⟨gl,cap,hv,hb,hs,hc,hm,hx⟩ := h.cells h0
    exact ⟨_,cap,hv,hc,hm,fun _ => ⟨gl,rfl,hs,by omega,hx⟩⟩
theorem two_put {W : World} {r : Nat} {c0 c1 : Value} (hN : NBox W r zN) (hB : Blk W (r + 1) #[c0,c1] 29) (x : Nb) (y z : Int) : NBox (((((((((((W.setCell ⟨r,0,none⟩ (.int .i64 x.kind)).setCell ⟨r,1,none⟩ (.int .u64 x.num)).setCell ⟨r,2,none⟩ (.bool x.neg)).setCell ⟨r,3,none⟩ (.string x.dig)).setCell ⟨r,4,none⟩ (.int .i64 x.exp)).setCell ⟨r,5,none⟩ (.string x.txt)).setCell ⟨r,6,none⟩ (.slice x.ab x.lb x.cb)).setCell ⟨r,7,none⟩ (.slice x.ak x.lk x.ck)).setCell ⟨r,8,none⟩ (.slice x.ai x.li x.ci)).setCell ⟨r + 1,0,none⟩ (.int .i64 y)).setCell ⟨r + 1,1,none⟩ (.int .i64 z)) r x ∧ Blk (((((((((((W.setCell ⟨r,0,none⟩ (.int .i64 x.kind)).setCell ⟨r,1,none⟩ (.int .u64 x.num)).setCell ⟨r,2,none⟩ (.bool x.neg)).setCell ⟨r,3,none⟩ (.string x.dig)).setCell ⟨r,4,none⟩ (.int .i64 x.exp)).setCell ⟨r,5,none⟩ (.string x.txt)).setCell ⟨r,6,none⟩ (.slice x.ab x.lb x.cb)).setCell ⟨r,7,none⟩ (.slice x.ak x.lk x.ck)).setCell ⟨r,8,none⟩ (.slice x.ai x.li x.ci)).setCell ⟨r + 1,0,none⟩ (.int .i64 y)).setCell ⟨r + 1,1,none⟩ (.int .i64 z)) (r + 1) #[.int .i64 y,.int .i64 z] 29 ∧ Below r W (((((((((((W.setCell ⟨r,0,none⟩ (.int .i64 x.kind)).setCell ⟨r,1,none⟩ (.int .u64 x.num)).setCell ⟨r,2,none⟩ (.bool x.neg)).setCell ⟨r,3,none⟩ (.string x.dig)).setCell ⟨r,4,none⟩ (.int .i64 x.exp)).setCell ⟨r,5,none⟩ (.string x.txt)).setCell ⟨r,6,none⟩ (.slice x.ab x.lb x.cb)).setCell ⟨r,7,none⟩ (.slice x.ak x.lk x.ck)).setCell ⟨r,8,none⟩ (.slice x.ai x.li x.ci)).setCell ⟨r + 1,0,none⟩ (.int .i64 y)).setCell ⟨r + 1,1,none⟩ (.int .i64 z)) := by
  have p := nbox_put hN x
  have hs := hN.lt
  have hs1 := Blk.lt hB
  have hb : Blk (((((((((W.setCell ⟨r,0,none⟩ (.int .i64 x.kind)).setCell ⟨r,1,none⟩ (.int .u64 x.num)).setCell ⟨r,2,none⟩ (.bool x.neg)).setCell ⟨r,3,none⟩ (.string x.dig)).setCell ⟨r,4,none⟩ (.int .i64 x.exp)).setCell ⟨r,5,none⟩ (.string x.txt)).setCell ⟨r,6,none⟩ (.slice x.ab x.lb x.cb)).setCell ⟨r,7,none⟩ (.slice x.ak x.lk x.ck)).setCell ⟨r,8,none⟩ (.slice x.ai x.li x.ci)) (r + 1) #[c0,c1] 29 := (p.2.block (r + 1) hs1 (by omega)).trans hB
  have b1 : Below r W (((((((((W.setCell ⟨r,0,none⟩ (.int .i64 x.kind)).setCell ⟨r,1,none⟩ (.int .u64 x.num)).setCell ⟨r,2,none⟩ (.bool x.neg)).setCell ⟨r,3,none⟩ (.string x.dig)).setCell ⟨r,4,none⟩ (.int .i64 x.exp)).setCell ⟨r,5,none⟩ (.string x.txt)).setCell ⟨r,6,none⟩ (.slice x.ab x.lb x.cb)).setCell ⟨r,7,none⟩ (.slice x.ak x.lk x.ck)).setCell ⟨r,8,none⟩ (.slice x.ai x.li x.ci)) := p.2.below (Nat.le_of_lt hs) (fun k e => by omega)
  refine ⟨?_,Blk.set (Blk.set hb 0 _) 1 _,(b1.setCell (p := ⟨r + 1,0,none⟩) (Nat.le_succ _) _).setCell (p := ⟨r + 1,1,none⟩) (Nat.le_succ _) _⟩
  exact (setk (Nat.ne_of_lt (Nat.lt_succ_self _)) _).trans ((setk (Nat.ne_of_lt (Nat.lt_succ_self _)) _).trans p.1)
theorem bdr {B : Nat} {w X : World} (h : Below B w X) : Below B w X.drew := ⟨h.os,h.tape,h.output,h.size,h.block⟩
def OkZ (zs : List Int) : Prop := skF (2 * (lexW zs).1.length + 1) 0 (lexW zs).1 = some [] ∧ (lexW zs).2.1 = 0
def WhR (zs : List Int) (e : Ending) : Prop := ∃ (b : Nb) (y z : Int),e = .returned (.tuple #[.agg b.arr,.agg #[.int .i64 y,.int .i64 z]]) ∧ (y = 0 ↔ OkZ zs)
set_option maxHeartbeats 4000000 in
set_option maxRecDepth 100000 in
theorem wwhole_free (a : Option Addr) (n cap : Nat) (zs : List Int) (w : World) (hl : zs.length = n) (hb : Bytes w a zs) (hc : n ≤ cap) (hm : cap ≤ 140737488351232) :
    Calls Tryz.prog 19 #[.slice a n cap,.bool true] w fun e w' => WhR zs e ∧ Below w.heap.size w w' := by
  have A1 := alloc_below w (.cells #[.int .i64 0,.int .u64 0,.bool false,.string ⟨#[]⟩,.int .i64 0,.string ⟨#[]⟩,.slice none 0 0,.slice none 0 0,.slice none 0 0] 26)
  have A2 := alloc_below (w.alloc (.cells #[.int .i64 0,.int .u64 0,.bool false,.string ⟨#[]⟩,.int .i64 0,.string ⟨#[]⟩,.slice none 0 0,.slice none 0 0,.slice none 0 0] 26)) (.cells #[.int .i64 0,.int .i64 0] 29)
  have B2 : Hid (Below w.heap.size w ((w.alloc (.cells #[.int .i64 0,.int .u64 0,.bool false,.string ⟨#[]⟩,.int .i64 0,.string ⟨#[]⟩,.slice none 0 0,.slice none 0 0,.slice none 0 0] 26)).alloc (.cells #[.int .i64 0,.int .i64 0] 29))) := A1.trans (A2.mono A1.size)
  have N2 : Hid (NBox ((w.alloc (.cells #[.int .i64 0,.int .u64 0,.bool false,.string ⟨#[]⟩,.int .i64 0,.string ⟨#[]⟩,.slice none 0 0,.slice none 0 0,.slice none 0 0] 26)).alloc (.cells #[.int .i64 0,.int .i64 0] 29)) w.heap.size zN) := (nbox_new w zN).kept A2 (alloc_lt _ _)
  have R2 : Hid (Blk ((w.alloc (.cells #[.int .i64 0,.int .u64 0,.bool false,.string ⟨#[]⟩,.int .i64 0,.string ⟨#[]⟩,.slice none 0 0,.slice none 0 0,.slice none 0 0] 26)).alloc (.cells #[.int .i64 0,.int .i64 0] 29)) (w.heap.size + 1) #[.int .i64 0,.int .i64 0] 29) := by
    have := blk_new (w.alloc (.cells #[.int .i64 0,.int .u64 0,.bool false,.string ⟨#[]⟩,.int .i64 0,.string ⟨#[]⟩,.slice none 0 0,.slice none 0 0,.slice none 0 0] 26)) #[.int .i64 0,.int .i64 0] 29
    rw [show (w.alloc (.cells #[.int .i64 0,.int .u64 0,.bool false,.string ⟨#[]⟩,.int .i64 0,.string ⟨#[]⟩,.slice none 0 0,.slice none 0 0,.slice none 0 0] 26)).heap.size = w.heap.size + 1 by simp] at this
    exact this
  have kL := vlex_full a n cap zs ((w.alloc (.cells #[.int .i64 0,.int .u64 0,.bool false,.string ⟨#[]⟩,.int .i64 0,.string ⟨#[]⟩,.slice none 0 0,.slice none 0 0,.slice none 0 0] 26)).alloc (.cells #[.int .i64 0,.int .i64 0] 29)) hl (hb.kept B2.out) hc hm
  clear hl hb hc hm A1 A2
  go_enter Tryz.func19,Tryz.ntmps19
  go_upto_region 2 with (go_at_call 16; refine kL.mono ?_; rintro e w1 ⟨v,Y,A,rfl,o1,y1,b1⟩; obtain ⟨av,nv,cv,rfl,hnv,hcv,hmv⟩ := o1.form; have O1 : Hid (OwnsT w1 (((w.alloc (.cells #[.int .i64 0,.int .u64 0,.bool false,.string ⟨#[]⟩,.int .i64 0,.string ⟨#[]⟩,.slice none 0 0,.slice none 0 0,.slice none 0 0] 26)).alloc (.cells #[.int .i64 0,.int .i64 0] 29)).heap.size + 1) (.slice av nv cv) (lexW zs).1) := o1; have Y1 : Hid (Y = 0 ↔ (lexW zs).2.1 = 0) := y1; have D1 : Hid (Below ((w.alloc (.cells #[.int .i64 0,.int .u64 0,.bool false,.string ⟨#[]⟩,.int .i64 0,.string ⟨#[]⟩,.slice none 0 0,.slice none 0 0,.slice none 0 0] 26)).alloc (.cells #[.int .i64 0,.int .i64 0] 29)).heap.size ((w.alloc (.cells #[.int .i64 0,.int .u64 0,.bool false,.string ⟨#[]⟩,.int .i64 0,.string ⟨#[]⟩,.slice none 0 0,.slice none 0 0,.slice none 0 0] 26)).alloc (.cells #[.int .i64 0,.int .i64 0] 29)) w1) := b1; clear o1 y1 b1)
  have A3 := alloc_below w1 (.cells #[.int .i64 Y,.int .i64 A] 29)
  have B3 : Hid (Below w.heap.size w (w1.alloc (.cells #[.int .i64 Y,.int .i64 A] 29))) := (B2.out.trans (D1.out.mono B2.out.size)).trans (A3.mono (Nat.le_trans B2.out.size D1.out.size))
  have N3 : Hid (NBox (w1.alloc (.cells #[.int .i64 Y,.int .i64 A] 29)) w.heap.size zN) := (N2.out.kept D1.out N2.out.lt).kept A3 (N2.out.kept D1.out N2.out.lt).lt
  have R3 : Hid (Blk (w1.alloc (.cells #[.int .i64 Y,.int .i64 A] 29)) (w.heap.size + 1) #[.int .i64 0,.int .i64 0] 29) := Blk.kept (Blk.kept R2.out D1.out (Blk.lt R2.out)) A3 (Blk.lt (Blk.kept R2.out D1.out (Blk.lt R2.out)))
  have F3 : Hid (Blk (w1.alloc (.cells #[.int .i64 Y,.int .i64 A] 29)) w1.heap.size #[.int .i64 Y,.int .i64 A] 29) := blk_new w1 _ _
  have L1 : Hid (w.heap.size + 2 ≤ w1.heap.size) := Blk.lt (Blk.kept R2.out D1.out (Blk.lt R2.out))
  have ne1 : Hid (w1.heap.size ≠ w.heap.size) := by have := L1.out; show _ ≠ _; omega
  clear N2 R2 B2 D1 kL A3
  by_cases hY8 : Y = 8
  · subst hY8
    have N6 : Hid (NBox (w1.alloc (.cells #[.int .i64 8,.int .i64 A] 29)) w.heap.size zN) := N3.out
    have R6 : Hid (Blk (w1.alloc (.cells #[.int .i64 8,.int .i64 A] 29)) (w.heap.size + 1) #[.int .i64 0,.int .i64 0] 29) := R3.out
    have B6 : Hid (Below w.heap.size w (w1.alloc (.cells #[.int .i64 8,.int .i64 A] 29))) := B3.out
    have hiff : Hid ((8 : Int) = 0 ↔ OkZ zs) := ⟨fun e => absurd e (by decide),fun e => Y1.out.2 e.2⟩
    clear N3 R3 B3 Y1 O1
    go_upto_region 3 with fail
    generalize w1.alloc (.cells #[.int .i64 8,.int .i64 A] 29) = W6 at *
    have f0 : W6.cell? ⟨w1.heap.size,0,none⟩ = some (.int .i64 8) := F3.out.cell 0
    have f1 : W6.cell? ⟨w1.heap.size,1,none⟩ = some (.int .i64 A) := F3.out.cell 1
    have ne2 : ¬ w1.heap.size = w.heap.size := ne1.out
    have ne3 : ¬ w.heap.size = w1.heap.size := fun e => ne1.out e.symm
    have x9 := two_put N6.out R6.out zN 8 A
    dsimp only [zN] at x9
    have F9 : Hid (Below w.heap.size w _) := B6.out.trans (x9.2.2.mono (Nat.le_refl _))
    have qf := N6.out.fz
    have qg := R6.out.fz
    obtain ⟨t0,t1,t2,t3,t4,t5,t6,t7,t8⟩ := N6.out.fields
    have r0 := R6.out.cell 0
    have r1 := R6.out.cell 1
    obtain ⟨u0,u1,u2,u3,u4,u5,u6,u7,u8⟩ := x9.1.fields
    have s0 := x9.2.1.cell 0
    have s1 := x9.2.1.cell 1
    simp at r0 r1 s0 s1
    clear x9
    go_region
    go_wp2_with fail
    refine bodyPost_ret (v := .tuple #[.agg zN.arr,.agg #[.int .i64 8,.int .i64 A]]) (by simp [results,Tryz.results19,go_sem,zN,Nb.arr] at *; simp [go_sem,u0,u1,u2,u3,u4,u5,u6,u7,u8,s0,s1]) rfl ⟨⟨zN,8,A,rfl,hiff.out⟩,bdr F9.out⟩
  · have g8 : (Y == 8) = false := by simpa using hY8
    go_upto_region 5 with fail
    have A3 := alloc_below w1 (.cells #[.int .i64 Y,.int .i64 A] 29)
    have A4 := alloc_below (w1.alloc (.cells #[.int .i64 Y,.int .i64 A] 29)) (.cells #[.slice a n cap,.slice av nv cv,.int .i64 0,.int .i64 0,.bool true,.int .i64 0,.int .i64 0,.int .i64 Y,.int .i64 A] 55)
    have S4 : Hid (Sg (⟨w1.heap.size + 1,a,n,cap,.slice av nv cv,true,Y,A,(lexW zs).1⟩ : RC) ((w1.alloc (.cells #[.int .i64 Y,.int .i64 A] 29)).alloc (.cells #[.slice a n cap,.slice av nv cv,.int .i64 0,.int .i64 0,.bool true,.int .i64 0,.int .i64 0,.int .i64 Y,.int .i64 A] 55)) 0 0 0) := by
      refine ⟨⟨0,?_⟩,(tg_of O1.out (Nat.le_succ _)).kq (Kq.of (A3.trans (A4.mono A3.size))) (Nat.le_refl _)⟩
      have := blk_new (w1.alloc (.cells #[.int .i64 Y,.int .i64 A] 29)) #[.slice a n cap,.slice av nv cv,.int .i64 0,.int .i64 0,.bool true,.int .i64 0,.int .i64 0,.int .i64 Y,.int .i64 A] 55
      rw [show (w1.alloc (.cells #[.int .i64 Y,.int .i64 A] 29)).heap.size = w1.heap.size + 1 by simp] at this
      exact this
    have N4 : Hid (NBox ((w1.alloc (.cells #[.int .i64 Y,.int .i64 A] 29)).alloc (.cells #[.slice a n cap,.slice av nv cv,.int .i64 0,.int .i64 0,.bool true,.int .i64 0,.int .i64 0,.int .i64 Y,.int .i64 A] 55)) w.heap.size zN) := N3.out.kept A4 N3.out.lt
    have R4 : Hid (Blk ((w1.alloc (.cells #[.int .i64 Y,.int .i64 A] 29)).alloc (.cells #[.slice a n cap,.slice av nv cv,.int .i64 0,.int .i64 0,.bool true,.int .i64 0,.int .i64 0,.int .i64 Y,.int .i64 A] 55)) (w.heap.size + 1) #[.int .i64 0,.int .i64 0] 29) := Blk.kept R3.out A4 (Blk.lt R3.out)
    have F4 : Hid (Blk ((w1.alloc (.cells #[.int .i64 Y,.int .i64 A] 29)).alloc (.cells #[.slice a n cap,.slice av nv cv,.int .i64 0,.int .i64 0,.bool true,.int .i64 0,.int .i64 0,.int .i64 Y,.int .i64 A] 55)) w1.heap.size #[.int .i64 Y,.int .i64 A] 29) := Blk.kept F3.out A4 (Blk.lt F3.out)
    have B4 : Hid (Below w.heap.size w ((w1.alloc (.cells #[.int .i64 Y,.int .i64 A] 29)).alloc (.cells #[.slice a n cap,.slice av nv cv,.int .i64 0,.int .i64 0,.bool true,.int .i64 0,.int .i64 0,.int .i64 Y,.int .i64 A] 55))) := B3.out.trans (A4.mono B3.out.size)
    have kV : Calls Tryz.prog 29 #[.pointer (some ⟨w1.heap.size + 1,0,none⟩),.int .i64 1] ((w1.alloc (.cells #[.int .i64 Y,.int .i64 A] 29)).alloc (.cells #[.slice a n cap,.slice av nv cv,.int .i64 0,.int .i64 0,.bool true,.int .i64 0,.int .i64 0,.int .i64 Y,.int .i64 A] 55)) fun e w' => ∃ r,e = .returned r ∧ ((∃ b : Nb,r = .agg b.arr) ∧ VR (⟨w1.heap.size + 1,a,n,cap,.slice av nv cv,true,Y,A,(lexW zs).1⟩ : RC) 0 (skF (2 * (lexW zs).1.length + 1) 0 (lexW zs).1) w' ∧ Kq (w1.heap.size + 1) ((w1.alloc (.cells #[.int .i64 Y,.int .i64 A] 29)).alloc (.cells #[.slice a n cap,.slice av nv cv,.int .i64 0,.int .i64 0,.bool true,.int .i64 0,.int .i64 0,.int .i64 Y,.int .i64 A] 55)).heap.size ((w1.alloc (.cells #[.int .i64 Y,.int .i64 A] 29)).alloc (.cells #[.slice a n cap,.slice av nv cv,.int .i64 0,.int .i64 0,.bool true,.int .i64 0,.int .i64 0,.int .i64 Y,.int .i64 A] 55)) w') :=
      vat_all (C := (⟨w1.heap.size + 1,a,n,cap,.slice av nv cv,true,Y,A,(lexW zs).1⟩ : RC)) (lexW_kinds zs) (lexW_few zs) rfl (2 * (lexW zs).1.length + 1) _ 0 0 1 S4.out (Nat.le_refl _) (Nat.le_refl _) (Nat.zero_le _) (Nat.le_refl _)
    have g8' : Hid (Y ≠ 8) := hY8
    clear N3 R3 F3 B3 A3 A4 O1 g8 hY8
    generalize (w1.alloc (.cells #[.int .i64 Y,.int .i64 A] 29)).alloc (.cells #[.slice a n cap,.slice av nv cv,.int .i64 0,.int .i64 0,.bool true,.int .i64 0,.int .i64 0,.int .i64 Y,.int .i64 A] 55) = W4 at *
    go_upto_region 6 with (go_at_call 29; refine kV.mono ?_; rintro e w5 ⟨r,rfl,⟨nb,hb⟩,v5,q5⟩; rw [Nb.arr] at hb; subst hb; have V5 : Hid (VR (⟨w1.heap.size + 1,a,n,cap,.slice av nv cv,true,Y,A,(lexW zs).1⟩ : RC) 0 (skF (2 * (lexW zs).1.length + 1) 0 (lexW zs).1) w5) := v5; have Q5 : Hid (Kq (w1.heap.size + 1) W4.heap.size W4 w5) := q5; clear v5 q5)
    have A6 := alloc_below w5 (.cells nb.arr 26)
    have K46 : Hid (Kq (w1.heap.size + 1) W4.heap.size W4 (w5.alloc (.cells nb.arr 26))) := Q5.out.trans ((Kq.of A6).mono Q5.out.size)
    have V6 : Hid (VR (⟨w1.heap.size + 1,a,n,cap,.slice av nv cv,true,Y,A,(lexW zs).1⟩ : RC) 0 (skF (2 * (lexW zs).1.length + 1) 0 (lexW zs).1) (w5.alloc (.cells nb.arr 26))) := V5.out.move S4.out.2 K46.out A6 (Nat.lt_of_lt_of_le S4.out.lt Q5.out.size)
    have N6 : Hid (NBox (w5.alloc (.cells nb.arr 26)) w.heap.size zN) := nbox_kq N4.out K46.out N4.out.lt (by have := L1.out; omega)
    have R6 : Hid (Blk (w5.alloc (.cells nb.arr 26)) (w.heap.size + 1) #[.int .i64 0,.int .i64 0] 29) := (K46.out.block _ (Blk.lt R4.out) (by have := L1.out; omega)).trans R4.out
    have F6 : Hid (Blk (w5.alloc (.cells nb.arr 26)) w1.heap.size #[.int .i64 Y,.int .i64 A] 29) := (K46.out.block _ (Blk.lt F4.out) (by omega)).trans F4.out
    have X6 : Hid (NBox (w5.alloc (.cells nb.arr 26)) w5.heap.size nb) := nbox_new w5 nb
    have B6 : Hid (Below w.heap.size w (w5.alloc (.cells nb.arr 26))) := B4.out.trans ⟨K46.out.os,K46.out.tape,K46.out.output,K46.out.size,fun k hk => K46.out.block k (Nat.lt_of_lt_of_le hk B4.out.size) (by have := L1.out; omega)⟩
    have L5 : Hid (w1.heap.size + 1 < w5.heap.size) := Nat.lt_of_lt_of_le S4.out.lt Q5.out.size
    clear kV A6 K46 V5 Q5 N4 R4 F4 B4 S4
    rw [Nb.arr] at V6 N6 R6 F6 X6 B6
    generalize w5.alloc (.cells #[.int .i64 nb.kind,.int .u64 nb.num,.bool nb.neg,.string nb.dig,.int .i64 nb.exp,.string nb.txt,.slice nb.ab nb.lb nb.cb,.slice nb.ak nb.lk nb.ck,.slice nb.ai nb.li nb.ci] 26) = W6 at *
    have ne4 : ¬ w1.heap.size + 1 = w.heap.size := by have := L1.out; omega
    have ne5 : ¬ w.heap.size = w1.heap.size + 1 := by have := L1.out; omega
    cases hO : skF (2 * (lexW zs).1.length + 1) 0 (lexW zs).1 with
    | none =>
      rw [hO] at V6
      obtain ⟨p',n',y,hy,⟨z,hr⟩,hTT⟩ := V6.out
      have kO : Calls Tryz.prog 30 #[.pointer (some ⟨w1.heap.size + 1,0,none⟩)] W6 fun e w' => e = .returned (.bool (y == 0)) ∧ w' = W6 := wok_any hr
      have hy0 : (y == 0) = false := by simpa using hy
      rw [hy0] at kO
      have d5 : W6.cell? ⟨w1.heap.size + 1,5,none⟩ = some (.int .i64 y) := Blk.cell hr 5
      have d6 : W6.cell? ⟨w1.heap.size + 1,6,none⟩ = some (.int .i64 z) := Blk.cell hr 6
      have hiff : Hid (y = 0 ↔ OkZ zs) := ⟨fun e => absurd e hy,fun e => by have := e.1; rw [hO] at this; cases this⟩
      clear hr hTT hy hy0 V6 hO
      go_upto_region 11 with (go_at_call 30; refine kO.mono ?_; rintro e w4 ⟨rfl,hw4⟩; obtain rfl := hw4.symm)
      have x9 := two_put N6.out R6.out zN y z
      dsimp only [zN] at x9
      have F9 : Hid (Below w.heap.size w _) := B6.out.trans (x9.2.2.mono (Nat.le_refl _))
      have qf := N6.out.fz
      have qg := R6.out.fz
      obtain ⟨t0,t1,t2,t3,t4,t5,t6,t7,t8⟩ := N6.out.fields
      have r0 := R6.out.cell 0
      have r1 := R6.out.cell 1
      obtain ⟨u0,u1,u2,u3,u4,u5,u6,u7,u8⟩ := x9.1.fields
      have s0 := x9.2.1.cell 0
      have s1 := x9.2.1.cell 1
      simp at r0 r1 s0 s1
      clear x9
      go_region
      go_wp2_with fail
      refine bodyPost_ret (v := .tuple #[.agg zN.arr,.agg #[.int .i64 y,.int .i64 z]]) (by simp [results,Tryz.results19,go_sem,zN,Nb.arr] at *; simp [go_sem,u0,u1,u2,u3,u4,u5,u6,u7,u8,s0,s1]) rfl ⟨⟨zN,y,z,rfl,hiff.out⟩,bdr F9.out⟩
    | some M =>
      rw [hO] at V6
      obtain ⟨q1,n1,hq0,hql,hM,hnn,s1⟩ := V6.out
      have kO : Calls Tryz.prog 30 #[.pointer (some ⟨w1.heap.size + 1,0,none⟩)] W6 fun e w' => e = .returned (.bool true) ∧ w' = W6 := gok s1
      have kF : q1 < (lexW zs).1.length → Calls Tryz.prog 31 #[.pointer (some ⟨w1.heap.size + 1,0,none⟩),.int .i64 10] W6 fun e w' => e = .returned (.tuple #[]) ∧ Sg (⟨w1.heap.size + 1,a,n,cap,.slice av nv cv,true,Y,A,(lexW zs).1⟩ : RC) w' q1 n1 10 ∧ Kq (w1.heap.size + 1) W6.heap.size W6 w' := fun h => gfails 10 s1 h
      have s1' : Hid (Sg (⟨w1.heap.size + 1,a,n,cap,.slice av nv cv,true,Y,A,(lexW zs).1⟩ : RC) W6 q1 n1 0) := s1
      obtain ⟨⟨z,hr⟩,hTT⟩ := s1
      have d2 : W6.cell? ⟨w1.heap.size + 1,2,none⟩ = some (.int .i64 (q1 : Nat)) := Blk.cell hr 2
      have hnv' := hnv.out
      by_cases hq : q1 < (lexW zs).1.length
      · have kF' := kF hq
        have hlt : decide ((q1 : Int) < (nv : Int)) = true := by simp; omega
        have hltn : q1 < nv := by omega
        have hlti : (q1 : Int) < (nv : Int) := by omega
        have hiff : Hid ((10 : Int) = 0 ↔ OkZ zs) := ⟨fun e => absurd e (by decide),fun e => by
          have e1 := e.1
          rw [hO] at e1
          have e2 : M = [] := by simpa using e1
          rw [← hM] at e2
          have e3 := List.drop_eq_nil_iff.1 e2
          exact absurd hq (by show ¬ _; have : (lexW zs).1.length ≤ q1 := e3; omega)⟩
        clear hr hTT V6 hO kF hM hq hql hnv'
        go_upto_region 11 with (first | (go_at_call 30; refine kO.mono ?_; rintro e w4 ⟨rfl,hw4⟩; obtain rfl := hw4.symm) | (go_at_call 31; refine kF'.mono ?_; rintro e w7 ⟨rfl,s7,q7⟩; have kO7 : Calls Tryz.prog 30 #[.pointer (some ⟨w1.heap.size + 1,0,none⟩)] w7 fun e w' => e = .returned (.bool false) ∧ w' = w7 := gok s7; have S7 : Hid (Sg (⟨w1.heap.size + 1,a,n,cap,.slice av nv cv,true,Y,A,(lexW zs).1⟩ : RC) w7 q1 n1 10) := s7; have Q7 : Hid (Kq (w1.heap.size + 1) W6.heap.size W6 w7) := q7; clear s7 q7) | (go_at_call 30; refine kO7.mono ?_; rintro e w4 ⟨rfl,hw4⟩; obtain rfl := hw4.symm))
        obtain ⟨⟨z7,hr7⟩,hTT7⟩ := S7.out
        have d5 : w7.cell? ⟨w1.heap.size + 1,5,none⟩ = some (.int .i64 10) := Blk.cell hr7 5
        have d6 : w7.cell? ⟨w1.heap.size + 1,6,none⟩ = some (.int .i64 z7) := Blk.cell hr7 6
        have B7 : Hid (Below w.heap.size w w7) := B6.out.trans ⟨Q7.out.os,Q7.out.tape,Q7.out.output,Q7.out.size,fun k hk => Q7.out.block k (Nat.lt_of_lt_of_le hk B6.out.size) (by have := L1.out; omega)⟩
        have N7 : Hid (NBox w7 w.heap.size zN) := nbox_kq N6.out Q7.out N6.out.lt (by have := L1.out; omega)
        have R7 : Hid (Blk w7 (w.heap.size + 1) #[.int .i64 0,.int .i64 0] 29) := (Q7.out.block _ (Blk.lt R6.out) (by have := L1.out; omega)).trans R6.out
        clear hr7 hTT7 kO kO7 kF' d2 N6 R6 B6 F6 X6 s1' S7 Q7
        have N6 := N7
        have R6 := R7
        have B6 := B7
        clear N7 R7 B7
        have x9 := two_put N6.out R6.out zN 10 z7
        dsimp only [zN] at x9
        have F9 : Hid (Below w.heap.size w _) := B6.out.trans (x9.2.2.mono (Nat.le_refl _))
        have qf := N6.out.fz
        have qg := R6.out.fz
        obtain ⟨t0,t1,t2,t3,t4,t5,t6,t7,t8⟩ := N6.out.fields
        have r0 := R6.out.cell 0
        have r1 := R6.out.cell 1
        obtain ⟨u0,u1,u2,u3,u4,u5,u6,u7,u8⟩ := x9.1.fields
        have s0 := x9.2.1.cell 0
        have s1 := x9.2.1.cell 1
        simp at r0 r1 s0 s1
        clear x9
        go_region
        go_wp2_with fail
        refine bodyPost_ret (v := .tuple #[.agg zN.arr,.agg #[.int .i64 10,.int .i64 z7]]) (by simp [results,Tryz.results19,go_sem,zN,Nb.arr] at *; simp [go_sem,u0,u1,u2,u3,u4,u5,u6,u7,u8,s0,s1]) rfl ⟨⟨zN,10,z7,rfl,hiff.out⟩,bdr F9.out⟩
      · have hlt : decide ((q1 : Int) < (nv : Int)) = false := by simp; omega
        have hltn : ¬ q1 < nv := by omega
        have hlti : ¬ (q1 : Int) < (nv : Int) := by omega
        have hM0 : M = [] := by rw [← hM]; exact List.drop_eq_nil_of_le (by show (lexW zs).1.length ≤ q1; omega)
        have hO' : Hid (skF (2 * (lexW zs).1.length + 1) 0 (lexW zs).1 = some []) := by show _ = _; rw [hO,hM0]
        have hr7 : Hid (Rb ((W6.setCell ⟨w1.heap.size + 1,5,none⟩ (.int .i64 Y)).setCell ⟨w1.heap.size + 1,6,none⟩ (.int .i64 A)) (w1.heap.size + 1) (.slice a n cap) (.slice av nv cv) q1 n1 true Y A Y A) := hr.s56 Y A
        have q7 : Hid (Kq (w1.heap.size + 1) W6.heap.size W6 ((W6.setCell ⟨w1.heap.size + 1,5,none⟩ (.int .i64 Y)).setCell ⟨w1.heap.size + 1,6,none⟩ (.int .i64 A))) := kq56 _ _ _ _
        have B7 : Hid (Below w.heap.size w ((W6.setCell ⟨w1.heap.size + 1,5,none⟩ (.int .i64 Y)).setCell ⟨w1.heap.size + 1,6,none⟩ (.int .i64 A))) := B6.out.trans ⟨q7.out.os,q7.out.tape,q7.out.output,q7.out.size,fun k hk => q7.out.block k (Nat.lt_of_lt_of_le hk B6.out.size) (by have := L1.out; omega)⟩
        have N7 : Hid (NBox ((W6.setCell ⟨w1.heap.size + 1,5,none⟩ (.int .i64 Y)).setCell ⟨w1.heap.size + 1,6,none⟩ (.int .i64 A)) w.heap.size zN) := nbox_kq N6.out q7.out N6.out.lt (by have := L1.out; omega)
        have X7 : Hid (NBox ((W6.setCell ⟨w1.heap.size + 1,5,none⟩ (.int .i64 Y)).setCell ⟨w1.heap.size + 1,6,none⟩ (.int .i64 A)) w5.heap.size nb) := nbox_kq X6.out q7.out X6.out.lt (by have := L5.out; omega)
        have R7 : Hid (Blk ((W6.setCell ⟨w1.heap.size + 1,5,none⟩ (.int .i64 Y)).setCell ⟨w1.heap.size + 1,6,none⟩ (.int .i64 A)) (w.heap.size + 1) #[.int .i64 0,.int .i64 0] 29) := (q7.out.block _ (Blk.lt R6.out) (by have := L1.out; omega)).trans R6.out
        have f0 : W6.cell? ⟨w1.heap.size,0,none⟩ = some (.int .i64 Y) := F6.out.cell 0
        have f1 : W6.cell? ⟨w1.heap.size,1,none⟩ = some (.int .i64 A) := F6.out.cell 1
        have d5 : W6.cell? ⟨w1.heap.size + 1,5,none⟩ = some (.int .i64 0) := Blk.cell hr 5
        have d6 : W6.cell? ⟨w1.heap.size + 1,6,none⟩ = some (.int .i64 z) := Blk.cell hr 6
        have e5 := Blk.fz hr 5
        have e6 := Blk.fz hr 6
        clear hr hTT V6 hO kF hM hM0 hq hql hnv' N6 R6 B6 F6 X6 s1' q7
        go_upto_region 10 with (go_at_call 30; refine kO.mono ?_; rintro e w4 ⟨rfl,hw4⟩; obtain rfl := hw4.symm)
        generalize (W6.setCell ⟨w1.heap.size + 1,5,none⟩ (.int .i64 Y)).setCell ⟨w1.heap.size + 1,6,none⟩ (.int .i64 A) = W7 at *
        have kO7 : Calls Tryz.prog 30 #[.pointer (some ⟨w1.heap.size + 1,0,none⟩)] W7 fun e w' => e = .returned (.bool (Y == 0)) ∧ w' = W7 := wok_any hr7.out
        have h5 : W7.cell? ⟨w1.heap.size + 1,5,none⟩ = some (.int .i64 Y) := Blk.cell hr7.out 5
        have h6 : W7.cell? ⟨w1.heap.size + 1,6,none⟩ = some (.int .i64 A) := Blk.cell hr7.out 6
        clear kO d2 d5 d6 e5 e6 f0 f1 hr7
        have N6 := N7
        have R6 := R7
        have B6 := B7
        clear N7 R7 B7
        by_cases hY : Y = 0
        · subst hY
          have hok : Hid (OkZ zs) := ⟨hO'.out,Y1.out.1 rfl⟩
          obtain ⟨v0,v1,v2,v3,v4,v5,v6,v7,v8⟩ := X7.out.fields
          clear X7
          go_upto_region 12 with (go_at_call 30; refine kO7.mono ?_; rintro e w4 ⟨rfl,hw4⟩; obtain rfl := hw4.symm)
          have x9 := two_put N6.out R6.out nb 0 0
          have F9 : Hid (Below w.heap.size w _) := B6.out.trans (x9.2.2.mono (Nat.le_refl _))
          have qf := N6.out.fz
          have qg := R6.out.fz
          obtain ⟨t0,t1,t2,t3,t4,t5,t6,t7,t8⟩ := N6.out.fields
          have r0 := R6.out.cell 0
          have r1 := R6.out.cell 1
          obtain ⟨u0,u1,u2,u3,u4,u5,u6,u7,u8⟩ := x9.1.fields
          have s0 := x9.2.1.cell 0
          have s1 := x9.2.1.cell 1
          simp at r0 r1 s0 s1
          clear x9
          go_wp2_with fail
          refine bodyPost_ret (v := .tuple #[.agg nb.arr,.agg #[.int .i64 0,.int .i64 0]]) (by simp [results,Tryz.results19,go_sem,Nb.arr] at *; simp [go_sem,u0,u1,u2,u3,u4,u5,u6,u7,u8,s0,s1]) rfl ⟨⟨nb,0,0,rfl,⟨fun _ => hok.out,fun _ => rfl⟩⟩,F9.out⟩
        · have hY0 : (Y == 0) = false := by simpa using hY
          rw [hY0] at kO7
          have hiff : Hid (Y = 0 ↔ OkZ zs) := ⟨fun e => absurd e hY,fun e => Y1.out.2 e.2⟩
          clear hY hY0 X7
          go_upto_region 11 with (go_at_call 30; refine kO7.mono ?_; rintro e w4 ⟨rfl,hw4⟩; obtain rfl := hw4.symm)
          have x9 := two_put N6.out R6.out zN Y A
          dsimp only [zN] at x9
          have F9 : Hid (Below w.heap.size w _) := B6.out.trans (x9.2.2.mono (Nat.le_refl _))
          have qf := N6.out.fz
          have qg := R6.out.fz
          obtain ⟨t0,t1,t2,t3,t4,t5,t6,t7,t8⟩ := N6.out.fields
          have r0 := R6.out.cell 0
          have r1 := R6.out.cell 1
          obtain ⟨u0,u1,u2,u3,u4,u5,u6,u7,u8⟩ := x9.1.fields
          have s0 := x9.2.1.cell 0
          have s1 := x9.2.1.cell 1
          simp at r0 r1 s0 s1
          clear x9
          go_region
          go_wp2_with fail
          refine bodyPost_ret (v := .tuple #[.agg zN.arr,.agg #[.int .i64 Y,.int .i64 A]]) (by simp [results,Tryz.results19,go_sem,zN,Nb.arr] at *; simp [go_sem,u0,u1,u2,u3,u4,u5,u6,u7,u8,s0,s1]) rfl ⟨⟨zN,Y,A,rfl,hiff.out⟩,bdr F9.out⟩
theorem ok_is (zs : List Int) : OkZ zs ↔ (readA (newS true) zs).2.1 = 0 := by
  constructor
  · rintro ⟨h1,h2⟩
    have e : toO (rdW true (lexW zs).1) = some [] := by unfold rdW; rw [sk_rd _ 0 (by omega)]; exact h1
    cases hr : rdW true (lexW zs).1 with
    | inl x => rw [hr] at e; cases e
    | inr x =>
      obtain ⟨t,n,M⟩ := x
      rw [hr] at e
      have eM : M = [] := by simpa [toO] using e
      subst eM
      rw [read_ok hr h2]
  · intro h
    obtain ⟨t,n,h1,h2,_⟩ := read_back h
    refine ⟨?_,h2⟩
    have e : toO (rdW true (lexW zs).1) = some [] := by rw [h1]; rfl
    unfold rdW at e
    rw [sk_rd _ 0 (by omega)] at e
    exact e
set_option maxHeartbeats 2000000 in
set_option maxRecDepth 100000 in
theorem wvalid_any (a : Option Addr) (n cap : Nat) (zs : List Int) (w : World) (hl : zs.length = n) (hb : Bytes w a zs) (hc : n ≤ cap) (hm : cap ≤ 140737488351232) :
    Calls Tryz.prog 14 #[.slice a n cap] w fun e w' => e = .returned (.bool (decide ((readA (newS true) zs).2.1 = 0))) ∧ Below w.heap.size w w' := by
  have kW := wwhole_free a n cap zs w hl hb hc hm
  have hE := ok_is zs
  generalize (readA (newS true) zs).2.1 = V at *
  clear hl hb hc hm
  go_enter Tryz.func14,Tryz.ntmps14
  go_wp2_with (go_at_call 19; refine kW.mono ?_; rintro e w1 ⟨⟨b,y,z,he,hy⟩,b1⟩; rw [Nb.arr] at he; subst he; have A1 := alloc_below w1 (.cells #[.int .i64 y,.int .i64 z] 29); have B1 : Hid (Below w.heap.size w (w1.alloc (.cells #[.int .i64 y,.int .i64 z] 29))) := b1.trans (A1.mono b1.size); have B0 : Hid (Below w.heap.size w w1) := b1; have HE : Hid (y = 0 ↔ V = 0) := hy.trans hE; clear hy hE b1 A1 kW)
  go_ret
  refine ⟨?_,?_⟩
  · congr 2
    by_cases h : V = 0
    · rw [decide_eq_true h,HE.out.2 h]; rfl
    · rw [decide_eq_false h]; simp; exact fun e => h (HE.out.1 e)
  · exact (B0.out.trans ((alloc_below _ _).mono B0.out.size)).trans ((alloc_below _ _).mono (Nat.le_trans B0.out.size (alloc_below _ _).size))
end Go.Proofs.YtmlacmoembjeoaaGreatDoor
namespace Go.Proofs.YtmlacmoembjeoaaGreatDoor
open Go.RowKit
set_option linter.unusedVariables false
set_option maxHeartbeats 1000000 in
set_option maxRecDepth 100000 in
theorem wvalid (a : Option Addr) (n cap : Nat) (zs : List Int) (w : World) (hl : zs.length = n) (hb : Bytes w a zs) (hc : n ≤ cap) (hm : cap ≤ 140737488351232) :
    Calls Tryz.prog 4 #[.slice a n cap] w fun e w' => e = .returned (.bool true) ∧ Below w.heap.size w w' := by
  have k1 := rvalid_any a n cap zs w hl hb hc (Nat.le_trans hc hm)
  have kV : Hid (∀ w',Below w.heap.size w w' → Calls Tryz.prog 14 #[.slice a n cap] w' fun e w'' => e = .returned (.bool (decide ((readA (newS true) zs).2.1 = 0))) ∧ Below w'.heap.size w' w'') := fun w' h => wvalid_any a n cap zs w' hl (hb.kept h) hc hm
  generalize decide ((readA (newS true) zs).2.1 = 0) = V at *
  clear hl hb hc hm
  go_enter Tryz.func4,Tryz.ntmps4
  go_wp2_with (first
    | (go_at_call 13; refine k1.mono ?_; rintro e w1 ⟨rfl,hB1⟩; clear k1; have B1 : Hid (Below w.heap.size w w1) := hB1; have k2 := kV.out w1 hB1; clear hB1 kV)
    | (go_at_call 14; refine k2.mono ?_; rintro e w2 ⟨rfl,hB2⟩; clear k2; have B2 : Hid (Below w.heap.size w w2) := B1.out.trans (hB2.mono B1.out.size); have kA := alive_any w2; clear hB2)
    | (go_at_call 12; refine kA.mono ?_; rintro e w4 ⟨rfl,hB4⟩))
  go_ret
  exact ⟨rfl,B2.out.trans (hB4.mono B2.out.size)⟩
end Go.Proofs.YtmlacmoembjeoaaGreatDoor
