/-
  Parts of the proof.
-/
import Derived.Test.YtmlacmoembjeoaaGreatDoorV45
namespace Go.Proofs.YtmlacmoembjeoaaGreatDoor
open Go.RowKit
set_option linter.unusedVariables false
def MR (C : RC) (w wx : World) (m : Nat) : Prop := ∃ (nb : Nb) (ks is : List Nb),NBox wx (w.heap.size + 1) nb ∧ NBox wx w.heap.size zN ∧ OwnsN 26 wx (w.heap.size + 2) (.slice nb.ak nb.lk nb.ck) ks ∧ OwnsN 26 wx (w.heap.size + 2) (.slice nb.ai nb.li nb.ci) is ∧ ks.length ≤ m ∧ is.length ≤ m ∧ (∀ k,(Value.slice nb.ak nb.lk nb.ck).ownBlock = some k → (Value.slice nb.ai nb.li nb.ci).ownBlock ≠ some k) ∧ Kq C.g w.heap.size w wx
theorem MR.kq {C : RC} {w wx wy : World} {m : Nat} (h : MR C w wx m) (hq : Kq C.g wx.heap.size wx wy) (hg : C.g < w.heap.size) : MR C w wy m := by
  obtain ⟨nb,ks,is,a,b,c,d,e,f,g,i⟩ := h
  exact ⟨nb,ks,is,nbox_kq a hq a.lt (by omega),nbox_kq b hq b.lt (by omega),owns_kq c hq (by omega),owns_kq d hq (by omega),e,f,g,i.trans (hq.mono i.size)⟩
theorem row_stays {w5 w6 : World} {base : Nat} {o : Obj} {v u : Value} {l : List Nb} (hO : OwnsN 26 w5 base u l) (hg : (w5.alloc o).grownBy w6 v.ownBlock) (hd : ∀ k,v.ownBlock = some k → u.ownBlock ≠ some k) : OwnsN 26 w6 base u l := by
  have A := alloc_below w5 o
  have h1 : OwnsN 26 (w5.alloc o) base u l := World.ownsRow.kept (row := none) hO ⟨A.os,A.tape,A.output,A.size,fun k hk _ => A.block k hk⟩ (by cases hv : u.ownBlock <;> simp)
  refine World.ownsRow.kept (row := v.ownBlock) h1 hg ?_
  cases hv : v.ownBlock with
  | none => cases hu : u.ownBlock <;> simp
  | some k => exact .inr (fun e => hd k hv e)
theorem key_put {C : RC} {w w5 w6 : World} {nb b' : Nb} {ks is : List Nb} {m : Nat} {v' : Value} (hN : NBox w5 (w.heap.size + 1) nb) (hR : NBox w5 w.heap.size zN) (hO : OwnsN 26 w5 (w.heap.size + 2) (.slice nb.ak nb.lk nb.ck) ks) (hP : OwnsN 26 w5 (w.heap.size + 2) (.slice nb.ai nb.li nb.ci) is) (hk : ks.length ≤ m) (hi : is.length ≤ m) (hD : ∀ k,(Value.slice nb.ak nb.lk nb.ck).ownBlock = some k → (Value.slice nb.ai nb.li nb.ci).ownBlock ≠ some k) (hK : Kq C.g w.heap.size w w5)
    (ho : OwnsN 26 w6 (w.heap.size + 2) v' (ks ++ [b'])) (hg : (w5.alloc (.cells b'.arr 26)).grownBy w6 (Value.slice nb.ak nb.lk nb.ck).ownBlock) (hn : ∀ k,v'.ownBlock = some k → (Value.slice nb.ak nb.lk nb.ck).ownBlock = some k ∨ (w5.alloc (.cells b'.arr 26)).heap.size ≤ k) :
    ∃ a' c',v' = .slice a' (ks.length + 1) c' ∧ w6.cell? ⟨w.heap.size + 1,7,none⟩ = some (.slice nb.ak nb.lk nb.ck) ∧ w6.frozen? ⟨w.heap.size + 1,7,none⟩ = false ∧
    MR C w (w6.setCell ⟨w.heap.size + 1,7,none⟩ (.slice a' (ks.length + 1) c')) (m + 1) ∧ Below w.heap.size w5 (w6.setCell ⟨w.heap.size + 1,7,none⟩ (.slice a' (ks.length + 1) c')) := by
  have A := alloc_below w5 (.cells b'.arr 26)
  have hs5 := hK.size
  have old : ∀ k,k < w5.heap.size → k < w.heap.size + 2 → w6.heap[k]? = w5.heap[k]? := fun k hk h2 => by
    rw [hg.block k (Nat.lt_of_lt_of_le hk A.size) (fun e => by have := (World.ownsRow.lt hO k e.symm).1; omega),A.block k hk]
  have P6 := row_stays hP hg hD
  obtain ⟨a',c',rfl,_⟩ := ho.shape
  rw [List.length_append,List.length_singleton] at *
  have N6 : NBox w6 (w.heap.size + 1) nb := (old _ hN.lt (by omega)).trans hN
  have R6 : NBox w6 w.heap.size zN := (old _ hR.lt (by omega)).trans hR
  have b6 : Below w.heap.size w5 w6 := ⟨hg.os.trans A.os,hg.tape.trans A.tape,hg.output.trans A.output,Nat.le_trans A.size hg.size,fun k hk => old k (by omega) (by omega)⟩
  have bx : Below w.heap.size w5 (w6.setCell ⟨w.heap.size + 1,7,none⟩ (.slice a' (ks.length + 1) c')) := b6.setCell (p := ⟨w.heap.size + 1,7,none⟩) (Nat.le_succ _) _
  have kx : Kq C.g w.heap.size w (w6.setCell ⟨w.heap.size + 1,7,none⟩ (.slice a' (ks.length + 1) c')) := hK.trans (Kq.of bx)
  refine ⟨a',c',rfl,N6.cell 7,N6.fz 7,⟨⟨nb.kind,nb.num,nb.neg,nb.dig,nb.exp,nb.txt,nb.ab,nb.lb,nb.cb,a',ks.length + 1,c',nb.ai,nb.li,nb.ci⟩,ks ++ [b'],is,nbox_set N6 7 _ rfl,?_,ownsRow_setCell_below ho (show w.heap.size + 1 < w.heap.size + 2 by omega) _,ownsRow_setCell_below P6 (show w.heap.size + 1 < w.heap.size + 2 by omega) _,by simp; omega,by omega,fun k e => ?_,kx⟩,bx⟩
  · exact (setk (Nat.ne_of_lt (Nat.lt_succ_self _)) _).trans R6
  · rcases hn k e with h | h
    · exact hD k h
    · intro e2
      have := (World.ownsRow.lt hP k e2).2
      have := A.size
      omega
theorem kid_put {C : RC} {w w5 w6 : World} {nb b' : Nb} {ks is : List Nb} {m q : Nat} {o : Option (List Tk)} {v' : Value} (hN : NBox w5 (w.heap.size + 1) nb) (hR : NBox w5 w.heap.size zN) (hP : OwnsN 26 w5 (w.heap.size + 2) (.slice nb.ak nb.lk nb.ck) ks) (hO : OwnsN 26 w5 (w.heap.size + 2) (.slice nb.ai nb.li nb.ci) is) (hk : ks.length ≤ m + 1) (hi : is.length ≤ m) (hD : ∀ k,(Value.slice nb.ak nb.lk nb.ck).ownBlock = some k → (Value.slice nb.ai nb.li nb.ci).ownBlock ≠ some k) (hK : Kq C.g w.heap.size w w5) (hV : VR C q o w5) (hT : Tg w C.g C.lv C.L) (hg0 : C.g < w.heap.size)
    (ho : OwnsN 26 w6 (w.heap.size + 2) v' (is ++ [b'])) (hg : (w5.alloc (.cells b'.arr 26)).grownBy w6 (Value.slice nb.ai nb.li nb.ci).ownBlock) (hn : ∀ k,v'.ownBlock = some k → (Value.slice nb.ai nb.li nb.ci).ownBlock = some k ∨ (w5.alloc (.cells b'.arr 26)).heap.size ≤ k) :
    ∃ a' c',v' = .slice a' (is.length + 1) c' ∧ w6.cell? ⟨w.heap.size + 1,8,none⟩ = some (.slice nb.ai nb.li nb.ci) ∧ w6.frozen? ⟨w.heap.size + 1,8,none⟩ = false ∧
    (MR C w (w6.setCell ⟨w.heap.size + 1,8,none⟩ (.slice a' (is.length + 1) c')) (m + 1) ∧ VR C q o (w6.setCell ⟨w.heap.size + 1,8,none⟩ (.slice a' (is.length + 1) c'))) := by
  have A := alloc_below w5 (.cells b'.arr 26)
  have hs5 := hK.size
  have old : ∀ k,k < w5.heap.size → k < w.heap.size + 2 → w6.heap[k]? = w5.heap[k]? := fun k hk h2 => by
    rw [hg.block k (Nat.lt_of_lt_of_le hk A.size) (fun e => by have := (World.ownsRow.lt hO k e.symm).1; omega),A.block k hk]
  have P6 := row_stays hP hg (fun k e e2 => hD k e2 e)
  obtain ⟨a',c',rfl,_⟩ := ho.shape
  rw [List.length_append,List.length_singleton] at *
  have N6 : NBox w6 (w.heap.size + 1) nb := (old _ hN.lt (by omega)).trans hN
  have R6 : NBox w6 w.heap.size zN := (old _ hR.lt (by omega)).trans hR
  have b6 : Below w.heap.size w5 w6 := ⟨hg.os.trans A.os,hg.tape.trans A.tape,hg.output.trans A.output,Nat.le_trans A.size hg.size,fun k hk => old k (by omega) (by omega)⟩
  have bx : Below w.heap.size w5 (w6.setCell ⟨w.heap.size + 1,8,none⟩ (.slice a' (is.length + 1) c')) := b6.setCell (p := ⟨w.heap.size + 1,8,none⟩) (Nat.le_succ _) _
  have kx : Kq C.g w.heap.size w (w6.setCell ⟨w.heap.size + 1,8,none⟩ (.slice a' (is.length + 1) c')) := hK.trans (Kq.of bx)
  refine ⟨a',c',rfl,N6.cell 8,N6.fz 8,⟨⟨nb.kind,nb.num,nb.neg,nb.dig,nb.exp,nb.txt,nb.ab,nb.lb,nb.cb,nb.ak,nb.lk,nb.ck,a',is.length + 1,c'⟩,ks,is ++ [b'],nbox_set N6 8 _ rfl,?_,ownsRow_setCell_below P6 (show w.heap.size + 1 < w.heap.size + 2 by omega) _,ownsRow_setCell_below ho (show w.heap.size + 1 < w.heap.size + 2 by omega) _,by omega,by simp; omega,fun k e e2 => ?_,kx⟩,hV.move hT kx bx hg0⟩
  · exact (setk (Nat.ne_of_lt (Nat.lt_succ_self _)) _).trans R6
  · rcases hn k e2 with h | h
    · exact hD k e h
    · have := (World.ownsRow.lt hP k e).2
      have := A.size
      omega
theorem wpl_append_node {w : World} {ops : Array Oper} {rest : List Oper} {o : Oper} {a : Act} {Q : Exit → Act → World → Prop} (hgd : o.guard = none) (s x : Operand)
    (ho : o.op = .call { callee := .builtin .append,args := #[s,x],argTypes := #[24,24] })
    (base : Nat) (v : Value) (ys zs : List Nb) (hs : a.eval s = v) (hown : OwnsN 26 w base v ys)
    (ad : Addr) (m c : Nat) (hx : a.eval x = .slice (some ad) m c) (hm : zs.length = m) (hm0 : 0 < m) (hb : Nine w (some ad) zs)
    (hbytes : ys.length + zs.length ≤ 1000000000) (hbase : base ≤ w.heap.size)
    (h : ∀ v' w',OwnsN 26 w' base v' (ys ++ zs) → w.grownBy w' v.ownBlock → (∀ g,v'.ownBlock = some g → v.ownBlock = some g ∨ w.heap.size ≤ g) → wpList Tryz.prog ops Q rest (a.put o.dst v') w') : wpList Tryz.prog ops Q (o :: rest) a w := by
  have hw : Region.wanted o (yielded ops a.tmps) = true := by simp [Region.wanted,hgd]
  have t := step_append_node (ops := ops) (K := wpList Tryz.prog ops Q rest) (Q := Q) (E := True) hgd s x ho base v ys zs hs hown ad m c hx hm hm0 hb hbytes hbase h
  rw [if_pos hw] at t
  show (if _ then _ else _)
  rw [if_pos hw]
  exact .inl t
theorem key_new {C : RC} {w w6 : World} {q n m : Nat} (hS : Sg C w6 q n 0) (hM : MR C w w6 m) (hg : C.g < w.heap.size) (b : Nb) : Sg C (w6.alloc (.cells b.arr 26)).drew q n 0 ∧ MR C w (w6.alloc (.cells b.arr 26)).drew m ∧ NBox (w6.alloc (.cells b.arr 26)).drew w6.heap.size b ∧ w.heap.size + 2 ≤ w6.heap.size := by
  have A := alloc_below w6 (.cells b.arr 26)
  have h1 : MR C w (w6.alloc (.cells b.arr 26)) m := hM.kq (Kq.of A) hg
  have h3 : w.heap.size + 2 ≤ w6.heap.size := by obtain ⟨nb,ks,is,a,_⟩ := hM; exact a.lt
  exact ⟨hS.below ⟨A.os,A.tape,A.output,A.size,A.block⟩,h1.kq ⟨rfl,rfl,rfl,Nat.le_refl _,fun _ _ _ => rfl⟩ hg,nbox_new w6 b,h3⟩
def fin2 (k : Nat) (O : Option (List Tk)) : Option (List Tk) := match O with
  | none => none
  | some [] => none
  | some (c :: M) => if c.kind = 6 then skF k 2 M else if c.kind = 2 then some M else none
theorem fin2_cons (k : Nat) (c : Tk) (M : List Tk) : fin2 k (some (c :: M)) = if c.kind = 6 then skF k 2 M else if c.kind = 2 then some M else none := rfl
def mp1 (k : Nat) (M : List Tk) : Option (List Tk) := match M with
  | [] => none
  | c :: M => if c.kind ≠ 5 then none
    else match skF k 0 M with
      | none => none
      | some [] => none
      | some (c :: M) => if c.kind = 6 then skF k 2 M else if c.kind = 2 then some M else none
theorem mp1_cons (k : Nat) (c : Tk) (M : List Tk) : mp1 k (c :: M) = if c.kind ≠ 5 then none else fin2 k (skF k 0 M) := by
  unfold mp1 fin2
  rfl
theorem value_bad {C : RC} {w : World} {p n : Nat} {y : Int} (d : Int) (h : Sg C w p n y) (hy : y ≠ 0) : Calls Tryz.prog 29 #[.pointer (some ⟨C.g,0,none⟩),.int .i64 d] w fun e w' => ∃ r,e = .returned r ∧ ((∃ b : Nb,r = .agg b.arr) ∧ Sb C w' ∧ Kq C.g w.heap.size w w') := by
  have A1 := alloc_below w (.cells #[.int .i64 0,.int .u64 0,.bool false,.string ⟨#[]⟩,.int .i64 0,.string ⟨#[]⟩,.slice none 0 0,.slice none 0 0,.slice none 0 0] 26)
  have S1 : Hid (Sg C (w.alloc (.cells #[.int .i64 0,.int .u64 0,.bool false,.string ⟨#[]⟩,.int .i64 0,.string ⟨#[]⟩,.slice none 0 0,.slice none 0 0,.slice none 0 0] 26)) p n y) := h.below A1
  have LG : Hid (C.g < w.heap.size) := h.lt
  have TG : Hid (Tg w C.g C.lv C.L) := h.2
  have NR5 : Hid (NBox (w.alloc (.cells #[.int .i64 0,.int .u64 0,.bool false,.string ⟨#[]⟩,.int .i64 0,.string ⟨#[]⟩,.slice none 0 0,.slice none 0 0,.slice none 0 0] 26)) w.heap.size zN) := nbox_new w zN
  have K5 : Hid (Kq C.g w.heap.size w (w.alloc (.cells #[.int .i64 0,.int .u64 0,.bool false,.string ⟨#[]⟩,.int .i64 0,.string ⟨#[]⟩,.slice none 0 0,.slice none 0 0,.slice none 0 0] 26))) := Kq.of A1
  have kK := gkind_bad S1.out hy
  have V5 : Hid (VR C p none (w.alloc (.cells #[.int .i64 0,.int .u64 0,.bool false,.string ⟨#[]⟩,.int .i64 0,.string ⟨#[]⟩,.slice none 0 0,.slice none 0 0,.slice none 0 0] 26))) := ⟨p,n,y,hy,S1.out⟩
  clear A1 h S1 hy
  go_enter Tryz.func29,Tryz.ntmps29
  go_upto_region 3 with (go_at_call 46; refine kK.mono ?_; rintro e w5 ⟨rfl,rfl⟩)
  generalize w.alloc (.cells #[.int .i64 0,.int .u64 0,.bool false,.string ⟨#[]⟩,.int .i64 0,.string ⟨#[]⟩,.slice none 0 0,.slice none 0 0,.slice none 0 0] 26) = W5 at *
  have x9 := nbox_put NR5.out zN
  dsimp only [zN] at x9
  have F9 : Hid (VR C p none _ ∧ Kq C.g w.heap.size w _) := vr_fin V5.out TG.out K5.out x9.2 (Nat.le_refl _) LG.out
  have qf := NR5.out.fz
  obtain ⟨t0,t1,t2,t3,t4,t5,t6,t7,t8⟩ := NR5.out.fields
  obtain ⟨u0,u1,u2,u3,u4,u5,u6,u7,u8⟩ := x9.1.fields
  go_wp2_with fail
  refine bodyPost_ret (v := .agg zN.arr) (by simp [results,Tryz.results29,go_sem,zN,Nb.arr] at *; simp [go_sem,u0,u1,u2,u3,u4,u5,u6,u7,u8]) rfl ⟨_,rfl,⟨zN,rfl⟩,F9.out⟩
def MI (C : RC) (w : World) (k p d : Nat) (wr : World) : Prop := ∃ m,MR C w wr m ∧ m ≤ 1000000 ∧
  ((Sb C wr ∧ mpO k (C.L.drop (p + 1)) = none) ∨ ∃ q n j,Sg C wr q n 0 ∧ p < q ∧ q ≤ C.L.length ∧ n ≤ q ∧ d + 1 ≤ q + 1 ∧ j ≤ k ∧ 2 * (C.L.length - q) + 2 ≤ j ∧ m ≤ q ∧ skF j 2 (C.L.drop q) = mpO k (C.L.drop (p + 1)))
set_option maxHeartbeats 4000000 in
set_option maxRecDepth 100000 in
theorem memb_step {C : RC} (hL : ∀ t ∈ C.L,1 ≤ t.kind ∧ t.kind ≤ 11) (hN : C.L.length ≤ 4096) (hfr : C.free = true) {k : Nat} (ih : ∀ j,j ≤ k → VAt C j) : MAt C k := by
  intro w p n d h hn hd hp hk
  have A1 := alloc_below w (.cells #[.int .i64 0,.int .u64 0,.bool false,.string ⟨#[]⟩,.int .i64 0,.string ⟨#[]⟩,.slice none 0 0,.slice none 0 0,.slice none 0 0] 26)
  have A2 := alloc_below (w.alloc (.cells #[.int .i64 0,.int .u64 0,.bool false,.string ⟨#[]⟩,.int .i64 0,.string ⟨#[]⟩,.slice none 0 0,.slice none 0 0,.slice none 0 0] 26)) (.cells #[.int .i64 8,.int .u64 0,.bool false,.string ⟨#[]⟩,.int .i64 0,.string ⟨#[]⟩,.slice none 0 0,.slice none 0 0,.slice none 0 0] 26)
  have B2 := A1.trans (A2.mono A1.size)
  have S2 := h.below B2
  have FR : Hid (C.free = true) := hfr
  clear hfr
  have LG : Hid (C.g < w.heap.size) := h.lt
  have TG : Hid (Tg w C.g C.lv C.L) := h.2
  have NR : Hid (NBox ((w.alloc (.cells #[.int .i64 0,.int .u64 0,.bool false,.string ⟨#[]⟩,.int .i64 0,.string ⟨#[]⟩,.slice none 0 0,.slice none 0 0,.slice none 0 0] 26)).alloc (.cells #[.int .i64 8,.int .u64 0,.bool false,.string ⟨#[]⟩,.int .i64 0,.string ⟨#[]⟩,.slice none 0 0,.slice none 0 0,.slice none 0 0] 26)) w.heap.size zN) := (nbox_new w zN).kept A2 (alloc_lt _ _)
  have NN : Hid (NBox ((w.alloc (.cells #[.int .i64 0,.int .u64 0,.bool false,.string ⟨#[]⟩,.int .i64 0,.string ⟨#[]⟩,.slice none 0 0,.slice none 0 0,.slice none 0 0] 26)).alloc (.cells #[.int .i64 8,.int .u64 0,.bool false,.string ⟨#[]⟩,.int .i64 0,.string ⟨#[]⟩,.slice none 0 0,.slice none 0 0,.slice none 0 0] 26)) (w.heap.size + 1) (leafN (kindT 8 0))) := two_box w _ (leafN (kindT 8 0))
  have kO := gok S2
  have wi : IntKind.i64.wrap ((p : Int) + 1) = (p : Int) + 1 := by rw [IntKind.wrap_i64]; omega
  have wj : IntKind.i64.wrap ((p : Int) + 1 + 1) = (p : Int) + 1 + 1 := by rw [IntKind.wrap_i64]; omega
  have wd : IntKind.i64.wrap ((d : Int) + 1) = (d : Int) + 1 := by rw [IntKind.wrap_i64]; omega
  have BW : Hid (Below w.heap.size w ((w.alloc (.cells #[.int .i64 0,.int .u64 0,.bool false,.string ⟨#[]⟩,.int .i64 0,.string ⟨#[]⟩,.slice none 0 0,.slice none 0 0,.slice none 0 0] 26)).alloc (.cells #[.int .i64 8,.int .u64 0,.bool false,.string ⟨#[]⟩,.int .i64 0,.string ⟨#[]⟩,.slice none 0 0,.slice none 0 0,.slice none 0 0] 26))) := B2
  have S2' : Hid (Sg C ((w.alloc (.cells #[.int .i64 0,.int .u64 0,.bool false,.string ⟨#[]⟩,.int .i64 0,.string ⟨#[]⟩,.slice none 0 0,.slice none 0 0,.slice none 0 0] 26)).alloc (.cells #[.int .i64 8,.int .u64 0,.bool false,.string ⟨#[]⟩,.int .i64 0,.string ⟨#[]⟩,.slice none 0 0,.slice none 0 0,.slice none 0 0] 26)) p n 0) := S2
  have HK : Hid (n ≤ p + 1 ∧ d ≤ p + 1 ∧ p < C.L.length ∧ 2 * (C.L.length - (p + 1)) + 2 ≤ k ∧ C.L.length ≤ 4096) := ⟨hn,hd,hp,hk,hN⟩
  obtain ⟨⟨z,hr⟩,_⟩ := S2
  have c2 := hr.c2
  have f2 := hr.fz 2
  clear A1 A2 B2 h hr hn hd hp hk hN
  go_enter Tryz.func48,Tryz.ntmps48
  go_wp2_with fail
  generalize ((w.alloc (.cells #[.int .i64 0,.int .u64 0,.bool false,.string ⟨#[]⟩,.int .i64 0,.string ⟨#[]⟩,.slice none 0 0,.slice none 0 0,.slice none 0 0] 26)).alloc (.cells #[.int .i64 8,.int .u64 0,.bool false,.string ⟨#[]⟩,.int .i64 0,.string ⟨#[]⟩,.slice none 0 0,.slice none 0 0,.slice none 0 0] 26)) = W2 at *
  refine kO.mono ?_
  rintro e w2 ⟨rfl,rfl⟩
  have S3 : Hid (Sg C (w2.setCell ⟨C.g,2,none⟩ (.int .i64 ((p : Int) + 1))) (p + 1) n 0) := by have := S2'.out.at_ (p + 1); rw [show (((p + 1 : Nat) : Nat) : Int) = (p : Int) + 1 by omega] at this; exact this
  have Q3 : Hid (Kq C.g w2.heap.size w2 (w2.setCell ⟨C.g,2,none⟩ (.int .i64 ((p : Int) + 1)))) := Kq.set _ _ _ _ _
  clear kO
  have NR3 : Hid (NBox (w2.setCell ⟨C.g,2,none⟩ (.int .i64 ((p : Int) + 1))) w.heap.size zN) := nbox_kq NR.out Q3.out NR.out.lt (Nat.ne_of_gt LG.out)
  have NN3 : Hid (NBox (w2.setCell ⟨C.g,2,none⟩ (.int .i64 ((p : Int) + 1))) (w.heap.size + 1) (leafN (kindT 8 0))) := nbox_kq NN.out Q3.out NN.out.lt (by have := LG.out; omega)
  have K3 : Hid (Kq C.g w.heap.size w (w2.setCell ⟨C.g,2,none⟩ (.int .i64 ((p : Int) + 1)))) := (Kq.of BW.out).trans (Q3.out.mono BW.out.size)
  go_upto_region 5 with fail
  clear c2 f2 NR NN Q3 BW S2'
  generalize w2.setCell ⟨C.g,2,none⟩ (.int .i64 ((p : Int) + 1)) = W3 at *
  go_cut [23] (fun s20 wx => (s20 = .bool false ∧ Hid (MI C w k p d wx)) ∨ (s20 = .bool true ∧ Hid (Sg C wx (p + 1) n 0 ∧ (∃ h1 : p + 1 < C.L.length,(C.L[p + 1]).kind = 2) ∧ Kq C.g w.heap.size w wx ∧ NBox wx w.heap.size zN ∧ NBox wx (w.heap.size + 1) (leafN (kindT 8 0)))))
  case first =>
    by_cases h1 : p + 1 < C.L.length
    · have kK := gkind S3.out h1
      by_cases h4 : C.L[p + 1].kind = 2
      · rw [h4] at kK
        go_wp2_with (go_at_call 46; refine kK.mono ?_; rintro e w4 ⟨rfl,s4,q4⟩)
        go_meet
        refine .inr ⟨rfl,s4,⟨h1,h4⟩,K3.out.trans (q4.mono K3.out.size),nbox_kq NR3.out q4 NR3.out.lt (Nat.ne_of_gt LG.out),nbox_kq NN3.out q4 NN3.out.lt (by have := LG.out; omega)⟩
      · have g4 : (((C.L[p + 1].kind : Nat) : Int) == 2) = false := by simp; omega
        go_wp2_with (go_at_call 46; refine kK.mono ?_; rintro e w4 ⟨rfl,s4,q4⟩)
        go_meet
        refine .inl ⟨rfl,0,⟨leafN (kindT 8 0),[],[],nbox_kq NN3.out q4 NN3.out.lt (by have := LG.out; omega),nbox_kq NR3.out q4 NR3.out.lt (Nat.ne_of_gt LG.out),ownsN_nil _ _,ownsN_nil _ _,Nat.zero_le _,Nat.zero_le _,(fun k e => by cases e),K3.out.trans (q4.mono K3.out.size)⟩,Nat.zero_le _,.inr ⟨p + 1,n,k,s4,by omega,by omega,HK.out.1,by have := HK.out; omega,Nat.le_refl _,HK.out.2.2.2.1,Nat.zero_le _,?_⟩⟩
        rw [List.drop_eq_getElem_cons h1]
        rw [mpO_cons,if_neg h4]
    · have kK := gkind_out S3.out h1
      go_wp2_with (go_at_call 46; refine kK.mono ?_; rintro e w4 ⟨rfl,s4,q4⟩)
      go_meet
      refine .inl ⟨rfl,0,⟨leafN (kindT 8 0),[],[],nbox_kq NN3.out q4 NN3.out.lt (by have := LG.out; omega),nbox_kq NR3.out q4 NR3.out.lt (Nat.ne_of_gt LG.out),ownsN_nil _ _,ownsN_nil _ _,Nat.zero_le _,Nat.zero_le _,(fun k e => by cases e),K3.out.trans (q4.mono K3.out.size)⟩,Nat.zero_le _,.inl ⟨s4,?_⟩⟩
      rw [List.drop_eq_nil_of_le (by omega)]
      rfl
  case rest =>
    clear S3 NR3 NN3 K3
    rcases hcut with ⟨rfl,hI⟩ | ⟨rfl,hS⟩
    · go_wp2_with fail
      go_loopw [] (fun wr => Hid (MI C w k p d wr)) (fun wr => C.L.length - atW C.g wr)
      case atStart => exact hI
      case round =>
        obtain ⟨m,hm,hm1,hs⟩ := hrel.out
        have MM : Hid (MR C w wr m) := hm
        have LM : Hid (m ≤ 1000000) := hm1
        clear hrel hm hm1
        rcases hs with ⟨sb,hno⟩ | ⟨q,n',j,sg,hpq,hql,hnq,hdq,hjk,hfu,hbq,hsk⟩
        · have V5 : Hid (VR C p (mpO k (C.L.drop (p + 1))) wr) := by show VR _ _ _ _; rw [hno]; exact sb
          obtain ⟨p',n',y,hy,s⟩ := sb
          have kO := gok s
          have hy0 : (y == 0) = false := by simpa using hy
          rw [hy0] at kO
          clear hno s hy hy0 hI
          go_upto_region 30 with (go_at_call 30; refine kO.mono ?_; rintro e w4 ⟨rfl,hw4⟩; obtain rfl := hw4.symm)
          obtain ⟨nb,ks,is,y1,y2,y3,y4,y5,y6,y7,y8⟩ := MM.out
          have NNx : Hid (NBox wr (w.heap.size + 1) nb) := y1
          have NRx : Hid (NBox wr w.heap.size zN) := y2
          have KKx : Hid (Kq C.g w.heap.size w wr) := y8
          clear y1 y2 y3 y4 y5 y6 y7 y8
          have qf := NRx.out.fz
          obtain ⟨t0,t1,t2,t3,t4,t5,t6,t7,t8⟩ := NRx.out.fields
          obtain ⟨v0,v1,v2,v3,v4,v5,v6,v7,v8⟩ := NNx.out.fields
          have x9 := nbox_put NRx.out nb
          have F9 : Hid (VR C p (mpO k (C.L.drop (p + 1))) _ ∧ Kq C.g w.heap.size w _) := vr_fin V5.out TG.out KKx.out x9.2 (Nat.le_refl _) LG.out
          obtain ⟨u0,u1,u2,u3,u4,u5,u6,u7,u8⟩ := x9.1.fields
          go_wp2_with fail
          refine bodyPost_ret (v := .agg nb.arr) (by simp [results,Tryz.results48,go_sem,Nb.arr] at *; simp [go_sem,u0,u1,u2,u3,u4,u5,u6,u7,u8]) rfl ⟨_,rfl,⟨nb,rfl⟩,F9.out⟩
        · obtain ⟨j,rfl⟩ : ∃ i,j = i + 1 := ⟨j - 1,by omega⟩
          have kO := gok sg
          have hsk' : Hid (skF (j + 1) 2 (C.L.drop q) = mpO k (C.L.drop (p + 1))) := hsk
          have HQ : Hid (p < q ∧ q ≤ C.L.length ∧ n' ≤ q ∧ d + 1 ≤ q + 1 ∧ j + 1 ≤ k ∧ 2 * (C.L.length - q) + 2 ≤ j + 1 ∧ m ≤ q) := ⟨hpq,hql,hnq,hdq,hjk,hfu,hbq⟩
          have hat' : Hid (atW C.g wr = q) := sg.atw
          have SG : Hid (Sg C wr q n' 0) := sg
          clear hsk hpq hnq hdq hjk hfu hbq sg hI
          by_cases hl : q < C.L.length
          · have kK := gkind SG.out hl
            have hkk := hL _ (List.getElem_mem hl)
            by_cases h7 : C.L[q].kind = 7
            · rw [h7] at kK
              have kB : Hid (∀ wx,Sg C wx q n' 0 → Calls Tryz.prog 47 #[.pointer (some ⟨C.g,0,none⟩),.int .i64 ((d : Int) + 1)] wx fun e w' => e = .returned (.tuple #[]) ∧ Sg C w' q (n' + 1) 0 ∧ Kq C.g wx.heap.size wx w') := fun wx hx => by
                have := gbeg_ok (d := d + 1) hx (by have := HQ.out; have := HK.out; omega) (by have := HQ.out; have := HK.out; omega) (.inl FR.out)
                rw [show (((d + 1 : Nat) : Nat) : Int) = (d : Int) + 1 by omega] at this
                exact this
              obtain ⟨gl,cv,hlv,hc,hcm,x1,x2,x3⟩ := SG.out.2.at hl
              have TA : Hid (∀ wx,Sg C wx q (n' + 1) 0 → wx.cell? ⟨gl,q * 4 + 3,none⟩ = some (.string (strOfNums C.L[q].txt))) := fun wx hx => by
                obtain ⟨gl',cv',e',_,_,_,_,x⟩ := hx.2.at hl
                rw [hlv] at e'
                cases e'
                exact x
              have hsk2 : Hid (skF (j + 1) 2 (C.L.drop q) = mp1 j (C.L.drop (q + 1))) := by
                show _ = _
                rw [List.drop_eq_getElem_cons hl]
                simp only [skF]
                rw [if_neg (by simpa using h7)]
                rfl
              generalize strOfNums C.L[q].txt = tx at *
              have hz : (q : Int) < (C.L.length : Int) := by omega
              have hz0 : (0 : Int) ≤ (q : Int) := by omega
              clear x1 x2 x3 hkk h7
              go_upto_region 16 with (first | (go_at_call 30; refine kO.mono ?_; rintro e w4 ⟨rfl,hw4⟩; obtain rfl := hw4.symm) | (go_at_call 46; refine kK.mono ?_; rintro e w5 ⟨rfl,s5,q5⟩; have S5 : Hid (Sg C w5 q n' 0) := s5; have Q5 : Hid (Kq C.g wr.heap.size wr w5) := q5; clear s5 q5) | (go_at_call 47; refine (kB.out w5 S5.out).mono ?_; rintro e w6 ⟨rfl,s6,q6⟩; have S6 : Hid (Sg C w6 q (n' + 1) 0) := s6; have Q6 : Hid (Kq C.g w5.heap.size w5 w6) := q6; clear s6 q6))
              have M6 : Hid (MR C w w6 m) := (MM.out.kq Q5.out LG.out).kq Q6.out LG.out
              have t3 := TA.out w6 S6.out
              obtain ⟨⟨z,hr⟩,hTT⟩ := S6.out
              have c1 := hr.c1
              have c2 := hr.c2
              rw [hlv] at c1
              have LGL : Hid (gl < w6.heap.size) := by
                show _ < _
                rcases Nat.lt_or_ge gl w6.heap.size with q | q
                · exact q
                · simp [World.cell?,Array.getElem?_eq_none q] at t3
              have LGG : Hid (C.g < w6.heap.size) := S6.out.lt
              have S6a : Sg C (w6.alloc (.cells #[.int .i64 0,.int .u64 0,.bool false,.string ⟨#[]⟩,.int .i64 0,.string ⟨#[]⟩,.slice none 0 0,.slice none 0 0,.slice none 0 0] 26)) q (n' + 1) 0 := S6.out.below (alloc_below _ _)
              have t3a := TA.out (w6.alloc (.cells #[.int .i64 0,.int .u64 0,.bool false,.string ⟨#[]⟩,.int .i64 0,.string ⟨#[]⟩,.slice none 0 0,.slice none 0 0,.slice none 0 0] 26)) S6a
              obtain ⟨⟨za,hra⟩,hTa⟩ := S6a
              have c1a := hra.c1
              have c2a := hra.c2
              rw [hlv] at c1a
              clear hr hTT kB kK kO S5 Q5 Q6 TA MM hra hTa
              go_cut [7] (fun s7 wx => ∃ (gk : Nat) (bk : Nb),s7 = .pointer (some ⟨gk,0,none⟩) ∧ Hid (Sg C wx q (n' + 1) 0 ∧ MR C w wx m ∧ NBox wx gk bk ∧ w.heap.size + 2 ≤ gk))
              case first =>
                go_region
                go_wp2_with fail
                go_meet
                exact ⟨w6.heap.size,⟨5,0,false,⟨#[]⟩,0,tx,none,0,0,none,0,0,none,0,0⟩,rfl,key_new S6.out M6.out LG.out ⟨5,0,false,⟨#[]⟩,0,tx,none,0,0,none,0,0,none,0,0⟩⟩
              case rest =>
                obtain ⟨gk,bk,rfl,hA⟩ := hcut
                clear S6 M6 t3 t3a c1 c1a c2 c2a hz hz0 LGL LGG hc hcm
                go_upto_block 2 with fail
                go_cut [] (fun wx => Hid (Sg C wx q (n' + 1) 0 ∧ MR C w wx m ∧ NBox wx gk bk))
                case first =>
                  obtain ⟨nb,ks,is,y1,_⟩ := hA.out.2.1
                  have c7 : wc.cell? ⟨w.heap.size + 1,7,none⟩ = some (.slice nb.ak nb.lk nb.ck) := y1.cell 7
                  obtain ⟨⟨z,hr⟩,hTT⟩ := hA.out.1
                  have c4 := hr.c4
                  rw [FR.out] at c4
                  clear hr hTT y1
                  go_wp2_with fail
                  go_loopw [8] (fun s8 wy => s8 = .int .i64 0 ∧ wy = wc) (fun _ _ => 0)
                  case atStart => exact ⟨rfl,rfl⟩
                  case round =>
                    obtain ⟨rfl,hw2⟩ := hrel
                    subst hw2
                    rcases Nat.eq_zero_or_pos nb.lk with hk0 | hk0
                    · rw [hk0] at c7
                      go_wp2_with fail
                      go_meet
                      exact ⟨hA.out.1,hA.out.2.1,hA.out.2.2.1⟩
                    · have hk1 : (0 : Int) < (nb.lk : Int) := by omega
                      go_wp2_with fail
                      go_meet
                      exact ⟨hA.out.1,hA.out.2.1,hA.out.2.2.1⟩
                case rest =>
                  have kO2 := gok hcut.out.1
                  have HG : Hid (w.heap.size + 2 ≤ gk) := hA.out.2.2.2
                  have wq : IntKind.i64.wrap ((q : Int) + 1) = (q : Int) + 1 := by have := HQ.out; have := HK.out; rw [IntKind.wrap_i64] <;> omega
                  have S8 : Hid (Sg C (wc.setCell ⟨C.g,2,none⟩ (.int .i64 ((q : Int) + 1))) (q + 1) (n' + 1) 0) := by have := hcut.out.1.at_ (q + 1); rw [show (((q + 1 : Nat) : Nat) : Int) = (q : Int) + 1 by omega] at this; exact this
                  have q8 := Kq.set C.g wc.heap.size wc 2 (.int .i64 ((q : Int) + 1))
                  have M8 : Hid (MR C w (wc.setCell ⟨C.g,2,none⟩ (.int .i64 ((q : Int) + 1))) m) := hcut.out.2.1.kq q8 LG.out
                  have B8 : Hid (NBox (wc.setCell ⟨C.g,2,none⟩ (.int .i64 ((q : Int) + 1))) gk bk) := nbox_kq hcut.out.2.2 q8 hcut.out.2.2.lt (by have := LG.out; have := HG.out; omega)
                  obtain ⟨⟨z,hr⟩,hTT⟩ := hcut.out.1
                  have c2 := hr.c2
                  have f2 := hr.fz 2
                  clear hcut hA hr hTT q8
                  go_upto_region 25 with (go_at_call 30; refine kO2.mono ?_; rintro e w4 ⟨rfl,hw4⟩; obtain rfl := hw4.symm)
                  clear c2 f2 kO2
                  generalize wc.setCell ⟨C.g,2,none⟩ (.int .i64 ((q : Int) + 1)) = W8 at *
                  go_cut [] (fun wx => Hid (Sg C wx (q + 1) (n' + 1) 0 ∧ MR C w wx (m + 1)))
                  case first =>
                    obtain ⟨nb,ks,is,y1,y2,y3,y4,y5,y6,y7,y8⟩ := M8.out
                    have N5 : Hid (NBox W8 (w.heap.size + 1) nb) := y1
                    have R5 : Hid (NBox W8 w.heap.size zN) := y2
                    have O5 : Hid (OwnsN 26 W8 (w.heap.size + 2) (.slice nb.ak nb.lk nb.ck) ks) := y3
                    have P5 : Hid (OwnsN 26 W8 (w.heap.size + 2) (.slice nb.ai nb.li nb.ci) is) := y4
                    have LL : Hid (ks.length ≤ m ∧ is.length ≤ m) := ⟨y5,y6⟩
                    have DD : Hid (∀ k,(Value.slice nb.ak nb.lk nb.ck).ownBlock = some k → (Value.slice nb.ai nb.li nb.ci).ownBlock ≠ some k) := y7
                    have K5 : Hid (Kq C.g w.heap.size w W8) := y8
                    clear y1 y2 y3 y4 y5 y6 y7 y8
                    have c7 : W8.cell? ⟨w.heap.size + 1,7,none⟩ = some (.slice nb.ak nb.lk nb.ck) := N5.out.cell 7
                    have l5 : Hid (w.heap.size + 2 ≤ W8.heap.size) := N5.out.lt
                    obtain ⟨v0,v1,v2,v3,v4,v5,v6,v7,v8⟩ := B8.out.fields
                    go_wp2_with (at_builtin; refine wpl_append_node rfl _ _ rfl (w.heap.size + 2) (.slice nb.ak nb.lk nb.ck) ks [bk] (by rfl) (World.ownsRow.kept (row := none) O5.out (⟨(alloc_below W8 _).os,(alloc_below W8 _).tape,(alloc_below W8 _).output,(alloc_below W8 _).size,fun k hk _ => (alloc_below W8 _).block k hk⟩) (by cases hv : (Value.slice nb.ak nb.lk nb.ck).ownBlock <;> simp)) ⟨W8.heap.size,0,none⟩ 1 1 (by rfl) rfl (by decide) (nine_one W8 bk) (by have := LL.out; have := LM.out; simp; omega) (Nat.le_trans l5.out (alloc_below W8 _).size) ?_; intro v6 w6 ho6 hg6 hn6; obtain ⟨a6,c6,rfl,e6,f6,F6,F7⟩ := key_put N5.out R5.out O5.out P5.out LL.out.1 LL.out.2 DD.out K5.out ho6 hg6 hn6; have F : Hid (_ ∧ _) := ⟨F6,F7⟩; clear ho6 hg6 hn6 F6 F7)
                    all_goals
                      go_meet
                      exact ⟨S8.out.move TG.out F.out.1.choose_spec.choose_spec.choose_spec.2.2.2.2.2.2.2 F.out.2 LG.out,F.out.1⟩
                  case rest =>
                    have HM : Hid (mp1 j (C.L.drop (q + 1)) = mpO k (C.L.drop (p + 1))) := hsk2.out.symm.trans hsk'.out
                    clear hsk2 hsk' S8 M8 B8
                    go_upto_region 26 with fail
                    go_cut [] (fun wx => Hid (MR C w wx (m + 1) ∧ ∃ O2,fin2 j O2 = mpO k (C.L.drop (p + 1)) ∧ Calls Tryz.prog 29 #[.pointer (some ⟨C.g,0,none⟩),.int .i64 ((d : Int) + 1)] wx.drew fun e w' => ∃ r,e = .returned r ∧ ((∃ b : Nb,r = .agg b.arr) ∧ VR C (q + 2) O2 w' ∧ Kq C.g wx.drew.heap.size wx.drew w')))
                    case first =>
                      by_cases h5 : ∃ hl5 : q + 1 < C.L.length,C.L[q + 1].kind = 5
                      · obtain ⟨hl5,hk5⟩ := h5
                        have kM := gmust hcut.out.1 hl5 (by omega) (by have := HK.out; omega)
                        rw [hk5] at kM
                        have HM2 : Hid (fin2 j (skF j 0 (C.L.drop (q + 2))) = mpO k (C.L.drop (p + 1))) := by
                          have := HM.out
                          rw [List.drop_eq_getElem_cons hl5,mp1_cons,if_neg (by simpa using hk5)] at this
                          exact this
                        have hl6 : Hid (q + 1 < C.L.length) := hl5
                        clear hl5 hk5
                        go_wp2_with (go_at_call 76; refine kM.mono ?_; rintro e w7 ⟨rfl,s7,q7⟩; have S7 : Hid (Sg C w7 (q + 1 + 1) (n' + 1) 0) := s7; have Q7 : Hid (Kq C.g wc.heap.size wc w7) := q7; clear s7 q7)
                        go_meet
                        have kV0 := ih j (by have := HQ.out; omega) w7.drew (q + 2) (n' + 1) (d + 1) S7.out (by have := HQ.out; omega) (by have := HQ.out; omega) hl6.out (by have := HQ.out; have := hl6.out; omega)
                        rw [show (((d + 1 : Nat) : Nat) : Int) = (d : Int) + 1 by omega] at kV0
                        exact ⟨hcut.out.2.kq Q7.out LG.out,_,HM2.out,kV0⟩
                      · have kM := gmust_no 5 hcut.out.1 (fun hp => ⟨fun e => h5 ⟨hp,e⟩,by have := hL _ (List.getElem_mem hp); omega⟩)
                        have HM2 : Hid (fin2 j none = mpO k (C.L.drop (p + 1))) := by
                          have := HM.out
                          by_cases hl5 : q + 1 < C.L.length
                          · rw [List.drop_eq_getElem_cons hl5,mp1_cons,if_pos (fun e => h5 ⟨hl5,e⟩)] at this
                            exact this
                          · rw [List.drop_eq_nil_of_le (by omega)] at this
                            exact this
                        clear h5
                        go_wp2_with (go_at_call 76; refine kM.mono ?_; rintro e w7 ⟨rfl,s7,q7⟩; have S7 : Hid (Sb C w7) := s7; have Q7 : Hid (Kq C.g wc.heap.size wc w7) := q7; clear s7 q7)
                        go_meet
                        refine ⟨hcut.out.2.kq Q7.out LG.out,_,HM2.out,?_⟩
                        obtain ⟨p9,n9,y9,hy9,s9⟩ := S7.out
                        exact value_bad (w := w7.drew) _ s9 hy9
                    case rest =>
                      obtain ⟨hMR,O2,hO2,hV2⟩ := hcut.out
                      have MMc : Hid (MR C w wc (m + 1)) := hMR
                      have HO : Hid (fin2 j O2 = mpO k (C.L.drop (p + 1))) := hO2
                      have kV : Hid (Calls Tryz.prog 29 #[.pointer (some ⟨C.g,0,none⟩),.int .i64 ((d : Int) + 1)] wc.drew fun e w' => ∃ r,e = .returned r ∧ ((∃ b : Nb,r = .agg b.arr) ∧ VR C (q + 2) O2 w' ∧ Kq C.g wc.drew.heap.size wc.drew w')) := hV2
                      have hcf : ∀ args w,(callFunc 29 args).run Tryz.prog w = .ok (.enter 29 args) w := fun _ _ => rfl
                      clear hcut hMR hO2 hV2 HM
                      go_upto_region 27 with fail
                      go_cut [] (fun wx => Hid (MR C w wx (m + 2) ∧ VR C (q + 2) O2 wx))
                      case first =>
                        obtain ⟨nb,ks,is,y1,y2,y3,y4,y5,y6,y7,y8⟩ := MMc.out
                        have NNr : Hid (NBox wc (w.heap.size + 1) nb) := y1
                        have NRr : Hid (NBox wc w.heap.size zN) := y2
                        have PPr : Hid (OwnsN 26 wc (w.heap.size + 2) (.slice nb.ak nb.lk nb.ck) ks) := y3
                        have OOr : Hid (OwnsN 26 wc (w.heap.size + 2) (.slice nb.ai nb.li nb.ci) is) := y4
                        have LL : Hid (ks.length ≤ m + 1 + 1 ∧ is.length ≤ m + 1) := ⟨by omega,y6⟩
                        have DD : Hid (∀ k,(Value.slice nb.ak nb.lk nb.ck).ownBlock = some k → (Value.slice nb.ai nb.li nb.ci).ownBlock ≠ some k) := y7
                        have KKr : Hid (Kq C.g w.heap.size w wc) := y8
                        clear y1 y2 y3 y4 y5 y6 y7 y8
                        have c8 : wc.cell? ⟨w.heap.size + 1,8,none⟩ = some (.slice nb.ai nb.li nb.ci) := NNr.out.cell 8
                        go_region_law (first
                          | (refine step_call2 (by rfl) 106 108 73 3 (by rfl) (by rfl) (by rfl) hcf kV.out ?_; rintro r w5 ⟨⟨b',hb'⟩,hv,hq5⟩; rw [Nb.arr] at hb'; subst hb'; have q5 : Hid (Kq C.g wc.heap.size wc w5) := ⟨hq5.os,hq5.tape,hq5.output,hq5.size,hq5.block⟩; have N5 : Hid (NBox w5 (w.heap.size + 1) nb) := nbox_kq NNr.out q5.out NNr.out.lt (by have := LG.out; omega); have R5 : Hid (NBox w5 w.heap.size zN) := nbox_kq NRr.out q5.out NRr.out.lt (Nat.ne_of_gt LG.out); have O5 : Hid (OwnsN 26 w5 (w.heap.size + 2) (.slice nb.ai nb.li nb.ci) is) := owns_kq OOr.out q5.out (by have := LG.out; omega); have P5 : Hid (OwnsN 26 w5 (w.heap.size + 2) (.slice nb.ak nb.lk nb.ck) ks) := owns_kq PPr.out q5.out (by have := LG.out; omega); have K5 : Hid (Kq C.g w.heap.size w w5) := KKr.out.trans (q5.out.mono KKr.out.size); have V5 : Hid (VR C (q + 2) O2 w5) := hv; have c85 : w5.cell? ⟨w.heap.size + 1,8,none⟩ = some (.slice nb.ai nb.li nb.ci) := N5.out.cell 8; have c8a : (w5.alloc (.cells #[.int .i64 b'.kind,.int .u64 b'.num,.bool b'.neg,.string b'.dig,.int .i64 b'.exp,.string b'.txt,.slice b'.ab b'.lb b'.cb,.slice b'.ak b'.lk b'.ck,.slice b'.ai b'.li b'.ci] 26)).cell? ⟨w.heap.size + 1,8,none⟩ = some (.slice nb.ai nb.li nb.ci) := (N5.out.kept (alloc_below _ _) N5.out.lt).cell 8; have l5 : Hid (w.heap.size + 2 ≤ w5.heap.size) := N5.out.lt; clear hv hq5)
                          | (refine step_append_node (by rfl) _ _ (by rfl) (w.heap.size + 2) (.slice nb.ai nb.li nb.ci) is [b'] (by rfl) (World.ownsRow.kept (row := none) O5.out (⟨(alloc_below w5 _).os,(alloc_below w5 _).tape,(alloc_below w5 _).output,(alloc_below w5 _).size,fun k hk _ => (alloc_below w5 _).block k hk⟩) (by cases hv : (Value.slice nb.ai nb.li nb.ci).ownBlock <;> simp)) ⟨w5.heap.size,0,none⟩ 1 1 (by rfl) rfl (by decide) (nine_one w5 b') (by have := LL.out; have := LM.out; simp; omega) (Nat.le_trans l5.out (alloc_below w5 _).size) ?_; intro v6 w6 ho6 hg6 hn6; obtain ⟨a6,c6,rfl,e6,f6,F6⟩ := kid_put N5.out R5.out P5.out O5.out LL.out.1 LL.out.2 DD.out K5.out V5.out TG.out LG.out ho6 hg6 hn6; have F : Hid _ := F6; clear ho6 hg6 hn6 F6))
                        all_goals
                          go_wp2_with fail
                          go_meet
                          with_reducible exact F
                      case rest =>
                        have MMd : Hid (MR C w wc (m + 2)) := hcut.out.1
                        have vr := hcut.out.2
                        clear hcut MMc kV hcf
                        cases O2 with
                        | none =>
                          have V5 : Hid (VR C p (mpO k (C.L.drop (p + 1))) wc) := by show VR _ _ _ _; rw [← HO.out]; exact vr
                          obtain ⟨p',n9,y,hy,s⟩ := vr
                          have kO3 := gok s
                          have hy0 : (y == 0) = false := by simpa using hy
                          rw [hy0] at kO3
                          clear HO s hy hy0
                          go_upto_region 29 with (go_at_call 30; refine kO3.mono ?_; rintro e w4 ⟨rfl,hw4⟩; obtain rfl := hw4.symm)
                          obtain ⟨nb,ks,is,y1,y2,y3,y4,y5,y6,y7,y8⟩ := MMd.out
                          have NNx : Hid (NBox wc (w.heap.size + 1) nb) := y1
                          have NRx : Hid (NBox wc w.heap.size zN) := y2
                          have KKx : Hid (Kq C.g w.heap.size w wc) := y8
                          clear y1 y2 y3 y4 y5 y6 y7 y8
                          have qf := NRx.out.fz
                          obtain ⟨t0,t1,t2,t3,t4,t5,t6,t7,t8⟩ := NRx.out.fields
                          obtain ⟨v0,v1,v2,v3,v4,v5,v6,v7,v8⟩ := NNx.out.fields
                          have x9 := nbox_put NRx.out nb
                          have F9 : Hid (VR C p (mpO k (C.L.drop (p + 1))) _ ∧ Kq C.g w.heap.size w _) := vr_fin V5.out TG.out KKx.out x9.2 (Nat.le_refl _) LG.out
                          obtain ⟨u0,u1,u2,u3,u4,u5,u6,u7,u8⟩ := x9.1.fields
                          go_wp2_with fail
                          refine bodyPost_ret (v := .agg nb.arr) (by simp [results,Tryz.results48,go_sem,Nb.arr] at *; simp [go_sem,u0,u1,u2,u3,u4,u5,u6,u7,u8]) rfl ⟨_,rfl,⟨nb,rfl⟩,F9.out⟩
                        | some M =>
                          obtain ⟨q1,n1,hq1,hq1l,hM,hn1,s1⟩ := vr
                          have kO3 := gok s1
                          by_cases hl1 : q1 < C.L.length
                          · rw [List.drop_eq_getElem_cons hl1] at hM
                            subst hM
                            rw [fin2_cons] at HO
                            by_cases h6 : C.L[q1].kind = 6
                            · have kM := gmore_yes 2 s1 hl1 h6 (by have := HK.out; omega)
                              have hsk3 : Hid (skF j 2 (C.L.drop (q1 + 1)) = mpO k (C.L.drop (p + 1))) := by have := HO.out; rw [if_pos h6] at this; exact this
                              have HQ1 : Hid (q + 2 < q1 ∧ q1 < C.L.length ∧ n1 ≤ q1) := ⟨hq1,hl1,hn1⟩
                              clear HO h6 s1 hq1 hq1l hn1
                              go_wp2_with (first | (go_at_call 30; refine kO3.mono ?_; rintro e w4 ⟨rfl,hw4⟩; obtain rfl := hw4.symm) | (go_at_call 77; refine kM.mono ?_; rintro e w7 ⟨rfl,s7,q7⟩; have S7 : Hid (Sg C w7 (q1 + 1) n1 0) := s7; have Q7 : Hid (Kq C.g wc.heap.size wc w7) := q7; clear s7 q7))
                              go_roundw
                              case rel =>
                                refine ⟨m + 2,MMd.out.kq Q7.out LG.out,?_,.inr ⟨q1 + 1,n1,j,S7.out,?_,?_,?_,?_,?_,?_,?_,hsk3.out⟩⟩
                                all_goals (have g1 := HK.out; have g2 := HQ.out; have g3 := HQ1.out; omega)
                              case measure =>
                                rw [S7.out.atw,hat'.out]
                                have g2 := HQ.out; have g3 := HQ1.out; omega
                            · by_cases h4 : C.L[q1].kind = 2
                              · have kM := gmore_end s1 hl1 h6 (by omega) (by have := HK.out; omega)
                                rw [h4] at kM
                                have hsk3 : Hid (some (C.L.drop (q1 + 1)) = mpO k (C.L.drop (p + 1))) := by have := HO.out; rw [if_neg h6,if_pos h4] at this; exact this
                                have HQ1 : Hid (q + 2 < q1 ∧ q1 < C.L.length ∧ n1 ≤ q1) := ⟨hq1,hl1,hn1⟩
                                clear HO h6 h4 s1 hq1 hq1l hn1
                                go_upto_region 29 with (first | (go_at_call 30; refine kO3.mono ?_; rintro e w4 ⟨rfl,hw4⟩; obtain rfl := hw4.symm) | (go_at_call 77; refine kM.mono ?_; rintro e w7 ⟨rfl,s7,q7⟩; have S7 : Hid (Sg C w7 (q1 + 1) n1 0) := s7; have Q7 : Hid (Kq C.g wc.heap.size wc w7) := q7; clear s7 q7))
                                have V5 : Hid (VR C p (mpO k (C.L.drop (p + 1))) w7) := by
                                  show VR _ _ _ _
                                  rw [← hsk3.out]
                                  exact ⟨q1 + 1,n1,by have g2 := HQ.out; have g3 := HQ1.out; omega,HQ1.out.2.1,rfl,by have g3 := HQ1.out; omega,S7.out⟩
                                have M7 : Hid (MR C w w7 (m + 2)) := MMd.out.kq Q7.out LG.out
                                obtain ⟨nb,ks,is,y1,y2,y3,y4,y5,y6,y7,y8⟩ := M7.out
                                have NNx : Hid (NBox w7 (w.heap.size + 1) nb) := y1
                                have NRx : Hid (NBox w7 w.heap.size zN) := y2
                                have KKx : Hid (Kq C.g w.heap.size w w7) := y8
                                clear y1 y2 y3 y4 y5 y6 y7 y8
                                have qf := NRx.out.fz
                                obtain ⟨t0,t1,t2,t3,t4,t5,t6,t7,t8⟩ := NRx.out.fields
                                obtain ⟨v0,v1,v2,v3,v4,v5,v6,v7,v8⟩ := NNx.out.fields
                                have x9 := nbox_put NRx.out nb
                                have F9 : Hid (VR C p (mpO k (C.L.drop (p + 1))) _ ∧ Kq C.g w.heap.size w _) := vr_fin V5.out TG.out KKx.out x9.2 (Nat.le_refl _) LG.out
                                obtain ⟨u0,u1,u2,u3,u4,u5,u6,u7,u8⟩ := x9.1.fields
                                go_wp2_with fail
                                refine bodyPost_ret (v := .agg nb.arr) (by simp [results,Tryz.results48,go_sem,Nb.arr] at *; simp [go_sem,u0,u1,u2,u3,u4,u5,u6,u7,u8]) rfl ⟨_,rfl,⟨nb,rfl⟩,F9.out⟩
                              · have kM := gmore_no 2 s1 (fun hp => ⟨h4,by have := hL _ (List.getElem_mem hp); omega,h6⟩)
                                have hsk3 : Hid (none = mpO k (C.L.drop (p + 1))) := by have := HO.out; rw [if_neg h6,if_neg h4] at this; exact this
                                clear HO h6 h4 s1 hq1 hq1l hn1
                                go_upto_region 29 with (first | (go_at_call 30; refine kO3.mono ?_; rintro e w4 ⟨rfl,hw4⟩; obtain rfl := hw4.symm) | (go_at_call 77; refine kM.mono ?_; rintro e w7 ⟨rfl,s7,q7⟩; have S7 : Hid (Sb C w7) := s7; have Q7 : Hid (Kq C.g wc.heap.size wc w7) := q7; clear s7 q7))
                                have V5 : Hid (VR C p (mpO k (C.L.drop (p + 1))) w7) := by
                                  show VR _ _ _ _
                                  rw [← hsk3.out]
                                  exact S7.out
                                have M7 : Hid (MR C w w7 (m + 2)) := MMd.out.kq Q7.out LG.out
                                obtain ⟨nb,ks,is,y1,y2,y3,y4,y5,y6,y7,y8⟩ := M7.out
                                have NNx : Hid (NBox w7 (w.heap.size + 1) nb) := y1
                                have NRx : Hid (NBox w7 w.heap.size zN) := y2
                                have KKx : Hid (Kq C.g w.heap.size w w7) := y8
                                clear y1 y2 y3 y4 y5 y6 y7 y8
                                have qf := NRx.out.fz
                                obtain ⟨t0,t1,t2,t3,t4,t5,t6,t7,t8⟩ := NRx.out.fields
                                obtain ⟨v0,v1,v2,v3,v4,v5,v6,v7,v8⟩ := NNx.out.fields
                                have x9 := nbox_put NRx.out nb
                                have F9 : Hid (VR C p (mpO k (C.L.drop (p + 1))) _ ∧ Kq C.g w.heap.size w _) := vr_fin V5.out TG.out KKx.out x9.2 (Nat.le_refl _) LG.out
                                obtain ⟨u0,u1,u2,u3,u4,u5,u6,u7,u8⟩ := x9.1.fields
                                go_wp2_with fail
                                refine bodyPost_ret (v := .agg nb.arr) (by simp [results,Tryz.results48,go_sem,Nb.arr] at *; simp [go_sem,u0,u1,u2,u3,u4,u5,u6,u7,u8]) rfl ⟨_,rfl,⟨nb,rfl⟩,F9.out⟩
                          · rw [List.drop_eq_nil_of_le (by omega)] at hM
                            subst hM
                            have kM := gmore_no 2 s1 (fun hp => absurd hp hl1)
                            have hsk3 : Hid (none = mpO k (C.L.drop (p + 1))) := HO.out
                            clear HO s1 hq1 hq1l hn1
                            go_upto_region 29 with (first | (go_at_call 30; refine kO3.mono ?_; rintro e w4 ⟨rfl,hw4⟩; obtain rfl := hw4.symm) | (go_at_call 77; refine kM.mono ?_; rintro e w7 ⟨rfl,s7,q7⟩; have S7 : Hid (Sb C w7) := s7; have Q7 : Hid (Kq C.g wc.heap.size wc w7) := q7; clear s7 q7))
                            have V5 : Hid (VR C p (mpO k (C.L.drop (p + 1))) w7) := by
                              show VR _ _ _ _
                              rw [← hsk3.out]
                              exact S7.out
                            have M7 : Hid (MR C w w7 (m + 2)) := MMd.out.kq Q7.out LG.out
                            obtain ⟨nb,ks,is,y1,y2,y3,y4,y5,y6,y7,y8⟩ := M7.out
                            have NNx : Hid (NBox w7 (w.heap.size + 1) nb) := y1
                            have NRx : Hid (NBox w7 w.heap.size zN) := y2
                            have KKx : Hid (Kq C.g w.heap.size w w7) := y8
                            clear y1 y2 y3 y4 y5 y6 y7 y8
                            have qf := NRx.out.fz
                            obtain ⟨t0,t1,t2,t3,t4,t5,t6,t7,t8⟩ := NRx.out.fields
                            obtain ⟨v0,v1,v2,v3,v4,v5,v6,v7,v8⟩ := NNx.out.fields
                            have x9 := nbox_put NRx.out nb
                            have F9 : Hid (VR C p (mpO k (C.L.drop (p + 1))) _ ∧ Kq C.g w.heap.size w _) := vr_fin V5.out TG.out KKx.out x9.2 (Nat.le_refl _) LG.out
                            obtain ⟨u0,u1,u2,u3,u4,u5,u6,u7,u8⟩ := x9.1.fields
                            go_wp2_with fail
                            refine bodyPost_ret (v := .agg nb.arr) (by simp [results,Tryz.results48,go_sem,Nb.arr] at *; simp [go_sem,u0,u1,u2,u3,u4,u5,u6,u7,u8]) rfl ⟨_,rfl,⟨nb,rfl⟩,F9.out⟩
            · have kF : Hid (∀ wx,Sg C wx q n' 0 → Calls Tryz.prog 31 #[.pointer (some ⟨C.g,0,none⟩),.int .i64 5] wx fun e w' => e = .returned (.tuple #[]) ∧ Sg C w' q n' 5 ∧ Kq C.g wx.heap.size wx w') := fun wx hx => gfails 5 hx hl
              have hsk2 : Hid (none = mpO k (C.L.drop (p + 1))) := by
                have := hsk'.out
                rw [List.drop_eq_getElem_cons hl] at this
                simp only [skF] at this
                rw [if_pos h7] at this
                exact this
              generalize C.L[q].kind = kd at *
              have g0 : (((kd : Nat) : Int) == 0) = false := by simp; omega
              have g7 : (((kd : Nat) : Int) != 7) = true := by simp; omega
              clear hsk' hl h7 hkk
              go_upto_region 14 with (first | (go_at_call 30; refine kO.mono ?_; rintro e w4 ⟨rfl,hw4⟩; obtain rfl := hw4.symm) | (go_at_call 46; refine kK.mono ?_; rintro e w5 ⟨rfl,s5,q5⟩; have S5 : Hid (Sg C w5 q n' 0) := s5; have Q5 : Hid (Kq C.g wr.heap.size wr w5) := q5; clear s5 q5) | (go_at_call 31; refine (kF.out w5 S5.out).mono ?_; rintro e w7 ⟨rfl,s7,q7⟩; have S7 : Hid (Sg C w7 q n' 5) := s7; have Q7 : Hid (Kq C.g w5.heap.size w5 w7) := q7; clear s7 q7))
              have M7 : Hid (MR C w w7 m) := (MM.out.kq Q5.out LG.out).kq Q7.out LG.out
              have V5 : Hid (VR C p (mpO k (C.L.drop (p + 1))) w7) := by show VR _ _ _ _; rw [← hsk2.out]; exact ⟨q,n',5,by decide,S7.out⟩
              clear kF kK kO S5 Q5 S7 Q7 hsk2
              obtain ⟨nb,ks,is,y1,y2,y3,y4,y5,y6,y7,y8⟩ := M7.out
              have NNx : Hid (NBox w7 (w.heap.size + 1) nb) := y1
              have NRx : Hid (NBox w7 w.heap.size zN) := y2
              have KKx : Hid (Kq C.g w.heap.size w w7) := y8
              clear y1 y2 y3 y4 y5 y6 y7 y8
              have qf := NRx.out.fz
              obtain ⟨t0,t1,t2,t3,t4,t5,t6,t7,t8⟩ := NRx.out.fields
              obtain ⟨v0,v1,v2,v3,v4,v5,v6,v7,v8⟩ := NNx.out.fields
              have x9 := nbox_put NRx.out nb
              have F9 : Hid (VR C p (mpO k (C.L.drop (p + 1))) _ ∧ Kq C.g w.heap.size w _) := vr_fin V5.out TG.out KKx.out x9.2 (Nat.le_refl _) LG.out
              obtain ⟨u0,u1,u2,u3,u4,u5,u6,u7,u8⟩ := x9.1.fields
              go_wp2_with fail
              refine bodyPost_ret (v := .agg nb.arr) (by simp [results,Tryz.results48,go_sem,Nb.arr] at *; simp [go_sem,u0,u1,u2,u3,u4,u5,u6,u7,u8]) rfl ⟨_,rfl,⟨nb,rfl⟩,F9.out⟩
          · have kK := gkind_out SG.out hl
            have hsk2 : Hid (none = mpO k (C.L.drop (p + 1))) := by
              have := hsk'.out
              rw [List.drop_eq_nil_of_le (by omega)] at this
              exact this
            clear hsk' hl
            go_upto_region 11 with (first | (go_at_call 30; refine kO.mono ?_; rintro e w4 ⟨rfl,hw4⟩; obtain rfl := hw4.symm) | (go_at_call 46; refine kK.mono ?_; rintro e w7 ⟨rfl,s7,q7⟩; have S7 : Hid (Sb C w7) := s7; have Q7 : Hid (Kq C.g wr.heap.size wr w7) := q7; clear s7 q7))
            have M7 : Hid (MR C w w7 m) := MM.out.kq Q7.out LG.out
            have V5 : Hid (VR C p (mpO k (C.L.drop (p + 1))) w7) := by show VR _ _ _ _; rw [← hsk2.out]; exact S7.out
            clear kK kO S7 Q7 hsk2
            obtain ⟨nb,ks,is,y1,y2,y3,y4,y5,y6,y7,y8⟩ := M7.out
            have NNx : Hid (NBox w7 (w.heap.size + 1) nb) := y1
            have NRx : Hid (NBox w7 w.heap.size zN) := y2
            have KKx : Hid (Kq C.g w.heap.size w w7) := y8
            clear y1 y2 y3 y4 y5 y6 y7 y8
            have qf := NRx.out.fz
            obtain ⟨t0,t1,t2,t3,t4,t5,t6,t7,t8⟩ := NRx.out.fields
            obtain ⟨v0,v1,v2,v3,v4,v5,v6,v7,v8⟩ := NNx.out.fields
            have x9 := nbox_put NRx.out nb
            have F9 : Hid (VR C p (mpO k (C.L.drop (p + 1))) _ ∧ Kq C.g w.heap.size w _) := vr_fin V5.out TG.out KKx.out x9.2 (Nat.le_refl _) LG.out
            obtain ⟨u0,u1,u2,u3,u4,u5,u6,u7,u8⟩ := x9.1.fields
            go_wp2_with fail
            refine bodyPost_ret (v := .agg nb.arr) (by simp [results,Tryz.results48,go_sem,Nb.arr] at *; simp [go_sem,u0,u1,u2,u3,u4,u5,u6,u7,u8]) rfl ⟨_,rfl,⟨nb,rfl⟩,F9.out⟩
    · have s4 := hS.out.1
      obtain ⟨h1,h4⟩ := hS.out.2.1
      have S5 : Hid (Sg C (wc.setCell ⟨C.g,2,none⟩ (.int .i64 ((p : Int) + 1 + 1))) (p + 2) n 0) := by have := s4.at_ (p + 2); rw [show (((p + 2 : Nat) : Nat) : Int) = (p : Int) + 1 + 1 by omega] at this; exact this
      have Q5 : Hid (Kq C.g w.heap.size w (wc.setCell ⟨C.g,2,none⟩ (.int .i64 ((p : Int) + 1 + 1)))) := hS.out.2.2.1.trans (Kq.set _ _ _ _ _)
      have q5 := Kq.set C.g wc.heap.size wc 2 (.int .i64 ((p : Int) + 1 + 1))
      have NR5 : Hid (NBox (wc.setCell ⟨C.g,2,none⟩ (.int .i64 ((p : Int) + 1 + 1))) w.heap.size zN) := nbox_kq hS.out.2.2.2.1 q5 hS.out.2.2.2.1.lt (Nat.ne_of_gt LG.out)
      have NN5 : Hid (NBox (wc.setCell ⟨C.g,2,none⟩ (.int .i64 ((p : Int) + 1 + 1))) (w.heap.size + 1) (leafN (kindT 8 0))) := nbox_kq hS.out.2.2.2.2 q5 hS.out.2.2.2.2.lt (by have := LG.out; omega)
      have V5 : Hid (VR C p (mpO k (C.L.drop (p + 1))) (wc.setCell ⟨C.g,2,none⟩ (.int .i64 ((p : Int) + 1 + 1)))) := by
        show VR _ _ _ _
        rw [List.drop_eq_getElem_cons h1]
        rw [mpO_cons,if_pos h4]
        exact ⟨p + 2,n,by omega,by omega,rfl,by have := HK.out; omega,S5.out⟩
      obtain ⟨⟨z,hr⟩,_⟩ := s4
      have c2 : wc.cell? ⟨C.g,2,none⟩ = some (.int .i64 ((p : Int) + 1)) := by have := hr.c2; rw [show (((p + 1 : Nat) : Nat) : Int) = (p : Int) + 1 by omega] at this; exact this
      have f2 := hr.fz 2
      obtain ⟨nb,hnb⟩ : ∃ nb,leafN (kindT 8 0) = nb := ⟨_,rfl⟩
      rw [hnb] at NN5
      clear hS hr q5 h1 h4 hnb
      go_upto_region 7 with fail
      clear c2 f2
      generalize wc.setCell ⟨C.g,2,none⟩ (.int .i64 ((p : Int) + 1 + 1)) = W5 at *
      have qf := NR5.out.fz
      obtain ⟨t0,t1,t2,t3,t4,t5,t6,t7,t8⟩ := NR5.out.fields
      obtain ⟨v0,v1,v2,v3,v4,v5,v6,v7,v8⟩ := NN5.out.fields
      have x9 := nbox_put NR5.out nb
      have F9 : Hid (VR C p (mpO k (C.L.drop (p + 1))) _ ∧ Kq C.g w.heap.size w _) := vr_fin V5.out TG.out Q5.out x9.2 (Nat.le_refl _) LG.out
      obtain ⟨u0,u1,u2,u3,u4,u5,u6,u7,u8⟩ := x9.1.fields
      go_wp2_with fail
      refine bodyPost_ret (v := .agg nb.arr) (by simp [results,Tryz.results48,go_sem,Nb.arr] at *; simp [go_sem,u0,u1,u2,u3,u4,u5,u6,u7,u8]) rfl ⟨_,rfl,⟨nb,rfl⟩,F9.out⟩
end Go.Proofs.YtmlacmoembjeoaaGreatDoor
