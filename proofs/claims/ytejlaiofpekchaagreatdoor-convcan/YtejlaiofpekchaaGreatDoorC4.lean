/-
  When two trees are the same: tree.same, with slices.EqualFunc.
  Trees in new memory: what they are; tree.cloneAll.
  The library functions of this program, held against those that the shelf knows.
  Which texts are numbers: nat.Right, and the document's.
-/
import Derived.Test.YtejlaiofpekchaaGreatDoorC2
import Derived.Test.YtejlaiofpekchaaGreatDoorC3
import Derived.Test.YtejlaiofpekchaaGreatDoorProg
import Derived.Shelf.Abstract
import Derived.Shelf.Strings.Trim
import Derived.Shelf.Strconv.Itoa0
import Derived.Shelf.Strconv.Itoa1
import Derived.Shelf.LaysM
import Derived.Shelf.Strconv.Itoa2
import Derived.Shelf.Strconv.Clone
import Derived.Shelf.Strings.Search1
import Derived.Shelf.Strings.Prefix
import Derived.Shelf.Bits.Mul64
import Derived.Shelf.Strings.Repeat
import Derived.Shelf.Slices.Equal
import Derived.Ground.Names2Prog
import Derived.Shelf.Slices.Clone
namespace Go.Proofs.YtejlaiofpekchaaGreatDoor
open Go.RowKit
set_option linter.unusedVariables false
theorem beq_any(a b:Option Addr)(n m ca cb:Nat)(x y:List Int)(w:World)(hx:x.length=n)(hy:y.length=m)(ha:Bytes w a x)(hb:Bytes w b y)(v:Bool)(hv:v=true ↔ x=y) :
  Calls Tryz.prog 117 #[.slice a n ca, .slice b m cb] w fun e w'=>e = .returned (.bool v)∧w'=w:=by
 have c1:=conv_str ha n ca hx
 have c2:=conv_str hb m cb hy
 have hE:((strOfNums x).toList==(strOfNums y).toList)=v:=by
  rw [Bool.eq_iff_iff,hv,str_eq ha.1 hb.1,decide_eq_true_iff]
 clear hx hy ha hb hv
 generalize strOfNums x=p at *
 generalize strOfNums y=q at *
 go_enter Tryz.func117,Tryz.ntmps117
 go_wp2
 go_ret
 exact ⟨rfl,rfl⟩
def SameAt(D:Nat):Prop:=∀ (t u:Tr) (a b:Nb) (w:World) (v:Bool),Nd D w a t→Nd D w b u→(v=true ↔ t=u)→Calls Tryz.prog 78 #[.agg a.arr, .agg b.arr] w fun e w'=>e = .returned (.bool v)∧Below w.heap.size w w'
theorem row_el{D:Nat}{w w':World}{a:Option Addr}{len cap:Nat}{l:List Tr}(h:RowN (Nd D w) w a len cap l)(hb:Below w.heap.size w w'){i:Nat}(hi:i<l.length) :
  ∃ (bk off:Nat) (nb:Nb),a=some ⟨bk,off,none⟩∧(∀ j,j<9→w'.cell? ⟨bk,off+(i*9+j),none⟩=nb.cells[j]?)∧Nd D w' nb l[i]∧bk<w.heap.size:=by
 have hk:=h.kept (R:=Nd D w') hb (fun _ _ _ q=>q.kept hb)
 obtain ⟨_,_,h2⟩:=h
 obtain ⟨_,_,h2'⟩:=hk
 rcases h2 with rfl | ⟨b,off,ha,hc⟩
 ·cases hi
 ·rcases h2' with rfl | ⟨b', off', ha', hc'⟩
  ·cases hi
  ·obtain ⟨nb, hn, hQ⟩ := hc' i hi
   rw [ha] at ha'
   cases ha'
   obtain ⟨nb0,hn0,_⟩:=hc i hi
   exact ⟨b,off,nb,ha,hn,hQ,some_block ((hn0 0 (by omega)).trans (List.getElem?_eq_getElem (by simp [Nb.cells])))⟩
set_option maxHeartbeats 4000000 in
set_option maxRecDepth 100000 in
theorem eqf_any{D:Nat}(ih:SameAt D)(a b:Option Addr)(n m ca cb:Nat)(x y:List Tr)(w:World)(ha:RowN (Nd D w) w a n ca x)(hb:RowN (Nd D w) w b m cb y)(v:Bool)(hv:v=true ↔ x=y) :
  Calls Tryz.prog 118 #[.slice a n ca, .slice b m cb, .func (.func 78) #[] #[]] w fun e w'=>e = .returned (.bool v)∧Below w.heap.size w w':=by
 have e36:∀ args w,(callFunc 78 args).run Tryz.prog w = .ok (.enter 78 args) w:=enters_of Tryz.func78 (by kernel_rfl) rfl
 have hx:Hid (x.length=n):=ha.1
 have hy:Hid (y.length=m):=hb.1
 have mk:=ha.2.1.1
 have mk':=ha.2.1.2.1
 have mi:=hb.2.1.1
 have mi':=hb.2.1.2.1
 unfold maxLen at mk' mi'
 have hA:Hid (RowN (Nd D w) w a n ca x):=ha
 have hB:Hid (RowN (Nd D w) w b m cb y):=hb
 have hV:Hid (v=true ↔ x=y):=hv
 clear ha hb hv
 by_cases hnm:n=m
 ·subst hnm
  go_enter Tryz.func118,Tryz.ntmps118
  go_wp2
  go_loopw [7,8,9,17] (fun _ _ _ s17 wr=>∃ (i:Nat),i≤n∧s17 = .int .i64 i∧Hid (Below w.heap.size w wr)∧Hid (x.take i=y.take i)) (fun _ _ _ i _=>n - (intOf i).toNat)
  case atStart=>exact ⟨0,Nat.zero_le _,rfl,Below.refl _ _,rfl⟩
  case round =>
   obtain ⟨i,him,rfl,hbl,hT⟩:=hrel
   by_cases hlt:i<n
   ·have hz : (i : Int) < (n : Int) := by omega
    have hix:i<x.length:=by rw [hx.out];exact hlt
    have hiy:i<y.length:=by rw [hy.out];exact hlt
    obtain ⟨bk,ok,nk,rfl,hck,hNk,hbk⟩:=row_el hA.out hbl.out hix
    obtain ⟨bi,oi,ni,rfl,hci,hNi,hbi⟩:=row_el hB.out hbl.out hiy
    obtain ⟨f0,f1,f2,f3,f4,f5,f6,f7,f8⟩:=elem_fields hck
    obtain ⟨p0,p1,p2,p3,p4,p5,p6,p7,p8⟩:=elem_fields hci
    have hw:Hid (w.heap.size≤wr.heap.size):=hbl.out.size
    have lk:bk<wr.heap.size:=Nat.lt_of_lt_of_le hbk hbl.out.size
    have li:bi<wr.heap.size:=Nat.lt_of_lt_of_le hbi hbl.out.size
    have b1:=alloc_below wr (.cells nk.arr 26)
    have b2:=alloc_below (wr.alloc (.cells nk.arr 26)) (.cells ni.arr 26)
    have b12:Hid (Below wr.heap.size wr ((wr.alloc (.cells nk.arr 26)).alloc (.cells ni.arr 26))):=b1.trans (b2.mono b1.size)
    have kk:=fun v'=>ih x[i] y[i] nk ni ((wr.alloc (.cells nk.arr 26)).alloc (.cells ni.arr 26)) v' ((hNk.kept b1).kept b2) ((hNi.kept b1).kept b2)
    have wi:IntKind.i64.wrap ((i:Int)+1)=(i:Int)+1:=by rw [IntKind.wrap_i64];omega
    by_cases hE:x[i]=y[i]
    ·have k1 := kk true (by simp [hE])
     have hT':Hid (x.take (i+1)=y.take (i+1)):=by
      show _=_
      rw [List.take_succ_eq_append_getElem hix,List.take_succ_eq_append_getElem hiy,hT.out,hE]
     clear hck hci hNk hNi kk hE b1 b2 hbk hbi ih
     go_wp2_with (go_at_fn 78;refine k1.mono ?_;rintro e w1 ⟨rfl,hb1⟩)
     go_roundw
     case rel=>exact ⟨i+1,by omega,by go_num,(hbl.out.trans (b12.out.mono hw.out)).trans (hb1.mono (Nat.le_trans hw.out b12.out.size)),hT'⟩
     case measure=>simp [intOf];omega
    ·have k1 := kk false (by simp [hE])
     have hv:v=false:=by
      cases hv:v with
      | false=>rfl
      | true =>
       exfalso
       have:=hV.out.1 hv
       subst this
       exact hE rfl
     subst hv
     clear hck hci hNk hNi kk hE b1 b2 hbk hbi ih
     go_wp2_with (go_at_fn 78;refine k1.mono ?_;rintro e w1 ⟨rfl,hb1⟩)
     go_ret
     exact ⟨rfl,(hbl.out.trans (b12.out.mono hw.out)).trans (hb1.mono (Nat.le_trans hw.out b12.out.size))⟩
   ·have hz : ¬ (i : Int) < (n : Int) := by omega
    have hv:v=true:=hV.out.2 (by
     have h1:=hT.out
     rwa [List.take_of_length_le (by rw [hx.out];omega),List.take_of_length_le (by rw [hy.out];omega)] at h1)
    subst hv
    clear ih
    go_wp2
    go_ret
    exact ⟨rfl,hbl.out⟩
 ·have hv : v = false := by
   cases hv:v with
   | false=>rfl
   | true =>
    exfalso
    have h1:=hV.out.1 hv
    apply hnm
    rw [←hx.out,←hy.out,h1]
  subst hv
  have hz:(n:Int)≠(m:Int):=by omega
  clear ih
  go_enter Tryz.func118,Tryz.ntmps118
  go_wp2
  go_ret
  exact ⟨rfl,Below.refl _ _⟩
end Go.Proofs.YtejlaiofpekchaaGreatDoor
namespace Go.Proofs.YtejlaiofpekchaaGreatDoor
open Go.RowKit
set_option linter.unusedVariables false
def FreshR(B D:Nat)(w:World)(a:Option Addr)(n c:Nat)(l:List Tr)(f:List Nat):Prop :=
 RowN (NdS (· ∈ f) D w) w a n c l∧In (· ∈ f) a n∧FrR 26 (FrD 26 D w) w a n f∧f.Nodup∧∀ k∈f,B≤k∧k<w.heap.size
def Fresh(B D:Nat)(w:World)(b:Nb)(t:Tr)(f:List Nat):Prop :=
 NdS (· ∈ f) D w b t∧FrD 26 D w b f∧f.Nodup∧∀ k∈f,B≤k∧k<w.heap.size
theorem Fresh.kept{B D:Nat}{w w':World}{b:Nb}{t:Tr}{f:List Nat}(h:Fresh B D w b t f)(hb:Below w.heap.size w w'):Fresh B D w' b t f :=
 ⟨h.1.below hb fun k hk=>(h.2.2.2 k hk).2,h.2.1.stays fun k hk=>hb.block k (h.2.2.2 k hk).2,h.2.2.1,fun k hk=>⟨(h.2.2.2 k hk).1,Nat.lt_of_lt_of_le (h.2.2.2 k hk).2 hb.size⟩⟩
def CloneAt(D:Nat):Prop:=∀ (t:Tr) (b:Nb) (w:World),Nd D w b t→t.size≤1000000→Calls Tryz.prog 67 #[.agg b.arr] w fun e w'=>(∃ b' f,e = .returned (.agg b'.arr)∧Fresh w.heap.size D w' b' t f)∧Below w.heap.size w w'
def ClAllAt(D:Nat):Prop:=∀ (a:Option Addr) (n c:Nat) (l:List Tr) (w:World),RowN (Nd D w) w a n c l→Tr.sizes l≤1000000→Calls Tryz.prog 97 #[.slice a n c] w fun e w'=>(∃ a' c' f,e = .returned (.slice a' n c')∧FreshR w.heap.size D w' a' n c' l f)∧Below w.heap.size w w'
def ClSt(B D:Nat)(w:World)(v:Value)(l:List Tr)(bs:List Nb)(fs:List (List Nat)):Prop :=
 OwnsN 26 w B v bs∧bs.length=fs.length∧bs.length=l.length∧(∀ j (h:j<bs.length) (h2:j<fs.length) (h3:j<l.length),NdS (· ∈ fs[j]) D w bs[j] l[j]∧FrD 26 D w bs[j] fs[j])∧fs.flatten.Nodup∧∀ k∈fs.flatten,B≤k∧k<w.heap.size∧v.ownBlock≠some k
theorem clSt_nil(B D:Nat)(w:World):ClSt B D w (.slice none 0 0) [] [] []:=⟨ownsN_nil _ _,rfl,rfl,(fun j h=>by cases h),by simp,(fun k hk=>by simp at hk)⟩
theorem ClSt.next{B D B2:Nat}{w w2 w3 w4:World}{v v':Value}{l:List Tr}{bs:List Nb}{fs:List (List Nat)}{x:Tr}{nb:Nb}{f:List Nat}(h:ClSt B D w v l bs fs)(hw2:Below w.heap.size w w2)(hF:Fresh B2 D w2 nb x f)(hB:B≤w.heap.size)(hB2:w.heap.size≤B2)
  (hw3:Below w2.heap.size w2 w3) (ho:OwnsN 26 w4 B v' (bs++[nb])) (hg:w3.grownBy w4 v.ownBlock) (hn:∀ g,v'.ownBlock=some g→v.ownBlock=some g∨w3.heap.size≤g):ClSt B D w4 v' (l++[x]) (bs++[nb]) (fs++[f]):=by
 obtain ⟨h0,h1,h2,h3,h4,h5⟩:=h
 have hlt:=fun g=>World.ownsRow.lt h0 g
 have old:∀ k,k<w.heap.size→v.ownBlock≠some k→w4.heap[k]? = w.heap[k]? := fun k hk hne=>by
  rw [hg.block k (Nat.lt_of_lt_of_le hk (Nat.le_trans hw2.size hw3.size)) (fun e=>hne e.symm),hw3.block k (Nat.lt_of_lt_of_le hk hw2.size),hw2.block k hk]
 have new:∀ k,k∈f→w4.heap[k]? = w2.heap[k]? := fun k hk=>by
  have hk':=hF.2.2.2 k hk
  rw [hg.block k (Nat.lt_of_lt_of_le hk'.2 hw3.size) (fun e=>by have:=(hlt k e.symm).2;omega),hw3.block k hk'.2]
 have hsz:w2.heap.size≤w4.heap.size:=Nat.le_trans hw3.size hg.size
 refine ⟨ho,by simp [h1],by simp [h2],fun j hj hj2 hj3=>?_,?_,fun k hk=>?_⟩
 ·by_cases hjl : j < bs.length
  ·rw [List.getElem_append_left hjl, List.getElem_append_left (by omega), List.getElem_append_left (by omega)]
   have hq:=h3 j hjl (by omega) (by omega)
   have hm:∀ k,k∈fs[j]'(by omega)→k∈fs.flatten:=fun k hk=>List.mem_flatten.2 ⟨_,List.getElem_mem _,hk⟩
   exact ⟨hq.1.stays fun k hk=>old k (h5 k (hm k hk)).2.1 (h5 k (hm k hk)).2.2,hq.2.stays fun k hk=>old k (h5 k (hm k hk)).2.1 (h5 k (hm k hk)).2.2⟩
  ·have e : j = bs.length := by simp at hj; omega
   subst e
   rw [List.getElem_append_right (Nat.le_refl _),List.getElem_append_right (by omega),List.getElem_append_right (by omega)]
   simp only [h1,h2 ▸ h1,Nat.sub_self]
   simp only [List.getElem_cons_zero]
   exact ⟨hF.1.stays new,hF.2.1.stays new⟩
 ·rw [List.flatten_append, List.flatten_cons, List.flatten_nil, List.append_nil]
  refine List.nodup_append.2 ⟨h4,hF.2.2.1,fun x hx y hy e=>?_⟩
  subst e
  have:=(h5 x hx).2.1
  have:=(hF.2.2.2 x hy).1
  omega
 ·rw [List.flatten_append, List.flatten_cons, List.flatten_nil, List.append_nil, List.mem_append] at hk
  rcases hk with hk | hk
  ·have h6 := h5 k hk
   refine ⟨h6.1,by have:=hw2.size;omega,fun e=>?_⟩
   rcases hn k e with e | e
   ·exact h6.2.2 e
   ·have:=hw3.size;have:=hw2.size;omega
  ·have h6 := hF.2.2.2 k hk
   refine ⟨by omega,by omega,fun e=>?_⟩
   rcases hn k e with e | e
   ·have:=(hlt k e).2;omega
   ·have:=hw3.size;omega
theorem ClSt.fin{B D:Nat}{w:World}{v:Value}{l:List Tr}{bs:List Nb}{fs:List (List Nat)}(h:ClSt B D w v l bs fs)(hn:l.length≤1000000):∃ a c f,v = .slice a l.length c∧FreshR B D w a l.length c l f:=by
 obtain ⟨h0,h1,h2,h3,h4,h5⟩:=h
 obtain ⟨a,c,hv,hc,hnine,hnew⟩:=h0.shape
 obtain ⟨hl,hq⟩:=h0
 rcases hq with ⟨rfl,hn0⟩ | ⟨g,cap,cur,rfl,hb,hg,hnc,hcm,hcs,htk⟩
 ·have hb0 : bs = [] := List.eq_nil_of_length_eq_zero hn0
  have hl0:l=[]:=List.eq_nil_of_length_eq_zero (by rw [←h2,hb0];rfl)
  subst hl0
  refine ⟨none,0,[],rfl,⟨rfl,⟨Nat.le_refl _,Nat.zero_le _,fun _=>rfl,by simp⟩, .inl rfl⟩,(fun h=>by cases h), .inl ⟨rfl,rfl⟩,by simp,(fun k hk=>by cases hk)⟩
 ·refine ⟨some ⟨g, 0, none⟩, cap, g :: fs.flatten, by rw [h2], ?_, fun _ x hx => by cases hx; exact List.mem_cons_self, ?_, ?_, fun k hk => ?_⟩
  ·have ha : a = some ⟨g, 0, none⟩ := by simp at hv; exact hv.1.symm
   rw [ha] at hnine
   refine rowN_of hnine h2 rfl ⟨by omega,hcm,fun h=>(by cases h),by omega⟩ fun i hi hi2=>?_
   exact (h3 i hi (by omega) hi2).1.mono fun k hk=>List.mem_cons_of_mem _ (List.mem_flatten.2 ⟨_,List.getElem_mem (by omega),hk⟩)
  ·refine .inr ⟨g, cur, fs, rfl, rfl, hg, by rw [hcs]; omega, by omega, fun i hi => ⟨bs[i]'(by omega), fun j hj => ?_, (h3 i (by omega) hi (by omega)).2⟩⟩
   rw [←Array.getElem?_toList,←cs_get bs (by omega) hj,←htk,List.getElem?_take,if_pos (by omega)]
  ·refine List.nodup_cons.2 ⟨fun hm=>(h5 g hm).2.2 rfl,h4⟩
  ·rcases List.mem_cons.1 hk with rfl | hk
   ·exact ⟨hb,(Array.getElem?_eq_some_iff.1 hg).1⟩
   ·exact ⟨(h5 k hk).1,(h5 k hk).2.1⟩
theorem nine_one(w:World)(nb:Nb):Nine (w.alloc (.cells nb.arr 26)) (some ⟨w.heap.size,0,none⟩) [nb]:=by
 refine .inr ⟨w.heap.size,0,rfl,fun i hi j hj=>?_⟩
 have e:i=0:=by simp at hi;omega
 subst e
 rw [Nat.zero_add,Nat.zero_mul,Nat.zero_add]
 exact (nbox_new w nb).cell j
set_option maxHeartbeats 800000 in
set_option maxRecDepth 100000 in
theorem clall_step{D:Nat}(ih:CloneAt D):ClAllAt D:=by
 intro a n c l w hl hsz
 have hx:Hid (l.length=n):=hl.1
 have mk:=hl.2.1.1
 have mk':=hl.2.1.2.1
 unfold maxLen at mk'
 have hA:Hid (RowN (Nd D w) w a n c l):=hl
 have hS:Hid (Tr.sizes l≤1000000):=hsz
 have hn:Hid (l.length≤1000000):=Nat.le_trans (Tr.length_le l) hsz
 clear hl hsz
 go_enter Tryz.func97,Tryz.ntmps97
 go_wp2
 go_loopw [3,5,8] (fun s3 _ s8 wr=>∃ (i:Nat) (v:Value) (bs:List Nb) (fs:List (List Nat)),i≤n∧s3=v∧s8 = .int .i64 i∧Hid (Below w.heap.size w wr)∧Hid (ClSt w.heap.size D wr v (l.take i) bs fs)) (fun _ _ i _=>n - (intOf i).toNat)
 case atStart=>exact ⟨0,_,[],[],Nat.zero_le _,rfl,rfl,Below.refl _ _,clSt_nil _ _ _⟩
 case round =>
  obtain ⟨i,v,bs,fs,him,rfl,rfl,hbl,hC⟩:=hrel
  by_cases hlt:i<n
  ·have hz : (i : Int) < (n : Int) := by omega
   have hix:i<l.length:=by rw [hx.out];exact hlt
   obtain ⟨bk,ok,nk,rfl,hck,hNk,hbk⟩:=row_el hA.out hbl.out hix
   obtain ⟨f0,f1,f2,f3,f4,f5,f6,f7,f8⟩:=elem_fields hck
   have hal:=alloc_below wr (.cells nk.arr 26)
   have hB:Hid (Below wr.heap.size wr (wr.alloc (.cells nk.arr 26))):=hal
   have kk:=ih l[i] nk (wr.alloc (.cells nk.arr 26)) (hNk.kept hal) (Nat.le_trans (Tr.size_le (List.getElem_mem hix)) hS.out)
   have wi:IntKind.i64.wrap ((i:Int)+1)=(i:Int)+1:=by rw [IntKind.wrap_i64];omega
   have htk:Hid (l.take (i+1)=l.take i++[l[i]]):=List.take_succ_eq_append_getElem hix
   have hbl':Hid (bs.length≤1000000):=by show _≤_;rw [hC.out.2.2.1,List.length_take];have:=hn.out;omega
   generalize l[i]=x at *
   clear hck hNk hbk hal
   go_wp2_with (first
    | (go_at_call 67;refine kk.mono ?_;rintro e w2 ⟨⟨b',f,he,hF⟩,hb2⟩;rw [Nb.arr] at he;subst he)
    | (at_builtin;refine wpList_append_new Tryz.underlying24 infoN rfl _ (.tmp 15) rfl w.heap.size u3 bs [b'] rfl (hC.out.1.below ((hB.out.trans (hb2.mono hB.out.size)).trans ((alloc_below w2 (.cells b'.arr 26)).mono (Nat.le_trans hB.out.size hb2.size)))) ⟨w2.heap.size,0,none⟩ 1 1 rfl rfl (by decide) (nine_one w2 b') (by have:=hbl'.out;simp;omega) (Nat.le_trans hbl.out.size (Nat.le_trans hB.out.size (Nat.le_trans hb2.size (alloc_below w2 (.cells b'.arr 26)).size))) ?_;intro v4 w4 ho4 hg4 hn4;have hst:Hid _:=hC.out.next (hB.out.trans (hb2.mono hB.out.size)) hF hbl.out.size hB.out.size (alloc_below w2 (.cells b'.arr 26)) ho4 hg4 hn4;have hbw:Hid (Below w.heap.size w w4):=grownN_below ((hbl.out.trans ((hB.out.trans (hb2.mono hB.out.size)).mono hbl.out.size)).trans ((alloc_below w2 (.cells b'.arr 26)).mono (Nat.le_trans hbl.out.size (Nat.le_trans hB.out.size hb2.size)))) (hC.out.1.below ((hB.out.trans (hb2.mono hB.out.size)).trans ((alloc_below w2 (.cells b'.arr 26)).mono (Nat.le_trans hB.out.size hb2.size)))) hg4 (Nat.le_trans hbl.out.size (Nat.le_trans hB.out.size (Nat.le_trans hb2.size (alloc_below w2 (.cells b'.arr 26)).size)));clear ho4 hg4 hn4))
   go_roundw
   case rel=>exact ⟨i+1,v4,bs++[b'],fs++[f],by omega,rfl,by go_num,hbw,by rw [htk.out];exact hst⟩
   case measure=>simp [intOf];omega
  ·have hz : ¬ (i : Int) < (n : Int) := by omega
   obtain ⟨a',c',f,hv,hF⟩:=hC.out.fin (by rw [List.length_take];have:=hn.out;omega)
   have hln:(l.take i).length=n:=by rw [List.length_take,hx.out];omega
   rw [hln] at hv hF
   rw [List.take_of_length_le (by rw [hx.out];omega)] at hF
   have hF':Hid (FreshR w.heap.size D wr a' n c' l f):=hF
   subst hv
   clear hF hln hC
   go_wp2
   go_ret
   exact ⟨⟨a',c',rfl,f,hF'.out⟩,hbl.out⟩
end Go.Proofs.YtejlaiofpekchaaGreatDoor
namespace Go.Proofs.YtejlaiofpekchaaGreatDoor
open Go Go.Proofs Go.Shelf
def lays161_ren:Go.Shelf.Ren:=⟨fun | 161=>136 | 231=>157 | 227=>158 | 233=>159 | 235=>160 | 228=>175 | 197=>176 | 151=>177 | 260=>185 | 152=>186 | 137=>125 | 119=>198 | 224=>199 | 225=>200 | 217=>153 | 266=>174 | n=>n,fun | 9=>9 | 4=>4 | 3=>3 | 5=>5 | 117=>181 | 116=>180 | 0=>0 | 124=>184 | 105=>192 | 21=>21 | 119=>217 | 46=>98 | 139=>220 | 138=>219 | n=>n,fun | 3=>1 | 4=>2 | n=>n⟩
theorem lays161:Go.Proofs.Lays.n161 Tryz.prog lays161_ren:={
 mixed:=by kernel_rfl
 f119:=Tryz.func198.trans (congrArg some (by kernel_rfl))
 f137:=Tryz.func125.trans (congrArg some (by kernel_rfl))
 f151:=Tryz.func177.trans (congrArg some (by kernel_rfl))
 f152:=Tryz.func186.trans (congrArg some (by kernel_rfl))
 f161:=Tryz.func136.trans (congrArg some (by kernel_rfl))
 f197:=Tryz.func176.trans (congrArg some (by kernel_rfl))
 f217:=Tryz.func153.trans (congrArg some (by kernel_rfl))
 f224:=Tryz.func199.trans (congrArg some (by kernel_rfl))
 f225:=Tryz.func200.trans (congrArg some (by kernel_rfl))
 f227:=Tryz.func158.trans (congrArg some (by kernel_rfl))
 f228:=Tryz.func175.trans (congrArg some (by kernel_rfl))
 f231:=Tryz.func157.trans (congrArg some (by kernel_rfl))
 f233:=Tryz.func159.trans (congrArg some (by kernel_rfl))
 f235:=Tryz.func160.trans (congrArg some (by kernel_rfl))
 f260:=Tryz.func185.trans (congrArg some (by kernel_rfl))
 f266:=Tryz.func174.trans (congrArg some (by kernel_rfl))
 t0:=Tryz.underlying0
 a0:=Tryz.isAgg0
 z0:=Tryz.sizeOf0
 v0:=Tryz.zeroValue0
 t3:=Tryz.underlying3
 a3:=Tryz.isAgg3
 z3:=Tryz.sizeOf3
 v3:=Tryz.zeroValue3
 t4:=Tryz.underlying4
 a4:=Tryz.isAgg4
 z4:=Tryz.sizeOf4
 v4:=Tryz.zeroValue4
 t5:=Tryz.underlying5
 a5:=Tryz.isAgg5
 z5:=Tryz.sizeOf5
 v5:=Tryz.zeroValue5
 t9:=Tryz.underlying9
 a9:=Tryz.isAgg9
 z9:=Tryz.sizeOf9
 v9:=Tryz.zeroValue9
 t21:=Tryz.underlying21
 a21:=Tryz.isAgg21
 z21:=Tryz.sizeOf21
 v21:=Tryz.zeroValue21
 t46:=Tryz.underlying98
 a46:=Tryz.isAgg98
 z46:=Tryz.sizeOf98
 v46:=Tryz.zeroValue98
 t105:=Tryz.underlying192
 a105:=Tryz.isAgg192
 z105:=Tryz.sizeOf192
 v105:=Tryz.zeroValue192
 t116:=Tryz.underlying180
 a116:=Tryz.isAgg180
 z116:=Tryz.sizeOf180
 t117:=Tryz.underlying181
 a117:=Tryz.isAgg181
 z117:=Tryz.sizeOf181
 v117:=Tryz.zeroValue181
 t119:=Tryz.underlying217
 a119:=Tryz.isAgg217
 z119:=Tryz.sizeOf217
 t124:=Tryz.underlying184
 a124:=Tryz.isAgg184
 z124:=Tryz.sizeOf184
 v124:=Tryz.zeroValue184
 t138:=Tryz.underlying219
 a138:=Tryz.isAgg219
 z138:=Tryz.sizeOf219
 v138:=Tryz.zeroValue219
 t139:=Tryz.underlying220
 a139:=Tryz.isAgg220
 z139:=Tryz.sizeOf220
 v139:=Tryz.zeroValue220
 g3:=by kernel_rfl
 g4:=by kernel_rfl }
def lays162_ren:Go.Shelf.Ren:=⟨fun | 162=>138 | 232=>161 | 227=>158 | 234=>162 | 236=>163 | 228=>175 | 271=>178 | 151=>177 | 120=>187 | 197=>176 | 152=>186 | 260=>185 | 137=>125 | 119=>198 | 224=>199 | 225=>200 | 217=>153 | 266=>174 | n=>n,fun | 9=>9 | 4=>4 | 3=>3 | 5=>5 | 117=>181 | 116=>180 | 0=>0 | 124=>184 | 21=>21 | 105=>192 | 46=>98 | 119=>217 | 139=>220 | 138=>219 | n=>n,fun | 3=>1 | 4=>2 | n=>n⟩
theorem lays162:Go.Proofs.Lays.n162 Tryz.prog lays162_ren:={
 mixed:=by kernel_rfl
 f119:=Tryz.func198.trans (congrArg some (by kernel_rfl))
 f120:=Tryz.func187.trans (congrArg some (by kernel_rfl))
 f137:=Tryz.func125.trans (congrArg some (by kernel_rfl))
 f151:=Tryz.func177.trans (congrArg some (by kernel_rfl))
 f152:=Tryz.func186.trans (congrArg some (by kernel_rfl))
 f162:=Tryz.func138.trans (congrArg some (by kernel_rfl))
 f197:=Tryz.func176.trans (congrArg some (by kernel_rfl))
 f217:=Tryz.func153.trans (congrArg some (by kernel_rfl))
 f224:=Tryz.func199.trans (congrArg some (by kernel_rfl))
 f225:=Tryz.func200.trans (congrArg some (by kernel_rfl))
 f227:=Tryz.func158.trans (congrArg some (by kernel_rfl))
 f228:=Tryz.func175.trans (congrArg some (by kernel_rfl))
 f232:=Tryz.func161.trans (congrArg some (by kernel_rfl))
 f234:=Tryz.func162.trans (congrArg some (by kernel_rfl))
 f236:=Tryz.func163.trans (congrArg some (by kernel_rfl))
 f260:=Tryz.func185.trans (congrArg some (by kernel_rfl))
 f266:=Tryz.func174.trans (congrArg some (by kernel_rfl))
 f271:=Tryz.func178.trans (congrArg some (by kernel_rfl))
 t0:=Tryz.underlying0
 a0:=Tryz.isAgg0
 z0:=Tryz.sizeOf0
 v0:=Tryz.zeroValue0
 t3:=Tryz.underlying3
 a3:=Tryz.isAgg3
 z3:=Tryz.sizeOf3
 v3:=Tryz.zeroValue3
 t4:=Tryz.underlying4
 a4:=Tryz.isAgg4
 z4:=Tryz.sizeOf4
 v4:=Tryz.zeroValue4
 t5:=Tryz.underlying5
 a5:=Tryz.isAgg5
 z5:=Tryz.sizeOf5
 v5:=Tryz.zeroValue5
 t9:=Tryz.underlying9
 a9:=Tryz.isAgg9
 z9:=Tryz.sizeOf9
 v9:=Tryz.zeroValue9
 t21:=Tryz.underlying21
 a21:=Tryz.isAgg21
 z21:=Tryz.sizeOf21
 v21:=Tryz.zeroValue21
 t46:=Tryz.underlying98
 a46:=Tryz.isAgg98
 z46:=Tryz.sizeOf98
 v46:=Tryz.zeroValue98
 t105:=Tryz.underlying192
 a105:=Tryz.isAgg192
 z105:=Tryz.sizeOf192
 v105:=Tryz.zeroValue192
 t116:=Tryz.underlying180
 a116:=Tryz.isAgg180
 z116:=Tryz.sizeOf180
 t117:=Tryz.underlying181
 a117:=Tryz.isAgg181
 z117:=Tryz.sizeOf181
 v117:=Tryz.zeroValue181
 t119:=Tryz.underlying217
 a119:=Tryz.isAgg217
 z119:=Tryz.sizeOf217
 t124:=Tryz.underlying184
 a124:=Tryz.isAgg184
 z124:=Tryz.sizeOf184
 v124:=Tryz.zeroValue184
 t138:=Tryz.underlying219
 a138:=Tryz.isAgg219
 z138:=Tryz.sizeOf219
 v138:=Tryz.zeroValue219
 t139:=Tryz.underlying220
 a139:=Tryz.isAgg220
 z139:=Tryz.sizeOf220
 v139:=Tryz.zeroValue220
 g3:=by kernel_rfl
 g4:=by kernel_rfl }
def lays283_ren:Go.Shelf.Ren:=⟨fun | 283=>194 | n=>n,fun | 3=>3 | 9=>9 | 4=>4 | n=>n,fun | n=>n⟩
theorem lays283:Go.Proofs.Lays.n283 Tryz.prog lays283_ren:={
 mixed:=by kernel_rfl
 f283:=Tryz.func194.trans (congrArg some (by kernel_rfl))
 t3:=Tryz.underlying3
 a3:=Tryz.isAgg3
 z3:=Tryz.sizeOf3
 v3:=Tryz.zeroValue3
 t4:=Tryz.underlying4
 a4:=Tryz.isAgg4
 z4:=Tryz.sizeOf4
 v4:=Tryz.zeroValue4
 t9:=Tryz.underlying9
 a9:=Tryz.isAgg9
 z9:=Tryz.sizeOf9
 v9:=Tryz.zeroValue9 }
def laysM284_ren:Go.Shelf.Ren:=⟨fun | 284=>195 | 129=>206 | 317=>205 | 318=>207 | n=>n,fun | 53=>22 | 3=>3 | 212=>226 | 0=>0 | 4=>4 | 46=>98 | 5=>5 | 9=>9 | n=>n,fun | 17=>3 | n=>n⟩
theorem laysM284:Go.Proofs.LaysM.n284 Tryz.prog laysM284_ren:={
 mixed:=by kernel_rfl
 f129:=Tryz.func206.trans (congrArg some (by kernel_rfl))
 f284:=Tryz.func195.trans (congrArg some (by kernel_rfl))
 f317:=Tryz.func205.trans (congrArg some (by kernel_rfl))
 f318:=Tryz.func207.trans (congrArg some (by kernel_rfl))
 t0:=Tryz.underlying0
 a0:=Tryz.isAgg0
 z0:=Tryz.sizeOf0
 v0:=Tryz.zeroValue0
 t3:=Tryz.underlying3
 a3:=Tryz.isAgg3
 z3:=Tryz.sizeOf3
 v3:=Tryz.zeroValue3
 t4:=Tryz.underlying4
 a4:=Tryz.isAgg4
 z4:=Tryz.sizeOf4
 v4:=Tryz.zeroValue4
 t5:=Tryz.underlying5
 a5:=Tryz.isAgg5
 z5:=Tryz.sizeOf5
 v5:=Tryz.zeroValue5
 t9:=Tryz.underlying9
 a9:=Tryz.isAgg9
 z9:=Tryz.sizeOf9
 v9:=Tryz.zeroValue9
 t46:=Tryz.underlying98
 a46:=Tryz.isAgg98
 z46:=Tryz.sizeOf98
 v46:=Tryz.zeroValue98
 t53:=Tryz.underlying22
 a53:=Tryz.isAgg22
 z53:=Tryz.sizeOf22
 v53:=Tryz.zeroValue22
 t212:=Tryz.underlying226
 a212:=Tryz.isAgg226
 z212:=Tryz.sizeOf226
 v212:=Tryz.zeroValue226
 g17:=by kernel_rfl
 i0:=by kernel_rfl
 i3:=by kernel_rfl
 i4:=by kernel_rfl
 i5:=by kernel_rfl
 i9:=by kernel_rfl
 i46:=by kernel_rfl
 i53:=by kernel_rfl
 i212:=by kernel_rfl
 m17:=by kernel_rfl }
def lays285_ren:Go.Shelf.Ren:=⟨fun | 285=>196 | n=>n,fun | 37=>23 | 53=>22 | 3=>3 | 4=>4 | 51=>166 | 9=>9 | 5=>5 | 0=>0 | n=>n,fun | n=>n⟩
theorem lays285:Go.Proofs.Lays.n285 Tryz.prog lays285_ren:={
 mixed:=by kernel_rfl
 f285:=Tryz.func196.trans (congrArg some (by kernel_rfl))
 t0:=Tryz.underlying0
 a0:=Tryz.isAgg0
 z0:=Tryz.sizeOf0
 v0:=Tryz.zeroValue0
 t3:=Tryz.underlying3
 a3:=Tryz.isAgg3
 z3:=Tryz.sizeOf3
 v3:=Tryz.zeroValue3
 t4:=Tryz.underlying4
 a4:=Tryz.isAgg4
 z4:=Tryz.sizeOf4
 v4:=Tryz.zeroValue4
 t5:=Tryz.underlying5
 a5:=Tryz.isAgg5
 z5:=Tryz.sizeOf5
 v5:=Tryz.zeroValue5
 t9:=Tryz.underlying9
 a9:=Tryz.isAgg9
 z9:=Tryz.sizeOf9
 v9:=Tryz.zeroValue9
 t37:=Tryz.underlying23
 a37:=Tryz.isAgg23
 z37:=Tryz.sizeOf23
 v37:=Tryz.zeroValue23
 t51:=Tryz.underlying166
 a51:=Tryz.isAgg166
 z51:=Tryz.sizeOf166
 v51:=Tryz.zeroValue166
 t53:=Tryz.underlying22
 a53:=Tryz.isAgg22
 z53:=Tryz.sizeOf22
 v53:=Tryz.zeroValue22 }
def laysM316_ren:Go.Shelf.Ren:=⟨fun | 316=>130 | n=>n,fun | 9=>9 | 3=>3 | 4=>4 | 37=>23 | 0=>0 | 127=>171 | 5=>5 | n=>n,fun | n=>n⟩
theorem laysM316:Go.Proofs.LaysM.n316 Tryz.prog laysM316_ren:={
 mixed:=by kernel_rfl
 f316:=Tryz.func130.trans (congrArg some (by kernel_rfl))
 t0:=Tryz.underlying0
 a0:=Tryz.isAgg0
 z0:=Tryz.sizeOf0
 v0:=Tryz.zeroValue0
 t3:=Tryz.underlying3
 a3:=Tryz.isAgg3
 z3:=Tryz.sizeOf3
 v3:=Tryz.zeroValue3
 t4:=Tryz.underlying4
 a4:=Tryz.isAgg4
 z4:=Tryz.sizeOf4
 v4:=Tryz.zeroValue4
 t9:=Tryz.underlying9
 a9:=Tryz.isAgg9
 z9:=Tryz.sizeOf9
 v9:=Tryz.zeroValue9
 t37:=Tryz.underlying23
 a37:=Tryz.isAgg23
 z37:=Tryz.sizeOf23
 v37:=Tryz.zeroValue23
 t127:=Tryz.underlying171
 a127:=Tryz.isAgg171
 z127:=Tryz.sizeOf171
 v127:=Tryz.zeroValue171
 t5:=Tryz.underlying5
 a5:=Tryz.isAgg5
 z5:=Tryz.sizeOf5
 v5:=Tryz.zeroValue5
 i0:=by kernel_rfl
 i3:=by kernel_rfl
 i4:=by kernel_rfl
 i5:=by kernel_rfl
 i9:=by kernel_rfl
 i37:=by kernel_rfl
 i127:=by kernel_rfl }
def lays217_ren:Go.Shelf.Ren:=⟨fun | 217=>153 | 266=>174 | n=>n,fun | 9=>9 | 5=>5 | 3=>3 | n=>n,fun | n=>n⟩
theorem lays217:Go.Proofs.Lays.n217 Tryz.prog lays217_ren:={
 mixed:=by kernel_rfl
 f217:=Tryz.func153.trans (congrArg some (by kernel_rfl))
 f266:=Tryz.func174.trans (congrArg some (by kernel_rfl))
 t3:=Tryz.underlying3
 a3:=Tryz.isAgg3
 z3:=Tryz.sizeOf3
 v3:=Tryz.zeroValue3
 t5:=Tryz.underlying5
 a5:=Tryz.isAgg5
 z5:=Tryz.sizeOf5
 v5:=Tryz.zeroValue5
 t9:=Tryz.underlying9
 a9:=Tryz.isAgg9
 z9:=Tryz.sizeOf9
 v9:=Tryz.zeroValue9 }
def lays99_ren:Go.Shelf.Ren:=⟨fun | 99=>105 | 206=>144 | n=>n,fun | 9=>9 | 4=>4 | 3=>3 | n=>n,fun | n=>n⟩
def lays100_ren:Go.Shelf.Ren:=⟨fun | 100=>150 | 207=>170 | n=>n,fun | 9=>9 | 4=>4 | 3=>3 | n=>n,fun | n=>n⟩
theorem lays100:Go.Proofs.Lays.n100 Tryz.prog lays100_ren:={
 mixed:=by kernel_rfl
 f100:=Tryz.func150.trans (congrArg some (by kernel_rfl))
 f207:=Tryz.func170.trans (congrArg some (by kernel_rfl))
 t3:=Tryz.underlying3
 a3:=Tryz.isAgg3
 z3:=Tryz.sizeOf3
 v3:=Tryz.zeroValue3
 t4:=Tryz.underlying4
 a4:=Tryz.isAgg4
 z4:=Tryz.sizeOf4
 v4:=Tryz.zeroValue4
 t9:=Tryz.underlying9
 a9:=Tryz.isAgg9
 z9:=Tryz.sizeOf9
 v9:=Tryz.zeroValue9 }
def lays105_ren:Go.Shelf.Ren:=⟨fun | 105=>69 | 212=>104 | 99=>105 | 165=>106 | 166=>107 | 170=>108 | 169=>109 | 263=>142 | 264=>143 | 206=>144 | 240=>145 | 241=>146 | 276=>168 | 277=>169 | n=>n,fun | 9=>9 | 3=>3 | 4=>4 | 20=>20 | 0=>0 | 46=>98 | 109=>127 | 5=>5 | 72=>132 | 76=>136 | 51=>166 | 146=>167 | 53=>22 | 148=>169 | 70=>130 | 37=>23 | 75=>135 | 127=>171 | 164=>188 | 80=>139 | n=>n,fun | n=>n⟩
theorem lays105:Go.Proofs.Lays.n105 Tryz.prog lays105_ren:={
 mixed:=by kernel_rfl
 f99:=Tryz.func105.trans (congrArg some (by kernel_rfl))
 f105:=Tryz.func69.trans (congrArg some (by kernel_rfl))
 f165:=Tryz.func106.trans (congrArg some (by kernel_rfl))
 f166:=Tryz.func107.trans (congrArg some (by kernel_rfl))
 f169:=Tryz.func109.trans (congrArg some (by kernel_rfl))
 f170:=Tryz.func108.trans (congrArg some (by kernel_rfl))
 f206:=Tryz.func144.trans (congrArg some (by kernel_rfl))
 f212:=Tryz.func104.trans (congrArg some (by kernel_rfl))
 f240:=Tryz.func145.trans (congrArg some (by kernel_rfl))
 f241:=Tryz.func146.trans (congrArg some (by kernel_rfl))
 f263:=Tryz.func142.trans (congrArg some (by kernel_rfl))
 f264:=Tryz.func143.trans (congrArg some (by kernel_rfl))
 f276:=Tryz.func168.trans (congrArg some (by kernel_rfl))
 f277:=Tryz.func169.trans (congrArg some (by kernel_rfl))
 t0:=Tryz.underlying0
 a0:=Tryz.isAgg0
 z0:=Tryz.sizeOf0
 v0:=Tryz.zeroValue0
 t3:=Tryz.underlying3
 a3:=Tryz.isAgg3
 z3:=Tryz.sizeOf3
 v3:=Tryz.zeroValue3
 t4:=Tryz.underlying4
 a4:=Tryz.isAgg4
 z4:=Tryz.sizeOf4
 v4:=Tryz.zeroValue4
 t5:=Tryz.underlying5
 a5:=Tryz.isAgg5
 z5:=Tryz.sizeOf5
 v5:=Tryz.zeroValue5
 t9:=Tryz.underlying9
 a9:=Tryz.isAgg9
 z9:=Tryz.sizeOf9
 v9:=Tryz.zeroValue9
 t20:=Tryz.underlying20
 a20:=Tryz.isAgg20
 z20:=Tryz.sizeOf20
 v20:=Tryz.zeroValue20
 t37:=Tryz.underlying23
 a37:=Tryz.isAgg23
 z37:=Tryz.sizeOf23
 v37:=Tryz.zeroValue23
 t46:=Tryz.underlying98
 a46:=Tryz.isAgg98
 z46:=Tryz.sizeOf98
 v46:=Tryz.zeroValue98
 t51:=Tryz.underlying166
 a51:=Tryz.isAgg166
 z51:=Tryz.sizeOf166
 v51:=Tryz.zeroValue166
 t53:=Tryz.underlying22
 a53:=Tryz.isAgg22
 z53:=Tryz.sizeOf22
 v53:=Tryz.zeroValue22
 t70:=Tryz.underlying130
 a70:=Tryz.isAgg130
 z70:=Tryz.sizeOf130
 v70:=Tryz.zeroValue130
 t72:=Tryz.underlying132
 a72:=Tryz.isAgg132
 z72:=Tryz.sizeOf132
 v72:=Tryz.zeroValue132
 t75:=Tryz.underlying135
 a75:=Tryz.isAgg135
 z75:=Tryz.sizeOf135
 v75:=Tryz.zeroValue135
 t76:=Tryz.underlying136
 a76:=Tryz.isAgg136
 z76:=Tryz.sizeOf136
 v76:=Tryz.zeroValue136
 t109:=Tryz.underlying127
 a109:=Tryz.isAgg127
 z109:=Tryz.sizeOf127
 v109:=Tryz.zeroValue127
 t127:=Tryz.underlying171
 a127:=Tryz.isAgg171
 z127:=Tryz.sizeOf171
 v127:=Tryz.zeroValue171
 t146:=Tryz.underlying167
 a146:=Tryz.isAgg167
 z146:=Tryz.sizeOf167
 v146:=Tryz.zeroValue167
 t148:=Tryz.underlying169
 a148:=Tryz.isAgg169
 z148:=Tryz.sizeOf169
 v148:=Tryz.zeroValue169
 t164:=Tryz.underlying188
 a164:=Tryz.isAgg188
 z164:=Tryz.sizeOf188
 v164:=Tryz.zeroValue188 }
theorem Extra_105:Builder.Extra Tryz.prog lays105_ren:={
 sizeBuilder:=by kernel_rfl
 liesBuilder:=by kernel_rfl
 t5:=Tryz.underlying5
 a5:=Tryz.isAgg5
 z5:=Tryz.sizeOf5
 v5:=Tryz.zeroValue5
 infoByte:=by kernel_rfl
 cellsByte:=by kernel_rfl
 sizeByte:=by kernel_rfl
 neB5:=by decide }
end Go.Proofs.YtejlaiofpekchaaGreatDoor
namespace Go.Proofs.YtejlaiofpekchaaGreatDoor
open Go.RowKit
theorem bs_at(s:ByteArray){k:Nat}(h:k<s.size):(bs s).getD k 0=(((s[k]'h).toNat:Nat):Int):=by
 unfold bs
 rw [List.getD_eq_getElem?_getD,List.getElem?_map,Array.getElem?_toList,Array.getElem?_eq_getElem (by exact h)]
 rfl
theorem not_empty{s:ByteArray}(h:0<s.size):s.toList.isEmpty=false:=by
 rw [ByteArray.toList_eq]
 cases h1:s.data.toList with
 | nil =>
  have h2:=congrArg List.length h1
  rw [Array.length_toList] at h2
  have h3:s.size=0:=h2
  omega
 | cons a l=>rfl
theorem empty_size{s:ByteArray}(h:s.size=0):s=noS:=by
 have h1:s.data.toList=[]:=List.eq_nil_of_length_eq_zero (by rw [Array.length_toList];exact h)
 have h2:bs s=bs noS:=by unfold bs;rw [h1];rfl
 exact bs_inj h2
theorem zero_first{s:ByteArray}(hz:(bs s).getD 0 0=48):(s.toList==[48])=rt s:=by
 have e:s.toList=[48] ↔ s.size=1:=by
  constructor
  ·intro h
   rw [ByteArray.toList_eq] at h
   have h2:=congrArg List.length h
   rw [Array.length_toList] at h2
   exact h2
  ·intro h
   have h2:bs s=bs ⟨#[48]⟩:=by
    have hl:(bs s).length=1:=by rw [bs_len];exact h
    match hb:bs s,hl with
    | [c],_ =>
     rw [hb] at hz
     have hc:c=48:=hz
     rw [hc];rfl
   rw [bs_inj h2,ByteArray.toList_eq]
 rw [Bool.eq_iff_iff,beq_iff_eq,e,rt_iff]
 constructor
 ·intro h
  have hl:(bs s).length=1:=by rw [bs_len];exact h
  refine ⟨⟨fun h2=>(by rw [h2] at hl;cases hl),fun c hc=>?_,fun _=>hl⟩,by omega⟩
  match hb:bs s,hl with
  | [x],_ =>
   rw [hb] at hz hc
   have hx:x=48:=hz
   simp only [List.mem_cons,List.not_mem_nil,or_false] at hc
   omega
 ·intro h
  have:=h.1.2.2 hz
  rwa [bs_len] at this
theorem not_digs{s:ByteArray}{k:Nat}(hk:k<s.size)(h:(bs s).getD k 0<48∨57<(bs s).getD k 0):rt s=false:=by
 refine rt_not fun hr=>?_
 have h1:k<(bs s).length:=by rw [bs_len];exact hk
 rw [List.getD_eq_getElem?_getD,List.getElem?_eq_getElem h1] at h
 have h2:=hr.1.2.1 _ (List.getElem_mem h1)
 simp only [Option.getD_some] at h
 omega
theorem all_digs{s:ByteArray}(h0:0<s.size)(h1:s.size≤800)(hz:(bs s).getD 0 0≠48∨s.size=1)(h:∀ c∈(bs s).take s.size,48≤c∧c≤57):rt s=true:=by
 rw [rt_iff]
 rw [List.take_of_length_le (by rw [bs_len];exact Nat.le_refl _)] at h
 refine ⟨⟨fun h2=>?_,h,fun h2=>?_⟩,by rw [bs_len];exact h1⟩
 ·have := bs_len s
  rw [h2,List.length_nil] at this
  omega
 ·rcases hz with h3 | h3
  ·exact absurd h2 h3
  ·rw [bs_len];exact h3
theorem take_digs{l:List Int}{k:Nat}(h:∀ c∈l.take k,48≤c∧c≤57)(hk:k<l.length)(hc:48≤l.getD k 0∧l.getD k 0≤57):∀ c∈l.take (k+1),48≤c∧c≤57:=by
 intro c hm
 rw [List.take_succ_eq_append_getElem hk] at hm
 rcases List.mem_append.1 hm with h1 | h1
 ·exact h c h1
 ·simp only [List.mem_cons, List.not_mem_nil, or_false] at h1
  rw [List.getD_eq_getElem?_getD,List.getElem?_eq_getElem hk] at hc
  rw [h1];exact hc
set_option maxHeartbeats 400000 in
theorem right_any(s:ByteArray)(w:World):Calls Tryz.prog 114 #[.string s] w fun e w'=>e = .returned (.bool (rt s))∧w'=w:=by
 by_cases h0:s.size=0
 ·obtain rfl := empty_size h0
  have hr:rt noS=false:=rfl
  rw [hr]
  unfold noS
  go_enter Tryz.func114,Tryz.ntmps114
  go_wp2
  go_ret
  exact ⟨rfl,rfl⟩
 have he:=not_empty (s:=s) (by omega)
 by_cases h1:800<s.size
 ·have hr : rt s = false := rt_not fun h => by have := h.2; rw [bs_len] at this; omega
  rw [hr]
  have d1:decide (800<((s.size:Nat):Int))=true:=by simp;omega
  clear h0 h1
  go_enter Tryz.func114,Tryz.ntmps114
  go_wp2
  go_ret
  exact ⟨rfl,rfl⟩
 have d1:decide (800<((s.size:Nat):Int))=false:=by simp;omega
 have b0:=bs_at s (k:=0) (by omega)
 have hp:0<s.size:=by omega
 by_cases hz:(bs s).getD 0 0=48
 ·have hr : Hid ((s.toList == [48]) = rt s) := zero_first hz
  have e0:(((s[0]'hp).toNat:Nat):Int)=48:=by rw [←b0,hz]
  clear b0 hz h0 h1
  generalize rt s=R at *
  go_enter Tryz.func114,Tryz.ntmps114
  go_wp2
  go_ret
  exact ⟨by rw [hr.out];rfl,rfl⟩
 have e0:((((s[0]'hp).toNat:Nat):Int)==48)=false:=by rw [←b0];simpa using hz
 have hall:Hid (∀ k,k<s.size→(bs s).getD k 0<48∨57<(bs s).getD k 0→rt s=false):=fun k hk h=>not_digs hk h
 have hend:Hid ((∀ c∈(bs s).take s.size,48≤c∧c≤57)→rt s=true):=all_digs (by omega) (by omega) (.inl hz)
 clear b0 hz
 generalize rt s=R at *
 go_enter Tryz.func114,Tryz.ntmps114
 go_wp2
 go_loop [18] (fun v=>∃ k:Nat,k≤s.size∧v = .int .i64 k∧Hid (∀ c∈(bs s).take k,48≤c∧c≤57)) (fun v=>s.size - (intOf v).toNat)
 case atStart=>exact ⟨0,Nat.zero_le _,rfl,(by intro c hc;simp at hc)⟩
 case round =>
  obtain ⟨k,hk,rfl,hd⟩:=hrel
  by_cases hlt:k<s.size
  ·have bk := bs_at s hlt
   have hC:Hid (_→_→_):=fun h1 h2=>take_digs hd.out (by rw [bs_len];exact hlt) ⟨h1,h2⟩
   have hN:=hall.out k hlt
   by_cases hA:(bs s).getD k 0<48
   ·have d2 : decide ((((s[k]'hlt).toNat : Nat) : Int) < 48) = true := by rw [← bk]; simpa using hA
    obtain rfl:=hN (.inl hA)
    clear bk hA
    go_wp2
    go_ret
    exact ⟨rfl,rfl⟩
   by_cases hB:57<(bs s).getD k 0
   ·have d2 : decide ((((s[k]'hlt).toNat : Nat) : Int) < 48) = false := by rw [← bk]; simpa using hA
    have d3:decide (57<(((s[k]'hlt).toNat:Nat):Int))=true:=by rw [←bk];simpa using hB
    obtain rfl:=hN (.inr hB)
    clear bk hA hB
    go_wp2
    go_ret
    exact ⟨rfl,rfl⟩
   ·have d2 : decide ((((s[k]'hlt).toNat : Nat) : Int) < 48) = false := by rw [← bk]; simpa using hA
    have d3:decide (57<(((s[k]'hlt).toNat:Nat):Int))=false:=by rw [←bk];simpa using hB
    have hC':Hid _:=hC.out (by omega) (by omega)
    clear bk hA hB hN hC
    go_wp2
    go_round
    case rel=>exact ⟨k+1,by omega,by go_num,hC'⟩
    case measure=>simp [intOf];omega
  ·obtain rfl : k = s.size := by omega
   obtain rfl:=hend.out hd.out
   go_wp2
   go_ret
   exact ⟨rfl,rfl⟩
end Go.Proofs.YtejlaiofpekchaaGreatDoor
