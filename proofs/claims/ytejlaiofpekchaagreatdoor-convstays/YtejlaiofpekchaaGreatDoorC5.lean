/-
  Decimal numbers: their form, how they stand, what trimming does: plain mathematics.
  Decimal numbers as the document's calls answer them, said over bytes and whole numbers alone.
  A text gone through by a row of states, as plain mathematics.
  The states of a text, one call each.
  The library's calls, as this program bears them.
  The library's calls, as this program bears them: told of in Lib.
  Nodes of which all is zero; stores into blocks.
  A tree in new memory: tree.clone.
-/
import Derived.Test.YtejlaiofpekchaaGreatDoorC0
import Derived.Test.YtejlaiofpekchaaGreatDoorC4
import Derived.Test.YtejlaiofpekchaaGreatDoorC2
import Derived.Lib.TrimByte
import Derived.Lib.AppendIntMem
namespace Go.Proofs.YtejlaiofpekchaaGreatDoor
def zerosL(k:Nat):List Int:=List.replicate k 48
theorem zeros_digs(k:Nat):Digs (zerosL k):=fun c hc=>by rw [(List.mem_replicate.1 hc).2];decide
theorem val_zeros(k:Nat):valS (zerosL k)=0:=by
 induction k with
 | zero=>rfl
 | succ k ih =>
  have e:zerosL (k+1)=zerosL k++[48]:=by unfold zerosL;rw [List.replicate_succ']
  rw [e,val_snoc,ih]
  rfl
theorem val_pad(s:List Int)(k:Nat):valS (s++zerosL k)=valS s*10 ^ k:=by
 rw [val_append,val_zeros,Nat.add_zero]
 unfold zerosL
 rw [List.length_replicate]
def key(s:List Int)(e:Int):Nat:=valS s*10 ^ (e+2000).toNat
theorem key_pad(s:List Int){low e:Int}(h1 : -2000≤low)(h2:low≤e):valS (s++zerosL (e - low).toNat)*10 ^ (low+2000).toNat=key s e:=by
 unfold key
 rw [val_pad,Nat.mul_assoc,←Nat.pow_add]
 congr 2
 omega
theorem key_lt{s t:List Int}{e f low:Int}(h1 : -2000≤low)(h2:low≤e)(h3:low≤f):valS (s++zerosL (e - low).toNat)<valS (t++zerosL (f - low).toNat) ↔ key s e<key t f:=by
 rw [←key_pad s h1 h2,←key_pad t h1 h3]
 exact (Nat.mul_lt_mul_right (Nat.pow_pos (by decide))).symm
def FormD(neg:Bool)(s:List Int)(e:Int):Prop:=RightS s∧(s=[48]→neg=false∧e=0)∧(s≠[48]→s.getD (s.length - 1) 0≠48 ∧ -2000≤e∧e≤2000)
theorem form_exp{neg:Bool}{s:List Int}{e:Int}(h:FormD neg s e) : -2000≤e∧e≤2000:=by
 by_cases h1:s=[48]
 ·have := (h.2.1 h1).2
  omega
 ·exact (h.2.2 h1).2
end Go.Proofs.YtejlaiofpekchaaGreatDoor
namespace Go.Proofs.YtejlaiofpekchaaGreatDoor
open Go
abbrev Nm:=Bool × ByteArray × Int
def zS:ByteArray:=⟨#[48]⟩
def noN:Nm:=(false,noS,0)
def zeroN:Nm:=(false,zS,0)
theorem bs_z:bs zS=[48]:=rfl
theorem z_iff(s:ByteArray):bs s=[48] ↔ s=zS:=⟨fun h=>bs_inj h,fun h=>by rw [h];rfl⟩
def rtN(n:Bool)(s:ByteArray)(e:Int):Bool :=
 if bs s=[48] then !n && (e==0) else rt s && ((bs s).getD (s.size - 1) 0 != 48 && (decide (-2000≤e) && decide (e≤2000)))
theorem rtN_iff(n:Bool)(s:ByteArray)(e:Int):rtN n s e=true ↔ FormD n (bs s) e:=by
 unfold rtN FormD
 by_cases h:bs s=[48]
 ·rw [if_pos h, h]
  simp only [Bool.and_eq_true,Bool.not_eq_true',beq_iff_eq,true_implies,ne_eq,not_true_eq_false,false_implies,and_true]
  constructor
  ·intro h1
   exact ⟨⟨⟨by simp,fun c hc=>by simp at hc;omega,fun _=>rfl⟩,by decide⟩,h1⟩
  ·intro h1
   exact h1.2
 ·rw [if_neg h]
  simp only [Bool.and_eq_true,bne_iff_ne,ne_eq,decide_eq_true_eq,rt_iff,h,false_implies,true_and,not_false_eq_true,true_implies,bs_len]
theorem rtN_zero:rtN false zS 0=true:=by decide
theorem rtN_rt{n:Bool}{s:ByteArray}{e:Int}(h:rtN n s e=true):rt s=true:=(rt_iff s).2 ((rtN_iff n s e).1 h).1
theorem rtN_exp{n:Bool}{s:ByteArray}{e:Int}(h:rtN n s e=true) : -2000≤e∧e≤2000:=form_exp ((rtN_iff n s e).1 h)
def longL(l:List Int):List Int:=l.dropWhile (· == 48)
def shortL(l:List Int):List Int:=(l.reverse.dropWhile (· == 48)).reverse
def numsU(l:List UInt8):List Int:=l.map fun c=>((c.toNat:Nat):Int)
theorem bs_mk(l:List UInt8):bs ⟨l.toArray⟩=numsU l:=rfl
theorem drop_nums:∀ l:List UInt8,numsU (l.dropWhile (· == 48))=(numsU l).dropWhile (· == 48)
 | []=>rfl
 | c :: l => by
  have ih:=drop_nums l
  have e:((((c.toNat:Nat):Int)==48):Bool)=(c==48):=by
   rw [Bool.eq_iff_iff,beq_iff_eq,beq_iff_eq]
   constructor
   ·intro h
    exact UInt8.toNat_inj.1 (by show c.toNat=48;omega)
   ·intro h
    rw [h];rfl
  have e2:numsU (c::l)=((c.toNat:Nat):Int)::numsU l:=rfl
  rw [e2,List.dropWhile_cons,List.dropWhile_cons,e]
  cases h:(c==48) with
  | true=>exact ih
  | false=>rfl
theorem nums_rev(l:List UInt8):numsU l.reverse=(numsU l).reverse:=by unfold numsU;rw [List.map_reverse]
theorem bs_trimL(s:ByteArray):bs ⟨(Lib.trimLeftB s.data.toList 48).toArray⟩=longL (bs s):=by
 rw [bs_mk];exact drop_nums _
theorem bs_trimR(s:ByteArray):bs ⟨(Lib.trimRightB s.data.toList 48).toArray⟩=shortL (bs s):=by
 rw [bs_mk]
 unfold Lib.trimRightB shortL
 rw [nums_rev,drop_nums,nums_rev]
 rfl
theorem long_cut(l:List Int):∃ j,l=zerosL j++longL l:=by
 induction l with
 | nil=>exact ⟨0,rfl⟩
 | cons c l ih =>
  by_cases hc:c=48
  ·obtain ⟨j, hj⟩ := ih
   have e:longL (c::l)=longL l:=by unfold longL;rw [List.dropWhile_cons];simp [hc]
   exact ⟨j+1,by rw [e,hc];show 48::l=48::(zerosL j++longL l);rw [←hj]⟩
  ·have e : longL (c :: l) = c :: l := by unfold longL; rw [List.dropWhile_cons]; simp [hc]
   exact ⟨0,by rw [e];rfl⟩
theorem long_head{l:List Int}(h:longL l≠[]):(longL l).getD 0 0≠48:=by
 unfold longL at h ⊢
 have h1:=List.head_dropWhile_not (· == 48) (l:=l) h
 rw [List.getD_eq_getElem?_getD,←List.head?_eq_getElem?,List.head?_eq_some_head h]
 simpa using h1
theorem short_cut(l:List Int):∃ k,l=shortL l++zerosL k:=by
 obtain ⟨k,hk⟩:=long_cut l.reverse
 refine ⟨k,?_⟩
 have h:=congrArg List.reverse hk
 rw [List.reverse_reverse,List.reverse_append] at h
 have e1:(longL l.reverse).reverse=shortL l:=rfl
 have e2:(zerosL k).reverse=zerosL k:=by unfold zerosL;rw [List.reverse_replicate]
 rw [e1,e2] at h
 exact h
theorem short_last{l:List Int}(h:shortL l≠[]):(shortL l).getD ((shortL l).length - 1) 0≠48:=by
 have h0:longL l.reverse≠[]:=fun h1=>h (by unfold shortL;unfold longL at h1;rw [h1];rfl)
 have h1:=long_head h0
 have hp:=List.length_pos_iff.2 h0
 have e:shortL l=(longL l.reverse).reverse:=rfl
 rw [e,List.length_reverse,List.getD_eq_getElem?_getD,List.getElem?_reverse (by omega),show (longL l.reverse).length - 1 - ((longL l.reverse).length - 1)=0 by omega,←List.getD_eq_getElem?_getD]
 exact h1
theorem short_len(l:List Int):(shortL l).length≤l.length:=by
 obtain ⟨k,hk⟩:=short_cut l
 have:=congrArg List.length hk
 rw [List.length_append] at this
 omega
theorem long_len(l:List Int):(longL l).length≤l.length:=by
 obtain ⟨k,hk⟩:=long_cut l
 have:=congrArg List.length hk
 rw [List.length_append] at this
 omega
theorem short_nil{l:List Int}(h0:longL l≠[]):shortL (longL l)≠[]:=by
 intro h
 obtain ⟨k,hk⟩:=short_cut (longL l)
 rw [h,List.nil_append] at hk
 have h1:=long_head h0
 rw [hk] at h1
 unfold zerosL at h1
 cases k with
 | zero=>exact h0 hk
 | succ k=>exact h1 rfl
theorem short_head{l:List Int}(h0:longL l≠[]):(shortL (longL l)).getD 0 0≠48:=by
 have h1:=long_head h0
 have h2:=short_nil h0
 obtain ⟨k,hk⟩:=short_cut (longL l)
 rw [hk] at h1
 rcases hx:shortL (longL l) with _ | ⟨x,t⟩
 ·exact absurd hx h2
 ·rw [hx] at h1
  exact h1
theorem mem_short{l:List Int}{c:Int}(h:c∈shortL (longL l)):c∈l:=by
 unfold shortL at h
 have h1:=List.mem_reverse.1 h
 have h2:=(List.dropWhile_sublist (· == 48)).mem h1
 have h3:=List.mem_reverse.1 h2
 exact (List.dropWhile_sublist (· == 48)).mem h3
def allD(l:List Int):Bool:=l.all fun c=>decide (48≤c) && decide (c≤57)
theorem allD_iff(l:List Int):allD l=true ↔ Digs l:=by unfold allD Digs;simp
def makeA(n:Bool)(s:ByteArray)(e:Int):Nm × Int :=
 if s.size=0∨4096<s.size∨allD (bs s)=false then (noN,1)
 else if longL (bs s)=[] then (zeroN,0)
 else if 800<(shortL (longL (bs s))).length∨e < -2000 - (((longL (bs s)).length - (shortL (longL (bs s))).length:Nat):Int)∨2000 - (((longL (bs s)).length - (shortL (longL (bs s))).length:Nat):Int)<e then (noN,11)
 else ((n,strOfNums (shortL (longL (bs s))),e+(((longL (bs s)).length - (shortL (longL (bs s))).length:Nat):Int)),0)
theorem make_right{n:Bool}{s:ByteArray}{e:Int}{m:Nm}(h:makeA n s e=(m,0)):rtN m.1 m.2.1 m.2.2=true:=by
 unfold makeA at h
 by_cases h1:s.size=0∨4096<s.size∨allD (bs s)=false
 ·rw [if_pos h1] at h;cases h
 rw [if_neg h1] at h
 by_cases h2:longL (bs s)=[]
 ·rw [if_pos h2] at h;cases h;exact rtN_zero
 rw [if_neg h2] at h
 have hd:Digs (bs s):=by
  rw [←allD_iff]
  cases h3:allD (bs s) with
  | true=>rfl
  | false=>exact absurd (.inr (.inr h3)) h1
 have hs:Digs (shortL (longL (bs s))):=fun c hc=>hd c (mem_short hc)
 have hh:=short_head h2
 have hn:=short_nil h2
 have hl:=short_last hn
 generalize ((longL (bs s)).length - (shortL (longL (bs s))).length:Nat)=k at *
 split at h
 ·cases h
 ·rename_i h3
  cases h
  rw [rtN_iff]
  show FormD n (bs (strOfNums (shortL (longL (bs s))))) (e+(k:Int))
  rw [bs_str (digs_bytes hs)]
  generalize shortL (longL (bs s))=t at *
  have hz:t≠[48]:=fun h4=>by rw [h4] at hh;exact hh rfl
  refine ⟨⟨⟨hn,hs,fun h4=>absurd h4 hh⟩,by omega⟩,fun h4=>absurd h4 hz,fun _=>⟨hl,by omega,by omega⟩⟩
end Go.Proofs.YtejlaiofpekchaaGreatDoor
namespace Go.Proofs.YtejlaiofpekchaaGreatDoor
open Go
def isD(c:Int):Bool:=decide (48≤c) && decide (c≤57)
abbrev Pd:=Bool × List Int × Nat × Bool × Nat
def p0:Pd:=(false,[],0,false,0)
theorem isD_iff{c:Int}:isD c=true ↔ 48≤c∧c≤57:=by unfold isD;simp
end Go.Proofs.YtejlaiofpekchaaGreatDoor
namespace Go.Proofs.YtejlaiofpekchaaGreatDoor
open Go.RowKit
theorem isdigit_any(c:Int)(w:World):Calls Tryz.prog 156 #[.int .u8 c] w fun e w'=>e = .returned (.bool (isD c))∧w'=w:=by
 have hr:isD c=(decide (48≤c) && decide (c≤57)):=rfl
 rw [hr]
 clear hr
 by_cases h1:48≤c
 ·go_enter Tryz.func156, Tryz.ntmps156
  go_wp2
  go_ret
  exact ⟨by simp [h1],rfl⟩
 ·go_enter Tryz.func156, Tryz.ntmps156
  go_wp2
  go_ret
  exact ⟨by simp;omega,rfl⟩
end Go.Proofs.YtejlaiofpekchaaGreatDoor
namespace Go.Proofs.YtejlaiofpekchaaGreatDoor
open Go.RowKit Go.Shelf Go.Lib
theorem triml_any(s:ByteArray)(w:World):Calls Tryz.prog 136 #[.string s, .string zS] w fun e w'=>(∃ t,e = .returned (.string t)∧bs t=longL (bs s))∧w'=w :=
 (Any.strings_TrimLeft_one lays161 s 48 (by decide) w).mono fun e w' ⟨h1,h2⟩=>⟨⟨_,h1,bs_trimL s⟩,h2⟩
theorem trimr_any(s:ByteArray)(w:World)(hs:s.size≤9223372036854775807):Calls Tryz.prog 138 #[.string s, .string zS] w fun e w'=>(∃ t,e = .returned (.string t)∧bs t=shortL (bs s))∧w'=w :=
 (Any.strings_TrimRight_one lays162 s 48 (by decide) w hs).mono fun e w' ⟨h1,h2⟩=>⟨⟨_,h1,bs_trimR s⟩,h2⟩
theorem sclone_any(s:ByteArray)(w:World)(hs:s.size≤281474976710656):Calls Tryz.prog 130 #[.string s] w fun e w'=>e = .returned (.string s)∧Below w.heap.size w w' :=
 Any.stringslite_Clone laysM316 s w hs
theorem clone_any(s:ByteArray)(w:World)(hs:s.size≤281474976710656):Calls Tryz.prog 96 #[.string s] w fun e w'=>e = .returned (.string s)∧Below w.heap.size w w':=by
 have k:=sclone_any s w hs
 clear hs
 go_enter Tryz.func96,Tryz.ntmps96
 go_wp2_with (go_at_call 130;refine k.mono ?_;rintro e w1 ⟨rfl,hb⟩)
 go_ret
 exact ⟨rfl,hb⟩
theorem suf_last{s:ByteArray}(h0:0<s.size):Lib.hasSuffix s.data.toList [48]=((bs s).getD (s.size - 1) 0==48):=by
 obtain ⟨t,c,ht⟩:∃ t c,s.data.toList=t++[c]:=by
  have hn:s.data.toList≠[]:=fun h=>by
   have:=congrArg List.length h
   rw [Array.length_toList] at this
   have h2:s.size=0:=this
   omega
  exact ⟨s.data.toList.dropLast,s.data.toList.getLast hn,(List.dropLast_concat_getLast hn).symm⟩
 have hsz:s.size=t.length+1:=by
  have:=congrArg List.length ht
  rw [Array.length_toList,List.length_append] at this
  exact this
 have e1:bs s=numsU t++[((c.toNat:Nat):Int)]:=by
  have:bs s=numsU s.data.toList:=rfl
  rw [this,ht]
  unfold numsU
  rw [List.map_append]
  rfl
 have e2:(bs s).getD (s.size - 1) 0=((c.toNat:Nat):Int):=by
  rw [e1,hsz,List.getD_eq_getElem?_getD,List.getElem?_append_right (by simp [numsU])]
  simp [numsU]
 rw [e2,ht]
 unfold Lib.hasSuffix
 rw [Bool.eq_iff_iff,List.isSuffixOf_iff_suffix,beq_iff_eq]
 constructor
 ·rintro ⟨u, hu⟩
  have h2:=(List.append_inj' hu rfl).2
  simp at h2
  rw [←h2]
  rfl
 ·intro h
  have:c=48:=UInt8.toNat_inj.1 (by show c.toNat=48;omega)
  rw [this]
  exact ⟨t,rfl⟩
theorem hassuf_any(s:ByteArray)(w:World)(h0:0<s.size)(hs:s.size≤9223372036854775807):Calls Tryz.prog 150 #[.string s, .string zS] w fun e w'=>e = .returned (.bool ((bs s).getD (s.size - 1) 0==48))∧w'=w:=by
 have h:=Any.strings_HasSuffix lays100 s zS w hs
 rw [←suf_last h0]
 exact h
def Tab(B:Nat)(w:World):Prop:=Lib.TabBelow Tryz.prog B w "internal/strconv.uint64pow10" .u64 Lib.pow10Tab
theorem Tab.on{B:Nat}{w w':World}(h:Tab B w)(hb:Below B w w'):Tab B w':=Lib.TabBelow.on h hb
end Go.Proofs.YtejlaiofpekchaaGreatDoor
namespace Go.Proofs.YtejlaiofpekchaaGreatDoor
end Go.Proofs.YtejlaiofpekchaaGreatDoor
namespace Go.Proofs.YtejlaiofpekchaaGreatDoor
open Go.RowKit
set_option linter.unusedVariables false
def zN:Nb:=⟨0,0,false,⟨#[]⟩,0,⟨#[]⟩,none,0,0,none,0,0,none,0,0⟩
def zT:Tr:=⟨0,0,false,⟨#[]⟩,0,⟨#[]⟩,[],[],[]⟩
theorem setk{w:World}{g j k:Nat}(h:k≠g)(v:Value):(w.setCell ⟨g,j,none⟩ v).heap[k]? = w.heap[k]? := Below.heap_setCell w ⟨g,j,none⟩ v k h
theorem set_size(w:World)(g j:Nat)(v:Value):(w.setCell ⟨g,j,none⟩ v).heap.size=w.heap.size:=by simp [World.setCell]
end Go.Proofs.YtejlaiofpekchaaGreatDoor
namespace Go.Proofs.YtejlaiofpekchaaGreatDoor
open Go.RowKit
set_option linter.unusedVariables false
structure Bx(W w:World)(g1 g2:Nat)(b c:Nb):Prop where
 one:NBox w g1 b
 two:NBox w g2 c
 kp:Kp (fun k=>k=g1∨k=g2) W w
theorem Bx.call{W w w':World}{g1 g2:Nat}{b c:Nb}(h:Bx W w g1 g2 b c)(hb:Below w.heap.size w w'):Bx W w' g1 g2 b c :=
 ⟨h.one.kept hb h.one.lt,h.two.kept hb h.two.lt,h.kp.trans (Kp.of hb)⟩
theorem Bx.grown{W w w':World}{g1 g2:Nat}{b c:Nb}(h:Bx W w g1 g2 b c)(hb:w.grownBy w' none):Bx W w' g1 g2 b c :=
 h.call ⟨hb.os,hb.tape,hb.output,hb.size,fun k hk=>hb.block k hk (fun e=>by cases e)⟩
theorem nbox_setc{w:World}{g:Nat}{b b':Nb}(h:NBox w g b)(j:Nat)(v:Value)(hv:b'.arr=b.arr.setIfInBounds j v):NBox (w.setCell ⟨g,j,none⟩ v) g b':=by
 unfold NBox
 rw [heap_setCell_same w g j b.arr 26 v h,hv]
theorem Bx.set{W w:World}{g1 g2:Nat}{b c:Nb}(h:Bx W w g1 g2 b c)(hne:g1≠g2)(b':Nb)(j:Nat)(v:Value)(hv:b'.arr=b.arr.setIfInBounds j v):Bx W (w.setCell ⟨g1,j,none⟩ v) g1 g2 b' c :=
 ⟨nbox_setc h.one j v hv,h.two.same (setk (Ne.symm hne) v),h.kp.trans ⟨rfl,rfl,rfl,by simp [World.setCell],fun k _ hc=>setk (fun e=>hc (.inl e)) v⟩⟩
theorem Bx.set2{W w:World}{g1 g2:Nat}{b c:Nb}(h:Bx W w g1 g2 b c)(hne:g1≠g2)(c':Nb)(j:Nat)(v:Value)(hv:c'.arr=c.arr.setIfInBounds j v):Bx W (w.setCell ⟨g2,j,none⟩ v) g1 g2 b c' :=
 ⟨h.one.same (setk hne v),nbox_setc h.two j v hv,h.kp.trans ⟨rfl,rfl,rfl,by simp [World.setCell],fun k _ hc=>setk (fun e=>hc (.inr e)) v⟩⟩
theorem Bx.put{W w:World}{g1 g2:Nat}{b c:Nb}(h:Bx W w g1 g2 b c)(hne:g1≠g2)(x:Nb) :
  Bx W (((((((((w.setCell ⟨g2,0,none⟩ (.int .i64 x.kind)).setCell ⟨g2,1,none⟩ (.int .u64 x.num)).setCell ⟨g2,2,none⟩ (.bool x.neg)).setCell ⟨g2,3,none⟩ (.string x.dig)).setCell ⟨g2,4,none⟩ (.int .i64 x.exp)).setCell ⟨g2,5,none⟩ (.string x.txt)).setCell ⟨g2,6,none⟩ (.slice x.ab x.lb x.cb)).setCell ⟨g2,7,none⟩ (.slice x.ak x.lk x.ck)).setCell ⟨g2,8,none⟩ (.slice x.ai x.li x.ci)) g1 g2 b x:=by
 obtain ⟨x0,x1,x2,x3,x4,x5,xa,xb,xc,xd,xe,xf,xg,xh,xi⟩:=x
 obtain ⟨c0,c1,c2,c3,c4,c5,ca,cb,cc,cd,ce,cf,cg,ch,ci⟩:=c
 exact ((((((((h.set2 hne ⟨x0,c1,c2,c3,c4,c5,ca,cb,cc,cd,ce,cf,cg,ch,ci⟩ 0 _ rfl).set2 hne ⟨x0,x1,c2,c3,c4,c5,ca,cb,cc,cd,ce,cf,cg,ch,ci⟩ 1 _ rfl).set2 hne ⟨x0,x1,x2,c3,c4,c5,ca,cb,cc,cd,ce,cf,cg,ch,ci⟩ 2 _ rfl).set2 hne ⟨x0,x1,x2,x3,c4,c5,ca,cb,cc,cd,ce,cf,cg,ch,ci⟩ 3 _ rfl).set2 hne ⟨x0,x1,x2,x3,x4,c5,ca,cb,cc,cd,ce,cf,cg,ch,ci⟩ 4 _ rfl).set2 hne ⟨x0,x1,x2,x3,x4,x5,ca,cb,cc,cd,ce,cf,cg,ch,ci⟩ 5 _ rfl).set2 hne ⟨x0,x1,x2,x3,x4,x5,xa,xb,xc,cd,ce,cf,cg,ch,ci⟩ 6 _ rfl).set2 hne ⟨x0,x1,x2,x3,x4,x5,xa,xb,xc,xd,xe,xf,cg,ch,ci⟩ 7 _ rfl).set2 hne ⟨x0,x1,x2,x3,x4,x5,xa,xb,xc,xd,xe,xf,xg,xh,xi⟩ 8 _ rfl
theorem kset(w:World)(g1 g2 j:Nat)(v:Value):Kp (fun k=>k=g1∨k=g2) w (w.setCell ⟨g1,j,none⟩ v):=⟨rfl,rfl,rfl,by simp [World.setCell],fun k _ hc=>setk (fun e=>hc (.inl e)) v⟩
theorem FreshR.kp{C:Nat→Prop}{B D:Nat}{w w':World}{a:Option Addr}{n c:Nat}{l:List Tr}{f:List Nat}(h:FreshR B D w a n c l f)(hk:Kp C w w')(hC:∀ k,C k→k<B):FreshR B D w' a n c l f:=by
 have hs:∀ k,k∈f→w'.heap[k]? = w.heap[k]? := fun k hk'=>hk.block k (h.2.2.2.2 k hk').2 (fun hc=>by have:=hC k hc;have:=(h.2.2.2.2 k hk').1;omega)
 exact ⟨h.1.stays h.2.1 hs fun _ _ _ q=>q.stays hs,h.2.1,h.2.2.1.stays hs fun _ e he q=>q.stays fun k hk'=>hs k (he k hk'),h.2.2.2.1,fun k hk'=>⟨(h.2.2.2.2 k hk').1,Nat.lt_of_lt_of_le (h.2.2.2.2 k hk').2 hk.size⟩⟩
theorem OwnsB.fr{w:World}{base:Nat}{a:Option Addr}{n c:Nat}{zs:List Int}(h:OwnsB w base (.slice a n c) zs):∃ f0,FrB w a n f0∧In (· ∈ f0) a n∧f0.Nodup∧∀ k∈f0,base≤k∧k<w.heap.size:=by
 obtain ⟨⟨hl,hv⟩,hz⟩:=h
 rcases hv with ⟨e,hn⟩ | ⟨g,cap,cur,e,hb,hg,hnc,hcm,hcs,htk⟩
 ·cases e
  exact ⟨[], .inl ⟨rfl,rfl⟩,(fun h=>by cases h),by simp,fun k hk=>by cases hk⟩
 ·cases e
  by_cases h0:zs.length=0
  ·exact ⟨[], .inl ⟨h0,rfl⟩,fun h=>by omega,by simp,fun k hk=>by cases hk⟩
  ·refine ⟨[g], .inr ⟨g, cur, rfl, rfl, hg, by rw [hcs]; omega, fun i hi => ?_⟩, fun _ x hx => by cases hx; exact List.mem_singleton.2 rfl, by simp, fun k hk => ?_⟩
   ·have h1 : (cur.toList.take (zs.length * 1))[i]? = (zs.map (Value.int .u8))[i]? := by rw [htk]
    rw [List.getElem?_take,if_pos (by omega),List.getElem?_map,List.getElem?_eq_getElem hi] at h1
    exact ⟨zs[i],by rw [←Array.getElem?_toList];exact h1,hz _ (List.getElem_mem hi)⟩
   ·rw [List.mem_singleton] at hk
    subst hk
    exact ⟨hb,(Array.getElem?_eq_some_iff.1 hg).1⟩
theorem fresh_node{D:Nat}{w0 w:World}{b:Nb}{t:Tr}{B Ba Bb Bc:Nat}{a6:Option Addr}{c6:Nat}{a7:Option Addr}{c7:Nat}{a8:Option Addr}{c8:Nat}{f0 f1 f2:List Nat}(hN:Nd (D+1) w0 b t)
  (hb:Bytes w a6 t.bytes) (hr:b.lb≤c6∧c6≤maxLen∧(a6=none→c6=0)) (h0:FrB w a6 b.lb f0) (h0i:In (· ∈ f0) a6 b.lb) (h0n:f0.Nodup) (h0s:∀ k∈f0,Ba≤k∧k<Bb) (h1:FreshR Bb D w a7 b.lk c7 t.keys f1) (h1s:∀ k∈f1,k<Bc) (h2:FreshR Bc D w a8 b.li c8 t.kids f2) (hB:B≤Ba) (hBa:Ba≤Bb) (hBb:Bb≤Bc) (hBc:Bc≤w.heap.size) :
  Fresh B (D+1) w { b with ab:=a6,cb:=c6,ak:=a7,ck:=c7,ai:=a8,ci:=c8 } t (f0++(f1++f2)):=by
 obtain ⟨n0,n1,⟨n2,n3,n4⟩,n5,n6⟩:=hN
 have m0:∀ k,k∈f0→k∈f0++(f1++f2):=fun k hk=>List.mem_append_left _ hk
 have m1:∀ k,k∈f1→k∈f0++(f1++f2):=fun k hk=>List.mem_append_right _ (List.mem_append_left _ hk)
 have m2:∀ k,k∈f2→k∈f0++(f1++f2):=fun k hk=>List.mem_append_right _ (List.mem_append_right _ hk)
 refine ⟨⟨n0,n1,⟨n2,⟨hr.1,hr.2.1,hr.2.2,n3.2.2.2⟩,hb⟩,⟨h0i.mono m0,h1.2.1.mono m1,h2.2.1.mono m2⟩,h1.1.mono fun _ _ _ q=>q.mono m1,h2.1.mono fun _ _ _ q=>q.mono m2⟩,⟨f0,f1,f2,rfl,⟨hr.1,h1.1.2.1.1,h2.1.2.1.1,hr.2.1,h1.1.2.1.2.1,h2.1.2.1.2.1⟩,h0,h1.2.2.1,h2.2.2.1⟩,?_,fun k hk=>?_⟩
 ·refine List.nodup_append.2 ⟨h0n, List.nodup_append.2 ⟨h1.2.2.2.1, h2.2.2.2.1, fun x hx y hy e => ?_⟩, fun x hx y hy e => ?_⟩
  ·subst e
   have:=h1s x hx;have:=(h2.2.2.2.2 x hy).1;omega
  ·subst e
   have:=(h0s x hx).2
   rcases List.mem_append.1 hy with hy | hy
   ·have:=(h1.2.2.2.2 x hy).1;omega
   ·have:=(h2.2.2.2.2 x hy).1;omega
 ·rcases List.mem_append.1 hk with hk | hk
  ·have:=h0s k hk;omega
  ·rcases List.mem_append.1 hk with hk | hk
   ·have:=h1.2.2.2.2 k hk;omega
   ·have:=h2.2.2.2.2 k hk;omega
theorem FrB.kp{C:Nat→Prop}{w w':World}{a:Option Addr}{n:Nat}{f:List Nat}(h:FrB w a n f)(hk:Kp C w w')(hf:∀ k∈f,k<w.heap.size∧¬ C k):FrB w' a n f:=h.stays fun k hk'=>hk.block k (hf k hk').1 (hf k hk').2
theorem Bytes.kp{C:Nat→Prop}{w w':World}{a:Option Addr}{zs:List Int}{f:List Nat}(h:Bytes w a zs)(hi:In (· ∈ f) a zs.length)(hk:Kp C w w')(hf:∀ k∈f,k<w.heap.size∧¬ C k):Bytes w' a zs:=h.stays hi fun k hk'=>hk.block k (hf k hk').1 (hf k hk').2
set_option maxHeartbeats 2000000 in
set_option maxRecDepth 100000 in
theorem clone_step{D:Nat}(ih:ClAllAt D):CloneAt (D+1):=by
 intro t b w hN hsz
 have hal:=alloc_below w (.cells b.arr 26)
 have hal2:=alloc_below (w.alloc (.cells b.arr 26)) (.cells #[.int .i64 0, .int .u64 0, .bool false, .string ⟨#[]⟩, .int .i64 0, .string ⟨#[]⟩, .slice none 0 0, .slice none 0 0, .slice none 0 0] 26)
 have s1:(w.alloc (.cells b.arr 26)).heap.size=w.heap.size+1:=by simp
 have s2:((w.alloc (.cells b.arr 26)).alloc (.cells #[.int .i64 0, .int .u64 0, .bool false, .string ⟨#[]⟩, .int .i64 0, .string ⟨#[]⟩, .slice none 0 0, .slice none 0 0, .slice none 0 0] 26)).heap.size=w.heap.size+1+1:=by simp
 have x0:Bx ((w.alloc (.cells b.arr 26)).alloc (.cells #[.int .i64 0, .int .u64 0, .bool false, .string ⟨#[]⟩, .int .i64 0, .string ⟨#[]⟩, .slice none 0 0, .slice none 0 0, .slice none 0 0] 26)) ((w.alloc (.cells b.arr 26)).alloc (.cells #[.int .i64 0, .int .u64 0, .bool false, .string ⟨#[]⟩, .int .i64 0, .string ⟨#[]⟩, .slice none 0 0, .slice none 0 0, .slice none 0 0] 26)) w.heap.size (w.heap.size+1) b zN :=
  ⟨(nbox_new w b).kept hal2 (by omega),by have:=nbox_new (w.alloc (.cells b.arr 26)) zN;rwa [s1] at this,Kp.refl _ _⟩
 have hne:Hid (w.heap.size≠w.heap.size+1):=by show _≠_;omega
 have hB2:Hid (Below w.heap.size w ((w.alloc (.cells b.arr 26)).alloc (.cells #[.int .i64 0, .int .u64 0, .bool false, .string ⟨#[]⟩, .int .i64 0, .string ⟨#[]⟩, .slice none 0 0, .slice none 0 0, .slice none 0 0] 26))):=hal.trans (hal2.mono (by omega))
 have hS2:Hid (((w.alloc (.cells b.arr 26)).alloc (.cells #[.int .i64 0, .int .u64 0, .bool false, .string ⟨#[]⟩, .int .i64 0, .string ⟨#[]⟩, .slice none 0 0, .slice none 0 0, .slice none 0 0] 26)).heap.size=w.heap.size+1+1):=s2
 have hNn:Hid (Nd (D+1) w b t):=hN
 have kD:Hid (∀ w',Calls Tryz.prog 96 #[.string b.dig] w' _):=fun w'=>clone_any b.dig w' (by have:=hN.2.1.2.2.2.1;rw [hN.1.2.2.2.1];omega)
 have kT:Hid (∀ w',Calls Tryz.prog 96 #[.string b.txt] w' _):=fun w'=>clone_any b.txt w' (by have:=hN.2.1.2.2.2.2;rw [hN.1.2.2.2.2.2];omega)
 have hW:Hid (∀ w',Kp (fun k=>k=w.heap.size∨k=w.heap.size+1) ((w.alloc (.cells b.arr 26)).alloc (.cells #[.int .i64 0, .int .u64 0, .bool false, .string ⟨#[]⟩, .int .i64 0, .string ⟨#[]⟩, .slice none 0 0, .slice none 0 0, .slice none 0 0] 26)) w'→Below w.heap.size w w'):=fun w' h=>hB2.out.trans (h.below (by omega) fun k hk=>by omega)
 have hsz':Hid (Tr.sizes t.keys≤1000000∧Tr.sizes t.kids≤1000000):=by have:=Tr.size_eq t;exact ⟨by omega,by omega⟩
 have kK:Hid (∀ w',Below w.heap.size w w'→Calls Tryz.prog 97 #[.slice b.ak b.lk b.ck] w' _):=fun w' hb=>ih b.ak b.lk b.ck t.keys w' (hN.2.2.2.1.kept hb fun _ _ _ q=>q.kept hb) hsz'.out.1
 have kI:Hid (∀ w',Below w.heap.size w w'→Calls Tryz.prog 97 #[.slice b.ai b.li b.ci] w' _):=fun w' hb=>ih b.ai b.li b.ci t.kids w' (hN.2.2.2.2.kept hb fun _ _ _ q=>q.kept hb) hsz'.out.2
 have hBy:Hid (t.bytes.length=b.lb∧b.lb≤b.cb∧(b.ab=none→b.cb=0)∧b.lb≤140737488351232∧Bytes w b.ab t.bytes):=⟨hN.2.2.1.1,hN.2.2.1.2.1.1,hN.2.2.1.2.1.2.2.1,by have:=hN.2.2.1.2.1.2.2.2;omega,hN.2.2.1.2.2⟩
 clear hal hal2 s1 s2 hN hsz ih
 have k1:=kD.out ((w.alloc (.cells b.arr 26)).alloc (.cells #[.int .i64 0, .int .u64 0, .bool false, .string ⟨#[]⟩, .int .i64 0, .string ⟨#[]⟩, .slice none 0 0, .slice none 0 0, .slice none 0 0] 26))
 obtain ⟨a0,a1,a2,a3,a4,a5,a6,a7,a8⟩:=x0.one.fields
 go_enter Tryz.func67,Tryz.ntmps67
 go_wp2_with (first
  | (go_at_call 96;refine k1.mono ?_;rintro e w3 ⟨rfl,hb3⟩;clear k1 a0 a1 a2 a3 a4 a5 a6 a7 a8;have y1:=x0.call hb3;have z1:=y1.one.fz 3;obtain ⟨d0,d1,d2,d3,d4,d5,d6,d7,d8⟩:=y1.one.fields;have x1:=y1.set hne.out b 3 (.string b.dig) rfl;clear y1 hb3 d0 d1 d2 d4 d5 d6 d7 d8;obtain ⟨a0,a1,a2,a3,a4,a5,a6,a7,a8⟩:=x1.one.fields;have k2:=kT.out (w3.setCell ⟨w.heap.size,3,none⟩ (.string b.dig)))
  | (go_at_call 96;refine k2.mono ?_;rintro e w4 ⟨rfl,hb4⟩;clear k2 a0 a1 a2 a3 a4 a5 a6 a7 a8;have y2:=x1.call hb4;have z2:=y2.one.fz 5;obtain ⟨e0,e1,e2,e3,e4,e5,e6,e7,e8⟩:=y2.one.fields;have x2:=y2.set hne.out b 5 (.string b.txt) rfl;clear y2 hb4 e0 e1 e2 e3 e4 e6 e7 e8;obtain ⟨a0,a1,a2,a3,a4,a5,a6,a7,a8⟩:=x2.one.fields)
  | (at_builtin;refine wpList_append_bytes rfl _ (.tmp 12) rfl (w4.setCell ⟨w.heap.size,5,none⟩ (.string b.txt)).heap.size (.slice none 0 0) [] t.bytes rfl (ownsB_nil _ _) b.ab b.lb b.cb rfl hBy.out.1 hBy.out.2.2.1 (hBy.out.2.2.2.2.kept (hW.out _ x2.kp)) (by have:=hBy.out.2.2.2.1;have:=hBy.out.1;simp;omega) (Nat.le_refl _) ?_;intro v5 w5 ho5 hg5;rw [List.nil_append] at ho5;obtain ⟨p5,q5,rfl,hn5,hc5,hB5,_⟩:=ho5.shape;rw [hBy.out.1] at ho5 hc5 ⊢;have hs45:Hid ((w4.setCell ⟨w.heap.size,5,none⟩ (.string b.txt)).heap.size≤(w5.setCell ⟨w.heap.size,6,none⟩ (.slice p5 b.lb q5)).heap.size):=Nat.le_trans hg5.size (Nat.le_of_eq (set_size _ _ _ _).symm);have y3:=x2.grown hg5;have z3:=y3.one.fz 6;obtain ⟨h0,h1,h2,h3,h4,h5,h6,h7,h8⟩:=y3.one.fields;have x3:=y3.set hne.out { b with ab:=p5,cb:=q5 } 6 (.slice p5 b.lb q5) rfl;clear hg5 h0 h1 h2 h3 h4 h5 h7 h8 a0 a1 a2 a3 a4 a5 a6 a7 a8;obtain ⟨a0,a1,a2,a3,a4,a5,a6,a7,a8⟩:=x3.one.fields;have k3:=kK.out (w5.setCell ⟨w.heap.size,6,none⟩ (.slice p5 b.lb q5)) (hW.out _ x3.kp))
  | (go_at_call 97;refine k3.mono ?_;rintro e w6 ⟨⟨p6,q6,f1,rfl,hF1⟩,hb6⟩;clear k3 a0 a1 a2 a3 a4 a5 a6 a7 a8;have y4:=x3.call hb6;have z4:=y4.one.fz 7;obtain ⟨i0,i1,i2,i3,i4,i5,i6,i7,i8⟩:=y4.one.fields;have x4:=y4.set hne.out { b with ab:=p5,cb:=q5,ak:=p6,ck:=q6 } 7 (.slice p6 b.lk q6) rfl;clear i0 i1 i2 i3 i4 i5 i6 i8;obtain ⟨a0,a1,a2,a3,a4,a5,a6,a7,a8⟩:=x4.one.fields;have k4:=kI.out (w6.setCell ⟨w.heap.size,7,none⟩ (.slice p6 b.lk q6)) (hW.out _ x4.kp))
  | (go_at_call 97;refine k4.mono ?_;rintro e w7 ⟨⟨p7,q7,f2,rfl,hF2⟩,hb7⟩;clear k4 a0 a1 a2 a3 a4 a5 a6 a7 a8;have y5:=x4.call hb7;have z5:=y5.one.fz 8;obtain ⟨j0,j1,j2,j3,j4,j5,j6,j7,j8⟩:=y5.one.fields;have x5:=y5.set hne.out { b with ab:=p5,cb:=q5,ak:=p6,ck:=q6,ai:=p7,ci:=q7 } 8 (.slice p7 b.li q7) rfl;clear j0 j1 j2 j3 j4 j5 j6 j7;obtain ⟨a0,a1,a2,a3,a4,a5,a6,a7,a8⟩:=x5.one.fields;obtain ⟨m0,m1,m2,m3,m4,m5,m6,m7,m8⟩:=x5.two.fields;have z50:=x5.two.fz 0;have z51:=x5.two.fz 1;have z52:=x5.two.fz 2;have z53:=x5.two.fz 3;have z54:=x5.two.fz 4;have z55:=x5.two.fz 5;have z56:=x5.two.fz 6;have z57:=x5.two.fz 7;have z58:=x5.two.fz 8))
 have x6:=x5.put hne.out { b with ab:=p5,cb:=q5,ak:=p6,ck:=q6,ai:=p7,ci:=q7 }
 obtain ⟨u0,u1,u2,u3,u4,u5,u6,u7,u8⟩:=x6.two.fields
 have K8:=(Bx.put ⟨x5.one,x5.two,Kp.refl _ _⟩ hne.out { b with ab:=p5,cb:=q5,ak:=p6,ck:=q6,ai:=p7,ci:=q7 }).kp
 have K5:=kset w5 w.heap.size (w.heap.size+1) 6 (.slice p5 b.lb q5)
 have K6:=kset w6 w.heap.size (w.heap.size+1) 7 (.slice p6 b.lk q6)
 have K7:=kset w7 w.heap.size (w.heap.size+1) 8 (.slice p7 b.li q7)
 have R7:=K7.trans K8
 have R6:=(K6.trans (Kp.of hb7)).trans R7
 have R5:=(K5.trans (Kp.of hb6)).trans R6
 obtain ⟨f0,hfr,hfi,hfn,hfs⟩:=ho5.fr
 have e4:=set_size w4 w.heap.size 5 (.string b.txt)
 have e5:=set_size w5 w.heap.size 6 (.slice p5 b.lb q5)
 have e6:=set_size w6 w.heap.size 7 (.slice p6 b.lk q6)
 have g2:=x2.kp.size
 have g3:=x3.kp.size
 have g4:=x4.kp.size
 have hs2:=hS2.out
 have hf5:∀ k∈f0,k<w5.heap.size∧¬ (k=w.heap.size∨k=w.heap.size+1):=fun k hk=>⟨(hfs k hk).2,by have:=(hfs k hk).1;omega⟩
 have hFr:=fresh_node (B:=w.heap.size) (Ba:=(w4.setCell ⟨w.heap.size,5,none⟩ (.string b.txt)).heap.size) hNn.out (hB5.kp (by rw [hBy.out.1];exact hfi) R5 hf5) ⟨hc5.1,hc5.2,hn5⟩ (hfr.kp R5 hf5) hfi hfn (fun k hk=>⟨(hfs k hk).1,by have:=(hfs k hk).2;omega⟩) (hF1.kp R6 (fun k hk=>by omega)) (fun k hk=>by have:=(hF1.2.2.2.2 k hk).2;omega) (hF2.kp R7 (fun k hk=>by omega)) (by omega) hs45.out (by have:=hb6.size;omega) (by have:=hb7.size;have:=R7.size;omega)
 refine bodyPost_ret (v := .agg #[.int .i64 b.kind, .int .u64 b.num, .bool b.neg, .string b.dig, .int .i64 b.exp, .string b.txt, .slice p5 b.lb q5, .slice p6 b.lk q6, .slice p7 b.li q7]) (by simp [results,Tryz.results67,go_sem,u0,u1,u2,u3,u4,u5,u6,u7,u8]) rfl ⟨⟨_,_,rfl,hFr⟩,hW.out _ x6.kp⟩
theorem clone_all:∀ D,CloneAt D:=by
 intro D
 induction D with
 | zero=>intro t b w h;exact absurd h id
 | succ D ih=>exact clone_step (clall_step ih)
theorem gclone_any{D:Nat}{t:Tr}{b:Nb}{w:World}(hN:Nd D w b t)(hs:t.size≤1000000):Calls Tryz.prog 67 #[.agg b.arr] w fun e w'=>(∃ b' f,e = .returned (.agg b'.arr)∧Fresh w.heap.size D w' b' t f)∧Below w.heap.size w w':=clone_all D t b w hN hs
end Go.Proofs.YtejlaiofpekchaaGreatDoor
