/-
  Which trees JSON can tell: the document's Can.
  What is told can be told in JSON: the walk.
  A tree that can be told in JSON stays: the walk.
-/
import Derived.Test.YtejlaiofpekchaaGreatDoorC24
import Derived.Test.YtejlaiofpekchaaGreatDoorC31
import Derived.Test.YtejlaiofpekchaaGreatDoorC25
namespace Go.Proofs.YtejlaiofpekchaaGreatDoor
open Go.RowKit
set_option linter.unusedVariables false
theorem td_is{d:Nat}{t:Tr}(h:alF t=0):toldF (d+1) t=true ↔ (t.kind≤8∧t.kind≠4∧t.kind≠6)∧(∀ i (hi:i<t.keys.length),(t.keys[i]).kind=5)∧(∀ i (hi:i<t.kids.length),toldF d t.kids[i]=true):=by
 have ho:=Tr.alo_odd h
 unfold Tr.odd at ho
 simp only [Bool.or_eq_false_iff,Bool.and_eq_false_iff,decide_eq_false_iff_not,Bool.not_eq_false'] at ho
 have h0:0≤t.kind:=by simp_all
 have hc:t.clean=true:=by simp_all
 unfold Tr.clean at hc
 simp only [Bool.and_eq_true,Bool.or_eq_true,decide_eq_true_eq] at hc
 have hk:t.kind≠8→t.keys=[]:=fun q=>by
  have:=hc.1.2
  rcases this with e | e
  ·exact absurd e q
  ·exact List.eq_nil_of_length_eq_zero e
 have hi:¬ (t.kind=7∨t.kind=8)→t.kind≤8→t.kids=[]:=fun q q2=>by
  have:=hc.2
  rcases this with e | e
  ·omega
  ·exact List.eq_nil_of_length_eq_zero e
 rw [told_succ]
 simp only [Bool.and_eq_true,decide_eq_true_eq]
 constructor
 ·rintro ⟨⟨⟨_, a1, a2, a3⟩, a4⟩, a5⟩
  refine ⟨⟨a1,a2,a3⟩,fun i hi'=>?_,fun i hi'=>?_⟩
  ·by_cases q : t.kind = 8
   ·rw [if_pos q] at a4
    simpa using List.all_eq_true.1 a4 _ (List.getElem_mem hi')
   ·have e := hk q
    rw [e] at hi'
    exact absurd hi' (by simp)
  ·by_cases q : t.kind = 7 ∨ t.kind = 8
   ·rw [if_pos q] at a5
    exact List.all_eq_true.1 a5 _ (List.getElem_mem hi')
   ·have e := hi q a1
    rw [e] at hi'
    exact absurd hi' (by simp)
 ·rintro ⟨⟨a1, a2, a3⟩, a4, a5⟩
  refine ⟨⟨⟨h0,a1,a2,a3⟩,?_⟩,?_⟩
  ·split
   ·refine List.all_eq_true.2 fun u hu => ?_
    obtain ⟨i,hi',rfl⟩:=List.mem_iff_getElem.1 hu
    simpa using a4 i hi'
   ·rfl
  ·split
   ·refine List.all_eq_true.2 fun u hu => ?_
    obtain ⟨i,hi',rfl⟩:=List.mem_iff_getElem.1 hu
    exact a5 i hi'
   ·rfl
def ToldAt(D:Nat):Prop:=∀ (t:Tr) (b:Nb) (w:World),Nd D w b t→t.All (fun u=>alF u=0)→Calls Tryz.prog 32 #[.agg b.arr] w fun e w'=>e = .returned (.bool (toldF D t))∧Below w.heap.size w w'
set_option maxHeartbeats 4000000 in
set_option maxRecDepth 100000 in
theorem wtold_step{D:Nat}(ih:ToldAt D):ToldAt (D+1):=by
 intro t b w hN hA
 obtain ⟨h0,hak,hai⟩:=(Tr.all_eq _ t).1 hA
 have e0:b.kind=t.kind:=hN.1.1
 have hal:=alloc_below w (.cells b.arr 26)
 have B1:Hid (Below w.heap.size w (w.alloc (.cells b.arr 26))):=hal
 have rk:Hid (RowN (Nd D (w.alloc (.cells b.arr 26))) (w.alloc (.cells b.arr 26)) b.ak b.lk b.ck t.keys):=(hN.2.2.2.1).kept (R:=Nd D (w.alloc (.cells b.arr 26))) hal (fun _ _ _ q=>q.kept hal)
 have ri:Hid (RowN (Nd D (w.alloc (.cells b.arr 26))) (w.alloc (.cells b.arr 26)) b.ai b.li b.ci t.kids):=(hN.2.2.2.2).kept (R:=Nd D (w.alloc (.cells b.arr 26))) hal (fun _ _ _ q=>q.kept hal)
 have X1:Hid (NBox (w.alloc (.cells b.arr 26)) w.heap.size b):=nbox_new w b
 obtain ⟨f0,f1,f2,f3,f4,f5,f6,f7,f8⟩:=(nbox_new w b).fields
 have hV:=td_is (d:=D) h0
 obtain ⟨V,hVe⟩:∃ V,(toldF (D+1) t)=V:=⟨_,rfl⟩
 rw [hVe] at hV ⊢
 have hai':Hid (∀ u∈t.kids,u.All (fun u=>alF u=0)):=hai
 have lk0:b.lk≤b.ck:=rk.out.2.1.1
 have lk1:b.ck≤9223372036854775807:=by have:=rk.out.2.1.2.1;simpa [maxLen] using this
 have li0:b.li≤b.ci:=ri.out.2.1.1
 have li1:b.ci≤9223372036854775807:=by have:=ri.out.2.1.2.1;simpa [maxLen] using this
 have lk2:Hid (t.keys.length=b.lk):=rk.out.1
 have li2:Hid (t.kids.length=b.li):=ri.out.1
 clear hal hN hVe hA hak hai
 by_cases k8:8<t.kind
 ·have g1 : decide (8 < b.kind) = true := by rw [e0]; simpa using k8
  have hv:V=false:=by
   cases V with
   | false=>rfl
   | true=>have:=(hV.1 rfl).1;omega
  subst hv
  clear hV e0 k8
  go_enter Tryz.func32,Tryz.ntmps32
  go_wp2_with fail
  go_ret
  exact ⟨rfl,B1.out⟩
 have g1:decide (8<b.kind)=false:=by rw [e0];simpa using k8
 by_cases k4:t.kind=4
 ·have g2 : (b.kind == 4) = true := by rw [e0, k4]; rfl
  have hv:V=false:=by
   cases V with
   | false=>rfl
   | true=>have:=(hV.1 rfl).1;omega
  subst hv
  clear hV e0 k8 k4
  go_enter Tryz.func32,Tryz.ntmps32
  go_wp2_with fail
  go_ret
  exact ⟨rfl,B1.out⟩
 have g2:(b.kind==4)=false:=by rw [e0];simpa using k4
 by_cases k6:t.kind=6
 ·have g3 : (b.kind == 6) = true := by rw [e0, k6]; rfl
  have hv:V=false:=by
   cases V with
   | false=>rfl
   | true=>have:=(hV.1 rfl).1;omega
  subst hv
  clear hV e0 k8 k4 k6
  go_enter Tryz.func32,Tryz.ntmps32
  go_wp2_with fail
  go_ret
  exact ⟨rfl,B1.out⟩
 have g3:(b.kind==6)=false:=by rw [e0];simpa using k6
 have hK:Hid (V=true ↔ (∀ i (hi:i<t.keys.length),(t.keys[i]).kind=5)∧(∀ i (hi:i<t.kids.length),toldF D t.kids[i]=true)):=hV.trans ⟨fun q=>q.2,fun q=>⟨by omega,q⟩⟩
 clear hV e0 k8 k4 k6
 go_enter Tryz.func32,Tryz.ntmps32
 go_wp2_with fail
 generalize w.alloc (.cells b.arr 26)=W1 at *
 go_loopw [3] (fun s3 wr=>∃ i:Nat,i≤b.lk∧s3 = .int .i64 i∧wr=W1∧Hid (∀ j (h:j<t.keys.length),j<i→(t.keys[j]).kind=5)) (fun i _=>b.lk - (intOf i).toNat)
 case atStart=>exact ⟨0,Nat.zero_le _,rfl,rfl,fun j _ h=>by omega⟩
 case round =>
  obtain ⟨i,him,rfl,hW,hi5⟩:=hrel
  obtain rfl:=hW.symm
  by_cases hlt:i<b.lk
  ·have hz : (i : Int) < (b.lk : Int) := by omega
   have hz0:(0:Int)≤(i:Int):=by omega
   have hix:i<t.keys.length:=by rw [lk2.out];exact hlt
   obtain ⟨bk,ok,nk,hadr,hck,hNk,hbk⟩:=row_el rk.out (Below.refl _ _) hix
   obtain ⟨p0,p1,p2,p3,p4,p5,p6,p7,p8⟩:=elem_fields hck
   have hks:nk.kind=t.keys[i].kind:=by
    cases D with
    | zero=>exact hNk.elim
    | succ D=>exact hNk.1.1
   have wi:IntKind.i64.wrap ((i:Int)+1)=(i:Int)+1:=by rw [IntKind.wrap_i64];omega
   rw [hadr] at f7
   by_cases h5:t.keys[i].kind=5
   ·have g5 : (nk.kind != 5) = false := by rw [hks, h5]; rfl
    have hi5':Hid (∀ j (h:j<t.keys.length),j<i+1→(t.keys[j]).kind=5):=fun j hj hl=>by
     by_cases e:j=i
     ·subst e;exact h5
     ·exact hi5.out j hj (by omega)
    clear hks h5 hadr hck hNk hbk hi5
    go_wp2_with fail
    go_roundw
    case rel=>exact ⟨i+1,by omega,by go_num,(by first | trivial | rfl),hi5'⟩
    case measure=>simp [intOf];omega
   ·have g5 : (nk.kind != 5) = true := by rw [hks]; simpa using h5
    have hv:V=false:=by
     cases V with
     | false=>rfl
     | true=>exact absurd ((hK.out.1 rfl).1 i hix) h5
    subst hv
    clear hks h5 hadr hck hNk hbk hi5 hK
    go_wp2_with fail
    go_ret
    exact ⟨rfl,B1.out⟩
  ·have hz : ¬ (i : Int) < (b.lk : Int) := by omega
   have hall:Hid (∀ j (h:j<t.keys.length),(t.keys[j]).kind=5):=fun j hj=>hi5.out j hj (by have:=lk2.out;omega)
   clear hi5
   go_wp2_with fail
   go_loopw [4] (fun s4 wx=>∃ i:Nat,i≤b.li∧s4 = .int .i64 i∧Hid (Below W1.heap.size W1 wx)∧Hid (∀ j (h:j<t.kids.length),j<i→toldF D t.kids[j]=true)) (fun i _=>b.li - (intOf i).toNat)
   case atStart=>exact ⟨0,Nat.zero_le _,rfl,Below.refl _ _,fun j _ h=>by omega⟩
   case round =>
    obtain ⟨i2,him2,rfl,hbl,hi6⟩:=hrel
    have X2:=X1.out.kept hbl.out X1.out.lt
    obtain ⟨q0,q1,q2,q3,q4,q5,q6,q7,q8⟩:=X2.fields
    by_cases hlt2:i2<b.li
    ·have hy : (i2 : Int) < (b.li : Int) := by omega
     have hy0:(0:Int)≤(i2:Int):=by omega
     have hiy:i2<t.kids.length:=by rw [li2.out];exact hlt2
     obtain ⟨bl,ol,nl,hadr,hcl,hNl,hbl0⟩:=row_el ri.out hbl.out hiy
     obtain ⟨p0,p1,p2,p3,p4,p5,p6,p7,p8⟩:=elem_fields hcl
     have wi:IntKind.i64.wrap ((i2:Int)+1)=(i2:Int)+1:=by rw [IntKind.wrap_i64];omega
     have kk:=ih t.kids[i2] nl _ hNl (hai'.out _ (List.getElem_mem hiy))
     rw [hadr] at q8
     obtain ⟨U,hU⟩:∃ U,toldF D t.kids[i2]=U:=⟨_,rfl⟩
     rw [hU] at kk
     cases U with
     | true =>
      have hi7:Hid (∀ j (h:j<t.kids.length),j<i2+1→toldF D t.kids[j]=true):=fun j hj hl=>by
       by_cases e:j=i2
       ·subst e;exact hU
       ·exact hi6.out j hj (by omega)
      clear hadr hcl hNl hbl0 hU hi6 X2 f0 f1 f2 f3 f4 f5 f6 f7 f8
      go_wp2_with (go_at_call 32;refine kk.mono ?_;rintro e w5 ⟨rfl,hb5⟩;have b5:Hid (Below W1.heap.size W1 w5):=hbl.out.trans (hb5.mono hbl.out.size);clear hb5)
      go_roundw
      case rel=>exact ⟨i2+1,by omega,by go_num,b5,hi7⟩
      case measure=>simp [intOf];omega
     | false =>
      have hv:V=false:=by
       cases V with
       | false=>rfl
       | true=>have:=(hK.out.1 rfl).2 i2 hiy;rw [hU] at this;cases this
      subst hv
      clear hadr hcl hNl hbl0 hU hi6 X2 hK f0 f1 f2 f3 f4 f5 f6 f7 f8
      go_wp2_with (go_at_call 32;refine kk.mono ?_;rintro e w5 ⟨rfl,hb5⟩;have b5:Hid (Below W1.heap.size W1 w5):=hbl.out.trans (hb5.mono hbl.out.size);clear hb5)
      go_ret
      exact ⟨rfl,B1.out.trans (b5.out.mono B1.out.size)⟩
    ·have hy : ¬ (i2 : Int) < (b.li : Int) := by omega
     have hv:V=true:=hK.out.2 ⟨hall.out,fun j hj=>hi6.out j hj (by have:=li2.out;omega)⟩
     subst hv
     clear hi6 X2 hK f0 f1 f2 f3 f4 f5 f6 f7 f8
     go_wp2_with fail
     go_ret
     exact ⟨rfl,B1.out.trans (hbl.out.mono B1.out.size)⟩
theorem wtold_all:∀ D,ToldAt D:=by
 intro D
 induction D with
 | zero=>intro t b w h;exact h.elim
 | succ D ih=>exact wtold_step ih
set_option maxHeartbeats 2000000 in
set_option maxRecDepth 100000 in
theorem wcan_any{D:Nat}{t:Tr}{b:Nb}{w:World}(hN:Nd D w b t) :
  Calls Tryz.prog 16 #[.agg b.arr] w fun e w'=>(∃ V,e = .returned (.bool V)∧Hid (V=true ↔ t.May (fun u=>alF u=0)∧toldF D t=true))∧Below w.heap.size w w':=by
 have hal:=alloc_below w (.cells b.arr 26)
 have B1:Hid (Below w.heap.size w (w.alloc (.cells b.arr 26))):=hal
 have X1:Hid (NBox (w.alloc (.cells b.arr 26)) w.heap.size b):=nbox_new w b
 have kC:=echeck_any (hN.kept hal)
 have hN':Hid (Nd D w b t):=hN
 obtain ⟨f0,f1,f2,f3,f4,f5,f6,f7,f8⟩:=(nbox_new w b).fields
 clear hN hal
 go_enter Tryz.func16,Tryz.ntmps16
 go_wp2_with fail
 refine kC.mono ?_
 rintro e w2 ⟨⟨er,rfl,hc⟩,hb2⟩
 have b2:Hid (Below w.heap.size w w2):=B1.out.trans (hb2.mono B1.out.size)
 have X2:Hid (NBox w2 w.heap.size b):=X1.out.kept hb2 X1.out.lt
 have hc':Hid (Tr.ChkIs alF t er):=hc
 clear kC hb2 f0 f1 f2 f3 f4 f5 f6 f7 f8 X1 hc
 by_cases h0:er=0
 ·have hM : Hid (t.May (fun u => alF u = 0)) := (chk_is hc'.out).1 h0
  subst h0
  have kT:=wtold_all D t b w2 (hN'.out.kept b2.out) hM.out.2.2.1
  obtain ⟨V,hV⟩:∃ V,toldF D t=V:=⟨_,rfl⟩
  rw [hV] at kT
  have hq:Hid (V=true ↔ t.May (fun u=>alF u=0)∧toldF D t=true):=by
   rw [hV]
   cases V with
   | true=>exact ⟨fun _=>⟨hM.out,rfl⟩,fun _=>rfl⟩
   | false=>exact ⟨fun e=>(by cases e),fun e=>e.2⟩
  obtain ⟨f0,f1,f2,f3,f4,f5,f6,f7,f8⟩:=X2.out.fields
  clear hV
  go_wp2_with fail
  refine kT.mono ?_
  rintro e w3 ⟨rfl,hb3⟩
  clear kT
  go_wp2_with fail
  go_ret
  exact ⟨⟨V,rfl,hq⟩,b2.out.trans (hb3.mono b2.out.size)⟩
 ·have g0 : (er == 0) = false := by simpa using h0
  have hq:Hid (false=true ↔ t.May (fun u=>alF u=0)∧toldF D t=true):=⟨fun e=>(by cases e),fun e=>absurd ((chk_is hc'.out).2 e.1) h0⟩
  clear h0
  go_wp2_with fail
  go_ret
  exact ⟨⟨false,rfl,hq⟩,b2.out⟩
end Go.Proofs.YtejlaiofpekchaaGreatDoor
namespace Go.Proofs.YtejlaiofpekchaaGreatDoor
open Go.RowKit Go.Shelf
set_option linter.unusedVariables false
def Kin(u:Tr):Prop:=(0≤u.kind∧u.kind≤10)∧(u.kind=9→u.kids≠[])
theorem kin_of{u:Tr}(h:alF u=0):Kin u:=by
 have ho:=Tr.alo_odd h
 unfold Tr.odd at ho
 simp only [Bool.or_eq_false_iff,Bool.and_eq_false_iff,decide_eq_false_iff_not,Bool.not_eq_false'] at ho
 refine ⟨by omega,fun k e=>?_⟩
 have hl:u.kids.length=0:=by rw [e];rfl
 omega
theorem kin_all:∀ (k:Nat) (t:Tr),t.deep≤k→t.All (fun u=>alF u=0)→t.All Kin
 | 0,t,hd,_=>by rw [Tr.deep_eq] at hd;omega
 | k+1,t,hd,hA=>by
  obtain ⟨a,b,c⟩:=(Tr.all_eq _ t).1 hA
  exact (Tr.all_eq Kin t).2 ⟨kin_of a,fun u hu=>kin_all k u (by have:=Tr.key_deep hu;omega) (b u hu),fun u hu=>kin_all k u (by have:=Tr.kid_deep hu;omega) (c u hu)⟩
theorem numV_told(n:Int):toldF 1 (numV n).1=true:=by
 unfold numV
 split
 ·rfl
 ·split <;> simp [toldF]
def Both(t:Tr):Prop:=t.May (fun u=>alF u=0)∧(tlF 24 t []).1.May (fun u=>alF u=0)
theorem tl_told{t:Tr}(h:Both t):toldF 48 (tlF 24 t []).1=true:=tell_can numV hexS numV_told 24 t [] (kin_all 24 t h.1.2.1 h.1.2.2.1) h.1.2.1
theorem tl_stay{t:Tr}(h:toldF 24 t=true):tlF 24 t []=(t,[]):=tell_stays numV hexS 24 t [] h
theorem json_no{D L0:Nat}{t:Tr}{b:Nb}{w:World}(hN:Nd D w b t)(hB:¬ Both t)(hT:Tab L0 w)(hL:L0≤w.heap.size):Calls Tryz.prog 8 #[.agg #[.int .i64 b.kind, .int .u64 b.num, .bool b.neg, .string b.dig, .int .i64 b.exp, .string b.txt, .slice b.ab b.lb b.cb, .slice b.ak b.lk b.ck, .slice b.ai b.li b.ci]] w fun e w'=>(∃ er:Int,e = .returned (.tuple #[.agg #[.int .i64 0, .int .u64 0, .bool false, .string ⟨#[]⟩, .int .i64 0, .string ⟨#[]⟩, .slice none 0 0, .slice none 0 0, .slice none 0 0], .slice none 0 0, .int .i64 er])∧er≠0)∧Hid (Below w.heap.size w w'):=by
 by_cases hM:t.May (fun u=>alF u=0)
 ·have hM2 : ¬ (tlF 24 t []).1.May (fun u => alF u = 0) := fun h => hB ⟨hM, h⟩
  refine (tojson_not hN hM hM2 hT hL).mono ?_
  rintro e w' ⟨⟨er,he,_,h0⟩,hb⟩
  exact ⟨⟨er,he,h0⟩,hb⟩
 ·refine (tojson_no hN hM).mono ?_
  rintro e w' ⟨⟨er,he,_,h0⟩,hb⟩
  exact ⟨⟨er,he,h0⟩,hb⟩
theorem json_yes{D L0:Nat}{t:Tr}{b:Nb}{w:World}(hN:Nd D w b t)(hB:Both t)(hT:Tab L0 w)(hL:L0≤w.heap.size):Calls Tryz.prog 8 #[.agg #[.int .i64 b.kind, .int .u64 b.num, .bool b.neg, .string b.dig, .int .i64 b.exp, .string b.txt, .slice b.ab b.lb b.cb, .slice b.ak b.lk b.ck, .slice b.ai b.li b.ci]] w fun e w'=>(∃ (b2:Nb) (a:Option Addr) (n c:Nat),e = .returned (.tuple #[.agg #[.int .i64 b2.kind, .int .u64 b2.num, .bool b2.neg, .string b2.dig, .int .i64 b2.exp, .string b2.txt, .slice b2.ab b2.lb b2.cb, .slice b2.ak b2.lk b2.ck, .slice b2.ai b2.li b2.ci], .slice a n c, .int .i64 0])∧Hid (Nd 48 w' b2 (tlF 24 t []).1∧n=(tlF 24 t []).2.length))∧Hid (Below w.heap.size w w'):=by
 refine (tojson_yes hN hB.1 hB.2 hT hL).mono ?_
 rintro e w' ⟨⟨b',f',a,n,c,L,B,he,hj⟩,hb⟩
 refine ⟨⟨b',a,n,c,he,hj.out.1.fr.nd,?_⟩,hb⟩
 rw [←hj.out.1.ls,List.length_map]
 exact hj.out.2
theorem can_told{t:Tr}{b:Nb}{w:World}(hN:Nd 48 w b (tlF 24 t []).1)(hB:Both t):Calls Tryz.prog 16 #[.agg #[.int .i64 b.kind, .int .u64 b.num, .bool b.neg, .string b.dig, .int .i64 b.exp, .string b.txt, .slice b.ab b.lb b.cb, .slice b.ak b.lk b.ck, .slice b.ai b.li b.ci]] w fun e w'=>e = .returned (.bool true)∧Hid (Below w.heap.size w w'):=by
 refine (wcan_any hN).mono ?_
 rintro e w' ⟨⟨V,he,hV⟩,hb⟩
 have:=hV.out.2 ⟨hB.2,tl_told hB⟩
 subst this
 exact ⟨he,hb⟩
theorem alive_all{w:World}{L0:Nat}(hT:Tab L0 w)(hL:L0≤w.heap.size):Hid (∀ W,Below w.heap.size w W→Calls Tryz.prog 12 #[] W fun e w'=>e = .returned (.bool true)∧Below W.heap.size W w') :=
 fun W hW=>valive_any W (hT.on (hW.mono hL)) (Nat.le_trans hL hW.size)
set_option maxHeartbeats 8000000 in
set_option maxRecDepth 100000 in
theorem wconvcan{D L0:Nat}{t:Tr}{b:Nb}{w:World}(hN:Nd D w b t)(hT:Tab L0 w)(hL:L0≤w.heap.size):Calls Tryz.prog 5 #[.agg #[.int .i64 b.kind, .int .u64 b.num, .bool b.neg, .string b.dig, .int .i64 b.exp, .string b.txt, .slice b.ab b.lb b.cb, .slice b.ak b.lk b.ck, .slice b.ai b.li b.ci]] w fun e w'=>e = .returned (.bool true)∧Below w.heap.size w w':=by
 have kA:=alive_all hT hL
 have hal:=alloc_below w (.cells #[.int .i64 b.kind, .int .u64 b.num, .bool b.neg, .string b.dig, .int .i64 b.exp, .string b.txt, .slice b.ab b.lb b.cb, .slice b.ak b.lk b.ck, .slice b.ai b.li b.ci] 26)
 have B1:Hid (Below w.heap.size w (w.alloc (.cells #[.int .i64 b.kind, .int .u64 b.num, .bool b.neg, .string b.dig, .int .i64 b.exp, .string b.txt, .slice b.ab b.lb b.cb, .slice b.ak b.lk b.ck, .slice b.ai b.li b.ci] 26))):=hal
 obtain ⟨f0,f1,f2,f3,f4,f5,f6,f7,f8⟩:=(nbox_new w b).fields
 have hT1:Tab L0 (w.alloc (.cells #[.int .i64 b.kind, .int .u64 b.num, .bool b.neg, .string b.dig, .int .i64 b.exp, .string b.txt, .slice b.ab b.lb b.cb, .slice b.ak b.lk b.ck, .slice b.ai b.li b.ci] 26)):=hT.on (hal.mono hL)
 have hL1:L0≤(w.alloc (.cells #[.int .i64 b.kind, .int .u64 b.num, .bool b.neg, .string b.dig, .int .i64 b.exp, .string b.txt, .slice b.ab b.lb b.cb, .slice b.ak b.lk b.ck, .slice b.ai b.li b.ci] 26)).heap.size:=Nat.le_trans hL hal.size
 have hN1:Nd D (w.alloc (.cells #[.int .i64 b.kind, .int .u64 b.num, .bool b.neg, .string b.dig, .int .i64 b.exp, .string b.txt, .slice b.ab b.lb b.cb, .slice b.ak b.lk b.ck, .slice b.ai b.li b.ci] 26)) b t:=hN.kept hal
 clear hT hL hN hal
 by_cases hB:Both t
 ·have kJ := json_yes hN1 hB hT1 hL1
  have hB':Hid (Both t):=hB
  clear hB hN1 hT1 hL1
  go_enter Tryz.func5,Tryz.ntmps5
  go_upto_region 2 with (go_at_call 8;refine kJ.mono ?_;rintro e x1 ⟨⟨b2,a,n,c,rfl,hj⟩,hb1⟩;clear kJ f0 f1 f2 f3 f4 f5 f6 f7 f8)
  have hal:=alloc_below x1 (.cells #[.int .i64 b2.kind, .int .u64 b2.num, .bool b2.neg, .string b2.dig, .int .i64 b2.exp, .string b2.txt, .slice b2.ab b2.lb b2.cb, .slice b2.ak b2.lk b2.ck, .slice b2.ai b2.li b2.ci] 26)
  have b1:Hid (Below w.heap.size w (x1.alloc (.cells #[.int .i64 b2.kind, .int .u64 b2.num, .bool b2.neg, .string b2.dig, .int .i64 b2.exp, .string b2.txt, .slice b2.ab b2.lb b2.cb, .slice b2.ak b2.lk b2.ck, .slice b2.ai b2.li b2.ci] 26))):=(B1.out.trans (hb1.out.mono B1.out.size)).trans (hal.mono (Nat.le_trans B1.out.size hb1.out.size))
  have kC:=can_told (hj.out.1.kept hal) hB'.out
  have N2:NBox (x1.alloc (.cells #[.int .i64 b2.kind, .int .u64 b2.num, .bool b2.neg, .string b2.dig, .int .i64 b2.exp, .string b2.txt, .slice b2.ab b2.lb b2.cb, .slice b2.ak b2.lk b2.ck, .slice b2.ai b2.li b2.ci] 26)) x1.heap.size b2:=nbox_new x1 b2
  clear hal hb1 hj B1 hB'
  generalize (x1.alloc (.cells #[.int .i64 b2.kind, .int .u64 b2.num, .bool b2.neg, .string b2.dig, .int .i64 b2.exp, .string b2.txt, .slice b2.ab b2.lb b2.cb, .slice b2.ak b2.lk b2.ck, .slice b2.ai b2.li b2.ci] 26))=X at *
  obtain ⟨f0,f1,f2,f3,f4,f5,f6,f7,f8⟩:=N2.fields
  clear N2
  go_wp2_with (first
   | (go_at_call 16;refine kC.mono ?_;rintro e x2 ⟨rfl,hb2⟩;clear kC;have b2':Hid (Below w.heap.size w x2):=b1.out.trans (hb2.out.mono b1.out.size);have kL:=kA.out x2 b2'.out)
   | (go_at_call 12;refine kL.mono ?_;rintro e x3 ⟨rfl,hb3⟩))
  go_ret
  exact ⟨rfl,b2'.out.trans (hb3.mono b2'.out.size)⟩
 ·have kJ := json_no hN1 hB hT1 hL1
  clear hB hN1 hT1 hL1
  go_enter Tryz.func5,Tryz.ntmps5
  go_upto_region 2 with (go_at_call 8;refine kJ.mono ?_;rintro e x1 ⟨⟨er,rfl,h0⟩,hb1⟩;clear kJ f0 f1 f2 f3 f4 f5 f6 f7 f8)
  have hal:=alloc_below x1 (.cells #[.int .i64 0, .int .u64 0, .bool false, .string ⟨#[]⟩, .int .i64 0, .string ⟨#[]⟩, .slice none 0 0, .slice none 0 0, .slice none 0 0] 26)
  have b1:Hid (Below w.heap.size w (x1.alloc (.cells #[.int .i64 0, .int .u64 0, .bool false, .string ⟨#[]⟩, .int .i64 0, .string ⟨#[]⟩, .slice none 0 0, .slice none 0 0, .slice none 0 0] 26))):=(B1.out.trans (hb1.out.mono B1.out.size)).trans (hal.mono (Nat.le_trans B1.out.size hb1.out.size))
  have kL:=kA.out (x1.alloc (.cells #[.int .i64 0, .int .u64 0, .bool false, .string ⟨#[]⟩, .int .i64 0, .string ⟨#[]⟩, .slice none 0 0, .slice none 0 0, .slice none 0 0] 26)) b1.out
  have g0:(er==0)=false:=by simpa using h0
  clear hal hb1 B1
  generalize (x1.alloc (.cells #[.int .i64 0, .int .u64 0, .bool false, .string ⟨#[]⟩, .int .i64 0, .string ⟨#[]⟩, .slice none 0 0, .slice none 0 0, .slice none 0 0] 26))=X at *
  go_wp2_with (go_at_call 12;refine kL.mono ?_;rintro e x3 ⟨rfl,hb3⟩)
  go_ret
  exact ⟨rfl,b1.out.trans (hb3.mono b1.out.size)⟩
end Go.Proofs.YtejlaiofpekchaaGreatDoor
namespace Go.Proofs.YtejlaiofpekchaaGreatDoor
open Go.RowKit Go.Shelf
set_option linter.unusedVariables false
theorem kin_only:∀ (k:Nat) (t:Tr),t.deep≤k→t.All Kin→t.All (fun u=>0≤u.kind∧u.kind≤10)
 | 0,t,hd,_=>by rw [Tr.deep_eq] at hd;omega
 | k+1,t,hd,hA=>by
  obtain ⟨a,b,c⟩:=(Tr.all_eq _ t).1 hA
  exact (Tr.all_eq _ t).2 ⟨a.1,fun u hu=>kin_only k u (by have:=Tr.key_deep hu;omega) (b u hu),fun u hu=>kin_only k u (by have:=Tr.kid_deep hu;omega) (c u hu)⟩
theorem all_kin{t:Tr}(h:Both t):t.All (fun u=>0≤u.kind∧u.kind≤10):=kin_only 24 t h.1.2.1 (kin_all 24 t h.1.2.1 h.1.2.2.1)
theorem can_no{D:Nat}{t:Tr}{b:Nb}{w:World}(hN:Nd D w b t)(hB:¬ Both t):Calls Tryz.prog 16 #[.agg #[.int .i64 b.kind, .int .u64 b.num, .bool b.neg, .string b.dig, .int .i64 b.exp, .string b.txt, .slice b.ab b.lb b.cb, .slice b.ak b.lk b.ck, .slice b.ai b.li b.ci]] w fun e w'=>e = .returned (.bool false)∧Hid (Below w.heap.size w w'):=by
 by_cases hM:t.May (fun u=>alF u=0)
 ·refine (wcan_any (nd_low D 24 hN hM.2.1)).mono ?_
  rintro e w' ⟨⟨V,he,hV⟩,hb⟩
  cases V with
  | false=>exact ⟨he,hb⟩
  | true =>
   have h:=(hV.out.1 rfl).2
   exact absurd ⟨hM,by rw [tl_stay h];exact hM⟩ hB
 ·refine (wcan_any hN).mono ?_
  rintro e w' ⟨⟨V,he,hV⟩,hb⟩
  cases V with
  | false=>exact ⟨he,hb⟩
  | true=>exact absurd (hV.out.1 rfl).1 hM
theorem can_is{D:Nat}{t:Tr}{b:Nb}{w:World}{V:Bool}(hN:Nd D w b t)(hB:Both t)(hV:toldF 24 t=V):Calls Tryz.prog 16 #[.agg #[.int .i64 b.kind, .int .u64 b.num, .bool b.neg, .string b.dig, .int .i64 b.exp, .string b.txt, .slice b.ab b.lb b.cb, .slice b.ak b.lk b.ck, .slice b.ai b.li b.ci]] w fun e w'=>e = .returned (.bool V)∧Hid (Below w.heap.size w w'):=by
 refine (wcan_any (nd_low D 24 hN hB.1.2.1)).mono ?_
 rintro e w' ⟨⟨U,he,hU⟩,hb⟩
 have:U=V:=by
  subst hV
  cases h:toldF 24 t with
  | true=>exact hU.out.2 ⟨hB.1,h⟩
  | false =>
   cases U with
   | false=>rfl
   | true=>have:=(hU.out.1 rfl).2;rw [h] at this;cases this
 subst this
 exact ⟨he,hb⟩
theorem stays_same{D E:Nat}{t:Tr}{b b2:Nb}{w:World}(hA:Nd E w b2 t)(hN:Nd D w b t)(hB:Both t):Calls Tryz.prog 10 #[.agg #[.int .i64 b2.kind, .int .u64 b2.num, .bool b2.neg, .string b2.dig, .int .i64 b2.exp, .string b2.txt, .slice b2.ab b2.lb b2.cb, .slice b2.ak b2.lk b2.ck, .slice b2.ai b2.li b2.ci], .agg #[.int .i64 b.kind, .int .u64 b.num, .bool b.neg, .string b.dig, .int .i64 b.exp, .string b.txt, .slice b.ab b.lb b.cb, .slice b.ak b.lk b.ck, .slice b.ai b.li b.ci]] w fun e w'=>e = .returned (.bool true)∧Hid (Below w.heap.size w w') :=
 (esame_any hA hN (v:=true) ⟨fun _=>⟨hB.1.1,hB.1.1,rfl⟩,fun _=>rfl⟩).mono fun e w' h=>h
set_option maxHeartbeats 8000000 in
set_option maxRecDepth 100000 in
theorem wconvstays{D L0:Nat}{t:Tr}{b:Nb}{w:World}(hN:Nd D w b t)(hT:Tab L0 w)(hL:L0≤w.heap.size):Calls Tryz.prog 6 #[.agg #[.int .i64 b.kind, .int .u64 b.num, .bool b.neg, .string b.dig, .int .i64 b.exp, .string b.txt, .slice b.ab b.lb b.cb, .slice b.ak b.lk b.ck, .slice b.ai b.li b.ci]] w fun e w'=>e = .returned (.bool true)∧Below w.heap.size w w':=by
 have kA:=alive_all hT hL
 have hal:=alloc_below w (.cells #[.int .i64 b.kind, .int .u64 b.num, .bool b.neg, .string b.dig, .int .i64 b.exp, .string b.txt, .slice b.ab b.lb b.cb, .slice b.ak b.lk b.ck, .slice b.ai b.li b.ci] 26)
 have B1:Hid (Below w.heap.size w (w.alloc (.cells #[.int .i64 b.kind, .int .u64 b.num, .bool b.neg, .string b.dig, .int .i64 b.exp, .string b.txt, .slice b.ab b.lb b.cb, .slice b.ak b.lk b.ck, .slice b.ai b.li b.ci] 26))):=hal
 have N1:Hid (NBox (w.alloc (.cells #[.int .i64 b.kind, .int .u64 b.num, .bool b.neg, .string b.dig, .int .i64 b.exp, .string b.txt, .slice b.ab b.lb b.cb, .slice b.ak b.lk b.ck, .slice b.ai b.li b.ci] 26)) w.heap.size b):=nbox_new w b
 obtain ⟨f0,f1,f2,f3,f4,f5,f6,f7,f8⟩:=(nbox_new w b).fields
 have hT1:Tab L0 (w.alloc (.cells #[.int .i64 b.kind, .int .u64 b.num, .bool b.neg, .string b.dig, .int .i64 b.exp, .string b.txt, .slice b.ab b.lb b.cb, .slice b.ak b.lk b.ck, .slice b.ai b.li b.ci] 26)):=hT.on (hal.mono hL)
 have hL1:L0≤(w.alloc (.cells #[.int .i64 b.kind, .int .u64 b.num, .bool b.neg, .string b.dig, .int .i64 b.exp, .string b.txt, .slice b.ab b.lb b.cb, .slice b.ak b.lk b.ck, .slice b.ai b.li b.ci] 26)).heap.size:=Nat.le_trans hL hal.size
 have hN1:Hid (Nd D (w.alloc (.cells #[.int .i64 b.kind, .int .u64 b.num, .bool b.neg, .string b.dig, .int .i64 b.exp, .string b.txt, .slice b.ab b.lb b.cb, .slice b.ak b.lk b.ck, .slice b.ai b.li b.ci] 26)) b t):=hN.kept hal
 clear hT hL hN hal
 by_cases hB:Both t
 ·have kJ := json_yes hN1.out hB hT1 hL1
  have hB':Hid (Both t):=hB
  clear hB hT1 hL1
  go_enter Tryz.func6,Tryz.ntmps6
  go_upto_region 2 with (go_at_call 8;refine kJ.mono ?_;rintro e x1 ⟨⟨b2,a,n,c,rfl,hj⟩,hb1⟩;clear kJ f0 f1 f2 f3 f4 f5 f6 f7 f8)
  have hal:=alloc_below x1 (.cells #[.int .i64 b2.kind, .int .u64 b2.num, .bool b2.neg, .string b2.dig, .int .i64 b2.exp, .string b2.txt, .slice b2.ab b2.lb b2.cb, .slice b2.ak b2.lk b2.ck, .slice b2.ai b2.li b2.ci] 26)
  have c1:Below (w.alloc (.cells #[.int .i64 b.kind, .int .u64 b.num, .bool b.neg, .string b.dig, .int .i64 b.exp, .string b.txt, .slice b.ab b.lb b.cb, .slice b.ak b.lk b.ck, .slice b.ai b.li b.ci] 26)).heap.size (w.alloc (.cells #[.int .i64 b.kind, .int .u64 b.num, .bool b.neg, .string b.dig, .int .i64 b.exp, .string b.txt, .slice b.ab b.lb b.cb, .slice b.ak b.lk b.ck, .slice b.ai b.li b.ci] 26)) (x1.alloc (.cells #[.int .i64 b2.kind, .int .u64 b2.num, .bool b2.neg, .string b2.dig, .int .i64 b2.exp, .string b2.txt, .slice b2.ab b2.lb b2.cb, .slice b2.ak b2.lk b2.ck, .slice b2.ai b2.li b2.ci] 26)):=hb1.out.trans (hal.mono hb1.out.size)
  have b1:Hid (Below w.heap.size w (x1.alloc (.cells #[.int .i64 b2.kind, .int .u64 b2.num, .bool b2.neg, .string b2.dig, .int .i64 b2.exp, .string b2.txt, .slice b2.ab b2.lb b2.cb, .slice b2.ak b2.lk b2.ck, .slice b2.ai b2.li b2.ci] 26))):=B1.out.trans (c1.mono B1.out.size)
  have hj1:Hid (Nd 48 (x1.alloc (.cells #[.int .i64 b2.kind, .int .u64 b2.num, .bool b2.neg, .string b2.dig, .int .i64 b2.exp, .string b2.txt, .slice b2.ab b2.lb b2.cb, .slice b2.ak b2.lk b2.ck, .slice b2.ai b2.li b2.ci] 26)) b2 (tlF 24 t []).1):=hj.out.1.kept hal
  have hj2:Hid (n=(tlF 24 t []).2.length):=hj.out.2
  have M1:NBox (x1.alloc (.cells #[.int .i64 b2.kind, .int .u64 b2.num, .bool b2.neg, .string b2.dig, .int .i64 b2.exp, .string b2.txt, .slice b2.ab b2.lb b2.cb, .slice b2.ak b2.lk b2.ck, .slice b2.ai b2.li b2.ci] 26)) w.heap.size b:=N1.out.kept c1 N1.out.lt
  have M2:NBox (x1.alloc (.cells #[.int .i64 b2.kind, .int .u64 b2.num, .bool b2.neg, .string b2.dig, .int .i64 b2.exp, .string b2.txt, .slice b2.ab b2.lb b2.cb, .slice b2.ak b2.lk b2.ck, .slice b2.ai b2.li b2.ci] 26)) x1.heap.size b2:=nbox_new x1 b2
  have hNX:Hid (Nd D (x1.alloc (.cells #[.int .i64 b2.kind, .int .u64 b2.num, .bool b2.neg, .string b2.dig, .int .i64 b2.exp, .string b2.txt, .slice b2.ab b2.lb b2.cb, .slice b2.ak b2.lk b2.ck, .slice b2.ai b2.li b2.ci] 26)) b t):=hN1.out.kept c1
  clear hal hb1 hj B1 c1 N1 hN1
  generalize (x1.alloc (.cells #[.int .i64 b2.kind, .int .u64 b2.num, .bool b2.neg, .string b2.dig, .int .i64 b2.exp, .string b2.txt, .slice b2.ab b2.lb b2.cb, .slice b2.ak b2.lk b2.ck, .slice b2.ai b2.li b2.ci] 26))=X at *
  generalize x1.heap.size=g2 at *
  have M1':Hid (NBox X w.heap.size b):=M1
  have M2':Hid (NBox X g2 b2):=M2
  obtain ⟨f0,f1,f2,f3,f4,f5,f6,f7,f8⟩:=M1.fields
  clear M1 M2
  cases hV:toldF 24 t with
  | true =>
   have kC:=can_is hNX.out hB'.out hV
   have ht:=tl_stay hV
   rw [ht] at hj1 hj2
   have hn:n=0:=hj2.out
   subst hn
   clear hj2 ht hV
   go_wp2_with (first
    | (go_at_call 16;refine kC.mono ?_;rintro e x2 ⟨rfl,hb2⟩;clear kC f0 f1 f2 f3 f4 f5 f6 f7 f8;have b2':Hid (Below w.heap.size w x2):=b1.out.trans (hb2.out.mono b1.out.size);have kS:=stays_same (hj1.out.kept hb2.out) (hNX.out.kept hb2.out) hB'.out;obtain ⟨f0,f1,f2,f3,f4,f5,f6,f7,f8⟩:=(M1'.out.kept hb2.out M1'.out.lt).fields;obtain ⟨q0,q1,q2,q3,q4,q5,q6,q7,q8⟩:=(M2'.out.kept hb2.out M2'.out.lt).fields)
    | (go_at_call 10;refine kS.mono ?_;rintro e x3 ⟨rfl,hb3⟩;clear kS f0 f1 f2 f3 f4 f5 f6 f7 f8 q0 q1 q2 q3 q4 q5 q6 q7 q8;have b3':Hid (Below w.heap.size w x3):=b2'.out.trans (hb3.out.mono b2'.out.size);have kL:=kA.out x3 b3'.out)
    | (go_at_call 12;refine kL.mono ?_;rintro e x4 ⟨rfl,hb4⟩))
   go_ret
   exact ⟨rfl,b3'.out.trans (hb4.mono b3'.out.size)⟩
  | false =>
   have kC:=can_is hNX.out hB'.out hV
   have hlost:=tell_lost numV hexS 24 t [] (all_kin hB'.out) hB'.out.1.2.1 hV
   have hn:0<n:=by
    rw [hj2.out]
    exact List.length_pos_iff.2 hlost
   clear hj2 hlost hV
   go_wp2_with (first
    | (go_at_call 16;refine kC.mono ?_;rintro e x2 ⟨rfl,hb2⟩;clear kC f0 f1 f2 f3 f4 f5 f6 f7 f8;have b2':Hid (Below w.heap.size w x2):=b1.out.trans (hb2.out.mono b1.out.size);have kL:=kA.out x2 b2'.out)
    | (go_at_call 12;refine kL.mono ?_;rintro e x4 ⟨rfl,hb4⟩))
   go_ret
   exact ⟨rfl,b2'.out.trans (hb4.mono b2'.out.size)⟩
 ·have kJ := json_no hN1.out hB hT1 hL1
  have hB':Hid (¬ Both t):=hB
  clear hB hT1 hL1
  go_enter Tryz.func6,Tryz.ntmps6
  go_upto_region 2 with (go_at_call 8;refine kJ.mono ?_;rintro e x1 ⟨⟨er,rfl,h0⟩,hb1⟩;clear kJ f0 f1 f2 f3 f4 f5 f6 f7 f8)
  have hal:=alloc_below x1 (.cells #[.int .i64 0, .int .u64 0, .bool false, .string ⟨#[]⟩, .int .i64 0, .string ⟨#[]⟩, .slice none 0 0, .slice none 0 0, .slice none 0 0] 26)
  have c1:Below (w.alloc (.cells #[.int .i64 b.kind, .int .u64 b.num, .bool b.neg, .string b.dig, .int .i64 b.exp, .string b.txt, .slice b.ab b.lb b.cb, .slice b.ak b.lk b.ck, .slice b.ai b.li b.ci] 26)).heap.size (w.alloc (.cells #[.int .i64 b.kind, .int .u64 b.num, .bool b.neg, .string b.dig, .int .i64 b.exp, .string b.txt, .slice b.ab b.lb b.cb, .slice b.ak b.lk b.ck, .slice b.ai b.li b.ci] 26)) (x1.alloc (.cells #[.int .i64 0, .int .u64 0, .bool false, .string ⟨#[]⟩, .int .i64 0, .string ⟨#[]⟩, .slice none 0 0, .slice none 0 0, .slice none 0 0] 26)):=hb1.out.trans (hal.mono hb1.out.size)
  have b1:Hid (Below w.heap.size w (x1.alloc (.cells #[.int .i64 0, .int .u64 0, .bool false, .string ⟨#[]⟩, .int .i64 0, .string ⟨#[]⟩, .slice none 0 0, .slice none 0 0, .slice none 0 0] 26))):=B1.out.trans (c1.mono B1.out.size)
  have M1:NBox (x1.alloc (.cells #[.int .i64 0, .int .u64 0, .bool false, .string ⟨#[]⟩, .int .i64 0, .string ⟨#[]⟩, .slice none 0 0, .slice none 0 0, .slice none 0 0] 26)) w.heap.size b:=N1.out.kept c1 N1.out.lt
  have kC:=can_no (hN1.out.kept c1) hB'.out
  have g0:(er==0)=false:=by simpa using h0
  clear hal hb1 B1 c1 N1 hN1 hB'
  generalize (x1.alloc (.cells #[.int .i64 0, .int .u64 0, .bool false, .string ⟨#[]⟩, .int .i64 0, .string ⟨#[]⟩, .slice none 0 0, .slice none 0 0, .slice none 0 0] 26))=X at *
  obtain ⟨f0,f1,f2,f3,f4,f5,f6,f7,f8⟩:=M1.fields
  clear M1
  go_wp2_with (first
   | (go_at_call 16;refine kC.mono ?_;rintro e x2 ⟨rfl,hb2⟩;clear kC f0 f1 f2 f3 f4 f5 f6 f7 f8;have b2':Hid (Below w.heap.size w x2):=b1.out.trans (hb2.out.mono b1.out.size);have kL:=kA.out x2 b2'.out)
   | (go_at_call 12;refine kL.mono ?_;rintro e x3 ⟨rfl,hb3⟩))
  go_ret
  exact ⟨rfl,b2'.out.trans (hb3.mono b2'.out.size)⟩
end Go.Proofs.YtejlaiofpekchaaGreatDoor
