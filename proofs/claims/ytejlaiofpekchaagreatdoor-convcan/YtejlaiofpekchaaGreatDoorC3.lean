/-
  Bytes turned into strings, and compared: they are equal just where the bytes are.
  Rows of integers: read, made, appended to, written.
  Numbers cloned: slices.Clone.
  Trees told in JSON, and what is lost, plainly (for stage 14).
  A region that draws its order, by what holds whatever has been done: one proof for each operation, none for an order.
  A frame by a function of its slots; single operations of a region that draws its order.
  Losses in new memory, and one more: conv.tell's lose.
  Losses held against themselves: conv.SameLosses at one loss of no path.
  Nodes appended to nodes of the call's own: the row stays where it is, or lies in a new block.
-/
import Derived.Test.YtejlaiofpekchaaGreatDoorC1
import Derived.Test.YtejlaiofpekchaaGreatDoorC2
import Derived.Deep.RegionHeld3
import Derived.Deep.RegionWith
import Derived.Deep.CutRange
import Derived.Deep.DeepAppendWide
import Derived.Deep.QuietTactic
import Derived.BigQuiet
import Derived.Lib.SliceRun
import Derived.Shelf.Abstract
namespace Go.Proofs.YtejlaiofpekchaaGreatDoor
open Go.RowKit
theorem conv_str{w:World}{a:Option Addr}{zs:List Int}(hb:Bytes w a zs)(m cap:Nat)(hm:zs.length=m) :
  (convert 23 9 (.slice a m cap)).run Tryz.prog w = .ok (.string (strOfNums zs)) w:=by
 subst hm
 rcases hb.2.2 with rfl | ⟨b,off,rfl,hc⟩
 ·cases a with
  | none=>rw [run_convert_bytes_nil w 23 5 Tryz.underlying23 Tryz.underlying5 _ cap 9 Tryz.underlying9];rfl
  | some x =>
   rw [run_convert_bytes_string w 23 9 5 _ _ cap Tryz.underlying23 Tryz.underlying5 Tryz.underlying9]
   have hl:=run_loadCells_list (P:=Tryz.prog) w x [] (by simp)
   exact run_bytesToString w x 0 cap [] hl
 ·exact run_convert_bytes_arg w 23 5 Tryz.underlying23 Tryz.underlying5 b off zs.length cap zs rfl hc 9 Tryz.underlying9
theorem str_inj{xs ys:List Int}(hx:∀ c∈xs,0≤c∧c<256)(hy:∀ c∈ys,0≤c∧c<256)
  (h:(xs.map fun n=>UInt8.ofNat n.toNat)=ys.map fun n=>UInt8.ofNat n.toNat):xs=ys:=by
 induction xs generalizing ys with
 | nil=>cases ys with
  | nil=>rfl
  | cons y ys=>simp at h
 | cons x xs ih =>
  cases ys with
  | nil=>simp at h
  | cons y ys =>
   simp only [List.map_cons,List.cons.injEq] at h
   have h1:=hx x (by simp)
   have h2:=hy y (by simp)
   have h3:(UInt8.ofNat x.toNat).toNat=(UInt8.ofNat y.toNat).toNat:=by rw [h.1]
   rw [UInt8.toNat_ofNat',UInt8.toNat_ofNat'] at h3
   have h4:x=y:=by
    rw [Nat.mod_eq_of_lt (by omega),Nat.mod_eq_of_lt (by omega)] at h3
    omega
   rw [h4,ih (fun c hc=>hx c (by simp [hc])) (fun c hc=>hy c (by simp [hc])) h.2]
theorem str_eq{xs ys:List Int}(hx:∀ c∈xs,0≤c∧c<256)(hy:∀ c∈ys,0≤c∧c<256) :
  ((strOfNums xs).toList==(strOfNums ys).toList)=decide (xs=ys):=by
 rw [ByteArray.toList_eq,ByteArray.toList_eq,strOfNums_data,strOfNums_data,Bool.eq_iff_iff,beq_iff_eq,decide_eq_true_iff]
 exact ⟨str_inj hx hy,fun h=>by rw [h]⟩
end Go.Proofs.YtejlaiofpekchaaGreatDoor
namespace Go.Proofs.YtejlaiofpekchaaGreatDoor
open Go.RowKit
def Ints(w:World)(a:Option Addr)(l:List Int):Prop :=
 l.length≤maxLen∧(l=[]∨∃ b off,a=some ⟨b,off,none⟩∧∀ i,i<l.length→w.cell? ⟨b,off+i,none⟩=some (.int .i64 (l.getD i 0)))
def OwnsI(w:World)(base:Nat)(v:Value)(l:List Int):Prop:=w.ownsRow base 3 1 v l.length (l.map (Value.int .i64))
theorem info3:(Tryz.prog.info? 3).map (fun i=>(i.zero,i.size,i.bytes))=some (some (.int .i64 0),1,8):=by kernel_rfl
theorem ownsI_nil(w:World)(base:Nat):OwnsI w base (.slice none 0 0) []:=World.ownsRow_nil w base 3 1
theorem OwnsI.shape{w:World}{base:Nat}{v:Value}{l:List Int}(h:OwnsI w base v l) :
  ∃ a cap,v = .slice a l.length cap∧(a=none→cap=0)∧(l.length≤cap∧cap≤maxLen)∧Ints w a l∧(∀ x,a=some x→base≤x.block∧x.block<w.heap.size∧x.off=0∧x.spot=none):=by
 obtain ⟨hl,hv⟩:=h
 rcases hv with ⟨rfl,hn⟩ | ⟨g,cap,cur,rfl,hb,hg,hnc,hcm,hcs,htk⟩
 ·have h0 : l = [] := List.eq_nil_of_length_eq_zero hn
  subst h0
  exact ⟨none,0,rfl,fun _=>rfl,by simp,⟨by simp, .inl rfl⟩,fun x hx=>by cases hx⟩
 ·refine ⟨some ⟨g, 0, none⟩, cap, rfl, (fun hx => by cases hx), ⟨hnc, hcm⟩, ⟨by omega, .inr ⟨g, 0, rfl, fun i hi => ?_⟩⟩, ?_⟩
  ·rw [Nat.zero_add, cell_row hg, ← Array.getElem?_toList]
   have h1:(cur.toList.take (l.length*1))[i]? = (l.map (Value.int .i64))[i]? := by rw [htk]
   rw [List.getElem?_take,if_pos (by omega),List.getElem?_map] at h1
   rw [h1,List.getD_eq_getElem?_getD,List.getElem?_eq_getElem hi];rfl
  ·intro x hx
   cases hx
   exact ⟨hb,(Array.getElem?_eq_some_iff.1 hg).1,rfl,rfl⟩
theorem OwnsI.form{w:World}{base:Nat}{v:Value}{l:List Int}(h:OwnsI w base v l) :
  ∃ a n cap,v = .slice a n cap∧Hid (l.length=n)∧Hid (a=none→cap=0)∧n≤cap∧cap≤9223372036854775807∧Hid (Ints w a l):=by
 obtain ⟨a,cap,hv,hn,⟨hl,hm⟩,hb,_⟩:=h.shape
 exact ⟨a,l.length,cap,hv,rfl,hn,hl,by simpa [maxLen] using hm,hb⟩
theorem OwnsI.below{w w':World}{base:Nat}{v:Value}{l:List Int}(h:OwnsI w base v l)(hb:Below w.heap.size w w'):OwnsI w' base v l :=
 World.ownsRow.kept (row:=none) h ⟨hb.os,hb.tape,hb.output,hb.size,fun k hk _=>hb.block k hk⟩ (by cases hv:v.ownBlock <;> simp)
theorem OwnsI.alloc{w:World}{base:Nat}{v:Value}{l:List Int}(h:OwnsI w base v l)(o:Obj):OwnsI (w.alloc o) base v l:=h.below ((Below.refl _ _).alloc (Nat.le_refl _) o)
theorem OwnsI.base{w:World}{base base':Nat}{v:Value}{l:List Int}(h:OwnsI w base v l)(hB:base'≤base):OwnsI w base' v l:=by
 obtain ⟨hl,hv⟩:=h
 refine ⟨hl,?_⟩
 rcases hv with ⟨rfl,hn⟩ | ⟨g,cap,cur,rfl,hb,hr⟩
 ·exact .inl ⟨rfl,hn⟩
 ·exact .inr ⟨g,cap,cur,rfl,by omega,hr⟩
theorem grownI_below{w w1 w2:World}{base:Nat}{v:Value}{l:List Int}(hb:Below base w w1)(h:OwnsI w1 base v l)(hg:w1.grownBy w2 v.ownBlock)(hB:base≤w1.heap.size):Below base w w2 :=
 hb.grown hg hB fun k hk=>(World.ownsRow.lt h k hk).1
theorem Ints.lt{w:World}{x:Addr}{l:List Int}(hb:Ints w (some x) l)(h0:l≠[]):x.block<w.heap.size:=by
 rcases hb.2 with h1 | ⟨b,off,h1,hc⟩
 ·exact absurd h1 h0
 ·cases h1
  have hp:0<l.length:=List.length_pos_iff.2 h0
  have:=hc 0 hp
  simp only [World.cell?] at this
  show b<w.heap.size
  rcases Nat.lt_or_ge b w.heap.size with h2 | h2
  ·exact h2
  ·simp [Array.getElem?_eq_none h2] at this
theorem Ints.kept{w w':World}{a:Option Addr}{l:List Int}(hb:Ints w a l)(h:Below w.heap.size w w'):Ints w' a l:=by
 refine ⟨hb.1,?_⟩
 rcases hb.2 with h0 | ⟨b,off,rfl,hc⟩
 ·exact .inl h0
 ·by_cases h0 : l = []
  ·exact .inl h0
  ·refine .inr ⟨b, off, rfl, fun i hi => ?_⟩
   rw [h.cell (p:=⟨b,off+i,none⟩) (hb.lt h0)]
   exact hc i hi
theorem ints_some{w:World}{a:Option Addr}{l:List Int}(hb:Ints w a l)(h:0<l.length):∃ b off,a=some ⟨b,off,none⟩:=by
 rcases hb.2 with rfl | ⟨b,off,h1,_⟩
 ·simp at h
 ·exact ⟨b,off,h1⟩
theorem Ints.cell{w:World}{b off:Nat}{l:List Int}(hb:Ints w (some ⟨b,off,none⟩) l){i:Nat}(hi:i<l.length):w.cell? ⟨b,off+i,none⟩=some (.int .i64 (l.getD i 0)):=by
 rcases hb.2 with h | ⟨b',off',h,hc⟩
 ·subst h;simp at hi
 ·cases h
  exact hc i hi
theorem ints_news{w:World}{x:Addr}{l:List Int}(hb:Ints w (some x) l):∀ j u,(l.map (Value.int .i64))[j]? = some u→w.cell? (x.add j)=some u:=by
 intro j u hu
 rcases hb.2 with rfl | ⟨b,off,hx,hc⟩
 ·simp at hu
 ·cases hx
  have hj:j<l.length:=by
   have:=(List.getElem?_eq_some_iff.1 hu).1
   simpa using this
  have h1:=hc j hj
  rw [List.getElem?_map,List.getElem?_eq_getElem hj] at hu
  simp only [Option.map_some,Option.some.injEq] at hu
  subst hu
  have e:(⟨b,off,none⟩:Addr).add j=⟨b,off+j,none⟩:=by
   by_cases h0:j=0
   ·subst h0;simp [Addr.add]
   ·simp [Addr.add,h0]
  rw [e,h1,List.getD_eq_getElem?_getD,List.getElem?_eq_getElem hj];rfl
theorem ints_one(l:List Int):∀ u∈l.map (Value.int .i64),u.oneCell'=true:=by
 intro u hu
 obtain ⟨c,_,rfl⟩:=List.mem_map.1 hu
 rfl
theorem one_int(w:World)(n:Int):Ints (w.alloc (.cells #[.int .i64 n] 3)) (some ⟨w.heap.size,0,none⟩) [n]:=by
 refine ⟨by simp [maxLen], .inr ⟨_,_,rfl,?_⟩⟩
 intro i hi
 rw [World.cell?_alloc_mark]
 match i,hi with
 | 0,_=>rfl
theorem wpList_append_ints{w:World}{ops:Array Oper}{rest:List Oper}{o:Oper}{a:Act}{Q:Exit→Act→World→Prop}(hgd:o.guard=none)(s x:Operand)
  (ho:o.op = .call { callee := .builtin .append,args:=#[s,x],argTypes:=#[42,42] })
  (base:Nat) (v:Value) (ys zs:List Int) (hs:a.eval s=v) (hown:OwnsI w base v ys)
  (ad:Option Addr) (m c:Nat) (hx:a.eval x = .slice ad m c) (hm:zs.length=m) (hn:ad=none→c=0) (hb:Ints w ad zs)
  (hbytes:ys.length+zs.length≤17592186044416) (hbase:base≤w.heap.size)
  (h:∀ v' w',OwnsI w' base v' (ys++zs)→w.grownBy w' v.ownBlock→wpList Tryz.prog ops Q rest (a.put o.dst v') w'):wpList Tryz.prog ops Q (o::rest) a w:=by
 subst hm
 obtain ⟨i,hi,hz,hsz,hby⟩:=info_parts info3
 cases ad with
 | none =>
  have h0:zs=[]:=by
   rcases hb.2 with h0 | ⟨_,_,h0,_⟩
   ·exact h0
   ·cases h0
  subst h0
  rw [hn rfl] at hx
  refine wpList_append_own_none hgd s x 42 ho base 3 i 1 Tryz.underlying42 hi v ys.length _ hs hown hx ?_
  have:=h v w (by simpa using hown) (World.grownBy.refl _ _)
  exact this
 | some ad =>
  refine wpList_append_own_wide w hgd s x 42 ho base 3 i (.int .i64 0) 1 8 Tryz.underlying42 hi hz hsz hby rfl (by decide) v ys.length _ hs hown ad zs.length c (zs.map (Value.int .i64)) hx (by simp) (ints_news hb) (ints_one zs) ?_ (by omega) hbase ?_
  ·unfold maxLen;omega
  ·intro v' w' ho' hg _
   refine h v' w' ?_ hg
   unfold OwnsI
   rw [List.length_append,List.map_append]
   exact ho'
theorem OwnsI.row{w:World}{base:Nat}{v:Value}{l:List Int}(h:OwnsI w base v l)(h0:0<l.length) :
  ∃ g n cap,v = .slice (some ⟨g,0,none⟩) n cap∧Hid (l.length=n)∧n≤cap∧cap≤9223372036854775807∧base≤g:=by
 obtain ⟨hl,hv⟩:=h
 rcases hv with ⟨rfl,hn⟩ | ⟨g,cap,cur,rfl,hb,hg,hnc,hcm,hcs,htk⟩
 ·omega
 ·exact ⟨g,l.length,cap,rfl,rfl,hnc,by simpa [maxLen] using hcm,hb⟩
theorem OwnsI.len{w:World}{base n cap:Nat}{a:Option Addr}{l:List Int}(h:OwnsI w base (.slice a n cap) l):l.length=n:=by
 obtain ⟨hl,hv⟩:=h
 rcases hv with ⟨h1,h2⟩ | ⟨g',cap',cur,h1,_⟩
 ·cases h1;exact h2
 ·cases h1;rfl
theorem OwnsI.cell{w:World}{base g n cap:Nat}{l:List Int}(h:OwnsI w base (.slice (some ⟨g,0,none⟩) n cap) l){j:Nat}(hj:j<l.length):w.cell? ⟨g,j,none⟩=some (.int .i64 (l.getD j 0)):=by
 obtain rfl:=h.len
 have h1:=World.ownsRow.cellAt h j (by omega)
 rw [h1,List.getElem?_map,List.getD_eq_getElem?_getD,List.getElem?_eq_getElem hj];rfl
theorem OwnsI.frozen{w:World}{base g n cap:Nat}{l:List Int}(h:OwnsI w base (.slice (some ⟨g,0,none⟩) n cap) l)(j:Nat):w.frozen? ⟨g,j,none⟩=false:=by
 obtain rfl:=h.len
 exact World.ownsRow.frozenAt h j
theorem OwnsI.store{w:World}{base g n cap:Nat}{l:List Int}(h:OwnsI w base (.slice (some ⟨g,0,none⟩) n cap) l)(j:Nat)(c:Int):OwnsI (w.setCell ⟨g,j,none⟩ (.int .i64 c)) base (.slice (some ⟨g,0,none⟩) n cap) (l.set j c):=by
 obtain rfl:=h.len
 have:=(World.ownsRow.stored h j (.int .i64 c)).1
 rw [←List.map_set] at this
 unfold OwnsI
 rw [List.length_set]
 exact this
theorem OwnsI.ge{w:World}{base g n cap:Nat}{l:List Int}(h:OwnsI w base (.slice (some ⟨g,0,none⟩) n cap) l):base≤g∧g<w.heap.size:=by
 obtain ⟨hl,hv⟩:=h
 rcases hv with ⟨h1,_⟩ | ⟨g',cap',cur,h1,hb,hg,_⟩
 ·cases h1
 ·cases h1
  exact ⟨hb,(Array.getElem?_eq_some_iff.1 hg).1⟩
end Go.Proofs.YtejlaiofpekchaaGreatDoor
namespace Go.Proofs.YtejlaiofpekchaaGreatDoor
open Go.RowKit
set_option linter.unusedVariables false
structure Pth(w:World)(pa:Option Addr)(np cp:Nat)(ps:List Int):Prop where
 len:ps.length=np
 ints:Ints w pa ps
 cap:np≤cp
 top:cp≤9223372036854775807
 nil:pa=none→cp=0
 few:np≤1000000
 ty:0<np→∀ x,pa=some x→∃ cur m,w.heap[x.block]? = some (.cells cur 3 m)
theorem Pth.kept{w w':World}{pa:Option Addr}{np cp:Nat}{ps:List Int}(h:Pth w pa np cp ps)(hb:Below w.heap.size w w'):Pth w' pa np cp ps:={ h with
 ints:=h.ints.kept hb
 ty:=fun h0 x hx=>by
  obtain ⟨cur,m,e⟩:=h.ty h0 x hx
  exact ⟨cur,m,by rw [hb.block _ (Array.getElem?_eq_some_iff.1 e).1];exact e⟩ }
theorem pth_nil(w:World):Pth w none 0 0 []:=⟨rfl,⟨by simp, .inl rfl⟩,Nat.le_refl _,by omega,fun _=>rfl,by omega,fun h=>by omega⟩
theorem owns_empty(w:World)(base:Nat)(hb:base≤w.heap.size):OwnsI (w.alloc (.cells #[] 3)) base (.slice (some ⟨w.heap.size,0,none⟩) 0 0) []:=by
 refine ⟨by simp, .inr ⟨w.heap.size,0,#[],rfl,hb,heap_alloc_new w _,by simp,by unfold maxLen;omega,by simp,by simp⟩⟩
theorem OwnsI.form4{w:World}{base:Nat}{v:Value}{l:List Int}(h:OwnsI w base v l):∃ a n c,v = .slice a n c:=by
 obtain ⟨a,n,c,h,_⟩:=h.form
 exact ⟨a,n,c,h⟩
set_option maxHeartbeats 1000000 in
set_option maxRecDepth 100000 in
theorem iclone_any(pa:Option Addr)(np cp:Nat)(ps:List Int)(w:World)(h:Pth w pa np cp ps) :
  Calls Tryz.prog 35 #[.slice pa np cp] w fun e w'=>∃ v,e = .returned v∧Hid (OwnsI w' w.heap.size v ps)∧Hid (Below w.heap.size w w'):=by
 cases pa with
 | none =>
  have hc:=h.nil rfl
  have hn:np=0:=by have:=h.cap;omega
  have hp:ps=[]:=List.eq_nil_of_length_eq_zero (by rw [h.len];exact hn)
  subst hp hn hc
  clear h
  have q22:∀ (w:World) (a:Option Addr) (n c n' c':Nat),(binOp .eql 42 (.slice a n c) (.slice none n' c')).run Tryz.prog w = .ok (.bool a.isNone) w:=fun w a n c n' c'=>Lib.run_eql_slice_nil w _ _ a n c n' c' Tryz.underlying42
  go_enter Tryz.func35,Tryz.ntmps35
  go_wp2
  go_ret
  exact ⟨_,rfl,ownsI_nil _ _,Below.refl _ _⟩
 | some x =>
  have hO:=owns_empty w w.heap.size (Nat.le_refl _)
  have hA:=alloc_below w (.cells #[] 3)
  have hP:=h.kept hA
  have hl:Hid (ps.length=np):=h.len
  have hf:Hid (np≤1000000):=h.few
  clear h
  have q22:∀ (w:World) (a:Option Addr) (n c n' c':Nat),(binOp .eql 42 (.slice a n c) (.slice none n' c')).run Tryz.prog w = .ok (.bool a.isNone) w:=fun w a n c n' c'=>Lib.run_eql_slice_nil w _ _ a n c n' c' Tryz.underlying42
  go_enter Tryz.func35,Tryz.ntmps35
  go_wp2_with (at_builtin;refine wpList_append_ints rfl (.tmp 5) (.tmp 6) rfl w.heap.size (.slice (some ⟨w.heap.size,0,none⟩) 0 0) [] ps rfl hO (some x) np cp rfl hl.out (by intro h;cases h) hP.ints (by have:=hl.out;have:=hf.out;simp;omega) hA.size ?_;intro v w2 ho hg;have hB:Hid (Below w.heap.size w w2):=grownI_below hA hO hg hA.size;have hv:Hid (OwnsI w2 w.heap.size v ps):=ho;clear ho hg hO hA hP;obtain ⟨va,vn,vc,rfl⟩:=hv.out.form4)
  go_ret
  exact ⟨_,rfl,hv,hB⟩
end Go.Proofs.YtejlaiofpekchaaGreatDoor
namespace Go.Proofs.YtejlaiofpekchaaGreatDoor
open Go
set_option linter.unusedVariables false
structure Lz where
  path:List Int
  kind:Int
  n:Int
def nulT:Tr:=⟨0,0,false,⟨#[]⟩,0,⟨#[]⟩,[],[],[]⟩
def arrT(l:List Tr):Tr:=⟨7,0,false,⟨#[]⟩,0,⟨#[]⟩,[],[],l⟩
def txtT0(s:ByteArray):Tr:=⟨5,0,false,⟨#[]⟩,0,s,[],[],[]⟩
def toldF:Nat→Tr→Bool
  | 0,_=>false
  | d+1,t=>decide (0≤t.kind∧t.kind≤8∧t.kind≠4∧t.kind≠6) && (if t.kind=8 then t.keys.all (fun u=>decide (u.kind=5)) else true) && (if t.kind=7∨t.kind=8 then t.kids.all (toldF d) else true)
theorem told_succ(d:Nat)(t:Tr):toldF (d+1) t=(decide (0≤t.kind∧t.kind≤8∧t.kind≠4∧t.kind≠6) && (if t.kind=8 then t.keys.all (fun u=>decide (u.kind=5)) else true) && (if t.kind=7∨t.kind=8 then t.kids.all (toldF d) else true)):=rfl
def rowF(g:Tr→List Int→Tr × List Lz)(f:Nat→List Int)(p:List Int):Nat→List Tr→List Tr × List Lz
  | _,[]=>([],[])
  | i,t::l=>((g t (p++f i)).1::(rowF g f p (i+1) l).1,(g t (p++f i)).2++(rowF g f p (i+1) l).2)
def pairF(g:Tr→List Int→Tr × List Lz)(p:List Int):Nat→List Tr→List Tr→List Tr × List Lz
  | i,k::ks,t::l=>(arrT [(g k (p++[(i:Int),0])).1,(g t (p++[(i:Int),1])).1]::(pairF g p (i+1) ks l).1,(g k (p++[(i:Int),0])).2++((g t (p++[(i:Int),1])).2++(pairF g p (i+1) ks l).2))
  | _,_,_=>([],[])
def tellF (num : Int → Tr × Int) (hx : List Int → ByteArray) : Nat → Tr → List Int → Tr × List Lz
  | 0,t,_=>(t,[])
  | d + 1, t, p =>
    if t.kind=4 then ((num t.num).1,[⟨p,(num t.num).2,t.num⟩])
    else if t.kind=6 then (txtT0 (hx t.bytes),[⟨p,3,0⟩])
    else if t.kind=10 then (nulT,[⟨p,6,t.num⟩])
    else if t.kind=9 then ((tellF num hx d (t.kids.getD 0 nulT) p).1,⟨p,4,t.num⟩::(tellF num hx d (t.kids.getD 0 nulT) p).2)
    else if t.kind=7 then ({ t with kids:=(rowF (tellF num hx d) (fun i=>[(i:Int)]) p 0 t.kids).1 },(rowF (tellF num hx d) (fun i=>[(i:Int)]) p 0 t.kids).2)
    else if t.kind=8 then
      (if t.keys.all (fun u => decide (u.kind = 5)) = true then ({ t with kids := (rowF (tellF num hx d) (fun i => [2 * (i : Int) + 1]) p 0 t.kids).1 }, (rowF (tellF num hx d) (fun i => [2 * (i : Int) + 1]) p 0 t.kids).2)
       else (arrT (pairF (tellF num hx d) p 0 t.keys t.kids).1,⟨p,5,0⟩::(pairF (tellF num hx d) p 0 t.keys t.kids).2))
    else (t,[])
theorem row_stays{g:Tr→List Int→Tr × List Lz}{f:Nat→List Int}{p:List Int}:∀ (l:List Tr) (i:Nat),(∀ t∈l,∀ q,g t q=(t,[]))→rowF g f p i l=(l,[]):=by
  intro l
  induction l with
  | nil=>intro i _;rfl
  | cons t l ih =>
    intro i h
    simp only [rowF]
    rw [h t (by simp),ih (i+1) (fun u hu=>h u (by simp [hu]))]
    rfl
theorem row_lost{g:Tr→List Int→Tr × List Lz}{f:Nat→List Int}{p:List Int}:∀ (l:List Tr) (i:Nat),(∃ t∈l,∀ q,(g t q).2≠[])→(rowF g f p i l).2≠[]:=by
  intro l
  induction l with
  | nil=>intro i h;obtain ⟨t,ht,_⟩:=h;simp at ht
  | cons t l ih =>
    intro i h
    obtain ⟨u,hu,hq⟩:=h
    simp only [rowF,ne_eq,List.append_eq_nil_iff,not_and]
    rcases List.mem_cons.1 hu with rfl | hu
    · intro h1;exact absurd h1 (hq _)
    · intro _;exact ih (i+1) ⟨u,hu,hq⟩
theorem row_told{g:Tr→List Int→Tr × List Lz}{f:Nat→List Int}{p:List Int}{Q:Tr→Prop}:∀ (l:List Tr) (i:Nat),(∀ t∈l,∀ q,Q (g t q).1)→∀ u∈(rowF g f p i l).1,Q u:=by
  intro l
  induction l with
  | nil=>intro i _ u hu;simp [rowF] at hu
  | cons t l ih =>
    intro i h u hu
    simp only [rowF,List.mem_cons] at hu
    rcases hu with rfl | hu
    · exact h t (by simp) _
    · exact ih (i+1) (fun v hv=>h v (by simp [hv])) u hu
theorem tell_stays (num : Int → Tr × Int) (hx : List Int → ByteArray) : ∀ (d : Nat) (t : Tr) (p : List Int), toldF d t = true → tellF num hx d t p = (t, []) := by
  intro d
  induction d with
  | zero=>intro t p h;simp [toldF] at h
  | succ d ih =>
    intro t p h
    simp only [toldF,Bool.and_eq_true,decide_eq_true_eq] at h
    obtain ⟨⟨⟨h0,h1,h2,h3⟩,h4⟩,h5⟩:=h
    unfold tellF
    rw [if_neg h2,if_neg h3,if_neg (by omega),if_neg (by omega)]
    by_cases h7:t.kind=7
    · rw [if_pos h7]
      rw [if_pos (.inl h7)] at h5
      rw [row_stays t.kids 0 (fun u hu q=>ih u q (List.all_eq_true.1 h5 u hu))]
      cases t;rfl
    · rw [if_neg h7]
      by_cases h8:t.kind=8
      · rw [if_pos h8]
        rw [if_pos h8] at h4
        rw [if_pos (.inr h8)] at h5
        rw [if_pos h4,row_stays t.kids 0 (fun u hu q=>ih u q (List.all_eq_true.1 h5 u hu))]
        cases t;rfl
      · rw [if_neg h8]
theorem tell_lost (num : Int → Tr × Int) (hx : List Int → ByteArray) : ∀ (d : Nat) (t : Tr) (p : List Int), t.All (fun u => 0 ≤ u.kind ∧ u.kind ≤ 10) → t.deep ≤ d → toldF d t = false → (tellF num hx d t p).2 ≠ [] := by
  intro d
  induction d with
  | zero=>intro t p hA hd h;have:=Tr.deep_eq t;omega
  | succ d ih =>
    intro t p hA hd h
    obtain ⟨hk,hky,hki⟩:=(Tr.all_eq _ t).1 hA
    unfold tellF
    by_cases h4:t.kind=4
    · rw [if_pos h4];simp
    rw [if_neg h4]
    by_cases h6:t.kind=6
    · rw [if_pos h6];simp
    rw [if_neg h6]
    by_cases h10:t.kind=10
    · rw [if_pos h10];simp
    rw [if_neg h10]
    by_cases h9:t.kind=9
    · rw [if_pos h9];simp
    rw [if_neg h9]
    have hkid:∀ u∈t.kids,u.deep≤d:=fun u hu=>by have:=Tr.kid_deep hu;omega
    simp only [toldF] at h
    rw [show decide (0≤t.kind∧t.kind≤8∧t.kind≠4∧t.kind≠6)=true by simp;omega,Bool.true_and] at h
    by_cases h7:t.kind=7
    · rw [if_pos h7]
      rw [if_neg (by omega),if_pos (.inl h7),Bool.true_and] at h
      obtain ⟨u,hu,hf⟩:=List.all_eq_false.1 h
      exact row_lost t.kids 0 ⟨u,hu,fun q=>ih u q (hki u hu) (hkid u hu) (by simpa using hf)⟩
    rw [if_neg h7]
    by_cases h8:t.kind=8
    · rw [if_pos h8]
      rw [if_pos h8,if_pos (.inr h8)] at h
      by_cases hT:t.keys.all (fun u=>decide (u.kind=5))=true
      · rw [if_pos hT]
        rw [hT,Bool.true_and] at h
        obtain ⟨u,hu,hf⟩:=List.all_eq_false.1 h
        exact row_lost t.kids 0 ⟨u,hu,fun q=>ih u q (hki u hu) (hkid u hu) (by simpa using hf)⟩
      · rw [if_neg hT];simp
    · rw [if_neg (by omega), if_neg (by omega)] at h
      simp at h
theorem toldF_more{d e:Nat}(h:d≤e):∀ {t:Tr},toldF d t=true→toldF e t=true:=by
  induction d generalizing e with
  | zero=>intro t h;simp [toldF] at h
  | succ d ih =>
    intro t ht
    obtain ⟨e,rfl⟩:∃ e',e=e'+1:=⟨e - 1,by omega⟩
    simp only [toldF,Bool.and_eq_true] at ht ⊢
    refine ⟨ht.1,?_⟩
    by_cases hk:t.kind=7∨t.kind=8
    · rw [if_pos hk]
      have h2:=ht.2
      rw [if_pos hk] at h2
      exact List.all_eq_true.2 fun u hu=>ih (by omega) (List.all_eq_true.1 h2 u hu)
    · rw [if_neg hk]
theorem tell_can (num : Int → Tr × Int) (hx : List Int → ByteArray) (hn : ∀ b, toldF 1 (num b).1 = true) : ∀ (d : Nat) (t : Tr) (p : List Int), t.All (fun u => (0 ≤ u.kind ∧ u.kind ≤ 10) ∧ (u.kind = 9 → u.kids ≠ [])) → t.deep ≤ d → toldF (2 * d) (tellF num hx d t p).1 = true := by
  intro d
  induction d with
  | zero=>intro t p hA hd;have:=Tr.deep_eq t;omega
  | succ d ih =>
    intro t p hA hd
    obtain ⟨⟨hk,h9k⟩,hky,hki⟩:=(Tr.all_eq _ t).1 hA
    have hkid:∀ u∈t.kids,u.deep≤d:=fun u hu=>by have:=Tr.kid_deep hu;omega
    have hkey:∀ u∈t.keys,u.deep≤d:=fun u hu=>by have:=Tr.key_deep hu;omega
    have hrow:∀ f q,∀ u∈(rowF (tellF num hx d) f q 0 t.kids).1,toldF (2*d) u=true:=fun f q=>row_told (Q:=fun u=>toldF (2*d) u=true) t.kids 0 fun u hu q=>ih u q (hki u hu) (hkid u hu)
    unfold tellF
    by_cases h4:t.kind=4
    · rw [if_pos h4];exact toldF_more (by omega) (hn _)
    rw [if_neg h4]
    by_cases h6:t.kind=6
    · rw [if_pos h6];exact toldF_more (d:=1) (by omega) rfl
    rw [if_neg h6]
    by_cases h10:t.kind=10
    · rw [if_pos h10];exact toldF_more (d:=1) (by omega) rfl
    rw [if_neg h10]
    by_cases h9:t.kind=9
    · rw [if_pos h9]
      cases hkk:t.kids with
      | nil=>exact absurd hkk (h9k h9)
      | cons u l =>
        have hu:u∈t.kids:=by rw [hkk];simp
        exact toldF_more (by omega) (ih u p (hki u hu) (hkid u hu))
    rw [if_neg h9]
    have e2:2*(d+1)=(2*d+1)+1:=by omega
    by_cases h7:t.kind=7
    · rw [if_pos h7, e2]
      rw [told_succ]
      simp only [h7,Bool.and_eq_true]
      refine ⟨⟨by decide,by simp⟩,?_⟩
      rw [if_pos (.inl trivial)]
      exact List.all_eq_true.2 fun u hu=>toldF_more (by omega) (hrow _ _ u hu)
    rw [if_neg h7]
    by_cases h8:t.kind=8
    · rw [if_pos h8]
      by_cases hT:t.keys.all (fun u=>decide (u.kind=5))=true
      · rw [if_pos hT, e2]
        rw [told_succ]
        simp only [h8,Bool.and_eq_true]
        refine ⟨⟨by decide,?_⟩,?_⟩
        · rw [if_pos trivial];exact hT
        · rw [if_pos (.inr trivial)]
          exact List.all_eq_true.2 fun u hu=>toldF_more (by omega) (hrow _ _ u hu)
      · rw [if_neg hT, e2]
        have hp : ∀ u ∈ (pairF (tellF num hx d) p 0 t.keys t.kids).1, toldF (2 * d + 1) u = true := by
          intro u hu
          have hq : ∀ (ks l : List Tr) (i : Nat), (∀ t ∈ ks, ∀ q, toldF (2 * d) (tellF num hx d t q).1 = true) → (∀ t ∈ l, ∀ q, toldF (2 * d) (tellF num hx d t q).1 = true) → ∀ u ∈ (pairF (tellF num hx d) p i ks l).1, toldF (2 * d + 1) u = true := by
            intro ks
            induction ks with
            | nil=>intro l i _ _ u hu;simp [pairF] at hu
            | cons k ks ihk =>
              intro l i h1 h2 u hu
              cases l with
              | nil=>simp [pairF] at hu
              | cons t l =>
                simp only [pairF,List.mem_cons] at hu
                rcases hu with rfl | hu
                · rw [told_succ]
                  simp only [arrT,Bool.and_eq_true]
                  refine ⟨⟨by simp,by simp⟩,?_⟩
                  rw [if_pos (.inl trivial)]
                  simp only [List.all_cons,List.all_nil,Bool.and_true,Bool.and_eq_true]
                  exact ⟨h1 k (by simp) _,h2 t (by simp) _⟩
                · exact ihk l (i+1) (fun v hv=>h1 v (by simp [hv])) (fun v hv=>h2 v (by simp [hv])) u hu
          exact hq t.keys t.kids 0 (fun v hv q=>ih v q (hky v hv) (hkey v hv)) (fun v hv q=>ih v q (hki v hv) (hkid v hv)) u hu
        rw [told_succ]
        simp only [arrT,Bool.and_eq_true]
        refine ⟨⟨by simp,by simp⟩,?_⟩
        rw [if_pos (.inl trivial)]
        exact List.all_eq_true.2 hp
    · rw [if_neg h8, e2]
      rw [told_succ]
      simp only [Bool.and_eq_true,decide_eq_true_eq]
      refine ⟨⟨by omega,by rw [if_neg h8]⟩,by rw [if_neg (by omega)]⟩
end Go.Proofs.YtejlaiofpekchaaGreatDoor
namespace Go.Proofs.YtejlaiofpekchaaGreatDoor
open Go
set_option linter.unusedVariables false
def unl(n:Nat)(listed:Array Bool):Nat:=((List.range n).filter fun i => !listed.getD i true).length
theorem filter_lt{p q:Nat→Bool}(hpq:∀ x,q x=true→p x=true):∀ (l:List Nat) (i:Nat),i∈l→p i=true→q i=false→(l.filter q).length<(l.filter p).length:=by
 have hle:∀ l:List Nat,(l.filter q).length≤(l.filter p).length:=by
  intro l
  induction l with
  | nil=>simp
  | cons x l ih =>
   by_cases hq:q x=true
   ·rw [List.filter_cons_of_pos hq,List.filter_cons_of_pos (hpq x hq)];simp only [List.length_cons];omega
   ·rw [List.filter_cons_of_neg hq]
    by_cases hp:p x=true
    ·rw [List.filter_cons_of_pos hp];simp only [List.length_cons];omega
    ·rw [List.filter_cons_of_neg hp];exact ih
 intro l
 induction l with
 | nil=>intro i h;cases h
 | cons x l ih =>
  intro i hi hp hq
  rcases List.mem_cons.1 hi with rfl | hi
  ·rw [List.filter_cons_of_neg (by rw [hq]; simp), List.filter_cons_of_pos hp]
   have:=hle l
   simp only [List.length_cons];omega
  ·have h1 := ih i hi hp hq
   by_cases hqx:q x=true
   ·rw [List.filter_cons_of_pos hqx,List.filter_cons_of_pos (hpq x hqx)];simp only [List.length_cons];omega
   ·rw [List.filter_cons_of_neg hqx]
    by_cases hpx:p x=true
    ·rw [List.filter_cons_of_pos hpx];simp only [List.length_cons];omega
    ·rw [List.filter_cons_of_neg hpx];exact h1
theorem unl_set{n i:Nat}{listed:Array Bool}(hi:i<n)(hl:listed.getD i true=false):unl n (listed.setIfInBounds i true)<unl n listed:=by
 have hlt:i<listed.size:=by
  rcases Nat.lt_or_ge i listed.size with h | h
  ·exact h
  ·simp [Array.getD,Nat.not_lt.2 h] at hl
 refine filter_lt (fun x hx=>?_) _ i (List.mem_range.2 hi) (by rw [hl];rfl) (by simp [hlt])
 by_cases hxi:i=x
 ·subst hxi;simp [hlt] at hx
 ·rw [getD_set_ne true hxi] at hx;exact hx
theorem wpAny_inv{P:Program}{md:Region.Mode}{ops:Array Oper}{Q:Exit→Act→World→Prop}(I:Array Bool→Act→World→Prop)
  (hs:∀ listed a w i,I listed a w→i∈Region.ready md ops listed→wpOp P ops Q i (I (listed.setIfInBounds i true)) a w)
  (he:∀ listed a w,I listed a w→Region.ready md ops listed=[]→Q .normal a w) :
  ∀ (fuel:Nat) (listed:Array Bool) (a:Act) (w:World),unl ops.size listed≤fuel→I listed a w→wpAny P md ops Q fuel listed a w:=by
 intro fuel
 induction fuel with
 | zero =>
  intro listed a w hf hI
  have hr:Region.ready md ops listed=[]:=by
   cases hr:Region.ready md ops listed with
   | nil=>rfl
   | cons i l =>
    obtain ⟨h1,o,h2,_⟩:=mem_ready.1 (show i∈Region.ready md ops listed by rw [hr];exact List.mem_cons_self)
    have:=unl_set (Array.getElem?_eq_some_iff.1 h2).1 h1
    omega
  exact ⟨hr,he listed a w hI hr⟩
 | succ fuel ih =>
  intro listed a w hf hI
  refine ⟨fun hr=>he listed a w hI hr,fun i hi=>?_⟩
  obtain ⟨h1,o,h2,_⟩:=mem_ready.1 hi
  have:=unl_set (Array.getElem?_eq_some_iff.1 h2).1 h1
  exact wpOp_mono (fun a' w' h=>ih _ a' w' (by omega) h) (hs listed a w i hI hi)
end Go.Proofs.YtejlaiofpekchaaGreatDoor
namespace Go.Proofs.YtejlaiofpekchaaGreatDoor
open Go
set_option linter.unusedVariables false
def frm(n:Nat)(u:Nat→Value)(d:List Deferred):Act:={ tmps:=((List.range n).map u).toArray,defers:=d }
def upd(u:Nat→Value)(k:Nat)(v:Value):Nat→Value:=fun j=>if j=k then v else u j
theorem upd_ne(u:Nat→Value){k j:Nat}(v:Value)(h:j≠k):upd u k v j=u j:=if_neg h
theorem frm_eval{n k:Nat}{u:Nat→Value}{d:List Deferred}(h:k<n):(frm n u d).eval (.tmp k)=u k:=by
  simp [frm,Act.eval,h]
theorem frm_put{n k:Nat}{u:Nat→Value}{d:List Deferred}{v:Value}:(frm n u d).put (some k) v=frm n (upd u k v) d:=by
  have h:(((List.range n).map u).toArray).setIfInBounds k v=((List.range n).map (upd u k v)).toArray:=by
    apply Array.ext
    · simp
    · intro i h1 h2
      by_cases hik:i=k
      · subst hik;simp [upd]
      · simp [upd,hik,Ne.symm hik]
  show Act.mk (Array.setIfInBounds ((List.range n).map u).toArray k v) d=Act.mk _ d
  rw [h]
theorem frm_of (a : Act) : a = frm a.tmps.size (fun k => a.tmps.getD k undef) a.defers := by
  cases a with
  | mk t d =>
    have h:t=((List.range t.size).map (fun k=>t.getD k undef)).toArray:=by
      apply Array.ext
      · simp
      · intro i h1 h2
        simp [h1]
    show Act.mk t d=Act.mk _ d
    rw [←h]
theorem wpOp_of{P:Program}{ops:Array Oper}{Q:Exit→Act→World→Prop}{i:Nat}{o:Oper}{a:Act}{w:World}{K:Act→World→Prop}(ho:ops[i]? = some o)
    (h:if Region.wanted o (yielded ops a.tmps)=true then Oper.wp P o a w K Q else K (a.put o.dst undef) w):wpOp P ops Q i K a w:=by
  unfold wpOp
  simp only [ho]
  split at h
  · rename_i hw;rw [if_pos hw];exact .inl h
  · rename_i hw;rw [if_neg hw];exact h
theorem wpOp_run{P:Program}{ops:Array Oper}{Q:Exit→Act→World→Prop}{i:Nat}{o:Oper}{a:Act}{w w':World}{v:Value}{K:Act→World→Prop}(ho:ops[i]? = some o)(hg:o.guard=none)
    (hr:(execOp a.eval o).run P w = .ok (.value v) w') (h:K (a.put o.dst v) w'):wpOp P ops Q i K a w:=by
  refine wpOp_of ho ?_
  rw [if_pos (by simp [Region.wanted,hg])]
  unfold Oper.wp
  rw [hr]
  exact h
theorem wpOp_skip{P:Program}{ops:Array Oper}{Q:Exit→Act→World→Prop}{i:Nat}{o:Oper}{a:Act}{w w':World}{K:Act→World→Prop}(ho:ops[i]? = some o)(hg:o.guard=none)
    (hr:(execOp a.eval o).run P w = .ok .skip w') (h:K (a.put o.dst undef) w'):wpOp P ops Q i K a w:=by
  refine wpOp_of ho ?_
  rw [if_pos (by simp [Region.wanted,hg])]
  unfold Oper.wp
  rw [hr]
  exact h
def needs(md:Region.Mode)(ops:Array Oper)(i:Nat):List Nat:=match ops[i]? with | none=>[] | some o=>((o.after.toList.filter (Region.binds md)).map (·.on))
theorem ready_needs{md:Region.Mode}{ops:Array Oper}{i:Nat}{listed:Array Bool}{l:List Nat}(h:i∈Region.ready md ops listed)(hn:needs md ops i=l):∀ j∈l,listed.getD j false=true:=by
  obtain ⟨_,o,h2,h3⟩:=mem_ready.1 h
  intro j hj
  subst hn
  simp only [needs,h2,List.mem_map,List.mem_filter] at hj
  obtain ⟨e,⟨he,hb⟩,rfl⟩:=hj
  exact h3 e (by simpa using he) hb
theorem ready_lt{md:Region.Mode}{ops:Array Oper}{i:Nat}{listed:Array Bool}(h:i∈Region.ready md ops listed):i<ops.size:=by
  obtain ⟨_,o,h2,_⟩:=mem_ready.1 h
  exact (Array.getElem?_eq_some_iff.1 h2).1
theorem ready_not{md:Region.Mode}{ops:Array Oper}{i:Nat}{listed:Array Bool}(h:i∈Region.ready md ops listed):listed.getD i false=false:=by
  have h1:=(mem_ready.1 h).1
  rcases Nat.lt_or_ge i listed.size with h' | h'
  · simpa [h'] using h1
  · simp [h']
theorem ready_done {md : Region.Mode} {ops : Array Oper} {listed : Array Bool} (hr : Region.ready md ops listed = []) (hs : listed.size = ops.size) (hlow : ∀ i, i < ops.size → ∀ j ∈ needs md ops i, j < i) : ∀ i, i < ops.size → listed.getD i false = true := by
  intro i
  induction i using Nat.strongRecOn with
  | ind i ih =>
    intro hi
    cases hl:listed.getD i false with
    | true=>rfl
    | false =>
      have:i∈Region.ready md ops listed:=by
        refine mem_ready.2 ⟨by have h' : i < listed.size := by omega
                               simpa [h'] using hl,ops[i],Array.getElem?_eq_getElem hi,fun e he hb=>?_⟩
        have hm:e.on∈needs md ops i:=by
          simp only [needs,Array.getElem?_eq_getElem hi,List.mem_map,List.mem_filter]
          exact ⟨e,⟨by simpa using he,hb⟩,rfl⟩
        exact ih e.on (hlow i hi _ hm) (by have:=hlow i hi _ hm;omega)
      rw [hr] at this
      cases this
theorem got_set{listed:Array Bool}{i j:Nat}(h:i<listed.size):(listed.setIfInBounds i true).getD j false=if j=i then true else listed.getD j false:=by
  by_cases hij:j=i
  · subst hij;simp [h]
  · rw [if_neg hij,getD_set_ne false (Ne.symm hij)]
end Go.Proofs.YtejlaiofpekchaaGreatDoor
namespace Go.Proofs.YtejlaiofpekchaaGreatDoor
open Go.RowKit
set_option linter.unusedVariables false
def Blk(w:World)(g:Nat)(cs:Array Value)(T:TypeId):Prop:=w.heap[g]? = some (.cells cs T (0,0))
theorem Blk.lt{w:World}{g:Nat}{cs:Array Value}{T:TypeId}(h:Blk w g cs T):g<w.heap.size:=(Array.getElem?_eq_some_iff.1 h).1
theorem Blk.cell{w:World}{g:Nat}{cs:Array Value}{T:TypeId}(h:Blk w g cs T)(j:Nat):w.cell? ⟨g,j,none⟩=cs[j]? := cell_row h j
theorem Blk.fz{w:World}{g:Nat}{cs:Array Value}{T:TypeId}(h:Blk w g cs T)(j:Nat):w.frozen? ⟨g,j,none⟩=false:=by
 unfold Blk at h
 simp [World.frozen?,h]
theorem Blk.set{w:World}{g:Nat}{cs:Array Value}{T:TypeId}(h:Blk w g cs T)(j:Nat)(v:Value):Blk (w.setCell ⟨g,j,none⟩ v) g (cs.setIfInBounds j v) T:=heap_setCell_same w g j cs T v h
theorem blk_new(w:World)(cs:Array Value)(T:TypeId):Blk (w.alloc (.cells cs T)) w.heap.size cs T:=heap_alloc_new w _
theorem Blk.kept{w w':World}{k B:Nat}{cs:Array Value}{T:TypeId}(h:Blk w k cs T)(hb:Below B w w')(hk:k<B):Blk w' k cs T:=(hb.block k hk).trans h
theorem Blk.same{w w':World}{k:Nat}{cs:Array Value}{T:TypeId}(h:Blk w k cs T)(hb:w'.heap[k]? = w.heap[k]?):Blk w' k cs T:=hb.trans h
def lzC(p:Value × Lz):List Value:=[p.1, .int .i64 p.2.kind, .int .u64 p.2.n]
def lzCs(L:List (Value × Lz)):List Value:=(L.map lzC).flatten
theorem lzCs_snoc(L:List (Value × Lz))(t:Value × Lz):lzCs (L++[t])=lzCs L++lzC t:=by simp [lzCs]
def OwnsZ(w:World)(base:Nat)(v:Value)(L:List (Value × Lz)):Prop:=w.ownsRow base 44 3 v L.length (lzCs L)∧∀ p∈L,OwnsI w base p.1 p.2.path
theorem ownsZ_nil(w:World)(base:Nat):OwnsZ w base (.slice none 0 0) []:=⟨World.ownsRow_nil w base 44 3,by simp⟩
theorem infoL:(Tryz.prog.info? 44).map (fun i=>(i.zero,i.size,i.bytes))=some (some (.agg #[.slice none 0 0, .int .i64 0, .int .u64 0]),3,40):=by kernel_rfl
theorem ownsRow_keep{w w':World}{base e k n:Nat}{v:Value}{cs:List Value}(h:w.ownsRow base e k v n cs)(hb:∀ b cur,base≤b→w.heap[b]? = some (.cells cur e (0,0))→w'.heap[b]? = w.heap[b]?):w'.ownsRow base e k v n cs:=by
 obtain ⟨h1,h2⟩:=h
 refine ⟨h1,?_⟩
 rcases h2 with h2 | ⟨g,cap,cur,hv,hg,hc,r⟩
 ·exact .inl h2
 ·exact .inr ⟨g,cap,cur,hv,hg,by rw [hb g cur hg hc];exact hc,r⟩
theorem OwnsZ.keep{w w':World}{base:Nat}{v:Value}{L:List (Value × Lz)}(h:OwnsZ w base v L)(hb:∀ b cur e,base≤b→w.heap[b]? = some (.cells cur e (0,0))→e=44∨e=3→w'.heap[b]? = w.heap[b]?):OwnsZ w' base v L :=
 ⟨ownsRow_keep h.1 (fun b cur h1 h2=>hb b cur _ h1 h2 (.inl rfl)),fun p hp=>ownsRow_keep (h.2 p hp) (fun b cur h1 h2=>hb b cur _ h1 h2 (.inr rfl))⟩
theorem OwnsZ.kept{w w':World}{base:Nat}{v:Value}{L:List (Value × Lz)}(h:OwnsZ w base v L)(hb:Below w.heap.size w w'):OwnsZ w' base v L :=
 h.keep fun b cur e _ h2 _=>hb.block b (Array.getElem?_eq_some_iff.1 h2).1
theorem OwnsZ.form{w:World}{base:Nat}{v:Value}{L:List (Value × Lz)}(h:OwnsZ w base v L):∃ a n cap,v = .slice a n cap∧n=L.length∧n≤cap∧cap≤9223372036854775807:=by
 rcases h.1.2 with ⟨hv,hn⟩ | ⟨g,cap,cur,hv,hg,hc,hnc,hcm,r⟩
 ·exact ⟨none,0,0,hv,hn.symm,by omega,by omega⟩
 ·exact ⟨some ⟨g,0,none⟩,L.length,cap,hv,rfl,hnc,by unfold maxLen at hcm;omega⟩
theorem addr_add0(g j:Nat):(⟨g,0,none⟩:Addr).add j=⟨g,j,none⟩:=by simp [Addr.add];exact fun h=>h.symm
theorem step_append_loss{w:World}{ops:Array Oper}{o:Oper}{a:Act}{K:Act→World→Prop}{Q:Exit→Act→World→Prop}{E:Prop}(hgd:o.guard=none)(s x:Operand)
  (ho:o.op = .call { callee := .builtin .append,args:=#[s,x],argTypes:=#[27,27] })
  (base:Nat) (v:Value) (L:List (Value × Lz)) (t:Value × Lz) (hs:a.eval s=v) (hown:OwnsZ w base v L) (ht:OwnsI w base t.1 t.2.path)
  (g:Nat) (hx:a.eval x = .slice (some ⟨g,0,none⟩) 1 1) (hb:∀ j,j<3→w.cell? ⟨g,j,none⟩=(lzC t)[j]?)
  (hlen:L.length≤1000000) (hbase:base≤w.heap.size)
  (h:∀ v' w',OwnsZ w' base v' (L++[t])→w.grownBy w' v.ownBlock→K (a.put o.dst v') w') :
  if Region.wanted o (yielded ops a.tmps)=true then Oper.wp Tryz.prog o a w K Q else E:=by
 have hw:Region.wanted o (yielded ops a.tmps)=true:=by simp [Region.wanted,hgd]
 rw [if_pos hw]
 obtain ⟨i,hi,hz,hsz,hby⟩:=info_parts infoL
 refine wp_append_own w s x 27 ho base 44 i _ 3 40 Tryz.underlying27 hi hz hsz hby rfl (by decide) v L.length _ hs hown.1 ⟨g,0,none⟩ 1 1 (lzC t) hx rfl ?_ ?_ (by unfold maxLen;omega) (by omega) hbase ?_
 ·intro j u hu
  have hj:j<3:=(List.getElem?_eq_some_iff.1 hu).1
  rw [addr_add0,hb j hj];exact hu
 ·intro u hu
  obtain ⟨pa,pn,pc,e⟩:=ht.form4
  simp [lzC,e] at hu
  rcases hu with rfl | rfl | rfl <;> rfl
 ·intro v' w' h1 h2 _
  refine h v' w' ⟨?_,fun p hp=>?_⟩ h2
  ·rw [List.length_append, lzCs_snoc]
   exact h1
  ·have hk : ∀ p : Value × Lz, OwnsI w base p.1 p.2.path → OwnsI w' base p.1 p.2.path := fun (p : Value × Lz) hp => ownsRow_keep hp (fun b cur h3 h4 => h2.block b (Array.getElem?_eq_some_iff.1 h4).1 (fun e => by
    rcases hown.1.2 with ⟨rfl,_⟩ | ⟨g',cap',cur',rfl,_,hc',_⟩
    ·simp [Value.ownBlock] at e
    ·simp [Value.ownBlock] at e
     subst e
     rw [h4] at hc'
     cases hc'))
   rcases List.mem_append.1 hp with hp | hp
   ·exact hk p (hown.2 p hp)
   ·simp at hp
    subst hp
    exact hk _ ht
def LS(w:World)(gl B:Nat)(ls:List Lz):Prop:=gl<B∧∃ v L,Blk w gl #[v] 27∧OwnsZ w B v L∧L.map (·.2)=ls
structure KV(f:List Nat)(gl:Nat)(w w':World):Prop where
 os:w'.os=w.os
 tape:w'.tape=w.tape
 output:w'.output=w.output
 size:w.heap.size≤w'.heap.size
 block:∀ k,k<w.heap.size→k ∉ f→k≠gl→(∀ cur m,w.heap[k]? ≠ some (.cells cur 44 m))→w'.heap[k]? = w.heap[k]?
theorem KV.refl(f:List Nat)(gl:Nat)(w:World):KV f gl w w:=⟨rfl,rfl,rfl,Nat.le_refl _,fun _ _ _ _ _=>rfl⟩
theorem KV.of{f:List Nat}{gl:Nat}{w w':World}(h:Below w.heap.size w w'):KV f gl w w':=⟨h.os,h.tape,h.output,h.size,fun k hk _ _ _=>h.block k hk⟩
theorem KV.mono{f f':List Nat}{gl:Nat}{w w':World}(h:KV f gl w w')(hf:∀ k∈f,k<w.heap.size→k∈f'):KV f' gl w w':=⟨h.os,h.tape,h.output,h.size,fun k hk hn hg ht=>h.block k hk (fun e=>hn (hf k e hk)) hg ht⟩
theorem KV.trans{f f':List Nat}{gl:Nat}{a b c:World}(h:KV f gl a b)(k:KV f' gl b c)(hf:∀ i∈f',i<a.heap.size→i∈f):KV f gl a c :=
 ⟨k.os.trans h.os, k.tape.trans h.tape, k.output.trans h.output, Nat.le_trans h.size k.size, fun i hi hn hg ht => by
  have e:=h.block i hi hn hg ht
  exact (k.block i (Nat.lt_of_lt_of_le hi h.size) (fun m=>hn (hf i m hi)) hg (fun cur m q=>ht cur m (e.symm.trans q))).trans e⟩
theorem KV.blk{f:List Nat}{gl:Nat}{w w':World}(h:KV f gl w w'){k:Nat}{cs:Array Value}{T:TypeId}(hb:Blk w k cs T)(hT:T≠44)(hn:k ∉ f)(hg:k≠gl):Blk w' k cs T :=
 (h.block k hb.lt hn hg (fun cur m q=>by unfold Blk at hb;rw [hb] at q;simp at q;exact hT q.2.1)).trans hb
def loseOps:Array Oper:=#[{ dst:=some 7,op:=Op.load 27 (Operand.tmp 3),type:=27,pos := "tell.go:18",after:=#[],guard:=none },{ dst:=some 8,op:=Op.move (Operand.tmp 0),type:=42,pos := "tell.go:18",after:=#[],guard:=none },{ dst:=some 9,op:=Op.call { callee:=Callee.value (Operand.func 35),args:=#[Operand.tmp 8],argTypes:=#[42] },type:=42,pos := "tell.go:18",after:=#[{ on:=1,ground:=Ground.data }],guard:=none },{ dst:=some 10,op:=Op.move (Operand.tmp 1),type:=3,pos := "tell.go:18",after:=#[],guard:=none },{ dst:=some 11,op:=Op.move (Operand.tmp 2),type:=22,pos := "tell.go:18",after:=#[],guard:=none },{ dst:=some 12,op:=Op.build 44 #[(0,Operand.tmp 9),(1,Operand.tmp 10),(2,Operand.tmp 11)],type:=44,pos := "tell.go:18",after:=#[{ on:=2,ground:=Ground.data },{ on:=3,ground:=Ground.data },{ on:=4,ground:=Ground.data }],guard:=none },{ dst:=some 13,op:=Op.buildSlice 27 1 #[(0,Operand.tmp 12)],type:=27,pos := "tell.go:18",after:=#[{ on:=5,ground:=Ground.data }],guard:=none },{ dst:=some 14,op:=Op.call { callee:=Callee.builtin Builtin.append,args:=#[Operand.tmp 7,Operand.tmp 13],argTypes:=#[27,27] },type:=27,pos := "tell.go:18",after:=#[{ on:=0,ground:=Ground.data },{ on:=6,ground:=Ground.data },{ on:=2,ground:=Ground.chain }],guard:=none },{ dst:=none,op:=Op.store 27 (Operand.tmp 3) (Operand.tmp 14),type:=0,pos := "tell.go:18",after:=#[{ on:=7,ground:=Ground.data },{ on:=7,ground:=Ground.chain },{ on:=0,ground:=Ground.phase },{ on:=1,ground:=Ground.phase },{ on:=2,ground:=Ground.phase },{ on:=3,ground:=Ground.phase },{ on:=4,ground:=Ground.phase },{ on:=5,ground:=Ground.phase },{ on:=6,ground:=Ground.phase },{ on:=7,ground:=Ground.phase }],guard:=none }]
structure LC(W0:World)(u0:Nat→Value)(gl B:Nat)(pa:Option Addr)(np cp:Nat)(ps:List Int)(kd nn:Int)(v0:Value)(L0:List (Value × Lz)):Prop where
 e0:u0 0 = .slice pa np cp
 e1:u0 1 = .int .i64 kd
 e2:u0 2 = .int .u64 nn
 e3:u0 3 = .pointer (some ⟨gl,0,none⟩)
 pth:Pth W0 pa np cp ps
 box:Blk W0 gl #[v0] 27
 own:OwnsZ W0 B v0 L0
 low:gl<B
 few:L0.length≤1000000
 bas:B≤W0.heap.size
structure LI(W0:World)(u0:Nat→Value)(gl B:Nat)(pa:Option Addr)(np cp:Nat)(ps:List Int)(kd nn:Int)(v0:Value)(L0:List (Value × Lz))(L:Nat→Bool)(u:Nat→Value)(w:World):Prop where
 old:∀ k,k<7→u k=u0 k
 kv:KV [] gl W0 w
 lw:∀ k,k<gl→w.heap[k]? = W0.heap[k]?
 box:L 8=false→Blk w gl #[v0] 27
 own:L 7=false→OwnsZ w B v0 L0
 bel:L 7=false→Below W0.heap.size W0 w
 f0:L 0=true→u 7=v0
 f1:L 1=true→u 8 = .slice pa np cp
 f2:L 2=true→L 7=false→OwnsI w B (u 9) ps
 f3:L 3=true→u 10 = .int .i64 kd
 f4:L 4=true→u 11 = .int .u64 nn
 f5:L 5=true→u 12 = .agg #[u 9, .int .i64 kd, .int .u64 nn]
 f6:L 6=true→L 7=false→∃ gb,u 13 = .slice (some ⟨gb,0,none⟩) 1 1∧Blk w gb #[u 9, .int .i64 kd, .int .u64 nn] 44
 f7:L 7=true→OwnsZ w B (u 14) (L0++[(u 9,⟨ps,kd,nn⟩)])
 f8:L 8=true→Blk w gl #[u 14] 27
 d7:L 7=true→L 6=true∧L 2=true∧L 0=true
 d8:L 8=true→L 7=true
 d6:L 6=true→L 5=true
 d5:L 5=true→L 2=true
def upB(L:Nat→Bool)(i:Nat):Nat→Bool:=fun k=>if k=i then true else L k
theorem old7{u u0:Nat→Value}{d:Nat}(v:Value)(h:∀ k,k<7→u k=u0 k)(hd:7≤d):∀ k,k<7→upd u d v k=u0 k:=fun k hk=>by rw [upd_ne u v (by omega)];exact h k hk
end Go.Proofs.YtejlaiofpekchaaGreatDoor
namespace Go.Proofs.YtejlaiofpekchaaGreatDoor
open Go.RowKit Go.Shelf
set_option linter.unusedVariables false
theorem seqi_nil(a b:Option Addr)(c d:Nat)(w:World):Calls Tryz.prog 31 #[.slice a 0 c, .slice b 0 d] w fun e w'=>e = .returned (.bool true)∧w'=w:=by
 go_enter Tryz.func31,Tryz.ntmps31
 go_wp2
 go_loopw [13] (fun s13 wr=>s13 = .int .i64 0∧wr=w) (fun _ _=>0)
 case atStart=>exact ⟨rfl,rfl⟩
 case round =>
  obtain ⟨rfl,hw⟩:=hrel
  obtain rfl:=hw.symm
  go_wp2
  go_ret
  exact ⟨rfl,rfl⟩
theorem e_samelc:∀ args w,(callFunc 30 args).run Tryz.prog w = .ok (.enter 30 args) w:=enters_of Tryz.func30 (by kernel_rfl) rfl
theorem samelc_one(a b:Option Addr)(c d:Nat)(k n:Int)(w:World) :
  Calls Tryz.prog 30 #[.agg #[.slice a 0 c, .int .i64 k, .int .u64 n], .agg #[.slice b 0 d, .int .i64 k, .int .u64 n]] w fun e w'=>e = .returned (.bool true)∧Hid (Below w.heap.size w w'):=by
 have kS:=fun w=>seqi_nil a b c d w
 have hB:Hid (Below w.heap.size w ((w.alloc (.cells #[.slice a 0 c, .int .i64 k, .int .u64 n] 44)).alloc (.cells #[.slice b 0 d, .int .i64 k, .int .u64 n] 44))):=((Below.refl _ _).alloc (Nat.le_refl _) _).alloc (by simp) _
 go_enter Tryz.func30,Tryz.ntmps30
 go_wp2_with (go_at_call 31;refine (kS _).mono ?_;rintro e w1 ⟨rfl,hw1⟩;obtain rfl:=hw1.symm)
 go_ret
 exact ⟨rfl,hB⟩
set_option maxHeartbeats 1000000 in
theorem eqfl_one(g c pc:Nat)(pa:Option Addr)(k n:Int)(w:World)(hc:1≤c∧c≤9223372036854775807)(h0:w.cell? ⟨g,0,none⟩=some (.slice pa 0 pc))(h1:w.cell? ⟨g,1,none⟩=some (.int .i64 k))(h2:w.cell? ⟨g,2,none⟩=some (.int .u64 n)) :
  Calls Tryz.prog 29 #[.slice (some ⟨g,0,none⟩) 1 c, .slice (some ⟨g,0,none⟩) 1 c, .func (.func 30) #[] #[]] w fun e w'=>e = .returned (.bool true)∧Hid (Below w.heap.size w w'):=by
 have en:=e_samelc
 have kC:=fun w=>samelc_one pa pa pc pc k n w
 obtain ⟨hc1,hc2⟩:=hc
 have hg:Hid (g<w.heap.size):=World.block_lt_of_cell? w _ h0
 have hC:Hid (∀ wX,Below w.heap.size w wX→wX.cell? ⟨g,0,none⟩=some (.slice pa 0 pc)∧wX.cell? ⟨g,1,none⟩=some (.int .i64 k)∧wX.cell? ⟨g,2,none⟩=some (.int .u64 n)):=fun wX hX =>
  ⟨by rw [hX.cell (p:=⟨g,0,none⟩) hg.out];exact h0,by rw [hX.cell (p:=⟨g,1,none⟩) hg.out];exact h1,by rw [hX.cell (p:=⟨g,2,none⟩) hg.out];exact h2⟩
 clear h0 h1 h2
 go_enter Tryz.func29,Tryz.ntmps29
 go_wp2
 go_loopw [17] (fun s17 wr=>∃ i:Nat,i≤1∧s17 = .int .i64 (i:Nat)∧Hid (Below w.heap.size w wr)) (fun v _=>1 - (intOf v).toNat)
 case atStart=>exact ⟨0,by omega,rfl,Below.refl _ _⟩
 case round =>
  obtain ⟨i,hi,rfl,hB⟩:=hrel
  match i,hi with
  | 0,_ =>
   obtain ⟨y0,y1,y2⟩:=hC.out _ hB.out
   have hB1:Hid (Below w.heap.size w (wr.alloc (.cells #[.slice pa 0 pc, .int .i64 k, .int .u64 n] 44))):=hB.out.alloc hB.out.size _
   obtain ⟨z0,z1,z2⟩:=hC.out _ hB1.out
   have hB2:Hid (Below w.heap.size w ((wr.alloc (.cells #[.slice pa 0 pc, .int .i64 k, .int .u64 n] 44)).alloc (.cells #[.slice pa 0 pc, .int .i64 k, .int .u64 n] 44))):=hB1.out.alloc hB1.out.size _
   go_wp2_with (go_at_fn 30;refine (kC _).mono ?_;rintro e w1 ⟨rfl,hb1⟩)
   exact ⟨⟨1,by omega,rfl,hB2.out.trans (hb1.out.mono hB2.out.size)⟩,by simp [intOf]⟩
  | 1,_ =>
   go_wp2
   go_ret
   exact ⟨rfl,hB⟩
theorem vsamel_one(g c pc:Nat)(pa:Option Addr)(k n:Int)(w:World)(hc:1≤c∧c≤9223372036854775807)(h0:w.cell? ⟨g,0,none⟩=some (.slice pa 0 pc))(h1:w.cell? ⟨g,1,none⟩=some (.int .i64 k))(h2:w.cell? ⟨g,2,none⟩=some (.int .u64 n)) :
  Calls Tryz.prog 15 #[.slice (some ⟨g,0,none⟩) 1 c, .slice (some ⟨g,0,none⟩) 1 c] w fun e w'=>e = .returned (.bool true)∧Hid (Below w.heap.size w w'):=by
 have kE:=eqfl_one g c pc pa k n w hc h0 h1 h2
 clear h0 h1 h2 hc
 go_enter Tryz.func15,Tryz.ntmps15
 go_wp2_with (go_at_call 29;refine kE.mono ?_;rintro e w1 ⟨rfl,hb1⟩)
 go_ret
 exact ⟨rfl,hb1⟩
end Go.Proofs.YtejlaiofpekchaaGreatDoor
namespace Go.Proofs.YtejlaiofpekchaaGreatDoor
open Go.RowKit
set_option linter.unusedVariables false
theorem ok_inj{α : Type}{v v':α}{w w':World}(h:(Result.ok v w:Result α) = .ok v' w'):v=v':=by cases h;rfl
section
variable {tn:TypeId}
theorem wpList_append_new{P:Program}{tk:TypeId}(hk:P.underlying tk=some (.slice tn))
  (hi:(P.info? tn).map (fun i=>(i.zero,i.size,i.bytes))=some (some (.agg #[.int .i64 0, .int .u64 0, .bool false, .string ⟨#[]⟩, .int .i64 0, .string ⟨#[]⟩, .slice none 0 0, .slice none 0 0, .slice none 0 0]),9,136))
  {w:World} {ops:Array Oper} {rest:List Oper} {o:Oper} {a:Act} {Q:Exit→Act→World→Prop} (hgd:o.guard=none) (s x:Operand)
  (ho:o.op = .call { callee := .builtin .append,args:=#[s,x],argTypes:=#[tk,tk] })
  (base:Nat) (v:Value) (ys zs:List Nb) (hs:a.eval s=v) (hown:OwnsN tn w base v ys)
  (ad:Addr) (m c:Nat) (hx:a.eval x = .slice (some ad) m c) (hm:zs.length=m) (hm0:0<m) (hb:Nine w (some ad) zs)
  (hbytes:ys.length+zs.length≤1000000000) (hbase:base≤w.heap.size)
  (h:∀ v' w',OwnsN tn w' base v' (ys++zs)→w.grownBy w' v.ownBlock→(∀ g,v'.ownBlock=some g→v.ownBlock=some g∨w.heap.size≤g)→wpList P ops Q rest (a.put o.dst v') w'):wpList P ops Q (o::rest) a w:=by
 subst hm
 obtain ⟨i,hi,hz,hsz,hby⟩:=info_parts hi
 obtain ⟨v',w',hr,h2,h3,_⟩:=run_append_own_wide (P:=P) w base tk o.type tn i _ 9 136 hk hi hz hsz hby rfl (by decide) v ys.length _ hown ad zs.length c (Cs zs) (cs_len zs) hb.news (cs_one zs) (by unfold maxLen;omega) (by omega) hbase
 have hnew:∀ g,v'.ownBlock=some g→v.ownBlock=some g∨w.heap.size≤g:=by
  have hl:(Cs zs).length=zs.length*i.size:=by rw [hsz];exact cs_len zs
  rcases hown.2 with ⟨rfl,hn⟩ | ⟨g,cap,cur,rfl,hbg,hg,hnc,hcm,hcs,htake⟩
  ·have hr2 := run_append_nil (P := P) w tk o.type tn i _ hk hi hz ad zs.length c (Cs zs) hl hb.news hm0 (by omega) (by rw [hby]; omega)
   have e:=ok_inj (hr.symm.trans hr2)
   subst e
   intro g hg
   simp [Value.ownBlock] at hg
   exact .inr (by omega)
  ·by_cases hroom : ys.length + zs.length ≤ cap
   ·have hr2 := run_append_room (P := P) w tk o.type tn i hk hi g ys.length cap cur hg ad zs.length c (Cs zs) hl hb.news (cs_one zs) hroom (by rw [hl, hsz, hcs, ← Nat.add_mul]; exact Nat.mul_le_mul_right _ hroom)
    have e:=ok_inj (hr.symm.trans hr2)
    subst e
    intro g' hg'
    exact .inl hg'
   ·have hr2 := run_append_grow (P := P) w tk o.type tn i _ hk hi hz ⟨g, 0, none⟩ ys.length cap (Cs ys) (by rw [hsz]; exact cs_len ys) (World.ownsRow.cells hown (g := g) rfl) ad zs.length c (Cs zs) hl hb.news (by omega) (by omega) (by rw [hby]; exact growslice_fits_wide (by omega) (by omega))
    have e:=ok_inj (hr.symm.trans hr2)
    subst e
    intro g' hg'
    simp [Value.ownBlock] at hg'
    exact .inr (by omega)
 refine wpList_plain hgd fun K hK=>?_
 unfold Oper.wp
 simp [execOp,ho,resolve,invoke,builtin,hs,hx,hr,Result.andThen]
 refine hK _ _ (h v' w' ?_ h3 hnew)
 unfold OwnsN
 rw [List.length_append,cs_app]
 exact h2
end
theorem infoN:(Tryz.prog.info? 26).map (fun i=>(i.zero,i.size,i.bytes))=some (some (.agg #[.int .i64 0, .int .u64 0, .bool false, .string ⟨#[]⟩, .int .i64 0, .string ⟨#[]⟩, .slice none 0 0, .slice none 0 0, .slice none 0 0]),9,136):=by kernel_rfl
end Go.Proofs.YtejlaiofpekchaaGreatDoor
