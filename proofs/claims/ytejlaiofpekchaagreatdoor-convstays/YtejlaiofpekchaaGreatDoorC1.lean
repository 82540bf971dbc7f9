/-
  Bytes: what a slice of bytes is; bytes that a call itself has made, appended to and written one by one.
  Trees as plain data: what they are, how many nodes they have, how deep they are, where a path leads, and what a tree is with another node there.
  A tree in memory: what a walk is told of a node by its cells, kept as the world grows, and read off an argument.
  The types of a node in this program.
-/
import Derived.Test.YtejlaiofpekchaaGreatDoorChecked
import Derived.Test.YtejlaiofpekchaaGreatDoorC0
import GoSem.PinnedTables
import GoSem.Claim
import GoSem.ClaimJoined
import GoSem.ClaimMapViews
import Derived.JoinedTies
import Derived.KernelRfl
import Derived.WalkKit
import Derived.WalkSpells
import Derived.WalkLawsBesides
import Derived.ProofKit
import Derived.OpenShut
import Derived.ChangeOld
import Derived.Below
import Derived.Laws.AppendOwnNone
import Derived.Laws.CopyOwn
import Derived.Laws.BytesArg
import Derived.Deep.Slices
import Derived.Deep.Strs
import Derived.ChangeReads
import Derived.SizedLaws
namespace Go.Proofs.YtejlaiofpekchaaGreatDoor
open Go.RowKit
def Bytes(w:World)(a:Option Addr)(zs:List Int):Prop :=
 (∀ c∈zs,0≤c∧c<256)∧zs.length≤maxLen ∧
 (zs=[]∨∃ b off,a=some ⟨b,off,none⟩∧∀ i,i<zs.length→w.cell? ⟨b,off+i,none⟩=some (.int .u8 (zs.getD i 0)))
def IsRow(k:IntKind)(w:World)(a:Option Addr)(len cap:Nat)(zs:List Int):Prop :=
 (a=none∧len=0∧cap=0∧zs=[]) ∨
 ∃ x,a=some x∧len≤cap∧cap≤maxLen∧zs.length=cap∧(∀ i,i<zs.length→w.cell? (x.add i)=some (.int k (zs.getD i 0)))∧∀ n∈zs,(Lit.int k n).wf=true
theorem bytes_of_row{w:World}{a:Option Addr}{len cap:Nat}{zs:List Int}(h:IsRow .u8 w a len cap zs):(zs.take len).length=len∧Bytes w a (zs.take len):=by
 rcases h with ⟨rfl,rfl,rfl,rfl⟩ | ⟨x,rfl,hl,hm,hz,hcell,hwz⟩
 ·exact ⟨rfl,by simp,by simp, .inl (by simp)⟩
 ·have hlen : (zs.take len).length = len := by rw [List.length_take]; omega
  refine ⟨hlen,?_,by omega,?_⟩
  ·intro c hc
   have:=hwz c (List.mem_of_mem_take hc)
   simp [Lit.wf,show IntKind.u8.min=0 from by decide,show IntKind.u8.max=255 from by decide] at this
   omega
  ·by_cases h0 : len = 0
   ·left;subst h0;simp
   ·right
    obtain ⟨b,off,spot⟩:=x
    have hc:=hcell 0 (by omega)
    have hspot:spot=none:=by simpa [Addr.add] using World.cell?_spot hc
    subst hspot
    refine ⟨b,off,rfl,fun i hi=>?_⟩
    have hi':i<len:=by omega
    have:=hcell i (by omega)
    rw [List.getD_eq_getElem?_getD,List.getElem?_take,if_pos hi',←List.getD_eq_getElem?_getD]
    by_cases h1:i=0
    ·subst h1;simpa [Addr.add] using this
    ·simpa [Addr.add,h1] using this
theorem info5:(Tryz.prog.info? 5).map (fun i=>(i.zero,i.size,i.bytes))=some (some (.int .u8 0),1,1):=by kernel_rfl
def OwnsB(w:World)(base:Nat)(v:Value)(zs:List Int):Prop :=
 w.ownsRow base 5 1 v zs.length (zs.map (Value.int .u8))∧∀ c∈zs,0≤c∧c<256
theorem ownsB_nil(w:World)(base:Nat):OwnsB w base (.slice none 0 0) []:=⟨World.ownsRow_nil w base 5 1,by simp⟩
theorem cell_row{w:World}{g:Nat}{cur:Array Value}{t:TypeId}{m:Nat × Nat}(h:w.heap[g]? = some (.cells cur t m))(j:Nat):w.cell? ⟨g,j,none⟩=cur[j]? := by
 simp [World.cell?,h]
theorem OwnsB.shape{w:World}{base:Nat}{v:Value}{zs:List Int}(h:OwnsB w base v zs) :
  ∃ a cap,v = .slice a zs.length cap∧(a=none→cap=0)∧(zs.length≤cap∧cap≤maxLen)∧Bytes w a zs∧(∀ x,a=some x→base≤x.block∧x.block<w.heap.size∧x.off=0∧x.spot=none):=by
 obtain ⟨⟨hl,hv⟩,hz⟩:=h
 rcases hv with ⟨rfl,hn⟩ | ⟨g,cap,cur,rfl,hb,hg,hnc,hcm,hcs,htk⟩
 ·have h0 : zs = [] := List.eq_nil_of_length_eq_zero hn
  subst h0
  exact ⟨none,0,rfl,fun _=>rfl,by simp,⟨hz,by simp, .inl rfl⟩,fun x hx=>by cases hx⟩
 ·refine ⟨some ⟨g, 0, none⟩, cap, rfl, (fun hx => by cases hx), ⟨hnc, hcm⟩, ⟨hz, by omega, .inr ⟨g, 0, rfl, fun i hi => ?_⟩⟩, ?_⟩
  ·rw [Nat.zero_add, cell_row hg, ← Array.getElem?_toList]
   have h1:(cur.toList.take (zs.length*1))[i]? = (zs.map (Value.int .u8))[i]? := by rw [htk]
   rw [List.getElem?_take,if_pos (by omega),List.getElem?_map] at h1
   rw [h1,List.getD_eq_getElem?_getD,List.getElem?_eq_getElem hi];rfl
  ·intro x hx
   cases hx
   refine ⟨hb,?_,rfl,rfl⟩
   exact (Array.getElem?_eq_some_iff.1 hg).1
theorem OwnsB.form{w:World}{base:Nat}{v:Value}{zs:List Int}(h:OwnsB w base v zs) :
  ∃ a n cap,v = .slice a n cap∧Hid (zs.length=n)∧Hid (a=none→cap=0)∧n≤cap∧cap≤9223372036854775807∧Hid (Bytes w a zs):=by
 obtain ⟨a,cap,hv,hn,⟨hl,hm⟩,hb,_⟩:=h.shape
 exact ⟨a,zs.length,cap,hv,rfl,hn,hl,by simpa [maxLen] using hm,hb⟩
theorem bytes_one(zs:List Int):∀ u∈zs.map (Value.int .u8),u.oneCell'=true:=by
 intro u hu
 obtain ⟨c,_,rfl⟩:=List.mem_map.1 hu
 rfl
theorem bytes_news{w:World}{x:Addr}{zs:List Int}(hb:Bytes w (some x) zs) :
  ∀ j u,(zs.map (Value.int .u8))[j]? = some u→w.cell? (x.add j)=some u:=by
 intro j u hu
 rcases hb.2.2 with rfl | ⟨b,off,hx,hc⟩
 ·simp at hu
 ·cases hx
  have hj:j<zs.length:=by
   have:=(List.getElem?_eq_some_iff.1 hu).1
   simpa using this
  have h1:=hc j hj
  rw [List.getElem?_map,List.getElem?_eq_getElem hj] at hu
  simp only [Option.map_some,Option.some.injEq] at hu
  subst hu
  have e:(⟨b,off,none⟩:Addr).add j=⟨b,off+j,none⟩:=by
   by_cases h0:j=0
   ·subst h0;simp [Addr.add]
   ·simp [Addr.add,h0]
  rw [e,h1,List.getD_eq_getElem?_getD,List.getElem?_eq_getElem hj];rfl
theorem wpList_append_bytes{w:World}{ops:Array Oper}{rest:List Oper}{o:Oper}{a:Act}{Q:Exit→Act→World→Prop}(hgd:o.guard=none)(s x:Operand)
  (ho:o.op = .call { callee := .builtin .append,args:=#[s,x],argTypes:=#[23,23] })
  (base:Nat) (v:Value) (ys zs:List Int) (hs:a.eval s=v) (hown:OwnsB w base v ys)
  (ad:Option Addr) (m c:Nat) (hx:a.eval x = .slice ad m c) (hm:zs.length=m) (hn:ad=none→c=0) (hb:Bytes w ad zs)
  (hbytes:ys.length+zs.length≤140737488355328) (hbase:base≤w.heap.size)
  (h:∀ v' w',OwnsB w' base v' (ys++zs)→w.grownBy w' v.ownBlock→wpList Tryz.prog ops Q rest (a.put o.dst v') w'):wpList Tryz.prog ops Q (o::rest) a w:=by
 subst hm
 obtain ⟨i,hi,hz,hsz,hby⟩:=info_parts info5
 have hall:∀ c∈ys++zs,0≤c∧c<256:=fun c hc=>by
  rcases List.mem_append.1 hc with h1 | h1
  ·exact hown.2 c h1
  ·exact hb.1 c h1
 cases ad with
 | none =>
  have h0:zs=[]:=by
   rcases hb.2.2 with h0 | ⟨_,_,h0,_⟩
   ·exact h0
   ·cases h0
  subst h0
  rw [hn rfl] at hx
  refine wpList_append_own_none hgd s x 23 ho base 5 i 1 Tryz.underlying23 hi v ys.length _ hs hown.1 hx ?_
  have:=h v w (by simpa using hown) (World.grownBy.refl _ _)
  exact this
 | some ad =>
  refine wpList_append_own w hgd s x 23 ho base 5 i (.int .u8 0) 1 1 Tryz.underlying23 hi hz hsz hby rfl (by decide) v ys.length _ hs hown.1 ad zs.length c (zs.map (Value.int .u8)) hx (by simp) (bytes_news hb) (bytes_one zs) ?_ (by omega) hbase ?_
  ·unfold maxLen;omega
  ·intro v' w' ho' hg _
   refine h v' w' ⟨?_,hall⟩ hg
   rw [List.length_append,List.map_append]
   exact ho'
theorem Bytes.below{w w':World}{B:Nat}{a:Option Addr}{zs:List Int}(hb:Bytes w a zs)(h:Below B w w')(hB:∀ x,a=some x→zs≠[]→x.block<B):Bytes w' a zs:=by
 refine ⟨hb.1,hb.2.1,?_⟩
 rcases hb.2.2 with h0 | ⟨b,off,rfl,hc⟩
 ·exact .inl h0
 ·by_cases h0 : zs = []
  ·exact .inl h0
  ·refine .inr ⟨b, off, rfl, fun i hi => ?_⟩
   rw [h.cell (p:=⟨b,off+i,none⟩) (hB ⟨b,off,none⟩ rfl h0)]
   exact hc i hi
theorem Bytes.lt{w:World}{x:Addr}{zs:List Int}(hb:Bytes w (some x) zs)(h0:zs≠[]):x.block<w.heap.size:=by
 rcases hb.2.2 with h1 | ⟨b,off,h1,hc⟩
 ·exact absurd h1 h0
 ·cases h1
  have hp:0<zs.length:=List.length_pos_iff.2 h0
  have:=hc 0 hp
  simp only [World.cell?] at this
  show b<w.heap.size
  rcases Nat.lt_or_ge b w.heap.size with h2 | h2
  ·exact h2
  ·simp [Array.getElem?_eq_none h2] at this
theorem Bytes.kept{w w':World}{a:Option Addr}{zs:List Int}(hb:Bytes w a zs)(h:Below w.heap.size w w'):Bytes w' a zs :=
 hb.below h fun x hx h0=>by subst hx;exact hb.lt h0
theorem OwnsB.alloc{w:World}{base:Nat}{v:Value}{zs:List Int}(h:OwnsB w base v zs)(o:Obj):OwnsB (w.alloc o) base v zs:=⟨h.1.alloc o,h.2⟩
theorem OwnsB.below{w w':World}{base:Nat}{v:Value}{zs:List Int}(h:OwnsB w base v zs)(hb:Below w.heap.size w w'):OwnsB w' base v zs :=
 ⟨h.1.kept (row:=none) ⟨hb.os,hb.tape,hb.output,hb.size,fun k hk _=>hb.block k hk⟩ (by cases hv:v.ownBlock <;> simp),h.2⟩
theorem grown_below{w w1 w2:World}{base:Nat}{v:Value}{zs:List Int}(hb:Below base w w1)(h:OwnsB w1 base v zs)(hg:w1.grownBy w2 v.ownBlock)(hB:base≤w1.heap.size):Below base w w2 :=
 hb.grown hg hB fun k hk=>(h.1.lt k hk).1
theorem Bytes.drop{w:World}{b off:Nat}{zs:List Int}(h:Bytes w (some ⟨b,off,none⟩) zs)(k:Nat):Bytes w (some ⟨b,off+k,none⟩) (zs.drop k):=by
 refine ⟨fun c hc=>h.1 c (List.mem_of_mem_drop hc),by rw [List.length_drop];have:=h.2.1;omega,?_⟩
 rcases h.2.2 with rfl | ⟨b',off',hx,hc⟩
 ·left;simp
 ·right
  cases hx
  refine ⟨b,off+k,rfl,fun i hi=>?_⟩
  rw [List.length_drop] at hi
  rw [show off+k+i=off+(k+i) from by omega,hc (k+i) (by omega),List.getD_eq_getElem?_getD,List.getD_eq_getElem?_getD,List.getElem?_drop]
theorem bytes_some{w:World}{a:Option Addr}{zs:List Int}(hb:Bytes w a zs)(h:0<zs.length):∃ b off,a=some ⟨b,off,none⟩:=by
 rcases hb.2.2 with rfl | ⟨b,off,h1,_⟩
 ·simp at h
 ·exact ⟨b,off,h1⟩
end Go.Proofs.YtejlaiofpekchaaGreatDoor
namespace Go.Proofs.YtejlaiofpekchaaGreatDoor
set_option linter.unusedVariables false
structure Tr where
 kind:Int
 num:Int
 neg:Bool
 dig:ByteArray
 exp:Int
 txt:ByteArray
 bytes:List Int
 keys:List Tr
 kids:List Tr
namespace Tr
theorem ind{P:Tr→Prop}(h:∀ t,(∀ k,k∈t.keys→P k)→(∀ k,k∈t.kids→P k)→P t):∀ t,P t:=by
 have aux:∀ (n:Nat) (t:Tr),SizeOf.sizeOf t<n→P t:=by
  intro n
  induction n with
  | zero=>intro t ht;exact absurd ht (Nat.not_lt_zero _)
  | succ n ih =>
   intro t ht
   refine h t (fun k hk=>ih k ?_) (fun k hk=>ih k ?_)
   ·have := List.sizeOf_lt_of_mem hk
    cases t;simp at *;omega
   ·have := List.sizeOf_lt_of_mem hk
    cases t;simp at *;omega
 exact fun t=>aux _ t (Nat.lt_succ_self _)
def size:Tr→Nat
 | ⟨_,_,_,_,_,_,_,keys,kids⟩=>1+(keys.map size).sum+(kids.map size).sum
def sizes(l:List Tr):Nat:=(l.map size).sum
theorem size_eq(t:Tr):t.size=1+sizes t.keys+sizes t.kids:=by
 cases t;rw [size];rfl
theorem sizes_nil:sizes []=0:=rfl
theorem sizes_cons(a:Tr)(l:List Tr):sizes (a::l)=a.size+sizes l:=by simp [sizes]
theorem sizes_app(l m:List Tr):sizes (l++m)=sizes l+sizes m:=by simp [sizes]
theorem sizes_snoc(l:List Tr){i:Nat}(h:i<l.length):sizes (l.take (i+1))=sizes (l.take i)+(l[i]).size:=by
 rw [List.take_succ_eq_append_getElem h,sizes_app,sizes_cons,sizes_nil,Nat.add_zero]
theorem sizes_take(l:List Tr)(i:Nat):sizes (l.take i)≤sizes l:=by
 have h:sizes l=sizes (l.take i)+sizes (l.drop i):=by rw [←sizes_app,List.take_append_drop]
 omega
theorem size_pos(t:Tr):1≤t.size:=by rw [size_eq];omega
theorem size_le{l:List Tr}{k:Tr}(h:k∈l):k.size≤sizes l:=by
 induction l with
 | nil=>cases h
 | cons a r ih =>
  rw [sizes_cons]
  rcases List.mem_cons.1 h with rfl | h
  ·omega
  ·have:=ih h;omega
theorem key_lt{t k:Tr}(h:k∈t.keys):k.size<t.size:=by have:=size_le h;rw [size_eq t];omega
theorem kid_lt{t k:Tr}(h:k∈t.kids):k.size<t.size:=by have:=size_le h;rw [size_eq t];omega
theorem length_le(l:List Tr):l.length≤sizes l:=by
 induction l with
 | nil=>exact Nat.le_refl _
 | cons a r ih=>rw [sizes_cons,List.length_cons];have:=size_pos a;omega
def lft(m:Int)(s:Nat):Int:=if (s:Int)≤m then m - s else -1
theorem lft_add{m:Int}{a b:Nat}(h:0≤lft m a):lft (lft m a) b=lft m (a+b):=by
 unfold lft at *
 split at h
 ·rename_i h1
  rw [if_pos h1]
  split <;> split <;> omega
 ·omega
theorem lft_over{m:Int}{a b:Nat}(h:lft m a<0)(hm:0≤m):lft m (a+b) = -1∧lft m a = -1:=by
 unfold lft at *
 split at h
 ·omega
 ·rename_i h1
  exact ⟨if_neg (by omega),if_neg h1⟩
theorem lft_few(s:Nat):decide (0≤lft 1024 s)=decide (s≤1024):=by
 unfold lft
 split <;> simp <;> omega
def mx(l:List Nat):Nat:=l.foldl max 0
theorem mx_snoc(l:List Nat)(x:Nat):mx (l++[x])=max (mx l) x:=by simp [mx,List.foldl_append]
theorem foldl_max(l:List Nat):∀ a,a≤l.foldl max a:=by
 induction l with
 | nil=>intro a;exact Nat.le_refl _
 | cons b r ih=>intro a;exact Nat.le_trans (Nat.le_max_left a b) (ih (max a b))
theorem le_foldl{l:List Nat}{x:Nat}(h:x∈l):∀ a,x≤l.foldl max a:=by
 induction l with
 | nil=>cases h
 | cons b r ih =>
  intro a
  rcases List.mem_cons.1 h with rfl | h
  ·exact Nat.le_trans (Nat.le_max_right a x) (foldl_max r _)
  ·exact ih h (max a b)
theorem foldl_le{l:List Nat}{n:Nat}(h:∀ x∈l,x≤n):∀ a,a≤n→l.foldl max a≤n:=by
 induction l with
 | nil=>intro a ha;exact ha
 | cons b r ih=>intro a ha;exact ih (fun x hx=>h x (List.mem_cons_of_mem _ hx)) _ (Nat.max_le.2 ⟨ha,h b List.mem_cons_self⟩)
theorem le_mx{l:List Nat}{x:Nat}(h:x∈l):x≤mx l:=le_foldl h 0
theorem mx_le{l:List Nat}{n:Nat}(h:∀ x∈l,x≤n):mx l≤n:=foldl_le h 0 (Nat.zero_le _)
def deep:Tr→Nat
 | ⟨_,_,_,_,_,_,_,keys,kids⟩=>1+max (mx (keys.map deep)) (mx (kids.map deep))
def deeps(l:List Tr):Nat:=mx (l.map deep)
theorem deep_eq(t:Tr):t.deep=1+max (deeps t.keys) (deeps t.kids):=by
 cases t;rw [deep];rfl
theorem deeps_snoc(l:List Tr){i:Nat}(h:i<l.length):deeps (l.take (i+1))=max (deeps (l.take i)) (l[i]).deep:=by
 rw [List.take_succ_eq_append_getElem h]
 unfold deeps
 rw [List.map_append,List.map_cons,List.map_nil,mx_snoc]
theorem deep_le{l:List Tr}{k:Tr}(h:k∈l):k.deep≤deeps l:=le_mx (List.mem_map.2 ⟨k,h,rfl⟩)
theorem key_deep{t k:Tr}(h:k∈t.keys):k.deep<t.deep:=by have:=deep_le h;rw [deep_eq t];omega
theorem kid_deep{t k:Tr}(h:k∈t.kids):k.deep<t.deep:=by have:=deep_le h;rw [deep_eq t];omega
theorem deep_size(t:Tr):t.deep≤t.size:=by
 induction t using ind with
 | h t hk hi =>
  rw [deep_eq,size_eq]
  have a:deeps t.keys≤sizes t.keys:=mx_le fun x hx=>by
   obtain ⟨k,hm,rfl⟩:=List.mem_map.1 hx
   exact Nat.le_trans (hk k hm) (size_le hm)
  have b:deeps t.kids≤sizes t.kids:=mx_le fun x hx=>by
   obtain ⟨k,hm,rfl⟩:=List.mem_map.1 hx
   exact Nat.le_trans (hi k hm) (size_le hm)
  omega
def way(t:Tr)(k:Int):Option (Nat × Bool) :=
 if k<0 then none
 else if t.kind=8 then
  if k % 2=0 then (if k / 2<t.keys.length then some ((k / 2).toNat,true) else none)
  else (if k / 2<t.kids.length then some ((k / 2).toNat,false) else none)
 else if t.kind=7∨t.kind=9 then (if k<t.kids.length then some (k.toNat,false) else none)
 else none
def side(t:Tr)(b:Bool):List Tr:=if b then t.keys else t.kids
def turn(t:Tr)(b:Bool)(l:List Tr):Tr:=if b then { t with keys:=l } else { t with kids:=l }
theorem way_lt{t:Tr}{k:Int}{i:Nat}{b:Bool}(h:t.way k=some (i,b)):i<(t.side b).length:=by
 unfold way at h
 split at h
 ·cases h
 split at h
 ·split at h <;> split at h
  ·cases h;simp only [side];simp;omega
  ·cases h
  ·cases h;simp only [side];simp;omega
  ·cases h
 ·split at h
  ·split at h
   ·cases h;simp only [side];simp;omega
   ·cases h
  ·cases h
def find(t:Tr):List Int→Option Tr
 | []=>some t
 | k :: p => match t.way k with
  | some (i,b)=>match (t.side b)[i]? with
   | some u=>find u p
   | none=>none
  | none=>none
theorem find_nil(t:Tr):t.find []=some t:=rfl
theorem find_none{t:Tr}{k:Int}{p:List Int}(h:t.way k=none):t.find (k::p)=none:=by simp [find,h]
theorem find_some{t u:Tr}{k:Int}{p:List Int}{i:Nat}{b:Bool}(h:t.way k=some (i,b))(hu:(t.side b)[i]? = some u):t.find (k::p)=u.find p:=by simp [find,h,hu]
theorem find_holds{P:Tr→Prop}(hp:∀ t u:Tr,P t→(u∈t.keys∨u∈t.kids)→P u)(p:List Int):∀ t u:Tr,P t→t.find p=some u→P u:=by
 induction p with
 | nil=>intro t u ht h;rw [find_nil] at h;cases h;exact ht
 | cons k p ih =>
  intro t u ht h
  cases hw:t.way k with
  | none=>rw [find_none hw] at h;cases h
  | some ib =>
   obtain ⟨i,b⟩:=ib
   have hu:(t.side b)[i]? = some ((t.side b).get ⟨i,way_lt hw⟩):=List.getElem?_eq_getElem (way_lt hw)
   rw [find_some hw hu] at h
   refine ih _ _ (hp t _ ht ?_) h
   have hm:=List.getElem_mem (way_lt hw)
   cases b with
   | true=>exact .inl hm
   | false=>exact .inr hm
theorem find_size{t u:Tr}{p:List Int}(h:t.find p=some u):u.size≤t.size :=
 find_holds (P:=fun x=>x.size≤t.size) (fun a b ha hb=>by
  rcases hb with hb | hb
  ·have:=key_lt hb;omega
  ·have:=kid_lt hb;omega) p t u (Nat.le_refl _) h
def All(Q:Tr→Prop):Tr→Prop
 | ⟨a,b,c,d,e,f,g,keys,kids⟩=>Q ⟨a,b,c,d,e,f,g,keys,kids⟩∧(∀ k,k∈keys→All Q k)∧(∀ k,k∈kids→All Q k)
theorem all_eq(Q:Tr→Prop)(t:Tr):t.All Q ↔ Q t∧(∀ k,k∈t.keys→k.All Q)∧(∀ k,k∈t.kids→k.All Q):=by
 cases t;rw [All]
def May(al:Tr→Prop)(t:Tr):Prop:=t.size≤1024∧t.deep≤24∧t.All al∧t.All (fun u=>u.keys.Nodup)
end Tr
end Go.Proofs.YtejlaiofpekchaaGreatDoor
namespace Go.Proofs.YtejlaiofpekchaaGreatDoor
open Go.RowKit Go.ChangeShapes Go.WideShapes
set_option linter.unusedVariables false
structure Nb where
 kind:Int
 num:Int
 neg:Bool
 dig:ByteArray
 exp:Int
 txt:ByteArray
 ab:Option Addr
 lb:Nat
 cb:Nat
 ak:Option Addr
 lk:Nat
 ck:Nat
 ai:Option Addr
 li:Nat
 ci:Nat
def Nb.cells(b:Nb):List Value :=
 [.int .i64 b.kind, .int .u64 b.num, .bool b.neg, .string b.dig, .int .i64 b.exp, .string b.txt, .slice b.ab b.lb b.cb, .slice b.ak b.lk b.ck, .slice b.ai b.li b.ci]
def Nb.val(b:Nb):Value :=
 .agg #[.int .i64 b.kind, .int .u64 b.num, .bool b.neg, .string b.dig, .int .i64 b.exp, .string b.txt, .slice b.ab b.lb b.cb, .slice b.ak b.lk b.ck, .slice b.ai b.li b.ci]
def Room(k:Nat)(a:Option Addr)(len cap:Nat):Prop:=len≤cap∧cap≤maxLen∧(a=none→cap=0)∧len*k≤140737488351232
def RowN(Q:Nb→Tr→Prop)(w:World)(a:Option Addr)(len cap:Nat)(l:List Tr):Prop :=
 l.length=len∧Room 136 a len cap ∧
 (l=[]∨∃ b off,a=some ⟨b,off,none⟩∧∀ i (h:i<l.length),∃ nb:Nb,(∀ j,j<9→w.cell? ⟨b,off+(i*9+j),none⟩=nb.cells[j]?)∧Q nb l[i])
def Nd:Nat→World→Nb→Tr→Prop
 | 0,_,_,_=>False
 | d+1,w,b,t=>(b.kind=t.kind∧b.num=t.num∧b.neg=t.neg∧b.dig=t.dig∧b.exp=t.exp∧b.txt=t.txt) ∧
  ((Lit.int .i64 t.kind).wf=true∧(Lit.int .u64 t.num).wf=true∧(Lit.int .i64 t.exp).wf=true∧t.dig.size≤140737488351232∧t.txt.size≤140737488351232) ∧
  (t.bytes.length=b.lb∧Room 1 b.ab b.lb b.cb∧Bytes w b.ab t.bytes) ∧
  RowN (Nd d w) w b.ak b.lk b.ck t.keys∧RowN (Nd d w) w b.ai b.li b.ci t.kids
theorem RowN.mono{Q R:Nb→Tr→Prop}{w:World}{a:Option Addr}{len cap:Nat}{l:List Tr}(h:RowN Q w a len cap l)(hq:∀ b t,t∈l→Q b t→R b t):RowN R w a len cap l:=by
 obtain ⟨h0,h1,h2⟩:=h
 refine ⟨h0,h1,?_⟩
 rcases h2 with h2 | ⟨b,off,ha,hc⟩
 ·exact .inl h2
 ·refine .inr ⟨b, off, ha, fun i hi => ?_⟩
  obtain ⟨nb,hn,hQ⟩:=hc i hi
  exact ⟨nb,hn,hq _ _ (List.getElem_mem hi) hQ⟩
theorem nd_succ:∀ (d:Nat) {w:World} {b:Nb} {t:Tr},Nd d w b t→Nd (d+1) w b t:=by
 intro d
 induction d with
 | zero=>intro w b t h;exact absurd h id
 | succ d ih =>
  intro w b t h
  obtain ⟨h0,h1,h2,h3,h4⟩:=h
  exact ⟨h0,h1,h2,h3.mono fun _ _ _ q=>ih q,h4.mono fun _ _ _ q=>ih q⟩
theorem Nd.le{d e:Nat}{w:World}{b:Nb}{t:Tr}(h:Nd d w b t)(hle:d≤e):Nd e w b t:=by
 induction hle with
 | refl=>exact h
 | step _ ih=>exact nd_succ _ ih
theorem some_block{w:World}{b off:Nat}{v:Value}(h:w.cell? ⟨b,off,none⟩=some v):b<w.heap.size:=by
 by_cases hb:b<w.heap.size
 ·exact hb
 ·exfalso
  have:w.heap[b]? = none:=Array.getElem?_eq_none (by omega)
  simp [World.cell?,this] at h
theorem RowN.kept{Q R:Nb→Tr→Prop}{w w':World}{a:Option Addr}{len cap:Nat}{l:List Tr}(h:RowN Q w a len cap l)(hb:Below w.heap.size w w')(hq:∀ b t,t∈l→Q b t→R b t):RowN R w' a len cap l:=by
 obtain ⟨h0,h1,h2⟩:=h
 refine ⟨h0,h1,?_⟩
 rcases h2 with h2 | ⟨b,off,ha,hc⟩
 ·exact .inl h2
 ·refine .inr ⟨b, off, ha, fun i hi => ?_⟩
  obtain ⟨nb,hn,hQ⟩:=hc i hi
  refine ⟨nb,fun j hj=>?_,hq _ _ (List.getElem_mem hi) hQ⟩
  have h9:=hn j hj
  have hlt:b<w.heap.size:=some_block (h9.trans (List.getElem?_eq_getElem (by simpa [Nb.cells] using hj)))
  rw [hb.cell (p:=⟨b,off+(i*9+j),none⟩) hlt]
  exact h9
theorem Nd.kept:∀ {d:Nat} {w w':World} {b:Nb} {t:Tr},Nd d w b t→Below w.heap.size w w'→Nd d w' b t:=by
 intro d
 induction d with
 | zero=>intro w w' b t h _;exact h
 | succ d ih =>
  intro w w' b t h hb
  obtain ⟨h0,h1,⟨h2,h2',h2''⟩,h3,h4⟩:=h
  exact ⟨h0,h1,⟨h2,h2',h2''.kept hb⟩,h3.kept hb fun _ _ _ q=>ih q hb,h4.kept hb fun _ _ _ q=>ih q hb⟩
structure NTypes(P:Program)(tn tk tb:TypeId):Prop where
 node:∃ fs:Array Field,P.underlying tn=some (.struct fs)∧fs.toList.map (fun f=>(f.type,f.offset))=[(3,0),(22,1),(4,2),(9,3),(3,4),(9,5),(tb,6),(tk,7),(tk,8)]
 row:P.underlying tk=some (.slice tn)
 bytes:P.underlying tb=some (.slice 5)
 u8:P.underlying 5=some (.int .u8)
 i64:P.underlying 3=some (.int .i64)
 u64:P.underlying 22=some (.int .u64)
 bool:P.underlying 4=some .bool
 string:P.underlying 9=some .string
 cn:P.cellsOf tn=9
 bn:P.bytesOf tn=136
 b1:P.bytesOf 5=1
 cells:P.cellsOf 3=1∧P.cellsOf 22=1∧P.cellsOf 4=1∧P.cellsOf 9=1∧P.cellsOf tb=1∧P.cellsOf tk=1∧P.cellsOf 5=1
section
variable {H:Type} {enc:TypeId × Value→H} {P:Program} {w:World} {tn tk tb:TypeId}
theorem weights_all{e:TypeId}:∀ {l:List (DataW H)} {d:DataW H},d∈l→∀ n∈d.weights P e,n∈DataW.weightsAll P e l:=by
 intro l
 induction l with
 | nil=>intro d h;cases h
 | cons a r ih =>
  intro d h n hn
  simp only [DataW.weightsAll,List.mem_append]
  rcases List.mem_cons.1 h with rfl | h
  ·exact .inl hn
  ·exact .inr (ih h n hn)
theorem open_bytes(T:NTypes P tn tk tb){fuel:Nat}{cs:List Value}{x:DataW H × List MemPlace}(h:DataW.trod enc P w 0 (fun _=>true) true fuel tb cs=some x)
  (hw:∀ n∈x.1.weights P tb,n≤reachBytes) :
  ∃ a len cap zs,cs=[.slice a len cap]∧zs.length=len∧Room 1 a len cap∧Bytes w a zs:=by
 rcases open_ints T.bytes T.u8 T.cells.2.2.2.2.2.2 h with ⟨hcs,hx⟩ | ⟨a,l,c,zs,hcs,_,hl,hm,hz,hx,hcell,hwz⟩
 ·exact ⟨none,0,0,[],hcs,rfl,⟨Nat.le_refl _,Nat.zero_le _,fun _=>rfl,by omega⟩,by simp [Bytes]⟩
 ·have hz' : zs.length = c := by simpa using hz
  have hb:=bytes_of_row (w:=w) (a:=some a) (len:=l) (cap:=c) (zs:=zs) (.inr ⟨a,rfl,hl,hm,hz',hcell,hwz⟩)
  have hr:l*1≤140737488351232:=by
   have h1:(lits .u8 (zs.take l) (H:=H)).length+(lits .u8 (zs.drop l) (H:=H)).length=c:=by
    simp only [lits,List.length_map,List.length_take,List.length_drop];omega
   have h2:=hw (((lits .u8 (zs.take l) (H:=H)).length+(lits .u8 (zs.drop l) (H:=H)).length)*P.bytesOf 5) (by rw [hx];simp [DataW.weights,T.bytes])
   rw [h1,T.b1] at h2
   unfold reachBytes at h2
   omega
  exact ⟨some a,l,c,zs.take l,hcs,hb.1,⟨hl,hm,(fun h=>by cases h),hr⟩,hb.2⟩
theorem cells_at{a:Addr}{n:Nat}{cs:List Value}(h:w.cells? 0 a n=some cs):cs.length=n∧∀ j,j<n→w.cell? (a.add j)=cs[j]? := by
 unfold World.cells? at h
 rw [if_pos (Nat.zero_le _)] at h
 refine ⟨by simpa using mapM_some_length h,fun j hj=>?_⟩
 exact mapM_some_get h j j (by simp [hj])
theorem open_nd (T : NTypes P tn tk tb) : ∀ (fuel : Nat) {cs : List Value} {x : DataW H × List MemPlace}, DataW.trod enc P w 0 (fun _ => true) true fuel tn cs = some x → (∀ n ∈ x.1.weights P tn, n ≤ reachBytes) → ∃ (b : Nb) (t : Tr), cs = b.cells ∧ Nd fuel w b t := by
 intro fuel
 induction fuel using Nat.strongRecOn with
 | ind fuel ih =>
  intro cs x h hw
  obtain ⟨fs,hfs,hty⟩:=T.node
  obtain ⟨xs,n,rfl,hx,hlen,hxl,hf⟩:=DataW.trod_struct hfs h
  rw [T.cn] at hlen
  have h9:fs.size=9:=by have:=congrArg List.length hty;simpa using this
  match cs,hlen with
  | [c0,c1,c2,c3,c4,c5,c6,c7,c8],_ =>
  have hF:∀ i (hi:i<9),∃ y,DataW.trod enc P w 0 (fun _=>true) true n (([(3,0),(22,1),(4,2),(9,3),(3,4),(9,5),(tb,6),(tk,7),(tk,8)]:List (TypeId × Nat)).getD i (0,0)).1
    ((([c0,c1,c2,c3,c4,c5,c6,c7,c8]:List Value).drop (([(3,0),(22,1),(4,2),(9,3),(3,4),(9,5),(tb,6),(tk,7),(tk,8)]:List (TypeId × Nat)).getD i (0,0)).2).take (P.cellsOf (([(3,0),(22,1),(4,2),(9,3),(3,4),(9,5),(tb,6),(tk,7),(tk,8)]:List (TypeId × Nat)).getD i (0,0)).1))=some y ∧
    ∀ n∈y.1.weights P (([(3,0),(22,1),(4,2),(9,3),(3,4),(9,5),(tb,6),(tk,7),(tk,8)]:List (TypeId × Nat)).getD i (0,0)).1,n≤reachBytes:=by
   intro i hi
   have hif:i<fs.size:=by omega
   have e:=hf i fs[i] (Array.getElem?_eq_getElem hif)
   have hy:xs[i]? = some (xs[i]'(by omega)):=List.getElem?_eq_getElem (by omega)
   have ht:([(3,0),(22,1),(4,2),(9,3),(3,4),(9,5),(tb,6),(tk,7),(tk,8)]:List (TypeId × Nat)).getD i (0,0)=(fs[i].type,fs[i].offset):=by
    rw [←hty,List.getD_eq_getElem?_getD,List.getElem?_map,Array.getElem?_toList,Array.getElem?_eq_getElem hif]
    rfl
   rw [ht]
   refine ⟨_,e.trans hy,fun n hn=>hw n ?_⟩
   rw [hx]
   simp only [DataW.weights,hfs]
   exact DataW.weights_mem_each (j:=i) (t:=fs[i].type) (d:=(xs[i]'(by omega)).1) (by rw [List.getElem?_map,Array.getElem?_toList,Array.getElem?_eq_getElem hif];rfl) (by rw [List.getElem?_map,hy];rfl) n hn
  obtain ⟨k0,k1,k2,k3,k4,k5,k6⟩:=T.cells
  obtain ⟨y0,e0,g0⟩:=hF 0 (by omega)
  obtain ⟨y1,e1,g1⟩:=hF 1 (by omega)
  obtain ⟨y2,e2,g2⟩:=hF 2 (by omega)
  obtain ⟨y3,e3,g3⟩:=hF 3 (by omega)
  obtain ⟨y4,e4,g4⟩:=hF 4 (by omega)
  obtain ⟨y5,e5,g5⟩:=hF 5 (by omega)
  obtain ⟨y6,e6,g6⟩:=hF 6 (by omega)
  obtain ⟨y7,e7,g7⟩:=hF 7 (by omega)
  obtain ⟨y8,e8,g8⟩:=hF 8 (by omega)
  clear hF hf
  simp only [List.getD_cons_zero,List.getD_cons_succ,k0,k1,k2,k3,k4,k5,List.drop_zero,List.drop_succ_cons,List.take_succ_cons,List.take_zero] at e0 e1 e2 e3 e4 e5 e6 e7 e8
  simp only [List.getD_cons_zero,List.getD_cons_succ] at g3 g5 g6 g7 g8
  clear g0 g1 g2 g4
  obtain ⟨kind,q0,_,w0⟩:=DataW.trod_int T.i64 e0
  obtain ⟨num,q1,_,w1⟩:=DataW.trod_int T.u64 e1
  obtain ⟨neg,q2,_⟩:=DataW.trod_bool T.bool e2
  obtain ⟨dig,q3,r3,_⟩:=DataW.trod_string T.string e3
  have w3:dig.size≤140737488351232:=by
   have:=g3 dig.data.toList.length (by rw [r3];simp [DataW.weights])
   unfold reachBytes at this
   rw [Array.length_toList] at this
   exact this
  obtain ⟨exp,q4,_,w4⟩:=DataW.trod_int T.i64 e4
  obtain ⟨txt,q5,r5,_⟩:=DataW.trod_string T.string e5
  have w5:txt.size≤140737488351232:=by
   have:=g5 txt.data.toList.length (by rw [r5];simp [DataW.weights])
   unfold reachBytes at this
   rw [Array.length_toList] at this
   exact this
  obtain ⟨ab,lb,cb,zs,q6,hzl,hroom,hbytes⟩:=open_bytes T e6 g6
  have row : ∀ {c : Value} {y : DataW H × List MemPlace}, DataW.trod enc P w 0 (fun _ => true) true n tk [c] = some y → (∀ n ∈ y.1.weights P tk, n ≤ reachBytes) → ∃ a len cap l, c = .slice a len cap ∧ RowN (Nd n w) w a len cap l := by
   intro c y e hy
   rcases DataW.trod_slice T.row e with ⟨hc,_⟩ | ⟨a,len,cap,elems,rest,m,hn,hc,hyx,_,hl,hm,hel,hat,_,_⟩
   ·obtain rfl : c = .slice none 0 0 := by simpa using hc
    exact ⟨none,0,0,[],rfl,rfl,⟨Nat.le_refl _,Nat.zero_le _,fun _=>rfl,by omega⟩, .inl rfl⟩
   ·obtain rfl : c = .slice (some a) len cap := by simpa using hc
    have each:∀ i,i<len→∃ bt:Nb × Tr,(∀ j,j<9→w.cell? ((a.add (i*9)).add j)=bt.1.cells[j]?)∧Nd n w bt.1 bt.2:=by
     intro i hi
     have e1:=hat i hi
     rw [T.cn,List.getElem?_eq_getElem (by omega),Option.bind_eq_some_iff] at e1
     obtain ⟨cs',hcs',hr⟩:=e1
     obtain ⟨b,t,rfl,hb⟩:=ih m (by omega) hr fun n hn=>hy n (by
      rw [hyx]
      simp only [DataW.weights,T.row]
      exact List.mem_cons_of_mem _ (List.mem_append_left _ (weights_all (List.mem_map.2 ⟨_,List.getElem_mem (by omega),rfl⟩) n hn)))
     exact ⟨(b,t),(cells_at hcs').2,hb.le (by omega)⟩
    have hsz:len*136≤140737488351232:=by
     have:=hy (((elems.map (·.1)).length+(rest.map (·.1)).length)*P.bytesOf tn) (by rw [hyx];simp only [DataW.weights,T.row];exact List.mem_cons_self)
     rw [T.bn,List.length_map,hel] at this
     unfold reachBytes at this
     omega
    have hI:Inhabited (Nb × Tr):=⟨(⟨0,0,false,⟨#[]⟩,0,⟨#[]⟩,none,0,0,none,0,0,none,0,0⟩,⟨0,0,false,⟨#[]⟩,0,⟨#[]⟩,[],[],[]⟩)⟩
    obtain ⟨g,hg⟩:=Deep.choose_lt each
    refine ⟨some a,len,cap,(List.range len).map fun i=>(g i).2,rfl,by simp,⟨hl,hm,(fun h=>by cases h),hsz⟩,?_⟩
    by_cases h0:len=0
    ·left;subst h0;rfl
    ·right
     have hs:a.spot=none:=by
      have h1:=(hg 0 (by omega)).1 0 (by omega)
      rw [Nat.zero_mul] at h1
      unfold World.cell? Addr.add at h1
      simp only [if_true,Nb.cells,List.getElem?_cons_zero] at h1
      split at h1
      ·split at h1
       ·cases h1
       ·rename_i hsp; cases hh : a.spot with
        | none=>rfl
        | some _=>simp [hh] at hsp
      ·cases h1
     obtain ⟨b,off,sp⟩:=a
     obtain rfl:sp=none:=hs
     refine ⟨b,off,rfl,fun i hi=>?_⟩
     have hi':i<len:=by simpa using hi
     refine ⟨(g i).1,fun j hj=>?_,by simpa using (hg i hi').2⟩
     rw [←(hg i hi').1 j hj,Deep.add_add]
     congr 1
     unfold Addr.add
     split
     ·rename_i hz;rw [hz];rfl
     ·rfl
  obtain ⟨ak,lk,ck,lks,q7,hk⟩:=row e7 g7
  obtain ⟨ai,li,ci,lis,q8,hi⟩:=row e8 g8
  simp only [List.cons.injEq,and_true] at q0 q1 q2 q3 q4 q5 q6
  subst q0 q1 q2 q3 q4 q5 q6 q7 q8
  exact ⟨⟨kind,num,neg,dig,exp,txt,ab,lb,cb,ak,lk,ck,ai,li,ci⟩,⟨kind,num,neg,dig,exp,txt,zs,lks,lis⟩,rfl,⟨rfl,rfl,rfl,rfl,rfl,rfl⟩,⟨w0,w1,w4,w3,w5⟩,⟨hzl,hroom,hbytes⟩,hk,hi⟩
theorem open_nd_arg(T:NTypes P tn tk tb){r:Reach}{b0:Nat}{v:Value}{d:DataW H}{p:List MemPlace}(hv:Value.okWide P w r b0 tn v)(h:DataW.Trod enc P w 0 (fun _=>true) true tn v d p)(hw:∀ n∈d.weights P tn,n≤reachBytes) :
  ∃ (D:Nat) (b:Nb) (t:Tr),v=b.val∧Nd D w b t:=by
 obtain ⟨fs,hfs,_⟩:=T.node
 obtain ⟨cs,rfl,_⟩:=okWide_struct hfs hv
 obtain ⟨fuel,hf⟩:=h
 obtain ⟨b,t,hcs,hn⟩:=open_nd T fuel hf hw
 refine ⟨fuel,b,t,?_,hn⟩
 have:cs=b.cells.toArray:=by rw [←hcs];simp [Value.cells]
 rw [this];rfl
end
end Go.Proofs.YtejlaiofpekchaaGreatDoor
namespace Go.Proofs.YtejlaiofpekchaaGreatDoor
theorem ntypes:NTypes Tryz.prog 26 24 23 where
 node:=⟨_,Tryz.underlying26,rfl⟩
 row:=Tryz.underlying24
 bytes:=Tryz.underlying23
 u8:=Tryz.underlying5
 i64:=Tryz.underlying3
 u64:=Tryz.underlying22
 bool:=Tryz.underlying4
 string:=Tryz.underlying9
 cn:=by kernel_rfl
 bn:=by kernel_rfl
 b1:=by kernel_rfl
 cells:=⟨by kernel_rfl,by kernel_rfl,by kernel_rfl,by kernel_rfl,by kernel_rfl,by kernel_rfl,by kernel_rfl⟩
end Go.Proofs.YtejlaiofpekchaaGreatDoor
