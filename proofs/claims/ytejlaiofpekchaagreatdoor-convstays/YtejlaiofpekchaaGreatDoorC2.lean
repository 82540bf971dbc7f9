/-
  Rows of nodes: nine cells each; read, made, appended to.
  A node of a row, loaded whole, and written over in a row of the call's own.
  A tree in memory, and the blocks in which it lies: it stays as long as these blocks stay.
  A node by value in a box; worlds in which all but some blocks stay as they were.
  Which trees may be, as plain data: the fault of the first node that has one, and keys that stand twice.
  All nodes of a tree with their depths, in the order in which they are gone over; going over them as long as more is wanted; and what is told so: how many there are, how deep they lie, the first fault, keys that stand twice.
  Going over all nodes of a tree: tree.each, whatever it hands each node to.
  tree.each: the function to which nodes are handed wants no more at once.
  tree.each: it wants more.
  tree.each: it wants more.
  How many nodes a tree has, and how deep it is: tree.each put together, tree.measure, Few, Size, Deep.
-/
import Derived.Test.YtejlaiofpekchaaGreatDoorC1
import Derived.Deep.DeepAppendWide
import Derived.Laws.AppendOwnNone
import Derived.Laws.CopyRow
import Derived.Laws.CopyOwn
import Derived.Laws.Cells
import Derived.Shelf.Abstract
namespace Go.Proofs.YtejlaiofpekchaaGreatDoor
open Go.RowKit
set_option linter.unusedVariables false
def Cs(bs:List Nb):List Value:=bs.flatMap Nb.cells
theorem nb_nine(b:Nb):b.cells.length=9:=rfl
theorem cs_cons(b:Nb)(bs:List Nb):Cs (b::bs)=b.cells++Cs bs:=rfl
theorem cs_app(l m:List Nb):Cs (l++m)=Cs l++Cs m:=List.flatMap_append
theorem cs_len(bs:List Nb):(Cs bs).length=bs.length*9:=by
 induction bs with
 | nil=>rfl
 | cons b r ih=>rw [cs_cons,List.length_append,ih,nb_nine,List.length_cons];omega
theorem cs_get:∀ (bs:List Nb) {i j:Nat} (h:i<bs.length) (hj:j<9),(Cs bs)[i*9+j]? = (bs[i]).cells[j]? := by
 intro bs
 induction bs with
 | nil=>intro i j h;cases h
 | cons b r ih =>
  intro i j h hj
  rw [cs_cons]
  cases i with
  | zero=>rw [Nat.zero_mul,Nat.zero_add,List.getElem?_append_left (by rw [nb_nine];exact hj)];rfl
  | succ i =>
   rw [List.getElem?_append_right (by rw [nb_nine];omega),nb_nine,show (i+1)*9+j - 9=i*9+j by omega]
   exact ih (by simpa using h) hj
theorem cell_one(b:Nb):∀ u∈b.cells,u.oneCell'=true:=by
 intro u hu
 simp only [Nb.cells,List.mem_cons,List.not_mem_nil,or_false] at hu
 rcases hu with rfl | rfl | rfl | rfl | rfl | rfl | rfl | rfl | rfl <;> rfl
theorem cs_one(bs:List Nb):∀ u∈Cs bs,u.oneCell'=true:=by
 intro u hu
 obtain ⟨b,_,h⟩:=List.mem_flatMap.1 hu
 exact cell_one b u h
def Nine(w:World)(a:Option Addr)(bs:List Nb):Prop :=
 bs=[]∨∃ b off,a=some ⟨b,off,none⟩∧∀ i (h:i<bs.length) j,j<9→w.cell? ⟨b,off+(i*9+j),none⟩=(bs[i]).cells[j]?
theorem rowN_of{Q:Nb→Tr→Prop}{w:World}{a:Option Addr}{len cap:Nat}{l:List Tr}{bs:List Nb}(hb:Nine w a bs)(hlen:bs.length=l.length)(hn:l.length=len)(hr:Room 136 a len cap)
  (hq:∀ i (h:i<bs.length) (k:i<l.length),Q bs[i] l[i]):RowN Q w a len cap l:=by
 refine ⟨hn,hr,?_⟩
 rcases hb with rfl | ⟨b,off,ha,hc⟩
 ·exact .inl (List.eq_nil_of_length_eq_zero hlen.symm)
 ·exact .inr ⟨b,off,ha,fun i hi=>⟨bs[i]'(by omega),fun j hj=>hc i (by omega) j hj,hq i (by omega) hi⟩⟩
theorem Nine.news{w:World}{x:Addr}{bs:List Nb}(h:Nine w (some x) bs):∀ j u,(Cs bs)[j]? = some u→w.cell? (x.add j)=some u:=by
 intro j u hu
 rcases h with rfl | ⟨b,off,hx,hc⟩
 ·simp [Cs] at hu
 ·cases hx
  have hj:j<bs.length*9:=by
   have:=(List.getElem?_eq_some_iff.1 hu).1
   rwa [cs_len] at this
  have hi:j / 9<bs.length:=by omega
  have h1:=hc (j / 9) hi (j % 9) (Nat.mod_lt _ (by omega))
  have h2:=cs_get bs hi (Nat.mod_lt j (by omega))
  rw [show j / 9*9+j % 9=j by omega] at h1 h2
  have e:(⟨b,off,none⟩:Addr).add j=⟨b,off+j,none⟩:=by
   by_cases h0:j=0
   ·subst h0;simp [Addr.add]
   ·simp [Addr.add,h0]
  rw [e,h1,←h2,hu]
def OwnsN(tn:TypeId)(w:World)(base:Nat)(v:Value)(bs:List Nb):Prop:=w.ownsRow base tn 9 v bs.length (Cs bs)
section
variable {tn:TypeId}
theorem ownsN_nil(w:World)(base:Nat):OwnsN tn w base (.slice none 0 0) []:=World.ownsRow_nil w base tn 9
theorem OwnsN.shape{w:World}{base:Nat}{v:Value}{bs:List Nb}(h:OwnsN tn w base v bs) :
  ∃ a cap,v = .slice a bs.length cap∧(bs.length≤cap∧cap≤maxLen∧(a=none→cap=0))∧Nine w a bs∧(∀ x,a=some x→base≤x.block∧x.block<w.heap.size∧x.off=0∧x.spot=none):=by
 obtain ⟨hl,hv⟩:=h
 rcases hv with ⟨rfl,hn⟩ | ⟨g,cap,cur,rfl,hb,hg,hnc,hcm,hcs,htk⟩
 ·have h0 : bs = [] := List.eq_nil_of_length_eq_zero hn
  subst h0
  exact ⟨none,0,rfl,⟨Nat.le_refl _,Nat.zero_le _,fun _=>rfl⟩, .inl rfl,fun x hx=>by cases hx⟩
 ·refine ⟨some ⟨g, 0, none⟩, cap, rfl, ⟨hnc, hcm, fun hx => by cases hx⟩, .inr ⟨g, 0, rfl, fun i hi j hj => ?_⟩, ?_⟩
  ·rw [Nat.zero_add,cell_row hg,←Array.getElem?_toList,←cs_get bs hi hj,←htk,List.getElem?_take,if_pos (by omega)]
  ·intro x hx
   cases hx
   exact ⟨hb,(Array.getElem?_eq_some_iff.1 hg).1,rfl,rfl⟩
theorem OwnsN.below{w w':World}{base:Nat}{v:Value}{bs:List Nb}(h:OwnsN tn w base v bs)(hb:Below w.heap.size w w'):OwnsN tn w' base v bs :=
 World.ownsRow.kept (row:=none) h ⟨hb.os,hb.tape,hb.output,hb.size,fun k hk _=>hb.block k hk⟩ (by cases hv:v.ownBlock <;> simp)
theorem grownN_below{w w1 w2:World}{base:Nat}{v:Value}{bs:List Nb}(hb:Below base w w1)(h:OwnsN tn w1 base v bs)(hg:w1.grownBy w2 v.ownBlock)(hB:base≤w1.heap.size):Below base w w2 :=
 hb.grown hg hB fun k hk=>(World.ownsRow.lt h k hk).1
end
end Go.Proofs.YtejlaiofpekchaaGreatDoor
namespace Go.Proofs.YtejlaiofpekchaaGreatDoor
open Go.RowKit
set_option linter.unusedVariables false
section
variable {tn:TypeId}
end
end Go.Proofs.YtejlaiofpekchaaGreatDoor
namespace Go.Proofs.YtejlaiofpekchaaGreatDoor
open Go.RowKit
set_option linter.unusedVariables false
def In(S:Nat→Prop)(a:Option Addr)(len:Nat):Prop:=0<len→∀ x,a=some x→S x.block
theorem In.mono{S R:Nat→Prop}{a:Option Addr}{len:Nat}(h:In S a len)(hs:∀ k,S k→R k):In R a len:=fun h0 x hx=>hs _ (h h0 x hx)
def NdS(S:Nat→Prop):Nat→World→Nb→Tr→Prop
 | 0,_,_,_=>False
 | d+1,w,b,t=>(b.kind=t.kind∧b.num=t.num∧b.neg=t.neg∧b.dig=t.dig∧b.exp=t.exp∧b.txt=t.txt) ∧
  ((Lit.int .i64 t.kind).wf=true∧(Lit.int .u64 t.num).wf=true∧(Lit.int .i64 t.exp).wf=true∧t.dig.size≤140737488351232∧t.txt.size≤140737488351232) ∧
  (t.bytes.length=b.lb∧Room 1 b.ab b.lb b.cb∧Bytes w b.ab t.bytes) ∧
  (In S b.ab b.lb∧In S b.ak b.lk∧In S b.ai b.li) ∧
  RowN (NdS S d w) w b.ak b.lk b.ck t.keys∧RowN (NdS S d w) w b.ai b.li b.ci t.kids
theorem NdS.nd{S:Nat→Prop}:∀ {d:Nat} {w:World} {b:Nb} {t:Tr},NdS S d w b t→Nd d w b t:=by
 intro d
 induction d with
 | zero=>intro w b t h;exact h
 | succ d ih =>
  intro w b t h
  obtain ⟨h0,h1,h2,_,h3,h4⟩:=h
  exact ⟨h0,h1,h2,h3.mono fun _ _ _ q=>ih q,h4.mono fun _ _ _ q=>ih q⟩
theorem NdS.mono{S R:Nat→Prop}(hs:∀ k,S k→R k):∀ {d:Nat} {w:World} {b:Nb} {t:Tr},NdS S d w b t→NdS R d w b t:=by
 intro d
 induction d with
 | zero=>intro w b t h;exact h
 | succ d ih =>
  intro w b t h
  obtain ⟨h0,h1,h2,⟨i0,i1,i2⟩,h3,h4⟩:=h
  exact ⟨h0,h1,h2,⟨i0.mono hs,i1.mono hs,i2.mono hs⟩,h3.mono fun _ _ _ q=>ih q,h4.mono fun _ _ _ q=>ih q⟩
theorem ndS_succ{S:Nat→Prop}:∀ (d:Nat) {w:World} {b:Nb} {t:Tr},NdS S d w b t→NdS S (d+1) w b t:=by
 intro d
 induction d with
 | zero=>intro w b t h;exact absurd h id
 | succ d ih =>
  intro w b t h
  obtain ⟨h0,h1,h2,i,h3,h4⟩:=h
  exact ⟨h0,h1,h2,i,h3.mono fun _ _ _ q=>ih q,h4.mono fun _ _ _ q=>ih q⟩
theorem NdS.le{S:Nat→Prop}{d e:Nat}{w:World}{b:Nb}{t:Tr}(h:NdS S d w b t)(hle:d≤e):NdS S e w b t:=by
 induction hle with
 | refl=>exact h
 | step _ ih=>exact ndS_succ _ ih
theorem bytes_in{w:World}{a:Option Addr}{zs:List Int}(hb:Bytes w a zs):In (· < w.heap.size) a zs.length:=by
 intro h0 x hx
 rcases hb.2.2 with rfl | ⟨b,off,ha,hc⟩
 ·cases h0
 ·rw [ha] at hx
  cases hx
  exact some_block (hc 0 h0)
theorem RowN.in{Q:Nb→Tr→Prop}{w:World}{a:Option Addr}{len cap:Nat}{l:List Tr}(h:RowN Q w a len cap l):In (· < w.heap.size) a len:=by
 intro h0 x hx
 obtain ⟨hl,_,h2⟩:=h
 rcases h2 with rfl | ⟨b,off,ha,hc⟩
 ·rw [←hl] at h0;cases h0
 ·rw [ha] at hx
  cases hx
  obtain ⟨nb,hn,_⟩:=hc 0 (by omega)
  exact some_block ((hn 0 (by omega)).trans (List.getElem?_eq_getElem (by simp [Nb.cells])))
theorem Nd.all:∀ {d:Nat} {w:World} {b:Nb} {t:Tr},Nd d w b t→NdS (· < w.heap.size) d w b t:=by
 intro d
 induction d with
 | zero=>intro w b t h;exact h
 | succ d ih =>
  intro w b t h
  obtain ⟨h0,h1,h2,h3,h4⟩:=h
  exact ⟨h0,h1,h2,⟨by have:=bytes_in h2.2.2;rwa [h2.1] at this,h3.in,h4.in⟩,h3.mono fun _ _ _ q=>ih q,h4.mono fun _ _ _ q=>ih q⟩
theorem Bytes.stays{w w':World}{S:Nat→Prop}{a:Option Addr}{zs:List Int}(hb:Bytes w a zs)(hi:In S a zs.length)(h:∀ k,S k→w'.heap[k]? = w.heap[k]?):Bytes w' a zs:=by
 obtain ⟨h0,h1,h2⟩:=hb
 refine ⟨h0,h1,?_⟩
 rcases h2 with h2 | ⟨b,off,rfl,hc⟩
 ·exact .inl h2
 ·refine .inr ⟨b, off, rfl, fun i hi' => ?_⟩
  rw [World.cell?_of_block (w:=w) (a:=⟨b,off+i,none⟩) (h b (hi (by omega) _ rfl))]
  exact hc i hi'
theorem RowN.stays{Q R:Nb→Tr→Prop}{S:Nat→Prop}{w w':World}{a:Option Addr}{len cap:Nat}{l:List Tr}(h:RowN Q w a len cap l)(hi:In S a len)(hb:∀ k,S k→w'.heap[k]? = w.heap[k]?)(hq:∀ b t,t∈l→Q b t→R b t):RowN R w' a len cap l:=by
 obtain ⟨h0,h1,h2⟩:=h
 refine ⟨h0,h1,?_⟩
 rcases h2 with h2 | ⟨b,off,ha,hc⟩
 ·exact .inl h2
 ·refine .inr ⟨b, off, ha, fun i hi' => ?_⟩
  obtain ⟨nb,hn,hQ⟩:=hc i hi'
  refine ⟨nb,fun j hj=>?_,hq _ _ (List.getElem_mem hi') hQ⟩
  rw [World.cell?_of_block (w:=w) (a:=⟨b,off+(i*9+j),none⟩) (hb b (hi (by omega) _ ha))]
  exact hn j hj
theorem NdS.stays{S:Nat→Prop}:∀ {d:Nat} {w w':World} {b:Nb} {t:Tr},NdS S d w b t→(∀ k,S k→w'.heap[k]? = w.heap[k]?)→NdS S d w' b t:=by
 intro d
 induction d with
 | zero=>intro w w' b t h _;exact h
 | succ d ih =>
  intro w w' b t h hb
  obtain ⟨h0,h1,⟨h2,h2',h2''⟩,⟨i0,i1,i2⟩,h3,h4⟩:=h
  exact ⟨h0,h1,⟨h2,h2',h2''.stays (by rw [h2];exact i0) hb⟩,⟨i0,i1,i2⟩,h3.stays i1 hb fun _ _ _ q=>ih q hb,h4.stays i2 hb fun _ _ _ q=>ih q hb⟩
theorem NdS.below{S:Nat→Prop}{B:Nat}{d:Nat}{w w':World}{b:Nb}{t:Tr}(h:NdS S d w b t)(hb:Below B w w')(hS:∀ k,S k→k<B):NdS S d w' b t:=h.stays fun k hk=>hb.block k (hS k hk)
def FrB(w:World)(a:Option Addr)(len:Nat)(f:List Nat):Prop :=
 (len=0∧f=[])∨∃ g cur,a=some ⟨g,0,none⟩∧f=[g]∧w.heap[g]? = some (.cells cur 5 (0,0))∧len≤cur.size∧∀ i,i<len→∃ c:Int,cur[i]? = some (.int .u8 c)∧0≤c∧c<256
def FrR(tn:TypeId)(Q:Nb→List Nat→Prop)(w:World)(a:Option Addr)(len:Nat)(f:List Nat):Prop :=
 (len = 0 ∧ f = []) ∨ ∃ g cur fs, a = some ⟨g, 0, none⟩ ∧ f = g :: List.flatten fs ∧ w.heap[g]? = some (.cells cur tn (0, 0)) ∧ len * 9 ≤ cur.size ∧ fs.length = len ∧
  ∀ i (h:i<fs.length),∃ nb:Nb,(∀ j,j<9→cur[i*9+j]? = nb.cells[j]?)∧Q nb fs[i]
def FrD(tn:TypeId):Nat→World→Nb→List Nat→Prop
 | 0,_,_,_=>False
 | d+1,w,b,f=>∃ f0 f1 f2,f=f0++(f1++f2)∧(b.lb≤b.cb∧b.lk≤b.ck∧b.li≤b.ci∧b.cb≤maxLen∧b.ck≤maxLen∧b.ci≤maxLen)∧FrB w b.ab b.lb f0∧FrR tn (FrD tn d w) w b.ak b.lk f1∧FrR tn (FrD tn d w) w b.ai b.li f2
theorem FrB.stays{w w':World}{a:Option Addr}{len:Nat}{f:List Nat}(h:FrB w a len f)(hb:∀ k,k∈f→w'.heap[k]? = w.heap[k]?):FrB w' a len f:=by
 rcases h with h | ⟨g,cur,ha,hf,hg,hr⟩
 ·exact .inl h
 ·exact .inr ⟨g,cur,ha,hf,by rw [hb g (by rw [hf];exact List.mem_cons_self)];exact hg,hr⟩
theorem FrR.stays{tn:TypeId}{Q R:Nb→List Nat→Prop}{w w':World}{a:Option Addr}{len:Nat}{f:List Nat}(h:FrR tn Q w a len f)(hb:∀ k,k∈f→w'.heap[k]? = w.heap[k]?)(hq:∀ b e,(∀ k,k∈e→k∈f)→Q b e→R b e):FrR tn R w' a len f:=by
 rcases h with h | ⟨g,cur,fs,ha,hf,hg,hl,hfl,hr⟩
 ·exact .inl h
 ·refine .inr ⟨g, cur, fs, ha, hf, by rw [hb g (by rw [hf]; exact List.mem_cons_self)]; exact hg, hl, hfl, fun i hi => ?_⟩
  obtain ⟨nb,h1,h2⟩:=hr i hi
  refine ⟨nb,h1,hq _ _ (fun k hk=>?_) h2⟩
  rw [hf]
  exact List.mem_cons_of_mem _ (List.mem_flatten.2 ⟨_,List.getElem_mem hi,hk⟩)
theorem FrD.stays{tn:TypeId}:∀ {d:Nat} {w w':World} {b:Nb} {f:List Nat},FrD tn d w b f→(∀ k,k∈f→w'.heap[k]? = w.heap[k]?)→FrD tn d w' b f:=by
 intro d
 induction d with
 | zero=>intro w w' b f h _;exact h
 | succ d ih =>
  intro w w' b f h hb
  obtain ⟨f0,f1,f2,hf,hc,h0,h1,h2⟩:=h
  have m0:∀ k,k∈f0→k∈f:=fun k hk=>by rw [hf];exact List.mem_append_left _ hk
  have m1:∀ k,k∈f1→k∈f:=fun k hk=>by rw [hf];exact List.mem_append_right _ (List.mem_append_left _ hk)
  have m2:∀ k,k∈f2→k∈f:=fun k hk=>by rw [hf];exact List.mem_append_right _ (List.mem_append_right _ hk)
  exact ⟨f0,f1,f2,hf,hc,h0.stays fun k hk=>hb k (m0 k hk),h1.stays (fun k hk=>hb k (m1 k hk)) fun _ e he q=>ih q fun k hk=>hb k (m1 k (he k hk)),h2.stays (fun k hk=>hb k (m2 k hk)) fun _ e he q=>ih q fun k hk=>hb k (m2 k (he k hk))⟩
theorem FrR.mono{tn:TypeId}{Q R:Nb→List Nat→Prop}{w:World}{a:Option Addr}{len:Nat}{f:List Nat}(h:FrR tn Q w a len f)(hq:∀ b e,Q b e→R b e):FrR tn R w a len f:=h.stays (fun _ _=>rfl) fun _ _ _ q=>hq _ _ q
theorem frD_succ{tn:TypeId}:∀ (d:Nat) {w:World} {b:Nb} {f:List Nat},FrD tn d w b f→FrD tn (d+1) w b f:=by
 intro d
 induction d with
 | zero=>intro w b f h;exact absurd h id
 | succ d ih =>
  intro w b f h
  obtain ⟨f0,f1,f2,hf,hc,h0,h1,h2⟩:=h
  exact ⟨f0,f1,f2,hf,hc,h0,h1.mono fun _ _ q=>ih q,h2.mono fun _ _ q=>ih q⟩
end Go.Proofs.YtejlaiofpekchaaGreatDoor
namespace Go.Proofs.YtejlaiofpekchaaGreatDoor
open Go.RowKit
set_option linter.unusedVariables false
def Nb.arr(b:Nb):Array Value:=#[.int .i64 b.kind, .int .u64 b.num, .bool b.neg, .string b.dig, .int .i64 b.exp, .string b.txt, .slice b.ab b.lb b.cb, .slice b.ak b.lk b.ck, .slice b.ai b.li b.ci]
theorem Nb.arr_eq(b:Nb):b.arr=b.cells.toArray:=rfl
def NBox(w:World)(g:Nat)(b:Nb):Prop:=w.heap[g]? = some (.cells b.arr 26 (0,0))
theorem NBox.lt{w:World}{g:Nat}{b:Nb}(h:NBox w g b):g<w.heap.size:=(Array.getElem?_eq_some_iff.1 h).1
theorem NBox.cell{w:World}{g:Nat}{b:Nb}(h:NBox w g b)(j:Nat):w.cell? ⟨g,j,none⟩=b.cells[j]? := by
 rw [cell_row h,Nb.arr_eq];simp
theorem NBox.fz{w:World}{g:Nat}{b:Nb}(h:NBox w g b)(j:Nat):w.frozen? ⟨g,j,none⟩=false:=by
 unfold NBox at h
 simp [World.frozen?,h]
theorem NBox.same{w w':World}{g:Nat}{b:Nb}(h:NBox w g b)(hb:w'.heap[g]? = w.heap[g]?):NBox w' g b:=by
 unfold NBox;rw [hb];exact h
theorem NBox.kept{w w':World}{g B:Nat}{b:Nb}(h:NBox w g b)(hb:Below B w w')(hg:g<B):NBox w' g b:=h.same (hb.block g hg)
theorem nbox_new(w:World)(b:Nb):NBox (w.alloc (.cells b.arr 26)) w.heap.size b:=heap_alloc_new w _
theorem NBox.fields{w:World}{g:Nat}{b:Nb}(h:NBox w g b) :
  w.cell? ⟨g,0,none⟩=some (.int .i64 b.kind)∧w.cell? ⟨g,1,none⟩=some (.int .u64 b.num)∧w.cell? ⟨g,2,none⟩=some (.bool b.neg)∧w.cell? ⟨g,3,none⟩=some (.string b.dig)∧w.cell? ⟨g,4,none⟩=some (.int .i64 b.exp)∧w.cell? ⟨g,5,none⟩=some (.string b.txt)∧w.cell? ⟨g,6,none⟩=some (.slice b.ab b.lb b.cb)∧w.cell? ⟨g,7,none⟩=some (.slice b.ak b.lk b.ck)∧w.cell? ⟨g,8,none⟩=some (.slice b.ai b.li b.ci) :=
 ⟨h.cell 0,h.cell 1,h.cell 2,h.cell 3,h.cell 4,h.cell 5,h.cell 6,h.cell 7,h.cell 8⟩
theorem elem_fields{w:World}{b off:Nat}{nb:Nb}{i:Nat}(h:∀ j,j<9→w.cell? ⟨b,off+(i*9+j),none⟩=nb.cells[j]?) :
  w.cell? ⟨b,off+i*9,none⟩=some (.int .i64 nb.kind)∧w.cell? ⟨b,off+i*9+1,none⟩=some (.int .u64 nb.num)∧w.cell? ⟨b,off+i*9+2,none⟩=some (.bool nb.neg)∧w.cell? ⟨b,off+i*9+3,none⟩=some (.string nb.dig)∧w.cell? ⟨b,off+i*9+4,none⟩=some (.int .i64 nb.exp)∧w.cell? ⟨b,off+i*9+5,none⟩=some (.string nb.txt)∧w.cell? ⟨b,off+i*9+6,none⟩=some (.slice nb.ab nb.lb nb.cb)∧w.cell? ⟨b,off+i*9+7,none⟩=some (.slice nb.ak nb.lk nb.ck)∧w.cell? ⟨b,off+i*9+8,none⟩=some (.slice nb.ai nb.li nb.ci) :=
 ⟨h 0 (by omega),h 1 (by omega),h 2 (by omega),h 3 (by omega),h 4 (by omega),h 5 (by omega),h 6 (by omega),h 7 (by omega),h 8 (by omega)⟩
structure Kp(C:Nat→Prop)(w w':World):Prop where
 os:w'.os=w.os
 tape:w'.tape=w.tape
 output:w'.output=w.output
 size:w.heap.size≤w'.heap.size
 block:∀ k,k<w.heap.size→¬ C k→w'.heap[k]? = w.heap[k]?
theorem Kp.refl(C:Nat→Prop)(w:World):Kp C w w:=⟨rfl,rfl,rfl,Nat.le_refl _,fun _ _ _=>rfl⟩
theorem Kp.trans{C:Nat→Prop}{a b c:World}(h:Kp C a b)(k:Kp C b c):Kp C a c :=
 ⟨k.os.trans h.os,k.tape.trans h.tape,k.output.trans h.output,Nat.le_trans h.size k.size,fun i hi hc=>(k.block i (Nat.lt_of_lt_of_le hi h.size) hc).trans (h.block i hi hc)⟩
theorem Kp.of{C:Nat→Prop}{w w':World}(h:Below w.heap.size w w'):Kp C w w':=⟨h.os,h.tape,h.output,h.size,fun k hk _=>h.block k hk⟩
theorem Kp.below{C:Nat→Prop}{B:Nat}{w w':World}(h:Kp C w w')(hB:B≤w.heap.size)(hC:∀ k,C k→B≤k):Below B w w' :=
 ⟨h.os,h.tape,h.output,h.size,fun k hk=>h.block k (by omega) fun hc=>by have:=hC k hc;omega⟩
theorem Kp.none{w w':World}(h:Kp (fun _=>False) w w'):Below w.heap.size w w':=h.below (Nat.le_refl _) (fun _ hc=>hc.elim)
theorem alloc_lt(w:World)(o:Obj):w.heap.size<(w.alloc o).heap.size:=by simp
theorem alloc_below(w:World)(o:Obj):Below w.heap.size w (w.alloc o):=(Below.refl _ _).alloc (Nat.le_refl _) o
theorem box_below{w w':World}{o:Obj}(h:Below (w.alloc o).heap.size (w.alloc o) w'):Below w.heap.size w w':=(alloc_below w o).trans (h.mono (Nat.le_of_lt (alloc_lt w o)))
end Go.Proofs.YtejlaiofpekchaaGreatDoor
namespace Go.Proofs.YtejlaiofpekchaaGreatDoor
set_option linter.unusedVariables false
namespace Tr
def firstE:List Int→Int
 | []=>0
 | e::l=>if e=0 then firstE l else e
theorem firstE_zero(l:List Int):firstE (0::l)=firstE l:=rfl
theorem firstE_not{e:Int}(l:List Int)(h:e≠0):firstE (e::l)=e:=if_neg h
theorem firstE_app(l m:List Int):firstE (l++m)=if firstE l=0 then firstE m else firstE l:=by
 induction l with
 | nil=>rfl
 | cons e l ih =>
  by_cases h:e=0
  ·subst h;rw [List.cons_append,firstE_zero,firstE_zero,ih]
  ·rw [List.cons_append,firstE_not _ h,firstE_not _ h,if_neg h]
theorem firstE_iff(l:List Int):firstE l=0 ↔ ∀ e∈l,e=0:=by
 induction l with
 | nil=>simp [firstE]
 | cons e l ih =>
  by_cases h:e=0
  ·subst h;rw [firstE_zero,ih];simp
  ·rw [firstE_not _ h];simp [h]
theorem firstE_flat(l:List (List Int)):firstE l.flatten=firstE (l.map firstE):=by
 induction l with
 | nil=>rfl
 | cons a l ih =>
  rw [List.flatten_cons,firstE_app,ih,List.map_cons]
  by_cases h:firstE a=0
  ·rw [if_pos h,h,firstE_zero]
  ·rw [if_neg h,firstE_not _ h]
def inter{α : Type}:List α → List α → List α
 | a::l,b::m=>a::b::inter l m
 | _,_=>[]
theorem inter_map{α β : Type}(f:α → β):∀ l m:List α,(inter l m).map f=inter (l.map f) (m.map f):=by
 intro l
 induction l with
 | nil=>intro m;rfl
 | cons a l ih =>
  intro m
  cases m with
  | nil=>rfl
  | cons b m=>simp only [inter,List.map_cons,ih]
theorem inter_mem{α : Type}:∀ l m:List α,l.length=m.length→∀ x,x∈inter l m ↔ x∈l∨x∈m:=by
 intro l
 induction l with
 | nil =>
  intro m h x
  have:m=[]:=List.eq_nil_of_length_eq_zero h.symm
  subst this
  simp [inter]
 | cons a l ih =>
  intro m h x
  cases m with
  | nil=>cases h
  | cons b m =>
   simp only [inter,List.mem_cons,ih m (by simpa using h)]
   constructor
   ·rintro (h | h | h | h)
    ·exact .inl (.inl h)
    ·exact .inr (.inl h)
    ·exact .inl (.inr h)
    ·exact .inr (.inr h)
   ·rintro ((h | h) | (h | h))
    ·exact .inl h
    ·exact .inr (.inr (.inl h))
    ·exact .inr (.inl h)
    ·exact .inr (.inr (.inr h))
theorem inter_sub{α : Type}:∀ l m:List α,∀ x,x∈inter l m→x∈l∨x∈m:=by
 intro l
 induction l with
 | nil=>intro m x h;simp [inter] at h
 | cons a l ih =>
  intro m x h
  cases m with
  | nil=>simp [inter] at h
  | cons b m =>
   simp only [inter,List.mem_cons] at h
   rcases h with rfl | rfl | h
   ·exact .inl List.mem_cons_self
   ·exact .inr List.mem_cons_self
   ·rcases ih m x h with h | h
    ·exact .inl (List.mem_cons_of_mem _ h)
    ·exact .inr (List.mem_cons_of_mem _ h)
theorem inter_snoc{α : Type}:∀ (l m:List α) {i:Nat} (h:i<l.length) (k:i<m.length),inter (l.take (i+1)) (m.take (i+1))=inter (l.take i) (m.take i)++[l[i],m[i]]:=by
 intro l
 induction l with
 | nil=>intro m i h;cases h
 | cons a l ih =>
  intro m i h k
  cases m with
  | nil=>cases k
  | cons b m =>
   cases i with
   | zero=>simp [inter]
   | succ i =>
    have:=ih m (i:=i) (by simpa using h) (by simpa using k)
    simp only [List.take_succ_cons,inter,this,List.cons_append,List.getElem_cons_succ]
def steps(t:Tr):List Tr:=if t.kind=8 then inter t.keys t.kids else t.kids
def forms(al:Tr→Int):Tr→Int
 | ⟨k,b,c,d,e,f,g,keys,kids⟩=>firstE (al ⟨k,b,c,d,e,f,g,keys,kids⟩::(if k=8 then inter (keys.map (forms al)) (kids.map (forms al)) else kids.map (forms al)))
theorem forms_eq(al:Tr→Int)(t:Tr):t.forms al=firstE (al t::t.steps.map (forms al)):=by
 cases t
 rw [forms]
 unfold steps
 split
 ·rw [inter_map]
 ·rfl
def pre:Tr→List Tr
 | ⟨k,b,c,d,e,f,g,keys,kids⟩=>⟨k,b,c,d,e,f,g,keys,kids⟩::(if k=8 then inter (keys.map pre) (kids.map pre) else kids.map pre).flatten
theorem steps_sub{t u:Tr}(h:u∈t.steps):u∈t.keys∨u∈t.kids:=by
 unfold steps at h
 split at h
 ·exact inter_sub _ _ _ h
 ·exact .inr h
def Shaped(al:Tr→Int):Prop:=∀ t:Tr,al t=0→(t.kind=8→t.keys.length=t.kids.length)∧(t.kind≠8→t.keys=[])
theorem forms_zero{al:Tr→Int}(hs:Shaped al)(t:Tr):t.forms al=0 ↔ t.All (fun u=>al u=0):=by
 induction t using ind with
 | h t hk hi =>
  rw [forms_eq,all_eq,firstE_iff]
  constructor
  ·intro h
   have h0:al t=0:=h _ List.mem_cons_self
   have h1:∀ u∈t.steps,u.forms al=0:=fun u hu=>h _ (List.mem_cons_of_mem _ (List.mem_map.2 ⟨u,hu,rfl⟩))
   refine ⟨h0,fun k hm=>?_,fun k hm=>?_⟩
   ·refine (hk k hm).1 (h1 k ?_)
    unfold steps
    split
    ·rename_i h8;exact (inter_mem _ _ ((hs t h0).1 h8) _).2 (.inl hm)
    ·rename_i h8;rw [(hs t h0).2 h8] at hm;cases hm
   ·refine (hi k hm).1 (h1 k ?_)
    unfold steps
    split
    ·rename_i h8;exact (inter_mem _ _ ((hs t h0).1 h8) _).2 (.inr hm)
    ·exact hm
  ·rintro ⟨h0, h1, h2⟩ e he
   rcases List.mem_cons.1 he with rfl | he
   ·exact h0
   ·obtain ⟨u, hu, rfl⟩ := List.mem_map.1 he
    rcases steps_sub hu with h | h
    ·exact (hk u h).2 (h1 u h)
    ·exact (hi u h).2 (h2 u h)
def ChkIs(al:Tr→Int)(t:Tr)(e:Int):Prop :=
 (1024<t.size∧e=8)∨(t.size≤1024∧24<t.deep∧e=7)∨(t.size≤1024∧t.deep≤24∧t.forms al≠0∧e=t.forms al) ∨
 (t.size≤1024∧t.deep≤24∧t.forms al=0∧¬ t.All (fun u=>u.keys.Nodup)∧e=9)∨(t.size≤1024∧t.deep≤24∧t.forms al=0∧t.All (fun u=>u.keys.Nodup)∧e=0)
theorem chk_one{al:Tr→Int}{t:Tr}{e e':Int}(h:ChkIs al t e)(k:ChkIs al t e'):e=e':=by
 rcases h with ⟨a,rfl⟩ | ⟨a,b,rfl⟩ | ⟨a,b,c,rfl⟩ | ⟨a,b,c,d,rfl⟩ | ⟨a,b,c,d,rfl⟩ <;>
 rcases k with ⟨a',rfl⟩ | ⟨a',b',rfl⟩ | ⟨a',b',c',rfl⟩ | ⟨a',b',c',d',rfl⟩ | ⟨a',b',c',d',rfl⟩ <;>
 first
 | rfl
 | omega
 | exact absurd c c'
 | exact absurd c' c
 | exact absurd d d'
 | exact absurd d' d
theorem chk_may{al:Tr→Int}(hs:Shaped al){t:Tr}:ChkIs al t 0 ↔ t.May (fun u=>al u=0):=by
 constructor
 ·rintro (⟨_, h⟩ | ⟨_, _, h⟩ | ⟨_, _, c, h⟩ | ⟨_, _, _, _, h⟩ | ⟨a, b, c, d, _⟩)
  ·exact absurd h (by decide)
  ·exact absurd h (by decide)
  ·exact absurd h.symm c
  ·exact absurd h (by decide)
  ·exact ⟨a,b,(forms_zero hs t).1 c,d⟩
 ·rintro ⟨a, b, c, d⟩
  exact .inr (.inr (.inr (.inr ⟨a,b,(forms_zero hs t).2 c,d,rfl⟩)))
end Tr
end Go.Proofs.YtejlaiofpekchaaGreatDoor
namespace Go.Proofs.YtejlaiofpekchaaGreatDoor
set_option linter.unusedVariables false
namespace Tr
def alt{α : Type}:List α → List α → List α
 | [],m=>m
 | a::l,[]=>a::l
 | a::l,b::m=>a::b::alt l m
theorem alt_nil{α : Type}(l:List α):alt l []=l:=by cases l <;> rfl
theorem alt_mem{α : Type}(x:α):∀ l m:List α,x∈alt l m ↔ x∈l∨x∈m:=by
 intro l
 induction l with
 | nil=>intro m;simp [alt]
 | cons a l ih =>
  intro m
  cases m with
  | nil=>simp [alt]
  | cons b m =>
   simp only [alt,List.mem_cons,ih]
   constructor
   ·rintro (h | h | h | h)
    ·exact .inl (.inl h)
    ·exact .inr (.inl h)
    ·exact .inl (.inr h)
    ·exact .inr (.inr h)
   ·rintro ((h | h) | (h | h))
    ·exact .inl h
    ·exact .inr (.inr (.inl h))
    ·exact .inr (.inl h)
    ·exact .inr (.inr (.inr h))
theorem alt_map{α β : Type}(f:α → β):∀ l m:List α,(alt l m).map f=alt (l.map f) (m.map f):=by
 intro l
 induction l with
 | nil=>intro m;rfl
 | cons a l ih =>
  intro m
  cases m with
  | nil=>rfl
  | cons b m=>simp only [alt,List.map_cons,ih]
theorem alt_inter{α : Type}:∀ l m:List α,l.length=m.length→alt l m=inter l m:=by
 intro l
 induction l with
 | nil=>intro m h;cases m with | nil=>rfl | cons b m=>cases h
 | cons a l ih =>
  intro m h
  cases m with
  | nil=>cases h
  | cons b m=>simp only [alt,inter,ih m (by simpa using h)]
theorem alt_sum:∀ l m:List Nat,(alt l m).sum=l.sum+m.sum:=by
 intro l
 induction l with
 | nil=>intro m;simp [alt]
 | cons a l ih =>
  intro m
  cases m with
  | nil=>simp [alt]
  | cons b m=>simp only [alt,List.sum_cons,ih];omega
def oneAt{α : Type}(l:List α)(i:Nat):List α := match l[i]? with | some x=>[x] | none=>[]
theorem oneAt_lt{α : Type}{l:List α}{i:Nat}(h:i<l.length):oneAt l i=[l[i]]:=by unfold oneAt;rw [List.getElem?_eq_getElem h]
theorem oneAt_ge{α : Type}{l:List α}{i:Nat}(h:l.length≤i):oneAt l i=[]:=by unfold oneAt;rw [List.getElem?_eq_none h]
theorem alt_drop{α : Type}:∀ (i:Nat) (l m:List α),alt (l.drop i) (m.drop i)=oneAt l i++(oneAt m i++alt (l.drop (i+1)) (m.drop (i+1))):=by
 intro i
 induction i with
 | zero =>
  intro l m
  cases l with
  | nil=>cases m with
   | nil=>rfl
   | cons b m=>simp [alt,oneAt]
  | cons a l=>cases m with
   | nil=>simp [oneAt,alt_nil]
   | cons b m=>simp [alt,oneAt]
 | succ i ih =>
  intro l m
  have e:∀ (x:List α),oneAt x (i+1)=oneAt x.tail i:=by intro x;cases x <;> simp [oneAt]
  have d:∀ (x:List α) (k:Nat),x.drop (k+1)=x.tail.drop k:=by intro x k;cases x <;> simp
  rw [e,e,d,d,ih,d l (i+1),d m (i+1)]
def seq:Tr→Nat→List (Tr × Nat)
 | ⟨k,b,c,d,e,f,g,keys,kids⟩,n=>(⟨k,b,c,d,e,f,g,keys,kids⟩,n)::(alt (keys.map fun u=>seq u (n+1)) (kids.map fun u=>seq u (n+1))).flatten
theorem seq_eq(t:Tr)(n:Nat):t.seq n=(t,n)::(alt (t.keys.map fun u=>seq u (n+1)) (t.kids.map fun u=>seq u (n+1))).flatten:=by
 cases t;rw [seq]
def seqs(l:List Tr)(n:Nat):List (Tr × Nat):=(l.map fun u=>seq u n).flatten
theorem seq_alt(t:Tr)(n:Nat):t.seq n=(t,n)::seqs (alt t.keys t.kids) (n+1):=by
 rw [seq_eq,seqs,alt_map]
theorem seqs_app(l m:List Tr)(n:Nat):seqs (l++m) n=seqs l n++seqs m n:=by simp [seqs]
theorem seqs_one(t:Tr)(n:Nat):seqs [t] n=seq t n:=by simp [seqs]
theorem seq_len(t:Tr):∀ n,(t.seq n).length=t.size:=by
 induction t using ind with
 | h t hk hi =>
  intro n
  rw [seq_eq,List.length_cons,List.length_flatten,alt_map,alt_sum,size_eq,sizes,sizes,List.map_map,List.map_map]
  have a:t.keys.map (List.length ∘ fun u=>seq u (n+1))=t.keys.map size:=List.map_congr_left fun u hu=>hk u hu _
  have b:t.kids.map (List.length ∘ fun u=>seq u (n+1))=t.kids.map size:=List.map_congr_left fun u hu=>hi u hu _
  rw [a,b];omega
theorem foldl_max_app(l m:List Nat):(l++m).foldl max 0=max (l.foldl max 0) (m.foldl max 0):=by
 have:∀ (m:List Nat) (a:Nat),m.foldl max a=max a (m.foldl max 0):=by
  intro m
  induction m with
  | nil=>intro a;simp
  | cons x m ih=>intro a;rw [List.foldl_cons,ih,List.foldl_cons,ih (max 0 x)];omega
 rw [List.foldl_append,this m]
theorem mx_app(l m:List Nat):mx (l++m)=max (mx l) (mx m):=foldl_max_app l m
theorem mx_cons(a:Nat)(m:List Nat):mx (a::m)=max a (mx m):=by
 have:=mx_app [a] m
 simpa [mx] using this
theorem mx_flat(l:List (List Nat)):mx l.flatten=mx (l.map mx):=by
 induction l with
 | nil=>rfl
 | cons a l ih=>rw [List.flatten_cons,mx_app,ih,List.map_cons,mx_cons]
theorem mx_alt:∀ l m:List Nat,mx (alt l m)=max (mx l) (mx m):=by
 intro l
 induction l with
 | nil=>intro m;simp [alt,mx]
 | cons a l ih =>
  intro m
  cases m with
  | nil=>simp [alt,mx]
  | cons b m=>simp only [alt,mx_cons,ih];omega
theorem mx_addL(n:Nat):∀ l:List Nat,l≠[]→mx (l.map (n+·))=n+mx l:=by
 intro l
 induction l with
 | nil=>intro h;exact absurd rfl h
 | cons a l ih =>
  intro _
  rw [List.map_cons,mx_cons,mx_cons]
  cases l with
  | nil=>simp [mx]
  | cons b l=>rw [ih (by simp)];omega
theorem seq_deep(t:Tr):∀ n,mx ((t.seq (n+1)).map Prod.snd)=n+t.deep:=by
 induction t using ind with
 | h t hk hi =>
  intro n
  rw [seq_eq,List.map_cons,mx_cons,List.map_flatten,mx_flat,List.map_map,alt_map,mx_alt,List.map_map,List.map_map,deep_eq]
  have a:t.keys.map ((mx ∘ List.map Prod.snd) ∘ fun u=>seq u (n+1+1))=(t.keys.map deep).map ((n+1)+·):=by
   rw [List.map_map];exact List.map_congr_left fun u hu=>hk u hu (n+1)
  have b:t.kids.map ((mx ∘ List.map Prod.snd) ∘ fun u=>seq u (n+1+1))=(t.kids.map deep).map ((n+1)+·):=by
   rw [List.map_map];exact List.map_congr_left fun u hu=>hi u hu (n+1)
  rw [a,b]
  show max (n+1) _=_
  unfold deeps
  by_cases h1:t.keys.map deep=[]
  ·by_cases h2 : t.kids.map deep = []
   ·rw [h1,h2];simp [mx]
   ·rw [h1,mx_addL _ _ h2];simp [mx];omega
  ·by_cases h2 : t.kids.map deep = []
   ·rw [h2,mx_addL _ _ h1];simp [mx];omega
   ·rw [mx_addL _ _ h1,mx_addL _ _ h2];omega
def go{σ : Type}(f:Tr→Nat→σ → Bool × σ):List (Tr × Nat)→σ → Bool × σ
 | [],s=>(true,s)
 | x::l,s=>if (f x.1 x.2 s).1=true then go f l (f x.1 x.2 s).2 else (false,(f x.1 x.2 s).2)
theorem go_cons{σ : Type}(f:Tr→Nat→σ → Bool × σ)(x:Tr × Nat)(l:List (Tr × Nat))(s:σ):go f (x::l) s=if (f x.1 x.2 s).1=true then go f l (f x.1 x.2 s).2 else (false,(f x.1 x.2 s).2):=rfl
theorem go_app{σ : Type}(f:Tr→Nat→σ → Bool × σ)(m:List (Tr × Nat)):∀ (l:List (Tr × Nat)) (s:σ),go f (l++m) s=if (go f l s).1=true then go f m (go f l s).2 else go f l s:=by
 intro l
 induction l with
 | nil=>intro s;simp [go]
 | cons x l ih =>
  intro s
  rw [List.cons_append,go_cons,go_cons]
  by_cases h:(f x.1 x.2 s).1=true
  ·rw [if_pos h,if_pos h,ih]
  ·rw [if_neg h,if_neg h];simp
def meas(_:Tr)(d:Nat)(s:Nat × Nat):Bool × (Nat × Nat):=(decide (s.1+1≤1024),(s.1+1,max s.2 d))
theorem meas_go:∀ (l:List (Tr × Nat)) (a b:Nat),a≤1024→go meas l (a,b)=if a+l.length≤1024 then (true,(a+l.length,max b (mx (l.map Prod.snd)))) else (false,(go meas l (a,b)).2):=by
 intro l
 induction l with
 | nil=>intro a b ha;simp [go,mx,ha]
 | cons x l ih =>
  intro a b ha
  rw [go_cons]
  simp only [meas,List.length_cons,List.map_cons,mx_cons]
  by_cases h:a+1≤1024
  ·simp only [h, decide_true, if_true]
   rw [ih (a+1) (max b x.2) h]
   by_cases h2:a+1+l.length≤1024
   ·rw [if_pos h2, if_pos (by omega)]
    simp only [Prod.mk.injEq,true_and]
    exact ⟨by omega,by omega⟩
   ·rw [if_neg h2,if_neg (by omega)]
  ·have e : ¬ (a + (l.length + 1) ≤ 1024) := by omega
   rw [if_neg e]
   simp [h]
def mes(t:Tr):Nat × Nat:=if t.size≤1024 then (t.size,t.deep) else (1025,1025)
theorem meas_all(t:Tr):(go meas (t.seq 1) (0,0)).1=decide (t.size≤1024)∧(t.size≤1024→(go meas (t.seq 1) (0,0)).2=(t.size,t.deep)):=by
 rw [meas_go _ _ _ (by omega),seq_len,seq_deep t 0]
 by_cases h:t.size≤1024
 ·rw [if_pos (by omega)]
  refine ⟨by simp [h],fun _=>?_⟩
  simp
 ·rw [if_neg (by omega)]
  exact ⟨by simp [h],fun h'=>absurd h' h⟩
def flt(al:Tr→Int)(t:Tr)(_:Nat)(_:Int):Bool × Int:=(decide (al t=0),al t)
theorem flt_go(al:Tr→Int):∀ (l:List (Tr × Nat)),(go (flt al) l 0).2=firstE (l.map fun x=>al x.1):=by
 have:∀ (l:List (Tr × Nat)) (s:Int),s=0→(go (flt al) l s).2=firstE (l.map fun x=>al x.1):=by
  intro l
  induction l with
  | nil=>intro s hs;exact hs
  | cons x l ih =>
   intro s hs
   rw [go_cons,List.map_cons]
   by_cases h:al x.1=0
   ·rw [if_pos (show (flt al x.1 x.2 s).1=true from decide_eq_true h),ih (flt al x.1 x.2 s).2 h,h,firstE_zero]
   ·rw [if_neg (show ¬ (flt al x.1 x.2 s).1 = true from fun e => h (of_decide_eq_true e)), firstE_not _ h]
    rfl
 exact fun l=>this l 0 rfl
theorem seq_forms{al:Tr→Int}(hs:Shaped al)(t:Tr):∀ n,firstE ((t.seq n).map fun x=>al x.1)=t.forms al:=by
 induction t using ind with
 | h t hk hi =>
  intro n
  rw [forms_eq,seq_eq,List.map_cons]
  by_cases h0:al t=0
  ·show firstE (al t :: _) = _
   rw [h0,firstE_zero,firstE_zero,List.map_flatten,firstE_flat,List.map_map,alt_map,List.map_map,List.map_map]
   have a:t.keys.map ((firstE ∘ List.map fun x=>al x.1) ∘ fun u=>seq u (n+1))=t.keys.map (forms al):=List.map_congr_left fun u hu=>hk u hu (n+1)
   have b:t.kids.map ((firstE ∘ List.map fun x=>al x.1) ∘ fun u=>seq u (n+1))=t.kids.map (forms al):=List.map_congr_left fun u hu=>hi u hu (n+1)
   rw [a,b,←alt_map]
   congr 2
   unfold steps
   split
   ·rename_i h8;exact alt_inter _ _ ((hs t h0).1 h8)
   ·rename_i h8;rw [(hs t h0).2 h8];rfl
  ·show firstE (al t :: _) = _
   rw [firstE_not _ h0,firstE_not _ h0]
theorem flt_all{al:Tr→Int}(hs:Shaped al)(t:Tr)(n:Nat):(go (flt al) (t.seq n) 0).2=t.forms al:=by
 rw [flt_go,seq_forms hs]
def twc(p:Tr→Bool)(t:Tr)(_:Nat)(s:Unit):Bool × Unit:=(p t,s)
theorem twc_go(p:Tr→Bool):∀ (l:List (Tr × Nat)),(go (twc p) l ()).1=l.all fun x=>p x.1:=by
 intro l
 induction l with
 | nil=>rfl
 | cons x l ih =>
  rw [go_cons,List.all_cons]
  by_cases h:p x.1=true
  ·rw [if_pos (show (twc p x.1 x.2 ()).1=true from h),h,Bool.true_and];exact ih
  ·rw [if_neg (show ¬ (twc p x.1 x.2 ()).1=true from h)];simp at h;simp [h]
theorem seq_all(Q:Tr→Prop)(t:Tr):∀ n,(∀ x∈t.seq n,Q x.1) ↔ t.All Q:=by
 induction t using ind with
 | h t hk hi =>
  intro n
  rw [seq_eq,all_eq]
  constructor
  ·intro h
   refine ⟨h (t,n) List.mem_cons_self,fun k hm=>(hk k hm (n+1)).1 fun x hx=>h x ?_,fun k hm=>(hi k hm (n+1)).1 fun x hx=>h x ?_⟩
   ·exact List.mem_cons_of_mem _ (List.mem_flatten.2 ⟨_,(alt_mem _ _ _).2 (.inl (List.mem_map.2 ⟨k,hm,rfl⟩)),hx⟩)
   ·exact List.mem_cons_of_mem _ (List.mem_flatten.2 ⟨_,(alt_mem _ _ _).2 (.inr (List.mem_map.2 ⟨k,hm,rfl⟩)),hx⟩)
  ·rintro ⟨h0, h1, h2⟩ x hx
   rcases List.mem_cons.1 hx with rfl | hx
   ·exact h0
   ·obtain ⟨l, hl, hx⟩ := List.mem_flatten.1 hx
    rcases (alt_mem _ _ _).1 hl with hl | hl
    ·obtain ⟨k, hm, rfl⟩ := List.mem_map.1 hl
     exact (hk k hm (n+1)).2 (h1 k hm) x hx
    ·obtain ⟨k, hm, rfl⟩ := List.mem_map.1 hl
     exact (hi k hm (n+1)).2 (h2 k hm) x hx
theorem twc_all(p:Tr→Bool)(t:Tr)(n:Nat):(go (twc p) (t.seq n) ()).1=true ↔ t.All (fun u=>p u=true):=by
 rw [twc_go,List.all_eq_true]
 exact seq_all (fun u=>p u=true) t n
end Tr
end Go.Proofs.YtejlaiofpekchaaGreatDoor
namespace Go.Proofs.YtejlaiofpekchaaGreatDoor
open Go.RowKit
set_option linter.unusedVariables false
structure Takes(g:Nat)(cap:Array Value)(σ : Type)(f:Tr→Nat→σ → Bool × σ)(I:σ → World→Prop)(J:σ → Nat→Tr→Prop)(C:Nat→Prop)(B:Nat):Prop where
 call:∀ (s:σ) (w:World) (b:Nb) (t:Tr) (d D:Nat),I s w→J s d t→NdS (· < B) D w b t→Calls Tryz.prog g (#[.agg b.arr, .int .i64 d]++cap) w fun e w'=>e = .returned (.bool (f t d s).1)∧I (f t d s).2 w'∧Kp C w w'
 enter:∀ args w,(callFunc g args).run Tryz.prog w = .ok (.enter g args) w
 keeps:∀ s w w',I s w→Below w.heap.size w w'→I s w'
 room:∀ s w,I s w→B≤w.heap.size∧∀ k,C k→B≤k∧k<w.heap.size
 first:∀ s d t u,J s d t→(u∈t.keys∨u∈t.kids)→(f t d s).1=true→J (f t d s).2 (d+1) u∧d<4611686018427387904
 more:∀ s d u t' d',J s d u→(f t' d' s).1=true→J (f t' d' s).2 d u
theorem Takes.goes{g:Nat}{cap:Array Value}{σ : Type}{f:Tr→Nat→σ → Bool × σ}{I:σ → World→Prop}{J:σ → Nat→Tr→Prop}{C:Nat→Prop}{B:Nat}(T:Takes g cap σ f I J C B){d:Nat}{u:Tr}:∀ (l:List (Tr × Nat)) (s:σ),J s d u→(Tr.go f l s).1=true→J (Tr.go f l s).2 d u:=by
 intro l
 induction l with
 | nil=>intro s h _;exact h
 | cons x l ih =>
  intro s h hr
  rw [Tr.go_cons] at hr ⊢
  by_cases h1:(f x.1 x.2 s).1=true
  ·rw [if_pos h1] at hr ⊢
   exact ih _ (T.more s d u _ _ h h1) hr
  ·rw [if_neg h1] at hr
   cases hr
def Left{σ : Type}(f:Tr→Nat→σ → Bool × σ)(t:Tr)(d:Nat)(i:Nat)(s:σ):Bool × σ := Tr.go f (Tr.seqs (Tr.alt (t.keys.drop i) (t.kids.drop i)) (d+1)) s
theorem left_end{σ : Type}(f:Tr→Nat→σ → Bool × σ){t:Tr}{d i:Nat}(hk:t.keys.length≤i)(hi:t.kids.length≤i)(s:σ):Left f t d i s=(true,s):=by
 unfold Left
 rw [List.drop_of_length_le hk,List.drop_of_length_le hi]
 rfl
theorem left_both{σ : Type}(f:Tr→Nat→σ → Bool × σ){t:Tr}{d i:Nat}(hk:i<t.keys.length)(hi:i<t.kids.length)(s:σ) :
  Left f t d i s=if (Tr.go f ((t.keys[i]).seq (d+1)) s).1=true then (if (Tr.go f ((t.kids[i]).seq (d+1)) (Tr.go f ((t.keys[i]).seq (d+1)) s).2).1=true then Left f t d (i+1) (Tr.go f ((t.kids[i]).seq (d+1)) (Tr.go f ((t.keys[i]).seq (d+1)) s).2).2 else Tr.go f ((t.kids[i]).seq (d+1)) (Tr.go f ((t.keys[i]).seq (d+1)) s).2) else Tr.go f ((t.keys[i]).seq (d+1)) s:=by
 unfold Left
 rw [Tr.alt_drop,Tr.oneAt_lt hk,Tr.oneAt_lt hi,Tr.seqs_app,Tr.seqs_app,Tr.seqs_one,Tr.seqs_one,Tr.go_app,Tr.go_app]
theorem left_key{σ : Type}(f:Tr→Nat→σ → Bool × σ){t:Tr}{d i:Nat}(hk:i<t.keys.length)(hi:t.kids.length≤i)(s:σ) :
  Left f t d i s=if (Tr.go f ((t.keys[i]).seq (d+1)) s).1=true then Left f t d (i+1) (Tr.go f ((t.keys[i]).seq (d+1)) s).2 else Tr.go f ((t.keys[i]).seq (d+1)) s:=by
 unfold Left
 rw [Tr.alt_drop,Tr.oneAt_lt hk,Tr.oneAt_ge hi,List.nil_append,Tr.seqs_app,Tr.seqs_one,Tr.go_app]
theorem left_kid{σ : Type}(f:Tr→Nat→σ → Bool × σ){t:Tr}{d i:Nat}(hk:t.keys.length≤i)(hi:i<t.kids.length)(s:σ) :
  Left f t d i s=if (Tr.go f ((t.kids[i]).seq (d+1)) s).1=true then Left f t d (i+1) (Tr.go f ((t.kids[i]).seq (d+1)) s).2 else Tr.go f ((t.kids[i]).seq (d+1)) s:=by
 unfold Left
 rw [Tr.alt_drop,Tr.oneAt_ge hk,Tr.oneAt_lt hi,List.nil_append,Tr.seqs_app,Tr.seqs_one,Tr.go_app]
theorem left_start{σ : Type}(f:Tr→Nat→σ → Bool × σ){t:Tr}{d:Nat}(s:σ):Tr.go f (t.seq d) s=if (f t d s).1=true then Left f t d 0 (f t d s).2 else (false,(f t d s).2):=by
 rw [Tr.seq_alt,Tr.go_cons]
 rfl
theorem row_at{B D:Nat}{w w':World}{a:Option Addr}{len cap:Nat}{l:List Tr}(h:RowN (NdS (· < B) D w) w a len cap l)(hin:In (· < B) a len)(hb:Below B w w'){i:Nat}(hi:i<l.length) :
  ∃ (bk off:Nat) (nb:Nb),a=some ⟨bk,off,none⟩∧(∀ j,j<9→w'.cell? ⟨bk,off+(i*9+j),none⟩=nb.cells[j]?)∧NdS (· < B) D w' nb l[i]:=by
 obtain ⟨h0,_,h2⟩:=h
 rcases h2 with rfl | ⟨b,off,ha,hc⟩
 ·cases hi
 ·obtain ⟨nb, hn, hQ⟩ := hc i hi
  refine ⟨b,off,nb,ha,fun j hj=>?_,hQ.below hb fun k hk=>hk⟩
  rw [hb.cell (p:=⟨b,off+(i*9+j),none⟩) (hin (by omega) ⟨b,off,none⟩ ha)]
  exact hn j hj
def EachAt(g:Nat)(cap:Array Value)(σ : Type)(f:Tr→Nat→σ → Bool × σ)(I:σ → World→Prop)(J:σ → Nat→Tr→Prop)(C:Nat→Prop)(B:Nat)(D:Nat):Prop :=
 ∀ (t:Tr) (d:Nat) (b:Nb) (s:σ) (w:World),NdS (· < B) D w b t→I s w→J s d t →
  Calls Tryz.prog 42 #[.agg b.arr, .int .i64 d, .func (.func g) #[] cap] w fun e w'=>e = .returned (.bool (Tr.go f (t.seq d) s).1)∧I (Tr.go f (t.seq d) s).2 w'∧Kp C w w'
end Go.Proofs.YtejlaiofpekchaaGreatDoor
namespace Go.Proofs.YtejlaiofpekchaaGreatDoor
open Go.RowKit
set_option linter.unusedVariables false
set_option maxHeartbeats 4000000 in
set_option maxRecDepth 100000 in
theorem each_no{g:Nat}{cap:Array Value}{σ : Type}{f:Tr→Nat→σ → Bool × σ}{I:σ → World→Prop}{J:σ → Nat→Tr→Prop}{C:Nat→Prop}{B:Nat}(T:Takes g cap σ f I J C B){D:Nat}(ih:EachAt g cap σ f I J C B D)
  (t:Tr) (d:Nat) (b:Nb) (s:σ) (w:World) (hN:NdS (· < B) (D+1) w b t) (hI:I s w) (hJ:J s d t) (h1:(f t d s).1=false) :
  Calls Tryz.prog 42 #[.agg b.arr, .int .i64 d, .func (.func g) #[] cap] w fun e w'=>e = .returned (.bool (Tr.go f (t.seq d) s).1)∧I (Tr.go f (t.seq d) s).2 w'∧Kp C w w':=by
 obtain ⟨hBw,hC⟩:=T.room s w hI
 have hbox:=nbox_new w b
 have hal:=alloc_below w (.cells b.arr 26)
 have hNC:¬ C w.heap.size:=fun h=>by have:=(hC _ h).2;omega
 have hN0:NdS (· < B) (D+1) (w.alloc (.cells b.arr 26)) b t:=hN.below (hal.mono hBw) fun k hk=>hk
 have k0:=T.call s (w.alloc (.cells b.arr 26)) _ t d (D+1) (T.keeps _ _ _ hI hal) hJ hN0
 have hL0:=left_start f (t:=t) (d:=d) s
 have e0:=T.enter
 have hj1:=fun u hu=>T.first s d t u hJ hu
 obtain ⟨c0,c1,c2,c3,c4,c5,c6,c7,c8⟩:=hbox.fields
 rw [h1,if_neg (by simp)] at hL0
 rw [h1] at k0
 rw [hL0]
 clear hL0 hj1
 have hAl:Hid (Kp C w (w.alloc (.cells b.arr 26))):=Kp.of hal
 clear hN hN0 hJ hI hC hNC hbox hal h1 ih
 go_enter Tryz.func42,Tryz.ntmps42
 go_wp2_with (go_at_fn g;refine k0.mono ?_;rintro e w1 ⟨rfl,hI1,hK1⟩)
 go_ret
 exact ⟨rfl,hI1,hAl.out.trans hK1⟩
end Go.Proofs.YtejlaiofpekchaaGreatDoor
namespace Go.Proofs.YtejlaiofpekchaaGreatDoor
open Go.RowKit
set_option linter.unusedVariables false
set_option maxHeartbeats 4000000 in
set_option maxRecDepth 100000 in
theorem each_lt {g : Nat} {cap : Array Value} {σ : Type} {f : Tr → Nat → σ → Bool × σ} {I : σ → World → Prop} {J : σ → Nat → Tr → Prop} {C : Nat → Prop} {B : Nat} (T : Takes g cap σ f I J C B) {D : Nat} (ih : EachAt g cap σ f I J C B D)
  (t:Tr) (d:Nat) (b:Nb) (s:σ) (w:World) (hN:NdS (· < B) (D+1) w b t) (hI:I s w) (hJ:J s d t) (h1:(f t d s).1=true) (hM:b.lk<b.li) (hMz:(b.lk:Int)<(b.li:Int)) :
  Calls Tryz.prog 42 #[.agg b.arr, .int .i64 d, .func (.func g) #[] cap] w fun e w'=>e = .returned (.bool (Tr.go f (t.seq d) s).1)∧I (Tr.go f (t.seq d) s).2 w'∧Kp C w w':=by
 obtain ⟨hBw,hC⟩:=T.room s w hI
 have hbox:=nbox_new w b
 have hal:=alloc_below w (.cells b.arr 26)
 have hNC:¬ C w.heap.size:=fun h=>by have:=(hC _ h).2;omega
 have hN0:NdS (· < B) (D+1) (w.alloc (.cells b.arr 26)) b t:=hN.below (hal.mono hBw) fun k hk=>hk
 have k0:=T.call s (w.alloc (.cells b.arr 26)) _ t d (D+1) (T.keeps _ _ _ hI hal) hJ hN0
 have hL0:=left_start f (t:=t) (d:=d) s
 have e0:=T.enter
 have hj1:=fun u hu=>T.first s d t u hJ hu
 obtain ⟨c0,c1,c2,c3,c4,c5,c6,c7,c8⟩:=hbox.fields
 rw [h1,if_pos rfl] at hL0
 rw [h1] at k0
 have hj1':Hid (∀ u,(u∈t.keys∨u∈t.kids)→J (f t d s).2 (d+1) u∧d<4611686018427387904):=fun u hu=>hj1 u hu h1
 rw [hL0]
 generalize (f t d s).2=s1 at *
 have hAl:Hid (Kp C w (w.alloc (.cells b.arr 26))):=Kp.of hal
 have hCB:Hid (∀ k,C k→B≤k):=fun k hk=>(hC k hk).1
 have hin:=hN.2.2.2.1
 have hrk:=hN.2.2.2.2.1
 have hri:=hN.2.2.2.2.2
 clear hN
 have hlk:Hid (t.keys.length=b.lk):=hrk.1
 have hli:Hid (t.kids.length=b.li):=hri.1
 have hRk:Hid (RowN (NdS (· < B) D w) w b.ak b.lk b.ck t.keys):=hrk
 have hRi:Hid (RowN (NdS (· < B) D w) w b.ai b.li b.ci t.kids):=hri
 have hIn:Hid (In (· < B) b.ak b.lk∧In (· < B) b.ai b.li):=⟨hin.2.1,hin.2.2⟩
 have mk:=hrk.2.1.1
 have mk':=hrk.2.1.2.1
 have mi:=hri.2.1.1
 have mi':=hri.2.1.2.1
 have hBw':Hid (B≤w.heap.size):=hBw
 have hNC':Hid (¬ C w.heap.size):=hNC
 unfold maxLen at mk' mi'
 clear hN0 hJ hI hC hNC hal h1 hL0 hj1 hin hrk hri hBw
 go_enter Tryz.func42,Tryz.ntmps42
 go_wp2_with (go_at_fn g;refine k0.mono ?_;rintro e w1 ⟨rfl,hI1,hK1⟩;have hbx1:=hbox.same (hK1.block _ hbox.lt hNC'.out);obtain ⟨d0,d1,d2,d3,d4,d5,d6,d7,d8⟩:=hbx1.fields)
 go_loopw [7,20] (fun _ s20 wr=>∃ (i:Nat) (si:σ),i≤b.li∧s20 = .int .i64 i∧Hid (I si wr)∧Hid (Kp C (w.alloc (.cells b.arr 26)) wr)∧Hid (Left f t d 0 s1=Left f t d i si)∧Hid (∀ u,(u∈t.keys∨u∈t.kids)→J si (d+1) u)) (fun _ i _=>b.li - (intOf i).toNat)
 case atStart=>exact ⟨0,s1,Nat.zero_le _,rfl,hI1,hK1,rfl,fun u hu=>(hj1'.out u hu).1⟩
 case round =>
  obtain ⟨i,si,him,rfl,hIi,hKi,hLi,hJi⟩:=hrel
  clear k0 c0 c1 c2 c3 c4 c5 c6 c7 c8 d0 d1 d2 d3 d4 d5 d6 d7 d8 hbx1 hI1 hK1
  have hbx:=hbox.same (hKi.out.block _ hbox.lt hNC'.out)
  have hKw:Hid (Kp C w wr):=hAl.out.trans hKi.out
  have hBel:Below B w wr:=hKw.out.below hBw'.out hCB.out
  obtain ⟨c0,c1,c2,c3,c4,c5,c6,c7,c8⟩:=hbx.fields
  by_cases hlt:i<b.li
  ·have hz : (i : Int) < (b.li : Int) := by omega
   by_cases hk:i<b.lk
   ·have hk' : i < t.keys.length := by rw [hlk.out]; exact hk
    have hkz:(i:Int)<(b.lk:Int):=by omega
    obtain ⟨bk,ok,nk,hak,hck,hNk⟩:=row_at hRk.out hIn.out.1 hBel hk'
    obtain ⟨f0,f1,f2,f3,f4,f5,f6,f7,f8⟩:=elem_fields hck
    have hd:d<4611686018427387904:=(hj1'.out _ (.inl (List.getElem_mem hk'))).2
    have wd:IntKind.i64.wrap ((d:Int)+1)=((d+1:Nat):Int):=by rw [IntKind.wrap_i64];omega
    have wi:IntKind.i64.wrap ((i:Int)+1)=((i+1:Nat):Int):=by rw [IntKind.wrap_i64];omega
    have kk:=ih t.keys[i] (d+1) nk si wr hNk hIi.out (hJi.out _ (.inl (List.getElem_mem hk')))
    have hJk:Hid ((Tr.go f ((t.keys[i]).seq (d+1)) si).1=true→∀ u,(u∈t.keys∨u∈t.kids)→J (Tr.go f ((t.keys[i]).seq (d+1)) si).2 (d+1) u):=fun h u hu=>T.goes _ _ (hJi.out u hu) h
    cases hr:(Tr.go f ((t.keys[i]).seq (d+1)) si).1 with
    | false =>
     have hfin:Hid (Left f t d 0 s1=Tr.go f ((t.keys[i]).seq (d+1)) si):=by
      show _=_
      by_cases hi:i<t.kids.length
      ·rw [hLi.out,left_both f hk' hi,if_neg (by rw [hr];simp)]
      ·rw [hLi.out,left_key f hk' (by omega),if_neg (by rw [hr];simp)]
     have hr':Hid ((Tr.go f ((t.keys[i]).seq (d+1)) si).1=false):=hr
     rw [hr] at kk
     clear hr hNk hck hBel hIi hJi hLi hJk
     go_wp2_with (go_at_call 42;refine kk.mono ?_;rintro e w2 ⟨rfl,hI2,hK2⟩)
     go_ret
     exact ⟨by rw [hfin.out,hr'.out];rfl,by rw [hfin.out];exact hI2,hKw.out.trans hK2⟩
    | true =>
     have hJk:Hid (∀ u,(u∈t.keys∨u∈t.kids)→J (Tr.go f ((t.keys[i]).seq (d+1)) si).2 (d+1) u):=hJk.out hr
     rw [hr] at kk
     by_cases hi:i<b.li
     ·have hi' : i < t.kids.length := by rw [hli.out]; exact hi
      have hiz:(i:Int)<(b.li:Int):=by omega
      have hst:Hid (Left f t d 0 s1=if (Tr.go f ((t.kids[i]).seq (d+1)) (Tr.go f ((t.keys[i]).seq (d+1)) si).2).1=true then Left f t d (i+1) (Tr.go f ((t.kids[i]).seq (d+1)) (Tr.go f ((t.keys[i]).seq (d+1)) si).2).2 else Tr.go f ((t.kids[i]).seq (d+1)) (Tr.go f ((t.keys[i]).seq (d+1)) si).2):=by
       show _=_
       rw [hLi.out,left_both f hk' hi',if_pos hr]
      have k2:∀ (w2:World) (ni:Nb),NdS (· < B) D w2 ni t.kids[i]→I (Tr.go f ((t.keys[i]).seq (d+1)) si).2 w2→_:=fun w2 ni hn hI=>ih t.kids[i] (d+1) ni (Tr.go f ((t.keys[i]).seq (d+1)) si).2 w2 hn hI (hJk.out _ (.inr (List.getElem_mem hi')))
      have hJ2:Hid ((Tr.go f ((t.kids[i]).seq (d+1)) (Tr.go f ((t.keys[i]).seq (d+1)) si).2).1=true→∀ u,(u∈t.keys∨u∈t.kids)→J (Tr.go f ((t.kids[i]).seq (d+1)) (Tr.go f ((t.keys[i]).seq (d+1)) si).2).2 (d+1) u):=fun h u hu=>T.goes _ _ (hJk.out u hu) h
      generalize Tr.go f ((t.keys[i]).seq (d+1)) si=R1 at *
      cases hr2:(Tr.go f ((t.kids[i]).seq (d+1)) R1.2).1 with
      | false =>
       rw [hr2] at k2
       have hst:Hid (Left f t d 0 s1=Tr.go f ((t.kids[i]).seq (d+1)) R1.2):=by
        show _=_
        rw [hst.out,if_neg (by rw [hr2];simp)]
       have hr2':Hid ((Tr.go f ((t.kids[i]).seq (d+1)) R1.2).1=false):=hr2
       clear hr hr2 hNk hck hBel hIi hJi hLi hJk ih
       go_wp2_with (first
        | (go_at_call 42;refine kk.mono ?_;rintro e w2 ⟨rfl,hI2,hK2⟩;clear kk;have hbx2:=hbx.same (hK2.block _ hbx.lt hNC'.out);obtain ⟨g0,g1,g2,g3,g4,g5,g6,g7,g8⟩:=hbx2.fields;obtain ⟨bi,oi,ni,hai,hci,hNi⟩:=row_at hRi.out hIn.out.2 ((hKw.out.trans hK2).below hBw'.out hCB.out) hi';obtain ⟨p0,p1,p2,p3,p4,p5,p6,p7,p8⟩:=elem_fields hci;have k3:=k2 w2 ni hNi hI2;clear k2 hci hNi)
        | (go_at_call 42;refine k3.mono ?_;rintro e w3 ⟨rfl,hI3,hK3⟩))
       go_ret
       exact ⟨by rw [hst.out,hr2'.out];rfl,by rw [hst.out];exact hI3,(hKw.out.trans hK2).trans hK3⟩
      | true =>
       rw [hr2] at k2
       have hst:Hid (Left f t d 0 s1=Left f t d (i+1) (Tr.go f ((t.kids[i]).seq (d+1)) R1.2).2):=by
        show _=_
        rw [hst.out,if_pos hr2]
       have hJ2:Hid (∀ u,(u∈t.keys∨u∈t.kids)→J (Tr.go f ((t.kids[i]).seq (d+1)) R1.2).2 (d+1) u):=hJ2.out hr2
       clear hr hr2 hNk hck hBel hIi hJi hLi hJk ih
       go_wp2_with (first
        | (go_at_call 42;refine kk.mono ?_;rintro e w2 ⟨rfl,hI2,hK2⟩;clear kk;have hbx2:=hbx.same (hK2.block _ hbx.lt hNC'.out);obtain ⟨g0,g1,g2,g3,g4,g5,g6,g7,g8⟩:=hbx2.fields;obtain ⟨bi,oi,ni,hai,hci,hNi⟩:=row_at hRi.out hIn.out.2 ((hKw.out.trans hK2).below hBw'.out hCB.out) hi';obtain ⟨p0,p1,p2,p3,p4,p5,p6,p7,p8⟩:=elem_fields hci;have k3:=k2 w2 ni hNi hI2;clear k2 hci hNi)
        | (go_at_call 42;refine k3.mono ?_;rintro e w3 ⟨rfl,hI3,hK3⟩))
       simp only [hak,hai]
       go_roundw
       case rel=>exact ⟨i+1,_,by omega,by go_num,hI3,(hKi.out.trans hK2).trans hK3,hst,hJ2⟩
       case measure=>simp [intOf];omega
     ·exfalso;omega
   ·have hi : i < b.li := by omega
    have hk':t.keys.length≤i:=by rw [hlk.out];omega
    have hi':i<t.kids.length:=by rw [hli.out];exact hi
    have hkz:¬ (i:Int)<(b.lk:Int):=by omega
    have hiz:(i:Int)<(b.li:Int):=by omega
    obtain ⟨bk,ok,nk,hak,hck,hNk⟩:=row_at hRi.out hIn.out.2 hBel hi'
    obtain ⟨f0,f1,f2,f3,f4,f5,f6,f7,f8⟩:=elem_fields hck
    have hd:d<4611686018427387904:=(hj1'.out _ (.inr (List.getElem_mem hi'))).2
    have wd:IntKind.i64.wrap ((d:Int)+1)=((d+1:Nat):Int):=by rw [IntKind.wrap_i64];omega
    have wi:IntKind.i64.wrap ((i:Int)+1)=((i+1:Nat):Int):=by rw [IntKind.wrap_i64];omega
    have kk:=ih t.kids[i] (d+1) nk si wr hNk hIi.out (hJi.out _ (.inr (List.getElem_mem hi')))
    have hJk:Hid ((Tr.go f ((t.kids[i]).seq (d+1)) si).1=true→∀ u,(u∈t.keys∨u∈t.kids)→J (Tr.go f ((t.kids[i]).seq (d+1)) si).2 (d+1) u):=fun h u hu=>T.goes _ _ (hJi.out u hu) h
    cases hr:(Tr.go f ((t.kids[i]).seq (d+1)) si).1 with
    | false =>
     have hfin:Hid (Left f t d 0 s1=Tr.go f ((t.kids[i]).seq (d+1)) si):=by
      show _=_
      rw [hLi.out,left_kid f hk' hi',if_neg (by rw [hr];simp)]
     have hr':Hid ((Tr.go f ((t.kids[i]).seq (d+1)) si).1=false):=hr
     rw [hr] at kk
     clear hr hNk hck hBel hIi hJi hLi hJk ih
     go_wp2_with (go_at_call 42;refine kk.mono ?_;rintro e w2 ⟨rfl,hI2,hK2⟩)
     go_ret
     exact ⟨by rw [hfin.out,hr'.out];rfl,by rw [hfin.out];exact hI2,hKw.out.trans hK2⟩
    | true =>
     have hst:Hid (Left f t d 0 s1=Left f t d (i+1) (Tr.go f ((t.kids[i]).seq (d+1)) si).2):=by
      show _=_
      rw [hLi.out,left_kid f hk' hi',if_pos hr]
     have hJk:Hid (∀ u,(u∈t.keys∨u∈t.kids)→J (Tr.go f ((t.kids[i]).seq (d+1)) si).2 (d+1) u):=hJk.out hr
     rw [hr] at kk
     clear hr hNk hck hBel hIi hJi hLi ih
     go_wp2_with (go_at_call 42;refine kk.mono ?_;rintro e w2 ⟨rfl,hI2,hK2⟩)
     simp only [hak]
     go_roundw
     case rel=>exact ⟨i+1,_,by omega,by go_num,hI2,hKi.out.trans hK2,hst,hJk⟩
     case measure=>simp [intOf];omega
  ·have hz : ¬ (i : Int) < (b.li : Int) := by omega
   have hst:Hid (Left f t d 0 s1=(true,si)):=by
    show _=_
    rw [hLi.out,left_end f (by rw [hlk.out];omega) (by rw [hli.out];omega)]
   clear hBel hJi hLi ih
   go_wp2
   go_ret
   exact ⟨by rw [hst.out];rfl,by rw [hst.out];exact hIi.out,hKw.out⟩
end Go.Proofs.YtejlaiofpekchaaGreatDoor
namespace Go.Proofs.YtejlaiofpekchaaGreatDoor
open Go.RowKit
set_option linter.unusedVariables false
set_option maxHeartbeats 4000000 in
set_option maxRecDepth 100000 in
theorem each_ge {g : Nat} {cap : Array Value} {σ : Type} {f : Tr → Nat → σ → Bool × σ} {I : σ → World → Prop} {J : σ → Nat → Tr → Prop} {C : Nat → Prop} {B : Nat} (T : Takes g cap σ f I J C B) {D : Nat} (ih : EachAt g cap σ f I J C B D)
  (t:Tr) (d:Nat) (b:Nb) (s:σ) (w:World) (hN:NdS (· < B) (D+1) w b t) (hI:I s w) (hJ:J s d t) (h1:(f t d s).1=true) (hM:b.li≤b.lk) (hMz:¬ (b.lk:Int)<(b.li:Int)) :
  Calls Tryz.prog 42 #[.agg b.arr, .int .i64 d, .func (.func g) #[] cap] w fun e w'=>e = .returned (.bool (Tr.go f (t.seq d) s).1)∧I (Tr.go f (t.seq d) s).2 w'∧Kp C w w':=by
 obtain ⟨hBw,hC⟩:=T.room s w hI
 have hbox:=nbox_new w b
 have hal:=alloc_below w (.cells b.arr 26)
 have hNC:¬ C w.heap.size:=fun h=>by have:=(hC _ h).2;omega
 have hN0:NdS (· < B) (D+1) (w.alloc (.cells b.arr 26)) b t:=hN.below (hal.mono hBw) fun k hk=>hk
 have k0:=T.call s (w.alloc (.cells b.arr 26)) _ t d (D+1) (T.keeps _ _ _ hI hal) hJ hN0
 have hL0:=left_start f (t:=t) (d:=d) s
 have e0:=T.enter
 have hj1:=fun u hu=>T.first s d t u hJ hu
 obtain ⟨c0,c1,c2,c3,c4,c5,c6,c7,c8⟩:=hbox.fields
 rw [h1,if_pos rfl] at hL0
 rw [h1] at k0
 have hj1':Hid (∀ u,(u∈t.keys∨u∈t.kids)→J (f t d s).2 (d+1) u∧d<4611686018427387904):=fun u hu=>hj1 u hu h1
 rw [hL0]
 generalize (f t d s).2=s1 at *
 have hAl:Hid (Kp C w (w.alloc (.cells b.arr 26))):=Kp.of hal
 have hCB:Hid (∀ k,C k→B≤k):=fun k hk=>(hC k hk).1
 have hin:=hN.2.2.2.1
 have hrk:=hN.2.2.2.2.1
 have hri:=hN.2.2.2.2.2
 clear hN
 have hlk:Hid (t.keys.length=b.lk):=hrk.1
 have hli:Hid (t.kids.length=b.li):=hri.1
 have hRk:Hid (RowN (NdS (· < B) D w) w b.ak b.lk b.ck t.keys):=hrk
 have hRi:Hid (RowN (NdS (· < B) D w) w b.ai b.li b.ci t.kids):=hri
 have hIn:Hid (In (· < B) b.ak b.lk∧In (· < B) b.ai b.li):=⟨hin.2.1,hin.2.2⟩
 have mk:=hrk.2.1.1
 have mk':=hrk.2.1.2.1
 have mi:=hri.2.1.1
 have mi':=hri.2.1.2.1
 have hBw':Hid (B≤w.heap.size):=hBw
 have hNC':Hid (¬ C w.heap.size):=hNC
 unfold maxLen at mk' mi'
 clear hN0 hJ hI hC hNC hal h1 hL0 hj1 hin hrk hri hBw
 go_enter Tryz.func42,Tryz.ntmps42
 go_wp2_with (go_at_fn g;refine k0.mono ?_;rintro e w1 ⟨rfl,hI1,hK1⟩;have hbx1:=hbox.same (hK1.block _ hbox.lt hNC'.out);obtain ⟨d0,d1,d2,d3,d4,d5,d6,d7,d8⟩:=hbx1.fields)
 go_loopw [7,20] (fun _ s20 wr=>∃ (i:Nat) (si:σ),i≤b.lk∧s20 = .int .i64 i∧Hid (I si wr)∧Hid (Kp C (w.alloc (.cells b.arr 26)) wr)∧Hid (Left f t d 0 s1=Left f t d i si)∧Hid (∀ u,(u∈t.keys∨u∈t.kids)→J si (d+1) u)) (fun _ i _=>b.lk - (intOf i).toNat)
 case atStart=>exact ⟨0,s1,Nat.zero_le _,rfl,hI1,hK1,rfl,fun u hu=>(hj1'.out u hu).1⟩
 case round =>
  obtain ⟨i,si,him,rfl,hIi,hKi,hLi,hJi⟩:=hrel
  clear k0 c0 c1 c2 c3 c4 c5 c6 c7 c8 d0 d1 d2 d3 d4 d5 d6 d7 d8 hbx1 hI1 hK1
  have hbx:=hbox.same (hKi.out.block _ hbox.lt hNC'.out)
  have hKw:Hid (Kp C w wr):=hAl.out.trans hKi.out
  have hBel:Below B w wr:=hKw.out.below hBw'.out hCB.out
  obtain ⟨c0,c1,c2,c3,c4,c5,c6,c7,c8⟩:=hbx.fields
  by_cases hlt:i<b.lk
  ·have hz : (i : Int) < (b.lk : Int) := by omega
   by_cases hk:i<b.lk
   ·have hk' : i < t.keys.length := by rw [hlk.out]; exact hk
    have hkz:(i:Int)<(b.lk:Int):=by omega
    obtain ⟨bk,ok,nk,hak,hck,hNk⟩:=row_at hRk.out hIn.out.1 hBel hk'
    obtain ⟨f0,f1,f2,f3,f4,f5,f6,f7,f8⟩:=elem_fields hck
    have hd:d<4611686018427387904:=(hj1'.out _ (.inl (List.getElem_mem hk'))).2
    have wd:IntKind.i64.wrap ((d:Int)+1)=((d+1:Nat):Int):=by rw [IntKind.wrap_i64];omega
    have wi:IntKind.i64.wrap ((i:Int)+1)=((i+1:Nat):Int):=by rw [IntKind.wrap_i64];omega
    have kk:=ih t.keys[i] (d+1) nk si wr hNk hIi.out (hJi.out _ (.inl (List.getElem_mem hk')))
    have hJk:Hid ((Tr.go f ((t.keys[i]).seq (d+1)) si).1=true→∀ u,(u∈t.keys∨u∈t.kids)→J (Tr.go f ((t.keys[i]).seq (d+1)) si).2 (d+1) u):=fun h u hu=>T.goes _ _ (hJi.out u hu) h
    cases hr:(Tr.go f ((t.keys[i]).seq (d+1)) si).1 with
    | false =>
     have hfin:Hid (Left f t d 0 s1=Tr.go f ((t.keys[i]).seq (d+1)) si):=by
      show _=_
      by_cases hi:i<t.kids.length
      ·rw [hLi.out,left_both f hk' hi,if_neg (by rw [hr];simp)]
      ·rw [hLi.out,left_key f hk' (by omega),if_neg (by rw [hr];simp)]
     have hr':Hid ((Tr.go f ((t.keys[i]).seq (d+1)) si).1=false):=hr
     rw [hr] at kk
     clear hr hNk hck hBel hIi hJi hLi hJk
     go_wp2_with (go_at_call 42;refine kk.mono ?_;rintro e w2 ⟨rfl,hI2,hK2⟩)
     go_ret
     exact ⟨by rw [hfin.out,hr'.out];rfl,by rw [hfin.out];exact hI2,hKw.out.trans hK2⟩
    | true =>
     have hJk:Hid (∀ u,(u∈t.keys∨u∈t.kids)→J (Tr.go f ((t.keys[i]).seq (d+1)) si).2 (d+1) u):=hJk.out hr
     rw [hr] at kk
     by_cases hi:i<b.li
     ·have hi' : i < t.kids.length := by rw [hli.out]; exact hi
      have hiz:(i:Int)<(b.li:Int):=by omega
      have hst:Hid (Left f t d 0 s1=if (Tr.go f ((t.kids[i]).seq (d+1)) (Tr.go f ((t.keys[i]).seq (d+1)) si).2).1=true then Left f t d (i+1) (Tr.go f ((t.kids[i]).seq (d+1)) (Tr.go f ((t.keys[i]).seq (d+1)) si).2).2 else Tr.go f ((t.kids[i]).seq (d+1)) (Tr.go f ((t.keys[i]).seq (d+1)) si).2):=by
       show _=_
       rw [hLi.out,left_both f hk' hi',if_pos hr]
      have k2:∀ (w2:World) (ni:Nb),NdS (· < B) D w2 ni t.kids[i]→I (Tr.go f ((t.keys[i]).seq (d+1)) si).2 w2→_:=fun w2 ni hn hI=>ih t.kids[i] (d+1) ni (Tr.go f ((t.keys[i]).seq (d+1)) si).2 w2 hn hI (hJk.out _ (.inr (List.getElem_mem hi')))
      have hJ2:Hid ((Tr.go f ((t.kids[i]).seq (d+1)) (Tr.go f ((t.keys[i]).seq (d+1)) si).2).1=true→∀ u,(u∈t.keys∨u∈t.kids)→J (Tr.go f ((t.kids[i]).seq (d+1)) (Tr.go f ((t.keys[i]).seq (d+1)) si).2).2 (d+1) u):=fun h u hu=>T.goes _ _ (hJk.out u hu) h
      generalize Tr.go f ((t.keys[i]).seq (d+1)) si=R1 at *
      cases hr2:(Tr.go f ((t.kids[i]).seq (d+1)) R1.2).1 with
      | false =>
       rw [hr2] at k2
       have hst:Hid (Left f t d 0 s1=Tr.go f ((t.kids[i]).seq (d+1)) R1.2):=by
        show _=_
        rw [hst.out,if_neg (by rw [hr2];simp)]
       have hr2':Hid ((Tr.go f ((t.kids[i]).seq (d+1)) R1.2).1=false):=hr2
       clear hr hr2 hNk hck hBel hIi hJi hLi hJk ih
       go_wp2_with (first
        | (go_at_call 42;refine kk.mono ?_;rintro e w2 ⟨rfl,hI2,hK2⟩;clear kk;have hbx2:=hbx.same (hK2.block _ hbx.lt hNC'.out);obtain ⟨g0,g1,g2,g3,g4,g5,g6,g7,g8⟩:=hbx2.fields;obtain ⟨bi,oi,ni,hai,hci,hNi⟩:=row_at hRi.out hIn.out.2 ((hKw.out.trans hK2).below hBw'.out hCB.out) hi';obtain ⟨p0,p1,p2,p3,p4,p5,p6,p7,p8⟩:=elem_fields hci;have k3:=k2 w2 ni hNi hI2;clear k2 hci hNi)
        | (go_at_call 42;refine k3.mono ?_;rintro e w3 ⟨rfl,hI3,hK3⟩))
       go_ret
       exact ⟨by rw [hst.out,hr2'.out];rfl,by rw [hst.out];exact hI3,(hKw.out.trans hK2).trans hK3⟩
      | true =>
       rw [hr2] at k2
       have hst:Hid (Left f t d 0 s1=Left f t d (i+1) (Tr.go f ((t.kids[i]).seq (d+1)) R1.2).2):=by
        show _=_
        rw [hst.out,if_pos hr2]
       have hJ2:Hid (∀ u,(u∈t.keys∨u∈t.kids)→J (Tr.go f ((t.kids[i]).seq (d+1)) R1.2).2 (d+1) u):=hJ2.out hr2
       clear hr hr2 hNk hck hBel hIi hJi hLi hJk ih
       go_wp2_with (first
        | (go_at_call 42;refine kk.mono ?_;rintro e w2 ⟨rfl,hI2,hK2⟩;clear kk;have hbx2:=hbx.same (hK2.block _ hbx.lt hNC'.out);obtain ⟨g0,g1,g2,g3,g4,g5,g6,g7,g8⟩:=hbx2.fields;obtain ⟨bi,oi,ni,hai,hci,hNi⟩:=row_at hRi.out hIn.out.2 ((hKw.out.trans hK2).below hBw'.out hCB.out) hi';obtain ⟨p0,p1,p2,p3,p4,p5,p6,p7,p8⟩:=elem_fields hci;have k3:=k2 w2 ni hNi hI2;clear k2 hci hNi)
        | (go_at_call 42;refine k3.mono ?_;rintro e w3 ⟨rfl,hI3,hK3⟩))
       simp only [hak,hai]
       go_roundw
       case rel=>exact ⟨i+1,_,by omega,by go_num,hI3,(hKi.out.trans hK2).trans hK3,hst,hJ2⟩
       case measure=>simp [intOf];omega
     ·have hi' : t.kids.length ≤ i := by rw [hli.out]; omega
      have hiz:¬ (i:Int)<(b.li:Int):=by omega
      have hst:Hid (Left f t d 0 s1=Left f t d (i+1) (Tr.go f ((t.keys[i]).seq (d+1)) si).2):=by
       show _=_
       rw [hLi.out,left_key f hk' hi',if_pos hr]
      clear hr hNk hck hBel hIi hJi hLi ih
      go_wp2_with (go_at_call 42;refine kk.mono ?_;rintro e w2 ⟨rfl,hI2,hK2⟩;clear kk;have hbx2:=hbx.same (hK2.block _ hbx.lt hNC'.out);obtain ⟨g0,g1,g2,g3,g4,g5,g6,g7,g8⟩:=hbx2.fields)
      simp only [hak]
      go_roundw
      case rel=>exact ⟨i+1,_,by omega,by go_num,hI2,hKi.out.trans hK2,hst,hJk⟩
      case measure=>simp [intOf];omega
   ·exfalso;omega
  ·have hz : ¬ (i : Int) < (b.lk : Int) := by omega
   have hst:Hid (Left f t d 0 s1=(true,si)):=by
    show _=_
    rw [hLi.out,left_end f (by rw [hlk.out];omega) (by rw [hli.out];omega)]
   clear hBel hJi hLi ih
   go_wp2
   go_ret
   exact ⟨by rw [hst.out];rfl,by rw [hst.out];exact hIi.out,hKw.out⟩
end Go.Proofs.YtejlaiofpekchaaGreatDoor
namespace Go.Proofs.YtejlaiofpekchaaGreatDoor
open Go.RowKit
set_option linter.unusedVariables false
theorem each_any{g:Nat}{cap:Array Value}{σ : Type}{f:Tr→Nat→σ → Bool × σ}{I:σ → World→Prop}{J:σ → Nat→Tr→Prop}{C:Nat→Prop}{B:Nat}(T:Takes g cap σ f I J C B):∀ (D:Nat),EachAt g cap σ f I J C B D:=by
 intro D
 induction D with
 | zero=>intro t d b s w h;exact absurd h id
 | succ D ih =>
  intro t d b s w hN hI hJ
  cases h1:(f t d s).1 with
  | false=>exact each_no T ih t d b s w hN hI hJ h1
  | true =>
   rcases Nat.lt_or_ge b.lk b.li with hM | hM
   ·exact each_lt T ih t d b s w hN hI hJ h1 hM (by omega)
   ·exact each_ge T ih t d b s w hN hI hJ h1 hM (by omega)
def IM(B g2 g3:Nat)(s:Nat × Nat)(w:World):Prop:=w.heap[g2]? = some (.cells #[.int .i64 (s.1:Nat)] 3 (0,0))∧w.heap[g3]? = some (.cells #[.int .i64 (s.2:Nat)] 3 (0,0))∧B≤w.heap.size
theorem block_lt{w:World}{g:Nat}{o:Obj}(h:w.heap[g]? = some o):g<w.heap.size:=(Array.getElem?_eq_some_iff.1 h).1
theorem other_set{w:World}{g k:Nat}(h:k≠g)(u:Value):(w.setCell ⟨g,0,none⟩ u).heap[k]? = w.heap[k]? := Below.heap_setCell w ⟨g,0,none⟩ u k h
theorem kp_set{w:World}{C:Nat→Prop}{g:Nat}(h:C g)(u:Value):Kp C w (w.setCell ⟨g,0,none⟩ u) :=
 ⟨rfl,rfl,rfl,by simp [World.setCell],fun k _ hc=>other_set (fun e=>hc (by rw [e];exact h)) u⟩
set_option maxRecDepth 100000 in
set_option maxHeartbeats 1000000 in
theorem measc_any(B g2 g3:Nat)(h2:B≤g2)(h3:B≤g3)(h23:g2≠g3)(s:Nat × Nat)(w:World)(b:Nb)(t:Tr)(d:Nat)(hI:IM B g2 g3 s w)(hd:d≤s.1+1∧s.1≤1024) :
  Calls Tryz.prog 73 (#[.agg b.arr, .int .i64 d]++#[.pointer (some ⟨g2,0,none⟩), .pointer (some ⟨g3,0,none⟩)]) w fun e w'=>e = .returned (.bool (Tr.meas t d s).1)∧IM B g2 g3 (Tr.meas t d s).2 w'∧Kp (fun k=>k=g2∨k=g3) w w':=by
 show Calls Tryz.prog 73 #[.agg b.arr, .int .i64 d, .pointer (some ⟨g2,0,none⟩), .pointer (some ⟨g3,0,none⟩)] w _
 obtain ⟨a,m⟩:=s
 obtain ⟨H2,H3,hB⟩:=hI
 simp only at H2 H3 hd
 have hal:=alloc_below w (.cells b.arr 26)
 have X2:(w.alloc (.cells b.arr 26)).heap[g2]? = some (.cells #[.int .i64 a] 3 (0,0)):=(hal.block g2 (block_lt H2)).trans H2
 have X3:(w.alloc (.cells b.arr 26)).heap[g3]? = some (.cells #[.int .i64 m] 3 (0,0)):=(hal.block g3 (block_lt H3)).trans H3
 have hKp:Hid (Kp (fun k=>k=g2∨k=g3) w (w.alloc (.cells b.arr 26))):=Kp.of hal
 have hs:Hid (B≤(w.alloc (.cells b.arr 26)).heap.size):=Nat.le_trans hB hal.size
 clear hal H2 H3 hB
 have hwa:IntKind.i64.wrap ((a:Int)+1)=(a:Int)+1:=by rw [IntKind.wrap_i64];omega
 have c2:=cell_of_one X2
 have z2:=free_of_one X2
 have K2:Hid _:=one_setCell (u := .int .i64 ((a:Int)+1)) X2
 have K3:Hid _:=(other_set (w:=w.alloc (.cells b.arr 26)) (Ne.symm h23) (.int .i64 ((a:Int)+1))).trans X3
 have kp1:Hid (Kp (fun k=>k=g2∨k=g3) w ((w.alloc (.cells b.arr 26)).setCell ⟨g2,0,none⟩ (.int .i64 ((a:Int)+1)))):=hKp.out.trans (kp_set (.inl rfl) _)
 have hs1:Hid (B≤((w.alloc (.cells b.arr 26)).setCell ⟨g2,0,none⟩ (.int .i64 ((a:Int)+1))).heap.size):=Nat.le_trans hs.out (by simp [World.setCell])
 have c3:=cell_of_one K3.out
 have z3:=free_of_one K3.out
 clear X2 X3 hKp hs
 by_cases hmd:m<d
 ·have hmz : (m : Int) < (d : Int) := by omega
  have J2:=(other_set (w:=(w.alloc (.cells b.arr 26)).setCell ⟨g2,0,none⟩ (.int .i64 ((a:Int)+1))) h23 (.int .i64 (d:Int))).trans K2.out
  have J3:Hid _:=one_setCell (u := .int .i64 (d:Int)) K3.out
  have e2:=cell_of_one J2
  have hJ2:Hid _:=J2
  have kp2:Hid (Kp (fun k=>k=g2∨k=g3) w (((w.alloc (.cells b.arr 26)).setCell ⟨g2,0,none⟩ (.int .i64 ((a:Int)+1))).setCell ⟨g3,0,none⟩ (.int .i64 (d:Int)))):=kp1.out.trans (kp_set (.inr rfl) _)
  have hs2:Hid (B≤(((w.alloc (.cells b.arr 26)).setCell ⟨g2,0,none⟩ (.int .i64 ((a:Int)+1))).setCell ⟨g3,0,none⟩ (.int .i64 (d:Int))).heap.size):=Nat.le_trans hs1.out (by simp [World.setCell])
  have hmx:Hid (max m d=d):=by show _=_;omega
  clear J2
  by_cases ha:a+1≤1024
  ·have hd1 : decide (((a : Int) + 1) ≤ 1024) = true := by simp; omega
   have hR:Hid ((Tr.meas t d (a,m)).1=true):=by show _=_;simp [Tr.meas,ha]
   clear ha hd
   go_enter Tryz.func73,Tryz.ntmps73
   go_wp2
   go_ret
   exact ⟨by rw [hR.out];rfl,⟨hJ2.out,by show _=some (Obj.cells #[.int .i64 ((max m d:Nat):Int)] 3 (0,0));rw [hmx.out];exact J3.out,hs2.out⟩,kp2.out⟩
  ·have hd1 : decide (((a : Int) + 1) ≤ 1024) = false := by simp; omega
   have hR:Hid ((Tr.meas t d (a,m)).1=false):=by show _=_;simp [Tr.meas,ha]
   clear ha hd
   go_enter Tryz.func73,Tryz.ntmps73
   go_wp2
   go_ret
   exact ⟨by rw [hR.out];rfl,⟨hJ2.out,by show _=some (Obj.cells #[.int .i64 ((max m d:Nat):Int)] 3 (0,0));rw [hmx.out];exact J3.out,hs2.out⟩,kp2.out⟩
 ·have hmz : ¬ (m : Int) < (d : Int) := by omega
  have J2:=(other_set (w:=(w.alloc (.cells b.arr 26)).setCell ⟨g2,0,none⟩ (.int .i64 ((a:Int)+1))) h23 (.int .i64 (m:Int))).trans K2.out
  have J3:Hid _:=one_setCell (u := .int .i64 (m:Int)) K3.out
  have e2:=cell_of_one J2
  have hJ2:Hid _:=J2
  have kp2:Hid (Kp (fun k=>k=g2∨k=g3) w (((w.alloc (.cells b.arr 26)).setCell ⟨g2,0,none⟩ (.int .i64 ((a:Int)+1))).setCell ⟨g3,0,none⟩ (.int .i64 (m:Int)))):=kp1.out.trans (kp_set (.inr rfl) _)
  have hs2:Hid (B≤(((w.alloc (.cells b.arr 26)).setCell ⟨g2,0,none⟩ (.int .i64 ((a:Int)+1))).setCell ⟨g3,0,none⟩ (.int .i64 (m:Int))).heap.size):=Nat.le_trans hs1.out (by simp [World.setCell])
  have hmx:Hid (max m d=m):=by show _=_;omega
  clear J2
  by_cases ha:a+1≤1024
  ·have hd1 : decide (((a : Int) + 1) ≤ 1024) = true := by simp; omega
   have hR:Hid ((Tr.meas t d (a,m)).1=true):=by show _=_;simp [Tr.meas,ha]
   clear ha hd
   go_enter Tryz.func73,Tryz.ntmps73
   go_wp2
   go_ret
   exact ⟨by rw [hR.out];rfl,⟨hJ2.out,by show _=some (Obj.cells #[.int .i64 ((max m d:Nat):Int)] 3 (0,0));rw [hmx.out];exact J3.out,hs2.out⟩,kp2.out⟩
  ·have hd1 : decide (((a : Int) + 1) ≤ 1024) = false := by simp; omega
   have hR:Hid ((Tr.meas t d (a,m)).1=false):=by show _=_;simp [Tr.meas,ha]
   clear ha hd
   go_enter Tryz.func73,Tryz.ntmps73
   go_wp2
   go_ret
   exact ⟨by rw [hR.out];rfl,⟨hJ2.out,by show _=some (Obj.cells #[.int .i64 ((max m d:Nat):Int)] 3 (0,0));rw [hmx.out];exact J3.out,hs2.out⟩,kp2.out⟩
theorem takes_meas{B g2 g3:Nat}(h2:B≤g2)(h3:B≤g3)(h23:g2≠g3) :
  Takes 73 #[.pointer (some ⟨g2,0,none⟩), .pointer (some ⟨g3,0,none⟩)] (Nat × Nat) Tr.meas (IM B g2 g3) (fun s d _=>d≤s.1+1∧s.1≤1024) (fun k=>k=g2∨k=g3) B where
 call:=fun s w b t d D hI hJ _=>measc_any B g2 g3 h2 h3 h23 s w b t d hI hJ
 enter:=enters_of Tryz.func73 (by kernel_rfl) rfl
 keeps:=fun s w w' hI hb=>⟨(hb.block g2 (block_lt hI.1)).trans hI.1,(hb.block g3 (block_lt hI.2.1)).trans hI.2.1,Nat.le_trans hI.2.2 hb.size⟩
 room:=fun s w hI=>⟨hI.2.2,fun k hk=>by
  rcases hk with rfl | rfl
  ·exact ⟨h2,block_lt hI.1⟩
  ·exact ⟨h3,block_lt hI.2.1⟩⟩
 first:=fun s d t u hJ _ hf=>by
  have hf':s.1+1≤1024:=of_decide_eq_true hf
  exact ⟨⟨by show d+1≤s.1+1+1;omega,hf'⟩,by omega⟩
 more:=fun s d u t' d' hJ hf=>by
  have hf':s.1+1≤1024:=of_decide_eq_true hf
  exact ⟨by show d≤s.1+1+1;omega,hf'⟩
set_option maxHeartbeats 1000000 in
theorem meas_any{D:Nat}{t:Tr}{b:Nb}{w:World}(hN:Nd D w b t):Calls Tryz.prog 41 #[.agg b.arr] w fun e w'=>e = .returned (.tuple #[.int .i64 (t.mes.1:Nat), .int .i64 (t.mes.2:Nat)])∧Below w.heap.size w w':=by
 have hbox:=nbox_new w b
 have hal:=alloc_below w (.cells b.arr 26)
 have hal2:=alloc_below (w.alloc (.cells b.arr 26)) (.cells #[.int .i64 0] 3)
 have hal3:=alloc_below ((w.alloc (.cells b.arr 26)).alloc (.cells #[.int .i64 0] 3)) (.cells #[.int .i64 0] 3)
 have s1:(w.alloc (.cells b.arr 26)).heap.size=w.heap.size+1:=by simp
 have s2:((w.alloc (.cells b.arr 26)).alloc (.cells #[.int .i64 0] 3)).heap.size=w.heap.size+1+1:=by simp
 have hb3:NBox (((w.alloc (.cells b.arr 26)).alloc (.cells #[.int .i64 0] 3)).alloc (.cells #[.int .i64 0] 3)) w.heap.size b:=(hbox.kept hal2 (by omega)).kept hal3 (by omega)
 have H2:(((w.alloc (.cells b.arr 26)).alloc (.cells #[.int .i64 0] 3)).alloc (.cells #[.int .i64 0] 3)).heap[w.heap.size+1]? = some (.cells #[.int .i64 0] 3 (0,0)):=by
  rw [hal3.block _ (by omega),←s1]
  exact heap_alloc_new _ _
 have H3:(((w.alloc (.cells b.arr 26)).alloc (.cells #[.int .i64 0] 3)).alloc (.cells #[.int .i64 0] 3)).heap[w.heap.size+1+1]? = some (.cells #[.int .i64 0] 3 (0,0)):=by
  rw [←s2]
  exact heap_alloc_new _ _
 have hBel:Below w.heap.size w (((w.alloc (.cells b.arr 26)).alloc (.cells #[.int .i64 0] 3)).alloc (.cells #[.int .i64 0] 3)):=(hal.trans (hal2.mono (by omega))).trans (hal3.mono (by omega))
 have hT:=takes_meas (B:=w.heap.size) (g2:=w.heap.size+1) (g3:=w.heap.size+1+1) (by omega) (by omega) (by omega)
 have ke:Calls Tryz.prog 42 #[.agg b.arr, .int .i64 1, .func (.func 73) #[] #[.pointer (some ⟨w.heap.size+1,0,none⟩), .pointer (some ⟨w.heap.size+1+1,0,none⟩)]] (((w.alloc (.cells b.arr 26)).alloc (.cells #[.int .i64 0] 3)).alloc (.cells #[.int .i64 0] 3)) _ :=
  each_any hT D t 1 b (0,0) (((w.alloc (.cells b.arr 26)).alloc (.cells #[.int .i64 0] 3)).alloc (.cells #[.int .i64 0] 3)) (hN.all.below hBel fun k hk=>hk) ⟨H2,H3,hBel.size⟩ ⟨by omega,by omega⟩
 have hK:Hid (∀ w',Kp (fun k=>k=w.heap.size+1∨k=w.heap.size+1+1) (((w.alloc (.cells b.arr 26)).alloc (.cells #[.int .i64 0] 3)).alloc (.cells #[.int .i64 0] 3)) w'→Below w.heap.size w w'):=fun w' h=>hBel.trans (h.below hBel.size fun k hk=>by omega)
 have hm:=Tr.meas_all t
 obtain ⟨c0,c1,c2,c3,c4,c5,c6,c7,c8⟩:=hb3.fields
 by_cases hf:t.size≤1024
 ·have hR : t.mes = (t.size, t.deep) := if_pos hf
  rw [hR]
  rw [hm.1,hm.2 hf,decide_eq_true hf] at ke
  clear hm hR hT H2 H3 hb3 hbox hal hal2 hal3 hBel hN hf
  generalize t.size=S at *
  generalize t.deep=E at *
  go_enter Tryz.func41,Tryz.ntmps41
  go_wp2_with (go_at_call 42;refine ke.mono ?_;rintro e w4 ⟨rfl,⟨A2,A3,_⟩,hK4⟩;simp only at A2 A3;have p2:=cell_of_one A2;have p3:=cell_of_one A3;have z2:=free_of_one A2;have z3:=free_of_one A3)
  have B2:=one_setCell (u := .int .i64 (S:Nat)) A2
  have B3:=(other_set (w:=w4) (show w.heap.size+1+1≠w.heap.size+1 by omega) (.int .i64 (S:Nat))).trans A3
  have r3:=cell_of_one B3
  have y3:=free_of_one B3
  have C2:=(other_set (w:=w4.setCell ⟨w.heap.size+1,0,none⟩ (.int .i64 (S:Nat))) (show w.heap.size+1≠w.heap.size+1+1 by omega) (.int .i64 (E:Nat))).trans B2
  have C3:=one_setCell (u := .int .i64 (E:Nat)) B3
  have q2:=cell_of_one C2
  have q3:=cell_of_one C3
  have hfin:Hid (Kp (fun k=>k=w.heap.size+1∨k=w.heap.size+1+1) w4 ((w4.setCell ⟨w.heap.size+1,0,none⟩ (.int .i64 (S:Nat))).setCell ⟨w.heap.size+1+1,0,none⟩ (.int .i64 (E:Nat)))):=(kp_set (.inl rfl) _).trans (kp_set (.inr rfl) _)
  clear A2 A3 B2 B3 C2 C3
  go_region
  all_goals (try go_wp2)
  all_goals (refine bodyPost_ret (v := .tuple #[.int .i64 (S:Nat), .int .i64 (E:Nat)]) (by simp [results,Tryz.results41,go_sem,q2,q3]) rfl ⟨rfl,?_⟩;exact (hK.out _ (hK4.trans hfin.out)).drew)
 ·have hR : t.mes = (1025, 1025) := if_neg hf
  rw [hR]
  rw [hm.1,decide_eq_false hf] at ke
  clear hm hR hT H2 H3 hb3 hbox hal hal2 hal3 hBel hN hf
  generalize (Tr.go Tr.meas (t.seq 1) (0,0)).2=R at *
  go_enter Tryz.func41,Tryz.ntmps41
  go_wp2_with (go_at_call 42;refine ke.mono ?_;rintro e w4 ⟨rfl,⟨A2,A3,_⟩,hK4⟩;have p2:=cell_of_one A2;have p3:=cell_of_one A3;have z2:=free_of_one A2;have z3:=free_of_one A3)
  have B2:=one_setCell (u := .int .i64 1025) A2
  have B3:=(other_set (w:=w4) (show w.heap.size+1+1≠w.heap.size+1 by omega) (.int .i64 1025)).trans A3
  have C2:=(other_set (w:=w4.setCell ⟨w.heap.size+1,0,none⟩ (.int .i64 1025)) (show w.heap.size+1≠w.heap.size+1+1 by omega) (.int .i64 1025)).trans B2
  have C3:=one_setCell (u := .int .i64 1025) B3
  have q2:=cell_of_one C2
  have q3:=cell_of_one C3
  refine bodyPost_ret (v := .tuple #[.int .i64 1025, .int .i64 1025]) (by simp [results,Tryz.results41,go_sem,q2,q3]) rfl ⟨rfl,?_⟩
  exact hK.out _ (hK4.trans ((kp_set (.inl rfl) _).trans (kp_set (.inr rfl) _)))
theorem size_any{D:Nat}{t:Tr}{b:Nb}{w:World}(hN:Nd D w b t):Calls Tryz.prog 94 #[.agg b.arr] w fun e w'=>e = .returned (.int .i64 (t.mes.1:Nat))∧Below w.heap.size w w':=by
 have hbox:=nbox_new w b
 have hal:=alloc_below w (.cells b.arr 26)
 have km:=meas_any (hN.kept hal)
 have hB:Hid (Below w.heap.size w (w.alloc (.cells b.arr 26))):=hal
 have hs:Hid (w.heap.size≤(w.alloc (.cells b.arr 26)).heap.size):=hal.size
 obtain ⟨c0,c1,c2,c3,c4,c5,c6,c7,c8⟩:=hbox.fields
 generalize t.mes.1=S at *
 generalize t.mes.2=E at *
 clear hal hbox hN
 go_enter Tryz.func94,Tryz.ntmps94
 go_wp2_with (go_at_call 41;refine km.mono ?_;rintro e w1 ⟨rfl,hb⟩)
 go_ret
 exact ⟨rfl,hB.out.trans (hb.mono hs.out)⟩
theorem Tr.mes_few(t:Tr):decide ((t.mes.1:Nat)≤1024)=decide (t.size≤1024):=by
 unfold Tr.mes
 split
 ·rfl
 ·rename_i h;simp [h]
theorem few_any{D:Nat}{t:Tr}{b:Nb}{w:World}(hN:Nd D w b t):Calls Tryz.prog 65 #[.agg b.arr] w fun e w'=>e = .returned (.bool (decide (t.size≤1024)))∧Below w.heap.size w w':=by
 have hbox:=nbox_new w b
 have hal:=alloc_below w (.cells b.arr 26)
 have km:=size_any (hN.kept hal)
 have hB:Hid (Below w.heap.size w (w.alloc (.cells b.arr 26))):=hal
 have hs:Hid (w.heap.size≤(w.alloc (.cells b.arr 26)).heap.size):=hal.size
 obtain ⟨c0,c1,c2,c3,c4,c5,c6,c7,c8⟩:=hbox.fields
 rw [←Tr.mes_few]
 generalize t.mes.1=S at *
 clear hal hbox hN
 by_cases h:S≤1024
 ·have h1 : decide (((S : Nat) : Int) ≤ 1024) = true := by simp; omega
  rw [decide_eq_true h]
  clear h
  go_enter Tryz.func65,Tryz.ntmps65
  go_wp2_with (go_at_call 94;refine km.mono ?_;rintro e w1 ⟨rfl,hb⟩)
  go_ret
  exact ⟨rfl,hB.out.trans (hb.mono hs.out)⟩
 ·have h1 : decide (((S : Nat) : Int) ≤ 1024) = false := by simp; omega
  rw [decide_eq_false h]
  clear h
  go_enter Tryz.func65,Tryz.ntmps65
  go_wp2_with (go_at_call 94;refine km.mono ?_;rintro e w1 ⟨rfl,hb⟩)
  go_ret
  exact ⟨rfl,hB.out.trans (hb.mono hs.out)⟩
end Go.Proofs.YtejlaiofpekchaaGreatDoor
