/-
  A node written into a tree that lies in blocks of its own, where a path leads: what the tree is then.
  Trees in new memory, by their rows: a node taken apart and put together again.
  What comes of a node, and its losses: the contract of conv.tell's come; the kinds without kids.
  What comes of a node without kids.
  What comes of a node without kids, with a loss.
  What comes of a node without kids, with a loss.
  What comes of a node without kids, with a loss.
-/
import Derived.Test.YtejlaiofpekchaaGreatDoorC12
namespace Go.Proofs.YtejlaiofpekchaaGreatDoor
open Go.RowKit
set_option linter.unusedVariables false
theorem cells_inj{a b:Nb}(h:∀ j,j<9→a.cells[j]? = b.cells[j]?):a=b:=by
 have h0:=h 0 (by omega);have h1:=h 1 (by omega);have h2:=h 2 (by omega);have h3:=h 3 (by omega);have h4:=h 4 (by omega)
 have h5:=h 5 (by omega);have h6:=h 6 (by omega);have h7:=h 7 (by omega);have h8:=h 8 (by omega)
 cases a;cases b
 simp [Nb.cells] at h0 h1 h2 h3 h4 h5 h6 h7 h8
 obtain ⟨p1,p2,p3⟩:=h6
 obtain ⟨q1,q2,q3⟩:=h7
 obtain ⟨r1,r2,r3⟩:=h8
 subst h0 h1 h2 h3 h4 h5 p1 p2 p3 q1 q2 q3 r1 r2 r3
 rfl
theorem frD_le{tn:TypeId}{d e:Nat}{w:World}{b:Nb}{f:List Nat}(h:FrD tn d w b f)(hle:d≤e):FrD tn e w b f:=by
 induction hle with
 | refl=>exact h
 | step _ ih=>exact frD_succ _ ih
theorem rowfr{S:Nat→Prop}{D:Nat}{w:World}{a:Option Addr}{len cap:Nat}{l:List Tr}{f:List Nat}(ih:∀ (b:Nb) (t:Tr) (f:List Nat),NdS S D w b t→FrD 26 D w b f→NdS (· ∈ f) D w b t)
  (hR:RowN (NdS S D w) w a len cap l) (hF:FrR 26 (FrD 26 D w) w a len f):RowN (NdS (· ∈ f) D w) w a len cap l∧In (· ∈ f) a len:=by
 obtain ⟨hl,hroom,hrow⟩:=hR
 rcases hF with ⟨h0,rfl⟩ | ⟨g,cur,fs,ha,rfl,hg,hls,hfl,hel⟩
 ·subst h0
  have:l=[]:=List.eq_nil_of_length_eq_zero hl
  subst this
  exact ⟨⟨rfl,hroom, .inl rfl⟩,fun h=>by cases h⟩
 ·refine ⟨⟨hl, hroom, ?_⟩, fun _ x hx => by rw [ha] at hx; cases hx; exact List.mem_cons_self⟩
  rcases hrow with h | ⟨b',off',hb',hc'⟩
  ·exact .inl h
  ·refine .inr ⟨b', off', hb', fun i hi => ?_⟩
   obtain ⟨nb,h1,h2⟩:=hc' i hi
   obtain ⟨nb2,h3,h4⟩:=hel i (by omega)
   rw [ha] at hb'
   cases hb'
   have e:nb=nb2:=cells_inj fun j hj=>by
    have:=h1 j hj
    rw [Nat.zero_add,cell_row hg] at this
    exact this.symm.trans (h3 j hj)
   subst e
   exact ⟨nb,h1,(ih nb _ _ h2 h4).mono fun k hk=>List.mem_cons_of_mem _ (List.mem_flatten.2 ⟨_,List.getElem_mem _,hk⟩)⟩
theorem nds_fr{S:Nat→Prop}:∀ (D:Nat) {w:World} (b:Nb) (t:Tr) (f:List Nat),NdS S D w b t→FrD 26 D w b f→NdS (· ∈ f) D w b t:=by
 intro D
 induction D with
 | zero=>intro w b t f h;exact absurd h id
 | succ D ih =>
  intro w b t f h hF
  obtain ⟨h0,h1,h2,h3,h4,h5⟩:=h
  obtain ⟨f0,f1,f2,rfl,hc,hb,hk,hi⟩:=hF
  obtain ⟨r4,i4⟩:=rowfr (fun b t f=>ih b t f) h4 hk
  obtain ⟨r5,i5⟩:=rowfr (fun b t f=>ih b t f) h5 hi
  have m1:∀ k,k∈f1→k∈f0++(f1++f2):=fun k hk=>List.mem_append_right _ (List.mem_append_left _ hk)
  have m2:∀ k,k∈f2→k∈f0++(f1++f2):=fun k hk=>List.mem_append_right _ (List.mem_append_right _ hk)
  refine ⟨h0,h1,h2,⟨fun hl x hx=>?_,i4.mono m1,i5.mono m2⟩,r4.mono fun _ _ _ q=>q.mono m1,r5.mono fun _ _ _ q=>q.mono m2⟩
  rcases hb with ⟨h,_⟩ | ⟨g,cur,ha,rfl,_⟩
  ·omega
  ·rw [ha] at hx;cases hx;exact List.mem_append_left _ (List.mem_singleton.2 rfl)
end Go.Proofs.YtejlaiofpekchaaGreatDoor
namespace Go.Proofs.YtejlaiofpekchaaGreatDoor
open Go.RowKit
set_option linter.unusedVariables false
def Fr(D:Nat)(w:World)(b:Nb)(t:Tr)(f:List Nat):Prop:=NdS (· ∈ f) D w b t∧FrD 26 D w b f∧f.Nodup
theorem Fr.stays{D:Nat}{w w':World}{b:Nb}{t:Tr}{f:List Nat}(h:Fr D w b t f)(hb:∀ k,k∈f→w'.heap[k]? = w.heap[k]?):Fr D w' b t f:=⟨h.1.stays hb,h.2.1.stays hb,h.2.2⟩
theorem Fr.le{D E:Nat}{w:World}{b:Nb}{t:Tr}{f:List Nat}(h:Fr D w b t f)(hle:D≤E):Fr E w b t f:=⟨h.1.le hle,frD_le h.2.1 hle,h.2.2⟩
theorem frR_ty{Q:Nb→List Nat→Prop}{w:World}{a:Option Addr}{len:Nat}{f:List Nat}(h:FrR 26 Q w a len f)(hQ:∀ nb g,Q nb g→∀ k∈g,∃ cur T,w.heap[k]? = some (.cells cur T (0,0))∧(T=5∨T=26)):∀ k∈f,∃ cur T,w.heap[k]? = some (.cells cur T (0,0))∧(T=5∨T=26):=by
 intro k hk
 rcases h with ⟨_,rfl⟩ | ⟨g,cur,fs,_,rfl,hg,_,_,hel⟩
 ·cases hk
 ·rcases List.mem_cons.1 hk with rfl | hk
  ·exact ⟨cur,26,hg, .inr rfl⟩
  ·obtain ⟨l, hl, hkl⟩ := List.mem_flatten.1 hk
   obtain ⟨i,hi,rfl⟩:=List.getElem_of_mem hl
   obtain ⟨nb,_,hq⟩:=hel i hi
   exact hQ nb _ hq k hkl
theorem frD_ty:∀ (D:Nat) {w:World} {b:Nb} {f:List Nat},FrD 26 D w b f→∀ k∈f,∃ cur T,w.heap[k]? = some (.cells cur T (0,0))∧(T=5∨T=26):=by
 intro D
 induction D with
 | zero=>intro w b f h;exact absurd h id
 | succ D ih =>
  intro w b f h k hk
  obtain ⟨f0,f1,f2,rfl,_,hb,h1,h2⟩:=h
  rcases List.mem_append.1 hk with hk | hk
  ·rcases hb with ⟨_, rfl⟩ | ⟨g, cur, _, rfl, hg, _⟩
   ·cases hk
   ·simp at hk;subst hk;exact ⟨cur,5,hg, .inl rfl⟩
  ·rcases List.mem_append.1 hk with hk | hk
   ·exact frR_ty h1 (fun nb g q=>ih q) k hk
   ·exact frR_ty h2 (fun nb g q=>ih q) k hk
theorem Fr.ty{D:Nat}{w:World}{b:Nb}{t:Tr}{f:List Nat}(h:Fr D w b t f):∀ k∈f,∃ cur T,w.heap[k]? = some (.cells cur T (0,0))∧(T=5∨T=26):=frD_ty D h.2.1
theorem Fr.lt{D:Nat}{w:World}{b:Nb}{t:Tr}{f:List Nat}(h:Fr D w b t f):∀ k∈f,k<w.heap.size:=fun k hk=>by
 obtain ⟨cur,T,e,_⟩:=h.ty k hk
 exact (Array.getElem?_eq_some_iff.1 e).1
theorem Fr.nd{D:Nat}{w:World}{b:Nb}{t:Tr}{f:List Nat}(h:Fr D w b t f):Nd D w b t:=h.1.nd
abbrev El:=Nb × Tr × List Nat
def elF(es:List El):List Nat:=(es.map (·.2.2)).flatten
def elT(es:List El):List Tr:=es.map (·.2.1)
structure RW(D:Nat)(w:World)(g:Nat)(es:List El):Prop where
 row:∃ cur,w.heap[g]? = some (.cells cur 26 (0,0))∧es.length*9≤cur.size∧∀ i (h:i<es.length) j,j<9→cur[i*9+j]? = es[i].1.cells[j]?
 el:∀ i (h:i<es.length),Fr D w es[i].1 es[i].2.1 es[i].2.2
 nd:(g::elF es).Nodup
theorem list_of{α : Type}{P:Nat→α → Prop}:∀ n,(∀ i,i<n→∃ x,P i x)→∃ l:List α,l.length=n∧∀ i (h:i<l.length),P i l[i]:=by
 intro n
 induction n with
 | zero=>intro _;exact ⟨[],rfl,fun i h=>by cases h⟩
 | succ n ih =>
  intro h
  obtain ⟨l,hl,hP⟩:=ih (fun i hi=>h i (by omega))
  obtain ⟨x,hx⟩:=h n (by omega)
  refine ⟨l++[x],by simp [hl],fun i hi=>?_⟩
  by_cases hil:i<l.length
  ·rw [List.getElem_append_left hil];exact hP i hil
  ·have e : i = l.length := by simp at hi; omega
   subst e
   simp only [List.getElem_concat_length]
   rw [hl];exact hx
def KR(D:Nat)(w:World)(a:Option Addr)(n c:Nat)(l:List Tr)(f:List Nat):Prop :=
 Room 136 a n c∧((l=[]∧n=0∧f=[])∨∃ g es,a=some ⟨g,0,none⟩∧n=es.length∧0<n∧RW D w g es∧elT es=l∧f=g::elF es)
theorem nod_el:∀ {fs:List (List Nat)} {x:List Nat},fs.flatten.Nodup→x∈fs→x.Nodup:=by
 intro fs
 induction fs with
 | nil=>intro x _ hx;cases hx
 | cons a r ih =>
  intro x h hx
  rw [List.flatten_cons] at h
  obtain ⟨h1,h2,_⟩:=List.nodup_append.1 h
  rcases List.mem_cons.1 hx with rfl | hx
  ·exact h1
  ·exact ih h2 hx
theorem kr_of{S:Nat→Prop}{D:Nat}{w:World}{a:Option Addr}{n c:Nat}{l:List Tr}{f:List Nat}(hR:RowN (NdS S D w) w a n c l)(hF:FrR 26 (FrD 26 D w) w a n f)(hn:f.Nodup):∃ f',(f'=f∨f'=[])∧KR D w a n c l f':=by
 obtain ⟨hl,hroom,hrow⟩:=hR
 by_cases hn0:n=0
 ·exact ⟨[], .inr rfl,hroom, .inl ⟨List.eq_nil_of_length_eq_zero (by omega),hn0,rfl⟩⟩
 refine ⟨f, .inl rfl,hroom, .inr ?_⟩
 rcases hF with ⟨h0,rfl⟩ | ⟨g,cur,fs,ha,rfl,hg,hls,hfl,hel⟩
 ·exact absurd h0 hn0
 ·rcases hrow with rfl | ⟨b', off', hb', hc'⟩
  ·exact absurd hl.symm hn0
  ·rw [ha] at hb'
   cases hb'
   have hnf:=List.nodup_cons.1 hn
   obtain ⟨es,hes,hE⟩:=list_of (P:=fun i (e:El)=>∀ (h1:i<fs.length) (h2:i<l.length),e.2.1=l[i]∧e.2.2=fs[i]∧(∀ j,j<9→cur[i*9+j]? = e.1.cells[j]?)∧Fr D w e.1 e.2.1 e.2.2) n (fun i hi=>by
    obtain ⟨nb,h1,h2⟩:=hc' i (by omega)
    obtain ⟨nb2,h3,h4⟩:=hel i (by omega)
    have e:nb=nb2:=cells_inj fun j hj=>by
     have:=h1 j hj
     rw [Nat.zero_add,cell_row hg] at this
     exact this.symm.trans (h3 j hj)
    subst e
    exact ⟨(nb,l[i],fs[i]),fun _ _=>⟨rfl,rfl,h3,nds_fr D _ _ _ h2 h4,h4,nod_el hnf.2 (List.getElem_mem _)⟩⟩)
   have e1:es.map (·.2.2)=fs:=by
    apply List.ext_getElem
    ·simp [hes,hfl]
    ·intro i h1 h2
     rw [List.getElem_map]
     exact (hE i (by simpa using h1) h2 (by simp at h1;omega)).2.1
   have e2:elT es=l:=by
    apply List.ext_getElem
    ·simp [elT,hes,hl]
    ·intro i h1 h2
     simp only [elT,List.getElem_map]
     exact (hE i (by simpa [elT] using h1) (by simp [elT] at h1;omega) h2).1
   refine ⟨g,es,ha,hes.symm,by omega,⟨⟨cur,hg,by rw [hes];exact hls,fun i h j hj=>(hE i h (by omega) (by omega)).2.2.1 j hj⟩,fun i h=>(hE i h (by omega) (by omega)).2.2.2,?_⟩,e2,?_⟩
   ·rw [elF,e1];exact hn
   ·rw [elF,e1]
theorem KR.stays{D:Nat}{w w':World}{a:Option Addr}{n c:Nat}{l:List Tr}{f:List Nat}(h:KR D w a n c l f)(hb:∀ k∈f,w'.heap[k]? = w.heap[k]?):KR D w' a n c l f:=by
 refine ⟨h.1,?_⟩
 rcases h.2 with h | ⟨g,es,ha,hn,h0,hR,hT,rfl⟩
 ·exact .inl h
 ·obtain ⟨cur, hg, hs, hc⟩ := hR.row
  exact .inr ⟨g,es,ha,hn,h0,⟨⟨cur,by rw [hb g List.mem_cons_self];exact hg,hs,hc⟩,fun i hi=>(hR.el i hi).stays fun k hk=>hb k (List.mem_cons_of_mem _ (List.mem_flatten.2 ⟨_,List.mem_map.2 ⟨_,List.getElem_mem hi,rfl⟩,hk⟩)),hR.nd⟩,hT,rfl⟩
theorem el_mem{es:List El}{i:Nat}(hi:i<es.length){k:Nat}(hk:k∈es[i].2.2):k∈elF es:=List.mem_flatten.2 ⟨_,List.mem_map.2 ⟨_,List.getElem_mem hi,rfl⟩,hk⟩
theorem KR.row{D:Nat}{w:World}{a:Option Addr}{n c:Nat}{l:List Tr}{f:List Nat}(h:KR D w a n c l f):RowN (NdS (· ∈ f) D w) w a n c l∧In (· ∈ f) a n∧FrR 26 (FrD 26 D w) w a n f∧f.Nodup:=by
 rcases h.2 with ⟨rfl,rfl,rfl⟩ | ⟨g,es,rfl,rfl,h0,hR,rfl,rfl⟩
 ·exact ⟨⟨rfl,h.1, .inl rfl⟩,(fun h=>by cases h), .inl ⟨rfl,rfl⟩,List.nodup_nil⟩
 ·obtain ⟨cur, hg, hs, hc⟩ := hR.row
  refine ⟨⟨by simp [elT],h.1, .inr ⟨g,0,rfl,fun i hi=>?_⟩⟩,fun _ x hx=>by cases hx;exact List.mem_cons_self, .inr ⟨g,cur,es.map (·.2.2),rfl,rfl,hg,hs,by simp,fun i hi=>?_⟩,hR.nd⟩
  ·have hi' : i < es.length := by simpa [elT] using hi
   refine ⟨es[i].1,fun j hj=>?_,?_⟩
   ·rw [Nat.zero_add, cell_row hg]
    exact hc i hi' j hj
   ·have e : (elT es)[i] = es[i].2.1 := by simp [elT]
    rw [e]
    exact (hR.el i hi').1.mono fun k hk=>List.mem_cons_of_mem _ (el_mem hi' hk)
  ·have hi' : i < es.length := by simpa using hi
   refine ⟨es[i].1,fun j hj=>hc i hi' j hj,?_⟩
   have e:(es.map (·.2.2))[i]=es[i].2.2:=by simp
   rw [e]
   exact (hR.el i hi').2.1
def Hd(b:Nb)(t:Tr):Prop:=(b.kind=t.kind∧b.num=t.num∧b.neg=t.neg∧b.dig=t.dig∧b.exp=t.exp∧b.txt=t.txt)∧((Lit.int .i64 t.kind).wf=true∧(Lit.int .u64 t.num).wf=true∧(Lit.int .i64 t.exp).wf=true∧t.dig.size≤140737488351232∧t.txt.size≤140737488351232)
def KB(w:World)(a:Option Addr)(n c:Nat)(zs:List Int)(f:List Nat):Prop:=zs.length=n∧Room 1 a n c∧Bytes w a zs∧FrB w a n f
theorem Fr.split{D:Nat}{w:World}{b:Nb}{t:Tr}{f:List Nat}(h:Fr (D+1) w b t f):∃ f0 f1 f2,(∀ k∈f0++(f1++f2),k∈f)∧(f0++(f1++f2)).Nodup∧Hd b t∧KB w b.ab b.lb b.cb t.bytes f0∧KR D w b.ak b.lk b.ck t.keys f1∧KR D w b.ai b.li b.ci t.kids f2:=by
 obtain ⟨⟨h0,h1,h2,h3,h4,h5⟩,⟨f0,f1,f2,rfl,hc,hb,hk,hi⟩,hn⟩:=h
 obtain ⟨n0,n12,nx⟩:=List.nodup_append.1 hn
 obtain ⟨n1,n2,ny⟩:=List.nodup_append.1 n12
 obtain ⟨g1,e1,k1⟩:=kr_of h4 hk n1
 obtain ⟨g2,e2,k2⟩:=kr_of h5 hi n2
 have m1:∀ k∈g1,k∈f1:=fun k hm=>by
  rcases e1 with e | e
  ·rw [←e];exact hm
  ·rw [e] at hm;cases hm
 have m2:∀ k∈g2,k∈f2:=fun k hm=>by
  rcases e2 with e | e
  ·rw [←e];exact hm
  ·rw [e] at hm;cases hm
 have q1:g1.Nodup:=by
  rcases e1 with e | e
  ·rw [e];exact n1
  ·rw [e];exact List.nodup_nil
 have q2:g2.Nodup:=by
  rcases e2 with e | e
  ·rw [e];exact n2
  ·rw [e];exact List.nodup_nil
 refine ⟨f0,g1,g2,fun k hk=>?_,?_,⟨h0,h1⟩,⟨h2.1,h2.2.1,h2.2.2,hb⟩,k1,k2⟩
 ·rcases List.mem_append.1 hk with hk | hk
  ·exact List.mem_append_left _ hk
  ·rcases List.mem_append.1 hk with hk | hk
   ·exact List.mem_append_right _ (List.mem_append_left _ (m1 k hk))
   ·exact List.mem_append_right _ (List.mem_append_right _ (m2 k hk))
 ·refine List.nodup_append.2 ⟨n0, List.nodup_append.2 ⟨q1, q2, fun a ha b hb => ny a (m1 a ha) b (m2 b hb)⟩, fun a ha b hb => nx a ha b ?_⟩
  rcases List.mem_append.1 hb with hb | hb
  ·exact List.mem_append_left _ (m1 b hb)
  ·exact List.mem_append_right _ (m2 b hb)
theorem fr_join{D:Nat}{w:World}{b:Nb}{t:Tr}{f0 f1 f2:List Nat}(hh:Hd b t)(h0:KB w b.ab b.lb b.cb t.bytes f0)(h1:KR D w b.ak b.lk b.ck t.keys f1)(h2:KR D w b.ai b.li b.ci t.kids f2)(hn:(f0++(f1++f2)).Nodup):Fr (D+1) w b t (f0++(f1++f2)):=by
 obtain ⟨r1,i1,x1,_⟩:=h1.row
 obtain ⟨r2,i2,x2,_⟩:=h2.row
 have m1:∀ k,k∈f1→k∈f0++(f1++f2):=fun k hk=>List.mem_append_right _ (List.mem_append_left _ hk)
 have m2:∀ k,k∈f2→k∈f0++(f1++f2):=fun k hk=>List.mem_append_right _ (List.mem_append_right _ hk)
 refine ⟨⟨hh.1,hh.2,⟨h0.1,h0.2.1,h0.2.2.1⟩,⟨fun hl x hx=>?_,i1.mono m1,i2.mono m2⟩,r1.mono fun _ _ _ q=>q.mono m1,r2.mono fun _ _ _ q=>q.mono m2⟩,⟨f0,f1,f2,rfl,⟨h0.2.1.1,h1.1.1,h2.1.1,h0.2.1.2.1,h1.1.2.1,h2.1.2.1⟩,h0.2.2.2,x1,x2⟩,hn⟩
 rcases h0.2.2.2 with ⟨e,_⟩ | ⟨g,cur,ha,rfl,_⟩
 ·omega
 ·rw [ha] at hx
  cases hx
  exact List.mem_append_left _ (by simp)
end Go.Proofs.YtejlaiofpekchaaGreatDoor
namespace Go.Proofs.YtejlaiofpekchaaGreatDoor
open Go.RowKit
set_option linter.unusedVariables false
def hexS(l:List Int):ByteArray:=strOfNums (hexL l)
def tlF(d:Nat)(t:Tr)(p:List Int):Tr × List Lz:=tellF numV hexS d t p
def Shp(u:Tr):Prop:=(u.kind=9→0<u.kids.length)∧(u.kind=8→u.keys.length=u.kids.length)∧u.bytes.length≤50000∧u.keys.length≤100000∧u.kids.length≤100000
structure Ev(w:World)(gl gs gc:Nat):Prop where
 lo:Blk w gs #[.func (.func 34) #[] #[.pointer (some ⟨gl,0,none⟩)]] 66
 co:Blk w gc #[.func (.func 36) #[] #[.pointer (some ⟨gs,0,none⟩), .pointer (some ⟨gc,0,none⟩)]] 52
theorem Ev.kept{w w':World}{gl gs gc:Nat}(h:Ev w gl gs gc)(hb:Below w.heap.size w w'):Ev w' gl gs gc:=⟨h.lo.kept hb h.lo.lt,h.co.kept hb h.co.lt⟩
def Ty(w:World)(f:List Nat):Prop:=∀ k∈f,∃ cur T,w.heap[k]? = some (.cells cur T (0,0))∧(T=5∨T=26)
theorem Ty.not{w:World}{f:List Nat}(h:Ty w f){k:Nat}{cs:Array Value}{T:TypeId}(hb:Blk w k cs T)(h5:T≠5)(hn:T≠26):k ∉ f:=fun hk=>by
 obtain ⟨cur,T',e,ht⟩:=h k hk
 unfold Blk at hb
 rw [hb] at e
 simp at e
 rcases ht with rfl | rfl
 ·exact h5 e.2
 ·exact hn e.2
theorem blk_ne{w:World}{g k:Nat}{cs ds:Array Value}{T U:TypeId}(h:Blk w g cs T)(h':Blk w k ds U)(hT:T≠U):g≠k:=fun e=>by
 subst e
 unfold Blk at h h'
 rw [h] at h'
 simp at h'
 exact hT h'.2
theorem Ev.kv{w w':World}{gl gs gc:Nat}{f:List Nat}{v:Value}(h:Ev w gl gs gc)(k:KV f gl w w')(hf:Ty w f)(hl:Blk w gl #[v] 27):Ev w' gl gs gc :=
 ⟨k.blk h.lo (by decide) (hf.not h.lo (by decide) (by decide)) (blk_ne h.lo hl (by decide)),k.blk h.co (by decide) (hf.not h.co (by decide) (by decide)) (blk_ne h.co hl (by decide))⟩
theorem Pth.kv{w w':World}{gl:Nat}{f:List Nat}{v:Value}{pa:Option Addr}{np cp:Nat}{ps:List Int}(h:Pth w pa np cp ps)(k:KV f gl w w')(hf:Ty w f)(hl:Blk w gl #[v] 27):Pth w' pa np cp ps:=by
 have hs:∀ x,pa=some x→0<np→w'.heap[x.block]? = w.heap[x.block]? := fun x hx h0=>by
  obtain ⟨cur,m,e⟩:=h.ty h0 x hx
  refine k.block _ (Array.getElem?_eq_some_iff.1 e).1 (fun hm=>?_) (fun hm=>?_) (fun c2 m2 q=>?_)
  ·obtain ⟨c3, T, e3, ht⟩ := hf _ hm
   rw [e] at e3
   simp at e3
   rcases ht with rfl | rfl
   ·exact absurd e3.2.1 (by decide)
   ·exact absurd e3.2.1 (by decide)
  ·unfold Blk at hl
   rw [←hm,e] at hl
   simp at hl
  ·rw [e] at q
   simp at q
 refine { h with ints:=?_,ty:=fun h0 x hx=>?_ }
 ·obtain ⟨h1, h2⟩ := h.ints
  refine ⟨h1,?_⟩
  rcases h2 with h2 | ⟨b,off,ha,hc⟩
  ·exact .inl h2
  ·refine .inr ⟨b, off, ha, fun i hi => ?_⟩
   rw [World.cell?_of_block (w:=w) (a:=⟨b,off+i,none⟩) (show w'.heap[b]? = w.heap[b]? from hs ⟨b,off,none⟩ ha (by have:=h.len;omega))]
   exact hc i hi
 ·obtain ⟨cur, m, e⟩ := h.ty h0 x hx
  exact ⟨cur,m,by rw [hs x hx h0];exact e⟩
structure CI(d B0 gl B gs gc:Nat)(w:World)(b:Nb)(t:Tr)(f:List Nat)(pa:Option Addr)(np cp:Nat)(ps:List Int)(ls:List Lz):Prop where
 fr:Fr d w b t f
 sh:t.All Shp
 ev:Ev w gl gs gc
 lss:LS w gl B ls
 pt:Pth w pa np cp ps
 lo:∀ k∈f,B0≤k
 lg:B0≤gl
 bb:B≤w.heap.size
 nl:ls.length+t.size≤500000
 nd:np+2*d≤500000
 tb:Tab B0 w
structure CO(d B0 gl B:Nat)(w w':World)(t:Tr)(f:List Nat)(ps:List Int)(ls:List Lz)(b':Nb)(f':List Nat):Prop where
 fr:Fr (2*d) w' b' (tlF d t ps).1 f'
 fs:∀ k∈f',k∈f∨w.heap.size≤k
 lss:LS w' gl B (ls++(tlF d t ps).2)
 kv:KV f gl w w'
 lw:Below B0 w w'
def CmAt(d:Nat):Prop:=∀ (B0 gl B gs gc:Nat) (w:World) (b:Nb) (t:Tr) (f:List Nat) (pa:Option Addr) (np cp:Nat) (ps:List Int) (ls:List Lz),CI d B0 gl B gs gc w b t f pa np cp ps ls →
 Calls Tryz.prog 36 #[.agg b.arr, .slice pa np cp, .pointer (some ⟨gs,0,none⟩), .pointer (some ⟨gc,0,none⟩)] w fun e w'=>∃ b' f',e = .returned (.agg b'.arr)∧Hid (CO d B0 gl B w w' t f ps ls b' f')
theorem LS.kept{w w':World}{gl B:Nat}{ls:List Lz}(h:LS w gl B ls)(hb:Below w.heap.size w w'):LS w' gl B ls:=by
 obtain ⟨h0,v,L,hx,ho,hm⟩:=h
 exact ⟨h0,v,L,hx.kept hb hx.lt,ho.kept hb,hm⟩
theorem LS.box{w:World}{gl B:Nat}{ls:List Lz}(h:LS w gl B ls):∃ v,Blk w gl #[v] 27:=by obtain ⟨_,v,_,hx,_⟩:=h;exact ⟨v,hx⟩
theorem LS.lt{w:World}{gl B:Nat}{ls:List Lz}(h:LS w gl B ls):gl<w.heap.size:=by obtain ⟨v,h⟩:=h.box;exact h.lt
theorem CI.kept{d B0 gl B gs gc:Nat}{w w':World}{b:Nb}{t:Tr}{f:List Nat}{pa:Option Addr}{np cp:Nat}{ps:List Int}{ls:List Lz}(h:CI d B0 gl B gs gc w b t f pa np cp ps ls)(hb:Below w.heap.size w w'):CI d B0 gl B gs gc w' b t f pa np cp ps ls :=
 { h with
  fr:=h.fr.stays fun k hk=>hb.block k (h.fr.lt k hk)
  ev:=h.ev.kept hb
  lss:=h.lss.kept hb
  pt:=h.pt.kept hb
  bb:=Nat.le_trans h.bb hb.size
  tb:=h.tb.on (hb.mono (Nat.le_trans h.lg (Nat.le_of_lt h.lss.lt))) }
theorem fr_leaf(D:Nat)(w:World){t:Tr}(hb:t.bytes=[])(hk:t.keys=[])(hi:t.kids=[])(hw:(Lit.int .i64 t.kind).wf=true∧(Lit.int .u64 t.num).wf=true∧(Lit.int .i64 t.exp).wf=true∧t.dig.size≤140737488351232∧t.txt.size≤140737488351232):Fr (D+1) w (nlf t) t []:=by
 have r0:∀ k,Room k none 0 0:=fun k=>⟨Nat.le_refl _,Nat.zero_le _,fun _=>rfl,by omega⟩
 exact fr_join (f0:=[]) (f1:=[]) (f2:=[]) ⟨⟨rfl,rfl,rfl,rfl,rfl,rfl⟩,hw⟩ ⟨by rw [hb];rfl,r0 1,by rw [hb];exact ⟨by simp,by simp, .inl rfl⟩, .inl ⟨rfl,rfl⟩⟩ ⟨r0 136, .inl ⟨hk,rfl,rfl⟩⟩ ⟨r0 136, .inl ⟨hi,rfl,rfl⟩⟩ (by simp)
theorem boxes_new(w:World)(b:Nb):NBox ((w.alloc (.cells b.arr 26)).alloc (.cells #[.int .i64 0, .int .u64 0, .bool false, .string ⟨#[]⟩, .int .i64 0, .string ⟨#[]⟩, .slice none 0 0, .slice none 0 0, .slice none 0 0] 26)) w.heap.size b∧NBox ((w.alloc (.cells b.arr 26)).alloc (.cells #[.int .i64 0, .int .u64 0, .bool false, .string ⟨#[]⟩, .int .i64 0, .string ⟨#[]⟩, .slice none 0 0, .slice none 0 0, .slice none 0 0] 26)) (w.heap.size+1) zN∧Below w.heap.size w ((w.alloc (.cells b.arr 26)).alloc (.cells #[.int .i64 0, .int .u64 0, .bool false, .string ⟨#[]⟩, .int .i64 0, .string ⟨#[]⟩, .slice none 0 0, .slice none 0 0, .slice none 0 0] 26))∧((w.alloc (.cells b.arr 26)).alloc (.cells #[.int .i64 0, .int .u64 0, .bool false, .string ⟨#[]⟩, .int .i64 0, .string ⟨#[]⟩, .slice none 0 0, .slice none 0 0, .slice none 0 0] 26)).heap.size=w.heap.size+2:=by
 have h1:=alloc_below w (.cells b.arr 26)
 have h2:=alloc_below (w.alloc (.cells b.arr 26)) (.cells #[.int .i64 0, .int .u64 0, .bool false, .string ⟨#[]⟩, .int .i64 0, .string ⟨#[]⟩, .slice none 0 0, .slice none 0 0, .slice none 0 0] 26)
 have s1:(w.alloc (.cells b.arr 26)).heap.size=w.heap.size+1:=by simp
 have n2:=nbox_new (w.alloc (.cells b.arr 26)) zN
 rw [s1] at n2
 exact ⟨(nbox_new w b).kept h2 (by omega),n2,h1.trans (h2.mono (by omega)),by simp⟩
end Go.Proofs.YtejlaiofpekchaaGreatDoor
namespace Go.Proofs.YtejlaiofpekchaaGreatDoor
open Go.RowKit
set_option linter.unusedVariables false
theorem Fr.kind{D:Nat}{w:World}{b:Nb}{t:Tr}{f:List Nat}(h:Fr (D+1) w b t f):b.kind=t.kind∧b.num=t.num:=⟨h.1.1.1,h.1.1.2.1⟩
theorem Fr.wf{D:Nat}{w:World}{b:Nb}{t:Tr}{f:List Nat}(h:Fr (D+1) w b t f):(Lit.int .u64 t.num).wf=true:=h.1.2.1.2.1
theorem kv_fin{w W w2 w3:World}{gl r B0:Nat}{f:List Nat}(hB:Below w.heap.size w W)(h1:KV [] gl W w2)(h2:Below gl W w2)(hk:Kp (fun k=>k=r) w2 w3)(hr:w.heap.size≤r)(hg:gl<w.heap.size)(hb:B0≤gl):KV f gl w w3∧Below B0 w w3:=by
 refine ⟨⟨hk.os.trans (h1.os.trans hB.os),hk.tape.trans (h1.tape.trans hB.tape),hk.output.trans (h1.output.trans hB.output),Nat.le_trans hB.size (Nat.le_trans h1.size hk.size),fun k hk1 hk2 hk3 hk4=>?_⟩,⟨hk.os.trans (h1.os.trans hB.os),hk.tape.trans (h1.tape.trans hB.tape),hk.output.trans (h1.output.trans hB.output),Nat.le_trans hB.size (Nat.le_trans h1.size hk.size),fun k hk1=>?_⟩⟩
 ·have e := hB.block k hk1
  have hW:=Nat.lt_of_lt_of_le hk1 hB.size
  rw [hk.block k (Nat.lt_of_lt_of_le hW h1.size) (by omega),h1.block k hW (by simp) hk3 (fun cur m q=>hk4 cur m (e.symm.trans q)),e]
 ·have e := hB.block k (by omega)
  have hW:k<W.heap.size:=by have:=hB.size;omega
  rw [hk.block k (Nat.lt_of_lt_of_le hW h1.size) (by omega),h2.block k (by omega),e]
theorem NBox.kv{w w':World}{g gl:Nat}{b:Nb}{v:Value}{f:List Nat}(h:NBox w g b)(k:KV f gl w w')(hn:g ∉ f)(hl:Blk w gl #[v] 27):NBox w' g b:=k.blk (T:=26) (show Blk w g b.arr 26 from h) (by decide) hn (blk_ne (show Blk w g b.arr 26 from h) hl (by decide))
theorem Fr.kv{D:Nat}{w w':World}{b:Nb}{t:Tr}{f g:List Nat}{gl:Nat}{v:Value}(h:Fr D w b t f)(k:KV g gl w w')(hg:∀ k∈f,k ∉ g)(hl:Blk w gl #[v] 27):Fr D w' b t f:=h.stays fun i hi=>by
 obtain ⟨cur,T,e,ht⟩:=h.ty i hi
 refine k.block i (Array.getElem?_eq_some_iff.1 e).1 (hg i hi) (fun q=>?_) (fun c m q=>?_)
 ·subst q
  unfold Blk at hl
  rw [hl] at e
  simp at e
  rcases ht with rfl | rfl
  ·exact absurd e.2 (by decide)
  ·exact absurd e.2 (by decide)
 ·rw [e] at q
  simp at q
  rcases ht with rfl | rfl
  ·exact absurd q.2.1 (by decide)
  ·exact absurd q.2.1 (by decide)
theorem Fr.byt{D:Nat}{w:World}{b:Nb}{t:Tr}{f:List Nat}(h:Fr (D+1) w b t f):t.bytes.length=b.lb∧b.lb≤b.cb∧b.cb≤maxLen∧Bytes w b.ab t.bytes:=⟨h.1.2.2.1.1,h.1.2.2.1.2.1.1,h.1.2.2.1.2.1.2.1,h.1.2.2.1.2.2⟩
theorem e_lose:∀ args w,(callFunc 34 args).run Tryz.prog w = .ok (.enter 34 args) w:=enters_of Tryz.func34 (by kernel_rfl) rfl
theorem e_come:∀ args w,(callFunc 36 args).run Tryz.prog w = .ok (.enter 36 args) w:=enters_of Tryz.func36 (by kernel_rfl) rfl
set_option maxHeartbeats 2000000 in
set_option maxRecDepth 100000 in
theorem come_leaf{d B0 gl B gs gc:Nat}{w:World}{b:Nb}{t:Tr}{f:List Nat}{pa:Option Addr}{np cp:Nat}{ps:List Int}{ls:List Lz}(h:CI (d+1) B0 gl B gs gc w b t f pa np cp ps ls)(hk:t.kind≠4∧t.kind≠6∧t.kind≠7∧t.kind≠8∧t.kind≠9∧t.kind≠10) :
  Calls Tryz.prog 36 #[.agg b.arr, .slice pa np cp, .pointer (some ⟨gs,0,none⟩), .pointer (some ⟨gc,0,none⟩)] w fun e w'=>∃ b' f',e = .returned (.agg b'.arr)∧Hid (CO (d+1) B0 gl B w w' t f ps ls b' f'):=by
 obtain ⟨hN,hR,hB,hS⟩:=boxes_new w b
 have hbk:=h.fr.kind.1
 have ht:tlF (d+1) t ps=(t,[]):=by unfold tlF tellF;rw [if_neg hk.1,if_neg hk.2.1,if_neg hk.2.2.2.2.2,if_neg hk.2.2.2.2.1,if_neg hk.2.2.1,if_neg hk.2.2.2.1]
 have hC:Hid (∀ w',Below w.heap.size w w'→CO (d+1) B0 gl B w w' t f ps ls b f):=fun w' hb=>⟨by rw [ht];exact (h.kept hb).fr.le (by omega),fun k hk => .inl hk,by rw [ht,List.append_nil];exact (h.kept hb).lss,KV.of hb,hb.mono (Nat.le_trans h.lg (Nat.le_of_lt h.lss.lt))⟩
 have k4:(b.kind==4)=false:=by rw [hbk];simp;omega
 have k6:(b.kind==6)=false:=by rw [hbk];simp;omega
 have k10:(b.kind==10)=false:=by rw [hbk];simp;omega
 have k9:(b.kind==9)=false:=by rw [hbk];simp;omega
 have k7:(b.kind==7)=false:=by rw [hbk];simp;omega
 have k8:(b.kind==8)=false:=by rw [hbk];simp;omega
 clear h ht hbk hk
 have hB':Hid (Below w.heap.size w ((w.alloc (.cells b.arr 26)).alloc (.cells #[.int .i64 0, .int .u64 0, .bool false, .string ⟨#[]⟩, .int .i64 0, .string ⟨#[]⟩, .slice none 0 0, .slice none 0 0, .slice none 0 0] 26))):=hB
 have hr:Hid (w.heap.size≤w.heap.size+1∧w.heap.size+1<((w.alloc (.cells b.arr 26)).alloc (.cells #[.int .i64 0, .int .u64 0, .bool false, .string ⟨#[]⟩, .int .i64 0, .string ⟨#[]⟩, .slice none 0 0, .slice none 0 0, .slice none 0 0] 26)).heap.size):=⟨by omega,by omega⟩
 clear hB hS
 obtain ⟨a0,a1,a2,a3,a4,a5,a6,a7,a8⟩:=hN.fields
 obtain ⟨m0,m1,m2,m3,m4,m5,m6,m7,m8⟩:=hR.fields
 have z0:=hR.fz 0;have z1:=hR.fz 1;have z2:=hR.fz 2;have z3:=hR.fz 3;have z4:=hR.fz 4;have z5:=hR.fz 5;have z6:=hR.fz 6;have z7:=hR.fz 7;have z8:=hR.fz 8
 go_enter Tryz.func36,Tryz.ntmps36
 go_upto_region 1 with fail
 generalize ((w.alloc (.cells b.arr 26)).alloc (.cells #[.int .i64 0, .int .u64 0, .bool false, .string ⟨#[]⟩, .int .i64 0, .string ⟨#[]⟩, .slice none 0 0, .slice none 0 0, .slice none 0 0] 26))=W at *
 generalize w.heap.size+1=r at *
 go_wp2
 have hk:=nine_kp (b:=b) hR
 obtain ⟨q0,q1,q2,q3,q4,q5,q6,q7,q8⟩:=hk.1.fields
 refine bodyPost_ret (v := .agg b.arr) (by simp [results,Tryz.results36,go_sem,Nb.arr,q0,q1,q2,q3,q4,q5,q6,q7,q8]) rfl ⟨b,f,rfl,hC.out _ (hB'.out.trans (hk.2.below hB'.out.size fun k e=>by have:=hr.out;omega))⟩
end Go.Proofs.YtejlaiofpekchaaGreatDoor
namespace Go.Proofs.YtejlaiofpekchaaGreatDoor
open Go.RowKit
set_option linter.unusedVariables false
set_option maxHeartbeats 4000000 in
set_option maxRecDepth 100000 in
theorem come_simple{d B0 gl B gs gc:Nat}{w:World}{b:Nb}{t:Tr}{f:List Nat}{pa:Option Addr}{np cp:Nat}{ps:List Int}{ls:List Lz}(h:CI (d+1) B0 gl B gs gc w b t f pa np cp ps ls)(hk:t.kind=10) :
  Calls Tryz.prog 36 #[.agg b.arr, .slice pa np cp, .pointer (some ⟨gs,0,none⟩), .pointer (some ⟨gc,0,none⟩)] w fun e w'=>∃ b' f',e = .returned (.agg b'.arr)∧Hid (CO (d+1) B0 gl B w w' t f ps ls b' f'):=by
 obtain ⟨hN,hR,hB,hS⟩:=boxes_new w b
 have hbk:=h.fr.kind.1
 have ht:tlF (d+1) t ps=(nulT,[⟨ps,6,t.num⟩]):=by unfold tlF tellF;rw [if_neg (by omega),if_neg (by omega),if_pos hk]
 have hbn:=h.fr.kind.2
 have hbn':Hid (b.num=t.num):=hbn
 have hL:Hid (gl<w.heap.size∧B0≤gl):=⟨h.lss.lt,h.lg⟩
 have h':=h.kept hB
 obtain ⟨v0,hv0⟩:=h'.lss.box
 have kL:=lose_any pa np cp ps (6) (t.num) _ h'.lss h'.pt h'.bb (by have:=h.nl;omega)
 have g0:=h'.ev.lo.cell 0
 simp at g0
 have eL:=e_lose
 have hC:Hid (∀ w',LS w' gl B (ls++[⟨ps,6,t.num⟩])→KV f gl w w'→Below B0 w w'→CO (d+1) B0 gl B w w' t f ps ls (nlf nulT) []):=fun w' h1 h2 h3=>⟨by rw [ht];exact fr_leaf (2*d+1) w' rfl rfl rfl ⟨by decide,by decide,by decide,by decide,by decide⟩,(fun k hk=>by cases hk),by rw [ht];exact h1,h2,h3⟩
 have k4:(b.kind==4)=false:=by rw [hbk];simp [hk]
 have k6:(b.kind==6)=false:=by rw [hbk];simp [hk]
 have k10:(b.kind==10)=true:=by rw [hbk];simp [hk]
 rw [←hbn] at kL
 clear h ht hbk hk h' hbn
 have hB':Hid (Below w.heap.size w ((w.alloc (.cells b.arr 26)).alloc (.cells #[.int .i64 0, .int .u64 0, .bool false, .string ⟨#[]⟩, .int .i64 0, .string ⟨#[]⟩, .slice none 0 0, .slice none 0 0, .slice none 0 0] 26))):=hB
 have hr:Hid (w.heap.size≤w.heap.size+1∧w.heap.size+1<((w.alloc (.cells b.arr 26)).alloc (.cells #[.int .i64 0, .int .u64 0, .bool false, .string ⟨#[]⟩, .int .i64 0, .string ⟨#[]⟩, .slice none 0 0, .slice none 0 0, .slice none 0 0] 26)).heap.size):=⟨by omega,by omega⟩
 clear hB hS
 obtain ⟨a0,a1,a2,a3,a4,a5,a6,a7,a8⟩:=hN.fields
 obtain ⟨m0,m1,m2,m3,m4,m5,m6,m7,m8⟩:=hR.fields
 have z0:=hR.fz 0;have z1:=hR.fz 1;have z2:=hR.fz 2;have z3:=hR.fz 3;have z4:=hR.fz 4;have z5:=hR.fz 5;have z6:=hR.fz 6;have z7:=hR.fz 7;have z8:=hR.fz 8
 go_enter Tryz.func36,Tryz.ntmps36
 go_upto_region 1 with fail
 generalize ((w.alloc (.cells b.arr 26)).alloc (.cells #[.int .i64 0, .int .u64 0, .bool false, .string ⟨#[]⟩, .int .i64 0, .string ⟨#[]⟩, .slice none 0 0, .slice none 0 0, .slice none 0 0] 26))=W at *
 generalize w.heap.size+1=r at *
 go_wp2_with (go_at_fn 34;refine kL.mono ?_;rintro e w2 ⟨rfl,hLS,hK⟩;clear kL;have hN2:Hid (NBox w2 w.heap.size b):=hN.kv hK.out.1 (by simp) hv0;have hR2:Hid (NBox w2 r zN):=hR.kv hK.out.1 (by simp) hv0;obtain ⟨b0,b1,b2,b3,b4,b5,b6,b7,b8⟩:=hN2.out.fields;obtain ⟨n0,n1,n2,n3,n4,n5,n6,n7,n8⟩:=hR2.out.fields;have y0:=hR2.out.fz 0;have y1:=hR2.out.fz 1;have y2:=hR2.out.fz 2;have y3:=hR2.out.fz 3;have y4:=hR2.out.fz 4;have y5:=hR2.out.fz 5;have y6:=hR2.out.fz 6;have y7:=hR2.out.fz 7;have y8:=hR2.out.fz 8)
 have hk2:=nine_kp (b:=nlf nulT) hR2.out
 obtain ⟨q0,q1,q2,q3,q4,q5,q6,q7,q8⟩:=hk2.1.fields
 simp only [nlf,nulT] at q0 q1 q2 q3 q4 q5 q6 q7 q8
 refine bodyPost_ret (v := .agg (nlf nulT).arr) (by simp [results,Tryz.results36,go_sem,nlf,nulT,Nb.arr,q0,q1,q2,q3,q4,q5,q6,q7,q8]) rfl ⟨nlf nulT,[],rfl,?_⟩
 have hf:=kv_fin (f:=f) hB'.out hK.out.1 hK.out.2 hk2.2 hr.out.1 hL.out.1 hL.out.2
 refine hC.out _ ?_ hf.1 hf.2
 obtain ⟨g1,v1,L1,x1,x2,x3⟩:=hLS.out
 have hs:∀ k,k≠r→k<w2.heap.size→_:=fun k h1 h2=>hk2.2.block k h2 h1
 exact ⟨g1,v1,L1,x1.same (hs gl (by have:=hr.out;have:=hL.out;omega) x1.lt),x2.keep fun k cur e hb hc he=>hs k (fun e2=>by
  subst e2
  have h3:=hR2.out
  unfold NBox at h3
  rw [h3] at hc
  simp at hc
  rcases he with rfl | rfl <;> simp at hc) (Array.getElem?_eq_some_iff.1 hc).1,by rw [x3,hbn'.out]⟩
end Go.Proofs.YtejlaiofpekchaaGreatDoor
namespace Go.Proofs.YtejlaiofpekchaaGreatDoor
open Go.RowKit
set_option linter.unusedVariables false
set_option maxHeartbeats 4000000 in
set_option maxRecDepth 100000 in
theorem come_bytes{d B0 gl B gs gc:Nat}{w:World}{b:Nb}{t:Tr}{f:List Nat}{pa:Option Addr}{np cp:Nat}{ps:List Int}{ls:List Lz}(h:CI (d+1) B0 gl B gs gc w b t f pa np cp ps ls)(hk:t.kind=6) :
  Calls Tryz.prog 36 #[.agg b.arr, .slice pa np cp, .pointer (some ⟨gs,0,none⟩), .pointer (some ⟨gc,0,none⟩)] w fun e w'=>∃ b' f',e = .returned (.agg b'.arr)∧Hid (CO (d+1) B0 gl B w w' t f ps ls b' f'):=by
 obtain ⟨hN,hR,hB,hS⟩:=boxes_new w b
 have hbk:=h.fr.kind.1
 have hsz:Hid ((hexS t.bytes).size≤140737488351232):=by
  have h1:=((Tr.all_eq _ t).1 h.sh).1.2.2.1
  show (strOfNums (hexL t.bytes)).size≤_
  rw [strOfNums_size,hexL_len]
  omega
 have hD:Hid (∀ w2,Bytes w2 b.ab t.bytes→Calls Tryz.prog 38 #[.slice b.ab b.lb b.cb] w2 fun e w'=>e = .returned (.string (hexS t.bytes))∧Below w2.heap.size w2 w'):=fun w2 hb=>digits_any b.ab b.lb b.cb t.bytes w2 h.fr.byt.1 hb h.fr.byt.2.1 (by have:=h.fr.byt.2.2.1;unfold maxLen at this;omega) (by have:=((Tr.all_eq _ t).1 h.sh).1.2.2.1;have:=h.fr.byt.1;omega)
 have ht:tlF (d+1) t ps=((txtT0 (hexS t.bytes)),[⟨ps,3,0⟩]):=by unfold tlF tellF;rw [if_neg (by omega),if_pos hk]
 have hbn:=h.fr.kind.2
 have hbn':Hid (b.num=t.num):=hbn
 have hL:Hid (gl<w.heap.size∧B0≤gl):=⟨h.lss.lt,h.lg⟩
 have h':=h.kept hB
 obtain ⟨v0,hv0⟩:=h'.lss.box
 have kL:=lose_any pa np cp ps (3) (0) _ h'.lss h'.pt h'.bb (by have:=h.nl;omega)
 have g0:=h'.ev.lo.cell 0
 simp at g0
 have eL:=e_lose
 have hC:Hid (∀ w',LS w' gl B (ls++[⟨ps,3,0⟩])→KV f gl w w'→Below B0 w w'→CO (d+1) B0 gl B w w' t f ps ls (nlf (txtT0 (hexS t.bytes))) []):=fun w' h1 h2 h3=>⟨by rw [ht];exact fr_leaf (2*d+1) w' rfl rfl rfl ⟨show (Lit.int .i64 5).wf=true by decide,show (Lit.int .u64 0).wf=true by decide,show (Lit.int .i64 0).wf=true by decide,Nat.zero_le _,hsz.out⟩,(fun k hk=>by cases hk),by rw [ht];exact h1,h2,h3⟩
 have k4:(b.kind==4)=false:=by rw [hbk];simp [hk]
 have k6:(b.kind==6)=true:=by rw [hbk];simp [hk]
 have hBt:Hid (∀ w2,KV [] gl ((w.alloc (.cells b.arr 26)).alloc (.cells #[.int .i64 0, .int .u64 0, .bool false, .string ⟨#[]⟩, .int .i64 0, .string ⟨#[]⟩, .slice none 0 0, .slice none 0 0, .slice none 0 0] 26)) w2→Bytes w2 b.ab t.bytes):=fun w2 k=>(h'.fr.kv k (fun _ _ q=>by cases q) hv0).byt.2.2.2
 clear h ht hbk hk h' hbn
 have hB':Hid (Below w.heap.size w ((w.alloc (.cells b.arr 26)).alloc (.cells #[.int .i64 0, .int .u64 0, .bool false, .string ⟨#[]⟩, .int .i64 0, .string ⟨#[]⟩, .slice none 0 0, .slice none 0 0, .slice none 0 0] 26))):=hB
 have hr:Hid (w.heap.size≤w.heap.size+1∧w.heap.size+1<((w.alloc (.cells b.arr 26)).alloc (.cells #[.int .i64 0, .int .u64 0, .bool false, .string ⟨#[]⟩, .int .i64 0, .string ⟨#[]⟩, .slice none 0 0, .slice none 0 0, .slice none 0 0] 26)).heap.size):=⟨by omega,by omega⟩
 clear hB hS
 obtain ⟨a0,a1,a2,a3,a4,a5,a6,a7,a8⟩:=hN.fields
 obtain ⟨m0,m1,m2,m3,m4,m5,m6,m7,m8⟩:=hR.fields
 have z0:=hR.fz 0;have z1:=hR.fz 1;have z2:=hR.fz 2;have z3:=hR.fz 3;have z4:=hR.fz 4;have z5:=hR.fz 5;have z6:=hR.fz 6;have z7:=hR.fz 7;have z8:=hR.fz 8
 go_enter Tryz.func36,Tryz.ntmps36
 go_upto_region 1 with fail
 generalize ((w.alloc (.cells b.arr 26)).alloc (.cells #[.int .i64 0, .int .u64 0, .bool false, .string ⟨#[]⟩, .int .i64 0, .string ⟨#[]⟩, .slice none 0 0, .slice none 0 0, .slice none 0 0] 26))=W at *
 generalize w.heap.size+1=r at *
 go_wp2_with (first
  | (go_at_fn 34;refine kL.mono ?_;rintro e w2 ⟨rfl,hLS,hK⟩;clear kL;have hN2:Hid (NBox w2 w.heap.size b):=hN.kv hK.out.1 (by simp) hv0;have hR2:Hid (NBox w2 r zN):=hR.kv hK.out.1 (by simp) hv0;obtain ⟨b0,b1,b2,b3,b4,b5,b6,b7,b8⟩:=hN2.out.fields;obtain ⟨n0,n1,n2,n3,n4,n5,n6,n7,n8⟩:=hR2.out.fields;have y0:=hR2.out.fz 0;have y1:=hR2.out.fz 1;have y2:=hR2.out.fz 2;have y3:=hR2.out.fz 3;have y4:=hR2.out.fz 4;have y5:=hR2.out.fz 5;have y6:=hR2.out.fz 6;have y7:=hR2.out.fz 7;have y8:=hR2.out.fz 8;have hBy:Hid (Bytes w2 b.ab t.bytes):=hBt.out w2 hK.out.1)
  | (go_at_call 38;refine (hD.out _ hBy.out).mono ?_;rintro e w3 ⟨rfl,hb3⟩;clear b0 b1 b2 b3 b4 b5 b6 b7 b8 n0 n1 n2 n3 n4 n5 n6 n7 n8 y0 y1 y2 y3 y4 y5 y6 y7 y8;have hR3:Hid (NBox w3 r zN):=hR2.out.kept hb3 hR2.out.lt;have hK3:Hid (KV [] gl W w3∧Below gl W w3):=⟨hK.out.1.trans (KV.of (f:=[]) hb3) (fun i hi=>by cases hi),hK.out.2.trans (hb3.mono (Nat.le_of_lt hLS.out.lt))⟩;have hLS3:=hLS.out.kept hb3;have hLS4:Hid (LS w3 gl B (ls++[⟨ps,3,0⟩])):=hLS3;clear hLS3 hb3;obtain ⟨n0,n1,n2,n3,n4,n5,n6,n7,n8⟩:=hR3.out.fields;have y0:=hR3.out.fz 0;have y1:=hR3.out.fz 1;have y2:=hR3.out.fz 2;have y3:=hR3.out.fz 3;have y4:=hR3.out.fz 4;have y5:=hR3.out.fz 5;have y6:=hR3.out.fz 6;have y7:=hR3.out.fz 7;have y8:=hR3.out.fz 8))
 have hk2:=nine_kp (b:=nlf (txtT0 (hexS t.bytes))) hR3.out
 obtain ⟨q0,q1,q2,q3,q4,q5,q6,q7,q8⟩:=hk2.1.fields
 simp only [nlf,txtT0] at q0 q1 q2 q3 q4 q5 q6 q7 q8
 refine bodyPost_ret (v := .agg (nlf (txtT0 (hexS t.bytes))).arr) (by simp [results,Tryz.results36,go_sem,nlf,txtT0,Nb.arr,q0,q1,q2,q3,q4,q5,q6,q7,q8]) rfl ⟨nlf (txtT0 (hexS t.bytes)),[],rfl,?_⟩
 have hf:=kv_fin (f:=f) hB'.out hK3.out.1 hK3.out.2 hk2.2 hr.out.1 hL.out.1 hL.out.2
 refine hC.out _ ?_ hf.1 hf.2
 obtain ⟨g1,v1,L1,x1,x2,x3⟩:=hLS4.out
 have hs:∀ k,k≠r→k<w3.heap.size→_:=fun k h1 h2=>hk2.2.block k h2 h1
 exact ⟨g1,v1,L1,x1.same (hs gl (by have:=hr.out;have:=hL.out;omega) x1.lt),x2.keep fun k cur e hb hc he=>hs k (fun e2=>by
  subst e2
  have h3:=hR3.out
  unfold NBox at h3
  rw [h3] at hc
  simp at hc
  rcases he with rfl | rfl <;> simp at hc) (Array.getElem?_eq_some_iff.1 hc).1,x3⟩
end Go.Proofs.YtejlaiofpekchaaGreatDoor
namespace Go.Proofs.YtejlaiofpekchaaGreatDoor
open Go.RowKit
set_option linter.unusedVariables false
theorem u64_of{n:Int}(h:(Lit.int .u64 n).wf=true):0≤n∧n<18446744073709551616:=by
 simp [Lit.wf,show IntKind.u64.min=0 from by decide,show IntKind.u64.max=18446744073709551615 from by decide] at h
 omega
theorem i64_of{n:Int}(h : -9223372036854775808≤n∧n≤9223372036854775807):(Lit.int .i64 n).wf=true:=by
 simp [Lit.wf,show IntKind.i64.min = -9223372036854775808 from by decide,show IntKind.i64.max=9223372036854775807 from by decide]
 omega
theorem num_leaf(n:Int):(numV n).1.bytes=[]∧(numV n).1.keys=[]∧(numV n).1.kids=[]∧((Lit.int .i64 (numV n).1.kind).wf=true∧(Lit.int .u64 (numV n).1.num).wf=true∧(Lit.int .i64 (numV n).1.exp).wf=true∧(numV n).1.dig.size≤140737488351232∧(numV n).1.txt.size≤140737488351232):=by
 unfold numV
 by_cases h0:(exactA n).2=0
 ·obtain ⟨h1, h2, h3⟩ := right_bnd (exact_right h0)
  rw [if_neg (by simpa using h0)]
  by_cases hx:(exactA n).1.2.2<0
  ·rw [if_pos hx]
   exact ⟨rfl,rfl,rfl,show (Lit.int .i64 3).wf=true by decide,show (Lit.int .u64 0).wf=true by decide,i64_of (by show _≤(exactA n).1.2.2∧(exactA n).1.2.2≤_;omega),by show (exactA n).1.2.1.size≤_;omega,Nat.zero_le _⟩
  ·rw [if_neg hx]
   refine ⟨rfl,rfl,rfl,show (Lit.int .i64 2).wf=true by decide,show (Lit.int .u64 0).wf=true by decide,show (Lit.int .i64 0).wf=true by decide,?_,Nat.zero_le _⟩
   show ((exactA n).1.2.1++zrs (exactA n).1.2.2).size≤_
   rw [ByteArray.size_append]
   have:(zrs (exactA n).1.2.2).size=(exactA n).1.2.2.toNat:=by show (Lib.repeatL [48] _).toArray.size=_;rw [List.size_toArray,rep_len]
   omega
 ·rw [if_pos h0]
  exact ⟨rfl,rfl,rfl,by decide,by decide,by decide,by decide,by decide⟩
set_option maxHeartbeats 4000000 in
set_option maxRecDepth 100000 in
theorem come_float{d B0 gl B gs gc:Nat}{w:World}{b:Nb}{t:Tr}{f:List Nat}{pa:Option Addr}{np cp:Nat}{ps:List Int}{ls:List Lz}(h:CI (d+1) B0 gl B gs gc w b t f pa np cp ps ls)(hk:t.kind=4) :
  Calls Tryz.prog 36 #[.agg b.arr, .slice pa np cp, .pointer (some ⟨gs,0,none⟩), .pointer (some ⟨gc,0,none⟩)] w fun e w'=>∃ b' f',e = .returned (.agg b'.arr)∧Hid (CO (d+1) B0 gl B w w' t f ps ls b' f'):=by
 obtain ⟨hN,hR,hB,hS⟩:=boxes_new w b
 have hbk:=h.fr.kind.1
 have hlf:=num_leaf t.num
 obtain ⟨V,hVV⟩:∃ V,numV t.num=V:=⟨_,rfl⟩
 rw [hVV] at hlf
 have ht:tlF (d+1) t ps=(V.1,[⟨ps,V.2,t.num⟩]):=by unfold tlF tellF;rw [if_pos hk,hVV]
 have hbn:=h.fr.kind.2
 have hbn':Hid (b.num=t.num):=hbn
 have hL:Hid (gl<w.heap.size∧B0≤gl):=⟨h.lss.lt,h.lg⟩
 have h':=h.kept hB
 obtain ⟨v0,hv0⟩:=h'.lss.box
 have g0:=h'.ev.lo.cell 0
 simp at g0
 have eL:=e_lose
 have hC:Hid (∀ w',LS w' gl B (ls++[⟨ps,V.2,t.num⟩])→KV f gl w w'→Below B0 w w'→CO (d+1) B0 gl B w w' t f ps ls (nlf V.1) []):=fun w' h1 h2 h3=>⟨by rw [ht];exact (fr_leaf (2*d+1) w' hlf.1 hlf.2.1 hlf.2.2.1 hlf.2.2.2),(fun k hk=>by cases hk),by rw [ht];exact h1,h2,h3⟩
 have k4:(b.kind==4)=true:=by rw [hbk];simp [hk]
 have kN:=vnumber_any t.num (u64_of h.fr.wf) B0 _ h'.tb (Nat.le_trans h'.lg (Nat.le_of_lt h'.lss.lt))
 rw [hVV,←hbn] at kN
 have hgs:Hid (Blk ((w.alloc (.cells b.arr 26)).alloc (.cells #[.int .i64 0, .int .u64 0, .bool false, .string ⟨#[]⟩, .int .i64 0, .string ⟨#[]⟩, .slice none 0 0, .slice none 0 0, .slice none 0 0] 26)) gs #[.func (.func 34) #[] #[.pointer (some ⟨gl,0,none⟩)]] 66):=h'.ev.lo
 have hln:Hid (ls.length≤1000000):=by have:=h.nl;show _≤_;omega
 have kLf:Hid (∀ w',Below ((w.alloc (.cells b.arr 26)).alloc (.cells #[.int .i64 0, .int .u64 0, .bool false, .string ⟨#[]⟩, .int .i64 0, .string ⟨#[]⟩, .slice none 0 0, .slice none 0 0, .slice none 0 0] 26)).heap.size ((w.alloc (.cells b.arr 26)).alloc (.cells #[.int .i64 0, .int .u64 0, .bool false, .string ⟨#[]⟩, .int .i64 0, .string ⟨#[]⟩, .slice none 0 0, .slice none 0 0, .slice none 0 0] 26)) w'→Calls Tryz.prog 34 #[.slice pa np cp, .int .i64 V.2, .int .u64 b.num, .pointer (some ⟨gl,0,none⟩)] w' fun e w''=>e = .returned (.tuple #[])∧Hid (LS w'' gl B (ls++[⟨ps,V.2,b.num⟩]))∧Hid (KV [] gl w' w''∧Below gl w' w'')):=fun w' hb=>lose_any pa np cp ps V.2 b.num w' (h'.kept hb).lss (h'.kept hb).pt (h'.kept hb).bb hln.out
 obtain ⟨V1,V2⟩:=V
 simp only at kN kLf hC
 rw [show (nlf V1).arr=#[.int .i64 V1.kind, .int .u64 V1.num, .bool V1.neg, .string V1.dig, .int .i64 V1.exp, .string V1.txt, .slice none 0 0, .slice none 0 0, .slice none 0 0] from rfl] at kN
 clear h ht hbk hk h' hbn
 have hB':Hid (Below w.heap.size w ((w.alloc (.cells b.arr 26)).alloc (.cells #[.int .i64 0, .int .u64 0, .bool false, .string ⟨#[]⟩, .int .i64 0, .string ⟨#[]⟩, .slice none 0 0, .slice none 0 0, .slice none 0 0] 26))):=hB
 have hr:Hid (w.heap.size≤w.heap.size+1∧w.heap.size+1<((w.alloc (.cells b.arr 26)).alloc (.cells #[.int .i64 0, .int .u64 0, .bool false, .string ⟨#[]⟩, .int .i64 0, .string ⟨#[]⟩, .slice none 0 0, .slice none 0 0, .slice none 0 0] 26)).heap.size):=⟨by omega,by omega⟩
 clear hB hS
 obtain ⟨a0,a1,a2,a3,a4,a5,a6,a7,a8⟩:=hN.fields
 obtain ⟨m0,m1,m2,m3,m4,m5,m6,m7,m8⟩:=hR.fields
 have z0:=hR.fz 0;have z1:=hR.fz 1;have z2:=hR.fz 2;have z3:=hR.fz 3;have z4:=hR.fz 4;have z5:=hR.fz 5;have z6:=hR.fz 6;have z7:=hR.fz 7;have z8:=hR.fz 8
 go_enter Tryz.func36,Tryz.ntmps36
 go_upto_region 1 with fail
 generalize ((w.alloc (.cells b.arr 26)).alloc (.cells #[.int .i64 0, .int .u64 0, .bool false, .string ⟨#[]⟩, .int .i64 0, .string ⟨#[]⟩, .slice none 0 0, .slice none 0 0, .slice none 0 0] 26))=W at *
 generalize w.heap.size+1=r at *
 go_wp2_with (first
  | (go_at_call 37;refine kN.mono ?_;rintro e w4 ⟨rfl,hb4⟩;clear kN;have hA5:=alloc_below w4 (.cells #[.int .i64 V1.kind, .int .u64 V1.num, .bool V1.neg, .string V1.dig, .int .i64 V1.exp, .string V1.txt, .slice none 0 0, .slice none 0 0, .slice none 0 0] 26);have hB5:=hb4.trans (hA5.mono hb4.size);have hB6:Hid (Below w.heap.size w (w4.alloc (.cells #[.int .i64 V1.kind, .int .u64 V1.num, .bool V1.neg, .string V1.dig, .int .i64 V1.exp, .string V1.txt, .slice none 0 0, .slice none 0 0, .slice none 0 0] 26))):=hB'.out.trans (hB5.mono hB'.out.size);have hN5:Hid (NBox (w4.alloc (.cells #[.int .i64 V1.kind, .int .u64 V1.num, .bool V1.neg, .string V1.dig, .int .i64 V1.exp, .string V1.txt, .slice none 0 0, .slice none 0 0, .slice none 0 0] 26)) w.heap.size b):=hN.kept hB5 hN.lt;have hR5:Hid (NBox (w4.alloc (.cells #[.int .i64 V1.kind, .int .u64 V1.num, .bool V1.neg, .string V1.dig, .int .i64 V1.exp, .string V1.txt, .slice none 0 0, .slice none 0 0, .slice none 0 0] 26)) r zN):=hR.kept hB5 hR.lt;have hT5:Hid (NBox (w4.alloc (.cells #[.int .i64 V1.kind, .int .u64 V1.num, .bool V1.neg, .string V1.dig, .int .i64 V1.exp, .string V1.txt, .slice none 0 0, .slice none 0 0, .slice none 0 0] 26)) w4.heap.size (nlf V1)):=nbox_new w4 (nlf V1);have kL:=kLf.out _ hB5;have hv5:=hv0.kept hB5 hv0.lt;have g5:=(hgs.out.kept hB5 hgs.out.lt).cell 0;simp at g5;have h4r:Hid (r<w4.heap.size):=Nat.lt_of_lt_of_le hR.lt hb4.size;clear hB5 hA5 hb4 a0 a1 a2 a3 a4 a5 a6 a7 a8 m0 m1 m2 m3 m4 m5 m6 m7 m8 z0 z1 z2 z3 z4 z5 z6 z7 z8 g0;obtain ⟨a0,a1,a2,a3,a4,a5,a6,a7,a8⟩:=hN5.out.fields;obtain ⟨t0,t1,t2,t3,t4,t5,t6,t7,t8⟩:=hT5.out.fields;simp only [nlf] at t0 t1 t2 t3 t4 t5 t6 t7 t8)
  | (go_at_fn 34;refine kL.mono ?_;rintro e w2 ⟨rfl,hLS,hK⟩;clear kL;have hR2:Hid (NBox w2 r zN):=hR5.out.kv hK.out.1 (by simp) hv5;have hT2:Hid (NBox w2 w4.heap.size (nlf V1)):=hT5.out.kv hK.out.1 (by simp) hv5;clear a0 a1 a2 a3 a4 a5 a6 a7 a8 t0 t1 t2 t3 t4 t5 t6 t7 t8;obtain ⟨n0,n1,n2,n3,n4,n5,n6,n7,n8⟩:=hR2.out.fields;have y0:=hR2.out.fz 0;have y1:=hR2.out.fz 1;have y2:=hR2.out.fz 2;have y3:=hR2.out.fz 3;have y4:=hR2.out.fz 4;have y5:=hR2.out.fz 5;have y6:=hR2.out.fz 6;have y7:=hR2.out.fz 7;have y8:=hR2.out.fz 8;obtain ⟨t0,t1,t2,t3,t4,t5,t6,t7,t8⟩:=hT2.out.fields;simp only [nlf] at t0 t1 t2 t3 t4 t5 t6 t7 t8))
 have hk2:=nine_kp (b:=nlf V1) hR2.out
 obtain ⟨q0,q1,q2,q3,q4,q5,q6,q7,q8⟩:=hk2.1.fields
 simp only [nlf] at q0 q1 q2 q3 q4 q5 q6 q7 q8
 refine bodyPost_ret (v := .agg (nlf V1).arr) (by simp [results,Tryz.results36,go_sem,nlf,Nb.arr,q0,q1,q2,q3,q4,q5,q6,q7,q8]) rfl ⟨nlf V1,[],rfl,?_⟩
 have hf:=kv_fin (f:=f) hB6.out hK.out.1 hK.out.2 hk2.2 hr.out.1 hL.out.1 hL.out.2
 refine hC.out _ ?_ hf.1 hf.2
 obtain ⟨g1,v1,L1,x1,x2,x3⟩:=hLS.out
 have hs:∀ k,k≠r→k<w2.heap.size→_:=fun k h1 h2=>hk2.2.block k h2 h1
 exact ⟨g1,v1,L1,x1.same (hs gl (by have:=hr.out;have:=hL.out;omega) x1.lt),x2.keep fun k cur e hb hc he=>hs k (fun e2=>by
  subst e2
  have h3:=hR2.out
  unfold NBox at h3
  rw [h3] at hc
  simp at hc
  rcases he with rfl | rfl <;> simp at hc) (Array.getElem?_eq_some_iff.1 hc).1,by rw [x3,hbn'.out]⟩
end Go.Proofs.YtejlaiofpekchaaGreatDoor
