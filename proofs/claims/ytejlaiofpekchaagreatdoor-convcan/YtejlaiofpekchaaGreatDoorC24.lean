/-
  Bytes given back to a tree: conv.Restore at one loss.
  A tree that JSON can tell, and what is lost: conv.ToJson.
  The document's count of nodes and depth: left, deep.
  The document's depth, and when it says that trees are the same: deep, same.
  When the document says that trees are the same: same.
  When the document says that trees are the same: they differ in a field.
-/
import Derived.Test.YtejlaiofpekchaaGreatDoorC8
import Derived.Test.YtejlaiofpekchaaGreatDoorC23
import Derived.Test.YtejlaiofpekchaaGreatDoorC10
import Derived.Test.YtejlaiofpekchaaGreatDoorC4
import Derived.Test.YtejlaiofpekchaaGreatDoorC7
import Derived.Deep.RegionHeld3
namespace Go.Proofs.YtejlaiofpekchaaGreatDoor
open Go.RowKit Go.Shelf
set_option linter.unusedVariables false
attribute [local go_sem] Oper.semAt_some
def bytT(l:List Int):Tr:=⟨6,0,false,⟨#[]⟩,0,⟨#[]⟩,l,[],[]⟩
theorem nd_byt{w:World}{base n c:Nat}{a:Option Addr}{l:List Int}(h:OwnsB w base (.slice a n c) l)(hsm:l.length≤140737488351232):Nd 1 w (bytN a n c) (bytT l):=by
 obtain ⟨a',c',e,h1,⟨h2,h3⟩,h4,_⟩:=h.shape
 cases e
 refine ⟨⟨rfl,rfl,rfl,rfl,rfl,rfl⟩,⟨(by decide:(Lit.int .i64 6).wf=true),(by decide:(Lit.int .u64 0).wf=true),(by decide:(Lit.int .i64 0).wf=true),(by decide:(⟨#[]⟩:ByteArray).size≤140737488351232),(by decide:(⟨#[]⟩:ByteArray).size≤140737488351232)⟩,⟨rfl,?_,h4⟩,?_,?_⟩
 ·exact ⟨h2,h3,h1,by show l.length*1≤_;have:=hsm;omega⟩
 ·exact rowN_nil _ _
 ·exact rowN_nil _ _
theorem OwnsB.off{w w':World}{base r:Nat}{v:Value}{zs:List Int}{cs:Array Value}{T:TypeId}(h:OwnsB w base v zs)(hr:w.heap[r]? = some (.cells cs T (0,0)))(hT:T≠5)(hk:∀ k,k<w.heap.size→k≠r→w'.heap[k]? = w.heap[k]?):OwnsB w' base v zs:=by
 obtain ⟨⟨h1,h2⟩,h3⟩:=h
 refine ⟨⟨h1,?_⟩,h3⟩
 rcases h2 with h2 | ⟨g,cap,cur,hv,hg,hc,q⟩
 ·exact .inl h2
 ·refine .inr ⟨g, cap, cur, hv, hg, ?_, q⟩
  rw [hk g (Array.getElem?_eq_some_iff.1 hc).1 (fun e=>by
   subst e
   rw [hr] at hc
   cases hc
   exact hT rfl)]
  exact hc
structure RI(w:World)(P r4 r5:Nat)(b1:Nb)(l:List Int)(pre:List Unit)(W:World):Prop where
 own:pre=[]→NBox W P b1
 got:pre≠[]→∃ va vn vc,NBox W P (bytN va vn vc)∧OwnsB W w.heap.size (.slice va vn vc) l
 r4:NBox W r4 zN
 r5:Blk W r5 #[.int .i64 0] 28
 bl:Below w.heap.size w W
theorem ri_blocks{w W W':World}{P r4 r5:Nat}{b1:Nb}{l:List Int}{pre:List Unit}(h:RI w P r4 r5 b1 l pre W)(hb:∀ (k:Nat) (cs:Array Value) (T:TypeId),W.heap[k]? = some (Obj.cells cs T (0,0))→W'.heap[k]? = W.heap[k]?)(hw:Below w.heap.size w W'):RI w P r4 r5 b1 l pre W':=by
 refine ⟨fun e=>(h.own e).same (hb _ _ _ (h.own e)),fun e=>?_,h.r4.same (hb _ _ _ h.r4),h.r5.same (hb _ _ _ h.r5),hw⟩
 obtain ⟨va,vn,vc,h1,h2,h3⟩:=h.got e
 refine ⟨va,vn,vc,h1.same (hb _ _ _ h1),?_,h3⟩
 refine ⟨h2.1,?_⟩
 rcases h2.2 with h2 | ⟨g,cap,cur,hv,hg,hc,q⟩
 ·exact .inl h2
 ·exact .inr ⟨g,cap,cur,hv,hg,by rw [hb g _ _ hc];exact hc,q⟩
theorem ri_own{w:World}{P r4 r5 B:Nat}{b1:Nb}{l:List Int}(hB:w.heap.size≤B):OwnFrom B (RI w P r4 r5 b1 l):=by
 intro pre W W' row h hg hr
 refine ri_blocks h (fun k cs T hk=>hg.block k (Array.getElem?_eq_some_iff.1 hk).1 (fun e=>?_)) (below_keep h.bl hB (Nat.le_refl _) hg hr)
 obtain ⟨_,o,ho,hc⟩:=hr k e.symm
 rw [hk] at ho
 cases ho
 cases hc
theorem RI.kept{w W W':World}{P r4 r5:Nat}{b1:Nb}{l:List Int}{pre:List Unit}(h:RI w P r4 r5 b1 l pre W)(hb:Below W.heap.size W W'):RI w P r4 r5 b1 l pre W' :=
 ri_blocks h (fun k cs T hk=>hb.block k (Array.getElem?_eq_some_iff.1 hk).1) (h.bl.trans (hb.mono h.bl.size))
theorem RI.gave{w W W':World}{P r4 r5:Nat}{b1:Nb}{l:List Int}{va:Option Addr}{vn vc:Nat}(h:RI w P r4 r5 b1 l [] W)(hP:w.heap.size≤P)(h4:r4≠P)(h5:r5≠P)(hN:NBox W' P (bytN va vn vc))(hO:OwnsB W' W.heap.size (.slice va vn vc) l)(hk:Kp (fun k=>k=P) W W'):RI w P r4 r5 b1 l ([]++[()]) W' :=
 ⟨fun e=>by simp at e,fun _=>⟨va,vn,vc,hN,hO.low h.bl.size⟩,h.r4.same (hk.block r4 h.r4.lt h4),h.r5.same (hk.block r5 h.r5.lt h5),h.bl.trans (hk.below h.bl.size fun k e=>by omega)⟩
theorem kp_keeps{W W':World}{P B:Nat}(hk:Kp (fun k=>k=P) W W')(hP:P<B):KeepsFrom B W W' :=
 ⟨hk.size,fun k o hB h _=>(hk.block k (Array.getElem?_eq_some_iff.1 h).1 (by omega)).trans h⟩
set_option maxRecDepth 100000 in
set_option maxHeartbeats 4000000 in
theorem vrestore_bytes{D:Nat}{t:Tr}{b:Nb}{w:World}(hN:Nd D w b t)(hM:t.May (fun u=>alF u=0))(hk:t.kind=5)(l:List Int)(hs:t.txt.size<1000000)(hl:unhA t.txt=some l)(hM2:(bytT l).May (fun u=>alF u=0))(hll:l.length≤100000)
  (g c pc:Nat) (pa:Option Addr) (nn:Int) (hc:1≤c∧c≤9223372036854775807) (e0:w.cell? ⟨g,0,none⟩=some (.slice pa 0 pc)) (e1:w.cell? ⟨g,1,none⟩=some (.int .i64 3)) (e2:w.cell? ⟨g,2,none⟩=some (.int .u64 nn)) :
  Calls Tryz.prog 13 #[.agg #[.int .i64 b.kind, .int .u64 b.num, .bool b.neg, .string b.dig, .int .i64 b.exp, .string b.txt, .slice b.ab b.lb b.cb, .slice b.ak b.lk b.ck, .slice b.ai b.li b.ci], .slice (some ⟨g,0,none⟩) 1 c] w fun e w' =>
   ∃ va vn vc,e = .returned (.tuple #[.agg #[.int .i64 6, .int .u64 0, .bool false, .string ⟨#[]⟩, .int .i64 0, .string ⟨#[]⟩, .slice va vn vc, .slice none 0 0, .slice none 0 0], .int .i64 0])∧Hid (OwnsB w' w.heap.size (.slice va vn vc) l)∧Hid (Below w.heap.size w w'):=by
 have kC:Hid (∀ W,Below w.heap.size w W→Calls Tryz.prog 17 #[.agg #[.int .i64 b.kind, .int .u64 b.num, .bool b.neg, .string b.dig, .int .i64 b.exp, .string b.txt, .slice b.ab b.lb b.cb, .slice b.ak b.lk b.ck, .slice b.ai b.li b.ci]] W fun e w'=>∃ (b':Nb) (f:List Nat),e = .returned (.tuple #[.agg #[.int .i64 b'.kind, .int .u64 b'.num, .bool b'.neg, .string b'.dig, .int .i64 b'.exp, .string b'.txt, .slice b'.ab b'.lb b'.cb, .slice b'.ak b'.lk b'.ck, .slice b'.ai b'.li b'.ci], .int .i64 0])∧Hid (b'.kind=5∧b'.txt=t.txt)∧Hid (Below W.heap.size W w')):=fun W hW=>(checked_yes (hN.kept hW) hM).mono (by
  rintro e w' ⟨⟨b',f,rfl,hf⟩,hb⟩
  have hn:=hf.1
  exact ⟨b',f,rfl,⟨hn.1.1.trans hk,hn.1.2.2.2.2.2⟩,hb⟩)
 obtain ⟨hc1,hc2⟩:=hc
 have hg:Hid (g<w.heap.size):=World.block_lt_of_cell? w _ e0
 have hC:Hid (∀ wX,Below w.heap.size w wX→wX.cell? ⟨g,0,none⟩=some (.slice pa 0 pc)∧wX.cell? ⟨g,1,none⟩=some (.int .i64 3)∧wX.cell? ⟨g,2,none⟩=some (.int .u64 nn)):=fun wX hX =>
  ⟨by rw [hX.cell (p:=⟨g,0,none⟩) hg.out];exact e0,by rw [hX.cell (p:=⟨g,1,none⟩) hg.out];exact e1,by rw [hX.cell (p:=⟨g,2,none⟩) hg.out];exact e2⟩
 have hl':Hid (unhA t.txt=some l∧t.txt.size<1000000):=⟨hl,hs⟩
 have hM2':Hid ((bytT l).May (fun u=>alF u=0)):=hM2
 have hll':Hid (l.length≤100000):=hll
 clear hll
 clear hN hM hk hs hl hM2 e0 e1 e2
 refine (callsIn_wide (n:=5)).1 ?_
 refine callsIn_of_wp_marks Tryz.func13 rfl trivial ?_ rfl
 simp only [Tryz.ntmps13,List.size_toArray,List.length_cons,List.length_nil,Nat.reduceAdd,Nat.reduceSub,Array.replicate_succ,Array.replicate_zero,List.push_toArray,List.append_toArray,List.nil_append,List.cons_append]
 obtain ⟨W0,hW0'⟩:∃ W0,((w.alloc (.cells #[.int .i64 b.kind, .int .u64 b.num, .bool b.neg, .string b.dig, .int .i64 b.exp, .string b.txt, .slice b.ab b.lb b.cb, .slice b.ak b.lk b.ck, .slice b.ai b.li b.ci] 26)).alloc (.cells #[.int .i64 0, .int .u64 0, .bool false, .string ⟨#[]⟩, .int .i64 0, .string ⟨#[]⟩, .slice none 0 0, .slice none 0 0, .slice none 0 0] 26)).alloc (.cells #[.int .i64 0] 28)=W0:=⟨_,rfl⟩
 have hW0:Hid (((w.alloc (.cells #[.int .i64 b.kind, .int .u64 b.num, .bool b.neg, .string b.dig, .int .i64 b.exp, .string b.txt, .slice b.ab b.lb b.cb, .slice b.ak b.lk b.ck, .slice b.ai b.li b.ci] 26)).alloc (.cells #[.int .i64 0, .int .u64 0, .bool false, .string ⟨#[]⟩, .int .i64 0, .string ⟨#[]⟩, .slice none 0 0, .slice none 0 0, .slice none 0 0] 26)).alloc (.cells #[.int .i64 0] 28)=W0):=hW0'
 clear hW0'
 have hs0:Hid (W0.heap.size=w.heap.size+3):=by show _=_;rw [←hW0.out];simp
 have hB0:Hid (Below w.heap.size w W0):=by show Below _ _ _;rw [←hW0.out];exact ((((Below.refl _ _).alloc (Nat.le_refl _) _).alloc (by simp) _).alloc (by simp;omega) _)
 have h40:Hid (NBox W0 (w.heap.size+1) zN):=by
  show NBox _ _ _
  rw [←hW0.out]
  have:=nbox_new (w.alloc (.cells #[.int .i64 b.kind, .int .u64 b.num, .bool b.neg, .string b.dig, .int .i64 b.exp, .string b.txt, .slice b.ab b.lb b.cb, .slice b.ak b.lk b.ck, .slice b.ai b.li b.ci] 26)) zN
  rw [show (w.alloc (.cells #[.int .i64 b.kind, .int .u64 b.num, .bool b.neg, .string b.dig, .int .i64 b.exp, .string b.txt, .slice b.ab b.lb b.cb, .slice b.ak b.lk b.ck, .slice b.ai b.li b.ci] 26)).heap.size=w.heap.size+1 by simp] at this
  exact this.kept (alloc_below _ _) (by simp)
 have h50:Hid (Blk W0 (w.heap.size+1+1) #[.int .i64 0] 28):=by
  show Blk _ _ _ _
  rw [←hW0.out]
  have:=blk_new ((w.alloc (.cells #[.int .i64 b.kind, .int .u64 b.num, .bool b.neg, .string b.dig, .int .i64 b.exp, .string b.txt, .slice b.ab b.lb b.cb, .slice b.ak b.lk b.ck, .slice b.ai b.li b.ci] 26)).alloc (.cells #[.int .i64 0, .int .u64 0, .bool false, .string ⟨#[]⟩, .int .i64 0, .string ⟨#[]⟩, .slice none 0 0, .slice none 0 0, .slice none 0 0] 26)) #[.int .i64 0] 28
  rwa [show ((w.alloc (.cells #[.int .i64 b.kind, .int .u64 b.num, .bool b.neg, .string b.dig, .int .i64 b.exp, .string b.txt, .slice b.ab b.lb b.cb, .slice b.ak b.lk b.ck, .slice b.ai b.li b.ci] 26)).alloc (.cells #[.int .i64 0, .int .u64 0, .bool false, .string ⟨#[]⟩, .int .i64 0, .string ⟨#[]⟩, .slice none 0 0, .slice none 0 0, .slice none 0 0] 26)).heap.size=w.heap.size+1+1 by simp] at this
 gi_wp2_with (first
  | (rw [hW0.out];refine ⟨trivial,?_⟩;gi_at_call 17;refine (callsIn_wide.2 (kC.out _ hB0.out)).mono ?_;rintro e w1 ⟨b1,f1,rfl,hb1,hw1⟩)
  | (refine ⟨trivial,?_⟩;gi_at_call 24;refine (vback_in Fence.wide _ trivial rfl _ _ _ _).mono ?_;rintro e w2 ⟨rfl,rfl⟩))
 have hbx:Below W0.heap.size W0 ((w1.alloc (.cells #[.int .i64 b1.kind, .int .u64 b1.num, .bool b1.neg, .string b1.dig, .int .i64 b1.exp, .string b1.txt, .slice b1.ab b1.lb b1.cb, .slice b1.ak b1.lk b1.ck, .slice b1.ai b1.li b1.ci] 26)).alloc (.cells #[.slice (some ⟨g,0,none⟩) 1 c] 27)):=(hw1.out.alloc hw1.out.size _).alloc (by simp;have:=hw1.out.size;omega) _
 have hX:Hid (Below W0.heap.size W0 ((w1.alloc (.cells #[.int .i64 b1.kind, .int .u64 b1.num, .bool b1.neg, .string b1.dig, .int .i64 b1.exp, .string b1.txt, .slice b1.ab b1.lb b1.cb, .slice b1.ak b1.lk b1.ck, .slice b1.ai b1.li b1.ci] 26)).alloc (.cells #[.slice (some ⟨g,0,none⟩) 1 c] 27))):=hbx
 have hXs:Hid (((w1.alloc (.cells #[.int .i64 b1.kind, .int .u64 b1.num, .bool b1.neg, .string b1.dig, .int .i64 b1.exp, .string b1.txt, .slice b1.ab b1.lb b1.cb, .slice b1.ak b1.lk b1.ck, .slice b1.ai b1.li b1.ci] 26)).alloc (.cells #[.slice (some ⟨g,0,none⟩) 1 c] 27)).heap.size=w1.heap.size+2):=by show _=_;simp
 have hXP:Hid (NBox ((w1.alloc (.cells #[.int .i64 b1.kind, .int .u64 b1.num, .bool b1.neg, .string b1.dig, .int .i64 b1.exp, .string b1.txt, .slice b1.ab b1.lb b1.cb, .slice b1.ak b1.lk b1.ck, .slice b1.ai b1.li b1.ci] 26)).alloc (.cells #[.slice (some ⟨g,0,none⟩) 1 c] 27)) w1.heap.size b1):=(nbox_new w1 b1).kept (alloc_below _ _) (by simp)
 have hXB:Hid (Blk ((w1.alloc (.cells #[.int .i64 b1.kind, .int .u64 b1.num, .bool b1.neg, .string b1.dig, .int .i64 b1.exp, .string b1.txt, .slice b1.ab b1.lb b1.cb, .slice b1.ak b1.lk b1.ck, .slice b1.ai b1.li b1.ci] 26)).alloc (.cells #[.slice (some ⟨g,0,none⟩) 1 c] 27)) (w1.heap.size+1) #[.slice (some ⟨g,0,none⟩) 1 c] 27):=by
  have:=blk_new (w1.alloc (.cells #[.int .i64 b1.kind, .int .u64 b1.num, .bool b1.neg, .string b1.dig, .int .i64 b1.exp, .string b1.txt, .slice b1.ab b1.lb b1.cb, .slice b1.ak b1.lk b1.ck, .slice b1.ai b1.li b1.ci] 26)) #[.slice (some ⟨g,0,none⟩) 1 c] 27
  rwa [show (w1.alloc (.cells #[.int .i64 b1.kind, .int .u64 b1.num, .bool b1.neg, .string b1.dig, .int .i64 b1.exp, .string b1.txt, .slice b1.ab b1.lb b1.cb, .slice b1.ak b1.lk b1.ck, .slice b1.ai b1.li b1.ci] 26)).heap.size=w1.heap.size+1 by simp] at this
 have h1s:=hw1.out.size
 have h0s:=hs0.out
 clear hbx hW0 kC
 generalize (w1.alloc (.cells #[.int .i64 b1.kind, .int .u64 b1.num, .bool b1.neg, .string b1.dig, .int .i64 b1.exp, .string b1.txt, .slice b1.ab b1.lb b1.cb, .slice b1.ak b1.lk b1.ck, .slice b1.ai b1.li b1.ci] 26)).alloc (.cells #[.slice (some ⟨g,0,none⟩) 1 c] 27)=X at *
 have hwX:Hid (Below w.heap.size w X):=hB0.out.trans (hX.out.mono (by omega))
 have hI0:RI w w1.heap.size (w.heap.size+1) (w.heap.size+1+1) b1 l [] X:=⟨fun _=>hXP.out,fun e=>absurd rfl e,h40.out.kept hX.out (by omega),h50.out.kept hX.out (by omega),hwX.out⟩
 obtain ⟨y0,y1,y2⟩:=hC.out _ hwX.out
 have hgX:g<X.heap.size:=by have:=hg.out;have:=hXs.out;omega
 refine wpIn_rangeFunc_ownH (w:=X) rfl (by decide) (gf:=56) (lb:=#[.pointer (some ⟨w1.heap.size+1,0,none⟩)]) rfl trivial (enters_of Tryz.func56 (by kernel_rfl) rfl)
  (vback_stops Fence.wide _ trivial rfl (by decide) (w1.heap.size+1) g c pc pa 3 nn X (by have:=hXs.out;omega) hgX (hXB.out.cell 0) y0 y1 y2) (fun _ _=>trivial) (fun _ _ _ _ _ _ _ _=>trivial) (Below.refl _ _) (fun _=>rfl)
  (RI w w1.heap.size (w.heap.size+1) (w.heap.size+1+1) b1 l) (fun _ _ _=>False) (ri_own (by have:=hXs.out;omega)) (fun _ _ _ _ _ hs _ _=>hs) hI0
  (fun x a' W=>∃ k,a'={ tmps:=#[.agg #[.int .i64 b.kind, .int .u64 b.num, .bool b.neg, .string b.dig, .int .i64 b.exp, .string b.txt, .slice b.ab b.lb b.cb, .slice b.ak b.lk b.ck, .slice b.ai b.li b.ci], .slice (some ⟨g,0,none⟩) 1 c, .pointer (some ⟨w.heap.size,0,none⟩),undef, .pointer (some ⟨w.heap.size+1,0,none⟩), .pointer (some ⟨w.heap.size+1+1,0,none⟩), .pointer (some ⟨w1.heap.size,0,none⟩), .int .i64 0,undef, .pointer (some ⟨k,0,none⟩),undef,undef, .tuple #[.agg #[.int .i64 b1.kind, .int .u64 b1.num, .bool b1.neg, .string b1.dig, .int .i64 b1.exp, .string b1.txt, .slice b1.ab b1.lb b1.cb, .slice b1.ak b1.lk b1.ck, .slice b1.ai b1.li b1.ci], .int .i64 0], .agg #[.int .i64 b.kind, .int .u64 b.num, .bool b.neg, .string b.dig, .int .i64 b.exp, .string b.txt, .slice b.ab b.lb b.cb, .slice b.ak b.lk b.ck, .slice b.ai b.li b.ci], .tuple #[.agg #[.int .i64 b1.kind, .int .u64 b1.num, .bool b1.neg, .string b1.dig, .int .i64 b1.exp, .string b1.txt, .slice b1.ab b1.lb b1.cb, .slice b1.ak b1.lk b1.ck, .slice b1.ai b1.li b1.ci], .int .i64 0], .agg #[.int .i64 b1.kind, .int .u64 b1.num, .bool b1.neg, .string b1.dig, .int .i64 b1.exp, .string b1.txt, .slice b1.ab b1.lb b1.cb, .slice b1.ak b1.lk b1.ck, .slice b1.ai b1.li b1.ci], .int .i64 0, .int .i64 0, .bool false,undef,undef, .slice (some ⟨g,0,none⟩) 1 c, .int .i64 1, .bool false,undef, .slice (some ⟨g,0,none⟩) 1 c, .func (.func 56) #[] #[.pointer (some ⟨w1.heap.size+1,0,none⟩)], .int .i64 0, .agg #[.slice pa 0 pc, .int .i64 3, .int .u64 nn],undef,undef,undef,undef,undef,undef,undef,undef,undef,undef,undef,undef,undef],defers:=[] }∧Blk W k #[.slice pa 0 pc, .int .i64 3, .int .u64 nn] 44) ?hAx ?assign ?body ?done ?stop
 case hAx =>
  intro x a' _ W W' row h hg' hr'
  obtain ⟨k,e,hb⟩:=h
  refine ⟨k,e,hb.same (hg'.block k hb.lt (fun q=>?_))⟩
  obtain ⟨_,o,ho,hc'⟩:=hr' k q.symm
  rw [show W.heap[k]? = _ from hb] at ho
  cases ho
  cases hc'
 case assign =>
  intro lr pre x W K hI hK
  gi_wp2
  exact hK _ _ ((KeepsOthers.alloc W _).from _) trivial (hI.kept (alloc_below _ _)) ⟨W.heap.size,rfl,blk_new _ _ _⟩
 case body =>
  rintro lr pre x a' W hlW hloop hI ⟨k,rfl,hbk⟩ hlt
  obtain rfl:pre=[]:=by
   cases pre with
   | nil=>rfl
   | cons y ys=>simp at hlt
  have kG:=vgive_bytes w1.heap.size b1 pa pc nn l hb1.out.1 (by rw [hb1.out.2];exact hl'.out.2) (by rw [hb1.out.2];exact hl'.out.1) W (hI.own rfl)
  have v0:=hbk.cell 0
  have v1:=hbk.cell 1
  have v2:=hbk.cell 2
  simp only [List.getElem?_toArray,List.getElem?_cons_succ,List.getElem?_cons_zero] at v0 v1 v2
  have hI':Hid (RI w w1.heap.size (w.heap.size+1) (w.heap.size+1+1) b1 l [] W):=hI
  have hr1:Hid (w.heap.size+3≤w1.heap.size):=by show _≤_;omega
  clear hI hbk y0 y1 y2
  gi_wp2_with (refine ⟨trivial,?_⟩;gi_at_call 25;refine ((callsIn_wide.2 kG).inRound lr).mono ?_;rintro e W3 ⟨va,vn,vc,rfl,hN3,hO3,hK3⟩)
  exact ⟨kp_keeps hK3.out (by have:=hXs.out;omega),trivial,hI'.out.gave (by have:=hr1.out;omega) (by have:=hr1.out;omega) (by have:=hr1.out;omega) hN3.out hO3.out hK3.out⟩
 case done =>
  rintro Dk xs W hDk hS hI hDef
  obtain ⟨va,vn,vc,hN,hO⟩:=hI.got (fun e=>by rw [e] at hS;simp at hS)
  have hsm:l.length≤140737488351232:=by have h1:=hll'.out;omega
  have kG0:=gcheck_any (nd_byt hO hsm)
  have kG:Calls Tryz.prog 19 #[.agg #[.int .i64 6, .int .u64 0, .bool false, .string ⟨#[]⟩, .int .i64 0, .string ⟨#[]⟩, .slice va vn vc, .slice none 0 0, .slice none 0 0]] W fun e w'=>e = .returned (.int .i64 0)∧Hid (Below W.heap.size W w'):=kG0.mono (by
   rintro e w' ⟨⟨er,rfl,hE⟩,hb⟩
   obtain rfl:=(chk_is hE).2 hM2'.out
   exact ⟨rfl,hb⟩)
  have hI':Hid (RI w w1.heap.size (w.heap.size+1) (w.heap.size+1+1) b1 l xs W):=hI
  have hN':Hid (NBox W w1.heap.size (bytN va vn vc)):=hN
  have hO':Hid (OwnsB W w.heap.size (.slice va vn vc) l):=hO
  have hDef':Hid (W.heap[Dk]? = some (.deferred (some []))):=hDef
  obtain ⟨q0,q1,q2,q3,q4,q5,q6,q7,q8⟩:=hN.fields
  simp only [bytN] at q0 q1 q2 q3 q4 q5 q6 q7 q8
  clear hI hN hO hDef kG0 y0 y1 y2 hI0
  gi_wp2_with (refine ⟨trivial,?_⟩;gi_at_call 19;refine (callsIn_wide.2 kG).mono ?_;rintro e W5 ⟨rfl,hb5⟩;clear kG q0 q1 q2 q3 q4 q5 q6 q7 q8;have hI5:Hid (RI w w1.heap.size (w.heap.size+1) (w.heap.size+1+1) b1 l xs W5):=hI'.out.kept hb5.out;have hN5:Hid (NBox W5 w1.heap.size (bytN va vn vc)):=hN'.out.kept hb5.out hN'.out.lt;have hO5:Hid (OwnsB W5 w.heap.size (.slice va vn vc) l):=hO'.out.below hb5.out;have hD5:Hid (W5.heap[Dk]? = some (.deferred (some []))):=(hb5.out.block Dk (Array.getElem?_eq_some_iff.1 hDef'.out).1).trans hDef'.out;clear hI' hN' hO' hDef' hb5;obtain ⟨q0,q1,q2,q3,q4,q5,q6,q7,q8⟩:=hN5.out.fields;simp only [bytN] at q0 q1 q2 q3 q4 q5 q6 q7 q8;obtain ⟨m0,m1,m2,m3,m4,m5,m6,m7,m8⟩:=hI5.out.r4.fields;have z0:=hI5.out.r4.fz 0;have z1:=hI5.out.r4.fz 1;have z2:=hI5.out.r4.fz 2;have z3:=hI5.out.r4.fz 3;have z4:=hI5.out.r4.fz 4;have z5:=hI5.out.r4.fz 5;have z6:=hI5.out.r4.fz 6;have z7:=hI5.out.r4.fz 7;have z8:=hI5.out.r4.fz 8;have c5:=hI5.out.r5.cell 0;have f5:=hI5.out.r5.fz 0)
  have hk9:NBox (((((((((W5.setCell ⟨w.heap.size+1,0,none⟩ (.int .i64 6)).setCell ⟨w.heap.size+1,1,none⟩ (.int .u64 0)).setCell ⟨w.heap.size+1,2,none⟩ (.bool false)).setCell ⟨w.heap.size+1,3,none⟩ (.string ⟨#[]⟩)).setCell ⟨w.heap.size+1,4,none⟩ (.int .i64 0)).setCell ⟨w.heap.size+1,5,none⟩ (.string ⟨#[]⟩)).setCell ⟨w.heap.size+1,6,none⟩ (.slice va vn vc)).setCell ⟨w.heap.size+1,7,none⟩ (.slice none 0 0)).setCell ⟨w.heap.size+1,8,none⟩ (.slice none 0 0)) (w.heap.size+1) (bytN va vn vc)∧Kp (fun k=>k=w.heap.size+1) W5 (((((((((W5.setCell ⟨w.heap.size+1,0,none⟩ (.int .i64 6)).setCell ⟨w.heap.size+1,1,none⟩ (.int .u64 0)).setCell ⟨w.heap.size+1,2,none⟩ (.bool false)).setCell ⟨w.heap.size+1,3,none⟩ (.string ⟨#[]⟩)).setCell ⟨w.heap.size+1,4,none⟩ (.int .i64 0)).setCell ⟨w.heap.size+1,5,none⟩ (.string ⟨#[]⟩)).setCell ⟨w.heap.size+1,6,none⟩ (.slice va vn vc)).setCell ⟨w.heap.size+1,7,none⟩ (.slice none 0 0)).setCell ⟨w.heap.size+1,8,none⟩ (.slice none 0 0)):=nine_kp (b:=bytN va vn vc) hI5.out.r4
  have hDl:w.heap.size+3≤Dk:=by have:=hXs.out;omega
  have hOY:OwnsB (((((((((W5.setCell ⟨w.heap.size+1,0,none⟩ (.int .i64 6)).setCell ⟨w.heap.size+1,1,none⟩ (.int .u64 0)).setCell ⟨w.heap.size+1,2,none⟩ (.bool false)).setCell ⟨w.heap.size+1,3,none⟩ (.string ⟨#[]⟩)).setCell ⟨w.heap.size+1,4,none⟩ (.int .i64 0)).setCell ⟨w.heap.size+1,5,none⟩ (.string ⟨#[]⟩)).setCell ⟨w.heap.size+1,6,none⟩ (.slice va vn vc)).setCell ⟨w.heap.size+1,7,none⟩ (.slice none 0 0)).setCell ⟨w.heap.size+1,8,none⟩ (.slice none 0 0)) w.heap.size (.slice va vn vc) l:=hO5.out.off (T:=26) hI5.out.r4 (by decide) (fun k h1 h2=>hk9.2.block k h1 h2)
  have h5Y:Blk (((((((((W5.setCell ⟨w.heap.size+1,0,none⟩ (.int .i64 6)).setCell ⟨w.heap.size+1,1,none⟩ (.int .u64 0)).setCell ⟨w.heap.size+1,2,none⟩ (.bool false)).setCell ⟨w.heap.size+1,3,none⟩ (.string ⟨#[]⟩)).setCell ⟨w.heap.size+1,4,none⟩ (.int .i64 0)).setCell ⟨w.heap.size+1,5,none⟩ (.string ⟨#[]⟩)).setCell ⟨w.heap.size+1,6,none⟩ (.slice va vn vc)).setCell ⟨w.heap.size+1,7,none⟩ (.slice none 0 0)).setCell ⟨w.heap.size+1,8,none⟩ (.slice none 0 0)) (w.heap.size+1+1) #[.int .i64 0] 28:=hI5.out.r5.same (hk9.2.block _ hI5.out.r5.lt (by omega))
  have hDY:(((((((((W5.setCell ⟨w.heap.size+1,0,none⟩ (.int .i64 6)).setCell ⟨w.heap.size+1,1,none⟩ (.int .u64 0)).setCell ⟨w.heap.size+1,2,none⟩ (.bool false)).setCell ⟨w.heap.size+1,3,none⟩ (.string ⟨#[]⟩)).setCell ⟨w.heap.size+1,4,none⟩ (.int .i64 0)).setCell ⟨w.heap.size+1,5,none⟩ (.string ⟨#[]⟩)).setCell ⟨w.heap.size+1,6,none⟩ (.slice va vn vc)).setCell ⟨w.heap.size+1,7,none⟩ (.slice none 0 0)).setCell ⟨w.heap.size+1,8,none⟩ (.slice none 0 0)).heap[Dk]? = some (.deferred (some [])):=(hk9.2.block Dk (Array.getElem?_eq_some_iff.1 hD5.out).1 (by omega)).trans hD5.out
  have hbY:Below w.heap.size w (((((((((W5.setCell ⟨w.heap.size+1,0,none⟩ (.int .i64 6)).setCell ⟨w.heap.size+1,1,none⟩ (.int .u64 0)).setCell ⟨w.heap.size+1,2,none⟩ (.bool false)).setCell ⟨w.heap.size+1,3,none⟩ (.string ⟨#[]⟩)).setCell ⟨w.heap.size+1,4,none⟩ (.int .i64 0)).setCell ⟨w.heap.size+1,5,none⟩ (.string ⟨#[]⟩)).setCell ⟨w.heap.size+1,6,none⟩ (.slice va vn vc)).setCell ⟨w.heap.size+1,7,none⟩ (.slice none 0 0)).setCell ⟨w.heap.size+1,8,none⟩ (.slice none 0 0)):=hI5.out.bl.trans (hk9.2.below hI5.out.bl.size fun k e=>by omega)
  obtain ⟨hNY, -⟩:=hk9
  clear m0 m1 m2 m3 m4 m5 m6 m7 m8 z0 z1 z2 z3 z4 z5 z6 z7 z8 q0 q1 q2 q3 q4 q5 q6 q7 q8 c5 f5 hI5 hN5 hO5 hD5
  generalize (((((((((W5.setCell ⟨w.heap.size+1,0,none⟩ (.int .i64 6)).setCell ⟨w.heap.size+1,1,none⟩ (.int .u64 0)).setCell ⟨w.heap.size+1,2,none⟩ (.bool false)).setCell ⟨w.heap.size+1,3,none⟩ (.string ⟨#[]⟩)).setCell ⟨w.heap.size+1,4,none⟩ (.int .i64 0)).setCell ⟨w.heap.size+1,5,none⟩ (.string ⟨#[]⟩)).setCell ⟨w.heap.size+1,6,none⟩ (.slice va vn vc)).setCell ⟨w.heap.size+1,7,none⟩ (.slice none 0 0)).setCell ⟨w.heap.size+1,8,none⟩ (.slice none 0 0))=Y at *
  have hsz:∀ k,k≠w.heap.size+1+1→(Y.setCell ⟨w.heap.size+1+1,0,none⟩ (.int .i64 0)).heap[k]? = Y.heap[k]? := fun k hk=>Below.heap_setCell _ _ _ _ (by simpa using hk)
  have hDZ:(Y.setCell ⟨w.heap.size+1+1,0,none⟩ (.int .i64 0)).heap[Dk]? = some (.deferred (some [])):=(hsz Dk (by omega)).trans hDY
  have hNZ:NBox (Y.setCell ⟨w.heap.size+1+1,0,none⟩ (.int .i64 0)) (w.heap.size+1) (bytN va vn vc):=hNY.same (hsz _ (by omega))
  have h5Z:Blk (Y.setCell ⟨w.heap.size+1+1,0,none⟩ (.int .i64 0)) (w.heap.size+1+1) #[.int .i64 0] 28:=h5Y.set 0 (.int .i64 0)
  have hOZ:OwnsB (Y.setCell ⟨w.heap.size+1+1,0,none⟩ (.int .i64 0)) w.heap.size (.slice va vn vc) l:=hOY.off (T:=28) h5Y (by decide) (fun k _ h2=>hsz k h2)
  have hbZ:Below w.heap.size w (Y.setCell ⟨w.heap.size+1+1,0,none⟩ (.int .i64 0)):=hbY.setCell (by show w.heap.size≤w.heap.size+1+1;omega) _
  generalize Y.setCell ⟨w.heap.size+1+1,0,none⟩ (.int .i64 0)=Z at *
  have hoZ:∀ k,k≠Dk→(Z.putObj Dk (.deferred none)).heap[k]? = Z.heap[k]? := fun k hk=>World.putObj_heap_other hk
  have hNQ:NBox (Z.putObj Dk (.deferred none)) (w.heap.size+1) (bytN va vn vc):=hNZ.same (hoZ _ (by omega))
  have h5Q:Blk (Z.putObj Dk (.deferred none)) (w.heap.size+1+1) #[.int .i64 0] 28:=h5Z.same (hoZ _ (by omega))
  refine ⟨by simp, .inl ⟨_,_,rfl,run_takeDeferred hDZ,?_⟩⟩
  obtain ⟨p0,p1,p2,p3,p4,p5,p6,p7,p8⟩:=hNQ.fields
  simp only [bytN] at p0 p1 p2 p3 p4 p5 p6 p7 p8
  have u0:=h5Q.cell 0
  simp only [List.getElem?_toArray,List.getElem?_cons_zero] at u0
  refine ⟨.tuple #[.agg #[.int .i64 6, .int .u64 0, .bool false, .string ⟨#[]⟩, .int .i64 0, .string ⟨#[]⟩, .slice va vn vc, .slice none 0 0, .slice none 0 0], .int .i64 0],by simp [results,Tryz.results13,go_sem,p0,p1,p2,p3,p4,p5,p6,p7,p8,u0],va,vn,vc,rfl,?_,?_⟩
  ·exact ⟨ownsRow_putObj hOZ.1 _ hDZ rfl,hOZ.2⟩
  ·exact hbZ.trans (belowK_b (w:=w) (Nat.le_refl _) Z Dk _ _ (by omega) hDZ rfl rfl)
 case stop =>
  rintro D' c' pre W _ _ h _
  exact h.elim
end Go.Proofs.YtejlaiofpekchaaGreatDoor
namespace Go.Proofs.YtejlaiofpekchaaGreatDoor
open Go.RowKit
set_option linter.unusedVariables false
theorem shp_of{u:Tr}(h:alF u=0)(hs:u.size≤1024):Shp u:=by
 have ho:=Tr.alo_odd h
 have h1:=Tr.length_le u.keys
 have h2:=Tr.length_le u.kids
 have h3:=Tr.size_eq u
 unfold Tr.odd at ho
 simp only [Bool.or_eq_false_iff,Bool.and_eq_false_iff,decide_eq_false_iff_not,Bool.not_eq_false'] at ho
 have hb:u.bytes.length≤4096:=by
  by_cases k6:u.kind=6
  ·unfold alF Tr.alo at h
   split at h
   ·cases h
   ·rename_i q;simp only [not_or,not_and] at q;have:=q.2 k6;omega
  ·have hc : u.clean = true := by simp_all
   unfold Tr.clean at hc
   simp only [Bool.and_eq_true,Bool.or_eq_true,decide_eq_true_eq] at hc
   omega
 refine ⟨fun k=>?_,fun k=>?_,by omega,by omega,by omega⟩
 ·have : u.kids.length = 1 := by simp_all
  omega
 ·simp_all
theorem shp_all:∀ (k:Nat) (t:Tr),t.deep≤k→t.size≤1024→t.All (fun u=>alF u=0)→t.All Shp
 | 0,t,hd,_,_=>by rw [Tr.deep_eq] at hd;omega
 | k+1,t,hd,hs,hA=>by
  obtain ⟨a,b,c⟩:=(Tr.all_eq _ t).1 hA
  have h3:=Tr.size_eq t
  exact (Tr.all_eq Shp t).2 ⟨shp_of a hs,fun u hu=>shp_all k u (by have:=Tr.key_deep hu;omega) (by have:=Tr.size_le hu;omega) (b u hu),fun u hu=>shp_all k u (by have:=Tr.kid_deep hu;omega) (by have:=Tr.size_le hu;omega) (c u hu)⟩
theorem tab_up{L:Nat}{w:World}(h:Tab L w):Tab w.heap.size w:=Lib.tabBelow_of_tabIs h.here
set_option maxHeartbeats 8000000 in
set_option maxRecDepth 100000 in
theorem tojson_no{D:Nat}{t:Tr}{b:Nb}{w:World}(hN:Nd D w b t)(hM:¬ t.May (fun u=>alF u=0)):Calls Tryz.prog 8 #[.agg b.arr] w fun e w'=>(∃ er:Int,e = .returned (.tuple #[.agg zN.arr, .slice none 0 0, .int .i64 er])∧Tr.ChkIs alF t er∧er≠0)∧Below w.heap.size w w':=by
 obtain ⟨hN0,hR,hB,hS⟩:=boxes_new w b
 have hB':Hid (Below w.heap.size w _):=hB
 have hN':Hid (NBox _ w.heap.size b):=hN0
 have hR':Hid (NBox _ (w.heap.size+1) zN):=hR
 have hr:Hid (w.heap.size<w.heap.size+1):=Nat.lt_succ_self _
 obtain ⟨a0,a1,a2,a3,a4,a5,a6,a7,a8⟩:=hN0.fields
 have kC:Calls Tryz.prog 17 #[.agg b.arr] _ fun e w'=>(∃ er:Int,e = .returned (.tuple #[.agg #[.int .i64 0, .int .u64 0, .bool false, .string ⟨#[]⟩, .int .i64 0, .string ⟨#[]⟩, .slice none 0 0, .slice none 0 0, .slice none 0 0], .int .i64 er])∧Tr.ChkIs alF t er∧er≠0)∧Below _ _ w':=checked_no (hN.kept hB) hM
 clear hB hS hM hN hN0 hR
 go_enter Tryz.func8,Tryz.ntmps8
 go_upto_region 1 with fail
 generalize ((w.alloc (.cells b.arr 26)).alloc (.cells #[.int .i64 0, .int .u64 0, .bool false, .string ⟨#[]⟩, .int .i64 0, .string ⟨#[]⟩, .slice none 0 0, .slice none 0 0, .slice none 0 0] 26))=W at *
 generalize w.heap.size+1=r at *
 go_upto_region 2 with (go_at_call 17;refine kC.mono ?_;rintro e x1 ⟨⟨er,rfl,hE⟩,hb1⟩;clear a0 a1 a2 a3 a4 a5 a6 a7 a8)
 have hx:Below W.heap.size W (x1.alloc (.cells #[.int .i64 0, .int .u64 0, .bool false, .string ⟨#[]⟩, .int .i64 0, .string ⟨#[]⟩, .slice none 0 0, .slice none 0 0, .slice none 0 0] 26)):=hb1.trans ((alloc_below x1 _).mono hb1.size)
 have RR:Hid (NBox (x1.alloc (.cells #[.int .i64 0, .int .u64 0, .bool false, .string ⟨#[]⟩, .int .i64 0, .string ⟨#[]⟩, .slice none 0 0, .slice none 0 0, .slice none 0 0] 26)) r zN):=hR'.out.kept hx hR'.out.lt
 have b1:Hid (Below w.heap.size w (x1.alloc (.cells #[.int .i64 0, .int .u64 0, .bool false, .string ⟨#[]⟩, .int .i64 0, .string ⟨#[]⟩, .slice none 0 0, .slice none 0 0, .slice none 0 0] 26))):=hB'.out.trans (hx.mono hB'.out.size)
 generalize (x1.alloc (.cells #[.int .i64 0, .int .u64 0, .bool false, .string ⟨#[]⟩, .int .i64 0, .string ⟨#[]⟩, .slice none 0 0, .slice none 0 0, .slice none 0 0] 26))=X at *
 have ge:(er != 0)=true:=by simpa using hE.2
 have hE':Hid (Tr.ChkIs alF t er∧er≠0):=hE
 clear hE hx hb1 kC hR' hN' hB'
 obtain ⟨m0,m1,m2,m3,m4,m5,m6,m7,m8⟩:=RR.out.fields
 have z0:=RR.out.fz 0;have z1:=RR.out.fz 1;have z2:=RR.out.fz 2;have z3:=RR.out.fz 3;have z4:=RR.out.fz 4;have z5:=RR.out.fz 5;have z6:=RR.out.fz 6;have z7:=RR.out.fz 7;have z8:=RR.out.fz 8
 go_wp2
 have hk:=nine_kp (b:=zN) RR.out
 obtain ⟨y0,y1,y2,y3,y4,y5,y6,y7,y8⟩:=hk.1.fields
 have hb2:=b1.out.trans (hk.2.below b1.out.size fun k e=>by have:=hr.out;omega)
 clear m0 m1 m2 m3 m4 m5 m6 m7 m8 z0 z1 z2 z3 z4 z5 z6 z7 z8 hk
 simp only [zN] at y0 y1 y2 y3 y4 y5 y6 y7 y8 hb2
 refine bodyPost_ret (v := .tuple #[.agg zN.arr, .slice none 0 0, .int .i64 er]) (by simp [results,Tryz.results8,go_sem,Nb.arr,zN,y0,y1,y2,y3,y4,y5,y6,y7,y8]) rfl ⟨⟨er,rfl,hE'.out⟩,hb2⟩
structure J2(s:Nat)(t:Tr)(Z:World)(b':Nb)(f':List Nat)(v:Value)(L:List (Value × Lz))(B:Nat):Prop where
 fr:Fr 48 Z b' (tlF 24 t []).1 f'
 lo:∀ k∈f',s≤k
 hb:s≤B
 oz:OwnsZ Z B v L
 ls:L.map (·.2)=(tlF 24 t []).2
theorem J2.kept{s:Nat}{t:Tr}{Z Z':World}{b':Nb}{f':List Nat}{v:Value}{L:List (Value × Lz)}{B:Nat}(h:J2 s t Z b' f' v L B)(hb:Below Z.heap.size Z Z'):J2 s t Z' b' f' v L B :=
 ⟨h.fr.stays fun k hk=>hb.block k (h.fr.lt k hk),h.lo,h.hb,h.oz.kept hb,h.ls⟩
theorem J2.kp{s r:Nat}{t:Tr}{Z Z':World}{b':Nb}{f':List Nat}{v:Value}{L:List (Value × Lz)}{B:Nat}(h:J2 s t Z b' f' v L B)(hk:Kp (fun k=>k=r) Z Z')(hr:r<s):J2 s t Z' b' f' v L B :=
 ⟨h.fr.stays fun k hk'=>hk.block k (h.fr.lt k hk') (by have:=h.lo k hk';omega),h.lo,h.hb,h.oz.keep fun x cur e hx hc _=>hk.block x (Array.getElem?_eq_some_iff.1 hc).1 (by have:=h.hb;omega),h.ls⟩
theorem J2.base{s q:Nat}{t:Tr}{Z:World}{b':Nb}{f':List Nat}{v:Value}{L:List (Value × Lz)}{B:Nat}(h:J2 s t Z b' f' v L B)(hq:q≤s):J2 q t Z b' f' v L B :=
 ⟨h.fr,fun k hk=>Nat.le_trans hq (h.lo k hk),Nat.le_trans hq h.hb,h.oz,h.ls⟩
theorem tell_j2{s:Nat}{t:Tr}{b:Nb}{f:List Nat}{Y:World}(hF:Fresh s 24 Y b t f)(hM:t.May (fun u=>alF u=0))(hs:s≤Y.heap.size)(hT:Tab s Y) :
  Calls Tryz.prog 18 #[.agg b.arr] Y fun e w'=>∃ (b':Nb) (f':List Nat) (a:Option Addr) (n c:Nat) (L:List (Value × Lz)) (B:Nat),e = .returned (.tuple #[.agg #[.int .i64 b'.kind, .int .u64 b'.num, .bool b'.neg, .string b'.dig, .int .i64 b'.exp, .string b'.txt, .slice b'.ab b'.lb b'.cb, .slice b'.ak b'.lk b'.ck, .slice b'.ai b'.li b'.ci], .slice a n c])∧Hid (J2 s t w' b' f' (.slice a n c) L B∧n=L.length∧Below s Y w') :=
 (ctell_any (d := 24) (B0 := s) ⟨hF.1, hF.2.1, hF.2.2.1⟩ (shp_all 24 t hM.2.1 hM.1 hM.2.2.1) (fun k hk => (hF.2.2.2 k hk).1) hs (by have := hM.1; omega) (by omega) hT).mono (by
  rintro e w' ⟨b',f',v,L,B,rfl,h⟩
  obtain ⟨h1,h2,h3,h4,h5,h6⟩:=h.out
  obtain ⟨a,n,c,rfl,hn,_⟩:=h4.form
  refine ⟨b',f',a,n,c,L,B,rfl,⟨h1,fun k hk=>?_,by omega,h4,h5⟩,hn,h6⟩
  rcases h2 k hk with q | q
  ·exact (hF.2.2.2 k q).1
  ·omega)
set_option maxHeartbeats 8000000 in
set_option maxRecDepth 100000 in
theorem tojson_not{D L0:Nat}{t:Tr}{b:Nb}{w:World}(hN:Nd D w b t)(hM:t.May (fun u=>alF u=0))(hM2:¬ (tlF 24 t []).1.May (fun u=>alF u=0))(hT:Tab L0 w)(hL:L0≤w.heap.size):Calls Tryz.prog 8 #[.agg b.arr] w fun e w'=>(∃ er:Int,e = .returned (.tuple #[.agg zN.arr, .slice none 0 0, .int .i64 er])∧Tr.ChkIs alF (tlF 24 t []).1 er∧er≠0)∧Below w.heap.size w w':=by
 have hM2':Hid (¬ (tlF 24 t []).1.May (fun u=>alF u=0)):=hM2
 clear hM2
 obtain ⟨hN0,hR,hB,hS⟩:=boxes_new w b
 have hB':Hid (Below w.heap.size w _):=hB
 have hN':Hid (NBox _ w.heap.size b):=hN0
 have hR':Hid (NBox _ (w.heap.size+1) zN):=hR
 have hr:Hid (w.heap.size<w.heap.size+1):=Nat.lt_succ_self _
 obtain ⟨a0,a1,a2,a3,a4,a5,a6,a7,a8⟩:=hN0.fields
 have hM':Hid (t.May (fun u=>alF u=0)):=hM
 have kC:Calls Tryz.prog 17 #[.agg b.arr] _ fun e w'=>(∃ (b':Nb) (f:List Nat),e = .returned (.tuple #[.agg #[.int .i64 b'.kind, .int .u64 b'.num, .bool b'.neg, .string b'.dig, .int .i64 b'.exp, .string b'.txt, .slice b'.ab b'.lb b'.cb, .slice b'.ak b'.lk b'.ck, .slice b'.ai b'.li b'.ci], .int .i64 0])∧Fresh _ 24 w' b' t f)∧Below _ _ w':=checked_yes (hN.kept hB) hM
 have hT':Hid (Tab _ _):=tab_up (hT.on (hB.mono hL))
 clear hB hS hM hN hN0 hR hT hL
 go_enter Tryz.func8,Tryz.ntmps8
 go_upto_region 1 with fail
 generalize ((w.alloc (.cells b.arr 26)).alloc (.cells #[.int .i64 0, .int .u64 0, .bool false, .string ⟨#[]⟩, .int .i64 0, .string ⟨#[]⟩, .slice none 0 0, .slice none 0 0, .slice none 0 0] 26))=W at *
 generalize w.heap.size+1=r at *
 go_upto_region 4 with (go_at_call 17;refine kC.mono ?_;rintro e x1 ⟨⟨b1,f1,rfl,hf1⟩,hb1⟩;clear a0 a1 a2 a3 a4 a5 a6 a7 a8)
 have hal:=alloc_below x1 (.cells #[.int .i64 b1.kind, .int .u64 b1.num, .bool b1.neg, .string b1.dig, .int .i64 b1.exp, .string b1.txt, .slice b1.ab b1.lb b1.cb, .slice b1.ak b1.lk b1.ck, .slice b1.ai b1.li b1.ci] 26)
 have hx:Below W.heap.size W (x1.alloc (.cells #[.int .i64 b1.kind, .int .u64 b1.num, .bool b1.neg, .string b1.dig, .int .i64 b1.exp, .string b1.txt, .slice b1.ab b1.lb b1.cb, .slice b1.ak b1.lk b1.ck, .slice b1.ai b1.li b1.ci] 26)):=hb1.trans (hal.mono hb1.size)
 have R1:Hid (NBox (x1.alloc (.cells #[.int .i64 b1.kind, .int .u64 b1.num, .bool b1.neg, .string b1.dig, .int .i64 b1.exp, .string b1.txt, .slice b1.ab b1.lb b1.cb, .slice b1.ak b1.lk b1.ck, .slice b1.ai b1.li b1.ci] 26)) r zN):=hR'.out.kept hx hR'.out.lt
 have K1:Hid (NBox (x1.alloc (.cells #[.int .i64 b1.kind, .int .u64 b1.num, .bool b1.neg, .string b1.dig, .int .i64 b1.exp, .string b1.txt, .slice b1.ab b1.lb b1.cb, .slice b1.ak b1.lk b1.ck, .slice b1.ai b1.li b1.ci] 26)) x1.heap.size b1):=nbox_new x1 b1
 have b1':Hid (Below W.heap.size W (x1.alloc (.cells #[.int .i64 b1.kind, .int .u64 b1.num, .bool b1.neg, .string b1.dig, .int .i64 b1.exp, .string b1.txt, .slice b1.ab b1.lb b1.cb, .slice b1.ak b1.lk b1.ck, .slice b1.ai b1.li b1.ci] 26))):=hx
 have hF1:Hid (Fresh W.heap.size 24 (x1.alloc (.cells #[.int .i64 b1.kind, .int .u64 b1.num, .bool b1.neg, .string b1.dig, .int .i64 b1.exp, .string b1.txt, .slice b1.ab b1.lb b1.cb, .slice b1.ak b1.lk b1.ck, .slice b1.ai b1.li b1.ci] 26)) b1 t f1):=hf1.kept hal
 have hr1:Hid (r<W.heap.size):=hR'.out.lt
 generalize (x1.alloc (.cells #[.int .i64 b1.kind, .int .u64 b1.num, .bool b1.neg, .string b1.dig, .int .i64 b1.exp, .string b1.txt, .slice b1.ab b1.lb b1.cb, .slice b1.ak b1.lk b1.ck, .slice b1.ai b1.li b1.ci] 26))=Y at *
 generalize x1.heap.size=k1 at *
 clear hf1 hal hb1 kC hR' hN' hx
 have kT:=tell_j2 hF1.out hM'.out b1'.out.size (hT'.out.on b1'.out)
 obtain ⟨a0,a1,a2,a3,a4,a5,a6,a7,a8⟩:=K1.out.fields
 go_upto_region 5 with (go_at_call 18;refine kT.mono ?_;rintro e x2 ⟨b2,f2,ac,nc,cc,L,B,rfl,hj⟩;clear a0 a1 a2 a3 a4 a5 a6 a7 a8 kT)
 have hal2:=alloc_below x2 (.cells #[.int .i64 b2.kind, .int .u64 b2.num, .bool b2.neg, .string b2.dig, .int .i64 b2.exp, .string b2.txt, .slice b2.ab b2.lb b2.cb, .slice b2.ak b2.lk b2.ck, .slice b2.ai b2.li b2.ci] 26)
 have h6:Below W.heap.size W x2:=b1'.out.trans hj.out.2.2
 have hx2:Below W.heap.size W (x2.alloc (.cells #[.int .i64 b2.kind, .int .u64 b2.num, .bool b2.neg, .string b2.dig, .int .i64 b2.exp, .string b2.txt, .slice b2.ab b2.lb b2.cb, .slice b2.ak b2.lk b2.ck, .slice b2.ai b2.li b2.ci] 26)):=h6.trans (hal2.mono h6.size)
 have R2:Hid (NBox (x2.alloc (.cells #[.int .i64 b2.kind, .int .u64 b2.num, .bool b2.neg, .string b2.dig, .int .i64 b2.exp, .string b2.txt, .slice b2.ab b2.lb b2.cb, .slice b2.ak b2.lk b2.ck, .slice b2.ai b2.li b2.ci] 26)) r zN):=(R1.out.kept hj.out.2.2 hr1.out).kept hal2 (Nat.lt_of_lt_of_le hr1.out h6.size)
 have K2:Hid (NBox (x2.alloc (.cells #[.int .i64 b2.kind, .int .u64 b2.num, .bool b2.neg, .string b2.dig, .int .i64 b2.exp, .string b2.txt, .slice b2.ab b2.lb b2.cb, .slice b2.ak b2.lk b2.ck, .slice b2.ai b2.li b2.ci] 26)) x2.heap.size b2):=nbox_new x2 b2
 have b2':Hid (Below W.heap.size W (x2.alloc (.cells #[.int .i64 b2.kind, .int .u64 b2.num, .bool b2.neg, .string b2.dig, .int .i64 b2.exp, .string b2.txt, .slice b2.ab b2.lb b2.cb, .slice b2.ak b2.lk b2.ck, .slice b2.ai b2.li b2.ci] 26))):=hx2
 have hJ:Hid (J2 W.heap.size t (x2.alloc (.cells #[.int .i64 b2.kind, .int .u64 b2.num, .bool b2.neg, .string b2.dig, .int .i64 b2.exp, .string b2.txt, .slice b2.ab b2.lb b2.cb, .slice b2.ak b2.lk b2.ck, .slice b2.ai b2.li b2.ci] 26)) b2 f2 (.slice ac nc cc) L B∧nc=L.length):=⟨hj.out.1.kept hal2,hj.out.2.1⟩
 generalize (x2.alloc (.cells #[.int .i64 b2.kind, .int .u64 b2.num, .bool b2.neg, .string b2.dig, .int .i64 b2.exp, .string b2.txt, .slice b2.ab b2.lb b2.cb, .slice b2.ak b2.lk b2.ck, .slice b2.ai b2.li b2.ci] 26))=Z at *
 generalize x2.heap.size=k2 at *
 clear hal2 h6 hx2 hj R1 K1 hF1 b1'
 have kG:=gcheck_any hJ.out.1.fr.nd
 obtain ⟨a0,a1,a2,a3,a4,a5,a6,a7,a8⟩:=K2.out.fields
 go_upto_region 7 with (go_at_call 19;refine kG.mono ?_;rintro e x3 ⟨⟨er,rfl,hE⟩,hb3⟩;have ge:(er != 0)=true:=(by simp only [bne_iff_ne,ne_eq];exact fun q=>hM2'.out ((chk_is hE).1 q));have hE':Hid (Tr.ChkIs alF (tlF 24 t []).1 er):=hE;have b3:Hid (Below W.heap.size W x3):=b2'.out.trans (hb3.mono b2'.out.size);have RR:Hid (NBox x3 r zN):=R2.out.kept hb3 R2.out.lt;clear a0 a1 a2 a3 a4 a5 a6 a7 a8 kG hE hb3)
 obtain ⟨m0,m1,m2,m3,m4,m5,m6,m7,m8⟩:=RR.out.fields
 have z0:=RR.out.fz 0;have z1:=RR.out.fz 1;have z2:=RR.out.fz 2;have z3:=RR.out.fz 3;have z4:=RR.out.fz 4;have z5:=RR.out.fz 5;have z6:=RR.out.fz 6;have z7:=RR.out.fz 7;have z8:=RR.out.fz 8
 go_wp2
 have hk:=nine_kp (b:=zN) RR.out
 obtain ⟨y0,y1,y2,y3,y4,y5,y6,y7,y8⟩:=hk.1.fields
 have hb4:Below w.heap.size w x3:=hB'.out.trans (b3.out.mono hB'.out.size)
 have hb2:=hb4.trans (hk.2.below hb4.size fun k e=>by have:=hr.out;omega)
 clear m0 m1 m2 m3 m4 m5 m6 m7 m8 z0 z1 z2 z3 z4 z5 z6 z7 z8 hk
 simp only [zN] at y0 y1 y2 y3 y4 y5 y6 y7 y8 hb2
 refine bodyPost_ret (v := .tuple #[.agg zN.arr, .slice none 0 0, .int .i64 er]) (by simp [results,Tryz.results8,go_sem,Nb.arr,zN,y0,y1,y2,y3,y4,y5,y6,y7,y8]) rfl ⟨⟨er,rfl,hE'.out,by simpa using ge⟩,hb2⟩
set_option maxHeartbeats 8000000 in
set_option maxRecDepth 100000 in
theorem tojson_yes{D L0:Nat}{t:Tr}{b:Nb}{w:World}(hN:Nd D w b t)(hM:t.May (fun u=>alF u=0))(hM2:(tlF 24 t []).1.May (fun u=>alF u=0))(hT:Tab L0 w)(hL:L0≤w.heap.size):Calls Tryz.prog 8 #[.agg b.arr] w fun e w'=>(∃ (b':Nb) (f':List Nat) (a:Option Addr) (n c:Nat) (L:List (Value × Lz)) (B:Nat),e = .returned (.tuple #[.agg b'.arr, .slice a n c, .int .i64 0])∧Hid (J2 w.heap.size t w' b' f' (.slice a n c) L B∧n=L.length))∧Below w.heap.size w w':=by
 have hM2':Hid ((tlF 24 t []).1.May (fun u=>alF u=0)):=hM2
 clear hM2
 obtain ⟨hN0,hR,hB,hS⟩:=boxes_new w b
 have hB':Hid (Below w.heap.size w _):=hB
 have hN':Hid (NBox _ w.heap.size b):=hN0
 have hR':Hid (NBox _ (w.heap.size+1) zN):=hR
 have hr:Hid (w.heap.size<w.heap.size+1):=Nat.lt_succ_self _
 obtain ⟨a0,a1,a2,a3,a4,a5,a6,a7,a8⟩:=hN0.fields
 have hM':Hid (t.May (fun u=>alF u=0)):=hM
 have kC:Calls Tryz.prog 17 #[.agg b.arr] _ fun e w'=>(∃ (b':Nb) (f:List Nat),e = .returned (.tuple #[.agg #[.int .i64 b'.kind, .int .u64 b'.num, .bool b'.neg, .string b'.dig, .int .i64 b'.exp, .string b'.txt, .slice b'.ab b'.lb b'.cb, .slice b'.ak b'.lk b'.ck, .slice b'.ai b'.li b'.ci], .int .i64 0])∧Fresh _ 24 w' b' t f)∧Below _ _ w':=checked_yes (hN.kept hB) hM
 have hT':Hid (Tab _ _):=tab_up (hT.on (hB.mono hL))
 clear hB hS hM hN hN0 hR hT hL
 go_enter Tryz.func8,Tryz.ntmps8
 go_upto_region 1 with fail
 generalize ((w.alloc (.cells b.arr 26)).alloc (.cells #[.int .i64 0, .int .u64 0, .bool false, .string ⟨#[]⟩, .int .i64 0, .string ⟨#[]⟩, .slice none 0 0, .slice none 0 0, .slice none 0 0] 26))=W at *
 generalize w.heap.size+1=r at *
 go_upto_region 4 with (go_at_call 17;refine kC.mono ?_;rintro e x1 ⟨⟨b1,f1,rfl,hf1⟩,hb1⟩;clear a0 a1 a2 a3 a4 a5 a6 a7 a8)
 have hal:=alloc_below x1 (.cells #[.int .i64 b1.kind, .int .u64 b1.num, .bool b1.neg, .string b1.dig, .int .i64 b1.exp, .string b1.txt, .slice b1.ab b1.lb b1.cb, .slice b1.ak b1.lk b1.ck, .slice b1.ai b1.li b1.ci] 26)
 have hx:Below W.heap.size W (x1.alloc (.cells #[.int .i64 b1.kind, .int .u64 b1.num, .bool b1.neg, .string b1.dig, .int .i64 b1.exp, .string b1.txt, .slice b1.ab b1.lb b1.cb, .slice b1.ak b1.lk b1.ck, .slice b1.ai b1.li b1.ci] 26)):=hb1.trans (hal.mono hb1.size)
 have R1:Hid (NBox (x1.alloc (.cells #[.int .i64 b1.kind, .int .u64 b1.num, .bool b1.neg, .string b1.dig, .int .i64 b1.exp, .string b1.txt, .slice b1.ab b1.lb b1.cb, .slice b1.ak b1.lk b1.ck, .slice b1.ai b1.li b1.ci] 26)) r zN):=hR'.out.kept hx hR'.out.lt
 have K1:Hid (NBox (x1.alloc (.cells #[.int .i64 b1.kind, .int .u64 b1.num, .bool b1.neg, .string b1.dig, .int .i64 b1.exp, .string b1.txt, .slice b1.ab b1.lb b1.cb, .slice b1.ak b1.lk b1.ck, .slice b1.ai b1.li b1.ci] 26)) x1.heap.size b1):=nbox_new x1 b1
 have b1':Hid (Below W.heap.size W (x1.alloc (.cells #[.int .i64 b1.kind, .int .u64 b1.num, .bool b1.neg, .string b1.dig, .int .i64 b1.exp, .string b1.txt, .slice b1.ab b1.lb b1.cb, .slice b1.ak b1.lk b1.ck, .slice b1.ai b1.li b1.ci] 26))):=hx
 have hF1:Hid (Fresh W.heap.size 24 (x1.alloc (.cells #[.int .i64 b1.kind, .int .u64 b1.num, .bool b1.neg, .string b1.dig, .int .i64 b1.exp, .string b1.txt, .slice b1.ab b1.lb b1.cb, .slice b1.ak b1.lk b1.ck, .slice b1.ai b1.li b1.ci] 26)) b1 t f1):=hf1.kept hal
 have hr1:Hid (r<W.heap.size):=hR'.out.lt
 generalize (x1.alloc (.cells #[.int .i64 b1.kind, .int .u64 b1.num, .bool b1.neg, .string b1.dig, .int .i64 b1.exp, .string b1.txt, .slice b1.ab b1.lb b1.cb, .slice b1.ak b1.lk b1.ck, .slice b1.ai b1.li b1.ci] 26))=Y at *
 generalize x1.heap.size=k1 at *
 clear hf1 hal hb1 kC hR' hN' hx
 have kT:=tell_j2 hF1.out hM'.out b1'.out.size (hT'.out.on b1'.out)
 obtain ⟨a0,a1,a2,a3,a4,a5,a6,a7,a8⟩:=K1.out.fields
 go_upto_region 5 with (go_at_call 18;refine kT.mono ?_;rintro e x2 ⟨b2,f2,ac,nc,cc,L,B,rfl,hj⟩;clear a0 a1 a2 a3 a4 a5 a6 a7 a8 kT)
 have hal2:=alloc_below x2 (.cells #[.int .i64 b2.kind, .int .u64 b2.num, .bool b2.neg, .string b2.dig, .int .i64 b2.exp, .string b2.txt, .slice b2.ab b2.lb b2.cb, .slice b2.ak b2.lk b2.ck, .slice b2.ai b2.li b2.ci] 26)
 have h6:Below W.heap.size W x2:=b1'.out.trans hj.out.2.2
 have hx2:Below W.heap.size W (x2.alloc (.cells #[.int .i64 b2.kind, .int .u64 b2.num, .bool b2.neg, .string b2.dig, .int .i64 b2.exp, .string b2.txt, .slice b2.ab b2.lb b2.cb, .slice b2.ak b2.lk b2.ck, .slice b2.ai b2.li b2.ci] 26)):=h6.trans (hal2.mono h6.size)
 have R2:Hid (NBox (x2.alloc (.cells #[.int .i64 b2.kind, .int .u64 b2.num, .bool b2.neg, .string b2.dig, .int .i64 b2.exp, .string b2.txt, .slice b2.ab b2.lb b2.cb, .slice b2.ak b2.lk b2.ck, .slice b2.ai b2.li b2.ci] 26)) r zN):=(R1.out.kept hj.out.2.2 hr1.out).kept hal2 (Nat.lt_of_lt_of_le hr1.out h6.size)
 have K2:Hid (NBox (x2.alloc (.cells #[.int .i64 b2.kind, .int .u64 b2.num, .bool b2.neg, .string b2.dig, .int .i64 b2.exp, .string b2.txt, .slice b2.ab b2.lb b2.cb, .slice b2.ak b2.lk b2.ck, .slice b2.ai b2.li b2.ci] 26)) x2.heap.size b2):=nbox_new x2 b2
 have b2':Hid (Below W.heap.size W (x2.alloc (.cells #[.int .i64 b2.kind, .int .u64 b2.num, .bool b2.neg, .string b2.dig, .int .i64 b2.exp, .string b2.txt, .slice b2.ab b2.lb b2.cb, .slice b2.ak b2.lk b2.ck, .slice b2.ai b2.li b2.ci] 26))):=hx2
 have hJ:Hid (J2 W.heap.size t (x2.alloc (.cells #[.int .i64 b2.kind, .int .u64 b2.num, .bool b2.neg, .string b2.dig, .int .i64 b2.exp, .string b2.txt, .slice b2.ab b2.lb b2.cb, .slice b2.ak b2.lk b2.ck, .slice b2.ai b2.li b2.ci] 26)) b2 f2 (.slice ac nc cc) L B∧nc=L.length):=⟨hj.out.1.kept hal2,hj.out.2.1⟩
 generalize (x2.alloc (.cells #[.int .i64 b2.kind, .int .u64 b2.num, .bool b2.neg, .string b2.dig, .int .i64 b2.exp, .string b2.txt, .slice b2.ab b2.lb b2.cb, .slice b2.ak b2.lk b2.ck, .slice b2.ai b2.li b2.ci] 26))=Z at *
 generalize x2.heap.size=k2 at *
 clear hal2 h6 hx2 hj R1 K1 hF1 b1'
 have kG:=gcheck_any hJ.out.1.fr.nd
 obtain ⟨a0,a1,a2,a3,a4,a5,a6,a7,a8⟩:=K2.out.fields
 go_upto_region 8 with (go_at_call 19;refine kG.mono ?_;rintro e x3 ⟨⟨er,rfl,hE⟩,hb3⟩;have he0:=(chk_is hE).2 hM2'.out;subst he0;have b3:Hid (Below W.heap.size W x3):=b2'.out.trans (hb3.mono b2'.out.size);have RR:Hid (NBox x3 r zN):=R2.out.kept hb3 R2.out.lt;have K3:Hid (NBox x3 k2 b2):=K2.out.kept hb3 K2.out.lt;have hJ3:Hid (J2 W.heap.size t x3 b2 f2 (.slice ac nc cc) L B∧nc=L.length):=⟨hJ.out.1.kept hb3,hJ.out.2⟩;clear a0 a1 a2 a3 a4 a5 a6 a7 a8 kG hE hb3)
 obtain ⟨a0,a1,a2,a3,a4,a5,a6,a7,a8⟩:=K3.out.fields
 obtain ⟨m0,m1,m2,m3,m4,m5,m6,m7,m8⟩:=RR.out.fields
 have z0:=RR.out.fz 0;have z1:=RR.out.fz 1;have z2:=RR.out.fz 2;have z3:=RR.out.fz 3;have z4:=RR.out.fz 4;have z5:=RR.out.fz 5;have z6:=RR.out.fz 6;have z7:=RR.out.fz 7;have z8:=RR.out.fz 8
 go_wp2
 have hk:=nine_kp (b:=b2) RR.out
 obtain ⟨y0,y1,y2,y3,y4,y5,y6,y7,y8⟩:=hk.1.fields
 have hb4:Below w.heap.size w x3:=hB'.out.trans (b3.out.mono hB'.out.size)
 have hb2:=hb4.trans (hk.2.below hb4.size fun k e=>by have:=hr.out;omega)
 have hJ4:=(hJ3.out.1.kp hk.2 hr1.out).base hB'.out.size
 clear m0 m1 m2 m3 m4 m5 m6 m7 m8 z0 z1 z2 z3 z4 z5 z6 z7 z8 hk
 refine bodyPost_ret (v := .tuple #[.agg b2.arr, .slice ac nc cc, .int .i64 0]) (by simp [results,Tryz.results8,go_sem,Nb.arr,y0,y1,y2,y3,y4,y5,y6,y7,y8]) rfl ⟨⟨b2,f2,ac,nc,cc,L,B,rfl,hJ4,hJ3.out.2⟩,hb2⟩
end Go.Proofs.YtejlaiofpekchaaGreatDoor
namespace Go.Proofs.YtejlaiofpekchaaGreatDoor
open Go.RowKit
set_option linter.unusedVariables false
def LeftAt(D:Nat):Prop:=∀ (t:Tr) (b:Nb) (w:World) (m:Int),Nd D w b t→0≤m→m≤2000→Calls Tryz.prog 55 #[.agg b.arr, .int .i64 m] w fun e w'=>e = .returned (.int .i64 (Tr.lft m t.size))∧Below w.heap.size w w'
theorem lft_bd{m:Int}{s:Nat}(h0:0≤m)(h1:m≤2000) : -1≤Tr.lft m s∧Tr.lft m s≤2000:=by unfold Tr.lft;split <;> omega
set_option maxHeartbeats 4000000 in
set_option maxRecDepth 100000 in
theorem left_step {D : Nat} (ih : LeftAt D) : LeftAt (D + 1) := by
 intro t b w m hN h0 h1
 have hal:=alloc_below w (.cells b.arr 26)
 have Q0:Hid (NBox (w.alloc (.cells b.arr 26)) w.heap.size b):=nbox_new w b
 have B0:Hid (Below w.heap.size w (w.alloc (.cells b.arr 26))):=hal
 obtain ⟨a0,a1,a2,a3,a4,a5,a6,a7,a8⟩:=(nbox_new w b).fields
 have hNk:Hid (RowN (Nd D w) w b.ak b.lk b.ck t.keys):=hN.2.2.2.1
 have hNi:Hid (RowN (Nd D w) w b.ai b.li b.ci t.kids):=hN.2.2.2.2
 have hlk:Hid (t.keys.length=b.lk):=hN.2.2.2.1.1
 have hli:Hid (t.kids.length=b.li):=hN.2.2.2.2.1
 have mk:=hN.2.2.2.1.2.1.1
 have mk':=hN.2.2.2.1.2.1.2.1
 have mi:=hN.2.2.2.2.2.1.1
 have mi':=hN.2.2.2.2.2.1.2.1
 unfold maxLen at mk' mi'
 have hm:Hid (0≤m∧m≤2000):=⟨h0,h1⟩
 have wm:IntKind.i64.wrap (m - 1)=m - 1:=by rw [IntKind.wrap_i64];omega
 have hsz:Hid (t.size=1+Tr.sizes t.keys+Tr.sizes t.kids):=Tr.size_eq t
 have hst:Hid (m - 1=Tr.lft m (1+Tr.sizes (t.keys.take 0))):=by
  show _=_
  rw [List.take_zero,Tr.sizes_nil];unfold Tr.lft;split <;> omega
 clear hal hN h0 h1
 go_enter Tryz.func55,Tryz.ntmps55
 go_wp2
 go_loopw [1,5] (fun s1 s5 wr=>∃ (i:Nat) (M:Int),i≤b.lk∧s1 = .int .i64 M∧s5 = .int .i64 i∧Hid (Below (w.alloc (.cells b.arr 26)).heap.size (w.alloc (.cells b.arr 26)) wr)∧Hid (M=Tr.lft m (1+Tr.sizes (t.keys.take i)))) (fun _ i _=>b.lk - (intOf i).toNat)
 case atStart=>exact ⟨0,m - 1,Nat.zero_le _,rfl,rfl,Below.refl _ _,hst⟩
 case round =>
  obtain ⟨i,M,him,rfl,rfl,hbl,hM⟩:=hrel
  clear a0 a1 a2 a3 a4 a5 a6 a7 a8
  have Qr:=Q0.out.kept hbl.out Q0.out.lt
  have Br:Hid (Below w.heap.size w wr):=B0.out.trans (hbl.out.mono B0.out.size)
  obtain ⟨a0,a1,a2,a3,a4,a5,a6,a7,a8⟩:=Qr.fields
  have hMb:=lft_bd (s:=1+Tr.sizes (t.keys.take i)) hm.out.1 hm.out.2
  rw [←hM.out] at hMb
  by_cases hlt:i<b.lk
  ·have hz : (i : Int) < (b.lk : Int) := by omega
   have hix:i<t.keys.length:=by rw [hlk.out];exact hlt
   by_cases hM0:0≤M
   ·have hMd : decide (0 ≤ M) = true := decide_eq_true hM0
    obtain ⟨bk,ok,nk,hak,hck,hNn,hbk⟩:=row_el hNk.out Br.out hix
    obtain ⟨f0,f1,f2,f3,f4,f5,f6,f7,f8⟩:=elem_fields hck
    have kk:=ih t.keys[i] nk wr M hNn hM0 hMb.2
    have wi:IntKind.i64.wrap ((i:Int)+1)=(i:Int)+1:=by rw [IntKind.wrap_i64];omega
    have hM':Hid (Tr.lft M (t.keys[i]).size=Tr.lft m (1+Tr.sizes (t.keys.take (i+1)))):=by
     show _=_
     have e:=hM.out
     subst e
     rw [Tr.lft_add hM0,Tr.sizes_snoc _ hix,Nat.add_assoc]
    generalize Tr.lft M (t.keys[i]).size=M2 at *
    clear hck hNn hbk hM0
    go_wp2_with (go_at_call 55;refine kk.mono ?_;rintro e w2 ⟨rfl,hb2⟩)
    try simp only [hak]
    go_roundw
    case rel=>exact ⟨i+1,M2,by omega,rfl,by go_num,hbl.out.trans (hb2.mono hbl.out.size),hM'⟩
    case measure=>simp [intOf];omega
   ·have hMd : decide (0 ≤ M) = false := decide_eq_false hM0
    have hK:Hid (M=Tr.lft m (1+Tr.sizes t.keys)):=by
     show _=_
     have h1:Tr.sizes t.keys=Tr.sizes (t.keys.take i)+Tr.sizes (t.keys.drop i):=by rw [←Tr.sizes_app,List.take_append_drop]
     have h2:=Tr.lft_over (m:=m) (a:=1+Tr.sizes (t.keys.take i)) (b:=Tr.sizes (t.keys.drop i)) (by rw [←hM.out];omega) hm.out.1
     rw [hM.out,h2.2,h1,←Nat.add_assoc,h2.1]
    clear hM hM0
    go_wp2
    go_loopw [1,6] (fun s1 s6 wq=>∃ (j:Nat) (N:Int),j≤b.li∧s1 = .int .i64 N∧s6 = .int .i64 j∧Hid (Below (w.alloc (.cells b.arr 26)).heap.size (w.alloc (.cells b.arr 26)) wq)∧Hid (N=Tr.lft m (1+Tr.sizes t.keys+Tr.sizes (t.kids.take j)))) (fun _ j _=>b.li - (intOf j).toNat)
    case atStart=>exact ⟨0,M,Nat.zero_le _,rfl,rfl,hbl,by show _=_;rw [List.take_zero,Tr.sizes_nil,Nat.add_zero];exact hK.out⟩
    case round =>
     obtain ⟨j,N,hjm,rfl,rfl,hbq,hN'⟩:=hrel
     clear a0 a1 a2 a3 a4 a5 a6 a7 a8
     have Qq:=Q0.out.kept hbq.out Q0.out.lt
     have Bq:Hid (Below w.heap.size w _):=B0.out.trans (hbq.out.mono B0.out.size)
     obtain ⟨a0,a1,a2,a3,a4,a5,a6,a7,a8⟩:=Qq.fields
     have hNb:=lft_bd (s:=1+Tr.sizes t.keys+Tr.sizes (t.kids.take j)) hm.out.1 hm.out.2
     rw [←hN'.out] at hNb
     by_cases hjt:j<b.li
     ·have hjz : (j : Int) < (b.li : Int) := by omega
      have hjx:j<t.kids.length:=by rw [hli.out];exact hjt
      by_cases hN0:0≤N
      ·have hNd : decide (0 ≤ N) = true := decide_eq_true hN0
       obtain ⟨bi,oi,ni,hai,hci,hNn2,hbi⟩:=row_el hNi.out Bq.out hjx
       obtain ⟨p0,p1,p2,p3,p4,p5,p6,p7,p8⟩:=elem_fields hci
       have k2:=ih t.kids[j] ni _ N hNn2 hN0 hNb.2
       have wj:IntKind.i64.wrap ((j:Int)+1)=(j:Int)+1:=by rw [IntKind.wrap_i64];omega
       have hN2:Hid (Tr.lft N (t.kids[j]).size=Tr.lft m (1+Tr.sizes t.keys+Tr.sizes (t.kids.take (j+1)))):=by
        show _=_
        have e:=hN'.out
        subst e
        rw [Tr.lft_add hN0,Tr.sizes_snoc _ hjx,Nat.add_assoc (1+Tr.sizes t.keys)]
       generalize Tr.lft N (t.kids[j]).size=N2 at *
       clear hci hNn2 hbi hN0
       go_wp2_with (go_at_call 55;refine k2.mono ?_;rintro e w3 ⟨rfl,hb3⟩)
       try simp only [hai]
       go_roundw
       case rel=>exact ⟨j+1,N2,by omega,rfl,by go_num,hbq.out.trans (hb3.mono hbq.out.size),hN2⟩
       case measure=>simp [intOf];omega
      ·have hNd : decide (0 ≤ N) = false := decide_eq_false hN0
       have hfin:Hid (N=Tr.lft m t.size):=by
        show _=_
        have h1:Tr.sizes t.kids=Tr.sizes (t.kids.take j)+Tr.sizes (t.kids.drop j):=by rw [←Tr.sizes_app,List.take_append_drop]
        have h2:=Tr.lft_over (m:=m) (a:=1+Tr.sizes t.keys+Tr.sizes (t.kids.take j)) (b:=Tr.sizes (t.kids.drop j)) (by rw [←hN'.out];omega) hm.out.1
        rw [hN'.out,h2.2,hsz.out,h1,←Nat.add_assoc (1+Tr.sizes t.keys),h2.1]
       clear hN' hN0
       go_wp2
       go_ret
       exact ⟨by rw [←hfin.out];rfl,Bq.out⟩
     ·have hjz : ¬ (j : Int) < (b.li : Int) := by omega
      have hfin:Hid (N=Tr.lft m t.size):=by
       show _=_
       rw [hN'.out,hsz.out,List.take_of_length_le (by rw [hli.out];omega)]
      clear hN'
      go_wp2
      go_ret
      exact ⟨by rw [←hfin.out];rfl,Bq.out⟩
  ·have hz : ¬ (i : Int) < (b.lk : Int) := by omega
   have hK:Hid (M=Tr.lft m (1+Tr.sizes t.keys)):=by
    show _=_
    rw [hM.out,List.take_of_length_le (by rw [hlk.out];omega)]
   clear hM
   go_wp2
   go_loopw [1,6] (fun s1 s6 wq=>∃ (j:Nat) (N:Int),j≤b.li∧s1 = .int .i64 N∧s6 = .int .i64 j∧Hid (Below (w.alloc (.cells b.arr 26)).heap.size (w.alloc (.cells b.arr 26)) wq)∧Hid (N=Tr.lft m (1+Tr.sizes t.keys+Tr.sizes (t.kids.take j)))) (fun _ j _=>b.li - (intOf j).toNat)
   case atStart=>exact ⟨0,M,Nat.zero_le _,rfl,rfl,hbl,by show _=_;rw [List.take_zero,Tr.sizes_nil,Nat.add_zero];exact hK.out⟩
   case round =>
    obtain ⟨j,N,hjm,rfl,rfl,hbq,hN'⟩:=hrel
    clear a0 a1 a2 a3 a4 a5 a6 a7 a8
    have Qq:=Q0.out.kept hbq.out Q0.out.lt
    have Bq:Hid (Below w.heap.size w _):=B0.out.trans (hbq.out.mono B0.out.size)
    obtain ⟨a0,a1,a2,a3,a4,a5,a6,a7,a8⟩:=Qq.fields
    have hNb:=lft_bd (s:=1+Tr.sizes t.keys+Tr.sizes (t.kids.take j)) hm.out.1 hm.out.2
    rw [←hN'.out] at hNb
    by_cases hjt:j<b.li
    ·have hjz : (j : Int) < (b.li : Int) := by omega
     have hjx:j<t.kids.length:=by rw [hli.out];exact hjt
     by_cases hN0:0≤N
     ·have hNd : decide (0 ≤ N) = true := decide_eq_true hN0
      obtain ⟨bi,oi,ni,hai,hci,hNn2,hbi⟩:=row_el hNi.out Bq.out hjx
      obtain ⟨p0,p1,p2,p3,p4,p5,p6,p7,p8⟩:=elem_fields hci
      have k2:=ih t.kids[j] ni _ N hNn2 hN0 hNb.2
      have wj:IntKind.i64.wrap ((j:Int)+1)=(j:Int)+1:=by rw [IntKind.wrap_i64];omega
      have hN2:Hid (Tr.lft N (t.kids[j]).size=Tr.lft m (1+Tr.sizes t.keys+Tr.sizes (t.kids.take (j+1)))):=by
       show _=_
       have e:=hN'.out
       subst e
       rw [Tr.lft_add hN0,Tr.sizes_snoc _ hjx,Nat.add_assoc (1+Tr.sizes t.keys)]
      generalize Tr.lft N (t.kids[j]).size=N2 at *
      clear hci hNn2 hbi hN0
      go_wp2_with (go_at_call 55;refine k2.mono ?_;rintro e w3 ⟨rfl,hb3⟩)
      try simp only [hai]
      go_roundw
      case rel=>exact ⟨j+1,N2,by omega,rfl,by go_num,hbq.out.trans (hb3.mono hbq.out.size),hN2⟩
      case measure=>simp [intOf];omega
     ·have hNd : decide (0 ≤ N) = false := decide_eq_false hN0
      have hfin:Hid (N=Tr.lft m t.size):=by
       show _=_
       have h1:Tr.sizes t.kids=Tr.sizes (t.kids.take j)+Tr.sizes (t.kids.drop j):=by rw [←Tr.sizes_app,List.take_append_drop]
       have h2:=Tr.lft_over (m:=m) (a:=1+Tr.sizes t.keys+Tr.sizes (t.kids.take j)) (b:=Tr.sizes (t.kids.drop j)) (by rw [←hN'.out];omega) hm.out.1
       rw [hN'.out,h2.2,hsz.out,h1,←Nat.add_assoc (1+Tr.sizes t.keys),h2.1]
      clear hN' hN0
      go_wp2
      go_ret
      exact ⟨by rw [←hfin.out];rfl,Bq.out⟩
    ·have hjz : ¬ (j : Int) < (b.li : Int) := by omega
     have hfin:Hid (N=Tr.lft m t.size):=by
      show _=_
      rw [hN'.out,hsz.out,List.take_of_length_le (by rw [hli.out];omega)]
     clear hN'
     go_wp2
     go_ret
     exact ⟨by rw [←hfin.out];rfl,Bq.out⟩
theorem left_all:∀ D,LeftAt D:=by
 intro D
 induction D with
 | zero=>intro t b w m h;exact absurd h id
 | succ D ih=>exact left_step ih
end Go.Proofs.YtejlaiofpekchaaGreatDoor
namespace Go.Proofs.YtejlaiofpekchaaGreatDoor
open Go.RowKit
set_option linter.unusedVariables false
def DeepAt(D:Nat):Prop:=∀ (t:Tr) (b:Nb) (w:World),Nd D w b t→t.size≤1000000→Calls Tryz.prog 47 #[.agg b.arr] w fun e w'=>e = .returned (.int .i64 (t.deep:Nat))∧Below w.heap.size w w'
theorem deeps_le(l:List Tr):Tr.deeps l≤Tr.sizes l:=Tr.mx_le fun x hx=>by
 obtain ⟨k,hm,rfl⟩:=List.mem_map.1 hx
 exact Nat.le_trans (Tr.deep_size k) (Tr.size_le hm)
theorem deeps_take(l:List Tr)(i:Nat):Tr.deeps (l.take i)≤Tr.sizes l:=Nat.le_trans (deeps_le _) (Tr.sizes_take l i)
set_option maxHeartbeats 4000000 in
set_option maxRecDepth 100000 in
theorem deep_step{D:Nat}(ih:DeepAt D):DeepAt (D+1):=by
 intro t b w hN hsz
 have hal:=alloc_below w (.cells b.arr 26)
 have Q0:Hid (NBox (w.alloc (.cells b.arr 26)) w.heap.size b):=nbox_new w b
 have B0:Hid (Below w.heap.size w (w.alloc (.cells b.arr 26))):=hal
 obtain ⟨a0,a1,a2,a3,a4,a5,a6,a7,a8⟩:=(nbox_new w b).fields
 have hNk:Hid (RowN (Nd D w) w b.ak b.lk b.ck t.keys):=hN.2.2.2.1
 have hNi:Hid (RowN (Nd D w) w b.ai b.li b.ci t.kids):=hN.2.2.2.2
 have hlk:Hid (t.keys.length=b.lk):=hN.2.2.2.1.1
 have hli:Hid (t.kids.length=b.li):=hN.2.2.2.2.1
 have mk:=hN.2.2.2.1.2.1.1
 have mk':=hN.2.2.2.1.2.1.2.1
 have mi:=hN.2.2.2.2.2.1.1
 have mi':=hN.2.2.2.2.2.1.2.1
 unfold maxLen at mk' mi'
 have hse:=Tr.size_eq t
 have hS:Hid (Tr.sizes t.keys≤1000000∧Tr.sizes t.kids≤1000000):=⟨by omega,by omega⟩
 have hd:Hid (t.deep=1+max (Tr.deeps t.keys) (Tr.deeps t.kids)):=Tr.deep_eq t
 clear hal hN hse hsz
 go_enter Tryz.func47,Tryz.ntmps47
 go_wp2
 go_loopw [3,4] (fun s3 s4 wr=>∃ (i:Nat) (M:Nat),i≤b.lk∧s3 = .int .i64 (M:Nat)∧s4 = .int .i64 i∧Hid (Below (w.alloc (.cells b.arr 26)).heap.size (w.alloc (.cells b.arr 26)) wr)∧Hid (M=Tr.deeps (t.keys.take i))) (fun _ i _=>b.lk - (intOf i).toNat)
 case atStart=>exact ⟨0,0,Nat.zero_le _,rfl,rfl,Below.refl _ _,by show _=_;rw [List.take_zero];rfl⟩
 case round =>
  obtain ⟨i,M,him,rfl,rfl,hbl,hM⟩:=hrel
  clear a0 a1 a2 a3 a4 a5 a6 a7 a8
  have Qr:=Q0.out.kept hbl.out Q0.out.lt
  have Br:Hid (Below w.heap.size w wr):=B0.out.trans (hbl.out.mono B0.out.size)
  obtain ⟨a0,a1,a2,a3,a4,a5,a6,a7,a8⟩:=Qr.fields
  have hMb:M≤1000000:=by rw [hM.out];exact Nat.le_trans (deeps_take _ _) hS.out.1
  by_cases hlt:i<b.lk
  ·have hz : (i : Int) < (b.lk : Int) := by omega
   have hix:i<t.keys.length:=by rw [hlk.out];exact hlt
   obtain ⟨bk,ok,nk,hak,hck,hNn,hbk⟩:=row_el hNk.out Br.out hix
   obtain ⟨f0,f1,f2,f3,f4,f5,f6,f7,f8⟩:=elem_fields hck
   have kk:=ih t.keys[i] nk wr hNn (Nat.le_trans (Tr.size_le (List.getElem_mem hix)) hS.out.1)
   have wi:IntKind.i64.wrap ((i:Int)+1)=(i:Int)+1:=by rw [IntKind.wrap_i64];omega
   have hM':Hid (max M (t.keys[i]).deep=Tr.deeps (t.keys.take (i+1))):=by
    show _=_
    rw [Tr.deeps_snoc _ hix,hM.out]
   generalize (t.keys[i]).deep=E at *
   clear hck hNn hbk
   by_cases hE:M<E
   ·have hEz : (M : Int) < (E : Int) := by omega
    have hmx:Hid (max M E=E):=by show _=_;omega
    clear hE
    go_wp2_with (go_at_call 47;refine kk.mono ?_;rintro e w2 ⟨rfl,hb2⟩)
    try simp only [hak]
    go_roundw
    case rel=>exact ⟨i+1,E,by omega,(by first | rfl | (congr 1;omega)),by go_num,hbl.out.trans (hb2.mono hbl.out.size),by show _=_;rw [←hM'.out,hmx.out]⟩
    case measure=>simp [intOf];omega
   ·have hEz : ¬ (M : Int) < (E : Int) := by omega
    have hmx:Hid (max M E=M):=by show _=_;omega
    clear hE
    go_wp2_with (go_at_call 47;refine kk.mono ?_;rintro e w2 ⟨rfl,hb2⟩)
    try simp only [hak]
    go_roundw
    case rel=>exact ⟨i+1,M,by omega,(by first | rfl | (congr 1;omega)),by go_num,hbl.out.trans (hb2.mono hbl.out.size),by show _=_;rw [←hM'.out,hmx.out]⟩
    case measure=>simp [intOf];omega
  ·have hz : ¬ (i : Int) < (b.lk : Int) := by omega
   have hK:Hid (M=Tr.deeps t.keys):=by
    show _=_
    rw [hM.out,List.take_of_length_le (by rw [hlk.out];omega)]
   clear hM
   go_wp2
   go_loopw [3,5] (fun s3 s5 wq=>∃ (j:Nat) (N:Nat),j≤b.li∧s3 = .int .i64 (N:Nat)∧s5 = .int .i64 j∧Hid (Below (w.alloc (.cells b.arr 26)).heap.size (w.alloc (.cells b.arr 26)) wq)∧Hid (N=max (Tr.deeps t.keys) (Tr.deeps (t.kids.take j)))) (fun _ j _=>b.li - (intOf j).toNat)
   case atStart=>exact ⟨0,M,Nat.zero_le _,rfl,rfl,hbl,by show _=_;rw [List.take_zero,hK.out];exact (Nat.max_eq_left (Nat.zero_le _)).symm⟩
   case round =>
    obtain ⟨j,N,hjm,rfl,rfl,hbq,hN'⟩:=hrel
    clear a0 a1 a2 a3 a4 a5 a6 a7 a8
    have Qq:=Q0.out.kept hbq.out Q0.out.lt
    have Bq:Hid (Below w.heap.size w _):=B0.out.trans (hbq.out.mono B0.out.size)
    obtain ⟨a0,a1,a2,a3,a4,a5,a6,a7,a8⟩:=Qq.fields
    have hNb:N≤1000000:=by
     rw [hN'.out]
     exact Nat.max_le.2 ⟨Nat.le_trans (deeps_le _) hS.out.1,Nat.le_trans (deeps_take _ _) hS.out.2⟩
    by_cases hjt:j<b.li
    ·have hjz : (j : Int) < (b.li : Int) := by omega
     have hjx:j<t.kids.length:=by rw [hli.out];exact hjt
     obtain ⟨bi,oi,ni,hai,hci,hNn2,hbi⟩:=row_el hNi.out Bq.out hjx
     obtain ⟨p0,p1,p2,p3,p4,p5,p6,p7,p8⟩:=elem_fields hci
     have k2:=ih t.kids[j] ni _ hNn2 (Nat.le_trans (Tr.size_le (List.getElem_mem hjx)) hS.out.2)
     have wj:IntKind.i64.wrap ((j:Int)+1)=(j:Int)+1:=by rw [IntKind.wrap_i64];omega
     have hN2:Hid (max N (t.kids[j]).deep=max (Tr.deeps t.keys) (Tr.deeps (t.kids.take (j+1)))):=by
      show _=_
      rw [Tr.deeps_snoc _ hjx,hN'.out,Nat.max_assoc]
     generalize (t.kids[j]).deep=E at *
     clear hci hNn2 hbi
     by_cases hE:N<E
     ·have hEz : (N : Int) < (E : Int) := by omega
      have hmx:Hid (max N E=E):=by show _=_;omega
      clear hE
      go_wp2_with (go_at_call 47;refine k2.mono ?_;rintro e w3 ⟨rfl,hb3⟩)
      try simp only [hai]
      go_roundw
      case rel=>exact ⟨j+1,E,by omega,(by first | rfl | (congr 1;omega)),by go_num,hbq.out.trans (hb3.mono hbq.out.size),by show _=_;rw [←hN2.out,hmx.out]⟩
      case measure=>simp [intOf];omega
     ·have hEz : ¬ (N : Int) < (E : Int) := by omega
      have hmx:Hid (max N E=N):=by show _=_;omega
      clear hE
      go_wp2_with (go_at_call 47;refine k2.mono ?_;rintro e w3 ⟨rfl,hb3⟩)
      try simp only [hai]
      go_roundw
      case rel=>exact ⟨j+1,N,by omega,(by first | rfl | (congr 1;omega)),by go_num,hbq.out.trans (hb3.mono hbq.out.size),by show _=_;rw [←hN2.out,hmx.out]⟩
      case measure=>simp [intOf];omega
    ·have hjz : ¬ (j : Int) < (b.li : Int) := by omega
     have hfin:Hid (N+1=t.deep):=by
      show _=_
      rw [hd.out,hN'.out,List.take_of_length_le (by rw [hli.out];omega),Nat.add_comm]
     have wN:IntKind.i64.wrap ((N:Int)+1)=(N:Int)+1:=by rw [IntKind.wrap_i64];omega
     clear hN'
     go_wp2
     go_ret
     exact ⟨by rw [←hfin.out];rfl,Bq.out⟩
theorem deep_all:∀ D,DeepAt D:=by
 intro D
 induction D with
 | zero=>intro t b w h;exact absurd h id
 | succ D ih=>exact deep_step ih
end Go.Proofs.YtejlaiofpekchaaGreatDoor
namespace Go.Proofs.YtejlaiofpekchaaGreatDoor
open Go.RowKit
set_option linter.unusedVariables false
def EsAt(D:Nat):Prop:=∀ (t u:Tr) (a b:Nb) (w:World) (v:Bool),Nd D w a t→Nd D w b u→(v=true ↔ t=u)→Calls Tryz.prog 23 #[.agg a.arr, .agg b.arr] w fun e w'=>e = .returned (.bool v)∧Below w.heap.size w w'
structure Bo2(w wx:World)(a b:Nb):Prop where
 one:NBox wx w.heap.size a
 two:NBox wx (w.heap.size+1) b
 bel:Below w.heap.size w wx
theorem Bo2.on{w wx wy:World}{a b:Nb}(h:Bo2 w wx a b)(hb:Below wx.heap.size wx wy):Bo2 w wy a b:=⟨h.one.kept hb h.one.lt,h.two.kept hb h.two.lt,h.bel.trans (hb.mono h.bel.size)⟩
theorem Bo2.drew{w wx:World}{a b:Nb}(h:Bo2 w wx a b):Bo2 w wx.drew a b:=⟨h.one,h.two,h.bel.drew⟩
theorem bo2_new(w:World)(a b:Nb):Bo2 w ((w.alloc (.cells a.arr 26)).alloc (.cells b.arr 26)) a b:=by
 have a1:=alloc_below w (.cells a.arr 26)
 have a2:=alloc_below (w.alloc (.cells a.arr 26)) (.cells b.arr 26)
 have s1:(w.alloc (.cells a.arr 26)).heap.size=w.heap.size+1:=by simp
 have n2:=nbox_new (w.alloc (.cells a.arr 26)) b
 rw [s1] at n2
 exact ⟨(nbox_new w a).kept a2 (by omega),n2,a1.trans (a2.mono (by omega))⟩
theorem row_sp{D:Nat}{w w':World}{a:Option Addr}{len cap:Nat}{l:List Tr}(h:RowN (Nd D w) w a len cap l)(hb:Below w.heap.size w w'){i:Nat}(hi:i<l.length) :
  ∃ (bk off:Nat) (nb:Nb),a=some ⟨bk,off,none⟩∧(∀ w'',Below w.heap.size w w''→∀ j,j<9→w''.cell? ⟨bk,off+(i*9+j),none⟩=nb.cells[j]?)∧Nd D w nb l[i]:=by
 obtain ⟨bk,off,nb,ha,hc,hN,hlt⟩:=row_el h (Below.refl _ _) hi
 exact ⟨bk,off,nb,ha,fun w'' hb'' j hj=>by rw [hb''.cell (p:=⟨bk,off+(i*9+j),none⟩) hlt];exact hc j hj,hN⟩
end Go.Proofs.YtejlaiofpekchaaGreatDoor
namespace Go.Proofs.YtejlaiofpekchaaGreatDoor
open Go.RowKit
set_option linter.unusedVariables false
set_option maxHeartbeats 2000000 in
set_option maxRecDepth 100000 in
theorem es_no0{D:Nat}(t u:Tr)(a b:Nb)(w:World)(v:Bool)(hA:Nd (D+1) w a t)(hB:Nd (D+1) w b u)(hv:v=true ↔ t=u)(h0:¬ a.kind=b.kind):Calls Tryz.prog 23 #[.agg a.arr, .agg b.arr] w fun e w'=>e = .returned (.bool v)∧Below w.heap.size w w':=by
 have T0:Hid (Bo2 w ((w.alloc (.cells a.arr 26)).alloc (.cells b.arr 26)) a b):=bo2_new w a b
 obtain ⟨a0,a1,a2,a3,a4,a5,a6,a7,a8⟩:=T0.out.one.fields
 obtain ⟨b0,b1,b2,b3,b4,b5,b6,b7,b8⟩:=T0.out.two.fields
 obtain ⟨⟨x0,x1,x2,x3,x4,x5⟩,_,⟨xl,xr,xb⟩,xk,xi⟩:=hA
 obtain ⟨⟨y0,y1,y2,y3,y4,y5⟩,_,⟨yl,yr,yb⟩,yk,yi⟩:=hB
 have cx:=conv_str (xb.kept ((alloc_below w (.cells a.arr 26)).trans ((alloc_below (w.alloc (.cells a.arr 26)) (.cells b.arr 26)).mono (Nat.le_of_lt (alloc_lt _ _))))) a.lb a.cb xl
 have cy:=conv_str (yb.kept ((alloc_below w (.cells a.arr 26)).trans ((alloc_below (w.alloc (.cells a.arr 26)) (.cells b.arr 26)).mono (Nat.le_of_lt (alloc_lt _ _))))) b.lb b.cb yl
 have hst:=str_eq xb.1 yb.1
 have hEq:Hid (t=u ↔ a.kind=b.kind∧a.num=b.num∧a.neg=b.neg∧a.dig=b.dig∧a.exp=b.exp∧a.txt=b.txt∧t.bytes=u.bytes∧t.keys=u.keys∧t.kids=u.kids):=by
  show _ ↔ _
  rw [x0,x1,x2,x3,x4,x5,y0,y1,y2,y3,y4,y5]
  exact ⟨fun h=>by subst h;exact ⟨rfl,rfl,rfl,rfl,rfl,rfl,rfl,rfl,rfl⟩,fun ⟨h0,h1,h2,h3,h4,h5,h6,h7,h8⟩=>Tr.mk_eq h0 h1 h2 h3 h4 h5 h6 h7 h8⟩
 have hV:Hid (v=true ↔ t=u):=hv
 have hAk:Hid (RowN (Nd D w) w a.ak a.lk a.ck t.keys):=xk
 have hAi:Hid (RowN (Nd D w) w a.ai a.li a.ci t.kids):=xi
 have hBk:Hid (RowN (Nd D w) w b.ak b.lk b.ck u.keys):=yk
 have hBi:Hid (RowN (Nd D w) w b.ai b.li b.ci u.kids):=yi
 have hxk:Hid (t.keys.length=a.lk):=xk.1
 have hxi:Hid (t.kids.length=a.li):=xi.1
 have hyk:Hid (u.keys.length=b.lk):=yk.1
 have hyi:Hid (u.kids.length=b.li):=yi.1
 have m1:=xk.2.1.1
 have m2:=xk.2.1.2.1
 have m3:=xi.2.1.1
 have m4:=xi.2.1.2.1
 have m5:=yk.2.1.1
 have m6:=yk.2.1.2.1
 have m7:=yi.2.1.1
 have m8:=yi.2.1.2.1
 unfold maxLen at m2 m4 m6 m8
 generalize strOfNums t.bytes=SX at *
 generalize strOfNums u.bytes=SY at *
 clear x0 x1 x2 x3 x4 x5 y0 y1 y2 y3 y4 y5 xl yl xb yb xr yr xk xi yk yi hv
 have hvf:v=false:=not_true hV.out (fun h=>h0 (hEq.out.1 h).1)
 subst hvf
 have q0:(a.kind==b.kind)=false:=by simp [h0]
 have r0:(a.kind != b.kind)=true:=by simp [h0]
 clear h0 hAk hAi hBk hBi hxk hxi hyk hyi hEq hV
 clear cx cy hst
 go_enter Tryz.func23,Tryz.ntmps23
 go_wp2
 go_ret
 exact ⟨rfl,T0.out.bel⟩
set_option maxHeartbeats 2000000 in
set_option maxRecDepth 100000 in
theorem es_no1{D:Nat}(t u:Tr)(a b:Nb)(w:World)(v:Bool)(hA:Nd (D+1) w a t)(hB:Nd (D+1) w b u)(hv:v=true ↔ t=u)(h0:a.kind=b.kind)(h1:¬ a.num=b.num):Calls Tryz.prog 23 #[.agg a.arr, .agg b.arr] w fun e w'=>e = .returned (.bool v)∧Below w.heap.size w w':=by
 have T0:Hid (Bo2 w ((w.alloc (.cells a.arr 26)).alloc (.cells b.arr 26)) a b):=bo2_new w a b
 obtain ⟨a0,a1,a2,a3,a4,a5,a6,a7,a8⟩:=T0.out.one.fields
 obtain ⟨b0,b1,b2,b3,b4,b5,b6,b7,b8⟩:=T0.out.two.fields
 obtain ⟨⟨x0,x1,x2,x3,x4,x5⟩,_,⟨xl,xr,xb⟩,xk,xi⟩:=hA
 obtain ⟨⟨y0,y1,y2,y3,y4,y5⟩,_,⟨yl,yr,yb⟩,yk,yi⟩:=hB
 have cx:=conv_str (xb.kept ((alloc_below w (.cells a.arr 26)).trans ((alloc_below (w.alloc (.cells a.arr 26)) (.cells b.arr 26)).mono (Nat.le_of_lt (alloc_lt _ _))))) a.lb a.cb xl
 have cy:=conv_str (yb.kept ((alloc_below w (.cells a.arr 26)).trans ((alloc_below (w.alloc (.cells a.arr 26)) (.cells b.arr 26)).mono (Nat.le_of_lt (alloc_lt _ _))))) b.lb b.cb yl
 have hst:=str_eq xb.1 yb.1
 have hEq:Hid (t=u ↔ a.kind=b.kind∧a.num=b.num∧a.neg=b.neg∧a.dig=b.dig∧a.exp=b.exp∧a.txt=b.txt∧t.bytes=u.bytes∧t.keys=u.keys∧t.kids=u.kids):=by
  show _ ↔ _
  rw [x0,x1,x2,x3,x4,x5,y0,y1,y2,y3,y4,y5]
  exact ⟨fun h=>by subst h;exact ⟨rfl,rfl,rfl,rfl,rfl,rfl,rfl,rfl,rfl⟩,fun ⟨h0,h1,h2,h3,h4,h5,h6,h7,h8⟩=>Tr.mk_eq h0 h1 h2 h3 h4 h5 h6 h7 h8⟩
 have hV:Hid (v=true ↔ t=u):=hv
 have hAk:Hid (RowN (Nd D w) w a.ak a.lk a.ck t.keys):=xk
 have hAi:Hid (RowN (Nd D w) w a.ai a.li a.ci t.kids):=xi
 have hBk:Hid (RowN (Nd D w) w b.ak b.lk b.ck u.keys):=yk
 have hBi:Hid (RowN (Nd D w) w b.ai b.li b.ci u.kids):=yi
 have hxk:Hid (t.keys.length=a.lk):=xk.1
 have hxi:Hid (t.kids.length=a.li):=xi.1
 have hyk:Hid (u.keys.length=b.lk):=yk.1
 have hyi:Hid (u.kids.length=b.li):=yi.1
 have m1:=xk.2.1.1
 have m2:=xk.2.1.2.1
 have m3:=xi.2.1.1
 have m4:=xi.2.1.2.1
 have m5:=yk.2.1.1
 have m6:=yk.2.1.2.1
 have m7:=yi.2.1.1
 have m8:=yi.2.1.2.1
 unfold maxLen at m2 m4 m6 m8
 generalize strOfNums t.bytes=SX at *
 generalize strOfNums u.bytes=SY at *
 clear x0 x1 x2 x3 x4 x5 y0 y1 y2 y3 y4 y5 xl yl xb yb xr yr xk xi yk yi hv
 have hvf:v=false:=not_true hV.out (fun h=>h1 (hEq.out.1 h).2.1)
 subst hvf
 have q0:(a.kind==b.kind)=true:=by rw [h0];exact beq_self_eq_true _
 have r0:(a.kind != b.kind)=false:=by simp [h0]
 have q1:(a.num==b.num)=false:=by simp [h1]
 have r1:(a.num != b.num)=true:=by simp [h1]
 clear h0 h1 hAk hAi hBk hBi hxk hxi hyk hyi hEq hV
 clear cx cy hst
 go_enter Tryz.func23,Tryz.ntmps23
 go_wp2
 go_ret
 exact ⟨rfl,T0.out.bel⟩
set_option maxHeartbeats 2000000 in
set_option maxRecDepth 100000 in
theorem es_no2{D:Nat}(t u:Tr)(a b:Nb)(w:World)(v:Bool)(hA:Nd (D+1) w a t)(hB:Nd (D+1) w b u)(hv:v=true ↔ t=u)(h0:a.kind=b.kind)(h1:a.num=b.num)(h2:¬ a.neg=b.neg):Calls Tryz.prog 23 #[.agg a.arr, .agg b.arr] w fun e w'=>e = .returned (.bool v)∧Below w.heap.size w w':=by
 have T0:Hid (Bo2 w ((w.alloc (.cells a.arr 26)).alloc (.cells b.arr 26)) a b):=bo2_new w a b
 obtain ⟨a0,a1,a2,a3,a4,a5,a6,a7,a8⟩:=T0.out.one.fields
 obtain ⟨b0,b1,b2,b3,b4,b5,b6,b7,b8⟩:=T0.out.two.fields
 obtain ⟨⟨x0,x1,x2,x3,x4,x5⟩,_,⟨xl,xr,xb⟩,xk,xi⟩:=hA
 obtain ⟨⟨y0,y1,y2,y3,y4,y5⟩,_,⟨yl,yr,yb⟩,yk,yi⟩:=hB
 have cx:=conv_str (xb.kept ((alloc_below w (.cells a.arr 26)).trans ((alloc_below (w.alloc (.cells a.arr 26)) (.cells b.arr 26)).mono (Nat.le_of_lt (alloc_lt _ _))))) a.lb a.cb xl
 have cy:=conv_str (yb.kept ((alloc_below w (.cells a.arr 26)).trans ((alloc_below (w.alloc (.cells a.arr 26)) (.cells b.arr 26)).mono (Nat.le_of_lt (alloc_lt _ _))))) b.lb b.cb yl
 have hst:=str_eq xb.1 yb.1
 have hEq:Hid (t=u ↔ a.kind=b.kind∧a.num=b.num∧a.neg=b.neg∧a.dig=b.dig∧a.exp=b.exp∧a.txt=b.txt∧t.bytes=u.bytes∧t.keys=u.keys∧t.kids=u.kids):=by
  show _ ↔ _
  rw [x0,x1,x2,x3,x4,x5,y0,y1,y2,y3,y4,y5]
  exact ⟨fun h=>by subst h;exact ⟨rfl,rfl,rfl,rfl,rfl,rfl,rfl,rfl,rfl⟩,fun ⟨h0,h1,h2,h3,h4,h5,h6,h7,h8⟩=>Tr.mk_eq h0 h1 h2 h3 h4 h5 h6 h7 h8⟩
 have hV:Hid (v=true ↔ t=u):=hv
 have hAk:Hid (RowN (Nd D w) w a.ak a.lk a.ck t.keys):=xk
 have hAi:Hid (RowN (Nd D w) w a.ai a.li a.ci t.kids):=xi
 have hBk:Hid (RowN (Nd D w) w b.ak b.lk b.ck u.keys):=yk
 have hBi:Hid (RowN (Nd D w) w b.ai b.li b.ci u.kids):=yi
 have hxk:Hid (t.keys.length=a.lk):=xk.1
 have hxi:Hid (t.kids.length=a.li):=xi.1
 have hyk:Hid (u.keys.length=b.lk):=yk.1
 have hyi:Hid (u.kids.length=b.li):=yi.1
 have m1:=xk.2.1.1
 have m2:=xk.2.1.2.1
 have m3:=xi.2.1.1
 have m4:=xi.2.1.2.1
 have m5:=yk.2.1.1
 have m6:=yk.2.1.2.1
 have m7:=yi.2.1.1
 have m8:=yi.2.1.2.1
 unfold maxLen at m2 m4 m6 m8
 generalize strOfNums t.bytes=SX at *
 generalize strOfNums u.bytes=SY at *
 clear x0 x1 x2 x3 x4 x5 y0 y1 y2 y3 y4 y5 xl yl xb yb xr yr xk xi yk yi hv
 have hvf:v=false:=not_true hV.out (fun h=>h2 (hEq.out.1 h).2.2.1)
 subst hvf
 have q0:(a.kind==b.kind)=true:=by rw [h0];exact beq_self_eq_true _
 have r0:(a.kind != b.kind)=false:=by simp [h0]
 have q1:(a.num==b.num)=true:=by rw [h1];exact beq_self_eq_true _
 have r1:(a.num != b.num)=false:=by simp [h1]
 have q2:(a.neg==b.neg)=false:=by simp [h2]
 have r2:(a.neg != b.neg)=true:=by simp [h2]
 clear h0 h1 h2 hAk hAi hBk hBi hxk hxi hyk hyi hEq hV
 clear cx cy hst
 go_enter Tryz.func23,Tryz.ntmps23
 go_wp2
 go_ret
 exact ⟨rfl,T0.out.bel⟩
set_option maxHeartbeats 2000000 in
set_option maxRecDepth 100000 in
theorem es_no3{D:Nat}(t u:Tr)(a b:Nb)(w:World)(v:Bool)(hA:Nd (D+1) w a t)(hB:Nd (D+1) w b u)(hv:v=true ↔ t=u)(h0:a.kind=b.kind)(h1:a.num=b.num)(h2:a.neg=b.neg)(h3:¬ a.dig=b.dig):Calls Tryz.prog 23 #[.agg a.arr, .agg b.arr] w fun e w'=>e = .returned (.bool v)∧Below w.heap.size w w':=by
 have T0:Hid (Bo2 w ((w.alloc (.cells a.arr 26)).alloc (.cells b.arr 26)) a b):=bo2_new w a b
 obtain ⟨a0,a1,a2,a3,a4,a5,a6,a7,a8⟩:=T0.out.one.fields
 obtain ⟨b0,b1,b2,b3,b4,b5,b6,b7,b8⟩:=T0.out.two.fields
 obtain ⟨⟨x0,x1,x2,x3,x4,x5⟩,_,⟨xl,xr,xb⟩,xk,xi⟩:=hA
 obtain ⟨⟨y0,y1,y2,y3,y4,y5⟩,_,⟨yl,yr,yb⟩,yk,yi⟩:=hB
 have cx:=conv_str (xb.kept ((alloc_below w (.cells a.arr 26)).trans ((alloc_below (w.alloc (.cells a.arr 26)) (.cells b.arr 26)).mono (Nat.le_of_lt (alloc_lt _ _))))) a.lb a.cb xl
 have cy:=conv_str (yb.kept ((alloc_below w (.cells a.arr 26)).trans ((alloc_below (w.alloc (.cells a.arr 26)) (.cells b.arr 26)).mono (Nat.le_of_lt (alloc_lt _ _))))) b.lb b.cb yl
 have hst:=str_eq xb.1 yb.1
 have hEq:Hid (t=u ↔ a.kind=b.kind∧a.num=b.num∧a.neg=b.neg∧a.dig=b.dig∧a.exp=b.exp∧a.txt=b.txt∧t.bytes=u.bytes∧t.keys=u.keys∧t.kids=u.kids):=by
  show _ ↔ _
  rw [x0,x1,x2,x3,x4,x5,y0,y1,y2,y3,y4,y5]
  exact ⟨fun h=>by subst h;exact ⟨rfl,rfl,rfl,rfl,rfl,rfl,rfl,rfl,rfl⟩,fun ⟨h0,h1,h2,h3,h4,h5,h6,h7,h8⟩=>Tr.mk_eq h0 h1 h2 h3 h4 h5 h6 h7 h8⟩
 have hV:Hid (v=true ↔ t=u):=hv
 have hAk:Hid (RowN (Nd D w) w a.ak a.lk a.ck t.keys):=xk
 have hAi:Hid (RowN (Nd D w) w a.ai a.li a.ci t.kids):=xi
 have hBk:Hid (RowN (Nd D w) w b.ak b.lk b.ck u.keys):=yk
 have hBi:Hid (RowN (Nd D w) w b.ai b.li b.ci u.kids):=yi
 have hxk:Hid (t.keys.length=a.lk):=xk.1
 have hxi:Hid (t.kids.length=a.li):=xi.1
 have hyk:Hid (u.keys.length=b.lk):=yk.1
 have hyi:Hid (u.kids.length=b.li):=yi.1
 have m1:=xk.2.1.1
 have m2:=xk.2.1.2.1
 have m3:=xi.2.1.1
 have m4:=xi.2.1.2.1
 have m5:=yk.2.1.1
 have m6:=yk.2.1.2.1
 have m7:=yi.2.1.1
 have m8:=yi.2.1.2.1
 unfold maxLen at m2 m4 m6 m8
 generalize strOfNums t.bytes=SX at *
 generalize strOfNums u.bytes=SY at *
 clear x0 x1 x2 x3 x4 x5 y0 y1 y2 y3 y4 y5 xl yl xb yb xr yr xk xi yk yi hv
 have hvf:v=false:=not_true hV.out (fun h=>h3 (hEq.out.1 h).2.2.2.1)
 subst hvf
 have q0:(a.kind==b.kind)=true:=by rw [h0];exact beq_self_eq_true _
 have r0:(a.kind != b.kind)=false:=by simp [h0]
 have q1:(a.num==b.num)=true:=by rw [h1];exact beq_self_eq_true _
 have r1:(a.num != b.num)=false:=by simp [h1]
 have q2:(a.neg==b.neg)=true:=by rw [h2];exact beq_self_eq_true _
 have r2:(a.neg != b.neg)=false:=by simp [h2]
 have q3:=beq_of (s:=a.dig) (t:=b.dig) false (by simp [h3])
 have r3:(a.dig.toList != b.dig.toList)=true:=by simp [bne,q3]
 clear h0 h1 h2 h3 hAk hAi hBk hBi hxk hxi hyk hyi hEq hV
 clear cx cy hst
 go_enter Tryz.func23,Tryz.ntmps23
 go_wp2
 go_ret
 exact ⟨rfl,T0.out.bel⟩
set_option maxHeartbeats 2000000 in
set_option maxRecDepth 100000 in
theorem es_no4{D:Nat}(t u:Tr)(a b:Nb)(w:World)(v:Bool)(hA:Nd (D+1) w a t)(hB:Nd (D+1) w b u)(hv:v=true ↔ t=u)(h0:a.kind=b.kind)(h1:a.num=b.num)(h2:a.neg=b.neg)(h3:a.dig=b.dig)(h4:¬ a.exp=b.exp):Calls Tryz.prog 23 #[.agg a.arr, .agg b.arr] w fun e w'=>e = .returned (.bool v)∧Below w.heap.size w w':=by
 have T0:Hid (Bo2 w ((w.alloc (.cells a.arr 26)).alloc (.cells b.arr 26)) a b):=bo2_new w a b
 obtain ⟨a0,a1,a2,a3,a4,a5,a6,a7,a8⟩:=T0.out.one.fields
 obtain ⟨b0,b1,b2,b3,b4,b5,b6,b7,b8⟩:=T0.out.two.fields
 obtain ⟨⟨x0,x1,x2,x3,x4,x5⟩,_,⟨xl,xr,xb⟩,xk,xi⟩:=hA
 obtain ⟨⟨y0,y1,y2,y3,y4,y5⟩,_,⟨yl,yr,yb⟩,yk,yi⟩:=hB
 have cx:=conv_str (xb.kept ((alloc_below w (.cells a.arr 26)).trans ((alloc_below (w.alloc (.cells a.arr 26)) (.cells b.arr 26)).mono (Nat.le_of_lt (alloc_lt _ _))))) a.lb a.cb xl
 have cy:=conv_str (yb.kept ((alloc_below w (.cells a.arr 26)).trans ((alloc_below (w.alloc (.cells a.arr 26)) (.cells b.arr 26)).mono (Nat.le_of_lt (alloc_lt _ _))))) b.lb b.cb yl
 have hst:=str_eq xb.1 yb.1
 have hEq:Hid (t=u ↔ a.kind=b.kind∧a.num=b.num∧a.neg=b.neg∧a.dig=b.dig∧a.exp=b.exp∧a.txt=b.txt∧t.bytes=u.bytes∧t.keys=u.keys∧t.kids=u.kids):=by
  show _ ↔ _
  rw [x0,x1,x2,x3,x4,x5,y0,y1,y2,y3,y4,y5]
  exact ⟨fun h=>by subst h;exact ⟨rfl,rfl,rfl,rfl,rfl,rfl,rfl,rfl,rfl⟩,fun ⟨h0,h1,h2,h3,h4,h5,h6,h7,h8⟩=>Tr.mk_eq h0 h1 h2 h3 h4 h5 h6 h7 h8⟩
 have hV:Hid (v=true ↔ t=u):=hv
 have hAk:Hid (RowN (Nd D w) w a.ak a.lk a.ck t.keys):=xk
 have hAi:Hid (RowN (Nd D w) w a.ai a.li a.ci t.kids):=xi
 have hBk:Hid (RowN (Nd D w) w b.ak b.lk b.ck u.keys):=yk
 have hBi:Hid (RowN (Nd D w) w b.ai b.li b.ci u.kids):=yi
 have hxk:Hid (t.keys.length=a.lk):=xk.1
 have hxi:Hid (t.kids.length=a.li):=xi.1
 have hyk:Hid (u.keys.length=b.lk):=yk.1
 have hyi:Hid (u.kids.length=b.li):=yi.1
 have m1:=xk.2.1.1
 have m2:=xk.2.1.2.1
 have m3:=xi.2.1.1
 have m4:=xi.2.1.2.1
 have m5:=yk.2.1.1
 have m6:=yk.2.1.2.1
 have m7:=yi.2.1.1
 have m8:=yi.2.1.2.1
 unfold maxLen at m2 m4 m6 m8
 generalize strOfNums t.bytes=SX at *
 generalize strOfNums u.bytes=SY at *
 clear x0 x1 x2 x3 x4 x5 y0 y1 y2 y3 y4 y5 xl yl xb yb xr yr xk xi yk yi hv
 have hvf:v=false:=not_true hV.out (fun h=>h4 (hEq.out.1 h).2.2.2.2.1)
 subst hvf
 have q0:(a.kind==b.kind)=true:=by rw [h0];exact beq_self_eq_true _
 have r0:(a.kind != b.kind)=false:=by simp [h0]
 have q1:(a.num==b.num)=true:=by rw [h1];exact beq_self_eq_true _
 have r1:(a.num != b.num)=false:=by simp [h1]
 have q2:(a.neg==b.neg)=true:=by rw [h2];exact beq_self_eq_true _
 have r2:(a.neg != b.neg)=false:=by simp [h2]
 have q3:=beq_of (s:=a.dig) (t:=b.dig) true (by simp [h3])
 have r3:(a.dig.toList != b.dig.toList)=false:=by simp [bne,q3]
 have q4:(a.exp==b.exp)=false:=by simp [h4]
 have r4:(a.exp != b.exp)=true:=by simp [h4]
 clear h0 h1 h2 h3 h4 hAk hAi hBk hBi hxk hxi hyk hyi hEq hV
 clear cx cy hst
 go_enter Tryz.func23,Tryz.ntmps23
 go_wp2
 go_ret
 exact ⟨rfl,T0.out.bel⟩
end Go.Proofs.YtejlaiofpekchaaGreatDoor
