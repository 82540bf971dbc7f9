/-
  Digits of base 16: two digits more.
  Digits of base 16: conv.digitsOf.
  What comes of a whole Float: its digits with zeros behind.
  Bytes given back: conv.find at no path, conv.takenOf at bytes, conv.giveBack.
  conv.giveBack at bytes.
  One loss gone over from the last one on: slices.Backward.
  Which numbers are in their form: dec.Right.
-/
import Derived.Test.YtejlaiofpekchaaGreatDoorC7
import Derived.Test.YtejlaiofpekchaaGreatDoorC5
import Derived.Test.YtejlaiofpekchaaGreatDoorC3
import Derived.Test.YtejlaiofpekchaaGreatDoorC6
import Derived.Deep.CutRange
import Derived.Deep.RegionHeld3
import Derived.RangeFuncBound
import Derived.RangeFuncBox
import Derived.RangeFuncCalls
import Derived.RangeFuncNested
import Derived.RangeFuncLeaves
import Derived.Shelf.RegionOpen
import Derived.OwnWalkIn
import Derived.TacticsInMore
import Derived.LoopNIn
import Derived.LoopIn
namespace Go.Proofs.YtejlaiofpekchaaGreatDoor
open Go.RowKit
set_option linter.unusedVariables false
theorem step_append_b{w:World}{ops:Array Oper}{o:Oper}{a:Act}{K:Act→World→Prop}{Q:Exit→Act→World→Prop}{E:Prop}(hgd:o.guard=none)(s x:Operand)
  (ho:o.op = .call { callee := .builtin .append,args:=#[s,x],argTypes:=#[23,23] })
  (base:Nat) (v:Value) (ys zs:List Int) (hs:a.eval s=v) (hown:OwnsB w base v ys)
  (ad:Addr) (m c:Nat) (hx:a.eval x = .slice (some ad) m c) (hm:zs.length=m) (hb:Bytes w (some ad) zs)
  (hbytes:ys.length+zs.length≤140737488355328) (hbase:base≤w.heap.size)
  (h:∀ v' w',OwnsB w' base v' (ys++zs)→w.grownBy w' v.ownBlock→K (a.put o.dst v') w') :
  if Region.wanted o (yielded ops a.tmps)=true then Oper.wp Tryz.prog o a w K Q else E:=by
 have hw:Region.wanted o (yielded ops a.tmps)=true:=by simp [Region.wanted,hgd]
 rw [if_pos hw]
 subst hm
 obtain ⟨i,hi,hz,hsz,hby⟩:=info_parts info5
 refine wp_append_own w s x 23 ho base 5 i (.int .u8 0) 1 1 Tryz.underlying23 hi hz hsz hby rfl (by decide) v ys.length _ hs hown.1 ad zs.length c (zs.map (Value.int .u8)) hx (by simp) (bytes_news hb) (bytes_one zs) ?_ (by omega) hbase ?_
 ·unfold maxLen;omega
 ·intro v' w' ho' hg _
  refine h v' w' ⟨?_,fun c hc=>?_⟩ hg
  ·rw [List.length_append, List.map_append]
   exact ho'
  ·rcases List.mem_append.1 hc with h1 | h1
   ·exact hown.2 c h1
   ·exact hb.1 c h1
theorem two_bytes{w:World}{gb:Nat}{a b:Int}(h:Blk w gb #[.int .u8 a, .int .u8 b] 5)(ha:0≤a∧a<256)(hb:0≤b∧b<256):Bytes w (some ⟨gb,0,none⟩) [a,b]:=by
 refine ⟨fun c hc=>by simp at hc;rcases hc with rfl | rfl <;> assumption,by show 2≤maxLen;unfold maxLen;omega, .inr ⟨gb,0,rfl,fun i hi=>?_⟩⟩
 rcases (show i=0∨i=1 by simp at hi;omega) with rfl | rfl
 ·exact h.cell 0
 ·exact h.cell 1
section runs
variable {ev:Operand→Value} {w:World}
theorem run_as{o:Oper}{s:Operand}(ho:o.op = .assign s):(execOp ev o).run Tryz.prog w = .ok (.value (ev s)) w:=by
 simp [execOp,ho]
theorem run_bs2{o:Oper}{a b:Int}(ho:o.op = .buildSlice 23 2 #[(0, .tmp 15),(1, .tmp 18)])(h1:ev (.tmp 15) = .int .u8 a)(h2:ev (.tmp 18) = .int .u8 b):(execOp ev o).run Tryz.prog w = .ok (.value (.slice (some ⟨w.heap.size,0,none⟩) 2 2)) (w.alloc (.cells #[.int .u8 a, .int .u8 b] 5)):=by
 simp [execOp,go_sem, *]
end runs
def dgOps:Array Oper:=#[{ dst:=some 12,op:=Op.move (Operand.tmp 3),type:=23,pos := "tell.go:88",after:=#[],guard:=none },{ dst:=some 13,op:=Op.move (Operand.tmp 5),type:=5,pos := "tell.go:88",after:=#[],guard:=none },{ dst:=some 14,op:=Op.binOp BinOp.shr 5 (Operand.tmp 13) (Operand.const (Value.int IntKind.u64 4)) 98,type:=5,pos := "tell.go:88",after:=#[{ on:=1,ground:=Ground.data }],guard:=none },{ dst:=some 15,op:=Op.index 9 (Operand.const (Value.string { data:=#[48,49,50,51,52,53,54,55,56,57,97,98,99,100,101,102] })) (Operand.tmp 14),type:=5,pos := "tell.go:88",after:=#[{ on:=2,ground:=Ground.data }],guard:=none },{ dst:=some 16,op:=Op.move (Operand.tmp 5),type:=5,pos := "tell.go:88",after:=#[],guard:=none },{ dst:=some 17,op:=Op.binOp BinOp.and 5 (Operand.tmp 16) (Operand.const (Value.int IntKind.u8 15)) 5,type:=5,pos := "tell.go:88",after:=#[{ on:=4,ground:=Ground.data }],guard:=none },{ dst:=some 18,op:=Op.index 9 (Operand.const (Value.string { data:=#[48,49,50,51,52,53,54,55,56,57,97,98,99,100,101,102] })) (Operand.tmp 17),type:=5,pos := "tell.go:88",after:=#[{ on:=5,ground:=Ground.data }],guard:=none },{ dst:=some 19,op:=Op.buildSlice 23 2 #[(0,Operand.tmp 15),(1,Operand.tmp 18)],type:=23,pos := "tell.go:88",after:=#[{ on:=3,ground:=Ground.data },{ on:=6,ground:=Ground.data }],guard:=none },{ dst:=some 20,op:=Op.call { callee:=Callee.builtin Builtin.append,args:=#[Operand.tmp 12,Operand.tmp 19],argTypes:=#[23,23] },type:=23,pos := "tell.go:88",after:=#[{ on:=0,ground:=Ground.data },{ on:=7,ground:=Ground.data }],guard:=none },{ dst:=some 3,op:=Op.assign (Operand.tmp 20),type:=23,pos := "tell.go:88",after:=#[{ on:=8,ground:=Ground.data },{ on:=8,ground:=Ground.chain },{ on:=0,ground:=Ground.phase },{ on:=1,ground:=Ground.phase },{ on:=2,ground:=Ground.phase },{ on:=3,ground:=Ground.phase },{ on:=4,ground:=Ground.phase },{ on:=5,ground:=Ground.phase },{ on:=6,ground:=Ground.phase },{ on:=7,ground:=Ground.phase },{ on:=8,ground:=Ground.phase }],guard:=none }]
structure DGC(W0:World)(u0:Nat→Value)(B:Nat)(x:Int)(v0:Value)(ys:List Int):Prop where
 e3:u0 3=v0
 e5:u0 5 = .int .u8 x
 hx:0≤x∧x<256
 own:OwnsB W0 B v0 ys
 few:ys.length≤1000000
 bas:B≤W0.heap.size
structure DGI(W0:World)(u0:Nat→Value)(B:Nat)(x:Int)(v0:Value)(ys:List Int)(L:Nat→Bool)(u:Nat→Value)(w:World):Prop where
 old:∀ k,(k<3∨(3<k∧k<12)∨20<k)→u k=u0 k
 own:L 8=false→OwnsB w B v0 ys
 bel:L 8=false→Below W0.heap.size W0 w
 blw:∀ k,k<B→w.heap[k]? = W0.heap[k]?
 siz:W0.heap.size≤w.heap.size∧w.os=W0.os∧w.tape=W0.tape∧w.output=W0.output
 f0:L 0=true→u 12=v0
 f1:L 1=true→u 13 = .int .u8 x
 f2:L 2=true→u 14 = .int .u8 (x / 16)
 f3:L 3=true→u 15 = .int .u8 (hxd (x / 16))
 f4:L 4=true→u 16 = .int .u8 x
 f5:L 5=true→u 17 = .int .u8 (x % 16)
 f6:L 6=true→u 18 = .int .u8 (hxd (x % 16))
 f7:L 7=true→L 8=false→∃ gb,u 19 = .slice (some ⟨gb,0,none⟩) 2 2∧Blk w gb #[.int .u8 (hxd (x / 16)), .int .u8 (hxd (x % 16))] 5
 f8:L 8=true→OwnsB w B (u 20) (ys++[hxd (x / 16),hxd (x % 16)])
 f9:L 9=true→u 3=u 20
 o3:L 9=false→u 3=v0
 d8:L 8=true→L 7=true
 d9:L 9=true→L 8=true
 d7:L 7=true→L 3=true∧L 6=true
 d90:L 9=true→L 0=true
theorem dg0{W0:World}{u0:Nat→Value}{B:Nat}{x:Int}{v0:Value}{ys:List Int}{L:Nat→Bool}{u:Nat→Value}{w:World}(c:DGC W0 u0 B x v0 ys)(h:DGI W0 u0 B x v0 ys L u w)(h9:L 9=false):DGI W0 u0 B x v0 ys (upB L 0) (upd u 12 (u 3)) w:=by
 exact { h with
  old:=fun k hk=>by rw [upd_ne u _ (by omega)];exact h.old k hk
  f0:=fun _=>h.o3 h9
  d90:=fun _=>rfl }
theorem dg1{W0:World}{u0:Nat→Value}{B:Nat}{x:Int}{v0:Value}{ys:List Int}{L:Nat→Bool}{u:Nat→Value}{w:World}(c:DGC W0 u0 B x v0 ys)(h:DGI W0 u0 B x v0 ys L u w):DGI W0 u0 B x v0 ys (upB L 1) (upd u 13 (u 5)) w:=by
 exact { h with
  old:=fun k hk=>by rw [upd_ne u _ (by omega)];exact h.old k hk
  f1:=fun _=>(h.old 5 (by omega)).trans c.e5 }
theorem dg2{W0:World}{u0:Nat→Value}{B:Nat}{x:Int}{v0:Value}{ys:List Int}{L:Nat→Bool}{u:Nat→Value}{w:World}(c:DGC W0 u0 B x v0 ys)(h:DGI W0 u0 B x v0 ys L u w):DGI W0 u0 B x v0 ys (upB L 2) (upd u 14 (.int .u8 (x / 16))) w:=by
 exact { h with
  old:=fun k hk=>by rw [upd_ne u _ (by omega)];exact h.old k hk
  f2:=fun _=>rfl }
theorem dg3{W0:World}{u0:Nat→Value}{B:Nat}{x:Int}{v0:Value}{ys:List Int}{L:Nat→Bool}{u:Nat→Value}{w:World}(c:DGC W0 u0 B x v0 ys)(h:DGI W0 u0 B x v0 ys L u w):DGI W0 u0 B x v0 ys (upB L 3) (upd u 15 (.int .u8 (hxd (x / 16)))) w:=by
 exact { h with
  old:=fun k hk=>by rw [upd_ne u _ (by omega)];exact h.old k hk
  f3:=fun _=>rfl
  d7:=fun e=>⟨rfl,(h.d7 e).2⟩ }
theorem dg4{W0:World}{u0:Nat→Value}{B:Nat}{x:Int}{v0:Value}{ys:List Int}{L:Nat→Bool}{u:Nat→Value}{w:World}(c:DGC W0 u0 B x v0 ys)(h:DGI W0 u0 B x v0 ys L u w):DGI W0 u0 B x v0 ys (upB L 4) (upd u 16 (u 5)) w:=by
 exact { h with
  old:=fun k hk=>by rw [upd_ne u _ (by omega)];exact h.old k hk
  f4:=fun _=>(h.old 5 (by omega)).trans c.e5 }
theorem dg5{W0:World}{u0:Nat→Value}{B:Nat}{x:Int}{v0:Value}{ys:List Int}{L:Nat→Bool}{u:Nat→Value}{w:World}(c:DGC W0 u0 B x v0 ys)(h:DGI W0 u0 B x v0 ys L u w):DGI W0 u0 B x v0 ys (upB L 5) (upd u 17 (.int .u8 (x % 16))) w:=by
 exact { h with
  old:=fun k hk=>by rw [upd_ne u _ (by omega)];exact h.old k hk
  f5:=fun _=>rfl }
theorem dg6{W0:World}{u0:Nat→Value}{B:Nat}{x:Int}{v0:Value}{ys:List Int}{L:Nat→Bool}{u:Nat→Value}{w:World}(c:DGC W0 u0 B x v0 ys)(h:DGI W0 u0 B x v0 ys L u w):DGI W0 u0 B x v0 ys (upB L 6) (upd u 18 (.int .u8 (hxd (x % 16)))) w:=by
 exact { h with
  old:=fun k hk=>by rw [upd_ne u _ (by omega)];exact h.old k hk
  f6:=fun _=>rfl
  d7:=fun e=>⟨(h.d7 e).1,rfl⟩ }
theorem dg7{W0:World}{u0:Nat→Value}{B:Nat}{x:Int}{v0:Value}{ys:List Int}{L:Nat→Bool}{u:Nat→Value}{w:World}(c:DGC W0 u0 B x v0 ys)(h:DGI W0 u0 B x v0 ys L u w)(h3:L 3=true)(h6:L 6=true)(h7:L 7=false):DGI W0 u0 B x v0 ys (upB L 7) (upd u 19 (.slice (some ⟨w.heap.size,0,none⟩) 2 2)) (w.alloc (.cells #[.int .u8 (hxd (x / 16)), .int .u8 (hxd (x % 16))] 5)):=by
 have hA:=alloc_below w (.cells #[.int .u8 (hxd (x / 16)), .int .u8 (hxd (x % 16))] 5)
 have h8:L 8=false:=by cases e:L 8 with | false=>rfl | true=>exact absurd (h.d8 e) (by rw [h7];decide)
 exact { h with
  old:=fun k hk=>by rw [upd_ne u _ (by omega)];exact h.old k hk
  own:=fun e=>(h.own e).below hA
  bel:=fun e=>(h.bel e).trans (hA.mono (h.bel e).size)
  blw:=fun k hk=>(hA.block k (Nat.lt_of_lt_of_le hk (Nat.le_trans c.bas h.siz.1))).trans (h.blw k hk)
  siz:=⟨Nat.le_trans h.siz.1 hA.size,h.siz.2⟩
  f7:=fun _ _=>⟨_,rfl,blk_new w _ _⟩
  f8:=fun e=>absurd (show L 8=true from e) (by rw [h8];decide)
  d8:=fun e=>absurd (show L 8=true from e) (by rw [h8];decide)
  d7:=fun _=>⟨h3,h6⟩ }
theorem dg8{W0:World}{u0:Nat→Value}{B:Nat}{x:Int}{v0:Value}{ys:List Int}{L:Nat→Bool}{u:Nat→Value}{w:World}(c:DGC W0 u0 B x v0 ys)(h:DGI W0 u0 B x v0 ys L u w){w':World}{v:Value}(h7:L 7=true)(h8:L 8=false)(ho:OwnsB w' B v (ys++[hxd (x / 16),hxd (x % 16)]))(hg:w.grownBy w' v0.ownBlock):DGI W0 u0 B x v0 ys (upB L 8) (upd u 20 v) w':=by
 have h9:L 9=false:=by cases e:L 9 with | false=>rfl | true=>exact absurd (h.d9 e) (by rw [h8];decide)
 exact { h with
  old:=fun k hk=>by rw [upd_ne u _ (by omega)];exact h.old k hk
  own:=fun e=>absurd (show true=false from e) (by decide)
  bel:=fun e=>absurd (show true=false from e) (by decide)
  blw:=fun k hk=>((grown_below (Below.refl B w) (h.own h8) hg (Nat.le_trans c.bas h.siz.1)).block k hk).trans (h.blw k hk)
  siz:=⟨Nat.le_trans h.siz.1 hg.size,hg.os.trans h.siz.2.1,hg.tape.trans h.siz.2.2.1,hg.output.trans h.siz.2.2.2⟩
  f7:=fun _ e=>absurd (show true=false from e) (by decide)
  f8:=fun _=>ho
  f9:=fun e=>absurd (show L 9=true from e) (by rw [h9];decide)
  d8:=fun _=>h7
  d9:=fun _=>rfl }
theorem dg9{W0:World}{u0:Nat→Value}{B:Nat}{x:Int}{v0:Value}{ys:List Int}{L:Nat→Bool}{u:Nat→Value}{w:World}(c:DGC W0 u0 B x v0 ys)(h:DGI W0 u0 B x v0 ys L u w)(h0:L 0=true)(h8:L 8=true):DGI W0 u0 B x v0 ys (upB L 9) (upd u 3 (u 20)) w:=by
 exact { h with
  old:=fun k hk=>by rw [upd_ne u _ (by omega)];exact h.old k hk
  f9:=fun _=>rfl
  o3:=fun e=>absurd (show true=false from e) (by decide)
  d9:=fun _=>h8
  d90:=fun _=>h0 }
def DGX(W0:World)(u0:Nat→Value)(B:Nat)(x:Int)(v0:Value)(ys:List Int)(df:List Deferred)(listed:Array Bool)(a:Act)(w:World):Prop :=
 ∃ u,a=frm 24 u df∧listed.size=10∧DGI W0 u0 B x v0 ys (fun k=>listed.getD k false) u w
theorem dg_put{W0:World}{u0:Nat→Value}{B:Nat}{x:Int}{v0:Value}{ys:List Int}{df:List Deferred}{listed:Array Bool}{jx dd:Nat}{u:Nat→Value}{v:Value}{w:World}(hsz:listed.size=10)(hi:jx<10)(h:DGI W0 u0 B x v0 ys (upB (fun k=>listed.getD k false) jx) (upd u dd v) w):DGX W0 u0 B x v0 ys df (listed.setIfInBounds jx true) ((frm 24 u df).put (some dd) v) w :=
 ⟨_,frm_put,by simp [hsz],by rw [show (fun k=>(listed.setIfInBounds jx true).getD k false)=upB (fun k=>listed.getD k false) jx from funext fun k=>got_set (by omega)];exact h⟩
set_option maxRecDepth 100000 in
theorem dg_region{W0:World}{u0:Nat→Value}{B:Nat}{x:Int}{v0:Value}{ys:List Int}(c:DGC W0 u0 B x v0 ys)(df:List Deferred)(Q:Exit→Act→World→Prop)
  (hQ:∀ u w,(∀ k,(k<3∨(3<k∧k<12)∨20<k)→u k=u0 k)→OwnsB w B (u 3) (ys++[hxd (x / 16),hxd (x % 16)])→(∀ k,k<B→w.heap[k]? = W0.heap[k]?)→(W0.heap.size≤w.heap.size∧w.os=W0.os∧w.tape=W0.tape∧w.output=W0.output)→Q .normal (frm 24 u df) w) :
  wpAny Tryz.prog .any dgOps Q 10 (Array.replicate 10 false) (frm 24 u0 df) W0:=by
 have hL:∀ k,(Array.replicate 10 false).getD k false=false:=fun k=>by
  rcases Nat.lt_or_ge k 10 with hk | hk
  ·simp [hk]
  ·simp [Nat.not_lt.2 hk]
 refine wpAny_inv (DGX W0 u0 B x v0 ys df) ?_ ?_ 10 _ _ _ (by decide) ⟨u0,rfl,by simp,?_⟩
 case refine_3 =>
  have hF:∀ k,(Array.replicate 10 false).getD k false=true→False:=fun k e=>by rw [hL k] at e;cases e
  exact ⟨fun _ _=>rfl,fun _=>c.own,fun _=>Below.refl _ _,fun _ _=>rfl,⟨Nat.le_refl _,rfl,rfl,rfl⟩,fun e=>(hF _ e).elim,fun e=>(hF _ e).elim,fun e=>(hF _ e).elim,fun e=>(hF _ e).elim,fun e=>(hF _ e).elim,fun e=>(hF _ e).elim,fun e=>(hF _ e).elim,fun e=>(hF _ e).elim,fun e=>(hF _ e).elim,fun e=>(hF _ e).elim,fun _=>c.e3,fun e=>(hF _ e).elim,fun e=>(hF _ e).elim,fun e=>(hF _ e).elim,fun e=>(hF _ e).elim⟩
 ·intro listed a w jx hI hi
  obtain ⟨u,rfl,hsz,h⟩:=hI
  have hlt:jx<10:=ready_lt hi
  have hno:=ready_not hi
  obtain (rfl | rfl | rfl | rfl | rfl | rfl | rfl | rfl | rfl | rfl):jx=0∨jx=1∨jx=2∨jx=3∨jx=4∨jx=5∨jx=6∨jx=7∨jx=8∨jx=9:=by omega
  ·have h9 : listed.getD 9 false = false := by
    cases e:listed.getD 9 false with
    | false=>rfl
    | true=>exact absurd (h.d90 e) (by rw [hno];decide)
   refine wpOp_run rfl rfl (run_mv rfl) ?_
   rw [frm_eval (by decide)]
   exact dg_put hsz (by decide) (dg0 c h h9)
  ·refine wpOp_run rfl rfl (run_mv rfl) ?_
   rw [frm_eval (by decide)]
   exact dg_put hsz (by decide) (dg1 c h)
  ·have hn := ready_needs (l := [1]) hi (by kernel_rfl)
   exact wpOp_run rfl rfl (run_shr (fun _=>rfl) rfl ((frm_eval (by decide)).trans (h.f1 (hn 1 (by simp)))) c.hx) (dg_put hsz (by decide) (dg2 c h))
  ·have hn := ready_needs (l := [2]) hi (by kernel_rfl)
   exact wpOp_run rfl rfl (run_ix (fun _=>rfl) rfl ((frm_eval (by decide)).trans (h.f2 (hn 2 (by simp)))) (by have:=c.hx;omega)) (dg_put hsz (by decide) (dg3 c h))
  ·refine wpOp_run rfl rfl (run_mv rfl) ?_
   rw [frm_eval (by decide)]
   exact dg_put hsz (by decide) (dg4 c h)
  ·have hn := ready_needs (l := [4]) hi (by kernel_rfl)
   exact wpOp_run rfl rfl (run_and (fun _=>rfl) rfl ((frm_eval (by decide)).trans (h.f4 (hn 4 (by simp)))) c.hx) (dg_put hsz (by decide) (dg5 c h))
  ·have hn := ready_needs (l := [5]) hi (by kernel_rfl)
   exact wpOp_run rfl rfl (run_ix (fun _=>rfl) rfl ((frm_eval (by decide)).trans (h.f5 (hn 5 (by simp)))) (by omega)) (dg_put hsz (by decide) (dg6 c h))
  ·have hn := ready_needs (l := [3, 6]) hi (by kernel_rfl)
   exact wpOp_run rfl rfl (run_bs2 rfl ((frm_eval (by decide)).trans (h.f3 (hn 3 (by simp)))) ((frm_eval (by decide)).trans (h.f6 (hn 6 (by simp))))) (dg_put hsz (by decide) (dg7 c h (hn 3 (by simp)) (hn 6 (by simp)) hno))
  ·have hn := ready_needs (l := [0, 7]) hi (by kernel_rfl)
   obtain ⟨gb,e19,hb⟩:=h.f7 (hn 7 (by simp)) hno
   refine wpOp_of rfl (step_append_b rfl (.tmp 12) (.tmp 19) rfl B v0 ys [hxd (x / 16),hxd (x % 16)] ((frm_eval (by decide)).trans (h.f0 (hn 0 (by simp)))) (h.own hno) ⟨gb,0,none⟩ 2 2 ((frm_eval (by decide)).trans (e19)) rfl (two_bytes hb (hxd_byte (by have:=c.hx;omega)) (hxd_byte (by omega))) (by have:=c.few;simp;omega) (Nat.le_trans c.bas h.siz.1) ?_)
   intro v' w' ho hg
   exact dg_put hsz (by decide) (dg8 c h (hn 7 (by simp)) hno ho hg)
  ·have hn := ready_needs (l := [8, 8, 0, 1, 2, 3, 4, 5, 6, 7, 8]) hi (by kernel_rfl)
   refine wpOp_run rfl rfl (run_as rfl) ?_
   rw [frm_eval (by decide)]
   exact dg_put hsz (by decide) (dg9 c h (hn 0 (by simp)) (hn 8 (by simp)))
 ·intro listed a w hI hr
  obtain ⟨u,rfl,hsz,h⟩:=hI
  have hd:=ready_done hr hsz (by decide)
  exact hQ u w h.old (by rw [h.f9 (hd 9 (by decide))];exact h.f8 (hd 8 (by decide))) h.blw h.siz
end Go.Proofs.YtejlaiofpekchaaGreatDoor
namespace Go.Proofs.YtejlaiofpekchaaGreatDoor
open Go.RowKit
set_option linter.unusedVariables false
theorem OwnsB.form5{w:World}{base:Nat}{v:Value}{zs:List Int}(h:OwnsB w base v zs):∃ a n cap,v = .slice a n cap∧Hid (zs.length=n)∧Hid (a=none→cap=0)∧n≤cap∧cap≤9223372036854775807∧Hid (Bytes w a zs):=by
 obtain ⟨a,cap,hv,hn,⟨hl,hm⟩,hb,_⟩:=h.shape
 exact ⟨a,zs.length,cap,hv,rfl,hn,hl,by simpa [maxLen] using hm,hb⟩
theorem next_cell{w:World}{bb off:Nat}{zs:List Int}(h:Bytes w (some ⟨bb,off,none⟩) zs){i:Nat}(hi:i<zs.length):w.cell? ⟨bb,off+i,none⟩=some (.int .u8 zs[i]):=by
 rcases h.2.2 with rfl | ⟨b,o,e,hc⟩
 ·simp at hi
 ·cases e
  rw [hc i hi,List.getD_eq_getElem?_getD,List.getElem?_eq_getElem hi]
  rfl
set_option maxHeartbeats 2000000 in
set_option maxRecDepth 100000 in
theorem digits_any(a:Option Addr)(n c:Nat)(zs:List Int)(w:World)(hl:zs.length=n)(hb:Bytes w a zs)(hc:n≤c)(hm:c≤9223372036854775807)(hn:n≤100000) :
  Calls Tryz.prog 38 #[.slice a n c] w fun e w'=>e = .returned (.string (strOfNums (hexL zs)))∧Below w.heap.size w w':=by
 have hB:Hid (Bytes w a zs):=hb
 have hL:Hid (zs.length=n):=hl
 clear hb hl
 go_enter Tryz.func38,Tryz.ntmps38
 go_wp2
 go_loopw [3,5,8] (fun s3 _ s8 wr=>∃ (i:Nat) (v:Value),i≤n∧s3=v∧s8 = .int .i64 i∧Hid (OwnsB wr w.heap.size v (hexL (zs.take i)))∧Hid (Below w.heap.size w wr)) (fun _ _ i _=>n - (intOf i).toNat)
 case atStart=>exact ⟨0,_,Nat.zero_le _,rfl,rfl,ownsB_nil _ _,Below.refl _ _⟩
 case round =>
  obtain ⟨i,v,hi,rfl,rfl,hO,hbl⟩:=hrel
  by_cases hlt:i<n
  ·have hz : (i : Int) < (n : Int) := by omega
   have hix:i<zs.length:=by rw [hL.out];exact hlt
   obtain ⟨bb,off,rfl⟩:=bytes_some hB.out (by omega)
   have hc0:=next_cell (hB.out.kept hbl.out) hix
   have hx:=hB.out.1 _ (List.getElem_mem hix)
   have htk:Hid (hexL (zs.take (i+1))=hexL (zs.take i)++[hxd (zs[i] / 16),hxd (zs[i] % 16)]):=by show _=_;rw [List.take_succ_eq_append_getElem hix,hexL_snoc]
   have wi:IntKind.i64.wrap ((i:Int)+1)=(i:Int)+1:=by rw [IntKind.wrap_i64];omega
   have hfw:Hid ((hexL (zs.take i)).length≤1000000):=by show _≤_;rw [hexL_len,List.length_take];omega
   generalize zs[i]=x at *
   have hx':Hid (0≤x∧x<256):=hx
   clear hx
   go_upto_region 5 with fail
   refine wp_region_any (by kernel_rfl) ?_
   rw [frm_of (Act.mk _ _)]
   refine dg_region (B:=w.heap.size) (x:=x) (v0:=u3) (ys:=hexL (zs.take i)) ?gc [] _ ?gq
   case gc=>exact ⟨rfl,rfl,hx'.out,hO.out,hfw.out,hbl.out.size⟩
   case gq =>
    intro u w5 hold ho hbw hsz
    have hB5:Hid (Below w.heap.size w w5):=⟨hsz.2.1.trans hbl.out.os,hsz.2.2.1.trans hbl.out.tape,hsz.2.2.2.trans hbl.out.output,Nat.le_trans hbl.out.size hsz.1,fun k hk=>(hbw k hk).trans (hbl.out.block k hk)⟩
    have hO5:Hid (OwnsB w5 w.heap.size (u 3) (hexL (zs.take (i+1)))):=by show OwnsB _ _ _ _;rw [htk.out];exact ho
    have h0:u 0 = .slice (some ⟨bb,off,none⟩) n c:=hold 0 (by omega)
    have h1:u 1=undef:=hold 1 (by omega)
    have h2:u 2 = .string ⟨#[]⟩:=hold 2 (by omega)
    have h4:u 4=undef:=hold 4 (by omega)
    have h5:u 5 = .int .u8 x:=hold 5 (by omega)
    have h6:u 6 = .slice (some ⟨bb,off,none⟩) n c:=hold 6 (by omega)
    have h7:u 7 = .int .i64 n:=hold 7 (by omega)
    have h8:u 8 = .int .i64 i:=hold 8 (by omega)
    have h9:u 9 = .bool true:=hold 9 (by omega)
    have h10:u 10 = .pointer (some ⟨bb,off+i,none⟩):=hold 10 (by omega)
    have h11:u 11 = .int .u8 x:=hold 11 (by omega)
    have h21:u 21=u21:=hold 21 (by omega)
    have h22:u 22=undef:=hold 22 (by omega)
    have h23:u 23=undef:=hold 23 (by omega)
    rw [show frm 24 u []=Act.mk (List.toArray (u 0::u 1::u 2::u 3::u 4::u 5::u 6::u 7::u 8::u 9::u 10::u 11::u 12::u 13::u 14::u 15::u 16::u 17::u 18::u 19::u 20::u 21::u 22::u 23::[])) [] from rfl,h0,h1,h2,h4,h5,h6,h7,h8,h9,h10,h11,h21,h22,h23]
    clear hold ho hbw hsz h0 h1 h2 h4 h5 h6 h7 h8 h9 h10 h11 h21 h22 h23
    go_wp2
    go_roundw
    case rel=>exact ⟨i+1,_,by omega,rfl,by go_num,hO5,hB5⟩
    case measure=>simp [intOf];omega
  ·have hz : ¬ (i : Int) < (n : Int) := by omega
   have hO':Hid (OwnsB wr w.heap.size u3 (hexL zs)):=by
    have:=hO.out
    rwa [List.take_of_length_le (by rw [hL.out];omega)] at this
   obtain ⟨va,vn,vc,rfl,hq1,hq2,hq3,hq4,hq5⟩:=hO'.out.form5
   have hcv:=conv_str hq5.out vn vc hq1.out
   clear hO
   go_wp2
   go_ret
   exact ⟨rfl,hbl.out⟩
end Go.Proofs.YtejlaiofpekchaaGreatDoor
namespace Go.Proofs.YtejlaiofpekchaaGreatDoor
open Go.RowKit
set_option linter.unusedVariables false
def nlf(t:Tr):Nb:=⟨t.kind,t.num,t.neg,t.dig,t.exp,t.txt,none,0,0,none,0,0,none,0,0⟩
theorem k1_set(w:World)(p j:Nat)(v:Value):Kp (fun k=>k=p) w (w.setCell ⟨p,j,none⟩ v):=⟨rfl,rfl,rfl,by simp [World.setCell],fun k _ hc=>setk hc v⟩
theorem n1_set{w w':World}{p:Nat}{z b:Nb}(h:NBox w' p z∧Kp (fun k=>k=p) w w')(b':Nb)(j:Nat)(v:Value)(hv:b'.arr=z.arr.setIfInBounds j v):NBox (w'.setCell ⟨p,j,none⟩ v) p b'∧Kp (fun k=>k=p) w (w'.setCell ⟨p,j,none⟩ v):=⟨nbox_setc h.1 j v hv,h.2.trans (k1_set _ _ _ _)⟩
theorem nine_kp{w:World}{p:Nat}{z b:Nb}(h:NBox w p z):NBox (((((((((w.setCell ⟨p,0,none⟩ (.int .i64 b.kind)).setCell ⟨p,1,none⟩ (.int .u64 b.num)).setCell ⟨p,2,none⟩ (.bool b.neg)).setCell ⟨p,3,none⟩ (.string b.dig)).setCell ⟨p,4,none⟩ (.int .i64 b.exp)).setCell ⟨p,5,none⟩ (.string b.txt)).setCell ⟨p,6,none⟩ (.slice b.ab b.lb b.cb)).setCell ⟨p,7,none⟩ (.slice b.ak b.lk b.ck)).setCell ⟨p,8,none⟩ (.slice b.ai b.li b.ci)) p b∧Kp (fun k=>k=p) w (((((((((w.setCell ⟨p,0,none⟩ (.int .i64 b.kind)).setCell ⟨p,1,none⟩ (.int .u64 b.num)).setCell ⟨p,2,none⟩ (.bool b.neg)).setCell ⟨p,3,none⟩ (.string b.dig)).setCell ⟨p,4,none⟩ (.int .i64 b.exp)).setCell ⟨p,5,none⟩ (.string b.txt)).setCell ⟨p,6,none⟩ (.slice b.ab b.lb b.cb)).setCell ⟨p,7,none⟩ (.slice b.ak b.lk b.ck)).setCell ⟨p,8,none⟩ (.slice b.ai b.li b.ci)):=by
 obtain ⟨x0,x1,x2,x3,x4,x5,xa,xb,xc,xd,xe,xf,xg,xh,xi⟩:=b
 obtain ⟨c0,c1,c2,c3,c4,c5,ca,cb,cc,cd,ce,cf,cg,ch,ci⟩:=z
 have h0:=n1_set (b:=zN) ⟨h,Kp.refl _ _⟩ ⟨x0,c1,c2,c3,c4,c5,ca,cb,cc,cd,ce,cf,cg,ch,ci⟩ 0 _ rfl
 have h1:=n1_set (b:=zN) h0 ⟨x0,x1,c2,c3,c4,c5,ca,cb,cc,cd,ce,cf,cg,ch,ci⟩ 1 _ rfl
 have h2:=n1_set (b:=zN) h1 ⟨x0,x1,x2,c3,c4,c5,ca,cb,cc,cd,ce,cf,cg,ch,ci⟩ 2 _ rfl
 have h3:=n1_set (b:=zN) h2 ⟨x0,x1,x2,x3,c4,c5,ca,cb,cc,cd,ce,cf,cg,ch,ci⟩ 3 _ rfl
 have h4:=n1_set (b:=zN) h3 ⟨x0,x1,x2,x3,x4,c5,ca,cb,cc,cd,ce,cf,cg,ch,ci⟩ 4 _ rfl
 have h5:=n1_set (b:=zN) h4 ⟨x0,x1,x2,x3,x4,x5,ca,cb,cc,cd,ce,cf,cg,ch,ci⟩ 5 _ rfl
 have h6:=n1_set (b:=zN) h5 ⟨x0,x1,x2,x3,x4,x5,xa,xb,xc,cd,ce,cf,cg,ch,ci⟩ 6 _ rfl
 have h7:=n1_set (b:=zN) h6 ⟨x0,x1,x2,x3,x4,x5,xa,xb,xc,xd,xe,xf,cg,ch,ci⟩ 7 _ rfl
 exact n1_set (b:=zN) h7 ⟨x0,x1,x2,x3,x4,x5,xa,xb,xc,xd,xe,xf,xg,xh,xi⟩ 8 _ rfl
theorem run_call2{ev:Operand→Value}{w:World}{o:Oper}{f:FuncId}{x1 x2:Operand}{T1 T2:TypeId}{v1 v2:Value}(ho:o.op = .call { callee := .value (.func f),args:=#[x1,x2],argTypes:=#[T1,T2] })(hf:ev (.func f) = .func (.func f) #[] #[])(h1:ev x1=v1)(h2:ev x2=v2)(hcf:∀ args w,(callFunc f args).run Tryz.prog w = .ok (.enter f args) w):(execOp ev o).run Tryz.prog w = .ok (.enter f #[v1,v2]) w:=by
 simp [execOp,ho,resolve,invoke,hcf,h1,h2,hf,go_sem]
theorem step_callC{f:FuncId}{v1 v2:Value}{w:World}{ops:Array Oper}{o:Oper}{a:Act}{K:Act→World→Prop}{Q:Exit→Act→World→Prop}{E:Prop}{R:Value→World→Prop}(hgd:o.guard=none)(x1 x2:Operand)(T1 T2:TypeId)
  (ho:o.op = .call { callee := .value (.func f),args:=#[x1,x2],argTypes:=#[T1,T2] }) (h1:a.eval x1=v1) (h2:a.eval x2=v2) (hcf:∀ args w,(callFunc f args).run Tryz.prog w = .ok (.enter f args) w)
  (k:Calls Tryz.prog f #[v1,v2] w fun e w'=>∃ r,e = .returned r∧R r w') (h:∀ r w',R r w'→K (a.put o.dst r) w') :
  if Region.wanted o (yielded ops a.tmps)=true then Oper.wp Tryz.prog o a w K Q else E:=by
 have hw:Region.wanted o (yielded ops a.tmps)=true:=by simp [Region.wanted,hgd]
 rw [if_pos hw]
 unfold Oper.wp
 rw [run_call2 ho rfl h1 h2 hcf]
 refine Calls.mono (R:=fun e w'=>∃ r,e = .returned r∧R r w') k ?_
 rintro e w' ⟨r,he,hr⟩
 subst he
 exact h r w' hr
section runs
variable {ev:Operand→Value} {w:World}
theorem run_fa0{o:Oper}{g:Nat}(ho:o.op = .fieldAddr 86 (.tmp 4) 0)(h1:ev (.tmp 4) = .pointer (some ⟨g,0,none⟩)):(execOp ev o).run Tryz.prog w = .ok (.value (.pointer (some ⟨g,0,none⟩))) w:=by
 simp [execOp,go_sem, *]
theorem run_fa1{o:Oper}{g:Nat}(ho:o.op = .fieldAddr 86 (.tmp 4) 1)(h1:ev (.tmp 4) = .pointer (some ⟨g,0,none⟩)):(execOp ev o).run Tryz.prog w = .ok (.value (.pointer (some ⟨g,1,none⟩))) w:=by
 simp [execOp,go_sem, *]
theorem run_fa2{o:Oper}{g:Nat}(ho:o.op = .fieldAddr 86 (.tmp 4) 2)(h1:ev (.tmp 4) = .pointer (some ⟨g,0,none⟩)):(execOp ev o).run Tryz.prog w = .ok (.value (.pointer (some ⟨g,2,none⟩))) w:=by
 simp [execOp,go_sem, *]
theorem run_ldb{o:Oper}{g:Nat}{neg:Bool}{dig:ByteArray}{E:Int}(ho:o.op = .load 4 (.tmp 26))(h1:ev (.tmp 26) = .pointer (some ⟨g,0,none⟩))(hb:Blk w g #[.bool neg, .string dig, .int .i64 E] 86):(execOp ev o).run Tryz.prog w = .ok (.value (.bool neg)) w:=by
 have a0:=hb.cell 0
 simp at a0
 simp [execOp,go_sem, *]
theorem run_lds{o:Oper}{g:Nat}{neg:Bool}{dig:ByteArray}{E:Int}(ho:o.op = .load 9 (.tmp 28))(h1:ev (.tmp 28) = .pointer (some ⟨g,1,none⟩))(hb:Blk w g #[.bool neg, .string dig, .int .i64 E] 86):(execOp ev o).run Tryz.prog w = .ok (.value (.string dig)) w:=by
 have a0:=hb.cell 1
 simp at a0
 simp [execOp,go_sem, *]
theorem run_ldi{o:Oper}{g:Nat}{neg:Bool}{dig:ByteArray}{E:Int}(ho:o.op = .load 3 (.tmp 30))(h1:ev (.tmp 30) = .pointer (some ⟨g,2,none⟩))(hb:Blk w g #[.bool neg, .string dig, .int .i64 E] 86):(execOp ev o).run Tryz.prog w = .ok (.value (.int .i64 E)) w:=by
 have a0:=hb.cell 2
 simp at a0
 simp [execOp,go_sem, *]
theorem run_cat{o:Oper}{a b:ByteArray}(ho:o.op = .binOp .add 9 (.tmp 29) (.tmp 32) 9)(h1:ev (.tmp 29) = .string a)(h2:ev (.tmp 32) = .string b)(hs:a.size≤100000∧b.size≤100000):(execOp ev o).run Tryz.prog w = .ok (.value (.string (a++b))) w:=by
 have e:¬ 9223372036854775807<a.size+b.size:=by omega
 simp [execOp,go_sem, *]
theorem run_bdN{o:Oper}{neg:Bool}{d:ByteArray}(hc:∀ v,ev (.const v)=v)(ho:o.op = .build 26 #[(0, .const (.int .i64 2)),(2, .tmp 27),(3, .tmp 33)])(h1:ev (.tmp 27) = .bool neg)(h2:ev (.tmp 33) = .string d):(execOp ev o).run Tryz.prog w = .ok (.value (.agg (nlf ⟨2,0,neg,d,0,⟨#[]⟩,[],[],[]⟩).arr)) w:=by
 simp [execOp,go_sem,nlf,Nb.arr, *]
theorem run_st9{o:Oper}{g:Nat}{b z:Nb}(ho:o.op = .store 26 (.tmp 2) (.tmp 34))(h1:ev (.tmp 2) = .pointer (some ⟨g,0,none⟩))(h2:ev (.tmp 34) = .agg b.arr)(hz:NBox w g z):(execOp ev o).run Tryz.prog w = .ok .skip (((((((((w.setCell ⟨g,0,none⟩ (.int .i64 b.kind)).setCell ⟨g,1,none⟩ (.int .u64 b.num)).setCell ⟨g,2,none⟩ (.bool b.neg)).setCell ⟨g,3,none⟩ (.string b.dig)).setCell ⟨g,4,none⟩ (.int .i64 b.exp)).setCell ⟨g,5,none⟩ (.string b.txt)).setCell ⟨g,6,none⟩ (.slice b.ab b.lb b.cb)).setCell ⟨g,7,none⟩ (.slice b.ak b.lk b.ck)).setCell ⟨g,8,none⟩ (.slice b.ai b.li b.ci)):=by
 obtain ⟨a0,a1,a2,a3,a4,a5,a6,a7,a8⟩:=hz.fields
 have z0:=hz.fz 0
 have z1:=hz.fz 1
 have z2:=hz.fz 2
 have z3:=hz.fz 3
 have z4:=hz.fz 4
 have z5:=hz.fz 5
 have z6:=hz.fz 6
 have z7:=hz.fz 7
 have z8:=hz.fz 8
 rw [Nb.arr] at h2
 simp [execOp,go_sem, *]
theorem run_asc{o:Oper}{v:Value}(hc:∀ v,ev (.const v)=v)(ho:o.op = .assign (.const v)):(execOp ev o).run Tryz.prog w = .ok (.value v) w:=by
 simp [execOp, *]
end runs
def nuOps:Array Oper:=#[{ dst:=some 26,op:=Op.fieldAddr 86 (Operand.tmp 4) 0,type:=0,pos := "tell.go:81",after:=#[],guard:=none },{ dst:=some 27,op:=Op.load 4 (Operand.tmp 26),type:=4,pos := "tell.go:81",after:=#[{ on:=0,ground:=Ground.data }],guard:=none },{ dst:=some 28,op:=Op.fieldAddr 86 (Operand.tmp 4) 1,type:=0,pos := "tell.go:81",after:=#[],guard:=none },{ dst:=some 29,op:=Op.load 9 (Operand.tmp 28),type:=9,pos := "tell.go:81",after:=#[{ on:=2,ground:=Ground.data }],guard:=none },{ dst:=some 30,op:=Op.fieldAddr 86 (Operand.tmp 4) 2,type:=0,pos := "tell.go:81",after:=#[],guard:=none },{ dst:=some 31,op:=Op.load 3 (Operand.tmp 30),type:=3,pos := "tell.go:81",after:=#[{ on:=4,ground:=Ground.data }],guard:=none },{ dst:=some 32,op:=Op.call { callee:=Callee.value (Operand.func 69),args:=#[Operand.const (Value.string { data:=#[48] }),Operand.tmp 31],argTypes:=#[9,3] },type:=9,pos := "tell.go:81",after:=#[{ on:=5,ground:=Ground.data }],guard:=none },{ dst:=some 33,op:=Op.binOp BinOp.add 9 (Operand.tmp 29) (Operand.tmp 32) 9,type:=9,pos := "tell.go:81",after:=#[{ on:=3,ground:=Ground.data },{ on:=6,ground:=Ground.data }],guard:=none },{ dst:=some 34,op:=Op.build 26 #[(0,Operand.const (Value.int IntKind.i64 2)),(2,Operand.tmp 27),(3,Operand.tmp 33)],type:=26,pos := "tell.go:81",after:=#[{ on:=1,ground:=Ground.data },{ on:=7,ground:=Ground.data }],guard:=none },{ dst:=none,op:=Op.store 26 (Operand.tmp 2) (Operand.tmp 34),type:=0,pos := "tell.go:81",after:=#[{ on:=8,ground:=Ground.data },{ on:=6,ground:=Ground.chain },{ on:=0,ground:=Ground.phase },{ on:=1,ground:=Ground.phase },{ on:=2,ground:=Ground.phase },{ on:=3,ground:=Ground.phase },{ on:=4,ground:=Ground.phase },{ on:=5,ground:=Ground.phase },{ on:=6,ground:=Ground.phase },{ on:=7,ground:=Ground.phase },{ on:=8,ground:=Ground.phase }],guard:=none },{ dst:=some 3,op:=Op.assign (Operand.const (Value.int IntKind.i64 1)),type:=3,pos := "tell.go:81",after:=#[{ on:=9,ground:=Ground.chain },{ on:=0,ground:=Ground.phase },{ on:=1,ground:=Ground.phase },{ on:=2,ground:=Ground.phase },{ on:=3,ground:=Ground.phase },{ on:=4,ground:=Ground.phase },{ on:=5,ground:=Ground.phase },{ on:=6,ground:=Ground.phase },{ on:=7,ground:=Ground.phase },{ on:=8,ground:=Ground.phase },{ on:=9,ground:=Ground.phase }],guard:=none }]
structure NUC(W0:World)(u0:Nat→Value)(g:Nat)(r:Nat)(neg:Bool)(dig:ByteArray)(R:ByteArray)(E:Int):Prop where
 e4:u0 4 = .pointer (some ⟨g,0,none⟩)
 e2:u0 2 = .pointer (some ⟨r,0,none⟩)
 bx:Blk W0 g #[.bool neg, .string dig, .int .i64 E] 86
 rs:NBox W0 r zN
 few:dig.size≤100000∧R.size≤100000
 rep:∀ w,Below W0.heap.size W0 w→Calls Tryz.prog 69 #[.string ⟨#[48]⟩, .int .i64 E] w fun e w'=>e = .returned (.string R)∧Below w.heap.size w w'
structure NUI(W0:World)(u0:Nat→Value)(g:Nat)(r:Nat)(neg:Bool)(dig:ByteArray)(R:ByteArray)(E:Int)(L:Nat→Bool)(u:Nat→Value)(w:World):Prop where
 old:∀ k,(k<3∨(3<k∧k<26))→u k=u0 k
 bx:Blk w g #[.bool neg, .string dig, .int .i64 E] 86
 rs:L 9=false→NBox w r zN
 bel:L 9=false→Below W0.heap.size W0 w
 kk:Kp (fun k=>k=r) W0 w
 f0:L 0=true→u 26 = .pointer (some ⟨g,0,none⟩)
 f1:L 1=true→u 27 = .bool neg
 f2:L 2=true→u 28 = .pointer (some ⟨g,1,none⟩)
 f3:L 3=true→u 29 = .string dig
 f4:L 4=true→u 30 = .pointer (some ⟨g,2,none⟩)
 f5:L 5=true→u 31 = .int .i64 E
 f6:L 6=true→u 32 = .string R
 f7:L 7=true→u 33 = .string (dig++R)
 f8:L 8=true→u 34 = .agg (nlf ⟨2,0,neg,dig++R,0,⟨#[]⟩,[],[],[]⟩).arr
 f9:L 9=true→NBox w r (nlf ⟨2,0,neg,dig++R,0,⟨#[]⟩,[],[],[]⟩)
 fa:L 10=true→u 3 = .int .i64 1
 d9:L 9=true→L 6=true
theorem nu0{W0:World}{u0:Nat→Value}{g:Nat}{r:Nat}{neg:Bool}{dig:ByteArray}{R:ByteArray}{E:Int}{L:Nat→Bool}{u:Nat→Value}{w:World}(c:NUC W0 u0 g r neg dig R E)(h:NUI W0 u0 g r neg dig R E L u w):NUI W0 u0 g r neg dig R E (upB L 0) (upd u 26 (.pointer (some ⟨g,0,none⟩))) w:=by
 exact { h with
  old:=fun k hk=>by rw [upd_ne u _ (by omega)];exact h.old k hk
  f0:=fun _=>rfl }
theorem nu1{W0:World}{u0:Nat→Value}{g:Nat}{r:Nat}{neg:Bool}{dig:ByteArray}{R:ByteArray}{E:Int}{L:Nat→Bool}{u:Nat→Value}{w:World}(c:NUC W0 u0 g r neg dig R E)(h:NUI W0 u0 g r neg dig R E L u w):NUI W0 u0 g r neg dig R E (upB L 1) (upd u 27 (.bool neg)) w:=by
 exact { h with
  old:=fun k hk=>by rw [upd_ne u _ (by omega)];exact h.old k hk
  f1:=fun _=>rfl }
theorem nu2{W0:World}{u0:Nat→Value}{g:Nat}{r:Nat}{neg:Bool}{dig:ByteArray}{R:ByteArray}{E:Int}{L:Nat→Bool}{u:Nat→Value}{w:World}(c:NUC W0 u0 g r neg dig R E)(h:NUI W0 u0 g r neg dig R E L u w):NUI W0 u0 g r neg dig R E (upB L 2) (upd u 28 (.pointer (some ⟨g,1,none⟩))) w:=by
 exact { h with
  old:=fun k hk=>by rw [upd_ne u _ (by omega)];exact h.old k hk
  f2:=fun _=>rfl }
theorem nu3{W0:World}{u0:Nat→Value}{g:Nat}{r:Nat}{neg:Bool}{dig:ByteArray}{R:ByteArray}{E:Int}{L:Nat→Bool}{u:Nat→Value}{w:World}(c:NUC W0 u0 g r neg dig R E)(h:NUI W0 u0 g r neg dig R E L u w):NUI W0 u0 g r neg dig R E (upB L 3) (upd u 29 (.string dig)) w:=by
 exact { h with
  old:=fun k hk=>by rw [upd_ne u _ (by omega)];exact h.old k hk
  f3:=fun _=>rfl }
theorem nu4{W0:World}{u0:Nat→Value}{g:Nat}{r:Nat}{neg:Bool}{dig:ByteArray}{R:ByteArray}{E:Int}{L:Nat→Bool}{u:Nat→Value}{w:World}(c:NUC W0 u0 g r neg dig R E)(h:NUI W0 u0 g r neg dig R E L u w):NUI W0 u0 g r neg dig R E (upB L 4) (upd u 30 (.pointer (some ⟨g,2,none⟩))) w:=by
 exact { h with
  old:=fun k hk=>by rw [upd_ne u _ (by omega)];exact h.old k hk
  f4:=fun _=>rfl }
theorem nu5{W0:World}{u0:Nat→Value}{g:Nat}{r:Nat}{neg:Bool}{dig:ByteArray}{R:ByteArray}{E:Int}{L:Nat→Bool}{u:Nat→Value}{w:World}(c:NUC W0 u0 g r neg dig R E)(h:NUI W0 u0 g r neg dig R E L u w):NUI W0 u0 g r neg dig R E (upB L 5) (upd u 31 (.int .i64 E)) w:=by
 exact { h with
  old:=fun k hk=>by rw [upd_ne u _ (by omega)];exact h.old k hk
  f5:=fun _=>rfl }
theorem nu6{W0:World}{u0:Nat→Value}{g:Nat}{r:Nat}{neg:Bool}{dig:ByteArray}{R:ByteArray}{E:Int}{L:Nat→Bool}{u:Nat→Value}{w:World}(c:NUC W0 u0 g r neg dig R E)(h:NUI W0 u0 g r neg dig R E L u w){w':World}(h6:L 6=false)(hb:Below w.heap.size w w'):NUI W0 u0 g r neg dig R E (upB L 6) (upd u 32 (.string R)) w':=by
 have h9:L 9=false:=by cases e:L 9 with | false=>rfl | true=>exact absurd (h.d9 e) (by rw [h6];decide)
 exact { h with
  old:=fun k hk=>by rw [upd_ne u _ (by omega)];exact h.old k hk
  bx:=h.bx.kept hb h.bx.lt
  rs:=fun e=>(h.rs e).kept hb (h.rs e).lt
  bel:=fun e=>(h.bel e).trans (hb.mono (h.bel e).size)
  kk:=h.kk.trans (Kp.of hb)
  f6:=fun _=>rfl
  f9:=fun e=>absurd (show L 9=true from e) (by rw [h9];decide)
  d9:=fun _=>rfl }
theorem nu7{W0:World}{u0:Nat→Value}{g:Nat}{r:Nat}{neg:Bool}{dig:ByteArray}{R:ByteArray}{E:Int}{L:Nat→Bool}{u:Nat→Value}{w:World}(c:NUC W0 u0 g r neg dig R E)(h:NUI W0 u0 g r neg dig R E L u w):NUI W0 u0 g r neg dig R E (upB L 7) (upd u 33 (.string (dig++R))) w:=by
 exact { h with
  old:=fun k hk=>by rw [upd_ne u _ (by omega)];exact h.old k hk
  f7:=fun _=>rfl }
theorem nu8{W0:World}{u0:Nat→Value}{g:Nat}{r:Nat}{neg:Bool}{dig:ByteArray}{R:ByteArray}{E:Int}{L:Nat→Bool}{u:Nat→Value}{w:World}(c:NUC W0 u0 g r neg dig R E)(h:NUI W0 u0 g r neg dig R E L u w):NUI W0 u0 g r neg dig R E (upB L 8) (upd u 34 (.agg (nlf ⟨2,0,neg,dig++R,0,⟨#[]⟩,[],[],[]⟩).arr)) w:=by
 exact { h with
  old:=fun k hk=>by rw [upd_ne u _ (by omega)];exact h.old k hk
  f8:=fun _=>rfl }
theorem nu9{W0:World}{u0:Nat→Value}{g:Nat}{r:Nat}{neg:Bool}{dig:ByteArray}{R:ByteArray}{E:Int}{L:Nat→Bool}{u:Nat→Value}{w:World}(c:NUC W0 u0 g r neg dig R E)(h:NUI W0 u0 g r neg dig R E L u w){w':World}(h6:L 6=true)(h9:L 9=false)(hn:NBox w' r (nlf ⟨2,0,neg,dig++R,0,⟨#[]⟩,[],[],[]⟩))(hk:Kp (fun k=>k=r) w w'):NUI W0 u0 g r neg dig R E (upB L 9) u w':=by
 exact { h with
  bx:=h.bx.same (hk.block g h.bx.lt (fun e=>by subst e;have h1:=h.bx;have h2:=h.rs h9;unfold Blk at h1;unfold NBox at h2;rw [h1] at h2;simp at h2))
  rs:=fun e=>absurd (show true=false from e) (by decide)
  bel:=fun e=>absurd (show true=false from e) (by decide)
  kk:=h.kk.trans hk
  f9:=fun _=>hn
  d9:=fun _=>h6 }
theorem nu10{W0:World}{u0:Nat→Value}{g:Nat}{r:Nat}{neg:Bool}{dig:ByteArray}{R:ByteArray}{E:Int}{L:Nat→Bool}{u:Nat→Value}{w:World}(c:NUC W0 u0 g r neg dig R E)(h:NUI W0 u0 g r neg dig R E L u w):NUI W0 u0 g r neg dig R E (upB L 10) (upd u 3 (.int .i64 1)) w:=by
 exact { h with
  old:=fun k hk=>by rw [upd_ne u _ (by omega)];exact h.old k hk
  fa:=fun _=>rfl }
def NUX(W0:World)(u0:Nat→Value)(g:Nat)(r:Nat)(neg:Bool)(dig:ByteArray)(R:ByteArray)(E:Int)(df:List Deferred)(listed:Array Bool)(a:Act)(w:World):Prop :=
 ∃ u,a=frm 35 u df∧listed.size=11∧NUI W0 u0 g r neg dig R E (fun k=>listed.getD k false) u w
theorem nu_put{W0:World}{u0:Nat→Value}{g:Nat}{r:Nat}{neg:Bool}{dig:ByteArray}{R:ByteArray}{E:Int}{df:List Deferred}{listed:Array Bool}{jx dd:Nat}{u:Nat→Value}{v:Value}{w:World}(hsz:listed.size=11)(hi:jx<11)(h:NUI W0 u0 g r neg dig R E (upB (fun k=>listed.getD k false) jx) (upd u dd v) w):NUX W0 u0 g r neg dig R E df (listed.setIfInBounds jx true) ((frm 35 u df).put (some dd) v) w :=
 ⟨_,frm_put,by simp [hsz],by rw [show (fun k=>(listed.setIfInBounds jx true).getD k false)=upB (fun k=>listed.getD k false) jx from funext fun k=>got_set (by omega)];exact h⟩
theorem nu_none{W0:World}{u0:Nat→Value}{g:Nat}{r:Nat}{neg:Bool}{dig:ByteArray}{R:ByteArray}{E:Int}{df:List Deferred}{listed:Array Bool}{jx:Nat}{u:Nat→Value}{v:Value}{w:World}(hsz:listed.size=11)(hi:jx<11)(h:NUI W0 u0 g r neg dig R E (upB (fun k=>listed.getD k false) jx) u w):NUX W0 u0 g r neg dig R E df (listed.setIfInBounds jx true) ((frm 35 u df).put none v) w :=
 ⟨u,rfl,by simp [hsz],by rw [show (fun k=>(listed.setIfInBounds jx true).getD k false)=upB (fun k=>listed.getD k false) jx from funext fun k=>got_set (by omega)];exact h⟩
set_option maxRecDepth 100000 in
theorem nu_region{W0:World}{u0:Nat→Value}{g:Nat}{r:Nat}{neg:Bool}{dig:ByteArray}{R:ByteArray}{E:Int}(c:NUC W0 u0 g r neg dig R E)(df:List Deferred)(Q:Exit→Act→World→Prop)
  (hQ:∀ u w,(∀ k,(k<3∨(3<k∧k<26))→u k=u0 k)→u 3 = .int .i64 1→NBox w r (nlf ⟨2,0,neg,dig++R,0,⟨#[]⟩,[],[],[]⟩)→Kp (fun k=>k=r) W0 w→Q .normal (frm 35 u df) w) :
  wpAny Tryz.prog .any nuOps Q 11 (Array.replicate 11 false) (frm 35 u0 df) W0:=by
 have hL:∀ k,(Array.replicate 11 false).getD k false=false:=fun k=>by
  rcases Nat.lt_or_ge k 11 with hk | hk
  ·simp [hk]
  ·simp [Nat.not_lt.2 hk]
 refine wpAny_inv (NUX W0 u0 g r neg dig R E df) ?_ ?_ 11 _ _ _ (by decide) ⟨u0,rfl,by simp,?_⟩
 case refine_3 =>
  have hF:∀ k,(Array.replicate 11 false).getD k false=true→False:=fun k e=>by rw [hL k] at e;cases e
  exact ⟨fun _ _=>rfl,c.bx,fun _=>c.rs,fun _=>Below.refl _ _,Kp.refl _ _,fun e=>(hF _ e).elim,fun e=>(hF _ e).elim,fun e=>(hF _ e).elim,fun e=>(hF _ e).elim,fun e=>(hF _ e).elim,fun e=>(hF _ e).elim,fun e=>(hF _ e).elim,fun e=>(hF _ e).elim,fun e=>(hF _ e).elim,fun e=>(hF _ e).elim,fun e=>(hF _ e).elim,fun e=>(hF _ e).elim⟩
 ·intro listed a w jx hI hi
  obtain ⟨u,rfl,hsz,h⟩:=hI
  have hlt:jx<11:=ready_lt hi
  have hno:=ready_not hi
  obtain (rfl | rfl | rfl | rfl | rfl | rfl | rfl | rfl | rfl | rfl | rfl):jx=0∨jx=1∨jx=2∨jx=3∨jx=4∨jx=5∨jx=6∨jx=7∨jx=8∨jx=9∨jx=10:=by omega
  ·exact wpOp_run rfl rfl (run_fa0 rfl ((frm_eval (by decide)).trans ((h.old 4 (by omega)).trans c.e4))) (nu_put hsz (by decide) (nu0 c h))
  ·have hn := ready_needs (l := [0]) hi (by kernel_rfl)
   exact wpOp_run rfl rfl (run_ldb rfl ((frm_eval (by decide)).trans (h.f0 (hn 0 (by simp)))) h.bx) (nu_put hsz (by decide) (nu1 c h))
  ·exact wpOp_run rfl rfl (run_fa1 rfl ((frm_eval (by decide)).trans ((h.old 4 (by omega)).trans c.e4))) (nu_put hsz (by decide) (nu2 c h))
  ·have hn := ready_needs (l := [2]) hi (by kernel_rfl)
   exact wpOp_run rfl rfl (run_lds rfl ((frm_eval (by decide)).trans (h.f2 (hn 2 (by simp)))) h.bx) (nu_put hsz (by decide) (nu3 c h))
  ·exact wpOp_run rfl rfl (run_fa2 rfl ((frm_eval (by decide)).trans ((h.old 4 (by omega)).trans c.e4))) (nu_put hsz (by decide) (nu4 c h))
  ·have hn := ready_needs (l := [4]) hi (by kernel_rfl)
   exact wpOp_run rfl rfl (run_ldi rfl ((frm_eval (by decide)).trans (h.f4 (hn 4 (by simp)))) h.bx) (nu_put hsz (by decide) (nu5 c h))
  ·have hn := ready_needs (l := [5]) hi (by kernel_rfl)
   have h9:listed.getD 9 false=false:=by
    cases e:listed.getD 9 false with
    | false=>rfl
    | true=>exact absurd (h.d9 e) (by rw [hno];decide)
   refine wpOp_of rfl (step_callC (R:=fun r w'=>r = .string R∧Below w.heap.size w w') rfl (.const (.string ⟨#[48]⟩)) (.tmp 31) 9 3 rfl rfl ((frm_eval (by decide)).trans (h.f5 (hn 5 (by simp)))) (fun _ _=>rfl) ?_ ?_)
   ·refine (c.rep w (h.bel h9)).mono ?_
    rintro e w' ⟨he,hb⟩
    exact ⟨_,he,rfl,hb⟩
   ·rintro r w' ⟨rfl, hb⟩
    exact nu_put hsz (by decide) (nu6 c h hno hb)
  ·have hn := ready_needs (l := [3, 6]) hi (by kernel_rfl)
   exact wpOp_run rfl rfl (run_cat rfl ((frm_eval (by decide)).trans (h.f3 (hn 3 (by simp)))) ((frm_eval (by decide)).trans (h.f6 (hn 6 (by simp)))) c.few) (nu_put hsz (by decide) (nu7 c h))
  ·have hn := ready_needs (l := [1, 7]) hi (by kernel_rfl)
   exact wpOp_run rfl rfl (run_bdN (fun _=>rfl) rfl ((frm_eval (by decide)).trans (h.f1 (hn 1 (by simp)))) ((frm_eval (by decide)).trans (h.f7 (hn 7 (by simp))))) (nu_put hsz (by decide) (nu8 c h))
  ·have hn := ready_needs (l := [8, 6, 0, 1, 2, 3, 4, 5, 6, 7, 8]) hi (by kernel_rfl)
   have hk:=nine_kp (b:=(nlf ⟨2,0,neg,dig++R,0,⟨#[]⟩,[],[],[]⟩)) (h.rs hno)
   exact wpOp_skip rfl rfl (run_st9 rfl ((frm_eval (by decide)).trans ((h.old 2 (by omega)).trans c.e2)) ((frm_eval (by decide)).trans (h.f8 (hn 8 (by simp)))) (h.rs hno)) (nu_none hsz (by decide) (nu9 c h (hn 6 (by simp)) hno hk.1 hk.2))
  ·have hn := ready_needs (l := [9, 0, 1, 2, 3, 4, 5, 6, 7, 8, 9]) hi (by kernel_rfl)
   exact wpOp_run rfl rfl (run_asc (fun _=>rfl) rfl) (nu_put hsz (by decide) (nu10 c h))
 ·intro listed a w hI hr
  obtain ⟨u,rfl,hsz,h⟩:=hI
  have hd:=ready_done hr hsz (by decide)
  exact hQ u w h.old (h.fa (hd 10 (by decide))) (h.f9 (hd 9 (by decide))) h.kk
end Go.Proofs.YtejlaiofpekchaaGreatDoor
namespace Go.Proofs.YtejlaiofpekchaaGreatDoor
open Go.RowKit Go.Shelf
set_option linter.unusedVariables false
theorem vfind_nil(p a:Option Addr)(c:Nat)(w:World):Calls Tryz.prog 57 #[.pointer p, .slice a 0 c] w fun e w'=>e = .returned (.pointer p)∧w'=w:=by
 go_enter Tryz.func57,Tryz.ntmps57
 go_wp2
 go_loopw [0,11] (fun s0 s11 wr=>s0 = .pointer p∧s11 = .int .i64 0∧wr=w) (fun _ _ _=>0)
 case atStart=>exact ⟨rfl,rfl,rfl⟩
 case round =>
  obtain ⟨rfl,rfl,hw⟩:=hrel
  obtain rfl:=hw.symm
  go_wp2
  go_ret
  exact ⟨rfl,rfl⟩
def bytN(a:Option Addr)(n c:Nat):Nb:=⟨6,0,false,⟨#[]⟩,0,⟨#[]⟩,a,n,c,none,0,0,none,0,0⟩
theorem vbytes_yes(s:ByteArray)(l:List Int)(hs:s.size<1000000)(hl:unhA s=some l)(w:World) :
  Calls Tryz.prog 84 #[.string s] w fun e w'=>∃ a n c,e = .returned (.tuple #[.slice a n c, .bool true])∧Hid (OwnsB w' w.heap.size (.slice a n c) l)∧Hid (Below w.heap.size w w'):=by
 refine (bytesof_any s hs w).mono ?_
 rintro e w' ⟨h | ⟨_,h⟩,hb⟩
 ·obtain ⟨v, l', rfl, h1, h2⟩ := h
  rw [hl] at h1
  cases h1
  obtain ⟨a,c,rfl,_⟩:=h2.shape
  exact ⟨_,_,_,rfl,h2,hb⟩
 ·rw [hl] at h
  cases h
theorem OwnsB.kp{w w':World}{base r:Nat}{v:Value}{zs:List Int}(h:OwnsB w base v zs)(hk:Kp (fun k=>k=r) w w')(hr:r<base):OwnsB w' base v zs:=by
 obtain ⟨⟨h1,h2⟩,h3⟩:=h
 refine ⟨⟨h1,?_⟩,h3⟩
 rcases h2 with h2 | ⟨g,cap,cur,hv,hg,hc,q⟩
 ·exact .inl h2
 ·exact .inr ⟨g,cap,cur,hv,hg,by rw [hk.block g (Array.getElem?_eq_some_iff.1 hc).1 (by omega)];exact hc,q⟩
theorem OwnsB.low{w:World}{b b':Nat}{v:Value}{zs:List Int}(h:OwnsB w b v zs)(hb:b'≤b):OwnsB w b' v zs:=by
 obtain ⟨⟨h1,h2⟩,h3⟩:=h
 refine ⟨⟨h1,?_⟩,h3⟩
 rcases h2 with h2 | ⟨g,cap,cur,hv,hg,q⟩
 ·exact .inl h2
 ·exact .inr ⟨g,cap,cur,hv,by omega,q⟩
theorem tk_boxes(w:World)(b:Nb)(a:Option Addr)(c:Nat)(n:Int)(W:World)(hW:W=((w.alloc (.cells #[.int .i64 b.kind, .int .u64 b.num, .bool b.neg, .string b.dig, .int .i64 b.exp, .string b.txt, .slice b.ab b.lb b.cb, .slice b.ak b.lk b.ck, .slice b.ai b.li b.ci] 26)).alloc (.cells #[.slice a 0 c, .int .i64 3, .int .u64 n] 44)).alloc (.cells #[.int .i64 0, .int .u64 0, .bool false, .string ⟨#[]⟩, .int .i64 0, .string ⟨#[]⟩, .slice none 0 0, .slice none 0 0, .slice none 0 0] 26)) :
  NBox W w.heap.size b∧Blk W (w.heap.size+1) #[.slice a 0 c, .int .i64 3, .int .u64 n] 44∧NBox W (w.heap.size+2) zN∧Below w.heap.size w W∧w.heap.size+3≤W.heap.size:=by
 subst hW
 have b1:=alloc_below w (.cells b.arr 26)
 have n1:=nbox_new w b
 have s1:(w.alloc (.cells b.arr 26)).heap.size=w.heap.size+1:=by simp
 have b2:=alloc_below (w.alloc (.cells b.arr 26)) (.cells #[.slice a 0 c, .int .i64 3, .int .u64 n] 44)
 have n2:=blk_new (w.alloc (.cells b.arr 26)) #[.slice a 0 c, .int .i64 3, .int .u64 n] 44
 have s2:((w.alloc (.cells b.arr 26)).alloc (.cells #[.slice a 0 c, .int .i64 3, .int .u64 n] 44)).heap.size=w.heap.size+2:=by simp
 have b3:=alloc_below ((w.alloc (.cells b.arr 26)).alloc (.cells #[.slice a 0 c, .int .i64 3, .int .u64 n] 44)) (.cells zN.arr 26)
 have n3:=nbox_new ((w.alloc (.cells b.arr 26)).alloc (.cells #[.slice a 0 c, .int .i64 3, .int .u64 n] 44)) zN
 rw [s1] at n2 b2
 rw [s2] at n3 b3
 exact ⟨(n1.kept b2 (by omega)).kept b3 (by omega),n2.kept b3 (by omega),n3,b1.trans ((b2.mono (by omega)).trans (b3.mono (by omega))),by simp⟩
set_option maxHeartbeats 4000000 in
set_option maxRecDepth 100000 in
theorem vtaken_bytes(b:Nb)(a:Option Addr)(c:Nat)(n:Int)(l:List Int)(hk:b.kind=5)(hs:b.txt.size<1000000)(hl:unhA b.txt=some l)(w:World) :
  Calls Tryz.prog 58 #[.agg #[.int .i64 b.kind, .int .u64 b.num, .bool b.neg, .string b.dig, .int .i64 b.exp, .string b.txt, .slice b.ab b.lb b.cb, .slice b.ak b.lk b.ck, .slice b.ai b.li b.ci], .agg #[.slice a 0 c, .int .i64 3, .int .u64 n]] w fun e w' =>
   ∃ va vn vc,e = .returned (.tuple #[.agg #[.int .i64 6, .int .u64 0, .bool false, .string ⟨#[]⟩, .int .i64 0, .string ⟨#[]⟩, .slice va vn vc, .slice none 0 0, .slice none 0 0], .bool true])∧Hid (OwnsB w' w.heap.size (.slice va vn vc) l)∧Hid (Below w.heap.size w w'):=by
 have hk':Hid (b.kind=5):=hk
 clear hk
 go_enter Tryz.func58,Tryz.ntmps58
 go_upto_region 1 with fail
 generalize hW:((w.alloc (.cells #[.int .i64 b.kind, .int .u64 b.num, .bool b.neg, .string b.dig, .int .i64 b.exp, .string b.txt, .slice b.ab b.lb b.cb, .slice b.ak b.lk b.ck, .slice b.ai b.li b.ci] 26)).alloc (.cells #[.slice a 0 c, .int .i64 3, .int .u64 n] 44)).alloc (.cells #[.int .i64 0, .int .u64 0, .bool false, .string ⟨#[]⟩, .int .i64 0, .string ⟨#[]⟩, .slice none 0 0, .slice none 0 0, .slice none 0 0] 26)=W at *
 obtain ⟨hN0,hL0,hR0,hB0,hSz0⟩:=tk_boxes w b a c n W hW.symm
 have hN:Hid (NBox W w.heap.size b):=hN0
 have hL:Hid (Blk W (w.heap.size+1) #[.slice a 0 c, .int .i64 3, .int .u64 n] 44):=hL0
 have hR:Hid (NBox W (w.heap.size+2) zN):=hR0
 have hB:Hid (Below w.heap.size w W):=hB0
 have hSz:Hid (w.heap.size+3≤W.heap.size):=hSz0
 clear hN0 hL0 hR0 hB0 hSz0 hW
 have y1:=hL.out.cell 1
 simp only [List.getElem?_toArray,List.getElem?_cons_succ,List.getElem?_cons_zero] at y1
 have q5:W.cell? ⟨w.heap.size,5,none⟩=some (.string b.txt):=hN.out.cell 5
 have kB:=vbytes_yes b.txt l hs hl W
 go_upto_region 8 with (go_at_call 84;refine kB.mono ?_;rintro e x1 ⟨va,vn,vc,rfl,hO,hb1⟩)
 have hb1':Hid (Below W.heap.size W x1):=hb1.out
 have hN1:Hid (NBox x1 w.heap.size b):=hN.out.kept hb1'.out hN.out.lt
 have hR1:Hid (NBox x1 (w.heap.size+2) zN):=hR.out.kept hb1'.out hR.out.lt
 have q0:x1.cell? ⟨w.heap.size,0,none⟩=some (.int .i64 5):=by have:=hN1.out.cell 0;rw [show b.cells[0]? = some (.int .i64 b.kind) from rfl,hk'.out] at this;exact this
 obtain ⟨m0,m1,m2,m3,m4,m5,m6,m7,m8⟩:=hR1.out.fields
 have z0:=hR1.out.fz 0;have z1:=hR1.out.fz 1;have z2:=hR1.out.fz 2;have z3:=hR1.out.fz 3;have z4:=hR1.out.fz 4;have z5:=hR1.out.fz 5;have z6:=hR1.out.fz 6;have z7:=hR1.out.fz 7;have z8:=hR1.out.fz 8
 have hlo:Hid (OwnsB x1 (w.heap.size+3) (.slice va vn vc) l):=hO.out.low hSz.out
 have hB1:Hid (Below w.heap.size w x1):=hB.out.trans (hb1'.out.mono hB.out.size)
 clear y1 q5 kB hb1 hO
 have hne:w.heap.size≠w.heap.size+2:=by omega
 generalize hr:w.heap.size+2=r at *
 go_region
 have hk9:=nine_kp (b:=bytN va vn vc) hR1.out
 obtain ⟨y0,y1,y2,y3,y4,y5,y6,y7,y8⟩:=hk9.1.fields
 have hlo2:Hid (OwnsB _ (w.heap.size+3) (.slice va vn vc) l):=hlo.out.kp hk9.2 (by omega)
 have hB2:Hid (Below w.heap.size w _):=hB1.out.trans (hk9.2.below hB1.out.size fun k e=>by omega)
 simp only [bytN] at y0 y1 y2 y3 y4 y5 y6 y7 y8 hlo2 hB2
 clear hk9 hlo hB1 m0 m1 m2 m3 m4 m5 m6 m7 m8 z0 z1 z2 z3 z4 z5 z6 z7 z8
 go_wp2
 refine bodyPost_ret (v := .tuple #[.agg #[.int .i64 6, .int .u64 0, .bool false, .string ⟨#[]⟩, .int .i64 0, .string ⟨#[]⟩, .slice va vn vc, .slice none 0 0, .slice none 0 0], .bool true]) (by simp [results,Tryz.results58,go_sem,y0,y1,y2,y3,y4,y5,y6,y7,y8]) rfl ⟨_,_,_,rfl,?_,?_⟩
 ·exact (hlo2.out.below (Below.refl _ _).drew).low (by omega)
 ·exact hB2.out.drew
end Go.Proofs.YtejlaiofpekchaaGreatDoor
namespace Go.Proofs.YtejlaiofpekchaaGreatDoor
open Go.RowKit Go.Shelf
set_option linter.unusedVariables false
structure GV(W X:World)(N P k:Nat)(b:Nb)(va:Option Addr)(vn vc:Nat)(l:List Int):Prop where
 nb:NBox X k (bytN va vn vc)
 pb:NBox X P b
 ow:OwnsB X N (.slice va vn vc) l
 bl:Below N W X
 lt:P<N
set_option maxHeartbeats 4000000 in
set_option maxRecDepth 100000 in
theorem vgive_bytes(P:Nat)(b:Nb)(a:Option Addr)(c:Nat)(n:Int)(l:List Int)(hk:b.kind=5)(hs:b.txt.size<1000000)(hl:unhA b.txt=some l)(w:World)(hN:NBox w P b) :
  Calls Tryz.prog 25 #[.pointer (some ⟨P,0,none⟩), .agg #[.slice a 0 c, .int .i64 3, .int .u64 n]] w fun e w' =>
   ∃ va vn vc,e = .returned (.int .i64 0)∧Hid (NBox w' P (bytN va vn vc))∧Hid (OwnsB w' w.heap.size (.slice va vn vc) l)∧Hid (Kp (fun k=>k=P) w w'):=by
 have hB:Hid (Below w.heap.size w (w.alloc (.cells #[.slice a 0 c, .int .i64 3, .int .u64 n] 44))):=alloc_below w _
 have hQ:Hid (Blk (w.alloc (.cells #[.slice a 0 c, .int .i64 3, .int .u64 n] 44)) w.heap.size #[.slice a 0 c, .int .i64 3, .int .u64 n] 44):=blk_new w _ _
 have hP:Hid (NBox (w.alloc (.cells #[.slice a 0 c, .int .i64 3, .int .u64 n] 44)) P b):=hN.kept hB.out hN.lt
 have hlt:Hid (P<w.heap.size):=hN.lt
 have kT:Hid (∀ W,Calls Tryz.prog 58 #[.agg #[.int .i64 b.kind, .int .u64 b.num, .bool b.neg, .string b.dig, .int .i64 b.exp, .string b.txt, .slice b.ab b.lb b.cb, .slice b.ak b.lk b.ck, .slice b.ai b.li b.ci], .agg #[.slice a 0 c, .int .i64 3, .int .u64 n]] W fun e w' =>
   ∃ va vn vc,e = .returned (.tuple #[.agg #[.int .i64 6, .int .u64 0, .bool false, .string ⟨#[]⟩, .int .i64 0, .string ⟨#[]⟩, .slice va vn vc, .slice none 0 0, .slice none 0 0], .bool true])∧Hid (OwnsB w' W.heap.size (.slice va vn vc) l)∧Hid (Below W.heap.size W w')):=fun W=>vtaken_bytes b a c n l hk hs hl W
 clear hk hs hl hN
 go_enter Tryz.func25,Tryz.ntmps25
 go_upto_region 4 with (go_at_call 57;refine (vfind_nil _ _ _ _).mono ?_;rintro e w1 ⟨rfl,hw1⟩;obtain rfl:=hw1.symm;clear hw1)
 generalize w.alloc (.cells #[.slice a 0 c, .int .i64 3, .int .u64 n] 44)=W at *
 generalize hq:w.heap.size=q at *
 have SK:Hid (∀ wX,Below W.heap.size W wX→(wX.cell? ⟨P,0,none⟩=some (.int .i64 b.kind)∧wX.cell? ⟨P,1,none⟩=some (.int .u64 b.num)∧wX.cell? ⟨P,2,none⟩=some (.bool b.neg)∧wX.cell? ⟨P,3,none⟩=some (.string b.dig)∧wX.cell? ⟨P,4,none⟩=some (.int .i64 b.exp)∧wX.cell? ⟨P,5,none⟩=some (.string b.txt)∧wX.cell? ⟨P,6,none⟩=some (.slice b.ab b.lb b.cb)∧wX.cell? ⟨P,7,none⟩=some (.slice b.ak b.lk b.ck)∧wX.cell? ⟨P,8,none⟩=some (.slice b.ai b.li b.ci))∧wX.cell? ⟨q,0,none⟩=some (.slice a 0 c)∧wX.cell? ⟨q,1,none⟩=some (.int .i64 3)∧wX.cell? ⟨q,2,none⟩=some (.int .u64 n)):=fun wX hX =>
  ⟨(hP.out.kept hX hP.out.lt).fields,(hQ.out.kept hX hQ.out.lt).cell 0,(hQ.out.kept hX hQ.out.lt).cell 1,(hQ.out.kept hX hQ.out.lt).cell 2⟩
 have hb0:Hid (Below W.heap.size W W):=Below.refl _ _
 go_region_held3 (fun wX=>(wX.cell? ⟨P,0,none⟩=some (.int .i64 b.kind)∧wX.cell? ⟨P,1,none⟩=some (.int .u64 b.num)∧wX.cell? ⟨P,2,none⟩=some (.bool b.neg)∧wX.cell? ⟨P,3,none⟩=some (.string b.dig)∧wX.cell? ⟨P,4,none⟩=some (.int .i64 b.exp)∧wX.cell? ⟨P,5,none⟩=some (.string b.txt)∧wX.cell? ⟨P,6,none⟩=some (.slice b.ab b.lb b.cb)∧wX.cell? ⟨P,7,none⟩=some (.slice b.ak b.lk b.ck)∧wX.cell? ⟨P,8,none⟩=some (.slice b.ai b.li b.ci))∧wX.cell? ⟨q,0,none⟩=some (.slice a 0 c)∧wX.cell? ⟨q,1,none⟩=some (.int .i64 3)∧wX.cell? ⟨q,2,none⟩=some (.int .u64 n)) (((with_reducible refine SK.out _ ?_);(repeat' with_reducible first | exact hb0.out | exact hb3.out | refine Below.drew ?_ | refine Below.alloc ?_ (by first | exact Nat.le_refl _ | exact hb3.out.size) _ | refine Below.setCell ?_ (by first | exact Nat.le_refl _ | exact hb3.out.size) _))) (first
  | (go_at_call 58;refine (kT.out W.drew).mono ?_;rintro e w3 ⟨va,vn,vc,rfl,hO3',hb3'⟩;have hb3:Hid (Below W.heap.size W w3):=hb0.out.drew.trans hb3'.out;have hO3:Hid (OwnsB w3 W.heap.size (.slice va vn vc) l):=hO3';clear hb3' hO3')
  | (go_at_call 58;refine (kT.out (W.drew.alloc (.cells #[.int .i64 0, .int .u64 0, .bool false, .string ⟨#[]⟩, .int .i64 0, .string ⟨#[]⟩, .slice none 0 0, .slice none 0 0, .slice none 0 0] 26))).mono ?_;rintro e w3 ⟨va,vn,vc,rfl,hO3',hb3'⟩;have hz3:Below (W.heap.size+1) (W.drew.alloc (.cells #[.int .i64 0, .int .u64 0, .bool false, .string ⟨#[]⟩, .int .i64 0, .string ⟨#[]⟩, .slice none 0 0, .slice none 0 0, .slice none 0 0] 26)) w3:=(by have:=hb3'.out;simp at this;exact this);have hb3:Hid (Below W.heap.size W w3):=(hb0.out.drew.alloc (Nat.le_refl _) _).trans (hz3.mono (by omega));have hO3:Hid (OwnsB w3 W.heap.size (.slice va vn vc) l):=hO3'.out.low (by simp);have hZ:Hid (NBox w3 W.heap.size zN):=(nbox_new W.drew zN).kept hz3 (by show W.heap.size<_;omega);have hO4:Hid (OwnsB w3 (W.heap.size+1) (.slice va vn vc) l):=(by have:=hO3'.out;simp at this;exact this);clear hb3' hO3' hz3;obtain ⟨m0,m1,m2,m3,m4,m5,m6,m7,m8⟩:=hZ.out.fields;have z0:=hZ.out.fz 0;have z1:=hZ.out.fz 1;have z2:=hZ.out.fz 2;have z3:=hZ.out.fz 3;have z4:=hZ.out.fz 4;have z5:=hZ.out.fz 5;have z6:=hZ.out.fz 6;have z7:=hZ.out.fz 7;have z8:=hZ.out.fz 8))
 ·have hb4 := hb3.out.alloc hb3.out.size (.cells #[.int .i64 6, .int .u64 0, .bool false, .string ⟨#[]⟩, .int .i64 0, .string ⟨#[]⟩, .slice va vn vc, .slice none 0 0, .slice none 0 0] 26)
  have hX:Hid (GV W (w3.alloc (.cells #[.int .i64 6, .int .u64 0, .bool false, .string ⟨#[]⟩, .int .i64 0, .string ⟨#[]⟩, .slice va vn vc, .slice none 0 0, .slice none 0 0] 26)) W.heap.size P w3.heap.size b va vn vc l):=⟨nbox_new w3 (bytN va vn vc),hP.out.kept hb4 hP.out.lt,hO3.out.alloc _,hb4,hP.out.lt⟩
  clear hb4 hb3 hO3 SK kT hb0 hQ hP
  generalize w3.alloc (.cells #[.int .i64 6, .int .u64 0, .bool false, .string ⟨#[]⟩, .int .i64 0, .string ⟨#[]⟩, .slice va vn vc, .slice none 0 0, .slice none 0 0] 26)=X at *
  generalize w3.heap.size=k at *
  obtain ⟨g0,g1,g2,g3,g4,g5,g6,g7,g8⟩:=hX.out.nb.fields
  simp only [bytN] at g0 g1 g2 g3 g4 g5 g6 g7 g8
  obtain ⟨p0,p1,p2,p3,p4,p5,p6,p7,p8⟩:=hX.out.pb.fields
  have f0:=hX.out.pb.fz 0;have f1:=hX.out.pb.fz 1;have f2:=hX.out.pb.fz 2;have f3:=hX.out.pb.fz 3;have f4:=hX.out.pb.fz 4;have f5:=hX.out.pb.fz 5;have f6:=hX.out.pb.fz 6;have f7:=hX.out.pb.fz 7;have f8:=hX.out.pb.fz 8
  have hWs:Hid (w.heap.size≤W.heap.size):=hB.out.size
  go_wp2
  go_ret
  have hk:=nine_kp (b:=bytN va vn vc) hX.out.pb
  exact ⟨va,vn,vc,rfl,hk.1,(hX.out.ow.kp hk.2 hX.out.lt).low hWs.out,(Kp.of (by rw [hq];exact hB.out.trans (hX.out.bl.mono (by have:=hWs.out;omega)))).trans hk.2⟩
 ·have hk9 := nine_kp (b := bytN va vn vc) hZ.out
  have hX:Hid (GV W (((((((((w3.setCell ⟨W.heap.size,0,none⟩ (.int .i64 6)).setCell ⟨W.heap.size,1,none⟩ (.int .u64 0)).setCell ⟨W.heap.size,2,none⟩ (.bool false)).setCell ⟨W.heap.size,3,none⟩ (.string ⟨#[]⟩)).setCell ⟨W.heap.size,4,none⟩ (.int .i64 0)).setCell ⟨W.heap.size,5,none⟩ (.string ⟨#[]⟩)).setCell ⟨W.heap.size,6,none⟩ (.slice va vn vc)).setCell ⟨W.heap.size,7,none⟩ (.slice none 0 0)).setCell ⟨W.heap.size,8,none⟩ (.slice none 0 0)) W.heap.size P W.heap.size b va vn vc l):=⟨hk9.1,(hP.out.kept hb3.out hP.out.lt).same (hk9.2.block P (Nat.lt_of_lt_of_le hP.out.lt hb3.out.size) (by have:=hP.out.lt;omega)),(hO4.out.kp hk9.2 (by omega)).low (by omega),hb3.out.trans (hk9.2.below hb3.out.size fun k e=>by omega),hP.out.lt⟩
  clear hk9 hb3 hO3 hO4 hZ SK kT hb0 hQ hP m0 m1 m2 m3 m4 m5 m6 m7 m8 z0 z1 z2 z3 z4 z5 z6 z7 z8
  generalize (((((((((w3.setCell ⟨W.heap.size,0,none⟩ (.int .i64 6)).setCell ⟨W.heap.size,1,none⟩ (.int .u64 0)).setCell ⟨W.heap.size,2,none⟩ (.bool false)).setCell ⟨W.heap.size,3,none⟩ (.string ⟨#[]⟩)).setCell ⟨W.heap.size,4,none⟩ (.int .i64 0)).setCell ⟨W.heap.size,5,none⟩ (.string ⟨#[]⟩)).setCell ⟨W.heap.size,6,none⟩ (.slice va vn vc)).setCell ⟨W.heap.size,7,none⟩ (.slice none 0 0)).setCell ⟨W.heap.size,8,none⟩ (.slice none 0 0))=X at *
  obtain ⟨g0,g1,g2,g3,g4,g5,g6,g7,g8⟩:=hX.out.nb.fields
  simp only [bytN] at g0 g1 g2 g3 g4 g5 g6 g7 g8
  obtain ⟨p0,p1,p2,p3,p4,p5,p6,p7,p8⟩:=hX.out.pb.fields
  have f0:=hX.out.pb.fz 0;have f1:=hX.out.pb.fz 1;have f2:=hX.out.pb.fz 2;have f3:=hX.out.pb.fz 3;have f4:=hX.out.pb.fz 4;have f5:=hX.out.pb.fz 5;have f6:=hX.out.pb.fz 6;have f7:=hX.out.pb.fz 7;have f8:=hX.out.pb.fz 8
  have hWs:Hid (w.heap.size≤W.heap.size):=hB.out.size
  go_wp2
  go_ret
  have hk:=nine_kp (b:=bytN va vn vc) hX.out.pb
  exact ⟨va,vn,vc,rfl,hk.1,(hX.out.ow.kp hk.2 hX.out.lt).low hWs.out,(Kp.of (by rw [hq];exact hB.out.trans (hX.out.bl.mono (by have:=hWs.out;omega)))).trans hk.2⟩
end Go.Proofs.YtejlaiofpekchaaGreatDoor
namespace Go.Proofs.YtejlaiofpekchaaGreatDoor
open Go.RowKit Go.Shelf
set_option linter.unusedVariables false
attribute [local go_sem] Oper.semAt_some
set_option maxRecDepth 100000 in
set_option maxHeartbeats 2000000 in
theorem vback1_in(F:Fence)(n:Nat)(h7:F.fn 56)(hro:F.round=none)(hn:1≤n)(l Bs g c pc:Nat)(pa:Option Addr)(kd nn:Int)(J Jx:List Unit→World→Prop)
  (hY : ∀ pre x W, J pre W → pre.length < 1 → YieldAt F (n - 1) Tryz.prog l ((fun _ : Unit => #[.int .i64 0, .agg #[.slice pa 0 pc, .int .i64 kd, .int .u64 nn]]) x) W fun e W' =>
   (e = .returned (.bool true)∧J (pre++[x]) W'∧True)∨(e = .returned (.bool false)∧Jx (pre++[x]) W'))
  (W:World) (hBs:W.cell? ⟨Bs,0,none⟩=some (.slice (some ⟨g,0,none⟩) 1 c)) (e0:W.cell? ⟨g,0,none⟩=some (.slice pa 0 pc)) (e1:W.cell? ⟨g,1,none⟩=some (.int .i64 kd)) (e2:W.cell? ⟨g,2,none⟩=some (.int .u64 nn)) (h0:J [] W) :
  CallsIn F n Tryz.prog 56 #[.func (.yield l) #[] #[], .pointer (some ⟨Bs,0,none⟩)] W fun e W'=>(∃ v,e = .returned v) ∧
   ((∃ ys:List Unit,ys.length=1∧J ys W')∨(∃ pre:List Unit,True∧Jx pre W')):=by
 refine callsIn_of_wp Tryz.func56 rfl h7 ?_ hro
 simp only [Tryz.ntmps56,List.size_toArray,List.length_cons,List.length_nil,Nat.reduceAdd,Nat.reduceSub,Array.replicate_succ,Array.replicate_zero,List.push_toArray,List.append_toArray,List.nil_append,List.cons_append]
 gi_wp2
 gi_loopw [3] (fun i wr=>(i = .int .i64 0∧wr=W)∨(i = .int .i64 (-1)∧J [()] wr)) (fun i _=>(intOf i+1).toNat)
 case atStart=>exact .inl ⟨rfl,rfl⟩
 case round =>
  rcases hrel with ⟨rfl,hw⟩ | ⟨rfl,hJ⟩
  ·obtain rfl := hw.symm
   obtain ⟨fn,tmps,assign,body,hy,hR⟩:=hY [] () W h0 (by decide)
   gi_wp2
   refine hR.mono ?_
   rintro e W3 (⟨rfl,hJ3, -⟩ | ⟨rfl,hJx3⟩)
   ·gi_wp2
    go_roundw
    case rel=>exact .inr ⟨rfl,hJ3⟩
    case measure=>simp [intOf]
   ·gi_wp2
    refine bodyPost_ret (results_none rfl _ _ _) rfl ?_
    exact ⟨⟨_,rfl⟩, .inr ⟨_,trivial,hJx3⟩⟩
  ·gi_wp2
   go_end0
   exact ⟨⟨_,rfl⟩, .inl ⟨_,rfl,hJ⟩⟩
set_option maxHeartbeats 1000000 in
theorem vback_in(F:Fence)(n:Nat)(h5:F.fn 24)(hro:F.round=none)(a:Option Addr)(len cap:Nat)(w:World) :
  CallsIn F n Tryz.prog 24 #[.slice a len cap] w fun e w'=>e = .returned (.func (.func 56) #[] #[.pointer (some ⟨w.heap.size,0,none⟩)])∧w'=w.alloc (.cells #[.slice a len cap] 27):=by
 refine callsIn_of_wp Tryz.func24 rfl h5 ?_ hro
 simp only [Tryz.ntmps24,List.size_toArray,List.length_cons,List.length_nil,Nat.reduceAdd,Nat.reduceSub,Array.replicate_succ,Array.replicate_zero,List.push_toArray,List.append_toArray,List.nil_append,List.cons_append]
 gi_wp2
 go_ret
 exact ⟨rfl,rfl⟩
theorem vback_stops(F:Fence)(n:Nat)(h7:F.fn 56)(hro:F.round=none)(hn:1≤n)(Bs g c pc:Nat)(pa:Option Addr)(kd nn:Int)(w:World)(hBs:Bs<w.heap.size)(hg:g<w.heap.size)(hc:w.cell? ⟨Bs,0,none⟩=some (.slice (some ⟨g,0,none⟩) 1 c))(e0:w.cell? ⟨g,0,none⟩=some (.slice pa 0 pc))(e1:w.cell? ⟨g,1,none⟩=some (.int .i64 kd))(e2:w.cell? ⟨g,2,none⟩=some (.int .u64 nn)) :
  SeqStopsK F n Tryz.prog 56 #[.pointer (some ⟨Bs,0,none⟩)] (fun _:Unit=>#[.int .i64 0, .agg #[.slice pa 0 pc, .int .i64 kd, .int .u64 nn]]) (fun _ _=>True) (fun ys=>ys.length=1) (fun _=>True) 1 w:=fun l J Jx W hW _ _ hY h0 =>
 vback1_in F n h7 hro hn l Bs g c pc pa kd nn J Jx hY W ((hW.cell (p:=⟨Bs,0,none⟩) hBs).trans hc) ((hW.cell (p:=⟨g,0,none⟩) hg).trans e0) ((hW.cell (p:=⟨g,1,none⟩) hg).trans e1) ((hW.cell (p:=⟨g,2,none⟩) hg).trans e2) h0
end Go.Proofs.YtejlaiofpekchaaGreatDoor
namespace Go.Proofs.YtejlaiofpekchaaGreatDoor
open Go.RowKit
def NmAt(w:World)(g:Nat)(n:Bool)(s:ByteArray)(x:Int):Prop:=w.cell? ⟨g,0,none⟩=some (.bool n)∧w.cell? ⟨g,1,none⟩=some (.string s)∧w.cell? ⟨g,2,none⟩=some (.int .i64 x)
theorem box_at(w:World)(n:Bool)(s:ByteArray)(x:Int)(t:TypeId):NmAt (w.alloc (.cells #[.bool n, .string s, .int .i64 x] t)) w.heap.size n s x:=by
 refine ⟨?_,?_,?_⟩ <;> (rw [World.cell?_alloc_mark];rfl)
theorem NmAt.kept{w w':World}{B g:Nat}{n:Bool}{s:ByteArray}{x:Int}(h:NmAt w g n s x)(hb:Below B w w')(hg:g<B):NmAt w' g n s x:=by
 obtain ⟨h0,h1,h2⟩:=h
 exact ⟨by rw [hb.cell (p:=⟨g,0,none⟩) hg];exact h0,by rw [hb.cell (p:=⟨g,1,none⟩) hg];exact h1,by rw [hb.cell (p:=⟨g,2,none⟩) hg];exact h2⟩
theorem box_drew{w w':World}{o:Obj}(h:Below (w.alloc o).drew.heap.size (w.alloc o).drew w'):Below w.heap.size w w':=(alloc_below w o).drew.trans (h.mono (Nat.le_of_lt (alloc_lt w o)))
def NRow(w:World)(g:Nat)(n:Bool)(s:ByteArray)(x:Int):Prop:=w.heap[g]? = some (.cells #[.bool n, .string s, .int .i64 x] 86 (0,0))
theorem NRow.lt{w:World}{g:Nat}{n:Bool}{s:ByteArray}{x:Int}(h:NRow w g n s x):g<w.heap.size:=(Array.getElem?_eq_some_iff.1 h).1
theorem NRow.at{w:World}{g:Nat}{n:Bool}{s:ByteArray}{x:Int}(h:NRow w g n s x):NmAt w g n s x:=by
 refine ⟨?_,?_,?_⟩ <;> (rw [cell_row h];rfl)
theorem NRow.fz{w:World}{g:Nat}{n:Bool}{s:ByteArray}{x:Int}(h:NRow w g n s x)(j:Nat):w.frozen? ⟨g,j,none⟩=false:=by
 unfold NRow at h
 simp [World.frozen?,h]
theorem NRow.kept{w w':World}{g:Nat}{n:Bool}{s:ByteArray}{x:Int}(h:NRow w g n s x)(hb:Below w.heap.size w w'):NRow w' g n s x:=by
 unfold NRow
 rw [hb.block g h.lt]
 exact h
theorem row_new(w:World)(n:Bool)(s:ByteArray)(x:Int):NRow (w.alloc (.cells #[.bool n, .string s, .int .i64 x] 86)) w.heap.size n s x:=heap_alloc_new w _
theorem eq_size(s:ByteArray):(s.toList==[48])=decide (s=zS):=by
 rw [Bool.eq_iff_iff,beq_iff_eq,decide_eq_true_iff,ByteArray.toList_eq]
 constructor
 ·intro h
  apply bs_inj
  unfold bs
  rw [h]
  rfl
 ·intro h
  rw [h]
  rfl
theorem zero_any(w:World):Calls Tryz.prog 137 #[] w fun e w'=>e = .returned (.agg #[.bool false, .string ⟨#[48]⟩, .int .i64 0])∧Below w.heap.size w w':=by
 go_enter Tryz.func137,Tryz.ntmps137
 go_wp2
 refine bodyPost_ret (v := .agg #[.bool false, .string ⟨#[48]⟩, .int .i64 0]) (by simp [results,Tryz.results137,go_sem]) rfl ⟨rfl,?_⟩
 exact alloc_below _ _
theorem iszero_any(n:Bool)(s:ByteArray)(x:Int)(w:World):Calls Tryz.prog 149 #[.agg #[.bool n, .string s, .int .i64 x]] w fun e w'=>e = .returned (.bool (decide (n=false∧s=zS∧x=0)))∧Below w.heap.size w w':=by
 have kZ:=zero_any
 have hB:=box_at w n s x 86
 cases n with
 | true =>
  have hR:decide (true=false∧s=zS∧x=0)=false:=by simp
  rw [hR]
  clear hR
  go_enter Tryz.func149,Tryz.ntmps149
  go_wp2
  go_region_held3 (fun w'=>w'.cell? ⟨w.heap.size,0,none⟩=some (.bool true)∧w'.cell? ⟨w.heap.size,1,none⟩=some (.string s)∧w'.cell? ⟨w.heap.size,2,none⟩=some (.int .i64 x)) (first | exact hB | exact hB1) (first | (go_at_call 137;refine (kZ _).mono ?_;rintro e w1 ⟨rfl,hb⟩;have hB1:=NmAt.kept (w:=(w.alloc _).drew) hB hb (alloc_lt _ _)))
  go_wp2
  go_ret
  exact ⟨rfl,box_drew hb⟩
 | false =>
  by_cases hs:s=zS
  ·subst hs
   by_cases hx:x=0
   ·subst hx
    have hR:decide (false=false∧zS=zS∧(0:Int)=0)=true:=by simp
    rw [hR]
    clear hR
    unfold zS at *
    go_enter Tryz.func149,Tryz.ntmps149
    go_wp2
    go_region_held3 (fun w'=>w'.cell? ⟨w.heap.size,0,none⟩=some (.bool false)∧w'.cell? ⟨w.heap.size,1,none⟩=some (.string ⟨#[48]⟩)∧w'.cell? ⟨w.heap.size,2,none⟩=some (.int .i64 0)) (first | exact hB | exact hB1) (first | (go_at_call 137;refine (kZ _).mono ?_;rintro e w1 ⟨rfl,hb⟩;have hB1:=NmAt.kept (w:=(w.alloc _).drew) hB hb (alloc_lt _ _)))
    go_wp2
    go_ret
    exact ⟨rfl,box_drew hb⟩
   ·have hR : decide (false = false ∧ zS = zS ∧ x = 0) = false := by simp [hx]
    rw [hR]
    have d1:(x==0)=false:=by simpa using hx
    clear hR hx
    unfold zS at *
    go_enter Tryz.func149,Tryz.ntmps149
    go_wp2
    go_region_held3 (fun w'=>w'.cell? ⟨w.heap.size,0,none⟩=some (.bool false)∧w'.cell? ⟨w.heap.size,1,none⟩=some (.string ⟨#[48]⟩)∧w'.cell? ⟨w.heap.size,2,none⟩=some (.int .i64 x)) (first | exact hB | exact hB1) (first | (go_at_call 137;refine (kZ _).mono ?_;rintro e w1 ⟨rfl,hb⟩;have hB1:=NmAt.kept (w:=(w.alloc _).drew) hB hb (alloc_lt _ _)))
    go_wp2
    go_ret
    exact ⟨rfl,box_drew hb⟩
  ·have hR : decide (false = false ∧ s = zS ∧ x = 0) = false := by simp [hs]
   rw [hR]
   have d1:(s.toList==[48])=false:=by rw [eq_size];simpa using hs
   clear hR hs
   go_enter Tryz.func149,Tryz.ntmps149
   go_wp2
   go_region_held3 (fun w'=>w'.cell? ⟨w.heap.size,0,none⟩=some (.bool false)∧w'.cell? ⟨w.heap.size,1,none⟩=some (.string s)∧w'.cell? ⟨w.heap.size,2,none⟩=some (.int .i64 x)) (first | exact hB | exact hB1) (first | (go_at_call 137;refine (kZ _).mono ?_;rintro e w1 ⟨rfl,hb⟩;have hB1:=NmAt.kept (w:=(w.alloc _).drew) hB hb (alloc_lt _ _)))
   go_wp2
   go_ret
   exact ⟨rfl,box_drew hb⟩
theorem rtN_rest{n:Bool}{s:ByteArray}{x:Int}(hz:¬ (n=false∧s=zS∧x=0)):rtN n s x=(rt s && (!((bs s).getD (s.size - 1) 0==48) && (decide (-2000≤x) && decide (x≤2000)))):=by
 unfold rtN
 by_cases h:bs s=[48]
 ·have e := (z_iff s).1 h
  rw [if_pos h,h,e]
  have e1:((List.getD [48] (zS.size - 1) 0:Int)==48)=true:=rfl
  rw [e1]
  have e2:(!n && x==0)=false:=by
   cases n with
   | true=>rfl
   | false =>
    have:x≠0:=fun hx=>hz ⟨rfl,e,hx⟩
    simpa using this
  rw [e2]
  simp
 ·rw [if_neg h]
  rfl
set_option maxHeartbeats 1000000 in
theorem dright_any(n:Bool)(s:ByteArray)(x:Int)(w:World):Calls Tryz.prog 116 #[.agg #[.bool n, .string s, .int .i64 x]] w fun e w'=>e = .returned (.bool (rtN n s x))∧Below w.heap.size w w':=by
 have hB:=box_at w n s x 86
 have kI:=iszero_any n s x
 by_cases hz:n=false∧s=zS∧x=0
 ·have hR : rtN n s x = true := by obtain ⟨rfl, rfl, rfl⟩ := hz; exact rtN_zero
  rw [hR]
  rw [decide_eq_true hz] at kI
  clear hz hR
  obtain ⟨b0,b1,b2⟩:=hB
  go_enter Tryz.func116,Tryz.ntmps116
  go_wp2_with (go_at_call 149;refine (kI _).mono ?_;rintro e w1 ⟨rfl,hb⟩)
  go_ret
  exact ⟨rfl,box_below hb⟩
 ·have hR := rtN_rest hz
  rw [hR]
  rw [decide_eq_false hz] at kI
  clear hz hR
  have kR:=right_any s
  cases h1:rt s with
  | false =>
   rw [h1] at kR
   rw [Bool.false_and]
   obtain ⟨b0,b1,b2⟩:=id hB
   go_enter Tryz.func116,Tryz.ntmps116
   go_wp2_with (first
    | (go_at_call 149;refine (kI _).mono ?_;rintro e w1 ⟨rfl,hb⟩;obtain ⟨c0,c1,c2⟩:=hB.kept hb (alloc_lt _ _))
    | (go_at_call 114;refine (kR _).mono ?_;rintro e w2 ⟨rfl,hw⟩;obtain rfl:w1=w2:=hw.symm))
   go_ret
   exact ⟨rfl,box_below hb⟩
  | true =>
   rw [h1] at kR
   rw [Bool.true_and]
   have hsz:=rt_size h1
   have kH:=fun w=>hassuf_any s w hsz.1 (by omega)
   clear hsz h1
   obtain ⟨b0,b1,b2⟩:=id hB
   cases h2:((bs s).getD (s.size - 1) 0==48) with
   | true =>
    rw [h2] at kH
    go_enter Tryz.func116,Tryz.ntmps116
    go_wp2_with (first
     | (go_at_call 149;refine (kI _).mono ?_;rintro e w1 ⟨rfl,hb⟩;obtain ⟨c0,c1,c2⟩:=hB.kept hb (alloc_lt _ _))
     | (go_at_call 114;refine (kR _).mono ?_;rintro e w2 ⟨rfl,hw⟩;obtain rfl:w1=w2:=hw.symm)
     | (go_at_call 150;refine (kH _).mono ?_;rintro e w2 ⟨rfl,hw⟩;obtain rfl:w1=w2:=hw.symm))
    go_ret
    exact ⟨rfl,box_below hb⟩
   | false =>
    rw [h2] at kH
    by_cases h3 : -2000≤x
    ·by_cases h4 : x ≤ 2000
     ·have hR : (!false && (decide (-2000 ≤ x) && decide (x ≤ 2000))) = true := by simp [h3, h4]
      rw [hR]
      have d3:decide (-2000≤x)=true:=by simpa using h3
      have d4:decide (x≤2000)=true:=by simpa using h4
      clear hR h3 h4
      go_enter Tryz.func116,Tryz.ntmps116
      go_wp2_with (first
       | (go_at_call 149;refine (kI _).mono ?_;rintro e w1 ⟨rfl,hb⟩;obtain ⟨c0,c1,c2⟩:=hB.kept hb (alloc_lt _ _))
       | (go_at_call 114;refine (kR _).mono ?_;rintro e w2 ⟨rfl,hw⟩;obtain rfl:w1=w2:=hw.symm)
       | (go_at_call 150;refine (kH _).mono ?_;rintro e w2 ⟨rfl,hw⟩;obtain rfl:w1=w2:=hw.symm))
      go_ret
      exact ⟨rfl,box_below hb⟩
     ·have hR : (!false && (decide (-2000 ≤ x) && decide (x ≤ 2000))) = false := by simp [h4]
      rw [hR]
      have d3:decide (-2000≤x)=true:=by simpa using h3
      have d4:decide (x≤2000)=false:=by simpa using h4
      clear hR h3 h4
      go_enter Tryz.func116,Tryz.ntmps116
      go_wp2_with (first
       | (go_at_call 149;refine (kI _).mono ?_;rintro e w1 ⟨rfl,hb⟩;obtain ⟨c0,c1,c2⟩:=hB.kept hb (alloc_lt _ _))
       | (go_at_call 114;refine (kR _).mono ?_;rintro e w2 ⟨rfl,hw⟩;obtain rfl:w1=w2:=hw.symm)
       | (go_at_call 150;refine (kH _).mono ?_;rintro e w2 ⟨rfl,hw⟩;obtain rfl:w1=w2:=hw.symm))
      go_ret
      exact ⟨rfl,box_below hb⟩
    ·have hR : (!false && (decide (-2000 ≤ x) && decide (x ≤ 2000))) = false := by simp [h3]
     rw [hR]
     have d3:decide (-2000≤x)=false:=by simpa using h3
     clear hR h3
     go_enter Tryz.func116,Tryz.ntmps116
     go_wp2_with (first
      | (go_at_call 149;refine (kI _).mono ?_;rintro e w1 ⟨rfl,hb⟩;obtain ⟨c0,c1,c2⟩:=hB.kept hb (alloc_lt _ _))
      | (go_at_call 114;refine (kR _).mono ?_;rintro e w2 ⟨rfl,hw⟩;obtain rfl:w1=w2:=hw.symm)
      | (go_at_call 150;refine (kH _).mono ?_;rintro e w2 ⟨rfl,hw⟩;obtain rfl:w1=w2:=hw.symm))
     go_ret
     exact ⟨rfl,box_below hb⟩
end Go.Proofs.YtejlaiofpekchaaGreatDoor
