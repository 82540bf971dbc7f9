/-
  One more loss: the steps of lose, and lose.
  One more loss: conv.tell's lose.
  A path that goes on: slices.Grow, slices.Concat, conv.below.
  A path that goes on: slices.Concat, conv.below.
  A path that goes on: conv.below.
  The fault of one node, as plain data: gt tells which bytes are a text, ri which digits are a number, rd which numbers may a Dec have.
  When two trees are the same: tree.same.
  Whether two keys are the same: tree.twice, with slices.ContainsFunc and slices.IndexFunc; tree.Same.
  Are all keys texts? conv.allTexts.
  Digits of base 16: single operations.
-/
import Derived.Test.YtejlaiofpekchaaGreatDoorC3
import Derived.Test.YtejlaiofpekchaaGreatDoorC2
import Derived.Test.YtejlaiofpekchaaGreatDoorC4
import Derived.Lib.AppendZeros
namespace Go.Proofs.YtejlaiofpekchaaGreatDoor
open Go.RowKit
set_option linter.unusedVariables false
theorem LI.kept{W0:World}{u0:Nat→Value}{gl B:Nat}{pa:Option Addr}{np cp:Nat}{ps:List Int}{kd nn:Int}{v0:Value}{L0:List (Value × Lz)}{L:Nat→Bool}{u:Nat→Value}{w w':World}(c:LC W0 u0 gl B pa np cp ps kd nn v0 L0)(h:LI W0 u0 gl B pa np cp ps kd nn v0 L0 L u w)(hb:Below w.heap.size w w'):LI W0 u0 gl B pa np cp ps kd nn v0 L0 L u w' :=
 { h with
  kv:=h.kv.trans (KV.of (f:=[]) hb) (fun i hi=>by cases hi)
  lw:=fun k hk=>(hb.block k (Nat.lt_of_lt_of_le (Nat.lt_trans hk c.box.lt) h.kv.size)).trans (h.lw k hk)
  box:=fun e=>(h.box e).kept hb (h.box e).lt
  own:=fun e=>(h.own e).kept hb
  bel:=fun e=>(h.bel e).trans (hb.mono (h.bel e).size)
  f2:=fun a b=>(h.f2 a b).below hb
  f6:=fun a b=>let ⟨x,y,z⟩:=h.f6 a b;⟨x,y,z.kept hb z.lt⟩
  f7:=fun a=>(h.f7 a).kept hb
  f8:=fun a=>(h.f8 a).kept hb (h.f8 a).lt }
theorem li0{W0:World}{u0:Nat→Value}{gl B:Nat}{pa:Option Addr}{np cp:Nat}{ps:List Int}{kd nn:Int}{v0:Value}{L0:List (Value × Lz)}{L:Nat→Bool}{u:Nat→Value}{w:World}(c:LC W0 u0 gl B pa np cp ps kd nn v0 L0)(h:LI W0 u0 gl B pa np cp ps kd nn v0 L0 L u w):LI W0 u0 gl B pa np cp ps kd nn v0 L0 (upB L 0) (upd u 7 v0) w:={ h with old:=old7 _ h.old (by omega),f0:=fun _=>rfl,d7:=fun e=>⟨(h.d7 e).1,(h.d7 e).2.1,rfl⟩ }
theorem li1{W0:World}{u0:Nat→Value}{gl B:Nat}{pa:Option Addr}{np cp:Nat}{ps:List Int}{kd nn:Int}{v0:Value}{L0:List (Value × Lz)}{L:Nat→Bool}{u:Nat→Value}{w:World}(c:LC W0 u0 gl B pa np cp ps kd nn v0 L0)(h:LI W0 u0 gl B pa np cp ps kd nn v0 L0 L u w):LI W0 u0 gl B pa np cp ps kd nn v0 L0 (upB L 1) (upd u 8 (u 0)) w:={ h with old:=old7 _ h.old (by omega),f1:=fun _=>(h.old 0 (by omega)).trans c.e0 }
theorem li3{W0:World}{u0:Nat→Value}{gl B:Nat}{pa:Option Addr}{np cp:Nat}{ps:List Int}{kd nn:Int}{v0:Value}{L0:List (Value × Lz)}{L:Nat→Bool}{u:Nat→Value}{w:World}(c:LC W0 u0 gl B pa np cp ps kd nn v0 L0)(h:LI W0 u0 gl B pa np cp ps kd nn v0 L0 L u w):LI W0 u0 gl B pa np cp ps kd nn v0 L0 (upB L 3) (upd u 10 (u 1)) w:={ h with old:=old7 _ h.old (by omega),f3:=fun _=>(h.old 1 (by omega)).trans c.e1 }
theorem li4{W0:World}{u0:Nat→Value}{gl B:Nat}{pa:Option Addr}{np cp:Nat}{ps:List Int}{kd nn:Int}{v0:Value}{L0:List (Value × Lz)}{L:Nat→Bool}{u:Nat→Value}{w:World}(c:LC W0 u0 gl B pa np cp ps kd nn v0 L0)(h:LI W0 u0 gl B pa np cp ps kd nn v0 L0 L u w):LI W0 u0 gl B pa np cp ps kd nn v0 L0 (upB L 4) (upd u 11 (u 2)) w:={ h with old:=old7 _ h.old (by omega),f4:=fun _=>(h.old 2 (by omega)).trans c.e2 }
theorem l27{W0:World}{u0:Nat→Value}{gl B:Nat}{pa:Option Addr}{np cp:Nat}{ps:List Int}{kd nn:Int}{v0:Value}{L0:List (Value × Lz)}{L:Nat→Bool}{u:Nat→Value}{w:World}(c:LC W0 u0 gl B pa np cp ps kd nn v0 L0)(h:LI W0 u0 gl B pa np cp ps kd nn v0 L0 L u w)(h2:L 2=false):L 7=false∧L 5=false:=by
 constructor
 ·cases e : L 7 with
  | false=>rfl
  | true=>exact absurd (h.d7 e).2.1 (by rw [h2];decide)
 ·cases e : L 5 with
  | false=>rfl
  | true=>exact absurd (h.d5 e) (by rw [h2];decide)
theorem l67{W0:World}{u0:Nat→Value}{gl B:Nat}{pa:Option Addr}{np cp:Nat}{ps:List Int}{kd nn:Int}{v0:Value}{L0:List (Value × Lz)}{L:Nat→Bool}{u:Nat→Value}{w:World}(c:LC W0 u0 gl B pa np cp ps kd nn v0 L0)(h:LI W0 u0 gl B pa np cp ps kd nn v0 L0 L u w)(h6:L 6=false):L 7=false:=by
 cases e:L 7 with
 | false=>rfl
 | true=>exact absurd (h.d7 e).1 (by rw [h6];decide)
theorem l78{W0:World}{u0:Nat→Value}{gl B:Nat}{pa:Option Addr}{np cp:Nat}{ps:List Int}{kd nn:Int}{v0:Value}{L0:List (Value × Lz)}{L:Nat→Bool}{u:Nat→Value}{w:World}(c:LC W0 u0 gl B pa np cp ps kd nn v0 L0)(h:LI W0 u0 gl B pa np cp ps kd nn v0 L0 L u w)(h7:L 7=false):L 8=false:=by
 cases e:L 8 with
 | false=>rfl
 | true=>exact absurd (h.d8 e) (by rw [h7];decide)
theorem li2{W0:World}{u0:Nat→Value}{gl B:Nat}{pa:Option Addr}{np cp:Nat}{ps:List Int}{kd nn:Int}{v0:Value}{L0:List (Value × Lz)}{L:Nat→Bool}{u:Nat→Value}{w:World}(c:LC W0 u0 gl B pa np cp ps kd nn v0 L0)(h:LI W0 u0 gl B pa np cp ps kd nn v0 L0 L u w){w':World}{v:Value}(h2:L 2=false)(ho:OwnsI w' w.heap.size v ps)(hb:Below w.heap.size w w'):LI W0 u0 gl B pa np cp ps kd nn v0 L0 (upB L 2) (upd u 9 v) w':=by
 obtain ⟨h7,h5⟩:=l27 c h h2
 have h6:L 6=false:=by
  cases e:L 6 with
  | false=>rfl
  | true=>exact absurd (h.d6 e) (by rw [h5];decide)
 exact { h.kept c hb with
  old:=old7 _ h.old (by omega)
  f2:=fun _ _=>ho.base (Nat.le_trans c.bas (h.bel h7).size)
  f5:=fun e=>absurd (show L 5=true from e) (by rw [h5];decide)
  f6:=fun e=>absurd (show L 6=true from e) (by rw [h6];decide)
  f7:=fun e=>absurd (show L 7=true from e) (by rw [h7];decide)
  d7:=fun e=>absurd (show L 7=true from e) (by rw [h7];decide)
  d5:=fun _=>rfl }
theorem li5{W0:World}{u0:Nat→Value}{gl B:Nat}{pa:Option Addr}{np cp:Nat}{ps:List Int}{kd nn:Int}{v0:Value}{L0:List (Value × Lz)}{L:Nat→Bool}{u:Nat→Value}{w:World}(c:LC W0 u0 gl B pa np cp ps kd nn v0 L0)(h:LI W0 u0 gl B pa np cp ps kd nn v0 L0 L u w)(h2:L 2=true)(h3:L 3=true)(h4:L 4=true):LI W0 u0 gl B pa np cp ps kd nn v0 L0 (upB L 5) (upd u 12 (.agg #[u 9, .int .i64 kd, .int .u64 nn])) w:={ h with old:=old7 _ h.old (by omega),f5:=fun _=>rfl,d5:=fun _=>h2,d6:=fun _=>rfl }
theorem li6{W0:World}{u0:Nat→Value}{gl B:Nat}{pa:Option Addr}{np cp:Nat}{ps:List Int}{kd nn:Int}{v0:Value}{L0:List (Value × Lz)}{L:Nat→Bool}{u:Nat→Value}{w:World}(c:LC W0 u0 gl B pa np cp ps kd nn v0 L0)(h:LI W0 u0 gl B pa np cp ps kd nn v0 L0 L u w)(h5:L 5=true)(h6:L 6=false):LI W0 u0 gl B pa np cp ps kd nn v0 L0 (upB L 6) (upd u 13 (.slice (some ⟨w.heap.size,0,none⟩) 1 1)) (w.alloc (.cells #[u 9, .int .i64 kd, .int .u64 nn] 44)):=by
 have h7:=l67 c h h6
 exact { h.kept c (alloc_below w _) with
  old:=old7 _ h.old (by omega)
  f6:=fun _ _=>⟨_,rfl,blk_new w _ _⟩
  d6:=fun _=>h5
  d7:=fun e=>absurd (show L 7=true from e) (by rw [h7];decide) }
theorem OwnsZ.kv{w w':World}{base:Nat}{v:Value}{L:List (Value × Lz)}{gl:Nat}(h:OwnsZ w base v L)(hg:w.grownBy w' v.ownBlock):KV [] gl w w' :=
 ⟨hg.os, hg.tape, hg.output, hg.size, fun k hk _ _ ht => hg.block k hk (fun e => by
  rcases h.1.2 with ⟨rfl,_⟩ | ⟨g',cap',cur',rfl,_,hc',_⟩
  ·simp [Value.ownBlock] at e
  ·simp [Value.ownBlock] at e
   subst e
   exact ht _ _ hc')⟩
theorem OwnsZ.low{w w':World}{base:Nat}{v:Value}{L:List (Value × Lz)}{k:Nat}(h:OwnsZ w base v L)(hg:w.grownBy w' v.ownBlock)(hk:k<base)(hw:k<w.heap.size):w'.heap[k]? = w.heap[k]? :=
 hg.block k hw (fun e=>by
  rcases h.1.2 with ⟨rfl,_⟩ | ⟨g',cap',cur',rfl,hb,hc',_⟩
  ·simp [Value.ownBlock] at e
  ·simp [Value.ownBlock] at e
   omega)
theorem li7{W0:World}{u0:Nat→Value}{gl B:Nat}{pa:Option Addr}{np cp:Nat}{ps:List Int}{kd nn:Int}{v0:Value}{L0:List (Value × Lz)}{L:Nat→Bool}{u:Nat→Value}{w:World}(c:LC W0 u0 gl B pa np cp ps kd nn v0 L0)(h:LI W0 u0 gl B pa np cp ps kd nn v0 L0 L u w){w':World}{v:Value}(h0:L 0=true)(h2:L 2=true)(h6:L 6=true)(h7:L 7=false)(ho:OwnsZ w' B v (L0++[(u 9,⟨ps,kd,nn⟩)]))(hg:w.grownBy w' v0.ownBlock):LI W0 u0 gl B pa np cp ps kd nn v0 L0 (upB L 7) (upd u 14 v) w':=by
 have h8:=l78 c h h7
 exact { h with
  old:=old7 _ h.old (by omega)
  kv:=h.kv.trans ((h.own h7).kv hg) (fun i hi=>by cases hi)
  lw:=fun k hk=>((h.own h7).low hg (Nat.lt_trans hk c.low) (Nat.lt_of_lt_of_le (Nat.lt_trans hk c.box.lt) h.kv.size)).trans (h.lw k hk)
  box:=fun _=>(h.box h8).same ((h.own h7).low hg c.low (h.box h8).lt)
  own:=fun e=>absurd (show true=false from e) (by decide)
  bel:=fun e=>absurd (show true=false from e) (by decide)
  f2:=fun _ e=>absurd (show true=false from e) (by decide)
  f6:=fun _ e=>absurd (show true=false from e) (by decide)
  f7:=fun _=>ho
  f8:=fun e=>absurd (show L 8=true from e) (by rw [h8];decide)
  d7:=fun _=>⟨h6,h2,h0⟩
  d8:=fun _=>rfl }
theorem li8{W0:World}{u0:Nat→Value}{gl B:Nat}{pa:Option Addr}{np cp:Nat}{ps:List Int}{kd nn:Int}{v0:Value}{L0:List (Value × Lz)}{L:Nat→Bool}{u:Nat→Value}{w:World}(c:LC W0 u0 gl B pa np cp ps kd nn v0 L0)(h:LI W0 u0 gl B pa np cp ps kd nn v0 L0 L u w)(h7:L 7=true)(h8:L 8=false):LI W0 u0 gl B pa np cp ps kd nn v0 L0 (upB L 8) u (w.setCell ⟨gl,0,none⟩ (u 14)):=by
 have hs:∀ k,k≠gl→(w.setCell ⟨gl,0,none⟩ (u 14)).heap[k]? = w.heap[k]? := fun k hk=>Below.heap_setCell w ⟨gl,0,none⟩ (u 14) k hk
 have hk:KV [] gl w (w.setCell ⟨gl,0,none⟩ (u 14)):=⟨rfl,rfl,rfl,by simp [World.setCell],fun k _ _ hg _=>hs k hg⟩
 exact { h with
  kv:=h.kv.trans hk (fun i hi=>by cases hi)
  lw:=fun k hk=>(hs k (by omega)).trans (h.lw k hk)
  box:=fun e=>absurd (show true=false from e) (by decide)
  own:=fun e=>absurd (show L 7=false from e) (by rw [h7];decide)
  bel:=fun e=>absurd (show L 7=false from e) (by rw [h7];decide)
  f2:=fun _ e=>absurd (show L 7=false from e) (by rw [h7];decide)
  f6:=fun _ e=>absurd (show L 7=false from e) (by rw [h7];decide)
  f7:=fun _=>(h.f7 h7).keep fun b cur e hb hc he=>hs b (by have:=c.low;omega)
  f8:=fun _=>(h.box h8).set 0 (u 14)
  d8:=fun _=>h7 }
def LX(W0:World)(u0:Nat→Value)(gl B:Nat)(pa:Option Addr)(np cp:Nat)(ps:List Int)(kd nn:Int)(v0:Value)(L0:List (Value × Lz))(d:List Deferred)(listed:Array Bool)(a:Act)(w:World):Prop :=
 ∃ u,a=frm 15 u d∧listed.size=9∧LI W0 u0 gl B pa np cp ps kd nn v0 L0 (fun k=>listed.getD k false) u w
theorem lx_put{W0:World}{u0:Nat→Value}{gl B:Nat}{pa:Option Addr}{np cp:Nat}{ps:List Int}{kd nn:Int}{v0:Value}{L0:List (Value × Lz)}{d:List Deferred}{listed:Array Bool}{i dd:Nat}{u:Nat→Value}{v:Value}{w:World}(hsz:listed.size=9)(hi:i<9)(h:LI W0 u0 gl B pa np cp ps kd nn v0 L0 (upB (fun k=>listed.getD k false) i) (upd u dd v) w):LX W0 u0 gl B pa np cp ps kd nn v0 L0 d (listed.setIfInBounds i true) ((frm 15 u d).put (some dd) v) w :=
 ⟨_,frm_put,by simp [hsz],by rw [show (fun k=>(listed.setIfInBounds i true).getD k false)=upB (fun k=>listed.getD k false) i from funext fun k=>got_set (by omega)];exact h⟩
theorem lx_none{W0:World}{u0:Nat→Value}{gl B:Nat}{pa:Option Addr}{np cp:Nat}{ps:List Int}{kd nn:Int}{v0:Value}{L0:List (Value × Lz)}{d:List Deferred}{listed:Array Bool}{i:Nat}{u:Nat→Value}{v:Value}{w:World}(hsz:listed.size=9)(hi:i<9)(h:LI W0 u0 gl B pa np cp ps kd nn v0 L0 (upB (fun k=>listed.getD k false) i) u w):LX W0 u0 gl B pa np cp ps kd nn v0 L0 d (listed.setIfInBounds i true) ((frm 15 u d).put none v) w :=
 ⟨u,rfl,by simp [hsz],by rw [show (fun k=>(listed.setIfInBounds i true).getD k false)=upB (fun k=>listed.getD k false) i from funext fun k=>got_set (by omega)];exact h⟩
theorem step_callE{f:FuncId}{v:Value}{w:World}{ops:Array Oper}{o:Oper}{a:Act}{K:Act→World→Prop}{Q:Exit→Act→World→Prop}{E:Prop}{R:Value→World→Prop}(hgd:o.guard=none)(n:Nat)(T:TypeId)
  (ho:o.op = .call { callee := .value (.func f),args:=#[.tmp n],argTypes:=#[T] }) (hx:a.eval (.tmp n)=v) (hcf:∀ args w,(callFunc f args).run Tryz.prog w = .ok (.enter f args) w)
  (k:Calls Tryz.prog f #[v] w fun e w'=>∃ r,e = .returned r∧R r w') (h:∀ r w',R r w'→K (a.put o.dst r) w') :
  if Region.wanted o (yielded ops a.tmps)=true then Oper.wp Tryz.prog o a w K Q else E:=by
 have hw:Region.wanted o (yielded ops a.tmps)=true:=by simp [Region.wanted,hgd]
 rw [if_pos hw]
 unfold Oper.wp
 simp [Act.eval] at hx
 simp [execOp,ho,resolve,invoke,hcf,hx,go_sem]
 refine Calls.mono (R:=fun e w'=>∃ r,e = .returned r∧R r w') k ?_
 rintro e w' ⟨r,he,hr⟩
 subst he
 exact h r w' hr
section runs
variable {ev:Operand→Value} {w:World}
theorem run_mv{o:Oper}{s:Operand}(ho:o.op = .move s):(execOp ev o).run Tryz.prog w = .ok (.value (ev s)) w:=by
 simp [execOp,ho]
theorem run_ldL{o:Oper}{g:Nat}{v:Value}(ho:o.op = .load 27 (.tmp 3))(h1:ev (.tmp 3) = .pointer (some ⟨g,0,none⟩))(hb:Blk w g #[v] 27):(execOp ev o).run Tryz.prog w = .ok (.value v) w:=by
 have a0:=hb.cell 0
 simp at a0
 simp [execOp,go_sem, *]
theorem run_bdL{o:Oper}{v:Value}{kd nn:Int}(ho:o.op = .build 44 #[(0, .tmp 9),(1, .tmp 10),(2, .tmp 11)])(h1:ev (.tmp 9)=v)(hv:∃ a n c,v = .slice a n c)(h2:ev (.tmp 10) = .int .i64 kd)(h3:ev (.tmp 11) = .int .u64 nn):(execOp ev o).run Tryz.prog w = .ok (.value (.agg #[v, .int .i64 kd, .int .u64 nn])) w:=by
 obtain ⟨a,n,c,rfl⟩:=hv
 simp [execOp,go_sem, *]
theorem run_bsL{o:Oper}{v:Value}{kd nn:Int}(ho:o.op = .buildSlice 27 1 #[(0, .tmp 12)])(h1:ev (.tmp 12) = .agg #[v, .int .i64 kd, .int .u64 nn])(hv:∃ a n c,v = .slice a n c):(execOp ev o).run Tryz.prog w = .ok (.value (.slice (some ⟨w.heap.size,0,none⟩) 1 1)) (w.alloc (.cells #[v, .int .i64 kd, .int .u64 nn] 44)):=by
 obtain ⟨a,n,c,rfl⟩:=hv
 simp [execOp,go_sem, *]
theorem run_stL{o:Oper}{g:Nat}{x v:Value}(ho:o.op = .store 27 (.tmp 3) (.tmp 14))(h1:ev (.tmp 3) = .pointer (some ⟨g,0,none⟩))(h2:ev (.tmp 14)=v)(hv:∃ a n c,v = .slice a n c)(hb:Blk w g #[x] 27):(execOp ev o).run Tryz.prog w = .ok .skip (w.setCell ⟨g,0,none⟩ v):=by
 obtain ⟨a,n,c,rfl⟩:=hv
 have a0:=hb.cell 0
 have z0:=hb.fz 0
 simp at a0
 simp [execOp,go_sem, *]
end runs
theorem OwnsZ.sl{w:World}{base:Nat}{v:Value}{L:List (Value × Lz)}(h:OwnsZ w base v L):∃ a n c,v = .slice a n c:=by obtain ⟨a,n,c,h,_⟩:=h.form;exact ⟨a,n,c,h⟩
set_option maxRecDepth 100000 in
theorem lose_region{W0:World}{u0:Nat→Value}{gl B:Nat}{pa:Option Addr}{np cp:Nat}{ps:List Int}{kd nn:Int}{v0:Value}{L0:List (Value × Lz)}(c:LC W0 u0 gl B pa np cp ps kd nn v0 L0)(d:List Deferred)(Q:Exit→Act→World→Prop)
  (hQ:∀ u w v x,KV [] gl W0 w→(∀ k,k<gl→w.heap[k]? = W0.heap[k]?)→Blk w gl #[v] 27→OwnsZ w B v (L0++[(x,⟨ps,kd,nn⟩)])→Q .normal (frm 15 u d) w) :
  wpAny Tryz.prog .any loseOps Q 9 (Array.replicate 9 false) (frm 15 u0 d) W0:=by
 have hL:∀ k,(Array.replicate 9 false).getD k false=false:=fun k=>by
  rcases Nat.lt_or_ge k 9 with hk | hk
  ·simp [hk]
  ·simp [Nat.not_lt.2 hk]
 refine wpAny_inv (LX W0 u0 gl B pa np cp ps kd nn v0 L0 d) ?_ ?_ 9 _ _ _ (by decide) ⟨u0,rfl,by simp,?_⟩
 case refine_3 =>
  have hF:∀ k,(Array.replicate 9 false).getD k false=true→False:=fun k e=>by rw [hL k] at e;cases e
  exact ⟨fun _ _=>rfl,KV.refl _ _ _,fun _ _=>rfl,fun _=>c.box,fun _=>c.own,fun _=>Below.refl _ _,fun e=>(hF _ e).elim,fun e=>(hF _ e).elim,fun e=>(hF _ e).elim,fun e=>(hF _ e).elim,fun e=>(hF _ e).elim,fun e=>(hF _ e).elim,fun e=>(hF _ e).elim,fun e=>(hF _ e).elim,fun e=>(hF _ e).elim,fun e=>(hF _ e).elim,fun e=>(hF _ e).elim,fun e=>(hF _ e).elim,fun e=>(hF _ e).elim⟩
 ·intro listed a w i hI hi
  obtain ⟨u,rfl,hsz,h⟩:=hI
  have hlt:i<9:=ready_lt hi
  obtain (rfl | rfl | rfl | rfl | rfl | rfl | rfl | rfl | rfl):i=0∨i=1∨i=2∨i=3∨i=4∨i=5∨i=6∨i=7∨i=8:=by omega
  ·have h8 : listed.getD 8 false = false := by
    cases e:listed.getD 8 false with
    | false=>rfl
    | true=>exact absurd (h.d7 (h.d8 e)).2.2 (by rw [ready_not hi];decide)
   exact wpOp_run rfl rfl (run_ldL rfl ((frm_eval (by decide)).trans ((h.old 3 (by omega)).trans c.e3)) (h.box h8)) (lx_put hsz (by decide) (li0 c h))
  ·refine wpOp_run rfl rfl (run_mv rfl) ?_
   rw [frm_eval (by decide)]
   exact lx_put hsz (by decide) (li1 c h)
  ·have hn := ready_needs (l := [1]) hi (by kernel_rfl)
   have h2:=ready_not hi
   have hb:=h.bel (l27 c h h2).1
   refine wpOp_of rfl (step_callE (R:=fun r w'=>OwnsI w' w.heap.size r ps∧Below w.heap.size w w') rfl 8 42 rfl ((frm_eval (by decide)).trans (h.f1 (hn 1 (by simp)))) (fun _ _=>rfl) ?_ ?_)
   ·refine (iclone_any pa np cp ps w (c.pth.kept hb)).mono ?_
    rintro e w' ⟨v,he,ho,hB⟩
    exact ⟨v,he,ho.out,hB.out⟩
   ·rintro r w' ⟨ho, hB⟩
    exact lx_put hsz (by decide) (li2 c h h2 ho hB)
  ·refine wpOp_run rfl rfl (run_mv rfl) ?_
   rw [frm_eval (by decide)]
   exact lx_put hsz (by decide) (li3 c h)
  ·refine wpOp_run rfl rfl (run_mv rfl) ?_
   rw [frm_eval (by decide)]
   exact lx_put hsz (by decide) (li4 c h)
  ·have hn := ready_needs (l := [2, 3, 4]) hi (by kernel_rfl)
   have h7:listed.getD 7 false=false:=by
    cases e:listed.getD 7 false with
    | false=>rfl
    | true=>exact absurd (h.d6 (h.d7 e).1) (by rw [ready_not hi];decide)
   exact wpOp_run rfl rfl (run_bdL rfl (frm_eval (by decide)) (h.f2 (hn 2 (by simp)) h7).form4 ((frm_eval (by decide)).trans (h.f3 (hn 3 (by simp)))) ((frm_eval (by decide)).trans (h.f4 (hn 4 (by simp))))) (lx_put hsz (by decide) (li5 c h (hn 2 (by simp)) (hn 3 (by simp)) (hn 4 (by simp))))
  ·have hn := ready_needs (l := [5]) hi (by kernel_rfl)
   have h6:=ready_not hi
   have h7:=l67 c h h6
   have h5:=hn 5 (by simp)
   exact wpOp_run rfl rfl (run_bsL rfl ((frm_eval (by decide)).trans (h.f5 h5)) (h.f2 (h.d5 h5) h7).form4) (lx_put hsz (by decide) (li6 c h h5 h6))
  ·have hn := ready_needs (l := [0, 6, 2]) hi (by kernel_rfl)
   have h7:=ready_not hi
   have h0:=hn 0 (by simp)
   have h2:=hn 2 (by simp)
   have h6:=hn 6 (by simp)
   obtain ⟨gb,e13,hb⟩:=h.f6 h6 h7
   refine wpOp_of rfl (step_append_loss rfl (.tmp 7) (.tmp 13) rfl B v0 L0 (u 9,⟨ps,kd,nn⟩) ((frm_eval (by decide)).trans (h.f0 h0)) (h.own h7) (h.f2 h2 h7) gb ((frm_eval (by decide)).trans e13) (fun j hj=>(hb.cell j).trans (by rcases (show j=0∨j=1∨j=2 by omega) with rfl | rfl | rfl <;> rfl)) c.few (Nat.le_trans c.bas (h.bel h7).size) ?_)
   intro v' w' ho hg
   exact lx_put hsz (by decide) (li7 c h h0 h2 h6 h7 ho hg)
  ·have hn := ready_needs (l := [7, 7, 0, 1, 2, 3, 4, 5, 6, 7]) hi (by kernel_rfl)
   have h8:=ready_not hi
   have h7:=hn 7 (by simp)
   exact wpOp_skip rfl rfl (run_stL rfl ((frm_eval (by decide)).trans ((h.old 3 (by omega)).trans c.e3)) (frm_eval (by decide)) (h.f7 h7).sl (h.box h8)) (lx_none hsz (by decide) (li8 c h h7 h8))
 ·intro listed a w hI hr
  obtain ⟨u,rfl,hsz,h⟩:=hI
  have hd:=ready_done hr hsz (by decide)
  exact hQ u w (u 14) (u 9) h.kv h.lw (h.f8 (hd 8 (by decide))) (h.f7 (hd 7 (by decide)))
end Go.Proofs.YtejlaiofpekchaaGreatDoor
namespace Go.Proofs.YtejlaiofpekchaaGreatDoor
open Go.RowKit
set_option linter.unusedVariables false
set_option maxHeartbeats 1000000 in
set_option maxRecDepth 100000 in
theorem lose_any{gl B:Nat}{ls:List Lz}(pa:Option Addr)(np cp:Nat)(ps:List Int)(kd nn:Int)(w:World)(hS:LS w gl B ls)(hp:Pth w pa np cp ps)(hB:B≤w.heap.size)(hl:ls.length≤1000000) :
  Calls Tryz.prog 34 #[.slice pa np cp, .int .i64 kd, .int .u64 nn, .pointer (some ⟨gl,0,none⟩)] w fun e w'=>e = .returned (.tuple #[])∧Hid (LS w' gl B (ls++[⟨ps,kd,nn⟩]))∧Hid (KV [] gl w w'∧Below gl w w'):=by
 obtain ⟨hlo,v0,L0,hbx,hO,rfl⟩:=hS
 have hC:Hid (∀ u0,u0 0 = .slice pa np cp→u0 1 = .int .i64 kd→u0 2 = .int .u64 nn→u0 3 = .pointer (some ⟨gl,0,none⟩)→LC w.drew u0 gl B pa np cp ps kd nn v0 L0):=fun u0 e0 e1 e2 e3=>⟨e0,e1,e2,e3,hp.kept (Below.refl _ _).drew,hbx,hO,hlo,by simpa using hl,hB⟩
 have hlo':Hid (gl<B):=hlo
 clear hbx hO hp hB hl hlo
 go_enter Tryz.func34,Tryz.ntmps34
 go_wp2_with fail
 refine wp_region_any (by kernel_rfl) ?_
 rw [frm_of (Act.mk _ _)]
 refine lose_region (gl:=gl) (B:=B) (pa:=pa) (np:=np) (cp:=cp) (ps:=ps) (kd:=kd) (nn:=nn) (v0:=v0) (L0:=L0) ?gc [] _ ?gq
 case gc=>exact hC.out _ rfl rfl rfl rfl
 case gq =>
  intro u w2 v x hk hw hb ho
  refine bodyPost_end (results_none rfl _ _ _) rfl ⟨rfl,⟨hlo'.out,v,_,hb,ho,by simp⟩,?_⟩
  exact ⟨(KV.of (f:=[]) (gl:=gl) (Below.refl _ w).drew).trans hk (fun i hi=>by cases hi),⟨hk.os,hk.tape,hk.output,hk.size,hw⟩⟩
end Go.Proofs.YtejlaiofpekchaaGreatDoor
namespace Go.Proofs.YtejlaiofpekchaaGreatDoor
open Go.RowKit
set_option linter.unusedVariables false
theorem owns_room(w:World)(base cap:Nat)(Z:Array Value)(hb:base≤w.heap.size)(hZ:Z.size=cap)(hc:cap≤maxLen):OwnsI (w.alloc (.cells Z 3)) base (.slice (some ⟨w.heap.size,0,none⟩) 0 cap) []:=by
 refine ⟨by simp, .inr ⟨w.heap.size,cap,Z,rfl,hb,heap_alloc_new w _,by simp,hc,by simp [hZ],by simp⟩⟩
set_option maxHeartbeats 1000000 in
set_option maxRecDepth 100000 in
theorem sgrow_any(n:Nat)(w:World)(hn:n≤2000000):Calls Tryz.prog 110 #[.slice none 0 0, .int .i64 n] w fun e w'=>∃ v,e = .returned v∧Hid (OwnsI w' w.heap.size v [])∧Hid (Below w.heap.size w w'):=by
 by_cases h0:n=0
 ·subst h0
  go_enter Tryz.func110,Tryz.ntmps110
  go_wp2
  go_ret
  exact ⟨_,rfl,ownsI_nil _ _,Below.refl _ _⟩
 ·obtain ⟨i0, hi, hz0, hz1, hz2⟩ := info_parts info3
  have happ:=Lib.run_append_nil_zeros (P:=Tryz.prog) w 42 3 42 3 i0 (.int .i64 0) .i64 .i64 Tryz.underlying42 Tryz.underlying3 hi hz0 n (by omega) (by omega) (by omega) (by rw [hz2];omega)
  generalize hcap:grownCap w n 0 3=cap2 at happ
  have hcapge:n≤cap2:=by rw [←hcap];exact grownCap_ge w _ 0 3
  have hcaple:cap2≤maxLen:=by rw [←hcap];exact grownCap_le_maxLen w _ 0 3 (by unfold maxLen;omega)
  generalize hZ:(Builtin.zeroCells (Value.int .i64 0).cells n++Builtin.zeroCells (Value.int .i64 0).cells (cap2 - n))=Z at happ
  have hZs:Z.size=cap2:=by rw [←hZ];simp [size_zeroCells,Value.cells];omega
  have hO:Hid (OwnsI (w.drew.alloc (.cells Z 3)) w.heap.size (.slice (some ⟨w.heap.size,0,none⟩) 0 cap2) []):=owns_room w.drew w.heap.size cap2 Z (Nat.le_refl _) hZs hcaple
  have hB:Hid (Below w.heap.size w (w.drew.alloc (.cells Z 3))):=(Below.refl _ w).drew.trans (alloc_below w.drew _)
  have g1:(0:Int)<(n:Int):=by omega
  have hm:cap2≤9223372036854775807:=by unfold maxLen at hcaple;omega
  clear hcap hZ hZs hcaple hi hz0 hz1 hz2
  go_enter Tryz.func110,Tryz.ntmps110
  go_wp2_with (at_builtin;refine Lib.wpList_append_run _ rfl _ _ _ _ rfl _ _ rfl rfl _ _ happ ?_)
  go_ret
  exact ⟨_,rfl,hO,hB⟩
end Go.Proofs.YtejlaiofpekchaaGreatDoor
namespace Go.Proofs.YtejlaiofpekchaaGreatDoor
open Go.RowKit
set_option linter.unusedVariables false
def sm2(a b i:Nat):Nat:=if i=0 then 0 else if i=1 then a else a+b
def ap2(p q:List Int)(i:Nat):List Int:=if i=0 then [] else if i=1 then p else p++q
set_option maxHeartbeats 2000000 in
set_option maxRecDepth 100000 in
theorem sconcat_any{g:Nat}{pa qa:Option Addr}{np cp nq cq:Nat}{ps qs:List Int}{w:World}(hb:Blk w g #[.slice pa np cp, .slice qa nq cq] 42)(hp:Pth w pa np cp ps)(hq:Pth w qa nq cq qs) :
  Calls Tryz.prog 70 #[.slice (some ⟨g,0,none⟩) 2 2] w fun e w'=>∃ v,e = .returned v∧Hid (OwnsI w' w.heap.size v (ps++qs))∧Hid (Below w.heap.size w w'):=by
 have c0:=hb.cell 0
 have c1:=hb.cell 1
 simp at c0 c1
 have hP:Hid (Pth w pa np cp ps):=hp
 have hQ:Hid (Pth w qa nq cq qs):=hq
 have hf1:=hp.few
 have hf2:=hq.few
 have hc1:=hp.cap
 have hc2:=hq.cap
 have hg:Hid (Blk w g #[.slice pa np cp, .slice qa nq cq] 42):=hb
 clear hp hq hb
 go_enter Tryz.func70,Tryz.ntmps70
 go_wp2
 go_loopw [3,5,11] (fun s3 _ s11 wr=>∃ i:Nat,i≤2∧s3 = .int .i64 (sm2 np nq i:Nat)∧s11 = .int .i64 i∧wr=w) (fun _ _ i _=>2 - (intOf i).toNat)
 case atStart=>exact ⟨0,by omega,rfl,rfl,rfl⟩
 case round =>
  obtain ⟨i,hi,rfl,rfl,hw⟩:=hrel
  obtain rfl:=hw.symm
  rcases (show i=0∨i=1∨i=2 by omega) with rfl | rfl | rfl
  ·have e0 : sm2 np nq 0 = 0 := rfl
   rw [e0]
   have d1:¬ (np:Int)<0:=by omega
   go_wp2
   go_roundw
   case rel=>exact ⟨1,by omega,by simp [sm2],by first | rfl | trivial,by first | rfl | trivial⟩
   case measure=>simp [intOf]
  ·have e1 : sm2 np nq 1 = np := rfl
   rw [e1]
   have d1:¬ (np:Int)+(nq:Int)<0:=by omega
   have d2:IntKind.i64.wrap ((np:Int)+(nq:Int))=(np:Int)+(nq:Int):=by rw [IntKind.wrap_i64];omega
   go_wp2
   go_roundw
   case rel=>exact ⟨2,by omega,by simp [sm2],by first | rfl | trivial,by first | rfl | trivial⟩
   case measure=>simp [intOf]
  ·have e2 : sm2 np nq 2 = np + nq := rfl
   rw [e2]
   have kG:=sgrow_any (np+nq) w (by omega)
   obtain ⟨T,hT⟩:∃ T,np+nq=T:=⟨_,rfl⟩
   rw [hT] at kG ⊢
   clear hT e2
   go_wp2_with (go_at_call 110;refine kG.mono ?_;rintro e w2 ⟨v,rfl,ho,hb2⟩;clear kG)
   go_loopw [6,8,27] (fun s6 _ s27 wx=>∃ (i:Nat) (v:Value),i≤2∧s6=v∧s27 = .int .i64 i∧Hid (OwnsI wx w.heap.size v (ap2 ps qs i))∧Hid (Below w.heap.size w wx)) (fun _ _ i _=>2 - (intOf i).toNat)
   case atStart=>exact ⟨0,_,by omega,rfl,rfl,ho,hb2⟩
   case round =>
    obtain ⟨i,v5,hi5,rfl,rfl,ho5,hb5⟩:=hrel
    have hB5:=hg.out.kept hb5.out hg.out.lt
    have k0:=hB5.cell 0
    have k1:=hB5.cell 1
    simp at k0 k1
    have p5:=hP.out.kept hb5.out
    have q5:=hQ.out.kept hb5.out
    clear hB5
    rcases (show i=0∨i=1∨i=2 by omega) with rfl | rfl | rfl
    ·have hz : Hid (OwnsI wr w.heap.size u6 []) := ho5
     go_wp2_with (at_builtin;refine wpList_append_ints rfl (.tmp 31) (.tmp 32) rfl w.heap.size u6 [] ps rfl hz.out pa np cp rfl p5.len p5.nil p5.ints (by have:=p5.len;simp;omega) hb5.out.size ?_;intro v6 w6 ho6 hg6;have hB6:Hid (Below w.heap.size w w6):=grownI_below hb5.out hz.out hg6 hb5.out.size;have hv6:Hid (OwnsI w6 w.heap.size v6 ps):=ho6;clear ho6 hg6 p5 q5)
     go_roundw
     case rel=>exact ⟨1,v6,by omega,rfl,by first | rfl | trivial,hv6,hB6⟩
     case measure=>simp [intOf]
    ·have hz : Hid (OwnsI wr w.heap.size u6 ps) := ho5
     go_wp2_with (at_builtin;refine wpList_append_ints rfl (.tmp 31) (.tmp 32) rfl w.heap.size u6 ps qs rfl hz.out qa nq cq rfl q5.len q5.nil q5.ints (by have:=p5.len;have:=q5.len;omega) hb5.out.size ?_;intro v6 w6 ho6 hg6;have hB6:Hid (Below w.heap.size w w6):=grownI_below hb5.out hz.out hg6 hb5.out.size;have hv6:Hid (OwnsI w6 w.heap.size v6 (ps++qs)):=ho6;clear ho6 hg6 p5 q5)
     go_roundw
     case rel=>exact ⟨2,v6,by omega,rfl,by first | rfl | trivial,hv6,hB6⟩
     case measure=>simp [intOf]
    ·go_wp2
     go_ret
     exact ⟨_,rfl,ho5,hb5⟩
end Go.Proofs.YtejlaiofpekchaaGreatDoor
namespace Go.Proofs.YtejlaiofpekchaaGreatDoor
open Go.RowKit
set_option linter.unusedVariables false
theorem OwnsI.pth{w:World}{base:Nat}{v:Value}{l:List Int}(h:OwnsI w base v l)(hl:l.length≤1000000):∃ a n c,v = .slice a n c∧Pth w a n c l∧(∀ x,a=some x→base≤x.block):=by
 have hty:∀ a n c,v = .slice a n c→∀ x,a=some x→0<l.length→∃ cur m,w.heap[x.block]? = some (.cells cur 3 m):=fun a n c hv x hx h0=>by
  rcases h.2 with ⟨e,hn⟩ | ⟨g,cap,cur,e,_,hg,_⟩
  ·omega
  ·rw [hv] at e
   simp at e
   rw [hx] at e
   have e1:=e.1
   cases e1
   exact ⟨cur,_,hg⟩
 obtain ⟨a,cap,hv,hn,⟨hc,hm⟩,hb,hx⟩:=h.shape
 exact ⟨a,l.length,cap,hv,⟨rfl,hb,hc,by unfold maxLen at hm;omega,hn,hl,fun h0 x e=>hty a l.length cap hv x e h0⟩,fun x e=>(hx x e).1⟩
set_option maxHeartbeats 1000000 in
set_option maxRecDepth 100000 in
theorem below_any{pa qa:Option Addr}{np cp nq cq:Nat}{ps qs:List Int}{w:World}(hp:Pth w pa np cp ps)(hq:Pth w qa nq cq qs)(hl:np+nq≤1000000) :
  Calls Tryz.prog 39 #[.slice pa np cp, .slice qa nq cq] w fun e w'=>∃ a n c,e = .returned (.slice a n c)∧Hid (Pth w' a n c (ps++qs))∧Hid (Below w.heap.size w w'):=by
 have hA:=alloc_below w (.cells #[.slice pa np cp, .slice qa nq cq] 42)
 have kC:=sconcat_any (blk_new w #[.slice pa np cp, .slice qa nq cq] 42) (hp.kept hA) (hq.kept hA)
 have hln:Hid ((ps++qs).length≤1000000):=by show _≤_;rw [List.length_append,hp.len,hq.len];exact hl
 have hA':Hid (Below w.heap.size w (w.alloc (.cells #[.slice pa np cp, .slice qa nq cq] 42))):=hA
 clear hA hp hq hl
 go_enter Tryz.func39,Tryz.ntmps39
 go_wp2_with (go_at_call 70;refine kC.mono ?_;rintro e w2 ⟨v,rfl,ho,hb⟩;clear kC;obtain ⟨a,n,c,rfl,hP,_⟩:=ho.out.pth hln.out)
 go_ret
 exact ⟨a,n,c,rfl,hP,hA'.out.trans (hb.out.mono hA'.out.size)⟩
end Go.Proofs.YtejlaiofpekchaaGreatDoor
namespace Go.Proofs.YtejlaiofpekchaaGreatDoor
set_option linter.unusedVariables false
theorem none_size{s:ByteArray}(h:s.size=0):s=⟨#[]⟩:=by
  cases s with
  | mk d =>
    have:d=#[]:=Array.eq_empty_of_size_eq_zero h
    rw [this]
namespace Tr
def bare (t : Tr) : Tr :=
  { kind := t.kind
    num:=if t.kind=1∨t.kind=4∨t.kind=9∨t.kind=10 then t.num else 0
    neg:=if t.kind=2∨t.kind=3 then t.neg else false
    dig:=if t.kind=2∨t.kind=3 then t.dig else ⟨#[]⟩
    exp:=if t.kind=3 then t.exp else 0
    txt:=if t.kind=5 then t.txt else ⟨#[]⟩
    bytes:=if t.kind=6 then t.bytes else []
    keys:=if t.kind=8 then t.keys else []
    kids:=if t.kind=7∨t.kind=8∨t.kind=9 then t.kids else [] }
def clean(t:Tr):Bool :=
  (decide (t.kind=1∨t.kind=4∨t.kind=9∨t.kind=10) || decide (t.num=0)) &&
  (decide (t.kind=2∨t.kind=3) || (!t.neg && decide (t.dig.size=0))) &&
  (decide (t.kind=3) || decide (t.exp=0)) &&
  (decide (t.kind=5) || decide (t.txt.size=0)) &&
  (decide (t.kind=6) || decide (t.bytes.length=0)) &&
  (decide (t.kind=8) || decide (t.keys.length=0)) &&
  (decide (t.kind=7∨t.kind=8∨t.kind=9) || decide (t.kids.length=0))
theorem mk_eq{t u:Tr}(h0:t.kind=u.kind)(h1:t.num=u.num)(h2:t.neg=u.neg)(h3:t.dig=u.dig)(h4:t.exp=u.exp)(h5:t.txt=u.txt)(h6:t.bytes=u.bytes)(h7:t.keys=u.keys)(h8:t.kids=u.kids):t=u:=by
  cases t;cases u
  simp only at *
  subst h0 h1 h2 h3 h4 h5 h6 h7 h8
  rfl
theorem ite_self'{α : Type}{p:Prop}[Decidable p]{a z:α}:(if p then a else z)=a ↔ (p∨a=z):=by
  by_cases h:p
  · simp [h]
  · simp only [h, false_or]
    exact ⟨fun e=>e.symm,fun e=>e.symm⟩
theorem clean_iff(t:Tr):t.clean=true ↔ t.bare=t:=by
  have e3:t.dig.size=0 ↔ t.dig=⟨#[]⟩:=⟨none_size,fun h=>by rw [h];rfl⟩
  have e5:t.txt.size=0 ↔ t.txt=⟨#[]⟩:=⟨none_size,fun h=>by rw [h];rfl⟩
  unfold clean
  simp only [Bool.and_eq_true,Bool.or_eq_true,decide_eq_true_eq,Bool.not_eq_true',List.length_eq_zero_iff,e3,e5]
  constructor
  · rintro ⟨⟨⟨⟨⟨⟨a, b⟩, c⟩, d⟩, e⟩, f⟩, g⟩
    refine mk_eq rfl (ite_self'.2 a) (ite_self'.2 ?_) (ite_self'.2 ?_) (ite_self'.2 c) (ite_self'.2 d) (ite_self'.2 e) (ite_self'.2 f) (ite_self'.2 g)
    · rcases b with b | b
      · exact .inl b
      · exact .inr b.1
    · rcases b with b | b
      · exact .inl b
      · exact .inr b.2
  · intro h
    have p1:=ite_self'.1 (congrArg num h)
    have p2:=ite_self'.1 (congrArg neg h)
    have p3:=ite_self'.1 (congrArg dig h)
    have p4:=ite_self'.1 (congrArg exp h)
    have p5:=ite_self'.1 (congrArg txt h)
    have p6:=ite_self'.1 (congrArg bytes h)
    have p7:=ite_self'.1 (congrArg keys h)
    have p8:=ite_self'.1 (congrArg kids h)
    refine ⟨⟨⟨⟨⟨⟨p1,?_⟩,p4⟩,p5⟩,p6⟩,p7⟩,p8⟩
    rcases p2 with p2 | p2
    · exact .inl p2
    · rcases p3 with p3 | p3
      · exact .inl p3
      · exact .inr ⟨p2,p3⟩
def smp(n:Int):Bool:=decide (n<20) || decide (n=23) || (decide (32≤n) && decide (n<256))
def odd(t:Tr):Bool :=
  decide (t.kind<0) || decide (10<t.kind) || !t.clean || (decide (t.kind=1) && decide (1<t.num)) || (decide (t.kind=8) && decide (t.keys.length≠t.kids.length)) || (decide (t.kind=9) && decide (t.kids.length≠1)) || (decide (t.kind=10) && !smp t.num)
def alo(gt ri:ByteArray→Bool)(rd:Bool→ByteArray→Int→Bool)(t:Tr):Int :=
  if (t.kind=5∧4096<t.txt.size)∨(t.kind=6∧4096<t.bytes.length) then 8
  else if t.kind=5∧gt t.txt=false then 6
  else if t.kind=2∧(ri t.dig=false∨(t.neg=true∧t.dig=⟨#[48]⟩)) then 11
  else if t.kind=3∧rd t.neg t.dig t.exp=false then 11
  else if t.odd=true then 12 else 0
theorem alo_odd {gt ri : ByteArray → Bool} {rd : Bool → ByteArray → Int → Bool} {t : Tr} (h : t.alo gt ri rd = 0) : t.odd = false := by
  unfold alo at h
  split at h
  · cases h
  · split at h
    · cases h
    · split at h
      · cases h
      · split at h
        · cases h
        · split at h
          · cases h
          · rename_i h5;simpa using h5
theorem alo_shaped(gt ri:ByteArray→Bool)(rd:Bool→ByteArray→Int→Bool):Shaped (alo gt ri rd):=by
  intro t h
  have ho:=alo_odd h
  unfold odd at ho
  simp only [Bool.or_eq_false_iff,Bool.and_eq_false_imp,decide_eq_true_eq,decide_eq_false_iff_not,Bool.not_eq_false',Classical.not_not] at ho
  obtain ⟨⟨⟨⟨⟨⟨_,_⟩,hc⟩,_⟩,hm⟩,_⟩,_⟩:=ho
  refine ⟨fun h8=>by simpa using hm h8,fun h8=>?_⟩
  have:=congrArg keys ((clean_iff t).1 hc)
  simp only [bare,if_neg h8] at this
  exact this.symm
end Tr
end Go.Proofs.YtejlaiofpekchaaGreatDoor
namespace Go.Proofs.YtejlaiofpekchaaGreatDoor
open Go.RowKit
set_option linter.unusedVariables false
theorem beq_of{s t:ByteArray}(v:Bool)(h:v=true ↔ s=t):(s.toList==t.toList)=v:=by
 rw [Bool.eq_iff_iff,h,beq_iff_eq,ByteArray.toList_eq,ByteArray.toList_eq]
 constructor
 ·intro e
  cases s;cases t
  simp only at e
  rw [Array.toList_inj.1 e]
 ·intro e;rw [e]
theorem not_true{v:Bool}{p:Prop}(h:v=true ↔ p)(hp:¬ p):v=false:=by
 cases v with
 | false=>rfl
 | true=>exact absurd (h.1 rfl) hp
set_option maxHeartbeats 8000000 in
set_option maxRecDepth 100000 in
theorem same_step {D : Nat} (ih : SameAt D) (t u : Tr) (a b : Nb) (w : World) (v : Bool) (hA : Nd (D + 1) w a t) (hB : Nd (D + 1) w b u) (hv : v = true ↔ t = u) :
  Calls Tryz.prog 78 #[.agg a.arr, .agg b.arr] w fun e w'=>e = .returned (.bool v)∧Below w.heap.size w w':=by
 have e36:∀ args w,(callFunc 78 args).run Tryz.prog w = .ok (.enter 78 args) w:=enters_of Tryz.func78 (by kernel_rfl) rfl
 have hal:=alloc_below w (.cells a.arr 26)
 have hal2:=alloc_below (w.alloc (.cells a.arr 26)) (.cells b.arr 26)
 have hb2:Hid (Below w.heap.size w ((w.alloc (.cells a.arr 26)).alloc (.cells b.arr 26))):=hal.trans (hal2.mono hal.size)
 have hs2:Hid (w.heap.size≤((w.alloc (.cells a.arr 26)).alloc (.cells b.arr 26)).heap.size):=Nat.le_trans hal.size hal2.size
 have boxA:=(nbox_new w a).kept hal2 (by simp)
 have boxB:=nbox_new (w.alloc (.cells a.arr 26)) b
 have s1:(w.alloc (.cells a.arr 26)).heap.size=w.heap.size+1:=by simp
 rw [s1] at boxB
 obtain ⟨a0,a1,a2,a3,a4,a5,a6,a7,a8⟩:=boxA.fields
 obtain ⟨b0,b1,b2,b3,b4,b5,b6,b7,b8⟩:=boxB.fields
 obtain ⟨⟨x0,x1,x2,x3,x4,x5⟩,_,⟨xl,xr,xb⟩,xk,xi⟩:=hA
 obtain ⟨⟨y0,y1,y2,y3,y4,y5⟩,_,⟨yl,yr,yb⟩,yk,yi⟩:=hB
 have kq:=fun v' h=>beq_any a.ab b.ab a.lb b.lb a.cb b.cb t.bytes u.bytes ((w.alloc (.cells a.arr 26)).alloc (.cells b.arr 26)) xl yl ((xb.kept hal).kept hal2) ((yb.kept hal).kept hal2) v' h
 have kK:Hid (∀ w',Below w.heap.size w w'→∀ v':Bool,(v'=true ↔ t.keys=u.keys)→Calls Tryz.prog 118 #[.slice a.ak a.lk a.ck, .slice b.ak b.lk b.ck, .func (.func 78) #[] #[]] w' fun e w''=>e = .returned (.bool v')∧Below w'.heap.size w' w''):=fun w' hb v' h=>eqf_any ih _ _ _ _ _ _ _ _ w' (xk.kept hb fun _ _ _ q=>q.kept hb) (yk.kept hb fun _ _ _ q=>q.kept hb) v' h
 have kI:Hid (∀ w',Below w.heap.size w w'→∀ v':Bool,(v'=true ↔ t.kids=u.kids)→Calls Tryz.prog 118 #[.slice a.ai a.li a.ci, .slice b.ai b.li b.ci, .func (.func 78) #[] #[]] w' fun e w''=>e = .returned (.bool v')∧Below w'.heap.size w' w''):=fun w' hb v' h=>eqf_any ih _ _ _ _ _ _ _ _ w' (xi.kept hb fun _ _ _ q=>q.kept hb) (yi.kept hb fun _ _ _ q=>q.kept hb) v' h
 have hKa:Hid (NBox ((w.alloc (.cells a.arr 26)).alloc (.cells b.arr 26)) w.heap.size a):=boxA
 have hKb:Hid (NBox ((w.alloc (.cells a.arr 26)).alloc (.cells b.arr 26)) (w.heap.size+1) b):=boxB
 have hsz:Hid (w.heap.size+1<((w.alloc (.cells a.arr 26)).alloc (.cells b.arr 26)).heap.size):=by show _<_;simp
 have hE:Hid (t=u ↔ a.kind=b.kind∧a.num=b.num∧a.neg=b.neg∧a.dig=b.dig∧a.exp=b.exp∧a.txt=b.txt∧t.bytes=u.bytes∧t.keys=u.keys∧t.kids=u.kids):=by
  show _ ↔ _
  rw [x0,x1,x2,x3,x4,x5,y0,y1,y2,y3,y4,y5]
  exact ⟨fun h=>by subst h;exact ⟨rfl,rfl,rfl,rfl,rfl,rfl,rfl,rfl,rfl⟩,fun ⟨h0,h1,h2,h3,h4,h5,h6,h7,h8⟩=>Tr.mk_eq h0 h1 h2 h3 h4 h5 h6 h7 h8⟩
 have hV:Hid (v=true ↔ t=u):=hv
 clear x0 x1 x2 x3 x4 x5 y0 y1 y2 y3 y4 y5 xl yl xb yb xr yr xk xi yk yi hal hal2 boxA boxB s1 hv ih
 by_cases hN:a.kind=b.kind
 ·have q0 : (a.kind == b.kind) = true := by rw [hN]; exact beq_self_eq_true _
  have e0:Hid (a.kind=b.kind):=hN
  clear hN
  by_cases hN:a.num=b.num
  ·have q1 : (a.num == b.num) = true := by rw [hN]; exact beq_self_eq_true _
   have e1:Hid (a.num=b.num):=hN
   clear hN
   by_cases hN:a.neg=b.neg
   ·have q2 : (a.neg == b.neg) = true := by rw [hN]; exact beq_self_eq_true _
    have e2:Hid (a.neg=b.neg):=hN
    clear hN
    by_cases hN:a.dig=b.dig
    ·have q3 := beq_of (s := a.dig) (t := b.dig) true (by simp [hN])
     have e3:Hid (a.dig=b.dig):=hN
     clear hN
     by_cases hN:a.exp=b.exp
     ·have q4 : (a.exp == b.exp) = true := by rw [hN]; exact beq_self_eq_true _
      have e4:Hid (a.exp=b.exp):=hN
      clear hN
      by_cases hN:a.txt=b.txt
      ·have q5 := beq_of (s := a.txt) (t := b.txt) true (by simp [hN])
       have e5:Hid (a.txt=b.txt):=hN
       clear hN
       by_cases hN:t.bytes=u.bytes
       ·have k1 := kq true (by simp [hN])
        have e6:Hid (t.bytes=u.bytes):=hN
        clear hN kq
        by_cases hN:t.keys=u.keys
        ·have k2 := kK.out _ hb2.out true (by simp [hN])
         have e7:Hid (t.keys=u.keys):=hN
         clear hN kK
         by_cases hN:t.kids=u.kids
         ·have k4 := fun w' hb => kI.out w' hb true (by simp [hN])
          have hvt:v=true:=hV.out.2 (hE.out.2 ⟨e0.out,e1.out,e2.out,e3.out,e4.out,e5.out,e6.out,e7.out,hN⟩)
          subst hvt
          clear hN kI
          go_enter Tryz.func78,Tryz.ntmps78
          go_wp2_with (first
           | (go_at_call 117;refine k1.mono ?_;rintro e w1 ⟨rfl,hw⟩;subst hw)
           | (go_at_call 118;refine k2.mono ?_;rintro e w2 ⟨rfl,hb3⟩;clear k2;obtain ⟨c0,c1,c2,c3,c4,c5,c6,c7,c8⟩:=(hKa.out.kept hb3 (Nat.lt_of_le_of_lt (Nat.le_succ _) hsz.out)).fields;obtain ⟨d0,d1,d2,d3,d4,d5,d6,d7,d8⟩:=(hKb.out.kept hb3 hsz.out).fields;have hbw:=hb2.out.trans (hb3.mono hs2.out);have k3:=k4 w2 hbw)
           | (go_at_call 118;refine k3.mono ?_;rintro e w3 ⟨rfl,hb4⟩))
          go_ret
          exact ⟨rfl,hbw.trans (hb4.mono hbw.size)⟩
         ·have k4 := fun w' hb => kI.out w' hb false (by simp [hN])
          have hvf:v=false:=not_true hV.out (fun h=>hN (hE.out.1 h).2.2.2.2.2.2.2.2)
          subst hvf
          clear hN kI
          go_enter Tryz.func78,Tryz.ntmps78
          go_wp2_with (first
           | (go_at_call 117;refine k1.mono ?_;rintro e w1 ⟨rfl,hw⟩;subst hw)
           | (go_at_call 118;refine k2.mono ?_;rintro e w2 ⟨rfl,hb3⟩;clear k2;obtain ⟨c0,c1,c2,c3,c4,c5,c6,c7,c8⟩:=(hKa.out.kept hb3 (Nat.lt_of_le_of_lt (Nat.le_succ _) hsz.out)).fields;obtain ⟨d0,d1,d2,d3,d4,d5,d6,d7,d8⟩:=(hKb.out.kept hb3 hsz.out).fields;have hbw:=hb2.out.trans (hb3.mono hs2.out);have k3:=k4 w2 hbw)
           | (go_at_call 118;refine k3.mono ?_;rintro e w3 ⟨rfl,hb4⟩))
          go_ret
          exact ⟨rfl,hbw.trans (hb4.mono hbw.size)⟩
        ·have k2 := kK.out _ hb2.out false (by simp [hN])
         have hvf:v=false:=not_true hV.out (fun h=>hN (hE.out.1 h).2.2.2.2.2.2.2.1)
         subst hvf
         clear hN kK kI
         go_enter Tryz.func78,Tryz.ntmps78
         go_wp2_with (first
          | (go_at_call 117;refine k1.mono ?_;rintro e w1 ⟨rfl,hw⟩;subst hw)
          | (go_at_call 118;refine k2.mono ?_;rintro e w2 ⟨rfl,hb3⟩;clear k2))
         go_ret
         exact ⟨rfl,hb2.out.trans (hb3.mono hs2.out)⟩
       ·have k1 := kq false (by simp [hN])
        have hvf:v=false:=not_true hV.out (fun h=>hN (hE.out.1 h).2.2.2.2.2.2.1)
        subst hvf
        clear hN kq
        go_enter Tryz.func78,Tryz.ntmps78
        go_wp2_with (go_at_call 117;refine k1.mono ?_;rintro e w1 ⟨rfl,hw⟩;subst hw)
        go_ret
        exact ⟨rfl,hb2.out⟩
      ·have q5 := beq_of (s := a.txt) (t := b.txt) false (by simp [hN])
       have hvf:v=false:=not_true hV.out (fun h=>hN (hE.out.1 h).2.2.2.2.2.1)
       subst hvf
       clear hN
       go_enter Tryz.func78,Tryz.ntmps78
       go_wp2
       go_ret
       exact ⟨rfl,hb2.out⟩
     ·have q4 : (a.exp == b.exp) = false := by simp [hN]
      have hvf:v=false:=not_true hV.out (fun h=>hN (hE.out.1 h).2.2.2.2.1)
      subst hvf
      clear hN
      go_enter Tryz.func78,Tryz.ntmps78
      go_wp2
      go_ret
      exact ⟨rfl,hb2.out⟩
    ·have q3 := beq_of (s := a.dig) (t := b.dig) false (by simp [hN])
     have hvf:v=false:=not_true hV.out (fun h=>hN (hE.out.1 h).2.2.2.1)
     subst hvf
     clear hN
     go_enter Tryz.func78,Tryz.ntmps78
     go_wp2
     go_ret
     exact ⟨rfl,hb2.out⟩
   ·have q2 : (a.neg == b.neg) = false := by simp [hN]
    have hvf:v=false:=not_true hV.out (fun h=>hN (hE.out.1 h).2.2.1)
    subst hvf
    clear hN
    go_enter Tryz.func78,Tryz.ntmps78
    go_wp2
    go_ret
    exact ⟨rfl,hb2.out⟩
  ·have q1 : (a.num == b.num) = false := by simp [hN]
   have hvf:v=false:=not_true hV.out (fun h=>hN (hE.out.1 h).2.1)
   subst hvf
   clear hN
   go_enter Tryz.func78,Tryz.ntmps78
   go_wp2
   go_ret
   exact ⟨rfl,hb2.out⟩
 ·have q0 : (a.kind == b.kind) = false := by simp [hN]
  have hvf:v=false:=not_true hV.out (fun h=>hN (hE.out.1 h).1)
  subst hvf
  clear hN
  go_enter Tryz.func78,Tryz.ntmps78
  go_wp2
  go_ret
  exact ⟨rfl,hb2.out⟩
theorem same_all:∀ D,SameAt D:=by
 intro D
 induction D with
 | zero=>intro t u a b w v h;exact absurd h id
 | succ D ih=>exact fun t u a b w v hA hB hv=>same_step ih t u a b w v hA hB hv
theorem sam_any{D E:Nat}{t u:Tr}{a b:Nb}{w:World}{v:Bool}(hA:Nd D w a t)(hB:Nd E w b u)(hv:v=true ↔ t=u):Calls Tryz.prog 78 #[.agg a.arr, .agg b.arr] w fun e w'=>e = .returned (.bool v)∧Below w.heap.size w w' :=
 same_all (max D E) t u a b w v (hA.le (Nat.le_max_left _ _)) (hB.le (Nat.le_max_right _ _)) hv
end Go.Proofs.YtejlaiofpekchaaGreatDoor
namespace Go.Proofs.YtejlaiofpekchaaGreatDoor
open Go.RowKit
set_option linter.unusedVariables false
theorem RowN.take{Q:Nb→Tr→Prop}{w:World}{a:Option Addr}{len cap:Nat}{l:List Tr}(h:RowN Q w a len cap l){i:Nat}(hi:i≤len):RowN Q w a i cap (l.take i):=by
 obtain ⟨h0,h1,h2⟩:=h
 refine ⟨by rw [List.length_take];omega,⟨Nat.le_trans hi h1.1,h1.2.1,h1.2.2.1,Nat.le_trans (Nat.mul_le_mul_right _ hi) h1.2.2.2⟩,?_⟩
 rcases h2 with rfl | ⟨b,off,ha,hc⟩
 ·exact .inl (by simp)
 ·refine .inr ⟨b, off, ha, fun j hj => ?_⟩
  have hj':j<l.length:=by rw [List.length_take] at hj;omega
  obtain ⟨nb,hn,hQ⟩:=hc j hj'
  exact ⟨nb,hn,by rw [List.getElem_take];exact hQ⟩
set_option maxHeartbeats 1000000 in
theorem twcc_any{D:Nat}(gk:Nat)(kb nb:Nb)(u x:Tr)(w:World)(hk:NBox w gk kb)(hu:Nd D w kb u)(hx:Nd D w nb x)(v:Bool)(hv:v=true ↔ x=u) :
  Calls Tryz.prog 80 (#[.agg nb.arr]++#[.pointer (some ⟨gk,0,none⟩)]) w fun e w'=>e = .returned (.bool v)∧Below w.heap.size w w':=by
 show Calls Tryz.prog 80 #[.agg nb.arr, .pointer (some ⟨gk,0,none⟩)] w _
 have hal:=alloc_below w (.cells nb.arr 26)
 have ks:=sam_any (hx.kept hal) (hu.kept hal) hv
 obtain ⟨a0,a1,a2,a3,a4,a5,a6,a7,a8⟩:=(nbox_new w nb).fields
 obtain ⟨b0,b1,b2,b3,b4,b5,b6,b7,b8⟩:=(hk.kept hal hk.lt).fields
 have hB:Hid (Below w.heap.size w (w.alloc (.cells nb.arr 26))):=hal
 clear hal hk hu hx hv
 go_enter Tryz.func80,Tryz.ntmps80
 go_wp2_with (go_at_call 78;refine ks.mono ?_;rintro e w1 ⟨rfl,hb⟩)
 go_ret
 exact ⟨rfl,hB.out.trans (hb.mono hB.out.size)⟩
set_option maxHeartbeats 4000000 in
set_option maxRecDepth 100000 in
theorem indf_any{D:Nat}(a:Option Addr)(n c:Nat)(l:List Tr)(gk:Nat)(kb:Nb)(u:Tr)(w:World)(hk:NBox w gk kb)(hu:Nd D w kb u)(hl:RowN (Nd D w) w a n c l) :
  Calls Tryz.prog 111 #[.slice a n c, .func (.func 80) #[] #[.pointer (some ⟨gk,0,none⟩)]] w fun e w'=>(∃ r:Int,e = .returned (.int .i64 r)∧(0≤r ↔ u∈l))∧Below w.heap.size w w':=by
 have e49:∀ args w,(callFunc 80 args).run Tryz.prog w = .ok (.enter 80 args) w:=enters_of Tryz.func80 (by kernel_rfl) rfl
 have hx:Hid (l.length=n):=hl.1
 have mk:=hl.2.1.1
 have mk':=hl.2.1.2.1
 unfold maxLen at mk'
 have hA:Hid (RowN (Nd D w) w a n c l):=hl
 have hK:Hid (NBox w gk kb∧Nd D w kb u):=⟨hk,hu⟩
 clear hl hk hu
 go_enter Tryz.func111,Tryz.ntmps111
 go_wp2
 go_loopw [5,8] (fun _ s8 wr=>∃ (i:Nat),i≤n∧s8 = .int .i64 i∧Hid (Below w.heap.size w wr)∧Hid (u ∉ l.take i)) (fun _ i _=>n - (intOf i).toNat)
 case atStart=>exact ⟨0,Nat.zero_le _,rfl,Below.refl _ _,by show ¬ _;simp⟩
 case round =>
  obtain ⟨i,him,rfl,hbl,hT⟩:=hrel
  by_cases hlt:i<n
  ·have hz : (i : Int) < (n : Int) := by omega
   have hix:i<l.length:=by rw [hx.out];exact hlt
   obtain ⟨bk,ok,nk,rfl,hck,hNk,hbk⟩:=row_el hA.out hbl.out hix
   obtain ⟨f0,f1,f2,f3,f4,f5,f6,f7,f8⟩:=elem_fields hck
   have kk:=fun (v:Bool) (h:v=true ↔ l[i]=u)=>twcc_any gk kb nk u l[i] wr (hK.out.1.kept hbl.out hK.out.1.lt) (hK.out.2.kept hbl.out) hNk v h
   have wi:IntKind.i64.wrap ((i:Int)+1)=(i:Int)+1:=by rw [IntKind.wrap_i64];omega
   by_cases hE:l[i]=u
   ·have k1 := kk true (by simp [hE])
    have hm:Hid (u∈l):=by show u∈l;rw [←hE];exact List.getElem_mem hix
    clear hck hNk kk hE hbk
    go_wp2_with (go_at_fn 80;refine k1.mono ?_;rintro e w1 ⟨rfl,hb1⟩)
    go_ret
    exact ⟨⟨_,rfl,by simp [hm.out]⟩,hbl.out.trans (hb1.mono hbl.out.size)⟩
   ·have k1 := kk false (by simp [hE])
    have hT':Hid (u ∉ l.take (i+1)):=by
     show ¬ _
     rw [List.take_succ_eq_append_getElem hix,List.mem_append]
     rintro (h | h)
     ·exact hT.out h
     ·exact hE (List.mem_singleton.1 h).symm
    clear hck hNk kk hE hbk
    go_wp2_with (go_at_fn 80;refine k1.mono ?_;rintro e w1 ⟨rfl,hb1⟩)
    go_roundw
    case rel=>exact ⟨i+1,by omega,by go_num,hbl.out.trans (hb1.mono hbl.out.size),hT'⟩
    case measure=>simp [intOf];omega
  ·have hz : ¬ (i : Int) < (n : Int) := by omega
   have hm:Hid (u ∉ l):=by
    show ¬ _
    have:=hT.out
    rwa [List.take_of_length_le (by rw [hx.out];omega)] at this
   go_wp2
   go_ret
   exact ⟨⟨-1,rfl,by simp [hm.out]⟩,hbl.out⟩
set_option maxHeartbeats 1000000 in
theorem contf_any{D:Nat}(a:Option Addr)(n c:Nat)(l:List Tr)(gk:Nat)(kb:Nb)(u:Tr)(w:World)(hk:NBox w gk kb)(hu:Nd D w kb u)(hl:RowN (Nd D w) w a n c l)(v:Bool)(hv:v=true ↔ u∈l) :
  Calls Tryz.prog 71 #[.slice a n c, .func (.func 80) #[] #[.pointer (some ⟨gk,0,none⟩)]] w fun e w'=>e = .returned (.bool v)∧Below w.heap.size w w':=by
 have ki:=indf_any a n c l gk kb u w hk hu hl
 have hd:Hid (∀ r:Int,(0≤r ↔ u∈l)→decide (0≤r)=v):=fun r hr=>by rw [Bool.eq_iff_iff,hv,decide_eq_true_iff];exact hr
 clear hk hu hl hv
 go_enter Tryz.func71,Tryz.ntmps71
 go_wp2_with (go_at_call 111;refine ki.mono ?_;rintro e w1 ⟨⟨r,rfl,hr⟩,hb⟩;have hd':=hd.out r hr;clear hr hd)
 go_ret
 exact ⟨rfl,hb⟩
set_option maxHeartbeats 4000000 in
set_option maxRecDepth 100000 in
theorem gtwice_any{D:Nat}(a:Option Addr)(n c:Nat)(l:List Tr)(w:World)(hl:RowN (Nd D w) w a n c l)(v:Bool)(hv:v=true ↔ ¬ l.Nodup) :
  Calls Tryz.prog 46 #[.slice a n c] w fun e w'=>e = .returned (.bool v)∧Below w.heap.size w w':=by
 have hx:Hid (l.length=n):=hl.1
 have mk:=hl.2.1.1
 have mk':=hl.2.1.2.1
 unfold maxLen at mk'
 have hA:Hid (RowN (Nd D w) w a n c l):=hl
 have hV:Hid (v=true ↔ ¬ l.Nodup):=hv
 clear hl hv
 go_enter Tryz.func46,Tryz.ntmps46
 go_wp2
 go_loopw [3,4,7] (fun _ _ s7 wr=>∃ (i:Nat),i≤n∧s7 = .int .i64 i∧Hid (Below w.heap.size w wr)∧Hid ((l.take i).Nodup)) (fun _ _ i _=>n - (intOf i).toNat)
 case atStart=>exact ⟨0,Nat.zero_le _,rfl,Below.refl _ _,by show List.Nodup _;simp⟩
 case round =>
  obtain ⟨i,him,rfl,hbl,hT⟩:=hrel
  by_cases hlt:i<n
  ·have hz : (i : Int) < (n : Int) := by omega
   have hix:i<l.length:=by rw [hx.out];exact hlt
   obtain ⟨bk,ok,nk,rfl,hck,hNk,hbk⟩:=row_el hA.out hbl.out hix
   obtain ⟨f0,f1,f2,f3,f4,f5,f6,f7,f8⟩:=elem_fields hck
   have hal:=alloc_below wr (.cells nk.arr 26)
   have hB:Hid (Below w.heap.size w (wr.alloc (.cells nk.arr 26))):=hbl.out.trans (hal.mono hbl.out.size)
   have kk:=fun (v:Bool) (h:v=true ↔ l[i]∈l.take i)=>contf_any (some ⟨bk,ok,none⟩) i c (l.take i) wr.heap.size nk l[i] (wr.alloc (.cells nk.arr 26)) (nbox_new wr nk) (hNk.kept hal) ((hA.out.kept (R:=Nd D (wr.alloc (.cells nk.arr 26))) hB.out fun _ _ _ q=>q.kept hB.out).take him) v h
   have wi:IntKind.i64.wrap ((i:Int)+1)=(i:Int)+1:=by rw [IntKind.wrap_i64];omega
   have hic:i≤c:=by omega
   by_cases hE:l[i]∈l.take i
   ·have k1 := kk true (by simp [hE])
    have hv:v=true:=hV.out.2 (fun hn=>by
     have h1:(l.take (i+1)).Nodup:=hn.sublist (List.take_sublist _ _)
     rw [List.take_succ_eq_append_getElem hix] at h1
     exact (List.nodup_append.1 h1).2.2 _ hE _ (List.mem_singleton.2 rfl) rfl)
    subst hv
    clear hck hNk kk hE hbk hal
    go_wp2_with (go_at_call 71;refine k1.mono ?_;rintro e w1 ⟨rfl,hb1⟩)
    go_ret
    exact ⟨rfl,hB.out.trans (hb1.mono hB.out.size)⟩
   ·have k1 := kk false (by simp [hE])
    have hT':Hid ((l.take (i+1)).Nodup):=by
     show List.Nodup _
     rw [List.take_succ_eq_append_getElem hix]
     refine List.nodup_append.2 ⟨hT.out,by simp,fun x hx' y hy he=>?_⟩
     rw [List.mem_singleton] at hy
     subst hy he
     exact hE hx'
    clear hck hNk kk hE hbk hal
    go_wp2_with (go_at_call 71;refine k1.mono ?_;rintro e w1 ⟨rfl,hb1⟩)
    go_roundw
    case rel=>exact ⟨i+1,by omega,by go_num,hB.out.trans (hb1.mono hB.out.size),hT'⟩
    case measure=>simp [intOf];omega
  ·have hz : ¬ (i : Int) < (n : Int) := by omega
   have hv:v=false:=not_true hV.out (fun h=>h (by
    have:=hT.out
    rwa [List.take_of_length_le (by rw [hx.out];omega)] at this))
   subst hv
   go_wp2
   go_ret
   exact ⟨rfl,hbl.out⟩
end Go.Proofs.YtejlaiofpekchaaGreatDoor
namespace Go.Proofs.YtejlaiofpekchaaGreatDoor
open Go.RowKit
set_option linter.unusedVariables false
def isTx(u:Tr):Bool:=decide (u.kind=5)
set_option maxHeartbeats 1000000 in
set_option maxRecDepth 100000 in
theorem alltc_any{D:Nat}(nb:Nb)(t:Tr)(w:World)(hN:Nd D w nb t):Calls Tryz.prog 72 #[.agg nb.arr] w fun e w'=>e = .returned (.bool (!isTx t))∧Below w.heap.size w w':=by
 have hk:nb.kind=t.kind:=by cases D with | zero=>exact absurd hN id | succ D=>exact hN.1.1
 have hA:=alloc_below w (.cells nb.arr 26)
 obtain ⟨a0,a1,a2,a3,a4,a5,a6,a7,a8⟩:=(nbox_new w nb).fields
 have he:(nb.kind != 5) = !isTx t:=by rw [hk];by_cases h:t.kind=5 <;> simp [isTx,h]
 have hA':Hid (Below w.heap.size w (w.alloc (.cells nb.arr 26))):=hA
 clear hN hA hk
 rw [Nb.arr] at *
 go_enter Tryz.func72,Tryz.ntmps72
 go_wp2
 go_ret
 exact ⟨rfl,hA'.out⟩
set_option maxHeartbeats 4000000 in
set_option maxRecDepth 100000 in
theorem indt_any{D:Nat}(a:Option Addr)(n c:Nat)(l:List Tr)(w:World)(hl:RowN (Nd D w) w a n c l) :
  Calls Tryz.prog 111 #[.slice a n c, .func (.func 72) #[] #[]] w fun e w'=>(∃ r:Int,e = .returned (.int .i64 r)∧decide (0≤r) = !(l.all isTx))∧Below w.heap.size w w':=by
 have e49:∀ args w,(callFunc 72 args).run Tryz.prog w = .ok (.enter 72 args) w:=enters_of Tryz.func72 (by kernel_rfl) rfl
 have hx:Hid (l.length=n):=hl.1
 have mk:=hl.2.1.1
 have mk':=hl.2.1.2.1
 unfold maxLen at mk'
 have hA:Hid (RowN (Nd D w) w a n c l):=hl
 clear hl
 go_enter Tryz.func111,Tryz.ntmps111
 go_wp2
 go_loopw [5,8] (fun _ s8 wr=>∃ (i:Nat),i≤n∧s8 = .int .i64 i∧Hid (Below w.heap.size w wr)∧Hid ((l.take i).all isTx=true)) (fun _ i _=>n - (intOf i).toNat)
 case atStart=>exact ⟨0,Nat.zero_le _,rfl,Below.refl _ _,by show _=_;simp⟩
 case round =>
  obtain ⟨i,him,rfl,hbl,hT⟩:=hrel
  by_cases hlt:i<n
  ·have hz : (i : Int) < (n : Int) := by omega
   have hix:i<l.length:=by rw [hx.out];exact hlt
   obtain ⟨bk,ok,nk,rfl,hck,hNk,hbk⟩:=row_el hA.out hbl.out hix
   obtain ⟨f0,f1,f2,f3,f4,f5,f6,f7,f8⟩:=elem_fields hck
   have kk:=alltc_any nk l[i] wr hNk
   have wi:IntKind.i64.wrap ((i:Int)+1)=(i:Int)+1:=by rw [IntKind.wrap_i64];omega
   cases hE:isTx l[i] with
   | false =>
    rw [hE] at kk
    have hm:Hid (l.all isTx=false):=by
     show _=_
     rw [List.all_eq_false]
     exact ⟨l[i],List.getElem_mem hix,by rw [hE];decide⟩
    clear hck hNk hE hbk
    go_wp2_with (go_at_fn 72;refine kk.mono ?_;rintro e w1 ⟨rfl,hb1⟩)
    go_ret
    exact ⟨⟨_,rfl,by simp [hm.out]⟩,hbl.out.trans (hb1.mono hbl.out.size)⟩
   | true =>
    rw [hE] at kk
    have hT':Hid ((l.take (i+1)).all isTx=true):=by
     show _=_
     rw [List.take_succ_eq_append_getElem hix,List.all_append,hT.out]
     simp [hE]
    clear hck hNk hE hbk
    go_wp2_with (go_at_fn 72;refine kk.mono ?_;rintro e w1 ⟨rfl,hb1⟩)
    go_roundw
    case rel=>exact ⟨i+1,by omega,by go_num,hbl.out.trans (hb1.mono hbl.out.size),hT'⟩
    case measure=>simp [intOf];omega
  ·have hz : ¬ (i : Int) < (n : Int) := by omega
   have hm:Hid (l.all isTx=true):=by
    show _=_
    have:=hT.out
    rwa [List.take_of_length_le (by rw [hx.out];omega)] at this
   go_wp2
   go_ret
   exact ⟨⟨-1,rfl,by simp [hm.out]⟩,hbl.out⟩
set_option maxHeartbeats 1000000 in
theorem contt_any{D:Nat}(a:Option Addr)(n c:Nat)(l:List Tr)(w:World)(hl:RowN (Nd D w) w a n c l) :
  Calls Tryz.prog 71 #[.slice a n c, .func (.func 72) #[] #[]] w fun e w'=>e = .returned (.bool (!(l.all isTx)))∧Below w.heap.size w w':=by
 have ki:=indt_any a n c l w hl
 clear hl
 go_enter Tryz.func71,Tryz.ntmps71
 go_wp2_with (go_at_call 111;refine ki.mono ?_;rintro e w1 ⟨⟨r,rfl,hr⟩,hb⟩)
 go_ret
 exact ⟨rfl,hb⟩
set_option maxHeartbeats 1000000 in
theorem allt_any{D:Nat}(a:Option Addr)(n c:Nat)(l:List Tr)(w:World)(hl:RowN (Nd D w) w a n c l) :
  Calls Tryz.prog 40 #[.slice a n c] w fun e w'=>e = .returned (.bool (l.all isTx))∧Below w.heap.size w w':=by
 have ki:=contt_any a n c l w hl
 clear hl
 go_enter Tryz.func40,Tryz.ntmps40
 go_wp2_with (go_at_call 71;refine ki.mono ?_;rintro e w1 ⟨rfl,hb⟩)
 go_ret
 exact ⟨by simp,hb⟩
end Go.Proofs.YtejlaiofpekchaaGreatDoor
namespace Go.Proofs.YtejlaiofpekchaaGreatDoor
open Go.RowKit
set_option linter.unusedVariables false
def hxd(k:Int):Int:=if k<10 then 48+k else 87+k
def hexL:List Int→List Int
 | []=>[]
 | x::l=>hxd (x / 16)::hxd (x % 16)::hexL l
theorem hexL_snoc(l:List Int)(x:Int):hexL (l++[x])=hexL l++[hxd (x / 16),hxd (x % 16)]:=by
 induction l with
 | nil=>rfl
 | cons y l ih=>simp [hexL,ih]
theorem hexL_len(l:List Int):(hexL l).length=2*l.length:=by
 induction l with
 | nil=>rfl
 | cons y l ih=>simp [hexL,ih];omega
theorem hxd_byte{k:Int}(h:0≤k∧k<16):0≤hxd k∧hxd k<256:=by unfold hxd;split <;> omega
section runs
variable {ev:Operand→Value} {w:World}
theorem run_shr{o:Oper}{x:Int}(hc:∀ v,ev (.const v)=v)(ho:o.op = .binOp .shr 5 (.tmp 13) (.const (.int .u64 4)) 98)(h1:ev (.tmp 13) = .int .u8 x)(hx:0≤x∧x<256):(execOp ev o).run Tryz.prog w = .ok (.value (.int .u8 (x / 16))) w:=by
 have e:IntKind.u8.wrap (x / 16)=x / 16:=by rw [IntKind.wrap_u8];omega
 simp [execOp,go_sem, *]
theorem and15:((List.range 256).all fun r=>bits .and .u8 (r:Int) 15==(r:Int) % 16)=true:=by kernel_rfl
theorem mask15{x:Int}(hx:0≤x∧x<256):bits .and .u8 x 15=x % 16:=by
 obtain ⟨n,rfl⟩:∃ n:Nat,x=n:=⟨x.toNat,by omega⟩
 have:=List.all_eq_true.1 and15 n (List.mem_range.2 (by omega))
 simpa using this
theorem run_and{o:Oper}{x:Int}(hc:∀ v,ev (.const v)=v)(ho:o.op = .binOp .and 5 (.tmp 16) (.const (.int .u8 15)) 5)(h1:ev (.tmp 16) = .int .u8 x)(hx:0≤x∧x<256):(execOp ev o).run Tryz.prog w = .ok (.value (.int .u8 (x % 16))) w:=by
 have e:=mask15 hx
 simp [execOp,go_sem, *]
theorem run_ix{o:Oper}{k:Int}{t:Nat}(hc:∀ v,ev (.const v)=v)(ho:o.op = .index 9 (.const (.string { data:=#[48,49,50,51,52,53,54,55,56,57,97,98,99,100,101,102] })) (.tmp t))(h1:ev (.tmp t) = .int .u8 k)(hx:0≤k∧k<16):(execOp ev o).run Tryz.prog w = .ok (.value (.int .u8 (hxd k))) w:=by
 obtain (rfl | rfl | rfl | rfl | rfl | rfl | rfl | rfl | rfl | rfl | rfl | rfl | rfl | rfl | rfl | rfl):k=0∨k=1∨k=2∨k=3∨k=4∨k=5∨k=6∨k=7∨k=8∨k=9∨k=10∨k=11∨k=12∨k=13∨k=14∨k=15:=by omega
 all_goals (simp [execOp,go_sem,hxd, *];rfl)
end runs
end Go.Proofs.YtejlaiofpekchaaGreatDoor
