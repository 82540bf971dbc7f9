/-
  What comes of a Tag: the region that calls come of its kid.
  What comes of a node without kids, with a loss.
  What comes of an Array: the region that calls come of one kid.
  What comes of a Map of texts: the region that calls come of one kid.
-/
import Derived.Test.YtejlaiofpekchaaGreatDoorC13
namespace Go.Proofs.YtejlaiofpekchaaGreatDoor
open Go.RowKit
set_option linter.unusedVariables false
theorem run_callF{ev:Operand→Value}{w:World}{o:Oper}{f:FuncId}{x y z:Nat}{T1 T2:TypeId}{v1 v2 a1 a2:Value}(ho:o.op = .call { callee := .value (.tmp x),args:=#[.tmp y, .tmp z],argTypes:=#[T1,T2] })(hf:ev (.tmp x) = .func (.func f) #[] #[a1,a2])(h1:ev (.tmp y)=v1)(h2:ev (.tmp z)=v2)(hcf:∀ args w,(callFunc f args).run Tryz.prog w = .ok (.enter f args) w):(execOp ev o).run Tryz.prog w = .ok (.enter f #[v1,v2,a1,a2]) w:=by
 simp [execOp,ho,resolve,invoke,hcf,h1,h2,hf,go_sem]
theorem step_callF{f:FuncId}{v1 v2 a1 a2:Value}{w:World}{ops:Array Oper}{o:Oper}{a:Act}{K:Act→World→Prop}{Q:Exit→Act→World→Prop}{E:Prop}{R:Value→World→Prop}(hgd:o.guard=none)(x y z:Nat)(T1 T2:TypeId)
  (ho:o.op = .call { callee := .value (.tmp x),args:=#[.tmp y, .tmp z],argTypes:=#[T1,T2] }) (hf:a.eval (.tmp x) = .func (.func f) #[] #[a1,a2]) (h1:a.eval (.tmp y)=v1) (h2:a.eval (.tmp z)=v2) (hcf:∀ args w,(callFunc f args).run Tryz.prog w = .ok (.enter f args) w)
  (k:Calls Tryz.prog f #[v1,v2,a1,a2] w fun e w'=>∃ r,e = .returned r∧R r w') (h:∀ r w',R r w'→K (a.put o.dst r) w') :
  if Region.wanted o (yielded ops a.tmps)=true then Oper.wp Tryz.prog o a w K Q else E:=by
 have hw:Region.wanted o (yielded ops a.tmps)=true:=by simp [Region.wanted,hgd]
 rw [if_pos hw]
 unfold Oper.wp
 rw [run_callF ho hf h1 h2 hcf]
 refine Calls.mono (R:=fun e w'=>∃ r,e = .returned r∧R r w') k ?_
 rintro e w' ⟨r,he,hr⟩
 subst he
 exact h r w' hr
section runs
variable {ev:Operand→Value} {w:World}
theorem run_ldF{o:Oper}{s g:Nat}{fn:Fn}{a1 a2:Value}(ho:o.op = .load 52 (.tmp s))(h1:ev (.tmp s) = .pointer (some ⟨g,0,none⟩))(hb:Blk w g #[.func fn #[] #[a1,a2]] 52):(execOp ev o).run Tryz.prog w = .ok (.value (.func fn #[] #[a1,a2])) w:=by
 have a0:=hb.cell 0
 simp at a0
 simp [execOp,go_sem, *]
theorem run_fa8{o:Oper}{s g:Nat}(ho:o.op = .fieldAddr 26 (.tmp s) 8)(h1:ev (.tmp s) = .pointer (some ⟨g,0,none⟩)):(execOp ev o).run Tryz.prog w = .ok (.value (.pointer (some ⟨g,8,none⟩))) w:=by
 simp [execOp,go_sem, *]
theorem run_ldK{o:Oper}{s g:Nat}{b:Nb}(ho:o.op = .load 24 (.tmp s))(h1:ev (.tmp s) = .pointer (some ⟨g,8,none⟩))(hb:NBox w g b):(execOp ev o).run Tryz.prog w = .ok (.value (.slice b.ai b.li b.ci)) w:=by
 obtain ⟨a0,a1,a2,a3,a4,a5,a6,a7,a8⟩:=hb.fields
 simp [execOp,go_sem, *]
theorem run_ix0{o:Oper}{s g n c:Nat}(hc:∀ v,ev (.const v)=v)(ho:o.op = .indexAddr 24 (.tmp s) (.const (.int .i64 0)))(h1:ev (.tmp s) = .slice (some ⟨g,0,none⟩) n c)(hn:0<n∧n≤9223372036854775807):(execOp ev o).run Tryz.prog w = .ok (.value (.pointer (some ⟨g,0,none⟩))) w:=by
 have h0:=hn.1
 simp [execOp,go_sem, *]
theorem run_ldN{o:Oper}{s g:Nat}{b:Nb}(ho:o.op = .load 26 (.tmp s))(h1:ev (.tmp s) = .pointer (some ⟨g,0,none⟩))(hb:∀ j,j<9→w.cell? ⟨g,j,none⟩=b.cells[j]?):(execOp ev o).run Tryz.prog w = .ok (.value (.agg b.arr)) w:=by
 have a0:=hb 0 (by omega)
 have a1:=hb 1 (by omega)
 have a2:=hb 2 (by omega)
 have a3:=hb 3 (by omega)
 have a4:=hb 4 (by omega)
 have a5:=hb 5 (by omega)
 have a6:=hb 6 (by omega)
 have a7:=hb 7 (by omega)
 have a8:=hb 8 (by omega)
 simp [Nb.cells] at a0 a1 a2 a3 a4 a5 a6 a7 a8
 clear hb
 simp [execOp,go_sem,Nb.arr, *]
theorem run_st9b{o:Oper}{s v g:Nat}{b z:Nb}(ho:o.op = .store 26 (.tmp s) (.tmp v))(h1:ev (.tmp s) = .pointer (some ⟨g,0,none⟩))(h2:ev (.tmp v) = .agg b.arr)(hz:NBox w g z):(execOp ev o).run Tryz.prog w = .ok .skip (((((((((w.setCell ⟨g,0,none⟩ (.int .i64 b.kind)).setCell ⟨g,1,none⟩ (.int .u64 b.num)).setCell ⟨g,2,none⟩ (.bool b.neg)).setCell ⟨g,3,none⟩ (.string b.dig)).setCell ⟨g,4,none⟩ (.int .i64 b.exp)).setCell ⟨g,5,none⟩ (.string b.txt)).setCell ⟨g,6,none⟩ (.slice b.ab b.lb b.cb)).setCell ⟨g,7,none⟩ (.slice b.ak b.lk b.ck)).setCell ⟨g,8,none⟩ (.slice b.ai b.li b.ci)):=by
 obtain ⟨a0,a1,a2,a3,a4,a5,a6,a7,a8⟩:=hz.fields
 have z0:=hz.fz 0
 have z1:=hz.fz 1
 have z2:=hz.fz 2
 have z3:=hz.fz 3
 have z4:=hz.fz 4
 have z5:=hz.fz 5
 have z6:=hz.fz 6
 have z7:=hz.fz 7
 have z8:=hz.fz 8
 rw [Nb.arr] at h2
 simp [execOp,go_sem, *]
end runs
def tgOps:Array Oper:=#[{ dst:=some 58,op:=Op.load 52 (Operand.tmp 3),type:=52,pos := "tell.go:35",after:=#[],guard:=none },{ dst:=some 59,op:=Op.fieldAddr 26 (Operand.tmp 4) 8,type:=0,pos := "tell.go:35",after:=#[],guard:=none },{ dst:=some 60,op:=Op.load 24 (Operand.tmp 59),type:=24,pos := "tell.go:35",after:=#[{ on:=1,ground:=Ground.data }],guard:=none },{ dst:=some 61,op:=Op.indexAddr 24 (Operand.tmp 60) (Operand.const (Value.int IntKind.i64 0)),type:=0,pos := "tell.go:35",after:=#[{ on:=2,ground:=Ground.data }],guard:=none },{ dst:=some 62,op:=Op.load 26 (Operand.tmp 61),type:=26,pos := "tell.go:35",after:=#[{ on:=3,ground:=Ground.data }],guard:=none },{ dst:=some 63,op:=Op.move (Operand.tmp 1),type:=42,pos := "tell.go:35",after:=#[],guard:=none },{ dst:=some 64,op:=Op.call { callee:=Callee.value (Operand.tmp 58),args:=#[Operand.tmp 62,Operand.tmp 63],argTypes:=#[26,42] },type:=26,pos := "tell.go:35",after:=#[{ on:=0,ground:=Ground.data },{ on:=4,ground:=Ground.data },{ on:=5,ground:=Ground.data }],guard:=none },{ dst:=none,op:=Op.store 26 (Operand.tmp 6) (Operand.tmp 64),type:=0,pos := "tell.go:35",after:=#[{ on:=6,ground:=Ground.data },{ on:=6,ground:=Ground.chain },{ on:=0,ground:=Ground.phase },{ on:=1,ground:=Ground.phase },{ on:=2,ground:=Ground.phase },{ on:=3,ground:=Ground.phase },{ on:=4,ground:=Ground.phase },{ on:=5,ground:=Ground.phase },{ on:=6,ground:=Ground.phase }],guard:=none }]
structure TGC(W0:World)(u0:Nat→Value)(d:Nat)(B0:Nat)(gl:Nat)(B:Nat)(gs:Nat)(gc:Nat)(n0:Nat)(r:Nat)(g:Nat)(b:Nb)(nk:Nb)(tk:Tr)(fk:List Nat)(pa:Option Addr)(np:Nat)(cp:Nat)(ps:List Int)(ls:List Lz):Prop where
 e1:u0 1 = .slice pa np cp
 e3:u0 3 = .pointer (some ⟨gc,0,none⟩)
 e4:u0 4 = .pointer (some ⟨n0,0,none⟩)
 e6:u0 6 = .pointer (some ⟨r,0,none⟩)
 ih:CmAt d
 ci:CI d B0 gl B gs gc W0 nk tk fk pa np cp ps ls
 nb:NBox W0 n0 b
 rb:NBox W0 r zN
 ai:b.ai=some ⟨g,0,none⟩
 li:0<b.li∧b.li≤9223372036854775807
 row:∀ j,j<9→W0.cell? ⟨g,j,none⟩=nk.cells[j]?
 rf:r ∉ fk
structure TGI(W0:World)(u0:Nat→Value)(d:Nat)(B0:Nat)(gl:Nat)(B:Nat)(gs:Nat)(gc:Nat)(n0:Nat)(r:Nat)(g:Nat)(b:Nb)(nk:Nb)(tk:Tr)(fk:List Nat)(pa:Option Addr)(np:Nat)(cp:Nat)(ps:List Int)(ls:List Lz)(L:Nat→Bool)(u:Nat→Value)(w:World):Prop where
 old:∀ k,(k<58∨64<k)→u k=u0 k
 st:L 6=false→w=W0
 f0:L 0=true→u 58 = .func (.func 36) #[] #[.pointer (some ⟨gs,0,none⟩), .pointer (some ⟨gc,0,none⟩)]
 f1:L 1=true→u 59 = .pointer (some ⟨n0,8,none⟩)
 f2:L 2=true→u 60 = .slice b.ai b.li b.ci
 f3:L 3=true→u 61 = .pointer (some ⟨g,0,none⟩)
 f4:L 4=true→u 62 = .agg nk.arr
 f5:L 5=true→u 63 = .slice pa np cp
 f6:L 6=true→∃ b' f' w1,u 64 = .agg b'.arr∧CO d B0 gl B W0 w1 tk fk ps ls b' f'∧(L 7=false→w=w1)∧(L 7=true→NBox w r b'∧Kp (fun k=>k=r) w1 w)
 d7:L 7=true→L 6=true
 d6:L 6=true→L 0=true∧L 1=true∧L 2=true∧L 3=true∧L 4=true∧L 5=true
 d4:L 4=true→L 3=true
 d3:L 3=true→L 2=true
 d2:L 2=true→L 1=true
theorem tg0{W0:World}{u0:Nat→Value}{d:Nat}{B0:Nat}{gl:Nat}{B:Nat}{gs:Nat}{gc:Nat}{n0:Nat}{r:Nat}{g:Nat}{b:Nb}{nk:Nb}{tk:Tr}{fk:List Nat}{pa:Option Addr}{np:Nat}{cp:Nat}{ps:List Int}{ls:List Lz}{L:Nat→Bool}{u:Nat→Value}{w:World}(c:TGC W0 u0 d B0 gl B gs gc n0 r g b nk tk fk pa np cp ps ls)(h:TGI W0 u0 d B0 gl B gs gc n0 r g b nk tk fk pa np cp ps ls L u w):TGI W0 u0 d B0 gl B gs gc n0 r g b nk tk fk pa np cp ps ls (upB L 0) (upd u 58 (.func (.func 36) #[] #[.pointer (some ⟨gs,0,none⟩), .pointer (some ⟨gc,0,none⟩)])) w:=by
 exact { h with
  old:=fun k hk=>by rw [upd_ne u _ (by omega)];exact h.old k hk
  f0:=fun _=>rfl
  d6:=fun e=>⟨rfl,(h.d6 e).2.1,(h.d6 e).2.2.1,(h.d6 e).2.2.2.1,(h.d6 e).2.2.2.2.1,(h.d6 e).2.2.2.2.2⟩ }
theorem tg1{W0:World}{u0:Nat→Value}{d:Nat}{B0:Nat}{gl:Nat}{B:Nat}{gs:Nat}{gc:Nat}{n0:Nat}{r:Nat}{g:Nat}{b:Nb}{nk:Nb}{tk:Tr}{fk:List Nat}{pa:Option Addr}{np:Nat}{cp:Nat}{ps:List Int}{ls:List Lz}{L:Nat→Bool}{u:Nat→Value}{w:World}(c:TGC W0 u0 d B0 gl B gs gc n0 r g b nk tk fk pa np cp ps ls)(h:TGI W0 u0 d B0 gl B gs gc n0 r g b nk tk fk pa np cp ps ls L u w):TGI W0 u0 d B0 gl B gs gc n0 r g b nk tk fk pa np cp ps ls (upB L 1) (upd u 59 (.pointer (some ⟨n0,8,none⟩))) w:=by
 exact { h with
  old:=fun k hk=>by rw [upd_ne u _ (by omega)];exact h.old k hk
  f1:=fun _=>rfl
  d6:=fun e=>⟨(h.d6 e).1,rfl,(h.d6 e).2.2.1,(h.d6 e).2.2.2.1,(h.d6 e).2.2.2.2.1,(h.d6 e).2.2.2.2.2⟩
  d2:=fun _=>rfl }
theorem tg2{W0:World}{u0:Nat→Value}{d:Nat}{B0:Nat}{gl:Nat}{B:Nat}{gs:Nat}{gc:Nat}{n0:Nat}{r:Nat}{g:Nat}{b:Nb}{nk:Nb}{tk:Tr}{fk:List Nat}{pa:Option Addr}{np:Nat}{cp:Nat}{ps:List Int}{ls:List Lz}{L:Nat→Bool}{u:Nat→Value}{w:World}(c:TGC W0 u0 d B0 gl B gs gc n0 r g b nk tk fk pa np cp ps ls)(h:TGI W0 u0 d B0 gl B gs gc n0 r g b nk tk fk pa np cp ps ls L u w)(h1:L 1=true):TGI W0 u0 d B0 gl B gs gc n0 r g b nk tk fk pa np cp ps ls (upB L 2) (upd u 60 (.slice b.ai b.li b.ci)) w:=by
 exact { h with
  old:=fun k hk=>by rw [upd_ne u _ (by omega)];exact h.old k hk
  f2:=fun _=>rfl
  d6:=fun e=>⟨(h.d6 e).1,(h.d6 e).2.1,rfl,(h.d6 e).2.2.2.1,(h.d6 e).2.2.2.2.1,(h.d6 e).2.2.2.2.2⟩
  d2:=fun _=>h1
  d3:=fun _=>rfl }
theorem tg3{W0:World}{u0:Nat→Value}{d:Nat}{B0:Nat}{gl:Nat}{B:Nat}{gs:Nat}{gc:Nat}{n0:Nat}{r:Nat}{g:Nat}{b:Nb}{nk:Nb}{tk:Tr}{fk:List Nat}{pa:Option Addr}{np:Nat}{cp:Nat}{ps:List Int}{ls:List Lz}{L:Nat→Bool}{u:Nat→Value}{w:World}(c:TGC W0 u0 d B0 gl B gs gc n0 r g b nk tk fk pa np cp ps ls)(h:TGI W0 u0 d B0 gl B gs gc n0 r g b nk tk fk pa np cp ps ls L u w)(h2:L 2=true):TGI W0 u0 d B0 gl B gs gc n0 r g b nk tk fk pa np cp ps ls (upB L 3) (upd u 61 (.pointer (some ⟨g,0,none⟩))) w:=by
 exact { h with
  old:=fun k hk=>by rw [upd_ne u _ (by omega)];exact h.old k hk
  f3:=fun _=>rfl
  d6:=fun e=>⟨(h.d6 e).1,(h.d6 e).2.1,(h.d6 e).2.2.1,rfl,(h.d6 e).2.2.2.2.1,(h.d6 e).2.2.2.2.2⟩
  d3:=fun _=>h2
  d4:=fun _=>rfl }
theorem tg4{W0:World}{u0:Nat→Value}{d:Nat}{B0:Nat}{gl:Nat}{B:Nat}{gs:Nat}{gc:Nat}{n0:Nat}{r:Nat}{g:Nat}{b:Nb}{nk:Nb}{tk:Tr}{fk:List Nat}{pa:Option Addr}{np:Nat}{cp:Nat}{ps:List Int}{ls:List Lz}{L:Nat→Bool}{u:Nat→Value}{w:World}(c:TGC W0 u0 d B0 gl B gs gc n0 r g b nk tk fk pa np cp ps ls)(h:TGI W0 u0 d B0 gl B gs gc n0 r g b nk tk fk pa np cp ps ls L u w)(h3:L 3=true):TGI W0 u0 d B0 gl B gs gc n0 r g b nk tk fk pa np cp ps ls (upB L 4) (upd u 62 (.agg nk.arr)) w:=by
 exact { h with
  old:=fun k hk=>by rw [upd_ne u _ (by omega)];exact h.old k hk
  f4:=fun _=>rfl
  d6:=fun e=>⟨(h.d6 e).1,(h.d6 e).2.1,(h.d6 e).2.2.1,(h.d6 e).2.2.2.1,rfl,(h.d6 e).2.2.2.2.2⟩
  d4:=fun _=>h3 }
theorem tg5{W0:World}{u0:Nat→Value}{d:Nat}{B0:Nat}{gl:Nat}{B:Nat}{gs:Nat}{gc:Nat}{n0:Nat}{r:Nat}{g:Nat}{b:Nb}{nk:Nb}{tk:Tr}{fk:List Nat}{pa:Option Addr}{np:Nat}{cp:Nat}{ps:List Int}{ls:List Lz}{L:Nat→Bool}{u:Nat→Value}{w:World}(c:TGC W0 u0 d B0 gl B gs gc n0 r g b nk tk fk pa np cp ps ls)(h:TGI W0 u0 d B0 gl B gs gc n0 r g b nk tk fk pa np cp ps ls L u w):TGI W0 u0 d B0 gl B gs gc n0 r g b nk tk fk pa np cp ps ls (upB L 5) (upd u 63 (u 1)) w:=by
 exact { h with
  old:=fun k hk=>by rw [upd_ne u _ (by omega)];exact h.old k hk
  f5:=fun _=>(h.old 1 (by omega)).trans c.e1
  d6:=fun e=>⟨(h.d6 e).1,(h.d6 e).2.1,(h.d6 e).2.2.1,(h.d6 e).2.2.2.1,(h.d6 e).2.2.2.2.1,rfl⟩ }
theorem tg6{W0:World}{u0:Nat→Value}{d:Nat}{B0:Nat}{gl:Nat}{B:Nat}{gs:Nat}{gc:Nat}{n0:Nat}{r:Nat}{g:Nat}{b:Nb}{nk:Nb}{tk:Tr}{fk:List Nat}{pa:Option Addr}{np:Nat}{cp:Nat}{ps:List Int}{ls:List Lz}{L:Nat→Bool}{u:Nat→Value}{w:World}(c:TGC W0 u0 d B0 gl B gs gc n0 r g b nk tk fk pa np cp ps ls)(h:TGI W0 u0 d B0 gl B gs gc n0 r g b nk tk fk pa np cp ps ls L u w){w':World}{b':Nb}{f':List Nat}(h6:L 6=false)(hn:L 0=true∧L 1=true∧L 2=true∧L 3=true∧L 4=true∧L 5=true)(hc:CO d B0 gl B W0 w' tk fk ps ls b' f'):TGI W0 u0 d B0 gl B gs gc n0 r g b nk tk fk pa np cp ps ls (upB L 6) (upd u 64 (.agg b'.arr)) w':=by
 have h7:L 7=false:=by cases e:L 7 with | false=>rfl | true=>exact absurd (h.d7 e) (by rw [h6];decide)
 exact { h with
  old:=fun k hk=>by rw [upd_ne u _ (by omega)];exact h.old k hk
  st:=fun e=>absurd (show true=false from e) (by decide)
  f6:=fun _=>⟨b',f',w',rfl,hc,fun _=>rfl,fun e=>absurd (show L 7=true from e) (by rw [h7];decide)⟩
  d7:=fun _=>rfl
  d6:=fun _=>hn }
theorem tg7{W0:World}{u0:Nat→Value}{d:Nat}{B0:Nat}{gl:Nat}{B:Nat}{gs:Nat}{gc:Nat}{n0:Nat}{r:Nat}{g:Nat}{b:Nb}{nk:Nb}{tk:Tr}{fk:List Nat}{pa:Option Addr}{np:Nat}{cp:Nat}{ps:List Int}{ls:List Lz}{L:Nat→Bool}{u:Nat→Value}{w:World}(c:TGC W0 u0 d B0 gl B gs gc n0 r g b nk tk fk pa np cp ps ls)(h:TGI W0 u0 d B0 gl B gs gc n0 r g b nk tk fk pa np cp ps ls L u w){w':World}{b':Nb}{f':List Nat}(h6:L 6=true)(he:u 64 = .agg b'.arr)(hc:CO d B0 gl B W0 w tk fk ps ls b' f')(hn:NBox w' r b')(hk:Kp (fun k=>k=r) w w'):TGI W0 u0 d B0 gl B gs gc n0 r g b nk tk fk pa np cp ps ls (upB L 7) u w':=by
 exact { h with
  st:=fun e=>absurd (show L 6=false from e) (by rw [h6];decide)
  f6:=fun _=>⟨b',f',w,he,hc,fun e=>absurd (show true=false from e) (by decide),fun _=>⟨hn,hk⟩⟩
  d7:=fun _=>h6 }
def TGX(W0:World)(u0:Nat→Value)(d:Nat)(B0:Nat)(gl:Nat)(B:Nat)(gs:Nat)(gc:Nat)(n0:Nat)(r:Nat)(g:Nat)(b:Nb)(nk:Nb)(tk:Tr)(fk:List Nat)(pa:Option Addr)(np:Nat)(cp:Nat)(ps:List Int)(ls:List Lz)(df:List Deferred)(listed:Array Bool)(a:Act)(w:World):Prop :=
 ∃ u,a=frm 157 u df∧listed.size=8∧TGI W0 u0 d B0 gl B gs gc n0 r g b nk tk fk pa np cp ps ls (fun k=>listed.getD k false) u w
theorem tg_put{W0:World}{u0:Nat→Value}{d:Nat}{B0:Nat}{gl:Nat}{B:Nat}{gs:Nat}{gc:Nat}{n0:Nat}{r:Nat}{g:Nat}{b:Nb}{nk:Nb}{tk:Tr}{fk:List Nat}{pa:Option Addr}{np:Nat}{cp:Nat}{ps:List Int}{ls:List Lz}{df:List Deferred}{listed:Array Bool}{i dd:Nat}{u:Nat→Value}{v:Value}{w:World}(hsz:listed.size=8)(hi:i<8)(h:TGI W0 u0 d B0 gl B gs gc n0 r g b nk tk fk pa np cp ps ls (upB (fun k=>listed.getD k false) i) (upd u dd v) w):TGX W0 u0 d B0 gl B gs gc n0 r g b nk tk fk pa np cp ps ls df (listed.setIfInBounds i true) ((frm 157 u df).put (some dd) v) w :=
 ⟨_,frm_put,by simp [hsz],by rw [show (fun k=>(listed.setIfInBounds i true).getD k false)=upB (fun k=>listed.getD k false) i from funext fun k=>got_set (by omega)];exact h⟩
theorem tg_none{W0:World}{u0:Nat→Value}{d:Nat}{B0:Nat}{gl:Nat}{B:Nat}{gs:Nat}{gc:Nat}{n0:Nat}{r:Nat}{g:Nat}{b:Nb}{nk:Nb}{tk:Tr}{fk:List Nat}{pa:Option Addr}{np:Nat}{cp:Nat}{ps:List Int}{ls:List Lz}{df:List Deferred}{listed:Array Bool}{i:Nat}{u:Nat→Value}{v:Value}{w:World}(hsz:listed.size=8)(hi:i<8)(h:TGI W0 u0 d B0 gl B gs gc n0 r g b nk tk fk pa np cp ps ls (upB (fun k=>listed.getD k false) i) u w):TGX W0 u0 d B0 gl B gs gc n0 r g b nk tk fk pa np cp ps ls df (listed.setIfInBounds i true) ((frm 157 u df).put none v) w :=
 ⟨u,rfl,by simp [hsz],by rw [show (fun k=>(listed.setIfInBounds i true).getD k false)=upB (fun k=>listed.getD k false) i from funext fun k=>got_set (by omega)];exact h⟩
set_option maxRecDepth 100000 in
theorem tg_region{W0:World}{u0:Nat→Value}{d:Nat}{B0:Nat}{gl:Nat}{B:Nat}{gs:Nat}{gc:Nat}{n0:Nat}{r:Nat}{g:Nat}{b:Nb}{nk:Nb}{tk:Tr}{fk:List Nat}{pa:Option Addr}{np:Nat}{cp:Nat}{ps:List Int}{ls:List Lz}(c:TGC W0 u0 d B0 gl B gs gc n0 r g b nk tk fk pa np cp ps ls)(df:List Deferred)(Q:Exit→Act→World→Prop)
  (hQ:∀ u w w1 b' f',(∀ k,(k<58∨64<k)→u k=u0 k)→CO d B0 gl B W0 w1 tk fk ps ls b' f'→NBox w r b'→Kp (fun k=>k=r) w1 w→Q .normal (frm 157 u df) w) :
  wpAny Tryz.prog .any tgOps Q 8 (Array.replicate 8 false) (frm 157 u0 df) W0:=by
 have hL:∀ k,(Array.replicate 8 false).getD k false=false:=fun k=>by
  rcases Nat.lt_or_ge k 8 with hk | hk
  ·simp [hk]
  ·simp [Nat.not_lt.2 hk]
 refine wpAny_inv (TGX W0 u0 d B0 gl B gs gc n0 r g b nk tk fk pa np cp ps ls df) ?_ ?_ 8 _ _ _ (by decide) ⟨u0,rfl,by simp,?_⟩
 case refine_3 =>
  have hF:∀ k,(Array.replicate 8 false).getD k false=true→False:=fun k e=>by rw [hL k] at e;cases e
  exact ⟨fun _ _=>rfl,fun _=>rfl,fun e=>(hF _ e).elim,fun e=>(hF _ e).elim,fun e=>(hF _ e).elim,fun e=>(hF _ e).elim,fun e=>(hF _ e).elim,fun e=>(hF _ e).elim,fun e=>(hF _ e).elim,fun e=>(hF _ e).elim,fun e=>(hF _ e).elim,fun e=>(hF _ e).elim,fun e=>(hF _ e).elim,fun e=>(hF _ e).elim⟩
 ·intro listed a w i hI hi
  obtain ⟨u,rfl,hsz,h⟩:=hI
  have hlt:i<8:=ready_lt hi
  have hno:=ready_not hi
  obtain (rfl | rfl | rfl | rfl | rfl | rfl | rfl | rfl):i=0∨i=1∨i=2∨i=3∨i=4∨i=5∨i=6∨i=7:=by omega
  ·have h6 : listed.getD 6 false = false := by
    cases e:listed.getD 6 false with
    | false=>rfl
    | true=>exact absurd ((h.d6 e).1) (by rw [hno];decide)
   have hw:=h.st h6
   subst hw
   exact wpOp_run rfl rfl (run_ldF rfl ((frm_eval (by decide)).trans ((h.old 3 (by omega)).trans c.e3)) c.ci.ev.co) (tg_put hsz (by decide) (tg0 c h))
  ·exact wpOp_run rfl rfl (run_fa8 rfl ((frm_eval (by decide)).trans ((h.old 4 (by omega)).trans c.e4))) (tg_put hsz (by decide) (tg1 c h))
  ·have hn := ready_needs (l := [1]) hi (by kernel_rfl)
   have h6:listed.getD 6 false=false:=by
    cases e:listed.getD 6 false with
    | false=>rfl
    | true=>exact absurd ((h.d6 e).2.2.1) (by rw [hno];decide)
   have hw:=h.st h6
   subst hw
   exact wpOp_run rfl rfl (run_ldK rfl ((frm_eval (by decide)).trans (h.f1 (hn 1 (by simp)))) c.nb) (tg_put hsz (by decide) (tg2 c h (hn 1 (by simp))))
  ·have hn := ready_needs (l := [2]) hi (by kernel_rfl)
   exact wpOp_run rfl rfl (run_ix0 (fun _=>rfl) rfl ((frm_eval (by decide)).trans ((h.f2 (hn 2 (by simp))).trans (by rw [c.ai]))) c.li) (tg_put hsz (by decide) (tg3 c h (hn 2 (by simp))))
  ·have hn := ready_needs (l := [3]) hi (by kernel_rfl)
   have h6:listed.getD 6 false=false:=by
    cases e:listed.getD 6 false with
    | false=>rfl
    | true=>exact absurd ((h.d6 e).2.2.2.2.1) (by rw [hno];decide)
   have hw:=h.st h6
   subst hw
   exact wpOp_run rfl rfl (run_ldN rfl ((frm_eval (by decide)).trans (h.f3 (hn 3 (by simp)))) c.row) (tg_put hsz (by decide) (tg4 c h (hn 3 (by simp))))
  ·refine wpOp_run rfl rfl (run_mv rfl) ?_
   rw [frm_eval (by decide)]
   exact tg_put hsz (by decide) (tg5 c h)
  ·have hn := ready_needs (l := [0, 4, 5]) hi (by kernel_rfl)
   have hw:=h.st hno
   subst hw
   have h4:=hn 4 (by simp)
   have h3:listed.getD 3 false=true:=h.d4 h4
   refine wpOp_of rfl (step_callF (R:=fun v w'=>∃ b' f',v = .agg b'.arr∧CO d B0 gl B w w' tk fk ps ls b' f') rfl 58 62 63 _ _ rfl ((frm_eval (by decide)).trans (h.f0 (hn 0 (by simp)))) ((frm_eval (by decide)).trans (h.f4 h4)) ((frm_eval (by decide)).trans (h.f5 (hn 5 (by simp)))) e_come ?_ ?_)
   ·refine (c.ih B0 gl B gs gc w nk tk fk pa np cp ps ls c.ci).mono ?_
    rintro e w' ⟨b',f',he,hc⟩
    exact ⟨_,he,b',f',rfl,hc.out⟩
   ·rintro v w' ⟨b', f', rfl, hc⟩
    exact tg_put hsz (by decide) (tg6 c h hno ⟨hn 0 (by simp),(h.d2 (h.d3 h3)),h.d3 h3,h3,h4,hn 5 (by simp)⟩ hc)
  ·have hn := ready_needs (l := [6, 6, 0, 1, 2, 3, 4, 5, 6]) hi (by kernel_rfl)
   obtain ⟨b',f',w1,e64,hc,hw,_⟩:=h.f6 (hn 6 (by simp))
   have hw:=hw hno
   subst hw
   obtain ⟨v0,hv0⟩:=c.ci.lss.box
   have hr:=c.rb.kv hc.kv c.rf hv0
   have hk:=nine_kp (b:=b') hr
   exact wpOp_skip rfl rfl (run_st9b rfl ((frm_eval (by decide)).trans ((h.old 6 (by omega)).trans c.e6)) ((frm_eval (by decide)).trans (e64)) hr) (tg_none hsz (by decide) (tg7 c h (hn 6 (by simp)) e64 hc hk.1 hk.2))
 ·intro listed a w hI hr
  obtain ⟨u,rfl,hsz,h⟩:=hI
  have hd:=ready_done hr hsz (by decide)
  obtain ⟨b',f',w1,_,hc,_,h7⟩:=h.f6 (hd 6 (by decide))
  obtain ⟨hn,hk⟩:=h7 (hd 7 (by decide))
  exact hQ u w w1 b' f' h.old hc hn hk
end Go.Proofs.YtejlaiofpekchaaGreatDoor
namespace Go.Proofs.YtejlaiofpekchaaGreatDoor
open Go.RowKit
set_option linter.unusedVariables false
theorem CI.after{d B0 gl B gs gc:Nat}{w w':World}{b:Nb}{t:Tr}{f:List Nat}{pa:Option Addr}{np cp:Nat}{ps:List Int}{ls ls':List Lz}(h:CI d B0 gl B gs gc w b t f pa np cp ps ls)(hl:LS w' gl B ls')(k:KV [] gl w w')(hb:Below gl w w')(hn:ls'.length+t.size≤500000):CI d B0 gl B gs gc w' b t f pa np cp ps ls':=by
 obtain ⟨v,hv⟩:=h.lss.box
 exact { h with
  fr:=h.fr.kv k (fun _ _ q=>by cases q) hv
  ev:=h.ev.kv k (fun _ q=>by cases q) hv
  lss:=hl
  pt:=h.pt.kv k (fun _ q=>by cases q) hv
  bb:=Nat.le_trans h.bb k.size
  nl:=hn
  tb:=h.tb.on (hb.mono h.lg) }
theorem LS.kp{w w':World}{gl B r:Nat}{ls:List Lz}{z:Nb}(h:LS w gl B ls)(hk:Kp (fun k=>k=r) w w')(hr:NBox w r z):LS w' gl B ls:=by
 obtain ⟨g1,v1,L1,x1,x2,x3⟩:=h
 have hz:Blk w r z.arr 26:=hr
 refine ⟨g1,v1,L1,x1.same (hk.block gl x1.lt (blk_ne x1 hz (by decide))),x2.keep fun k cur e hb hc he=>hk.block k (Array.getElem?_eq_some_iff.1 hc).1 (fun e2=>?_),x3⟩
 subst e2
 unfold Blk at hz
 rw [hz] at hc
 simp at hc
 rcases he with rfl | rfl <;> simp at hc
theorem KV.kp{w w':World}{gl r:Nat}(h:Kp (fun k=>k=r) w w'):KV [r] gl w w':=⟨h.os,h.tape,h.output,h.size,fun k hk hn _ _=>h.block k hk (by simpa using hn)⟩
theorem below_kp{B r:Nat}{w w':World}(h:Kp (fun k=>k=r) w w')(hr:B≤r)(hB:B≤w.heap.size):Below B w w':=h.below hB fun k e=>by omega
theorem KR.first{D:Nat}{w:World}{a:Option Addr}{n c:Nat}{l:List Tr}{f:List Nat}(h:KR D w a n c l f)(h0:0<l.length):∃ (g:Nat) (e:El),a=some ⟨g,0,none⟩∧(∃ cur,Blk w g cur 26)∧0<n∧e.2.1=l.getD 0 nulT∧Fr D w e.1 e.2.1 e.2.2∧(∀ k∈e.2.2,k∈f)∧(∀ j,j<9→w.cell? ⟨g,j,none⟩=e.1.cells[j]?):=by
 rcases h.2 with ⟨rfl,_,_⟩ | ⟨g,es,ha,hn,hn0,hR,rfl,rfl⟩
 ·cases h0
 ·have hes : 0 < es.length := by omega
  obtain ⟨cur,hg,hs,hc⟩:=hR.row
  refine ⟨g,es[0],ha,⟨cur,hg⟩,hn0,?_,hR.el 0 hes,fun k hk=>List.mem_cons_of_mem _ (el_mem hes hk),fun j hj=>?_⟩
  ·simp [elT,List.getD,hes]
  ·rw [cell_row hg]
   have:=hc 0 hes j hj
   rw [Nat.zero_mul,Nat.zero_add] at this
   exact this
set_option maxHeartbeats 4000000 in
set_option maxRecDepth 100000 in
theorem come_tag{d B0 gl B gs gc:Nat}{w:World}{b:Nb}{t:Tr}{f:List Nat}{pa:Option Addr}{np cp:Nat}{ps:List Int}{ls:List Lz}(ih:CmAt d)(h:CI (d+1) B0 gl B gs gc w b t f pa np cp ps ls)(hk:t.kind=9) :
  Calls Tryz.prog 36 #[.agg b.arr, .slice pa np cp, .pointer (some ⟨gs,0,none⟩), .pointer (some ⟨gc,0,none⟩)] w fun e w'=>∃ b' f',e = .returned (.agg b'.arr)∧Hid (CO (d+1) B0 gl B w w' t f ps ls b' f'):=by
 obtain ⟨hN,hR,hB,hS⟩:=boxes_new w b
 have hbk:=h.fr.kind.1
 have hsh:=(Tr.all_eq _ t).1 h.sh
 have hkl:=hsh.1.1 hk
 obtain ⟨tk,htk⟩:∃ tk,t.kids.getD 0 nulT=tk:=⟨_,rfl⟩
 have hmem:tk∈t.kids:=by rw [←htk];simp [List.getD,List.getElem?_eq_getElem hkl]
 have hsz:=Tr.kid_lt hmem
 have ht:tlF (d+1) t ps=((tlF d tk ps).1,⟨ps,4,t.num⟩::(tlF d tk ps).2):=by
  unfold tlF
  rw [tellF,if_neg (by omega),if_neg (by omega),if_neg (by omega),if_pos hk,htk]
 have hbn:=h.fr.kind.2
 have hL:Hid (gl<w.heap.size∧B0≤gl):=⟨h.lss.lt,h.lg⟩
 have h':=h.kept hB
 obtain ⟨v0,hv0⟩:=h'.lss.box
 have kL:=lose_any pa np cp ps 4 t.num _ h'.lss h'.pt h'.bb (by have:=h.nl;omega)
 have g0:=h'.ev.lo.cell 0
 simp at g0
 have eL:=e_lose
 have hflt:Hid (∀ k∈f,k<w.heap.size):=h.fr.lt
 obtain ⟨f0,f1,f2,hm,s1,s2,s3,s4,hk2⟩:=h'.fr.split
 obtain ⟨g,e,ha,⟨cur,hgb⟩,hn,he,hF,hfe,hrow⟩:=KR.first hk2 hkl
 rw [htk] at he
 have hfm:∀ k∈e.2.2,k∈f:=fun k hk=>hm k (List.mem_append_right _ (List.mem_append_right _ (hfe k hk)))
 have hci:CI d B0 gl B gs gc ((w.alloc (.cells b.arr 26)).alloc (.cells #[.int .i64 0, .int .u64 0, .bool false, .string ⟨#[]⟩, .int .i64 0, .string ⟨#[]⟩, .slice none 0 0, .slice none 0 0, .slice none 0 0] 26)) e.1 tk e.2.2 pa np cp ps ls:={ h' with fr:=by rw [←he];exact hF,sh:=hsh.2.2 tk hmem,lo:=fun k hk=>h.lo k (hfm k hk),nl:=by have:=h.nl;omega,nd:=by have:=h.nd;omega }
 have hli:Hid (0<b.li∧b.li≤9223372036854775807):=⟨hn,by have h1:=hk2.1.2.1;have h2:=hk2.1.1;unfold maxLen at h1;omega⟩
 have hai:Hid (b.ai=some ⟨g,0,none⟩):=ha
 have hfm':Hid (∀ k∈e.2.2,k∈f):=hfm
 have hKk:Hid (∀ w2,LS w2 gl B (ls++[⟨ps,4,t.num⟩])→KV [] gl ((w.alloc (.cells b.arr 26)).alloc (.cells #[.int .i64 0, .int .u64 0, .bool false, .string ⟨#[]⟩, .int .i64 0, .string ⟨#[]⟩, .slice none 0 0, .slice none 0 0, .slice none 0 0] 26)) w2→Below gl ((w.alloc (.cells b.arr 26)).alloc (.cells #[.int .i64 0, .int .u64 0, .bool false, .string ⟨#[]⟩, .int .i64 0, .string ⟨#[]⟩, .slice none 0 0, .slice none 0 0, .slice none 0 0] 26)) w2→(∀ j,j<9→w2.cell? ⟨g,j,none⟩=e.1.cells[j]?)∧CI d B0 gl B gs gc w2 e.1 tk e.2.2 pa np cp ps (ls++[⟨ps,4,t.num⟩])):=fun w2 hl k hb=>by
  have hb2:=k.blk hgb (by decide) (by simp) (blk_ne hgb hv0 (by decide))
  exact ⟨fun j hj=>by rw [←hrow j hj,hgb.cell,hb2.cell],hci.after hl k hb (by have:=h.nl;simp;omega)⟩
 have hC:Hid (∀ (w':World) (b':Nb) (f' fk:List Nat),(∀ k∈fk,k∈f)→Fr (2*d) w' b' (tlF d tk ps).1 f'→(∀ k∈f',k∈fk∨w.heap.size≤k)→LS w' gl B (ls++[⟨ps,4,t.num⟩]++(tlF d tk ps).2)→KV f gl w w'→Below B0 w w'→CO (d+1) B0 gl B w w' t f ps ls b' f'):=fun w' b' f' fk hfk h1 h2 h3 h4 h5=>⟨by rw [ht];exact h1.le (by omega),fun k hk=>(h2 k hk).imp (hfk k) id,by rw [ht];simpa using h3,h4,h5⟩
 have k4:(b.kind==4)=false:=by rw [hbk];simp [hk]
 have k6:(b.kind==6)=false:=by rw [hbk];simp [hk]
 have k10:(b.kind==10)=false:=by rw [hbk];simp [hk]
 have k9:(b.kind==9)=true:=by rw [hbk];simp [hk]
 rw [←hbn] at kL
 have hbn':Hid (b.num=t.num):=hbn
 clear h ht hbk hk h' hbn hsh hkl htk hmem hsz hm hk2 hgb hn he hF hfe hrow hfm hci ha s1 s2 s3 s4
 have hB':Hid (Below w.heap.size w ((w.alloc (.cells b.arr 26)).alloc (.cells #[.int .i64 0, .int .u64 0, .bool false, .string ⟨#[]⟩, .int .i64 0, .string ⟨#[]⟩, .slice none 0 0, .slice none 0 0, .slice none 0 0] 26))):=hB
 have hr:Hid (w.heap.size≤w.heap.size+1∧w.heap.size+1<((w.alloc (.cells b.arr 26)).alloc (.cells #[.int .i64 0, .int .u64 0, .bool false, .string ⟨#[]⟩, .int .i64 0, .string ⟨#[]⟩, .slice none 0 0, .slice none 0 0, .slice none 0 0] 26)).heap.size):=⟨by omega,by omega⟩
 clear hB hS
 obtain ⟨a0,a1,a2,a3,a4,a5,a6,a7,a8⟩:=hN.fields
 obtain ⟨m0,m1,m2,m3,m4,m5,m6,m7,m8⟩:=hR.fields
 have z0:=hR.fz 0;have z1:=hR.fz 1;have z2:=hR.fz 2;have z3:=hR.fz 3;have z4:=hR.fz 4;have z5:=hR.fz 5;have z6:=hR.fz 6;have z7:=hR.fz 7;have z8:=hR.fz 8
 go_enter Tryz.func36,Tryz.ntmps36
 go_upto_region 1 with fail
 generalize ((w.alloc (.cells b.arr 26)).alloc (.cells #[.int .i64 0, .int .u64 0, .bool false, .string ⟨#[]⟩, .int .i64 0, .string ⟨#[]⟩, .slice none 0 0, .slice none 0 0, .slice none 0 0] 26))=W at *
 generalize w.heap.size+1=r at *
 go_upto_region 14 with (go_at_fn 34;refine kL.mono ?_;rintro e w2 ⟨rfl,hLS,hK⟩;clear kL;have hN2:Hid (NBox w2 w.heap.size b):=hN.kv hK.out.1 (by simp) hv0;have hR2:Hid (NBox w2 r zN):=hR.kv hK.out.1 (by simp) hv0;obtain ⟨b0,b1,b2,b3,b4,b5,b6,b7,b8⟩:=hN2.out.fields;obtain ⟨n0,n1,n2,n3,n4,n5,n6,n7,n8⟩:=hR2.out.fields;have y0:=hR2.out.fz 0;have y1:=hR2.out.fz 1;have y2:=hR2.out.fz 2;have y3:=hR2.out.fz 3;have y4:=hR2.out.fz 4;have y5:=hR2.out.fz 5;have y6:=hR2.out.fz 6;have y7:=hR2.out.fz 7;have y8:=hR2.out.fz 8)
 clear a0 a1 a2 a3 a4 a5 a6 a7 a8 m0 m1 m2 m3 m4 m5 m6 m7 m8 z0 z1 z2 z3 z4 z5 z6 z7 z8 b0 b1 b2 b3 b4 b5 b6 b7 b8 n0 n1 n2 n3 n4 n5 n6 n7 n8 y0 y1 y2 y3 y4 y5 y6 y7 y8 g0
 rw [hbn'.out] at hLS
 obtain ⟨hrow,hci⟩:=hKk.out w2 hLS.out hK.out.1 hK.out.2
 have hrf:Hid (r ∉ e.2.2):=fun hm=>by have h1:=hflt.out r (hfm'.out r hm);have:=hr.out.1;omega
 refine wp_region_any (by kernel_rfl) ?_
 rw [frm_of (Act.mk _ _)]
 refine tg_region (d:=d) (B0:=B0) (gl:=gl) (B:=B) (gs:=gs) (gc:=gc) (n0:=w.heap.size) (r:=r) (g:=g) (b:=b) (nk:=e.1) (tk:=tk) (fk:=e.2.2) (pa:=pa) (np:=np) (cp:=cp) (ps:=ps) (ls:=ls++[⟨ps,4,t.num⟩]) ?gc [] _ ?gq
 case gc=>exact ⟨rfl,rfl,rfl,rfl,ih,hci.kept (Below.refl _ _).drew,hN2.out,hR2.out,hai.out,hli.out,hrow,hrf.out⟩
 case gq =>
  intro u w5 w1 b' f' hold hco hnb hkp
  have h6:u 6 = .pointer (some ⟨r,0,none⟩):=hold 6 (by omega)
  rw [show frm 157 u []=Act.mk (List.toArray (u 0::u 1::u 2::u 3::u 4::u 5::u 6::u 7::u 8::u 9::u 10::u 11::u 12::u 13::u 14::u 15::u 16::u 17::u 18::u 19::u 20::u 21::u 22::u 23::u 24::u 25::u 26::u 27::u 28::u 29::u 30::u 31::u 32::u 33::u 34::u 35::u 36::u 37::u 38::u 39::u 40::u 41::u 42::u 43::u 44::u 45::u 46::u 47::u 48::u 49::u 50::u 51::u 52::u 53::u 54::u 55::u 56::u 57::u 58::u 59::u 60::u 61::u 62::u 63::u 64::u 65::u 66::u 67::u 68::u 69::u 70::u 71::u 72::u 73::u 74::u 75::u 76::u 77::u 78::u 79::u 80::u 81::u 82::u 83::u 84::u 85::u 86::u 87::u 88::u 89::u 90::u 91::u 92::u 93::u 94::u 95::u 96::u 97::u 98::u 99::u 100::u 101::u 102::u 103::u 104::u 105::u 106::u 107::u 108::u 109::u 110::u 111::u 112::u 113::u 114::u 115::u 116::u 117::u 118::u 119::u 120::u 121::u 122::u 123::u 124::u 125::u 126::u 127::u 128::u 129::u 130::u 131::u 132::u 133::u 134::u 135::u 136::u 137::u 138::u 139::u 140::u 141::u 142::u 143::u 144::u 145::u 146::u 147::u 148::u 149::u 150::u 151::u 152::u 153::u 154::u 155::u 156::[])) [] from rfl,h6]
  obtain ⟨q0,q1,q2,q3,q4,q5,q6,q7,q8⟩:=hnb.fields
  obtain ⟨v2,hv2⟩:=hci.lss.box
  have hkv2:KV e.2.2 gl w2 w1:=(KV.of (f:=e.2.2) (Below.refl _ w2).drew).trans hco.kv (fun i hi _=>hi)
  have hr1:=hR2.out.kv hkv2 hrf.out hv2
  have hsz2:w.heap.size≤w2.heap.size:=Nat.le_trans hB'.out.size hK.out.1.size
  have hrf':r ∉ f':=fun hm=>by
   rcases hco.fs r hm with h1 | h1
   ·exact hrf.out h1
   ·have := hR2.out.lt
    have h2:w2.heap.size≤r:=h1
    omega
  have hFin:=hC.out w5 b' f' e.2.2 hfm'.out (hco.fr.stays fun k hk=>hkp.block k (hco.fr.lt k hk) (fun e2=>hrf' (e2 ▸ hk))) (fun k hk=>(hco.fs k hk).imp id (fun h1=>Nat.le_trans hsz2 h1)) (hco.lss.kp hkp hr1)
   ((((KV.of (f:=f) (gl:=gl) hB'.out).trans hK.out.1 (fun i hi=>by cases hi)).trans hkv2 (fun i hi _=>hfm'.out i hi)).trans (KV.kp hkp) (fun i hi hlt=>by simp at hi;subst hi;have:=hr.out.1;omega))
   ((((hB'.out.mono (by have:=hL.out;omega)).trans (hK.out.2.mono hL.out.2)).trans ((Below.refl B0 w2).drew.trans hco.lw)).trans (below_kp hkp (by have:=hr.out;have:=hL.out;omega) (by have h9:=hkv2.size;have h8:=hL.out;omega)))
  clear hold h6
  unfold Exit.then
  dsimp only
  go_wp2_with fail
  refine bodyPost_ret (v := .agg b'.arr) (by simp [results,Tryz.results36,go_sem,Nb.arr,q0,q1,q2,q3,q4,q5,q6,q7,q8]) rfl ⟨b',f',rfl,hFin⟩
end Go.Proofs.YtejlaiofpekchaaGreatDoor
namespace Go.Proofs.YtejlaiofpekchaaGreatDoor
open Go.RowKit
set_option linter.unusedVariables false
theorem one_pth{w:World}{gb:Nat}{k:Int}(h:Blk w gb #[.int .i64 k] 3):Pth w (some ⟨gb,0,none⟩) 1 1 [k] :=
 ⟨rfl, ⟨by show 1 ≤ maxLen; unfold maxLen; omega, .inr ⟨gb, 0, rfl, fun i hi => by
  have e:i=0:=by simp at hi;omega
  subst e
  exact h.cell 0⟩⟩,Nat.le_refl _,by omega,(fun e=>by cases e),by omega,fun _ x hx=>by cases hx;exact ⟨_,_,h⟩⟩
theorem row_set{w:World}{g j:Nat}{cur:Array Value}(h:Blk w g cur 26)(v:Value):Blk (w.setCell ⟨g,j,none⟩ v) g (cur.setIfInBounds j v) 26:=h.set j v
theorem nine_row{w:World}{g i:Nat}{b:Nb}{cur:Array Value}(h:Blk w g cur 26)(hs:i*9+9≤cur.size):∃ cur',Blk (((((((((w.setCell ⟨g,i*9,none⟩ (.int .i64 b.kind)).setCell ⟨g,i*9+1,none⟩ (.int .u64 b.num)).setCell ⟨g,i*9+2,none⟩ (.bool b.neg)).setCell ⟨g,i*9+3,none⟩ (.string b.dig)).setCell ⟨g,i*9+4,none⟩ (.int .i64 b.exp)).setCell ⟨g,i*9+5,none⟩ (.string b.txt)).setCell ⟨g,i*9+6,none⟩ (.slice b.ab b.lb b.cb)).setCell ⟨g,i*9+7,none⟩ (.slice b.ak b.lk b.ck)).setCell ⟨g,i*9+8,none⟩ (.slice b.ai b.li b.ci)) g cur' 26∧cur'.size=cur.size∧(∀ j,j<9→cur'[i*9+j]? = b.cells[j]?)∧(∀ k,(k<i*9∨i*9+9≤k)→cur'[k]? = cur[k]?)∧Kp (fun k=>k=g) w (((((((((w.setCell ⟨g,i*9,none⟩ (.int .i64 b.kind)).setCell ⟨g,i*9+1,none⟩ (.int .u64 b.num)).setCell ⟨g,i*9+2,none⟩ (.bool b.neg)).setCell ⟨g,i*9+3,none⟩ (.string b.dig)).setCell ⟨g,i*9+4,none⟩ (.int .i64 b.exp)).setCell ⟨g,i*9+5,none⟩ (.string b.txt)).setCell ⟨g,i*9+6,none⟩ (.slice b.ab b.lb b.cb)).setCell ⟨g,i*9+7,none⟩ (.slice b.ak b.lk b.ck)).setCell ⟨g,i*9+8,none⟩ (.slice b.ai b.li b.ci)):=by
 refine ⟨_,row_set (row_set (row_set (row_set (row_set (row_set (row_set (row_set (row_set h _) _) _) _) _) _) _) _) _,by simp,fun j hj=>?_,fun k hk=>?_,((((((((k1_set _ _ _ _).trans (k1_set _ _ _ _)).trans (k1_set _ _ _ _)).trans (k1_set _ _ _ _)).trans (k1_set _ _ _ _)).trans (k1_set _ _ _ _)).trans (k1_set _ _ _ _)).trans (k1_set _ _ _ _)).trans (k1_set _ _ _ _)⟩
 ·rcases (show j=0∨j=1∨j=2∨j=3∨j=4∨j=5∨j=6∨j=7∨j=8 by omega) with rfl | rfl | rfl | rfl | rfl | rfl | rfl | rfl | rfl <;> simp [Array.getElem?_setIfInBounds,Nb.cells] <;> omega
 ·simp only [Array.getElem?_setIfInBounds]
  rw [if_neg (by omega),if_neg (by omega),if_neg (by omega),if_neg (by omega),if_neg (by omega),if_neg (by omega),if_neg (by omega),if_neg (by omega),if_neg (by omega)]
section runs
variable {ev:Operand→Value} {w:World}
theorem run_bsI{o:Oper}{s:Nat}{k:Int}(ho:o.op = .buildSlice 42 1 #[(0, .tmp s)])(h1:ev (.tmp s) = .int .i64 k):(execOp ev o).run Tryz.prog w = .ok (.value (.slice (some ⟨w.heap.size,0,none⟩) 1 1)) (w.alloc (.cells #[.int .i64 k] 3)):=by
 simp [execOp,go_sem, *]
theorem run_ixI{o:Oper}{s x g n c i:Nat}(ho:o.op = .indexAddr 24 (.tmp s) (.tmp x))(h1:ev (.tmp s) = .slice (some ⟨g,0,none⟩) n c)(h2:ev (.tmp x) = .int .i64 i)(hn:i<n∧n≤100000):(execOp ev o).run Tryz.prog w = .ok (.value (.pointer (some ⟨g,i*9,none⟩))) w:=by
 have h0:=hn.1
 simp [execOp,go_sem, *]
theorem run_stR{o:Oper}{s v g i:Nat}{b:Nb}{cur:Array Value}(ho:o.op = .store 26 (.tmp s) (.tmp v))(h1:ev (.tmp s) = .pointer (some ⟨g,i*9,none⟩))(h2:ev (.tmp v) = .agg b.arr)(hz:Blk w g cur 26)(hs:i*9+9≤cur.size):(execOp ev o).run Tryz.prog w = .ok .skip (((((((((w.setCell ⟨g,i*9,none⟩ (.int .i64 b.kind)).setCell ⟨g,i*9+1,none⟩ (.int .u64 b.num)).setCell ⟨g,i*9+2,none⟩ (.bool b.neg)).setCell ⟨g,i*9+3,none⟩ (.string b.dig)).setCell ⟨g,i*9+4,none⟩ (.int .i64 b.exp)).setCell ⟨g,i*9+5,none⟩ (.string b.txt)).setCell ⟨g,i*9+6,none⟩ (.slice b.ab b.lb b.cb)).setCell ⟨g,i*9+7,none⟩ (.slice b.ak b.lk b.ck)).setCell ⟨g,i*9+8,none⟩ (.slice b.ai b.li b.ci)):=by
 have hc:∀ j,j<9→∃ v,w.cell? ⟨g,i*9+j,none⟩=some v:=fun j hj=>⟨cur[i*9+j]'(by omega),by rw [hz.cell];exact Array.getElem?_eq_getElem (by omega)⟩
 obtain ⟨x0,a0⟩:=hc 0 (by omega)
 obtain ⟨x1,a1⟩:=hc 1 (by omega)
 obtain ⟨x2,a2⟩:=hc 2 (by omega)
 obtain ⟨x3,a3⟩:=hc 3 (by omega)
 obtain ⟨x4,a4⟩:=hc 4 (by omega)
 obtain ⟨x5,a5⟩:=hc 5 (by omega)
 obtain ⟨x6,a6⟩:=hc 6 (by omega)
 obtain ⟨x7,a7⟩:=hc 7 (by omega)
 obtain ⟨x8,a8⟩:=hc 8 (by omega)
 have z0:=hz.fz (i*9)
 have z1:=hz.fz (i*9+1)
 have z2:=hz.fz (i*9+2)
 have z3:=hz.fz (i*9+3)
 have z4:=hz.fz (i*9+4)
 have z5:=hz.fz (i*9+5)
 have z6:=hz.fz (i*9+6)
 have z7:=hz.fz (i*9+7)
 have z8:=hz.fz (i*9+8)
 rw [Nat.add_zero] at a0
 rw [Nb.arr] at h2
 clear hc hz
 simp [execOp,go_sem, *]
end runs
def arOps:Array Oper:=#[{ dst:=some 75,op:=Op.fieldAddr 26 (Operand.tmp 4) 8,type:=0,pos := "tell.go:38",after:=#[],guard:=none },{ dst:=some 76,op:=Op.load 24 (Operand.tmp 75),type:=24,pos := "tell.go:38",after:=#[{ on:=0,ground:=Ground.data }],guard:=none },{ dst:=some 77,op:=Op.move (Operand.tmp 9),type:=3,pos := "tell.go:38",after:=#[],guard:=none },{ dst:=some 78,op:=Op.load 52 (Operand.tmp 3),type:=52,pos := "tell.go:38",after:=#[],guard:=none },{ dst:=some 79,op:=Op.load 26 (Operand.tmp 10),type:=26,pos := "tell.go:38",after:=#[],guard:=none },{ dst:=some 80,op:=Op.move (Operand.tmp 1),type:=42,pos := "tell.go:38",after:=#[],guard:=none },{ dst:=some 81,op:=Op.move (Operand.tmp 9),type:=3,pos := "tell.go:38",after:=#[],guard:=none },{ dst:=some 82,op:=Op.buildSlice 42 1 #[(0,Operand.tmp 81)],type:=42,pos := "tell.go:38",after:=#[{ on:=6,ground:=Ground.data }],guard:=none },{ dst:=some 83,op:=Op.call { callee:=Callee.value (Operand.func 39),args:=#[Operand.tmp 80,Operand.tmp 82],argTypes:=#[42,42] },type:=42,pos := "tell.go:38",after:=#[{ on:=5,ground:=Ground.data },{ on:=7,ground:=Ground.data }],guard:=none },{ dst:=some 84,op:=Op.call { callee:=Callee.value (Operand.tmp 78),args:=#[Operand.tmp 79,Operand.tmp 83],argTypes:=#[26,42] },type:=26,pos := "tell.go:38",after:=#[{ on:=3,ground:=Ground.data },{ on:=4,ground:=Ground.data },{ on:=8,ground:=Ground.data },{ on:=8,ground:=Ground.chain }],guard:=none },{ dst:=some 85,op:=Op.indexAddr 24 (Operand.tmp 76) (Operand.tmp 77),type:=0,pos := "tell.go:38",after:=#[{ on:=1,ground:=Ground.data },{ on:=2,ground:=Ground.data },{ on:=0,ground:=Ground.phase },{ on:=1,ground:=Ground.phase },{ on:=2,ground:=Ground.phase },{ on:=3,ground:=Ground.phase },{ on:=4,ground:=Ground.phase },{ on:=5,ground:=Ground.phase },{ on:=6,ground:=Ground.phase },{ on:=7,ground:=Ground.phase },{ on:=8,ground:=Ground.phase },{ on:=9,ground:=Ground.phase }],guard:=none },{ dst:=none,op:=Op.store 26 (Operand.tmp 85) (Operand.tmp 84),type:=0,pos := "tell.go:38",after:=#[{ on:=10,ground:=Ground.data },{ on:=9,ground:=Ground.data },{ on:=9,ground:=Ground.chain },{ on:=0,ground:=Ground.phase },{ on:=1,ground:=Ground.phase },{ on:=2,ground:=Ground.phase },{ on:=3,ground:=Ground.phase },{ on:=4,ground:=Ground.phase },{ on:=5,ground:=Ground.phase },{ on:=6,ground:=Ground.phase },{ on:=7,ground:=Ground.phase },{ on:=8,ground:=Ground.phase },{ on:=9,ground:=Ground.phase }],guard:=none }]
structure ARC(W0:World)(u0:Nat→Value)(d:Nat)(B0:Nat)(gl:Nat)(B:Nat)(gs:Nat)(gc:Nat)(n0:Nat)(kb:Nat)(g:Nat)(i:Nat)(b:Nb)(nk:Nb)(tk:Tr)(fk:List Nat)(pa:Option Addr)(np:Nat)(cp:Nat)(ps:List Int)(ls:List Lz)(cur:Array Value):Prop where
 e1:u0 1 = .slice pa np cp
 e3:u0 3 = .pointer (some ⟨gc,0,none⟩)
 e4:u0 4 = .pointer (some ⟨n0,0,none⟩)
 ei:u0 9 = .int .i64 i
 ek:u0 10 = .pointer (some ⟨kb,0,none⟩)
 ih:CmAt d
 ci:CI d B0 gl B gs gc W0 nk tk fk pa np cp ps ls
 np:np+1+2*d≤500000
 nb:NBox W0 n0 b
 kx:NBox W0 kb nk
 ai:b.ai=some ⟨g,0,none⟩
 li:i<b.li∧b.li≤100000
 row:Blk W0 g cur 26
 cs:i*9+9≤cur.size
 nf:n0 ∉ fk∧g ∉ fk
 ng:n0≠g
structure ARI(W0:World)(u0:Nat→Value)(d:Nat)(B0:Nat)(gl:Nat)(B:Nat)(gs:Nat)(gc:Nat)(n0:Nat)(kb:Nat)(g:Nat)(i:Nat)(b:Nb)(nk:Nb)(tk:Tr)(fk:List Nat)(pa:Option Addr)(np:Nat)(cp:Nat)(ps:List Int)(ls:List Lz)(cur:Array Value)(L:Nat→Bool)(u:Nat→Value)(w:World):Prop where
 old:∀ k,(k<75∨85<k)→u k=u0 k
 bel:L 9=false→Below W0.heap.size W0 w
 nb:NBox w n0 b
 fa:L 0=true→u 75 = .pointer (some ⟨n0,8,none⟩)
 lk:L 1=true→u 76 = .slice b.ai b.li b.ci
 mi:L 2=true→u 77 = .int .i64 i
 lc:L 3=true→u 78 = .func (.func 36) #[] #[.pointer (some ⟨gs,0,none⟩), .pointer (some ⟨gc,0,none⟩)]
 ln:L 4=true→u 79 = .agg nk.arr
 mp:L 5=true→u 80 = .slice pa np cp
 mj:L 6=true→u 81 = .int .i64 i
 bs:L 7=true→L 9=false→∃ gb,u 82 = .slice (some ⟨gb,0,none⟩) 1 1∧Blk w gb #[.int .i64 (i:Nat)] 3
 cb:L 8=true→L 9=false→∃ a n c,u 83 = .slice a n c∧Pth w a n c (ps++[((i:Nat):Int)])
 cc:L 9=true→∃ b' f' wa w1,u 84 = .agg b'.arr∧Below W0.heap.size W0 wa∧CO d B0 gl B wa w1 tk fk (ps++[((i:Nat):Int)]) ls b' f'∧(L 11=false→w=w1)∧(L 11=true→∃ cur',Blk w g cur' 26∧cur'.size=cur.size∧(∀ j,j<9→cur'[i*9+j]? = b'.cells[j]?)∧(∀ k,(k<i*9∨i*9+9≤k)→cur'[k]? = cur[k]?)∧Kp (fun k=>k=g) w1 w)
 ix:L 10=true→u 85 = .pointer (some ⟨g,i*9,none⟩)
 ds:L 11=true→L 9=true
 dc:L 9=true→L 8=true∧L 3=true∧L 4=true
 db:L 8=true→L 7=true
theorem ar0{W0:World}{u0:Nat→Value}{d:Nat}{B0:Nat}{gl:Nat}{B:Nat}{gs:Nat}{gc:Nat}{n0:Nat}{kb:Nat}{g:Nat}{i:Nat}{b:Nb}{nk:Nb}{tk:Tr}{fk:List Nat}{pa:Option Addr}{np:Nat}{cp:Nat}{ps:List Int}{ls:List Lz}{cur:Array Value}{L:Nat→Bool}{u:Nat→Value}{w:World}(c:ARC W0 u0 d B0 gl B gs gc n0 kb g i b nk tk fk pa np cp ps ls cur)(h:ARI W0 u0 d B0 gl B gs gc n0 kb g i b nk tk fk pa np cp ps ls cur L u w):ARI W0 u0 d B0 gl B gs gc n0 kb g i b nk tk fk pa np cp ps ls cur (upB L 0) (upd u 75 (.pointer (some ⟨n0,8,none⟩))) w:=by
 exact { h with
  old:=fun k hk=>by rw [upd_ne u _ (by omega)];exact h.old k hk
  fa:=fun _=>rfl }
theorem ar1{W0:World}{u0:Nat→Value}{d:Nat}{B0:Nat}{gl:Nat}{B:Nat}{gs:Nat}{gc:Nat}{n0:Nat}{kb:Nat}{g:Nat}{i:Nat}{b:Nb}{nk:Nb}{tk:Tr}{fk:List Nat}{pa:Option Addr}{np:Nat}{cp:Nat}{ps:List Int}{ls:List Lz}{cur:Array Value}{L:Nat→Bool}{u:Nat→Value}{w:World}(c:ARC W0 u0 d B0 gl B gs gc n0 kb g i b nk tk fk pa np cp ps ls cur)(h:ARI W0 u0 d B0 gl B gs gc n0 kb g i b nk tk fk pa np cp ps ls cur L u w):ARI W0 u0 d B0 gl B gs gc n0 kb g i b nk tk fk pa np cp ps ls cur (upB L 1) (upd u 76 (.slice b.ai b.li b.ci)) w:=by
 exact { h with
  old:=fun k hk=>by rw [upd_ne u _ (by omega)];exact h.old k hk
  lk:=fun _=>rfl }
theorem ar2{W0:World}{u0:Nat→Value}{d:Nat}{B0:Nat}{gl:Nat}{B:Nat}{gs:Nat}{gc:Nat}{n0:Nat}{kb:Nat}{g:Nat}{i:Nat}{b:Nb}{nk:Nb}{tk:Tr}{fk:List Nat}{pa:Option Addr}{np:Nat}{cp:Nat}{ps:List Int}{ls:List Lz}{cur:Array Value}{L:Nat→Bool}{u:Nat→Value}{w:World}(c:ARC W0 u0 d B0 gl B gs gc n0 kb g i b nk tk fk pa np cp ps ls cur)(h:ARI W0 u0 d B0 gl B gs gc n0 kb g i b nk tk fk pa np cp ps ls cur L u w):ARI W0 u0 d B0 gl B gs gc n0 kb g i b nk tk fk pa np cp ps ls cur (upB L 2) (upd u 77 (u 9)) w:=by
 exact { h with
  old:=fun k hk=>by rw [upd_ne u _ (by omega)];exact h.old k hk
  mi:=fun _=>(h.old 9 (by omega)).trans c.ei }
theorem ar3{W0:World}{u0:Nat→Value}{d:Nat}{B0:Nat}{gl:Nat}{B:Nat}{gs:Nat}{gc:Nat}{n0:Nat}{kb:Nat}{g:Nat}{i:Nat}{b:Nb}{nk:Nb}{tk:Tr}{fk:List Nat}{pa:Option Addr}{np:Nat}{cp:Nat}{ps:List Int}{ls:List Lz}{cur:Array Value}{L:Nat→Bool}{u:Nat→Value}{w:World}(c:ARC W0 u0 d B0 gl B gs gc n0 kb g i b nk tk fk pa np cp ps ls cur)(h:ARI W0 u0 d B0 gl B gs gc n0 kb g i b nk tk fk pa np cp ps ls cur L u w):ARI W0 u0 d B0 gl B gs gc n0 kb g i b nk tk fk pa np cp ps ls cur (upB L 3) (upd u 78 (.func (.func 36) #[] #[.pointer (some ⟨gs,0,none⟩), .pointer (some ⟨gc,0,none⟩)])) w:=by
 exact { h with
  old:=fun k hk=>by rw [upd_ne u _ (by omega)];exact h.old k hk
  lc:=fun _=>rfl
  dc:=fun e=>⟨(h.dc e).1,rfl,(h.dc e).2.2⟩ }
theorem ar4{W0:World}{u0:Nat→Value}{d:Nat}{B0:Nat}{gl:Nat}{B:Nat}{gs:Nat}{gc:Nat}{n0:Nat}{kb:Nat}{g:Nat}{i:Nat}{b:Nb}{nk:Nb}{tk:Tr}{fk:List Nat}{pa:Option Addr}{np:Nat}{cp:Nat}{ps:List Int}{ls:List Lz}{cur:Array Value}{L:Nat→Bool}{u:Nat→Value}{w:World}(c:ARC W0 u0 d B0 gl B gs gc n0 kb g i b nk tk fk pa np cp ps ls cur)(h:ARI W0 u0 d B0 gl B gs gc n0 kb g i b nk tk fk pa np cp ps ls cur L u w):ARI W0 u0 d B0 gl B gs gc n0 kb g i b nk tk fk pa np cp ps ls cur (upB L 4) (upd u 79 (.agg nk.arr)) w:=by
 exact { h with
  old:=fun k hk=>by rw [upd_ne u _ (by omega)];exact h.old k hk
  ln:=fun _=>rfl
  dc:=fun e=>⟨(h.dc e).1,(h.dc e).2.1,rfl⟩ }
theorem ar5{W0:World}{u0:Nat→Value}{d:Nat}{B0:Nat}{gl:Nat}{B:Nat}{gs:Nat}{gc:Nat}{n0:Nat}{kb:Nat}{g:Nat}{i:Nat}{b:Nb}{nk:Nb}{tk:Tr}{fk:List Nat}{pa:Option Addr}{np:Nat}{cp:Nat}{ps:List Int}{ls:List Lz}{cur:Array Value}{L:Nat→Bool}{u:Nat→Value}{w:World}(c:ARC W0 u0 d B0 gl B gs gc n0 kb g i b nk tk fk pa np cp ps ls cur)(h:ARI W0 u0 d B0 gl B gs gc n0 kb g i b nk tk fk pa np cp ps ls cur L u w):ARI W0 u0 d B0 gl B gs gc n0 kb g i b nk tk fk pa np cp ps ls cur (upB L 5) (upd u 80 (u 1)) w:=by
 exact { h with
  old:=fun k hk=>by rw [upd_ne u _ (by omega)];exact h.old k hk
  mp:=fun _=>(h.old 1 (by omega)).trans c.e1 }
theorem ar6{W0:World}{u0:Nat→Value}{d:Nat}{B0:Nat}{gl:Nat}{B:Nat}{gs:Nat}{gc:Nat}{n0:Nat}{kb:Nat}{g:Nat}{i:Nat}{b:Nb}{nk:Nb}{tk:Tr}{fk:List Nat}{pa:Option Addr}{np:Nat}{cp:Nat}{ps:List Int}{ls:List Lz}{cur:Array Value}{L:Nat→Bool}{u:Nat→Value}{w:World}(c:ARC W0 u0 d B0 gl B gs gc n0 kb g i b nk tk fk pa np cp ps ls cur)(h:ARI W0 u0 d B0 gl B gs gc n0 kb g i b nk tk fk pa np cp ps ls cur L u w):ARI W0 u0 d B0 gl B gs gc n0 kb g i b nk tk fk pa np cp ps ls cur (upB L 6) (upd u 81 (u 9)) w:=by
 exact { h with
  old:=fun k hk=>by rw [upd_ne u _ (by omega)];exact h.old k hk
  mj:=fun _=>(h.old 9 (by omega)).trans c.ei }
theorem ar7{W0:World}{u0:Nat→Value}{d:Nat}{B0:Nat}{gl:Nat}{B:Nat}{gs:Nat}{gc:Nat}{n0:Nat}{kb:Nat}{g:Nat}{i:Nat}{b:Nb}{nk:Nb}{tk:Tr}{fk:List Nat}{pa:Option Addr}{np:Nat}{cp:Nat}{ps:List Int}{ls:List Lz}{cur:Array Value}{L:Nat→Bool}{u:Nat→Value}{w:World}(c:ARC W0 u0 d B0 gl B gs gc n0 kb g i b nk tk fk pa np cp ps ls cur)(h:ARI W0 u0 d B0 gl B gs gc n0 kb g i b nk tk fk pa np cp ps ls cur L u w)(hx:L 7=false):ARI W0 u0 d B0 gl B gs gc n0 kb g i b nk tk fk pa np cp ps ls cur (upB L 7) (upd u 82 (.slice (some ⟨w.heap.size,0,none⟩) 1 1)) (w.alloc (.cells #[.int .i64 (i:Nat)] 3)):=by
 have hA:=alloc_below w (.cells #[.int .i64 (i:Nat)] 3)
 have hc:L 9=false:=by cases e:L 9 with | false=>rfl | true=>exact absurd (h.db (h.dc e).1) (by rw [hx];decide)
 exact { h with
  old:=fun k hk=>by rw [upd_ne u _ (by omega)];exact h.old k hk
  bel:=fun e=>(h.bel e).trans (hA.mono (h.bel e).size)
  nb:=h.nb.kept hA h.nb.lt
  bs:=fun _ _=>⟨_,rfl,blk_new w _ _⟩
  cb:=fun e=>absurd (h.db e) (by rw [hx];decide)
  cc:=fun e=>absurd (show L 9=true from e) (by rw [hc];decide)
  db:=fun _=>rfl }
theorem ar8{W0:World}{u0:Nat→Value}{d:Nat}{B0:Nat}{gl:Nat}{B:Nat}{gs:Nat}{gc:Nat}{n0:Nat}{kb:Nat}{g:Nat}{i:Nat}{b:Nb}{nk:Nb}{tk:Tr}{fk:List Nat}{pa:Option Addr}{np:Nat}{cp:Nat}{ps:List Int}{ls:List Lz}{cur:Array Value}{L:Nat→Bool}{u:Nat→Value}{w:World}(c:ARC W0 u0 d B0 gl B gs gc n0 kb g i b nk tk fk pa np cp ps ls cur)(h:ARI W0 u0 d B0 gl B gs gc n0 kb g i b nk tk fk pa np cp ps ls cur L u w){w':World}{a:Option Addr}{n c2:Nat}(hx:L 8=false)(hbs:L 7=true)(hp:Pth w' a n c2 (ps++[((i:Nat):Int)]))(hb:Below w.heap.size w w'):ARI W0 u0 d B0 gl B gs gc n0 kb g i b nk tk fk pa np cp ps ls cur (upB L 8) (upd u 83 (.slice a n c2)) w':=by
 have hc:L 9=false:=by cases e:L 9 with | false=>rfl | true=>exact absurd (h.dc e).1 (by rw [hx];decide)
 exact { h with
  old:=fun k hk=>by rw [upd_ne u _ (by omega)];exact h.old k hk
  bel:=fun e=>(h.bel e).trans (hb.mono (h.bel e).size)
  nb:=h.nb.kept hb h.nb.lt
  bs:=fun a b=>let ⟨x,y,z⟩:=h.bs a b;⟨x,y,z.kept hb z.lt⟩
  cb:=fun _ _=>⟨_,_,_,rfl,hp⟩
  cc:=fun e=>absurd (show L 9=true from e) (by rw [hc];decide)
  dc:=fun e=>absurd (show L 9=true from e) (by rw [hc];decide)
  db:=fun _=>hbs }
theorem ar9{W0:World}{u0:Nat→Value}{d:Nat}{B0:Nat}{gl:Nat}{B:Nat}{gs:Nat}{gc:Nat}{n0:Nat}{kb:Nat}{g:Nat}{i:Nat}{b:Nb}{nk:Nb}{tk:Tr}{fk:List Nat}{pa:Option Addr}{np:Nat}{cp:Nat}{ps:List Int}{ls:List Lz}{cur:Array Value}{L:Nat→Bool}{u:Nat→Value}{w:World}(c:ARC W0 u0 d B0 gl B gs gc n0 kb g i b nk tk fk pa np cp ps ls cur)(h:ARI W0 u0 d B0 gl B gs gc n0 kb g i b nk tk fk pa np cp ps ls cur L u w){w':World}{b':Nb}{f':List Nat}(hx:L 9=false)(hd:L 8=true∧L 3=true∧L 4=true)(hco:CO d B0 gl B w w' tk fk (ps++[((i:Nat):Int)]) ls b' f'):ARI W0 u0 d B0 gl B gs gc n0 kb g i b nk tk fk pa np cp ps ls cur (upB L 9) (upd u 84 (.agg b'.arr)) w':=by
 obtain ⟨v,hv⟩:=(c.ci.lss.kept (h.bel hx)).box
 have hs:L 11=false:=by cases e:L 11 with | false=>rfl | true=>exact absurd (h.ds e) (by rw [hx];decide)
 exact { h with
  old:=fun k hk=>by rw [upd_ne u _ (by omega)];exact h.old k hk
  bel:=fun e=>absurd (show true=false from e) (by decide)
  nb:=h.nb.kv hco.kv c.nf.1 hv
  bs:=fun _ e=>absurd (show true=false from e) (by decide)
  cb:=fun _ e=>absurd (show true=false from e) (by decide)
  cc:=fun _=>⟨b',f',w,w',rfl,h.bel hx,hco,fun _=>rfl,fun e=>absurd (show L 11=true from e) (by rw [hs];decide)⟩
  ds:=fun _=>rfl
  dc:=fun _=>hd }
theorem ar10{W0:World}{u0:Nat→Value}{d:Nat}{B0:Nat}{gl:Nat}{B:Nat}{gs:Nat}{gc:Nat}{n0:Nat}{kb:Nat}{g:Nat}{i:Nat}{b:Nb}{nk:Nb}{tk:Tr}{fk:List Nat}{pa:Option Addr}{np:Nat}{cp:Nat}{ps:List Int}{ls:List Lz}{cur:Array Value}{L:Nat→Bool}{u:Nat→Value}{w:World}(c:ARC W0 u0 d B0 gl B gs gc n0 kb g i b nk tk fk pa np cp ps ls cur)(h:ARI W0 u0 d B0 gl B gs gc n0 kb g i b nk tk fk pa np cp ps ls cur L u w):ARI W0 u0 d B0 gl B gs gc n0 kb g i b nk tk fk pa np cp ps ls cur (upB L 10) (upd u 85 (.pointer (some ⟨g,i*9,none⟩))) w:=by
 exact { h with
  old:=fun k hk=>by rw [upd_ne u _ (by omega)];exact h.old k hk
  ix:=fun _=>rfl }
theorem ar11{W0:World}{u0:Nat→Value}{d:Nat}{B0:Nat}{gl:Nat}{B:Nat}{gs:Nat}{gc:Nat}{n0:Nat}{kb:Nat}{g:Nat}{i:Nat}{b:Nb}{nk:Nb}{tk:Tr}{fk:List Nat}{pa:Option Addr}{np:Nat}{cp:Nat}{ps:List Int}{ls:List Lz}{cur:Array Value}{L:Nat→Bool}{u:Nat→Value}{w:World}(c:ARC W0 u0 d B0 gl B gs gc n0 kb g i b nk tk fk pa np cp ps ls cur)(h:ARI W0 u0 d B0 gl B gs gc n0 kb g i b nk tk fk pa np cp ps ls cur L u w){w' wa:World}{b':Nb}{f':List Nat}{cur':Array Value}(hcc:L 9=true)(he:u 84 = .agg b'.arr)(hwa:Below W0.heap.size W0 wa)(hco:CO d B0 gl B wa w tk fk (ps++[((i:Nat):Int)]) ls b' f')(h1:Blk w' g cur' 26)(h2:cur'.size=cur.size)(h3:∀ j,j<9→cur'[i*9+j]? = b'.cells[j]?)(h4:∀ k,(k<i*9∨i*9+9≤k)→cur'[k]? = cur[k]?)(hk:Kp (fun k=>k=g) w w'):ARI W0 u0 d B0 gl B gs gc n0 kb g i b nk tk fk pa np cp ps ls cur (upB L 11) u w':=by
 exact { h with
  bel:=fun e=>absurd (show L 9=false from e) (by rw [hcc];decide)
  nb:=h.nb.same (hk.block n0 h.nb.lt c.ng)
  bs:=fun _ e=>absurd (show L 9=false from e) (by rw [hcc];decide)
  cb:=fun _ e=>absurd (show L 9=false from e) (by rw [hcc];decide)
  cc:=fun _=>⟨b',f',wa,w,he,hwa,hco,fun e=>absurd (show true=false from e) (by decide),fun _=>⟨cur',h1,h2,h3,h4,hk⟩⟩
  ds:=fun _=>hcc }
def ARX(W0:World)(u0:Nat→Value)(d:Nat)(B0:Nat)(gl:Nat)(B:Nat)(gs:Nat)(gc:Nat)(n0:Nat)(kb:Nat)(g:Nat)(i:Nat)(b:Nb)(nk:Nb)(tk:Tr)(fk:List Nat)(pa:Option Addr)(np:Nat)(cp:Nat)(ps:List Int)(ls:List Lz)(cur:Array Value)(df:List Deferred)(listed:Array Bool)(a:Act)(w:World):Prop :=
 ∃ u,a=frm 157 u df∧listed.size=12∧ARI W0 u0 d B0 gl B gs gc n0 kb g i b nk tk fk pa np cp ps ls cur (fun k=>listed.getD k false) u w
theorem ar_put{W0:World}{u0:Nat→Value}{d:Nat}{B0:Nat}{gl:Nat}{B:Nat}{gs:Nat}{gc:Nat}{n0:Nat}{kb:Nat}{g:Nat}{i:Nat}{b:Nb}{nk:Nb}{tk:Tr}{fk:List Nat}{pa:Option Addr}{np:Nat}{cp:Nat}{ps:List Int}{ls:List Lz}{cur:Array Value}{df:List Deferred}{listed:Array Bool}{jx dd:Nat}{u:Nat→Value}{v:Value}{w:World}(hsz:listed.size=12)(hi:jx<12)(h:ARI W0 u0 d B0 gl B gs gc n0 kb g i b nk tk fk pa np cp ps ls cur (upB (fun k=>listed.getD k false) jx) (upd u dd v) w):ARX W0 u0 d B0 gl B gs gc n0 kb g i b nk tk fk pa np cp ps ls cur df (listed.setIfInBounds jx true) ((frm 157 u df).put (some dd) v) w :=
 ⟨_,frm_put,by simp [hsz],by rw [show (fun k=>(listed.setIfInBounds jx true).getD k false)=upB (fun k=>listed.getD k false) jx from funext fun k=>got_set (by omega)];exact h⟩
theorem ar_none{W0:World}{u0:Nat→Value}{d:Nat}{B0:Nat}{gl:Nat}{B:Nat}{gs:Nat}{gc:Nat}{n0:Nat}{kb:Nat}{g:Nat}{i:Nat}{b:Nb}{nk:Nb}{tk:Tr}{fk:List Nat}{pa:Option Addr}{np:Nat}{cp:Nat}{ps:List Int}{ls:List Lz}{cur:Array Value}{df:List Deferred}{listed:Array Bool}{jx:Nat}{u:Nat→Value}{v:Value}{w:World}(hsz:listed.size=12)(hi:jx<12)(h:ARI W0 u0 d B0 gl B gs gc n0 kb g i b nk tk fk pa np cp ps ls cur (upB (fun k=>listed.getD k false) jx) u w):ARX W0 u0 d B0 gl B gs gc n0 kb g i b nk tk fk pa np cp ps ls cur df (listed.setIfInBounds jx true) ((frm 157 u df).put none v) w :=
 ⟨u,rfl,by simp [hsz],by rw [show (fun k=>(listed.setIfInBounds jx true).getD k false)=upB (fun k=>listed.getD k false) jx from funext fun k=>got_set (by omega)];exact h⟩
set_option maxRecDepth 100000 in
theorem ar_region{W0:World}{u0:Nat→Value}{d:Nat}{B0:Nat}{gl:Nat}{B:Nat}{gs:Nat}{gc:Nat}{n0:Nat}{kb:Nat}{g:Nat}{i:Nat}{b:Nb}{nk:Nb}{tk:Tr}{fk:List Nat}{pa:Option Addr}{np:Nat}{cp:Nat}{ps:List Int}{ls:List Lz}{cur:Array Value}(c:ARC W0 u0 d B0 gl B gs gc n0 kb g i b nk tk fk pa np cp ps ls cur)(df:List Deferred)(Q:Exit→Act→World→Prop)
  (hQ:∀ u w wa w1 b' f' cur',(∀ k,(k<75∨85<k)→u k=u0 k)→NBox w n0 b→Below W0.heap.size W0 wa→CO d B0 gl B wa w1 tk fk (ps++[((i:Nat):Int)]) ls b' f'→Blk w g cur' 26→cur'.size=cur.size→(∀ j,j<9→cur'[i*9+j]? = b'.cells[j]?)→(∀ k,(k<i*9∨i*9+9≤k)→cur'[k]? = cur[k]?)→Kp (fun k=>k=g) w1 w→Q .normal (frm 157 u df) w) :
  wpAny Tryz.prog .any arOps Q 12 (Array.replicate 12 false) (frm 157 u0 df) W0:=by
 have hL:∀ k,(Array.replicate 12 false).getD k false=false:=fun k=>by
  rcases Nat.lt_or_ge k 12 with hk | hk
  ·simp [hk]
  ·simp [Nat.not_lt.2 hk]
 refine wpAny_inv (ARX W0 u0 d B0 gl B gs gc n0 kb g i b nk tk fk pa np cp ps ls cur df) ?_ ?_ 12 _ _ _ (by decide) ⟨u0,rfl,by simp,?_⟩
 case refine_3 =>
  have hF:∀ k,(Array.replicate 12 false).getD k false=true→False:=fun k e=>by rw [hL k] at e;cases e
  exact ⟨fun _ _=>rfl,fun _=>Below.refl _ _,c.nb,fun e=>(hF _ e).elim,fun e=>(hF _ e).elim,fun e=>(hF _ e).elim,fun e=>(hF _ e).elim,fun e=>(hF _ e).elim,fun e=>(hF _ e).elim,fun e=>(hF _ e).elim,fun e=>(hF _ e).elim,fun e=>(hF _ e).elim,fun e=>(hF _ e).elim,fun e=>(hF _ e).elim,fun e=>(hF _ e).elim,fun e=>(hF _ e).elim,fun e=>(hF _ e).elim⟩
 ·intro listed a w jx hI hi
  obtain ⟨u,rfl,hsz,h⟩:=hI
  have hlt:jx<12:=ready_lt hi
  have hno:=ready_not hi
  obtain (rfl | rfl | rfl | rfl | rfl | rfl | rfl | rfl | rfl | rfl | rfl | rfl):jx=0∨jx=1∨jx=2∨jx=3∨jx=4∨jx=5∨jx=6∨jx=7∨jx=8∨jx=9∨jx=10∨jx=11:=by omega
  ·exact wpOp_run rfl rfl (run_fa8 rfl ((frm_eval (by decide)).trans ((h.old 4 (by omega)).trans c.e4))) (ar_put hsz (by decide) (ar0 c h))
  ·have hn := ready_needs (l := [0]) hi (by kernel_rfl)
   exact wpOp_run rfl rfl (run_ldK rfl ((frm_eval (by decide)).trans (h.fa (hn 0 (by simp)))) h.nb) (ar_put hsz (by decide) (ar1 c h))
  ·refine wpOp_run rfl rfl (run_mv rfl) ?_
   rw [frm_eval (by decide)]
   exact ar_put hsz (by decide) (ar2 c h)
  ·have hc : listed.getD 9 false = false := by
    cases e:listed.getD 9 false with
    | false=>rfl
    | true=>exact absurd ((h.dc e).2.1) (by rw [hno];decide)
   exact wpOp_run rfl rfl (run_ldF rfl ((frm_eval (by decide)).trans ((h.old 3 (by omega)).trans c.e3)) (c.ci.ev.kept (h.bel hc)).co) (ar_put hsz (by decide) (ar3 c h))
  ·have hc : listed.getD 9 false = false := by
    cases e:listed.getD 9 false with
    | false=>rfl
    | true=>exact absurd ((h.dc e).2.2) (by rw [hno];decide)
   exact wpOp_run rfl rfl (run_ldN rfl ((frm_eval (by decide)).trans ((h.old 10 (by omega)).trans c.ek)) (fun j _=>(c.kx.kept (h.bel hc) c.kx.lt).cell j)) (ar_put hsz (by decide) (ar4 c h))
  ·refine wpOp_run rfl rfl (run_mv rfl) ?_
   rw [frm_eval (by decide)]
   exact ar_put hsz (by decide) (ar5 c h)
  ·refine wpOp_run rfl rfl (run_mv rfl) ?_
   rw [frm_eval (by decide)]
   exact ar_put hsz (by decide) (ar6 c h)
  ·have hn := ready_needs (l := [6]) hi (by kernel_rfl)
   exact wpOp_run rfl rfl (run_bsI rfl ((frm_eval (by decide)).trans (h.mj (hn 6 (by simp))))) (ar_put hsz (by decide) (ar7 c h hno))
  ·have hn := ready_needs (l := [5, 7]) hi (by kernel_rfl)
   have hc:listed.getD 9 false=false:=by
    cases e:listed.getD 9 false with
    | false=>rfl
    | true=>exact absurd ((h.dc e).1) (by rw [hno];decide)
   have hb:=h.bel hc
   obtain ⟨gb,es,hbk⟩:=h.bs (hn 7 (by simp)) hc
   refine wpOp_of rfl (step_callC (R:=fun v w'=>∃ a n c2,v = .slice a n c2∧Pth w' a n c2 (ps++[((i:Nat):Int)])∧Below w.heap.size w w') rfl (.tmp 80) (.tmp 82) _ _ rfl ((frm_eval (by decide)).trans (h.mp (hn 5 (by simp)))) ((frm_eval (by decide)).trans (es)) (fun _ _=>rfl) ?_ ?_)
   ·refine (below_any (c.ci.pt.kept hb) (one_pth hbk) (by have := c.np; omega)).mono ?_
    rintro e w' ⟨a,n,c2,he,hp,hB⟩
    exact ⟨_,he,a,n,c2,rfl,hp.out,hB.out⟩
   ·rintro v w' ⟨a, n, c2, rfl, hp, hB⟩
    exact (ar_put hsz (by decide) (ar8 c h hno (hn 7 (by simp)) hp hB))
  ·have hn := ready_needs (l := [3, 4, 8, 8]) hi (by kernel_rfl)
   have hb:=h.bel hno
   obtain ⟨a,n,c2,e83,hp⟩:=h.cb (hn 8 (by simp)) hno
   have hlen:=hp.len
   have hci:CI d B0 gl B gs gc w nk tk fk a n c2 (ps++[((i:Nat):Int)]) ls:={ c.ci.kept hb with pt:=hp,nd:=by have h1:=c.np;have h2:=c.ci.pt.len;simp at hlen;omega }
   refine wpOp_of rfl (step_callF (R:=fun v w'=>∃ b' f',v = .agg b'.arr∧CO d B0 gl B w w' tk fk (ps++[((i:Nat):Int)]) ls b' f') rfl 78 79 83 _ _ rfl ((frm_eval (by decide)).trans (h.lc (hn 3 (by simp)))) ((frm_eval (by decide)).trans (h.ln (hn 4 (by simp)))) ((frm_eval (by decide)).trans (e83)) e_come ?_ ?_)
   ·refine (c.ih B0 gl B gs gc w nk tk fk a n c2 _ ls hci).mono ?_
    rintro e w' ⟨b',f',he,hc⟩
    exact ⟨_,he,b',f',rfl,hc.out⟩
   ·rintro v w' ⟨b', f', rfl, hc⟩
    exact (ar_put hsz (by decide) (ar9 c h hno ⟨hn 8 (by simp),hn 3 (by simp),hn 4 (by simp)⟩ hc))
  ·have hn := ready_needs (l := [1, 2, 0, 1, 2, 3, 4, 5, 6, 7, 8, 9]) hi (by kernel_rfl)
   exact wpOp_run rfl rfl (run_ixI rfl ((frm_eval (by decide)).trans ((h.lk (hn 1 (by simp))).trans (by rw [c.ai]))) ((frm_eval (by decide)).trans (h.mi (hn 2 (by simp)))) c.li) (ar_put hsz (by decide) (ar10 c h))
  ·have hn := ready_needs (l := [10, 9, 9, 0, 1, 2, 3, 4, 5, 6, 7, 8, 9]) hi (by kernel_rfl)
   obtain ⟨b',f',wa,w1,e84,hwa,hc,hw,_⟩:=h.cc (hn 9 (by simp))
   have hw:=hw hno
   subst hw
   obtain ⟨v0,hv0⟩:=(c.ci.lss.kept hwa).box
   have hg:=hc.kv.blk (c.row.kept hwa c.row.lt) (by decide) c.nf.2 (blk_ne (c.row.kept hwa c.row.lt) hv0 (by decide))
   obtain ⟨cur',h1,h2,h3,h4,hk⟩:=nine_row (b:=b') hg c.cs
   exact wpOp_skip rfl rfl (run_stR rfl ((frm_eval (by decide)).trans (h.ix (hn 10 (by simp)))) ((frm_eval (by decide)).trans (e84)) hg c.cs) (ar_none hsz (by decide) (ar11 c h (hn 9 (by simp)) e84 hwa hc h1 h2 h3 h4 hk))
 ·intro listed a w hI hr
  obtain ⟨u,rfl,hsz,h⟩:=hI
  have hd:=ready_done hr hsz (by decide)
  obtain ⟨b',f',wa,w1,_,hwa,hco,_,hst⟩:=h.cc (hd 9 (by decide))
  obtain ⟨cur',h1,h2,h3,h4,hk⟩:=hst (hd 11 (by decide))
  exact hQ u w wa w1 b' f' cur' h.old h.nb hwa hco h1 h2 h3 h4 hk
end Go.Proofs.YtejlaiofpekchaaGreatDoor
namespace Go.Proofs.YtejlaiofpekchaaGreatDoor
open Go.RowKit
set_option linter.unusedVariables false
section runs
variable {ev:Operand→Value} {w:World}
theorem run_ml2{o:Oper}{s i:Nat}(hc:∀ v,ev (.const v)=v)(ho:o.op = .binOp .mul 3 (.const (.int .i64 2)) (.tmp s) 3)(h1:ev (.tmp s) = .int .i64 i)(hi:i≤100000):(execOp ev o).run Tryz.prog w = .ok (.value (.int .i64 (2*i:Nat))) w:=by
 have e:IntKind.i64.wrap (2*(i:Int))=2*(i:Int):=by rw [IntKind.wrap_i64];omega
 simp [execOp,go_sem, *]
theorem run_ad1{o:Oper}{s i:Nat}(hc:∀ v,ev (.const v)=v)(ho:o.op = .binOp .add 3 (.tmp s) (.const (.int .i64 1)) 3)(h1:ev (.tmp s) = .int .i64 (2*i:Nat))(hi:i≤100000):(execOp ev o).run Tryz.prog w = .ok (.value (.int .i64 (2*i+1:Nat))) w:=by
 have e:IntKind.i64.wrap (2*(i:Int)+1)=2*(i:Int)+1:=by rw [IntKind.wrap_i64];omega
 simp [execOp,go_sem, *]
end runs
def mpOps:Array Oper:=#[{ dst:=some 101,op:=Op.fieldAddr 26 (Operand.tmp 4) 8,type:=0,pos := "tell.go:44",after:=#[],guard:=none },{ dst:=some 102,op:=Op.load 24 (Operand.tmp 101),type:=24,pos := "tell.go:44",after:=#[{ on:=0,ground:=Ground.data }],guard:=none },{ dst:=some 103,op:=Op.move (Operand.tmp 11),type:=3,pos := "tell.go:44",after:=#[],guard:=none },{ dst:=some 104,op:=Op.load 52 (Operand.tmp 3),type:=52,pos := "tell.go:44",after:=#[],guard:=none },{ dst:=some 105,op:=Op.load 26 (Operand.tmp 12),type:=26,pos := "tell.go:44",after:=#[],guard:=none },{ dst:=some 106,op:=Op.move (Operand.tmp 1),type:=42,pos := "tell.go:44",after:=#[],guard:=none },{ dst:=some 107,op:=Op.move (Operand.tmp 11),type:=3,pos := "tell.go:44",after:=#[],guard:=none },{ dst:=some 108,op:=Op.binOp BinOp.mul 3 (Operand.const (Value.int IntKind.i64 2)) (Operand.tmp 107) 3,type:=3,pos := "tell.go:44",after:=#[{ on:=6,ground:=Ground.data }],guard:=none },{ dst:=some 109,op:=Op.binOp BinOp.add 3 (Operand.tmp 108) (Operand.const (Value.int IntKind.i64 1)) 3,type:=3,pos := "tell.go:44",after:=#[{ on:=7,ground:=Ground.data }],guard:=none },{ dst:=some 110,op:=Op.buildSlice 42 1 #[(0,Operand.tmp 109)],type:=42,pos := "tell.go:44",after:=#[{ on:=8,ground:=Ground.data }],guard:=none },{ dst:=some 111,op:=Op.call { callee:=Callee.value (Operand.func 39),args:=#[Operand.tmp 106,Operand.tmp 110],argTypes:=#[42,42] },type:=42,pos := "tell.go:44",after:=#[{ on:=5,ground:=Ground.data },{ on:=9,ground:=Ground.data }],guard:=none },{ dst:=some 112,op:=Op.call { callee:=Callee.value (Operand.tmp 104),args:=#[Operand.tmp 105,Operand.tmp 111],argTypes:=#[26,42] },type:=26,pos := "tell.go:44",after:=#[{ on:=3,ground:=Ground.data },{ on:=4,ground:=Ground.data },{ on:=10,ground:=Ground.data },{ on:=10,ground:=Ground.chain }],guard:=none },{ dst:=some 113,op:=Op.indexAddr 24 (Operand.tmp 102) (Operand.tmp 103),type:=0,pos := "tell.go:44",after:=#[{ on:=1,ground:=Ground.data },{ on:=2,ground:=Ground.data },{ on:=0,ground:=Ground.phase },{ on:=1,ground:=Ground.phase },{ on:=2,ground:=Ground.phase },{ on:=3,ground:=Ground.phase },{ on:=4,ground:=Ground.phase },{ on:=5,ground:=Ground.phase },{ on:=6,ground:=Ground.phase },{ on:=7,ground:=Ground.phase },{ on:=8,ground:=Ground.phase },{ on:=9,ground:=Ground.phase },{ on:=10,ground:=Ground.phase },{ on:=11,ground:=Ground.phase }],guard:=none },{ dst:=none,op:=Op.store 26 (Operand.tmp 113) (Operand.tmp 112),type:=0,pos := "tell.go:44",after:=#[{ on:=12,ground:=Ground.data },{ on:=11,ground:=Ground.data },{ on:=11,ground:=Ground.chain },{ on:=0,ground:=Ground.phase },{ on:=1,ground:=Ground.phase },{ on:=2,ground:=Ground.phase },{ on:=3,ground:=Ground.phase },{ on:=4,ground:=Ground.phase },{ on:=5,ground:=Ground.phase },{ on:=6,ground:=Ground.phase },{ on:=7,ground:=Ground.phase },{ on:=8,ground:=Ground.phase },{ on:=9,ground:=Ground.phase },{ on:=10,ground:=Ground.phase },{ on:=11,ground:=Ground.phase }],guard:=none }]
structure MPC(W0:World)(u0:Nat→Value)(d:Nat)(B0:Nat)(gl:Nat)(B:Nat)(gs:Nat)(gc:Nat)(n0:Nat)(kb:Nat)(g:Nat)(i:Nat)(b:Nb)(nk:Nb)(tk:Tr)(fk:List Nat)(pa:Option Addr)(np:Nat)(cp:Nat)(ps:List Int)(ls:List Lz)(cur:Array Value):Prop where
 e1:u0 1 = .slice pa np cp
 e3:u0 3 = .pointer (some ⟨gc,0,none⟩)
 e4:u0 4 = .pointer (some ⟨n0,0,none⟩)
 ei:u0 11 = .int .i64 i
 ek:u0 12 = .pointer (some ⟨kb,0,none⟩)
 ih:CmAt d
 ci:CI d B0 gl B gs gc W0 nk tk fk pa np cp ps ls
 np:np+1+2*d≤500000
 nb:NBox W0 n0 b
 kx:NBox W0 kb nk
 ai:b.ai=some ⟨g,0,none⟩
 li:i<b.li∧b.li≤100000
 row:Blk W0 g cur 26
 cs:i*9+9≤cur.size
 nf:n0 ∉ fk∧g ∉ fk
 ng:n0≠g
structure MPI(W0:World)(u0:Nat→Value)(d:Nat)(B0:Nat)(gl:Nat)(B:Nat)(gs:Nat)(gc:Nat)(n0:Nat)(kb:Nat)(g:Nat)(i:Nat)(b:Nb)(nk:Nb)(tk:Tr)(fk:List Nat)(pa:Option Addr)(np:Nat)(cp:Nat)(ps:List Int)(ls:List Lz)(cur:Array Value)(L:Nat→Bool)(u:Nat→Value)(w:World):Prop where
 old:∀ k,(k<101∨113<k)→u k=u0 k
 bel:L 11=false→Below W0.heap.size W0 w
 nb:NBox w n0 b
 fa:L 0=true→u 101 = .pointer (some ⟨n0,8,none⟩)
 lk:L 1=true→u 102 = .slice b.ai b.li b.ci
 mi:L 2=true→u 103 = .int .i64 i
 lc:L 3=true→u 104 = .func (.func 36) #[] #[.pointer (some ⟨gs,0,none⟩), .pointer (some ⟨gc,0,none⟩)]
 ln:L 4=true→u 105 = .agg nk.arr
 mp:L 5=true→u 106 = .slice pa np cp
 mj:L 6=true→u 107 = .int .i64 i
 ml:L 7=true→u 108 = .int .i64 (2*i:Nat)
 ad:L 8=true→u 109 = .int .i64 (2*i+1:Nat)
 bs:L 9=true→L 11=false→∃ gb,u 110 = .slice (some ⟨gb,0,none⟩) 1 1∧Blk w gb #[.int .i64 ((2*i+1):Nat)] 3
 cb:L 10=true→L 11=false→∃ a n c,u 111 = .slice a n c∧Pth w a n c (ps++[(((2*i+1):Nat):Int)])
 cc:L 11=true→∃ b' f' wa w1,u 112 = .agg b'.arr∧Below W0.heap.size W0 wa∧CO d B0 gl B wa w1 tk fk (ps++[(((2*i+1):Nat):Int)]) ls b' f'∧(L 13=false→w=w1)∧(L 13=true→∃ cur',Blk w g cur' 26∧cur'.size=cur.size∧(∀ j,j<9→cur'[i*9+j]? = b'.cells[j]?)∧(∀ k,(k<i*9∨i*9+9≤k)→cur'[k]? = cur[k]?)∧Kp (fun k=>k=g) w1 w)
 ix:L 12=true→u 113 = .pointer (some ⟨g,i*9,none⟩)
 ds:L 13=true→L 11=true
 dc:L 11=true→L 10=true∧L 3=true∧L 4=true
 db:L 10=true→L 9=true
theorem mp0{W0:World}{u0:Nat→Value}{d:Nat}{B0:Nat}{gl:Nat}{B:Nat}{gs:Nat}{gc:Nat}{n0:Nat}{kb:Nat}{g:Nat}{i:Nat}{b:Nb}{nk:Nb}{tk:Tr}{fk:List Nat}{pa:Option Addr}{np:Nat}{cp:Nat}{ps:List Int}{ls:List Lz}{cur:Array Value}{L:Nat→Bool}{u:Nat→Value}{w:World}(c:MPC W0 u0 d B0 gl B gs gc n0 kb g i b nk tk fk pa np cp ps ls cur)(h:MPI W0 u0 d B0 gl B gs gc n0 kb g i b nk tk fk pa np cp ps ls cur L u w):MPI W0 u0 d B0 gl B gs gc n0 kb g i b nk tk fk pa np cp ps ls cur (upB L 0) (upd u 101 (.pointer (some ⟨n0,8,none⟩))) w:=by
 exact { h with
  old:=fun k hk=>by rw [upd_ne u _ (by omega)];exact h.old k hk
  fa:=fun _=>rfl }
theorem mp1{W0:World}{u0:Nat→Value}{d:Nat}{B0:Nat}{gl:Nat}{B:Nat}{gs:Nat}{gc:Nat}{n0:Nat}{kb:Nat}{g:Nat}{i:Nat}{b:Nb}{nk:Nb}{tk:Tr}{fk:List Nat}{pa:Option Addr}{np:Nat}{cp:Nat}{ps:List Int}{ls:List Lz}{cur:Array Value}{L:Nat→Bool}{u:Nat→Value}{w:World}(c:MPC W0 u0 d B0 gl B gs gc n0 kb g i b nk tk fk pa np cp ps ls cur)(h:MPI W0 u0 d B0 gl B gs gc n0 kb g i b nk tk fk pa np cp ps ls cur L u w):MPI W0 u0 d B0 gl B gs gc n0 kb g i b nk tk fk pa np cp ps ls cur (upB L 1) (upd u 102 (.slice b.ai b.li b.ci)) w:=by
 exact { h with
  old:=fun k hk=>by rw [upd_ne u _ (by omega)];exact h.old k hk
  lk:=fun _=>rfl }
theorem mp2{W0:World}{u0:Nat→Value}{d:Nat}{B0:Nat}{gl:Nat}{B:Nat}{gs:Nat}{gc:Nat}{n0:Nat}{kb:Nat}{g:Nat}{i:Nat}{b:Nb}{nk:Nb}{tk:Tr}{fk:List Nat}{pa:Option Addr}{np:Nat}{cp:Nat}{ps:List Int}{ls:List Lz}{cur:Array Value}{L:Nat→Bool}{u:Nat→Value}{w:World}(c:MPC W0 u0 d B0 gl B gs gc n0 kb g i b nk tk fk pa np cp ps ls cur)(h:MPI W0 u0 d B0 gl B gs gc n0 kb g i b nk tk fk pa np cp ps ls cur L u w):MPI W0 u0 d B0 gl B gs gc n0 kb g i b nk tk fk pa np cp ps ls cur (upB L 2) (upd u 103 (u 11)) w:=by
 exact { h with
  old:=fun k hk=>by rw [upd_ne u _ (by omega)];exact h.old k hk
  mi:=fun _=>(h.old 11 (by omega)).trans c.ei }
theorem mp3{W0:World}{u0:Nat→Value}{d:Nat}{B0:Nat}{gl:Nat}{B:Nat}{gs:Nat}{gc:Nat}{n0:Nat}{kb:Nat}{g:Nat}{i:Nat}{b:Nb}{nk:Nb}{tk:Tr}{fk:List Nat}{pa:Option Addr}{np:Nat}{cp:Nat}{ps:List Int}{ls:List Lz}{cur:Array Value}{L:Nat→Bool}{u:Nat→Value}{w:World}(c:MPC W0 u0 d B0 gl B gs gc n0 kb g i b nk tk fk pa np cp ps ls cur)(h:MPI W0 u0 d B0 gl B gs gc n0 kb g i b nk tk fk pa np cp ps ls cur L u w):MPI W0 u0 d B0 gl B gs gc n0 kb g i b nk tk fk pa np cp ps ls cur (upB L 3) (upd u 104 (.func (.func 36) #[] #[.pointer (some ⟨gs,0,none⟩), .pointer (some ⟨gc,0,none⟩)])) w:=by
 exact { h with
  old:=fun k hk=>by rw [upd_ne u _ (by omega)];exact h.old k hk
  lc:=fun _=>rfl
  dc:=fun e=>⟨(h.dc e).1,rfl,(h.dc e).2.2⟩ }
theorem mp4{W0:World}{u0:Nat→Value}{d:Nat}{B0:Nat}{gl:Nat}{B:Nat}{gs:Nat}{gc:Nat}{n0:Nat}{kb:Nat}{g:Nat}{i:Nat}{b:Nb}{nk:Nb}{tk:Tr}{fk:List Nat}{pa:Option Addr}{np:Nat}{cp:Nat}{ps:List Int}{ls:List Lz}{cur:Array Value}{L:Nat→Bool}{u:Nat→Value}{w:World}(c:MPC W0 u0 d B0 gl B gs gc n0 kb g i b nk tk fk pa np cp ps ls cur)(h:MPI W0 u0 d B0 gl B gs gc n0 kb g i b nk tk fk pa np cp ps ls cur L u w):MPI W0 u0 d B0 gl B gs gc n0 kb g i b nk tk fk pa np cp ps ls cur (upB L 4) (upd u 105 (.agg nk.arr)) w:=by
 exact { h with
  old:=fun k hk=>by rw [upd_ne u _ (by omega)];exact h.old k hk
  ln:=fun _=>rfl
  dc:=fun e=>⟨(h.dc e).1,(h.dc e).2.1,rfl⟩ }
theorem mp5{W0:World}{u0:Nat→Value}{d:Nat}{B0:Nat}{gl:Nat}{B:Nat}{gs:Nat}{gc:Nat}{n0:Nat}{kb:Nat}{g:Nat}{i:Nat}{b:Nb}{nk:Nb}{tk:Tr}{fk:List Nat}{pa:Option Addr}{np:Nat}{cp:Nat}{ps:List Int}{ls:List Lz}{cur:Array Value}{L:Nat→Bool}{u:Nat→Value}{w:World}(c:MPC W0 u0 d B0 gl B gs gc n0 kb g i b nk tk fk pa np cp ps ls cur)(h:MPI W0 u0 d B0 gl B gs gc n0 kb g i b nk tk fk pa np cp ps ls cur L u w):MPI W0 u0 d B0 gl B gs gc n0 kb g i b nk tk fk pa np cp ps ls cur (upB L 5) (upd u 106 (u 1)) w:=by
 exact { h with
  old:=fun k hk=>by rw [upd_ne u _ (by omega)];exact h.old k hk
  mp:=fun _=>(h.old 1 (by omega)).trans c.e1 }
theorem mp6{W0:World}{u0:Nat→Value}{d:Nat}{B0:Nat}{gl:Nat}{B:Nat}{gs:Nat}{gc:Nat}{n0:Nat}{kb:Nat}{g:Nat}{i:Nat}{b:Nb}{nk:Nb}{tk:Tr}{fk:List Nat}{pa:Option Addr}{np:Nat}{cp:Nat}{ps:List Int}{ls:List Lz}{cur:Array Value}{L:Nat→Bool}{u:Nat→Value}{w:World}(c:MPC W0 u0 d B0 gl B gs gc n0 kb g i b nk tk fk pa np cp ps ls cur)(h:MPI W0 u0 d B0 gl B gs gc n0 kb g i b nk tk fk pa np cp ps ls cur L u w):MPI W0 u0 d B0 gl B gs gc n0 kb g i b nk tk fk pa np cp ps ls cur (upB L 6) (upd u 107 (u 11)) w:=by
 exact { h with
  old:=fun k hk=>by rw [upd_ne u _ (by omega)];exact h.old k hk
  mj:=fun _=>(h.old 11 (by omega)).trans c.ei }
theorem mp7{W0:World}{u0:Nat→Value}{d:Nat}{B0:Nat}{gl:Nat}{B:Nat}{gs:Nat}{gc:Nat}{n0:Nat}{kb:Nat}{g:Nat}{i:Nat}{b:Nb}{nk:Nb}{tk:Tr}{fk:List Nat}{pa:Option Addr}{np:Nat}{cp:Nat}{ps:List Int}{ls:List Lz}{cur:Array Value}{L:Nat→Bool}{u:Nat→Value}{w:World}(c:MPC W0 u0 d B0 gl B gs gc n0 kb g i b nk tk fk pa np cp ps ls cur)(h:MPI W0 u0 d B0 gl B gs gc n0 kb g i b nk tk fk pa np cp ps ls cur L u w):MPI W0 u0 d B0 gl B gs gc n0 kb g i b nk tk fk pa np cp ps ls cur (upB L 7) (upd u 108 (.int .i64 (2*i:Nat))) w:=by
 exact { h with
  old:=fun k hk=>by rw [upd_ne u _ (by omega)];exact h.old k hk
  ml:=fun _=>rfl }
theorem mp8{W0:World}{u0:Nat→Value}{d:Nat}{B0:Nat}{gl:Nat}{B:Nat}{gs:Nat}{gc:Nat}{n0:Nat}{kb:Nat}{g:Nat}{i:Nat}{b:Nb}{nk:Nb}{tk:Tr}{fk:List Nat}{pa:Option Addr}{np:Nat}{cp:Nat}{ps:List Int}{ls:List Lz}{cur:Array Value}{L:Nat→Bool}{u:Nat→Value}{w:World}(c:MPC W0 u0 d B0 gl B gs gc n0 kb g i b nk tk fk pa np cp ps ls cur)(h:MPI W0 u0 d B0 gl B gs gc n0 kb g i b nk tk fk pa np cp ps ls cur L u w):MPI W0 u0 d B0 gl B gs gc n0 kb g i b nk tk fk pa np cp ps ls cur (upB L 8) (upd u 109 (.int .i64 (2*i+1:Nat))) w:=by
 exact { h with
  old:=fun k hk=>by rw [upd_ne u _ (by omega)];exact h.old k hk
  ad:=fun _=>rfl }
theorem mp9{W0:World}{u0:Nat→Value}{d:Nat}{B0:Nat}{gl:Nat}{B:Nat}{gs:Nat}{gc:Nat}{n0:Nat}{kb:Nat}{g:Nat}{i:Nat}{b:Nb}{nk:Nb}{tk:Tr}{fk:List Nat}{pa:Option Addr}{np:Nat}{cp:Nat}{ps:List Int}{ls:List Lz}{cur:Array Value}{L:Nat→Bool}{u:Nat→Value}{w:World}(c:MPC W0 u0 d B0 gl B gs gc n0 kb g i b nk tk fk pa np cp ps ls cur)(h:MPI W0 u0 d B0 gl B gs gc n0 kb g i b nk tk fk pa np cp ps ls cur L u w)(hx:L 9=false):MPI W0 u0 d B0 gl B gs gc n0 kb g i b nk tk fk pa np cp ps ls cur (upB L 9) (upd u 110 (.slice (some ⟨w.heap.size,0,none⟩) 1 1)) (w.alloc (.cells #[.int .i64 ((2*i+1):Nat)] 3)):=by
 have hA:=alloc_below w (.cells #[.int .i64 ((2*i+1):Nat)] 3)
 have hc:L 11=false:=by cases e:L 11 with | false=>rfl | true=>exact absurd (h.db (h.dc e).1) (by rw [hx];decide)
 exact { h with
  old:=fun k hk=>by rw [upd_ne u _ (by omega)];exact h.old k hk
  bel:=fun e=>(h.bel e).trans (hA.mono (h.bel e).size)
  nb:=h.nb.kept hA h.nb.lt
  bs:=fun _ _=>⟨_,rfl,blk_new w _ _⟩
  cb:=fun e=>absurd (h.db e) (by rw [hx];decide)
  cc:=fun e=>absurd (show L 11=true from e) (by rw [hc];decide)
  db:=fun _=>rfl }
theorem mp10{W0:World}{u0:Nat→Value}{d:Nat}{B0:Nat}{gl:Nat}{B:Nat}{gs:Nat}{gc:Nat}{n0:Nat}{kb:Nat}{g:Nat}{i:Nat}{b:Nb}{nk:Nb}{tk:Tr}{fk:List Nat}{pa:Option Addr}{np:Nat}{cp:Nat}{ps:List Int}{ls:List Lz}{cur:Array Value}{L:Nat→Bool}{u:Nat→Value}{w:World}(c:MPC W0 u0 d B0 gl B gs gc n0 kb g i b nk tk fk pa np cp ps ls cur)(h:MPI W0 u0 d B0 gl B gs gc n0 kb g i b nk tk fk pa np cp ps ls cur L u w){w':World}{a:Option Addr}{n c2:Nat}(hx:L 10=false)(hbs:L 9=true)(hp:Pth w' a n c2 (ps++[(((2*i+1):Nat):Int)]))(hb:Below w.heap.size w w'):MPI W0 u0 d B0 gl B gs gc n0 kb g i b nk tk fk pa np cp ps ls cur (upB L 10) (upd u 111 (.slice a n c2)) w':=by
 have hc:L 11=false:=by cases e:L 11 with | false=>rfl | true=>exact absurd (h.dc e).1 (by rw [hx];decide)
 exact { h with
  old:=fun k hk=>by rw [upd_ne u _ (by omega)];exact h.old k hk
  bel:=fun e=>(h.bel e).trans (hb.mono (h.bel e).size)
  nb:=h.nb.kept hb h.nb.lt
  bs:=fun a b=>let ⟨x,y,z⟩:=h.bs a b;⟨x,y,z.kept hb z.lt⟩
  cb:=fun _ _=>⟨_,_,_,rfl,hp⟩
  cc:=fun e=>absurd (show L 11=true from e) (by rw [hc];decide)
  dc:=fun e=>absurd (show L 11=true from e) (by rw [hc];decide)
  db:=fun _=>hbs }
theorem mp11{W0:World}{u0:Nat→Value}{d:Nat}{B0:Nat}{gl:Nat}{B:Nat}{gs:Nat}{gc:Nat}{n0:Nat}{kb:Nat}{g:Nat}{i:Nat}{b:Nb}{nk:Nb}{tk:Tr}{fk:List Nat}{pa:Option Addr}{np:Nat}{cp:Nat}{ps:List Int}{ls:List Lz}{cur:Array Value}{L:Nat→Bool}{u:Nat→Value}{w:World}(c:MPC W0 u0 d B0 gl B gs gc n0 kb g i b nk tk fk pa np cp ps ls cur)(h:MPI W0 u0 d B0 gl B gs gc n0 kb g i b nk tk fk pa np cp ps ls cur L u w){w':World}{b':Nb}{f':List Nat}(hx:L 11=false)(hd:L 10=true∧L 3=true∧L 4=true)(hco:CO d B0 gl B w w' tk fk (ps++[(((2*i+1):Nat):Int)]) ls b' f'):MPI W0 u0 d B0 gl B gs gc n0 kb g i b nk tk fk pa np cp ps ls cur (upB L 11) (upd u 112 (.agg b'.arr)) w':=by
 obtain ⟨v,hv⟩:=(c.ci.lss.kept (h.bel hx)).box
 have hs:L 13=false:=by cases e:L 13 with | false=>rfl | true=>exact absurd (h.ds e) (by rw [hx];decide)
 exact { h with
  old:=fun k hk=>by rw [upd_ne u _ (by omega)];exact h.old k hk
  bel:=fun e=>absurd (show true=false from e) (by decide)
  nb:=h.nb.kv hco.kv c.nf.1 hv
  bs:=fun _ e=>absurd (show true=false from e) (by decide)
  cb:=fun _ e=>absurd (show true=false from e) (by decide)
  cc:=fun _=>⟨b',f',w,w',rfl,h.bel hx,hco,fun _=>rfl,fun e=>absurd (show L 13=true from e) (by rw [hs];decide)⟩
  ds:=fun _=>rfl
  dc:=fun _=>hd }
theorem mp12{W0:World}{u0:Nat→Value}{d:Nat}{B0:Nat}{gl:Nat}{B:Nat}{gs:Nat}{gc:Nat}{n0:Nat}{kb:Nat}{g:Nat}{i:Nat}{b:Nb}{nk:Nb}{tk:Tr}{fk:List Nat}{pa:Option Addr}{np:Nat}{cp:Nat}{ps:List Int}{ls:List Lz}{cur:Array Value}{L:Nat→Bool}{u:Nat→Value}{w:World}(c:MPC W0 u0 d B0 gl B gs gc n0 kb g i b nk tk fk pa np cp ps ls cur)(h:MPI W0 u0 d B0 gl B gs gc n0 kb g i b nk tk fk pa np cp ps ls cur L u w):MPI W0 u0 d B0 gl B gs gc n0 kb g i b nk tk fk pa np cp ps ls cur (upB L 12) (upd u 113 (.pointer (some ⟨g,i*9,none⟩))) w:=by
 exact { h with
  old:=fun k hk=>by rw [upd_ne u _ (by omega)];exact h.old k hk
  ix:=fun _=>rfl }
theorem mp13{W0:World}{u0:Nat→Value}{d:Nat}{B0:Nat}{gl:Nat}{B:Nat}{gs:Nat}{gc:Nat}{n0:Nat}{kb:Nat}{g:Nat}{i:Nat}{b:Nb}{nk:Nb}{tk:Tr}{fk:List Nat}{pa:Option Addr}{np:Nat}{cp:Nat}{ps:List Int}{ls:List Lz}{cur:Array Value}{L:Nat→Bool}{u:Nat→Value}{w:World}(c:MPC W0 u0 d B0 gl B gs gc n0 kb g i b nk tk fk pa np cp ps ls cur)(h:MPI W0 u0 d B0 gl B gs gc n0 kb g i b nk tk fk pa np cp ps ls cur L u w){w' wa:World}{b':Nb}{f':List Nat}{cur':Array Value}(hcc:L 11=true)(he:u 112 = .agg b'.arr)(hwa:Below W0.heap.size W0 wa)(hco:CO d B0 gl B wa w tk fk (ps++[(((2*i+1):Nat):Int)]) ls b' f')(h1:Blk w' g cur' 26)(h2:cur'.size=cur.size)(h3:∀ j,j<9→cur'[i*9+j]? = b'.cells[j]?)(h4:∀ k,(k<i*9∨i*9+9≤k)→cur'[k]? = cur[k]?)(hk:Kp (fun k=>k=g) w w'):MPI W0 u0 d B0 gl B gs gc n0 kb g i b nk tk fk pa np cp ps ls cur (upB L 13) u w':=by
 exact { h with
  bel:=fun e=>absurd (show L 11=false from e) (by rw [hcc];decide)
  nb:=h.nb.same (hk.block n0 h.nb.lt c.ng)
  bs:=fun _ e=>absurd (show L 11=false from e) (by rw [hcc];decide)
  cb:=fun _ e=>absurd (show L 11=false from e) (by rw [hcc];decide)
  cc:=fun _=>⟨b',f',wa,w,he,hwa,hco,fun e=>absurd (show true=false from e) (by decide),fun _=>⟨cur',h1,h2,h3,h4,hk⟩⟩
  ds:=fun _=>hcc }
def MPX(W0:World)(u0:Nat→Value)(d:Nat)(B0:Nat)(gl:Nat)(B:Nat)(gs:Nat)(gc:Nat)(n0:Nat)(kb:Nat)(g:Nat)(i:Nat)(b:Nb)(nk:Nb)(tk:Tr)(fk:List Nat)(pa:Option Addr)(np:Nat)(cp:Nat)(ps:List Int)(ls:List Lz)(cur:Array Value)(df:List Deferred)(listed:Array Bool)(a:Act)(w:World):Prop :=
 ∃ u,a=frm 157 u df∧listed.size=14∧MPI W0 u0 d B0 gl B gs gc n0 kb g i b nk tk fk pa np cp ps ls cur (fun k=>listed.getD k false) u w
theorem mp_put{W0:World}{u0:Nat→Value}{d:Nat}{B0:Nat}{gl:Nat}{B:Nat}{gs:Nat}{gc:Nat}{n0:Nat}{kb:Nat}{g:Nat}{i:Nat}{b:Nb}{nk:Nb}{tk:Tr}{fk:List Nat}{pa:Option Addr}{np:Nat}{cp:Nat}{ps:List Int}{ls:List Lz}{cur:Array Value}{df:List Deferred}{listed:Array Bool}{jx dd:Nat}{u:Nat→Value}{v:Value}{w:World}(hsz:listed.size=14)(hi:jx<14)(h:MPI W0 u0 d B0 gl B gs gc n0 kb g i b nk tk fk pa np cp ps ls cur (upB (fun k=>listed.getD k false) jx) (upd u dd v) w):MPX W0 u0 d B0 gl B gs gc n0 kb g i b nk tk fk pa np cp ps ls cur df (listed.setIfInBounds jx true) ((frm 157 u df).put (some dd) v) w :=
 ⟨_,frm_put,by simp [hsz],by rw [show (fun k=>(listed.setIfInBounds jx true).getD k false)=upB (fun k=>listed.getD k false) jx from funext fun k=>got_set (by omega)];exact h⟩
theorem mp_none{W0:World}{u0:Nat→Value}{d:Nat}{B0:Nat}{gl:Nat}{B:Nat}{gs:Nat}{gc:Nat}{n0:Nat}{kb:Nat}{g:Nat}{i:Nat}{b:Nb}{nk:Nb}{tk:Tr}{fk:List Nat}{pa:Option Addr}{np:Nat}{cp:Nat}{ps:List Int}{ls:List Lz}{cur:Array Value}{df:List Deferred}{listed:Array Bool}{jx:Nat}{u:Nat→Value}{v:Value}{w:World}(hsz:listed.size=14)(hi:jx<14)(h:MPI W0 u0 d B0 gl B gs gc n0 kb g i b nk tk fk pa np cp ps ls cur (upB (fun k=>listed.getD k false) jx) u w):MPX W0 u0 d B0 gl B gs gc n0 kb g i b nk tk fk pa np cp ps ls cur df (listed.setIfInBounds jx true) ((frm 157 u df).put none v) w :=
 ⟨u,rfl,by simp [hsz],by rw [show (fun k=>(listed.setIfInBounds jx true).getD k false)=upB (fun k=>listed.getD k false) jx from funext fun k=>got_set (by omega)];exact h⟩
set_option maxRecDepth 100000 in
theorem mp_region{W0:World}{u0:Nat→Value}{d:Nat}{B0:Nat}{gl:Nat}{B:Nat}{gs:Nat}{gc:Nat}{n0:Nat}{kb:Nat}{g:Nat}{i:Nat}{b:Nb}{nk:Nb}{tk:Tr}{fk:List Nat}{pa:Option Addr}{np:Nat}{cp:Nat}{ps:List Int}{ls:List Lz}{cur:Array Value}(c:MPC W0 u0 d B0 gl B gs gc n0 kb g i b nk tk fk pa np cp ps ls cur)(df:List Deferred)(Q:Exit→Act→World→Prop)
  (hQ:∀ u w wa w1 b' f' cur',(∀ k,(k<101∨113<k)→u k=u0 k)→NBox w n0 b→Below W0.heap.size W0 wa→CO d B0 gl B wa w1 tk fk (ps++[(((2*i+1):Nat):Int)]) ls b' f'→Blk w g cur' 26→cur'.size=cur.size→(∀ j,j<9→cur'[i*9+j]? = b'.cells[j]?)→(∀ k,(k<i*9∨i*9+9≤k)→cur'[k]? = cur[k]?)→Kp (fun k=>k=g) w1 w→Q .normal (frm 157 u df) w) :
  wpAny Tryz.prog .any mpOps Q 14 (Array.replicate 14 false) (frm 157 u0 df) W0:=by
 have hL:∀ k,(Array.replicate 14 false).getD k false=false:=fun k=>by
  rcases Nat.lt_or_ge k 14 with hk | hk
  ·simp [hk]
  ·simp [Nat.not_lt.2 hk]
 refine wpAny_inv (MPX W0 u0 d B0 gl B gs gc n0 kb g i b nk tk fk pa np cp ps ls cur df) ?_ ?_ 14 _ _ _ (by decide) ⟨u0,rfl,by simp,?_⟩
 case refine_3 =>
  have hF:∀ k,(Array.replicate 14 false).getD k false=true→False:=fun k e=>by rw [hL k] at e;cases e
  exact ⟨fun _ _=>rfl,fun _=>Below.refl _ _,c.nb,fun e=>(hF _ e).elim,fun e=>(hF _ e).elim,fun e=>(hF _ e).elim,fun e=>(hF _ e).elim,fun e=>(hF _ e).elim,fun e=>(hF _ e).elim,fun e=>(hF _ e).elim,fun e=>(hF _ e).elim,fun e=>(hF _ e).elim,fun e=>(hF _ e).elim,fun e=>(hF _ e).elim,fun e=>(hF _ e).elim,fun e=>(hF _ e).elim,fun e=>(hF _ e).elim,fun e=>(hF _ e).elim,fun e=>(hF _ e).elim⟩
 ·intro listed a w jx hI hi
  obtain ⟨u,rfl,hsz,h⟩:=hI
  have hlt:jx<14:=ready_lt hi
  have hno:=ready_not hi
  obtain (rfl | rfl | rfl | rfl | rfl | rfl | rfl | rfl | rfl | rfl | rfl | rfl | rfl | rfl):jx=0∨jx=1∨jx=2∨jx=3∨jx=4∨jx=5∨jx=6∨jx=7∨jx=8∨jx=9∨jx=10∨jx=11∨jx=12∨jx=13:=by omega
  ·exact wpOp_run rfl rfl (run_fa8 rfl ((frm_eval (by decide)).trans ((h.old 4 (by omega)).trans c.e4))) (mp_put hsz (by decide) (mp0 c h))
  ·have hn := ready_needs (l := [0]) hi (by kernel_rfl)
   exact wpOp_run rfl rfl (run_ldK rfl ((frm_eval (by decide)).trans (h.fa (hn 0 (by simp)))) h.nb) (mp_put hsz (by decide) (mp1 c h))
  ·refine wpOp_run rfl rfl (run_mv rfl) ?_
   rw [frm_eval (by decide)]
   exact mp_put hsz (by decide) (mp2 c h)
  ·have hc : listed.getD 11 false = false := by
    cases e:listed.getD 11 false with
    | false=>rfl
    | true=>exact absurd ((h.dc e).2.1) (by rw [hno];decide)
   exact wpOp_run rfl rfl (run_ldF rfl ((frm_eval (by decide)).trans ((h.old 3 (by omega)).trans c.e3)) (c.ci.ev.kept (h.bel hc)).co) (mp_put hsz (by decide) (mp3 c h))
  ·have hc : listed.getD 11 false = false := by
    cases e:listed.getD 11 false with
    | false=>rfl
    | true=>exact absurd ((h.dc e).2.2) (by rw [hno];decide)
   exact wpOp_run rfl rfl (run_ldN rfl ((frm_eval (by decide)).trans ((h.old 12 (by omega)).trans c.ek)) (fun j _=>(c.kx.kept (h.bel hc) c.kx.lt).cell j)) (mp_put hsz (by decide) (mp4 c h))
  ·refine wpOp_run rfl rfl (run_mv rfl) ?_
   rw [frm_eval (by decide)]
   exact mp_put hsz (by decide) (mp5 c h)
  ·refine wpOp_run rfl rfl (run_mv rfl) ?_
   rw [frm_eval (by decide)]
   exact mp_put hsz (by decide) (mp6 c h)
  ·have hn := ready_needs (l := [6]) hi (by kernel_rfl)
   exact wpOp_run rfl rfl (run_ml2 (fun _=>rfl) rfl ((frm_eval (by decide)).trans (h.mj (hn 6 (by simp)))) (by have:=c.li;omega)) (mp_put hsz (by decide) (mp7 c h))
  ·have hn := ready_needs (l := [7]) hi (by kernel_rfl)
   exact wpOp_run rfl rfl (run_ad1 (fun _=>rfl) rfl ((frm_eval (by decide)).trans (h.ml (hn 7 (by simp)))) (by have:=c.li;omega)) (mp_put hsz (by decide) (mp8 c h))
  ·have hn := ready_needs (l := [8]) hi (by kernel_rfl)
   exact wpOp_run rfl rfl (run_bsI rfl ((frm_eval (by decide)).trans (h.ad (hn 8 (by simp))))) (mp_put hsz (by decide) (mp9 c h hno))
  ·have hn := ready_needs (l := [5, 9]) hi (by kernel_rfl)
   have hc:listed.getD 11 false=false:=by
    cases e:listed.getD 11 false with
    | false=>rfl
    | true=>exact absurd ((h.dc e).1) (by rw [hno];decide)
   have hb:=h.bel hc
   obtain ⟨gb,es,hbk⟩:=h.bs (hn 9 (by simp)) hc
   refine wpOp_of rfl (step_callC (R:=fun v w'=>∃ a n c2,v = .slice a n c2∧Pth w' a n c2 (ps++[(((2*i+1):Nat):Int)])∧Below w.heap.size w w') rfl (.tmp 106) (.tmp 110) _ _ rfl ((frm_eval (by decide)).trans (h.mp (hn 5 (by simp)))) ((frm_eval (by decide)).trans (es)) (fun _ _=>rfl) ?_ ?_)
   ·refine (below_any (c.ci.pt.kept hb) (one_pth hbk) (by have := c.np; omega)).mono ?_
    rintro e w' ⟨a,n,c2,he,hp,hB⟩
    exact ⟨_,he,a,n,c2,rfl,hp.out,hB.out⟩
   ·rintro v w' ⟨a, n, c2, rfl, hp, hB⟩
    exact (mp_put hsz (by decide) (mp10 c h hno (hn 9 (by simp)) hp hB))
  ·have hn := ready_needs (l := [3, 4, 10, 10]) hi (by kernel_rfl)
   have hb:=h.bel hno
   obtain ⟨a,n,c2,e83,hp⟩:=h.cb (hn 10 (by simp)) hno
   have hlen:=hp.len
   have hci:CI d B0 gl B gs gc w nk tk fk a n c2 (ps++[(((2*i+1):Nat):Int)]) ls:={ c.ci.kept hb with pt:=hp,nd:=by have h1:=c.np;have h2:=c.ci.pt.len;simp at hlen;omega }
   refine wpOp_of rfl (step_callF (R:=fun v w'=>∃ b' f',v = .agg b'.arr∧CO d B0 gl B w w' tk fk (ps++[(((2*i+1):Nat):Int)]) ls b' f') rfl 104 105 111 _ _ rfl ((frm_eval (by decide)).trans (h.lc (hn 3 (by simp)))) ((frm_eval (by decide)).trans (h.ln (hn 4 (by simp)))) ((frm_eval (by decide)).trans (e83)) e_come ?_ ?_)
   ·refine (c.ih B0 gl B gs gc w nk tk fk a n c2 _ ls hci).mono ?_
    rintro e w' ⟨b',f',he,hc⟩
    exact ⟨_,he,b',f',rfl,hc.out⟩
   ·rintro v w' ⟨b', f', rfl, hc⟩
    exact (mp_put hsz (by decide) (mp11 c h hno ⟨hn 10 (by simp),hn 3 (by simp),hn 4 (by simp)⟩ hc))
  ·have hn := ready_needs (l := [1, 2, 0, 1, 2, 3, 4, 5, 6, 7, 8, 9, 10, 11]) hi (by kernel_rfl)
   exact wpOp_run rfl rfl (run_ixI rfl ((frm_eval (by decide)).trans ((h.lk (hn 1 (by simp))).trans (by rw [c.ai]))) ((frm_eval (by decide)).trans (h.mi (hn 2 (by simp)))) c.li) (mp_put hsz (by decide) (mp12 c h))
  ·have hn := ready_needs (l := [12, 11, 11, 0, 1, 2, 3, 4, 5, 6, 7, 8, 9, 10, 11]) hi (by kernel_rfl)
   obtain ⟨b',f',wa,w1,e84,hwa,hc,hw,_⟩:=h.cc (hn 11 (by simp))
   have hw:=hw hno
   subst hw
   obtain ⟨v0,hv0⟩:=(c.ci.lss.kept hwa).box
   have hg:=hc.kv.blk (c.row.kept hwa c.row.lt) (by decide) c.nf.2 (blk_ne (c.row.kept hwa c.row.lt) hv0 (by decide))
   obtain ⟨cur',h1,h2,h3,h4,hk⟩:=nine_row (b:=b') hg c.cs
   exact wpOp_skip rfl rfl (run_stR rfl ((frm_eval (by decide)).trans (h.ix (hn 12 (by simp)))) ((frm_eval (by decide)).trans (e84)) hg c.cs) (mp_none hsz (by decide) (mp13 c h (hn 11 (by simp)) e84 hwa hc h1 h2 h3 h4 hk))
 ·intro listed a w hI hr
  obtain ⟨u,rfl,hsz,h⟩:=hI
  have hd:=ready_done hr hsz (by decide)
  obtain ⟨b',f',wa,w1,_,hwa,hco,_,hst⟩:=h.cc (hd 11 (by decide))
  obtain ⟨cur',h1,h2,h3,h4,hk⟩:=hst (hd 13 (by decide))
  exact hQ u w wa w1 b' f' cur' h.old h.nb hwa hco h1 h2 h3 h4 hk
end Go.Proofs.YtejlaiofpekchaaGreatDoor
