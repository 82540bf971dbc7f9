/-
  The fault of a node, what is in it aside, as the document's call tells it: gantlineref08.alone, of other Kinds.
  The fault of a node, what is in it aside, as the document's call tells it: gantlineref08.alone.
  The fault of the first node that has one, as the document's call tells it: gantlineref08.forms.
  Whether a map has two keys that are the same, as the document's call tells it: gantlineref08.twice.
  What is wrong with a tree, as the document's call tells it: gantlineref08.Check.
-/
import Derived.Test.YtejlaiofpekchaaGreatDoorC26
import Derived.Test.YtejlaiofpekchaaGreatDoorC19
import Derived.Test.YtejlaiofpekchaaGreatDoorC25
import Derived.Test.YtejlaiofpekchaaGreatDoorC18
import Derived.Test.YtejlaiofpekchaaGreatDoorC27
import Derived.Test.YtejlaiofpekchaaGreatDoorC28
import Derived.Test.YtejlaiofpekchaaGreatDoorC29
import Derived.Test.YtejlaiofpekchaaGreatDoorC30
import Derived.Test.YtejlaiofpekchaaGreatDoorC7
import Derived.Test.YtejlaiofpekchaaGreatDoorC23
import Derived.Deep.RegionHeld3
namespace Go.Proofs.YtejlaiofpekchaaGreatDoor
open Go.RowKit
set_option linter.unusedVariables false
set_option maxHeartbeats 8000000 in
set_option maxRecDepth 100000 in
theorem ealone_ko{D:Nat}{t:Tr}{b:Nb}{w:World}(hN:Nd (D+1) w b t)(h1:b.kind≠1)(h2:b.kind≠2)(h3:b.kind≠3)(h5:b.kind≠5)(h6:b.kind≠6)(h8:b.kind≠8)(h9:b.kind≠9)(h10:b.kind≠10):Calls Tryz.prog 81 #[.agg b.arr] w fun e w'=>e = .returned (.int .i64 (alF t))∧Below w.heap.size w w':=by
 have hal:=alloc_below w (.cells b.arr 26)
 have B0:Hid (Below w.heap.size w (w.alloc (.cells b.arr 26))):=hal
 have Q0:Hid (NBox (w.alloc (.cells b.arr 26)) w.heap.size b):=nbox_new w b
 obtain ⟨a0,a1,a2,a3,a4,a5,a6,a7,a8⟩:=(nbox_new w b).fields
 have rk:=hN.2.2.2.1.2.1
 have ri:=hN.2.2.2.2.2.1
 have kB:=bare_any b (w.alloc (.cells b.arr 26))
 have kS:Hid (∀ w',Below w.heap.size w w'→Calls Tryz.prog 23 #[.agg (bar b).arr, .agg b.arr] w' fun e w''=>e = .returned (.bool t.clean)∧Below w'.heap.size w' w''):=fun w' hb=>esam_any (nd_bar (hN.kept hb)) (hN.kept hb) (Tr.clean_iff t)
 have hk:b.kind=t.kind:=hN.1.1
 have hnum:b.num=t.num:=hN.1.2.1
 have hneg:b.neg=t.neg:=hN.1.2.2.1
 have hdig:b.dig=t.dig:=hN.1.2.2.2.1
 have hexp:b.exp=t.exp:=hN.1.2.2.2.2.1
 have htxt:b.txt=t.txt:=hN.1.2.2.2.2.2
 have hlb:t.bytes.length=b.lb:=hN.2.2.1.1
 have hlk:t.keys.length=b.lk:=hN.2.2.2.1.1
 have hli:t.kids.length=b.li:=hN.2.2.2.2.1
 have mb1:=hN.2.2.1.2.1.1
 have mb2:=hN.2.2.1.2.1.2.1
 have mk1:=rk.1
 have mk2:=rk.2.1
 have mi1:=ri.1
 have mi2:=ri.2.1
 unfold maxLen at mb2 mk2 mi2
 have mt:b.txt.size≤140737488351232:=by rw [htxt];exact hN.2.1.2.2.2.2
 have hA:alF t=if (b.kind=5∧4096<b.txt.size)∨(b.kind=6∧4096<b.lb) then 8
  else if b.kind=5∧gtx b.txt=false then 6
  else if b.kind=2∧(rt b.dig=false∨(b.neg=true∧b.dig=⟨#[48]⟩)) then 11
  else if b.kind=3∧rdN b.neg b.dig b.exp=false then 11
  else if t.odd=true then 12 else 0:=by
  rw [hk,hneg,hdig,hexp,htxt,←hlb];rfl
 have hO:=odd_doc hN
 have hkk:Hid (b.kind=t.kind):=hk
 clear hneg hdig hexp htxt hlb hlk hli hnum hN hk hal rk ri
 have e1:(b.kind==1)=false:=by simp [h1]
 have e2:(b.kind==2)=false:=by simp [h2]
 have e3:(b.kind==3)=false:=by simp [h3]
 have e5:(b.kind==5)=false:=by simp [h5]
 have e6:(b.kind==6)=false:=by simp [h6]
 have e8:(b.kind==8)=false:=by simp [h8]
 have e9:(b.kind==9)=false:=by simp [h9]
 have e10:(b.kind==10)=false:=by simp [h10]
 rw [if_neg (by omega),if_neg (by omega),if_neg (by omega),if_neg (by omega)] at hA
 rw [e1,e8,e9,e10] at hO
 clear h1 h2 h3 h5 h6 h8 h9 h10
 cases d0:decide (b.kind<0) with
 | true =>
  rw [d0] at hO
  rw [hO] at hA
  have hR:alF t=12:=by rw [hA];simp
  rw [hR]
  clear hA hO hR kS
  go_enter Tryz.func81,Tryz.ntmps81
  go_wp2_with (first
   | (go_at_call 119;refine kB.mono ?_;rintro e w1 ⟨he,hb1⟩;rw [Nb.arr] at he;subst he;clear kB a0 a1 a2 a3 a4 a5 a6 a7 a8;have A1:=alloc_below w1 (.cells #[.int .i64 (bar b).kind, .int .u64 (bar b).num, .bool (bar b).neg, .string (bar b).dig, .int .i64 (bar b).exp, .string (bar b).txt, .slice (bar b).ab (bar b).lb (bar b).cb, .slice (bar b).ak (bar b).lk (bar b).ck, .slice (bar b).ai (bar b).li (bar b).ci] 26);have b1:Below (w.alloc (.cells b.arr 26)).heap.size (w.alloc (.cells b.arr 26)) (w1.alloc (.cells #[.int .i64 (bar b).kind, .int .u64 (bar b).num, .bool (bar b).neg, .string (bar b).dig, .int .i64 (bar b).exp, .string (bar b).txt, .slice (bar b).ab (bar b).lb (bar b).cb, .slice (bar b).ak (bar b).lk (bar b).ck, .slice (bar b).ai (bar b).li (bar b).ci] 26)):=hb1.trans (A1.mono hb1.size);have Q1:Hid (NBox (w1.alloc (.cells #[.int .i64 (bar b).kind, .int .u64 (bar b).num, .bool (bar b).neg, .string (bar b).dig, .int .i64 (bar b).exp, .string (bar b).txt, .slice (bar b).ab (bar b).lb (bar b).cb, .slice (bar b).ak (bar b).lk (bar b).ck, .slice (bar b).ai (bar b).li (bar b).ci] 26)) w.heap.size b):=Q0.out.kept b1 Q0.out.lt;have X1:Hid (NBox (w1.alloc (.cells #[.int .i64 (bar b).kind, .int .u64 (bar b).num, .bool (bar b).neg, .string (bar b).dig, .int .i64 (bar b).exp, .string (bar b).txt, .slice (bar b).ab (bar b).lb (bar b).cb, .slice (bar b).ak (bar b).lk (bar b).ck, .slice (bar b).ai (bar b).li (bar b).ci] 26)) w1.heap.size (bar b)):=nbox_new w1 (bar b);have B1:Hid (Below w.heap.size w (w1.alloc (.cells #[.int .i64 (bar b).kind, .int .u64 (bar b).num, .bool (bar b).neg, .string (bar b).dig, .int .i64 (bar b).exp, .string (bar b).txt, .slice (bar b).ab (bar b).lb (bar b).cb, .slice (bar b).ak (bar b).lk (bar b).ck, .slice (bar b).ai (bar b).li (bar b).ci] 26))):=B0.out.trans (b1.mono B0.out.size);obtain ⟨a0,a1,a2,a3,a4,a5,a6,a7,a8⟩:=Q1.out.fields;obtain ⟨x0,x1,x2,x3,x4,x5,x6,x7,x8⟩:=X1.out.fields))
  go_ret
  exact ⟨rfl,B1.out⟩
 | false =>
  rw [d0] at hO
  cases d10:decide (10<b.kind) with
  | true =>
   rw [d10] at hO
   rw [hO] at hA
   have hR:alF t=12:=by rw [hA];simp
   rw [hR]
   clear hA hO hR kS
   go_enter Tryz.func81,Tryz.ntmps81
   go_wp2_with (first
    | (go_at_call 119;refine kB.mono ?_;rintro e w1 ⟨he,hb1⟩;rw [Nb.arr] at he;subst he;clear kB a0 a1 a2 a3 a4 a5 a6 a7 a8;have A1:=alloc_below w1 (.cells #[.int .i64 (bar b).kind, .int .u64 (bar b).num, .bool (bar b).neg, .string (bar b).dig, .int .i64 (bar b).exp, .string (bar b).txt, .slice (bar b).ab (bar b).lb (bar b).cb, .slice (bar b).ak (bar b).lk (bar b).ck, .slice (bar b).ai (bar b).li (bar b).ci] 26);have b1:Below (w.alloc (.cells b.arr 26)).heap.size (w.alloc (.cells b.arr 26)) (w1.alloc (.cells #[.int .i64 (bar b).kind, .int .u64 (bar b).num, .bool (bar b).neg, .string (bar b).dig, .int .i64 (bar b).exp, .string (bar b).txt, .slice (bar b).ab (bar b).lb (bar b).cb, .slice (bar b).ak (bar b).lk (bar b).ck, .slice (bar b).ai (bar b).li (bar b).ci] 26)):=hb1.trans (A1.mono hb1.size);have Q1:Hid (NBox (w1.alloc (.cells #[.int .i64 (bar b).kind, .int .u64 (bar b).num, .bool (bar b).neg, .string (bar b).dig, .int .i64 (bar b).exp, .string (bar b).txt, .slice (bar b).ab (bar b).lb (bar b).cb, .slice (bar b).ak (bar b).lk (bar b).ck, .slice (bar b).ai (bar b).li (bar b).ci] 26)) w.heap.size b):=Q0.out.kept b1 Q0.out.lt;have X1:Hid (NBox (w1.alloc (.cells #[.int .i64 (bar b).kind, .int .u64 (bar b).num, .bool (bar b).neg, .string (bar b).dig, .int .i64 (bar b).exp, .string (bar b).txt, .slice (bar b).ab (bar b).lb (bar b).cb, .slice (bar b).ak (bar b).lk (bar b).ck, .slice (bar b).ai (bar b).li (bar b).ci] 26)) w1.heap.size (bar b)):=nbox_new w1 (bar b);have B1:Hid (Below w.heap.size w (w1.alloc (.cells #[.int .i64 (bar b).kind, .int .u64 (bar b).num, .bool (bar b).neg, .string (bar b).dig, .int .i64 (bar b).exp, .string (bar b).txt, .slice (bar b).ab (bar b).lb (bar b).cb, .slice (bar b).ak (bar b).lk (bar b).ck, .slice (bar b).ai (bar b).li (bar b).ci] 26))):=B0.out.trans (b1.mono B0.out.size);obtain ⟨a0,a1,a2,a3,a4,a5,a6,a7,a8⟩:=Q1.out.fields;obtain ⟨x0,x1,x2,x3,x4,x5,x6,x7,x8⟩:=X1.out.fields))
   go_ret
   exact ⟨rfl,B1.out⟩
  | false =>
   rw [d10] at hO
   cases hc:t.clean with
   | false =>
    rw [hO,hc] at hA
    rw [hc] at kS
    have hR:alF t=12:=by rw [hA];simp
    rw [hR]
    clear hA hO hc hR
    go_enter Tryz.func81,Tryz.ntmps81
    go_wp2_with (first
     | (go_at_call 119;refine kB.mono ?_;rintro e w1 ⟨he,hb1⟩;rw [Nb.arr] at he;subst he;clear kB a0 a1 a2 a3 a4 a5 a6 a7 a8;have A1:=alloc_below w1 (.cells #[.int .i64 (bar b).kind, .int .u64 (bar b).num, .bool (bar b).neg, .string (bar b).dig, .int .i64 (bar b).exp, .string (bar b).txt, .slice (bar b).ab (bar b).lb (bar b).cb, .slice (bar b).ak (bar b).lk (bar b).ck, .slice (bar b).ai (bar b).li (bar b).ci] 26);have b1:Below (w.alloc (.cells b.arr 26)).heap.size (w.alloc (.cells b.arr 26)) (w1.alloc (.cells #[.int .i64 (bar b).kind, .int .u64 (bar b).num, .bool (bar b).neg, .string (bar b).dig, .int .i64 (bar b).exp, .string (bar b).txt, .slice (bar b).ab (bar b).lb (bar b).cb, .slice (bar b).ak (bar b).lk (bar b).ck, .slice (bar b).ai (bar b).li (bar b).ci] 26)):=hb1.trans (A1.mono hb1.size);have Q1:Hid (NBox (w1.alloc (.cells #[.int .i64 (bar b).kind, .int .u64 (bar b).num, .bool (bar b).neg, .string (bar b).dig, .int .i64 (bar b).exp, .string (bar b).txt, .slice (bar b).ab (bar b).lb (bar b).cb, .slice (bar b).ak (bar b).lk (bar b).ck, .slice (bar b).ai (bar b).li (bar b).ci] 26)) w.heap.size b):=Q0.out.kept b1 Q0.out.lt;have X1:Hid (NBox (w1.alloc (.cells #[.int .i64 (bar b).kind, .int .u64 (bar b).num, .bool (bar b).neg, .string (bar b).dig, .int .i64 (bar b).exp, .string (bar b).txt, .slice (bar b).ab (bar b).lb (bar b).cb, .slice (bar b).ak (bar b).lk (bar b).ck, .slice (bar b).ai (bar b).li (bar b).ci] 26)) w1.heap.size (bar b)):=nbox_new w1 (bar b);have B1:Hid (Below w.heap.size w (w1.alloc (.cells #[.int .i64 (bar b).kind, .int .u64 (bar b).num, .bool (bar b).neg, .string (bar b).dig, .int .i64 (bar b).exp, .string (bar b).txt, .slice (bar b).ab (bar b).lb (bar b).cb, .slice (bar b).ak (bar b).lk (bar b).ck, .slice (bar b).ai (bar b).li (bar b).ci] 26))):=B0.out.trans (b1.mono B0.out.size);obtain ⟨a0,a1,a2,a3,a4,a5,a6,a7,a8⟩:=Q1.out.fields;obtain ⟨x0,x1,x2,x3,x4,x5,x6,x7,x8⟩:=X1.out.fields)
     | (have kS1:=kS.out _ B1.out;go_at_call 23;refine kS1.mono ?_;rintro e w9 ⟨rfl,hb9⟩;clear kS1;clear a0 a1 a2 a3 a4 a5 a6 a7 a8 x0 x1 x2 x3 x4 x5 x6 x7 x8;have Q9:Hid (NBox w9 w.heap.size b):=Q1.out.kept hb9 Q1.out.lt;have X9:Hid (NBox w9 w1.heap.size (bar b)):=X1.out.kept hb9 X1.out.lt;have B9:Hid (Below w.heap.size w w9):=B1.out.trans (hb9.mono B1.out.size);obtain ⟨a0,a1,a2,a3,a4,a5,a6,a7,a8⟩:=Q9.out.fields;obtain ⟨x0,x1,x2,x3,x4,x5,x6,x7,x8⟩:=X9.out.fields))
    go_ret
    exact ⟨rfl,B9.out⟩
   | true =>
    rw [hO,hc] at hA
    rw [hc] at kS
    have hR:alF t=0:=by rw [hA];simp [*]
    rw [hR]
    clear hA hO hc hR
    go_enter Tryz.func81,Tryz.ntmps81
    go_wp2_with (first
     | (go_at_call 119;refine kB.mono ?_;rintro e w1 ⟨he,hb1⟩;rw [Nb.arr] at he;subst he;clear kB a0 a1 a2 a3 a4 a5 a6 a7 a8;have A1:=alloc_below w1 (.cells #[.int .i64 (bar b).kind, .int .u64 (bar b).num, .bool (bar b).neg, .string (bar b).dig, .int .i64 (bar b).exp, .string (bar b).txt, .slice (bar b).ab (bar b).lb (bar b).cb, .slice (bar b).ak (bar b).lk (bar b).ck, .slice (bar b).ai (bar b).li (bar b).ci] 26);have b1:Below (w.alloc (.cells b.arr 26)).heap.size (w.alloc (.cells b.arr 26)) (w1.alloc (.cells #[.int .i64 (bar b).kind, .int .u64 (bar b).num, .bool (bar b).neg, .string (bar b).dig, .int .i64 (bar b).exp, .string (bar b).txt, .slice (bar b).ab (bar b).lb (bar b).cb, .slice (bar b).ak (bar b).lk (bar b).ck, .slice (bar b).ai (bar b).li (bar b).ci] 26)):=hb1.trans (A1.mono hb1.size);have Q1:Hid (NBox (w1.alloc (.cells #[.int .i64 (bar b).kind, .int .u64 (bar b).num, .bool (bar b).neg, .string (bar b).dig, .int .i64 (bar b).exp, .string (bar b).txt, .slice (bar b).ab (bar b).lb (bar b).cb, .slice (bar b).ak (bar b).lk (bar b).ck, .slice (bar b).ai (bar b).li (bar b).ci] 26)) w.heap.size b):=Q0.out.kept b1 Q0.out.lt;have X1:Hid (NBox (w1.alloc (.cells #[.int .i64 (bar b).kind, .int .u64 (bar b).num, .bool (bar b).neg, .string (bar b).dig, .int .i64 (bar b).exp, .string (bar b).txt, .slice (bar b).ab (bar b).lb (bar b).cb, .slice (bar b).ak (bar b).lk (bar b).ck, .slice (bar b).ai (bar b).li (bar b).ci] 26)) w1.heap.size (bar b)):=nbox_new w1 (bar b);have B1:Hid (Below w.heap.size w (w1.alloc (.cells #[.int .i64 (bar b).kind, .int .u64 (bar b).num, .bool (bar b).neg, .string (bar b).dig, .int .i64 (bar b).exp, .string (bar b).txt, .slice (bar b).ab (bar b).lb (bar b).cb, .slice (bar b).ak (bar b).lk (bar b).ck, .slice (bar b).ai (bar b).li (bar b).ci] 26))):=B0.out.trans (b1.mono B0.out.size);obtain ⟨a0,a1,a2,a3,a4,a5,a6,a7,a8⟩:=Q1.out.fields;obtain ⟨x0,x1,x2,x3,x4,x5,x6,x7,x8⟩:=X1.out.fields)
     | (have kS1:=kS.out _ B1.out;go_at_call 23;refine kS1.mono ?_;rintro e w9 ⟨rfl,hb9⟩;clear kS1;clear a0 a1 a2 a3 a4 a5 a6 a7 a8 x0 x1 x2 x3 x4 x5 x6 x7 x8;have Q9:Hid (NBox w9 w.heap.size b):=Q1.out.kept hb9 Q1.out.lt;have X9:Hid (NBox w9 w1.heap.size (bar b)):=X1.out.kept hb9 X1.out.lt;have B9:Hid (Below w.heap.size w w9):=B1.out.trans (hb9.mono B1.out.size);obtain ⟨a0,a1,a2,a3,a4,a5,a6,a7,a8⟩:=Q9.out.fields;obtain ⟨x0,x1,x2,x3,x4,x5,x6,x7,x8⟩:=X9.out.fields))
    go_ret
    exact ⟨rfl,B9.out⟩
end Go.Proofs.YtejlaiofpekchaaGreatDoor
namespace Go.Proofs.YtejlaiofpekchaaGreatDoor
open Go.RowKit
set_option linter.unusedVariables false
theorem ealone_any{D:Nat}{t:Tr}{b:Nb}{w:World}(hN:Nd D w b t):Calls Tryz.prog 81 #[.agg b.arr] w fun e w'=>e = .returned (.int .i64 (alF t))∧Below w.heap.size w w':=by
 cases D with
 | zero=>exact absurd hN id
 | succ D =>
  by_cases h1:b.kind=1
  ·exact ealone_k1 hN h1
  by_cases h2:b.kind=2
  ·exact ealone_k2 hN h2
  by_cases h3:b.kind=3
  ·exact ealone_k3 hN h3
  by_cases h5:b.kind=5
  ·exact ealone_k5 hN h5
  by_cases h6:b.kind=6
  ·exact ealone_k6 hN h6
  by_cases h8:b.kind=8
  ·exact ealone_k8 hN h8
  by_cases h9:b.kind=9
  ·exact ealone_k9 hN h9
  by_cases h10:b.kind=10
  ·exact ealone_k10 hN h10
  exact ealone_ko hN h1 h2 h3 h5 h6 h8 h9 h10
end Go.Proofs.YtejlaiofpekchaaGreatDoor
namespace Go.Proofs.YtejlaiofpekchaaGreatDoor
open Go.RowKit
set_option linter.unusedVariables false
def FormAt(D:Nat):Prop:=∀ (t:Tr) (b:Nb) (w:World),Nd D w b t→Calls Tryz.prog 48 #[.agg b.arr] w fun e w'=>e = .returned (.int .i64 (t.forms alF))∧Below w.heap.size w w'
def fst8(t:Tr)(i:Nat):List Int:=if t.kind=8 then Tr.inter ((t.keys.take i).map (Tr.forms alF)) ((t.kids.take i).map (Tr.forms alF)) else (t.kids.take i).map (Tr.forms alF)
theorem fst8_zero(t:Tr):fst8 t 0=[]:=by unfold fst8;split <;> simp [Tr.inter]
theorem fst8_all{t:Tr}{n:Nat}(hn:t.kids.length≤n)(hk:t.kind=8→t.keys.length≤n):fst8 t n=t.steps.map (Tr.forms alF):=by
 unfold fst8 Tr.steps
 split
 ·rename_i h;rw [Tr.inter_map,List.take_of_length_le hn,List.take_of_length_le (hk h)]
 ·rw [List.take_of_length_le hn]
theorem fst8_map{t:Tr}{i:Nat}(h8:t.kind=8)(hk:i<t.keys.length)(hi:i<t.kids.length):fst8 t (i+1)=fst8 t i++[(t.keys[i]).forms alF,(t.kids[i]).forms alF]:=by
 unfold fst8
 rw [if_pos h8,if_pos h8,←Tr.inter_map,←Tr.inter_map,Tr.inter_snoc _ _ hk hi,List.map_append]
 rfl
theorem fst8_arr{t:Tr}{i:Nat}(h8:t.kind≠8)(hi:i<t.kids.length):fst8 t (i+1)=fst8 t i++[(t.kids[i]).forms alF]:=by
 unfold fst8
 rw [if_neg h8,if_neg h8,List.take_succ_eq_append_getElem hi,List.map_append]
 rfl
theorem firstE_pre{l:List Int}(h:Tr.firstE l≠0)(m:List Int):Tr.firstE (l++m)=Tr.firstE l:=by rw [Tr.firstE_app,if_neg h]
theorem firstE_suf{l:List Int}(h:Tr.firstE l=0)(m:List Int):Tr.firstE (l++m)=Tr.firstE m:=by rw [Tr.firstE_app,if_pos h]
theorem fst8_pre(t:Tr)(i:Nat):∃ m,t.steps.map (Tr.forms alF)=fst8 t i++m:=by
 unfold fst8 Tr.steps
 split
 ·rw [← Tr.inter_map]
  have key:∀ (l m:List Tr) (i:Nat),∃ r,Tr.inter l m=Tr.inter (l.take i) (m.take i)++r:=by
   intro l
   induction l with
   | nil=>intro m i;exact ⟨[],by simp [Tr.inter]⟩
   | cons a l ih =>
    intro m i
    cases m with
    | nil=>exact ⟨[],by cases i <;> simp [Tr.inter]⟩
    | cons b m =>
     cases i with
     | zero=>exact ⟨Tr.inter (a::l) (b::m),by simp [Tr.inter]⟩
     | succ i =>
      obtain ⟨r,hr⟩:=ih m i
      exact ⟨r,by simp only [List.take_succ_cons,Tr.inter,hr,List.cons_append]⟩
  obtain ⟨r,hr⟩:=key t.keys t.kids i
  exact ⟨r.map (Tr.forms alF),by rw [hr,List.map_append]⟩
 ·exact ⟨(t.kids.drop i).map (Tr.forms alF),by rw [←List.map_append,List.take_append_drop]⟩
theorem forms_stop{t:Tr}{i:Nat}(h0:alF t=0)(h:Tr.firstE (fst8 t i)≠0):t.forms alF=Tr.firstE (fst8 t i):=by
 rw [Tr.forms_eq,h0,Tr.firstE_zero]
 obtain ⟨m,hm⟩:=fst8_pre t i
 rw [hm,firstE_pre h]
theorem forms_end{t:Tr}{n:Nat}(h0:alF t=0)(hn:t.kids.length=n)(h:Tr.firstE (fst8 t n)=0):t.forms alF=0:=by
 rw [Tr.forms_eq,h0,Tr.firstE_zero,←fst8_all (Nat.le_of_eq hn) (fun h8=>by rw [(alF_shaped t h0).1 h8];exact Nat.le_of_eq hn),h]
theorem forms_not{t:Tr}(h0:alF t≠0):t.forms alF=alF t:=by rw [Tr.forms_eq,Tr.firstE_not _ h0]
theorem form_el{D:Nat}(ih:FormAt D){w:World}{a:Option Addr}{len cap:Nat}{l:List Tr}(h:RowN (Nd D w) w a len cap l){i:Nat}(hi:i<l.length)(w2:World)(hb:Below w.heap.size w w2) :
  ∃ (bk ok:Nat) (nk:Nb),a=some ⟨bk,ok,none⟩∧(∀ j,j<9→w2.cell? ⟨bk,ok+(i*9+j),none⟩=nk.cells[j]?)∧Calls Tryz.prog 48 #[.agg nk.arr] w2 fun e w'=>e = .returned (.int .i64 ((l[i]).forms alF))∧Below w2.heap.size w2 w':=by
 obtain ⟨bk,ok,nk,h1,h2,h3,_⟩:=row_el h hb hi
 exact ⟨bk,ok,nk,h1,h2,ih _ _ _ h3⟩
theorem firstE_two{l:List Int}(h:0=Tr.firstE l)(a b:Int):Tr.firstE (l++[a,b])=if a=0 then b else a:=by
 rw [firstE_suf h.symm]
 show (if a=0 then (if b=0 then (0:Int) else b) else a)=_
 by_cases ha:a=0
 ·rw [if_pos ha, if_pos ha]; split
  ·rename_i hb;rw [hb]
  ·rfl
 ·rw [if_neg ha,if_neg ha]
theorem firstE_one{l:List Int}(h:0=Tr.firstE l)(a:Int):Tr.firstE (l++[a])=a:=by
 rw [firstE_suf h.symm]
 show (if a=0 then (0:Int) else a)=a
 split
 ·rename_i hb;rw [hb]
 ·rfl
set_option maxHeartbeats 4000000 in
set_option maxRecDepth 100000 in
theorem form_step {D : Nat} (ih : FormAt D) : FormAt (D + 1) := by
 intro t b w hN
 have hal:=alloc_below w (.cells b.arr 26)
 have Q0:Hid (NBox (w.alloc (.cells b.arr 26)) w.heap.size b):=nbox_new w b
 have B0:Hid (Below w.heap.size w (w.alloc (.cells b.arr 26))):=hal
 obtain ⟨a0,a1,a2,a3,a4,a5,a6,a7,a8⟩:=(nbox_new w b).fields
 have kA:=ealone_any (hN.kept hal)
 have hNk:Hid (RowN (Nd D w) w b.ak b.lk b.ck t.keys):=hN.2.2.2.1
 have hNi:Hid (RowN (Nd D w) w b.ai b.li b.ci t.kids):=hN.2.2.2.2
 have hlk:Hid (t.keys.length=b.lk):=hN.2.2.2.1.1
 have hli:Hid (t.kids.length=b.li):=hN.2.2.2.2.1
 have mk:=hN.2.2.2.1.2.1.1
 have mk':=hN.2.2.2.1.2.1.2.1
 have mi:=hN.2.2.2.2.2.1.1
 have mi':=hN.2.2.2.2.2.1.2.1
 unfold maxLen at mk' mi'
 have hkd:Hid (b.kind=t.kind):=hN.1.1
 clear hal hN
 by_cases hz:alF t=0
 ·have h0 : Hid (alF t = 0) := hz
  rw [hz] at kA
  have hsh:Hid (t.kind=8→b.lk=b.li):=fun h8=>by rw [←hlk.out,←hli.out];exact (alF_shaped t hz).1 h8
  clear hz
  have hF:Hid (∀ i,Tr.firstE (fst8 t i)≠0→t.forms alF=Tr.firstE (fst8 t i)):=fun i h=>forms_stop h0.out h
  have hE:Hid (Tr.firstE (fst8 t b.li)=0→t.forms alF=0):=fun h=>forms_end h0.out hli.out h
  generalize t.forms alF=R at *
  go_enter Tryz.func48,Tryz.ntmps48
  go_wp2_with (go_at_call 81;refine kA.mono ?_;rintro e w1 ⟨rfl,hb1⟩;clear kA a0 a1 a2 a3 a4 a5 a6 a7 a8;have Q1:Hid (NBox w1 w.heap.size b):=Q0.out.kept hb1 Q0.out.lt;have B1:Hid (Below w.heap.size w w1):=B0.out.trans (hb1.mono B0.out.size);obtain ⟨a0,a1,a2,a3,a4,a5,a6,a7,a8⟩:=Q1.out.fields)
  go_loopw [3,4] (fun s3 s4 wr=>∃ (i:Nat) (M:Int),i≤b.li∧s3 = .int .i64 M∧s4 = .int .i64 i∧Hid (Below w1.heap.size w1 wr)∧Hid (M=Tr.firstE (fst8 t i))) (fun _ i _=>b.li - (intOf i).toNat)
  case atStart=>exact ⟨0,0,Nat.zero_le _,rfl,rfl,Below.refl _ _,by show _=_;rw [fst8_zero];rfl⟩
  case round =>
   obtain ⟨i,M,him,rfl,rfl,hbl,hM⟩:=hrel
   clear a0 a1 a2 a3 a4 a5 a6 a7 a8
   have Qr:Hid (NBox wr w.heap.size b):=Q1.out.kept hbl.out Q1.out.lt
   have Br:Hid (Below w.heap.size w wr):=B1.out.trans (hbl.out.mono B1.out.size)
   obtain ⟨a0,a1,a2,a3,a4,a5,a6,a7,a8⟩:=Qr.out.fields
   by_cases hlt:i<b.li
   ·have hz : (i : Int) < (b.li : Int) := by omega
    by_cases hM0:M=0
    ·subst hM0
     have hix:i<t.kids.length:=by rw [hli.out];exact hlt
     have wi:IntKind.i64.wrap ((i:Int)+1)=(i:Int)+1:=by rw [IntKind.wrap_i64];omega
     have hI:Hid (∀ w2,Below w.heap.size w w2→∃ (bk ok:Nat) (nk:Nb),b.ai=some ⟨bk,ok,none⟩∧(∀ j,j<9→w2.cell? ⟨bk,ok+(i*9+j),none⟩=nk.cells[j]?)∧Calls Tryz.prog 48 #[.agg nk.arr] w2 fun e w'=>e = .returned (.int .i64 ((t.kids[i]).forms alF))∧Below w2.heap.size w2 w'):=fun w2 hb=>form_el ih hNi.out hix w2 hb
     by_cases h8:t.kind=8
     ·have e8 : (b.kind == 8) = true := by rw [hkd.out, h8]; decide
      have hkk:i<b.lk:=by rw [hsh.out h8];exact hlt
      have hkz:(i:Int)<(b.lk:Int):=by omega
      have hkx:i<t.keys.length:=by rw [hlk.out];exact hkk
      obtain ⟨bk,ok,nk,hak,hck,kk⟩:=form_el ih hNk.out hkx wr Br.out
      obtain ⟨f0,f1,f2,f3,f4,f5,f6,f7,f8⟩:=elem_fields hck
      have hS:Hid (Tr.firstE (fst8 t (i+1))=if (t.keys[i]).forms alF=0 then (t.kids[i]).forms alF else (t.keys[i]).forms alF):=by
       show _=_
       rw [fst8_map h8 hkx hix,firstE_two hM.out]
      generalize (t.keys[i]).forms alF=E1 at *
      generalize (t.kids[i]).forms alF=E2 at *
      clear hck h8 hix hkx hM
      by_cases hE1:E1=0
      ·subst hE1
       have hS':Hid (E2=Tr.firstE (fst8 t (i+1))):=by
        show _=_
        rw [hS.out,if_pos rfl]
       clear hS
       go_wp2_with (first
        | (go_at_call 48;refine kk.mono ?_;rintro e w2 ⟨rfl,hb2⟩;clear kk f0 f1 f2 f3 f4 f5 f6 f7 f8 a0 a1 a2 a3 a4 a5 a6 a7 a8;have Q2:Hid (NBox w2 w.heap.size b):=Qr.out.kept hb2 Qr.out.lt;have B2:Hid (Below w.heap.size w w2):=Br.out.trans (hb2.mono Br.out.size);obtain ⟨a0,a1,a2,a3,a4,a5,a6,a7,a8⟩:=Q2.out.fields;obtain ⟨bi,oi,ni,hai,hci,ki⟩:=hI.out w2 B2.out;obtain ⟨f0,f1,f2,f3,f4,f5,f6,f7,f8⟩:=elem_fields hci;clear hci)
        | (go_at_call 48;refine ki.mono ?_;rintro e w3 ⟨rfl,hb3⟩))
       try simp only [hak,hai]
       go_roundw
       case rel=>exact ⟨i+1,E2,by omega,rfl,by go_num,hbl.out.trans ((hb2.trans (hb3.mono hb2.size)).mono hbl.out.size),hS'⟩
       case measure=>simp [intOf];omega
      ·have hS' : Hid (E1 = Tr.firstE (fst8 t (i + 1))) := by
        show _=_
        rw [hS.out,if_neg hE1]
       have hE1':(E1==0)=false:=by simp [hE1]
       clear hS hE1 hI
       go_wp2_with (first
        | (go_at_call 48;refine kk.mono ?_;rintro e w2 ⟨rfl,hb2⟩;clear kk f0 f1 f2 f3 f4 f5 f6 f7 f8 a0 a1 a2 a3 a4 a5 a6 a7 a8))
       try simp only [hak]
       go_roundw
       case rel=>exact ⟨i+1,E1,by omega,rfl,by go_num,hbl.out.trans (hb2.mono hbl.out.size),hS'⟩
       case measure=>simp [intOf];omega
     ·have e8 : (b.kind == 8) = false := by rw [hkd.out]; simp [h8]
      have hS':Hid ((t.kids[i]).forms alF=Tr.firstE (fst8 t (i+1))):=by
       show _=_
       rw [fst8_arr h8 hix,firstE_one hM.out]
      obtain ⟨bi,oi,ni,hai,hci,ki⟩:=hI.out wr Br.out
      obtain ⟨f0,f1,f2,f3,f4,f5,f6,f7,f8⟩:=elem_fields hci
      generalize (t.kids[i]).forms alF=E2 at *
      clear hci h8 hix hM hI
      go_wp2_with (first
       | (go_at_call 48;refine ki.mono ?_;rintro e w3 ⟨rfl,hb3⟩))
      try simp only [hai]
      go_roundw
      case rel=>exact ⟨i+1,E2,by omega,rfl,by go_num,hbl.out.trans (hb3.mono hbl.out.size),hS'⟩
      case measure=>simp [intOf];omega
    ·have hM0' : (M == 0) = false := by simp [hM0]
     obtain rfl:R=M:=by rw [hF.out i (by rw [←hM.out];exact hM0),hM.out]
     clear hM0
     go_wp2
     go_ret
     exact ⟨rfl,Br.out⟩
   ·have hz : ¬ (i : Int) < (b.li : Int) := by omega
    obtain rfl:i=b.li:=by omega
    have hRM:Hid (R=M):=by
     show _=_
     by_cases hM0:M=0
     ·rw [hM0];exact hE.out (by rw [←hM.out];exact hM0)
     ·rw [hF.out b.li (by rw [←hM.out];exact hM0),hM.out]
    obtain rfl:R=M:=hRM.out
    clear hRM
    go_wp2
    go_ret
    exact ⟨rfl,Br.out⟩
 ·rw [forms_not hz]
  have hz':(alF t==0)=false:=by simp [hz]
  generalize alF t=M at *
  clear hz
  by_cases hlt:0<b.li
  ·have hz : (0 : Int) < (b.li : Int) := by omega
   go_enter Tryz.func48,Tryz.ntmps48
   go_wp2_with (go_at_call 81;refine kA.mono ?_;rintro e w1 ⟨rfl,hb1⟩;clear kA a0 a1 a2 a3 a4 a5 a6 a7 a8;have Q1:Hid (NBox w1 w.heap.size b):=Q0.out.kept hb1 Q0.out.lt;have B1:Hid (Below w.heap.size w w1):=B0.out.trans (hb1.mono B0.out.size);obtain ⟨a0,a1,a2,a3,a4,a5,a6,a7,a8⟩:=Q1.out.fields)
   go_loopw [3,4] (fun s3 s4 wr=>s3 = .int .i64 M∧s4 = .int .i64 0∧wr=w1) (fun _ i _=>0)
   case atStart=>exact ⟨rfl,rfl,rfl⟩
   case round =>
    obtain ⟨rfl,rfl,rfl⟩:=hrel
    go_wp2
    go_ret
    exact ⟨rfl,B1.out⟩
  ·have hz : ¬ (0 : Int) < (b.li : Int) := by omega
   clear hlt
   go_enter Tryz.func48,Tryz.ntmps48
   go_wp2_with (go_at_call 81;refine kA.mono ?_;rintro e w1 ⟨rfl,hb1⟩;clear kA a0 a1 a2 a3 a4 a5 a6 a7 a8;have Q1:Hid (NBox w1 w.heap.size b):=Q0.out.kept hb1 Q0.out.lt;have B1:Hid (Below w.heap.size w w1):=B0.out.trans (hb1.mono B0.out.size);obtain ⟨a0,a1,a2,a3,a4,a5,a6,a7,a8⟩:=Q1.out.fields)
   go_loopw [3,4] (fun s3 s4 wr=>s3 = .int .i64 M∧s4 = .int .i64 0∧wr=w1) (fun _ i _=>0)
   case atStart=>exact ⟨rfl,rfl,rfl⟩
   case round =>
    obtain ⟨rfl,rfl,rfl⟩:=hrel
    go_wp2
    go_ret
    exact ⟨rfl,B1.out⟩
theorem form_all:∀ D,FormAt D:=by
 intro D
 induction D with
 | zero=>intro t b w h;exact absurd h id
 | succ D ih=>exact form_step ih
end Go.Proofs.YtejlaiofpekchaaGreatDoor
namespace Go.Proofs.YtejlaiofpekchaaGreatDoor
open Go.RowKit
set_option linter.unusedVariables false
def Bo1(w wx:World)(b:Nb):Prop:=NBox wx w.heap.size b∧Below w.heap.size w wx
theorem Bo1.on{w wx wy:World}{b:Nb}(h:Bo1 w wx b)(hb:Below wx.heap.size wx wy):Bo1 w wy b:=⟨h.1.kept hb h.1.lt,h.2.trans (hb.mono h.2.size)⟩
theorem Bo1.drew{w wx:World}{b:Nb}(h:Bo1 w wx b):Bo1 w wx.drew b:=h.on (Below.refl _ _).drew
def Tr.once(t:Tr):Prop:=t.All (fun u=>u.keys.Nodup)
theorem once_eq(t:Tr):t.once ↔ t.keys.Nodup∧(∀ k,k∈t.keys→k.once)∧(∀ k,k∈t.kids→k.once):=Tr.all_eq _ t
def TwAt(D:Nat):Prop:=∀ (t:Tr) (b:Nb) (w:World) (v:Bool),Nd D w b t→(v=true ↔ ¬ t.once)→Calls Tryz.prog 49 #[.agg b.arr] w fun e w'=>e = .returned (.bool v)∧Below w.heap.size w w'
theorem tw_el{D:Nat}(ih:TwAt D){w:World}{a:Option Addr}{len cap:Nat}{l:List Tr}(h:RowN (Nd D w) w a len cap l){i:Nat}(hi:i<l.length){v:Bool}(hv:v=true ↔ ¬ (l[i]).once)(w2:World)(hb:Below w.heap.size w w2) :
  ∃ (bk ok:Nat) (nk:Nb),a=some ⟨bk,ok,none⟩∧(∀ j,j<9→w2.cell? ⟨bk,ok+(i*9+j),none⟩=nk.cells[j]?)∧Calls Tryz.prog 49 #[.agg nk.arr] w2 fun e w'=>e = .returned (.bool v)∧Below w2.heap.size w2 w':=by
 obtain ⟨bk,ok,nk,h1,h2,h3,_⟩:=row_el h hb hi
 exact ⟨bk,ok,nk,h1,h2,ih _ _ _ _ h3 hv⟩
theorem bool_of(p:Prop):∃ v:Bool,v=true ↔ p:=⟨@decide p (Classical.propDecidable _),by simp⟩
theorem take_once{l:List Tr}{i:Nat}(hi:i<l.length)(h:∀ k,k∈l.take i→k.once)(h1:(l[i]).once):∀ k,k∈l.take (i+1)→k.once:=by
 intro k hk
 rw [List.take_succ_eq_append_getElem hi] at hk
 rcases List.mem_append.1 hk with hk | hk
 ·exact h k hk
 ·rw [List.mem_singleton] at hk;subst hk;exact h1
def NotAmong(l:List Tr)(i k:Nat):Prop:=∀ (h:i<l.length),l[i] ∉ l.take k
theorem not_among_zero(l:List Tr)(i:Nat):NotAmong l i 0:=fun h=>by simp
theorem not_among_next{l:List Tr}{i k:Nat}(hk:k<l.length)(h:NotAmong l i k)(hi:i<l.length)(hne:l[i]≠l[k]):NotAmong l i (k+1):=fun _=>by
 rw [List.take_succ_eq_append_getElem hk]
 intro hm
 rcases List.mem_append.1 hm with hm | hm
 ·exact h hi hm
 ·rw [List.mem_singleton] at hm;exact hne hm
theorem nodup_next{l:List Tr}{i:Nat}(hi:i<l.length)(h:(l.take i).Nodup)(hn:NotAmong l i i):(l.take (i+1)).Nodup:=by
 rw [List.take_succ_eq_append_getElem hi]
 refine List.nodup_append.2 ⟨h,by simp,fun x hx y hy he=>?_⟩
 rw [List.mem_singleton] at hy
 subst hy he
 exact hn hi hx
theorem nodup_not{l:List Tr}{i k:Nat}(hi:i<l.length)(hk:k<i)(he:l[i]=l[k]'(by omega)):¬ l.Nodup:=by
 intro hn
 have:=(List.getElem_inj (h₀:=hi) (h₁:=by omega) hn).1 he
 omega
set_option maxHeartbeats 4000000 in
set_option maxRecDepth 100000 in
theorem tw_step {D : Nat} (ih : TwAt D) : TwAt (D + 1) := by
 intro t b w v hN hv
 have hal:=alloc_below w (.cells b.arr 26)
 have Q0:Hid (NBox (w.alloc (.cells b.arr 26)) w.heap.size b):=nbox_new w b
 have B0:Hid (Below w.heap.size w (w.alloc (.cells b.arr 26))):=hal
 obtain ⟨a0,a1,a2,a3,a4,a5,a6,a7,a8⟩:=(nbox_new w b).fields
 have hNk:Hid (RowN (Nd D w) w b.ak b.lk b.ck t.keys):=hN.2.2.2.1
 have hNi:Hid (RowN (Nd D w) w b.ai b.li b.ci t.kids):=hN.2.2.2.2
 have hlk:Hid (t.keys.length=b.lk):=hN.2.2.2.1.1
 have hli:Hid (t.kids.length=b.li):=hN.2.2.2.2.1
 have mk:=hN.2.2.2.1.2.1.1
 have mk':=hN.2.2.2.1.2.1.2.1
 have mi:=hN.2.2.2.2.2.1.1
 have mi':=hN.2.2.2.2.2.1.2.1
 unfold maxLen at mk' mi'
 have hV:Hid (v=true ↔ ¬ t.once):=hv
 clear hal hN hv
 go_enter Tryz.func49,Tryz.ntmps49
 go_wp2
 go_loopw [3] (fun s3 wr=>∃ (i:Nat),i≤b.lk∧s3 = .int .i64 i∧Hid (Below (w.alloc (.cells b.arr 26)).heap.size (w.alloc (.cells b.arr 26)) wr)∧Hid ((t.keys.take i).Nodup)) (fun i _=>b.lk - (intOf i).toNat)
 case atStart=>exact ⟨0,Nat.zero_le _,rfl,Below.refl _ _,by show List.Nodup _;simp⟩
 case round =>
  obtain ⟨i,him,rfl,hbl,hD⟩:=hrel
  clear a0 a1 a2 a3 a4 a5 a6 a7 a8
  have Qr:Hid (NBox wr w.heap.size b):=Q0.out.kept hbl.out Q0.out.lt
  have Br:Hid (Below w.heap.size w wr):=B0.out.trans (hbl.out.mono B0.out.size)
  obtain ⟨a0,a1,a2,a3,a4,a5,a6,a7,a8⟩:=Qr.out.fields
  by_cases hlt:i<b.lk
  ·have hz : (i : Int) < (b.lk : Int) := by omega
   have hix:Hid (i<t.keys.length):=by show _<_;rw [hlk.out];exact hlt
   have wi:IntKind.i64.wrap ((i:Int)+1)=(i:Int)+1:=by rw [IntKind.wrap_i64];omega
   go_wp2
   go_loopw [4] (fun s4 wr=>∃ (k:Nat),k≤i∧s4 = .int .i64 k∧Hid (Below (w.alloc (.cells b.arr 26)).heap.size (w.alloc (.cells b.arr 26)) wr)∧Hid (NotAmong t.keys i k)) (fun k _=>i - (intOf k).toNat)
   case atStart=>exact ⟨0,Nat.zero_le _,rfl,hbl,not_among_zero _ _⟩
   case round =>
    obtain ⟨k,hki,rfl,hbs,hA⟩:=hrel
    clear a0 a1 a2 a3 a4 a5 a6 a7 a8
    have Qs:Hid (NBox wr w.heap.size b):=Q0.out.kept hbs.out Q0.out.lt
    have Bs:Hid (Below w.heap.size w wr):=B0.out.trans (hbs.out.mono B0.out.size)
    obtain ⟨a0,a1,a2,a3,a4,a5,a6,a7,a8⟩:=Qs.out.fields
    by_cases hkl:k<i
    ·have hkz : (k : Int) < (i : Int) := by omega
     have hkb:(k:Int)<(b.lk:Int):=by omega
     have hkx:Hid (k<t.keys.length):=by show _<_;rw [hlk.out];omega
     have wk:IntKind.i64.wrap ((k:Int)+1)=(k:Int)+1:=by rw [IntKind.wrap_i64];omega
     obtain ⟨bk,ok,nk,hak,hck,hNn⟩:=row_sp hNk.out Bs.out hix.out
     obtain ⟨bk',ok',nj,hak',hcj,hNj⟩:=row_sp hNk.out Bs.out hkx.out
     have hae:some (⟨bk,ok,none⟩:Addr)=some ⟨bk',ok',none⟩:=by rw [←hak,←hak']
     obtain ⟨rfl,rfl⟩:bk=bk'∧ok=ok':=by simpa using hae
     have hT:Hid (Bo1 w wr b):=⟨Qs.out,Bs.out⟩
     have hS:Hid (∀ wx,Bo1 w wx b→wx.cell? ⟨w.heap.size,7,none⟩=some (.slice (some ⟨bk,ok,none⟩) b.lk b.ck)∧(wx.cell? ⟨bk,ok+i*9,none⟩=some (.int .i64 nk.kind)∧wx.cell? ⟨bk,ok+i*9+1,none⟩=some (.int .u64 nk.num)∧wx.cell? ⟨bk,ok+i*9+2,none⟩=some (.bool nk.neg)∧wx.cell? ⟨bk,ok+i*9+3,none⟩=some (.string nk.dig)∧wx.cell? ⟨bk,ok+i*9+4,none⟩=some (.int .i64 nk.exp)∧wx.cell? ⟨bk,ok+i*9+5,none⟩=some (.string nk.txt)∧wx.cell? ⟨bk,ok+i*9+6,none⟩=some (.slice nk.ab nk.lb nk.cb)∧wx.cell? ⟨bk,ok+i*9+7,none⟩=some (.slice nk.ak nk.lk nk.ck)∧wx.cell? ⟨bk,ok+i*9+8,none⟩=some (.slice nk.ai nk.li nk.ci))∧(wx.cell? ⟨bk,ok+k*9,none⟩=some (.int .i64 nj.kind)∧wx.cell? ⟨bk,ok+k*9+1,none⟩=some (.int .u64 nj.num)∧wx.cell? ⟨bk,ok+k*9+2,none⟩=some (.bool nj.neg)∧wx.cell? ⟨bk,ok+k*9+3,none⟩=some (.string nj.dig)∧wx.cell? ⟨bk,ok+k*9+4,none⟩=some (.int .i64 nj.exp)∧wx.cell? ⟨bk,ok+k*9+5,none⟩=some (.string nj.txt)∧wx.cell? ⟨bk,ok+k*9+6,none⟩=some (.slice nj.ab nj.lb nj.cb)∧wx.cell? ⟨bk,ok+k*9+7,none⟩=some (.slice nj.ak nj.lk nj.ck)∧wx.cell? ⟨bk,ok+k*9+8,none⟩=some (.slice nj.ai nj.li nj.ci))):=fun wx h=>⟨by rw [←hak];exact h.1.cell 7,elem_fields (hck wx h.2),elem_fields (hcj wx h.2)⟩
     have hS0:=hS.out _ hT.out
     obtain ⟨e0,⟨f0,f1,f2,f3,f4,f5,f6,f7,f8⟩,⟨g0,g1,g2,g3,g4,g5,g6,g7,g8⟩⟩:=hS0
     obtain ⟨u,hu⟩:=bool_of (t.keys[i]'hix.out=t.keys[k]'hkx.out)
     have kS:∀ w',Below w.heap.size w w'→Calls Tryz.prog 23 #[.agg nk.arr, .agg nj.arr] w' fun e w''=>e = .returned (.bool u)∧Below w'.heap.size w' w'':=fun w' hb=>esam_any (hNn.kept hb) (hNj.kept hb) hu
     have hU:Hid (u=true ↔ t.keys[i]'hix.out=t.keys[k]'hkx.out):=hu
     clear hak' hae hcj hck hNn hNj hu
     cases u with
     | true =>
      obtain rfl:v=true:=hV.out.2 (fun ho=>nodup_not hix.out hkl (hU.out.1 rfl) ((once_eq t).1 ho).1)
      go_wp2
      go_region_held3 (fun wx=>wx.cell? ⟨w.heap.size,7,none⟩=some (.slice (some ⟨bk,ok,none⟩) b.lk b.ck)∧(wx.cell? ⟨bk,ok+i*9,none⟩=some (.int .i64 nk.kind)∧wx.cell? ⟨bk,ok+i*9+1,none⟩=some (.int .u64 nk.num)∧wx.cell? ⟨bk,ok+i*9+2,none⟩=some (.bool nk.neg)∧wx.cell? ⟨bk,ok+i*9+3,none⟩=some (.string nk.dig)∧wx.cell? ⟨bk,ok+i*9+4,none⟩=some (.int .i64 nk.exp)∧wx.cell? ⟨bk,ok+i*9+5,none⟩=some (.string nk.txt)∧wx.cell? ⟨bk,ok+i*9+6,none⟩=some (.slice nk.ab nk.lb nk.cb)∧wx.cell? ⟨bk,ok+i*9+7,none⟩=some (.slice nk.ak nk.lk nk.ck)∧wx.cell? ⟨bk,ok+i*9+8,none⟩=some (.slice nk.ai nk.li nk.ci))∧(wx.cell? ⟨bk,ok+k*9,none⟩=some (.int .i64 nj.kind)∧wx.cell? ⟨bk,ok+k*9+1,none⟩=some (.int .u64 nj.num)∧wx.cell? ⟨bk,ok+k*9+2,none⟩=some (.bool nj.neg)∧wx.cell? ⟨bk,ok+k*9+3,none⟩=some (.string nj.dig)∧wx.cell? ⟨bk,ok+k*9+4,none⟩=some (.int .i64 nj.exp)∧wx.cell? ⟨bk,ok+k*9+5,none⟩=some (.string nj.txt)∧wx.cell? ⟨bk,ok+k*9+6,none⟩=some (.slice nj.ab nj.lb nj.cb)∧wx.cell? ⟨bk,ok+k*9+7,none⟩=some (.slice nj.ak nj.lk nj.ck)∧wx.cell? ⟨bk,ok+k*9+8,none⟩=some (.slice nj.ai nj.li nj.ci))) (first | exact hS.out _ hT.out.drew | exact hS.out _ T1.out) (first
       | (go_at_call 23;refine (kS _ hT.out.drew.2).mono ?_;rintro e w1 ⟨rfl,q1⟩;have T1:Hid (Bo1 w w1 b):=hT.out.drew.on q1;clear q1))
      go_wp2
      go_ret
      exact ⟨rfl,T1.out.2⟩
     | false =>
      have hA':Hid (NotAmong t.keys i (k+1)):=not_among_next hkx.out hA.out hix.out (fun h=>by have:=hU.out.2 h;cases this)
      go_wp2
      go_region_held3 (fun wx=>wx.cell? ⟨w.heap.size,7,none⟩=some (.slice (some ⟨bk,ok,none⟩) b.lk b.ck)∧(wx.cell? ⟨bk,ok+i*9,none⟩=some (.int .i64 nk.kind)∧wx.cell? ⟨bk,ok+i*9+1,none⟩=some (.int .u64 nk.num)∧wx.cell? ⟨bk,ok+i*9+2,none⟩=some (.bool nk.neg)∧wx.cell? ⟨bk,ok+i*9+3,none⟩=some (.string nk.dig)∧wx.cell? ⟨bk,ok+i*9+4,none⟩=some (.int .i64 nk.exp)∧wx.cell? ⟨bk,ok+i*9+5,none⟩=some (.string nk.txt)∧wx.cell? ⟨bk,ok+i*9+6,none⟩=some (.slice nk.ab nk.lb nk.cb)∧wx.cell? ⟨bk,ok+i*9+7,none⟩=some (.slice nk.ak nk.lk nk.ck)∧wx.cell? ⟨bk,ok+i*9+8,none⟩=some (.slice nk.ai nk.li nk.ci))∧(wx.cell? ⟨bk,ok+k*9,none⟩=some (.int .i64 nj.kind)∧wx.cell? ⟨bk,ok+k*9+1,none⟩=some (.int .u64 nj.num)∧wx.cell? ⟨bk,ok+k*9+2,none⟩=some (.bool nj.neg)∧wx.cell? ⟨bk,ok+k*9+3,none⟩=some (.string nj.dig)∧wx.cell? ⟨bk,ok+k*9+4,none⟩=some (.int .i64 nj.exp)∧wx.cell? ⟨bk,ok+k*9+5,none⟩=some (.string nj.txt)∧wx.cell? ⟨bk,ok+k*9+6,none⟩=some (.slice nj.ab nj.lb nj.cb)∧wx.cell? ⟨bk,ok+k*9+7,none⟩=some (.slice nj.ak nj.lk nj.ck)∧wx.cell? ⟨bk,ok+k*9+8,none⟩=some (.slice nj.ai nj.li nj.ci))) (first | exact hS.out _ hT.out.drew | exact hS.out _ T1.out) (first
       | (go_at_call 23;refine (kS _ hT.out.drew.2).mono ?_;rintro e w1 ⟨rfl,q1⟩;have T1:Hid (Bo1 w w1 b):=hT.out.drew.on q1;have hbT:Hid (Below (w.alloc (.cells b.arr 26)).heap.size (w.alloc (.cells b.arr 26)) w1):=hbs.out.drew.trans (q1.mono hbs.out.drew.size);clear q1))
      go_wp2
      try simp only [hak]
      go_roundw
      case rel=>exact ⟨k+1,by omega,by go_num,hbT,hA'⟩
      case measure=>simp [intOf];omega
    ·have hkz : ¬ (k : Int) < (i : Int) := by omega
     obtain rfl:k=i:=by omega
     have hD':Hid ((t.keys.take (k+1)).Nodup):=nodup_next hix.out hD.out hA.out
     go_wp2
     go_roundw
     case rel=>exact ⟨k+1,by omega,by go_num,hbs,hD'⟩
     case measure=>simp [intOf];omega
  ·have hz : ¬ (i : Int) < (b.lk : Int) := by omega
   have hDD:Hid (t.keys.Nodup):=by
    have:=hD.out
    rwa [List.take_of_length_le (by rw [hlk.out];omega)] at this
   clear hlt him hD
   go_wp2
   go_loopw [5] (fun s5 wr=>∃ (k:Nat),k≤b.lk∧s5 = .int .i64 k∧Hid (Below (w.alloc (.cells b.arr 26)).heap.size (w.alloc (.cells b.arr 26)) wr)∧Hid (∀ x,x∈t.keys.take k→x.once)) (fun k _=>b.lk - (intOf k).toNat)
   case atStart=>exact ⟨0,Nat.zero_le _,rfl,hbl,by show ∀ x,_;simp⟩
   case round =>
    obtain ⟨k,hki,rfl,hbs,hA⟩:=hrel
    clear a0 a1 a2 a3 a4 a5 a6 a7 a8
    have Qs:Hid (NBox wr w.heap.size b):=Q0.out.kept hbs.out Q0.out.lt
    have Bs:Hid (Below w.heap.size w wr):=B0.out.trans (hbs.out.mono B0.out.size)
    obtain ⟨a0,a1,a2,a3,a4,a5,a6,a7,a8⟩:=Qs.out.fields
    by_cases hkl:k<b.lk
    ·have hkz : (k : Int) < (b.lk : Int) := by omega
     have hkx:Hid (k<t.keys.length):=by show _<_;rw [hlk.out];omega
     have wk:IntKind.i64.wrap ((k:Int)+1)=(k:Int)+1:=by rw [IntKind.wrap_i64];omega
     obtain ⟨u,hu⟩:=bool_of (¬ (t.keys[k]'hkx.out).once)
     obtain ⟨bk,ok,nk,hak,hck,kT⟩:=tw_el ih hNk.out hkx.out hu wr Bs.out
     obtain ⟨f0,f1,f2,f3,f4,f5,f6,f7,f8⟩:=elem_fields hck
     have hU:Hid (u=true ↔ ¬ (t.keys[k]'hkx.out).once):=hu
     clear hck hu
     cases u with
     | true =>
      obtain rfl:v=true:=hV.out.2 (fun ho=>hU.out.1 rfl (((once_eq t).1 ho).2.1 _ (List.getElem_mem hkx.out)))
      go_wp2_with (go_at_call 49;refine kT.mono ?_;rintro e w2 ⟨rfl,hb2⟩)
      go_ret
      exact ⟨rfl,Bs.out.trans (hb2.mono Bs.out.size)⟩
     | false =>
      have hA':Hid (∀ x,x∈t.keys.take (k+1)→x.once):=take_once hkx.out hA.out (Classical.byContradiction fun h=>by have:=hU.out.2 h;cases this)
      go_wp2_with (go_at_call 49;refine kT.mono ?_;rintro e w2 ⟨rfl,hb2⟩)
      try simp only [hak]
      go_roundw
      case rel=>exact ⟨k+1,by omega,by go_num,hbs.out.trans (hb2.mono hbs.out.size),hA'⟩
      case measure=>simp [intOf];omega
    ·have hkz : ¬ (k : Int) < (b.lk : Int) := by omega
     have hKK:Hid (∀ x,x∈t.keys→x.once):=by
      have:=hA.out
      rwa [List.take_of_length_le (by rw [hlk.out];omega)] at this
     clear hkl hki hA
     go_wp2
     go_loopw [6] (fun s6 wr=>∃ (j:Nat),j≤b.li∧s6 = .int .i64 j∧Hid (Below (w.alloc (.cells b.arr 26)).heap.size (w.alloc (.cells b.arr 26)) wr)∧Hid (∀ x,x∈t.kids.take j→x.once)) (fun j _=>b.li - (intOf j).toNat)
     case atStart=>exact ⟨0,Nat.zero_le _,rfl,hbs,by show ∀ x,_;simp⟩
     case round =>
      obtain ⟨j,hji,rfl,hbu,hA⟩:=hrel
      clear a0 a1 a2 a3 a4 a5 a6 a7 a8
      have Qu:Hid (NBox wr w.heap.size b):=Q0.out.kept hbu.out Q0.out.lt
      have Bu:Hid (Below w.heap.size w wr):=B0.out.trans (hbu.out.mono B0.out.size)
      obtain ⟨a0,a1,a2,a3,a4,a5,a6,a7,a8⟩:=Qu.out.fields
      by_cases hjl:j<b.li
      ·have hjz : (j : Int) < (b.li : Int) := by omega
       have hjx:Hid (j<t.kids.length):=by show _<_;rw [hli.out];omega
       have wj:IntKind.i64.wrap ((j:Int)+1)=(j:Int)+1:=by rw [IntKind.wrap_i64];omega
       obtain ⟨u,hu⟩:=bool_of (¬ (t.kids[j]'hjx.out).once)
       obtain ⟨bk,ok,nk,hak,hck,kT⟩:=tw_el ih hNi.out hjx.out hu wr Bu.out
       obtain ⟨f0,f1,f2,f3,f4,f5,f6,f7,f8⟩:=elem_fields hck
       have hU:Hid (u=true ↔ ¬ (t.kids[j]'hjx.out).once):=hu
       clear hck hu
       cases u with
       | true =>
        obtain rfl:v=true:=hV.out.2 (fun ho=>hU.out.1 rfl (((once_eq t).1 ho).2.2 _ (List.getElem_mem hjx.out)))
        go_wp2_with (go_at_call 49;refine kT.mono ?_;rintro e w2 ⟨rfl,hb2⟩)
        go_ret
        exact ⟨rfl,Bu.out.trans (hb2.mono Bu.out.size)⟩
       | false =>
        have hA':Hid (∀ x,x∈t.kids.take (j+1)→x.once):=take_once hjx.out hA.out (Classical.byContradiction fun h=>by have:=hU.out.2 h;cases this)
        go_wp2_with (go_at_call 49;refine kT.mono ?_;rintro e w2 ⟨rfl,hb2⟩)
        try simp only [hak]
        go_roundw
        case rel=>exact ⟨j+1,by omega,by go_num,hbu.out.trans (hb2.mono hbu.out.size),hA'⟩
        case measure=>simp [intOf];omega
      ·have hjz : ¬ (j : Int) < (b.li : Int) := by omega
       obtain rfl:v=false:=not_true hV.out (fun h=>h ((once_eq t).2 ⟨hDD.out,hKK.out,by
        have:=hA.out
        rwa [List.take_of_length_le (by rw [hli.out];omega)] at this⟩))
       go_wp2
       go_ret
       exact ⟨rfl,Bu.out⟩
theorem tw_all:∀ D,TwAt D:=by
 intro D
 induction D with
 | zero=>intro t b w v h;exact absurd h id
 | succ D ih=>exact tw_step ih
theorem etwice_any{D:Nat}{t:Tr}{b:Nb}{w:World}{v:Bool}(hN:Nd D w b t)(hv:v=true ↔ ¬ t.All (fun u=>u.keys.Nodup)):Calls Tryz.prog 49 #[.agg b.arr] w fun e w'=>e = .returned (.bool v)∧Below w.heap.size w w':=tw_all D t b w v hN hv
end Go.Proofs.YtejlaiofpekchaaGreatDoor
namespace Go.Proofs.YtejlaiofpekchaaGreatDoor
open Go.RowKit
set_option linter.unusedVariables false
set_option maxHeartbeats 4000000 in
set_option maxRecDepth 100000 in
theorem echeck_any{D:Nat}{t:Tr}{b:Nb}{w:World}(hN:Nd D w b t):Calls Tryz.prog 20 #[.agg b.arr] w fun e w'=>(∃ er,e = .returned (.int .i64 er)∧Tr.ChkIs alF t er)∧Below w.heap.size w w':=by
 have hal:=alloc_below w (.cells b.arr 26)
 have Q0:Hid (NBox (w.alloc (.cells b.arr 26)) w.heap.size b):=nbox_new w b
 have B0:Hid (Below w.heap.size w (w.alloc (.cells b.arr 26))):=hal
 obtain ⟨a0,a1,a2,a3,a4,a5,a6,a7,a8⟩:=(nbox_new w b).fields
 have kF:=efew_any (hN.kept hal)
 have hN':Hid (Nd D w b t):=hN
 clear hal hN
 by_cases hs:t.size≤1024
 ·rw [decide_eq_true hs] at kF
  have hs':Hid (t.size≤1024):=hs
  have kD:Hid (∀ w2,Below w.heap.size w w2→Calls Tryz.prog 47 #[.agg b.arr] w2 fun e w'=>e = .returned (.int .i64 (t.deep:Nat))∧Below w2.heap.size w2 w'):=fun w2 hb=>deep_all D t b w2 (hN'.out.kept hb) (by have:=hs'.out;omega)
  have kO:Hid (∀ w2,Below w.heap.size w w2→Calls Tryz.prog 48 #[.agg b.arr] w2 fun e w'=>e = .returned (.int .i64 (t.forms alF))∧Below w2.heap.size w2 w'):=fun w2 hb=>form_all D t b w2 (hN'.out.kept hb)
  obtain ⟨v,hv⟩:=bool_of (¬ t.All (fun u=>u.keys.Nodup))
  have kT:Hid (∀ w2,Below w.heap.size w w2→Calls Tryz.prog 49 #[.agg b.arr] w2 fun e w'=>e = .returned (.bool v)∧Below w2.heap.size w2 w'):=fun w2 hb=>etwice_any (hN'.out.kept hb) hv
  have hV:Hid (v=true ↔ ¬ t.All (fun u=>u.keys.Nodup)):=hv
  have hF':Hid (t.forms alF=t.forms alF):=rfl
  have hFx:∃ A,t.forms alF=A:=⟨_,rfl⟩
  obtain ⟨A,hA⟩:=hFx
  rw [hA] at kO
  have hA':Hid (t.forms alF=A):=hA
  clear hs hv hF' hA
  by_cases hd:t.deep≤24
  ·have hd1 : decide ((24 : Int) < ((t.deep : Nat) : Int)) = false := by simp; omega
   have hd':Hid (t.deep≤24):=hd
   clear hd
   generalize t.deep=E at kD hd1
   by_cases hz:A=0
   ·subst hz
    cases v with
    | true =>
     go_enter Tryz.func20,Tryz.ntmps20
     go_wp2_with (first
      | (go_at_call 22;refine kF.mono ?_;rintro e w2 ⟨rfl,hb2⟩;clear kF a0 a1 a2 a3 a4 a5 a6 a7 a8;have Q2:Hid (NBox w2 w.heap.size b):=Q0.out.kept hb2 Q0.out.lt;have B2:Hid (Below w.heap.size w w2):=B0.out.trans (hb2.mono B0.out.size);obtain ⟨a0,a1,a2,a3,a4,a5,a6,a7,a8⟩:=Q2.out.fields;have kD2:=kD.out w2 B2.out)
      | (go_at_call 47;refine kD2.mono ?_;rintro e w3 ⟨rfl,hb3⟩;clear kD2 a0 a1 a2 a3 a4 a5 a6 a7 a8;have Q3:Hid (NBox w3 w.heap.size b):=Q2.out.kept hb3 Q2.out.lt;have B3:Hid (Below w.heap.size w w3):=B2.out.trans (hb3.mono B2.out.size);obtain ⟨a0,a1,a2,a3,a4,a5,a6,a7,a8⟩:=Q3.out.fields;have kO3:=kO.out w3 B3.out)
      | (go_at_call 48;refine kO3.mono ?_;rintro e w4 ⟨rfl,hb4⟩;clear kO3 a0 a1 a2 a3 a4 a5 a6 a7 a8;have Q4:Hid (NBox w4 w.heap.size b):=Q3.out.kept hb4 Q3.out.lt;have B4:Hid (Below w.heap.size w w4):=B3.out.trans (hb4.mono B3.out.size);obtain ⟨a0,a1,a2,a3,a4,a5,a6,a7,a8⟩:=Q4.out.fields;have kT4:=kT.out w4 B4.out)
      | (go_at_call 49;refine kT4.mono ?_;rintro e w5 ⟨rfl,hb5⟩))
     go_ret
     exact ⟨⟨9,rfl, .inr (.inr (.inr (.inl ⟨hs'.out,hd'.out,hA'.out,(by simpa using hV.out),rfl⟩)))⟩,B4.out.trans (hb5.mono B4.out.size)⟩
    | false =>
     go_enter Tryz.func20,Tryz.ntmps20
     go_wp2_with (first
      | (go_at_call 22;refine kF.mono ?_;rintro e w2 ⟨rfl,hb2⟩;clear kF a0 a1 a2 a3 a4 a5 a6 a7 a8;have Q2:Hid (NBox w2 w.heap.size b):=Q0.out.kept hb2 Q0.out.lt;have B2:Hid (Below w.heap.size w w2):=B0.out.trans (hb2.mono B0.out.size);obtain ⟨a0,a1,a2,a3,a4,a5,a6,a7,a8⟩:=Q2.out.fields;have kD2:=kD.out w2 B2.out)
      | (go_at_call 47;refine kD2.mono ?_;rintro e w3 ⟨rfl,hb3⟩;clear kD2 a0 a1 a2 a3 a4 a5 a6 a7 a8;have Q3:Hid (NBox w3 w.heap.size b):=Q2.out.kept hb3 Q2.out.lt;have B3:Hid (Below w.heap.size w w3):=B2.out.trans (hb3.mono B2.out.size);obtain ⟨a0,a1,a2,a3,a4,a5,a6,a7,a8⟩:=Q3.out.fields;have kO3:=kO.out w3 B3.out)
      | (go_at_call 48;refine kO3.mono ?_;rintro e w4 ⟨rfl,hb4⟩;clear kO3 a0 a1 a2 a3 a4 a5 a6 a7 a8;have Q4:Hid (NBox w4 w.heap.size b):=Q3.out.kept hb4 Q3.out.lt;have B4:Hid (Below w.heap.size w w4):=B3.out.trans (hb4.mono B3.out.size);obtain ⟨a0,a1,a2,a3,a4,a5,a6,a7,a8⟩:=Q4.out.fields;have kT4:=kT.out w4 B4.out)
      | (go_at_call 49;refine kT4.mono ?_;rintro e w5 ⟨rfl,hb5⟩))
     go_ret
     exact ⟨⟨0,rfl, .inr (.inr (.inr (.inr ⟨hs'.out,hd'.out,hA'.out,(by simpa using hV.out),rfl⟩)))⟩,B4.out.trans (hb5.mono B4.out.size)⟩
   ·have hz2 : (A == 0) = false := by simp [hz]
    have hz':Hid (A≠0):=hz
    clear hz kT
    go_enter Tryz.func20,Tryz.ntmps20
    go_wp2_with (first
     | (go_at_call 22;refine kF.mono ?_;rintro e w2 ⟨rfl,hb2⟩;clear kF a0 a1 a2 a3 a4 a5 a6 a7 a8;have Q2:Hid (NBox w2 w.heap.size b):=Q0.out.kept hb2 Q0.out.lt;have B2:Hid (Below w.heap.size w w2):=B0.out.trans (hb2.mono B0.out.size);obtain ⟨a0,a1,a2,a3,a4,a5,a6,a7,a8⟩:=Q2.out.fields;have kD2:=kD.out w2 B2.out)
     | (go_at_call 47;refine kD2.mono ?_;rintro e w3 ⟨rfl,hb3⟩;clear kD2 a0 a1 a2 a3 a4 a5 a6 a7 a8;have Q3:Hid (NBox w3 w.heap.size b):=Q2.out.kept hb3 Q2.out.lt;have B3:Hid (Below w.heap.size w w3):=B2.out.trans (hb3.mono B2.out.size);obtain ⟨a0,a1,a2,a3,a4,a5,a6,a7,a8⟩:=Q3.out.fields;have kO3:=kO.out w3 B3.out)
     | (go_at_call 48;refine kO3.mono ?_;rintro e w4 ⟨rfl,hb4⟩;clear kO3 a0 a1 a2 a3 a4 a5 a6 a7 a8))
    go_ret
    exact ⟨⟨A,rfl, .inr (.inr (.inl ⟨hs'.out,hd'.out,by rw [hA'.out];exact hz'.out,hA'.out.symm⟩))⟩,B3.out.trans (hb4.mono B3.out.size)⟩
  ·have hd1 : decide ((24 : Int) < ((t.deep : Nat) : Int)) = true := by simp; omega
   have hd':Hid (24<t.deep):=by show _<_;omega
   clear hd kT kO
   generalize t.deep=E at kD hd1
   go_enter Tryz.func20,Tryz.ntmps20
   go_wp2_with (first
    | (go_at_call 22;refine kF.mono ?_;rintro e w2 ⟨rfl,hb2⟩;clear kF a0 a1 a2 a3 a4 a5 a6 a7 a8;have Q2:Hid (NBox w2 w.heap.size b):=Q0.out.kept hb2 Q0.out.lt;have B2:Hid (Below w.heap.size w w2):=B0.out.trans (hb2.mono B0.out.size);obtain ⟨a0,a1,a2,a3,a4,a5,a6,a7,a8⟩:=Q2.out.fields;have kD2:=kD.out w2 B2.out)
    | (go_at_call 47;refine kD2.mono ?_;rintro e w3 ⟨rfl,hb3⟩;clear kD2))
   go_ret
   exact ⟨⟨7,rfl, .inr (.inl ⟨hs'.out,hd'.out,rfl⟩)⟩,B2.out.trans (hb3.mono B2.out.size)⟩
 ·rw [decide_eq_false hs] at kF
  have hs':Hid (1024<t.size):=by show _<_;omega
  clear hs
  go_enter Tryz.func20,Tryz.ntmps20
  go_wp2_with (go_at_call 22;refine kF.mono ?_;rintro e w2 ⟨rfl,hb2⟩)
  go_ret
  exact ⟨⟨8,rfl, .inl ⟨hs'.out,rfl⟩⟩,B0.out.trans (hb2.mono B0.out.size)⟩
end Go.Proofs.YtejlaiofpekchaaGreatDoor
