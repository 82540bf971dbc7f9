/-
  The fault of a node, what is in it aside, as the document's call tells it: gantlineref08.alone, of Tags and Simples.
  The fault of a node, what is in it aside, as the document's call tells it: gantlineref08.alone, of Bytes.
-/
import Derived.Test.YtejlaiofpekchaaGreatDoorC26
import Derived.Test.YtejlaiofpekchaaGreatDoorC19
import Derived.Test.YtejlaiofpekchaaGreatDoorC25
import Derived.Test.YtejlaiofpekchaaGreatDoorC18
import Derived.Test.YtejlaiofpekchaaGreatDoorC27
namespace Go.Proofs.YtejlaiofpekchaaGreatDoor
open Go.RowKit
set_option linter.unusedVariables false
set_option maxHeartbeats 8000000 in
set_option maxRecDepth 100000 in
theorem ealone_k9{D:Nat}{t:Tr}{b:Nb}{w:World}(hN:Nd (D+1) w b t)(hK:b.kind=9):Calls Tryz.prog 81 #[.agg b.arr] w fun e w'=>e = .returned (.int .i64 (alF t))∧Below w.heap.size w w':=by
 have hal:=alloc_below w (.cells b.arr 26)
 have B0:Hid (Below w.heap.size w (w.alloc (.cells b.arr 26))):=hal
 have Q0:Hid (NBox (w.alloc (.cells b.arr 26)) w.heap.size b):=nbox_new w b
 obtain ⟨a0,a1,a2,a3,a4,a5,a6,a7,a8⟩:=(nbox_new w b).fields
 have rk:=hN.2.2.2.1.2.1
 have ri:=hN.2.2.2.2.2.1
 have kB:=bare_any b (w.alloc (.cells b.arr 26))
 have kS:Hid (∀ w',Below w.heap.size w w'→Calls Tryz.prog 23 #[.agg (bar b).arr, .agg b.arr] w' fun e w''=>e = .returned (.bool t.clean)∧Below w'.heap.size w' w''):=fun w' hb=>esam_any (nd_bar (hN.kept hb)) (hN.kept hb) (Tr.clean_iff t)
 have hk:b.kind=t.kind:=hN.1.1
 have hnum:b.num=t.num:=hN.1.2.1
 have hneg:b.neg=t.neg:=hN.1.2.2.1
 have hdig:b.dig=t.dig:=hN.1.2.2.2.1
 have hexp:b.exp=t.exp:=hN.1.2.2.2.2.1
 have htxt:b.txt=t.txt:=hN.1.2.2.2.2.2
 have hlb:t.bytes.length=b.lb:=hN.2.2.1.1
 have hlk:t.keys.length=b.lk:=hN.2.2.2.1.1
 have hli:t.kids.length=b.li:=hN.2.2.2.2.1
 have mb1:=hN.2.2.1.2.1.1
 have mb2:=hN.2.2.1.2.1.2.1
 have mk1:=rk.1
 have mk2:=rk.2.1
 have mi1:=ri.1
 have mi2:=ri.2.1
 unfold maxLen at mb2 mk2 mi2
 have mt:b.txt.size≤140737488351232:=by rw [htxt];exact hN.2.1.2.2.2.2
 have hA:alF t=if (b.kind=5∧4096<b.txt.size)∨(b.kind=6∧4096<b.lb) then 8
  else if b.kind=5∧gtx b.txt=false then 6
  else if b.kind=2∧(rt b.dig=false∨(b.neg=true∧b.dig=⟨#[48]⟩)) then 11
  else if b.kind=3∧rdN b.neg b.dig b.exp=false then 11
  else if t.odd=true then 12 else 0:=by
  rw [hk,hneg,hdig,hexp,htxt,←hlb];rfl
 have hO:=odd_doc hN
 have hkk:Hid (b.kind=t.kind):=hk
 clear hneg hdig hexp htxt hlb hlk hli hnum hN hk hal rk ri
 have e1:(b.kind==1)=false:=by rw [hK];decide
 have e2:(b.kind==2)=false:=by rw [hK];decide
 have e3:(b.kind==3)=false:=by rw [hK];decide
 have e5:(b.kind==5)=false:=by rw [hK];decide
 have e6:(b.kind==6)=false:=by rw [hK];decide
 have e8:(b.kind==8)=false:=by rw [hK];decide
 have e9:(b.kind==9)=true:=by rw [hK];decide
 have e10:(b.kind==10)=false:=by rw [hK];decide
 have d0:decide (b.kind<0)=false:=by rw [hK];decide
 have d10:decide (10<b.kind)=false:=by rw [hK];decide
 rw [if_neg (by omega),if_neg (by omega),if_neg (by omega),if_neg (by omega)] at hA
 rw [d0,d10,e1,e8,e9,e10] at hO
 clear hK
 cases hc:t.clean with
 | false =>
  rw [hO,hc] at hA
  rw [hc] at kS
  have hR:alF t=12:=by rw [hA];simp
  rw [hR]
  clear hA hO hc hR
  go_enter Tryz.func81,Tryz.ntmps81
  go_wp2_with (first
   | (go_at_call 119;refine kB.mono ?_;rintro e w1 ⟨he,hb1⟩;rw [Nb.arr] at he;subst he;clear kB a0 a1 a2 a3 a4 a5 a6 a7 a8;have A1:=alloc_below w1 (.cells #[.int .i64 (bar b).kind, .int .u64 (bar b).num, .bool (bar b).neg, .string (bar b).dig, .int .i64 (bar b).exp, .string (bar b).txt, .slice (bar b).ab (bar b).lb (bar b).cb, .slice (bar b).ak (bar b).lk (bar b).ck, .slice (bar b).ai (bar b).li (bar b).ci] 26);have b1:Below (w.alloc (.cells b.arr 26)).heap.size (w.alloc (.cells b.arr 26)) (w1.alloc (.cells #[.int .i64 (bar b).kind, .int .u64 (bar b).num, .bool (bar b).neg, .string (bar b).dig, .int .i64 (bar b).exp, .string (bar b).txt, .slice (bar b).ab (bar b).lb (bar b).cb, .slice (bar b).ak (bar b).lk (bar b).ck, .slice (bar b).ai (bar b).li (bar b).ci] 26)):=hb1.trans (A1.mono hb1.size);have Q1:Hid (NBox (w1.alloc (.cells #[.int .i64 (bar b).kind, .int .u64 (bar b).num, .bool (bar b).neg, .string (bar b).dig, .int .i64 (bar b).exp, .string (bar b).txt, .slice (bar b).ab (bar b).lb (bar b).cb, .slice (bar b).ak (bar b).lk (bar b).ck, .slice (bar b).ai (bar b).li (bar b).ci] 26)) w.heap.size b):=Q0.out.kept b1 Q0.out.lt;have X1:Hid (NBox (w1.alloc (.cells #[.int .i64 (bar b).kind, .int .u64 (bar b).num, .bool (bar b).neg, .string (bar b).dig, .int .i64 (bar b).exp, .string (bar b).txt, .slice (bar b).ab (bar b).lb (bar b).cb, .slice (bar b).ak (bar b).lk (bar b).ck, .slice (bar b).ai (bar b).li (bar b).ci] 26)) w1.heap.size (bar b)):=nbox_new w1 (bar b);have B1:Hid (Below w.heap.size w (w1.alloc (.cells #[.int .i64 (bar b).kind, .int .u64 (bar b).num, .bool (bar b).neg, .string (bar b).dig, .int .i64 (bar b).exp, .string (bar b).txt, .slice (bar b).ab (bar b).lb (bar b).cb, .slice (bar b).ak (bar b).lk (bar b).ck, .slice (bar b).ai (bar b).li (bar b).ci] 26))):=B0.out.trans (b1.mono B0.out.size);obtain ⟨a0,a1,a2,a3,a4,a5,a6,a7,a8⟩:=Q1.out.fields;obtain ⟨x0,x1,x2,x3,x4,x5,x6,x7,x8⟩:=X1.out.fields)
   | (have kS1:=kS.out _ B1.out;go_at_call 23;refine kS1.mono ?_;rintro e w9 ⟨rfl,hb9⟩;clear kS1;clear a0 a1 a2 a3 a4 a5 a6 a7 a8 x0 x1 x2 x3 x4 x5 x6 x7 x8;have Q9:Hid (NBox w9 w.heap.size b):=Q1.out.kept hb9 Q1.out.lt;have X9:Hid (NBox w9 w1.heap.size (bar b)):=X1.out.kept hb9 X1.out.lt;have B9:Hid (Below w.heap.size w w9):=B1.out.trans (hb9.mono B1.out.size);obtain ⟨a0,a1,a2,a3,a4,a5,a6,a7,a8⟩:=Q9.out.fields;obtain ⟨x0,x1,x2,x3,x4,x5,x6,x7,x8⟩:=X9.out.fields))
  go_ret
  exact ⟨rfl,B9.out⟩
 | true =>
  rw [hO,hc] at hA
  rw [hc] at kS
  cases hq:((b.li:Int) != 1) with
  | false =>
   rw [hq] at hA
   have hR:alF t=0:=by rw [hA];simp [*]
   rw [hR]
   clear hA hO hc hR
   go_enter Tryz.func81,Tryz.ntmps81
   go_wp2_with (first
    | (go_at_call 119;refine kB.mono ?_;rintro e w1 ⟨he,hb1⟩;rw [Nb.arr] at he;subst he;clear kB a0 a1 a2 a3 a4 a5 a6 a7 a8;have A1:=alloc_below w1 (.cells #[.int .i64 (bar b).kind, .int .u64 (bar b).num, .bool (bar b).neg, .string (bar b).dig, .int .i64 (bar b).exp, .string (bar b).txt, .slice (bar b).ab (bar b).lb (bar b).cb, .slice (bar b).ak (bar b).lk (bar b).ck, .slice (bar b).ai (bar b).li (bar b).ci] 26);have b1:Below (w.alloc (.cells b.arr 26)).heap.size (w.alloc (.cells b.arr 26)) (w1.alloc (.cells #[.int .i64 (bar b).kind, .int .u64 (bar b).num, .bool (bar b).neg, .string (bar b).dig, .int .i64 (bar b).exp, .string (bar b).txt, .slice (bar b).ab (bar b).lb (bar b).cb, .slice (bar b).ak (bar b).lk (bar b).ck, .slice (bar b).ai (bar b).li (bar b).ci] 26)):=hb1.trans (A1.mono hb1.size);have Q1:Hid (NBox (w1.alloc (.cells #[.int .i64 (bar b).kind, .int .u64 (bar b).num, .bool (bar b).neg, .string (bar b).dig, .int .i64 (bar b).exp, .string (bar b).txt, .slice (bar b).ab (bar b).lb (bar b).cb, .slice (bar b).ak (bar b).lk (bar b).ck, .slice (bar b).ai (bar b).li (bar b).ci] 26)) w.heap.size b):=Q0.out.kept b1 Q0.out.lt;have X1:Hid (NBox (w1.alloc (.cells #[.int .i64 (bar b).kind, .int .u64 (bar b).num, .bool (bar b).neg, .string (bar b).dig, .int .i64 (bar b).exp, .string (bar b).txt, .slice (bar b).ab (bar b).lb (bar b).cb, .slice (bar b).ak (bar b).lk (bar b).ck, .slice (bar b).ai (bar b).li (bar b).ci] 26)) w1.heap.size (bar b)):=nbox_new w1 (bar b);have B1:Hid (Below w.heap.size w (w1.alloc (.cells #[.int .i64 (bar b).kind, .int .u64 (bar b).num, .bool (bar b).neg, .string (bar b).dig, .int .i64 (bar b).exp, .string (bar b).txt, .slice (bar b).ab (bar b).lb (bar b).cb, .slice (bar b).ak (bar b).lk (bar b).ck, .slice (bar b).ai (bar b).li (bar b).ci] 26))):=B0.out.trans (b1.mono B0.out.size);obtain ⟨a0,a1,a2,a3,a4,a5,a6,a7,a8⟩:=Q1.out.fields;obtain ⟨x0,x1,x2,x3,x4,x5,x6,x7,x8⟩:=X1.out.fields)
    | (have kS1:=kS.out _ B1.out;go_at_call 23;refine kS1.mono ?_;rintro e w9 ⟨rfl,hb9⟩;clear kS1;clear a0 a1 a2 a3 a4 a5 a6 a7 a8 x0 x1 x2 x3 x4 x5 x6 x7 x8;have Q9:Hid (NBox w9 w.heap.size b):=Q1.out.kept hb9 Q1.out.lt;have X9:Hid (NBox w9 w1.heap.size (bar b)):=X1.out.kept hb9 X1.out.lt;have B9:Hid (Below w.heap.size w w9):=B1.out.trans (hb9.mono B1.out.size);obtain ⟨a0,a1,a2,a3,a4,a5,a6,a7,a8⟩:=Q9.out.fields;obtain ⟨x0,x1,x2,x3,x4,x5,x6,x7,x8⟩:=X9.out.fields))
   go_ret
   exact ⟨rfl,B9.out⟩
  | true =>
   rw [hq] at hA
   have hR:alF t=12:=by rw [hA];simp [*]
   rw [hR]
   clear hA hO hc hR
   go_enter Tryz.func81,Tryz.ntmps81
   go_wp2_with (first
    | (go_at_call 119;refine kB.mono ?_;rintro e w1 ⟨he,hb1⟩;rw [Nb.arr] at he;subst he;clear kB a0 a1 a2 a3 a4 a5 a6 a7 a8;have A1:=alloc_below w1 (.cells #[.int .i64 (bar b).kind, .int .u64 (bar b).num, .bool (bar b).neg, .string (bar b).dig, .int .i64 (bar b).exp, .string (bar b).txt, .slice (bar b).ab (bar b).lb (bar b).cb, .slice (bar b).ak (bar b).lk (bar b).ck, .slice (bar b).ai (bar b).li (bar b).ci] 26);have b1:Below (w.alloc (.cells b.arr 26)).heap.size (w.alloc (.cells b.arr 26)) (w1.alloc (.cells #[.int .i64 (bar b).kind, .int .u64 (bar b).num, .bool (bar b).neg, .string (bar b).dig, .int .i64 (bar b).exp, .string (bar b).txt, .slice (bar b).ab (bar b).lb (bar b).cb, .slice (bar b).ak (bar b).lk (bar b).ck, .slice (bar b).ai (bar b).li (bar b).ci] 26)):=hb1.trans (A1.mono hb1.size);have Q1:Hid (NBox (w1.alloc (.cells #[.int .i64 (bar b).kind, .int .u64 (bar b).num, .bool (bar b).neg, .string (bar b).dig, .int .i64 (bar b).exp, .string (bar b).txt, .slice (bar b).ab (bar b).lb (bar b).cb, .slice (bar b).ak (bar b).lk (bar b).ck, .slice (bar b).ai (bar b).li (bar b).ci] 26)) w.heap.size b):=Q0.out.kept b1 Q0.out.lt;have X1:Hid (NBox (w1.alloc (.cells #[.int .i64 (bar b).kind, .int .u64 (bar b).num, .bool (bar b).neg, .string (bar b).dig, .int .i64 (bar b).exp, .string (bar b).txt, .slice (bar b).ab (bar b).lb (bar b).cb, .slice (bar b).ak (bar b).lk (bar b).ck, .slice (bar b).ai (bar b).li (bar b).ci] 26)) w1.heap.size (bar b)):=nbox_new w1 (bar b);have B1:Hid (Below w.heap.size w (w1.alloc (.cells #[.int .i64 (bar b).kind, .int .u64 (bar b).num, .bool (bar b).neg, .string (bar b).dig, .int .i64 (bar b).exp, .string (bar b).txt, .slice (bar b).ab (bar b).lb (bar b).cb, .slice (bar b).ak (bar b).lk (bar b).ck, .slice (bar b).ai (bar b).li (bar b).ci] 26))):=B0.out.trans (b1.mono B0.out.size);obtain ⟨a0,a1,a2,a3,a4,a5,a6,a7,a8⟩:=Q1.out.fields;obtain ⟨x0,x1,x2,x3,x4,x5,x6,x7,x8⟩:=X1.out.fields)
    | (have kS1:=kS.out _ B1.out;go_at_call 23;refine kS1.mono ?_;rintro e w9 ⟨rfl,hb9⟩;clear kS1;clear a0 a1 a2 a3 a4 a5 a6 a7 a8 x0 x1 x2 x3 x4 x5 x6 x7 x8;have Q9:Hid (NBox w9 w.heap.size b):=Q1.out.kept hb9 Q1.out.lt;have X9:Hid (NBox w9 w1.heap.size (bar b)):=X1.out.kept hb9 X1.out.lt;have B9:Hid (Below w.heap.size w w9):=B1.out.trans (hb9.mono B1.out.size);obtain ⟨a0,a1,a2,a3,a4,a5,a6,a7,a8⟩:=Q9.out.fields;obtain ⟨x0,x1,x2,x3,x4,x5,x6,x7,x8⟩:=X9.out.fields))
   go_ret
   exact ⟨rfl,B9.out⟩
set_option maxHeartbeats 8000000 in
set_option maxRecDepth 100000 in
theorem ealone_k10{D:Nat}{t:Tr}{b:Nb}{w:World}(hN:Nd (D+1) w b t)(hK:b.kind=10):Calls Tryz.prog 81 #[.agg b.arr] w fun e w'=>e = .returned (.int .i64 (alF t))∧Below w.heap.size w w':=by
 have hal:=alloc_below w (.cells b.arr 26)
 have B0:Hid (Below w.heap.size w (w.alloc (.cells b.arr 26))):=hal
 have Q0:Hid (NBox (w.alloc (.cells b.arr 26)) w.heap.size b):=nbox_new w b
 obtain ⟨a0,a1,a2,a3,a4,a5,a6,a7,a8⟩:=(nbox_new w b).fields
 have rk:=hN.2.2.2.1.2.1
 have ri:=hN.2.2.2.2.2.1
 have kB:=bare_any b (w.alloc (.cells b.arr 26))
 have kS:Hid (∀ w',Below w.heap.size w w'→Calls Tryz.prog 23 #[.agg (bar b).arr, .agg b.arr] w' fun e w''=>e = .returned (.bool t.clean)∧Below w'.heap.size w' w''):=fun w' hb=>esam_any (nd_bar (hN.kept hb)) (hN.kept hb) (Tr.clean_iff t)
 have hk:b.kind=t.kind:=hN.1.1
 have hnum:b.num=t.num:=hN.1.2.1
 have hneg:b.neg=t.neg:=hN.1.2.2.1
 have hdig:b.dig=t.dig:=hN.1.2.2.2.1
 have hexp:b.exp=t.exp:=hN.1.2.2.2.2.1
 have htxt:b.txt=t.txt:=hN.1.2.2.2.2.2
 have hlb:t.bytes.length=b.lb:=hN.2.2.1.1
 have hlk:t.keys.length=b.lk:=hN.2.2.2.1.1
 have hli:t.kids.length=b.li:=hN.2.2.2.2.1
 have mb1:=hN.2.2.1.2.1.1
 have mb2:=hN.2.2.1.2.1.2.1
 have mk1:=rk.1
 have mk2:=rk.2.1
 have mi1:=ri.1
 have mi2:=ri.2.1
 unfold maxLen at mb2 mk2 mi2
 have mt:b.txt.size≤140737488351232:=by rw [htxt];exact hN.2.1.2.2.2.2
 have hA:alF t=if (b.kind=5∧4096<b.txt.size)∨(b.kind=6∧4096<b.lb) then 8
  else if b.kind=5∧gtx b.txt=false then 6
  else if b.kind=2∧(rt b.dig=false∨(b.neg=true∧b.dig=⟨#[48]⟩)) then 11
  else if b.kind=3∧rdN b.neg b.dig b.exp=false then 11
  else if t.odd=true then 12 else 0:=by
  rw [hk,hneg,hdig,hexp,htxt,←hlb];rfl
 have hO:=odd_doc hN
 have hkk:Hid (b.kind=t.kind):=hk
 clear hneg hdig hexp htxt hlb hlk hli hnum hN hk hal rk ri
 have e1:(b.kind==1)=false:=by rw [hK];decide
 have e2:(b.kind==2)=false:=by rw [hK];decide
 have e3:(b.kind==3)=false:=by rw [hK];decide
 have e5:(b.kind==5)=false:=by rw [hK];decide
 have e6:(b.kind==6)=false:=by rw [hK];decide
 have e8:(b.kind==8)=false:=by rw [hK];decide
 have e9:(b.kind==9)=false:=by rw [hK];decide
 have e10:(b.kind==10)=true:=by rw [hK];decide
 have d0:decide (b.kind<0)=false:=by rw [hK];decide
 have d10:decide (10<b.kind)=false:=by rw [hK];decide
 rw [if_neg (by omega),if_neg (by omega),if_neg (by omega),if_neg (by omega)] at hA
 rw [d0,d10,e1,e8,e9,e10] at hO
 clear hK
 have kP:∀ w0,Calls Tryz.prog 124 #[.int .u64 b.num] w0 fun e w'=>e = .returned (.bool (Tr.smp b.num))∧w'=w0:=fun w0=>simple_any b.num w0
 cases hc:t.clean with
 | false =>
  rw [hO,hc] at hA
  rw [hc] at kS
  have hR:alF t=12:=by rw [hA];simp
  rw [hR]
  clear hA hO hc hR
  go_enter Tryz.func81,Tryz.ntmps81
  go_wp2_with (first
   | (go_at_call 119;refine kB.mono ?_;rintro e w1 ⟨he,hb1⟩;rw [Nb.arr] at he;subst he;clear kB a0 a1 a2 a3 a4 a5 a6 a7 a8;have A1:=alloc_below w1 (.cells #[.int .i64 (bar b).kind, .int .u64 (bar b).num, .bool (bar b).neg, .string (bar b).dig, .int .i64 (bar b).exp, .string (bar b).txt, .slice (bar b).ab (bar b).lb (bar b).cb, .slice (bar b).ak (bar b).lk (bar b).ck, .slice (bar b).ai (bar b).li (bar b).ci] 26);have b1:Below (w.alloc (.cells b.arr 26)).heap.size (w.alloc (.cells b.arr 26)) (w1.alloc (.cells #[.int .i64 (bar b).kind, .int .u64 (bar b).num, .bool (bar b).neg, .string (bar b).dig, .int .i64 (bar b).exp, .string (bar b).txt, .slice (bar b).ab (bar b).lb (bar b).cb, .slice (bar b).ak (bar b).lk (bar b).ck, .slice (bar b).ai (bar b).li (bar b).ci] 26)):=hb1.trans (A1.mono hb1.size);have Q1:Hid (NBox (w1.alloc (.cells #[.int .i64 (bar b).kind, .int .u64 (bar b).num, .bool (bar b).neg, .string (bar b).dig, .int .i64 (bar b).exp, .string (bar b).txt, .slice (bar b).ab (bar b).lb (bar b).cb, .slice (bar b).ak (bar b).lk (bar b).ck, .slice (bar b).ai (bar b).li (bar b).ci] 26)) w.heap.size b):=Q0.out.kept b1 Q0.out.lt;have X1:Hid (NBox (w1.alloc (.cells #[.int .i64 (bar b).kind, .int .u64 (bar b).num, .bool (bar b).neg, .string (bar b).dig, .int .i64 (bar b).exp, .string (bar b).txt, .slice (bar b).ab (bar b).lb (bar b).cb, .slice (bar b).ak (bar b).lk (bar b).ck, .slice (bar b).ai (bar b).li (bar b).ci] 26)) w1.heap.size (bar b)):=nbox_new w1 (bar b);have B1:Hid (Below w.heap.size w (w1.alloc (.cells #[.int .i64 (bar b).kind, .int .u64 (bar b).num, .bool (bar b).neg, .string (bar b).dig, .int .i64 (bar b).exp, .string (bar b).txt, .slice (bar b).ab (bar b).lb (bar b).cb, .slice (bar b).ak (bar b).lk (bar b).ck, .slice (bar b).ai (bar b).li (bar b).ci] 26))):=B0.out.trans (b1.mono B0.out.size);obtain ⟨a0,a1,a2,a3,a4,a5,a6,a7,a8⟩:=Q1.out.fields;obtain ⟨x0,x1,x2,x3,x4,x5,x6,x7,x8⟩:=X1.out.fields)
   | (have kS1:=kS.out _ B1.out;go_at_call 23;refine kS1.mono ?_;rintro e w9 ⟨rfl,hb9⟩;clear kS1;clear a0 a1 a2 a3 a4 a5 a6 a7 a8 x0 x1 x2 x3 x4 x5 x6 x7 x8;have Q9:Hid (NBox w9 w.heap.size b):=Q1.out.kept hb9 Q1.out.lt;have X9:Hid (NBox w9 w1.heap.size (bar b)):=X1.out.kept hb9 X1.out.lt;have B9:Hid (Below w.heap.size w w9):=B1.out.trans (hb9.mono B1.out.size);obtain ⟨a0,a1,a2,a3,a4,a5,a6,a7,a8⟩:=Q9.out.fields;obtain ⟨x0,x1,x2,x3,x4,x5,x6,x7,x8⟩:=X9.out.fields))
  go_ret
  exact ⟨rfl,B9.out⟩
 | true =>
  rw [hO,hc] at hA
  rw [hc] at kS
  cases hq:Tr.smp b.num with
  | false =>
   rw [hq] at kP
   rw [hq] at hA
   have hR:alF t=12:=by rw [hA];simp [*]
   rw [hR]
   clear hA hO hc hR
   go_enter Tryz.func81,Tryz.ntmps81
   go_wp2_with (first
    | (go_at_call 119;refine kB.mono ?_;rintro e w1 ⟨he,hb1⟩;rw [Nb.arr] at he;subst he;clear kB a0 a1 a2 a3 a4 a5 a6 a7 a8;have A1:=alloc_below w1 (.cells #[.int .i64 (bar b).kind, .int .u64 (bar b).num, .bool (bar b).neg, .string (bar b).dig, .int .i64 (bar b).exp, .string (bar b).txt, .slice (bar b).ab (bar b).lb (bar b).cb, .slice (bar b).ak (bar b).lk (bar b).ck, .slice (bar b).ai (bar b).li (bar b).ci] 26);have b1:Below (w.alloc (.cells b.arr 26)).heap.size (w.alloc (.cells b.arr 26)) (w1.alloc (.cells #[.int .i64 (bar b).kind, .int .u64 (bar b).num, .bool (bar b).neg, .string (bar b).dig, .int .i64 (bar b).exp, .string (bar b).txt, .slice (bar b).ab (bar b).lb (bar b).cb, .slice (bar b).ak (bar b).lk (bar b).ck, .slice (bar b).ai (bar b).li (bar b).ci] 26)):=hb1.trans (A1.mono hb1.size);have Q1:Hid (NBox (w1.alloc (.cells #[.int .i64 (bar b).kind, .int .u64 (bar b).num, .bool (bar b).neg, .string (bar b).dig, .int .i64 (bar b).exp, .string (bar b).txt, .slice (bar b).ab (bar b).lb (bar b).cb, .slice (bar b).ak (bar b).lk (bar b).ck, .slice (bar b).ai (bar b).li (bar b).ci] 26)) w.heap.size b):=Q0.out.kept b1 Q0.out.lt;have X1:Hid (NBox (w1.alloc (.cells #[.int .i64 (bar b).kind, .int .u64 (bar b).num, .bool (bar b).neg, .string (bar b).dig, .int .i64 (bar b).exp, .string (bar b).txt, .slice (bar b).ab (bar b).lb (bar b).cb, .slice (bar b).ak (bar b).lk (bar b).ck, .slice (bar b).ai (bar b).li (bar b).ci] 26)) w1.heap.size (bar b)):=nbox_new w1 (bar b);have B1:Hid (Below w.heap.size w (w1.alloc (.cells #[.int .i64 (bar b).kind, .int .u64 (bar b).num, .bool (bar b).neg, .string (bar b).dig, .int .i64 (bar b).exp, .string (bar b).txt, .slice (bar b).ab (bar b).lb (bar b).cb, .slice (bar b).ak (bar b).lk (bar b).ck, .slice (bar b).ai (bar b).li (bar b).ci] 26))):=B0.out.trans (b1.mono B0.out.size);obtain ⟨a0,a1,a2,a3,a4,a5,a6,a7,a8⟩:=Q1.out.fields;obtain ⟨x0,x1,x2,x3,x4,x5,x6,x7,x8⟩:=X1.out.fields)
    | (have kS1:=kS.out _ B1.out;go_at_call 23;refine kS1.mono ?_;rintro e w9 ⟨rfl,hb9⟩;clear kS1;clear a0 a1 a2 a3 a4 a5 a6 a7 a8 x0 x1 x2 x3 x4 x5 x6 x7 x8;have Q9:Hid (NBox w9 w.heap.size b):=Q1.out.kept hb9 Q1.out.lt;have X9:Hid (NBox w9 w1.heap.size (bar b)):=X1.out.kept hb9 X1.out.lt;have B9:Hid (Below w.heap.size w w9):=B1.out.trans (hb9.mono B1.out.size);obtain ⟨a0,a1,a2,a3,a4,a5,a6,a7,a8⟩:=Q9.out.fields;obtain ⟨x0,x1,x2,x3,x4,x5,x6,x7,x8⟩:=X9.out.fields)
    | (go_at_call 124;refine (kP _).mono ?_;rintro e wz ⟨rfl,hwz⟩;subst hwz;have BZ:=B9))
   go_ret
   exact ⟨rfl,BZ.out⟩
  | true =>
   rw [hq] at kP
   rw [hq] at hA
   have hR:alF t=0:=by rw [hA];simp [*]
   rw [hR]
   clear hA hO hc hR
   go_enter Tryz.func81,Tryz.ntmps81
   go_wp2_with (first
    | (go_at_call 119;refine kB.mono ?_;rintro e w1 ⟨he,hb1⟩;rw [Nb.arr] at he;subst he;clear kB a0 a1 a2 a3 a4 a5 a6 a7 a8;have A1:=alloc_below w1 (.cells #[.int .i64 (bar b).kind, .int .u64 (bar b).num, .bool (bar b).neg, .string (bar b).dig, .int .i64 (bar b).exp, .string (bar b).txt, .slice (bar b).ab (bar b).lb (bar b).cb, .slice (bar b).ak (bar b).lk (bar b).ck, .slice (bar b).ai (bar b).li (bar b).ci] 26);have b1:Below (w.alloc (.cells b.arr 26)).heap.size (w.alloc (.cells b.arr 26)) (w1.alloc (.cells #[.int .i64 (bar b).kind, .int .u64 (bar b).num, .bool (bar b).neg, .string (bar b).dig, .int .i64 (bar b).exp, .string (bar b).txt, .slice (bar b).ab (bar b).lb (bar b).cb, .slice (bar b).ak (bar b).lk (bar b).ck, .slice (bar b).ai (bar b).li (bar b).ci] 26)):=hb1.trans (A1.mono hb1.size);have Q1:Hid (NBox (w1.alloc (.cells #[.int .i64 (bar b).kind, .int .u64 (bar b).num, .bool (bar b).neg, .string (bar b).dig, .int .i64 (bar b).exp, .string (bar b).txt, .slice (bar b).ab (bar b).lb (bar b).cb, .slice (bar b).ak (bar b).lk (bar b).ck, .slice (bar b).ai (bar b).li (bar b).ci] 26)) w.heap.size b):=Q0.out.kept b1 Q0.out.lt;have X1:Hid (NBox (w1.alloc (.cells #[.int .i64 (bar b).kind, .int .u64 (bar b).num, .bool (bar b).neg, .string (bar b).dig, .int .i64 (bar b).exp, .string (bar b).txt, .slice (bar b).ab (bar b).lb (bar b).cb, .slice (bar b).ak (bar b).lk (bar b).ck, .slice (bar b).ai (bar b).li (bar b).ci] 26)) w1.heap.size (bar b)):=nbox_new w1 (bar b);have B1:Hid (Below w.heap.size w (w1.alloc (.cells #[.int .i64 (bar b).kind, .int .u64 (bar b).num, .bool (bar b).neg, .string (bar b).dig, .int .i64 (bar b).exp, .string (bar b).txt, .slice (bar b).ab (bar b).lb (bar b).cb, .slice (bar b).ak (bar b).lk (bar b).ck, .slice (bar b).ai (bar b).li (bar b).ci] 26))):=B0.out.trans (b1.mono B0.out.size);obtain ⟨a0,a1,a2,a3,a4,a5,a6,a7,a8⟩:=Q1.out.fields;obtain ⟨x0,x1,x2,x3,x4,x5,x6,x7,x8⟩:=X1.out.fields)
    | (have kS1:=kS.out _ B1.out;go_at_call 23;refine kS1.mono ?_;rintro e w9 ⟨rfl,hb9⟩;clear kS1;clear a0 a1 a2 a3 a4 a5 a6 a7 a8 x0 x1 x2 x3 x4 x5 x6 x7 x8;have Q9:Hid (NBox w9 w.heap.size b):=Q1.out.kept hb9 Q1.out.lt;have X9:Hid (NBox w9 w1.heap.size (bar b)):=X1.out.kept hb9 X1.out.lt;have B9:Hid (Below w.heap.size w w9):=B1.out.trans (hb9.mono B1.out.size);obtain ⟨a0,a1,a2,a3,a4,a5,a6,a7,a8⟩:=Q9.out.fields;obtain ⟨x0,x1,x2,x3,x4,x5,x6,x7,x8⟩:=X9.out.fields)
    | (go_at_call 124;refine (kP _).mono ?_;rintro e wz ⟨rfl,hwz⟩;subst hwz;have BZ:=B9))
   go_ret
   exact ⟨rfl,BZ.out⟩
end Go.Proofs.YtejlaiofpekchaaGreatDoor
namespace Go.Proofs.YtejlaiofpekchaaGreatDoor
open Go.RowKit
set_option linter.unusedVariables false
set_option maxHeartbeats 8000000 in
set_option maxRecDepth 100000 in
theorem ealone_k6{D:Nat}{t:Tr}{b:Nb}{w:World}(hN:Nd (D+1) w b t)(hK:b.kind=6):Calls Tryz.prog 81 #[.agg b.arr] w fun e w'=>e = .returned (.int .i64 (alF t))∧Below w.heap.size w w':=by
 have hal:=alloc_below w (.cells b.arr 26)
 have B0:Hid (Below w.heap.size w (w.alloc (.cells b.arr 26))):=hal
 have Q0:Hid (NBox (w.alloc (.cells b.arr 26)) w.heap.size b):=nbox_new w b
 obtain ⟨a0,a1,a2,a3,a4,a5,a6,a7,a8⟩:=(nbox_new w b).fields
 have rk:=hN.2.2.2.1.2.1
 have ri:=hN.2.2.2.2.2.1
 have kB:=bare_any b (w.alloc (.cells b.arr 26))
 have kS:Hid (∀ w',Below w.heap.size w w'→Calls Tryz.prog 23 #[.agg (bar b).arr, .agg b.arr] w' fun e w''=>e = .returned (.bool t.clean)∧Below w'.heap.size w' w''):=fun w' hb=>esam_any (nd_bar (hN.kept hb)) (hN.kept hb) (Tr.clean_iff t)
 have hk:b.kind=t.kind:=hN.1.1
 have hnum:b.num=t.num:=hN.1.2.1
 have hneg:b.neg=t.neg:=hN.1.2.2.1
 have hdig:b.dig=t.dig:=hN.1.2.2.2.1
 have hexp:b.exp=t.exp:=hN.1.2.2.2.2.1
 have htxt:b.txt=t.txt:=hN.1.2.2.2.2.2
 have hlb:t.bytes.length=b.lb:=hN.2.2.1.1
 have hlk:t.keys.length=b.lk:=hN.2.2.2.1.1
 have hli:t.kids.length=b.li:=hN.2.2.2.2.1
 have mb1:=hN.2.2.1.2.1.1
 have mb2:=hN.2.2.1.2.1.2.1
 have mk1:=rk.1
 have mk2:=rk.2.1
 have mi1:=ri.1
 have mi2:=ri.2.1
 unfold maxLen at mb2 mk2 mi2
 have mt:b.txt.size≤140737488351232:=by rw [htxt];exact hN.2.1.2.2.2.2
 have hA:alF t=if (b.kind=5∧4096<b.txt.size)∨(b.kind=6∧4096<b.lb) then 8
  else if b.kind=5∧gtx b.txt=false then 6
  else if b.kind=2∧(rt b.dig=false∨(b.neg=true∧b.dig=⟨#[48]⟩)) then 11
  else if b.kind=3∧rdN b.neg b.dig b.exp=false then 11
  else if t.odd=true then 12 else 0:=by
  rw [hk,hneg,hdig,hexp,htxt,←hlb];rfl
 have hO:=odd_doc hN
 have hkk:Hid (b.kind=t.kind):=hk
 clear hneg hdig hexp htxt hlb hlk hli hnum hN hk hal rk ri
 have e1:(b.kind==1)=false:=by rw [hK];decide
 have e2:(b.kind==2)=false:=by rw [hK];decide
 have e3:(b.kind==3)=false:=by rw [hK];decide
 have e5:(b.kind==5)=false:=by rw [hK];decide
 have e6:(b.kind==6)=true:=by rw [hK];decide
 have e8:(b.kind==8)=false:=by rw [hK];decide
 have e9:(b.kind==9)=false:=by rw [hK];decide
 have e10:(b.kind==10)=false:=by rw [hK];decide
 have d0:decide (b.kind<0)=false:=by rw [hK];decide
 have d10:decide (10<b.kind)=false:=by rw [hK];decide
 rcases Nat.lt_or_ge 4096 b.lb with hT | hT
 ·have dT : decide ((4096 : Int) < ((b.lb : Nat) : Int)) = true := by simp; omega
  rw [if_pos (by omega)] at hA
  rw [hA]
  clear hA hO hT hK kS
  go_enter Tryz.func81,Tryz.ntmps81
  go_wp2_with (first
   | (go_at_call 119;refine kB.mono ?_;rintro e w1 ⟨he,hb1⟩;rw [Nb.arr] at he;subst he;clear kB a0 a1 a2 a3 a4 a5 a6 a7 a8;have A1:=alloc_below w1 (.cells #[.int .i64 (bar b).kind, .int .u64 (bar b).num, .bool (bar b).neg, .string (bar b).dig, .int .i64 (bar b).exp, .string (bar b).txt, .slice (bar b).ab (bar b).lb (bar b).cb, .slice (bar b).ak (bar b).lk (bar b).ck, .slice (bar b).ai (bar b).li (bar b).ci] 26);have b1:Below (w.alloc (.cells b.arr 26)).heap.size (w.alloc (.cells b.arr 26)) (w1.alloc (.cells #[.int .i64 (bar b).kind, .int .u64 (bar b).num, .bool (bar b).neg, .string (bar b).dig, .int .i64 (bar b).exp, .string (bar b).txt, .slice (bar b).ab (bar b).lb (bar b).cb, .slice (bar b).ak (bar b).lk (bar b).ck, .slice (bar b).ai (bar b).li (bar b).ci] 26)):=hb1.trans (A1.mono hb1.size);have Q1:Hid (NBox (w1.alloc (.cells #[.int .i64 (bar b).kind, .int .u64 (bar b).num, .bool (bar b).neg, .string (bar b).dig, .int .i64 (bar b).exp, .string (bar b).txt, .slice (bar b).ab (bar b).lb (bar b).cb, .slice (bar b).ak (bar b).lk (bar b).ck, .slice (bar b).ai (bar b).li (bar b).ci] 26)) w.heap.size b):=Q0.out.kept b1 Q0.out.lt;have X1:Hid (NBox (w1.alloc (.cells #[.int .i64 (bar b).kind, .int .u64 (bar b).num, .bool (bar b).neg, .string (bar b).dig, .int .i64 (bar b).exp, .string (bar b).txt, .slice (bar b).ab (bar b).lb (bar b).cb, .slice (bar b).ak (bar b).lk (bar b).ck, .slice (bar b).ai (bar b).li (bar b).ci] 26)) w1.heap.size (bar b)):=nbox_new w1 (bar b);have B1:Hid (Below w.heap.size w (w1.alloc (.cells #[.int .i64 (bar b).kind, .int .u64 (bar b).num, .bool (bar b).neg, .string (bar b).dig, .int .i64 (bar b).exp, .string (bar b).txt, .slice (bar b).ab (bar b).lb (bar b).cb, .slice (bar b).ak (bar b).lk (bar b).ck, .slice (bar b).ai (bar b).li (bar b).ci] 26))):=B0.out.trans (b1.mono B0.out.size);obtain ⟨a0,a1,a2,a3,a4,a5,a6,a7,a8⟩:=Q1.out.fields;obtain ⟨x0,x1,x2,x3,x4,x5,x6,x7,x8⟩:=X1.out.fields))
  go_ret
  exact ⟨rfl,B1.out⟩
 have dT:decide ((4096:Int)<((b.lb:Nat):Int))=false:=by simp;omega
 rw [if_neg (by omega),if_neg (by omega),if_neg (by omega),if_neg (by omega)] at hA
 rw [d0,d10,e1,e8,e9,e10] at hO
 clear hK hT
 cases hc:t.clean with
 | false =>
  rw [hO,hc] at hA
  rw [hc] at kS
  have hR:alF t=12:=by rw [hA];simp
  rw [hR]
  clear hA hO hc hR
  go_enter Tryz.func81,Tryz.ntmps81
  go_wp2_with (first
   | (go_at_call 119;refine kB.mono ?_;rintro e w1 ⟨he,hb1⟩;rw [Nb.arr] at he;subst he;clear kB a0 a1 a2 a3 a4 a5 a6 a7 a8;have A1:=alloc_below w1 (.cells #[.int .i64 (bar b).kind, .int .u64 (bar b).num, .bool (bar b).neg, .string (bar b).dig, .int .i64 (bar b).exp, .string (bar b).txt, .slice (bar b).ab (bar b).lb (bar b).cb, .slice (bar b).ak (bar b).lk (bar b).ck, .slice (bar b).ai (bar b).li (bar b).ci] 26);have b1:Below (w.alloc (.cells b.arr 26)).heap.size (w.alloc (.cells b.arr 26)) (w1.alloc (.cells #[.int .i64 (bar b).kind, .int .u64 (bar b).num, .bool (bar b).neg, .string (bar b).dig, .int .i64 (bar b).exp, .string (bar b).txt, .slice (bar b).ab (bar b).lb (bar b).cb, .slice (bar b).ak (bar b).lk (bar b).ck, .slice (bar b).ai (bar b).li (bar b).ci] 26)):=hb1.trans (A1.mono hb1.size);have Q1:Hid (NBox (w1.alloc (.cells #[.int .i64 (bar b).kind, .int .u64 (bar b).num, .bool (bar b).neg, .string (bar b).dig, .int .i64 (bar b).exp, .string (bar b).txt, .slice (bar b).ab (bar b).lb (bar b).cb, .slice (bar b).ak (bar b).lk (bar b).ck, .slice (bar b).ai (bar b).li (bar b).ci] 26)) w.heap.size b):=Q0.out.kept b1 Q0.out.lt;have X1:Hid (NBox (w1.alloc (.cells #[.int .i64 (bar b).kind, .int .u64 (bar b).num, .bool (bar b).neg, .string (bar b).dig, .int .i64 (bar b).exp, .string (bar b).txt, .slice (bar b).ab (bar b).lb (bar b).cb, .slice (bar b).ak (bar b).lk (bar b).ck, .slice (bar b).ai (bar b).li (bar b).ci] 26)) w1.heap.size (bar b)):=nbox_new w1 (bar b);have B1:Hid (Below w.heap.size w (w1.alloc (.cells #[.int .i64 (bar b).kind, .int .u64 (bar b).num, .bool (bar b).neg, .string (bar b).dig, .int .i64 (bar b).exp, .string (bar b).txt, .slice (bar b).ab (bar b).lb (bar b).cb, .slice (bar b).ak (bar b).lk (bar b).ck, .slice (bar b).ai (bar b).li (bar b).ci] 26))):=B0.out.trans (b1.mono B0.out.size);obtain ⟨a0,a1,a2,a3,a4,a5,a6,a7,a8⟩:=Q1.out.fields;obtain ⟨x0,x1,x2,x3,x4,x5,x6,x7,x8⟩:=X1.out.fields)
   | (have kS1:=kS.out _ B1.out;go_at_call 23;refine kS1.mono ?_;rintro e w9 ⟨rfl,hb9⟩;clear kS1;clear a0 a1 a2 a3 a4 a5 a6 a7 a8 x0 x1 x2 x3 x4 x5 x6 x7 x8;have Q9:Hid (NBox w9 w.heap.size b):=Q1.out.kept hb9 Q1.out.lt;have X9:Hid (NBox w9 w1.heap.size (bar b)):=X1.out.kept hb9 X1.out.lt;have B9:Hid (Below w.heap.size w w9):=B1.out.trans (hb9.mono B1.out.size);obtain ⟨a0,a1,a2,a3,a4,a5,a6,a7,a8⟩:=Q9.out.fields;obtain ⟨x0,x1,x2,x3,x4,x5,x6,x7,x8⟩:=X9.out.fields))
  go_ret
  exact ⟨rfl,B9.out⟩
 | true =>
  rw [hO,hc] at hA
  rw [hc] at kS
  have hR:alF t=0:=by rw [hA];simp [*]
  rw [hR]
  clear hA hO hc hR
  go_enter Tryz.func81,Tryz.ntmps81
  go_wp2_with (first
   | (go_at_call 119;refine kB.mono ?_;rintro e w1 ⟨he,hb1⟩;rw [Nb.arr] at he;subst he;clear kB a0 a1 a2 a3 a4 a5 a6 a7 a8;have A1:=alloc_below w1 (.cells #[.int .i64 (bar b).kind, .int .u64 (bar b).num, .bool (bar b).neg, .string (bar b).dig, .int .i64 (bar b).exp, .string (bar b).txt, .slice (bar b).ab (bar b).lb (bar b).cb, .slice (bar b).ak (bar b).lk (bar b).ck, .slice (bar b).ai (bar b).li (bar b).ci] 26);have b1:Below (w.alloc (.cells b.arr 26)).heap.size (w.alloc (.cells b.arr 26)) (w1.alloc (.cells #[.int .i64 (bar b).kind, .int .u64 (bar b).num, .bool (bar b).neg, .string (bar b).dig, .int .i64 (bar b).exp, .string (bar b).txt, .slice (bar b).ab (bar b).lb (bar b).cb, .slice (bar b).ak (bar b).lk (bar b).ck, .slice (bar b).ai (bar b).li (bar b).ci] 26)):=hb1.trans (A1.mono hb1.size);have Q1:Hid (NBox (w1.alloc (.cells #[.int .i64 (bar b).kind, .int .u64 (bar b).num, .bool (bar b).neg, .string (bar b).dig, .int .i64 (bar b).exp, .string (bar b).txt, .slice (bar b).ab (bar b).lb (bar b).cb, .slice (bar b).ak (bar b).lk (bar b).ck, .slice (bar b).ai (bar b).li (bar b).ci] 26)) w.heap.size b):=Q0.out.kept b1 Q0.out.lt;have X1:Hid (NBox (w1.alloc (.cells #[.int .i64 (bar b).kind, .int .u64 (bar b).num, .bool (bar b).neg, .string (bar b).dig, .int .i64 (bar b).exp, .string (bar b).txt, .slice (bar b).ab (bar b).lb (bar b).cb, .slice (bar b).ak (bar b).lk (bar b).ck, .slice (bar b).ai (bar b).li (bar b).ci] 26)) w1.heap.size (bar b)):=nbox_new w1 (bar b);have B1:Hid (Below w.heap.size w (w1.alloc (.cells #[.int .i64 (bar b).kind, .int .u64 (bar b).num, .bool (bar b).neg, .string (bar b).dig, .int .i64 (bar b).exp, .string (bar b).txt, .slice (bar b).ab (bar b).lb (bar b).cb, .slice (bar b).ak (bar b).lk (bar b).ck, .slice (bar b).ai (bar b).li (bar b).ci] 26))):=B0.out.trans (b1.mono B0.out.size);obtain ⟨a0,a1,a2,a3,a4,a5,a6,a7,a8⟩:=Q1.out.fields;obtain ⟨x0,x1,x2,x3,x4,x5,x6,x7,x8⟩:=X1.out.fields)
   | (have kS1:=kS.out _ B1.out;go_at_call 23;refine kS1.mono ?_;rintro e w9 ⟨rfl,hb9⟩;clear kS1;clear a0 a1 a2 a3 a4 a5 a6 a7 a8 x0 x1 x2 x3 x4 x5 x6 x7 x8;have Q9:Hid (NBox w9 w.heap.size b):=Q1.out.kept hb9 Q1.out.lt;have X9:Hid (NBox w9 w1.heap.size (bar b)):=X1.out.kept hb9 X1.out.lt;have B9:Hid (Below w.heap.size w w9):=B1.out.trans (hb9.mono B1.out.size);obtain ⟨a0,a1,a2,a3,a4,a5,a6,a7,a8⟩:=Q9.out.fields;obtain ⟨x0,x1,x2,x3,x4,x5,x6,x7,x8⟩:=X9.out.fields))
  go_ret
  exact ⟨rfl,B9.out⟩
end Go.Proofs.YtejlaiofpekchaaGreatDoor
