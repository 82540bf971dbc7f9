/-
  What is wrong with a node itself: tree.fault, of a text.
  What is wrong with a node itself: tree.fault, of bytes.
-/
import Derived.Test.YtejlaiofpekchaaGreatDoorC19
namespace Go.Proofs.YtejlaiofpekchaaGreatDoor
open Go.RowKit
set_option linter.unusedVariables false
set_option maxHeartbeats 8000000 in
set_option maxRecDepth 100000 in
theorem fault_k5{D:Nat}{t:Tr}{b:Nb}{w:World}(hN:Nd (D+1) w b t)(h5:b.kind=5):Calls Tryz.prog 44 #[.agg b.arr] w fun e w'=>e = .returned (.int .i64 (alF t))∧Below w.heap.size w w':=by
 have hal:=alloc_below w (.cells b.arr 26)
 have B0:Hid (Below w.heap.size w (w.alloc (.cells b.arr 26))):=hal
 have Q0:Hid (NBox (w.alloc (.cells b.arr 26)) w.heap.size b):=nbox_new w b
 obtain ⟨a0,a1,a2,a3,a4,a5,a6,a7,a8⟩:=(nbox_new w b).fields
 have hodd:=odd_eq hN
 have rk:=hN.2.2.2.1.2.1
 have ri:=hN.2.2.2.2.2.1
 have kM:=fun w'=>maybe_any b w' ⟨rk.1,rk.2.1,ri.1,ri.2.1⟩
 have kR:=fun w'=>rest_any b w'
 have kS:Hid (∀ w',Below w.heap.size w w'→Calls Tryz.prog 78 #[.agg (rst b).arr, .agg #[.int .i64 0, .int .u64 0, .bool false, .string ⟨#[]⟩, .int .i64 0, .string ⟨#[]⟩, .slice none 0 0, .slice none 0 0, .slice none 0 0]] w' fun e w''=>e = .returned (.bool t.clean)∧Below w'.heap.size w' w''):=fun w' hb=>sam_any (b:=zN) (nd_rst (hN.kept hb)) (nd_zero 0 w') (rst_clean t).symm
 have hk:b.kind=t.kind:=hN.1.1
 have hneg:b.neg=t.neg:=hN.1.2.2.1
 have hdig:b.dig=t.dig:=hN.1.2.2.2.1
 have hexp:b.exp=t.exp:=hN.1.2.2.2.2.1
 have htxt:b.txt=t.txt:=hN.1.2.2.2.2.2
 have hlb:t.bytes.length=b.lb:=hN.2.2.1.1
 have mb1:=hN.2.2.1.2.1.1
 have mb2:=hN.2.2.1.2.1.2.1
 unfold maxLen at mb2
 have mt:b.txt.size≤140737488351232:=by rw [htxt];exact hN.2.1.2.2.2.2
 have hA:alF t=if (b.kind=5∧4096<b.txt.size)∨(b.kind=6∧4096<b.lb) then 8
  else if b.kind=5∧gtx b.txt=false then 6
  else if b.kind=2∧(rt b.dig=false∨(b.neg=true∧b.dig=⟨#[48]⟩)) then 11
  else if b.kind=3∧rdN b.neg b.dig b.exp=false then 11
  else if t.odd=true then 12 else 0:=by
  rw [hk,hneg,hdig,hexp,htxt,←hlb];rfl
 clear hneg hdig hexp htxt hlb hN hk hal rk ri
 have e2:(b.kind==2)=false:=by rw [h5];decide
 have e3:(b.kind==3)=false:=by rw [h5];decide
 have e5:(b.kind==5)=true:=by rw [h5];decide
 have e6:(b.kind==6)=false:=by rw [h5];decide
 have hfw:∀ (x y:Value) (w:World),Sem.run Tryz.prog (Instr.field 102 (.agg #[x,y]) 0) w = .ok x w:=field_why
 by_cases hT:4096<b.txt.size
 ·have dT : decide ((4096 : Int) < ((b.txt.size : Nat) : Int)) = true := by simp; omega
  rw [if_pos (.inl ⟨h5,hT⟩)] at hA
  rw [hA]
  clear hA hT hodd kM kR kS h5
  go_enter Tryz.func44,Tryz.ntmps44
  go_wp2
  go_ret
  exact ⟨rfl,B0.out⟩
 ·have dT : decide ((4096 : Int) < ((b.txt.size : Nat) : Int)) = false := by simp; omega
  have hC1:¬ ((b.kind=5∧4096<b.txt.size)∨(b.kind=6∧4096<b.lb)):=by omega
  have hcv:=Lib.run_convert_string_bytes (P:=Tryz.prog) (w.alloc (.cells b.arr 26)) 9 23 5 b.txt Tryz.underlying9 Tryz.underlying23 Tryz.underlying5
  have BC:Hid (Below (w.alloc (.cells b.arr 26)).heap.size (w.alloc (.cells b.arr 26)) (Lib.bytesWorld (w.alloc (.cells b.arr 26)) 5 b.txt)):=conv_below _ _
  obtain ⟨gC,nC,cC,hvC,hlC,hcC,hcC',hBC⟩:=(own_conv (w.alloc (.cells b.arr 26)) b.txt (by omega)).form
  have hvC':(Value.slice (some ⟨(w.alloc (.cells b.arr 26)).heap.size,0,none⟩) b.txt.size (grownCap (w.alloc (.cells b.arr 26)) b.txt.size 0 5))=Value.slice (some ⟨gC,0,none⟩) nC cC:=hvC
  rw [hvC'] at hcv
  have kC:=check_any (some ⟨gC,0,none⟩) nC cC (bs b.txt) (Lib.bytesWorld (w.alloc (.cells b.arr 26)) 5 b.txt) hlC.out hBC.out hcC (by have:=hlC.out;rw [bs_len] at this;omega)
  have B1:Hid (Below w.heap.size w (Lib.bytesWorld (w.alloc (.cells b.arr 26)) 5 b.txt)):=B0.out.trans (BC.out.mono B0.out.size)
  have Q1:Hid (NBox (Lib.bytesWorld (w.alloc (.cells b.arr 26)) 5 b.txt) w.heap.size b):=Q0.out.kept BC.out Q0.out.lt
  rw [if_neg hC1] at hA
  have hW:=why_two (bs b.txt)
  have hG:gtx b.txt=decide (whyL (bs b.txt)=0):=rfl
  generalize Lib.bytesWorld (w.alloc (.cells b.arr 26)) 5 b.txt=W1 at *
  generalize whyL (bs b.txt)=Y at *
  generalize atL (bs b.txt)=AT at *
  clear hvC hvC' hlC hBC BC hC1 Q0 B0
  rcases hW with rfl | rfl
  ·rw [hG, if_neg (by simp), if_neg (by omega), if_neg (by omega)] at hA
   clear hG
   rcases Nat.lt_or_ge 4096 b.lb with hL | hL
   ·have dL : decide ((4096 : Int) < ((b.lb : Nat) : Int)) = true := by simp; omega
    clear hL hT h5
    cases hm:mayB b with
    | false =>
     have hO:t.odd=true:=by rw [hodd,hm];rfl
     rw [hO,if_pos rfl] at hA
     rw [hA]
     rw [hm] at kM
     clear hO hA hodd hm
     go_enter Tryz.func44,Tryz.ntmps44
     go_wp2_with (first
      | (go_at_call 74;refine (kC).mono ?_;rintro e wC ⟨rfl,hwC⟩;clear a0 a1 a2 a3 a4 a5 a6 a7 a8;have QwC:Hid (NBox wC w.heap.size b):=Q1.out.kept hwC Q1.out.lt;have BwC:Hid (Below w.heap.size w wC):=B1.out.trans (hwC.mono B1.out.size);obtain ⟨a0,a1,a2,a3,a4,a5,a6,a7,a8⟩:=QwC.out.fields)
      | (go_at_call 77;refine (kM _).mono ?_;rintro e wM ⟨rfl,hwM⟩;clear a0 a1 a2 a3 a4 a5 a6 a7 a8;have QwM:Hid (NBox wM w.heap.size b):=QwC.out.kept hwM QwC.out.lt;have BwM:Hid (Below w.heap.size w wM):=BwC.out.trans (hwM.mono BwC.out.size);obtain ⟨a0,a1,a2,a3,a4,a5,a6,a7,a8⟩:=QwM.out.fields))
     go_ret
     exact ⟨rfl,BwM.out⟩
    | true =>
     rw [hm] at kM
     cases hc:t.clean with
     | false =>
      have hO:t.odd=true:=by rw [hodd,hm,hc];rfl
      rw [hO,if_pos rfl] at hA
      rw [hA]
      rw [hc] at kS
      clear hO hA hodd hm hc
      go_enter Tryz.func44,Tryz.ntmps44
      go_wp2_with (first
       | (go_at_call 74;refine (kC).mono ?_;rintro e wC ⟨rfl,hwC⟩;clear a0 a1 a2 a3 a4 a5 a6 a7 a8;have QwC:Hid (NBox wC w.heap.size b):=Q1.out.kept hwC Q1.out.lt;have BwC:Hid (Below w.heap.size w wC):=B1.out.trans (hwC.mono B1.out.size);obtain ⟨a0,a1,a2,a3,a4,a5,a6,a7,a8⟩:=QwC.out.fields)
       | (go_at_call 77;refine (kM _).mono ?_;rintro e wM ⟨rfl,hwM⟩;clear a0 a1 a2 a3 a4 a5 a6 a7 a8;have QwM:Hid (NBox wM w.heap.size b):=QwC.out.kept hwM QwC.out.lt;have BwM:Hid (Below w.heap.size w wM):=BwC.out.trans (hwM.mono BwC.out.size);obtain ⟨a0,a1,a2,a3,a4,a5,a6,a7,a8⟩:=QwM.out.fields)
       | (go_at_call 79;refine (kR _).mono ?_;rintro e wR ⟨rfl,hwR⟩;have BwR:Hid (Below w.heap.size w wR):=BwM.out.trans (hwR.mono BwM.out.size);have kS':=kS.out wR BwR.out)
       | (go_at_call 78;refine kS'.mono ?_;rintro e wS ⟨rfl,hwS⟩))
      go_ret
      exact ⟨rfl,BwR.out.trans (hwS.mono BwR.out.size)⟩
     | true =>
      have hO:t.odd=false:=by rw [hodd,hm,hc];rfl
      rw [hO,if_neg (by simp)] at hA
      rw [hA]
      rw [hc] at kS
      clear hO hA hodd hm hc
      go_enter Tryz.func44,Tryz.ntmps44
      go_wp2_with (first
       | (go_at_call 74;refine (kC).mono ?_;rintro e wC ⟨rfl,hwC⟩;clear a0 a1 a2 a3 a4 a5 a6 a7 a8;have QwC:Hid (NBox wC w.heap.size b):=Q1.out.kept hwC Q1.out.lt;have BwC:Hid (Below w.heap.size w wC):=B1.out.trans (hwC.mono B1.out.size);obtain ⟨a0,a1,a2,a3,a4,a5,a6,a7,a8⟩:=QwC.out.fields)
       | (go_at_call 77;refine (kM _).mono ?_;rintro e wM ⟨rfl,hwM⟩;clear a0 a1 a2 a3 a4 a5 a6 a7 a8;have QwM:Hid (NBox wM w.heap.size b):=QwC.out.kept hwM QwC.out.lt;have BwM:Hid (Below w.heap.size w wM):=BwC.out.trans (hwM.mono BwC.out.size);obtain ⟨a0,a1,a2,a3,a4,a5,a6,a7,a8⟩:=QwM.out.fields)
       | (go_at_call 79;refine (kR _).mono ?_;rintro e wR ⟨rfl,hwR⟩;have BwR:Hid (Below w.heap.size w wR):=BwM.out.trans (hwR.mono BwM.out.size);have kS':=kS.out wR BwR.out)
       | (go_at_call 78;refine kS'.mono ?_;rintro e wS ⟨rfl,hwS⟩))
      go_ret
      exact ⟨rfl,BwR.out.trans (hwS.mono BwR.out.size)⟩
   ·have dL : decide ((4096 : Int) < ((b.lb : Nat) : Int)) = false := by simp; omega
    clear hL hT h5
    cases hm:mayB b with
    | false =>
     have hO:t.odd=true:=by rw [hodd,hm];rfl
     rw [hO,if_pos rfl] at hA
     rw [hA]
     rw [hm] at kM
     clear hO hA hodd hm
     go_enter Tryz.func44,Tryz.ntmps44
     go_wp2_with (first
      | (go_at_call 74;refine (kC).mono ?_;rintro e wC ⟨rfl,hwC⟩;clear a0 a1 a2 a3 a4 a5 a6 a7 a8;have QwC:Hid (NBox wC w.heap.size b):=Q1.out.kept hwC Q1.out.lt;have BwC:Hid (Below w.heap.size w wC):=B1.out.trans (hwC.mono B1.out.size);obtain ⟨a0,a1,a2,a3,a4,a5,a6,a7,a8⟩:=QwC.out.fields)
      | (go_at_call 77;refine (kM _).mono ?_;rintro e wM ⟨rfl,hwM⟩;clear a0 a1 a2 a3 a4 a5 a6 a7 a8;have QwM:Hid (NBox wM w.heap.size b):=QwC.out.kept hwM QwC.out.lt;have BwM:Hid (Below w.heap.size w wM):=BwC.out.trans (hwM.mono BwC.out.size);obtain ⟨a0,a1,a2,a3,a4,a5,a6,a7,a8⟩:=QwM.out.fields))
     go_ret
     exact ⟨rfl,BwM.out⟩
    | true =>
     rw [hm] at kM
     cases hc:t.clean with
     | false =>
      have hO:t.odd=true:=by rw [hodd,hm,hc];rfl
      rw [hO,if_pos rfl] at hA
      rw [hA]
      rw [hc] at kS
      clear hO hA hodd hm hc
      go_enter Tryz.func44,Tryz.ntmps44
      go_wp2_with (first
       | (go_at_call 74;refine (kC).mono ?_;rintro e wC ⟨rfl,hwC⟩;clear a0 a1 a2 a3 a4 a5 a6 a7 a8;have QwC:Hid (NBox wC w.heap.size b):=Q1.out.kept hwC Q1.out.lt;have BwC:Hid (Below w.heap.size w wC):=B1.out.trans (hwC.mono B1.out.size);obtain ⟨a0,a1,a2,a3,a4,a5,a6,a7,a8⟩:=QwC.out.fields)
       | (go_at_call 77;refine (kM _).mono ?_;rintro e wM ⟨rfl,hwM⟩;clear a0 a1 a2 a3 a4 a5 a6 a7 a8;have QwM:Hid (NBox wM w.heap.size b):=QwC.out.kept hwM QwC.out.lt;have BwM:Hid (Below w.heap.size w wM):=BwC.out.trans (hwM.mono BwC.out.size);obtain ⟨a0,a1,a2,a3,a4,a5,a6,a7,a8⟩:=QwM.out.fields)
       | (go_at_call 79;refine (kR _).mono ?_;rintro e wR ⟨rfl,hwR⟩;have BwR:Hid (Below w.heap.size w wR):=BwM.out.trans (hwR.mono BwM.out.size);have kS':=kS.out wR BwR.out)
       | (go_at_call 78;refine kS'.mono ?_;rintro e wS ⟨rfl,hwS⟩))
      go_ret
      exact ⟨rfl,BwR.out.trans (hwS.mono BwR.out.size)⟩
     | true =>
      have hO:t.odd=false:=by rw [hodd,hm,hc];rfl
      rw [hO,if_neg (by simp)] at hA
      rw [hA]
      rw [hc] at kS
      clear hO hA hodd hm hc
      go_enter Tryz.func44,Tryz.ntmps44
      go_wp2_with (first
       | (go_at_call 74;refine (kC).mono ?_;rintro e wC ⟨rfl,hwC⟩;clear a0 a1 a2 a3 a4 a5 a6 a7 a8;have QwC:Hid (NBox wC w.heap.size b):=Q1.out.kept hwC Q1.out.lt;have BwC:Hid (Below w.heap.size w wC):=B1.out.trans (hwC.mono B1.out.size);obtain ⟨a0,a1,a2,a3,a4,a5,a6,a7,a8⟩:=QwC.out.fields)
       | (go_at_call 77;refine (kM _).mono ?_;rintro e wM ⟨rfl,hwM⟩;clear a0 a1 a2 a3 a4 a5 a6 a7 a8;have QwM:Hid (NBox wM w.heap.size b):=QwC.out.kept hwM QwC.out.lt;have BwM:Hid (Below w.heap.size w wM):=BwC.out.trans (hwM.mono BwC.out.size);obtain ⟨a0,a1,a2,a3,a4,a5,a6,a7,a8⟩:=QwM.out.fields)
       | (go_at_call 79;refine (kR _).mono ?_;rintro e wR ⟨rfl,hwR⟩;have BwR:Hid (Below w.heap.size w wR):=BwM.out.trans (hwR.mono BwM.out.size);have kS':=kS.out wR BwR.out)
       | (go_at_call 78;refine kS'.mono ?_;rintro e wS ⟨rfl,hwS⟩))
      go_ret
      exact ⟨rfl,BwR.out.trans (hwS.mono BwR.out.size)⟩
  ·rw [hG, if_pos ⟨h5, rfl⟩] at hA
   rw [hA]
   clear hG hA hodd kM kR kS
   rcases Nat.lt_or_ge 4096 b.lb with hL | hL
   ·have dL : decide ((4096 : Int) < ((b.lb : Nat) : Int)) = true := by simp; omega
    clear hL hT h5
    go_enter Tryz.func44,Tryz.ntmps44
    go_wp2_with (first
     | (go_at_call 74;refine (kC).mono ?_;rintro e wC ⟨rfl,hwC⟩;clear a0 a1 a2 a3 a4 a5 a6 a7 a8;have QwC:Hid (NBox wC w.heap.size b):=Q1.out.kept hwC Q1.out.lt;have BwC:Hid (Below w.heap.size w wC):=B1.out.trans (hwC.mono B1.out.size);obtain ⟨a0,a1,a2,a3,a4,a5,a6,a7,a8⟩:=QwC.out.fields))
    go_ret
    exact ⟨rfl,BwC.out⟩
   ·have dL : decide ((4096 : Int) < ((b.lb : Nat) : Int)) = false := by simp; omega
    clear hL hT h5
    go_enter Tryz.func44,Tryz.ntmps44
    go_wp2_with (first
     | (go_at_call 74;refine (kC).mono ?_;rintro e wC ⟨rfl,hwC⟩;clear a0 a1 a2 a3 a4 a5 a6 a7 a8;have QwC:Hid (NBox wC w.heap.size b):=Q1.out.kept hwC Q1.out.lt;have BwC:Hid (Below w.heap.size w wC):=B1.out.trans (hwC.mono B1.out.size);obtain ⟨a0,a1,a2,a3,a4,a5,a6,a7,a8⟩:=QwC.out.fields))
    go_ret
    exact ⟨rfl,BwC.out⟩
end Go.Proofs.YtejlaiofpekchaaGreatDoor
namespace Go.Proofs.YtejlaiofpekchaaGreatDoor
open Go.RowKit
set_option linter.unusedVariables false
set_option maxHeartbeats 8000000 in
set_option maxRecDepth 100000 in
theorem fault_k6{D:Nat}{t:Tr}{b:Nb}{w:World}(hN:Nd (D+1) w b t)(h6:b.kind=6):Calls Tryz.prog 44 #[.agg b.arr] w fun e w'=>e = .returned (.int .i64 (alF t))∧Below w.heap.size w w':=by
 have hal:=alloc_below w (.cells b.arr 26)
 have B0:Hid (Below w.heap.size w (w.alloc (.cells b.arr 26))):=hal
 have Q0:Hid (NBox (w.alloc (.cells b.arr 26)) w.heap.size b):=nbox_new w b
 obtain ⟨a0,a1,a2,a3,a4,a5,a6,a7,a8⟩:=(nbox_new w b).fields
 have hodd:=odd_eq hN
 have rk:=hN.2.2.2.1.2.1
 have ri:=hN.2.2.2.2.2.1
 have kM:=fun w'=>maybe_any b w' ⟨rk.1,rk.2.1,ri.1,ri.2.1⟩
 have kR:=fun w'=>rest_any b w'
 have kS:Hid (∀ w',Below w.heap.size w w'→Calls Tryz.prog 78 #[.agg (rst b).arr, .agg #[.int .i64 0, .int .u64 0, .bool false, .string ⟨#[]⟩, .int .i64 0, .string ⟨#[]⟩, .slice none 0 0, .slice none 0 0, .slice none 0 0]] w' fun e w''=>e = .returned (.bool t.clean)∧Below w'.heap.size w' w''):=fun w' hb=>sam_any (b:=zN) (nd_rst (hN.kept hb)) (nd_zero 0 w') (rst_clean t).symm
 have hk:b.kind=t.kind:=hN.1.1
 have hneg:b.neg=t.neg:=hN.1.2.2.1
 have hdig:b.dig=t.dig:=hN.1.2.2.2.1
 have hexp:b.exp=t.exp:=hN.1.2.2.2.2.1
 have htxt:b.txt=t.txt:=hN.1.2.2.2.2.2
 have hlb:t.bytes.length=b.lb:=hN.2.2.1.1
 have mb1:=hN.2.2.1.2.1.1
 have mb2:=hN.2.2.1.2.1.2.1
 unfold maxLen at mb2
 have mt:b.txt.size≤140737488351232:=by rw [htxt];exact hN.2.1.2.2.2.2
 have hA:alF t=if (b.kind=5∧4096<b.txt.size)∨(b.kind=6∧4096<b.lb) then 8
  else if b.kind=5∧gtx b.txt=false then 6
  else if b.kind=2∧(rt b.dig=false∨(b.neg=true∧b.dig=⟨#[48]⟩)) then 11
  else if b.kind=3∧rdN b.neg b.dig b.exp=false then 11
  else if t.odd=true then 12 else 0:=by
  rw [hk,hneg,hdig,hexp,htxt,←hlb];rfl
 clear hneg hdig hexp htxt hlb hN hk hal rk ri
 have e2:(b.kind==2)=false:=by rw [h6];decide
 have e3:(b.kind==3)=false:=by rw [h6];decide
 have e5:(b.kind==5)=false:=by rw [h6];decide
 have e6:(b.kind==6)=true:=by rw [h6];decide
 by_cases hL:4096<b.lb
 ·have dL : decide ((4096 : Int) < ((b.lb : Nat) : Int)) = true := by simp; omega
  rw [if_pos (.inr ⟨h6,hL⟩)] at hA
  rw [hA]
  clear hA hL hodd kM kR kS h6
  rcases Nat.lt_or_ge 4096 b.txt.size with hT | hT
  ·have dT : decide ((4096 : Int) < ((b.txt.size : Nat) : Int)) = true := by simp; omega
   clear hT
   go_enter Tryz.func44,Tryz.ntmps44
   go_wp2
   go_ret
   exact ⟨rfl,B0.out⟩
  ·have dT : decide ((4096 : Int) < ((b.txt.size : Nat) : Int)) = false := by simp; omega
   clear hT
   go_enter Tryz.func44,Tryz.ntmps44
   go_wp2
   go_ret
   exact ⟨rfl,B0.out⟩
 ·have dL : decide ((4096 : Int) < ((b.lb : Nat) : Int)) = false := by simp; omega
  rw [if_neg (by omega),if_neg (by omega),if_neg (by omega),if_neg (by omega)] at hA
  clear hL h6
  rcases Nat.lt_or_ge 4096 b.txt.size with hT | hT
  ·have dT : decide ((4096 : Int) < ((b.txt.size : Nat) : Int)) = true := by simp; omega
   clear hT
   cases hm:mayB b with
   | false =>
    have hO:t.odd=true:=by rw [hodd,hm];rfl
    rw [hO,if_pos rfl] at hA
    rw [hA]
    rw [hm] at kM
    clear hO hA hodd hm
    go_enter Tryz.func44,Tryz.ntmps44
    go_wp2_with (first
     | (go_at_call 77;refine (kM _).mono ?_;rintro e wM ⟨rfl,hwM⟩;clear a0 a1 a2 a3 a4 a5 a6 a7 a8;have QwM:Hid (NBox wM w.heap.size b):=Q0.out.kept hwM Q0.out.lt;have BwM:Hid (Below w.heap.size w wM):=B0.out.trans (hwM.mono B0.out.size);obtain ⟨a0,a1,a2,a3,a4,a5,a6,a7,a8⟩:=QwM.out.fields))
    go_ret
    exact ⟨rfl,BwM.out⟩
   | true =>
    rw [hm] at kM
    cases hc:t.clean with
    | false =>
     have hO:t.odd=true:=by rw [hodd,hm,hc];rfl
     rw [hO,if_pos rfl] at hA
     rw [hA]
     rw [hc] at kS
     clear hO hA hodd hm hc
     go_enter Tryz.func44,Tryz.ntmps44
     go_wp2_with (first
      | (go_at_call 77;refine (kM _).mono ?_;rintro e wM ⟨rfl,hwM⟩;clear a0 a1 a2 a3 a4 a5 a6 a7 a8;have QwM:Hid (NBox wM w.heap.size b):=Q0.out.kept hwM Q0.out.lt;have BwM:Hid (Below w.heap.size w wM):=B0.out.trans (hwM.mono B0.out.size);obtain ⟨a0,a1,a2,a3,a4,a5,a6,a7,a8⟩:=QwM.out.fields)
      | (go_at_call 79;refine (kR _).mono ?_;rintro e wR ⟨rfl,hwR⟩;have BwR:Hid (Below w.heap.size w wR):=BwM.out.trans (hwR.mono BwM.out.size);have kS':=kS.out wR BwR.out)
      | (go_at_call 78;refine kS'.mono ?_;rintro e wS ⟨rfl,hwS⟩))
     go_ret
     exact ⟨rfl,BwR.out.trans (hwS.mono BwR.out.size)⟩
    | true =>
     have hO:t.odd=false:=by rw [hodd,hm,hc];rfl
     rw [hO,if_neg (by simp)] at hA
     rw [hA]
     rw [hc] at kS
     clear hO hA hodd hm hc
     go_enter Tryz.func44,Tryz.ntmps44
     go_wp2_with (first
      | (go_at_call 77;refine (kM _).mono ?_;rintro e wM ⟨rfl,hwM⟩;clear a0 a1 a2 a3 a4 a5 a6 a7 a8;have QwM:Hid (NBox wM w.heap.size b):=Q0.out.kept hwM Q0.out.lt;have BwM:Hid (Below w.heap.size w wM):=B0.out.trans (hwM.mono B0.out.size);obtain ⟨a0,a1,a2,a3,a4,a5,a6,a7,a8⟩:=QwM.out.fields)
      | (go_at_call 79;refine (kR _).mono ?_;rintro e wR ⟨rfl,hwR⟩;have BwR:Hid (Below w.heap.size w wR):=BwM.out.trans (hwR.mono BwM.out.size);have kS':=kS.out wR BwR.out)
      | (go_at_call 78;refine kS'.mono ?_;rintro e wS ⟨rfl,hwS⟩))
     go_ret
     exact ⟨rfl,BwR.out.trans (hwS.mono BwR.out.size)⟩
  ·have dT : decide ((4096 : Int) < ((b.txt.size : Nat) : Int)) = false := by simp; omega
   clear hT
   cases hm:mayB b with
   | false =>
    have hO:t.odd=true:=by rw [hodd,hm];rfl
    rw [hO,if_pos rfl] at hA
    rw [hA]
    rw [hm] at kM
    clear hO hA hodd hm
    go_enter Tryz.func44,Tryz.ntmps44
    go_wp2_with (first
     | (go_at_call 77;refine (kM _).mono ?_;rintro e wM ⟨rfl,hwM⟩;clear a0 a1 a2 a3 a4 a5 a6 a7 a8;have QwM:Hid (NBox wM w.heap.size b):=Q0.out.kept hwM Q0.out.lt;have BwM:Hid (Below w.heap.size w wM):=B0.out.trans (hwM.mono B0.out.size);obtain ⟨a0,a1,a2,a3,a4,a5,a6,a7,a8⟩:=QwM.out.fields))
    go_ret
    exact ⟨rfl,BwM.out⟩
   | true =>
    rw [hm] at kM
    cases hc:t.clean with
    | false =>
     have hO:t.odd=true:=by rw [hodd,hm,hc];rfl
     rw [hO,if_pos rfl] at hA
     rw [hA]
     rw [hc] at kS
     clear hO hA hodd hm hc
     go_enter Tryz.func44,Tryz.ntmps44
     go_wp2_with (first
      | (go_at_call 77;refine (kM _).mono ?_;rintro e wM ⟨rfl,hwM⟩;clear a0 a1 a2 a3 a4 a5 a6 a7 a8;have QwM:Hid (NBox wM w.heap.size b):=Q0.out.kept hwM Q0.out.lt;have BwM:Hid (Below w.heap.size w wM):=B0.out.trans (hwM.mono B0.out.size);obtain ⟨a0,a1,a2,a3,a4,a5,a6,a7,a8⟩:=QwM.out.fields)
      | (go_at_call 79;refine (kR _).mono ?_;rintro e wR ⟨rfl,hwR⟩;have BwR:Hid (Below w.heap.size w wR):=BwM.out.trans (hwR.mono BwM.out.size);have kS':=kS.out wR BwR.out)
      | (go_at_call 78;refine kS'.mono ?_;rintro e wS ⟨rfl,hwS⟩))
     go_ret
     exact ⟨rfl,BwR.out.trans (hwS.mono BwR.out.size)⟩
    | true =>
     have hO:t.odd=false:=by rw [hodd,hm,hc];rfl
     rw [hO,if_neg (by simp)] at hA
     rw [hA]
     rw [hc] at kS
     clear hO hA hodd hm hc
     go_enter Tryz.func44,Tryz.ntmps44
     go_wp2_with (first
      | (go_at_call 77;refine (kM _).mono ?_;rintro e wM ⟨rfl,hwM⟩;clear a0 a1 a2 a3 a4 a5 a6 a7 a8;have QwM:Hid (NBox wM w.heap.size b):=Q0.out.kept hwM Q0.out.lt;have BwM:Hid (Below w.heap.size w wM):=B0.out.trans (hwM.mono B0.out.size);obtain ⟨a0,a1,a2,a3,a4,a5,a6,a7,a8⟩:=QwM.out.fields)
      | (go_at_call 79;refine (kR _).mono ?_;rintro e wR ⟨rfl,hwR⟩;have BwR:Hid (Below w.heap.size w wR):=BwM.out.trans (hwR.mono BwM.out.size);have kS':=kS.out wR BwR.out)
      | (go_at_call 78;refine kS'.mono ?_;rintro e wS ⟨rfl,hwS⟩))
     go_ret
     exact ⟨rfl,BwR.out.trans (hwS.mono BwR.out.size)⟩
end Go.Proofs.YtejlaiofpekchaaGreatDoor
