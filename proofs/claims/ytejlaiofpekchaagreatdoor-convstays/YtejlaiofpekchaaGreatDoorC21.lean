/-
  What is wrong with a node itself: tree.fault, of a whole number.
-/
import Derived.Test.YtejlaiofpekchaaGreatDoorC19
namespace Go.Proofs.YtejlaiofpekchaaGreatDoor
open Go.RowKit
set_option linter.unusedVariables false
set_option maxHeartbeats 8000000 in
set_option maxRecDepth 100000 in
theorem fault_k2{D:Nat}{t:Tr}{b:Nb}{w:World}(hN:Nd (D+1) w b t)(h2:b.kind=2):Calls Tryz.prog 44 #[.agg b.arr] w fun e w'=>e = .returned (.int .i64 (alF t))∧Below w.heap.size w w':=by
 have hal:=alloc_below w (.cells b.arr 26)
 have B0:Hid (Below w.heap.size w (w.alloc (.cells b.arr 26))):=hal
 have Q0:Hid (NBox (w.alloc (.cells b.arr 26)) w.heap.size b):=nbox_new w b
 obtain ⟨a0,a1,a2,a3,a4,a5,a6,a7,a8⟩:=(nbox_new w b).fields
 have hodd:=odd_eq hN
 have rk:=hN.2.2.2.1.2.1
 have ri:=hN.2.2.2.2.2.1
 have kM:=fun w'=>maybe_any b w' ⟨rk.1,rk.2.1,ri.1,ri.2.1⟩
 have kR:=fun w'=>rest_any b w'
 have kS:Hid (∀ w',Below w.heap.size w w'→Calls Tryz.prog 78 #[.agg (rst b).arr, .agg #[.int .i64 0, .int .u64 0, .bool false, .string ⟨#[]⟩, .int .i64 0, .string ⟨#[]⟩, .slice none 0 0, .slice none 0 0, .slice none 0 0]] w' fun e w''=>e = .returned (.bool t.clean)∧Below w'.heap.size w' w''):=fun w' hb=>sam_any (b:=zN) (nd_rst (hN.kept hb)) (nd_zero 0 w') (rst_clean t).symm
 have hk:b.kind=t.kind:=hN.1.1
 have hneg:b.neg=t.neg:=hN.1.2.2.1
 have hdig:b.dig=t.dig:=hN.1.2.2.2.1
 have hexp:b.exp=t.exp:=hN.1.2.2.2.2.1
 have htxt:b.txt=t.txt:=hN.1.2.2.2.2.2
 have hlb:t.bytes.length=b.lb:=hN.2.2.1.1
 have mb1:=hN.2.2.1.2.1.1
 have mb2:=hN.2.2.1.2.1.2.1
 unfold maxLen at mb2
 have mt:b.txt.size≤140737488351232:=by rw [htxt];exact hN.2.1.2.2.2.2
 have hA:alF t=if (b.kind=5∧4096<b.txt.size)∨(b.kind=6∧4096<b.lb) then 8
  else if b.kind=5∧gtx b.txt=false then 6
  else if b.kind=2∧(rt b.dig=false∨(b.neg=true∧b.dig=⟨#[48]⟩)) then 11
  else if b.kind=3∧rdN b.neg b.dig b.exp=false then 11
  else if t.odd=true then 12 else 0:=by
  rw [hk,hneg,hdig,hexp,htxt,←hlb];rfl
 clear hneg hdig hexp htxt hlb hN hk hal rk ri
 have e2:(b.kind==2)=true:=by rw [h2];decide
 have e3:(b.kind==3)=false:=by rw [h2];decide
 have e5:(b.kind==5)=false:=by rw [h2];decide
 have e6:(b.kind==6)=false:=by rw [h2];decide
 rw [if_neg (by omega),if_neg (by omega)] at hA
 by_cases hI:rt b.dig=true∧¬ (b.neg=true∧b.dig=⟨#[48]⟩)
 ·have kI := isint_any b (w.alloc (.cells b.arr 26)) true (by simp only [true_iff]; exact hI)
  rw [if_neg (fun h=>h.2.elim (fun e=>by rw [e] at hI;exact absurd hI.1 (by simp)) hI.2),if_neg (by omega)] at hA
  clear hI h2
  rcases Nat.lt_or_ge 4096 b.txt.size with hT | hT
  ·have dT : decide ((4096 : Int) < ((b.txt.size : Nat) : Int)) = true := by simp; omega
   clear hT
   rcases Nat.lt_or_ge 4096 b.lb with hL | hL
   ·have dL : decide ((4096 : Int) < ((b.lb : Nat) : Int)) = true := by simp; omega
    clear hL
    cases hm:mayB b with
    | false =>
     have hO:t.odd=true:=by rw [hodd,hm];rfl
     rw [hO,if_pos rfl] at hA
     rw [hA]
     rw [hm] at kM
     clear hO hA hodd hm
     go_enter Tryz.func44,Tryz.ntmps44
     go_wp2_with (first
      | (go_at_call 75;refine (kI).mono ?_;rintro e wI ⟨rfl,hwI⟩;clear a0 a1 a2 a3 a4 a5 a6 a7 a8;have QwI:Hid (NBox wI w.heap.size b):=Q0.out.kept hwI Q0.out.lt;have BwI:Hid (Below w.heap.size w wI):=B0.out.trans (hwI.mono B0.out.size);obtain ⟨a0,a1,a2,a3,a4,a5,a6,a7,a8⟩:=QwI.out.fields)
      | (go_at_call 77;refine (kM _).mono ?_;rintro e wM ⟨rfl,hwM⟩;clear a0 a1 a2 a3 a4 a5 a6 a7 a8;have QwM:Hid (NBox wM w.heap.size b):=QwI.out.kept hwM QwI.out.lt;have BwM:Hid (Below w.heap.size w wM):=BwI.out.trans (hwM.mono BwI.out.size);obtain ⟨a0,a1,a2,a3,a4,a5,a6,a7,a8⟩:=QwM.out.fields))
     go_ret
     exact ⟨rfl,BwM.out⟩
    | true =>
     rw [hm] at kM
     cases hc:t.clean with
     | false =>
      have hO:t.odd=true:=by rw [hodd,hm,hc];rfl
      rw [hO,if_pos rfl] at hA
      rw [hA]
      rw [hc] at kS
      clear hO hA hodd hm hc
      go_enter Tryz.func44,Tryz.ntmps44
      go_wp2_with (first
       | (go_at_call 75;refine (kI).mono ?_;rintro e wI ⟨rfl,hwI⟩;clear a0 a1 a2 a3 a4 a5 a6 a7 a8;have QwI:Hid (NBox wI w.heap.size b):=Q0.out.kept hwI Q0.out.lt;have BwI:Hid (Below w.heap.size w wI):=B0.out.trans (hwI.mono B0.out.size);obtain ⟨a0,a1,a2,a3,a4,a5,a6,a7,a8⟩:=QwI.out.fields)
       | (go_at_call 77;refine (kM _).mono ?_;rintro e wM ⟨rfl,hwM⟩;clear a0 a1 a2 a3 a4 a5 a6 a7 a8;have QwM:Hid (NBox wM w.heap.size b):=QwI.out.kept hwM QwI.out.lt;have BwM:Hid (Below w.heap.size w wM):=BwI.out.trans (hwM.mono BwI.out.size);obtain ⟨a0,a1,a2,a3,a4,a5,a6,a7,a8⟩:=QwM.out.fields)
       | (go_at_call 79;refine (kR _).mono ?_;rintro e wR ⟨rfl,hwR⟩;have BwR:Hid (Below w.heap.size w wR):=BwM.out.trans (hwR.mono BwM.out.size);have kS':=kS.out wR BwR.out)
       | (go_at_call 78;refine kS'.mono ?_;rintro e wS ⟨rfl,hwS⟩))
      go_ret
      exact ⟨rfl,BwR.out.trans (hwS.mono BwR.out.size)⟩
     | true =>
      have hO:t.odd=false:=by rw [hodd,hm,hc];rfl
      rw [hO,if_neg (by simp)] at hA
      rw [hA]
      rw [hc] at kS
      clear hO hA hodd hm hc
      go_enter Tryz.func44,Tryz.ntmps44
      go_wp2_with (first
       | (go_at_call 75;refine (kI).mono ?_;rintro e wI ⟨rfl,hwI⟩;clear a0 a1 a2 a3 a4 a5 a6 a7 a8;have QwI:Hid (NBox wI w.heap.size b):=Q0.out.kept hwI Q0.out.lt;have BwI:Hid (Below w.heap.size w wI):=B0.out.trans (hwI.mono B0.out.size);obtain ⟨a0,a1,a2,a3,a4,a5,a6,a7,a8⟩:=QwI.out.fields)
       | (go_at_call 77;refine (kM _).mono ?_;rintro e wM ⟨rfl,hwM⟩;clear a0 a1 a2 a3 a4 a5 a6 a7 a8;have QwM:Hid (NBox wM w.heap.size b):=QwI.out.kept hwM QwI.out.lt;have BwM:Hid (Below w.heap.size w wM):=BwI.out.trans (hwM.mono BwI.out.size);obtain ⟨a0,a1,a2,a3,a4,a5,a6,a7,a8⟩:=QwM.out.fields)
       | (go_at_call 79;refine (kR _).mono ?_;rintro e wR ⟨rfl,hwR⟩;have BwR:Hid (Below w.heap.size w wR):=BwM.out.trans (hwR.mono BwM.out.size);have kS':=kS.out wR BwR.out)
       | (go_at_call 78;refine kS'.mono ?_;rintro e wS ⟨rfl,hwS⟩))
      go_ret
      exact ⟨rfl,BwR.out.trans (hwS.mono BwR.out.size)⟩
   ·have dL : decide ((4096 : Int) < ((b.lb : Nat) : Int)) = false := by simp; omega
    clear hL
    cases hm:mayB b with
    | false =>
     have hO:t.odd=true:=by rw [hodd,hm];rfl
     rw [hO,if_pos rfl] at hA
     rw [hA]
     rw [hm] at kM
     clear hO hA hodd hm
     go_enter Tryz.func44,Tryz.ntmps44
     go_wp2_with (first
      | (go_at_call 75;refine (kI).mono ?_;rintro e wI ⟨rfl,hwI⟩;clear a0 a1 a2 a3 a4 a5 a6 a7 a8;have QwI:Hid (NBox wI w.heap.size b):=Q0.out.kept hwI Q0.out.lt;have BwI:Hid (Below w.heap.size w wI):=B0.out.trans (hwI.mono B0.out.size);obtain ⟨a0,a1,a2,a3,a4,a5,a6,a7,a8⟩:=QwI.out.fields)
      | (go_at_call 77;refine (kM _).mono ?_;rintro e wM ⟨rfl,hwM⟩;clear a0 a1 a2 a3 a4 a5 a6 a7 a8;have QwM:Hid (NBox wM w.heap.size b):=QwI.out.kept hwM QwI.out.lt;have BwM:Hid (Below w.heap.size w wM):=BwI.out.trans (hwM.mono BwI.out.size);obtain ⟨a0,a1,a2,a3,a4,a5,a6,a7,a8⟩:=QwM.out.fields))
     go_ret
     exact ⟨rfl,BwM.out⟩
    | true =>
     rw [hm] at kM
     cases hc:t.clean with
     | false =>
      have hO:t.odd=true:=by rw [hodd,hm,hc];rfl
      rw [hO,if_pos rfl] at hA
      rw [hA]
      rw [hc] at kS
      clear hO hA hodd hm hc
      go_enter Tryz.func44,Tryz.ntmps44
      go_wp2_with (first
       | (go_at_call 75;refine (kI).mono ?_;rintro e wI ⟨rfl,hwI⟩;clear a0 a1 a2 a3 a4 a5 a6 a7 a8;have QwI:Hid (NBox wI w.heap.size b):=Q0.out.kept hwI Q0.out.lt;have BwI:Hid (Below w.heap.size w wI):=B0.out.trans (hwI.mono B0.out.size);obtain ⟨a0,a1,a2,a3,a4,a5,a6,a7,a8⟩:=QwI.out.fields)
       | (go_at_call 77;refine (kM _).mono ?_;rintro e wM ⟨rfl,hwM⟩;clear a0 a1 a2 a3 a4 a5 a6 a7 a8;have QwM:Hid (NBox wM w.heap.size b):=QwI.out.kept hwM QwI.out.lt;have BwM:Hid (Below w.heap.size w wM):=BwI.out.trans (hwM.mono BwI.out.size);obtain ⟨a0,a1,a2,a3,a4,a5,a6,a7,a8⟩:=QwM.out.fields)
       | (go_at_call 79;refine (kR _).mono ?_;rintro e wR ⟨rfl,hwR⟩;have BwR:Hid (Below w.heap.size w wR):=BwM.out.trans (hwR.mono BwM.out.size);have kS':=kS.out wR BwR.out)
       | (go_at_call 78;refine kS'.mono ?_;rintro e wS ⟨rfl,hwS⟩))
      go_ret
      exact ⟨rfl,BwR.out.trans (hwS.mono BwR.out.size)⟩
     | true =>
      have hO:t.odd=false:=by rw [hodd,hm,hc];rfl
      rw [hO,if_neg (by simp)] at hA
      rw [hA]
      rw [hc] at kS
      clear hO hA hodd hm hc
      go_enter Tryz.func44,Tryz.ntmps44
      go_wp2_with (first
       | (go_at_call 75;refine (kI).mono ?_;rintro e wI ⟨rfl,hwI⟩;clear a0 a1 a2 a3 a4 a5 a6 a7 a8;have QwI:Hid (NBox wI w.heap.size b):=Q0.out.kept hwI Q0.out.lt;have BwI:Hid (Below w.heap.size w wI):=B0.out.trans (hwI.mono B0.out.size);obtain ⟨a0,a1,a2,a3,a4,a5,a6,a7,a8⟩:=QwI.out.fields)
       | (go_at_call 77;refine (kM _).mono ?_;rintro e wM ⟨rfl,hwM⟩;clear a0 a1 a2 a3 a4 a5 a6 a7 a8;have QwM:Hid (NBox wM w.heap.size b):=QwI.out.kept hwM QwI.out.lt;have BwM:Hid (Below w.heap.size w wM):=BwI.out.trans (hwM.mono BwI.out.size);obtain ⟨a0,a1,a2,a3,a4,a5,a6,a7,a8⟩:=QwM.out.fields)
       | (go_at_call 79;refine (kR _).mono ?_;rintro e wR ⟨rfl,hwR⟩;have BwR:Hid (Below w.heap.size w wR):=BwM.out.trans (hwR.mono BwM.out.size);have kS':=kS.out wR BwR.out)
       | (go_at_call 78;refine kS'.mono ?_;rintro e wS ⟨rfl,hwS⟩))
      go_ret
      exact ⟨rfl,BwR.out.trans (hwS.mono BwR.out.size)⟩
  ·have dT : decide ((4096 : Int) < ((b.txt.size : Nat) : Int)) = false := by simp; omega
   clear hT
   rcases Nat.lt_or_ge 4096 b.lb with hL | hL
   ·have dL : decide ((4096 : Int) < ((b.lb : Nat) : Int)) = true := by simp; omega
    clear hL
    cases hm:mayB b with
    | false =>
     have hO:t.odd=true:=by rw [hodd,hm];rfl
     rw [hO,if_pos rfl] at hA
     rw [hA]
     rw [hm] at kM
     clear hO hA hodd hm
     go_enter Tryz.func44,Tryz.ntmps44
     go_wp2_with (first
      | (go_at_call 75;refine (kI).mono ?_;rintro e wI ⟨rfl,hwI⟩;clear a0 a1 a2 a3 a4 a5 a6 a7 a8;have QwI:Hid (NBox wI w.heap.size b):=Q0.out.kept hwI Q0.out.lt;have BwI:Hid (Below w.heap.size w wI):=B0.out.trans (hwI.mono B0.out.size);obtain ⟨a0,a1,a2,a3,a4,a5,a6,a7,a8⟩:=QwI.out.fields)
      | (go_at_call 77;refine (kM _).mono ?_;rintro e wM ⟨rfl,hwM⟩;clear a0 a1 a2 a3 a4 a5 a6 a7 a8;have QwM:Hid (NBox wM w.heap.size b):=QwI.out.kept hwM QwI.out.lt;have BwM:Hid (Below w.heap.size w wM):=BwI.out.trans (hwM.mono BwI.out.size);obtain ⟨a0,a1,a2,a3,a4,a5,a6,a7,a8⟩:=QwM.out.fields))
     go_ret
     exact ⟨rfl,BwM.out⟩
    | true =>
     rw [hm] at kM
     cases hc:t.clean with
     | false =>
      have hO:t.odd=true:=by rw [hodd,hm,hc];rfl
      rw [hO,if_pos rfl] at hA
      rw [hA]
      rw [hc] at kS
      clear hO hA hodd hm hc
      go_enter Tryz.func44,Tryz.ntmps44
      go_wp2_with (first
       | (go_at_call 75;refine (kI).mono ?_;rintro e wI ⟨rfl,hwI⟩;clear a0 a1 a2 a3 a4 a5 a6 a7 a8;have QwI:Hid (NBox wI w.heap.size b):=Q0.out.kept hwI Q0.out.lt;have BwI:Hid (Below w.heap.size w wI):=B0.out.trans (hwI.mono B0.out.size);obtain ⟨a0,a1,a2,a3,a4,a5,a6,a7,a8⟩:=QwI.out.fields)
       | (go_at_call 77;refine (kM _).mono ?_;rintro e wM ⟨rfl,hwM⟩;clear a0 a1 a2 a3 a4 a5 a6 a7 a8;have QwM:Hid (NBox wM w.heap.size b):=QwI.out.kept hwM QwI.out.lt;have BwM:Hid (Below w.heap.size w wM):=BwI.out.trans (hwM.mono BwI.out.size);obtain ⟨a0,a1,a2,a3,a4,a5,a6,a7,a8⟩:=QwM.out.fields)
       | (go_at_call 79;refine (kR _).mono ?_;rintro e wR ⟨rfl,hwR⟩;have BwR:Hid (Below w.heap.size w wR):=BwM.out.trans (hwR.mono BwM.out.size);have kS':=kS.out wR BwR.out)
       | (go_at_call 78;refine kS'.mono ?_;rintro e wS ⟨rfl,hwS⟩))
      go_ret
      exact ⟨rfl,BwR.out.trans (hwS.mono BwR.out.size)⟩
     | true =>
      have hO:t.odd=false:=by rw [hodd,hm,hc];rfl
      rw [hO,if_neg (by simp)] at hA
      rw [hA]
      rw [hc] at kS
      clear hO hA hodd hm hc
      go_enter Tryz.func44,Tryz.ntmps44
      go_wp2_with (first
       | (go_at_call 75;refine (kI).mono ?_;rintro e wI ⟨rfl,hwI⟩;clear a0 a1 a2 a3 a4 a5 a6 a7 a8;have QwI:Hid (NBox wI w.heap.size b):=Q0.out.kept hwI Q0.out.lt;have BwI:Hid (Below w.heap.size w wI):=B0.out.trans (hwI.mono B0.out.size);obtain ⟨a0,a1,a2,a3,a4,a5,a6,a7,a8⟩:=QwI.out.fields)
       | (go_at_call 77;refine (kM _).mono ?_;rintro e wM ⟨rfl,hwM⟩;clear a0 a1 a2 a3 a4 a5 a6 a7 a8;have QwM:Hid (NBox wM w.heap.size b):=QwI.out.kept hwM QwI.out.lt;have BwM:Hid (Below w.heap.size w wM):=BwI.out.trans (hwM.mono BwI.out.size);obtain ⟨a0,a1,a2,a3,a4,a5,a6,a7,a8⟩:=QwM.out.fields)
       | (go_at_call 79;refine (kR _).mono ?_;rintro e wR ⟨rfl,hwR⟩;have BwR:Hid (Below w.heap.size w wR):=BwM.out.trans (hwR.mono BwM.out.size);have kS':=kS.out wR BwR.out)
       | (go_at_call 78;refine kS'.mono ?_;rintro e wS ⟨rfl,hwS⟩))
      go_ret
      exact ⟨rfl,BwR.out.trans (hwS.mono BwR.out.size)⟩
   ·have dL : decide ((4096 : Int) < ((b.lb : Nat) : Int)) = false := by simp; omega
    clear hL
    cases hm:mayB b with
    | false =>
     have hO:t.odd=true:=by rw [hodd,hm];rfl
     rw [hO,if_pos rfl] at hA
     rw [hA]
     rw [hm] at kM
     clear hO hA hodd hm
     go_enter Tryz.func44,Tryz.ntmps44
     go_wp2_with (first
      | (go_at_call 75;refine (kI).mono ?_;rintro e wI ⟨rfl,hwI⟩;clear a0 a1 a2 a3 a4 a5 a6 a7 a8;have QwI:Hid (NBox wI w.heap.size b):=Q0.out.kept hwI Q0.out.lt;have BwI:Hid (Below w.heap.size w wI):=B0.out.trans (hwI.mono B0.out.size);obtain ⟨a0,a1,a2,a3,a4,a5,a6,a7,a8⟩:=QwI.out.fields)
      | (go_at_call 77;refine (kM _).mono ?_;rintro e wM ⟨rfl,hwM⟩;clear a0 a1 a2 a3 a4 a5 a6 a7 a8;have QwM:Hid (NBox wM w.heap.size b):=QwI.out.kept hwM QwI.out.lt;have BwM:Hid (Below w.heap.size w wM):=BwI.out.trans (hwM.mono BwI.out.size);obtain ⟨a0,a1,a2,a3,a4,a5,a6,a7,a8⟩:=QwM.out.fields))
     go_ret
     exact ⟨rfl,BwM.out⟩
    | true =>
     rw [hm] at kM
     cases hc:t.clean with
     | false =>
      have hO:t.odd=true:=by rw [hodd,hm,hc];rfl
      rw [hO,if_pos rfl] at hA
      rw [hA]
      rw [hc] at kS
      clear hO hA hodd hm hc
      go_enter Tryz.func44,Tryz.ntmps44
      go_wp2_with (first
       | (go_at_call 75;refine (kI).mono ?_;rintro e wI ⟨rfl,hwI⟩;clear a0 a1 a2 a3 a4 a5 a6 a7 a8;have QwI:Hid (NBox wI w.heap.size b):=Q0.out.kept hwI Q0.out.lt;have BwI:Hid (Below w.heap.size w wI):=B0.out.trans (hwI.mono B0.out.size);obtain ⟨a0,a1,a2,a3,a4,a5,a6,a7,a8⟩:=QwI.out.fields)
       | (go_at_call 77;refine (kM _).mono ?_;rintro e wM ⟨rfl,hwM⟩;clear a0 a1 a2 a3 a4 a5 a6 a7 a8;have QwM:Hid (NBox wM w.heap.size b):=QwI.out.kept hwM QwI.out.lt;have BwM:Hid (Below w.heap.size w wM):=BwI.out.trans (hwM.mono BwI.out.size);obtain ⟨a0,a1,a2,a3,a4,a5,a6,a7,a8⟩:=QwM.out.fields)
       | (go_at_call 79;refine (kR _).mono ?_;rintro e wR ⟨rfl,hwR⟩;have BwR:Hid (Below w.heap.size w wR):=BwM.out.trans (hwR.mono BwM.out.size);have kS':=kS.out wR BwR.out)
       | (go_at_call 78;refine kS'.mono ?_;rintro e wS ⟨rfl,hwS⟩))
      go_ret
      exact ⟨rfl,BwR.out.trans (hwS.mono BwR.out.size)⟩
     | true =>
      have hO:t.odd=false:=by rw [hodd,hm,hc];rfl
      rw [hO,if_neg (by simp)] at hA
      rw [hA]
      rw [hc] at kS
      clear hO hA hodd hm hc
      go_enter Tryz.func44,Tryz.ntmps44
      go_wp2_with (first
       | (go_at_call 75;refine (kI).mono ?_;rintro e wI ⟨rfl,hwI⟩;clear a0 a1 a2 a3 a4 a5 a6 a7 a8;have QwI:Hid (NBox wI w.heap.size b):=Q0.out.kept hwI Q0.out.lt;have BwI:Hid (Below w.heap.size w wI):=B0.out.trans (hwI.mono B0.out.size);obtain ⟨a0,a1,a2,a3,a4,a5,a6,a7,a8⟩:=QwI.out.fields)
       | (go_at_call 77;refine (kM _).mono ?_;rintro e wM ⟨rfl,hwM⟩;clear a0 a1 a2 a3 a4 a5 a6 a7 a8;have QwM:Hid (NBox wM w.heap.size b):=QwI.out.kept hwM QwI.out.lt;have BwM:Hid (Below w.heap.size w wM):=BwI.out.trans (hwM.mono BwI.out.size);obtain ⟨a0,a1,a2,a3,a4,a5,a6,a7,a8⟩:=QwM.out.fields)
       | (go_at_call 79;refine (kR _).mono ?_;rintro e wR ⟨rfl,hwR⟩;have BwR:Hid (Below w.heap.size w wR):=BwM.out.trans (hwR.mono BwM.out.size);have kS':=kS.out wR BwR.out)
       | (go_at_call 78;refine kS'.mono ?_;rintro e wS ⟨rfl,hwS⟩))
      go_ret
      exact ⟨rfl,BwR.out.trans (hwS.mono BwR.out.size)⟩
 ·have kI := isint_any b (w.alloc (.cells b.arr 26)) false (by simp only [Bool.false_eq_true, false_iff]; exact hI)
  rw [if_pos ⟨h2,by
   cases hr:rt b.dig with
   | false=>exact .inl rfl
   | true=>exact .inr (Classical.byContradiction fun h=>hI ⟨hr,h⟩)⟩] at hA
  rw [hA]
  clear hI hA hodd kM kR kS h2
  rcases Nat.lt_or_ge 4096 b.txt.size with hT | hT
  ·have dT : decide ((4096 : Int) < ((b.txt.size : Nat) : Int)) = true := by simp; omega
   clear hT
   rcases Nat.lt_or_ge 4096 b.lb with hL | hL
   ·have dL : decide ((4096 : Int) < ((b.lb : Nat) : Int)) = true := by simp; omega
    clear hL
    go_enter Tryz.func44,Tryz.ntmps44
    go_wp2_with (first
     | (go_at_call 75;refine (kI).mono ?_;rintro e wI ⟨rfl,hwI⟩;clear a0 a1 a2 a3 a4 a5 a6 a7 a8;have QwI:Hid (NBox wI w.heap.size b):=Q0.out.kept hwI Q0.out.lt;have BwI:Hid (Below w.heap.size w wI):=B0.out.trans (hwI.mono B0.out.size);obtain ⟨a0,a1,a2,a3,a4,a5,a6,a7,a8⟩:=QwI.out.fields))
    go_ret
    exact ⟨rfl,BwI.out⟩
   ·have dL : decide ((4096 : Int) < ((b.lb : Nat) : Int)) = false := by simp; omega
    clear hL
    go_enter Tryz.func44,Tryz.ntmps44
    go_wp2_with (first
     | (go_at_call 75;refine (kI).mono ?_;rintro e wI ⟨rfl,hwI⟩;clear a0 a1 a2 a3 a4 a5 a6 a7 a8;have QwI:Hid (NBox wI w.heap.size b):=Q0.out.kept hwI Q0.out.lt;have BwI:Hid (Below w.heap.size w wI):=B0.out.trans (hwI.mono B0.out.size);obtain ⟨a0,a1,a2,a3,a4,a5,a6,a7,a8⟩:=QwI.out.fields))
    go_ret
    exact ⟨rfl,BwI.out⟩
  ·have dT : decide ((4096 : Int) < ((b.txt.size : Nat) : Int)) = false := by simp; omega
   clear hT
   rcases Nat.lt_or_ge 4096 b.lb with hL | hL
   ·have dL : decide ((4096 : Int) < ((b.lb : Nat) : Int)) = true := by simp; omega
    clear hL
    go_enter Tryz.func44,Tryz.ntmps44
    go_wp2_with (first
     | (go_at_call 75;refine (kI).mono ?_;rintro e wI ⟨rfl,hwI⟩;clear a0 a1 a2 a3 a4 a5 a6 a7 a8;have QwI:Hid (NBox wI w.heap.size b):=Q0.out.kept hwI Q0.out.lt;have BwI:Hid (Below w.heap.size w wI):=B0.out.trans (hwI.mono B0.out.size);obtain ⟨a0,a1,a2,a3,a4,a5,a6,a7,a8⟩:=QwI.out.fields))
    go_ret
    exact ⟨rfl,BwI.out⟩
   ·have dL : decide ((4096 : Int) < ((b.lb : Nat) : Int)) = false := by simp; omega
    clear hL
    go_enter Tryz.func44,Tryz.ntmps44
    go_wp2_with (first
     | (go_at_call 75;refine (kI).mono ?_;rintro e wI ⟨rfl,hwI⟩;clear a0 a1 a2 a3 a4 a5 a6 a7 a8;have QwI:Hid (NBox wI w.heap.size b):=Q0.out.kept hwI Q0.out.lt;have BwI:Hid (Below w.heap.size w wI):=B0.out.trans (hwI.mono B0.out.size);obtain ⟨a0,a1,a2,a3,a4,a5,a6,a7,a8⟩:=QwI.out.fields))
    go_ret
    exact ⟨rfl,BwI.out⟩
end Go.Proofs.YtejlaiofpekchaaGreatDoor
