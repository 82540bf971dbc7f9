/-
  What is wrong with a node itself: tree.fault, of every other Kind.
  What is wrong with a tree: tree.Check.
  A tree that may be, copied: conv.checked.
-/
import Derived.Test.YtejlaiofpekchaaGreatDoorC19
import Derived.Test.YtejlaiofpekchaaGreatDoorC20
import Derived.Test.YtejlaiofpekchaaGreatDoorC21
import Derived.Test.YtejlaiofpekchaaGreatDoorC22
import Derived.Test.YtejlaiofpekchaaGreatDoorC7
import Derived.Test.YtejlaiofpekchaaGreatDoorC17
import Derived.Test.YtejlaiofpekchaaGreatDoorC12
namespace Go.Proofs.YtejlaiofpekchaaGreatDoor
open Go.RowKit
set_option linter.unusedVariables false
set_option maxHeartbeats 8000000 in
set_option maxRecDepth 100000 in
theorem fault_ko{D:Nat}{t:Tr}{b:Nb}{w:World}(hN:Nd (D+1) w b t)(h2:b.kind≠2)(h3:b.kind≠3)(h5:b.kind≠5)(h6:b.kind≠6):Calls Tryz.prog 44 #[.agg b.arr] w fun e w'=>e = .returned (.int .i64 (alF t))∧Below w.heap.size w w':=by
 have hal:=alloc_below w (.cells b.arr 26)
 have B0:Hid (Below w.heap.size w (w.alloc (.cells b.arr 26))):=hal
 have Q0:Hid (NBox (w.alloc (.cells b.arr 26)) w.heap.size b):=nbox_new w b
 obtain ⟨a0,a1,a2,a3,a4,a5,a6,a7,a8⟩:=(nbox_new w b).fields
 have hodd:=odd_eq hN
 have rk:=hN.2.2.2.1.2.1
 have ri:=hN.2.2.2.2.2.1
 have kM:=fun w'=>maybe_any b w' ⟨rk.1,rk.2.1,ri.1,ri.2.1⟩
 have kR:=fun w'=>rest_any b w'
 have kS:Hid (∀ w',Below w.heap.size w w'→Calls Tryz.prog 78 #[.agg (rst b).arr, .agg #[.int .i64 0, .int .u64 0, .bool false, .string ⟨#[]⟩, .int .i64 0, .string ⟨#[]⟩, .slice none 0 0, .slice none 0 0, .slice none 0 0]] w' fun e w''=>e = .returned (.bool t.clean)∧Below w'.heap.size w' w''):=fun w' hb=>sam_any (b:=zN) (nd_rst (hN.kept hb)) (nd_zero 0 w') (rst_clean t).symm
 have hk:b.kind=t.kind:=hN.1.1
 have hneg:b.neg=t.neg:=hN.1.2.2.1
 have hdig:b.dig=t.dig:=hN.1.2.2.2.1
 have hexp:b.exp=t.exp:=hN.1.2.2.2.2.1
 have htxt:b.txt=t.txt:=hN.1.2.2.2.2.2
 have hlb:t.bytes.length=b.lb:=hN.2.2.1.1
 have mb1:=hN.2.2.1.2.1.1
 have mb2:=hN.2.2.1.2.1.2.1
 unfold maxLen at mb2
 have mt:b.txt.size≤140737488351232:=by rw [htxt];exact hN.2.1.2.2.2.2
 have hA:alF t=if (b.kind=5∧4096<b.txt.size)∨(b.kind=6∧4096<b.lb) then 8
  else if b.kind=5∧gtx b.txt=false then 6
  else if b.kind=2∧(rt b.dig=false∨(b.neg=true∧b.dig=⟨#[48]⟩)) then 11
  else if b.kind=3∧rdN b.neg b.dig b.exp=false then 11
  else if t.odd=true then 12 else 0:=by
  rw [hk,hneg,hdig,hexp,htxt,←hlb];rfl
 clear hneg hdig hexp htxt hlb hN hk hal rk ri
 rw [if_neg (by omega),if_neg (by omega),if_neg (by omega),if_neg (by omega)] at hA
 have e2:(b.kind==2)=false:=by simp [h2]
 have e3:(b.kind==3)=false:=by simp [h3]
 have e5:(b.kind==5)=false:=by simp [h5]
 have e6:(b.kind==6)=false:=by simp [h6]
 clear h2 h3 h5 h6
 rcases Nat.lt_or_ge 4096 b.txt.size with hT | hT
 ·have dT : decide ((4096 : Int) < ((b.txt.size : Nat) : Int)) = true := by simp; omega
  clear hT
  rcases Nat.lt_or_ge 4096 b.lb with hL | hL
  ·have dL : decide ((4096 : Int) < ((b.lb : Nat) : Int)) = true := by simp; omega
   clear hL
   cases hm:mayB b with
   | false =>
    have hO:t.odd=true:=by rw [hodd,hm];rfl
    rw [hO,if_pos rfl] at hA
    rw [hA]
    rw [hm] at kM
    clear hO hA hodd hm
    go_enter Tryz.func44,Tryz.ntmps44
    go_wp2_with (first
     | (go_at_call 77;refine (kM _).mono ?_;rintro e wM ⟨rfl,hwM⟩;clear a0 a1 a2 a3 a4 a5 a6 a7 a8;have QwM:Hid (NBox wM w.heap.size b):=Q0.out.kept hwM Q0.out.lt;have BwM:Hid (Below w.heap.size w wM):=B0.out.trans (hwM.mono B0.out.size);obtain ⟨a0,a1,a2,a3,a4,a5,a6,a7,a8⟩:=QwM.out.fields))
    go_ret
    exact ⟨rfl,BwM.out⟩
   | true =>
    rw [hm] at kM
    cases hc:t.clean with
    | false =>
     have hO:t.odd=true:=by rw [hodd,hm,hc];rfl
     rw [hO,if_pos rfl] at hA
     rw [hA]
     rw [hc] at kS
     clear hO hA hodd hm hc
     go_enter Tryz.func44,Tryz.ntmps44
     go_wp2_with (first
      | (go_at_call 77;refine (kM _).mono ?_;rintro e wM ⟨rfl,hwM⟩;clear a0 a1 a2 a3 a4 a5 a6 a7 a8;have QwM:Hid (NBox wM w.heap.size b):=Q0.out.kept hwM Q0.out.lt;have BwM:Hid (Below w.heap.size w wM):=B0.out.trans (hwM.mono B0.out.size);obtain ⟨a0,a1,a2,a3,a4,a5,a6,a7,a8⟩:=QwM.out.fields)
      | (go_at_call 79;refine (kR _).mono ?_;rintro e wR ⟨rfl,hwR⟩;have BwR:Hid (Below w.heap.size w wR):=BwM.out.trans (hwR.mono BwM.out.size);have kS':=kS.out wR BwR.out)
      | (go_at_call 78;refine kS'.mono ?_;rintro e wS ⟨rfl,hwS⟩))
     go_ret
     exact ⟨rfl,BwR.out.trans (hwS.mono BwR.out.size)⟩
    | true =>
     have hO:t.odd=false:=by rw [hodd,hm,hc];rfl
     rw [hO,if_neg (by simp)] at hA
     rw [hA]
     rw [hc] at kS
     clear hO hA hodd hm hc
     go_enter Tryz.func44,Tryz.ntmps44
     go_wp2_with (first
      | (go_at_call 77;refine (kM _).mono ?_;rintro e wM ⟨rfl,hwM⟩;clear a0 a1 a2 a3 a4 a5 a6 a7 a8;have QwM:Hid (NBox wM w.heap.size b):=Q0.out.kept hwM Q0.out.lt;have BwM:Hid (Below w.heap.size w wM):=B0.out.trans (hwM.mono B0.out.size);obtain ⟨a0,a1,a2,a3,a4,a5,a6,a7,a8⟩:=QwM.out.fields)
      | (go_at_call 79;refine (kR _).mono ?_;rintro e wR ⟨rfl,hwR⟩;have BwR:Hid (Below w.heap.size w wR):=BwM.out.trans (hwR.mono BwM.out.size);have kS':=kS.out wR BwR.out)
      | (go_at_call 78;refine kS'.mono ?_;rintro e wS ⟨rfl,hwS⟩))
     go_ret
     exact ⟨rfl,BwR.out.trans (hwS.mono BwR.out.size)⟩
  ·have dL : decide ((4096 : Int) < ((b.lb : Nat) : Int)) = false := by simp; omega
   clear hL
   cases hm:mayB b with
   | false =>
    have hO:t.odd=true:=by rw [hodd,hm];rfl
    rw [hO,if_pos rfl] at hA
    rw [hA]
    rw [hm] at kM
    clear hO hA hodd hm
    go_enter Tryz.func44,Tryz.ntmps44
    go_wp2_with (first
     | (go_at_call 77;refine (kM _).mono ?_;rintro e wM ⟨rfl,hwM⟩;clear a0 a1 a2 a3 a4 a5 a6 a7 a8;have QwM:Hid (NBox wM w.heap.size b):=Q0.out.kept hwM Q0.out.lt;have BwM:Hid (Below w.heap.size w wM):=B0.out.trans (hwM.mono B0.out.size);obtain ⟨a0,a1,a2,a3,a4,a5,a6,a7,a8⟩:=QwM.out.fields))
    go_ret
    exact ⟨rfl,BwM.out⟩
   | true =>
    rw [hm] at kM
    cases hc:t.clean with
    | false =>
     have hO:t.odd=true:=by rw [hodd,hm,hc];rfl
     rw [hO,if_pos rfl] at hA
     rw [hA]
     rw [hc] at kS
     clear hO hA hodd hm hc
     go_enter Tryz.func44,Tryz.ntmps44
     go_wp2_with (first
      | (go_at_call 77;refine (kM _).mono ?_;rintro e wM ⟨rfl,hwM⟩;clear a0 a1 a2 a3 a4 a5 a6 a7 a8;have QwM:Hid (NBox wM w.heap.size b):=Q0.out.kept hwM Q0.out.lt;have BwM:Hid (Below w.heap.size w wM):=B0.out.trans (hwM.mono B0.out.size);obtain ⟨a0,a1,a2,a3,a4,a5,a6,a7,a8⟩:=QwM.out.fields)
      | (go_at_call 79;refine (kR _).mono ?_;rintro e wR ⟨rfl,hwR⟩;have BwR:Hid (Below w.heap.size w wR):=BwM.out.trans (hwR.mono BwM.out.size);have kS':=kS.out wR BwR.out)
      | (go_at_call 78;refine kS'.mono ?_;rintro e wS ⟨rfl,hwS⟩))
     go_ret
     exact ⟨rfl,BwR.out.trans (hwS.mono BwR.out.size)⟩
    | true =>
     have hO:t.odd=false:=by rw [hodd,hm,hc];rfl
     rw [hO,if_neg (by simp)] at hA
     rw [hA]
     rw [hc] at kS
     clear hO hA hodd hm hc
     go_enter Tryz.func44,Tryz.ntmps44
     go_wp2_with (first
      | (go_at_call 77;refine (kM _).mono ?_;rintro e wM ⟨rfl,hwM⟩;clear a0 a1 a2 a3 a4 a5 a6 a7 a8;have QwM:Hid (NBox wM w.heap.size b):=Q0.out.kept hwM Q0.out.lt;have BwM:Hid (Below w.heap.size w wM):=B0.out.trans (hwM.mono B0.out.size);obtain ⟨a0,a1,a2,a3,a4,a5,a6,a7,a8⟩:=QwM.out.fields)
      | (go_at_call 79;refine (kR _).mono ?_;rintro e wR ⟨rfl,hwR⟩;have BwR:Hid (Below w.heap.size w wR):=BwM.out.trans (hwR.mono BwM.out.size);have kS':=kS.out wR BwR.out)
      | (go_at_call 78;refine kS'.mono ?_;rintro e wS ⟨rfl,hwS⟩))
     go_ret
     exact ⟨rfl,BwR.out.trans (hwS.mono BwR.out.size)⟩
 ·have dT : decide ((4096 : Int) < ((b.txt.size : Nat) : Int)) = false := by simp; omega
  clear hT
  rcases Nat.lt_or_ge 4096 b.lb with hL | hL
  ·have dL : decide ((4096 : Int) < ((b.lb : Nat) : Int)) = true := by simp; omega
   clear hL
   cases hm:mayB b with
   | false =>
    have hO:t.odd=true:=by rw [hodd,hm];rfl
    rw [hO,if_pos rfl] at hA
    rw [hA]
    rw [hm] at kM
    clear hO hA hodd hm
    go_enter Tryz.func44,Tryz.ntmps44
    go_wp2_with (first
     | (go_at_call 77;refine (kM _).mono ?_;rintro e wM ⟨rfl,hwM⟩;clear a0 a1 a2 a3 a4 a5 a6 a7 a8;have QwM:Hid (NBox wM w.heap.size b):=Q0.out.kept hwM Q0.out.lt;have BwM:Hid (Below w.heap.size w wM):=B0.out.trans (hwM.mono B0.out.size);obtain ⟨a0,a1,a2,a3,a4,a5,a6,a7,a8⟩:=QwM.out.fields))
    go_ret
    exact ⟨rfl,BwM.out⟩
   | true =>
    rw [hm] at kM
    cases hc:t.clean with
    | false =>
     have hO:t.odd=true:=by rw [hodd,hm,hc];rfl
     rw [hO,if_pos rfl] at hA
     rw [hA]
     rw [hc] at kS
     clear hO hA hodd hm hc
     go_enter Tryz.func44,Tryz.ntmps44
     go_wp2_with (first
      | (go_at_call 77;refine (kM _).mono ?_;rintro e wM ⟨rfl,hwM⟩;clear a0 a1 a2 a3 a4 a5 a6 a7 a8;have QwM:Hid (NBox wM w.heap.size b):=Q0.out.kept hwM Q0.out.lt;have BwM:Hid (Below w.heap.size w wM):=B0.out.trans (hwM.mono B0.out.size);obtain ⟨a0,a1,a2,a3,a4,a5,a6,a7,a8⟩:=QwM.out.fields)
      | (go_at_call 79;refine (kR _).mono ?_;rintro e wR ⟨rfl,hwR⟩;have BwR:Hid (Below w.heap.size w wR):=BwM.out.trans (hwR.mono BwM.out.size);have kS':=kS.out wR BwR.out)
      | (go_at_call 78;refine kS'.mono ?_;rintro e wS ⟨rfl,hwS⟩))
     go_ret
     exact ⟨rfl,BwR.out.trans (hwS.mono BwR.out.size)⟩
    | true =>
     have hO:t.odd=false:=by rw [hodd,hm,hc];rfl
     rw [hO,if_neg (by simp)] at hA
     rw [hA]
     rw [hc] at kS
     clear hO hA hodd hm hc
     go_enter Tryz.func44,Tryz.ntmps44
     go_wp2_with (first
      | (go_at_call 77;refine (kM _).mono ?_;rintro e wM ⟨rfl,hwM⟩;clear a0 a1 a2 a3 a4 a5 a6 a7 a8;have QwM:Hid (NBox wM w.heap.size b):=Q0.out.kept hwM Q0.out.lt;have BwM:Hid (Below w.heap.size w wM):=B0.out.trans (hwM.mono B0.out.size);obtain ⟨a0,a1,a2,a3,a4,a5,a6,a7,a8⟩:=QwM.out.fields)
      | (go_at_call 79;refine (kR _).mono ?_;rintro e wR ⟨rfl,hwR⟩;have BwR:Hid (Below w.heap.size w wR):=BwM.out.trans (hwR.mono BwM.out.size);have kS':=kS.out wR BwR.out)
      | (go_at_call 78;refine kS'.mono ?_;rintro e wS ⟨rfl,hwS⟩))
     go_ret
     exact ⟨rfl,BwR.out.trans (hwS.mono BwR.out.size)⟩
  ·have dL : decide ((4096 : Int) < ((b.lb : Nat) : Int)) = false := by simp; omega
   clear hL
   cases hm:mayB b with
   | false =>
    have hO:t.odd=true:=by rw [hodd,hm];rfl
    rw [hO,if_pos rfl] at hA
    rw [hA]
    rw [hm] at kM
    clear hO hA hodd hm
    go_enter Tryz.func44,Tryz.ntmps44
    go_wp2_with (first
     | (go_at_call 77;refine (kM _).mono ?_;rintro e wM ⟨rfl,hwM⟩;clear a0 a1 a2 a3 a4 a5 a6 a7 a8;have QwM:Hid (NBox wM w.heap.size b):=Q0.out.kept hwM Q0.out.lt;have BwM:Hid (Below w.heap.size w wM):=B0.out.trans (hwM.mono B0.out.size);obtain ⟨a0,a1,a2,a3,a4,a5,a6,a7,a8⟩:=QwM.out.fields))
    go_ret
    exact ⟨rfl,BwM.out⟩
   | true =>
    rw [hm] at kM
    cases hc:t.clean with
    | false =>
     have hO:t.odd=true:=by rw [hodd,hm,hc];rfl
     rw [hO,if_pos rfl] at hA
     rw [hA]
     rw [hc] at kS
     clear hO hA hodd hm hc
     go_enter Tryz.func44,Tryz.ntmps44
     go_wp2_with (first
      | (go_at_call 77;refine (kM _).mono ?_;rintro e wM ⟨rfl,hwM⟩;clear a0 a1 a2 a3 a4 a5 a6 a7 a8;have QwM:Hid (NBox wM w.heap.size b):=Q0.out.kept hwM Q0.out.lt;have BwM:Hid (Below w.heap.size w wM):=B0.out.trans (hwM.mono B0.out.size);obtain ⟨a0,a1,a2,a3,a4,a5,a6,a7,a8⟩:=QwM.out.fields)
      | (go_at_call 79;refine (kR _).mono ?_;rintro e wR ⟨rfl,hwR⟩;have BwR:Hid (Below w.heap.size w wR):=BwM.out.trans (hwR.mono BwM.out.size);have kS':=kS.out wR BwR.out)
      | (go_at_call 78;refine kS'.mono ?_;rintro e wS ⟨rfl,hwS⟩))
     go_ret
     exact ⟨rfl,BwR.out.trans (hwS.mono BwR.out.size)⟩
    | true =>
     have hO:t.odd=false:=by rw [hodd,hm,hc];rfl
     rw [hO,if_neg (by simp)] at hA
     rw [hA]
     rw [hc] at kS
     clear hO hA hodd hm hc
     go_enter Tryz.func44,Tryz.ntmps44
     go_wp2_with (first
      | (go_at_call 77;refine (kM _).mono ?_;rintro e wM ⟨rfl,hwM⟩;clear a0 a1 a2 a3 a4 a5 a6 a7 a8;have QwM:Hid (NBox wM w.heap.size b):=Q0.out.kept hwM Q0.out.lt;have BwM:Hid (Below w.heap.size w wM):=B0.out.trans (hwM.mono B0.out.size);obtain ⟨a0,a1,a2,a3,a4,a5,a6,a7,a8⟩:=QwM.out.fields)
      | (go_at_call 79;refine (kR _).mono ?_;rintro e wR ⟨rfl,hwR⟩;have BwR:Hid (Below w.heap.size w wR):=BwM.out.trans (hwR.mono BwM.out.size);have kS':=kS.out wR BwR.out)
      | (go_at_call 78;refine kS'.mono ?_;rintro e wS ⟨rfl,hwS⟩))
     go_ret
     exact ⟨rfl,BwR.out.trans (hwS.mono BwR.out.size)⟩
end Go.Proofs.YtejlaiofpekchaaGreatDoor
namespace Go.Proofs.YtejlaiofpekchaaGreatDoor
open Go.RowKit
set_option linter.unusedVariables false
theorem fault_any{D:Nat}{t:Tr}{b:Nb}{w:World}(hN:Nd D w b t):Calls Tryz.prog 44 #[.agg b.arr] w fun e w'=>e = .returned (.int .i64 (alF t))∧Below w.heap.size w w':=by
 cases D with
 | zero=>exact absurd hN id
 | succ D =>
  by_cases h2:b.kind=2
  ·exact fault_k2 hN h2
  by_cases h3:b.kind=3
  ·exact fault_k3 hN h3
  by_cases h5:b.kind=5
  ·exact fault_k5 hN h5
  by_cases h6:b.kind=6
  ·exact fault_k6 hN h6
  exact fault_ko hN h2 h3 h5 h6
def IC(B gw:Nat)(s:Int)(w:World):Prop:=w.heap[gw]? = some (.cells #[.int .i64 s] 28 (0,0))∧B≤w.heap.size
set_option maxHeartbeats 2000000 in
theorem chkc_any(B gw:Nat)(hB:B≤gw)(s:Int)(w:World)(b:Nb)(t:Tr)(d D:Nat)(hI:IC B gw s w)(hN:NdS (· < B) D w b t) :
  Calls Tryz.prog 43 (#[.agg b.arr, .int .i64 d]++#[.pointer (some ⟨gw,0,none⟩)]) w fun e w'=>e = .returned (.bool (Tr.flt alF t d s).1)∧IC B gw (Tr.flt alF t d s).2 w'∧Kp (fun k=>k=gw) w w':=by
 show Calls Tryz.prog 43 #[.agg b.arr, .int .i64 d, .pointer (some ⟨gw,0,none⟩)] w _
 have hal:=alloc_below w (.cells b.arr 26)
 obtain ⟨a0,a1,a2,a3,a4,a5,a6,a7,a8⟩:=(nbox_new w b).fields
 have kF:=fault_any (hN.nd.kept hal)
 have hI':Hid (IC B gw s w):=hI
 have hal':Hid (Below w.heap.size w (w.alloc (.cells b.arr 26))):=hal
 have hlt:Hid (gw<w.heap.size):=block_lt hI.1
 have hR1:Hid ((Tr.flt alF t d s).1=decide (alF t=0)):=rfl
 have hR2:Hid ((Tr.flt alF t d s).2=alF t):=rfl
 generalize (Tr.flt alF t d s).1=R1 at *
 generalize (Tr.flt alF t d s).2=R2 at *
 generalize alF t=A at *
 clear hal hI hN
 by_cases hz:A=0
 ·subst hz
  obtain rfl:R1=true:=by rw [hR1.out];rfl
  obtain rfl:R2=0:=hR2.out
  go_enter Tryz.func43,Tryz.ntmps43
  go_wp2_with (go_at_call 44;refine kF.mono ?_;rintro e w2 ⟨rfl,hb2⟩;have H2:=(hb2.block gw (Nat.lt_of_lt_of_le hlt.out hal'.out.size)).trans ((hal'.out.block gw hlt.out).trans hI'.out.1);have c2:=cell_of_one H2;have z2:=free_of_one H2;have H3:=one_setCell (u := .int .i64 0) H2;have c3:=cell_of_one H3;have hbw:=hal'.out.trans (hb2.mono hal'.out.size))
  go_ret
  exact ⟨rfl,⟨H3,Nat.le_trans hI'.out.2 (Nat.le_trans hbw.size (by simp [World.setCell]))⟩,(Kp.of hbw).trans (kp_set (C:=fun k=>k=gw) rfl _)⟩
 ·obtain rfl : R1 = false := by rw [hR1.out]; exact decide_eq_false hz
  have hz':(A==0)=false:=by simp [hz]
  obtain rfl:R2=A:=hR2.out
  clear hz
  go_enter Tryz.func43,Tryz.ntmps43
  go_wp2_with (go_at_call 44;refine kF.mono ?_;rintro e w2 ⟨rfl,hb2⟩;have H2:=(hb2.block gw (Nat.lt_of_lt_of_le hlt.out hal'.out.size)).trans ((hal'.out.block gw hlt.out).trans hI'.out.1);have c2:=cell_of_one H2;have z2:=free_of_one H2;have H3:=one_setCell (u := .int .i64 R2) H2;have c3:=cell_of_one H3;have hbw:=hal'.out.trans (hb2.mono hal'.out.size))
  go_ret
  exact ⟨rfl,⟨H3,Nat.le_trans hI'.out.2 (Nat.le_trans hbw.size (by simp [World.setCell]))⟩,(Kp.of hbw).trans (kp_set (C:=fun k=>k=gw) rfl _)⟩
theorem takes_flt{B gw:Nat}(hB:B≤gw):Takes 43 #[.pointer (some ⟨gw,0,none⟩)] Int (Tr.flt alF) (IC B gw) (fun _ d t=>d+t.deep≤100) (fun k=>k=gw) B where
 call:=fun s w b t d D hI hJ hN=>chkc_any B gw hB s w b t d D hI hN
 enter:=enters_of Tryz.func43 (by kernel_rfl) rfl
 keeps:=fun s w w' hI hb=>⟨(hb.block gw (block_lt hI.1)).trans hI.1,Nat.le_trans hI.2 hb.size⟩
 room:=fun s w hI=>⟨hI.2,fun k hk=>by subst hk;exact ⟨hB,block_lt hI.1⟩⟩
 first:=fun s d t u hJ hu _=>by
  have:u.deep<t.deep:=by
   rcases hu with hu | hu
   ·exact Tr.key_deep hu
   ·exact Tr.kid_deep hu
  exact ⟨by omega,by omega⟩
 more:=fun s d u t' d' hJ _=>hJ
set_option maxHeartbeats 2000000 in
theorem chkd_any(p:Tr→Bool)(hp:∀ t:Tr,p t=true ↔ t.keys.Nodup)(B:Nat)(w:World)(b:Nb)(t:Tr)(d D:Nat)(hN:NdS (· < B) D w b t) :
  Calls Tryz.prog 45 (#[.agg b.arr, .int .i64 d]++#[]) w fun e w'=>e = .returned (.bool (p t))∧Below w.heap.size w w':=by
 show Calls Tryz.prog 45 #[.agg b.arr, .int .i64 d] w _
 cases D with
 | zero=>exact absurd hN id
 | succ D =>
  have hal:=alloc_below w (.cells b.arr 26)
  obtain ⟨a0,a1,a2,a3,a4,a5,a6,a7,a8⟩:=(nbox_new w b).fields
  have kT:=gtwice_any b.ak b.lk b.ck t.keys (w.alloc (.cells b.arr 26)) ((hN.nd.kept hal).2.2.2.1) (!p t) (by rw [←hp t];simp)
  have hal':Hid (Below w.heap.size w (w.alloc (.cells b.arr 26))):=hal
  generalize p t=v at *
  clear hal hN hp
  cases v with
  | false =>
   go_enter Tryz.func45,Tryz.ntmps45
   go_wp2_with (go_at_call 46;refine kT.mono ?_;rintro e w2 ⟨rfl,hb2⟩)
   go_ret
   exact ⟨rfl,hal'.out.trans (hb2.mono hal'.out.size)⟩
  | true =>
   go_enter Tryz.func45,Tryz.ntmps45
   go_wp2_with (go_at_call 46;refine kT.mono ?_;rintro e w2 ⟨rfl,hb2⟩)
   go_ret
   exact ⟨rfl,hal'.out.trans (hb2.mono hal'.out.size)⟩
theorem takes_twc(p:Tr→Bool)(hp:∀ t:Tr,p t=true ↔ t.keys.Nodup)(B:Nat):Takes 45 #[] Unit (Tr.twc p) (fun _ w=>B≤w.heap.size) (fun _ d t=>d+t.deep≤100) (fun _=>False) B where
 call:=fun s w b t d D hI hJ hN=>(chkd_any p hp B w b t d D hN).mono fun e w' ⟨h1,h2⟩=>⟨h1,Nat.le_trans hI h2.size,Kp.of h2⟩
 enter:=enters_of Tryz.func45 (by kernel_rfl) rfl
 keeps:=fun s w w' hI hb=>Nat.le_trans hI hb.size
 room:=fun s w hI=>⟨hI,fun k hk=>hk.elim⟩
 first:=fun s d t u hJ hu _=>by
  have:u.deep<t.deep:=by
   rcases hu with hu | hu
   ·exact Tr.key_deep hu
   ·exact Tr.kid_deep hu
  exact ⟨by omega,by omega⟩
 more:=fun s d u t' d' hJ _=>hJ
set_option maxHeartbeats 4000000 in
set_option maxRecDepth 100000 in
theorem gcheck_any{D:Nat}{t:Tr}{b:Nb}{w:World}(hN:Nd D w b t):Calls Tryz.prog 19 #[.agg b.arr] w fun e w'=>(∃ er,e = .returned (.int .i64 er)∧Tr.ChkIs alF t er)∧Below w.heap.size w w':=by
 have hal:=alloc_below w (.cells b.arr 26)
 have Q0:Hid (NBox (w.alloc (.cells b.arr 26)) w.heap.size b):=nbox_new w b
 have B0:Hid (Below w.heap.size w (w.alloc (.cells b.arr 26))):=hal
 obtain ⟨a0,a1,a2,a3,a4,a5,a6,a7,a8⟩:=(nbox_new w b).fields
 have kM:=meas_any (hN.kept hal)
 have hN':Hid (Nd D w b t):=hN
 clear hal hN
 by_cases hs:t.size≤1024
 ·have hm : t.mes = (t.size, t.deep) := if_pos hs
  rw [hm] at kM
  have hs1:decide ((1024:Int)<((t.size:Nat):Int))=false:=by simp;omega
  have hs':Hid (t.size≤1024):=hs
  clear hm hs
  by_cases hd:t.deep≤24
  ·have hd1 : decide ((24 : Int) < ((t.deep : Nat) : Int)) = false := by simp; omega
   have hd':Hid (t.deep≤24):=hd
   clear hd
   obtain ⟨p,hp⟩:∃ p:Tr→Bool,∀ t:Tr,p t=true ↔ t.keys.Nodup:=⟨fun t=>@decide t.keys.Nodup (Classical.propDecidable _),fun t=>by simp⟩
   have kE:Hid (∀ w2,Below w.heap.size w w2→Calls Tryz.prog 42 #[.agg b.arr, .int .i64 1, .func (.func 43) #[] #[.pointer (some ⟨w2.heap.size,0,none⟩)]] (w2.alloc (.cells #[.int .i64 0] 28)) fun e w'=>e = .returned (.bool (Tr.go (Tr.flt alF) (t.seq 1) 0).1)∧w'.heap[w2.heap.size]? = some (.cells #[.int .i64 (t.forms alF)] 28 (0,0))∧Below w2.heap.size (w2.alloc (.cells #[.int .i64 0] 28)) w'):=fun w2 hb=>by
    have hb2:=alloc_below w2 (.cells #[.int .i64 0] 28)
    have h:=each_any (takes_flt (B:=w2.heap.size) (gw:=w2.heap.size) (Nat.le_refl _)) D t 1 b 0 (w2.alloc (.cells #[.int .i64 0] 28)) ((hN'.out.kept hb).all.below hb2 fun k hk=>hk) ⟨heap_alloc_new w2 _,hb2.size⟩ (by have:=hd'.out;omega)
    refine h.mono fun e w' ⟨h1,h2,h3⟩=>⟨h1,?_,h3.below hb2.size (fun k hk=>Nat.le_of_eq hk.symm)⟩
    rw [Tr.flt_all alF_shaped] at h2
    exact h2.1
   have kT:Hid (∀ w2,Below w.heap.size w w2→Calls Tryz.prog 42 #[.agg b.arr, .int .i64 1, .func (.func 45) #[] #[]] w2 fun e w'=>e = .returned (.bool (Tr.go (Tr.twc p) (t.seq 1) ()).1)∧Below w2.heap.size w2 w'):=fun w2 hb=>by
    have h:=each_any (takes_twc p hp w2.heap.size) D t 1 b () w2 (hN'.out.kept hb).all (Nat.le_refl _) (by have:=hd'.out;omega)
    exact h.mono fun e w' ⟨h1,h2,h3⟩=>⟨h1,h3.none⟩
   have hT:Hid ((Tr.go (Tr.twc p) (t.seq 1) ()).1=true ↔ t.All (fun u=>u.keys.Nodup)):=by
    show _ ↔ _
    rw [Tr.twc_all]
    have:(fun u:Tr=>p u=true)=fun u=>u.keys.Nodup:=funext fun u=>propext (hp u)
    rw [this]
   generalize (Tr.go (Tr.flt alF) (t.seq 1) 0).1=R0 at *
   generalize (Tr.go (Tr.twc p) (t.seq 1) ()).1=R1 at *
   have hF:Hid (∃ A,t.forms alF=A):=⟨_,rfl⟩
   obtain ⟨A,hA⟩:=hF.out
   rw [hA] at kE
   have hA':Hid (t.forms alF=A):=hA
   clear hF hA hp
   generalize t.size=S at kM hs1
   generalize t.deep=E at kM hd1
   by_cases hz:A=0
   ·subst hz
    cases R1 with
    | true =>
     go_enter Tryz.func19,Tryz.ntmps19
     go_wp2_with (first
      | (go_at_call 41;refine kM.mono ?_;rintro e w2 ⟨rfl,hb2⟩;clear a0 a1 a2 a3 a4 a5 a6 a7 a8;have Q2:=Q0.out.kept hb2 Q0.out.lt;have Q3:=Q2.kept (alloc_below w2 (.cells #[.int .i64 0] 28)) Q2.lt;obtain ⟨a0,a1,a2,a3,a4,a5,a6,a7,a8⟩:=Q3.fields;have B2:=B0.out.trans (hb2.mono B0.out.size);have k2:=kE.out w2 B2)
      | (go_at_call 42;refine k2.mono ?_;rintro e w4 ⟨rfl,hw4,hb4⟩;clear k2 a0 a1 a2 a3 a4 a5 a6 a7 a8;have c4:=cell_of_one hw4;have Q4:=Q3.kept hb4 Q2.lt;obtain ⟨a0,a1,a2,a3,a4,a5,a6,a7,a8⟩:=Q4.fields;have B4:=B2.trans (((alloc_below w2 (.cells #[.int .i64 0] 28)).trans hb4).mono B2.size);have k3:=kT.out w4 B4)
      | (go_at_call 42;refine k3.mono ?_;rintro e w5 ⟨rfl,hb5⟩))
     go_ret
     exact ⟨⟨0,rfl, .inr (.inr (.inr (.inr ⟨hs'.out,hd'.out,hA'.out,(by simpa using hT.out),rfl⟩)))⟩,B4.trans (hb5.mono B4.size)⟩
    | false =>
     go_enter Tryz.func19,Tryz.ntmps19
     go_wp2_with (first
      | (go_at_call 41;refine kM.mono ?_;rintro e w2 ⟨rfl,hb2⟩;clear a0 a1 a2 a3 a4 a5 a6 a7 a8;have Q2:=Q0.out.kept hb2 Q0.out.lt;have Q3:=Q2.kept (alloc_below w2 (.cells #[.int .i64 0] 28)) Q2.lt;obtain ⟨a0,a1,a2,a3,a4,a5,a6,a7,a8⟩:=Q3.fields;have B2:=B0.out.trans (hb2.mono B0.out.size);have k2:=kE.out w2 B2)
      | (go_at_call 42;refine k2.mono ?_;rintro e w4 ⟨rfl,hw4,hb4⟩;clear k2 a0 a1 a2 a3 a4 a5 a6 a7 a8;have c4:=cell_of_one hw4;have Q4:=Q3.kept hb4 Q2.lt;obtain ⟨a0,a1,a2,a3,a4,a5,a6,a7,a8⟩:=Q4.fields;have B4:=B2.trans (((alloc_below w2 (.cells #[.int .i64 0] 28)).trans hb4).mono B2.size);have k3:=kT.out w4 B4)
      | (go_at_call 42;refine k3.mono ?_;rintro e w5 ⟨rfl,hb5⟩))
     go_ret
     exact ⟨⟨9,rfl, .inr (.inr (.inr (.inl ⟨hs'.out,hd'.out,hA'.out,(by simpa using hT.out),rfl⟩)))⟩,B4.trans (hb5.mono B4.size)⟩
   ·have hz1 : (A != 0) = true := by simp [hz]
    have hz2:(A==0)=false:=by simp [hz]
    have hz':Hid (A≠0):=hz
    clear hz
    go_enter Tryz.func19,Tryz.ntmps19
    go_wp2_with (first
     | (go_at_call 41;refine kM.mono ?_;rintro e w2 ⟨rfl,hb2⟩;clear a0 a1 a2 a3 a4 a5 a6 a7 a8;have Q2:=Q0.out.kept hb2 Q0.out.lt;have Q3:=Q2.kept (alloc_below w2 (.cells #[.int .i64 0] 28)) Q2.lt;obtain ⟨a0,a1,a2,a3,a4,a5,a6,a7,a8⟩:=Q3.fields;have B2:=B0.out.trans (hb2.mono B0.out.size);have k2:=kE.out w2 B2)
     | (go_at_call 42;refine k2.mono ?_;rintro e w4 ⟨rfl,hw4,hb4⟩;clear k2 a0 a1 a2 a3 a4 a5 a6 a7 a8;have c4:=cell_of_one hw4;have B4:=B2.trans (((alloc_below w2 (.cells #[.int .i64 0] 28)).trans hb4).mono B2.size)))
    go_ret
    exact ⟨⟨A,rfl, .inr (.inr (.inl ⟨hs'.out,hd'.out,by rw [hA'.out];exact hz'.out,hA'.out.symm⟩))⟩,B4⟩
  ·have hd1 : decide ((24 : Int) < ((t.deep : Nat) : Int)) = true := by simp; omega
   have hd':Hid (24<t.deep):=by show _<_;omega
   clear hd
   generalize t.size=S at kM hs1
   generalize t.deep=E at kM hd1
   go_enter Tryz.func19,Tryz.ntmps19
   go_wp2_with (go_at_call 41;refine kM.mono ?_;rintro e w2 ⟨rfl,hb2⟩)
   go_ret
   exact ⟨⟨7,rfl, .inr (.inl ⟨hs'.out,hd'.out,rfl⟩)⟩,B0.out.trans (hb2.mono B0.out.size)⟩
 ·have hm : t.mes = (1025, 1025) := if_neg hs
  rw [hm] at kM
  have hs':Hid (1024<t.size):=by show _<_;omega
  clear hm hs
  go_enter Tryz.func19,Tryz.ntmps19
  go_wp2_with (go_at_call 41;refine kM.mono ?_;rintro e w2 ⟨rfl,hb2⟩)
  go_ret
  exact ⟨⟨8,rfl, .inl ⟨hs'.out,rfl⟩⟩,B0.out.trans (hb2.mono B0.out.size)⟩
end Go.Proofs.YtejlaiofpekchaaGreatDoor
namespace Go.Proofs.YtejlaiofpekchaaGreatDoor
open Go.RowKit
set_option linter.unusedVariables false
theorem nd_low:∀ (D e:Nat) {w:World} {b:Nb} {t:Tr},Nd D w b t→t.deep≤e→Nd e w b t:=by
 intro D
 induction D with
 | zero=>intro e w b t h _;exact absurd h id
 | succ D ih =>
  intro e w b t h he
  cases e with
  | zero=>rw [Tr.deep_eq] at he;omega
  | succ e =>
   obtain ⟨h0,h1,h2,h3,h4⟩:=h
   exact ⟨h0,h1,h2,h3.mono fun _ u hu q=>ih e q (by have:=Tr.key_deep hu;omega),h4.mono fun _ u hu q=>ih e q (by have:=Tr.kid_deep hu;omega)⟩
theorem chk_is{t:Tr}{er:Int}(h:Tr.ChkIs alF t er):er=0 ↔ t.May (fun u=>alF u=0) :=
 ⟨fun e=>(Tr.chk_may alF_shaped).1 (by rw [e] at h;exact h),fun e=>Tr.chk_one h ((Tr.chk_may alF_shaped).2 e)⟩
set_option maxHeartbeats 8000000 in
set_option maxRecDepth 100000 in
theorem checked_no{D:Nat}{t:Tr}{b:Nb}{w:World}(hN:Nd D w b t)(hM:¬ t.May (fun u=>alF u=0)):Calls Tryz.prog 17 #[.agg b.arr] w fun e w'=>(∃ er:Int,e = .returned (.tuple #[.agg zN.arr, .int .i64 er])∧Tr.ChkIs alF t er∧er≠0)∧Below w.heap.size w w':=by
 obtain ⟨hN0,hR,hB,hS⟩:=boxes_new w b
 have hB':Hid (Below w.heap.size w _):=hB
 have hN':Hid (NBox _ w.heap.size b):=hN0
 have hR':Hid (NBox _ (w.heap.size+1) zN):=hR
 have hM':Hid (¬ t.May (fun u=>alF u=0)):=hM
 have kG:=gcheck_any (hN.kept hB)
 have hr:Hid (w.heap.size<w.heap.size+1):=Nat.lt_succ_self _
 obtain ⟨a0,a1,a2,a3,a4,a5,a6,a7,a8⟩:=hN0.fields
 clear hB hS hM hN hN0 hR
 go_enter Tryz.func17,Tryz.ntmps17
 go_upto_region 1 with fail
 generalize ((w.alloc (.cells b.arr 26)).alloc (.cells #[.int .i64 0, .int .u64 0, .bool false, .string ⟨#[]⟩, .int .i64 0, .string ⟨#[]⟩, .slice none 0 0, .slice none 0 0, .slice none 0 0] 26))=W at *
 generalize w.heap.size+1=r at *
 go_wp2_with (go_at_call 19;refine kG.mono ?_;rintro e x1 ⟨⟨er,rfl,hE⟩,hb1⟩;have hE':Hid (Tr.ChkIs alF t er):=hE;have ge:(er != 0)=true:=(by simp only [bne_iff_ne,ne_eq];exact fun q=>hM'.out ((chk_is hE).1 q));have b1:Hid (Below w.heap.size w x1):=hB'.out.trans (hb1.mono hB'.out.size);have R1:Hid (NBox x1 r zN):=hR'.out.kept hb1 hR'.out.lt;clear a0 a1 a2 a3 a4 a5 a6 a7 a8 hb1 hE kG hR' hN' hB';obtain ⟨m0,m1,m2,m3,m4,m5,m6,m7,m8⟩:=R1.out.fields;have z0:=R1.out.fz 0;have z1:=R1.out.fz 1;have z2:=R1.out.fz 2;have z3:=R1.out.fz 3;have z4:=R1.out.fz 4;have z5:=R1.out.fz 5;have z6:=R1.out.fz 6;have z7:=R1.out.fz 7;have z8:=R1.out.fz 8)
 have hk:=nine_kp (b:=zN) R1.out
 obtain ⟨y0,y1,y2,y3,y4,y5,y6,y7,y8⟩:=hk.1.fields
 have hb2:=b1.out.trans (hk.2.below b1.out.size fun k e=>by have:=hr.out;omega)
 have hne:er≠0:=by simpa using ge
 clear m0 m1 m2 m3 m4 m5 m6 m7 m8 z0 z1 z2 z3 z4 z5 z6 z7 z8 hk
 simp only [zN] at y0 y1 y2 y3 y4 y5 y6 y7 y8 hb2
 refine bodyPost_ret (v := .tuple #[.agg zN.arr, .int .i64 er]) (by simp [results,Tryz.results17,go_sem,Nb.arr,zN,y0,y1,y2,y3,y4,y5,y6,y7,y8]) rfl ⟨⟨er,rfl,hE'.out,hne⟩,hb2⟩
set_option maxHeartbeats 8000000 in
set_option maxRecDepth 100000 in
theorem checked_yes{D:Nat}{t:Tr}{b:Nb}{w:World}(hN:Nd D w b t)(hM:t.May (fun u=>alF u=0)):Calls Tryz.prog 17 #[.agg b.arr] w fun e w'=>(∃ (b':Nb) (f:List Nat),e = .returned (.tuple #[.agg b'.arr, .int .i64 0])∧Fresh w.heap.size 24 w' b' t f)∧Below w.heap.size w w':=by
 obtain ⟨hN0,hR,hB,hS⟩:=boxes_new w b
 have hB':Hid (Below w.heap.size w _):=hB
 have hN':Hid (NBox _ w.heap.size b):=hN0
 have hR':Hid (NBox _ (w.heap.size+1) zN):=hR
 have hM':Hid (t.May (fun u=>alF u=0)):=hM
 have kG:=gcheck_any (hN.kept hB)
 have hNd:Hid (Nd 24 w b t):=nd_low D 24 hN hM.2.1
 have hr:Hid (w.heap.size<w.heap.size+1):=Nat.lt_succ_self _
 have kA:Hid (∀ x,Below w.heap.size w x→Calls Tryz.prog 33 #[.agg b.arr, .slice none 0 0] x fun e w'=>(∃ (b':Nb) (f:List Nat),e = .returned (.tuple #[.agg #[.int .i64 b'.kind, .int .u64 b'.num, .bool b'.neg, .string b'.dig, .int .i64 b'.exp, .string b'.txt, .slice b'.ab b'.lb b'.cb, .slice b'.ak b'.lk b'.ck, .slice b'.ai b'.li b'.ci], .int .i64 0])∧Fresh x.heap.size 24 w' b' t f)∧Below x.heap.size x w'):=fun x hx=>(gat_any (hNd.out.kept hx) (pa:=none) (np:=0) (cp:=0) (ps:=[]) ⟨rfl,(pth_nil x).ints,Nat.le_refl _,by simp,by omega⟩).mono (by
  rintro e w' ⟨⟨b',er,rfl,h⟩,hb⟩
  rcases h with ⟨h,_⟩ | ⟨_,h,_⟩ | ⟨_,rfl,u,f,h,hf⟩
  ·have:=hM'.out.1;omega
  ·cases h
  ·cases h;exact ⟨⟨b',f,rfl,hf⟩,hb⟩)
 obtain ⟨a0,a1,a2,a3,a4,a5,a6,a7,a8⟩:=hN0.fields
 clear hB hS hM hN hN0 hR hNd
 go_enter Tryz.func17,Tryz.ntmps17
 go_upto_region 1 with fail
 generalize ((w.alloc (.cells b.arr 26)).alloc (.cells #[.int .i64 0, .int .u64 0, .bool false, .string ⟨#[]⟩, .int .i64 0, .string ⟨#[]⟩, .slice none 0 0, .slice none 0 0, .slice none 0 0] 26))=W at *
 generalize w.heap.size+1=r at *
 go_wp2_with (first
  | (go_at_call 19;refine kG.mono ?_;rintro e x1 ⟨⟨er,rfl,hE⟩,hb1⟩;have he0:=(chk_is hE).2 hM'.out;subst he0;have b1:Hid (Below w.heap.size w x1):=hB'.out.trans (hb1.mono hB'.out.size);have R1:Hid (NBox x1 r zN):=hR'.out.kept hb1 hR'.out.lt;have N1:Hid (NBox x1 w.heap.size b):=hN'.out.kept hb1 hN'.out.lt;clear a0 a1 a2 a3 a4 a5 a6 a7 a8 hb1 hE kG hR' hN' hB';obtain ⟨a0,a1,a2,a3,a4,a5,a6,a7,a8⟩:=N1.out.fields)
  | (go_at_call 33;refine (kA.out _ b1.out).mono ?_;rintro e x2 ⟨⟨b',f,rfl,hf⟩,hb2⟩;have hF:Hid (Fresh x1.heap.size 24 x2 b' t f):=hf;have b2:Hid (Below x1.heap.size x1 x2):=hb2;have R2:Hid (NBox x2 r zN):=R1.out.kept hb2 R1.out.lt;have hr1:Hid (r<x1.heap.size):=R1.out.lt;clear a0 a1 a2 a3 a4 a5 a6 a7 a8 hf hb2 R1 N1 kA;obtain ⟨m0,m1,m2,m3,m4,m5,m6,m7,m8⟩:=R2.out.fields;have z0:=R2.out.fz 0;have z1:=R2.out.fz 1;have z2:=R2.out.fz 2;have z3:=R2.out.fz 3;have z4:=R2.out.fz 4;have z5:=R2.out.fz 5;have z6:=R2.out.fz 6;have z7:=R2.out.fz 7;have z8:=R2.out.fz 8))
 have hk:=nine_kp (b:=b') R2.out
 obtain ⟨y0,y1,y2,y3,y4,y5,y6,y7,y8⟩:=hk.1.fields
 have hb3:Below w.heap.size w x2:=b1.out.trans (b2.out.mono b1.out.size)
 have hb4:=hb3.trans (hk.2.below hb3.size fun k e=>by have:=hr.out;omega)
 have hF2:=(hF.out.kp hk.2 (fun k e=>by have:=hr1.out;omega)).base b1.out.size
 clear m0 m1 m2 m3 m4 m5 m6 m7 m8 z0 z1 z2 z3 z4 z5 z6 z7 z8 hk
 refine bodyPost_ret (v := .tuple #[.agg b'.arr, .int .i64 0]) (by simp [results,Tryz.results17,go_sem,Nb.arr,y0,y1,y2,y3,y4,y5,y6,y7,y8]) rfl ⟨⟨b',f,rfl,hF2⟩,hb4⟩
end Go.Proofs.YtejlaiofpekchaaGreatDoor
