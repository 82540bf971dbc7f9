/-
  When the document says that trees are the same: they differ in a field, or in how many nodes are in them.
  When the document says that trees are the same: their fields are the same.
  When the document says that trees are the same: put together.
  The document's Few, Size, Deep, Same, and both.
  The bytes 1, 255: told and given back: what that is, plainly.
  The bytes 1, 255: told and given back: the program is alive.
-/
import Derived.Test.YtejlaiofpekchaaGreatDoorC24
import Derived.Test.YtejlaiofpekchaaGreatDoorC2
import Derived.Test.YtejlaiofpekchaaGreatDoorC3
namespace Go.Proofs.YtejlaiofpekchaaGreatDoor
open Go.RowKit
set_option linter.unusedVariables false
set_option maxHeartbeats 2000000 in
set_option maxRecDepth 100000 in
theorem es_no5{D:Nat}(t u:Tr)(a b:Nb)(w:World)(v:Bool)(hA:Nd (D+1) w a t)(hB:Nd (D+1) w b u)(hv:v=true ↔ t=u)(h0:a.kind=b.kind)(h1:a.num=b.num)(h2:a.neg=b.neg)(h3:a.dig=b.dig)(h4:a.exp=b.exp)(h5:¬ a.txt=b.txt):Calls Tryz.prog 23 #[.agg a.arr, .agg b.arr] w fun e w'=>e = .returned (.bool v)∧Below w.heap.size w w':=by
 have T0:Hid (Bo2 w ((w.alloc (.cells a.arr 26)).alloc (.cells b.arr 26)) a b):=bo2_new w a b
 obtain ⟨a0,a1,a2,a3,a4,a5,a6,a7,a8⟩:=T0.out.one.fields
 obtain ⟨b0,b1,b2,b3,b4,b5,b6,b7,b8⟩:=T0.out.two.fields
 obtain ⟨⟨x0,x1,x2,x3,x4,x5⟩,_,⟨xl,xr,xb⟩,xk,xi⟩:=hA
 obtain ⟨⟨y0,y1,y2,y3,y4,y5⟩,_,⟨yl,yr,yb⟩,yk,yi⟩:=hB
 have cx:=conv_str (xb.kept ((alloc_below w (.cells a.arr 26)).trans ((alloc_below (w.alloc (.cells a.arr 26)) (.cells b.arr 26)).mono (Nat.le_of_lt (alloc_lt _ _))))) a.lb a.cb xl
 have cy:=conv_str (yb.kept ((alloc_below w (.cells a.arr 26)).trans ((alloc_below (w.alloc (.cells a.arr 26)) (.cells b.arr 26)).mono (Nat.le_of_lt (alloc_lt _ _))))) b.lb b.cb yl
 have hst:=str_eq xb.1 yb.1
 have hEq:Hid (t=u ↔ a.kind=b.kind∧a.num=b.num∧a.neg=b.neg∧a.dig=b.dig∧a.exp=b.exp∧a.txt=b.txt∧t.bytes=u.bytes∧t.keys=u.keys∧t.kids=u.kids):=by
  show _ ↔ _
  rw [x0,x1,x2,x3,x4,x5,y0,y1,y2,y3,y4,y5]
  exact ⟨fun h=>by subst h;exact ⟨rfl,rfl,rfl,rfl,rfl,rfl,rfl,rfl,rfl⟩,fun ⟨h0,h1,h2,h3,h4,h5,h6,h7,h8⟩=>Tr.mk_eq h0 h1 h2 h3 h4 h5 h6 h7 h8⟩
 have hV:Hid (v=true ↔ t=u):=hv
 have hAk:Hid (RowN (Nd D w) w a.ak a.lk a.ck t.keys):=xk
 have hAi:Hid (RowN (Nd D w) w a.ai a.li a.ci t.kids):=xi
 have hBk:Hid (RowN (Nd D w) w b.ak b.lk b.ck u.keys):=yk
 have hBi:Hid (RowN (Nd D w) w b.ai b.li b.ci u.kids):=yi
 have hxk:Hid (t.keys.length=a.lk):=xk.1
 have hxi:Hid (t.kids.length=a.li):=xi.1
 have hyk:Hid (u.keys.length=b.lk):=yk.1
 have hyi:Hid (u.kids.length=b.li):=yi.1
 have m1:=xk.2.1.1
 have m2:=xk.2.1.2.1
 have m3:=xi.2.1.1
 have m4:=xi.2.1.2.1
 have m5:=yk.2.1.1
 have m6:=yk.2.1.2.1
 have m7:=yi.2.1.1
 have m8:=yi.2.1.2.1
 unfold maxLen at m2 m4 m6 m8
 generalize strOfNums t.bytes=SX at *
 generalize strOfNums u.bytes=SY at *
 clear x0 x1 x2 x3 x4 x5 y0 y1 y2 y3 y4 y5 xl yl xb yb xr yr xk xi yk yi hv
 have hvf:v=false:=not_true hV.out (fun h=>h5 (hEq.out.1 h).2.2.2.2.2.1)
 subst hvf
 have q0:(a.kind==b.kind)=true:=by rw [h0];exact beq_self_eq_true _
 have r0:(a.kind != b.kind)=false:=by simp [h0]
 have q1:(a.num==b.num)=true:=by rw [h1];exact beq_self_eq_true _
 have r1:(a.num != b.num)=false:=by simp [h1]
 have q2:(a.neg==b.neg)=true:=by rw [h2];exact beq_self_eq_true _
 have r2:(a.neg != b.neg)=false:=by simp [h2]
 have q3:=beq_of (s:=a.dig) (t:=b.dig) true (by simp [h3])
 have r3:(a.dig.toList != b.dig.toList)=false:=by simp [bne,q3]
 have q4:(a.exp==b.exp)=true:=by rw [h4];exact beq_self_eq_true _
 have r4:(a.exp != b.exp)=false:=by simp [h4]
 have q5:=beq_of (s:=a.txt) (t:=b.txt) false (by simp [h5])
 have r5:(a.txt.toList != b.txt.toList)=true:=by simp [bne,q5]
 clear h0 h1 h2 h3 h4 h5 hAk hAi hBk hBi hxk hxi hyk hyi hEq hV
 clear cx cy hst
 go_enter Tryz.func23,Tryz.ntmps23
 go_wp2
 go_ret
 exact ⟨rfl,T0.out.bel⟩
set_option maxHeartbeats 2000000 in
set_option maxRecDepth 100000 in
theorem es_no6{D:Nat}(t u:Tr)(a b:Nb)(w:World)(v:Bool)(hA:Nd (D+1) w a t)(hB:Nd (D+1) w b u)(hv:v=true ↔ t=u)(h0:a.kind=b.kind)(h1:a.num=b.num)(h2:a.neg=b.neg)(h3:a.dig=b.dig)(h4:a.exp=b.exp)(h5:a.txt=b.txt)(h6:¬ t.bytes=u.bytes):Calls Tryz.prog 23 #[.agg a.arr, .agg b.arr] w fun e w'=>e = .returned (.bool v)∧Below w.heap.size w w':=by
 have T0:Hid (Bo2 w ((w.alloc (.cells a.arr 26)).alloc (.cells b.arr 26)) a b):=bo2_new w a b
 obtain ⟨a0,a1,a2,a3,a4,a5,a6,a7,a8⟩:=T0.out.one.fields
 obtain ⟨b0,b1,b2,b3,b4,b5,b6,b7,b8⟩:=T0.out.two.fields
 obtain ⟨⟨x0,x1,x2,x3,x4,x5⟩,_,⟨xl,xr,xb⟩,xk,xi⟩:=hA
 obtain ⟨⟨y0,y1,y2,y3,y4,y5⟩,_,⟨yl,yr,yb⟩,yk,yi⟩:=hB
 have cx:=conv_str (xb.kept ((alloc_below w (.cells a.arr 26)).trans ((alloc_below (w.alloc (.cells a.arr 26)) (.cells b.arr 26)).mono (Nat.le_of_lt (alloc_lt _ _))))) a.lb a.cb xl
 have cy:=conv_str (yb.kept ((alloc_below w (.cells a.arr 26)).trans ((alloc_below (w.alloc (.cells a.arr 26)) (.cells b.arr 26)).mono (Nat.le_of_lt (alloc_lt _ _))))) b.lb b.cb yl
 have hst:=str_eq xb.1 yb.1
 have hEq:Hid (t=u ↔ a.kind=b.kind∧a.num=b.num∧a.neg=b.neg∧a.dig=b.dig∧a.exp=b.exp∧a.txt=b.txt∧t.bytes=u.bytes∧t.keys=u.keys∧t.kids=u.kids):=by
  show _ ↔ _
  rw [x0,x1,x2,x3,x4,x5,y0,y1,y2,y3,y4,y5]
  exact ⟨fun h=>by subst h;exact ⟨rfl,rfl,rfl,rfl,rfl,rfl,rfl,rfl,rfl⟩,fun ⟨h0,h1,h2,h3,h4,h5,h6,h7,h8⟩=>Tr.mk_eq h0 h1 h2 h3 h4 h5 h6 h7 h8⟩
 have hV:Hid (v=true ↔ t=u):=hv
 have hAk:Hid (RowN (Nd D w) w a.ak a.lk a.ck t.keys):=xk
 have hAi:Hid (RowN (Nd D w) w a.ai a.li a.ci t.kids):=xi
 have hBk:Hid (RowN (Nd D w) w b.ak b.lk b.ck u.keys):=yk
 have hBi:Hid (RowN (Nd D w) w b.ai b.li b.ci u.kids):=yi
 have hxk:Hid (t.keys.length=a.lk):=xk.1
 have hxi:Hid (t.kids.length=a.li):=xi.1
 have hyk:Hid (u.keys.length=b.lk):=yk.1
 have hyi:Hid (u.kids.length=b.li):=yi.1
 have m1:=xk.2.1.1
 have m2:=xk.2.1.2.1
 have m3:=xi.2.1.1
 have m4:=xi.2.1.2.1
 have m5:=yk.2.1.1
 have m6:=yk.2.1.2.1
 have m7:=yi.2.1.1
 have m8:=yi.2.1.2.1
 unfold maxLen at m2 m4 m6 m8
 generalize strOfNums t.bytes=SX at *
 generalize strOfNums u.bytes=SY at *
 clear x0 x1 x2 x3 x4 x5 y0 y1 y2 y3 y4 y5 xl yl xb yb xr yr xk xi yk yi hv
 have hvf:v=false:=not_true hV.out (fun h=>h6 (hEq.out.1 h).2.2.2.2.2.2.1)
 subst hvf
 have q0:(a.kind==b.kind)=true:=by rw [h0];exact beq_self_eq_true _
 have r0:(a.kind != b.kind)=false:=by simp [h0]
 have q1:(a.num==b.num)=true:=by rw [h1];exact beq_self_eq_true _
 have r1:(a.num != b.num)=false:=by simp [h1]
 have q2:(a.neg==b.neg)=true:=by rw [h2];exact beq_self_eq_true _
 have r2:(a.neg != b.neg)=false:=by simp [h2]
 have q3:=beq_of (s:=a.dig) (t:=b.dig) true (by simp [h3])
 have r3:(a.dig.toList != b.dig.toList)=false:=by simp [bne,q3]
 have q4:(a.exp==b.exp)=true:=by rw [h4];exact beq_self_eq_true _
 have r4:(a.exp != b.exp)=false:=by simp [h4]
 have q5:=beq_of (s:=a.txt) (t:=b.txt) true (by simp [h5])
 have r5:(a.txt.toList != b.txt.toList)=false:=by simp [bne,q5]
 rw [decide_eq_false h6] at hst
 have r6:(SX.toList != SY.toList)=true:=by simp [bne,hst]
 clear h0 h1 h2 h3 h4 h5 h6 hAk hAi hBk hBi hxk hxi hyk hyi hEq hV
 go_enter Tryz.func23,Tryz.ntmps23
 go_wp2
 go_ret
 exact ⟨rfl,T0.out.bel⟩
set_option maxHeartbeats 2000000 in
set_option maxRecDepth 100000 in
theorem es_no7{D:Nat}(t u:Tr)(a b:Nb)(w:World)(v:Bool)(hA:Nd (D+1) w a t)(hB:Nd (D+1) w b u)(hv:v=true ↔ t=u)(h0:a.kind=b.kind)(h1:a.num=b.num)(h2:a.neg=b.neg)(h3:a.dig=b.dig)(h4:a.exp=b.exp)(h5:a.txt=b.txt)(h6:t.bytes=u.bytes)(h7:¬ a.lk=b.lk):Calls Tryz.prog 23 #[.agg a.arr, .agg b.arr] w fun e w'=>e = .returned (.bool v)∧Below w.heap.size w w':=by
 have T0:Hid (Bo2 w ((w.alloc (.cells a.arr 26)).alloc (.cells b.arr 26)) a b):=bo2_new w a b
 obtain ⟨a0,a1,a2,a3,a4,a5,a6,a7,a8⟩:=T0.out.one.fields
 obtain ⟨b0,b1,b2,b3,b4,b5,b6,b7,b8⟩:=T0.out.two.fields
 obtain ⟨⟨x0,x1,x2,x3,x4,x5⟩,_,⟨xl,xr,xb⟩,xk,xi⟩:=hA
 obtain ⟨⟨y0,y1,y2,y3,y4,y5⟩,_,⟨yl,yr,yb⟩,yk,yi⟩:=hB
 have cx:=conv_str (xb.kept ((alloc_below w (.cells a.arr 26)).trans ((alloc_below (w.alloc (.cells a.arr 26)) (.cells b.arr 26)).mono (Nat.le_of_lt (alloc_lt _ _))))) a.lb a.cb xl
 have cy:=conv_str (yb.kept ((alloc_below w (.cells a.arr 26)).trans ((alloc_below (w.alloc (.cells a.arr 26)) (.cells b.arr 26)).mono (Nat.le_of_lt (alloc_lt _ _))))) b.lb b.cb yl
 have hst:=str_eq xb.1 yb.1
 have hEq:Hid (t=u ↔ a.kind=b.kind∧a.num=b.num∧a.neg=b.neg∧a.dig=b.dig∧a.exp=b.exp∧a.txt=b.txt∧t.bytes=u.bytes∧t.keys=u.keys∧t.kids=u.kids):=by
  show _ ↔ _
  rw [x0,x1,x2,x3,x4,x5,y0,y1,y2,y3,y4,y5]
  exact ⟨fun h=>by subst h;exact ⟨rfl,rfl,rfl,rfl,rfl,rfl,rfl,rfl,rfl⟩,fun ⟨h0,h1,h2,h3,h4,h5,h6,h7,h8⟩=>Tr.mk_eq h0 h1 h2 h3 h4 h5 h6 h7 h8⟩
 have hV:Hid (v=true ↔ t=u):=hv
 have hAk:Hid (RowN (Nd D w) w a.ak a.lk a.ck t.keys):=xk
 have hAi:Hid (RowN (Nd D w) w a.ai a.li a.ci t.kids):=xi
 have hBk:Hid (RowN (Nd D w) w b.ak b.lk b.ck u.keys):=yk
 have hBi:Hid (RowN (Nd D w) w b.ai b.li b.ci u.kids):=yi
 have hxk:Hid (t.keys.length=a.lk):=xk.1
 have hxi:Hid (t.kids.length=a.li):=xi.1
 have hyk:Hid (u.keys.length=b.lk):=yk.1
 have hyi:Hid (u.kids.length=b.li):=yi.1
 have m1:=xk.2.1.1
 have m2:=xk.2.1.2.1
 have m3:=xi.2.1.1
 have m4:=xi.2.1.2.1
 have m5:=yk.2.1.1
 have m6:=yk.2.1.2.1
 have m7:=yi.2.1.1
 have m8:=yi.2.1.2.1
 unfold maxLen at m2 m4 m6 m8
 generalize strOfNums t.bytes=SX at *
 generalize strOfNums u.bytes=SY at *
 clear x0 x1 x2 x3 x4 x5 y0 y1 y2 y3 y4 y5 xl yl xb yb xr yr xk xi yk yi hv
 have hvf:v=false:=not_true hV.out (fun h=>h7 (by have h9:=congrArg List.length (hEq.out.1 h).2.2.2.2.2.2.2.1;rw [hxk.out,hyk.out] at h9;exact h9))
 subst hvf
 have q0:(a.kind==b.kind)=true:=by rw [h0];exact beq_self_eq_true _
 have r0:(a.kind != b.kind)=false:=by simp [h0]
 have q1:(a.num==b.num)=true:=by rw [h1];exact beq_self_eq_true _
 have r1:(a.num != b.num)=false:=by simp [h1]
 have q2:(a.neg==b.neg)=true:=by rw [h2];exact beq_self_eq_true _
 have r2:(a.neg != b.neg)=false:=by simp [h2]
 have q3:=beq_of (s:=a.dig) (t:=b.dig) true (by simp [h3])
 have r3:(a.dig.toList != b.dig.toList)=false:=by simp [bne,q3]
 have q4:(a.exp==b.exp)=true:=by rw [h4];exact beq_self_eq_true _
 have r4:(a.exp != b.exp)=false:=by simp [h4]
 have q5:=beq_of (s:=a.txt) (t:=b.txt) true (by simp [h5])
 have r5:(a.txt.toList != b.txt.toList)=false:=by simp [bne,q5]
 rw [decide_eq_true h6] at hst
 have r6:(SX.toList != SY.toList)=false:=by simp [bne,hst]
 have r7:((a.lk:Int) != (b.lk:Int))=true:=by simp;omega
 clear h0 h1 h2 h3 h4 h5 h6 h7 hAk hAi hBk hBi hxk hxi hyk hyi hEq hV
 go_enter Tryz.func23,Tryz.ntmps23
 go_wp2
 go_ret
 exact ⟨rfl,T0.out.bel⟩
set_option maxHeartbeats 2000000 in
set_option maxRecDepth 100000 in
theorem es_no8{D:Nat}(t u:Tr)(a b:Nb)(w:World)(v:Bool)(hA:Nd (D+1) w a t)(hB:Nd (D+1) w b u)(hv:v=true ↔ t=u)(h0:a.kind=b.kind)(h1:a.num=b.num)(h2:a.neg=b.neg)(h3:a.dig=b.dig)(h4:a.exp=b.exp)(h5:a.txt=b.txt)(h6:t.bytes=u.bytes)(h7:a.lk=b.lk)(h8:¬ a.li=b.li):Calls Tryz.prog 23 #[.agg a.arr, .agg b.arr] w fun e w'=>e = .returned (.bool v)∧Below w.heap.size w w':=by
 have T0:Hid (Bo2 w ((w.alloc (.cells a.arr 26)).alloc (.cells b.arr 26)) a b):=bo2_new w a b
 obtain ⟨a0,a1,a2,a3,a4,a5,a6,a7,a8⟩:=T0.out.one.fields
 obtain ⟨b0,b1,b2,b3,b4,b5,b6,b7,b8⟩:=T0.out.two.fields
 obtain ⟨⟨x0,x1,x2,x3,x4,x5⟩,_,⟨xl,xr,xb⟩,xk,xi⟩:=hA
 obtain ⟨⟨y0,y1,y2,y3,y4,y5⟩,_,⟨yl,yr,yb⟩,yk,yi⟩:=hB
 have cx:=conv_str (xb.kept ((alloc_below w (.cells a.arr 26)).trans ((alloc_below (w.alloc (.cells a.arr 26)) (.cells b.arr 26)).mono (Nat.le_of_lt (alloc_lt _ _))))) a.lb a.cb xl
 have cy:=conv_str (yb.kept ((alloc_below w (.cells a.arr 26)).trans ((alloc_below (w.alloc (.cells a.arr 26)) (.cells b.arr 26)).mono (Nat.le_of_lt (alloc_lt _ _))))) b.lb b.cb yl
 have hst:=str_eq xb.1 yb.1
 have hEq:Hid (t=u ↔ a.kind=b.kind∧a.num=b.num∧a.neg=b.neg∧a.dig=b.dig∧a.exp=b.exp∧a.txt=b.txt∧t.bytes=u.bytes∧t.keys=u.keys∧t.kids=u.kids):=by
  show _ ↔ _
  rw [x0,x1,x2,x3,x4,x5,y0,y1,y2,y3,y4,y5]
  exact ⟨fun h=>by subst h;exact ⟨rfl,rfl,rfl,rfl,rfl,rfl,rfl,rfl,rfl⟩,fun ⟨h0,h1,h2,h3,h4,h5,h6,h7,h8⟩=>Tr.mk_eq h0 h1 h2 h3 h4 h5 h6 h7 h8⟩
 have hV:Hid (v=true ↔ t=u):=hv
 have hAk:Hid (RowN (Nd D w) w a.ak a.lk a.ck t.keys):=xk
 have hAi:Hid (RowN (Nd D w) w a.ai a.li a.ci t.kids):=xi
 have hBk:Hid (RowN (Nd D w) w b.ak b.lk b.ck u.keys):=yk
 have hBi:Hid (RowN (Nd D w) w b.ai b.li b.ci u.kids):=yi
 have hxk:Hid (t.keys.length=a.lk):=xk.1
 have hxi:Hid (t.kids.length=a.li):=xi.1
 have hyk:Hid (u.keys.length=b.lk):=yk.1
 have hyi:Hid (u.kids.length=b.li):=yi.1
 have m1:=xk.2.1.1
 have m2:=xk.2.1.2.1
 have m3:=xi.2.1.1
 have m4:=xi.2.1.2.1
 have m5:=yk.2.1.1
 have m6:=yk.2.1.2.1
 have m7:=yi.2.1.1
 have m8:=yi.2.1.2.1
 unfold maxLen at m2 m4 m6 m8
 generalize strOfNums t.bytes=SX at *
 generalize strOfNums u.bytes=SY at *
 clear x0 x1 x2 x3 x4 x5 y0 y1 y2 y3 y4 y5 xl yl xb yb xr yr xk xi yk yi hv
 have hvf:v=false:=not_true hV.out (fun h=>h8 (by have h9:=congrArg List.length (hEq.out.1 h).2.2.2.2.2.2.2.2;rw [hxi.out,hyi.out] at h9;exact h9))
 subst hvf
 have q0:(a.kind==b.kind)=true:=by rw [h0];exact beq_self_eq_true _
 have r0:(a.kind != b.kind)=false:=by simp [h0]
 have q1:(a.num==b.num)=true:=by rw [h1];exact beq_self_eq_true _
 have r1:(a.num != b.num)=false:=by simp [h1]
 have q2:(a.neg==b.neg)=true:=by rw [h2];exact beq_self_eq_true _
 have r2:(a.neg != b.neg)=false:=by simp [h2]
 have q3:=beq_of (s:=a.dig) (t:=b.dig) true (by simp [h3])
 have r3:(a.dig.toList != b.dig.toList)=false:=by simp [bne,q3]
 have q4:(a.exp==b.exp)=true:=by rw [h4];exact beq_self_eq_true _
 have r4:(a.exp != b.exp)=false:=by simp [h4]
 have q5:=beq_of (s:=a.txt) (t:=b.txt) true (by simp [h5])
 have r5:(a.txt.toList != b.txt.toList)=false:=by simp [bne,q5]
 rw [decide_eq_true h6] at hst
 have r6:(SX.toList != SY.toList)=false:=by simp [bne,hst]
 have r7:((a.lk:Int) != (b.lk:Int))=false:=by simp;omega
 have r8:((a.li:Int) != (b.li:Int))=true:=by simp;omega
 clear h0 h1 h2 h3 h4 h5 h6 h7 h8 hAk hAi hBk hBi hxk hxi hyk hyi hEq hV
 go_enter Tryz.func23,Tryz.ntmps23
 go_wp2
 go_ret
 exact ⟨rfl,T0.out.bel⟩
end Go.Proofs.YtejlaiofpekchaaGreatDoor
namespace Go.Proofs.YtejlaiofpekchaaGreatDoor
open Go.RowKit
set_option linter.unusedVariables false
set_option maxHeartbeats 8000000 in
set_option maxRecDepth 100000 in
theorem es_eq{D:Nat}(ih:EsAt D)(t u:Tr)(a b:Nb)(w:World)(v:Bool)(hA:Nd (D+1) w a t)(hB:Nd (D+1) w b u)(hv:v=true ↔ t=u)(h0:a.kind=b.kind)(h1:a.num=b.num)(h2:a.neg=b.neg)(h3:a.dig=b.dig)(h4:a.exp=b.exp)(h5:a.txt=b.txt)(h6:t.bytes=u.bytes)(h7:a.lk=b.lk)(h8:a.li=b.li):Calls Tryz.prog 23 #[.agg a.arr, .agg b.arr] w fun e w'=>e = .returned (.bool v)∧Below w.heap.size w w':=by
 have T0:Hid (Bo2 w ((w.alloc (.cells a.arr 26)).alloc (.cells b.arr 26)) a b):=bo2_new w a b
 obtain ⟨a0,a1,a2,a3,a4,a5,a6,a7,a8⟩:=T0.out.one.fields
 obtain ⟨b0,b1,b2,b3,b4,b5,b6,b7,b8⟩:=T0.out.two.fields
 obtain ⟨⟨x0,x1,x2,x3,x4,x5⟩,_,⟨xl,xr,xb⟩,xk,xi⟩:=hA
 obtain ⟨⟨y0,y1,y2,y3,y4,y5⟩,_,⟨yl,yr,yb⟩,yk,yi⟩:=hB
 have cx:=conv_str (xb.kept ((alloc_below w (.cells a.arr 26)).trans ((alloc_below (w.alloc (.cells a.arr 26)) (.cells b.arr 26)).mono (Nat.le_of_lt (alloc_lt _ _))))) a.lb a.cb xl
 have cy:=conv_str (yb.kept ((alloc_below w (.cells a.arr 26)).trans ((alloc_below (w.alloc (.cells a.arr 26)) (.cells b.arr 26)).mono (Nat.le_of_lt (alloc_lt _ _))))) b.lb b.cb yl
 have hst:=str_eq xb.1 yb.1
 have hEq:Hid (t=u ↔ a.kind=b.kind∧a.num=b.num∧a.neg=b.neg∧a.dig=b.dig∧a.exp=b.exp∧a.txt=b.txt∧t.bytes=u.bytes∧t.keys=u.keys∧t.kids=u.kids):=by
  show _ ↔ _
  rw [x0,x1,x2,x3,x4,x5,y0,y1,y2,y3,y4,y5]
  exact ⟨fun h=>by subst h;exact ⟨rfl,rfl,rfl,rfl,rfl,rfl,rfl,rfl,rfl⟩,fun ⟨h0,h1,h2,h3,h4,h5,h6,h7,h8⟩=>Tr.mk_eq h0 h1 h2 h3 h4 h5 h6 h7 h8⟩
 have hV:Hid (v=true ↔ t=u):=hv
 have hAk:Hid (RowN (Nd D w) w a.ak a.lk a.ck t.keys):=xk
 have hAi:Hid (RowN (Nd D w) w a.ai a.li a.ci t.kids):=xi
 have hBk:Hid (RowN (Nd D w) w b.ak b.lk b.ck u.keys):=yk
 have hBi:Hid (RowN (Nd D w) w b.ai b.li b.ci u.kids):=yi
 have hxk:Hid (t.keys.length=a.lk):=xk.1
 have hxi:Hid (t.kids.length=a.li):=xi.1
 have hyk:Hid (u.keys.length=b.lk):=yk.1
 have hyi:Hid (u.kids.length=b.li):=yi.1
 have m1:=xk.2.1.1
 have m2:=xk.2.1.2.1
 have m3:=xi.2.1.1
 have m4:=xi.2.1.2.1
 have m5:=yk.2.1.1
 have m6:=yk.2.1.2.1
 have m7:=yi.2.1.1
 have m8:=yi.2.1.2.1
 unfold maxLen at m2 m4 m6 m8
 generalize strOfNums t.bytes=SX at *
 generalize strOfNums u.bytes=SY at *
 clear x0 x1 x2 x3 x4 x5 y0 y1 y2 y3 y4 y5 xl yl xb yb xr yr xk xi yk yi hv
 have q0:(a.kind==b.kind)=true:=by rw [h0];exact beq_self_eq_true _
 have r0:(a.kind != b.kind)=false:=by simp [h0]
 have q1:(a.num==b.num)=true:=by rw [h1];exact beq_self_eq_true _
 have r1:(a.num != b.num)=false:=by simp [h1]
 have q2:(a.neg==b.neg)=true:=by rw [h2];exact beq_self_eq_true _
 have r2:(a.neg != b.neg)=false:=by simp [h2]
 have q3:=beq_of (s:=a.dig) (t:=b.dig) true (by simp [h3])
 have r3:(a.dig.toList != b.dig.toList)=false:=by simp [bne,q3]
 have q4:(a.exp==b.exp)=true:=by rw [h4];exact beq_self_eq_true _
 have r4:(a.exp != b.exp)=false:=by simp [h4]
 have q5:=beq_of (s:=a.txt) (t:=b.txt) true (by simp [h5])
 have r5:(a.txt.toList != b.txt.toList)=false:=by simp [bne,q5]
 rw [decide_eq_true h6] at hst
 have r6:(SX.toList != SY.toList)=false:=by simp [bne,hst]
 have r7:((a.lk:Int) != (b.lk:Int))=false:=by simp;omega
 have r8:((a.li:Int) != (b.li:Int))=false:=by simp;omega
 have e0:Hid (a.kind=b.kind):=h0
 have e1:Hid (a.num=b.num):=h1
 have e2:Hid (a.neg=b.neg):=h2
 have e3:Hid (a.dig=b.dig):=h3
 have e4:Hid (a.exp=b.exp):=h4
 have e5:Hid (a.txt=b.txt):=h5
 have e6:Hid (t.bytes=u.bytes):=h6
 have hLk:Hid (a.lk=b.lk):=h7
 have hLi:Hid (a.li=b.li):=h8
 clear h0 h1 h2 h3 h4 h5 h6 h7 h8
 go_enter Tryz.func23,Tryz.ntmps23
 go_wp2
 go_loopw [5] (fun s5 wr=>∃ (i:Nat),i≤a.lk∧s5 = .int .i64 i∧Hid (Bo2 w wr a b)∧Hid (t.keys.take i=u.keys.take i)) (fun i _=>a.lk - (intOf i).toNat)
 case atStart=>exact ⟨0,Nat.zero_le _,rfl,T0,rfl⟩
 case round =>
  obtain ⟨i,him,rfl,hT,hE⟩:=hrel
  clear a0 a1 a2 a3 a4 a5 a6 a7 a8 b0 b1 b2 b3 b4 b5 b6 b7 b8
  obtain ⟨c0,c1,c2,c3,c4,c5,c6,c7,c8⟩:=hT.out.one.fields
  obtain ⟨d0,d1,d2,d3,d4,d5,d6,d7,d8⟩:=hT.out.two.fields
  by_cases hlt:i<a.lk
  ·have hz : (i : Int) < (a.lk : Int) := by omega
   have hz2:(i:Int)<(b.lk:Int):=by have:=hLk.out;omega
   have hix:i<t.keys.length:=by rw [hxk.out];exact hlt
   have hiy:i<u.keys.length:=by rw [hyk.out,←hLk.out];exact hlt
   obtain ⟨bk,ok,nk,hak,hck,hNk⟩:=row_sp hAk.out hT.out.bel hix
   obtain ⟨bi,oi,ni,hai,hci,hNi⟩:=row_sp hBk.out hT.out.bel hiy
   have hS:Hid (∀ wx,Bo2 w wx a b→wx.cell? ⟨w.heap.size,7,none⟩=some (.slice (some ⟨bk,ok,none⟩) a.lk a.ck)∧wx.cell? ⟨w.heap.size+1,7,none⟩=some (.slice (some ⟨bi,oi,none⟩) b.lk b.ck)∧(wx.cell? ⟨bk,ok+i*9,none⟩=some (.int .i64 nk.kind)∧wx.cell? ⟨bk,ok+i*9+1,none⟩=some (.int .u64 nk.num)∧wx.cell? ⟨bk,ok+i*9+2,none⟩=some (.bool nk.neg)∧wx.cell? ⟨bk,ok+i*9+3,none⟩=some (.string nk.dig)∧wx.cell? ⟨bk,ok+i*9+4,none⟩=some (.int .i64 nk.exp)∧wx.cell? ⟨bk,ok+i*9+5,none⟩=some (.string nk.txt)∧wx.cell? ⟨bk,ok+i*9+6,none⟩=some (.slice nk.ab nk.lb nk.cb)∧wx.cell? ⟨bk,ok+i*9+7,none⟩=some (.slice nk.ak nk.lk nk.ck)∧wx.cell? ⟨bk,ok+i*9+8,none⟩=some (.slice nk.ai nk.li nk.ci))∧(wx.cell? ⟨bi,oi+i*9,none⟩=some (.int .i64 ni.kind)∧wx.cell? ⟨bi,oi+i*9+1,none⟩=some (.int .u64 ni.num)∧wx.cell? ⟨bi,oi+i*9+2,none⟩=some (.bool ni.neg)∧wx.cell? ⟨bi,oi+i*9+3,none⟩=some (.string ni.dig)∧wx.cell? ⟨bi,oi+i*9+4,none⟩=some (.int .i64 ni.exp)∧wx.cell? ⟨bi,oi+i*9+5,none⟩=some (.string ni.txt)∧wx.cell? ⟨bi,oi+i*9+6,none⟩=some (.slice ni.ab ni.lb ni.cb)∧wx.cell? ⟨bi,oi+i*9+7,none⟩=some (.slice ni.ak ni.lk ni.ck)∧wx.cell? ⟨bi,oi+i*9+8,none⟩=some (.slice ni.ai ni.li ni.ci))):=fun wx h=>⟨by rw [←hak];exact h.one.cell 7,by rw [←hai];exact h.two.cell 7,elem_fields (hck wx h.bel),elem_fields (hci wx h.bel)⟩
   have hS0:=hS.out _ hT.out
   obtain ⟨e0,e1,⟨f0,f1,f2,f3,f4,f5,f6,f7,f8⟩,⟨p0,p1,p2,p3,p4,p5,p6,p7,p8⟩⟩:=hS0
   have kk:∀ (v':Bool),(v'=true ↔ t.keys[i]=u.keys[i])→∀ w',Below w.heap.size w w'→Calls Tryz.prog 23 #[.agg nk.arr, .agg ni.arr] w' fun e w''=>e = .returned (.bool v')∧Below w'.heap.size w' w'':=fun v' h w' hb=>ih _ _ nk ni w' v' (hNk.kept hb) (hNi.kept hb) h
   have wi:IntKind.i64.wrap ((i:Int)+1)=(i:Int)+1:=by rw [IntKind.wrap_i64];omega
   by_cases hq:t.keys[i]=u.keys[i]
   ·have k1 := kk true (by simp [hq])
    have hE':Hid (t.keys.take (i+1)=u.keys.take (i+1)):=by
     show _=_
     rw [List.take_succ_eq_append_getElem hix,List.take_succ_eq_append_getElem hiy,hE.out,hq]
    clear hck hci hNk hNi kk hq ih
    go_wp2
    go_region_held3 (fun wx=>wx.cell? ⟨w.heap.size,7,none⟩=some (.slice (some ⟨bk,ok,none⟩) a.lk a.ck)∧wx.cell? ⟨w.heap.size+1,7,none⟩=some (.slice (some ⟨bi,oi,none⟩) b.lk b.ck)∧(wx.cell? ⟨bk,ok+i*9,none⟩=some (.int .i64 nk.kind)∧wx.cell? ⟨bk,ok+i*9+1,none⟩=some (.int .u64 nk.num)∧wx.cell? ⟨bk,ok+i*9+2,none⟩=some (.bool nk.neg)∧wx.cell? ⟨bk,ok+i*9+3,none⟩=some (.string nk.dig)∧wx.cell? ⟨bk,ok+i*9+4,none⟩=some (.int .i64 nk.exp)∧wx.cell? ⟨bk,ok+i*9+5,none⟩=some (.string nk.txt)∧wx.cell? ⟨bk,ok+i*9+6,none⟩=some (.slice nk.ab nk.lb nk.cb)∧wx.cell? ⟨bk,ok+i*9+7,none⟩=some (.slice nk.ak nk.lk nk.ck)∧wx.cell? ⟨bk,ok+i*9+8,none⟩=some (.slice nk.ai nk.li nk.ci))∧(wx.cell? ⟨bi,oi+i*9,none⟩=some (.int .i64 ni.kind)∧wx.cell? ⟨bi,oi+i*9+1,none⟩=some (.int .u64 ni.num)∧wx.cell? ⟨bi,oi+i*9+2,none⟩=some (.bool ni.neg)∧wx.cell? ⟨bi,oi+i*9+3,none⟩=some (.string ni.dig)∧wx.cell? ⟨bi,oi+i*9+4,none⟩=some (.int .i64 ni.exp)∧wx.cell? ⟨bi,oi+i*9+5,none⟩=some (.string ni.txt)∧wx.cell? ⟨bi,oi+i*9+6,none⟩=some (.slice ni.ab ni.lb ni.cb)∧wx.cell? ⟨bi,oi+i*9+7,none⟩=some (.slice ni.ak ni.lk ni.ck)∧wx.cell? ⟨bi,oi+i*9+8,none⟩=some (.slice ni.ai ni.li ni.ci))) (first | exact hS.out _ hT.out.drew | exact hS.out _ T1.out) (first
     | (go_at_call 23;refine (k1 _ hT.out.drew.bel).mono ?_;rintro e w1 ⟨rfl,q1⟩;have T1:Hid (Bo2 w w1 a b):=hT.out.drew.on q1;clear q1))
    go_wp2
    try simp only [hak,hai]
    go_roundw
    case rel=>exact ⟨i+1,by omega,by go_num,T1,hE'⟩
    case measure=>simp [intOf];omega
   ·have k1 := kk false (by simp [hq])
    have hvf:v=false:=not_true hV.out (fun h=>hq (by have:=(hEq.out.1 h).2.2.2.2.2.2.2.1;simp only [this]))
    subst hvf
    clear hck hci hNk hNi kk hq ih
    go_wp2
    go_region_held3 (fun wx=>wx.cell? ⟨w.heap.size,7,none⟩=some (.slice (some ⟨bk,ok,none⟩) a.lk a.ck)∧wx.cell? ⟨w.heap.size+1,7,none⟩=some (.slice (some ⟨bi,oi,none⟩) b.lk b.ck)∧(wx.cell? ⟨bk,ok+i*9,none⟩=some (.int .i64 nk.kind)∧wx.cell? ⟨bk,ok+i*9+1,none⟩=some (.int .u64 nk.num)∧wx.cell? ⟨bk,ok+i*9+2,none⟩=some (.bool nk.neg)∧wx.cell? ⟨bk,ok+i*9+3,none⟩=some (.string nk.dig)∧wx.cell? ⟨bk,ok+i*9+4,none⟩=some (.int .i64 nk.exp)∧wx.cell? ⟨bk,ok+i*9+5,none⟩=some (.string nk.txt)∧wx.cell? ⟨bk,ok+i*9+6,none⟩=some (.slice nk.ab nk.lb nk.cb)∧wx.cell? ⟨bk,ok+i*9+7,none⟩=some (.slice nk.ak nk.lk nk.ck)∧wx.cell? ⟨bk,ok+i*9+8,none⟩=some (.slice nk.ai nk.li nk.ci))∧(wx.cell? ⟨bi,oi+i*9,none⟩=some (.int .i64 ni.kind)∧wx.cell? ⟨bi,oi+i*9+1,none⟩=some (.int .u64 ni.num)∧wx.cell? ⟨bi,oi+i*9+2,none⟩=some (.bool ni.neg)∧wx.cell? ⟨bi,oi+i*9+3,none⟩=some (.string ni.dig)∧wx.cell? ⟨bi,oi+i*9+4,none⟩=some (.int .i64 ni.exp)∧wx.cell? ⟨bi,oi+i*9+5,none⟩=some (.string ni.txt)∧wx.cell? ⟨bi,oi+i*9+6,none⟩=some (.slice ni.ab ni.lb ni.cb)∧wx.cell? ⟨bi,oi+i*9+7,none⟩=some (.slice ni.ak ni.lk ni.ck)∧wx.cell? ⟨bi,oi+i*9+8,none⟩=some (.slice ni.ai ni.li ni.ci))) (first | exact hS.out _ hT.out.drew | exact hS.out _ T1.out) (first
     | (go_at_call 23;refine (k1 _ hT.out.drew.bel).mono ?_;rintro e w1 ⟨rfl,q1⟩;have T1:Hid (Bo2 w w1 a b):=hT.out.drew.on q1;clear q1))
    go_wp2
    go_ret
    exact ⟨rfl,T1.out.bel⟩
  ·have hz : ¬ (i : Int) < (a.lk : Int) := by omega
   have ekeys:Hid (t.keys=u.keys):=by
    show _=_
    have h1:=hE.out
    rwa [List.take_of_length_le (by rw [hxk.out];omega),List.take_of_length_le (by rw [hyk.out,←hLk.out];omega)] at h1
   clear hE
   go_wp2
   go_loopw [6] (fun s5 wr=>∃ (i:Nat),i≤a.li∧s5 = .int .i64 i∧Hid (Bo2 w wr a b)∧Hid (t.kids.take i=u.kids.take i)) (fun i _=>a.li - (intOf i).toNat)
   case atStart=>exact ⟨0,Nat.zero_le _,rfl,hT,rfl⟩
   case round =>
    obtain ⟨i,him,rfl,hT,hE⟩:=hrel
    clear c0 c1 c2 c3 c4 c5 c6 c7 c8 d0 d1 d2 d3 d4 d5 d6 d7 d8
    obtain ⟨c0,c1,c2,c3,c4,c5,c6,c7,c8⟩:=hT.out.one.fields
    obtain ⟨d0,d1,d2,d3,d4,d5,d6,d7,d8⟩:=hT.out.two.fields
    by_cases hlt:i<a.li
    ·have hz : (i : Int) < (a.li : Int) := by omega
     have hz2:(i:Int)<(b.li:Int):=by have:=hLi.out;omega
     have hix:i<t.kids.length:=by rw [hxi.out];exact hlt
     have hiy:i<u.kids.length:=by rw [hyi.out,←hLi.out];exact hlt
     obtain ⟨bk,ok,nk,hak,hck,hNk⟩:=row_sp hAi.out hT.out.bel hix
     obtain ⟨bi,oi,ni,hai,hci,hNi⟩:=row_sp hBi.out hT.out.bel hiy
     have hS:Hid (∀ wx,Bo2 w wx a b→wx.cell? ⟨w.heap.size,8,none⟩=some (.slice (some ⟨bk,ok,none⟩) a.li a.ci)∧wx.cell? ⟨w.heap.size+1,8,none⟩=some (.slice (some ⟨bi,oi,none⟩) b.li b.ci)∧(wx.cell? ⟨bk,ok+i*9,none⟩=some (.int .i64 nk.kind)∧wx.cell? ⟨bk,ok+i*9+1,none⟩=some (.int .u64 nk.num)∧wx.cell? ⟨bk,ok+i*9+2,none⟩=some (.bool nk.neg)∧wx.cell? ⟨bk,ok+i*9+3,none⟩=some (.string nk.dig)∧wx.cell? ⟨bk,ok+i*9+4,none⟩=some (.int .i64 nk.exp)∧wx.cell? ⟨bk,ok+i*9+5,none⟩=some (.string nk.txt)∧wx.cell? ⟨bk,ok+i*9+6,none⟩=some (.slice nk.ab nk.lb nk.cb)∧wx.cell? ⟨bk,ok+i*9+7,none⟩=some (.slice nk.ak nk.lk nk.ck)∧wx.cell? ⟨bk,ok+i*9+8,none⟩=some (.slice nk.ai nk.li nk.ci))∧(wx.cell? ⟨bi,oi+i*9,none⟩=some (.int .i64 ni.kind)∧wx.cell? ⟨bi,oi+i*9+1,none⟩=some (.int .u64 ni.num)∧wx.cell? ⟨bi,oi+i*9+2,none⟩=some (.bool ni.neg)∧wx.cell? ⟨bi,oi+i*9+3,none⟩=some (.string ni.dig)∧wx.cell? ⟨bi,oi+i*9+4,none⟩=some (.int .i64 ni.exp)∧wx.cell? ⟨bi,oi+i*9+5,none⟩=some (.string ni.txt)∧wx.cell? ⟨bi,oi+i*9+6,none⟩=some (.slice ni.ab ni.lb ni.cb)∧wx.cell? ⟨bi,oi+i*9+7,none⟩=some (.slice ni.ak ni.lk ni.ck)∧wx.cell? ⟨bi,oi+i*9+8,none⟩=some (.slice ni.ai ni.li ni.ci))):=fun wx h=>⟨by rw [←hak];exact h.one.cell 8,by rw [←hai];exact h.two.cell 8,elem_fields (hck wx h.bel),elem_fields (hci wx h.bel)⟩
     have hS0:=hS.out _ hT.out
     obtain ⟨e0,e1,⟨f0,f1,f2,f3,f4,f5,f6,f7,f8⟩,⟨p0,p1,p2,p3,p4,p5,p6,p7,p8⟩⟩:=hS0
     have kk:∀ (v':Bool),(v'=true ↔ t.kids[i]=u.kids[i])→∀ w',Below w.heap.size w w'→Calls Tryz.prog 23 #[.agg nk.arr, .agg ni.arr] w' fun e w''=>e = .returned (.bool v')∧Below w'.heap.size w' w'':=fun v' h w' hb=>ih _ _ nk ni w' v' (hNk.kept hb) (hNi.kept hb) h
     have wi:IntKind.i64.wrap ((i:Int)+1)=(i:Int)+1:=by rw [IntKind.wrap_i64];omega
     by_cases hq:t.kids[i]=u.kids[i]
     ·have k1 := kk true (by simp [hq])
      have hE':Hid (t.kids.take (i+1)=u.kids.take (i+1)):=by
       show _=_
       rw [List.take_succ_eq_append_getElem hix,List.take_succ_eq_append_getElem hiy,hE.out,hq]
      clear hck hci hNk hNi kk hq ih
      go_wp2
      go_region_held3 (fun wx=>wx.cell? ⟨w.heap.size,8,none⟩=some (.slice (some ⟨bk,ok,none⟩) a.li a.ci)∧wx.cell? ⟨w.heap.size+1,8,none⟩=some (.slice (some ⟨bi,oi,none⟩) b.li b.ci)∧(wx.cell? ⟨bk,ok+i*9,none⟩=some (.int .i64 nk.kind)∧wx.cell? ⟨bk,ok+i*9+1,none⟩=some (.int .u64 nk.num)∧wx.cell? ⟨bk,ok+i*9+2,none⟩=some (.bool nk.neg)∧wx.cell? ⟨bk,ok+i*9+3,none⟩=some (.string nk.dig)∧wx.cell? ⟨bk,ok+i*9+4,none⟩=some (.int .i64 nk.exp)∧wx.cell? ⟨bk,ok+i*9+5,none⟩=some (.string nk.txt)∧wx.cell? ⟨bk,ok+i*9+6,none⟩=some (.slice nk.ab nk.lb nk.cb)∧wx.cell? ⟨bk,ok+i*9+7,none⟩=some (.slice nk.ak nk.lk nk.ck)∧wx.cell? ⟨bk,ok+i*9+8,none⟩=some (.slice nk.ai nk.li nk.ci))∧(wx.cell? ⟨bi,oi+i*9,none⟩=some (.int .i64 ni.kind)∧wx.cell? ⟨bi,oi+i*9+1,none⟩=some (.int .u64 ni.num)∧wx.cell? ⟨bi,oi+i*9+2,none⟩=some (.bool ni.neg)∧wx.cell? ⟨bi,oi+i*9+3,none⟩=some (.string ni.dig)∧wx.cell? ⟨bi,oi+i*9+4,none⟩=some (.int .i64 ni.exp)∧wx.cell? ⟨bi,oi+i*9+5,none⟩=some (.string ni.txt)∧wx.cell? ⟨bi,oi+i*9+6,none⟩=some (.slice ni.ab ni.lb ni.cb)∧wx.cell? ⟨bi,oi+i*9+7,none⟩=some (.slice ni.ak ni.lk ni.ck)∧wx.cell? ⟨bi,oi+i*9+8,none⟩=some (.slice ni.ai ni.li ni.ci))) (first | exact hS.out _ hT.out.drew | exact hS.out _ T1.out) (first
       | (go_at_call 23;refine (k1 _ hT.out.drew.bel).mono ?_;rintro e w1 ⟨rfl,q1⟩;have T1:Hid (Bo2 w w1 a b):=hT.out.drew.on q1;clear q1))
      go_wp2
      try simp only [hak,hai]
      go_roundw
      case rel=>exact ⟨i+1,by omega,by go_num,T1,hE'⟩
      case measure=>simp [intOf];omega
     ·have k1 := kk false (by simp [hq])
      have hvf:v=false:=not_true hV.out (fun h=>hq (by have:=(hEq.out.1 h).2.2.2.2.2.2.2.2;simp only [this]))
      subst hvf
      clear hck hci hNk hNi kk hq ih
      go_wp2
      go_region_held3 (fun wx=>wx.cell? ⟨w.heap.size,8,none⟩=some (.slice (some ⟨bk,ok,none⟩) a.li a.ci)∧wx.cell? ⟨w.heap.size+1,8,none⟩=some (.slice (some ⟨bi,oi,none⟩) b.li b.ci)∧(wx.cell? ⟨bk,ok+i*9,none⟩=some (.int .i64 nk.kind)∧wx.cell? ⟨bk,ok+i*9+1,none⟩=some (.int .u64 nk.num)∧wx.cell? ⟨bk,ok+i*9+2,none⟩=some (.bool nk.neg)∧wx.cell? ⟨bk,ok+i*9+3,none⟩=some (.string nk.dig)∧wx.cell? ⟨bk,ok+i*9+4,none⟩=some (.int .i64 nk.exp)∧wx.cell? ⟨bk,ok+i*9+5,none⟩=some (.string nk.txt)∧wx.cell? ⟨bk,ok+i*9+6,none⟩=some (.slice nk.ab nk.lb nk.cb)∧wx.cell? ⟨bk,ok+i*9+7,none⟩=some (.slice nk.ak nk.lk nk.ck)∧wx.cell? ⟨bk,ok+i*9+8,none⟩=some (.slice nk.ai nk.li nk.ci))∧(wx.cell? ⟨bi,oi+i*9,none⟩=some (.int .i64 ni.kind)∧wx.cell? ⟨bi,oi+i*9+1,none⟩=some (.int .u64 ni.num)∧wx.cell? ⟨bi,oi+i*9+2,none⟩=some (.bool ni.neg)∧wx.cell? ⟨bi,oi+i*9+3,none⟩=some (.string ni.dig)∧wx.cell? ⟨bi,oi+i*9+4,none⟩=some (.int .i64 ni.exp)∧wx.cell? ⟨bi,oi+i*9+5,none⟩=some (.string ni.txt)∧wx.cell? ⟨bi,oi+i*9+6,none⟩=some (.slice ni.ab ni.lb ni.cb)∧wx.cell? ⟨bi,oi+i*9+7,none⟩=some (.slice ni.ak ni.lk ni.ck)∧wx.cell? ⟨bi,oi+i*9+8,none⟩=some (.slice ni.ai ni.li ni.ci))) (first | exact hS.out _ hT.out.drew | exact hS.out _ T1.out) (first
       | (go_at_call 23;refine (k1 _ hT.out.drew.bel).mono ?_;rintro e w1 ⟨rfl,q1⟩;have T1:Hid (Bo2 w w1 a b):=hT.out.drew.on q1;clear q1))
      go_wp2
      go_ret
      exact ⟨rfl,T1.out.bel⟩
    ·have hz : ¬ (i : Int) < (a.li : Int) := by omega
     have ekids:Hid (t.kids=u.kids):=by
      show _=_
      have h1:=hE.out
      rwa [List.take_of_length_le (by rw [hxi.out];omega),List.take_of_length_le (by rw [hyi.out,←hLi.out];omega)] at h1
     have hvt:v=true:=hV.out.2 (hEq.out.2 ⟨e0.out,e1.out,e2.out,e3.out,e4.out,e5.out,e6.out,ekeys.out,ekids.out⟩)
     subst hvt
     clear hE ih
     go_wp2
     go_ret
     exact ⟨rfl,hT.out.bel⟩
end Go.Proofs.YtejlaiofpekchaaGreatDoor
namespace Go.Proofs.YtejlaiofpekchaaGreatDoor
open Go.RowKit
set_option linter.unusedVariables false
theorem es_step{D:Nat}(ih:EsAt D):EsAt (D+1):=by
 intro t u a b w v hA hB hv
 by_cases h0:a.kind=b.kind
 case neg=>exact es_no0 t u a b w v hA hB hv h0
 by_cases h1:a.num=b.num
 case neg=>exact es_no1 t u a b w v hA hB hv h0 h1
 by_cases h2:a.neg=b.neg
 case neg=>exact es_no2 t u a b w v hA hB hv h0 h1 h2
 by_cases h3:a.dig=b.dig
 case neg=>exact es_no3 t u a b w v hA hB hv h0 h1 h2 h3
 by_cases h4:a.exp=b.exp
 case neg=>exact es_no4 t u a b w v hA hB hv h0 h1 h2 h3 h4
 by_cases h5:a.txt=b.txt
 case neg=>exact es_no5 t u a b w v hA hB hv h0 h1 h2 h3 h4 h5
 by_cases h6:t.bytes=u.bytes
 case neg=>exact es_no6 t u a b w v hA hB hv h0 h1 h2 h3 h4 h5 h6
 by_cases h7:a.lk=b.lk
 case neg=>exact es_no7 t u a b w v hA hB hv h0 h1 h2 h3 h4 h5 h6 h7
 by_cases h8:a.li=b.li
 case neg=>exact es_no8 t u a b w v hA hB hv h0 h1 h2 h3 h4 h5 h6 h7 h8
 exact es_eq ih t u a b w v hA hB hv h0 h1 h2 h3 h4 h5 h6 h7 h8
theorem es_all:∀ D,EsAt D:=by
 intro D
 induction D with
 | zero=>intro t u a b w v h;exact absurd h id
 | succ D ih=>exact es_step ih
theorem esam_any{D E:Nat}{t u:Tr}{a b:Nb}{w:World}{v:Bool}(hA:Nd D w a t)(hB:Nd E w b u)(hv:v=true ↔ t=u):Calls Tryz.prog 23 #[.agg a.arr, .agg b.arr] w fun e w'=>e = .returned (.bool v)∧Below w.heap.size w w' :=
 es_all (max D E) t u a b w v (hA.le (Nat.le_max_left _ _)) (hB.le (Nat.le_max_right _ _)) hv
end Go.Proofs.YtejlaiofpekchaaGreatDoor
namespace Go.Proofs.YtejlaiofpekchaaGreatDoor
open Go.RowKit
set_option linter.unusedVariables false
set_option maxHeartbeats 1000000 in
theorem efew_any{D:Nat}{t:Tr}{b:Nb}{w:World}(hN:Nd D w b t):Calls Tryz.prog 22 #[.agg b.arr] w fun e w'=>e = .returned (.bool (decide (t.size≤1024)))∧Below w.heap.size w w':=by
 have hal:=alloc_below w (.cells b.arr 26)
 have km:=left_all D t b _ 1024 (hN.kept hal) (by omega) (by omega)
 have hB:Hid (Below w.heap.size w (w.alloc (.cells b.arr 26))):=hal
 obtain ⟨c0,c1,c2,c3,c4,c5,c6,c7,c8⟩:=(nbox_new w b).fields
 rw [←Tr.lft_few]
 generalize Tr.lft 1024 t.size=S at *
 clear hal hN
 go_enter Tryz.func22,Tryz.ntmps22
 go_wp2_with (go_at_call 55;refine km.mono ?_;rintro e w1 ⟨rfl,hb⟩)
 go_ret
 exact ⟨rfl,hB.out.trans (hb.mono hB.out.size)⟩
set_option maxHeartbeats 2000000 in
theorem esame_any{D E:Nat}{t u:Tr}{a b:Nb}{w:World}{v:Bool}(hA:Nd D w a t)(hB:Nd E w b u)(hv:v=true ↔ t.size≤1024∧u.size≤1024∧t=u):Calls Tryz.prog 10 #[.agg a.arr, .agg b.arr] w fun e w'=>e = .returned (.bool v)∧Below w.heap.size w w':=by
 have hal:=alloc_below w (.cells a.arr 26)
 have hal2:=alloc_below (w.alloc (.cells a.arr 26)) (.cells b.arr 26)
 have hb2:Hid (Below w.heap.size w ((w.alloc (.cells a.arr 26)).alloc (.cells b.arr 26))):=hal.trans (hal2.mono hal.size)
 have hs2:Hid (w.heap.size≤((w.alloc (.cells a.arr 26)).alloc (.cells b.arr 26)).heap.size):=Nat.le_trans hal.size hal2.size
 have boxA:=(nbox_new w a).kept hal2 (by simp)
 have boxB:=nbox_new (w.alloc (.cells a.arr 26)) b
 have s1:(w.alloc (.cells a.arr 26)).heap.size=w.heap.size+1:=by simp
 rw [s1] at boxB
 obtain ⟨a0,a1,a2,a3,a4,a5,a6,a7,a8⟩:=boxA.fields
 obtain ⟨b0,b1,b2,b3,b4,b5,b6,b7,b8⟩:=boxB.fields
 have hKa:Hid (NBox ((w.alloc (.cells a.arr 26)).alloc (.cells b.arr 26)) w.heap.size a):=boxA
 have hKb:Hid (NBox ((w.alloc (.cells a.arr 26)).alloc (.cells b.arr 26)) (w.heap.size+1) b):=boxB
 have hsz:Hid (w.heap.size+1<((w.alloc (.cells a.arr 26)).alloc (.cells b.arr 26)).heap.size):=by show _<_;simp
 have kA:Hid (∀ w',Below w.heap.size w w'→Calls Tryz.prog 22 #[.agg a.arr] w' _):=fun w' h=>efew_any (hA.kept h)
 have kB:Hid (∀ w',Below w.heap.size w w'→Calls Tryz.prog 22 #[.agg b.arr] w' _):=fun w' h=>efew_any (hB.kept h)
 have k1:=kA.out _ hb2.out
 have kS:Hid (∀ (v':Bool),(v'=true ↔ t=u)→∀ w',Below w.heap.size w w'→Calls Tryz.prog 23 #[.agg a.arr, .agg b.arr] w' _):=fun v' h w' hb=>esam_any (hA.kept hb) (hB.kept hb) h
 have hV:Hid (v=true ↔ t.size≤1024∧u.size≤1024∧t=u):=hv
 clear hal hal2 boxA boxB s1 hv hA hB
 by_cases hf:t.size≤1024
 ·rw [decide_eq_true hf] at k1
  by_cases hg:u.size≤1024
  ·rw [show decide (u.size ≤ 1024) = true from decide_eq_true hg] at kB
   have hv:v=true ↔ t=u:=⟨fun h=>(hV.out.1 h).2.2,fun h=>hV.out.2 ⟨hf,hg,h⟩⟩
   have kS':=kS.out v hv
   clear hf hg hv kS
   go_enter Tryz.func10,Tryz.ntmps10
   go_wp2_with (first
    | (go_at_call 22;refine k1.mono ?_;rintro e w1 ⟨rfl,hb1⟩;clear k1;have hbw:=hb2.out.trans (hb1.mono hs2.out);have q2:=hKb.out.kept hb1 hsz.out;have q1:=hKa.out.kept hb1 (Nat.lt_of_le_of_lt (Nat.le_succ _) hsz.out);obtain ⟨c0,c1,c2,c3,c4,c5,c6,c7,c8⟩:=q1.fields;obtain ⟨d0,d1,d2,d3,d4,d5,d6,d7,d8⟩:=q2.fields;have k2:=kB.out w1 hbw)
    | (go_at_call 22;refine k2.mono ?_;rintro e w2 ⟨rfl,hb3⟩;clear k2;have hbw2:=hbw.trans (hb3.mono hbw.size);obtain ⟨g0,g1,g2,g3,g4,g5,g6,g7,g8⟩:=(q1.kept hb3 q1.lt).fields;obtain ⟨h0,h1,h2,h3,h4,h5,h6,h7,h8⟩:=(q2.kept hb3 q2.lt).fields;have k3:=kS' w2 hbw2)
    | (go_at_call 23;refine k3.mono ?_;rintro e w3 ⟨rfl,hb4⟩))
   go_ret
   exact ⟨rfl,hbw2.trans (hb4.mono hbw2.size)⟩
  ·rw [show decide (u.size ≤ 1024) = false from decide_eq_false hg] at kB
   have hv:v=false:=not_true hV.out fun h=>hg h.2.1
   subst hv
   clear hf hg kS
   go_enter Tryz.func10,Tryz.ntmps10
   go_wp2_with (first
    | (go_at_call 22;refine k1.mono ?_;rintro e w1 ⟨rfl,hb1⟩;clear k1;have hbw:=hb2.out.trans (hb1.mono hs2.out);have q2:=hKb.out.kept hb1 hsz.out;obtain ⟨d0,d1,d2,d3,d4,d5,d6,d7,d8⟩:=q2.fields;have k2:=kB.out w1 hbw)
    | (go_at_call 22;refine k2.mono ?_;rintro e w2 ⟨rfl,hb3⟩))
   go_ret
   exact ⟨rfl,hbw.trans (hb3.mono hbw.size)⟩
 ·rw [decide_eq_false hf] at k1
  have hv:v=false:=not_true hV.out fun h=>hf h.1
  subst hv
  clear hf kS kB
  go_enter Tryz.func10,Tryz.ntmps10
  go_wp2_with (go_at_call 22;refine k1.mono ?_;rintro e w1 ⟨rfl,hb1⟩)
  go_ret
  exact ⟨rfl,hb2.out.trans (hb1.mono hs2.out)⟩
end Go.Proofs.YtejlaiofpekchaaGreatDoor
namespace Go.Proofs.YtejlaiofpekchaaGreatDoor
open Go.RowKit Go.Shelf
set_option linter.unusedVariables false
theorem hex_lit:hexS [1,255]=⟨#[48,49,102,102]⟩:=by kernel_rfl
theorem unh_lit:unhA (hexS [1,255])=some [1,255]:=by kernel_rfl
theorem tl_lit:tlF 24 (bytT [1,255]) []=(txtT0 (hexS [1,255]),[⟨[],3,0⟩]):=by
 unfold tlF tellF
 rw [if_neg (by decide),if_pos (show (bytT [1,255]).kind=6 from rfl)]
 rfl
theorem one_may{t:Tr}(h1:t.keys=[])(h2:t.kids=[])(h3:alF t=0):t.May (fun u=>alF u=0):=by
 obtain ⟨a,b,c,d,e,f,l,ks,is⟩:=t
 subst h1
 subst h2
 refine ⟨by simp [Tr.size_eq,Tr.sizes],by simp [Tr.deep_eq,Tr.deeps,Tr.mx],?_,?_⟩
 ·exact (Tr.all_eq _ _).2 ⟨h3,by simp,by simp⟩
 ·exact (Tr.all_eq _ _).2 ⟨by simp,by simp,by simp⟩
theorem al_byt:alF (bytT [1,255])=0:=by decide
theorem al_txt:alF (txtT0 (hexS [1,255]))=0:=by rw [hex_lit];decide
theorem may_byt:(bytT [1,255]).May (fun u=>alF u=0):=one_may rfl rfl al_byt
theorem may_txt:(txtT0 (hexS [1,255])).May (fun u=>alF u=0):=one_may rfl rfl al_txt
theorem siz_byt:(bytT [1,255]).size≤1024:=may_byt.1
theorem ownsz_one{w:World}{base n c:Nat}{a:Option Addr}{L:List (Value × Lz)}(h:OwnsZ w base (.slice a n c) L)(hn:n=L.length)(hl:L.map (·.2)=[⟨[],3,0⟩]) :
  ∃ g pa pc,a=some ⟨g,0,none⟩∧n=1∧(1≤c∧c≤9223372036854775807)∧g<w.heap.size∧w.cell? ⟨g,0,none⟩=some (.slice pa 0 pc)∧w.cell? ⟨g,1,none⟩=some (.int .i64 3)∧w.cell? ⟨g,2,none⟩=some (.int .u64 0):=by
 match L,hl with
 | [(pv, q)], hl =>
  simp only [List.map_cons,List.map_nil,List.cons.injEq,and_true] at hl
  subst hl
  obtain ⟨⟨h1,h2⟩,h3⟩:=h
  have hn1:n=1:=hn
  subst hn1
  rcases h2 with ⟨_,h0⟩ | ⟨g,cap,cur,hv,hg,hc,hnc,hcm,hcs,ht⟩
  ·simp at h0
  ·cases hv
   have hp:=h3 (pv,⟨[],3,0⟩) (by simp)
   have hpv:∃ pa pc,pv = .slice pa 0 pc:=by
    rcases hp.2 with ⟨h5,_⟩ | ⟨g',cap',_,h5,_⟩
    ·exact ⟨_,_,h5⟩
    ·exact ⟨_,_,h5⟩
   obtain ⟨pa,pc,rfl⟩:=hpv
   have hcell:∀ j,j<3→w.cell? ⟨g,j,none⟩=(lzCs [((Value.slice pa 0 pc),⟨[],3,0⟩)])[j]? := fun j hj=>by
    rw [cell_row hc,←ht,List.getElem?_take_of_lt (by simpa using hj),Array.getElem?_toList]
   have hmx:maxLen≤9223372036854775807:=by decide
   refine ⟨g,pa,pc,rfl,rfl,⟨hnc,Nat.le_trans hcm hmx⟩,(Array.getElem?_eq_some_iff.1 hc).1,?_,?_,?_⟩
   ·rw [hcell 0 (by omega)];rfl
   ·rw [hcell 1 (by omega)];rfl
   ·rw [hcell 2 (by omega)];rfl
theorem j2_lit{s n c B:Nat}{a:Option Addr}{Z:World}{b':Nb}{f':List Nat}{L:List (Value × Lz)}(h:J2 s (bytT [1,255]) Z b' f' (.slice a n c) L B∧n=L.length) :
  Nd 1 Z b' (txtT0 (hexS [1,255]))∧b'.txt=hexS [1,255]∧∃ g pa pc,a=some ⟨g,0,none⟩∧n=1∧(1≤c∧c≤9223372036854775807)∧g<Z.heap.size∧Z.cell? ⟨g,0,none⟩=some (.slice pa 0 pc)∧Z.cell? ⟨g,1,none⟩=some (.int .i64 3)∧Z.cell? ⟨g,2,none⟩=some (.int .u64 0):=by
 obtain ⟨⟨hf,_,_,hz,hls⟩,hn⟩:=h
 rw [tl_lit] at hf hls
 have hN:Nd 48 Z b' (txtT0 (hexS [1,255])):=hf.nd
 have hN1:Nd 1 Z b' (txtT0 (hexS [1,255])):=nd_low 48 1 hN (by simp [txtT0,Tr.deep_eq,Tr.deeps,Tr.mx])
 exact ⟨hN1,hN.1.2.2.2.2.2,ownsz_one hz hn hls⟩
end Go.Proofs.YtejlaiofpekchaaGreatDoor
namespace Go.Proofs.YtejlaiofpekchaaGreatDoor
open Go.RowKit Go.Shelf
set_option linter.unusedVariables false
theorem nd_lit{W:World}{r:Nat}(hB:Bytes W (some ⟨r,0,none⟩) [1,255]):Nd 1 W (bytN (some ⟨r,0,none⟩) 2 2) (bytT [1,255]):=by
 refine ⟨⟨rfl,rfl,rfl,rfl,rfl,rfl⟩,⟨(by decide:(Lit.int .i64 6).wf=true),(by decide:(Lit.int .u64 0).wf=true),(by decide:(Lit.int .i64 0).wf=true),(by decide:(⟨#[]⟩:ByteArray).size≤140737488351232),(by decide:(⟨#[]⟩:ByteArray).size≤140737488351232)⟩,⟨rfl,?_,hB⟩,?_,?_⟩
 ·exact ⟨Nat.le_refl _,(show (2:Nat)≤maxLen by decide),(fun h=>by cases h),(show 2*1≤140737488351232 by decide)⟩
 ·exact rowN_nil _ _
 ·exact rowN_nil _ _
def LsL(W:World)(g c pc:Nat)(pa:Option Addr):Prop:=(1≤c∧c≤9223372036854775807)∧g<W.heap.size∧W.cell? ⟨g,0,none⟩=some (.slice pa 0 pc)∧W.cell? ⟨g,1,none⟩=some (.int .i64 3)∧W.cell? ⟨g,2,none⟩=some (.int .u64 0)
theorem LsL.kept{W W':World}{g c pc:Nat}{pa:Option Addr}(h:LsL W g c pc pa)(hb:Below W.heap.size W W'):LsL W' g c pc pa :=
 ⟨h.1,Nat.lt_of_lt_of_le h.2.1 hb.size,(hb.cell (p:=⟨g,0,none⟩) h.2.1).trans h.2.2.1,(hb.cell (p:=⟨g,1,none⟩) h.2.1).trans h.2.2.2.1,(hb.cell (p:=⟨g,2,none⟩) h.2.1).trans h.2.2.2.2⟩
theorem told_lit{L0:Nat}{W:World}(hT:Tab L0 W)(hL:L0≤W.heap.size)(r:Nat)(hB:Bytes W (some ⟨r,0,none⟩) [1,255]) :
  Calls Tryz.prog 8 #[.agg #[.int .i64 6, .int .u64 0, .bool false, .string ⟨#[]⟩, .int .i64 0, .string ⟨#[]⟩, .slice (some ⟨r,0,none⟩) 2 2, .slice none 0 0, .slice none 0 0]] W fun e w'=>(∃ (b':Nb) (g c pc:Nat) (pa:Option Addr),e = .returned (.tuple #[.agg #[.int .i64 b'.kind, .int .u64 b'.num, .bool b'.neg, .string b'.dig, .int .i64 b'.exp, .string b'.txt, .slice b'.ab b'.lb b'.cb, .slice b'.ak b'.lk b'.ck, .slice b'.ai b'.li b'.ci], .slice (some ⟨g,0,none⟩) 1 c, .int .i64 0])∧Hid (Nd 1 w' b' (txtT0 (hexS [1,255]))∧b'.txt=⟨#[48,49,102,102]⟩∧LsL w' g c pc pa))∧Hid (Below W.heap.size W w'):=by
 refine (tojson_yes (nd_lit hB) may_byt (by rw [tl_lit];exact may_txt) hT hL).mono ?_
 rintro e w' ⟨⟨b',f',a,n,c,L,B,he,hj⟩,hb⟩
 obtain ⟨h1,h2,g,pa,pc,rfl,rfl,h3,h4⟩:=j2_lit hj.out
 exact ⟨⟨b',g,c,pc,pa,he,h1,h2.trans hex_lit,h3,h4⟩,hb⟩
theorem given_lit{W:World}{b:Nb}{g c pc:Nat}{pa:Option Addr}(hN:Nd 1 W b (txtT0 (hexS [1,255])))(hl:LsL W g c pc pa) :
  Calls Tryz.prog 13 #[.agg #[.int .i64 b.kind, .int .u64 b.num, .bool b.neg, .string b.dig, .int .i64 b.exp, .string b.txt, .slice b.ab b.lb b.cb, .slice b.ak b.lk b.ck, .slice b.ai b.li b.ci], .slice (some ⟨g,0,none⟩) 1 c] W fun e w' =>
   ∃ va vn vc,e = .returned (.tuple #[.agg #[.int .i64 6, .int .u64 0, .bool false, .string ⟨#[]⟩, .int .i64 0, .string ⟨#[]⟩, .slice va vn vc, .slice none 0 0, .slice none 0 0], .int .i64 0])∧Hid (Nd 1 w' (bytN va vn vc) (bytT [1,255]))∧Hid (Below W.heap.size W w'):=by
 refine (vrestore_bytes hN may_txt rfl [1,255] (by rw [show (txtT0 (hexS [1,255])).txt=hexS [1,255] from rfl,hex_lit];decide) unh_lit may_byt (by decide) g c pc pa 0 hl.1 hl.2.2.1 hl.2.2.2.1 hl.2.2.2.2).mono ?_
 rintro e w' ⟨va,vn,vc,he,hO,hb⟩
 exact ⟨va,vn,vc,he,nd_byt hO.out (by decide),hb⟩
theorem same_lit{W:World}{r vn vc:Nat}{va:Option Addr}(hA:Nd 1 W (bytN va vn vc) (bytT [1,255]))(hB:Bytes W (some ⟨r,0,none⟩) [1,255]) :
  Calls Tryz.prog 10 #[.agg #[.int .i64 6, .int .u64 0, .bool false, .string ⟨#[]⟩, .int .i64 0, .string ⟨#[]⟩, .slice va vn vc, .slice none 0 0, .slice none 0 0], .agg #[.int .i64 6, .int .u64 0, .bool false, .string ⟨#[]⟩, .int .i64 0, .string ⟨#[]⟩, .slice (some ⟨r,0,none⟩) 2 2, .slice none 0 0, .slice none 0 0]] W fun e w'=>e = .returned (.bool true)∧Hid (Below W.heap.size W w'):=by
 have hv:true=true ↔ (bytT [1,255]).size≤1024∧(bytT [1,255]).size≤1024∧bytT [1,255]=bytT [1,255]:=⟨fun _=>⟨siz_byt,siz_byt,rfl⟩,fun _=>rfl⟩
 have h:=esame_any (w:=W) (D:=1) (E:=1) (a:=bytN va vn vc) (b:=bytN (some ⟨r,0,none⟩) 2 2) (t:=bytT [1,255]) (u:=bytT [1,255]) (v:=true) hA (nd_lit hB) hv
 clear hv hA hB
 generalize bytT [1,255]=T at h
 exact h
set_option maxHeartbeats 8000000 in
set_option maxRecDepth 100000 in
theorem valive_any(w:World){L0:Nat}(hT:Tab L0 w)(hL:L0≤w.heap.size):Calls Tryz.prog 12 #[] w fun e w'=>e = .returned (.bool true)∧Below w.heap.size w w':=by
 have hT':Hid (Tab L0 w):=hT
 have hL':Hid (L0≤w.heap.size):=hL
 clear hT hL
 have hal1:=alloc_below w (.cells #[.int .u8 1, .int .u8 255] 5)
 have hal2:=alloc_below (w.alloc (.cells #[.int .u8 1, .int .u8 255] 5)) (.cells #[.int .i64 6, .int .u64 0, .bool false, .string ⟨#[]⟩, .int .i64 0, .string ⟨#[]⟩, .slice (some ⟨w.heap.size,0,none⟩) 2 2, .slice none 0 0, .slice none 0 0] 26)
 have hs1:(w.alloc (.cells #[.int .u8 1, .int .u8 255] 5)).heap.size=w.heap.size+1:=by simp
 have b1:Hid (Below w.heap.size w ((w.alloc (.cells #[.int .u8 1, .int .u8 255] 5)).alloc (.cells #[.int .i64 6, .int .u64 0, .bool false, .string ⟨#[]⟩, .int .i64 0, .string ⟨#[]⟩, .slice (some ⟨w.heap.size,0,none⟩) 2 2, .slice none 0 0, .slice none 0 0] 26))):=hal1.trans (hal2.mono hal1.size)
 have N1:Hid (NBox ((w.alloc (.cells #[.int .u8 1, .int .u8 255] 5)).alloc (.cells #[.int .i64 6, .int .u64 0, .bool false, .string ⟨#[]⟩, .int .i64 0, .string ⟨#[]⟩, .slice (some ⟨w.heap.size,0,none⟩) 2 2, .slice none 0 0, .slice none 0 0] 26)) (w.heap.size+1) (bytN (some ⟨w.heap.size,0,none⟩) 2 2)):=by
  have:=nbox_new (w.alloc (.cells #[.int .u8 1, .int .u8 255] 5)) (bytN (some ⟨w.heap.size,0,none⟩) 2 2)
  rw [hs1] at this
  exact this
 have Y1:Hid (Bytes ((w.alloc (.cells #[.int .u8 1, .int .u8 255] 5)).alloc (.cells #[.int .i64 6, .int .u64 0, .bool false, .string ⟨#[]⟩, .int .i64 0, .string ⟨#[]⟩, .slice (some ⟨w.heap.size,0,none⟩) 2 2, .slice none 0 0, .slice none 0 0] 26)) (some ⟨w.heap.size,0,none⟩) [1,255]):=(vbytes_lit w [1,255] (by decide) (by decide)).kept hal2
 have kT:Hid (Calls Tryz.prog 8 _ ((w.alloc (.cells #[.int .u8 1, .int .u8 255] 5)).alloc (.cells #[.int .i64 6, .int .u64 0, .bool false, .string ⟨#[]⟩, .int .i64 0, .string ⟨#[]⟩, .slice (some ⟨w.heap.size,0,none⟩) 2 2, .slice none 0 0, .slice none 0 0] 26)) _):=told_lit (hT'.out.on (b1.out.mono hL'.out)) (Nat.le_trans hL'.out b1.out.size) w.heap.size Y1.out
 clear hal1 hal2 hs1 hT' hL'
 go_enter Tryz.func12,Tryz.ntmps12
 go_upto_region 2 with fail
 generalize ((w.alloc (.cells #[.int .u8 1, .int .u8 255] 5)).alloc (.cells #[.int .i64 6, .int .u64 0, .bool false, .string ⟨#[]⟩, .int .i64 0, .string ⟨#[]⟩, .slice (some ⟨w.heap.size,0,none⟩) 2 2, .slice none 0 0, .slice none 0 0] 26))=W at *
 have hg1:Hid (w.heap.size+1<W.heap.size):=N1.out.lt
 generalize w.heap.size+1=g1 at *
 obtain ⟨a0,a1,a2,a3,a4,a5,a6,a7,a8⟩:=N1.out.fields
 simp only [bytN] at a0 a1 a2 a3 a4 a5 a6 a7 a8
 go_upto_region 3 with (go_at_call 8;refine kT.out.mono ?_;rintro e x1 ⟨⟨b2,g,c,pc,pa,rfl,hj⟩,hb1⟩;clear kT a0 a1 a2 a3 a4 a5 a6 a7 a8)
 have hal:=alloc_below x1 (.cells #[.int .i64 b2.kind, .int .u64 b2.num, .bool b2.neg, .string b2.dig, .int .i64 b2.exp, .string b2.txt, .slice b2.ab b2.lb b2.cb, .slice b2.ak b2.lk b2.ck, .slice b2.ai b2.li b2.ci] 26)
 have c1:Hid (Below W.heap.size W (x1.alloc (.cells #[.int .i64 b2.kind, .int .u64 b2.num, .bool b2.neg, .string b2.dig, .int .i64 b2.exp, .string b2.txt, .slice b2.ab b2.lb b2.cb, .slice b2.ak b2.lk b2.ck, .slice b2.ai b2.li b2.ci] 26))):=hb1.out.trans (hal.mono hb1.out.size)
 have N2:Hid (NBox (x1.alloc (.cells #[.int .i64 b2.kind, .int .u64 b2.num, .bool b2.neg, .string b2.dig, .int .i64 b2.exp, .string b2.txt, .slice b2.ab b2.lb b2.cb, .slice b2.ak b2.lk b2.ck, .slice b2.ai b2.li b2.ci] 26)) x1.heap.size b2):=nbox_new x1 b2
 have hj2:Hid (Nd 1 (x1.alloc (.cells #[.int .i64 b2.kind, .int .u64 b2.num, .bool b2.neg, .string b2.dig, .int .i64 b2.exp, .string b2.txt, .slice b2.ab b2.lb b2.cb, .slice b2.ak b2.lk b2.ck, .slice b2.ai b2.li b2.ci] 26)) b2 (txtT0 (hexS [1,255]))∧b2.txt=⟨#[48,49,102,102]⟩∧LsL (x1.alloc (.cells #[.int .i64 b2.kind, .int .u64 b2.num, .bool b2.neg, .string b2.dig, .int .i64 b2.exp, .string b2.txt, .slice b2.ab b2.lb b2.cb, .slice b2.ak b2.lk b2.ck, .slice b2.ai b2.li b2.ci] 26)) g c pc pa):=⟨hj.out.1.kept hal,hj.out.2.1,hj.out.2.2.kept hal⟩
 have N1':Hid (NBox (x1.alloc (.cells #[.int .i64 b2.kind, .int .u64 b2.num, .bool b2.neg, .string b2.dig, .int .i64 b2.exp, .string b2.txt, .slice b2.ab b2.lb b2.cb, .slice b2.ak b2.lk b2.ck, .slice b2.ai b2.li b2.ci] 26)) g1 (bytN (some ⟨w.heap.size,0,none⟩) 2 2)):=N1.out.kept c1.out N1.out.lt
 have Y1':Hid (Bytes (x1.alloc (.cells #[.int .i64 b2.kind, .int .u64 b2.num, .bool b2.neg, .string b2.dig, .int .i64 b2.exp, .string b2.txt, .slice b2.ab b2.lb b2.cb, .slice b2.ak b2.lk b2.ck, .slice b2.ai b2.li b2.ci] 26)) (some ⟨w.heap.size,0,none⟩) [1,255]):=Y1.out.kept c1.out
 have d1:Hid (Below w.heap.size w (x1.alloc (.cells #[.int .i64 b2.kind, .int .u64 b2.num, .bool b2.neg, .string b2.dig, .int .i64 b2.exp, .string b2.txt, .slice b2.ab b2.lb b2.cb, .slice b2.ak b2.lk b2.ck, .slice b2.ai b2.li b2.ci] 26))):=b1.out.trans (c1.out.mono b1.out.size)
 clear hal hb1 hj c1 N1 Y1 b1 hg1
 generalize (x1.alloc (.cells #[.int .i64 b2.kind, .int .u64 b2.num, .bool b2.neg, .string b2.dig, .int .i64 b2.exp, .string b2.txt, .slice b2.ab b2.lb b2.cb, .slice b2.ak b2.lk b2.ck, .slice b2.ai b2.li b2.ci] 26))=X at *
 generalize x1.heap.size=g2 at *
 have kR:=given_lit hj2.out.1 hj2.out.2.2
 have hxt:Hid (b2.txt=⟨#[48,49,102,102]⟩):=hj2.out.2.1
 have hl2:Hid (LsL X g c pc pa):=hj2.out.2.2
 obtain ⟨a0,a1,a2,a3,a4,a5,a6,a7,a8⟩:=N2.out.fields
 clear hj2
 go_upto_region 4 with (go_at_call 13;refine kR.mono ?_;rintro e x2 ⟨va,vn,vc,rfl,hm,hb2⟩;clear kR a0 a1 a2 a3 a4 a5 a6 a7 a8)
 have hal:=alloc_below x2 (.cells #[.int .i64 6, .int .u64 0, .bool false, .string ⟨#[]⟩, .int .i64 0, .string ⟨#[]⟩, .slice va vn vc, .slice none 0 0, .slice none 0 0] 26)
 have c2:Hid (Below X.heap.size X (x2.alloc (.cells #[.int .i64 6, .int .u64 0, .bool false, .string ⟨#[]⟩, .int .i64 0, .string ⟨#[]⟩, .slice va vn vc, .slice none 0 0, .slice none 0 0] 26))):=hb2.out.trans (hal.mono hb2.out.size)
 have N3:Hid (NBox (x2.alloc (.cells #[.int .i64 6, .int .u64 0, .bool false, .string ⟨#[]⟩, .int .i64 0, .string ⟨#[]⟩, .slice va vn vc, .slice none 0 0, .slice none 0 0] 26)) x2.heap.size (bytN va vn vc)):=nbox_new x2 (bytN va vn vc)
 have N1'':Hid (NBox (x2.alloc (.cells #[.int .i64 6, .int .u64 0, .bool false, .string ⟨#[]⟩, .int .i64 0, .string ⟨#[]⟩, .slice va vn vc, .slice none 0 0, .slice none 0 0] 26)) g1 (bytN (some ⟨w.heap.size,0,none⟩) 2 2)):=N1'.out.kept c2.out N1'.out.lt
 have N2':Hid (NBox (x2.alloc (.cells #[.int .i64 6, .int .u64 0, .bool false, .string ⟨#[]⟩, .int .i64 0, .string ⟨#[]⟩, .slice va vn vc, .slice none 0 0, .slice none 0 0] 26)) g2 b2):=N2.out.kept c2.out N2.out.lt
 have hl3:Hid (LsL (x2.alloc (.cells #[.int .i64 6, .int .u64 0, .bool false, .string ⟨#[]⟩, .int .i64 0, .string ⟨#[]⟩, .slice va vn vc, .slice none 0 0, .slice none 0 0] 26)) g c pc pa):=hl2.out.kept c2.out
 have kS:=same_lit (hm.out.kept hal) (Y1'.out.kept c2.out)
 have d2:Hid (Below w.heap.size w (x2.alloc (.cells #[.int .i64 6, .int .u64 0, .bool false, .string ⟨#[]⟩, .int .i64 0, .string ⟨#[]⟩, .slice va vn vc, .slice none 0 0, .slice none 0 0] 26))):=d1.out.trans (c2.out.mono d1.out.size)
 clear hal hb2 hm c2 N1' N2 hl2 Y1' d1
 generalize (x2.alloc (.cells #[.int .i64 6, .int .u64 0, .bool false, .string ⟨#[]⟩, .int .i64 0, .string ⟨#[]⟩, .slice va vn vc, .slice none 0 0, .slice none 0 0] 26))=Z at *
 generalize x2.heap.size=g3 at *
 have p5:=N2'.out.fields.2.2.2.2.2.1
 rw [hxt.out] at p5
 obtain ⟨a0,a1,a2,a3,a4,a5,a6,a7,a8⟩:=N1''.out.fields
 obtain ⟨q0,q1,q2,q3,q4,q5,q6,q7,q8⟩:=N3.out.fields
 simp only [bytN] at a0 a1 a2 a3 a4 a5 a6 a7 a8 q0 q1 q2 q3 q4 q5 q6 q7 q8
 have u1:=hl3.out.2.2.2.1
 have hc1:=hl3.out.1.1
 have hc2:=hl3.out.1.2
 go_wp2_with (first
  | (go_at_call 10;refine kS.mono ?_;rintro e x3 ⟨rfl,hb3⟩;have hl4:Hid (LsL x3 g c pc pa):=hl3.out.kept hb3.out;have kL:=vsamel_one g c pc pa 3 0 x3 hl4.out.1 hl4.out.2.2.1 hl4.out.2.2.2.1 hl4.out.2.2.2.2)
  | (go_at_call 15;refine kL.mono ?_;rintro e x4 ⟨rfl,hb4⟩))
 go_ret
 exact ⟨rfl,(d2.out.trans (hb3.out.mono d2.out.size)).trans (hb4.out.mono (Nat.le_trans d2.out.size hb3.out.size))⟩
end Go.Proofs.YtejlaiofpekchaaGreatDoor
