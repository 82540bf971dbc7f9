/-
  What a node of its Kind has, all else zero, as the document's calls have it: gantlineref08.bare; its number; which numbers a Simple may have.
  Whether a node is not of its Kind's form, as the document's call asks it.
-/
import Derived.Test.YtejlaiofpekchaaGreatDoorC18
import Derived.Test.YtejlaiofpekchaaGreatDoorC8
import Derived.Test.YtejlaiofpekchaaGreatDoorC19
namespace Go.Proofs.YtejlaiofpekchaaGreatDoor
open Go.RowKit
set_option linter.unusedVariables false
def bar (b : Nb) : Nb :=
  { kind := b.kind
    num:=if b.kind=1∨b.kind=4∨b.kind=9∨b.kind=10 then b.num else 0
    neg:=if b.kind=2∨b.kind=3 then b.neg else false
    dig:=if b.kind=2∨b.kind=3 then b.dig else ⟨#[]⟩
    exp:=if b.kind=3 then b.exp else 0
    txt:=if b.kind=5 then b.txt else ⟨#[]⟩
    ab:=if b.kind=6 then b.ab else none
    lb:=if b.kind=6 then b.lb else 0
    cb:=if b.kind=6 then b.cb else 0
    ak:=if b.kind=8 then b.ak else none
    lk:=if b.kind=8 then b.lk else 0
    ck:=if b.kind=8 then b.ck else 0
    ai:=if b.kind=7∨b.kind=8∨b.kind=9 then b.ai else none
    li:=if b.kind=7∨b.kind=8∨b.kind=9 then b.li else 0
    ci:=if b.kind=7∨b.kind=8∨b.kind=9 then b.ci else 0 }
theorem nd_bar{D:Nat}{w:World}{b:Nb}{t:Tr}(h:Nd (D+1) w b t):Nd (D+1) w (bar b) t.bare:=by
  obtain ⟨⟨h0,h1,h2,h3,h4,h5⟩,⟨g0,g1,g2,g3,g4⟩,⟨b0,b1,b2⟩,k,i⟩:=h
  unfold bar Tr.bare
  rw [h0,h1,h2,h3,h4,h5]
  refine ⟨⟨rfl,rfl,rfl,rfl,rfl,rfl⟩,⟨g0,?_,?_,?_,?_⟩,?_,?_,?_⟩
  · simp only; split
    · exact g1
    · decide
  · simp only; split
    · exact g2
    · decide
  · simp only; split
    · exact g3
    · decide
  · simp only; split
    · exact g4
    · decide
  · simp only; split
    · exact ⟨b0,b1,b2⟩
    · exact ⟨rfl,room_nil _,bytes_nil w⟩
  · simp only; split
    · exact k
    · exact rowN_nil _ _
  · simp only; split
    · exact i
    · exact rowN_nil _ _
set_option maxHeartbeats 2000000 in
set_option maxRecDepth 100000 in
theorem bare_any(b:Nb)(w:World):Calls Tryz.prog 119 #[.agg b.arr] w fun e w'=>e = .returned (.agg (bar b).arr)∧Below w.heap.size w w':=by
  show Calls Tryz.prog 119 #[.agg #[.int .i64 b.kind, .int .u64 b.num, .bool b.neg, .string b.dig, .int .i64 b.exp, .string b.txt, .slice b.ab b.lb b.cb, .slice b.ak b.lk b.ck, .slice b.ai b.li b.ci]] w _
  by_cases h1:b.kind=1
  · have hR : bar b = ⟨b.kind, b.num, false, ⟨#[]⟩, 0, ⟨#[]⟩, none, 0, 0, none, 0, 0, none, 0, 0⟩ := by unfold bar; simp [h1]
    rw [hR]
    clear hR
    have hk:Hid (b.kind=1):=h1
    have e1:(b.kind==1)=true:=by rw [h1];decide
    have e4:(b.kind==4)=false:=by rw [h1];decide
    have e10:(b.kind==10)=false:=by rw [h1];decide
    have e2:(b.kind==2)=false:=by rw [h1];decide
    have e3:(b.kind==3)=false:=by rw [h1];decide
    have e5:(b.kind==5)=false:=by rw [h1];decide
    have e6:(b.kind==6)=false:=by rw [h1];decide
    have e7:(b.kind==7)=false:=by rw [h1];decide
    have e8:(b.kind==8)=false:=by rw [h1];decide
    have e9:(b.kind==9)=false:=by rw [h1];decide
    clear hk h1
    go_enter Tryz.func119,Tryz.ntmps119
    go_wp2
    refine bodyPost_ret (v := .agg #[.int .i64 b.kind, .int .u64 b.num, .bool false, .string ⟨#[]⟩, .int .i64 0, .string ⟨#[]⟩, .slice none 0 0, .slice none 0 0, .slice none 0 0]) (by simp [results,Tryz.results119,go_sem]) rfl ⟨rfl,?_⟩
    exact ((alloc_below w _).trans (((alloc_below _ _).trans ((alloc_below _ _).mono (Nat.le_of_lt (alloc_lt _ _)))).mono (Nat.le_of_lt (alloc_lt _ _))))
  by_cases h4:b.kind=4
  · have hR : bar b = ⟨b.kind, b.num, false, ⟨#[]⟩, 0, ⟨#[]⟩, none, 0, 0, none, 0, 0, none, 0, 0⟩ := by unfold bar; simp [h4]
    rw [hR]
    clear hR
    have hk:Hid (b.kind=4):=h4
    have e1:(b.kind==1)=false:=by rw [h4];decide
    have e4:(b.kind==4)=true:=by rw [h4];decide
    have e10:(b.kind==10)=false:=by rw [h4];decide
    have e2:(b.kind==2)=false:=by rw [h4];decide
    have e3:(b.kind==3)=false:=by rw [h4];decide
    have e5:(b.kind==5)=false:=by rw [h4];decide
    have e6:(b.kind==6)=false:=by rw [h4];decide
    have e7:(b.kind==7)=false:=by rw [h4];decide
    have e8:(b.kind==8)=false:=by rw [h4];decide
    have e9:(b.kind==9)=false:=by rw [h4];decide
    clear hk h4
    go_enter Tryz.func119,Tryz.ntmps119
    go_wp2
    refine bodyPost_ret (v := .agg #[.int .i64 b.kind, .int .u64 b.num, .bool false, .string ⟨#[]⟩, .int .i64 0, .string ⟨#[]⟩, .slice none 0 0, .slice none 0 0, .slice none 0 0]) (by simp [results,Tryz.results119,go_sem]) rfl ⟨rfl,?_⟩
    exact ((alloc_below w _).trans (((alloc_below _ _).trans ((alloc_below _ _).mono (Nat.le_of_lt (alloc_lt _ _)))).mono (Nat.le_of_lt (alloc_lt _ _))))
  by_cases h10:b.kind=10
  · have hR : bar b = ⟨b.kind, b.num, false, ⟨#[]⟩, 0, ⟨#[]⟩, none, 0, 0, none, 0, 0, none, 0, 0⟩ := by unfold bar; simp [h10]
    rw [hR]
    clear hR
    have hk:Hid (b.kind=10):=h10
    have e1:(b.kind==1)=false:=by rw [h10];decide
    have e4:(b.kind==4)=false:=by rw [h10];decide
    have e10:(b.kind==10)=true:=by rw [h10];decide
    have e2:(b.kind==2)=false:=by rw [h10];decide
    have e3:(b.kind==3)=false:=by rw [h10];decide
    have e5:(b.kind==5)=false:=by rw [h10];decide
    have e6:(b.kind==6)=false:=by rw [h10];decide
    have e7:(b.kind==7)=false:=by rw [h10];decide
    have e8:(b.kind==8)=false:=by rw [h10];decide
    have e9:(b.kind==9)=false:=by rw [h10];decide
    clear hk h10
    go_enter Tryz.func119,Tryz.ntmps119
    go_wp2
    refine bodyPost_ret (v := .agg #[.int .i64 b.kind, .int .u64 b.num, .bool false, .string ⟨#[]⟩, .int .i64 0, .string ⟨#[]⟩, .slice none 0 0, .slice none 0 0, .slice none 0 0]) (by simp [results,Tryz.results119,go_sem]) rfl ⟨rfl,?_⟩
    exact ((alloc_below w _).trans (((alloc_below _ _).trans ((alloc_below _ _).mono (Nat.le_of_lt (alloc_lt _ _)))).mono (Nat.le_of_lt (alloc_lt _ _))))
  by_cases h2:b.kind=2
  · have hR : bar b = ⟨b.kind, 0, b.neg, b.dig, 0, ⟨#[]⟩, none, 0, 0, none, 0, 0, none, 0, 0⟩ := by unfold bar; simp [h2]
    rw [hR]
    clear hR
    have hk:Hid (b.kind=2):=h2
    have e1:(b.kind==1)=false:=by rw [h2];decide
    have e4:(b.kind==4)=false:=by rw [h2];decide
    have e10:(b.kind==10)=false:=by rw [h2];decide
    have e2:(b.kind==2)=true:=by rw [h2];decide
    have e3:(b.kind==3)=false:=by rw [h2];decide
    have e5:(b.kind==5)=false:=by rw [h2];decide
    have e6:(b.kind==6)=false:=by rw [h2];decide
    have e7:(b.kind==7)=false:=by rw [h2];decide
    have e8:(b.kind==8)=false:=by rw [h2];decide
    have e9:(b.kind==9)=false:=by rw [h2];decide
    clear hk h2
    go_enter Tryz.func119,Tryz.ntmps119
    go_wp2
    go_region
    all_goals
      go_wp2
      refine bodyPost_ret (v := .agg #[.int .i64 b.kind, .int .u64 0, .bool b.neg, .string b.dig, .int .i64 0, .string ⟨#[]⟩, .slice none 0 0, .slice none 0 0, .slice none 0 0]) (by simp [results,Tryz.results119,go_sem]) rfl ⟨rfl,?_⟩
      exact ((alloc_below w _).trans (((alloc_below _ _).trans ((alloc_below _ _).mono (Nat.le_of_lt (alloc_lt _ _)))).mono (Nat.le_of_lt (alloc_lt _ _)))).drew
  by_cases h3:b.kind=3
  · have hR : bar b = ⟨b.kind, 0, b.neg, b.dig, b.exp, ⟨#[]⟩, none, 0, 0, none, 0, 0, none, 0, 0⟩ := by unfold bar; simp [h3]
    rw [hR]
    clear hR
    have hk:Hid (b.kind=3):=h3
    have e1:(b.kind==1)=false:=by rw [h3];decide
    have e4:(b.kind==4)=false:=by rw [h3];decide
    have e10:(b.kind==10)=false:=by rw [h3];decide
    have e2:(b.kind==2)=false:=by rw [h3];decide
    have e3:(b.kind==3)=true:=by rw [h3];decide
    have e5:(b.kind==5)=false:=by rw [h3];decide
    have e6:(b.kind==6)=false:=by rw [h3];decide
    have e7:(b.kind==7)=false:=by rw [h3];decide
    have e8:(b.kind==8)=false:=by rw [h3];decide
    have e9:(b.kind==9)=false:=by rw [h3];decide
    clear hk h3
    go_enter Tryz.func119,Tryz.ntmps119
    go_wp2
    go_region
    all_goals
      go_wp2
      refine bodyPost_ret (v := .agg #[.int .i64 b.kind, .int .u64 0, .bool b.neg, .string b.dig, .int .i64 b.exp, .string ⟨#[]⟩, .slice none 0 0, .slice none 0 0, .slice none 0 0]) (by simp [results,Tryz.results119,go_sem]) rfl ⟨rfl,?_⟩
      exact ((alloc_below w _).trans (((alloc_below _ _).trans ((alloc_below _ _).mono (Nat.le_of_lt (alloc_lt _ _)))).mono (Nat.le_of_lt (alloc_lt _ _)))).drew
  by_cases h5:b.kind=5
  · have hR : bar b = ⟨b.kind, 0, false, ⟨#[]⟩, 0, b.txt, none, 0, 0, none, 0, 0, none, 0, 0⟩ := by unfold bar; simp [h5]
    rw [hR]
    clear hR
    have hk:Hid (b.kind=5):=h5
    have e1:(b.kind==1)=false:=by rw [h5];decide
    have e4:(b.kind==4)=false:=by rw [h5];decide
    have e10:(b.kind==10)=false:=by rw [h5];decide
    have e2:(b.kind==2)=false:=by rw [h5];decide
    have e3:(b.kind==3)=false:=by rw [h5];decide
    have e5:(b.kind==5)=true:=by rw [h5];decide
    have e6:(b.kind==6)=false:=by rw [h5];decide
    have e7:(b.kind==7)=false:=by rw [h5];decide
    have e8:(b.kind==8)=false:=by rw [h5];decide
    have e9:(b.kind==9)=false:=by rw [h5];decide
    clear hk h5
    go_enter Tryz.func119,Tryz.ntmps119
    go_wp2
    refine bodyPost_ret (v := .agg #[.int .i64 b.kind, .int .u64 0, .bool false, .string ⟨#[]⟩, .int .i64 0, .string b.txt, .slice none 0 0, .slice none 0 0, .slice none 0 0]) (by simp [results,Tryz.results119,go_sem]) rfl ⟨rfl,?_⟩
    exact ((alloc_below w _).trans (((alloc_below _ _).trans ((alloc_below _ _).mono (Nat.le_of_lt (alloc_lt _ _)))).mono (Nat.le_of_lt (alloc_lt _ _))))
  by_cases h6:b.kind=6
  · have hR : bar b = ⟨b.kind, 0, false, ⟨#[]⟩, 0, ⟨#[]⟩, b.ab, b.lb, b.cb, none, 0, 0, none, 0, 0⟩ := by unfold bar; simp [h6]
    rw [hR]
    clear hR
    have hk:Hid (b.kind=6):=h6
    have e1:(b.kind==1)=false:=by rw [h6];decide
    have e4:(b.kind==4)=false:=by rw [h6];decide
    have e10:(b.kind==10)=false:=by rw [h6];decide
    have e2:(b.kind==2)=false:=by rw [h6];decide
    have e3:(b.kind==3)=false:=by rw [h6];decide
    have e5:(b.kind==5)=false:=by rw [h6];decide
    have e6:(b.kind==6)=true:=by rw [h6];decide
    have e7:(b.kind==7)=false:=by rw [h6];decide
    have e8:(b.kind==8)=false:=by rw [h6];decide
    have e9:(b.kind==9)=false:=by rw [h6];decide
    clear hk h6
    go_enter Tryz.func119,Tryz.ntmps119
    go_wp2
    refine bodyPost_ret (v := .agg #[.int .i64 b.kind, .int .u64 0, .bool false, .string ⟨#[]⟩, .int .i64 0, .string ⟨#[]⟩, .slice b.ab b.lb b.cb, .slice none 0 0, .slice none 0 0]) (by simp [results,Tryz.results119,go_sem]) rfl ⟨rfl,?_⟩
    exact ((alloc_below w _).trans (((alloc_below _ _).trans ((alloc_below _ _).mono (Nat.le_of_lt (alloc_lt _ _)))).mono (Nat.le_of_lt (alloc_lt _ _))))
  by_cases h7:b.kind=7
  · have hR : bar b = ⟨b.kind, 0, false, ⟨#[]⟩, 0, ⟨#[]⟩, none, 0, 0, none, 0, 0, b.ai, b.li, b.ci⟩ := by unfold bar; simp [h7]
    rw [hR]
    clear hR
    have hk:Hid (b.kind=7):=h7
    have e1:(b.kind==1)=false:=by rw [h7];decide
    have e4:(b.kind==4)=false:=by rw [h7];decide
    have e10:(b.kind==10)=false:=by rw [h7];decide
    have e2:(b.kind==2)=false:=by rw [h7];decide
    have e3:(b.kind==3)=false:=by rw [h7];decide
    have e5:(b.kind==5)=false:=by rw [h7];decide
    have e6:(b.kind==6)=false:=by rw [h7];decide
    have e7:(b.kind==7)=true:=by rw [h7];decide
    have e8:(b.kind==8)=false:=by rw [h7];decide
    have e9:(b.kind==9)=false:=by rw [h7];decide
    clear hk h7
    go_enter Tryz.func119,Tryz.ntmps119
    go_wp2
    refine bodyPost_ret (v := .agg #[.int .i64 b.kind, .int .u64 0, .bool false, .string ⟨#[]⟩, .int .i64 0, .string ⟨#[]⟩, .slice none 0 0, .slice none 0 0, .slice b.ai b.li b.ci]) (by simp [results,Tryz.results119,go_sem]) rfl ⟨rfl,?_⟩
    exact ((alloc_below w _).trans (((alloc_below _ _).trans ((alloc_below _ _).mono (Nat.le_of_lt (alloc_lt _ _)))).mono (Nat.le_of_lt (alloc_lt _ _))))
  by_cases h8:b.kind=8
  · have hR : bar b = ⟨b.kind, 0, false, ⟨#[]⟩, 0, ⟨#[]⟩, none, 0, 0, b.ak, b.lk, b.ck, b.ai, b.li, b.ci⟩ := by unfold bar; simp [h8]
    rw [hR]
    clear hR
    have hk:Hid (b.kind=8):=h8
    have e1:(b.kind==1)=false:=by rw [h8];decide
    have e4:(b.kind==4)=false:=by rw [h8];decide
    have e10:(b.kind==10)=false:=by rw [h8];decide
    have e2:(b.kind==2)=false:=by rw [h8];decide
    have e3:(b.kind==3)=false:=by rw [h8];decide
    have e5:(b.kind==5)=false:=by rw [h8];decide
    have e6:(b.kind==6)=false:=by rw [h8];decide
    have e7:(b.kind==7)=false:=by rw [h8];decide
    have e8:(b.kind==8)=true:=by rw [h8];decide
    have e9:(b.kind==9)=false:=by rw [h8];decide
    clear hk h8
    go_enter Tryz.func119,Tryz.ntmps119
    go_wp2
    go_region
    all_goals
      go_wp2
      refine bodyPost_ret (v := .agg #[.int .i64 b.kind, .int .u64 0, .bool false, .string ⟨#[]⟩, .int .i64 0, .string ⟨#[]⟩, .slice none 0 0, .slice b.ak b.lk b.ck, .slice b.ai b.li b.ci]) (by simp [results,Tryz.results119,go_sem]) rfl ⟨rfl,?_⟩
      exact ((alloc_below w _).trans (((alloc_below _ _).trans ((alloc_below _ _).mono (Nat.le_of_lt (alloc_lt _ _)))).mono (Nat.le_of_lt (alloc_lt _ _)))).drew
  by_cases h9:b.kind=9
  · have hR : bar b = ⟨b.kind, b.num, false, ⟨#[]⟩, 0, ⟨#[]⟩, none, 0, 0, none, 0, 0, b.ai, b.li, b.ci⟩ := by unfold bar; simp [h9]
    rw [hR]
    clear hR
    have hk:Hid (b.kind=9):=h9
    have e1:(b.kind==1)=false:=by rw [h9];decide
    have e4:(b.kind==4)=false:=by rw [h9];decide
    have e10:(b.kind==10)=false:=by rw [h9];decide
    have e2:(b.kind==2)=false:=by rw [h9];decide
    have e3:(b.kind==3)=false:=by rw [h9];decide
    have e5:(b.kind==5)=false:=by rw [h9];decide
    have e6:(b.kind==6)=false:=by rw [h9];decide
    have e7:(b.kind==7)=false:=by rw [h9];decide
    have e8:(b.kind==8)=false:=by rw [h9];decide
    have e9:(b.kind==9)=true:=by rw [h9];decide
    clear hk h9
    go_enter Tryz.func119,Tryz.ntmps119
    go_wp2
    go_region
    all_goals
      go_wp2
      refine bodyPost_ret (v := .agg #[.int .i64 b.kind, .int .u64 b.num, .bool false, .string ⟨#[]⟩, .int .i64 0, .string ⟨#[]⟩, .slice none 0 0, .slice none 0 0, .slice b.ai b.li b.ci]) (by simp [results,Tryz.results119,go_sem]) rfl ⟨rfl,?_⟩
      exact ((alloc_below w _).trans (((alloc_below _ _).trans ((alloc_below _ _).mono (Nat.le_of_lt (alloc_lt _ _)))).mono (Nat.le_of_lt (alloc_lt _ _)))).drew
  have hR:bar b=⟨b.kind,0,false,⟨#[]⟩,0,⟨#[]⟩,none,0,0,none,0,0,none,0,0⟩:=by unfold bar;simp [h1,h4,h10,h2,h3,h5,h6,h7,h8,h9]
  rw [hR]
  clear hR
  have e1:(b.kind==1)=false:=by simp [h1]
  have e4:(b.kind==4)=false:=by simp [h4]
  have e10:(b.kind==10)=false:=by simp [h10]
  have e2:(b.kind==2)=false:=by simp [h2]
  have e3:(b.kind==3)=false:=by simp [h3]
  have e5:(b.kind==5)=false:=by simp [h5]
  have e6:(b.kind==6)=false:=by simp [h6]
  have e7:(b.kind==7)=false:=by simp [h7]
  have e8:(b.kind==8)=false:=by simp [h8]
  have e9:(b.kind==9)=false:=by simp [h9]
  clear h1 h4 h10 h2 h3 h5 h6 h7 h8 h9
  go_enter Tryz.func119,Tryz.ntmps119
  go_wp2
  refine bodyPost_ret (v := .agg #[.int .i64 b.kind, .int .u64 0, .bool false, .string ⟨#[]⟩, .int .i64 0, .string ⟨#[]⟩, .slice none 0 0, .slice none 0 0, .slice none 0 0]) (by simp [results,Tryz.results119,go_sem]) rfl ⟨rfl,?_⟩
  exact ((alloc_below w _).trans (((alloc_below _ _).trans ((alloc_below _ _).mono (Nat.le_of_lt (alloc_lt _ _)))).mono (Nat.le_of_lt (alloc_lt _ _))))
theorem number_any(b:Nb)(w:World):Calls Tryz.prog 122 #[.agg b.arr] w fun e w'=>e = .returned (.agg #[.bool b.neg, .string b.dig, .int .i64 b.exp])∧Below w.heap.size w w':=by
  show Calls Tryz.prog 122 #[.agg #[.int .i64 b.kind, .int .u64 b.num, .bool b.neg, .string b.dig, .int .i64 b.exp, .string b.txt, .slice b.ab b.lb b.cb, .slice b.ak b.lk b.ck, .slice b.ai b.li b.ci]] w _
  go_enter Tryz.func122,Tryz.ntmps122
  go_wp2
  refine bodyPost_ret (v := .agg #[.bool b.neg, .string b.dig, .int .i64 b.exp]) (by simp [results,Tryz.results122,go_sem]) rfl ⟨rfl,?_⟩
  exact (alloc_below w _).trans ((alloc_below _ _).mono (Nat.le_of_lt (alloc_lt _ _)))
theorem simple_any (n : Int) (w : World) : Calls Tryz.prog 124 #[.int .u64 n] w fun e w' => e = .returned (.bool (Tr.smp n)) ∧ w' = w := by
  have hR:Tr.smp n=(decide (n<20) || (n==23) || (decide (32≤n) && decide (n<256))):=by unfold Tr.smp;congr 2
  rw [hR]
  clear hR
  cases h1:decide (n<20) with
  | true =>
    go_enter Tryz.func124,Tryz.ntmps124
    go_wp2
    go_ret
    exact ⟨rfl,rfl⟩
  | false =>
    cases h2:(n==23) with
    | true =>
      go_enter Tryz.func124,Tryz.ntmps124
      go_wp2
      go_ret
      exact ⟨rfl,rfl⟩
    | false =>
      cases h3:decide (32≤n) with
      | false =>
        go_enter Tryz.func124,Tryz.ntmps124
        go_wp2
        go_ret
        exact ⟨rfl,rfl⟩
      | true =>
        cases h4:decide (n<256) with
        | false =>
          go_enter Tryz.func124,Tryz.ntmps124
          go_wp2
          go_ret
          exact ⟨rfl,rfl⟩
        | true =>
          go_enter Tryz.func124,Tryz.ntmps124
          go_wp2
          go_ret
          exact ⟨rfl,rfl⟩
end Go.Proofs.YtejlaiofpekchaaGreatDoor
namespace Go.Proofs.YtejlaiofpekchaaGreatDoor
open Go.RowKit
set_option linter.unusedVariables false
theorem odd_doc{D:Nat}{w:World}{b:Nb}{t:Tr}(h:Nd (D+1) w b t):t.odd=(decide (b.kind<0) || decide (10<b.kind) || !t.clean || ((b.kind==1) && decide (1<b.num)) || ((b.kind==8) && ((b.lk:Int) != (b.li:Int))) || ((b.kind==9) && ((b.li:Int) != 1)) || ((b.kind==10) && !Tr.smp b.num)):=by
 have h0:b.kind=t.kind:=h.1.1
 have h1:b.num=t.num:=h.1.2.1
 have hk:t.keys.length=b.lk:=h.2.2.2.1.1
 have hi:t.kids.length=b.li:=h.2.2.2.2.1
 have e8:decide (t.keys.length≠t.kids.length)=((b.lk:Int) != (b.li:Int)):=by
  rw [hk,hi]
  by_cases q:b.lk=b.li
  ·simp [q]
  ·have q' : (b.lk : Int) ≠ (b.li : Int) := by omega
   simp [q,q']
 have e9:decide (t.kids.length≠1)=((b.li:Int) != 1):=by
  rw [hi]
  by_cases q:b.li=1
  ·simp [q]
  ·have q' : (b.li : Int) ≠ 1 := by omega
   simp [q,q']
 have d:∀ n:Int,decide (t.kind=n)=(b.kind==n):=fun n=>by rw [h0,Bool.eq_iff_iff];simp
 unfold Tr.odd
 rw [e8,e9,d 1,d 8,d 9,d 10,←h0,←h1]
end Go.Proofs.YtejlaiofpekchaaGreatDoor
