/-
  What should be zero of a node: tree.rest; and which numbers and counts a Kind may have: tree.mayBe.
  Bytes of a string, laid down and appended to: rows that bear a mark behind their end.
  The document's side: which numbers are in their form, which bytes are digits.
  Whole digits: dec.Whole, and the document's.
-/
import Derived.Test.YtejlaiofpekchaaGreatDoorC5
import Derived.Test.YtejlaiofpekchaaGreatDoorC7
import Derived.Test.YtejlaiofpekchaaGreatDoorC8
import Derived.ArgAppend
import Derived.Lib.ConvBytes
import Derived.Lib.SmallJoins
namespace Go.Proofs.YtejlaiofpekchaaGreatDoor
open Go.RowKit
set_option linter.unusedVariables false
def rst (b : Nb) : Nb :=
  { kind := 0
    num:=if b.kind=1∨b.kind=4∨b.kind=9∨b.kind=10 then 0 else b.num
    neg:=if b.kind=2∨b.kind=3 then false else b.neg
    dig:=if b.kind=2∨b.kind=3 then ⟨#[]⟩ else b.dig
    exp:=if b.kind=3 then 0 else b.exp
    txt:=if b.kind=5 then ⟨#[]⟩ else b.txt
    ab:=if b.kind=6 then none else b.ab
    lb:=if b.kind=6 then 0 else b.lb
    cb:=if b.kind=6 then 0 else b.cb
    ak:=if b.kind=8 then none else b.ak
    lk:=if b.kind=8 then 0 else b.lk
    ck:=if b.kind=8 then 0 else b.ck
    ai:=if b.kind=7∨b.kind=8∨b.kind=9 then none else b.ai
    li:=if b.kind=7∨b.kind=8∨b.kind=9 then 0 else b.li
    ci:=if b.kind=7∨b.kind=8∨b.kind=9 then 0 else b.ci }
def Tr.rst (t : Tr) : Tr :=
  { kind := 0
    num:=if t.kind=1∨t.kind=4∨t.kind=9∨t.kind=10 then 0 else t.num
    neg:=if t.kind=2∨t.kind=3 then false else t.neg
    dig:=if t.kind=2∨t.kind=3 then ⟨#[]⟩ else t.dig
    exp:=if t.kind=3 then 0 else t.exp
    txt:=if t.kind=5 then ⟨#[]⟩ else t.txt
    bytes:=if t.kind=6 then [] else t.bytes
    keys:=if t.kind=8 then [] else t.keys
    kids:=if t.kind=7∨t.kind=8∨t.kind=9 then [] else t.kids }
theorem room_nil(k:Nat):Room k none 0 0:=⟨Nat.le_refl _,Nat.zero_le _,fun _=>rfl,by simp⟩
theorem rowN_nil(Q:Nb→Tr→Prop)(w:World):RowN Q w none 0 0 []:=⟨rfl,room_nil _, .inl rfl⟩
theorem bytes_nil(w:World):Bytes w none []:=⟨by simp,by simp, .inl rfl⟩
theorem nd_zero(D:Nat)(w:World):Nd (D+1) w zN zT:=⟨⟨rfl,rfl,rfl,rfl,rfl,rfl⟩,⟨by decide,by decide,by decide,by decide,by decide⟩,⟨rfl,room_nil _,bytes_nil w⟩,rowN_nil _ _,rowN_nil _ _⟩
theorem nd_rst{D:Nat}{w:World}{b:Nb}{t:Tr}(h:Nd (D+1) w b t):Nd (D+1) w (rst b) t.rst:=by
  obtain ⟨⟨h0,h1,h2,h3,h4,h5⟩,⟨g0,g1,g2,g3,g4⟩,⟨b0,b1,b2⟩,k,i⟩:=h
  unfold rst Tr.rst
  rw [h0,h1,h2,h3,h4,h5]
  refine ⟨⟨rfl,rfl,rfl,rfl,rfl,rfl⟩,⟨by show (Lit.int .i64 0).wf=true;decide,?_,?_,?_,?_⟩,?_,?_,?_⟩
  · simp only; split
    · decide
    · exact g1
  · simp only; split
    · decide
    · exact g2
  · simp only; split
    · decide
    · exact g3
  · simp only; split
    · decide
    · exact g4
  · simp only; split
    · exact ⟨rfl,room_nil _,bytes_nil w⟩
    · exact ⟨b0,b1,b2⟩
  · simp only; split
    · exact rowN_nil _ _
    · exact k
  · simp only; split
    · exact rowN_nil _ _
    · exact i
theorem ite_zero{α : Type}{p:Prop}[Decidable p]{a z:α}:(if p then z else a)=z ↔ (p∨a=z):=by
  by_cases h:p
  · simp [h]
  · simp [h]
theorem rst_clean(t:Tr):t.rst=zT ↔ t.clean=true:=by
  have e3:t.dig.size=0 ↔ t.dig=⟨#[]⟩:=⟨none_size,fun h=>by rw [h];rfl⟩
  have e5:t.txt.size=0 ↔ t.txt=⟨#[]⟩:=⟨none_size,fun h=>by rw [h];rfl⟩
  unfold Tr.clean
  simp only [Bool.and_eq_true,Bool.or_eq_true,decide_eq_true_eq,Bool.not_eq_true',List.length_eq_zero_iff,e3,e5]
  constructor
  · intro h
    have p1:=ite_zero.1 (congrArg Tr.num h)
    have p2:=ite_zero.1 (congrArg Tr.neg h)
    have p3:=ite_zero.1 (congrArg Tr.dig h)
    have p4:=ite_zero.1 (congrArg Tr.exp h)
    have p5:=ite_zero.1 (congrArg Tr.txt h)
    have p6:=ite_zero.1 (congrArg Tr.bytes h)
    have p7:=ite_zero.1 (congrArg Tr.keys h)
    have p8:=ite_zero.1 (congrArg Tr.kids h)
    refine ⟨⟨⟨⟨⟨⟨p1,?_⟩,p4⟩,p5⟩,p6⟩,p7⟩,p8⟩
    rcases p2 with p2 | p2
    · exact .inl p2
    · rcases p3 with p3 | p3
      · exact .inl p3
      · exact .inr ⟨p2,p3⟩
  · rintro ⟨⟨⟨⟨⟨⟨a, b⟩, c⟩, d⟩, e⟩, f⟩, g⟩
    refine Tr.mk_eq rfl (ite_zero.2 a) (ite_zero.2 ?_) (ite_zero.2 ?_) (ite_zero.2 c) (ite_zero.2 d) (ite_zero.2 e) (ite_zero.2 f) (ite_zero.2 g)
    · rcases b with b | b
      · exact .inl b
      · exact .inr b.1
    · rcases b with b | b
      · exact .inl b
      · exact .inr b.2
set_option maxHeartbeats 4000000 in
set_option maxRecDepth 100000 in
theorem rest_any(b:Nb)(w:World):Calls Tryz.prog 79 #[.agg b.arr] w fun e w'=>e = .returned (.agg (rst b).arr)∧Below w.heap.size w w':=by
  show Calls Tryz.prog 79 #[.agg #[.int .i64 b.kind, .int .u64 b.num, .bool b.neg, .string b.dig, .int .i64 b.exp, .string b.txt, .slice b.ab b.lb b.cb, .slice b.ak b.lk b.ck, .slice b.ai b.li b.ci]] w _
  by_cases h1:b.kind=1
  · have hR : rst b = ⟨0, 0, b.neg, b.dig, b.exp, b.txt, b.ab, b.lb, b.cb, b.ak, b.lk, b.ck, b.ai, b.li, b.ci⟩ := by unfold rst; simp [h1]
    rw [hR]
    clear hR
    go_enter Tryz.func79,Tryz.ntmps79
    go_wp2
    refine bodyPost_ret (v := .agg #[.int .i64 0, .int .u64 0, .bool b.neg, .string b.dig, .int .i64 b.exp, .string b.txt, .slice b.ab b.lb b.cb, .slice b.ak b.lk b.ck, .slice b.ai b.li b.ci]) (by simp [results,Tryz.results79,go_sem]) rfl ⟨rfl,?_⟩
    exact (alloc_below w _).trans ((alloc_below _ _).mono (Nat.le_of_lt (alloc_lt _ _)))
  by_cases h4:b.kind=4
  · have hR : rst b = ⟨0, 0, b.neg, b.dig, b.exp, b.txt, b.ab, b.lb, b.cb, b.ak, b.lk, b.ck, b.ai, b.li, b.ci⟩ := by unfold rst; simp [h4]
    rw [hR]
    clear hR
    go_enter Tryz.func79,Tryz.ntmps79
    go_wp2
    refine bodyPost_ret (v := .agg #[.int .i64 0, .int .u64 0, .bool b.neg, .string b.dig, .int .i64 b.exp, .string b.txt, .slice b.ab b.lb b.cb, .slice b.ak b.lk b.ck, .slice b.ai b.li b.ci]) (by simp [results,Tryz.results79,go_sem]) rfl ⟨rfl,?_⟩
    exact (alloc_below w _).trans ((alloc_below _ _).mono (Nat.le_of_lt (alloc_lt _ _)))
  by_cases h10:b.kind=10
  · have hR : rst b = ⟨0, 0, b.neg, b.dig, b.exp, b.txt, b.ab, b.lb, b.cb, b.ak, b.lk, b.ck, b.ai, b.li, b.ci⟩ := by unfold rst; simp [h10]
    rw [hR]
    clear hR
    go_enter Tryz.func79,Tryz.ntmps79
    go_wp2
    refine bodyPost_ret (v := .agg #[.int .i64 0, .int .u64 0, .bool b.neg, .string b.dig, .int .i64 b.exp, .string b.txt, .slice b.ab b.lb b.cb, .slice b.ak b.lk b.ck, .slice b.ai b.li b.ci]) (by simp [results,Tryz.results79,go_sem]) rfl ⟨rfl,?_⟩
    exact (alloc_below w _).trans ((alloc_below _ _).mono (Nat.le_of_lt (alloc_lt _ _)))
  by_cases h2:b.kind=2
  · have hR : rst b = ⟨0, b.num, false, ⟨#[]⟩, b.exp, b.txt, b.ab, b.lb, b.cb, b.ak, b.lk, b.ck, b.ai, b.li, b.ci⟩ := by unfold rst; simp [h2]
    rw [hR]
    clear hR
    go_enter Tryz.func79,Tryz.ntmps79
    go_wp2
    refine bodyPost_ret (v := .agg #[.int .i64 0, .int .u64 b.num, .bool false, .string ⟨#[]⟩, .int .i64 b.exp, .string b.txt, .slice b.ab b.lb b.cb, .slice b.ak b.lk b.ck, .slice b.ai b.li b.ci]) (by simp [results,Tryz.results79,go_sem]) rfl ⟨rfl,?_⟩
    exact (alloc_below w _).trans ((alloc_below _ _).mono (Nat.le_of_lt (alloc_lt _ _)))
  by_cases h3:b.kind=3
  · have hR : rst b = ⟨0, b.num, false, ⟨#[]⟩, 0, b.txt, b.ab, b.lb, b.cb, b.ak, b.lk, b.ck, b.ai, b.li, b.ci⟩ := by unfold rst; simp [h3]
    rw [hR]
    clear hR
    go_enter Tryz.func79,Tryz.ntmps79
    go_wp2
    refine bodyPost_ret (v := .agg #[.int .i64 0, .int .u64 b.num, .bool false, .string ⟨#[]⟩, .int .i64 0, .string b.txt, .slice b.ab b.lb b.cb, .slice b.ak b.lk b.ck, .slice b.ai b.li b.ci]) (by simp [results,Tryz.results79,go_sem]) rfl ⟨rfl,?_⟩
    exact (alloc_below w _).trans ((alloc_below _ _).mono (Nat.le_of_lt (alloc_lt _ _)))
  by_cases h5:b.kind=5
  · have hR : rst b = ⟨0, b.num, b.neg, b.dig, b.exp, ⟨#[]⟩, b.ab, b.lb, b.cb, b.ak, b.lk, b.ck, b.ai, b.li, b.ci⟩ := by unfold rst; simp [h5]
    rw [hR]
    clear hR
    go_enter Tryz.func79,Tryz.ntmps79
    go_wp2
    refine bodyPost_ret (v := .agg #[.int .i64 0, .int .u64 b.num, .bool b.neg, .string b.dig, .int .i64 b.exp, .string ⟨#[]⟩, .slice b.ab b.lb b.cb, .slice b.ak b.lk b.ck, .slice b.ai b.li b.ci]) (by simp [results,Tryz.results79,go_sem]) rfl ⟨rfl,?_⟩
    exact (alloc_below w _).trans ((alloc_below _ _).mono (Nat.le_of_lt (alloc_lt _ _)))
  by_cases h6:b.kind=6
  · have hR : rst b = ⟨0, b.num, b.neg, b.dig, b.exp, b.txt, none, 0, 0, b.ak, b.lk, b.ck, b.ai, b.li, b.ci⟩ := by unfold rst; simp [h6]
    rw [hR]
    clear hR
    go_enter Tryz.func79,Tryz.ntmps79
    go_wp2
    refine bodyPost_ret (v := .agg #[.int .i64 0, .int .u64 b.num, .bool b.neg, .string b.dig, .int .i64 b.exp, .string b.txt, .slice none 0 0, .slice b.ak b.lk b.ck, .slice b.ai b.li b.ci]) (by simp [results,Tryz.results79,go_sem]) rfl ⟨rfl,?_⟩
    exact (alloc_below w _).trans ((alloc_below _ _).mono (Nat.le_of_lt (alloc_lt _ _)))
  by_cases h7:b.kind=7
  · have hR : rst b = ⟨0, b.num, b.neg, b.dig, b.exp, b.txt, b.ab, b.lb, b.cb, b.ak, b.lk, b.ck, none, 0, 0⟩ := by unfold rst; simp [h7]
    rw [hR]
    clear hR
    go_enter Tryz.func79,Tryz.ntmps79
    go_wp2
    refine bodyPost_ret (v := .agg #[.int .i64 0, .int .u64 b.num, .bool b.neg, .string b.dig, .int .i64 b.exp, .string b.txt, .slice b.ab b.lb b.cb, .slice b.ak b.lk b.ck, .slice none 0 0]) (by simp [results,Tryz.results79,go_sem]) rfl ⟨rfl,?_⟩
    exact (alloc_below w _).trans ((alloc_below _ _).mono (Nat.le_of_lt (alloc_lt _ _)))
  by_cases h8:b.kind=8
  · have hR : rst b = ⟨0, b.num, b.neg, b.dig, b.exp, b.txt, b.ab, b.lb, b.cb, none, 0, 0, none, 0, 0⟩ := by unfold rst; simp [h8]
    rw [hR]
    clear hR
    go_enter Tryz.func79,Tryz.ntmps79
    go_wp2
    refine bodyPost_ret (v := .agg #[.int .i64 0, .int .u64 b.num, .bool b.neg, .string b.dig, .int .i64 b.exp, .string b.txt, .slice b.ab b.lb b.cb, .slice none 0 0, .slice none 0 0]) (by simp [results,Tryz.results79,go_sem]) rfl ⟨rfl,?_⟩
    exact (alloc_below w _).trans ((alloc_below _ _).mono (Nat.le_of_lt (alloc_lt _ _)))
  by_cases h9:b.kind=9
  · have hR : rst b = ⟨0, 0, b.neg, b.dig, b.exp, b.txt, b.ab, b.lb, b.cb, b.ak, b.lk, b.ck, none, 0, 0⟩ := by unfold rst; simp [h9]
    rw [hR]
    clear hR
    go_enter Tryz.func79,Tryz.ntmps79
    go_wp2
    refine bodyPost_ret (v := .agg #[.int .i64 0, .int .u64 0, .bool b.neg, .string b.dig, .int .i64 b.exp, .string b.txt, .slice b.ab b.lb b.cb, .slice b.ak b.lk b.ck, .slice none 0 0]) (by simp [results,Tryz.results79,go_sem]) rfl ⟨rfl,?_⟩
    exact (alloc_below w _).trans ((alloc_below _ _).mono (Nat.le_of_lt (alloc_lt _ _)))
  have hR:rst b=⟨0,b.num,b.neg,b.dig,b.exp,b.txt,b.ab,b.lb,b.cb,b.ak,b.lk,b.ck,b.ai,b.li,b.ci⟩:=by unfold rst;simp [h1,h4,h10,h2,h3,h5,h6,h7,h8,h9]
  rw [hR]
  clear hR
  go_enter Tryz.func79,Tryz.ntmps79
  go_wp2
  refine bodyPost_ret (v := .agg #[.int .i64 0, .int .u64 b.num, .bool b.neg, .string b.dig, .int .i64 b.exp, .string b.txt, .slice b.ab b.lb b.cb, .slice b.ak b.lk b.ck, .slice b.ai b.li b.ci]) (by simp [results,Tryz.results79,go_sem]) rfl ⟨rfl,?_⟩
  exact (alloc_below w _).trans ((alloc_below _ _).mono (Nat.le_of_lt (alloc_lt _ _)))
def mayB(b:Nb):Bool :=
  if b.kind=1 then decide (b.num≤1) else if b.kind=8 then decide (b.lk=b.li) else if b.kind=9 then decide (b.li=1)
  else if b.kind=10 then (decide (b.num≤19) || (decide (b.num=23) || (decide (32≤b.num) && decide (b.num≤255)))) else (decide (0≤b.kind) && decide (b.kind≤10))
end Go.Proofs.YtejlaiofpekchaaGreatDoor
namespace Go.Proofs.YtejlaiofpekchaaGreatDoor
open Go.RowKit
def OwnsM(w:World)(base:Nat)(v:Value)(zs:List Int):Prop:=(∀ c∈zs,0≤c∧c<256)∧∃ g cap,v = .slice (some ⟨g,0,none⟩) zs.length cap∧base≤g∧g<w.heap.size∧zs.length≤cap∧cap≤maxLen ∧
 (∀ j,j<cap→(w.cell? ⟨g,j,none⟩).isSome=true∧w.frozen? ⟨g,j,none⟩=false)∧∀ j,j<zs.length→w.cell? ⟨g,j,none⟩=some (.int .u8 (zs.getD j 0))
theorem OwnsM.below{w w':World}{base:Nat}{v:Value}{zs:List Int}(h:OwnsM w base v zs)(hb:Below w.heap.size w w'):OwnsM w' base v zs:=by
 obtain ⟨h0,g,cap,rfl,h1,h2,h3,h4,h5,h6⟩:=h
 have hc:∀ j,w'.cell? ⟨g,j,none⟩=w.cell? ⟨g,j,none⟩:=fun j=>hb.cell (p:=⟨g,j,none⟩) h2
 have hf:∀ j,w'.frozen? ⟨g,j,none⟩=w.frozen? ⟨g,j,none⟩:=fun j=>by
  unfold World.frozen?
  show (match w'.heap[g]? with | _=>_)=_
  rw [hb.block g h2]
 exact ⟨h0,g,cap,rfl,h1,Nat.lt_of_lt_of_le h2 hb.size,h3,h4,fun j hj=>⟨by rw [hc];exact (h5 j hj).1,by rw [hf];exact (h5 j hj).2⟩,fun j hj=>by rw [hc];exact h6 j hj⟩
theorem OwnsM.form{w:World}{base:Nat}{v:Value}{zs:List Int}(h:OwnsM w base v zs):∃ g n cap,v = .slice (some ⟨g,0,none⟩) n cap∧Hid (zs.length=n)∧n≤cap∧cap≤9223372036854775807∧Hid (Bytes w (some ⟨g,0,none⟩) zs):=by
 obtain ⟨h0,g,cap,rfl,h1,h2,h3,h4,h5,h6⟩:=h
 refine ⟨g,zs.length,cap,rfl,rfl,h3,by simpa [maxLen] using h4,?_⟩
 exact ⟨h0,by omega, .inr ⟨g,0,rfl,fun i hi=>by rw [Nat.zero_add];exact h6 i hi⟩⟩
theorem getD_cat{ys:List Int}{c:Int}{j:Nat}(h:j<ys.length+1):(ys++[c]).getD j 0=if j<ys.length then ys.getD j 0 else c:=by
 by_cases hj:j<ys.length
 ·rw [if_pos hj,List.getD_eq_getElem?_getD,List.getElem?_append_left hj,←List.getD_eq_getElem?_getD]
 ·have e : j = ys.length := by omega
  subst e
  rw [if_neg hj,List.getD_eq_getElem?_getD,List.getElem?_append_right (Nat.le_refl _)]
  simp
theorem own_m{w:World}{base:Nat}{v:Value}{zs:List Int}(h:w.ownsRow base 5 1 v zs.length (zs.map (Value.int .u8)))(hz:∀ c∈zs,0≤c∧c<256)(h0:0<zs.length):OwnsM w base v zs:=by
 obtain ⟨hl,hv⟩:=h
 rcases hv with ⟨rfl,hn⟩ | ⟨g,cap,cur,rfl,hb,hg,hnc,hcm,hcs,htk⟩
 ·omega
 ·refine ⟨hz, g, cap, rfl, hb, (Array.getElem?_eq_some_iff.1 hg).1, hnc, hcm, fun j hj => ⟨?_, ?_⟩, fun j hj => ?_⟩
  ·rw [cell_row hg,Array.getElem?_eq_getElem (by omega)];rfl
  ·simp [World.frozen?,hg]
  ·rw [cell_row hg, ← Array.getElem?_toList]
   have h1:(cur.toList.take (zs.length*1))[j]? = (zs.map (Value.int .u8))[j]? := by rw [htk]
   rw [List.getElem?_take,if_pos (by omega),List.getElem?_map] at h1
   rw [h1,List.getD_eq_getElem?_getD,List.getElem?_eq_getElem hj];rfl
theorem wpList_append_m{w:World}{ops:Array Oper}{rest:List Oper}{o:Oper}{a:Act}{Q:Exit→Act→World→Prop}(hgd:o.guard=none)(s x:Operand)
  (ho:o.op = .call { callee := .builtin .append,args:=#[s,x],argTypes:=#[23,23] })
  (base:Nat) (v:Value) (ys:List Int) (c:Int) (hc:0≤c∧c<256) (hs:a.eval s=v) (hown:OwnsM w base v ys)
  (ad:Addr) (hx:a.eval x = .slice (some ad) 1 1) (hcell:w.cell? (ad.add 0)=some (.int .u8 c)) (hlen:ys.length+1≤10000000) (hbase:base≤w.heap.size)
  (h:∀ v' w',OwnsM w' base v' (ys++[c])→Below base w w'→wpList Tryz.prog ops Q rest (a.put o.dst v') w'):wpList Tryz.prog ops Q (o::rest) a w:=by
 obtain ⟨i,hi,hz,hsz,hby⟩:=info_parts info5
 obtain ⟨h0,g,cap,rfl,h1,h2,h3,h4,h5,h6⟩:=hown
 have hzc:∀ d∈ys++[c],0≤d∧d<256:=fun d hd=>by
  rcases List.mem_append.1 hd with h' | h'
  ·exact h0 d h'
  ·simp at h';rw [h'];exact hc
 refine wpList_append_arg w hgd s x 23 ho 5 i (.int .u8 0) 1 1 Tryz.underlying23 hi hz hsz hby rfl (by decide) g 0 ys.length cap (ys.map (Value.int .u8)) hs (by simp) (fun j u hu=>?_) ad 1 1 [.int .u8 c] hx rfl (fun j u hu=>?_) (fun u hu=>by simp at hu;rw [hu];rfl) (fun hr j hj=>?_) (by unfold maxLen;omega) (by omega) (fun hr=>?_) (fun hg v' w' ho' hgr=>?_)
 ·have hj : j < ys.length := by
   have:=(List.getElem?_eq_some_iff.1 hu).1
   simpa using this
  rw [List.getElem?_map,List.getElem?_eq_getElem hj] at hu
  simp only [Option.map_some,Option.some.injEq] at hu
  rw [Nat.zero_add,h6 j hj,←hu,List.getD_eq_getElem?_getD,List.getElem?_eq_getElem hj];rfl
 ·match j, hu with
  | 0,hu=>simp at hu;rw [←hu];exact hcell
 ·have e : 0 + ys.length * 1 + j = ys.length := by simp at hj; omega
  rw [e]
  exact h5 _ (by omega)
 ·have e : 0 + ys.length * 1 = ys.length := by omega
  rw [e]
  have hsome:=(h5 ys.length (by omega)).1
  have hin:(w.setCells g ys.length [.int .u8 c]).cell? ⟨g,ys.length,none⟩=some (.int .u8 c):=by
   show (w.setCell ⟨g,ys.length,none⟩ (.int .u8 c)).cell? _=_
   exact World.cell?_setCell_same' w _ _ hsome
  have hout:∀ j,j≠ys.length→(w.setCells g ys.length [.int .u8 c]).cell? ⟨g,j,none⟩=w.cell? ⟨g,j,none⟩:=fun j hj=>by
   refine World.cell?_setCells_out g _ _ _ _ (fun _ _=>?_)
   show j<ys.length∨ys.length+1≤j
   omega
  refine h _ _ ⟨hzc,g,cap,by rw [List.length_append];rfl,h1,?_,by rw [List.length_append];exact hr,h4,fun j hj=>⟨?_,?_⟩,fun j hj=>?_⟩ ?_
  ·show g < (w.setCell ⟨g, ys.length, none⟩ (.int .u8 c)).heap.size
   simpa [World.setCell] using h2
  ·by_cases e' : j = ys.length
   ·rw [e',hin];rfl
   ·rw [hout j e'];exact (h5 j hj).1
  ·rw [World.frozen?_setCells];exact (h5 j hj).2
  ·rw [List.length_append] at hj
   have hj':j<ys.length+1:=hj
   rw [getD_cat hj']
   by_cases e':j<ys.length
   ·rw [if_pos e',hout j (by omega)];exact h6 j e'
   ·have e2 : j = ys.length := by omega
    rw [if_neg e',e2,hin]
  ·show Below base w (w.setCell ⟨g, ys.length, none⟩ (.int .u8 c))
   exact (Below.refl base w).setCell (p:=⟨g,ys.length,none⟩) h1 _
 ·refine h v' w' (own_m (zs := ys ++ [c]) ?_ hzc (by simp)) ((Below.refl base w).grown hgr hbase (fun k hk => by cases hk))
  have hw:w'.ownsRow w.heap.size 5 1 v' (ys++[c]).length ((ys++[c]).map (Value.int .u8)):=by
   rw [List.length_append,List.map_append];exact ho'
  obtain ⟨hl',hv'⟩:=hw
  refine ⟨hl',?_⟩
  rcases hv' with h' | ⟨g',cap',cur',e1,e2,e3⟩
  ·exact .inl h'
  ·exact .inr ⟨g',cap',cur',e1,Nat.le_trans hbase e2,e3⟩
theorem own_conv(w:World)(s:ByteArray)(hs:s.size≤10000000):OwnsM (Lib.bytesWorld w 5 s) w.heap.size (.slice (some ⟨w.heap.size,0,none⟩) s.size (grownCap w s.size 0 5)) (bs s):=by
 have hsz:(Lib.bytesCells w 5 s).size=grownCap w s.size 0 5:=by
  unfold Lib.bytesCells
  have:=grownCap_ge w s.size 0 5
  simp
  show s.size+_=_
  omega
 have hnew:=Lib.bytesWorld_at_new w 5 s
 refine ⟨bs_bytes s,w.heap.size,_,by rw [bs_len],Nat.le_refl _,by rw [Lib.bytesWorld_size];omega,by rw [bs_len];exact grownCap_ge w _ _ _,grownCap_le_maxLen w _ _ _ (by unfold maxLen;omega),fun j hj=>⟨?_,?_⟩,fun j hj=>?_⟩
 ·have hj2 : j < (Lib.bytesCells w 5 s).size := by rw [hsz]; exact hj
  simp [World.cell?,hnew,hj2]
 ·unfold World.frozen?
  show (match (Lib.bytesWorld w 5 s).heap[w.heap.size]? with | _=>_)=_
  rw [hnew]
  have hj2:j<(Lib.bytesCells w 5 s).size:=by rw [hsz];exact hj
  generalize Lib.bytesCells w 5 s=C at *
  simp
  omega
 ·rw [bs_len] at hj
  rw [Lib.bytesWorld_cell w 5 s j hj,bs_at s hj]
  congr 3
  rw [List.getD_eq_getElem?_getD,Array.getElem?_toList,Array.getElem?_eq_getElem (by exact hj)]
  rfl
end Go.Proofs.YtejlaiofpekchaaGreatDoor
namespace Go.Proofs.YtejlaiofpekchaaGreatDoor
open Go.RowKit
set_option maxRecDepth 100000 in
set_option maxHeartbeats 1000000 in
theorem xright_any(s:ByteArray)(w:World):Calls Tryz.prog 121 #[.string s] w fun e w'=>e = .returned (.bool (rt s))∧w'=w:=by
 by_cases h0:s.size=0
 ·obtain rfl := empty_size h0
  have hr:rt noS=false:=rfl
  rw [hr]
  unfold noS
  go_enter Tryz.func121,Tryz.ntmps121
  go_wp2
  go_ret
  exact ⟨rfl,rfl⟩
 have d0:(((s.size:Nat):Int)==0)=false:=by rw [beq_eq_false_iff_ne];omega
 by_cases h1:800<s.size
 ·have hr : rt s = false := rt_not fun h => by have := h.2; rw [bs_len] at this; omega
  rw [hr]
  have d1:decide (800<((s.size:Nat):Int))=true:=by simp;omega
  clear h0 h1
  go_enter Tryz.func121,Tryz.ntmps121
  go_wp2
  go_ret
  exact ⟨rfl,rfl⟩
 have d1:decide (800<((s.size:Nat):Int))=false:=by simp;omega
 have b0:=bs_at s (k:=0) (by omega)
 have hp:0<s.size:=by omega
 by_cases hz:(bs s).getD 0 0=48∧1<s.size
 ·have hr : rt s = false := rt_not fun h => by have := h.1.2.2 hz.1; rw [bs_len] at this; omega
  rw [hr]
  have e0:(((s[0]'hp).toNat:Nat):Int)=48:=by rw [←b0,hz.1]
  have d2:decide (1<((s.size:Nat):Int))=true:=by simp;omega
  clear b0 hz h0 h1
  go_enter Tryz.func121,Tryz.ntmps121
  go_wp2
  go_ret
  exact ⟨rfl,rfl⟩
 have hend:Hid ((∀ c∈(bs s).take s.size,48≤c∧c≤57)→rt s=true):=all_digs (by omega) (by omega) (by
  by_cases h:(bs s).getD 0 0=48
  ·exact .inr (by have:¬ 1<s.size:=fun h2=>hz ⟨h,h2⟩;omega)
  ·exact .inl h)
 have hall:Hid (∀ k,k<s.size→(bs s).getD k 0<48∨57<(bs s).getD k 0→rt s=false):=fun k hk h=>not_digs hk h
 have hgo : Hid (∀ R, R = rt s → Calls Tryz.prog 121 #[.string s] w fun e w' => e = .returned (.bool R) ∧ w' = w) := by
  intro R hR
  have hend':Hid ((∀ c∈(bs s).take s.size,48≤c∧c≤57)→R=true):=by rw [hR];exact hend.out
  have hall':Hid (∀ k,k<s.size→(bs s).getD k 0<48∨57<(bs s).getD k 0→R=false):=by rw [hR];exact hall.out
  clear hR hend hall
  by_cases hz1:(bs s).getD 0 0=48
  ·have e0 : (((s[0]'hp).toNat : Nat) : Int) = 48 := by rw [← b0, hz1]
   have d2:decide (1<((s.size:Nat):Int))=false:=by
    have:¬ 1<s.size:=fun h2=>hz ⟨hz1,h2⟩
    simp;omega
   clear hz1 hz b0
   go_enter Tryz.func121,Tryz.ntmps121
   go_wp2
   go_loop [3] (fun v=>∃ k:Nat,k≤s.size∧v = .int .i64 k∧Hid (∀ c∈(bs s).take k,48≤c∧c≤57)) (fun v=>s.size - (intOf v).toNat)
   case atStart=>exact ⟨0,Nat.zero_le _,rfl,(by intro c hc;simp at hc)⟩
   case round =>
    obtain ⟨k,hk,rfl,hd⟩:=hrel
    by_cases hlt:k<s.size
    ·have bk := bs_at s hlt
     have hC:Hid (_→_→_):=fun h1 h2=>take_digs hd.out (by rw [bs_len];exact hlt) ⟨h1,h2⟩
     have hN:=hall'.out k hlt
     by_cases hA:(bs s).getD k 0<48
     ·have d2 : decide ((((s[k]'hlt).toNat : Nat) : Int) < 48) = true := by rw [← bk]; simpa using hA
      obtain rfl:=hN (.inl hA)
      clear bk hA
      go_wp2
      go_ret
      exact ⟨rfl,rfl⟩
     by_cases hB:57<(bs s).getD k 0
     ·have d2 : decide ((((s[k]'hlt).toNat : Nat) : Int) < 48) = false := by rw [← bk]; simpa using hA
      have d3:decide (57<(((s[k]'hlt).toNat:Nat):Int))=true:=by rw [←bk];simpa using hB
      obtain rfl:=hN (.inr hB)
      clear bk hA hB
      go_wp2
      go_ret
      exact ⟨rfl,rfl⟩
     ·have d2 : decide ((((s[k]'hlt).toNat : Nat) : Int) < 48) = false := by rw [← bk]; simpa using hA
      have d3:decide (57<(((s[k]'hlt).toNat:Nat):Int))=false:=by rw [←bk];simpa using hB
      have hC':Hid _:=hC.out (by omega) (by omega)
      clear bk hA hB hN hC
      go_wp2
      go_round
      case rel=>exact ⟨k+1,by omega,by go_num,hC'⟩
      case measure=>simp [intOf];omega
    ·obtain rfl : k = s.size := by omega
     obtain rfl:=hend'.out hd.out
     go_wp2
     go_ret
     exact ⟨rfl,rfl⟩
  ·have e0 : ((((s[0]'hp).toNat : Nat) : Int) == 48) = false := by rw [← b0]; simpa using hz1
   clear hz1 hz b0
   go_enter Tryz.func121,Tryz.ntmps121
   go_wp2
   go_loop [3] (fun v=>∃ k:Nat,k≤s.size∧v = .int .i64 k∧Hid (∀ c∈(bs s).take k,48≤c∧c≤57)) (fun v=>s.size - (intOf v).toNat)
   case atStart=>exact ⟨0,Nat.zero_le _,rfl,(by intro c hc;simp at hc)⟩
   case round =>
    obtain ⟨k,hk,rfl,hd⟩:=hrel
    by_cases hlt:k<s.size
    ·have bk := bs_at s hlt
     have hC:Hid (_→_→_):=fun h1 h2=>take_digs hd.out (by rw [bs_len];exact hlt) ⟨h1,h2⟩
     have hN:=hall'.out k hlt
     by_cases hA:(bs s).getD k 0<48
     ·have d2 : decide ((((s[k]'hlt).toNat : Nat) : Int) < 48) = true := by rw [← bk]; simpa using hA
      obtain rfl:=hN (.inl hA)
      clear bk hA
      go_wp2
      go_ret
      exact ⟨rfl,rfl⟩
     by_cases hB:57<(bs s).getD k 0
     ·have d2 : decide ((((s[k]'hlt).toNat : Nat) : Int) < 48) = false := by rw [← bk]; simpa using hA
      have d3:decide (57<(((s[k]'hlt).toNat:Nat):Int))=true:=by rw [←bk];simpa using hB
      obtain rfl:=hN (.inr hB)
      clear bk hA hB
      go_wp2
      go_ret
      exact ⟨rfl,rfl⟩
     ·have d2 : decide ((((s[k]'hlt).toNat : Nat) : Int) < 48) = false := by rw [← bk]; simpa using hA
      have d3:decide (57<(((s[k]'hlt).toNat:Nat):Int))=false:=by rw [←bk];simpa using hB
      have hC':Hid _:=hC.out (by omega) (by omega)
      clear bk hA hB hN hC
      go_wp2
      go_round
      case rel=>exact ⟨k+1,by omega,by go_num,hC'⟩
      case measure=>simp [intOf];omega
    ·obtain rfl : k = s.size := by omega
     obtain rfl:=hend'.out hd.out
     go_wp2
     go_ret
     exact ⟨rfl,rfl⟩
 exact hgo.out _ rfl
set_option maxHeartbeats 1000000 in
theorem yright_any(n:Bool)(s:ByteArray)(x:Int)(w:World):Calls Tryz.prog 123 #[.agg #[.bool n, .string s, .int .i64 x]] w fun e w'=>e = .returned (.bool (rtN n s x))∧Below w.heap.size w w':=by
 have kR:=xright_any s
 obtain ⟨b0,b1,b2⟩:=box_at w n s x 86
 have hb:=alloc_below w (.cells #[.bool n, .string s, .int .i64 x] 86)
 cases h1:rt s with
 | false =>
  have hR:rtN n s x=false:=by
   cases h:rtN n s x with
   | false=>rfl
   | true=>rw [rtN_rt h] at h1;cases h1
  rw [hR]
  rw [h1] at kR
  clear hR h1
  go_enter Tryz.func123,Tryz.ntmps123
  go_wp2_with (go_at_call 121;refine (kR _).mono ?_;rintro e w1 ⟨rfl,hw⟩;rw [hw];clear hw)
  go_ret
  exact ⟨rfl,hb⟩
 | true =>
  rw [h1] at kR
  by_cases hz:s=zS
  ·subst hz
   have hR:rtN n zS x=(!n && (x==0)):=by unfold rtN;rw [if_pos bs_z]
   rw [hR]
   clear hR h1
   unfold zS at *
   cases n with
   | true =>
    go_enter Tryz.func123,Tryz.ntmps123
    go_wp2_with (go_at_call 121;refine (kR _).mono ?_;rintro e w1 ⟨rfl,hw⟩;rw [hw];clear hw)
    go_ret
    exact ⟨rfl,hb⟩
   | false =>
    go_enter Tryz.func123,Tryz.ntmps123
    go_wp2_with (go_at_call 121;refine (kR _).mono ?_;rintro e w1 ⟨rfl,hw⟩;rw [hw];clear hw)
    go_ret
    exact ⟨rfl,hb⟩
  ·have hz' : (s.toList == [48]) = false := by rw [eq_size]; simpa using hz
   have hR:rtN n s x=((bs s).getD (s.size - 1) 0 != 48 && (decide (-2000≤x) && decide (x≤2000))):=by
    unfold rtN
    rw [if_neg (fun h=>hz ((z_iff s).1 h)),h1,Bool.true_and]
   rw [hR]
   have hsz:=rt_size h1
   obtain ⟨m,hm⟩:∃ m,s.size - 1=m:=⟨_,rfl⟩
   have hlt:m<s.size:=by omega
   have bk:=bs_at s hlt
   rw [hm,bk]
   have w1:IntKind.i64.wrap (((s.size:Nat):Int) - 1)=((m:Nat):Int):=by rw [IntKind.wrap_i64] <;> omega
   clear hR bk hm hsz h1 hz
   cases e1:((((s[m]'hlt).toNat:Nat):Int) != 48) with
   | false =>
    go_enter Tryz.func123,Tryz.ntmps123
    go_wp2_with (go_at_call 121;refine (kR _).mono ?_;rintro e w1 ⟨rfl,hw⟩;rw [hw];clear hw)
    go_ret
    exact ⟨rfl,hb⟩
   | true =>
    by_cases h3 : -2000≤x
    ·have d3 : decide (-2000 ≤ x) = true := by simpa using h3
     rw [d3]
     clear h3
     go_enter Tryz.func123,Tryz.ntmps123
     go_wp2_with (go_at_call 121;refine (kR _).mono ?_;rintro e w1 ⟨rfl,hw⟩;rw [hw];clear hw)
     go_ret
     exact ⟨by simp,hb⟩
    ·have d3 : decide (-2000 ≤ x) = false := by simpa using h3
     rw [d3]
     clear h3
     go_enter Tryz.func123,Tryz.ntmps123
     go_wp2_with (go_at_call 121;refine (kR _).mono ?_;rintro e w1 ⟨rfl,hw⟩;rw [hw];clear hw)
     go_ret
     exact ⟨by simp,hb⟩
end Go.Proofs.YtejlaiofpekchaaGreatDoor
namespace Go.Proofs.YtejlaiofpekchaaGreatDoor
open Go.RowKit
def padW(s:ByteArray)(k:Nat):ByteArray:=strOfNums (bs s++zerosL k)
theorem pad_bytes(s:ByteArray)(k:Nat):∀ c∈bs s++zerosL k,0≤c∧c<256:=fun c hc=>by
 rcases List.mem_append.1 hc with h | h
 ·exact bs_bytes s c h
 ·rw [(List.mem_replicate.1 h).2];decide
theorem bs_padW(s:ByteArray)(k:Nat):bs (padW s k)=bs s++zerosL k:=bs_str (pad_bytes s k)
theorem padW_size(s:ByteArray)(k:Nat):(padW s k).size=s.size+k:=by rw [←bs_len,bs_padW,List.length_append,bs_len];unfold zerosL;rw [List.length_replicate]
theorem padW_zero(s:ByteArray):padW s 0=s:=by apply bs_inj;rw [bs_padW];exact List.append_nil _
theorem bs_catW(s t:ByteArray):bs (s++t)=bs s++bs t:=by
 unfold bs
 rw [ByteArray.data_append,Array.toList_append,List.map_append]
theorem zeros_snoc(k:Nat):zerosL k++[48]=zerosL (k+1):=by unfold zerosL;rw [List.replicate_succ']
theorem padW_succ(s:ByteArray)(k:Nat):padW s k++⟨#[48]⟩=padW s (k+1):=by
 apply bs_inj
 rw [bs_catW,bs_padW,bs_padW,List.append_assoc]
 congr 1
 exact zeros_snoc k
def wholeA(n:Bool)(s:ByteArray)(x:Int):ByteArray × Bool:=if rtN n s x=true∧0≤x∧((s.size:Nat):Int)+x≤800 then (padW s x.toNat,true) else (noS,false)
theorem rt_padW{n:Bool}{s:ByteArray}{k:Nat}(h:rtN n s ((k:Nat):Int)=true):rt (padW s k)=decide (s.size+k≤800):=by
 have hf:=(rtN_iff n s _).1 h
 by_cases hz:bs s=[48]
 ·have h0 := (hf.2.1 hz).2
  have hk:k=0:=by omega
  subst hk
  have hs:=(rt_size (rtN_rt h)).2
  rw [padW_zero,rtN_rt h]
  simp
  exact hs
 ·have hc : Canon (bs s ++ zerosL k) := by
   refine ⟨fun h1=>hf.1.1.1 (List.append_eq_nil_iff.1 h1).1,digs_append hf.1.1.2.1 (zeros_digs k),fun h1=>?_⟩
   exfalso
   rcases hx:bs s with _ | ⟨c,t⟩
   ·exact hf.1.1.1 hx
   ·rw [hx] at h1
    have hc:c=48:=h1
    have h3:=hf.1.1.2.2 (by rw [hx];exact hc)
    rw [hx] at h3
    have ht:t=[]:=List.eq_nil_of_length_eq_zero (by simpa using h3)
    exact hz (by rw [hx,ht,hc])
  have hl:(bs s++zerosL k).length=s.size+k:=by rw [←bs_padW,bs_len,padW_size]
  rw [Bool.eq_iff_iff,decide_eq_true_iff,rt_iff,bs_padW]
  constructor
  ·intro h1
   have:=h1.2
   omega
  ·intro h1
   exact ⟨hc,by omega⟩
theorem cell48(w:World):(w.alloc (.cells #[.int .u8 48] 5)).cell? ((⟨w.heap.size,0,none⟩:Addr).add 0)=some (.int .u8 48):=by
 have h:(⟨w.heap.size,0,none⟩:Addr).add 0=⟨w.heap.size,0+0,none⟩:=by simp [Addr.add]
 rw [h]
 exact World.cell?_alloc_mark w _ _ _ _
theorem conv_below(w:World)(s:ByteArray):Below w.heap.size w (Lib.bytesWorld w 5 s):=⟨rfl,rfl,rfl,by rw [Lib.bytesWorld_size];omega,fun k hk=>Lib.bytesWorld_at_old w 5 s k hk⟩
set_option maxRecDepth 100000 in
set_option maxHeartbeats 2000000 in
theorem whole_any(n:Bool)(s:ByteArray)(x:Int)(w:World):Calls Tryz.prog 115 #[.agg #[.bool n, .string s, .int .i64 x]] w fun e w'=>e = .returned (.tuple #[.string (wholeA n s x).1, .bool (wholeA n s x).2])∧Below w.heap.size w w':=by
 have kR:=dright_any n s x
 have hB:=box_at w n s x 86
 obtain ⟨b0,b1,b2⟩:=id hB
 cases hr:rtN n s x with
 | false =>
  rw [show wholeA n s x=(noS,false) from by unfold wholeA;rw [if_neg (by rw [hr];simp)]]
  rw [hr] at kR
  clear hr
  go_enter Tryz.func115,Tryz.ntmps115
  go_wp2_with (go_at_call 116;refine (kR _).mono ?_;rintro e w1 ⟨rfl,hb⟩)
  go_ret2
  exact ⟨rfl,box_below hb⟩
 | true =>
  have hx:=rtN_exp hr
  have hsz:=(rt_size (rtN_rt hr)).2
  have hrp:Hid (∀ k:Nat,x=((k:Nat):Int)→rt (padW s k)=decide (s.size+k≤800)):=fun k hk=>rt_padW (n:=n) (by rw [←hk];exact hr)
  by_cases hneg:x<0
  ·rw [show wholeA n s x = (noS, false) from by unfold wholeA; rw [if_neg (by omega)]]
   rw [hr] at kR
   have d1:decide (x<0)=true:=by simpa using hneg
   have hB':Hid (NmAt (w.alloc (.cells #[.bool n, .string s, .int .i64 x] 86)) w.heap.size n s x):=hB
   clear hr hx hsz hrp hneg hB
   go_enter Tryz.func115,Tryz.ntmps115
   go_wp2_with (go_at_call 116;refine (kR _).mono ?_;rintro e w1 ⟨rfl,hb⟩;obtain ⟨c0,c1,c2⟩:=hB'.out.kept hb (alloc_lt _ _))
   go_ret2
   exact ⟨rfl,box_below hb⟩
  ·obtain ⟨k, rfl⟩ : ∃ k : Nat, x = k := ⟨x.toNat, by omega⟩
   have hA:Hid (wholeA n s ((k:Nat):Int)=if s.size+k≤800 then (padW s k,true) else (noS,false)):=by
    show _=_
    unfold wholeA
    by_cases h8:s.size+k≤800
    ·rw [if_pos ⟨hr,by omega,by omega⟩,if_pos h8,Int.toNat_natCast]
    ·rw [if_neg (by omega),if_neg h8]
   have hrt:=hrp.out k rfl
   rw [hr] at kR
   have d1:decide (((k:Nat):Int)<0)=false:=by simp
   have hk2:k≤2000:=by omega
   have hB':Hid (NmAt (w.alloc (.cells #[.bool n, .string s, .int .i64 ((k:Nat):Int)] 86)) w.heap.size n s ((k:Nat):Int)):=hB
   have hrt':Hid (rt (padW s k)=decide (s.size+k≤800)):=hrt
   have hsz':Hid (s.size≤800):=hsz
   clear hr hx hsz hrp hneg hB hrt
   generalize wholeA n s ((k:Nat):Int)=WA at *
   go_enter Tryz.func115,Tryz.ntmps115
   go_wp2_with fail
   refine (kR _).mono ?_
   rintro e w1 ⟨rfl,hb⟩
   have hN1:=hB'.out.kept hb (alloc_lt _ _)
   have d2:=box_below hb
   obtain ⟨c0,c1,c2⟩:=id hN1
   have hcv:=Lib.run_convert_string_bytes (P:=Tryz.prog) w1 9 23 5 s Tryz.underlying9 Tryz.underlying23 Tryz.underlying5
   have hO:=own_conv w1 s (by have:=hsz'.out;omega)
   have hbw:Below w1.heap.size w1 (Lib.bytesWorld w1 5 s):=conv_below w1 s
   have hN2:=hN1.kept hbw (Nat.lt_of_lt_of_le (alloc_lt _ _) hb.size)
   generalize Lib.bytesWorld w1 5 s=W2 at *
   generalize grownCap w1 s.size 0 5=cap2 at *
   obtain ⟨e0,e1,e2⟩:=hN2
   have hO':Hid (OwnsM W2 w.heap.size (.slice (some ⟨w1.heap.size,0,none⟩) s.size cap2) (bs s)):=by
    obtain ⟨q0,g,cap,q1,q2,q3⟩:=hO
    exact ⟨q0,g,cap,q1,Nat.le_trans d2.size q2,q3⟩
   have d3:Hid (Below w.heap.size w W2):=d2.trans (hbw.mono d2.size)
   clear hO hbw d2 hb hN1 kR
   go_wp2
   go_loopw [4,19] (fun v iv wr=>∃ j:Nat,j≤k∧iv = .int .i64 j∧Hid (OwnsM wr w.heap.size v (bs s++zerosL j))∧Hid (Below w.heap.size w wr)) (fun _ iv _=>k - (intOf iv).toNat)
   case atStart=>exact ⟨0,Nat.zero_le _,rfl,(by show OwnsM _ _ _ _;rw [show zerosL 0=[] from rfl,List.append_nil];exact hO'.out),d3⟩
   case round =>
    obtain ⟨j,hj,rfl,hOj,hbj⟩:=hrel
    clear hO' d3 e0 e1 e2 c0 c1 c2 hcv
    by_cases hlt:j<k
    ·have hlj : Hid ((bs s ++ zerosL j).length + 1 ≤ 10000000) := by have := hsz'.out; show _ ≤ _; rw [List.length_append, bs_len]; unfold zerosL; rw [List.length_replicate]; omega
     have hbs:=hbj.out.size
     have wj:IntKind.i64.wrap (((j:Nat):Int)+1)=((j:Nat):Int)+1:=by rw [IntKind.wrap_i64] <;> omega
     have hlt':((j:Nat):Int)<((k:Nat):Int):=by omega
     go_wp2_with (at_builtin;refine wpList_append_m rfl _ _ rfl w.heap.size _ (bs s++zerosL j) 48 (by decide) rfl (hOj.out.below (alloc_below wr _)) _ rfl (cell48 wr) hlj.out (Nat.le_trans hbs (Nat.le_of_lt (alloc_lt wr _))) ?_;intro v' w9 ho9 hb9)
     have ho9':Hid (OwnsM w9 w.heap.size v' (bs s++zerosL (j+1))):=by show OwnsM _ _ _ _;rw [←zeros_snoc,←List.append_assoc];exact ho9
     have d9:Hid (Below w.heap.size w w9):=(hbj.out.alloc hbs _).trans hb9
     clear ho9 hb9
     go_roundw
     case rel=>exact ⟨j+1,by omega,by go_num,ho9',d9⟩
     case measure=>simp [intOf];omega
    ·obtain rfl : j = k := by omega
     obtain ⟨g,m,cap,rfl,hm,hmc,hcm,hBy⟩:=hOj.out.form
     have cv:=conv_str hBy.out m cap hm.out
     have e:strOfNums (bs s++zerosL j)=padW s j:=rfl
     rw [e] at cv
     have kQ:=right_any (padW s j)
     rw [hrt'.out] at kQ
     clear hlt hBy hOj e
     by_cases h8:s.size+j≤800
     ·have hWA := hA.out
      rw [if_pos h8] at hWA
      subst hWA
      rw [show decide (s.size+j≤800)=true from by simpa using h8] at kQ
      clear h8 hrt'
      go_wp2_with (go_at_call 114;refine (kQ _).mono ?_;rintro e w5 ⟨rfl,hw5⟩;rw [hw5];clear hw5)
      go_ret2
      exact ⟨rfl,hbj.out⟩
     ·have hWA := hA.out
      rw [if_neg h8] at hWA
      subst hWA
      rw [show decide (s.size+j≤800)=false from by simpa using h8] at kQ
      clear h8 hrt'
      generalize padW s j=PW at *
      go_wp2_with (go_at_call 114;refine (kQ _).mono ?_;rintro e w5 ⟨rfl,hw5⟩;rw [hw5];clear hw5)
      go_ret2
      exact ⟨rfl,hbj.out⟩
set_option maxRecDepth 100000 in
set_option maxHeartbeats 2000000 in
theorem ywhole_any(n:Bool)(s:ByteArray)(x:Int)(w:World):Calls Tryz.prog 92 #[.agg #[.bool n, .string s, .int .i64 x]] w fun e w'=>e = .returned (.tuple #[.string (wholeA n s x).1, .bool (wholeA n s x).2])∧Below w.heap.size w w':=by
 have kR:=yright_any n s x
 have hB:=box_at w n s x 86
 obtain ⟨b0,b1,b2⟩:=id hB
 have hB':Hid (NmAt (w.alloc (.cells #[.bool n, .string s, .int .i64 x] 86)) w.heap.size n s x):=hB
 clear hB
 cases hr:rtN n s x with
 | false =>
  rw [show wholeA n s x=(noS,false) from by unfold wholeA;rw [if_neg (by rw [hr];simp)]]
  rw [hr] at kR
  clear hr
  go_enter Tryz.func92,Tryz.ntmps92
  go_wp2_with (go_at_call 123;refine (kR _).mono ?_;rintro e w1 ⟨rfl,hb⟩;obtain ⟨c0,c1,c2⟩:=hB'.out.kept hb (alloc_lt _ _))
  go_ret2
  exact ⟨rfl,box_below hb⟩
 | true =>
  have hx:=rtN_exp hr
  have hsz:=(rt_size (rtN_rt hr)).2
  rw [hr] at kR
  by_cases hneg:x<0
  ·rw [show wholeA n s x = (noS, false) from by unfold wholeA; rw [if_neg (by omega)]]
   have d1:decide (x<0)=true:=by simpa using hneg
   clear hr hx hsz hneg
   go_enter Tryz.func92,Tryz.ntmps92
   go_wp2_with (go_at_call 123;refine (kR _).mono ?_;rintro e w1 ⟨rfl,hb⟩;obtain ⟨c0,c1,c2⟩:=hB'.out.kept hb (alloc_lt _ _))
   go_ret2
   exact ⟨rfl,box_below hb⟩
  ·obtain ⟨k, rfl⟩ : ∃ k : Nat, x = k := ⟨x.toNat, by omega⟩
   have d1:decide (((k:Nat):Int)<0)=false:=by simp
   have d2:IntKind.i64.wrap (((s.size:Nat):Int)+((k:Nat):Int))=((s.size+k:Nat):Int):=by rw [IntKind.wrap_i64] <;> omega
   by_cases h8:s.size+k≤800
   ·have hA : wholeA n s ((k : Nat) : Int) = (padW s k, true) := by
     unfold wholeA
     rw [if_pos ⟨hr,by omega,by omega⟩,Int.toNat_natCast]
    rw [hA]
    have d3:decide (800<((s.size+k:Nat):Int))=false:=by simp;omega
    have hk8:Hid (s.size+k≤800):=h8
    clear hA hr hx hsz hneg h8
    generalize ((s.size+k:Nat):Int)=SK at *
    go_enter Tryz.func92,Tryz.ntmps92
    go_wp2_with (go_at_call 123;refine (kR _).mono ?_;rintro e w1 ⟨rfl,hb⟩;obtain ⟨c0,c1,c2⟩:=hB'.out.kept hb (alloc_lt _ _))
    have d9:=box_below hb
    clear hb
    go_loop [4,5] (fun v iv=>∃ (j:Nat) (t:ByteArray),j≤k∧iv = .int .i64 j∧v = .string t∧Hid (t=padW s j)) (fun _ iv=>k - (intOf iv).toNat)
    case atStart=>exact ⟨0,s,Nat.zero_le _,rfl,rfl,(padW_zero s).symm⟩
    case round =>
     obtain ⟨j,t,hj,rfl,rfl,ht⟩:=hrel
     by_cases hlt:j<k
     ·have hts : t.size = s.size + j := by rw [ht.out, padW_size]
      have h8:=hk8.out
      have hfit:¬ 9223372036854775807<t.size+1:=by omega
      have wj:IntKind.i64.wrap (((j:Nat):Int)+1)=((j:Nat):Int)+1:=by rw [IntKind.wrap_i64] <;> omega
      have hlt':((j:Nat):Int)<((k:Nat):Int):=by omega
      have ht':Hid (t++⟨#[48]⟩=padW s (j+1)):=by show _=_;rw [ht.out];exact padW_succ s j
      clear hts h8
      go_wp2
      go_round
      case rel=>exact ⟨j+1,_,by omega,by go_num,rfl,ht'⟩
      case measure=>simp [intOf];omega
     ·obtain rfl : j = k := by omega
      clear hlt
      go_wp2
      go_ret2
      exact ⟨by rw [←ht.out];rfl,d9⟩
   ·have hA : wholeA n s ((k : Nat) : Int) = (noS, false) := by
     unfold wholeA
     rw [if_neg (by omega)]
    rw [hA]
    have d3:decide (800<((s.size+k:Nat):Int))=true:=by simp;omega
    clear hA hr hx hsz hneg h8
    generalize ((s.size+k:Nat):Int)=SK at *
    go_enter Tryz.func92,Tryz.ntmps92
    go_wp2_with (go_at_call 123;refine (kR _).mono ?_;rintro e w1 ⟨rfl,hb⟩;obtain ⟨c0,c1,c2⟩:=hB'.out.kept hb (alloc_lt _ _))
    go_ret2
    exact ⟨rfl,box_below hb⟩
end Go.Proofs.YtejlaiofpekchaaGreatDoor
