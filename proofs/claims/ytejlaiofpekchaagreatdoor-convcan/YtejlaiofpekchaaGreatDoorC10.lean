/-
  Groups of digits: room for them (nat.room), and what is carried in them (nat.settle).
  A region that draws its order, in a round of a loop over a function: where no operation of it is a defer statement, it is walked as outside every round.
  A number's digits gone over from the last one on (nat.fromLast), and a number put into groups (nat.put, nat.gather).
  What a number's digits, put into groups one by one, come to; a number in groups (nat.gather).
  Groups gone over from the last one on: slices.Backward.
  Digits without the 0 ahead: bytes.TrimLeft.
-/
import Derived.Test.YtejlaiofpekchaaGreatDoorC4
import Derived.Test.YtejlaiofpekchaaGreatDoorC3
import Derived.RangeFuncNested
import Derived.RangeFuncBound
import Derived.RangeFuncCalls
import Derived.RangeFuncLeaves
import Derived.RangeFuncBox
import Derived.Shelf.Abstract
import Derived.Shelf.RegionOpen
import Derived.OwnWalkIn
import Derived.TacticsInMore
import Derived.LoopNIn
import Derived.LoopIn
namespace Go.Proofs.YtejlaiofpekchaaGreatDoor
open Go.RowKit
theorem tmod_neg{n:Int}(h:n.tmod 1000000<0):n % 1000000=n.tmod 1000000+1000000∧n / 1000000=n.tdiv 1000000 - 1:=by
 have h1:=Int.tmod_add_mul_tdiv n 1000000
 have h2 : -1000000<n.tmod 1000000:=by
  have:=Int.lt_tmod_of_pos n (b:=1000000) (by decide)
  omega
 omega
theorem tmod_pos{n:Int}(h:¬ n.tmod 1000000<0):n % 1000000=n.tmod 1000000∧n / 1000000=n.tdiv 1000000:=by
 have h1:=Int.tmod_add_mul_tdiv n 1000000
 have h2:=Int.tmod_lt_of_pos n (b:=1000000) (by decide)
 omega
theorem set_mid{r l:List Int}{k:Nat}(hr:r.length=k)(hk:k<l.length)(u:Int):(r++l.drop k).set k u=(r++[u])++l.drop (k+1):=by
 rw [List.drop_eq_getElem_cons hk,List.set_append_right _ _ (by omega),hr,Nat.sub_self,List.set_cons_zero,List.append_assoc]
 rfl
theorem getD_mid{r l:List Int}{k:Nat}(hr:r.length=k):(r++l.drop k).getD k 0=l.getD k 0:=by
 rw [List.getD_eq_getElem?_getD,List.getElem?_append_right (by omega),hr,Nat.sub_self,List.getElem?_drop,Nat.add_zero,List.getD_eq_getElem?_getD]
theorem getD_mem{l:List Int}{k:Nat}(hk:k<l.length):l.getD k 0∈l:=by
 rw [List.getD_eq_getElem?_getD,List.getElem?_eq_getElem hk]
 exact List.getElem_mem hk
theorem settle_step{l r:List Int}{k:Nat}{over:Int}(hk:k<l.length)(h:settleL 0 l=(r++(settleL over (l.drop k)).1,(settleL over (l.drop k)).2)) :
  settleL 0 l=((r++[(l.getD k 0+over) % 1000000])++(settleL ((l.getD k 0+over) / 1000000) (l.drop (k+1))).1,(settleL ((l.getD k 0+over) / 1000000) (l.drop (k+1))).2):=by
 rw [h,List.drop_eq_getElem_cons hk,settleL,List.getD_eq_getElem?_getD,List.getElem?_eq_getElem hk,List.append_assoc]
 rfl
theorem cell_set{w:World}{g k:Nat}{x:Value}(h:w.cell? ⟨g,k,none⟩=some x)(u:Value):(w.setCell ⟨g,k,none⟩ u).cell? ⟨g,k,none⟩=some u:=World.cell?_setCell_same' _ _ _ (by rw [h];rfl)
set_option maxHeartbeats 1000000 in
theorem settle_any(v:Value)(l:List Int)(base:Nat)(w:World)(h:OwnsI w base v l)(hb:∀ g∈l, -1000000000000000000≤g∧g≤1000000000000000000) :
  Calls Tryz.prog 179 #[v] w fun e w'=>e = .returned (.tuple #[])∧OwnsI w' base v (settleL 0 l).1∧Below base w w':=by
 obtain ⟨a,n,cap,rfl,hl, -,hnc,hcm, -⟩:=h.form
 have hO:Hid (OwnsI w base (.slice a n cap) l):=h
 have hB:Hid (∀ g∈l, -1000000000000000000≤g∧g≤1000000000000000000):=hb
 clear h hb
 go_enter Tryz.func179,Tryz.ntmps179
 go_wp2
 go_loopw [2,7] (fun ov i wr=>∃ (k:Nat) (over:Int) (r:List Int),k≤n∧i = .int .i64 k∧ov = .int .i64 over ∧ -10000000000000≤over∧over≤10000000000000∧Hid (r.length=k)∧Hid (OwnsI wr base (.slice a n cap) (r++l.drop k))∧Hid (settleL 0 l=(r++(settleL over (l.drop k)).1,(settleL over (l.drop k)).2))∧Hid (Below base w wr)) (fun _ i _=>n - (intOf i).toNat)
 case atStart=>exact ⟨0,0,[],Nat.zero_le _,rfl,rfl,by decide,by decide,rfl,hO.out,rfl,Below.refl _ _⟩
 case round =>
  obtain ⟨k,over,r,hk,rfl,rfl,ho1,ho2,hr,ho,hs,hbl⟩:=hrel
  by_cases hlt:k<n
  ·have hkl : k < l.length := by rw [hl.out]; exact hlt
   obtain ⟨g,n',cap',hv, -, -, -,hbg⟩:=ho.out.row (by rw [List.length_append,List.length_drop];omega)
   cases hv
   have hX:=hB.out _ (getD_mem hkl)
   have hc:=ho.out.cell (j:=k) (by rw [List.length_append,List.length_drop,hr.out];omega)
   rw [getD_mid hr.out] at hc
   have hf:=ho.out.frozen k
   have hst:Hid _:=settle_step hkl hs.out
   have hset:Hid (∀ u,OwnsI (wr.setCell ⟨g,k,none⟩ (.int .i64 u)) base (.slice (some ⟨g,0,none⟩) n cap) ((r++[u])++l.drop (k+1))):=fun u=>by
    rw [←set_mid hr.out hkl]
    exact ho.out.store k u
   have hset2:Hid (∀ u u',OwnsI ((wr.setCell ⟨g,k,none⟩ (.int .i64 u)).setCell ⟨g,k,none⟩ (.int .i64 u')) base (.slice (some ⟨g,0,none⟩) n cap) ((r++[u'])++l.drop (k+1))):=fun u u'=>by
    have h1:=(ho.out.store k u).store k u'
    rw [List.set_set,set_mid hr.out hkl] at h1
    exact h1
   generalize l.getD k 0=X at *
   have hw:IntKind.i64.wrap (X+over)=X+over:=by rw [IntKind.wrap_i64];omega
   obtain ⟨m,hm⟩:∃ m,X+over=m:=⟨_,rfl⟩
   have hm':Hid (X+over=m):=hm
   have hmb : -1100000000000000000≤m∧m≤1100000000000000000:=by omega
   have hcs:=fun u=>cell_set hc u
   rw [hm] at hw
   by_cases hneg:m.tmod 1000000<0
   ·obtain ⟨e1, e2⟩ := tmod_neg hneg
    have d1:decide (m.tmod 1000000<0)=true:=by simpa using hneg
    have hov : -10000000000000≤m.tdiv 1000000 - 1∧m.tdiv 1000000 - 1≤10000000000000:=by omega
    have w1:IntKind.i64.wrap (m.tmod 1000000+1000000)=m.tmod 1000000+1000000:=by rw [IntKind.wrap_i64];omega
    have w2:IntKind.i64.wrap (m.tdiv 1000000 - 1)=m.tdiv 1000000 - 1:=by rw [IntKind.wrap_i64];omega
    rw [hm,e1,e2] at hst
    clear e1 e2 hneg hmb
    go_wp2
    go_roundw
    case rel=>exact ⟨k+1,_,r++[m.tmod 1000000+1000000],by omega,by go_num,rfl,hov.1,hov.2,(by show _=_;rw [List.length_append,hr.out];rfl),hset2.out _ _,hst,(hbl.out.setCell (p:=⟨g,k,none⟩) hbg _).setCell (p:=⟨g,k,none⟩) hbg _⟩
    case measure=>simp [intOf];omega
   ·obtain ⟨e1, e2⟩ := tmod_pos hneg
    have d1:decide (m.tmod 1000000<0)=false:=by simpa using hneg
    have hov : -10000000000000≤m.tdiv 1000000∧m.tdiv 1000000≤10000000000000:=by omega
    rw [hm,e1,e2] at hst
    clear e1 e2 hneg hmb
    go_wp2
    go_roundw
    case rel=>exact ⟨k+1,_,r++[m.tmod 1000000],by omega,by go_num,rfl,hov.1,hov.2,(by show _=_;rw [List.length_append,hr.out];rfl),hset.out _,hst,hbl.out.setCell (p:=⟨g,k,none⟩) hbg _⟩
    case measure=>simp [intOf];omega
  ·obtain rfl : k = n := by omega
   have hd:l.drop k=[]:=List.drop_of_length_le (by rw [hl.out];exact Nat.le_refl _)
   have hs':=hs.out
   have ho':=ho.out
   rw [hd] at hs' ho'
   have hfin:Hid (OwnsI wr base (.slice a k cap) (settleL 0 l).1):=by
    rw [hs']
    exact ho'
   clear hd hs' ho'
   go_wp2
   go_end0
   exact ⟨rfl,hfin.out,hbl.out⟩
theorem zeros_made(n:Nat):(madeCells (Value.int .i64 0).cells (n*1)).toList=(List.replicate n (0:Int)).map (Value.int .i64):=by
 apply List.ext_getElem
 ·simp [size_madeCells]
 ·intro i h1 h2
  simp [madeCells,Value.cells,Nat.mod_one]
set_option maxHeartbeats 400000 in
theorem room_any(d:Nat)(hd:d≤100000)(w:World) :
  Calls Tryz.prog 182 #[.int .i64 d] w fun e w'=>∃ v,e = .returned v∧OwnsI w' w.heap.size v (List.replicate ((d+5) / 6) 0)∧Below w.heap.size w w':=by
 obtain ⟨i0,hi,hz0,hz1,hz2⟩:=info_parts info3
 have w1:IntKind.i64.wrap ((d:Int)+6)=(d:Int)+6:=by rw [IntKind.wrap_i64];omega
 have w2:IntKind.i64.wrap ((d:Int)+6 - 1)=((d+5:Nat):Int):=by rw [IntKind.wrap_i64];omega
 have w3:Int.tdiv ((d+5:Nat):Int) 6=(((d+5) / 6:Nat):Int):=by rfl
 have hle:(d+5) / 6≤100000:=by omega
 generalize d+5=D at *
 generalize D / 6=n at *
 go_enter Tryz.func182,Tryz.ntmps182
 go_wp2_with (at_make;refine wpList_make_full _ rfl _ _ 42 rfl w.heap.size 3 i0 (.int .i64 0) 1 Tryz.underlying42 hi hz0 hz1 .i64 .i64 _ _ n rfl rfl (by first | rfl | simp) (by first | rfl | simp) (by rw [hz2];omega) (by unfold maxLen;omega) (Nat.le_refl _) ?_;intro w2 ho2 hg2)
 go_ret
 refine ⟨_,rfl,?_,(Below.refl _ _).grown hg2 (Nat.le_refl _) (by simp)⟩
 rw [zeros_made] at ho2
 unfold OwnsI
 rw [List.length_replicate]
 exact ho2
end Go.Proofs.YtejlaiofpekchaaGreatDoor
namespace Go.Proofs.YtejlaiofpekchaaGreatDoor
open Go.RowKit Go.Shelf
theorem op_round{F:Fence}(hro:F.round=none)(l:Nat){n:Nat}{P:Program}{Q:Exit→Act→World→Prop}{o:Oper}(hnd:∀ c,o.op ≠ .defer c){a:Act}{w:World}{K K':Act→World→Prop}(h:∀ a w,K a w→K' a w)
  (hh:o.wpIn F n P a w K Q):o.wpIn (F.inRound l) n P a w K' Q:=by
 have hh:=Oper.wpIn_mono h hh
 unfold Oper.wpIn at *
 refine ⟨hh.1,?_⟩
 have h2:=hh.2
 rw [hro,Oper.semAt_none] at h2
 rw [Fence.inRound_round,Oper.semAt_some l _ _ hnd]
 generalize (execOp a.eval o).run P w=r at *
 cases r with
 | ok x w' =>
  cases x <;> exact h2
 | halt x w'=>cases x <;> exact h2
theorem any_round{F:Fence}(hro:F.round=none)(l:Nat){n:Nat}{P:Program}{md:Region.Mode}{ops:Array Oper}{Q:Exit→Act→World→Prop}(hnd:∀ (i:Nat) (o:Oper),ops[i]? = some o→∀ c,o.op ≠ .defer c) :
  ∀ (fuel:Nat) (listed:Array Bool) (a:Act) (w:World),wpAnyIn F n P md ops Q fuel listed a w→wpAnyIn (F.inRound l) n P md ops Q fuel listed a w:=by
 intro fuel
 induction fuel with
 | zero=>intro listed a w h;exact h
 | succ fuel ih =>
  intro listed a w h
  refine ⟨h.1,fun i hi=>?_⟩
  have h2:=h.2 i hi
  unfold wpOpIn at *
  cases ho:ops[i]? with
  | none =>
   rw [ho] at h2
   exact ih _ _ _ h2
  | some o =>
   rw [ho] at h2
   simp only at h2 ⊢
   split
   ·rename_i hw
    rw [if_pos hw] at h2
    exact op_round hro l (hnd i o ho) (fun a w=>ih _ a w) h2
   ·rename_i hw
    rw [if_neg hw] at h2
    exact ⟨h2.1,ih _ _ _ h2.2⟩
def noDefers(ops:List Oper):Bool:=ops.all fun o=>match o.op with | .defer _=>false | _=>true
theorem region_round{l n:Nat}{P:Program}{ops:List Oper}{Q:Exit→Act→World→Prop}{id:Nat}{a:Act}{w:World}(hm:P.follows .mixedOrders=true)(hd:noDefers ops=true)
  (h:wpAnyIn Fence.wide n P .any ops.toArray Q ops.toArray.size (Array.replicate ops.toArray.size false) a w.drew):(Code.region id ops.toArray true).wpIn (Fence.wide.inRound l) n P Q a w:=by
 refine wpIn_region_any hm (any_round rfl l ?_ _ _ _ _ h)
 intro i o ho c hc
 have hmem:o∈ops:=by
  rw [List.getElem?_toArray] at ho
  exact List.mem_of_getElem? ho
 have:=List.all_eq_true.1 hd o hmem
 rw [hc] at this
 cases this
theorem ready_append{n:Nat}{P:Program}{md:Region.Mode}{ops:Array Oper}{Q:Exit→Act→World→Prop}{fuel i:Nat}{listed:Array Bool}{a:Act}{w:World}{o:Oper}{s x:Operand}{t:TypeId}{v':Value}{w1:World}(ho:ops[i]? = some o)(hg:o.guard=none)
  (hop:o.op=Op.call { callee:=Callee.builtin Builtin.append,args:=#[s,x],argTypes:=#[t,t] }) (hrun:(Builtin.append_ #[t,t] o.type #[a.eval s,a.eval x]).run P w = .ok v' w1)
  (h:wpAnyIn Fence.wide n P md ops Q fuel (listed.setIfInBounds i true) (a.put o.dst v') w1):AllReadyIn Fence.wide n P md ops Q fuel listed a w [i]:=by
 refine AllReadyIn.cons ho (fun K hK=>?_) AllReadyIn.nil
 rw [if_pos (by simp [Region.wanted,hg])]
 unfold Oper.wpIn
 refine ⟨?_,?_⟩
 ·simp [Oper.about,hop,resolve,Target.leads,Sem.run_pure]
 ·rw [Oper.semAt_plain _ _ _ (by rw [hop]; intro c hc'; cases hc')]
  simp [execOp,hop,resolve,invoke,builtin,hrun,Result.andThen]
  exact hK _ _ h
end Go.Proofs.YtejlaiofpekchaaGreatDoor
namespace Go.Proofs.YtejlaiofpekchaaGreatDoor
open Go.RowKit Go.Shelf
attribute [local go_sem] Oper.semAt_some
def upto{α : Type}(f:Nat→α)(k:Nat):List α := (List.range k).map f
theorem upto_succ{α : Type}(f:Nat→α)(k:Nat):upto f (k+1)=upto f k++[f k]:=by simp [upto,List.range_succ]
theorem upto_length{α : Type}(f:Nat→α)(k:Nat):(upto f k).length=k:=by simp [upto]
abbrev Dig(n:Nat):={ x:Nat × Int // x.1<n∧0≤x.2∧x.2≤9 }
theorem dig_ok(s:ByteArray)(h:Digs (bs s)){j:Nat}(hj:j<s.size):0≤(dgs (bs s)).getD j 0∧(dgs (bs s)).getD j 0≤9:=by
 have:=(dgs_grp h).at (k:=j) (by rw [dgs_len,bs_len];exact hj)
 omega
def digAt(s:ByteArray)(h0:0<s.size)(h:Digs (bs s))(j:Nat):Dig s.size:=if hj:j<s.size then ⟨(j,(dgs (bs s)).getD j 0),hj,dig_ok s h hj⟩ else ⟨(0,0),h0,by decide⟩
theorem dig_cell(s:ByteArray){j:Nat}(hj:j<s.size)(hi:s.size - 1 - j<s.size):(((s[s.size - 1 - j]'hi).toNat:Nat):Int)=(dgs (bs s)).getD j 0+48:=by
 rw [←bs_at s hi,dgs_getD _ _ (by rw [bs_len];exact hj),bs_len]
 omega
def KpB(B:Nat)(W W':World):Prop:=W'.cell? ⟨B,0,none⟩=W.cell? ⟨B,0,none⟩
theorem kpB_t{B:Nat}{X Y Z:World}(h:KpB B X Y)(k:KpB B Y Z):KpB B X Z:=k.trans h
theorem kpB_b{B:Nat}{w:World}(hB:B<w.heap.size)(W:World)(l:Nat)(o o':Obj)(hl:w.heap.size≤l)(_:W.heap[l]? = some o)(_:o.isCells=false)(_:o.isWalk=false):KpB B W (W.putObj l o'):=by
 unfold KpB World.cell?
 rw [World.putObj_heap_other (by show B≠l;omega)]
set_option maxRecDepth 100000 in
set_option maxHeartbeats 2000000 in
theorem last1_in(F:Fence)(n:Nat)(h7:F.fn 204)(hro:F.round=none)(hn:1≤n)(l Bs:Nat)(s:ByteArray)(hp:0<s.size)(hd:Digs (bs s))(hsz:s.size≤9223372036854775807)(J Jx:List (Dig s.size)→World→Prop)
  (hY : ∀ pre x W, J pre W → pre.length < s.size → YieldAt F (n - 1) Tryz.prog l #[.int .i64 (x.1.1 : Nat), .int .i64 x.1.2] W fun e W' =>
   (e = .returned (.bool true)∧J (pre++[x]) W'∧KpB Bs W W')∨(e = .returned (.bool false)∧Jx (pre++[x]) W'))
  (W:World) (hBs:W.cell? ⟨Bs,0,none⟩=some (.string s)) (h0:J [] W) :
  CallsIn F n Tryz.prog 204 #[.func (.yield l) #[] #[], .pointer (some ⟨Bs,0,none⟩)] W fun e W'=>(∃ v,e = .returned v) ∧
   ((∃ ys,ys=upto (digAt s hp hd) s.size∧J ys W')∨(∃ pre,(∃ k,k≤s.size∧pre=upto (digAt s hp hd) k)∧Jx pre W')):=by
 refine callsIn_of_wp Tryz.func204 rfl h7 ?_ hro
 simp only [Tryz.ntmps204,List.size_toArray,List.length_cons,List.length_nil,Nat.reduceAdd,Nat.reduceSub,Array.replicate_succ,Array.replicate_zero,List.push_toArray,List.append_toArray,List.nil_append,List.cons_append]
 gi_wp2
 gi_loopw [6] (fun i wr=>∃ k:Nat,k≤s.size∧i = .int .i64 k∧J (upto (digAt s hp hd) k) wr∧wr.cell? ⟨Bs,0,none⟩=some (.string s))
  (fun i _=>s.size - (intOf i).toNat)
 case atStart=>exact ⟨0,Nat.zero_le _,rfl,h0,hBs⟩
 case round =>
  obtain ⟨k,hk,rfl,hJs,hcx⟩:=hrel
  clear hBs
  by_cases hlt:k<s.size
  ·obtain ⟨fn, tmps, assign, body, hy, hR⟩ := hY _ (digAt s hp hd k) wr hJs (by rw [upto_length]; exact hlt)
   have ed:digAt s hp hd k=⟨(k,(dgs (bs s)).getD k 0),hlt,dig_ok s hd hlt⟩:=dif_pos hlt
   have hdc:=dig_cell s hlt (by omega)
   have hok:=dig_ok s hd hlt
   rw [ed] at hy
   dsimp only at hy
   clear ed
   generalize (dgs (bs s)).getD k 0=X at *
   gi_wp2
   refine hR.mono ?_
   rintro e W3 (⟨rfl,hJ3,hk3⟩ | ⟨rfl,hJx3⟩)
   ·have hc3 := hk3.trans hcx
    gi_wp2
    go_roundw
    case rel=>exact ⟨k+1,by omega,by simp,by rw [upto_succ];exact hJ3,hc3⟩
    case measure=>simp [intOf];omega
   ·gi_wp2
    refine bodyPost_ret (results_none rfl _ _ _) rfl ?_
    exact ⟨⟨_,rfl⟩, .inr ⟨_,⟨k+1,by omega,(upto_succ _ _).symm⟩,hJx3⟩⟩
  ·obtain rfl : k = s.size := by omega
   gi_wp2
   go_end0
   exact ⟨⟨_,rfl⟩, .inl ⟨_,rfl,hJs⟩⟩
set_option maxHeartbeats 1000000 in
theorem last_in(F:Fence)(n:Nat)(h5:F.fn 193)(hro:F.round=none)(s:ByteArray)(w:World) :
  CallsIn F n Tryz.prog 193 #[.string s] w fun e w'=>e = .returned (.func (.func 204) #[] #[.pointer (some ⟨w.heap.size,0,none⟩)])∧w'=w.alloc (.cells #[.string s] 9):=by
 refine callsIn_of_wp Tryz.func193 rfl h5 ?_ hro
 simp only [Tryz.ntmps193,List.size_toArray,List.length_cons,List.length_nil,Nat.reduceAdd,Nat.reduceSub,Array.replicate_succ,Array.replicate_zero,List.push_toArray,List.append_toArray,List.nil_append,List.cons_append]
 gi_wp2
 go_ret
 exact ⟨rfl,rfl⟩
theorem last_stops(F:Fence)(n:Nat)(h7:F.fn 204)(hro:F.round=none)(hn:1≤n)(Bs:Nat)(s:ByteArray)(hp:0<s.size)(hd:Digs (bs s))(hsz:s.size≤9223372036854775807)(w:World)(hBs:Bs<w.heap.size)(hc:w.cell? ⟨Bs,0,none⟩=some (.string s)) :
  SeqStopsK F n Tryz.prog 204 #[.pointer (some ⟨Bs,0,none⟩)] (fun x:Dig s.size=>#[.int .i64 (x.1.1:Nat), .int .i64 x.1.2]) (KpB Bs) (fun ys=>ys=upto (digAt s hp hd) s.size) (fun pre=>∃ k,k≤s.size∧pre=upto (digAt s hp hd) k) s.size w:=fun l J Jx W hW _ _ hY h0 =>
 last1_in F n h7 hro hn l Bs s hp hd hsz J Jx hY W ((hW.cell (p:=⟨Bs,0,none⟩) hBs).trans hc) h0
def putStep(sign:Int)(st:List Int × Int)(x:Nat × Int):List Int × Int :=
 (st.1.set (x.1 / 6) (IntKind.i64.wrap (st.1.getD (x.1 / 6) 0 + IntKind.i64.wrap (x.2 * st.2))),
  if IntKind.i64.wrap (st.2*10)=IntKind.i64.wrap (sign*1000000) then sign else IntKind.i64.wrap (st.2*10))
def putF(sign:Int)(l:List Int)(xs:List (Nat × Int)):List Int × Int:=xs.foldl (putStep sign) (l,sign)
theorem putF_snoc(sign:Int)(l:List Int)(xs:List (Nat × Int))(x:Nat × Int):putF sign l (xs++[x])=putStep sign (putF sign l xs) x:=by simp [putF]
theorem putF_len(sign:Int)(l:List Int)(xs:List (Nat × Int)):(putF sign l xs).1.length=l.length:=by
 have h:∀ (xs:List (Nat × Int)) (st:List Int × Int),(xs.foldl (putStep sign) st).1.length=st.1.length:=by
  intro xs
  induction xs with
  | nil=>intro st;rfl
  | cons x xs ih=>intro st;rw [List.foldl_cons,ih];simp [putStep]
 exact h xs _
theorem boxed_keep{A B:World}{row:Option Nat}{X b:Nat}{t:TypeId}{v:Value}(h:Boxed A b t v)(hg:A.grownBy B row)(hr:∀ r,row=some r→X≤r∧∃ o:Obj,A.heap[r]? = some o∧o.isCells=false):Boxed B b t v :=
 h.kept hg fun e=>by
  obtain ⟨_,o,ho,hc⟩:=hr _ e.symm
  rw [show A.heap[b]? = _ from h] at ho
  cases ho;cases hc
theorem row_keep{A B:World}{row:Option Nat}{X base k:Nat}{e:TypeId}{v:Value}{xs:List Value}(h:A.ownsRow base e 1 v k xs)(hg:A.grownBy B row)(hr:∀ r,row=some r→X≤r∧∃ o:Obj,A.heap[r]? = some o∧o.isCells=false):B.ownsRow base e 1 v k xs:=by
 refine h.kept hg ?_
 rcases h.2 with ⟨rfl,_⟩ | ⟨g,cap,cur,rfl,_,hgb,_⟩
 ·exact .inl rfl
 ·refine .inr fun e' => ?_
  obtain ⟨_,o,ho,hc⟩:=hr g (by simpa [Value.ownBlock] using e'.symm)
  rw [hgb] at ho
  cases ho;cases hc
theorem below_keep{w A B:World}{row:Option Nat}{X n₀:Nat}(h:Below n₀ w A)(hX:n₀≤X)(hn:n₀≤w.heap.size)(hg:A.grownBy B row)(hr:∀ r,row=some r→X≤r∧∃ o:Obj,A.heap[r]? = some o∧o.isCells=false):Below n₀ w B :=
 h.grown hg (Nat.le_trans hn h.size) fun k e=>Nat.le_trans hX (hr k e).1
theorem cell_apart(w:World)(a:Addr)(v:Value){b j:Nat}(h:a.block≠b):(w.setCell a v).cell? ⟨b,j,none⟩=w.cell? ⟨b,j,none⟩:=by
 unfold World.cell?
 rw [Below.heap_setCell w a v b (fun e=>h e.symm)]
theorem boxed_apart{w:World}{a:Addr}(u:Value){b:Nat}{t:TypeId}{v:Value}(h:Boxed w b t v)(hne:a.block≠b):Boxed (w.setCell a u) b t v:=by
 unfold Boxed
 rw [Below.heap_setCell w a u b (fun e=>hne e.symm)]
 exact h
theorem OwnsI.apart{w:World}{base g n cap:Nat}{l:List Int}(h:OwnsI w base (.slice (some ⟨g,0,none⟩) n cap) l){a:Addr}(u:Value)(hne:a.block≠g):OwnsI (w.setCell a u) base (.slice (some ⟨g,0,none⟩) n cap) l:=by
 refine World.ownsRow.kept (row:=some a.block) h ⟨rfl,rfl,rfl,(by simp [World.setCell]),fun k _ hk=>Below.heap_setCell _ _ _ k (fun e=>hk (by rw [e]))⟩ (.inr ?_)
 simp only [Value.ownBlock]
 intro e
 cases e
 exact hne rfl
set_option maxRecDepth 100000 in
set_option maxHeartbeats 2000000 in
theorem put_fold(g n cap base:Nat)(l:List Int)(s:ByteArray)(sign:Int)(w:World)(ho:OwnsI w base (.slice (some ⟨g,0,none⟩) n cap) l)(hp:0<s.size)(hd:Digs (bs s))(hsz:s.size≤9223372036854775807)(hroom:s.size≤6*n)(hn:n≤9223372036854775807)(hbw:base≤w.heap.size) :
  Calls Tryz.prog 183 #[.slice (some ⟨g,0,none⟩) n cap, .string s, .int .i64 sign] w fun e w'=>e = .returned (.tuple #[]) ∧
   OwnsI w' base (.slice (some ⟨g,0,none⟩) n cap) (putF sign l ((upto (digAt s hp hd) s.size).map Subtype.val)).1∧Below base w w':=by
 have hbg:=ho.ge
 have hll:=ho.len
 refine (callsIn_wide (n:=5)).1 ?_
 refine callsIn_of_wp_marks Tryz.func183 rfl trivial ?_ rfl
 simp only [Tryz.ntmps183,List.size_toArray,List.length_cons,List.length_nil,Nat.reduceAdd,Nat.reduceSub,Array.replicate_succ,Array.replicate_zero,List.push_toArray,List.append_toArray,List.nil_append,List.cons_append]
 gi_wp2_with (refine ⟨trivial,?_⟩;gi_at_call 193;refine (last_in Fence.wide _ trivial rfl _ _).mono ?_;rintro e w' ⟨rfl,rfl⟩)
 obtain ⟨W0,hW0⟩:∃ W0,(((w.alloc (.cells #[.slice (some ⟨g,0,none⟩) n cap] 42)).alloc (.cells #[.int .i64 sign] 3)).alloc (.cells #[.int .i64 sign] 3)).alloc (.cells #[.string s] 9)=W0:=⟨_,rfl⟩
 have hs0:W0.heap.size=w.heap.size+4:=by rw [←hW0];simp
 have b1:Boxed W0 w.heap.size 42 (.slice (some ⟨g,0,none⟩) n cap):=by rw [←hW0];exact (((Boxed.new w 42 _).alloc _).alloc _).alloc _
 have b2:Boxed W0 (w.heap.size+1) 3 (.int .i64 sign):=by
  rw [←hW0]
  have:=Boxed.new (w.alloc (.cells #[.slice (some ⟨g,0,none⟩) n cap] 42)) 3 (.int .i64 sign)
  rw [World.size_alloc] at this
  exact (this.alloc _).alloc _
 have b3:Boxed W0 (w.heap.size+2) 3 (.int .i64 sign):=by
  rw [←hW0]
  have:=Boxed.new ((w.alloc (.cells #[.slice (some ⟨g,0,none⟩) n cap] 42)).alloc (.cells #[.int .i64 sign] 3)) 3 (.int .i64 sign)
  rw [World.size_alloc,World.size_alloc] at this
  exact this.alloc _
 have b4:Boxed W0 (w.heap.size+3) 9 (.string s):=by
  rw [←hW0]
  have:=Boxed.new (((w.alloc (.cells #[.slice (some ⟨g,0,none⟩) n cap] 42)).alloc (.cells #[.int .i64 sign] 3)).alloc (.cells #[.int .i64 sign] 3)) 9 (.string s)
  rw [World.size_alloc,World.size_alloc,World.size_alloc] at this
  exact this
 have hO:OwnsI W0 base (.slice (some ⟨g,0,none⟩) n cap) l:=by rw [←hW0];exact (((ho.alloc _).alloc _).alloc _).alloc _
 have hB:Below base w W0:=by
  rw [←hW0]
  exact ((((Below.refl _ _).alloc hbw _).alloc (by simp;omega) _).alloc (by simp;omega) _).alloc (by simp;omega) _
 rw [hW0]
 clear hW0 ho
 refine wpIn_rangeFunc_ownG (w:=W0) rfl (by decide) (gf:=204) (lb:=#[.pointer (some ⟨w.heap.size+1+1+1,0,none⟩)]) rfl trivial (enters_of Tryz.func204 (by kernel_rfl) rfl)
  (last_stops Fence.wide _ trivial rfl (by decide) (w.heap.size+1+1+1) s hp hd hsz W0 (by omega) b4.cell) kpB_t (kpB_b (by omega)) (Below.refl _ _) (fun _=>rfl)
  (fun pre W=>(Boxed W w.heap.size 42 (.slice (some ⟨g,0,none⟩) n cap)∧Boxed W (w.heap.size+1) 3 (.int .i64 sign)∧Boxed W (w.heap.size+2) 3 (.int .i64 (putF sign l (pre.map Subtype.val)).2))∧OwnsI W base (.slice (some ⟨g,0,none⟩) n cap) (putF sign l (pre.map Subtype.val)).1∧Below base w W)
  (fun _ _ _=>False)
  (fun s A B row hs hg hr=>⟨⟨boxed_keep hs.1.1 hg hr,boxed_keep hs.1.2.1 hg hr,boxed_keep hs.1.2.2 hg hr⟩,row_keep hs.2.1 hg hr,below_keep hs.2.2 (by omega) hbw hg hr⟩)
  (fun _ _ _ _ _ hs _ _=>hs)
  ⟨⟨b1,b2,b3⟩,hO,hB⟩
  (fun x=>{ tmps:=#[.slice (some ⟨g,0,none⟩) n cap, .string s, .int .i64 sign, .pointer (some ⟨w.heap.size,0,none⟩),undef, .pointer (some ⟨w.heap.size+1,0,none⟩), .pointer (some ⟨w.heap.size+1+1,0,none⟩), .int .i64 (x.1.1:Nat), .int .i64 x.1.2, .int .i64 sign, .string s, .func (.func 204) #[] #[.pointer (some ⟨w.heap.size+1+1+1,0,none⟩)], .int .i64 (x.1.1:Nat), .int .i64 x.1.2,undef,undef,undef,undef,undef,undef,undef,undef,undef,undef,undef,undef,undef,undef,undef,undef,undef],defers:=[] }) ?assign ?body ?done ?stop
 case assign =>
  intro l x W K hK
  gi_wp2
  exact hK
 case body =>
  rintro lr pre x W ⟨⟨c1,c2,c3⟩,hOr,hBr⟩ hlt
  have k1:=c1.cell
  have k2:=c2.cell
  have k3:=c3.cell
  have f3:=c3.frozen
  have hx:x.1.1 / 6<n:=by have:=x.2.1;omega
  have hc:=hOr.cell (j:=x.1.1 / 6) (by rw [putF_len,hll];exact hx)
  have hf:=hOr.frozen (x.1.1 / 6)
  have t1:Int.tdiv ((x.1.1:Nat):Int) 6=((x.1.1 / 6:Nat):Int):=rfl
  have hsn:Hid (putF sign l ((pre++[x]).map Subtype.val)=putStep sign (putF sign l (pre.map Subtype.val)) x.1):=by
   show _=_
   rw [List.map_append]
   exact putF_snoc sign l (pre.map Subtype.val) x.1
  obtain ⟨⟨Gs,T⟩,hT⟩:∃ st,putF sign l (pre.map Subtype.val)=st:=⟨_,rfl⟩
  obtain ⟨q,hq⟩:∃ q,x.1.1 / 6=q:=⟨_,rfl⟩
  rw [hT] at hc k3 hOr hsn c3
  dsimp only at hc k3 hOr c3
  rw [hq] at hc hf hx t1
  have i1:((q:Nat):Int)<(n:Int):=by omega
  have i2:(0:Int)≤((q:Nat):Int):=by omega
  have hXq:Hid (x.1.1 / 6=q):=hq
  have hOr':Hid _:=hOr
  have mixed:Tryz.prog.follows .mixedOrders=true:=by kernel_rfl
  have wq:IntKind.i64.wrap ((q:Nat):Int)=(q:Int):=by rw [IntKind.wrap_i64];omega
  have t2:((x.1.1:Nat):Int) / 6=(q:Int):=by omega
  have wx:((x.1.1:Nat):Int)≤9223372036854775807:=by have:=x.2.1;omega
  have hne2:g≠w.heap.size+2:=by omega
  have hne1:g≠w.heap.size+1:=by omega
  have hne0:g≠w.heap.size:=by omega
  have hne3:g≠w.heap.size+3:=by omega
  unfold putStep at hsn
  rw [hq] at hsn
  dsimp only at hsn
  obtain ⟨G,hG⟩:∃ G,Gs.getD q 0=G:=⟨_,rfl⟩
  rw [hG] at hc hsn
  obtain ⟨T1,hT1⟩:∃ T1,IntKind.i64.wrap (T*10)=T1:=⟨_,rfl⟩
  obtain ⟨S1,hS1⟩:∃ S1,IntKind.i64.wrap (sign*1000000)=S1:=⟨_,rfl⟩
  obtain ⟨U,hU⟩:∃ U,IntKind.i64.wrap (G+IntKind.i64.wrap (x.1.2*T))=U:=⟨_,rfl⟩
  rw [hT1,hS1,hU] at hsn
  have v3:(W.setCell ⟨g,q,none⟩ (.int .i64 U)).cell? ⟨w.heap.size+2,0,none⟩=some (.int .i64 T):=by rw [cell_apart _ _ _ (by exact hne2)];exact k3
  have v2:(W.setCell ⟨g,q,none⟩ (.int .i64 U)).cell? ⟨w.heap.size+1,0,none⟩=some (.int .i64 sign):=by rw [cell_apart _ _ _ (by exact hne1)];exact k2
  have B1:=boxed_apart (a:=⟨g,q,none⟩) (.int .i64 U) c1 hne0
  have B2:=boxed_apart (a:=⟨g,q,none⟩) (.int .i64 U) c2 hne1
  have B3:=boxed_apart (a:=⟨g,q,none⟩) (.int .i64 U) c3 hne2
  have z1:∀ t,((W.setCell ⟨g,q,none⟩ (.int .i64 U)).setCell ⟨w.heap.size+2,0,none⟩ t).cell? ⟨w.heap.size+2,0,none⟩=some t:=fun t=>(B3.set t).cell
  have z2:∀ t,((W.setCell ⟨g,q,none⟩ (.int .i64 U)).setCell ⟨w.heap.size+2,0,none⟩ t).cell? ⟨w.heap.size+1,0,none⟩=some (.int .i64 sign):=fun t=>by rw [cell_apart _ _ _ (by show w.heap.size+2≠w.heap.size+1;omega)];exact v2
  have y1:(W.setCell ⟨g,q,none⟩ (.int .i64 U)).frozen? ⟨w.heap.size+2,0,none⟩=false:=B3.frozen
  have y2:∀ t,((W.setCell ⟨g,q,none⟩ (.int .i64 U)).setCell ⟨w.heap.size+2,0,none⟩ t).frozen? ⟨w.heap.size+2,0,none⟩=false:=fun t=>(B3.set t).frozen
  have O1:=hOr.store q U
  have O2:∀ t,OwnsI ((W.setCell ⟨g,q,none⟩ (.int .i64 U)).setCell ⟨w.heap.size+2,0,none⟩ t) base (.slice (some ⟨g,0,none⟩) n cap) (Gs.set q U):=fun t=>O1.apart t (by exact hne2.symm)
  have C1:=fun t=>boxed_apart (a:=⟨w.heap.size+2,0,none⟩) t B1 (by show w.heap.size+2≠w.heap.size;omega)
  have C2:=fun t=>boxed_apart (a:=⟨w.heap.size+2,0,none⟩) t B2 (by show w.heap.size+2≠w.heap.size+1;omega)
  have W2b:∀ t,Below base w ((W.setCell ⟨g,q,none⟩ (.int .i64 U)).setCell ⟨w.heap.size+2,0,none⟩ t):=fun t=>(hBr.setCell (p:=⟨g,q,none⟩) hbg.1 _).setCell (p:=⟨w.heap.size+2,0,none⟩) (by show base≤w.heap.size+2;omega) _
  have W2k:∀ t,KpB (w.heap.size+1+1+1) W ((W.setCell ⟨g,q,none⟩ (.int .i64 U)).setCell ⟨w.heap.size+2,0,none⟩ t):=fun t=>by
   unfold KpB
   rw [cell_apart _ _ _ (by show w.heap.size+2≠w.heap.size+1+1+1;omega),cell_apart _ _ _ (by exact hne3)]
  have fin2:Hid (T1≠S1→ownPostG W0.heap.size (KpB (w.heap.size+1+1+1)) (fun (pre:List (Dig s.size)) W=>(Boxed W w.heap.size 42 (.slice (some ⟨g,0,none⟩) n cap)∧Boxed W (w.heap.size+1) 3 (.int .i64 sign)∧Boxed W (w.heap.size+2) 3 (.int .i64 (putF sign l (pre.map Subtype.val)).2))∧OwnsI W base (.slice (some ⟨g,0,none⟩) n cap) (putF sign l (pre.map Subtype.val)).1∧Below base w W) (fun _ _ _=>False) (pre++[x]) W .normal { tmps:=#[],defers:=[] } ((W.setCell ⟨g,q,none⟩ (.int .i64 U)).setCell ⟨w.heap.size+2,0,none⟩ (.int .i64 T1)).drew):=by
   intro hne
   refine ⟨(((KeepsOthers.setCell _ _ _).trans (KeepsOthers.setCell _ _ _)).trans (KeepsOthers.drew _)).from _,W2k _,?_⟩
   show (_∧_)∧_
   rw [hsn.out,if_neg hne]
   exact ⟨⟨C1 _,C2 _,B3.set _⟩,O2 _,(W2b _).drew⟩
  have fin1:Hid (T1=S1→ownPostG W0.heap.size (KpB (w.heap.size+1+1+1)) (fun (pre:List (Dig s.size)) W=>(Boxed W w.heap.size 42 (.slice (some ⟨g,0,none⟩) n cap)∧Boxed W (w.heap.size+1) 3 (.int .i64 sign)∧Boxed W (w.heap.size+2) 3 (.int .i64 (putF sign l (pre.map Subtype.val)).2))∧OwnsI W base (.slice (some ⟨g,0,none⟩) n cap) (putF sign l (pre.map Subtype.val)).1∧Below base w W) (fun _ _ _=>False) (pre++[x]) W .normal { tmps:=#[],defers:=[] } (((W.setCell ⟨g,q,none⟩ (.int .i64 U)).setCell ⟨w.heap.size+2,0,none⟩ (.int .i64 T1)).setCell ⟨w.heap.size+2,0,none⟩ (.int .i64 sign)).drew):=by
   intro heq
   have D1:=fun t t'=>boxed_apart (a:=⟨w.heap.size+2,0,none⟩) t' (C1 t) (by show w.heap.size+2≠w.heap.size;omega)
   have D2:=fun t t'=>boxed_apart (a:=⟨w.heap.size+2,0,none⟩) t' (C2 t) (by show w.heap.size+2≠w.heap.size+1;omega)
   refine ⟨((((KeepsOthers.setCell _ _ _).trans (KeepsOthers.setCell _ _ _)).trans (KeepsOthers.setCell _ _ _)).trans (KeepsOthers.drew _)).from _,?_,?_⟩
   ·refine kpB_t (W2k (.int .i64 T1)) ?_
    unfold KpB
    exact cell_apart _ _ _ (by show w.heap.size+2≠w.heap.size+1+1+1;omega)
   ·show (_ ∧ _) ∧ _
    rw [hsn.out,if_pos heq]
    exact ⟨⟨D1 _ _,D2 _ _,(B3.set _).set _⟩,(O2 _).apart _ (by exact hne2.symm),((W2b _).setCell (p:=⟨w.heap.size+2,0,none⟩) (by show base≤w.heap.size+2;omega) _).drew⟩
  clear hq hT hOr hne0 hne1 hne2 hne3 B1 B2 B3 O1 O2 C1 C2 W2b W2k hsn hG
  gi_wp2
  refine region_round mixed (by rfl) ?_
  (refine wpAnyIn_take (i:=1) (v:=?_) rfl rfl (by kernel_rfl) (by kernel_rfl) (by kernel_rfl) (fun _ _ _ h=>h) ⟨Or.inl ⟨by rfl,(by intro w;(go_simp <;> with_reducible rfl))⟩,fun _=>rfl⟩ ?_)
  (refine wpAnyIn_take (i:=2) (v:=?_) rfl rfl (by kernel_rfl) (by kernel_rfl) (by kernel_rfl) (fun _ _ _ h=>h) ⟨Or.inl ⟨by rfl,(by intro w;(go_simp <;> with_reducible rfl))⟩,fun _=>rfl⟩ ?_)
  (refine wpAnyIn_take (i:=5) (v:=?_) rfl rfl (by kernel_rfl) (by kernel_rfl) (by kernel_rfl) (fun _ _ _ h=>h) ⟨Or.inl ⟨by rfl,(by intro w;(go_simp <;> with_reducible rfl))⟩,fun _=>rfl⟩ ?_)
  (refine wpAnyIn_ready (rs:=[0,6]) (by kernel_rfl) (by simp) ?_;refine (AllReadyIn.cons rfl (fun K hK=>?_) (AllReadyIn.cons rfl (fun K hK=>?_) AllReadyIn.nil)) <;> (go_simp;refine hK _ _ ?_;clear hK K))
  ·(refine wpAnyIn_take (i := 3) (v := ?_) rfl rfl (by kernel_rfl) (by kernel_rfl) (by kernel_rfl) (fun _ _ _ h => h) ⟨Or.inl ⟨by rfl, (by intro w; (go_simp <;> with_reducible rfl))⟩, fun _ => rfl⟩ ?_)
   (refine wpAnyIn_ready (rs:=[4,6]) (by kernel_rfl) (by simp) ?_;refine (AllReadyIn.cons rfl (fun K hK=>?_) (AllReadyIn.cons rfl (fun K hK=>?_) AllReadyIn.nil)) <;> (go_simp;refine hK _ _ ?_;clear hK K))
   ·(refine wpAnyIn_ready (rs := [6]) (by kernel_rfl) (by simp) ?_; refine (AllReadyIn.cons rfl (fun K hK => ?_) AllReadyIn.nil) <;> (go_simp; refine hK _ _ ?_; clear hK K))
    (refine wpAnyIn_take (i:=7) (v:=?_) rfl rfl (by kernel_rfl) (by kernel_rfl) (by kernel_rfl) (fun _ _ _ h=>h) ⟨Or.inl ⟨by rfl,(by intro w;(go_simp <;> with_reducible rfl))⟩,fun _=>rfl⟩ ?_)
    (refine wpAnyIn_take (i:=8) (v:=?_) rfl rfl (by kernel_rfl) (by kernel_rfl) (by kernel_rfl) (fun _ _ _ h=>h) ⟨Or.inl ⟨by rfl,(by intro w;(go_simp <;> with_reducible rfl))⟩,fun _=>rfl⟩ ?_)
    (refine wpAnyIn_take (i:=9) (v:=?_) rfl rfl (by kernel_rfl) (by kernel_rfl) (by kernel_rfl) (fun _ _ _ h=>h) ⟨Or.inl ⟨by rfl,(by intro w;(go_simp <;> with_reducible rfl))⟩,fun _=>rfl⟩ ?_)
    (refine wpAnyIn_ready (rs:=[10]) (by kernel_rfl) (by simp) ?_;refine (AllReadyIn.cons rfl (fun K hK=>?_) AllReadyIn.nil) <;> (go_simp;refine hK _ _ ?_;clear hK K))
    (refine wpAnyIn_done (by kernel_rfl) ?_ _)
    by_cases hTS:T1=S1
    ·have f1 := fin1.out hTS
     subst hTS
     gi_wp2
     first | exact f1 | (rw [hs0] at f1;exact f1)
    ·have f2 := fin2.out hTS
     have dTS:(T1==S1)=false:=by simpa using hTS
     clear hTS
     gi_wp2
     first | exact f2 | (rw [hs0] at f2;exact f2)
   ·(refine wpAnyIn_take (i := 7) (v := ?_) rfl rfl (by kernel_rfl) (by kernel_rfl) (by kernel_rfl) (fun _ _ _ h => h) ⟨Or.inl ⟨by rfl, (by intro w; (go_simp <;> with_reducible rfl))⟩, fun _ => rfl⟩ ?_)
    (refine wpAnyIn_ready (rs:=[4]) (by kernel_rfl) (by simp) ?_;refine (AllReadyIn.cons rfl (fun K hK=>?_) AllReadyIn.nil) <;> (go_simp;refine hK _ _ ?_;clear hK K))
    (refine wpAnyIn_take (i:=8) (v:=?_) rfl rfl (by kernel_rfl) (by kernel_rfl) (by kernel_rfl) (fun _ _ _ h=>h) ⟨Or.inl ⟨by rfl,(by intro w;(go_simp <;> with_reducible rfl))⟩,fun _=>rfl⟩ ?_)
    (refine wpAnyIn_take (i:=9) (v:=?_) rfl rfl (by kernel_rfl) (by kernel_rfl) (by kernel_rfl) (fun _ _ _ h=>h) ⟨Or.inl ⟨by rfl,(by intro w;(go_simp <;> with_reducible rfl))⟩,fun _=>rfl⟩ ?_)
    (refine wpAnyIn_ready (rs:=[10]) (by kernel_rfl) (by simp) ?_;refine (AllReadyIn.cons rfl (fun K hK=>?_) AllReadyIn.nil) <;> (go_simp;refine hK _ _ ?_;clear hK K))
    (refine wpAnyIn_done (by kernel_rfl) ?_ _)
    by_cases hTS:T1=S1
    ·have f1 := fin1.out hTS
     subst hTS
     gi_wp2
     first | exact f1 | (rw [hs0] at f1;exact f1)
    ·have f2 := fin2.out hTS
     have dTS:(T1==S1)=false:=by simpa using hTS
     clear hTS
     gi_wp2
     first | exact f2 | (rw [hs0] at f2;exact f2)
  ·(refine wpAnyIn_take (i := 7) (v := ?_) rfl rfl (by kernel_rfl) (by kernel_rfl) (by kernel_rfl) (fun _ _ _ h => h) ⟨Or.inl ⟨by rfl, (by intro w; (go_simp <;> with_reducible rfl))⟩, fun _ => rfl⟩ ?_)
   (refine wpAnyIn_ready (rs:=[0]) (by kernel_rfl) (by simp) ?_;refine (AllReadyIn.cons rfl (fun K hK=>?_) AllReadyIn.nil) <;> (go_simp;refine hK _ _ ?_;clear hK K))
   (refine wpAnyIn_take (i:=3) (v:=?_) rfl rfl (by kernel_rfl) (by kernel_rfl) (by kernel_rfl) (fun _ _ _ h=>h) ⟨Or.inl ⟨by rfl,(by intro w;(go_simp <;> with_reducible rfl))⟩,fun _=>rfl⟩ ?_)
   (refine wpAnyIn_ready (rs:=[4]) (by kernel_rfl) (by simp) ?_;refine (AllReadyIn.cons rfl (fun K hK=>?_) AllReadyIn.nil) <;> (go_simp;refine hK _ _ ?_;clear hK K))
   (refine wpAnyIn_take (i:=8) (v:=?_) rfl rfl (by kernel_rfl) (by kernel_rfl) (by kernel_rfl) (fun _ _ _ h=>h) ⟨Or.inl ⟨by rfl,(by intro w;(go_simp <;> with_reducible rfl))⟩,fun _=>rfl⟩ ?_)
   (refine wpAnyIn_take (i:=9) (v:=?_) rfl rfl (by kernel_rfl) (by kernel_rfl) (by kernel_rfl) (fun _ _ _ h=>h) ⟨Or.inl ⟨by rfl,(by intro w;(go_simp <;> with_reducible rfl))⟩,fun _=>rfl⟩ ?_)
   (refine wpAnyIn_ready (rs:=[10]) (by kernel_rfl) (by simp) ?_;refine (AllReadyIn.cons rfl (fun K hK=>?_) AllReadyIn.nil) <;> (go_simp;refine hK _ _ ?_;clear hK K))
   (refine wpAnyIn_done (by kernel_rfl) ?_ _)
   by_cases hTS:T1=S1
   ·have f1 := fin1.out hTS
    subst hTS
    gi_wp2
    first | exact f1 | (rw [hs0] at f1;exact f1)
   ·have f2 := fin2.out hTS
    have dTS:(T1==S1)=false:=by simpa using hTS
    clear hTS
    gi_wp2
    first | exact f2 | (rw [hs0] at f2;exact f2)
 case done =>
  rintro D ys W hD rfl ⟨⟨c1,c2,c3⟩,hOr,hBr⟩ hK
  gi_wp2
  refine ⟨by simp, .inl ⟨_,_,rfl,run_takeDeferred hK,?_⟩⟩
  exact ⟨_,results_none rfl _ _ _,rfl,ownsRow_putObj hOr _ hK rfl,hBr.trans (belowK_b (w:=w) hbw W D _ _ (by omega) hK rfl rfl)⟩
 case stop =>
  rintro D c pre W _ _ h _
  exact h.elim
end Go.Proofs.YtejlaiofpekchaaGreatDoor
namespace Go.Proofs.YtejlaiofpekchaaGreatDoor
open Go.RowKit
theorem wrap_fit{n:Int}(h1 : -9223372036854775808≤n)(h2:n≤9223372036854775807):IntKind.i64.wrap n=n:=by rw [IntKind.wrap_i64];omega
theorem upto_val(s:ByteArray)(hp:0<s.size)(hd:Digs (bs s))(k:Nat)(hk:k≤s.size):(upto (digAt s hp hd) k).map Subtype.val=(List.range k).map fun j=>(j,(dgs (bs s)).getD j 0):=by
 unfold upto
 rw [List.map_map]
 refine List.map_congr_left fun j hj=>?_
 have hlt:j<s.size:=by have:=List.mem_range.1 hj;omega
 simp only [Function.comp_apply]
 unfold digAt
 rw [dif_pos hlt]
theorem pow6(k:Nat):(10:Int) ^ (k % 6)=1∨(10:Int) ^ (k % 6)=10∨(10:Int) ^ (k % 6)=100∨(10:Int) ^ (k % 6)=1000∨(10:Int) ^ (k % 6)=10000∨(10:Int) ^ (k % 6)=100000:=by
 have h:k % 6<6:=Nat.mod_lt _ (by decide)
 generalize k % 6=m at *
 match m,h with
 | 0,_=>exact .inl rfl
 | 1,_=>exact .inr (.inl rfl)
 | 2,_=>exact .inr (.inr (.inl rfl))
 | 3,_=>exact .inr (.inr (.inr (.inl rfl)))
 | 4,_=>exact .inr (.inr (.inr (.inr (.inl rfl))))
 | 5,_=>exact .inr (.inr (.inr (.inr (.inr rfl))))
theorem pow6_next(k:Nat):((10:Int) ^ (k % 6)=100000∧(10:Int) ^ ((k+1) % 6)=1)∨((10:Int) ^ (k % 6)≤10000∧(10:Int) ^ ((k+1) % 6)=10 ^ (k % 6)*10):=by
 have h:k % 6<6:=Nat.mod_lt _ (by decide)
 have e:(k+1) % 6=if k % 6=5 then 0 else k % 6+1:=by split <;> omega
 rw [e]
 generalize k % 6=m at *
 match m,h with
 | 0,_=>exact .inr (by decide)
 | 1,_=>exact .inr (by decide)
 | 2,_=>exact .inr (by decide)
 | 3,_=>exact .inr (by decide)
 | 4,_=>exact .inr (by decide)
 | 5,_=>exact .inl (by decide)
theorem pow_six(k:Nat):(1000000:Int) ^ (k / 6)*10 ^ (k % 6)=10 ^ k:=by
 have h:(1000000:Int)=10 ^ 6:=by decide
 rw [h,←Int.pow_mul,←Int.pow_add]
 congr 1
 omega
theorem set_bound{l:List Int}{B C:Int}(h:∀ g∈l, -B≤g∧g≤B){i:Nat}{u:Int}(hu : -C≤u∧u≤C)(hBC:B≤C):∀ g∈l.set i u, -C≤g∧g≤C:=fun g hg=>by
 rcases List.mem_or_eq_of_mem_set hg with h1 | h1
 ·have := h g h1
  omega
 ·rw [h1];exact hu
theorem put_value(sign:Int)(hs:sign=1∨sign = -1)(l:List Int)(B:Int)(hB:0≤B∧B≤1000000000000000)(hl:∀ g∈l, -B≤g∧g≤B)(D:List Int)(hD:Grp 10 D)(hroom:D.length≤6*l.length) :
  ∀ k,k≤D.length→k≤100000→lv 1000000 (putF sign l ((List.range k).map fun j=>(j,D.getD j 0))).1=lv 1000000 l+sign*lv 10 (D.take k) ∧
   (putF sign l ((List.range k).map fun j=>(j,D.getD j 0))).2=sign*10 ^ (k % 6) ∧
   (∀ g∈(putF sign l ((List.range k).map fun j=>(j,D.getD j 0))).1, -(B+900000*k)≤g∧g≤B+900000*k):=by
 intro k
 induction k with
 | zero =>
  intro _ _
  refine ⟨?_,?_,?_⟩
  ·show lv 1000000 l = _ + sign * 0
   rw [Int.mul_zero,Int.add_zero]
  ·show sign = sign * 1
   rw [Int.mul_one]
  ·intro g hg
   have:=hl g hg
   omega
 | succ k ih =>
  intro hk hk2
  obtain ⟨h1,h2,h3⟩:=ih (by omega) (by omega)
  have hlen:=putF_len sign l ((List.range k).map fun j=>(j,D.getD j 0))
  rw [List.range_succ,List.map_append,List.map_cons,List.map_nil,putF_snoc]
  obtain ⟨st,hst⟩:∃ st,putF sign l ((List.range k).map fun j=>(j,D.getD j 0))=st:=⟨_,rfl⟩
  rw [hst] at h1 h2 h3 hlen ⊢
  obtain ⟨Gs,T⟩:=st
  dsimp only at h1 h2 h3 hlen
  unfold putStep
  dsimp only
  have hd:=hD.at (k:=k) (by omega)
  have ht:=lv_take 10 D k (by omega)
  have hp:=pow_six k
  have hp2:=pow6 k
  have hp3:=pow6_next k
  have hi:k / 6<Gs.length:=by omega
  have hg:=h3 _ (getD_mem hi)
  have hset:=lv_set 1000000 Gs (k / 6)
  have hTb : -100000≤T∧T≤100000:=by rcases hs with rfl | rfl <;> omega
  generalize D.getD k 0=d at *
  have hdT : -900000≤d*T∧d*T≤900000:=by
   have hd9:d=0∨d=1∨d=2∨d=3∨d=4∨d=5∨d=6∨d=7∨d=8∨d=9:=by omega
   rcases hd9 with rfl | rfl | rfl | rfl | rfl | rfl | rfl | rfl | rfl | rfl <;> omega
  rw [wrap_fit (n:=d*T) (by omega) (by omega),wrap_fit (n:=Gs.getD (k / 6) 0+d*T) (by omega) (by omega),wrap_fit (n:=T*10) (by omega) (by omega),wrap_fit (n:=sign*1000000) (by rcases hs with rfl | rfl <;> omega) (by rcases hs with rfl | rfl <;> omega)]
  refine ⟨?_,?_,?_⟩
  ·rw [hset _ hi, h1, ht, Int.mul_add, ← Int.add_assoc]
   congr 1
   rw [h2,←hp,Int.mul_left_comm d,Int.mul_left_comm]
   congr 1
   rw [Int.mul_comm d,Int.mul_assoc]
  ·rcases hp3 with ⟨e1, e2⟩ | ⟨e1, e2⟩
   ·rw [e2,if_pos (by rw [h2,e1];rcases hs with rfl | rfl <;> decide),Int.mul_one]
   ·rw [e2,if_neg (by rw [h2];rcases hs with rfl | rfl <;> omega),h2,Int.mul_assoc]
  ·refine set_bound (B := B + 900000 * k) h3 ?_ (by omega)
   omega
theorem putF_bound{l:List Int}{i:Nat}(h:∀ j,j<l.length→0≤l.getD j 0∧l.getD j 0<1000000):Grp 1000000 l∧i=i:=by
 refine ⟨fun g hg=>?_,rfl⟩
 obtain ⟨j,hj,rfl⟩:=List.mem_iff_getElem.1 hg
 have:=h j hj
 rwa [List.getD_eq_getElem?_getD,List.getElem?_eq_getElem hj] at this
theorem getD_set_eq{l:List Int}{i:Nat}(h:i<l.length)(u:Int):(l.set i u).getD i 0=u:=by
 rw [List.getD_eq_getElem?_getD,List.getElem?_set_self h];rfl
theorem getD_set_ne{l:List Int}{i j:Nat}(h:i≠j)(u:Int):(l.set i u).getD j 0=l.getD j 0:=by
 rw [List.getD_eq_getElem?_getD,List.getElem?_set_ne h,List.getD_eq_getElem?_getD]
theorem pow_mono{a b:Nat}(h:a≤b):(10:Int) ^ a≤10 ^ b:=by
 have:=Nat.pow_le_pow_right (n:=10) (by decide) h
 exact_mod_cast this
theorem put_zeros(n:Nat)(D:List Int)(hD:Grp 10 D)(hroom:D.length≤6*n) :
  ∀ k,k≤D.length→k≤100000→∀ i,i<n→0≤(putF 1 (List.replicate n 0) ((List.range k).map fun j=>(j,D.getD j 0))).1.getD i 0∧(putF 1 (List.replicate n 0) ((List.range k).map fun j=>(j,D.getD j 0))).1.getD i 0<10 ^ (min 6 (k - 6*i)):=by
 intro k
 induction k with
 | zero =>
  intro _ _ i hi
  have e:(putF 1 (List.replicate n 0) ((List.range 0).map fun j=>(j,D.getD j 0))).1.getD i 0=0:=by
   show (List.replicate n (0:Int)).getD i 0=0
   rw [List.getD_eq_getElem?_getD,List.getElem?_replicate,if_pos hi];rfl
  rw [e]
  refine ⟨Int.le_refl _,?_⟩
  exact pow_pos' (by decide) _
 | succ k ih =>
  intro hk hk2 i hi
  have hih:=ih (by omega) (by omega)
  obtain ⟨h1,h2,h3⟩:=put_value 1 (.inl rfl) (List.replicate n 0) 0 (by decide) (fun g hg=>by rw [(List.mem_replicate.1 hg).2];decide) D hD (by rw [List.length_replicate];exact hroom) k (by omega) (by omega)
  have hlen:=putF_len 1 (List.replicate n 0) ((List.range k).map fun j=>(j,D.getD j 0))
  rw [List.length_replicate] at hlen
  rw [List.range_succ,List.map_append,List.map_cons,List.map_nil,putF_snoc]
  obtain ⟨st,hst⟩:∃ st,putF 1 (List.replicate n 0) ((List.range k).map fun j=>(j,D.getD j 0))=st:=⟨_,rfl⟩
  rw [hst] at h1 h2 h3 hlen hih ⊢
  obtain ⟨Gs,T⟩:=st
  dsimp only at h1 h2 h3 hlen hih
  unfold putStep
  dsimp only
  have hd:=hD.at (k:=k) (by omega)
  have hp2:=pow6 k
  have hi0:k / 6<Gs.length:=by omega
  have hg:=h3 _ (getD_mem hi0)
  generalize D.getD k 0=d at *
  rw [Int.one_mul] at h2
  by_cases he:k / 6=i
  ·subst he
   rw [getD_set_eq hi0]
   have ha:=hih (k / 6) hi
   have e1:min 6 (k - 6*(k / 6))=k % 6:=by omega
   have e2:min 6 (k+1 - 6*(k / 6))=k % 6+1:=by omega
   rw [e1] at ha
   rw [e2,Int.pow_succ,h2]
   have hdT:0≤d*10 ^ (k % 6)∧d*10 ^ (k % 6)≤9*10 ^ (k % 6):=by
    refine ⟨Int.mul_nonneg hd.1 (by omega),Int.mul_le_mul_of_nonneg_right (by omega) (by omega)⟩
   rw [wrap_fit (n:=d*10 ^ (k % 6)) (by omega) (by omega),wrap_fit (by omega) (by omega)]
   omega
  ·rw [getD_set_ne he]
   have ha:=hih i hi
   have:=pow_mono (a:=min 6 (k - 6*i)) (b:=min 6 (k+1 - 6*i)) (by omega)
   omega
set_option maxHeartbeats 400000 in
theorem gather_any(s:ByteArray)(w:World)(hp:0<s.size)(hsz:s.size≤5000)(hd:Digs (bs s)) :
  Calls Tryz.prog 166 #[.string s] w fun e w'=>∃ v l,e = .returned v∧OwnsI w' w.heap.size v l∧l.length=(s.size+5) / 6∧Grp 1000000 l∧lv 1000000 l=(val s:Nat)∧Below w.heap.size w w':=by
 have hk:=room_any s.size (by omega) w
 have hP:Hid (∀ v w1,OwnsI w1 w.heap.size v (List.replicate ((s.size+5) / 6) 0)→w.heap.size≤w1.heap.size→Calls Tryz.prog 183 #[v, .string s, .int .i64 1] w1 fun e w'=>e = .returned (.tuple #[])∧(∃ l',OwnsI w' w.heap.size v l'∧l'.length=(s.size+5) / 6∧Grp 1000000 l'∧lv 1000000 l'=(val s:Nat))∧Below w.heap.size w1 w'):=by
  intro v w1 ho hb
  obtain ⟨g,n,cap,rfl,hln,hnc,hcm,hbg⟩:=ho.row (by rw [List.length_replicate];omega)
  have hln':=hln.out
  rw [List.length_replicate] at hln'
  refine (put_fold g n cap w.heap.size _ s 1 w1 ho hp hd (by omega) (by omega) (by omega) hb).mono ?_
  rintro e w' ⟨rfl,hO,hb'⟩
  refine ⟨rfl,?_,hb'⟩
  rw [upto_val s hp hd s.size (Nat.le_refl _)] at hO
  have hDl:(dgs (bs s)).length=s.size:=by rw [dgs_len,bs_len]
  obtain ⟨h1,h2,h3⟩:=put_value 1 (.inl rfl) (List.replicate ((s.size+5) / 6) 0) 0 (by decide) (fun g hg=>by rw [(List.mem_replicate.1 hg).2];decide) (dgs (bs s)) (dgs_grp hd) (by rw [List.length_replicate];omega) s.size (by omega) (by omega)
  have h4:=put_zeros ((s.size+5) / 6) (dgs (bs s)) (dgs_grp hd) (by omega) s.size (by omega) (by omega)
  rw [List.take_of_length_le (by omega),dgs_val hd,lv_zeros,Int.one_mul,Int.zero_add] at h1
  have hle:=putF_len 1 (List.replicate ((s.size+5) / 6) 0) ((List.range s.size).map fun j=>(j,(dgs (bs s)).getD j 0))
  rw [List.length_replicate] at hle
  refine ⟨_,hO,hle,(putF_bound (i:=0) fun j hj=>?_).1,h1⟩
  have h5:=h4 j (by omega)
  have h6:=pow_mono (a:=min 6 (s.size - 6*j)) (b:=6) (by omega)
  have h7:(10:Int) ^ 6=1000000:=by decide
  omega
 go_enter Tryz.func166,Tryz.ntmps166
 go_wp2_with (first
  | (go_at_call 182;refine hk.mono ?_;rintro e w1 ⟨v,rfl,ho1,hb1⟩;have k2:=hP.out v w1 ho1 hb1.size)
  | (go_at_call 183;refine k2.mono ?_;rintro e w2 ⟨rfl,⟨l',ho2,hln,hgr,hlv⟩,hb2⟩))
 go_ret
 exact ⟨v,l',rfl,ho2,hln,hgr,hlv,hb1.trans hb2⟩
end Go.Proofs.YtejlaiofpekchaaGreatDoor
namespace Go.Proofs.YtejlaiofpekchaaGreatDoor
open Go.RowKit Go.Shelf
attribute [local go_sem] Oper.semAt_some
abbrev Bk(len:Nat)(P:Int→Prop):={ x:Nat × Int // x.1<len∧P x.2 }
def Desc(len:Nat)(P:Int→Prop)(Z:Nat→Int→Prop)(ys:List (Bk len P))(k:Nat):Prop:=(ys.map fun x=>x.1.1)=upto (fun j=>len - 1 - j) k∧∀ x∈ys,Z x.1.1 x.1.2
theorem desc_nil(len:Nat)(P:Int→Prop)(Z:Nat→Int→Prop):Desc len P Z [] 0:=⟨rfl,fun _ h=>by cases h⟩
theorem Desc.snoc{len:Nat}{P:Int→Prop}{Z:Nat→Int→Prop}{ys:List (Bk len P)}{k m:Nat}(h:Desc len P Z ys k)(hm:m+1+k=len){z:Int}(hz:Z m z)(hP:P z):Desc len P Z (ys++[⟨(m,z),by omega,hP⟩]) (k+1):=by
 refine ⟨?_,fun x hx=>?_⟩
 ·rw [List.map_append, h.1, upto_succ]
  congr 1
  simp only [List.map_cons,List.map_nil,List.cons.injEq,and_true]
  omega
 ·rcases List.mem_append.1 hx with h1 | h1
  ·exact h.2 x h1
  ·simp only [List.mem_cons, List.not_mem_nil, or_false] at h1
   rw [h1];exact hz
theorem Desc.len{len:Nat}{P:Int→Prop}{Z:Nat→Int→Prop}{ys:List (Bk len P)}{k:Nat}(h:Desc len P Z ys k):ys.length=k:=by
 have:=congrArg List.length h.1
 rwa [List.length_map,upto_length] at this
def GoodZ(g len:Nat)(Z:Nat→Int→Prop)(W:World):Prop:=∀ j,j<len→∃ z,W.cell? ⟨g,j,none⟩=some (.int .i64 z)∧Z j z
def KpZ(B g len:Nat)(Z:Nat→Int→Prop)(W W':World):Prop:=KpB B W W'∧(GoodZ g len Z W→GoodZ g len Z W')
theorem kpZ_t{B g len:Nat}{Z:Nat→Int→Prop}{X Y V:World}(h:KpZ B g len Z X Y)(k:KpZ B g len Z Y V):KpZ B g len Z X V:=⟨kpB_t h.1 k.1,fun x=>k.2 (h.2 x)⟩
theorem kpZ_b{B g len:Nat}{Z:Nat→Int→Prop}{w:World}(hB:B<w.heap.size)(hg:g<w.heap.size)(W:World)(l:Nat)(o o':Obj)(hl:w.heap.size≤l)(h1:W.heap[l]? = some o)(h2:o.isCells=false)(h3:o.isWalk=false):KpZ B g len Z W (W.putObj l o'):=by
 refine ⟨kpB_b hB W l o o' hl h1 h2 h3,fun h j hj=>?_⟩
 obtain ⟨z,hz,hZ⟩:=h j hj
 refine ⟨z,?_,hZ⟩
 rw [←hz]
 unfold World.cell?
 rw [World.putObj_heap_other (by show g≠l;omega)]
set_option maxRecDepth 100000 in
set_option maxHeartbeats 2000000 in
theorem back1_in(F:Fence)(n:Nat)(h7:F.fn 188)(hro:F.round=none)(hn:1≤n)(l Bs g len cap:Nat)(a:Option Addr)(ha:0<len→a=some ⟨g,0,none⟩)(hlen:len≤9223372036854775807)(P:Int→Prop)(Z:Nat→Int→Prop)(hZP:∀ j z,Z j z→P z)(J Jx:List (Bk len P)→World→Prop)
  (hY : ∀ pre x W, J pre W → pre.length < len → YieldAt F (n - 1) Tryz.prog l #[.int .i64 (x.1.1 : Nat), .int .i64 x.1.2] W fun e W' =>
   (e = .returned (.bool true)∧J (pre++[x]) W'∧KpZ Bs g len Z W W')∨(e = .returned (.bool false)∧Jx (pre++[x]) W'))
  (W:World) (hBs:W.cell? ⟨Bs,0,none⟩=some (.slice a len cap)) (hG:GoodZ g len Z W) (h0:J [] W) :
  CallsIn F n Tryz.prog 188 #[.func (.yield l) #[] #[], .pointer (some ⟨Bs,0,none⟩)] W fun e W'=>(∃ v,e = .returned v) ∧
   ((∃ ys,Desc len P Z ys len∧J ys W')∨(∃ pre,True∧Jx pre W')):=by
 have w0:IntKind.i64.wrap ((len:Int) - 1)=(len:Int) - 1:=wrap_fit (by omega) (by omega)
 refine callsIn_of_wp Tryz.func188 rfl h7 ?_ hro
 simp only [Tryz.ntmps188,List.size_toArray,List.length_cons,List.length_nil,Nat.reduceAdd,Nat.reduceSub,Array.replicate_succ,Array.replicate_zero,List.push_toArray,List.append_toArray,List.nil_append,List.cons_append]
 gi_wp2
 gi_loopw [3] (fun i wr=>∃ (j:Nat) (ys:List (Bk len P)),j≤len∧i = .int .i64 ((j:Int) - 1)∧J ys wr∧Hid (Desc len P Z ys (len - j))∧wr.cell? ⟨Bs,0,none⟩=some (.slice a len cap)∧Hid (GoodZ g len Z wr))
  (fun i _=>(intOf i+1).toNat)
 case atStart=>exact ⟨len,[],Nat.le_refl _,rfl,h0,(by show Desc _ _ _ _ _;rw [Nat.sub_self];exact desc_nil _ _ _),hBs,hG⟩
 case round =>
  obtain ⟨j,ys,hj,rfl,hJs,hD,hcx,hGr⟩:=hrel
  clear hBs hG w0
  cases j with
  | zero =>
   have hD':Hid (Desc len P Z ys len):=hD
   clear hD
   gi_wp2
   go_end0
   exact ⟨⟨_,rfl⟩, .inl ⟨_,hD'.out,hJs⟩⟩
  | succ m =>
   obtain rfl:=ha (by omega)
   obtain ⟨z,hz,hZ⟩:=hGr.out m (by omega)
   have e1:((m+1:Nat):Int) - 1=(m:Int):=by omega
   rw [e1]
   have e2:IntKind.i64.wrap ((m:Int) - 1)=(m:Int) - 1:=wrap_fit (by omega) (by omega)
   have hlt:(m:Int)<(len:Int):=by omega
   obtain ⟨fn,tmps,assign,body,hy,hR⟩:=hY _ ⟨(m,z),by omega,hZP _ _ hZ⟩ wr hJs (by rw [hD.out.len];omega)
   dsimp only at hy
   have hD2:Hid _:=hD.out.snoc (m:=m) (z:=z) (by omega) hZ (hZP _ _ hZ)
   clear e1
   gi_wp2
   refine hR.mono ?_
   rintro e W3 (⟨rfl,hJ3,hk3⟩ | ⟨rfl,hJx3⟩)
   ·have hc3 := hk3.1.trans hcx
    have hG3:=hk3.2 hGr.out
    gi_wp2
    go_roundw
    case rel=>exact ⟨m,_,by omega,rfl,hJ3,(by have:=hD2.out;rwa [show len - (m+1)+1=len - m from by omega] at this),hc3,hG3⟩
    case measure=>simp [intOf]
   ·gi_wp2
    refine bodyPost_ret (results_none rfl _ _ _) rfl ?_
    exact ⟨⟨_,rfl⟩, .inr ⟨_,trivial,hJx3⟩⟩
set_option maxHeartbeats 1000000 in
theorem back_in(F:Fence)(n:Nat)(h5:F.fn 180)(hro:F.round=none)(a:Option Addr)(len cap:Nat)(w:World) :
  CallsIn F n Tryz.prog 180 #[.slice a len cap] w fun e w'=>e = .returned (.func (.func 188) #[] #[.pointer (some ⟨w.heap.size,0,none⟩)])∧w'=w.alloc (.cells #[.slice a len cap] 42):=by
 refine callsIn_of_wp Tryz.func180 rfl h5 ?_ hro
 simp only [Tryz.ntmps180,List.size_toArray,List.length_cons,List.length_nil,Nat.reduceAdd,Nat.reduceSub,Array.replicate_succ,Array.replicate_zero,List.push_toArray,List.append_toArray,List.nil_append,List.cons_append]
 gi_wp2
 go_ret
 exact ⟨rfl,rfl⟩
theorem back_stops(F:Fence)(n:Nat)(h7:F.fn 188)(hro:F.round=none)(hn:1≤n)(Bs g len cap:Nat)(a:Option Addr)(ha:0<len→a=some ⟨g,0,none⟩)(hlen:len≤9223372036854775807)(P:Int→Prop)(Z:Nat→Int→Prop)(hZP:∀ j z,Z j z→P z)(w:World)(hBs:Bs<w.heap.size)(hg:g<w.heap.size)(hc:w.cell? ⟨Bs,0,none⟩=some (.slice a len cap))(hG:GoodZ g len Z w) :
  SeqStopsK F n Tryz.prog 188 #[.pointer (some ⟨Bs,0,none⟩)] (fun x:Bk len P=>#[.int .i64 (x.1.1:Nat), .int .i64 x.1.2]) (KpZ Bs g len Z) (fun ys=>Desc len P Z ys len) (fun _=>True) len w:=fun l J Jx W hW _ _ hY h0 =>
 back1_in F n h7 hro hn l Bs g len cap a ha hlen P Z hZP J Jx hY W ((hW.cell (p:=⟨Bs,0,none⟩) hBs).trans hc) (fun j hj=>by
  obtain ⟨z,hz,hZ⟩:=hG j hj
  exact ⟨z,(hW.cell (p:=⟨g,j,none⟩) hg).trans hz,hZ⟩) h0
end Go.Proofs.YtejlaiofpekchaaGreatDoor
namespace Go.Proofs.YtejlaiofpekchaaGreatDoor
open Go.RowKit Go.Shelf
attribute [local go_sem] Oper.semAt_some
open Go.RowKit
def lenV:Value→Nat | .slice _ n _=>n | _=>0
theorem trim_zero(zs:List Int):trimL (48::zs)=trimL zs:=rfl
theorem trim_stop{c:Int}(h:c≠48)(zs:List Int):trimL (c::zs)=c::zs:=by
 unfold trimL
 rw [List.dropWhile_cons,if_neg (by simpa using h)]
theorem Bytes.tail{w:World}{b off:Nat}{c:Int}{zs:List Int}(h:Bytes w (some ⟨b,off,none⟩) (c::zs)):Bytes w (some ⟨b,off+1,none⟩) zs:=h.drop 1
theorem bytes_none(w:World)(a:Option Addr):Bytes w a []:=⟨by simp,by simp, .inl rfl⟩
set_option maxHeartbeats 400000 in
theorem trimb_any(a:Option Addr)(n cap:Nat)(zs:List Int)(w:World)(hb:Bytes w a zs)(hl:zs.length=n)(hnc:n≤cap)(hcm:cap≤9223372036854775807) :
  Calls Tryz.prog 189 #[.slice a n cap, .int .u8 48] w fun e w'=>(∃ a' n' cap',e = .returned (.slice a' n' cap')∧(trimL zs).length=n'∧Bytes w a' (trimL zs)∧n'≤cap'∧cap'≤9223372036854775807)∧w'=w:=by
 have hB:Hid (Bytes w a zs):=hb
 have hL:Hid (zs.length=n):=hl
 clear hb hl
 go_enter Tryz.func189,Tryz.ntmps189
 go_wp2
 go_loop [0] (fun v=>∃ (a':Option Addr) (n' c':Nat) (ys:List Int),v = .slice a' n' c'∧Hid (ys.length=n')∧Hid (Bytes w a' ys)∧Hid (trimL ys=trimL zs)∧n'≤c'∧c'≤9223372036854775807) (fun v=>lenV v)
 case atStart=>exact ⟨a,n,cap,zs,rfl,hL,hB,rfl,hnc,hcm⟩
 case round =>
  obtain ⟨a',n',c',ys,rfl,hy,hby,htr,hn',hc'⟩:=hrel
  clear hB hL hnc hcm
  cases ys with
  | nil =>
   obtain rfl:n'=0:=hy.out.symm
   have hT:Hid (trimL zs=[]):=htr.out.symm
   go_wp2
   go_ret
   exact ⟨⟨none,0,0,rfl,by rw [hT.out];rfl,by rw [hT.out];exact bytes_none _ _,Nat.le_refl _,by omega⟩,rfl⟩
  | cons c ys =>
   obtain ⟨m,rfl⟩:∃ m,n'=m+1:=⟨ys.length,by rw [←hy.out];rfl⟩
   obtain ⟨b,off,rfl⟩:=bytes_some hby.out (by simp)
   have hcell:w.cell? ⟨b,off,none⟩=some (.int .u8 c):=by
    rcases hby.out.2.2 with h | ⟨b',o',h,hcc⟩
    ·cases h
    ·cases h
     exact hcc 0 (by simp)
   have hy':Hid (ys.length=m):=by have:=hy.out;simp only [List.length_cons] at this;show _=_;omega
   by_cases h48:c=48
   ·subst h48
    have hbt:Hid _:=hby.out.tail
    have htr':Hid (trimL ys=trimL zs):=by have:=htr.out;rwa [trim_zero] at this
    by_cases hc1:c'=1
    ·subst hc1
     obtain rfl:m=0:=by omega
     have hys:ys=[]:=List.eq_nil_of_length_eq_zero hy'.out
     go_wp2
     go_round
     case rel=>exact ⟨_,0,_,[],rfl,rfl,bytes_none _ _,(by rw [←hys];exact htr'),by omega,by omega⟩
     case measure=>simp [lenV]
    ·have hc2 : (c' = 1) = False := by simp; omega
     clear hc1
     go_wp2
     go_round
     case rel=>exact ⟨_,m,c' - 1,ys,by simp,hy',hbt,htr',by omega,by omega⟩
     case measure=>simp [lenV]
   ·have hT : Hid (trimL zs = c :: ys) := by rw [← htr.out]; exact trim_stop h48 ys
    have hd:(c==48)=false:=by simpa using h48
    clear h48
    go_wp2
    go_ret
    exact ⟨⟨_,m+1,c',rfl,by rw [hT.out];exact hy.out,by rw [hT.out];exact hby.out,hn',hc'⟩,rfl⟩
set_option maxRecDepth 100000 in
set_option maxHeartbeats 400000 in
theorem trim_any(a:Option Addr)(n cap:Nat)(zs:List Int)(w:World)(hb:Bytes w a zs)(hl:zs.length=n)(hnc:n≤cap)(hcm:cap≤9223372036854775807) :
  Calls Tryz.prog 181 #[.slice a n cap, .string ⟨#[48]⟩] w fun e w'=>(∃ a' n' cap',e = .returned (.slice a' n' cap')∧(trimL zs).length=n'∧Bytes w a' (trimL zs)∧n'≤cap'∧cap'≤9223372036854775807)∧w'=w:=by
 by_cases h0:n=0
 ·subst h0
  obtain rfl:=List.eq_nil_of_length_eq_zero hl
  clear hb hl
  go_enter Tryz.func181,Tryz.ntmps181
  go_wp2
  go_ret
  exact ⟨⟨none,0,0,rfl,rfl,bytes_none _ _,Nat.le_refl _,by omega⟩,rfl⟩
 ·have hk := trimb_any a n cap zs w hb hl hnc hcm
  have hn0:((n:Int)==0)=false:=by simp;omega
  clear hb hl hnc hcm h0
  go_enter Tryz.func181,Tryz.ntmps181
  go_wp2_with (go_at_call 189;refine hk.mono ?_;rintro e w' ⟨⟨a',n',cap',rfl,hx⟩,hw⟩;obtain rfl:w=w':=hw.symm)
  go_ret
  exact ⟨⟨a',n',cap',rfl,hx⟩,rfl⟩
end Go.Proofs.YtejlaiofpekchaaGreatDoor
