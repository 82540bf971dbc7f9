/-
  Groups told as a number: nat.tell.
  Groups multiplied by a number, and a number added: nat.timesPlus; groups without the 0 at their end: nat.withoutZeros.
  Products: nat.Mul.
  Powers: nat.Power.
  A number is made: dec.Make.
-/
import Derived.Test.YtejlaiofpekchaaGreatDoorC10
import Derived.Test.YtejlaiofpekchaaGreatDoorC8
import Derived.Maps.AppendAt
import Derived.Lib.Hide
namespace Go.Proofs.YtejlaiofpekchaaGreatDoor
open Go.RowKit Go.Shelf
attribute [local go_sem] Oper.semAt_some
def wt(k:Nat):Int:=1000000 / 10 ^ (k+1)
theorem wt_pos{k:Nat}(h:k<6):0<wt k∧wt k≤100000:=by
 match k,h with
 | 0,_=>decide
 | 1,_=>decide
 | 2,_=>decide
 | 3,_=>decide
 | 4,_=>decide
 | 5,_=>decide
theorem wt_next{k:Nat}(h:k<6):(wt k).tdiv 10=wt (k+1):=by
 match k,h with
 | 0,_=>decide
 | 1,_=>decide
 | 2,_=>decide
 | 3,_=>decide
 | 4,_=>decide
 | 5,_=>decide
theorem wt_dig{k:Nat}(h:k<6)(z:Int):(dig6 z).take (k+1)=(dig6 z).take k++[48+z / wt k % 10]:=by
 match k,h with
 | 0,_=>rfl
 | 1,_=>rfl
 | 2,_=>rfl
 | 3,_=>rfl
 | 4,_=>rfl
 | 5,_ =>
  have e:z / wt 5=z:=Int.ediv_one z
  rw [e]
  rfl
abbrev IsG(z:Int):Prop:=0≤z∧z<1000000
def digsOf{n:Nat}(pre:List (Bk n IsG)):List Int:=pre.flatMap fun x=>dig6 x.1.2
theorem digsOf_snoc{n:Nat}(pre:List (Bk n IsG))(x:Bk n IsG):digsOf (pre++[x])=digsOf pre++dig6 x.1.2:=by simp [digsOf]
theorem digsOf_len{n:Nat}(pre:List (Bk n IsG)):(digsOf pre).length=6*pre.length:=by
 induction pre with
 | nil=>rfl
 | cons x pre ih =>
  have:digsOf (x::pre)=dig6 x.1.2++digsOf pre:=by simp [digsOf]
  rw [this,List.length_append,ih,List.length_cons]
  show 6+_=_
  omega
def BoxB(W:World)(B base:Nat)(zs:List Int):Prop:=∃ v,Boxed W B 23 v∧OwnsB W base v zs
theorem rows_apart{w:World}{b1 b2 k1 k2:Nat}{e1 e2:TypeId}{v1 v2:Value}{x1 x2:List Value}(h1:w.ownsRow b1 e1 1 v1 k1 x1)(h2:w.ownsRow b2 e2 1 v2 k2 x2)(hne:e1≠e2):v1.ownBlock=none∨v1.ownBlock≠v2.ownBlock:=by
 rcases h1.2 with ⟨rfl,_⟩ | ⟨g1,c1,cur1,rfl,_,hg1,_⟩
 ·exact .inl rfl
 ·refine .inr fun e => ?_
  rcases h2.2 with ⟨rfl,_⟩ | ⟨g2,c2,cur2,rfl,_,hg2,_⟩
  ·simp [Value.ownBlock] at e
  ·obtain rfl : g1 = g2 := by simpa [Value.ownBlock] using e
   rw [hg1] at hg2
   simp only [Option.some.injEq,Obj.cells.injEq] at hg2
   exact hne hg2.2.1
theorem byte_new(w:World)(c:Int):∀ (j:Nat) (u:Value),[Value.int .u8 c][j]? = some u→(w.alloc (.cells #[.int .u8 c] 5)).cell? ((⟨w.heap.size,0,none⟩:Addr).add j)=some u:=cell_one_new _ _ _
theorem bytes_apart{w:World}{B:Nat}{t:TypeId}{x:Option Addr}{n c:Nat}{u:Value}(h:Boxed w B t (.slice x n c)){a:Option Addr}{zs:List Int}(hb:Bytes w a zs):Bytes (w.setCell ⟨B,0,none⟩ u) a zs:=by
 refine ⟨hb.1,hb.2.1,?_⟩
 rcases hb.2.2 with h0 | ⟨b,off,rfl,hc⟩
 ·exact .inl h0
 ·refine .inr ⟨b, off, rfl, fun i hi => ?_⟩
  have h1:=hc i hi
  have hne:B≠b:=by
   rintro rfl
   rw [cell_row h] at h1
   obtain ⟨hlt,h2⟩:=Array.getElem?_eq_some_iff.1 h1
   have h3:off+i=0:=by simp at hlt;omega
   simp only [h3] at h2
   cases h2
  rw [cell_apart _ _ _ (by exact hne)]
  exact h1
theorem desc_digs{n:Nat}{l:List Int}{ys:List (Bk n IsG)}(h:Desc n IsG (fun j z=>z=l.getD j 0∧IsG z) ys n)(hl:l.length=n):digsOf ys=tellL l:=by
 have e:(ys.map fun x=>x.1.2)=l.reverse:=by
  have e1:(ys.map fun x=>x.1.2)=(ys.map fun x=>x.1.1).map fun j=>l.getD j 0:=by
   rw [List.map_map]
   exact List.map_congr_left fun x hx=>(h.2 x hx).1
  rw [e1,h.1]
  unfold upto
  rw [List.map_map]
  subst hl
  apply List.ext_getElem
  ·simp
  ·intro i h1 h2
   simp only [List.length_map,List.length_range] at h1
   simp only [List.getElem_map,List.getElem_range,Function.comp_apply,List.getElem_reverse]
   rw [List.getD_eq_getElem?_getD,List.getElem?_eq_getElem (by omega)]
   rfl
 unfold digsOf tellL
 rw [←e,List.flatMap_map]
theorem short_fits{v:Nat}(h:(numL v).length≤800):shortA v=(strOfNums (numL v),0):=by
 unfold shortA
 rw [if_pos (by unfold top;exact (num_len (k:=800) (by omega)).1 h)]
 rfl
theorem short_long{v:Nat}(h:800<(numL v).length):shortA v=(noS,11):=by
 unfold shortA
 rw [if_neg]
 unfold top
 intro h1
 have:=(num_len (k:=800) (by omega)).2 h1
 omega
theorem short_zero:shortA 0=(⟨#[48]⟩,0):=by
 rw [short_fits (by decide)]
 rfl
def TellI(w W0 W:World)(B base n cap:Nat)(a:Option Addr)(l zs:List Int)(wr:World):Prop :=
 BoxB wr B base zs∧Boxed wr (B+1) 42 (.slice a n cap)∧OwnsI wr base (.slice a n cap) l∧Below base w wr∧KeepsFrom W0.heap.size W wr
theorem tell_append{w W0 W:World}{B base n cap:Nat}{a:Option Addr}{l zs:List Int}{wr:World}(h:TellI w W0 W B base n cap a l zs wr)(c:Int)(hc:0≤c∧c<256)(hsm:zs.length≤1000000)(hbB:base≤B)(hbw:base≤w.heap.size) :
  ∃ av nv cv g' cap' w1,Boxed wr B 23 (.slice av nv cv)∧(Builtin.append_ #[23,23] 23 #[.slice av nv cv, .slice (some ⟨wr.heap.size,0,none⟩) 1 1]).run Tryz.prog (wr.alloc (.cells #[.int .u8 c] 5)).drew = .ok (.slice (some ⟨g',0,none⟩) (nv+1) cap') w1 ∧
   w1.cell? ⟨B,0,none⟩=some (.slice av nv cv)∧w1.frozen? ⟨B,0,none⟩=false∧TellI w W0 W B base n cap a l (zs++[c]) (w1.setCell ⟨B,0,none⟩ (.slice (some ⟨g',0,none⟩) (nv+1) cap')):=by
 obtain ⟨⟨v,hv,hO⟩,hbx,hOI,hbl,hkf⟩:=h
 obtain ⟨i0,hi,hz0,hz1,hz2⟩:=info_parts info5
 have hbr:base≤wr.heap.size:=Nat.le_trans hbw hbl.size
 obtain ⟨v',w1,hrun,hown,hgrow, -⟩:=run_append_own (P:=Tryz.prog) (wr.alloc (.cells #[.int .u8 c] 5)).drew base 23 23 5 i0 (.int .u8 0) 1 1 Tryz.underlying23 hi hz0 hz1 hz2 rfl (by decide) v zs.length _ (show ((wr.alloc (.cells #[.int .u8 c] 5)).drew).ownsRow base 5 1 v zs.length (zs.map (Value.int .u8)) from hO.1.alloc _) ⟨wr.heap.size,0,none⟩ 1 1 [.int .u8 c] rfl (byte_new wr c) (by simp [Value.oneCell']) (by unfold maxLen;omega) (by omega) (by show base≤(wr.alloc _).heap.size;simp;omega)
 obtain ⟨g',cap',rfl⟩:=ownsRow_succ hown
 obtain ⟨av,cv,hve, -⟩:=hO.shape
 have hap:=Boxed.appended (W:=wr.drew) (tmp := .cells #[.int .u8 c] 5) (show Boxed wr.drew B 23 v from hv) (by decide) (show (wr.drew).ownsRow base 5 1 v zs.length (zs.map (Value.int .u8)) from hO.1) hbr hbB hown hgrow
 obtain ⟨p1,p2,p3,p4,p5⟩:=hap
 have q1:OwnsI w1 base (.slice a n cap) l:=World.ownsRow.kept (show ((wr.alloc (.cells #[.int .u8 c] 5)).drew).ownsRow base 3 1 (.slice a n cap) l.length (l.map (Value.int .i64)) from hOI.alloc _) hgrow (rows_apart hOI hO.1 (by decide))
 have q2:OwnsI (w1.setCell ⟨B,0,none⟩ (.slice (some ⟨g',0,none⟩) (zs.length+1) cap')) base (.slice a n cap) l:=World.ownsRow.kept q1 (grownBy_setCell' w1 B _) (.inr (p1.not_row (by decide) q1).symm)
 have q3:Boxed w1 (B+1) 42 (.slice a n cap):=(show Boxed ((wr.alloc (.cells #[.int .u8 c] 5)).drew) (B+1) 42 (.slice a n cap) from hbx.alloc _).kept hgrow (hbx.not_row (by decide) hO.1)
 refine ⟨av,zs.length,cv,g',cap',w1,by rw [←hve];exact hv,by rw [←hve];exact hrun,by rw [←hve];exact p1.cell,p1.frozen,⟨_,p2,?_,?_⟩,boxed_apart _ q3 (by show B≠B+1;omega),q2,hbl.drew.trans p5,hkf.trans (((KeepsOthers.drew _).trans p4).from _)⟩
 ·rw [List.length_append, List.map_append]
  exact p3
 ·intro x hx
  rcases List.mem_append.1 hx with h1 | h1
  ·exact hO.2 x h1
  ·simp only [List.mem_cons, List.not_mem_nil, or_false] at h1
   rw [h1];exact hc
set_option maxRecDepth 100000 in
set_option maxHeartbeats 2000000 in
theorem tell_fold(a:Option Addr)(g n cap base:Nat)(l:List Int)(w:World)(ha:0<n→a=some ⟨g,0,none⟩)(hgw:g≤w.heap.size)(hn:n≤100000)(hln:l.length=n)(hl:Grp 1000000 l)(hs:Calls Tryz.prog 179 #[.slice a n cap] w fun e w'=>e = .returned (.tuple #[])∧OwnsI w' base (.slice a n cap) l∧Below base w w')(hbw:base≤w.heap.size) :
  Calls Tryz.prog 165 #[.slice a n cap] w fun e w'=>e = .returned (.tuple #[.string (shortA (lv 1000000 l).toNat).1, .int .i64 (shortA (lv 1000000 l).toNat).2])∧Below base w w':=by
 obtain ⟨i0,hi,hz0,hz1,hz2⟩:=info_parts info5
 have w1:IntKind.i64.wrap ((n:Int)*6)=((n*6:Nat):Int):=by rw [wrap_fit (by omega) (by omega)];omega
 refine (callsIn_wide (n:=5)).1 ?_
 refine callsIn_of_wp_marks Tryz.func165 rfl trivial ?_ rfl
 simp only [Tryz.ntmps165,List.size_toArray,List.length_cons,List.length_nil,Nat.reduceAdd,Nat.reduceSub,Array.replicate_succ,Array.replicate_zero,List.push_toArray,List.append_toArray,List.nil_append,List.cons_append]
 gi_wp2_with (first
  | (refine ⟨trivial,?_⟩;gi_at_call 179;refine (callsIn_wide.2 hs).mono ?_;rintro e w2 ⟨rfl,ho2,hb2⟩)
  | (gi_at_make;refine wpListIn_make_own _ rfl _ _ 23 rfl base 5 i0 (.int .u8 0) 1 Tryz.underlying23 hi hz0 hz1 .i64 .i64 _ (n*6) rfl rfl (by first | rfl | simp) (by rw [hz2];omega) (by unfold maxLen;omega) (Nat.le_trans hbw hb2.size) ?_;intro w3 ho3 hg3)
  | (refine ⟨trivial,?_⟩;gi_at_call 180;refine (back_in Fence.wide _ trivial rfl _ _ _ _).mono ?_;rintro e w' ⟨rfl,rfl⟩))
 have hb3:Below base w w3:=hb2.grown hg3 (Nat.le_trans hbw hb2.size) (by simp)
 have hO3:OwnsI w3 base (.slice a n cap) l:=World.ownsRow.kept ho2 hg3 (by cases (Value.slice a n cap).ownBlock <;> simp)
 have hDn:OwnsB w3 base (.slice (some ⟨w2.heap.size,0,none⟩) 0 (n*6)) []:=⟨ho3,by simp⟩
 clear ho2 hb2 hg3 ho3
 obtain ⟨W0,hW0⟩:∃ W0,(w3.alloc (.cells #[.slice (some ⟨w2.heap.size,0,none⟩) 0 (n*6)] 23)).alloc (.cells #[.slice a n cap] 42)=W0:=⟨_,rfl⟩
 have hs0:W0.heap.size=w3.heap.size+2:=by rw [←hW0];simp
 have hg0:g<W0.heap.size:=by have:=hb3.size;omega
 have b1:BoxB W0 w3.heap.size base []:=by rw [←hW0];exact ⟨_,(Boxed.new w3 23 _).alloc _,(hDn.alloc _).alloc _⟩
 have b2:Boxed W0 (w3.heap.size+1) 42 (.slice a n cap):=by
  rw [←hW0]
  have:=Boxed.new (w3.alloc (.cells #[.slice (some ⟨w2.heap.size,0,none⟩) 0 (n*6)] 23)) 42 (.slice a n cap)
  rw [World.size_alloc] at this
  exact this
 have hO:OwnsI W0 base (.slice a n cap) l:=by rw [←hW0];exact (hO3.alloc _).alloc _
 have hsz3:base≤w3.heap.size:=Nat.le_trans hbw hb3.size
 have hB:Below base w W0:=by
  rw [←hW0]
  exact (hb3.alloc hsz3 _).alloc (by simp;omega) _
 have hgood:∀ W,OwnsI W base (.slice a n cap) l→GoodZ g n (fun j z=>z=l.getD j 0∧IsG z) W:=fun W hW j hj=>by
  obtain rfl:=ha (by omega)
  exact ⟨_,hW.cell (by omega),rfl,hl.at (by omega)⟩
 rw [hW0]
 clear hW0 hO3 hDn hb3
 refine wpIn_rangeFunc_ownG (w:=W0) rfl (by decide) (gf:=188) (lb:=#[.pointer (some ⟨w3.heap.size+1,0,none⟩)]) rfl trivial (enters_of Tryz.func188 (by kernel_rfl) rfl)
  (back_stops Fence.wide _ trivial rfl (by decide) (w3.heap.size+1) g n cap a ha (by omega) IsG (fun j z=>z=l.getD j 0∧IsG z) (fun _ _ h=>h.2) W0 (by omega) hg0 b2.cell (hgood _ hO)) kpZ_t (kpZ_b (by omega) hg0) (Below.refl _ _) (fun _=>rfl)
  (fun pre W=>BoxB W w3.heap.size base (digsOf pre)∧Boxed W (w3.heap.size+1) 42 (.slice a n cap)∧OwnsI W base (.slice a n cap) l∧Below base w W)
  (fun _ _ _=>False)
  (fun s A B row hs hg hr => ⟨by
   obtain ⟨v,hv,ho⟩:=hs.1
   exact ⟨v,boxed_keep hv hg hr,row_keep ho.1 hg hr,ho.2⟩,boxed_keep hs.2.1 hg hr,row_keep hs.2.2.1 hg hr,below_keep hs.2.2.2 (by omega) hbw hg hr⟩)
  (fun _ _ _ _ _ hs _ _=>hs)
  ⟨b1,b2,hO,hB⟩
  (fun x=>{ tmps:=#[.slice a n cap,undef, .string ⟨#[]⟩, .int .i64 0, .pointer (some ⟨w3.heap.size,0,none⟩),undef, .int .i64 x.1.2,undef, .slice a n cap, .tuple #[], .slice a n cap, .int .i64 n, .int .i64 (n*6), .slice (some ⟨w2.heap.size,0,none⟩) 0 (n*6), .slice a n cap, .func (.func 188) #[] #[.pointer (some ⟨w3.heap.size+1,0,none⟩)], .int .i64 (x.1.1:Nat), .int .i64 x.1.2,undef,undef,undef,undef,undef,undef,undef,undef,undef,undef,undef,undef,undef,undef,undef,undef,undef,undef,undef,undef,undef,undef,undef],defers:=[] }) ?assign ?body ?done ?stop
 case assign =>
  intro l x W K hK
  gi_wp2
  exact hK
 case body =>
  rintro lr pre x W ⟨c1,c2,hOr,hBr⟩ hlt
  obtain ⟨⟨q,z⟩,hq,hzG⟩:=x
  have hzs:Hid ((digsOf pre).length≤700000):=by show _≤_;rw [digsOf_len];omega
  have hI:Hid (TellI w W0 W w3.heap.size base n cap a l (digsOf pre) W):=⟨c1,c2,hOr,hBr,KeepsFrom.refl _ _⟩
  have mixed:Tryz.prog.follows .mixedOrders=true:=by kernel_rfl
  have hfin:Hid (∀ wr,TellI w W0 W w3.heap.size base n cap a l (digsOf pre++dig6 z) wr→ownPostG W0.heap.size (KpZ (w3.heap.size+1) g n fun j z=>z=l.getD j 0∧IsG z) (fun (pre:List (Bk n IsG)) W=>BoxB W w3.heap.size base (digsOf pre)∧Boxed W (w3.heap.size+1) 42 (.slice a n cap)∧OwnsI W base (.slice a n cap) l∧Below base w W) (fun _ _ _=>False) (pre++[⟨(q,z),hq,hzG⟩]) W .normal { tmps:=#[],defers:=[] } wr):=by
   rintro wr ⟨d1,d2,d3,d4,d5⟩
   refine ⟨d5,⟨?_,fun _=>hgood _ d3⟩,?_,d2,d3,d4⟩
   ·unfold KpB
    rw [d2.cell,c2.cell]
   ·rw [digsOf_snoc]
    exact d1
  clear c1 c2 hOr hBr b1 b2 hO hB
  have hzG':IsG z:=hzG
  generalize digsOf pre=zs at *
  gi_wp2
  gi_loopw [7] (fun wv wr=>∃ k:Nat,k≤6∧wv = .int .i64 (wt k)∧Hid (TellI w W0 W w3.heap.size base n cap a l (zs++(dig6 z).take k) wr)) (fun wv _=>(intOf wv).toNat)
  case atStart=>exact ⟨0,by decide,rfl,(by show TellI _ _ _ _ _ _ _ _ _ _ _;rw [List.take_zero,List.append_nil];exact hI.out)⟩
  case round =>
   obtain ⟨k,hk,rfl,hT⟩:=hrel
   by_cases hk6:k<6
   ·have hwp := wt_pos hk6
    have hdz:0≤z / wt k % 10∧z / wt k % 10≤9:=by omega
    obtain ⟨av,nv,cv,g',cap',w1',hbx,hrun,hcl,hfr,hI2⟩:=tell_append hT.out (48+z / wt k % 10) (by omega) (by rw [List.length_append,List.length_take];have:=hzs.out;omega) (by omega) hbw
    rw [List.append_assoc,←wt_dig hk6] at hI2
    have hI':Hid _:=hI2
    have hcb:=hbx.cell
    have hwn:=wt_next hk6
    have hms:Hid ((intOf (.int .i64 (wt (k+1)))).toNat<(intOf (.int .i64 (wt k))).toNat):=by
     show (wt (k+1)).toNat<(wt k).toNat
     rw [←hwn,Int.tdiv_eq_ediv_of_nonneg (by omega)]
     omega
    have hY:IntKind.i64.wrap (z.tdiv (wt k))=z / wt k:=by
     rw [Int.tdiv_eq_ediv_of_nonneg hzG'.1]
     have h1:0≤z / wt k:=Int.ediv_nonneg hzG'.1 (by omega)
     have h2:z / wt k≤z:=Int.ediv_le_self _ hzG'.1
     exact wrap_fit (by omega) (by have:=hzG'.2;omega)
    have hYn:0≤z / wt k:=Int.ediv_nonneg hzG'.1 (by omega)
    have hR:Int.tmod (z / wt k) 10=z / wt k % 10:=Int.tmod_eq_emod_of_nonneg hYn
    generalize z / wt k=Y at *
    generalize Y % 10=D at *
    have hA:IntKind.i64.wrap (48+D)=48+D:=wrap_fit (by omega) (by omega)
    have hU:IntKind.u8.wrap (48+D)=48+D:=by rw [IntKind.wrap_u8];omega
    have hw0:(wt k=0)=False:=by simp;omega
    have hw1:decide (0<wt k)=true:=by simp;omega
    have hwk:IntKind.i64.wrap (wt (k+1))=wt (k+1):=by
     have h1:=hwn
     rw [Int.tdiv_eq_ediv_of_nonneg (by omega)] at h1
     exact wrap_fit (by omega) (by omega)
    obtain ⟨c,hcD⟩:∃ c,48+D=c:=⟨_,rfl⟩
    rw [hcD] at hA hU hrun
    have hcb2:∀ o,(wr.alloc o).cell? ⟨w3.heap.size,0,none⟩=some (.slice av nv cv):=fun o=>(hbx.alloc o).cell
    clear hwp hdz hzG' hYn hI2 hT hI hfin
    gi_wp2
    refine region_round mixed (by rfl) ?_
    (refine wpAnyIn_take (i:=1) (v:=?_) rfl rfl (by kernel_rfl) (by kernel_rfl) (by kernel_rfl) (fun _ _ _ h=>h) ⟨Or.inl ⟨by rfl,(by intro w;(go_simp <;> with_reducible rfl))⟩,fun _=>rfl⟩ ?_)
    (refine wpAnyIn_take (i:=2) (v:=?_) rfl rfl (by kernel_rfl) (by kernel_rfl) (by kernel_rfl) (fun _ _ _ h=>h) ⟨Or.inl ⟨by rfl,(by intro w;(go_simp <;> with_reducible rfl))⟩,fun _=>rfl⟩ ?_)
    (refine wpAnyIn_take (i:=3) (v:=?_) rfl rfl (by kernel_rfl) (by kernel_rfl) (by kernel_rfl) (fun _ _ _ h=>h) ⟨Or.inl ⟨by rfl,(by intro w;(go_simp <;> with_reducible rfl))⟩,fun _=>rfl⟩ ?_)
    (refine wpAnyIn_take (i:=4) (v:=?_) rfl rfl (by kernel_rfl) (by kernel_rfl) (by kernel_rfl) (fun _ _ _ h=>h) ⟨Or.inl ⟨by rfl,(by intro w;(go_simp <;> with_reducible rfl))⟩,fun _=>rfl⟩ ?_)
    (refine wpAnyIn_take (i:=5) (v:=?_) rfl rfl (by kernel_rfl) (by kernel_rfl) (by kernel_rfl) (fun _ _ _ h=>h) ⟨Or.inl ⟨by rfl,(by intro w;(go_simp <;> with_reducible rfl))⟩,fun _=>rfl⟩ ?_)
    (refine wpAnyIn_take (i:=6) (v:=?_) rfl rfl (by kernel_rfl) (by kernel_rfl) (by kernel_rfl) (fun _ _ _ h=>h) ⟨Or.inl ⟨by rfl,(by intro w;(go_simp <;> with_reducible rfl))⟩,fun _=>rfl⟩ ?_)
    (refine wpAnyIn_ready (rs:=[0,7]) (by kernel_rfl) (by simp) ?_;refine (AllReadyIn.cons rfl (fun K hK=>?_) (AllReadyIn.cons rfl (fun K hK=>?_) AllReadyIn.nil)) <;> (go_simp;refine hK _ _ ?_;clear hK K))
    ·(refine wpAnyIn_ready (rs := [7]) (by kernel_rfl) (by simp) ?_; refine (AllReadyIn.cons rfl (fun K hK => ?_) AllReadyIn.nil) <;> (go_simp; refine hK _ _ ?_; clear hK K))
     refine wpAnyIn_ready (rs:=[8]) (by kernel_rfl) (by simp) (ready_append (s := .tmp 22) (x := .tmp 29) (t:=23) rfl rfl rfl hrun ?_)
     (refine wpAnyIn_ready (rs:=[9]) (by kernel_rfl) (by simp) ?_;refine (AllReadyIn.cons rfl (fun K hK=>?_) AllReadyIn.nil) <;> (go_simp;refine hK _ _ ?_;clear hK K))
     (refine wpAnyIn_done (by kernel_rfl) ?_ _)
     gi_wp2
     go_roundw
     case rel=>exact ⟨k+1,by omega,rfl,hI'.out⟩
     case measure=>exact hms.out
    ·(refine wpAnyIn_ready (rs := [0]) (by kernel_rfl) (by simp) ?_; refine (AllReadyIn.cons rfl (fun K hK => ?_) AllReadyIn.nil) <;> (go_simp; refine hK _ _ ?_; clear hK K))
     refine wpAnyIn_ready (rs:=[8]) (by kernel_rfl) (by simp) (ready_append (s := .tmp 22) (x := .tmp 29) (t:=23) rfl rfl rfl hrun ?_)
     (refine wpAnyIn_ready (rs:=[9]) (by kernel_rfl) (by simp) ?_;refine (AllReadyIn.cons rfl (fun K hK=>?_) AllReadyIn.nil) <;> (go_simp;refine hK _ _ ?_;clear hK K))
     (refine wpAnyIn_done (by kernel_rfl) ?_ _)
     gi_wp2
     go_roundw
     case rel=>exact ⟨k+1,by omega,rfl,hI'.out⟩
     case measure=>exact hms.out
   ·obtain rfl : k = 6 := by omega
    have hT':=hT.out
    rw [show (dig6 z).take 6=dig6 z from rfl] at hT'
    have hf:=hfin.out wr hT'
    have e6:wt 6=0:=by decide
    rw [e6]
    gi_wp2
    first | exact hf | (rw [hs0] at hf;exact hf)
 case done =>
  rintro D ys W hD hS ⟨c1,c2,hOr,hBr⟩ hK
  obtain ⟨v,hv,hOv⟩:=c1
  obtain ⟨av,m,cv,rfl,hm, -,hmc,hcc,hBy⟩:=hOv.form
  rw [desc_digs hS hln] at hm hBy
  have htr:=trim_any av m cv (tellL l) W hBy.out hm.out hmc hcc
  have hcl:=hv.cell
  have hfr:=hv.frozen
  have hcl2:∀ u,(W.setCell ⟨w3.heap.size,0,none⟩ u).cell? ⟨w3.heap.size,0,none⟩=some u:=fun u=>(hv.set u).cell
  have hV:=tell_val hl
  have hDg:=tell_digs l
  have hbap:=fun u=>fun (a':Option Addr) (zs:List Int) (h:Bytes W a' zs)=>bytes_apart (u:=u) hv h
  have hkeep:Hid (∀ u,Below base w ((W.setCell ⟨w3.heap.size,0,none⟩ u).putObj D (.deferred none))):=fun u=>(hBr.setCell (p:=⟨w3.heap.size,0,none⟩) hsz3 u).trans (belowK_b (w:=w) hbw (W.setCell ⟨w3.heap.size,0,none⟩ u) D _ _ (by have:=hB.size;omega) ((KeepsOthers.setCell W ⟨w3.heap.size,0,none⟩ u).same D _ hK rfl) rfl rfl)
  have hK':∀ u,(W.setCell ⟨w3.heap.size,0,none⟩ u).heap[D]? = some (.deferred (some [])):=fun u=>(KeepsOthers.setCell W ⟨w3.heap.size,0,none⟩ u).same D _ hK rfl
  clear hBy hOv hOr c2 hS hBr
  gi_wp2_with (refine ⟨trivial,?_⟩;gi_at_call 181;refine (callsIn_wide.2 htr).mono ?_;rintro e w9 ⟨⟨a',n',cap',rfl,hn',hb',hc1,hc2⟩,hw9⟩;obtain rfl:W=w9:=hw9.symm;refine Hid.out ?_)
  refine Lib.hid ?_
  have ks:=conv_str (hbap (.slice a' n' cap') a' (trimL (tellL l)) hb') n' cap' hn'
  have hVn:Hid ((lv 1000000 l).toNat=valS (tellL l)):=by show _=_;omega
  by_cases h0:n'=0
  ·subst h0
   have ht0:=List.eq_nil_of_length_eq_zero hn'
   have hr:Hid (shortA (valS (tellL l))=(⟨#[48]⟩,0)):=by
    rw [trim_none ht0]
    exact short_zero
   clear htr ks hn' hb' ht0 hV hbap
   gi_wp2
   refine ⟨by simp, .inl ⟨_,_,rfl,run_takeDeferred (hK' _),?_⟩⟩
   exact ⟨_,results_tmp2 rfl _ _ _,(by rw [hVn.out,hr.out];rfl),hkeep.out _⟩
  ·have hne : trimL (tellL l) ≠ [] := fun h => h0 (by rw [← hn', h]; rfl)
   have hnum:=trim_num hDg hne
   have hd0:((n':Int)==0)=false:=by simp;omega
   by_cases h8:800<n'
   ·have hr : Hid (shortA (valS (tellL l)) = (noS, 11)) := by
     refine short_long ?_
     rw [←hnum,hn']
     exact h8
    have hd8:decide (800<(n':Int))=true:=by simp;omega
    clear htr ks hn' hb' hne hnum hV hbap h0 h8
    gi_wp2
    refine ⟨by simp, .inl ⟨_,_,rfl,run_takeDeferred (hK' _),?_⟩⟩
    exact ⟨_,results_tmp2 rfl _ _ _,(by rw [hVn.out,hr.out];rfl),hkeep.out _⟩
   ·have hr : Hid (shortA (valS (tellL l)) = (strOfNums (trimL (tellL l)), 0)) := by
     rw [hnum]
     refine short_fits ?_
     rw [←hnum,hn']
     omega
    have hd8:decide (800<(n':Int))=false:=by simp;omega
    clear htr hn' hb' hne hnum hV hbap h0 h8
    gi_wp2
    refine ⟨by simp, .inl ⟨_,_,rfl,run_takeDeferred (hK' _),?_⟩⟩
    exact ⟨_,results_tmp2 rfl _ _ _,(by rw [hVn.out,hr.out];rfl),hkeep.out _⟩
 case stop =>
  rintro D c pre W _ _ h _
  exact h.elim
theorem tell_any(v:Value)(l:List Int)(base:Nat)(w:World)(ho:OwnsI w base v l)(hb:∀ g∈l, -1000000000000000000≤g∧g≤1000000000000000000)(h0:0≤lv 1000000 l)(h1:lv 1000000 l<1000000 ^ l.length)(hn:l.length≤100000)(hbw:base≤w.heap.size) :
  Calls Tryz.prog 165 #[v] w fun e w'=>e = .returned (.tuple #[.string (shortA (lv 1000000 l).toNat).1, .int .i64 (shortA (lv 1000000 l).toNat).2])∧Below base w w':=by
 have hs:=settle_any v l base w ho hb
 obtain ⟨a1,a2,a3⟩:=settle_grp l 0
 rw [←settle_val h0 h1]
 obtain ⟨a,n,cap,rfl,hl, -, -, -, -⟩:=ho.form
 have hl':=hl.out
 by_cases hn0:n=0
 ·exact tell_fold a w.heap.size n cap base (settleL 0 l).1 w (fun h=>by omega) (Nat.le_refl _) (by omega) (by omega) a1 hs hbw
 ·obtain ⟨g, n', cap', hv, -, -, -, hbg⟩ := ho.row (by omega)
  cases hv
  exact tell_fold _ g n cap base (settleL 0 l).1 w (fun _=>rfl) (by have:=ho.ge;omega) (by omega) (by omega) a1 hs hbw
end Go.Proofs.YtejlaiofpekchaaGreatDoor
namespace Go.Proofs.YtejlaiofpekchaaGreatDoor
open Go.RowKit
theorem times_step{l r:List Int}{k:Nat}{by' over T:Int}(hk:k<l.length)(hr:r.length=k)(h:lv 1000000 r+1000000 ^ k*(over+by'*lv 1000000 (l.drop k))=T) :
  lv 1000000 (r++[(l.getD k 0*by'+over) % 1000000])+1000000 ^ (k+1)*((l.getD k 0*by'+over) / 1000000+by'*lv 1000000 (l.drop (k+1)))=T:=by
 rw [lv_drop 1000000 l k hk] at h
 rw [lv_snoc,hr,←h,Int.pow_succ,Int.add_assoc,Int.mul_assoc,←Int.mul_add]
 congr 1
 congr 1
 generalize l.getD k 0=X
 generalize lv 1000000 (l.drop (k+1))=Y
 have h1:=Int.mul_ediv_add_emod (X*by'+over) 1000000
 rw [Int.mul_add 1000000,Int.mul_add by',Int.mul_left_comm by']
 rw [Int.mul_comm X by'] at *
 omega
set_option maxHeartbeats 1000000 in
theorem times_any(v:Value)(l:List Int)(base:Nat)(w:World)(ho:OwnsI w base v l)(hl:Grp 1000000 l)(hn:l.length≤1000000)(by' plus:Int)(hby:0≤by'∧by'≤1000000)(hpl:0≤plus∧plus<1000000)(hbw:base≤w.heap.size) :
  Calls Tryz.prog 164 #[v, .int .i64 by', .int .i64 plus] w fun e w'=>(∃ v' l',e = .returned v'∧OwnsI w' base v' l'∧Grp 1000000 l'∧lv 1000000 l'=by'*lv 1000000 l+plus∧(l'.length=l.length∨(l'.length=l.length+1∧1000000 ^ l.length≤lv 1000000 l')))∧Below base w w':=by
 obtain ⟨a,n,cap,rfl,hL, -,hnc,hcm, -⟩:=ho.form
 have hO:Hid (OwnsI w base (.slice a n cap) l):=ho
 have hG:Hid (Grp 1000000 l):=hl
 obtain ⟨T,hT⟩:∃ T,by'*lv 1000000 l+plus=T:=⟨_,rfl⟩
 rw [hT]
 have hT':Hid (by'*lv 1000000 l+plus=T):=hT
 have hn':n≤1000000:=by rw [←hL.out];exact hn
 clear ho hl hT hn
 go_enter Tryz.func164,Tryz.ntmps164
 go_wp2
 go_loopw [7,13] (fun ov i wr=>∃ (k:Nat) (over:Int) (r:List Int),k≤n∧i = .int .i64 k∧ov = .int .i64 over∧0≤over∧over<1000000∧Hid (r.length=k)∧Hid (Grp 1000000 r)∧Hid (OwnsI wr base (.slice a n cap) (r++l.drop k))∧Hid (lv 1000000 r+1000000 ^ k*(over+by'*lv 1000000 (l.drop k))=T)∧Hid (Below base w wr)) (fun _ i _=>n - (intOf i).toNat)
 case atStart =>
  refine ⟨0,plus,[],Nat.zero_le _,rfl,rfl,hpl.1,hpl.2,rfl,grp_nil _,hO.out,?_,Below.refl _ _⟩
  show 0+1000000 ^ 0*(plus+by'*lv 1000000 l)=T
  rw [←hT'.out]
  omega
 case round =>
  obtain ⟨k,over,r,hk,rfl,rfl,ho1,ho2,hr,hgr,ho,hs,hbl⟩:=hrel
  by_cases hlt:k<n
  ·have hkl : k < l.length := by rw [hL.out]; exact hlt
   obtain ⟨g,n',cap',hv, -, -, -,hbg⟩:=ho.out.row (by rw [List.length_append,List.length_drop];omega)
   cases hv
   have hX:=hG.out.at hkl
   have hc:=ho.out.cell (j:=k) (by rw [List.length_append,List.length_drop,hr.out];omega)
   rw [getD_mid hr.out] at hc
   have hf:=ho.out.frozen k
   have hst:Hid _:=times_step hkl hr.out hs.out
   have hset:Hid (∀ u,OwnsI (wr.setCell ⟨g,k,none⟩ (.int .i64 u)) base (.slice (some ⟨g,0,none⟩) n cap) ((r++[u])++l.drop (k+1))):=fun u=>by
    rw [←set_mid hr.out hkl]
    exact ho.out.store k u
   generalize l.getD k 0=X at *
   have hXb:0≤X*by'∧X*by'≤999999*1000000:=⟨Int.mul_nonneg hX.1 hby.1,Int.le_trans (Int.mul_le_mul_of_nonneg_right (by omega:X≤999999) hby.1) (Int.mul_le_mul_of_nonneg_left hby.2 (by decide))⟩
   obtain ⟨Y,hY⟩:∃ Y,X*by'=Y:=⟨_,rfl⟩
   rw [hY] at hXb hst
   have hw1:IntKind.i64.wrap Y=Y:=wrap_fit (by omega) (by omega)
   obtain ⟨m,hm⟩:∃ m,Y+over=m:=⟨_,rfl⟩
   rw [hm] at hst
   have hw2:IntKind.i64.wrap m=m:=wrap_fit (by omega) (by omega)
   have q1:m.tmod 1000000=m % 1000000:=Int.tmod_eq_emod_of_nonneg (by omega)
   have q2:m.tdiv 1000000=m / 1000000:=Int.tdiv_eq_ediv_of_nonneg (by omega)
   have q3:0≤m / 1000000∧m / 1000000<1000000:=by omega
   have q4:0≤m % 1000000∧m % 1000000<1000000:=by omega
   have q5:IntKind.i64.wrap (m / 1000000)=m / 1000000:=wrap_fit (by omega) (by omega)
   generalize m / 1000000=M1 at *
   generalize m % 1000000=M2 at *
   clear hXb hX
   go_wp2
   go_roundw
   case rel=>exact ⟨k+1,M1,r++[M2],by omega,by go_num,rfl,q3.1,q3.2,(by show _=_;rw [List.length_append,hr.out];rfl),hgr.out.snoc q4,hset.out _,hst,hbl.out.setCell (p:=⟨g,k,none⟩) hbg _⟩
   case measure=>simp [intOf];omega
  ·obtain rfl : k = n := by omega
   have hd:l.drop k=[]:=List.drop_of_length_le (by rw [hL.out];exact Nat.le_refl _)
   have hs':=hs.out
   have ho':=ho.out
   rw [hd] at hs' ho'
   rw [List.append_nil] at ho'
   have hs2:lv 1000000 r+1000000 ^ k*over=T:=by
    rw [←hs']
    show _=_+_*(over+by'*0)
    rw [Int.mul_zero,Int.add_zero]
   have hO2:Hid (OwnsI wr base (.slice a k cap) r):=ho'
   have hL':l.length=k:=hL.out
   by_cases h0:over=0
   ·subst h0
    have hfin:Hid (lv 1000000 r=T):=by show _=_;rw [Int.mul_zero,Int.add_zero] at hs2;exact hs2
    have hln:Hid (r.length=l.length):=by show _=_;rw [hL.out];exact hr.out
    clear hs2 hs' ho' hd hs ho hL'
    go_wp2
    go_ret
    exact ⟨⟨_,r,rfl,hO2.out,hgr.out,hfin.out, .inl hln.out⟩,hbl.out⟩
   ·have hfin : Hid (lv 1000000 (r ++ [over]) = T) := by show _ = _; rw [lv_snoc, hr.out]; exact hs2
    have hge:Hid ((1000000:Int) ^ l.length≤T):=by
     show _≤_
     have h1:=(lv_lt (by decide) hgr.out).1
     have h2:(1000000:Int) ^ k*1≤1000000 ^ k*over:=Int.mul_le_mul_of_nonneg_left (by omega) (Int.le_of_lt (pow_pos' (by decide) _))
     rw [hL']
     omega
    have hln:Hid ((r++[over]).length=l.length+1):=by show _=_;rw [List.length_append,hL.out,hr.out];rfl
    have hG2:Hid (Grp 1000000 (r++[over])):=hgr.out.snoc ⟨ho1,ho2⟩
    have hd0:decide (0<over)=true:=by simp;omega
    have hbs:base≤wr.heap.size:=Nat.le_trans hbw hbl.out.size
    clear hs2 hs' ho' hd hs ho h0 hL'
    go_wp2_with (at_builtin;refine wpList_append_ints rfl _ _ rfl base _ r [over] rfl (hO2.out.alloc _) _ 1 1 rfl rfl (by intro h;cases h) (one_int _ _) (by have:=hr.out;simp;omega) (by simp;omega) ?_;intro v' w2 ho2' hg2)
    go_ret
    exact ⟨⟨v',r++[over],rfl,ho2',hG2.out,hfin.out, .inr ⟨hln.out,by rw [hfin.out];exact hge.out⟩⟩,grownI_below (hbl.out.alloc hbs _) (hO2.out.alloc _) hg2 (by simp;omega)⟩
end Go.Proofs.YtejlaiofpekchaaGreatDoor
namespace Go.Proofs.YtejlaiofpekchaaGreatDoor
open Go.RowKit
theorem mul_step{b A:Int}{p l:List Int}{i j:Nat}{x:Int}(hij:i+j<p.length)(hj:j<l.length)(h:lv b p=A+b ^ i*(x*lv b (l.take j))) :
  lv b (p.set (i+j) (p.getD (i+j) 0+x*l.getD j 0))=A+b ^ i*(x*lv b (l.take (j+1))):=by
 rw [lv_set b p _ _ hij,h,lv_take b l j hj,Int.add_assoc,Int.mul_add x,Int.mul_add (b ^ i)]
 congr 1
 rw [Int.pow_add,Int.mul_assoc,Int.mul_left_comm (b ^ j)]
theorem mul_row{b:Int}{p l1 l2:List Int}{i:Nat}(hi:i<l1.length)(h:lv b p=lv b (l1.take i)*lv b l2+b ^ i*(l1.getD i 0*lv b (l2.take l2.length))):lv b p=lv b (l1.take (i+1))*lv b l2:=by
 rw [h,lv_take b l1 i hi,List.take_length,Int.add_mul,Int.mul_assoc]
theorem bound_set{p:List Int}{B C u:Int}(h:∀ g∈p,0≤g∧g≤B)(hu:0≤u∧u≤C)(hBC:B≤C)(i:Nat):∀ g∈p.set i u,0≤g∧g≤C:=fun g hg=>by
 rcases List.mem_or_eq_of_mem_set hg with h1 | h1
 ·have := h g h1
  omega
 ·rw [h1];exact hu
theorem bound_at{p:List Int}{B:Int}(h:∀ g∈p,0≤g∧g≤B){i:Nat}(hi:i<p.length):0≤p.getD i 0∧p.getD i 0≤B:=h _ (getD_mem hi)
theorem mul_lt'{x y P Q:Int}(hx:0≤x)(hxP:x<P)(hyQ:y<Q)(hy:0≤y):x*y<P*Q :=
 Int.lt_of_le_of_lt (Int.mul_le_mul_of_nonneg_left (Int.le_of_lt hyQ) hx) (Int.mul_lt_mul_of_pos_right hxP (by omega))
theorem prod_bound{x y M:Int}(hx:0≤x∧x<M)(hy:0≤y∧y<M):0≤x*y∧x*y≤M*M:=by
 refine ⟨Int.mul_nonneg hx.1 hy.1,?_⟩
 exact Int.le_trans (Int.mul_le_mul_of_nonneg_right (by omega:x≤M) hy.1) (Int.mul_le_mul_of_nonneg_left (by omega) (by omega))
set_option maxHeartbeats 1000000 in
theorem mul_no(a b:ByteArray)(w:World)(h:¬ (rt a=true∧rt b=true)) :
  Calls Tryz.prog 140 #[.string a, .string b] w fun e w'=>e = .returned (.tuple #[.string noS, .int .i64 1])∧w'=w:=by
 have kr:=fun s w=>right_any s w
 cases ha:rt a with
 | false =>
  clear h
  go_enter Tryz.func140,Tryz.ntmps140
  go_wp2_with (go_at_call 114;refine (right_any _ _).mono ?_;rintro e w1 ⟨rfl,hw⟩;obtain rfl:w=w1:=hw.symm;rw [ha])
  go_ret2
  exact ⟨rfl,rfl⟩
 | true =>
  have hb:rt b=false:=by
   cases hb:rt b with
   | false=>rfl
   | true=>exact absurd ⟨ha,hb⟩ h
  clear h
  go_enter Tryz.func140,Tryz.ntmps140
  go_wp2_with (go_at_call 114;refine (right_any _ _).mono ?_;rintro e w1 ⟨rfl,hw⟩;obtain rfl:w=w1:=hw.symm;first | rw [ha] | rw [hb])
  go_ret2
  exact ⟨rfl,rfl⟩
set_option maxRecDepth 100000 in
set_option maxHeartbeats 2000000 in
theorem mul_yes(a b:ByteArray)(w:World)(ha:rt a=true)(hb:rt b=true) :
  Calls Tryz.prog 140 #[.string a, .string b] w fun e w'=>e = .returned (.tuple #[.string (shortA (val a*val b)).1, .int .i64 (shortA (val a*val b)).2])∧Below w.heap.size w w':=by
 obtain ⟨i0,hi,hz0,hz1,hz2⟩:=info_parts info3
 have ra:=(rt_iff a).1 ha
 have rb:=(rt_iff b).1 hb
 have sa:=rt_size ha
 have sb:=rt_size hb
 have kA:=gather_any a w sa.1 (by omega) ra.1.2.1
 have kB:Hid (∀ w,_):=fun w=>gather_any b w sb.1 (by omega) rb.1.2.1
 obtain ⟨R,hR⟩:∃ R,shortA (val a*val b)=R:=⟨_,rfl⟩
 rw [hR]
 have hR':Hid (shortA (val a*val b)=R):=hR
 clear hR ra rb
 go_enter Tryz.func140,Tryz.ntmps140
 go_wp2_with (go_at_call 114;refine (right_any _ _).mono ?_;rintro e w1 ⟨rfl,hw⟩;obtain rfl:w=w1:=hw.symm;first | rw [ha] | rw [hb])
 refine kA.mono ?_
 rintro e w1 ⟨v1,l1,rfl,ho1,hn1,hg1,hv1,hb1⟩
 go_wp2_with fail
 refine (kB.out w1).mono ?_
 rintro e w2 ⟨v2,l2,rfl,ho2,hn2,hg2,hv2,hb2⟩
 obtain ⟨a1,n1,c1,rfl,hl1, -,hc1,hm1,hI1⟩:=(ho1.below hb2).form
 obtain ⟨a2,n2,c2,rfl,hl2, -,hc2,hm2,hI2⟩:=ho2.form
 have q1:=hl1.out
 have q2:=hl2.out
 have wN:IntKind.i64.wrap ((n1:Int)+(n2:Int))=((n1+n2:Nat):Int):=by rw [wrap_fit (by omega) (by omega)];omega
 have hbw2:Hid (Below w.heap.size w w2):=hb1.trans (hb2.mono hb1.size)
 have hG1:Hid (Grp 1000000 l1):=hg1
 have hG2:Hid (Grp 1000000 l2):=hg2
 have hV1:Hid (lv 1000000 l1=(val a:Nat)):=hv1
 have hV2:Hid (lv 1000000 l2=(val b:Nat)):=hv2
 have hn1':n1≤134:=by omega
 have hn2':n2≤134:=by omega
 clear ho1 ho2 kA kB hb1 hb2 hg1 hg2 hv1 hv2 hn1 hn2 q1 q2 sa sb
 go_wp2_with (at_make;refine wpList_make_full _ rfl _ _ 42 rfl w2.heap.size 3 i0 (.int .i64 0) 1 Tryz.underlying42 hi hz0 hz1 .i64 .i64 _ _ (n1+n2) rfl rfl (by first | rfl | simp) (by first | rfl | simp) (by rw [hz2];omega) (by unfold maxLen;omega) (Nat.le_refl _) ?_;intro w3 ho3 hg3)
 have hO3:OwnsI w3 w2.heap.size (.slice (some ⟨w2.heap.size,0,none⟩) (n1+n2) (n1+n2)) (List.replicate (n1+n2) 0):=by
  rw [zeros_made] at ho3
  unfold OwnsI
  rw [List.length_replicate]
  exact ho3
 have hB3:Below w2.heap.size w2 w3:=(Below.refl _ _).grown hg3 (Nat.le_refl _) (by simp)
 clear ho3 hg3 wN
 have hE:Hid (n1*n2≤17956):=Nat.mul_le_mul hn1' hn2'
 go_loopw [33] (fun iv wr=>∃ (i:Nat) (p:List Int),i≤n1∧iv = .int .i64 i∧Hid (OwnsI wr w2.heap.size (.slice (some ⟨w2.heap.size,0,none⟩) (n1+n2) (n1+n2)) p)∧Hid (lv 1000000 p=lv 1000000 (l1.take i)*lv 1000000 l2)∧Hid (∀ x∈p,0≤x∧x≤1000000000000*((i*n2:Nat):Int))∧Hid (Below w2.heap.size w2 wr)) (fun iv _=>n1 - (intOf iv).toNat)
 case atStart=>exact ⟨0,List.replicate (n1+n2) 0,Nat.zero_le _,rfl,hO3,(by show _=_;rw [lv_zeros,List.take_zero];show 0=0*_;omega),(fun x hx=>by rw [(List.mem_replicate.1 hx).2];omega),hB3⟩
 case round =>
  obtain ⟨i,p,hi',rfl,hO,hpv,hpb,hbl⟩:=hrel
  clear hO3 hB3
  by_cases hlt:i<n1
  ·have hil : i < l1.length := by rw [hl1.out]; exact hlt
   obtain ⟨b1,o1,rfl⟩:=ints_some hI1.out (by rw [hl1.out];omega)
   have hX:=(hI1.out.kept hbl.out).cell hil
   have hXb:Hid (0≤l1.getD i 0∧l1.getD i 0<1000000):=hG1.out.at hil
   have i1:(i:Int)<(n1:Int):=by omega
   obtain ⟨E,hEi⟩:∃ E,i*n2=E:=⟨_,rfl⟩
   have hEi':Hid (i*n2=E):=hEi
   have hE1:Hid (E+n2≤17956):=by
    show _≤_
    have h1:(i+1)*n2≤n1*n2:=Nat.mul_le_mul_right _ (by omega)
    rw [Nat.add_mul,Nat.one_mul,hEi] at h1
    exact Nat.le_trans h1 hE.out
   rw [hEi] at hpb
   have hrow:Hid (∀ p',lv 1000000 p'=lv 1000000 (l1.take i)*lv 1000000 l2+1000000 ^ i*(l1.getD i 0*lv 1000000 (l2.take l2.length))→lv 1000000 p'=lv 1000000 (l1.take (i+1))*lv 1000000 l2):=fun p' h=>mul_row hil h
   clear hEi
   obtain ⟨A,hA⟩:∃ A,lv 1000000 (l1.take i)*lv 1000000 l2=A:=⟨_,rfl⟩
   rw [hA] at hpv hrow
   clear hA
   generalize l1.getD i 0=X at *
   go_wp2
   go_loopw [40] (fun jv wr=>∃ (j:Nat) (p:List Int),j≤n2∧jv = .int .i64 j∧Hid (OwnsI wr w2.heap.size (.slice (some ⟨w2.heap.size,0,none⟩) (n1+n2) (n1+n2)) p)∧Hid (lv 1000000 p=A+1000000 ^ i*(X*lv 1000000 (l2.take j)))∧Hid (∀ x∈p,0≤x∧x≤1000000000000*((E+j:Nat):Int))∧Hid (Below w2.heap.size w2 wr)) (fun jv _=>n2 - (intOf jv).toNat)
   case atStart=>exact ⟨0,p,Nat.zero_le _,rfl,hO,(by show _=_;rw [List.take_zero,hpv.out];show A=A+_*(X*0);rw [Int.mul_zero,Int.mul_zero,Int.add_zero]),hpb,hbl⟩
   case round =>
    obtain ⟨j,p,hj',rfl,hO,hpv,hpb,hbl⟩:=hrel
    by_cases hjt:j<n2
    ·have hjl : j < l2.length := by rw [hl2.out]; exact hjt
     obtain ⟨b2,o2,rfl⟩:=ints_some hI2.out (by rw [hl2.out];omega)
     have hY:=(hI2.out.kept hbl.out).cell hjl
     have hYb:=hG2.out.at hjl
     have hpl:=hO.out.len
     have hc:=hO.out.cell (j:=i+j) (by omega)
     have hf:=hO.out.frozen (i+j)
     have hcb:=bound_at hpb.out (i:=i+j) (by omega)
     have hst:Hid _:=mul_step (x:=X) (by omega:i+j<p.length) hjl hpv.out
     have hpr:=prod_bound hXb.out hYb
     have hE2:=hE1.out
     generalize l2.getD j 0=Y at *
     have hB':Hid (∀ x∈p.set (i+j) (p.getD (i+j) 0+X*Y),0≤x∧x≤1000000000000*((E+(j+1):Nat):Int)):=bound_set hpb.out (by omega) (by omega) _
     have hO':Hid _:=hO.out.store (i+j) (p.getD (i+j) 0+X*Y)
     generalize p.getD (i+j) 0=Z at *
     have j1:(j:Int)<(n2:Int):=by omega
     have wi:IntKind.i64.wrap ((i:Int)+(j:Int))=((i+j:Nat):Int):=by rw [wrap_fit (by omega) (by omega)];omega
     have ij:((i+j:Nat):Int)<((n1+n2:Nat):Int):=by omega
     obtain ⟨XY,hXY⟩:∃ XY,X*Y=XY:=⟨_,rfl⟩
     rw [hXY] at hpr hst hB' hO'
     have w1:IntKind.i64.wrap XY=XY:=wrap_fit (by omega) (by omega)
     have w2':IntKind.i64.wrap (Z+XY)=Z+XY:=wrap_fit (by omega) (by omega)
     obtain ⟨q,hq⟩:∃ q,i+j=q:=⟨_,rfl⟩
     rw [hq] at hc hf hst hB' hO' wi ij
     have hq':Hid (i+j=q):=hq
     clear hq hcb hpr hYb hpl hE2
     go_wp2
     go_roundw
     case rel=>exact ⟨j+1,p.set q (Z+XY),by omega,by go_num,hO',hst,hB',hbl.out.setCell (p:=⟨w2.heap.size,q,none⟩) (Nat.le_refl _) _⟩
     case measure=>simp [intOf];omega
    ·obtain rfl : j = n2 := by omega
     have hpv':Hid _:=hrow.out p (by rw [hpv.out,hl2.out])
     have hpb':Hid (∀ x∈p,0≤x∧x≤1000000000000*(((i+1)*j:Nat):Int)):=by
      intro x hx
      have:=hpb.out x hx
      rw [Nat.add_mul,Nat.one_mul,hEi'.out]
      exact this
     go_wp2
     go_roundw
     case rel=>exact ⟨i+1,p,by omega,by go_num,hO,hpv',hpb',hbl⟩
     case measure=>simp [intOf];omega
  ·obtain rfl : i = n1 := by omega
   have hpl:=hO.out.len
   have hpv':=hpv.out
   rw [List.take_of_length_le (by rw [hl1.out];exact Nat.le_refl _),hV1.out,hV2.out] at hpv'
   have hva:(val a:Int)<1000000 ^ i:=by have:=(lv_lt (by decide) hG1.out).2;rwa [hV1.out,hl1.out] at this
   have hvb:(val b:Int)<1000000 ^ n2:=by have:=(lv_lt (by decide) hG2.out).2;rwa [hV2.out,hl2.out] at this
   have hlt2:lv 1000000 p<1000000 ^ p.length:=by
    rw [hpv',hpl,Int.pow_add]
    exact mul_lt' (by omega) hva hvb (by omega)
   have hk:=tell_any (.slice (some ⟨w2.heap.size,0,none⟩) (i+n2) (i+n2)) p w2.heap.size wr hO.out (fun x hx=>by have:=hpb.out x hx;have:=hE.out;omega) (by rw [hpv'];exact Int.mul_nonneg (by omega) (by omega)) hlt2 (by omega) hbl.out.size
   have hRn:(lv 1000000 p).toNat=val a*val b:=by rw [hpv',←Int.natCast_mul,Int.toNat_natCast]
   rw [hRn,hR'.out] at hk
   have hbe:=hbw2.out.trans (hbl.out.mono hbw2.out.size)
   clear hpv' hva hvb hlt2 hRn hpl
   go_wp2_with (go_at_call 165;refine hk.mono ?_;rintro e w9 ⟨rfl,hb9⟩)
   go_ret2
   exact ⟨rfl,hbe.trans (hb9.mono (by have:=hbw2.out.size;omega))⟩
theorem mul_any(a b:ByteArray)(w:World) :
  Calls Tryz.prog 140 #[.string a, .string b] w fun e w'=>e = .returned (.tuple #[.string (mulA a b).1, .int .i64 (mulA a b).2])∧Below w.heap.size w w':=by
 unfold mulA
 by_cases h:rt a=true∧rt b=true
 ·rw [if_pos h]
  exact mul_yes a b w h.1 h.2
 ·rw [if_neg h]
  refine (mul_no a b w h).mono ?_
  rintro e w' ⟨rfl,rfl⟩
  exact ⟨rfl,Below.refl _ _⟩
end Go.Proofs.YtejlaiofpekchaaGreatDoor
namespace Go.Proofs.YtejlaiofpekchaaGreatDoor
open Go.RowKit
theorem pow_top{B k n:Nat}(h:(1000000:Int) ^ 134≤((B ^ (k+1):Nat):Int))(hk:k+1≤n):shortA (B ^ n)=(noS,11):=by
 have hB:1≤B:=by
  rcases Nat.eq_zero_or_pos B with h0 | h0
  ·subst h0
   rw [Nat.zero_pow (by omega)] at h
   have:=pow_pos' (b:=1000000) (by decide) 134
   omega
  ·exact h0
 have h1:B ^ (k+1)≤B ^ n:=Nat.pow_le_pow_right hB hk
 have h2:(10:Nat) ^ 6=1000000:=by decide
 have h3:∀ m,(1000000:Nat) ^ m≤B ^ (k+1)→∀ t,t≤6*m→10 ^ t≤B ^ n:=fun m hm t ht=>by
  rw [←h2,←Nat.pow_mul] at hm
  exact Nat.le_trans (Nat.pow_le_pow_right (by decide) ht) (Nat.le_trans hm h1)
 have h4:∀ m:Nat,(1000000:Int) ^ m≤((B ^ (k+1):Nat):Int)→(1000000:Nat) ^ m≤B ^ (k+1):=fun m hm=>by
  have e:((1000000 ^ m:Nat):Int)=(1000000:Int) ^ m:=Int.natCast_pow 1000000 m
  rw [←e] at hm
  exact Int.ofNat_le.1 hm
 have h5:top≤B ^ n:=by
  unfold top
  exact h3 134 (h4 134 h) 800 (by decide)
 unfold shortA
 rw [if_neg (by omega)]
set_option maxRecDepth 100000 in
set_option maxHeartbeats 1000000 in
theorem pow_any(b n:Int)(hb : -9223372036854775808≤b∧b≤9223372036854775807)(hn : -9223372036854775808≤n∧n≤9223372036854775807)(w:World) :
  Calls Tryz.prog 139 #[.int .i64 b, .int .i64 n] w fun e w'=>e = .returned (.tuple #[.string (powA b n).1, .int .i64 (powA b n).2])∧Below w.heap.size w w':=by
 by_cases hok:(0≤b∧b≤1000000)∧0≤n∧n≤4000
 ·obtain ⟨R, hR⟩ : ∃ R, powA b n = R := ⟨_, rfl⟩
  rw [hR]
  obtain ⟨N,rfl⟩:∃ N:Nat,n=N:=⟨n.toNat,by omega⟩
  obtain ⟨B,rfl⟩:∃ B:Nat,b=B:=⟨b.toNat,by omega⟩
  have hR':Hid (shortA (B ^ N)=R):=by
   rw [←hR]
   unfold powA
   rw [if_pos hok]
   rfl
  have d1:decide ((B:Int)<0)=false:=by simp
  have d2:decide (1000000<(B:Int))=false:=by simp;omega
  have d3:decide ((N:Int)<0)=false:=by simp
  have d4:decide (4000<(N:Int))=false:=by simp;omega
  have hbB:Hid (0≤(B:Int)∧(B:Int)≤1000000):=hok.1
  have hN4:Hid (N≤4000):=by show _≤_;omega
  clear hb hn hok hR
  have hL:OwnsI (w.alloc (.cells #[.int .i64 1] 3)) w.heap.size (.slice (some ⟨w.heap.size,0,none⟩) 1 1) [1]:=World.ownsRow_lit w #[.int .i64 1] 1 (Nat.le_refl _) (by decide) rfl
  have hb0:Below w.heap.size w (w.alloc (.cells #[.int .i64 1] 3)):=(Below.refl _ _).alloc (Nat.le_refl _) _
  go_enter Tryz.func139,Tryz.ntmps139
  go_wp2
  go_loopw [6,23] (fun v i wr=>∃ (k:Nat) (l:List Int),k≤N∧i = .int .i64 k∧Hid (OwnsI wr w.heap.size v l)∧Hid (Grp 1000000 l)∧Hid (lv 1000000 l=(B ^ k:Nat))∧Hid (l.length≤134)∧Hid (Below w.heap.size w wr)) (fun _ i _=>N - (intOf i).toNat)
  case atStart=>exact ⟨0,[1],Nat.zero_le _,rfl,hL,(fun x hx=>by simp at hx;omega),rfl,(by show 1≤134;decide),hb0⟩
  case round =>
   obtain ⟨k,l,hk,rfl,hO,hG,hv,hln,hbl⟩:=hrel
   clear hL hb0
   by_cases hlt:k<N
   ·have hln' := hln.out
    have kt:=times_any _ l w.heap.size wr hO.out hG.out (by omega) B 0 hbB.out (by decide) hbl.out.size
    clear hln'
    go_wp2_with (go_at_call 164;refine kt.mono ?_;rintro e w2 ⟨⟨v',l',rfl,hO2,hG2,hv2,hlen⟩,hb2⟩;refine Hid.out ?_)
    refine Lib.hid ?_
    have hv3:lv 1000000 l'=((B ^ (k+1):Nat):Int):=by
     rw [hv2,hv.out,Int.add_zero,Nat.pow_succ,Nat.mul_comm,Int.natCast_mul]
    obtain ⟨a',n',c',rfl,hn', -,hc1,hc2, -⟩:=hO2.form
    by_cases hbig:134<n'
    ·have hr : Hid (R = (noS, 11)) := by
      rw [←hR'.out]
      refine pow_top (k:=k) ?_ (by omega)
      rw [←hv3]
      have h1:=hn'.out
      have h2:=hln.out
      rcases hlen with h3 | ⟨h3,h4⟩
      ·omega
      ·have h5 : l.length = 134 := by omega
       rwa [h5] at h4
     have dn:decide (134<(n':Int))=true:=by simp;omega
     clear hbig hv3 hlen hO2 hG2 hv2
     go_wp2
     go_ret2
     exact ⟨by rw [hr.out];rfl,hbl.out.trans hb2⟩
    ·have dn : decide (134 < (n' : Int)) = false := by simp; omega
     have hO3:Hid _:=hO2
     have hv4:Hid _:=hv3
     have hG3:Hid _:=hG2
     have hl3:Hid (l'.length≤134):=by show _≤_;rw [hn'.out];omega
     have wk:IntKind.i64.wrap ((k:Int)+1)=(k:Int)+1:=by have:=hN4.out;exact wrap_fit (by omega) (by omega)
     clear hbig hv3 hlen hO2 hG2 hv2
     go_wp2
     go_roundw
     case rel=>exact ⟨k+1,l',by omega,by go_num,hO3,hG3,hv4,hl3,hbl.out.trans hb2⟩
     case measure=>simp [intOf];omega
   ·obtain rfl : k = N := by omega
    have hln':=hln.out
    have hlt2:=lv_lt (by decide) hG.out
    have ht:=tell_any _ l w.heap.size wr hO.out (fun g hg=>by have:=hG.out g hg;omega) hlt2.1 hlt2.2 (by omega) hbl.out.size
    have hn:(lv 1000000 l).toNat=B ^ k:=by rw [hv.out,Int.toNat_natCast]
    rw [hn,hR'.out] at ht
    clear hn hlt2 hln'
    go_wp2_with (go_at_call 165;refine ht.mono ?_;rintro e w9 ⟨rfl,hb9⟩)
    go_ret2
    exact ⟨rfl,hbl.out.trans hb9⟩
 ·have e : powA b n = (noS, 1) := by unfold powA; rw [if_neg hok]
  rw [e]
  clear e
  by_cases c1:b<0
  ·have d1 : decide (b < 0) = true := by simpa using c1
   clear hok c1
   go_enter Tryz.func139,Tryz.ntmps139
   go_wp2
   go_ret2
   exact ⟨rfl,Below.refl _ _⟩
  have d1:decide (b<0)=false:=by simpa using c1
  by_cases c2:1000000<b
  ·have d2 : decide (1000000 < b) = true := by simpa using c2
   clear hok c1 c2
   go_enter Tryz.func139,Tryz.ntmps139
   go_wp2
   go_ret2
   exact ⟨rfl,Below.refl _ _⟩
  have d2:decide (1000000<b)=false:=by simpa using c2
  by_cases c3:n<0
  ·have d3 : decide (n < 0) = true := by simpa using c3
   clear hok c1 c2 c3
   go_enter Tryz.func139,Tryz.ntmps139
   go_wp2
   go_ret2
   exact ⟨rfl,Below.refl _ _⟩
  have d3:decide (n<0)=false:=by simpa using c3
  have d4:decide (4000<n)=true:=by simp;omega
  clear hok c1 c2 c3
  go_enter Tryz.func139,Tryz.ntmps139
  go_wp2
  go_ret2
  exact ⟨rfl,Below.refl _ _⟩
end Go.Proofs.YtejlaiofpekchaaGreatDoor
namespace Go.Proofs.YtejlaiofpekchaaGreatDoor
open Go.RowKit
theorem allD_stop{l:List Int}{k:Nat}(hk:k<l.length)(h:isD (l.getD k 0)=false):allD l=false:=by
 cases h1:allD l with
 | false=>rfl
 | true =>
  have h2:=(allD_iff l).1 h1
  rw [List.getD_eq_getElem?_getD,List.getElem?_eq_getElem hk] at h
  have h3:=h2 _ (List.getElem_mem hk)
  rw [Option.getD_some] at h
  rw [isD_iff.2 h3] at h
  cases h
theorem alld_any(s:ByteArray)(hsz:s.size≤4096)(w:World):Calls Tryz.prog 135 #[.string s] w fun e w'=>e = .returned (.bool (allD (bs s)))∧w'=w:=by
 have kD:=isdigit_any
 have hall:Hid (∀ k,k<s.size→isD ((bs s).getD k 0)=false→allD (bs s)=false):=fun k hk h=>allD_stop (by rw [bs_len];exact hk) h
 have hend:Hid ((∀ c∈(bs s).take s.size,48≤c∧c≤57)→allD (bs s)=true):=fun h=>by
  rw [List.take_of_length_le (by rw [bs_len];exact Nat.le_refl _)] at h
  exact (allD_iff _).2 h
 generalize allD (bs s)=R at *
 go_enter Tryz.func135,Tryz.ntmps135
 go_wp2
 go_loop [6] (fun v=>∃ k:Nat,k≤s.size∧v = .int .i64 k∧Hid (∀ c∈(bs s).take k,48≤c∧c≤57)) (fun v=>s.size - (intOf v).toNat)
 case atStart=>exact ⟨0,Nat.zero_le _,rfl,(by intro c hc;simp at hc)⟩
 case round =>
  obtain ⟨k,hk,rfl,hd⟩:=hrel
  by_cases hlt:k<s.size
  ·have bk := bs_at s hlt
   have hN:=hall.out k hlt
   have k1:=kD (((s[k]'hlt).toNat:Nat):Int) w
   rw [←bk] at k1
   cases hA:isD ((bs s).getD k 0) with
   | false =>
    obtain rfl:=hN hA
    rw [hA,bk] at k1
    clear bk hA hN
    go_wp2_with (go_at_call 156;refine k1.mono ?_;rintro e w1 ⟨rfl,hw⟩;obtain rfl:w=w1:=hw.symm)
    go_ret
    exact ⟨rfl,rfl⟩
   | true =>
    have hC:Hid (∀ c∈(bs s).take (k+1),48≤c∧c≤57):=take_digs hd.out (by rw [bs_len];exact hlt) (isD_iff.1 hA)
    rw [hA,bk] at k1
    clear bk hA hN
    go_wp2_with (go_at_call 156;refine k1.mono ?_;rintro e w1 ⟨rfl,hw⟩;obtain rfl:w=w1:=hw.symm)
    go_round
    case rel=>exact ⟨k+1,by omega,by go_num,hC⟩
    case measure=>simp [intOf];omega
  ·obtain rfl : k = s.size := by omega
   obtain rfl:=hend.out hd.out
   go_wp2
   go_ret
   exact ⟨rfl,rfl⟩
theorem bs_nil{t:ByteArray}(h:bs t=[]):t=noS:=by
 apply bs_inj
 rw [h]
 rfl
set_option maxHeartbeats 1000000 in
theorem make_any(n:Bool)(s:ByteArray)(x:Int)(w:World):Calls Tryz.prog 101 #[.bool n, .string s, .int .i64 x] w fun e w'=>e = .returned (.tuple #[.agg #[.bool (makeA n s x).1.1, .string (makeA n s x).1.2.1, .int .i64 (makeA n s x).1.2.2], .int .i64 (makeA n s x).2])∧Below w.heap.size w w':=by
 by_cases h0:s.size=0
 ·have hR : makeA n s x = (noN, 1) := by unfold makeA; rw [if_pos (.inl h0)]
  rw [hR]
  obtain rfl:=empty_size h0
  clear h0 hR
  unfold noN noS
  go_enter Tryz.func101,Tryz.ntmps101
  go_wp2
  refine bodyPost_ret (v := .tuple #[.agg #[.bool false, .string ⟨#[]⟩, .int .i64 0], .int .i64 1]) (by simp [results,Tryz.results101,go_sem]) rfl ⟨rfl,?_⟩
  exact alloc_below _ _
 have he:=not_empty (s:=s) (by omega)
 by_cases h1:4096<s.size
 ·have hR : makeA n s x = (noN, 1) := by unfold makeA; rw [if_pos (.inr (.inl h1))]
  rw [hR]
  have d1:decide (4096<((s.size:Nat):Int))=true:=by simp;omega
  clear h0 h1 hR
  unfold noN noS
  go_enter Tryz.func101,Tryz.ntmps101
  go_wp2
  refine bodyPost_ret (v := .tuple #[.agg #[.bool false, .string ⟨#[]⟩, .int .i64 0], .int .i64 1]) (by simp [results,Tryz.results101,go_sem]) rfl ⟨rfl,?_⟩
  exact alloc_below _ _
 have d1:decide (4096<((s.size:Nat):Int))=false:=by simp;omega
 have kA:=alld_any s (by omega)
 cases hA:allD (bs s) with
 | false =>
  have hR:makeA n s x=(noN,1):=by unfold makeA;rw [if_pos (.inr (.inr hA))]
  rw [hR]
  rw [hA] at kA
  clear h0 h1 hR hA
  unfold noN noS
  go_enter Tryz.func101,Tryz.ntmps101
  go_wp2_with (go_at_call 135;refine (kA _).mono ?_;rintro e w1 ⟨rfl,hw⟩;rw [hw];clear hw)
  refine bodyPost_ret (v := .tuple #[.agg #[.bool false, .string ⟨#[]⟩, .int .i64 0], .int .i64 1]) (by simp [results,Tryz.results101,go_sem]) rfl ⟨rfl,?_⟩
  exact alloc_below _ _
 | true =>
  rw [hA] at kA
  have hM:makeA n s x=if longL (bs s)=[] then (zeroN,0)
    else if 800<(shortL (longL (bs s))).length∨x < -2000 - (((longL (bs s)).length - (shortL (longL (bs s))).length:Nat):Int)∨2000 - (((longL (bs s)).length - (shortL (longL (bs s))).length:Nat):Int)<x then (noN,11)
    else ((n,strOfNums (shortL (longL (bs s))),x+(((longL (bs s)).length - (shortL (longL (bs s))).length:Nat):Int)),0):=by
   unfold makeA
   rw [if_neg (by rintro (h | h | h) <;> simp_all)]
  rw [hM]
  have kL:=triml_any s
  have hl:=long_len (bs s)
  have hsl:=short_len (longL (bs s))
  rw [bs_len] at hl
  have hd:Digs (shortL (longL (bs s))):=fun c hc=>(allD_iff _).1 hA c (mem_short hc)
  clear hM hA
  obtain ⟨L,hLe⟩:∃ L,longL (bs s)=L:=⟨_,rfl⟩
  rw [hLe] at kL hl hsl hd ⊢
  by_cases hL:L=[]
  ·rw [if_pos hL]
   subst hL
   clear hLe
   have kL':∀ w,Calls Tryz.prog 136 #[.string s, .string zS] w fun e w'=>e = .returned (.string ⟨#[]⟩)∧w'=w:=fun w=>by
    refine (kL w).mono ?_
    rintro e w' ⟨⟨t,rfl,ht⟩,hw⟩
    obtain rfl:=bs_nil ht
    exact ⟨rfl,hw⟩
   have kZ:=zero_any
   clear kL hl hsl hd h0 h1
   unfold zeroN zS at *
   have hr:=row_new w false ⟨#[]⟩ 0
   go_enter Tryz.func101,Tryz.ntmps101
   go_wp2_with (first
    | (go_at_call 135;refine (kA _).mono ?_;rintro e w1 ⟨rfl,hw⟩;rw [hw];clear hw)
    | (go_at_call 136;refine (kL' _).mono ?_;rintro e w1 ⟨rfl,hw⟩;rw [hw];clear hw)
    | (go_at_call 137;refine (kZ _).mono ?_;rintro e w1 ⟨rfl,hb⟩;obtain ⟨c0,c1,c2⟩:=(hr.kept hb).at;have f0:=(hr.kept hb).fz 0;have f1:=(hr.kept hb).fz 1;have f2:=(hr.kept hb).fz 2))
   refine bodyPost_ret (v := .tuple #[.agg #[.bool false, .string ⟨#[48]⟩, .int .i64 0], .int .i64 0]) (by simp [results,Tryz.results101,go_sem, *]) rfl ⟨rfl,?_⟩
   exact (((box_below hb).setCell (Nat.le_refl _) _).setCell (Nat.le_refl _) _).setCell (Nat.le_refl _) _
  rw [if_neg hL]
  obtain ⟨T,hT,hT0,hTl⟩:∃ T,bs T=L∧0<T.size∧T.size=L.length:=by
   obtain ⟨T,hT⟩:∃ T,bs T=L:=⟨⟨(Lib.trimLeftB s.data.toList 48).toArray⟩,by rw [bs_trimL];exact hLe⟩
   have h2:=bs_len T
   rw [hT] at h2
   exact ⟨T,hT,by rw [←h2];exact List.length_pos_iff.2 hL,h2.symm⟩
  have kL':∀ w,Calls Tryz.prog 136 #[.string s, .string zS] w fun e w'=>e = .returned (.string T)∧w'=w:=fun w=>by
   refine (kL w).mono ?_
   rintro e w' ⟨⟨t,rfl,ht⟩,hw⟩
   obtain rfl:=bs_inj (ht.trans hT.symm)
   exact ⟨rfl,hw⟩
  obtain ⟨U,hU,hUl⟩:∃ U,bs U=shortL L∧U.size=(shortL L).length:=by
   have h1:=bs_trimR T
   rw [hT] at h1
   have h2:=bs_len ⟨(Lib.trimRightB T.data.toList 48).toArray⟩
   rw [h1] at h2
   exact ⟨_,h1,h2.symm⟩
  have kR:∀ w,Calls Tryz.prog 138 #[.string T, .string zS] w fun e w'=>e = .returned (.string U)∧w'=w:=fun w=>by
   refine (trimr_any T w (by omega)).mono ?_
   rintro e w' ⟨⟨t,rfl,ht⟩,hw⟩
   rw [hT] at ht
   obtain rfl:=bs_inj (ht.trans hU.symm)
   exact ⟨rfl,hw⟩
  have hTe:=not_empty hT0
  have eU:strOfNums (shortL L)=U:=by rw [←hU,str_bs]
  rw [eU,←hTl,←hUl]
  rw [←hTl] at hl
  rw [←hTl,←hUl] at hsl
  have kC:=clone_any U (hs:=by omega)
  have w1:IntKind.i64.wrap ((T.size:Int) - (U.size:Int))=((T.size - U.size:Nat):Int):=by rw [IntKind.wrap_i64] <;> omega
  obtain ⟨G,hG⟩:∃ k,T.size - U.size=k:=⟨_,rfl⟩
  have hG4:G≤4096:=by omega
  rw [hG] at w1 ⊢
  have w2:IntKind.i64.wrap (-2000 - (G:Int)) = -2000 - (G:Int):=by rw [IntKind.wrap_i64] <;> omega
  have w3:IntKind.i64.wrap (2000 - (G:Int))=2000 - (G:Int):=by rw [IntKind.wrap_i64] <;> omega
  clear hG hsl hl h0 h1 hT hU eU kL hLe hL hd hTl hUl hT0
  have hr:=row_new w false ⟨#[]⟩ 0
  unfold zS at *
  by_cases g1:800<U.size
  ·rw [if_pos (.inl g1)]
   have e1:decide (800<((U.size:Nat):Int))=true:=by simp;omega
   clear g1 hG4 w2 w3
   unfold noN noS
   go_enter Tryz.func101,Tryz.ntmps101
   go_wp2_with (first
    | (go_at_call 135;refine (kA _).mono ?_;rintro e w1 ⟨rfl,hw⟩;rw [hw];clear hw)
    | (go_at_call 136;refine (kL' _).mono ?_;rintro e w1 ⟨rfl,hw⟩;rw [hw];clear hw)
    | (go_at_call 138;refine (kR _).mono ?_;rintro e w1 ⟨rfl,hw⟩;rw [hw];clear hw)
    | (go_at_call 96;refine (kC _).mono ?_;rintro e w1 ⟨rfl,hb⟩;obtain ⟨c0,c1,c2⟩:=(hr.kept hb).at;have f0:=(hr.kept hb).fz 0;have f1:=(hr.kept hb).fz 1;have f2:=(hr.kept hb).fz 2))
   refine bodyPost_ret (v := .tuple #[.agg #[.bool false, .string ⟨#[]⟩, .int .i64 0], .int .i64 11]) (by simp [results,Tryz.results101,go_sem, *]) rfl ⟨rfl,?_⟩
   exact alloc_below _ _
  have e1:decide (800<((U.size:Nat):Int))=false:=by simp;omega
  by_cases g2:x < -2000 - (G:Int)
  ·rw [if_pos (.inr (.inl g2))]
   have e2:decide (x < -2000 - (G:Int))=true:=by simpa using g2
   clear g1 g2 hG4
   unfold noN noS
   go_enter Tryz.func101,Tryz.ntmps101
   go_wp2_with (first
    | (go_at_call 135;refine (kA _).mono ?_;rintro e w1 ⟨rfl,hw⟩;rw [hw];clear hw)
    | (go_at_call 136;refine (kL' _).mono ?_;rintro e w1 ⟨rfl,hw⟩;rw [hw];clear hw)
    | (go_at_call 138;refine (kR _).mono ?_;rintro e w1 ⟨rfl,hw⟩;rw [hw];clear hw)
    | (go_at_call 96;refine (kC _).mono ?_;rintro e w1 ⟨rfl,hb⟩;obtain ⟨c0,c1,c2⟩:=(hr.kept hb).at;have f0:=(hr.kept hb).fz 0;have f1:=(hr.kept hb).fz 1;have f2:=(hr.kept hb).fz 2))
   refine bodyPost_ret (v := .tuple #[.agg #[.bool false, .string ⟨#[]⟩, .int .i64 0], .int .i64 11]) (by simp [results,Tryz.results101,go_sem, *]) rfl ⟨rfl,?_⟩
   exact alloc_below _ _
  have e2:decide (x < -2000 - (G:Int))=false:=by simpa using g2
  by_cases g3:2000 - (G:Int)<x
  ·rw [if_pos (.inr (.inr g3))]
   have e3:decide (2000 - (G:Int)<x)=true:=by simpa using g3
   clear g1 g2 g3 hG4
   unfold noN noS
   go_enter Tryz.func101,Tryz.ntmps101
   go_wp2_with (first
    | (go_at_call 135;refine (kA _).mono ?_;rintro e w1 ⟨rfl,hw⟩;rw [hw];clear hw)
    | (go_at_call 136;refine (kL' _).mono ?_;rintro e w1 ⟨rfl,hw⟩;rw [hw];clear hw)
    | (go_at_call 138;refine (kR _).mono ?_;rintro e w1 ⟨rfl,hw⟩;rw [hw];clear hw)
    | (go_at_call 96;refine (kC _).mono ?_;rintro e w1 ⟨rfl,hb⟩;obtain ⟨c0,c1,c2⟩:=(hr.kept hb).at;have f0:=(hr.kept hb).fz 0;have f1:=(hr.kept hb).fz 1;have f2:=(hr.kept hb).fz 2))
   refine bodyPost_ret (v := .tuple #[.agg #[.bool false, .string ⟨#[]⟩, .int .i64 0], .int .i64 11]) (by simp [results,Tryz.results101,go_sem, *]) rfl ⟨rfl,?_⟩
   exact alloc_below _ _
  have e3:decide (2000 - (G:Int)<x)=false:=by simpa using g3
  rw [if_neg (by rintro (h | h | h) <;> contradiction)]
  obtain ⟨Z,hZ⟩:∃ Z,x+(G:Int)=Z:=⟨_,rfl⟩
  have w4:IntKind.i64.wrap (x+(G:Int))=Z:=by rw [IntKind.wrap_i64] <;> omega
  dsimp only
  rw [hZ]
  clear g1 g2 g3 hG4 hZ
  go_enter Tryz.func101,Tryz.ntmps101
  go_wp2_with (first
   | (go_at_call 135;refine (kA _).mono ?_;rintro e w1 ⟨rfl,hw⟩;rw [hw];clear hw)
   | (go_at_call 136;refine (kL' _).mono ?_;rintro e w1 ⟨rfl,hw⟩;rw [hw];clear hw)
   | (go_at_call 138;refine (kR _).mono ?_;rintro e w1 ⟨rfl,hw⟩;rw [hw];clear hw)
   | (go_at_call 96;refine (kC _).mono ?_;rintro e w1 ⟨rfl,hb⟩;obtain ⟨c0,c1,c2⟩:=(hr.kept hb).at;have f0:=(hr.kept hb).fz 0;have f1:=(hr.kept hb).fz 1;have f2:=(hr.kept hb).fz 2))
  refine bodyPost_ret (v := .tuple #[.agg #[.bool n, .string U, .int .i64 Z], .int .i64 0]) (by simp [results,Tryz.results101,go_sem, *]) rfl ⟨rfl,?_⟩
  exact (((box_below hb).setCell (Nat.le_refl _) _).setCell (Nat.le_refl _) _).setCell (Nat.le_refl _) _
end Go.Proofs.YtejlaiofpekchaaGreatDoor
