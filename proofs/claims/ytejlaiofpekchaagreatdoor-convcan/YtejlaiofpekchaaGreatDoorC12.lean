/-
  Which bits are of a number, its sign, and which number: flt.Finite, Negative, Exact.
  What comes of a Float: conv.number.
  Where a path leads: tree.within, tree.find.
  Where a path leads: tree.find.
  The node to which a path leads: tree.At.
-/
import Derived.Test.YtejlaiofpekchaaGreatDoorC9
import Derived.Test.YtejlaiofpekchaaGreatDoorC11
import Derived.Test.YtejlaiofpekchaaGreatDoorC8
import Derived.Test.YtejlaiofpekchaaGreatDoorC2
import Derived.Test.YtejlaiofpekchaaGreatDoorC4
import Derived.Test.YtejlaiofpekchaaGreatDoorC3
import Derived.Test.YtejlaiofpekchaaGreatDoorC5
import Derived.BigQuiet
namespace Go.Proofs.YtejlaiofpekchaaGreatDoor
open Go.RowKit
set_option maxRecDepth 100000 in
theorem negative_any(n:Int)(hn:0≤n∧n<18446744073709551616)(w:World):Calls Tryz.prog 102 #[.int .u64 n] w fun e w'=>e = .returned (.bool (decide (9223372036854775808≤n)))∧Below w.heap.size w w':=by
 have k0:=wide_any
 have kS:=split8_any n hn.1 (by omega)
 have hf:=fldP0
 have hd:(n / 9223372036854775808 != 0)=decide (9223372036854775808≤n):=by rw [Bool.eq_iff_iff,bne_iff_ne,decide_eq_true_iff];omega
 clear hn
 generalize decide (9223372036854775808≤n)=D at *
 generalize n / 9223372036854775808=S at *
 generalize n / 4503599627370496 % 2048=X at *
 generalize n % 4503599627370496=G at *
 go_enter Tryz.func102,Tryz.ntmps102
 go_wp2_with (first
  | (go_at_call 99;refine (k0 _).mono ?_;rintro e w1 ⟨rfl,d1⟩)
  | (go_at_call 131;refine (kS _).mono ?_;rintro e w2 ⟨rfl,b2⟩;have d2:=d1.trans (b2.mono d1.size)))
 go_ret
 exact ⟨rfl,d2⟩
set_option maxRecDepth 100000 in
theorem finite_any(n:Int)(hn:0≤n∧n<18446744073709551616)(w:World):Calls Tryz.prog 98 #[.int .u64 n] w fun e w'=>e = .returned (.bool (decide (n / 4503599627370496 % 2048≠2047)))∧Below w.heap.size w w':=by
 have k0:=wide_any
 have k8:=top8_any
 have kS:=split8_any n hn.1 (by omega)
 have hf:=fldP1
 have hd:(n / 4503599627370496 % 2048 != 2047)=decide (n / 4503599627370496 % 2048≠2047):=by rw [Bool.eq_iff_iff,bne_iff_ne,decide_eq_true_iff]
 clear hn
 generalize decide (n / 4503599627370496 % 2048≠2047)=D at *
 generalize n / 9223372036854775808=S at *
 generalize n / 4503599627370496 % 2048=X at *
 generalize n % 4503599627370496=G at *
 go_enter Tryz.func98,Tryz.ntmps98
 go_wp2_with fail
 refine (k0 _).mono ?_
 rintro e w1 ⟨rfl,d1⟩
 go_wp2_with fail
 refine (kS _).mono ?_
 rintro e w2 ⟨rfl,b2⟩
 have d2:=d1.trans (b2.mono d1.size)
 go_wp2_with fail
 refine (k0 _).mono ?_
 rintro e w3 ⟨rfl,b3⟩
 have d3:=d2.trans (b3.mono d2.size)
 go_wp2_with fail
 refine (k8 _).mono ?_
 rintro e w4 ⟨rfl,b4⟩
 have d4:=d3.trans (b4.mono d3.size)
 go_wp2
 go_ret
 exact ⟨rfl,d4⟩
set_option maxRecDepth 100000 in
set_option maxHeartbeats 1000000 in
theorem fsize_any(n:Int)(hn:0≤n∧n<18446744073709551616)(w:World):Calls Tryz.prog 100 #[.agg #[.int .i64 8, .int .i64 11, .int .i64 52], .int .u64 n] w fun e w'=>e = .returned (.tuple #[.int .u64 (sizM (n / 4503599627370496 % 2048) (n % 4503599627370496)), .int .i64 (sizP (n / 4503599627370496 % 2048))])∧Below w.heap.size w w':=by
 have k8:=top8_any
 have kA:=ahead8_any
 have kS:=split8_any n hn.1 (by omega)
 have hX:0≤n / 4503599627370496 % 2048∧n / 4503599627370496 % 2048<2048:=by omega
 have hG:0≤n % 4503599627370496∧n % 4503599627370496<4503599627370496:=by omega
 clear hn
 generalize n / 9223372036854775808=S at *
 generalize n / 4503599627370496 % 2048=X at *
 generalize n % 4503599627370496=G at *
 have i0:IntKind.u64.wrap 1023=1023:=by decide
 have i1:IntKind.i64.wrap 1023=1023:=by decide
 have i2:IntKind.i64.wrap (-1022) = -1022:=by decide
 have i3:IntKind.i64.wrap (-1074) = -1074:=by decide
 have i4:IntKind.i64.wrap (-1075) = -1075:=by decide
 have i5:IntKind.u64.wrap (4503599627370496+G)=4503599627370496+G:=by rw [IntKind.wrap_u64];omega
 have i6:IntKind.i64.wrap X=X:=by rw [IntKind.wrap_i64];omega
 have i7:IntKind.i64.wrap (-1075+X)=X - 1075:=by rw [IntKind.wrap_i64];omega
 have r0:=row3_new w 122 (.int .i64 8) (.int .i64 11) (.int .i64 52)
 clear hG
 by_cases hz:X=0
 ·have e1 : (X == 0) = true := by simpa using hz
  have hM:sizM X G=G:=by unfold sizM;rw [if_pos hz]
  have hP:sizP X = -1074:=by unfold sizP;rw [if_pos hz]
  rw [hM,hP]
  clear hM hP hz hX i6 i7
  go_enter Tryz.func100,Tryz.ntmps100
  go_wp2_with (go_at_call 131;refine (kS _).mono ?_;rintro e w1 ⟨rfl,b1⟩;have d1:=box_below b1;have q1:=r0.kept b1 r0.lt)
  have pA:=row3_new w1 157 (.int .u64 S) (.int .u64 X) (.int .u64 G)
  have dA:=d1.alloc d1.size (.cells #[.int .u64 S, .int .u64 X, .int .u64 G] 157)
  have qA:=q1.kept (alloc_below w1 (.cells #[.int .u64 S, .int .u64 X, .int .u64 G] 157)) q1.lt
  generalize w1.alloc (.cells #[.int .u64 S, .int .u64 X, .int .u64 G] 157)=wA at *
  go_region_held3 (fun wx=>wx.cell? ⟨w.heap.size,0,none⟩=some (.int .i64 8)∧wx.cell? ⟨w.heap.size,1,none⟩=some (.int .i64 11)∧wx.cell? ⟨w.heap.size,2,none⟩=some (.int .i64 52)) (first | exact qA.at | exact q2.at) (
   (go_at_call 132;refine (k8 _).mono ?_;rintro e w2 ⟨rfl,b2⟩;have d2:Below w.heap.size w w2:=dA.drew.trans (b2.mono dA.size);have q2:Row3 w2 w.heap.size 122 (.int .i64 8) (.int .i64 11) (.int .i64 52):=Row3.kept (w:=wA.drew) qA b2 qA.lt;have p2:Row3 w2 w1.heap.size 157 (.int .u64 S) (.int .u64 X) (.int .u64 G):=Row3.kept (w:=wA.drew) pA b2 pA.lt))
  obtain ⟨c0,c1,c2⟩:=p2.at
  go_wp2
  go_ret2
  exact ⟨rfl,d2⟩
 ·have e1 : (X == 0) = false := by simpa using hz
  have hM:sizM X G=4503599627370496+G:=by unfold sizM;rw [if_neg hz]
  have hP:sizP X=X - 1075:=by unfold sizP;rw [if_neg hz]
  rw [hM,hP]
  clear hM hP hz hX
  go_enter Tryz.func100,Tryz.ntmps100
  go_wp2_with (go_at_call 131;refine (kS _).mono ?_;rintro e w1 ⟨rfl,b1⟩;have d1:=box_below b1;have q1:=r0.kept b1 r0.lt)
  have pA:=row3_new w1 157 (.int .u64 S) (.int .u64 X) (.int .u64 G)
  have dA:=d1.alloc d1.size (.cells #[.int .u64 S, .int .u64 X, .int .u64 G] 157)
  have qA:=q1.kept (alloc_below w1 (.cells #[.int .u64 S, .int .u64 X, .int .u64 G] 157)) q1.lt
  generalize w1.alloc (.cells #[.int .u64 S, .int .u64 X, .int .u64 G] 157)=wA at *
  go_region_held3 (fun wx=>wx.cell? ⟨w.heap.size,0,none⟩=some (.int .i64 8)∧wx.cell? ⟨w.heap.size,1,none⟩=some (.int .i64 11)∧wx.cell? ⟨w.heap.size,2,none⟩=some (.int .i64 52)) (first | exact qA.at | exact q2.at) (
   (go_at_call 132;refine (k8 _).mono ?_;rintro e w2 ⟨rfl,b2⟩;have d2:Below w.heap.size w w2:=dA.drew.trans (b2.mono dA.size);have q2:Row3 w2 w.heap.size 122 (.int .i64 8) (.int .i64 11) (.int .i64 52):=Row3.kept (w:=wA.drew) qA b2 qA.lt;have p2:Row3 w2 w1.heap.size 157 (.int .u64 S) (.int .u64 X) (.int .u64 G):=Row3.kept (w:=wA.drew) pA b2 pA.lt))
  obtain ⟨c0,c1,c2⟩:=p2.at
  obtain ⟨o0,o1,o2⟩:=q2.at
  go_wp2
  go_region_held3 (fun wx=>(wx.cell? ⟨w.heap.size,0,none⟩=some (.int .i64 8)∧wx.cell? ⟨w.heap.size,1,none⟩=some (.int .i64 11)∧wx.cell? ⟨w.heap.size,2,none⟩=some (.int .i64 52))∧wx.cell? ⟨w1.heap.size,0,none⟩=some (.int .u64 S)∧wx.cell? ⟨w1.heap.size,1,none⟩=some (.int .u64 X)∧wx.cell? ⟨w1.heap.size,2,none⟩=some (.int .u64 G)) (first | exact ⟨q2.at,p2.at⟩ | exact ⟨q3.at,p3.at⟩) (
   (go_at_call 134;refine (kA _).mono ?_;rintro e w3 ⟨rfl,b3⟩;have d3:Below w.heap.size w w3:=d2.drew.trans (b3.mono d2.size);have q3:Row3 w3 w.heap.size 122 (.int .i64 8) (.int .i64 11) (.int .i64 52):=Row3.kept (w:=w2.drew) q2 b3 q2.lt;have p3:Row3 w3 w1.heap.size 157 (.int .u64 S) (.int .u64 X) (.int .u64 G):=Row3.kept (w:=w2.drew) p2 b3 p2.lt))
  go_wp2
  go_ret2
  exact ⟨rfl,d3⟩
theorem short_txt{v:Nat}(h:v<top):shortA v=(txt v,0):=by unfold shortA;rw [if_pos h]
theorem mul_num{a b:Nat}(ha:a<top)(hb:b<top)(hab:a*b<top):mulA (txt a) (txt b)=(txt (a*b),0):=by
 unfold mulA
 rw [if_pos ⟨rt_txt ha,rt_txt hb⟩,val_txt,val_txt,short_txt hab]
theorem pow_num{b k:Nat}(hb:b≤1000000)(hk:k≤4000)(h:b ^ k<top):powA (b:Int) (k:Int)=(txt (b ^ k),0):=by
 unfold powA
 rw [if_pos (by omega),Int.toNat_natCast,Int.toNat_natCast,short_txt h]
set_option maxRecDepth 100000 in
set_option maxHeartbeats 1000000 in
theorem ftimes_any(u b k:Nat)(hu:u<18446744073709551616)(hut:u<top)(hb:b≤1000000)(hk:k≤4000)(h1:b ^ k<top)(h2:u*b ^ k<top)(B:Nat)(w:World)(hT:Tab B w)(hB:B≤w.heap.size) :
  Calls Tryz.prog 103 #[.int .u64 (u:Nat), .int .i64 (b:Nat), .int .i64 (k:Nat)] w fun e w'=>e = .returned (.string (txt (u*b ^ k)))∧Below w.heap.size w w':=by
 have kP:=pow_any (b:Int) (k:Int) (by omega) (by omega) w
 rw [pow_num hb hk h1] at kP
 have kM:=mul_any (txt u) (txt (b ^ k))
 rw [mul_num hut h1 h2] at kM
 have kW:Hid (∀ wx,Below w.heap.size w wx→Calls Tryz.prog 141 #[.int .u64 (u:Nat)] wx fun e w'=>e = .returned (.string (txt u))∧Below wx.heap.size wx w'):=fun wx hb=>frw_any u hu wx (Lib.TabBelow.here (Lib.TabBelow.on hT (hb.mono hB)))
 clear hT hB hu hut hb hk h1 h2
 generalize txt (b ^ k)=Q at *
 generalize txt (u*b ^ k)=R at *
 generalize txt u=U at *
 go_enter Tryz.func103,Tryz.ntmps103
 go_wp2_with fail
 refine kP.mono ?_
 rintro e w1 ⟨rfl,b1⟩
 go_wp2_with fail
 refine (kW.out _ b1).mono ?_
 rintro e w2 ⟨rfl,b2⟩
 have d2:=b1.trans (b2.mono b1.size)
 go_wp2_with fail
 refine (kM _).mono ?_
 rintro e w3 ⟨rfl,b3⟩
 have d3:=d2.trans (b3.mono d2.size)
 go_wp2
 go_ret
 exact ⟨rfl,d3⟩
theorem small_top{u:Nat}(h:u<9007199254740992):u<top:=by
 have h3:∀ N,16≤N→u<10 ^ N:=fun N hN=>Nat.lt_of_lt_of_le (show u<10 ^ 16 by omega) (Nat.pow_le_pow_right (by decide) hN)
 unfold top
 exact h3 800 (by decide)
set_option maxRecDepth 100000 in
set_option maxHeartbeats 2000000 in
theorem exact_any(n:Int)(hn:0≤n∧n<18446744073709551616)(B:Nat)(w:World)(hT:Tab B w)(hB:B≤w.heap.size) :
  Calls Tryz.prog 68 #[.int .u64 n] w fun e w'=>e = .returned (.tuple #[.agg #[.bool (exactA n).1.1, .string (exactA n).1.2.1, .int .i64 (exactA n).1.2.2], .int .i64 (exactA n).2])∧Below w.heap.size w w':=by
 have k0:=wide_any
 have kF:=finite_any n hn
 have kN:=negative_any n hn
 have kZ:=fsize_any n hn
 have hX:0≤n / 4503599627370496 % 2048∧n / 4503599627370496 % 2048<2048:=by omega
 have hG:0≤n % 4503599627370496∧n % 4503599627370496<4503599627370496:=by omega
 unfold exactA
 clear hn
 generalize decide (9223372036854775808≤n)=D at *
 generalize n / 4503599627370496 % 2048=X at *
 generalize n % 4503599627370496=G at *
 have r0:=row3_new w 86 (.bool false) (.string ⟨#[]⟩) (.int .i64 0)
 unfold exA
 by_cases hx:X=2047
 ·rw [if_pos hx]
  have hd:decide (X≠2047)=false:=by simpa using hx
  rw [hd] at kF
  clear hx hd hX hG kZ kN hT hB
  unfold noN noS
  go_enter Tryz.func68,Tryz.ntmps68
  go_wp2_with (go_at_call 98;refine (kF _).mono ?_;rintro e w1 ⟨rfl,b1⟩;have d1:=box_below b1;have r1:=r0.kept b1 r0.lt;obtain ⟨c0,c1,c2⟩:=r1.at;have z0:=r1.fz 0;have z1:=r1.fz 1;have z2:=r1.fz 2)
  refine bodyPost_ret (v := .tuple #[.agg #[.bool false, .string ⟨#[]⟩, .int .i64 0], .int .i64 12]) (by simp [results,Tryz.results68,go_sem, *]) rfl ⟨rfl,?_⟩
  exact ((d1.setCell (Nat.le_refl _) _).setCell (Nat.le_refl _) _).setCell (Nat.le_refl _) _
 rw [if_neg hx]
 have hd:decide (X≠2047)=true:=by simpa using hx
 rw [hd] at kF
 obtain ⟨hm,hp⟩:=siz_in (X:=X) (G:=G) (by omega) hG
 by_cases hs:sizP X<0
 ·rw [if_pos hs]
  obtain ⟨t1,t2⟩:=low_top (X:=X) (G:=G) (by omega) hG
  unfold fivV at *
  generalize sizM X G=M at *
  generalize sizP X=P at *
  obtain ⟨u,rfl⟩:∃ u:Nat,M=u:=⟨M.toNat,by omega⟩
  obtain ⟨k,hk⟩:∃ k:Nat,(-P).toNat=k:=⟨_,rfl⟩
  rw [hk] at t1 t2 ⊢
  rw [Int.toNat_natCast] at t1 ⊢
  have kT:Hid (∀ wx,Below w.heap.size w wx→Calls Tryz.prog 103 #[.int .u64 (u:Nat), .int .i64 5, .int .i64 (k:Nat)] wx fun e w'=>e = .returned (.string (txt (u*5 ^ k)))∧Below wx.heap.size wx w'):=fun wx hb=>ftimes_any u 5 k (by omega) (small_top (by omega)) (by decide) (by omega) t2 t1 B wx (Lib.TabBelow.on hT (hb.mono hB)) (Nat.le_trans hB hb.size)
  have kM:=make_any D (txt (u*5 ^ k)) P
  have e1:decide (P<0)=true:=by simpa using hs
  have e2:IntKind.i64.wrap (-P)=(k:Int):=by rw [IntKind.wrap_i64];omega
  generalize makeA D (txt (u*5 ^ k)) P=A at *
  obtain ⟨⟨an,sn,ax⟩,ae⟩:=A
  generalize txt (u*5 ^ k)=T at *
  dsimp only at kM ⊢
  clear hx hd hX hG hm hp hs t1 t2 hk hT hB
  go_enter Tryz.func68,Tryz.ntmps68
  go_wp2_with fail
  refine (kF _).mono ?_
  rintro e w1 ⟨rfl,b1⟩
  have d1:=box_below b1
  have r1:=r0.kept b1 r0.lt
  go_wp2_with fail
  refine (k0 _).mono ?_
  rintro e w2 ⟨rfl,b2⟩
  have d2:=d1.trans (b2.mono d1.size)
  have r2:=r1.kept b2 r1.lt
  go_wp2_with fail
  refine (kZ _).mono ?_
  rintro e w3 ⟨rfl,b3⟩
  have d3:=d2.trans (b3.mono d2.size)
  have r3:=r2.kept b3 r2.lt
  go_wp2_with fail
  refine (kN _).mono ?_
  rintro e w4 ⟨rfl,b4⟩
  have d4:=d3.trans (b4.mono d3.size)
  have r4:=r3.kept b4 r3.lt
  go_wp2_with fail
  refine (kT.out _ d4).mono ?_
  rintro e w5 ⟨rfl,b5⟩
  have d5:=d4.trans (b5.mono d4.size)
  have r5:=r4.kept b5 r4.lt
  go_wp2_with fail
  refine (kM _).mono ?_
  rintro e w6 ⟨rfl,b6⟩
  have d6:=d5.trans (b6.mono d5.size)
  have r6:=r5.kept b6 r5.lt
  obtain ⟨c0,c1,c2⟩:=r6.at
  have z0:=r6.fz 0
  have z1:=r6.fz 1
  have z2:=r6.fz 2
  go_wp2
  refine bodyPost_ret (v := .tuple #[.agg #[.bool an, .string sn, .int .i64 ax], .int .i64 ae]) (by simp [results,Tryz.results68,go_sem, *]) rfl ⟨rfl,?_⟩
  exact ((d6.setCell (Nat.le_refl _) _).setCell (Nat.le_refl _) _).setCell (Nat.le_refl _) _
 ·rw [if_neg hs]
  obtain ⟨t1,t2⟩:=high_top (X:=X) (G:=G) (by omega) hG
  unfold twoV at *
  generalize sizM X G=M at *
  generalize sizP X=P at *
  obtain ⟨u,rfl⟩:∃ u:Nat,M=u:=⟨M.toNat,by omega⟩
  obtain ⟨k,rfl⟩:∃ k:Nat,P=k:=⟨P.toNat,by omega⟩
  rw [Int.toNat_natCast] at t1 t2 ⊢
  rw [Int.toNat_natCast] at t1 ⊢
  have kT:Hid (∀ wx,Below w.heap.size w wx→Calls Tryz.prog 103 #[.int .u64 (u:Nat), .int .i64 2, .int .i64 (k:Nat)] wx fun e w'=>e = .returned (.string (txt (u*2 ^ k)))∧Below wx.heap.size wx w'):=fun wx hb=>ftimes_any u 2 k (by omega) (small_top (by omega)) (by decide) (by omega) t2 t1 B wx (Lib.TabBelow.on hT (hb.mono hB)) (Nat.le_trans hB hb.size)
  have kM:=make_any D (txt (u*2 ^ k)) 0
  have e1:decide ((k:Int)<0)=false:=by simp
  generalize makeA D (txt (u*2 ^ k)) 0=A at *
  obtain ⟨⟨an,sn,ax⟩,ae⟩:=A
  generalize txt (u*2 ^ k)=T at *
  dsimp only at kM ⊢
  clear hx hd hX hG hm hp hs t1 t2 hT hB
  go_enter Tryz.func68,Tryz.ntmps68
  go_wp2_with fail
  refine (kF _).mono ?_
  rintro e w1 ⟨rfl,b1⟩
  have d1:=box_below b1
  have r1:=r0.kept b1 r0.lt
  go_wp2_with fail
  refine (k0 _).mono ?_
  rintro e w2 ⟨rfl,b2⟩
  have d2:=d1.trans (b2.mono d1.size)
  have r2:=r1.kept b2 r1.lt
  go_wp2_with fail
  refine (kZ _).mono ?_
  rintro e w3 ⟨rfl,b3⟩
  have d3:=d2.trans (b3.mono d2.size)
  have r3:=r2.kept b3 r2.lt
  go_wp2_with fail
  refine (kN _).mono ?_
  rintro e w4 ⟨rfl,b4⟩
  have d4:=d3.trans (b4.mono d3.size)
  have r4:=r3.kept b4 r3.lt
  go_wp2_with fail
  refine (kT.out _ d4).mono ?_
  rintro e w5 ⟨rfl,b5⟩
  have d5:=d4.trans (b5.mono d4.size)
  have r5:=r4.kept b5 r4.lt
  go_wp2_with fail
  refine (kM _).mono ?_
  rintro e w6 ⟨rfl,b6⟩
  have d6:=d5.trans (b6.mono d5.size)
  have r6:=r5.kept b6 r5.lt
  obtain ⟨c0,c1,c2⟩:=r6.at
  have z0:=r6.fz 0
  have z1:=r6.fz 1
  have z2:=r6.fz 2
  go_wp2
  refine bodyPost_ret (v := .tuple #[.agg #[.bool an, .string sn, .int .i64 ax], .int .i64 ae]) (by simp [results,Tryz.results68,go_sem, *]) rfl ⟨rfl,?_⟩
  exact ((d6.setCell (Nat.le_refl _) _).setCell (Nat.le_refl _) _).setCell (Nat.le_refl _) _
end Go.Proofs.YtejlaiofpekchaaGreatDoor
namespace Go.Proofs.YtejlaiofpekchaaGreatDoor
open Go.RowKit
set_option linter.unusedVariables false
def zrs(e:Int):ByteArray:=⟨(Lib.repeatL [48] e.toNat).toArray⟩
def numV(n:Int):Tr × Int :=
 if (exactA n).2≠0 then (nulT,2)
 else if (exactA n).1.2.2<0 then (⟨3,0,(exactA n).1.1,(exactA n).1.2.1,(exactA n).1.2.2,⟨#[]⟩,[],[],[]⟩,1)
 else (⟨2,0,(exactA n).1.1,(exactA n).1.2.1++zrs (exactA n).1.2.2,0,⟨#[]⟩,[],[],[]⟩,1)
theorem rep_len(n:Nat):(Lib.repeatL [48] n).length=n:=by rw [Lib.repeatL_length];simp
theorem exact_right{n:Int}(h:(exactA n).2=0):rtN (exactA n).1.1 (exactA n).1.2.1 (exactA n).1.2.2=true:=by
 have key:∀ m:Nm × Int,(∀ b s e,makeA b s e=m→m.2=0→rtN m.1.1 m.1.2.1 m.1.2.2=true):=fun m b s e hm h0=>make_right (by rw [hm];exact Prod.ext rfl h0)
 unfold exactA at *
 unfold exA at *
 split at h
 ·cases h
 ·rename_i h1
  rw [if_neg h1]
  split
  ·rename_i h2;rw [if_pos h2] at h;exact key _ _ _ _ rfl h
  ·rename_i h2;rw [if_neg h2] at h;exact key _ _ _ _ rfl h
theorem right_bnd{n:Bool}{s:ByteArray}{e:Int}(h:rtN n s e=true):s.size≤100000 ∧ -2000≤e∧e≤2000:=by
 have hl:(bs s).length=s.size:=by simp [bs]
 unfold rtN at h
 split at h
 ·rename_i h1
  rw [h1] at hl
  simp at h hl
  omega
 ·simp only [Bool.and_eq_true, decide_eq_true_eq] at h
  have:=((rt_iff s).1 h.1).2
  omega
set_option maxHeartbeats 4000000 in
set_option maxRecDepth 100000 in
theorem vnumber_any(n:Int)(hn:0≤n∧n<18446744073709551616)(B:Nat)(w:World)(hT:Tab B w)(hB:B≤w.heap.size) :
  Calls Tryz.prog 37 #[.int .u64 n] w fun e w'=>e = .returned (.tuple #[.agg (nlf (numV n).1).arr, .int .i64 (numV n).2])∧Below w.heap.size w w':=by
 have hA:=alloc_below w (.cells zN.arr 26)
 have kE:=exact_any n hn B (w.alloc (.cells zN.arr 26)) (hT.on (hA.mono hB)) (Nat.le_trans hB hA.size)
 have hR:=fun h=>right_bnd (exact_right (n:=n) h)
 obtain ⟨⟨⟨neg,dig,ex⟩,er⟩,hE⟩:∃ A,exactA n=A:=⟨_,rfl⟩
 have hV:Hid (numV n=if er≠0 then (nulT,2) else if ex<0 then (⟨3,0,neg,dig,ex,⟨#[]⟩,[],[],[]⟩,1) else (⟨2,0,neg,dig++zrs ex,0,⟨#[]⟩,[],[],[]⟩,1)):=by show _=_;unfold numV;rw [hE]
 rw [hE] at kE hR
 simp only at kE hR
 have hA':Hid (Below w.heap.size w (w.alloc (.cells zN.arr 26))):=hA
 obtain ⟨V,hVV⟩:∃ V,numV n=V:=⟨_,rfl⟩
 rw [hVV] at hV ⊢
 have s1:(w.alloc (.cells zN.arr 26)).heap.size=w.heap.size+1:=by simp
 clear hE hVV hT hn hB hA
 by_cases he:er=0
 ·obtain ⟨hd, hx1, hx2⟩ := hR he
  subst he
  clear hR
  by_cases hx:ex<0
  ·have hV' : Hid (V = (⟨3, 0, neg, dig, ex, ⟨#[]⟩, [], [], []⟩, 1)) := by show _ = _; rw [hV.out]; simp [hx]
   clear hV
   go_enter Tryz.func37,Tryz.ntmps37
   go_wp2_with (go_at_call 68;refine kE.mono ?_;rintro e w2 ⟨rfl,hb2⟩;clear kE;have hN2:NBox w2 w.heap.size zN:=(nbox_new w zN).kept hb2 (by omega);have hA3:=alloc_below w2 (.cells #[.bool neg, .string dig, .int .i64 ex] 86);have hB3:Hid (Below w.heap.size w (w2.alloc (.cells #[.bool neg, .string dig, .int .i64 ex] 86))):=hA'.out.trans ((hb2.trans (hA3.mono hb2.size)).mono hA'.out.size);have hN3:NBox (w2.alloc (.cells #[.bool neg, .string dig, .int .i64 ex] 86)) w.heap.size zN:=hN2.kept hA3 hN2.lt;have hT3:=blk_new w2 #[.bool neg, .string dig, .int .i64 ex] 86;have hlt:Hid (w.heap.size<w2.heap.size):=hN2.lt;clear hN2 hA3 hb2;obtain ⟨m0,m1,m2,m3,m4,m5,m6,m7,m8⟩:=hN3.fields;have z0:=hN3.fz 0;have z1:=hN3.fz 1;have z2:=hN3.fz 2;have z3:=hN3.fz 3;have z4:=hN3.fz 4;have z5:=hN3.fz 5;have z6:=hN3.fz 6;have z7:=hN3.fz 7;have z8:=hN3.fz 8;have y0:=hT3.cell 0;have y1:=hT3.cell 1;have y2:=hT3.cell 2;simp at y0 y1 y2)
   have hk:=nine_kp (b:=nlf ⟨3,0,neg,dig,ex,⟨#[]⟩,[],[],[]⟩) hN3
   obtain ⟨q0,q1,q2,q3,q4,q5,q6,q7,q8⟩:=hk.1.fields
   simp only [nlf] at q0 q1 q2 q3 q4 q5 q6 q7 q8
   refine bodyPost_ret (v := .tuple #[.agg (nlf ⟨3,0,neg,dig,ex,⟨#[]⟩,[],[],[]⟩).arr, .int .i64 1]) (by simp [results,Tryz.results37,go_sem,nlf,Nb.arr,q0,q1,q2,q3,q4,q5,q6,q7,q8]) rfl ⟨by rw [hV'.out],hB3.out.trans (hk.2.below hB3.out.size fun k e=>by omega)⟩
  ·have hV' : Hid (V = (⟨2, 0, neg, dig ++ zrs ex, 0, ⟨#[]⟩, [], [], []⟩, 1)) := by show _ = _; rw [hV.out]; simp [hx]
   have hrp:Hid (∀ w',Calls Tryz.prog 69 #[.string ⟨#[48]⟩, .int .i64 ex] w' fun e w''=>e = .returned (.string (zrs ex))∧Below w'.heap.size w' w''):=fun w'=>by
    have k:=Any.strings_Repeat lays105 Extra_105 ⟨#[48]⟩ ex.toNat w' (by omega) (by show 1*ex.toNat≤_;omega)
    rw [Int.toNat_of_nonneg (by omega)] at k
    exact k
   have hzs:Hid (dig.size≤100000∧(zrs ex).size≤100000):=⟨hd,by show (Lib.repeatL [48] ex.toNat).toArray.size≤_;rw [List.size_toArray,rep_len];omega⟩
   have hx':decide (ex<0)=false:=by simp;omega
   clear hV hd
   go_enter Tryz.func37,Tryz.ntmps37
   go_upto_region 6 with (go_at_call 68;refine kE.mono ?_;rintro e w2 ⟨rfl,hb2⟩;clear kE;have hN2:NBox w2 w.heap.size zN:=(nbox_new w zN).kept hb2 (by omega);have hA3:=alloc_below w2 (.cells #[.bool neg, .string dig, .int .i64 ex] 86);have hB3:Hid (Below w.heap.size w (w2.alloc (.cells #[.bool neg, .string dig, .int .i64 ex] 86))):=hA'.out.trans ((hb2.trans (hA3.mono hb2.size)).mono hA'.out.size);have hN3:NBox (w2.alloc (.cells #[.bool neg, .string dig, .int .i64 ex] 86)) w.heap.size zN:=hN2.kept hA3 hN2.lt;have hT3:=blk_new w2 #[.bool neg, .string dig, .int .i64 ex] 86;have hlt:Hid (w.heap.size<w2.heap.size):=hN2.lt;clear hN2 hA3 hb2;obtain ⟨m0,m1,m2,m3,m4,m5,m6,m7,m8⟩:=hN3.fields;have z0:=hN3.fz 0;have z1:=hN3.fz 1;have z2:=hN3.fz 2;have z3:=hN3.fz 3;have z4:=hN3.fz 4;have z5:=hN3.fz 5;have z6:=hN3.fz 6;have z7:=hN3.fz 7;have z8:=hN3.fz 8;have y0:=hT3.cell 0;have y1:=hT3.cell 1;have y2:=hT3.cell 2;simp at y0 y1 y2)
   clear m0 m1 m2 m3 m4 m5 m6 m7 m8 z0 z1 z2 z3 z4 z5 z6 z7 z8 y0 y1 y2
   generalize w2.alloc (.cells #[.bool neg, .string dig, .int .i64 ex] 86)=W3 at *
   refine wp_region_any (by kernel_rfl) ?_
   rw [frm_of (Act.mk _ _)]
   refine nu_region (g:=w2.heap.size) (r:=w.heap.size) (neg:=neg) (dig:=dig) (R:=zrs ex) (E:=ex) ?gc [] _ ?gq
   case gc=>exact ⟨rfl,rfl,hT3,hN3,hzs.out,fun w' _=>hrp.out w'⟩
   case gq =>
    intro u w5 hold e3 hnb hkp
    have h2:u 2 = .pointer (some ⟨w.heap.size,0,none⟩):=hold 2 (by omega)
    rw [show frm 35 u []=Act.mk (List.toArray (u 0::u 1::u 2::u 3::u 4::u 5::u 6::u 7::u 8::u 9::u 10::u 11::u 12::u 13::u 14::u 15::u 16::u 17::u 18::u 19::u 20::u 21::u 22::u 23::u 24::u 25::u 26::u 27::u 28::u 29::u 30::u 31::u 32::u 33::u 34::[])) [] from rfl,h2,e3]
    obtain ⟨q0,q1,q2,q3,q4,q5,q6,q7,q8⟩:=hnb.fields
    simp only [nlf] at q0 q1 q2 q3 q4 q5 q6 q7 q8
    have hB5:=hB3.out.trans ((Below.refl _ W3).drew.trans (hkp.below (by have:=hB3.out.size;omega) fun k e=>by omega))
    clear hold h2 e3 hkp
    unfold Exit.then
    dsimp only
    go_wp2_with fail
    refine bodyPost_ret (v := .tuple #[.agg (nlf ⟨2,0,neg,dig++zrs ex,0,⟨#[]⟩,[],[],[]⟩).arr, .int .i64 1]) (by simp [results,Tryz.results37,go_sem,nlf,Nb.arr,q0,q1,q2,q3,q4,q5,q6,q7,q8]) rfl ⟨by rw [hV'.out],hB5⟩
 ·have hV' : Hid (V = (nulT, 2)) := by show _ = _; rw [hV.out]; simp [he]
  have he':(er != 0)=true:=by simpa using he
  clear hV hR he
  go_enter Tryz.func37,Tryz.ntmps37
  go_wp2_with (go_at_call 68;refine kE.mono ?_;rintro e w2 ⟨rfl,hb2⟩;clear kE;have hN2:NBox w2 w.heap.size zN:=(nbox_new w zN).kept hb2 (by omega);have hA3:=alloc_below w2 (.cells #[.bool neg, .string dig, .int .i64 ex] 86);have hB3:Hid (Below w.heap.size w (w2.alloc (.cells #[.bool neg, .string dig, .int .i64 ex] 86))):=hA'.out.trans ((hb2.trans (hA3.mono hb2.size)).mono hA'.out.size);have hN3:NBox (w2.alloc (.cells #[.bool neg, .string dig, .int .i64 ex] 86)) w.heap.size zN:=hN2.kept hA3 hN2.lt;have hT3:=blk_new w2 #[.bool neg, .string dig, .int .i64 ex] 86;have hlt:Hid (w.heap.size<w2.heap.size):=hN2.lt;clear hN2 hA3 hb2;obtain ⟨m0,m1,m2,m3,m4,m5,m6,m7,m8⟩:=hN3.fields;have z0:=hN3.fz 0;have z1:=hN3.fz 1;have z2:=hN3.fz 2;have z3:=hN3.fz 3;have z4:=hN3.fz 4;have z5:=hN3.fz 5;have z6:=hN3.fz 6;have z7:=hN3.fz 7;have z8:=hN3.fz 8;have y0:=hT3.cell 0;have y1:=hT3.cell 1;have y2:=hT3.cell 2;simp at y0 y1 y2)
  have hk:=nine_kp (b:=nlf nulT) hN3
  obtain ⟨q0,q1,q2,q3,q4,q5,q6,q7,q8⟩:=hk.1.fields
  simp only [nlf,nulT] at q0 q1 q2 q3 q4 q5 q6 q7 q8
  refine bodyPost_ret (v := .tuple #[.agg (nlf nulT).arr, .int .i64 2]) (by simp [results,Tryz.results37,go_sem,nlf,nulT,Nb.arr,q0,q1,q2,q3,q4,q5,q6,q7,q8]) rfl ⟨by rw [hV'.out],hB3.out.trans (hk.2.below hB3.out.size fun k e=>by omega)⟩
end Go.Proofs.YtejlaiofpekchaaGreatDoor
namespace Go.Proofs.YtejlaiofpekchaaGreatDoor
open Go.RowKit
set_option linter.unusedVariables false
def wthn(b:Nb)(k:Int):Value × Int :=
 if b.kind=7∨b.kind=9 then (.slice b.ai b.li b.ci,k)
 else if b.kind=8 then (if k.tmod 2=0 then (.slice b.ak b.lk b.ck,k.tdiv 2) else (.slice b.ai b.li b.ci,k.tdiv 2))
 else (.slice none 0 0,0)
set_option maxHeartbeats 2000000 in
theorem within_any(b:Nb)(k:Int)(hk : -9223372036854775808≤k∧k≤9223372036854775807)(w:World):Calls Tryz.prog 95 #[.agg b.arr, .int .i64 k] w fun e w'=>e = .returned (.tuple #[(wthn b k).1, .int .i64 (wthn b k).2])∧Below w.heap.size w w':=by
 have hal:=alloc_below w (.cells b.arr 26)
 have hB:Hid (Below w.heap.size w (w.alloc (.cells b.arr 26))):=hal
 obtain ⟨a0,a1,a2,a3,a4,a5,a6,a7,a8⟩:=(nbox_new w b).fields
 clear hal
 have hq : -9223372036854775808≤k.tdiv 2∧k.tdiv 2≤9223372036854775807:=by
  rcases Int.le_total 0 k with h | h
  ·rw [Int.tdiv_eq_ediv_of_nonneg h];omega
  ·obtain ⟨m, rfl⟩ : ∃ m : Int, k = -m := ⟨-k, by omega⟩
   rw [Int.neg_tdiv,Int.tdiv_eq_ediv_of_nonneg (by omega)];omega
 have hw:IntKind.i64.wrap (k.tdiv 2)=k.tdiv 2:=by rw [IntKind.wrap_i64];omega
 have hm : -2<k.tmod 2∧k.tmod 2<2:=by
  rcases Int.le_total 0 k with h | h
  ·rw [Int.tmod_eq_emod_of_nonneg h];omega
  ·obtain ⟨m, rfl⟩ : ∃ m : Int, k = -m := ⟨-k, by omega⟩
   rw [Int.neg_tmod,Int.tmod_eq_emod_of_nonneg (by omega)];omega
 have hwm:IntKind.i64.wrap (k.tmod 2)=k.tmod 2:=by rw [IntKind.wrap_i64];omega
 by_cases h7:b.kind=7
 ·have hR : wthn b k = (.slice b.ai b.li b.ci, k) := if_pos (.inl h7)
  rw [hR]
  clear hR
  go_enter Tryz.func95,Tryz.ntmps95
  go_wp2
  go_ret2
  exact ⟨rfl,hB.out⟩
 by_cases h9:b.kind=9
 ·have hR : wthn b k = (.slice b.ai b.li b.ci, k) := if_pos (.inr h9)
  rw [hR]
  clear hR h7
  go_enter Tryz.func95,Tryz.ntmps95
  go_wp2
  go_ret2
  exact ⟨rfl,hB.out⟩
 have h79:¬ (b.kind=7∨b.kind=9):=fun h=>h.elim h7 h9
 by_cases h8:b.kind=8
 ·by_cases hk2 : k.tmod 2 = 0
  ·have hR : wthn b k = (.slice b.ak b.lk b.ck, k.tdiv 2) := by unfold wthn; rw [if_neg h79, if_pos h8, if_pos hk2]
   rw [hR]
   clear hR h7 h9 h79
   go_enter Tryz.func95,Tryz.ntmps95
   go_wp2
   go_ret2
   exact ⟨rfl,hB.out⟩
  ·have hR : wthn b k = (.slice b.ai b.li b.ci, k.tdiv 2) := by unfold wthn; rw [if_neg h79, if_pos h8, if_neg hk2]
   rw [hR]
   clear hR h7 h9 h79
   go_enter Tryz.func95,Tryz.ntmps95
   go_wp2
   go_ret2
   exact ⟨rfl,hB.out⟩
 ·have hR : wthn b k = (.slice none 0 0, 0) := by unfold wthn; rw [if_neg h79, if_neg h8]
  rw [hR]
  clear hR h79
  go_enter Tryz.func95,Tryz.ntmps95
  go_wp2
  go_ret2
  exact ⟨rfl,hB.out⟩
end Go.Proofs.YtejlaiofpekchaaGreatDoor
namespace Go.Proofs.YtejlaiofpekchaaGreatDoor
open Go.RowKit
set_option linter.unusedVariables false
def Spot(w:World)(g o:Nat)(nb:Nb):Prop:=∀ j,j<9→w.cell? ⟨g,o+j,none⟩=nb.cells[j]?
theorem Spot.lt{w:World}{g o:Nat}{nb:Nb}(h:Spot w g o nb):g<w.heap.size:=some_block ((h 0 (by omega)).trans (List.getElem?_eq_getElem (by simp [Nb.cells])))
theorem Spot.kept{w w':World}{g o:Nat}{nb:Nb}(h:Spot w g o nb)(hb:Below w.heap.size w w'):Spot w' g o nb:=fun j hj=>by
 rw [hb.cell (p:=⟨g,o+j,none⟩) h.lt];exact h j hj
theorem NBox.spot{w:World}{g:Nat}{b:Nb}(h:NBox w g b):Spot w g 0 b:=fun j hj=>by rw [Nat.zero_add];exact h.cell j
theorem Spot.fields{w:World}{g o:Nat}{nb:Nb}(h:Spot w g o nb) :
  w.cell? ⟨g,o,none⟩=some (.int .i64 nb.kind)∧w.cell? ⟨g,o+1,none⟩=some (.int .u64 nb.num)∧w.cell? ⟨g,o+2,none⟩=some (.bool nb.neg)∧w.cell? ⟨g,o+3,none⟩=some (.string nb.dig)∧w.cell? ⟨g,o+4,none⟩=some (.int .i64 nb.exp)∧w.cell? ⟨g,o+5,none⟩=some (.string nb.txt)∧w.cell? ⟨g,o+6,none⟩=some (.slice nb.ab nb.lb nb.cb)∧w.cell? ⟨g,o+7,none⟩=some (.slice nb.ak nb.lk nb.ck)∧w.cell? ⟨g,o+8,none⟩=some (.slice nb.ai nb.li nb.ci) :=
 ⟨h 0 (by omega),h 1 (by omega),h 2 (by omega),h 3 (by omega),h 4 (by omega),h 5 (by omega),h 6 (by omega),h 7 (by omega),h 8 (by omega)⟩
def Nb.sideA(b:Nb)(sd:Bool):Option Addr:=if sd then b.ak else b.ai
def Nb.sideL(b:Nb)(sd:Bool):Nat:=if sd then b.lk else b.li
def Nb.sideC(b:Nb)(sd:Bool):Nat:=if sd then b.ck else b.ci
theorem Nd.side{D:Nat}{w:World}{b:Nb}{t:Tr}(h:Nd (D+1) w b t)(sd:Bool):RowN (Nd D w) w (b.sideA sd) (b.sideL sd) (b.sideC sd) (t.side sd):=by
 cases sd with
 | true=>exact h.2.2.2.1
 | false=>exact h.2.2.2.2
theorem way_yes{D:Nat}{w:World}{b:Nb}{t:Tr}(h:Nd (D+1) w b t){k:Int}{i:Nat}{sd:Bool}(hw:t.way k=some (i,sd)):0≤k∧wthn b k=(.slice (b.sideA sd) (b.sideL sd) (b.sideC sd),(i:Int))∧i<b.sideL sd:=by
 have hk:b.kind=t.kind:=h.1.1
 have hlk:t.keys.length=b.lk:=h.2.2.2.1.1
 have hli:t.kids.length=b.li:=h.2.2.2.2.1
 unfold Tr.way at hw
 split at hw
 ·cases hw
 rename_i h0
 have h0':0≤k:=by omega
 refine ⟨h0',?_⟩
 unfold wthn
 rw [hk,Int.tmod_eq_emod_of_nonneg h0',Int.tdiv_eq_ediv_of_nonneg h0']
 split at hw
 ·rename_i h8
  rw [if_neg (by omega),if_pos h8]
  split at hw
  ·rename_i h2
   rw [if_pos h2]
   split at hw
   ·rename_i h3
    cases hw
    exact ⟨by simp only [Nb.sideA,Nb.sideL,Nb.sideC,if_true,Prod.mk.injEq,true_and];omega,by simp only [Nb.sideL,if_true];omega⟩
   ·cases hw
  ·rename_i h2
   rw [if_neg h2]
   split at hw
   ·rename_i h3
    cases hw
    exact ⟨by simp only [Nb.sideA,Nb.sideL,Nb.sideC,Bool.false_eq_true,if_false,Prod.mk.injEq,true_and];omega,by simp only [Nb.sideL,Bool.false_eq_true,if_false];omega⟩
   ·cases hw
 ·split at hw
  ·rename_i h7
   rw [if_pos h7]
   split at hw
   ·rename_i h3
    cases hw
    exact ⟨by simp only [Nb.sideA,Nb.sideL,Nb.sideC,Bool.false_eq_true,if_false,Prod.mk.injEq,true_and];omega,by simp only [Nb.sideL,Bool.false_eq_true,if_false];omega⟩
   ·cases hw
  ·cases hw
theorem way_no{D:Nat}{w:World}{b:Nb}{t:Tr}(h:Nd (D+1) w b t){k:Int}(hw:t.way k=none)(h0:0≤k):∃ a n c,(wthn b k).1 = .slice a n c∧(n:Int)≤(wthn b k).2∧n≤c∧c≤9223372036854775807:=by
 have hk:b.kind=t.kind:=h.1.1
 have hlk:t.keys.length=b.lk:=h.2.2.2.1.1
 have hli:t.kids.length=b.li:=h.2.2.2.2.1
 have rk:=h.2.2.2.1.2.1
 have ri:=h.2.2.2.2.2.1
 unfold Room maxLen at rk ri
 unfold Tr.way at hw
 rw [if_neg (by omega)] at hw
 unfold wthn
 rw [hk,Int.tmod_eq_emod_of_nonneg h0,Int.tdiv_eq_ediv_of_nonneg h0]
 split at hw
 ·rename_i h8
  rw [if_neg (by omega),if_pos h8]
  split at hw
  ·rename_i h2
   rw [if_pos h2]
   split at hw
   ·cases hw
   ·exact ⟨_,_,_,rfl,by simp only;omega,rk.1,by omega⟩
  ·rename_i h2
   rw [if_neg h2]
   split at hw
   ·cases hw
   ·exact ⟨_,_,_,rfl,by simp only;omega,ri.1,by omega⟩
 ·rename_i h8
  split at hw
  ·rename_i h7
   rw [if_pos h7]
   split at hw
   ·cases hw
   ·exact ⟨_,_,_,rfl,by simp only;omega,ri.1,by omega⟩
  ·rename_i h7
   rw [if_neg h7,if_neg h8]
   exact ⟨none,0,0,rfl,by simp,Nat.le_refl _,by omega⟩
def LeadAt(w:World)(g o:Nat):List Int→Nat→Nat→Tr→Prop
 | [],g0,o0,_=>g=g0∧o=o0
 | k::p,g0,o0,t=>∃ (nb:Nb) (i:Nat) (sd:Bool) (bk ok:Nat) (u:Tr),Spot w g0 o0 nb∧t.way k=some (i,sd)∧nb.sideA sd=some ⟨bk,ok,none⟩∧(t.side sd)[i]? = some u∧LeadAt w g o p bk (ok+i*9) u
theorem LeadAt.snoc{w:World}{k:Int}{i bk ok:Nat}{sd:Bool}{nb:Nb}{u v:Tr}:∀ (p:List Int) {g o g0 o0:Nat} {t:Tr},LeadAt w g o p g0 o0 t→t.find p=some u→Spot w g o nb→u.way k=some (i,sd)→nb.sideA sd=some ⟨bk,ok,none⟩→(u.side sd)[i]? = some v→LeadAt w bk (ok+i*9) (p++[k]) g0 o0 t:=by
 intro p
 induction p with
 | nil =>
  intro g o g0 o0 t h hf hs hw ha hv
  obtain ⟨rfl,rfl⟩:=h
  rw [Tr.find_nil] at hf
  cases hf
  exact ⟨nb,i,sd,bk,ok,v,hs,hw,ha,hv,rfl,rfl⟩
 | cons k' p ih =>
  intro g o g0 o0 t h hf hs hw ha hv
  obtain ⟨nb',i',sd',bk',ok',u',hs',hw',ha',hu',hl⟩:=h
  rw [Tr.find_some hw' hu'] at hf
  exact ⟨nb',i',sd',bk',ok',u',hs',hw',ha',hu',ih hl hf hs hw ha hv⟩
theorem find_snoc{t u:Tr}:∀ (p:List Int) (q:List Int) {t u:Tr},t.find p=some u→t.find (p++q)=u.find q:=by
 intro p
 induction p with
 | nil=>intro q t u h;rw [Tr.find_nil] at h;cases h;rfl
 | cons k p ih =>
  intro q t u h
  cases hw:t.way k with
  | none=>rw [Tr.find_none hw] at h;cases h
  | some ib =>
   obtain ⟨i,b⟩:=ib
   have hu:(t.side b)[i]? = some ((t.side b).get ⟨i,Tr.way_lt hw⟩):=List.getElem?_eq_getElem (Tr.way_lt hw)
   rw [Tr.find_some hw hu] at h
   rw [List.cons_append,Tr.find_some hw hu]
   exact ih q h
def FindIs(D:Nat)(w:World)(g0 o0:Nat)(t:Tr)(ps:List Int)(v:Value):Prop :=
 match t.find ps with
 | none=>v = .pointer none
 | some u=>∃ g o nb,v = .pointer (some ⟨g,o,none⟩)∧Spot w g o nb∧Nd D w nb u∧LeadAt w g o ps g0 o0 t
set_option maxHeartbeats 4000000 in
set_option maxRecDepth 100000 in
theorem gfind_any{D:Nat}(g0 o0:Nat)(nb0:Nb)(t:Tr)(pa:Option Addr)(np cp:Nat)(ps:List Int)(w:World)(hs:Spot w g0 o0 nb0)(hN:Nd D w nb0 t)(hp:ps.length=np)(hi:Ints w pa ps)(hcp:np≤cp)(hr:∀ k∈ps, -9223372036854775808≤k∧k≤9223372036854775807)(hnp:np≤4611686018427387904) :
  Calls Tryz.prog 66 #[.pointer (some ⟨g0,o0,none⟩), .slice pa np cp] w fun e w'=>(∃ v,e = .returned v∧FindIs D w g0 o0 t ps v)∧Below w.heap.size w w':=by
 have hP:Hid (ps.length=np):=hp
 have hI:Hid (Ints w pa ps):=hi
 have hR:Hid (∀ k∈ps, -9223372036854775808≤k∧k≤9223372036854775807):=hr
 have hS0:Hid (Spot w g0 o0 nb0∧Nd D w nb0 t):=⟨hs,hN⟩
 clear hp hi hr hs hN
 go_enter Tryz.func66,Tryz.ntmps66
 go_wp2
 go_loopw [0,6,7,8,11] (fun s0 _ _ _ s11 wr=>∃ (i g o:Nat) (nb:Nb) (t':Tr),i≤np∧s0 = .pointer (some ⟨g,o,none⟩)∧s11 = .int .i64 i∧Hid (Below w.heap.size w wr)∧Hid (Spot w g o nb∧Nd D w nb t')∧Hid (LeadAt w g o (ps.take i) g0 o0 t∧t.find (ps.take i)=some t')) (fun _ _ _ _ i _=>np - (intOf i).toNat)
 case atStart=>exact ⟨0,g0,o0,nb0,t,Nat.zero_le _,rfl,rfl,Below.refl _ _,hS0,⟨⟨rfl,rfl⟩,rfl⟩⟩
 case round =>
  obtain ⟨i,g,o,nb,t',him,rfl,rfl,hbl,hS,hL⟩:=hrel
  by_cases hlt:i<np
  ·have hz : (i : Int) < (np : Int) := by omega
   have hip:i<ps.length:=by rw [hP.out];exact hlt
   obtain ⟨pb,po,rfl,hpc⟩:∃ pb po,pa=some ⟨pb,po,none⟩∧wr.cell? ⟨pb,po+i,none⟩=some (.int .i64 (ps.getD i 0)):=by
    have h1:=hI.out.kept hbl.out
    rcases hI.out.2 with h2 | ⟨pb,po,h2,_⟩
    ·rw [h2] at hip;cases hip
    ·rw [h2] at h1
     exact ⟨pb,po,h2,h1.cell hip⟩
   have hgd:ps.getD i 0=ps[i]:=by rw [List.getD_eq_getElem?_getD,List.getElem?_eq_getElem hip];rfl
   rw [hgd] at hpc
   have hkr:=hR.out _ (List.getElem_mem hip)
   have htk:Hid (ps.take (i+1)=ps.take i++[ps[i]]):=List.take_succ_eq_append_getElem hip
   have hsp:Hid (ps=ps.take i++(ps[i]::ps.drop (i+1))):=by
    show _=_
    rw [←List.drop_eq_getElem_cons hip,List.take_append_drop]
   have hfs:Hid (t.find ps=t'.find (ps[i]::ps.drop (i+1))):=by
    show _=_
    exact (congrArg t.find hsp.out).trans (find_snoc (t:=t) (u:=t') (ps.take i) (ps[i]::ps.drop (i+1)) hL.out.2)
   generalize ps[i]=k at *
   obtain ⟨f0,f1,f2,f3,f4,f5,f6,f7,f8⟩:=(hS.out.1.kept hbl.out).fields
   have kw:=within_any nb k hkr wr
   have wi:IntKind.i64.wrap ((i:Int)+1)=(i:Int)+1:=by rw [IntKind.wrap_i64];omega
   cases D with
   | zero=>exact absurd hS.out.2 id
   | succ D =>
   have hNone:t'.way k=none→Hid (FindIs (D+1) w g0 o0 t ps (.pointer none)):=fun hw=>by
    show FindIs _ _ _ _ _ _ _
    unfold FindIs
    rw [hfs.out,Tr.find_none hw]
   by_cases hk0:k<0
   ·have hw : t'.way k = none := by unfold Tr.way; rw [if_pos hk0]
    have hfin:=hNone hw
    obtain ⟨a',n',c',j',hx,hn',hc'⟩:∃ a n c j,wthn nb k=(.slice a n c,j)∧n≤c∧c≤9223372036854775807:=by
     have rk:=hS.out.2.2.2.2.1.2.1
     have ri:=hS.out.2.2.2.2.2.2.1
     unfold Room maxLen at rk ri
     unfold wthn
     split
     ·exact ⟨_,_,_,_,rfl,ri.1,by omega⟩
     ·split
      ·split
       ·exact ⟨_,_,_,_,rfl,rk.1,by omega⟩
       ·exact ⟨_,_,_,_,rfl,ri.1,by omega⟩
      ·exact ⟨_,_,_,_,rfl,Nat.le_refl _,by omega⟩
    rw [hx] at kw
    clear hNone hw hx hgd
    go_wp2_with (go_at_call 95;refine kw.mono ?_;rintro e w1 ⟨rfl,hb1⟩)
    go_ret
    exact ⟨⟨_,rfl,hfin.out⟩,hbl.out.trans (hb1.mono hbl.out.size)⟩
   ·cases hw : t'.way k with
    | none =>
     have hfin:=hNone hw
     obtain ⟨a',n',c',hx,hj,hn',hc'⟩:=way_no hS.out.2 hw (by omega)
     have hj':decide ((n':Int)≤(wthn nb k).2)=true:=decide_eq_true hj
     rw [hx] at kw
     generalize (wthn nb k).2=j' at *
     have hk':decide (k<0)=false:=decide_eq_false hk0
     clear hNone hw hx hgd hj
     go_wp2_with (go_at_call 95;refine kw.mono ?_;rintro e w1 ⟨rfl,hb1⟩)
     go_ret
     exact ⟨⟨_,rfl,hfin.out⟩,hbl.out.trans (hb1.mono hbl.out.size)⟩
    | some ib =>
     obtain ⟨j,sd⟩:=ib
     obtain ⟨h0,hx,hj⟩:=way_yes hS.out.2 hw
     have hrow:=hS.out.2.side sd
     have hlen:(t'.side sd).length=nb.sideL sd:=hrow.1
     have hcap:=hrow.2.1.1
     have hcap':=hrow.2.1.2.1
     unfold maxLen at hcap'
     have hjl:j<(t'.side sd).length:=by rw [hlen];exact hj
     obtain ⟨bk,ok,nk,hak,hck,hNk,hbk⟩:=row_el hrow (Below.refl _ _) hjl
     have hu:(t'.side sd)[j]? = some (t'.side sd)[j]:=List.getElem?_eq_getElem hjl
     have hS':Hid (Spot w bk (ok+j*9) nk∧Nd (D+1) w nk (t'.side sd)[j]):=⟨fun q hq=>by rw [Nat.add_assoc];exact hck q hq,nd_succ _ hNk⟩
     have hL':Hid (LeadAt w bk (ok+j*9) (ps.take (i+1)) g0 o0 t∧t.find (ps.take (i+1))=some (t'.side sd)[j]):=by
      show _∧_
      rw [htk.out]
      refine ⟨LeadAt.snoc _ hL.out.1 hL.out.2 hS.out.1 hw hak hu,?_⟩
      rw [find_snoc (t:=t) (u:=t') _ _ hL.out.2,Tr.find_some hw hu,Tr.find_nil]
     rw [hx,hak] at kw
     have hjz:¬ ((nb.sideL sd:Nat):Int)≤(j:Int):=by omega
     have hjd:decide (((nb.sideL sd:Nat):Int)≤(j:Int))=false:=decide_eq_false hjz
     have hk':decide (k<0)=false:=decide_eq_false hk0
     have hjn:(j:Int)<((nb.sideL sd:Nat):Int):=by omega
     generalize (t'.side sd)[j]=u at *
     generalize nb.sideL sd=L at *
     generalize nb.sideC sd=C at *
     clear hNone hw hx hgd hjz hrow hlen hjl hak hck hNk hbk hu
     go_wp2_with (go_at_call 95;refine kw.mono ?_;rintro e w1 ⟨rfl,hb1⟩)
     go_roundw
     case rel=>exact ⟨i+1,bk,ok+j*9,nk,u,by omega,rfl,by go_num,hbl.out.trans (hb1.mono hbl.out.size),hS',hL'⟩
     case measure=>simp [intOf];omega
  ·have hz : ¬ (i : Int) < (np : Int) := by omega
   have hfin:Hid (FindIs D w g0 o0 t ps (.pointer (some ⟨g,o,none⟩))):=by
    show FindIs _ _ _ _ _ _ _
    have h1:=hL.out
    rw [List.take_of_length_le (by rw [hP.out];omega)] at h1
    unfold FindIs
    rw [h1.2]
    exact ⟨g,o,nb,rfl,hS.out.1,hS.out.2,h1.1⟩
   go_wp2
   go_ret
   exact ⟨⟨_,rfl,hfin.out⟩,hbl.out⟩
end Go.Proofs.YtejlaiofpekchaaGreatDoor
namespace Go.Proofs.YtejlaiofpekchaaGreatDoor
open Go.RowKit
set_option linter.unusedVariables false
def PathOk(w:World)(pa:Option Addr)(np cp:Nat)(ps:List Int):Prop:=ps.length=np∧Ints w pa ps∧np≤cp∧(∀ k∈ps, -9223372036854775808≤k∧k≤9223372036854775807)∧np≤4611686018427387904
theorem PathOk.kept{w w':World}{pa:Option Addr}{np cp:Nat}{ps:List Int}(h:PathOk w pa np cp ps)(hb:Below w.heap.size w w'):PathOk w' pa np cp ps:=⟨h.1,h.2.1.kept hb,h.2.2.1,h.2.2.2.1,h.2.2.2.2⟩
theorem find_path{D:Nat}{g0 o0:Nat}{nb0:Nb}{t:Tr}{pa:Option Addr}{np cp:Nat}{ps:List Int}{w:World}(hs:Spot w g0 o0 nb0)(hN:Nd D w nb0 t)(hp:PathOk w pa np cp ps) :
  Calls Tryz.prog 66 #[.pointer (some ⟨g0,o0,none⟩), .slice pa np cp] w fun e w'=>(∃ v,e = .returned v∧FindIs D w g0 o0 t ps v)∧Below w.heap.size w w' :=
 gfind_any g0 o0 nb0 t pa np cp ps w hs hN hp.1 hp.2.1 hp.2.2.1 hp.2.2.2.1 hp.2.2.2.2
theorem Fresh.kp{C:Nat→Prop}{B D:Nat}{w w':World}{b:Nb}{t:Tr}{f:List Nat}(h:Fresh B D w b t f)(hk:Kp C w w')(hC:∀ k,C k→k<B):Fresh B D w' b t f:=by
 have hs:∀ k,k∈f→w'.heap[k]? = w.heap[k]? := fun k hk'=>hk.block k (h.2.2.2 k hk').2 (fun hc=>by have:=hC k hc;have:=(h.2.2.2 k hk').1;omega)
 exact ⟨h.1.stays hs,h.2.1.stays hs,h.2.2.1,fun k hk'=>⟨(h.2.2.2 k hk').1,Nat.lt_of_lt_of_le (h.2.2.2 k hk').2 hk.size⟩⟩
theorem Fresh.base{B B' D:Nat}{w:World}{b:Nb}{t:Tr}{f:List Nat}(h:Fresh B D w b t f)(hB:B'≤B):Fresh B' D w b t f:=⟨h.1,h.2.1,h.2.2.1,fun k hk=>⟨Nat.le_trans hB (h.2.2.2 k hk).1,(h.2.2.2 k hk).2⟩⟩
def AtIs(B D:Nat)(w':World)(t:Tr)(ps:List Int)(b':Nb)(er:Int):Prop :=
 (1024<t.size∧b'=zN∧er=8)∨(t.size≤1024∧t.find ps=none∧b'=zN∧er=19)∨(t.size≤1024∧er=0∧∃ u f,t.find ps=some u∧Fresh B D w' b' u f)
set_option maxHeartbeats 2000000 in
set_option maxRecDepth 100000 in
theorem gat_any{D:Nat}{t:Tr}{b:Nb}{w:World}{pa:Option Addr}{np cp:Nat}{ps:List Int}(hN:Nd D w b t)(hp:PathOk w pa np cp ps) :
  Calls Tryz.prog 33 #[.agg b.arr, .slice pa np cp] w fun e w'=>(∃ b' er,e = .returned (.tuple #[.agg b'.arr, .int .i64 er])∧AtIs w.heap.size D w' t ps b' er)∧Below w.heap.size w w':=by
 have hal:=alloc_below w (.cells b.arr 26)
 have hal2:=alloc_below (w.alloc (.cells b.arr 26)) (.cells #[.int .i64 0, .int .u64 0, .bool false, .string ⟨#[]⟩, .int .i64 0, .string ⟨#[]⟩, .slice none 0 0, .slice none 0 0, .slice none 0 0] 26)
 have s1:(w.alloc (.cells b.arr 26)).heap.size=w.heap.size+1:=by simp
 have s2:((w.alloc (.cells b.arr 26)).alloc (.cells #[.int .i64 0, .int .u64 0, .bool false, .string ⟨#[]⟩, .int .i64 0, .string ⟨#[]⟩, .slice none 0 0, .slice none 0 0, .slice none 0 0] 26)).heap.size=w.heap.size+1+1:=by simp
 have x0:Bx ((w.alloc (.cells b.arr 26)).alloc (.cells #[.int .i64 0, .int .u64 0, .bool false, .string ⟨#[]⟩, .int .i64 0, .string ⟨#[]⟩, .slice none 0 0, .slice none 0 0, .slice none 0 0] 26)) ((w.alloc (.cells b.arr 26)).alloc (.cells #[.int .i64 0, .int .u64 0, .bool false, .string ⟨#[]⟩, .int .i64 0, .string ⟨#[]⟩, .slice none 0 0, .slice none 0 0, .slice none 0 0] 26)) w.heap.size (w.heap.size+1) b zN :=
  ⟨(nbox_new w b).kept hal2 (by omega),by have:=nbox_new (w.alloc (.cells b.arr 26)) zN;rwa [s1] at this,Kp.refl _ _⟩
 have hne:Hid (w.heap.size≠w.heap.size+1):=by show _≠_;omega
 have hB2:Hid (Below w.heap.size w ((w.alloc (.cells b.arr 26)).alloc (.cells #[.int .i64 0, .int .u64 0, .bool false, .string ⟨#[]⟩, .int .i64 0, .string ⟨#[]⟩, .slice none 0 0, .slice none 0 0, .slice none 0 0] 26))):=hal.trans (hal2.mono (by omega))
 have hS2:Hid (((w.alloc (.cells b.arr 26)).alloc (.cells #[.int .i64 0, .int .u64 0, .bool false, .string ⟨#[]⟩, .int .i64 0, .string ⟨#[]⟩, .slice none 0 0, .slice none 0 0, .slice none 0 0] 26)).heap.size=w.heap.size+1+1):=s2
 have hNn:Hid (Nd D w b t):=hN
 have hW:Hid (∀ w',Kp (fun k=>k=w.heap.size∨k=w.heap.size+1) ((w.alloc (.cells b.arr 26)).alloc (.cells #[.int .i64 0, .int .u64 0, .bool false, .string ⟨#[]⟩, .int .i64 0, .string ⟨#[]⟩, .slice none 0 0, .slice none 0 0, .slice none 0 0] 26)) w'→Below w.heap.size w w'):=fun w' h=>hB2.out.trans (h.below (by omega) fun k hk=>by omega)
 have k1:=few_any (hN.kept hB2.out)
 have hP:Hid (PathOk w pa np cp ps):=hp
 clear hal hal2 s1 s2 hN hp
 obtain ⟨a0,a1,a2,a3,a4,a5,a6,a7,a8⟩:=x0.one.fields
 by_cases hf:t.size≤1024
 ·rw [decide_eq_true hf] at k1
  have hf':Hid (t.size≤1024):=hf
  have kF:Hid (∀ w',Below w.heap.size w w'→NBox w' w.heap.size b→Calls Tryz.prog 66 #[.pointer (some ⟨w.heap.size,0,none⟩), .slice pa np cp] w' _):=fun w' hb hx=>find_path hx.spot (hNn.out.kept hb) (hP.out.kept hb)
  clear hf
  cases hfd:t.find ps with
  | none =>
   have kF':Hid (∀ w',Below w.heap.size w w'→NBox w' w.heap.size b→Calls Tryz.prog 66 #[.pointer (some ⟨w.heap.size,0,none⟩), .slice pa np cp] w' fun e w''=>e = .returned (.pointer none)∧Below w'.heap.size w' w''):=fun w' hb hx=>(kF.out w' hb hx).mono fun e w'' ⟨⟨v,he,hv⟩,hb'⟩=>⟨by unfold FindIs at hv;rw [hfd] at hv;rw [he,hv],hb'⟩
   have hfd':Hid (t.find ps=none):=hfd
   clear kF hfd
   go_enter Tryz.func33,Tryz.ntmps33
   go_wp2_with (first
    | (go_at_call 65;refine k1.mono ?_;rintro e w3 ⟨rfl,hb3⟩;clear k1 a0 a1 a2 a3 a4 a5 a6 a7 a8;have x1:=x0.call hb3;have k2:=kF'.out w3 (hW.out _ x1.kp) x1.one)
    | (go_at_call 66;refine k2.mono ?_;rintro e w4 ⟨rfl,hb4⟩;clear k2;have x2:=x1.call hb4;obtain ⟨m0,m1,m2,m3,m4,m5,m6,m7,m8⟩:=x2.two.fields;have z0:=x2.two.fz 0;have z1:=x2.two.fz 1;have z2:=x2.two.fz 2;have z3:=x2.two.fz 3;have z4:=x2.two.fz 4;have z5:=x2.two.fz 5;have z6:=x2.two.fz 6;have z7:=x2.two.fz 7;have z8:=x2.two.fz 8))
   have x3:=x2.put hne.out zN
   obtain ⟨u0,u1,u2,u3,u4,u5,u6,u7,u8⟩:=x3.two.fields
   simp only [zN] at u0 u1 u2 u3 u4 u5 u6 u7 u8
   refine bodyPost_ret (v := .tuple #[.agg #[.int .i64 0, .int .u64 0, .bool false, .string ⟨#[]⟩, .int .i64 0, .string ⟨#[]⟩, .slice none 0 0, .slice none 0 0, .slice none 0 0], .int .i64 19]) (by simp [results,Tryz.results33,go_sem,u0,u1,u2,u3,u4,u5,u6,u7,u8]) rfl ⟨⟨zN,19,rfl, .inr (.inl ⟨hf'.out,hfd'.out,rfl,rfl⟩)⟩,hW.out _ x3.kp⟩
  | some u =>
   have kF':Hid (∀ w',Below w.heap.size w w'→NBox w' w.heap.size b→Calls Tryz.prog 66 #[.pointer (some ⟨w.heap.size,0,none⟩), .slice pa np cp] w' fun e w''=>(∃ g o nb,e = .returned (.pointer (some ⟨g,o,none⟩))∧Spot w' g o nb∧Nd D w' nb u)∧Below w'.heap.size w' w''):=fun w' hb hx=>(kF.out w' hb hx).mono fun e w'' ⟨⟨v,he,hv⟩,hb'⟩=>⟨by
    unfold FindIs at hv
    rw [hfd] at hv
    obtain ⟨g,o,nb,hv,hs,hn,_⟩:=hv
    exact ⟨g,o,nb,by rw [he,hv],hs,hn⟩,hb'⟩
   have hfd':Hid (t.find ps=some u):=hfd
   have hus:Hid (u.size≤1000000):=Nat.le_trans (Tr.find_size hfd) (Nat.le_trans hf'.out (by omega))
   clear kF hfd
   go_enter Tryz.func33,Tryz.ntmps33
   go_wp2_with (first
    | (go_at_call 65;refine k1.mono ?_;rintro e w3 ⟨rfl,hb3⟩;clear k1 a0 a1 a2 a3 a4 a5 a6 a7 a8;have x1:=x0.call hb3;have k2:=kF'.out w3 (hW.out _ x1.kp) x1.one)
    | (go_at_call 66;refine k2.mono ?_;rintro e w4 ⟨⟨g,o,nb,rfl,hs,hn⟩,hb4⟩;clear k2;have x2:=x1.call hb4;obtain ⟨m0,m1,m2,m3,m4,m5,m6,m7,m8⟩:=(hs.kept hb4).fields;have k3:=gclone_any (hn.kept hb4) hus.out;clear hs hn)
    | (go_at_call 67;refine k3.mono ?_;rintro e w5 ⟨⟨b',f,he,hF⟩,hb5⟩;rw [Nb.arr] at he;subst he;clear k3 m0 m1 m2 m3 m4 m5 m6 m7 m8;have x3:=x2.call hb5;obtain ⟨m0,m1,m2,m3,m4,m5,m6,m7,m8⟩:=x3.two.fields;have z0:=x3.two.fz 0;have z1:=x3.two.fz 1;have z2:=x3.two.fz 2;have z3:=x3.two.fz 3;have z4:=x3.two.fz 4;have z5:=x3.two.fz 5;have z6:=x3.two.fz 6;have z7:=x3.two.fz 7;have z8:=x3.two.fz 8))
   have x4:=x3.put hne.out b'
   have K4:=(Bx.put ⟨x3.one,x3.two,Kp.refl _ _⟩ hne.out b').kp
   obtain ⟨u0,u1,u2,u3,u4,u5,u6,u7,u8⟩:=x4.two.fields
   have hs2:=hS2.out
   have hg2:=x2.kp.size
   have hF':=hF.kp K4 (fun k hk=>by omega)
   refine bodyPost_ret (v := .tuple #[.agg b'.arr, .int .i64 0]) (by simp [results,Tryz.results33,go_sem,u0,u1,u2,u3,u4,u5,u6,u7,u8,Nb.arr]) rfl ⟨⟨b',0,rfl, .inr (.inr ⟨hf'.out,rfl,u,f,hfd'.out,hF'.base (by omega)⟩)⟩,hW.out _ x4.kp⟩
 ·rw [decide_eq_false hf] at k1
  have hf':Hid (1024<t.size):=by show _<_;omega
  clear hf
  go_enter Tryz.func33,Tryz.ntmps33
  go_wp2_with (first
   | (go_at_call 65;refine k1.mono ?_;rintro e w3 ⟨rfl,hb3⟩;clear k1 a0 a1 a2 a3 a4 a5 a6 a7 a8;have x2:=x0.call hb3;obtain ⟨m0,m1,m2,m3,m4,m5,m6,m7,m8⟩:=x2.two.fields;have z0:=x2.two.fz 0;have z1:=x2.two.fz 1;have z2:=x2.two.fz 2;have z3:=x2.two.fz 3;have z4:=x2.two.fz 4;have z5:=x2.two.fz 5;have z6:=x2.two.fz 6;have z7:=x2.two.fz 7;have z8:=x2.two.fz 8))
  have x3:=x2.put hne.out zN
  obtain ⟨u0,u1,u2,u3,u4,u5,u6,u7,u8⟩:=x3.two.fields
  simp only [zN] at u0 u1 u2 u3 u4 u5 u6 u7 u8
  refine bodyPost_ret (v := .tuple #[.agg #[.int .i64 0, .int .u64 0, .bool false, .string ⟨#[]⟩, .int .i64 0, .string ⟨#[]⟩, .slice none 0 0, .slice none 0 0, .slice none 0 0], .int .i64 8]) (by simp [results,Tryz.results33,go_sem,u0,u1,u2,u3,u4,u5,u6,u7,u8]) rfl ⟨⟨zN,8,rfl, .inl ⟨hf'.out,rfl,rfl⟩⟩,hW.out _ x3.kp⟩
end Go.Proofs.YtejlaiofpekchaaGreatDoor
