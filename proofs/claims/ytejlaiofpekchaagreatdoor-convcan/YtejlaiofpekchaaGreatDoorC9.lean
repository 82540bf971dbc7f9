/-
  The formats, and what they are made of: the small functions of flt.
  Bits taken apart.
  Numbers that are made of a whole number and a power of 10, of 5, of 2: plain mathematics.
  A word as a number: strconv.FormatUint at base 10, nat.FromWord.
-/
import Derived.Test.YtejlaiofpekchaaGreatDoorC8
import Derived.Test.YtejlaiofpekchaaGreatDoorC5
import Derived.Test.YtejlaiofpekchaaGreatDoorC4
import Derived.Test.YtejlaiofpekchaaGreatDoorC1
import Derived.Deep.RegionHeld3
import Derived.Lib.EndianBits
import Derived.BigQuiet
import Derived.Lib.AppendIntMem
import Derived.Lib.Walk
namespace Go.Proofs.YtejlaiofpekchaaGreatDoor
open Go.RowKit
theorem and_low(i:Nat)(hi:i≤64)(x:Int)(hx0:0≤x)(hx1:x<2 ^ 64):bits .and .u64 x (2 ^ i - 1)=x % 2 ^ i :=
 bits_mask .u64 64 (by decide) wraps_u64 i hi x hx0 hx1
def Row3(w:World)(g:Nat)(t:TypeId)(x y z:Value):Prop:=w.heap[g]? = some (.cells #[x,y,z] t (0,0))
theorem Row3.lt{w:World}{g:Nat}{t:TypeId}{x y z:Value}(h:Row3 w g t x y z):g<w.heap.size:=(Array.getElem?_eq_some_iff.1 h).1
theorem Row3.at{w:World}{g:Nat}{t:TypeId}{x y z:Value}(h:Row3 w g t x y z):w.cell? ⟨g,0,none⟩=some x∧w.cell? ⟨g,1,none⟩=some y∧w.cell? ⟨g,2,none⟩=some z:=by
 refine ⟨?_,?_,?_⟩ <;> exact cell_row h _
theorem Row3.fz{w:World}{g:Nat}{t:TypeId}{x y z:Value}(h:Row3 w g t x y z)(j:Nat):w.frozen? ⟨g,j,none⟩=false:=by
 unfold Row3 at h
 simp [World.frozen?,h]
theorem Row3.kept{w w':World}{g:Nat}{t:TypeId}{x y z:Value}(h:Row3 w g t x y z){B:Nat}(hb:Below B w w')(hB:g<B):Row3 w' g t x y z:=by
 unfold Row3 at h ⊢
 rw [hb.block g hB];exact h
theorem row3_new(w:World)(t:TypeId)(x y z:Value):Row3 (w.alloc (.cells #[x,y,z] t)) w.heap.size t x y z:=heap_alloc_new w _
theorem Row3.set{w:World}{g:Nat}{t:TypeId}{x y z:Value}(h:Row3 w g t x y z){a:Addr}(ha:g≠a.block)(u:Value):Row3 (w.setCell a u) g t x y z:=by
 unfold Row3 at h ⊢
 rw [Below.heap_setCell w a u g ha];exact h
theorem formats_any(w:World):Calls Tryz.prog 133 #[] w fun e w'=>e = .returned (.agg #[.int .i64 2, .int .i64 5, .int .i64 10, .int .i64 4, .int .i64 8, .int .i64 23, .int .i64 8, .int .i64 11, .int .i64 52])∧Below w.heap.size w w':=by
 go_enter Tryz.func133,Tryz.ntmps133
 go_wp2
 refine bodyPost_ret (v := .agg #[.int .i64 2, .int .i64 5, .int .i64 10, .int .i64 4, .int .i64 8, .int .i64 23, .int .i64 8, .int .i64 11, .int .i64 52]) (by simp [results,Tryz.results133,go_sem]) rfl ⟨rfl,?_⟩
 exact alloc_below _ _
theorem idx2(W:World):(Instr.index 160 (.agg #[.int .i64 2, .int .i64 5, .int .i64 10, .int .i64 4, .int .i64 8, .int .i64 23, .int .i64 8, .int .i64 11, .int .i64 52]) (.int .i64 2)).run Tryz.prog W = .ok (.agg #[.int .i64 8, .int .i64 11, .int .i64 52]) W:=by kernel_rfl
theorem fldP0(x y z:Int)(W:World):(Instr.field 157 (.agg #[.int .u64 x, .int .u64 y, .int .u64 z]) 0).run Tryz.prog W = .ok (.int .u64 x) W:=by kernel_rfl
theorem fldP1(x y z:Int)(W:World):(Instr.field 157 (.agg #[.int .u64 x, .int .u64 y, .int .u64 z]) 1).run Tryz.prog W = .ok (.int .u64 y) W:=by kernel_rfl
set_option maxRecDepth 100000 in
theorem wide_any(w:World):Calls Tryz.prog 99 #[] w fun e w'=>e = .returned (.agg #[.int .i64 8, .int .i64 11, .int .i64 52])∧Below w.heap.size w w':=by
 have k:=formats_any
 have hi:=idx2
 go_enter Tryz.func99,Tryz.ntmps99
 go_wp2_with (go_at_call 133;refine (k _).mono ?_;rintro e w1 ⟨rfl,b1⟩;obtain ⟨c0,c1,c2⟩:=((row3_new w 122 (.int .i64 0) (.int .i64 0) (.int .i64 0)).kept b1 (alloc_lt _ _)).at;have f0:=((row3_new w 122 (.int .i64 0) (.int .i64 0) (.int .i64 0)).kept b1 (alloc_lt _ _)).fz 0;have f1:=((row3_new w 122 (.int .i64 0) (.int .i64 0) (.int .i64 0)).kept b1 (alloc_lt _ _)).fz 1;have f2:=((row3_new w 122 (.int .i64 0) (.int .i64 0) (.int .i64 0)).kept b1 (alloc_lt _ _)).fz 2)
 refine bodyPost_ret (v := .agg #[.int .i64 8, .int .i64 11, .int .i64 52]) (by simp [results,Tryz.results99,go_sem, *]) rfl ⟨rfl,?_⟩
 exact (((box_below b1).setCell (Nat.le_refl _) _).setCell (Nat.le_refl _) _).setCell (Nat.le_refl _) _
theorem top2_any(w:World):Calls Tryz.prog 132 #[.agg #[.int .i64 2, .int .i64 5, .int .i64 10]] w fun e w'=>e = .returned (.int .u64 31)∧Below w.heap.size w w':=by
 go_enter Tryz.func132,Tryz.ntmps132
 go_wp2
 go_ret
 exact ⟨rfl,alloc_below _ _⟩
theorem ahead2_any(w:World):Calls Tryz.prog 134 #[.agg #[.int .i64 2, .int .i64 5, .int .i64 10]] w fun e w'=>e = .returned (.int .u64 1024)∧Below w.heap.size w w':=by
 go_enter Tryz.func134,Tryz.ntmps134
 go_wp2
 go_ret
 exact ⟨rfl,alloc_below _ _⟩
theorem top8_any(w:World):Calls Tryz.prog 132 #[.agg #[.int .i64 8, .int .i64 11, .int .i64 52]] w fun e w'=>e = .returned (.int .u64 2047)∧Below w.heap.size w w':=by
 go_enter Tryz.func132,Tryz.ntmps132
 go_wp2
 go_ret
 exact ⟨rfl,alloc_below _ _⟩
theorem ahead8_any(w:World):Calls Tryz.prog 134 #[.agg #[.int .i64 8, .int .i64 11, .int .i64 52]] w fun e w'=>e = .returned (.int .u64 4503599627370496)∧Below w.heap.size w w':=by
 go_enter Tryz.func134,Tryz.ntmps134
 go_wp2
 go_ret
 exact ⟨rfl,alloc_below _ _⟩
end Go.Proofs.YtejlaiofpekchaaGreatDoor
namespace Go.Proofs.YtejlaiofpekchaaGreatDoor
open Go.RowKit
set_option maxRecDepth 100000 in
set_option maxHeartbeats 1000000 in
theorem split2_any(n:Int)(h0:0≤n)(h1:n≤18446744073709551615)(w:World):Calls Tryz.prog 131 #[.agg #[.int .i64 2, .int .i64 5, .int .i64 10], .int .u64 n] w fun e w'=>e = .returned (.agg #[.int .u64 (n / 32768), .int .u64 (n / 1024 % 32), .int .u64 (n % 1024)])∧Below w.heap.size w w':=by
 have kT:=top2_any
 have kA:=ahead2_any
 have u1:IntKind.i64.wrap 15=15:=by decide
 have u2:IntKind.u64.wrap 1023=1023:=by decide
 have m1:bits .and .u64 (n / 1024) 31=n / 1024 % 32:=and_low 5 (by decide) _ (by omega) (by omega)
 have m2:bits .and .u64 n 1023=n % 1024:=and_low 10 (by decide) _ (by omega) (by omega)
 have r0:Row3 ((w.alloc (.cells #[.int .i64 2, .int .i64 5, .int .i64 10] 122)).alloc (.cells #[.int .u64 0, .int .u64 0, .int .u64 0] 157)) w.heap.size 122 (.int .i64 2) (.int .i64 5) (.int .i64 10):=(row3_new w 122 (.int .i64 2) (.int .i64 5) (.int .i64 10)).kept (alloc_below _ _) (alloc_lt _ _)
 have p0:Row3 ((w.alloc (.cells #[.int .i64 2, .int .i64 5, .int .i64 10] 122)).alloc (.cells #[.int .u64 0, .int .u64 0, .int .u64 0] 157)) (w.heap.size+1) 157 (.int .u64 0) (.int .u64 0) (.int .u64 0):=by
  have h:=row3_new (w.alloc (.cells #[.int .i64 2, .int .i64 5, .int .i64 10] 122)) 157 (.int .u64 0) (.int .u64 0) (.int .u64 0)
  have e:(w.alloc (.cells #[.int .i64 2, .int .i64 5, .int .i64 10] 122)).heap.size=w.heap.size+1:=by simp
  rw [e] at h
  exact h
 have d0:Below w.heap.size w ((w.alloc (.cells #[.int .i64 2, .int .i64 5, .int .i64 10] 122)).alloc (.cells #[.int .u64 0, .int .u64 0, .int .u64 0] 157)):=((Below.refl _ _).alloc (Nat.le_refl _) _).alloc (by simp) _
 go_enter Tryz.func131,Tryz.ntmps131
 go_wp2
 go_region_held3 (fun wx=>wx.cell? ⟨w.heap.size,0,none⟩=some (.int .i64 2)∧wx.cell? ⟨w.heap.size,1,none⟩=some (.int .i64 5)∧wx.cell? ⟨w.heap.size,2,none⟩=some (.int .i64 10)) (first | exact r0.at | exact q1.at | exact q2.at | exact (((q2.set (by simp) _).set (by simp) _).set (by simp) _).at) (first
  | (go_at_call 132;refine (kT _).mono ?_;rintro e w1 ⟨rfl,b1⟩;have d1:=d0.drew.trans (b1.mono d0.size);have q1:=Row3.kept (w:=((w.alloc (.cells #[.int .i64 2, .int .i64 5, .int .i64 10] 122)).alloc (.cells #[.int .u64 0, .int .u64 0, .int .u64 0] 157)).drew) r0 b1 r0.lt;have p1:=Row3.kept (w:=((w.alloc (.cells #[.int .i64 2, .int .i64 5, .int .i64 10] 122)).alloc (.cells #[.int .u64 0, .int .u64 0, .int .u64 0] 157)).drew) p0 b1 p0.lt)
  | (go_at_call 134;refine (kA _).mono ?_;rintro e w2 ⟨rfl,b2⟩;have d2:=d1.trans (b2.mono d1.size);have q2:=q1.kept b2 q1.lt;have p2:=p1.kept b2 p1.lt;obtain ⟨c0,c1,c2⟩:=p2.at;have f0:=p2.fz 0;have f1:=p2.fz 1;have f2:=p2.fz 2))
 go_wp2
 refine bodyPost_ret (v := .agg #[.int .u64 (n / 32768), .int .u64 (n / 1024 % 32), .int .u64 (n % 1024)]) (by simp [results,Tryz.results131,go_sem, *]) rfl ⟨rfl,?_⟩
 exact ((d2.setCell (by simp) _).setCell (by simp) _).setCell (by simp) _
set_option maxRecDepth 100000 in
set_option maxHeartbeats 1000000 in
theorem split8_any(n:Int)(h0:0≤n)(h1:n≤18446744073709551615)(w:World):Calls Tryz.prog 131 #[.agg #[.int .i64 8, .int .i64 11, .int .i64 52], .int .u64 n] w fun e w'=>e = .returned (.agg #[.int .u64 (n / 9223372036854775808), .int .u64 (n / 4503599627370496 % 2048), .int .u64 (n % 4503599627370496)])∧Below w.heap.size w w':=by
 have kT:=top8_any
 have kA:=ahead8_any
 have u1:IntKind.i64.wrap 63=63:=by decide
 have u2:IntKind.u64.wrap 4503599627370495=4503599627370495:=by decide
 have m1:bits .and .u64 (n / 4503599627370496) 2047=n / 4503599627370496 % 2048:=and_low 11 (by decide) _ (by omega) (by omega)
 have m2:bits .and .u64 n 4503599627370495=n % 4503599627370496:=and_low 52 (by decide) _ (by omega) (by omega)
 have r0:Row3 ((w.alloc (.cells #[.int .i64 8, .int .i64 11, .int .i64 52] 122)).alloc (.cells #[.int .u64 0, .int .u64 0, .int .u64 0] 157)) w.heap.size 122 (.int .i64 8) (.int .i64 11) (.int .i64 52):=(row3_new w 122 (.int .i64 8) (.int .i64 11) (.int .i64 52)).kept (alloc_below _ _) (alloc_lt _ _)
 have p0:Row3 ((w.alloc (.cells #[.int .i64 8, .int .i64 11, .int .i64 52] 122)).alloc (.cells #[.int .u64 0, .int .u64 0, .int .u64 0] 157)) (w.heap.size+1) 157 (.int .u64 0) (.int .u64 0) (.int .u64 0):=by
  have h:=row3_new (w.alloc (.cells #[.int .i64 8, .int .i64 11, .int .i64 52] 122)) 157 (.int .u64 0) (.int .u64 0) (.int .u64 0)
  have e:(w.alloc (.cells #[.int .i64 8, .int .i64 11, .int .i64 52] 122)).heap.size=w.heap.size+1:=by simp
  rw [e] at h
  exact h
 have d0:Below w.heap.size w ((w.alloc (.cells #[.int .i64 8, .int .i64 11, .int .i64 52] 122)).alloc (.cells #[.int .u64 0, .int .u64 0, .int .u64 0] 157)):=((Below.refl _ _).alloc (Nat.le_refl _) _).alloc (by simp) _
 go_enter Tryz.func131,Tryz.ntmps131
 go_wp2
 go_region_held3 (fun wx=>wx.cell? ⟨w.heap.size,0,none⟩=some (.int .i64 8)∧wx.cell? ⟨w.heap.size,1,none⟩=some (.int .i64 11)∧wx.cell? ⟨w.heap.size,2,none⟩=some (.int .i64 52)) (first | exact r0.at | exact q1.at | exact q2.at | exact (((q2.set (by simp) _).set (by simp) _).set (by simp) _).at) (first
  | (go_at_call 132;refine (kT _).mono ?_;rintro e w1 ⟨rfl,b1⟩;have d1:=d0.drew.trans (b1.mono d0.size);have q1:=Row3.kept (w:=((w.alloc (.cells #[.int .i64 8, .int .i64 11, .int .i64 52] 122)).alloc (.cells #[.int .u64 0, .int .u64 0, .int .u64 0] 157)).drew) r0 b1 r0.lt;have p1:=Row3.kept (w:=((w.alloc (.cells #[.int .i64 8, .int .i64 11, .int .i64 52] 122)).alloc (.cells #[.int .u64 0, .int .u64 0, .int .u64 0] 157)).drew) p0 b1 p0.lt)
  | (go_at_call 134;refine (kA _).mono ?_;rintro e w2 ⟨rfl,b2⟩;have d2:=d1.trans (b2.mono d1.size);have q2:=q1.kept b2 q1.lt;have p2:=p1.kept b2 p1.lt;obtain ⟨c0,c1,c2⟩:=p2.at;have f0:=p2.fz 0;have f1:=p2.fz 1;have f2:=p2.fz 2))
 go_wp2
 refine bodyPost_ret (v := .agg #[.int .u64 (n / 9223372036854775808), .int .u64 (n / 4503599627370496 % 2048), .int .u64 (n % 4503599627370496)]) (by simp [results,Tryz.results131,go_sem, *]) rfl ⟨rfl,?_⟩
 exact ((d2.setCell (by simp) _).setCell (by simp) _).setCell (by simp) _
end Go.Proofs.YtejlaiofpekchaaGreatDoor
namespace Go.Proofs.YtejlaiofpekchaaGreatDoor
open Go
theorem five_top{m k a N:Nat}(hm:m<10 ^ 16)(hk:k≤10*a)(hN:16+7*a≤N):m*5 ^ k<10 ^ N:=by
 have h1:5 ^ k≤5 ^ (10*a):=Nat.pow_le_pow_right (by decide) hk
 have h2:(5 ^ 10) ^ a≤(10 ^ 7) ^ a:=Nat.pow_le_pow_left (by decide) a
 rw [Nat.pow_mul] at h1
 have h3:m*5 ^ k≤m*(10 ^ 7) ^ a:=Nat.mul_le_mul_left _ (Nat.le_trans h1 h2)
 have h4:m*(10 ^ 7) ^ a<10 ^ 16*(10 ^ 7) ^ a:=Nat.mul_lt_mul_of_pos_right hm (Nat.pow_pos (by decide))
 rw [←Nat.pow_mul,←Nat.pow_add] at h4
 rw [←Nat.pow_mul] at h3
 exact Nat.lt_of_le_of_lt h3 (Nat.lt_of_lt_of_le h4 (Nat.pow_le_pow_right (by decide) hN))
theorem two_top{m k a N:Nat}(hm:m<10 ^ 16)(hk:k≤10*a)(hN:16+4*a≤N):m*2 ^ k<10 ^ N:=by
 have h1:2 ^ k≤2 ^ (10*a):=Nat.pow_le_pow_right (by decide) hk
 have h2:(2 ^ 10) ^ a≤(10 ^ 4) ^ a:=Nat.pow_le_pow_left (by decide) a
 rw [Nat.pow_mul] at h1
 have h3:m*2 ^ k≤m*(10 ^ 4) ^ a:=Nat.mul_le_mul_left _ (Nat.le_trans h1 h2)
 have h4:m*(10 ^ 4) ^ a<10 ^ 16*(10 ^ 4) ^ a:=Nat.mul_lt_mul_of_pos_right hm (Nat.pow_pos (by decide))
 rw [←Nat.pow_mul,←Nat.pow_add] at h4
 rw [←Nat.pow_mul] at h3
 exact Nat.lt_of_le_of_lt h3 (Nat.lt_of_lt_of_le h4 (Nat.pow_le_pow_right (by decide) hN))
def sizM(X G:Int):Int:=if X=0 then G else 4503599627370496+G
def sizP(X:Int):Int:=if X=0 then -1074 else X - 1075
theorem siz_in{X G:Int}(hX:0≤X∧X<2047)(hG:0≤G∧G<4503599627370496):(0≤sizM X G∧sizM X G<9007199254740992) ∧ -1074≤sizP X∧sizP X≤971:=by
 unfold sizM sizP
 by_cases h:X=0
 ·rw [if_pos h,if_pos h];omega
 ·rw [if_neg h,if_neg h];omega
def fivV(X G:Int):Nat:=(sizM X G).toNat*5 ^ (-sizP X).toNat
def twoV(X G:Int):Nat:=(sizM X G).toNat*2 ^ (sizP X).toNat
theorem low_top{X G:Int}(hX:0≤X∧X<2047)(hG:0≤G∧G<4503599627370496):fivV X G<top∧5 ^ (-sizP X).toNat<top:=by
 obtain ⟨h1,h2⟩:=siz_in hX hG
 have h3:∀ N,772≤N→fivV X G<10 ^ N∧5 ^ (-sizP X).toNat<10 ^ N:=fun N hN=>by
  have h4:=five_top (m:=1) (k:=(-sizP X).toNat) (a:=108) (N:=N) (by decide) (by omega) hN
  rw [Nat.one_mul] at h4
  exact ⟨five_top (a:=108) (by omega) (by omega) hN,h4⟩
 unfold top
 exact h3 800 (by decide)
theorem high_top{X G:Int}(hX:0≤X∧X<2047)(hG:0≤G∧G<4503599627370496):twoV X G<top∧2 ^ (sizP X).toNat<top:=by
 obtain ⟨h1,h2⟩:=siz_in hX hG
 have h3:∀ N,416≤N→twoV X G<10 ^ N∧2 ^ (sizP X).toNat<10 ^ N:=fun N hN=>by
  have h4:=two_top (m:=1) (k:=(sizP X).toNat) (a:=100) (N:=N) (by decide) (by omega) hN
  rw [Nat.one_mul] at h4
  exact ⟨two_top (a:=100) (by omega) (by omega) hN,h4⟩
 unfold top
 exact h3 800 (by decide)
def exA(neg:Bool)(X G:Int):Nm × Int:=if X=2047 then (noN,12) else if sizP X<0 then makeA neg (txt (fivV X G)) (sizP X) else makeA neg (txt (twoV X G)) 0
def exactA(n:Int):Nm × Int:=exA (decide (9223372036854775808≤n)) (n / 4503599627370496 % 2048) (n % 4503599627370496)
end Go.Proofs.YtejlaiofpekchaaGreatDoor
namespace Go.Proofs.YtejlaiofpekchaaGreatDoor
open Go.RowKit Go.Shelf Go.Lib Go.Sort
theorem dec_numF(u:Nat):(Lib.decDigits u).map (fun b:UInt8=>((b.toNat:Nat):Int))=numL u:=by
 induction u using Nat.strongRecOn with
 | _ u ih =>
  by_cases h:u<10
  ·rw [Lib.decDigits_one h, num_small h]
   simp only [List.map_cons,List.map_nil]
   rw [UInt8.toNat_ofNat',Nat.mod_eq_of_lt (by omega)]
  ·rw [Lib.decDigits, dif_neg h, num_big (by omega), List.map_append, ih (u / 10) (by omega)]
   simp only [List.map_cons,List.map_nil]
   rw [UInt8.toNat_ofNat',Nat.mod_eq_of_lt (by omega)]
theorem dec_txt(u:Nat):(⟨(Lib.decDigits u).toArray⟩:ByteArray)=txt u:=bs_inj (by rw [bs_txt];exact dec_numF u)
set_option maxHeartbeats 4000000 in
set_option maxRecDepth 100000 in
theorem ifmt_any(u:Nat)(hu64:u<18446744073709551616)(w:World)(htab:Lib.TabIs Tryz.prog w "internal/strconv.uint64pow10" .u64 Lib.pow10Tab) :
  Calls Tryz.prog 184 #[.int .u64 u, .int .i64 10] w fun e w'=>e = .returned (.string (txt u))∧Below w.heap.size w w':=by
 rw [←dec_txt u]
 by_cases hs:u<100
 ·have hk := Any.internal_strconv_small lays283 u hs w
  have iu:(u:Int)<100:=by omega
  have w1:IntKind.i64.wrap (u:Int)=(u:Int):=by rw [IntKind.wrap_i64];omega
  go_enter Tryz.func184,Tryz.ntmps184
  go_wp2_with (go_at_call 194;refine hk.mono ?_;rintro e w' ⟨rfl,hw⟩;obtain rfl:w=w':=hw.symm)
  go_ret
  exact ⟨rfl,Below.refl _ _⟩
 ·have hu1 : 1 ≤ u := by omega
  have hnd20:Lib.nDigits u≤20:=by have:=Lib.numDigits_eq u hu1 hu64;split at this <;> omega
  have hal:Tryz.prog.arrayLen 212=24:=by simp [Program.arrayLen,Tryz.underlying212]
  have hsl:∀ W,(Instr.sliceAt 212 (.pointer (some ⟨w.heap.size,0,none⟩)) none (some (.int .i64 (Lib.nDigits u:Int))) none).run Tryz.prog W = .ok (.slice (some ⟨w.heap.size,0,none⟩) (Lib.nDigits u) 24) W:=fun W=>by
   rw [run_sliceAt_array_h W 212 ⟨w.heap.size,0,none⟩ (by simp [Program.arrayLen,Program.elem,Tryz.underlying212]) .i64 (Lib.nDigits u:Int) (by omega) (by rw [hal];omega)]
   go_simp
  have hH0:=Lib.holds_zero0 w 212 (Lib.nDigits u) (by omega)
  have hfmt:=Any.internal_strconv_formatBase10 lays285 w.heap.size 0 24 u (Array.replicate (Lib.nDigits u) 0) (w.alloc (.cells Lib.zeros24 212)) hH0 (by rw [Array.size_replicate];exact Lib.lt_pow_nDigits u) hu64 (by rw [Array.size_replicate];omega)
  rw [Array.size_replicate] at hfmt
  have hnum:=Any.internal_strconv_numDigits laysM284 u hu1 hu64 _ (Lib.tabIs_alloc htab (.cells Lib.zeros24 212))
  have HH0:=Lib.hid hH0
  have iu:¬ (u:Int)<100:=by omega
  clear hH0 hal
  go_enter Tryz.func184,Tryz.ntmps184
  go_wp2_with (go_at_call 195;refine hnum.mono ?_;rintro e w' ⟨rfl,rfl⟩)
  refine hfmt.mono ?_
  rintro e w' ⟨rfl,k,v',dk,rfl,hF⟩
  have hcv:(convert 23 9 (.slice (some ⟨w.heap.size,0,none⟩) (Lib.nDigits u) 24)).run Tryz.prog ((putRow (fun (b:UInt8)=>Value.int .u8 (b.toNat:Int)) (w.alloc (.cells Lib.zeros24 212)) w.heap.size 0 dk).drewN k) = .ok (.string ⟨(Lib.decDigits u).toArray⟩) ((putRow (fun (b:UInt8)=>Value.int .u8 (b.toNat:Int)) (w.alloc (.cells Lib.zeros24 212)) w.heap.size 0 dk).drewN k):=by
   have h:=run_convert_bytes_back (P:=Tryz.prog) ((putRow (fun (b:UInt8)=>Value.int .u8 (b.toNat:Int)) (w.alloc (.cells Lib.zeros24 212)) w.heap.size 0 dk).drewN k) 23 9 5 ⟨w.heap.size,0,none⟩ 24 (Lib.decDigits u) Tryz.underlying23 Tryz.underlying5 Tryz.underlying9 (fun j hj=>by
    rw [Lib.row_is_numeral hF j hj,Lib.add_plain,World.cell?_drewN]
    exact cell?_putRow (fun (b:UInt8)=>Value.int .u8 (b.toNat:Int)) _ w.heap.size 0 _ dk HH0.out (by rw [hF.size,Array.size_replicate]) j (by rw [hF.size];rw [Lib.decDigits_length] at hj;exact hj))
   rw [Lib.decDigits_length] at h
   exact h
  go_wp2
  go_ret
  obtain ⟨os,eo⟩:=Lib.fin_at w (.cells Lib.zeros24 212) dk k 0
  exact ⟨rfl,by rw [eo];exact Lib.below_grow _ w (Nat.le_refl _) k os⟩
theorem fmt_any(u:Nat)(hu64:u<18446744073709551616)(w:World)(htab:Lib.TabIs Tryz.prog w "internal/strconv.uint64pow10" .u64 Lib.pow10Tab) :
  Calls Tryz.prog 167 #[.int .u64 u, .int .i64 10] w fun e w'=>e = .returned (.string (txt u))∧Below w.heap.size w w':=by
 have hk:=ifmt_any u hu64 w htab
 clear htab hu64
 generalize txt u=T at *
 go_enter Tryz.func167,Tryz.ntmps167
 go_wp2_with (go_at_call 184;refine hk.mono ?_;rintro e w1 ⟨rfl,hb⟩)
 go_ret
 exact ⟨rfl,hb⟩
theorem frw_any(u:Nat)(hu64:u<18446744073709551616)(w:World)(htab:Lib.TabIs Tryz.prog w "internal/strconv.uint64pow10" .u64 Lib.pow10Tab) :
  Calls Tryz.prog 141 #[.int .u64 u] w fun e w'=>e = .returned (.string (txt u))∧Below w.heap.size w w':=by
 have hk:=fmt_any u hu64 w htab
 clear htab hu64
 generalize txt u=T at *
 go_enter Tryz.func141,Tryz.ntmps141
 go_wp2_with (go_at_call 167;refine hk.mono ?_;rintro e w1 ⟨rfl,hb⟩)
 go_ret
 exact ⟨rfl,hb⟩
end Go.Proofs.YtejlaiofpekchaaGreatDoor
