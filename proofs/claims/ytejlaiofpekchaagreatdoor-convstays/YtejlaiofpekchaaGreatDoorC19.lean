/-
  Whether a node's number is right, whether its Kind may have such numbers and counts: tree.isInt, isDec, mayBe.
  How far a character is begun that is not whole.
  Rows of runes: read, made, appended to, compared; what Go's '[]rune(s)' lays.
  Whether bytes are a text, and a text's characters, in the program.
  What is wrong with a node itself: tree.fault (plain part).
  A field of a fault that a call answered.
-/
import Derived.Test.YtejlaiofpekchaaGreatDoorC18
import Derived.Test.YtejlaiofpekchaaGreatDoorC7
import Derived.Test.YtejlaiofpekchaaGreatDoorC6
import Derived.Deep.DeepAppendWide
import Derived.Deep.QuietTactic
import Derived.BigQuiet
import Derived.RegionTactic
import Derived.ChangeAlike
namespace Go.Proofs.YtejlaiofpekchaaGreatDoor
open Go.RowKit
set_option linter.unusedVariables false
set_option maxHeartbeats 4000000 in
theorem maybe_any(b:Nb)(w:World)(hlen:b.lk≤b.ck∧b.ck≤maxLen∧b.li≤b.ci∧b.ci≤maxLen):Calls Tryz.prog 77 #[.agg b.arr] w fun e w'=>e = .returned (.bool (mayB b))∧Below w.heap.size w w':=by
 have hal:=alloc_below w (.cells b.arr 26)
 have hB:Hid (Below w.heap.size w (w.alloc (.cells b.arr 26))):=hal
 obtain ⟨a0,a1,a2,a3,a4,a5,a6,a7,a8⟩:=(nbox_new w b).fields
 unfold maxLen at hlen
 obtain ⟨l0,l1,l2,l3⟩:=hlen
 clear hal
 by_cases h1:b.kind=1
 ·rw [show mayB b = decide (b.num ≤ 1) from by unfold mayB; rw [if_pos h1]]
  go_enter Tryz.func77,Tryz.ntmps77
  go_wp2
  go_ret
  exact ⟨rfl,hB.out⟩
 by_cases h8:b.kind=8
 ·rw [show mayB b = decide (b.lk = b.li) from by unfold mayB; rw [if_neg h1, if_pos h8]]
  clear h1
  by_cases hq:b.lk=b.li
  ·rw [decide_eq_true hq]
   have hq':(b.lk:Int)=(b.li:Int):=by omega
   clear hq
   go_enter Tryz.func77,Tryz.ntmps77
   go_wp2
   go_ret
   exact ⟨rfl,hB.out⟩
  ·rw [decide_eq_false hq]
   have hq':((b.lk:Int)==(b.li:Int))=false:=by simp;omega
   clear hq
   go_enter Tryz.func77,Tryz.ntmps77
   go_wp2
   go_ret
   exact ⟨rfl,hB.out⟩
 by_cases h9:b.kind=9
 ·rw [show mayB b = decide (b.li = 1) from by unfold mayB; rw [if_neg h1, if_neg h8, if_pos h9]]
  clear h1 h8
  by_cases hq:b.li=1
  ·rw [decide_eq_true hq]
   have hq':((b.li:Int)==1)=true:=by simp;omega
   clear hq
   go_enter Tryz.func77,Tryz.ntmps77
   go_wp2
   go_ret
   exact ⟨rfl,hB.out⟩
  ·rw [decide_eq_false hq]
   have hq':((b.li:Int)==1)=false:=by simp;omega
   clear hq
   go_enter Tryz.func77,Tryz.ntmps77
   go_wp2
   go_ret
   exact ⟨rfl,hB.out⟩
 by_cases h10:b.kind=10
 ·rw [show mayB b = (decide (b.num ≤ 19) || (decide (b.num = 23) || (decide (32 ≤ b.num) && decide (b.num ≤ 255)))) from by unfold mayB; rw [if_neg h1, if_neg h8, if_neg h9, if_pos h10]]
  clear h1 h8 h9
  by_cases q1:b.num≤19
  ·have q1' : decide (b.num ≤ 19) = true := decide_eq_true q1
   rw [q1',Bool.true_or]
   clear q1
   go_enter Tryz.func77,Tryz.ntmps77
   go_wp2
   go_ret
   exact ⟨rfl,hB.out⟩
  ·have q1' : decide (b.num ≤ 19) = false := decide_eq_false q1
   rw [q1',Bool.false_or]
   clear q1
   by_cases q2:b.num=23
   ·have q2' : (b.num == 23) = true := by simp [q2]
    rw [decide_eq_true q2,Bool.true_or]
    clear q2
    go_enter Tryz.func77,Tryz.ntmps77
    go_wp2
    go_ret
    exact ⟨rfl,hB.out⟩
   ·have q2' : (b.num == 23) = false := by simp [q2]
    rw [decide_eq_false q2,Bool.false_or]
    clear q2
    by_cases q3:32≤b.num
    ·have q3' : decide (32 ≤ b.num) = true := decide_eq_true q3
     rw [q3',Bool.true_and]
     clear q3
     go_enter Tryz.func77,Tryz.ntmps77
     go_wp2
     go_ret
     exact ⟨rfl,hB.out⟩
    ·have q3' : decide (32 ≤ b.num) = false := decide_eq_false q3
     rw [q3',Bool.false_and]
     clear q3
     go_enter Tryz.func77,Tryz.ntmps77
     go_wp2
     go_ret
     exact ⟨rfl,hB.out⟩
 rw [show mayB b=(decide (0≤b.kind) && decide (b.kind≤10)) from by unfold mayB;rw [if_neg h1,if_neg h8,if_neg h9,if_neg h10]]
 have g1:(b.kind==1)=false:=by simp [h1]
 have g8:(b.kind==8)=false:=by simp [h8]
 have g9:(b.kind==9)=false:=by simp [h9]
 have g10:(b.kind==10)=false:=by simp [h10]
 clear h1 h8 h9 h10
 by_cases q1:0≤b.kind
 ·have q1' : decide (0 ≤ b.kind) = true := decide_eq_true q1
  rw [q1',Bool.true_and]
  clear q1
  go_enter Tryz.func77,Tryz.ntmps77
  go_wp2
  go_ret
  exact ⟨rfl,hB.out⟩
 ·have q1' : decide (0 ≤ b.kind) = false := decide_eq_false q1
  rw [q1',Bool.false_and]
  clear q1
  go_enter Tryz.func77,Tryz.ntmps77
  go_wp2
  go_ret
  exact ⟨rfl,hB.out⟩
set_option maxHeartbeats 2000000 in
theorem isint_any(b:Nb)(w:World)(v:Bool)(hv:v=true ↔ rt b.dig=true∧¬ (b.neg=true∧b.dig=⟨#[48]⟩)):Calls Tryz.prog 75 #[.agg b.arr] w fun e w'=>e = .returned (.bool v)∧Below w.heap.size w w':=by
 have hal:=alloc_below w (.cells b.arr 26)
 have hB:Hid (Below w.heap.size w (w.alloc (.cells b.arr 26))):=hal
 obtain ⟨a0,a1,a2,a3,a4,a5,a6,a7,a8⟩:=(nbox_new w b).fields
 have kR:=right_any b.dig (w.alloc (.cells b.arr 26))
 clear hal
 have hz:∀ v':Bool,(v'=true ↔ b.dig=⟨#[48]⟩)→(b.dig.toList==[48])=v':=fun v' h=>by
  rw [eq_size,Bool.eq_iff_iff,h,decide_eq_true_iff];exact Iff.rfl
 cases hr:rt b.dig with
 | false =>
  have hvf:v=false:=not_true hv (fun h=>by rw [hr] at h;exact absurd h.1 (by simp))
  subst hvf
  rw [hr] at kR
  clear hr hv hz
  go_enter Tryz.func75,Tryz.ntmps75
  go_wp2_with (go_at_call 114;refine kR.mono ?_;rintro e w1 ⟨rfl,hw⟩;subst hw)
  go_ret
  exact ⟨rfl,hB.out⟩
 | true =>
  rw [hr] at kR
  cases hn:b.neg with
  | false =>
   rw [hn] at a2
   have hvf:v=true:=hv.2 ⟨hr,fun h=>by rw [hn] at h;exact absurd h.1 (by simp)⟩
   subst hvf
   clear hr hv hz hn
   go_enter Tryz.func75,Tryz.ntmps75
   go_wp2_with (go_at_call 114;refine kR.mono ?_;rintro e w1 ⟨rfl,hw⟩;subst hw)
   go_ret
   exact ⟨rfl,hB.out⟩
  | true =>
   rw [hn] at a2
   by_cases hq:b.dig=⟨#[48]⟩
   ·have hd := hz true (by simp [hq])
    have hvf:v=false:=not_true hv (fun h=>h.2 ⟨hn,hq⟩)
    subst hvf
    clear hr hv hz hn hq
    go_enter Tryz.func75,Tryz.ntmps75
    go_wp2_with (go_at_call 114;refine kR.mono ?_;rintro e w1 ⟨rfl,hw⟩;subst hw)
    go_ret
    exact ⟨rfl,hB.out⟩
   ·have hd := hz false (by simp [hq])
    have hvf:v=true:=hv.2 ⟨hr,fun h=>hq h.2⟩
    subst hvf
    clear hr hv hz hn hq
    go_enter Tryz.func75,Tryz.ntmps75
    go_wp2_with (go_at_call 114;refine kR.mono ?_;rintro e w1 ⟨rfl,hw⟩;subst hw)
    go_ret
    exact ⟨rfl,hB.out⟩
def rdN(n:Bool)(s:ByteArray)(x:Int):Bool:=rtN n s x && !(wholeA n s x).2
set_option maxHeartbeats 2000000 in
theorem isdec_any(b:Nb)(w:World):Calls Tryz.prog 76 #[.agg b.arr] w fun e w'=>e = .returned (.bool (rdN b.neg b.dig b.exp))∧Below w.heap.size w w':=by
 have hal:=alloc_below w (.cells b.arr 26)
 have hal2:=alloc_below (w.alloc (.cells b.arr 26)) (.cells #[.bool b.neg, .string b.dig, .int .i64 b.exp] 86)
 have hB:Hid (Below w.heap.size w ((w.alloc (.cells b.arr 26)).alloc (.cells #[.bool b.neg, .string b.dig, .int .i64 b.exp] 86))):=hal.trans (hal2.mono (Nat.le_of_lt (alloc_lt _ _)))
 obtain ⟨a0,a1,a2,a3,a4,a5,a6,a7,a8⟩:=(nbox_new w b).fields
 have s1:(w.alloc (.cells b.arr 26)).heap.size=w.heap.size+1:=by simp
 have hN:=row_new (w.alloc (.cells b.arr 26)) b.neg b.dig b.exp
 rw [s1] at hN
 have hN':Hid (NRow ((w.alloc (.cells b.arr 26)).alloc (.cells #[.bool b.neg, .string b.dig, .int .i64 b.exp] 86)) (w.heap.size+1) b.neg b.dig b.exp):=hN
 obtain ⟨n0,n1,n2⟩:=hN.at
 have kW:=whole_any b.neg b.dig b.exp ((w.alloc (.cells b.arr 26)).alloc (.cells #[.bool b.neg, .string b.dig, .int .i64 b.exp] 86))
 have kR:=dright_any b.neg b.dig b.exp
 unfold rdN
 generalize (wholeA b.neg b.dig b.exp).1=S at *
 generalize (wholeA b.neg b.dig b.exp).2=V at *
 clear hal hal2 s1 hN
 cases hr:rtN b.neg b.dig b.exp with
 | false =>
  rw [hr] at kR
  rw [Bool.false_and]
  clear hr
  go_enter Tryz.func76,Tryz.ntmps76
  go_wp2_with (first
   | (go_at_call 115;refine kW.mono ?_;rintro e w1 ⟨rfl,hb1⟩;have hN1:=hN'.out.kept hb1;obtain ⟨m0,m1,m2⟩:=hN1.at;have hbw:=hB.out.trans (hb1.mono hB.out.size))
   | (go_at_call 116;refine (kR _).mono ?_;rintro e w2 ⟨rfl,hb2⟩))
  go_ret
  exact ⟨rfl,hbw.trans (hb2.mono hbw.size)⟩
 | true =>
  rw [hr] at kR
  rw [Bool.true_and]
  clear hr
  cases V with
  | false =>
   go_enter Tryz.func76,Tryz.ntmps76
   go_wp2_with (first
    | (go_at_call 115;refine kW.mono ?_;rintro e w1 ⟨rfl,hb1⟩;have hN1:=hN'.out.kept hb1;obtain ⟨m0,m1,m2⟩:=hN1.at;have hbw:=hB.out.trans (hb1.mono hB.out.size))
    | (go_at_call 116;refine (kR _).mono ?_;rintro e w2 ⟨rfl,hb2⟩))
   go_ret
   exact ⟨rfl,hbw.trans (hb2.mono hbw.size)⟩
  | true =>
   go_enter Tryz.func76,Tryz.ntmps76
   go_wp2_with (first
    | (go_at_call 115;refine kW.mono ?_;rintro e w1 ⟨rfl,hb1⟩;have hN1:=hN'.out.kept hb1;obtain ⟨m0,m1,m2⟩:=hN1.at;have hbw:=hB.out.trans (hb1.mono hB.out.size))
    | (go_at_call 116;refine (kR _).mono ?_;rintro e w2 ⟨rfl,hb2⟩))
   go_ret
   exact ⟨rfl,hbw.trans (hb2.mono hbw.size)⟩
end Go.Proofs.YtejlaiofpekchaaGreatDoor
namespace Go.Proofs.YtejlaiofpekchaaGreatDoor
open Go.RowKit
theorem second_none(c:Nat)(w:World)(h:c<194∨244<c) :
  Calls Tryz.prog 148 #[.int .u8 c] w fun e w'=>e = .returned (.tuple #[.int .u8 1, .int .u8 0])∧w'=w:=by
 have e1:((c:Int)==224)=false:=by simp;omega
 have e2:((c:Int)==237)=false:=by simp;omega
 have e3:((c:Int)==240)=false:=by simp;omega
 have e4:((c:Int)==244)=false:=by simp;omega
 go_enter Tryz.func148,Tryz.ntmps148
 go_wp2
 all_goals first | (exfalso;omega) | (go_ret2;exact ⟨rfl,rfl⟩)
theorem second_some(c:Nat)(w:World)(h:194≤c)(h2:c≤244) :
  Calls Tryz.prog 148 #[.int .u8 c] w fun e w'=>e = .returned (.tuple #[.int .u8 (lo2 c:Nat), .int .u8 (hi2 c:Nat)])∧w'=w:=by
 by_cases c1:c=224
 ·subst c1
  go_enter Tryz.func148,Tryz.ntmps148
  go_wp2
  go_ret2
  exact ⟨rfl,rfl⟩
 by_cases c2:c=237
 ·subst c2
  go_enter Tryz.func148,Tryz.ntmps148
  go_wp2
  go_ret2
  exact ⟨rfl,rfl⟩
 by_cases c3:c=240
 ·subst c3
  go_enter Tryz.func148,Tryz.ntmps148
  go_wp2
  go_ret2
  exact ⟨rfl,rfl⟩
 by_cases c4:c=244
 ·subst c4
  go_enter Tryz.func148,Tryz.ntmps148
  go_wp2
  go_ret2
  exact ⟨rfl,rfl⟩
 have e1:((c:Int)==224)=false:=by simp;omega
 have e2:((c:Int)==237)=false:=by simp;omega
 have e3:((c:Int)==240)=false:=by simp;omega
 have e4:((c:Int)==244)=false:=by simp;omega
 have l:Hid (lo2 c=128):=by show _=_;unfold lo2;rw [if_neg c1,if_neg c3]
 have u:Hid (hi2 c=191):=by show _=_;unfold hi2;rw [if_neg c2,if_neg c4]
 clear c1 c2 c3 c4
 rw [l.out,u.out]
 go_enter Tryz.func148,Tryz.ntmps148
 go_wp2
 all_goals first | (exfalso;omega) | (go_ret2;exact ⟨rfl,rfl⟩)
theorem begun_step{zs:List Int}(hbad:¬ Good zs)(h0:lenB zs≠0){k lo hi:Nat}(hk:1≤k)(hle:k≤badB zs)(hr:(k=1∧lo=lo2 (nth zs 0)∧hi=hi2 (nth zs 0))∨(2≤k∧lo=128∧hi=191)) :
  k<badB zs ↔ (k<zs.length∧lo≤nth zs k∧nth zs k≤hi):=by
 rcases bad_cases hbad with ⟨e,k0⟩ | ⟨e,k1,k2⟩ | ⟨e,k1,k2,k3⟩ | ⟨e,k1,k2,k3,k4⟩
 ·exact absurd k0 h0
 ·unfold ok1 at k2
  obtain rfl:k=1:=by omega
  rcases hr with ⟨_,rfl,rfl⟩ | ⟨h,_⟩
  ·omega
  ·omega
 ·unfold ok1 at k2
  unfold okK at k3
  rcases hr with ⟨rfl,rfl,rfl⟩ | ⟨h,rfl,rfl⟩
  ·omega
  ·obtain rfl : k = 2 := by omega
   omega
 ·unfold ok1 at k2
  unfold okK at k3 k4
  rcases hr with ⟨rfl,rfl,rfl⟩ | ⟨h,rfl,rfl⟩
  ·omega
  ·have h3 : k = 2 ∨ k = 3 := by omega
   rcases h3 with rfl | rfl
   ·omega
   ·omega
set_option maxHeartbeats 1000000 in
theorem begun_any(b off n cap:Nat)(zs:List Int)(w:World)(hl:zs.length=n)(h0:0<n)(hb:Bytes w (some ⟨b,off,none⟩) zs)(hbad:¬ Good zs)(hn:n≤4611686018427387904) :
  Calls Tryz.prog 113 #[.slice (some ⟨b,off,none⟩) n cap] w fun e w'=>e = .returned (.int .i64 (badB zs:Nat))∧w'=w:=by
 have hL:Hid (zs.length=n):=hl
 have hB:Hid (Bytes w (some ⟨b,off,none⟩) zs):=hb
 have hbad':Hid (¬ Good zs):=hbad
 have c0:w.cell? ⟨b,off,none⟩=some (.int .u8 (nth zs 0:Nat)):=hb.nat (i:=0) (by omega)
 have z0:=nth_lt hb.1 0
 have hcs:=len_cases (nth zs 0)
 have hlb:lenB zs=lenN (nth zs 0):=rfl
 by_cases hz:lenB zs=0
 ·have k : Calls Tryz.prog 148 #[.int .u8 (nth zs 0 : Nat)] w fun e w' => e = .returned (.tuple #[.int .u8 1, .int .u8 0]) ∧ w' = w := second_none (nth zs 0) w (by omega)
  have hB0:Hid (badB zs=0):=by show _=_;unfold badB;rw [if_pos hz]
  clear hcs hlb hz hb hl hbad
  generalize nth zs 0=c at *
  go_enter Tryz.func113,Tryz.ntmps113
  go_wp2_with (go_at_call 148;refine k.mono ?_;rintro e w' ⟨rfl,hw⟩;obtain rfl:w=w':=hw.symm)
  go_ret
  rw [hB0.out]
  exact ⟨rfl,rfl⟩
 ·have hg1 : lenB zs ≠ 1 := by
   intro h1
   refine hbad ?_
   unfold Good GoodN
   rw [←hlb,h1]
   exact ⟨by omega,fun h=>by omega,fun h=>by omega,fun h=>by omega⟩
  have k:Calls Tryz.prog 148 #[.int .u8 (nth zs 0:Nat)] w fun e w'=>e = .returned (.tuple #[.int .u8 (lo2 (nth zs 0):Nat), .int .u8 (hi2 (nth zs 0):Nat)])∧w'=w:=second_some (nth zs 0) w (by omega) (by omega)
  have hlo:=lo2_cases (nth zs 0)
  have hhi:=hi2_cases (nth zs 0)
  have hle:lo2 (nth zs 0)≤hi2 (nth zs 0):=by omega
  have hb1:1≤badB zs:=by
   rcases bad_cases hbad with ⟨e,k0⟩ | ⟨e,k1,k2⟩ | ⟨e,k1,k2,k3⟩ | ⟨e,k1,k2,k3,k4⟩
   ·exact absurd k0 hz
   all_goals omega
  have hstep:Hid (∀ k lo hi:Nat,1≤k→k≤badB zs→((k=1∧lo=lo2 (nth zs 0)∧hi=hi2 (nth zs 0))∨(2≤k∧lo=128∧hi=191))→(k<badB zs ↔ (k<n∧lo≤nth zs k∧nth zs k≤hi))):=fun k lo hi h1 h2 h3=>by rw [←hL.out];exact begun_step hbad hz h1 h2 h3
  clear hcs hlb hz hb hl hbad hlo hhi hg1
  generalize lo2 (nth zs 0)=l0 at *
  generalize hi2 (nth zs 0)=u0 at *
  generalize hB3:badB zs=B at *
  clear hB3
  generalize nth zs 0=c at *
  go_enter Tryz.func113,Tryz.ntmps113
  go_wp2_with (go_at_call 148;refine k.mono ?_;rintro e w' ⟨rfl,hw⟩;obtain rfl:w=w':=hw.symm)
  go_loop [3,4,5] (fun l u i=>∃ k lo hi:Nat,l = .int .u8 lo∧u = .int .u8 hi∧i = .int .i64 k∧1≤k∧k≤B∧Hid ((k=1∧lo=l0∧hi=u0)∨(2≤k∧lo=128∧hi=191))) (fun _ _ i=>B - (intOf i).toNat)
  case atStart=>exact ⟨1,l0,u0,rfl,rfl,rfl,Nat.le_refl _,hb1, .inl ⟨rfl,rfl,rfl⟩⟩
  case round =>
   obtain ⟨k,lo,hi,rfl,rfl,rfl,hk1,hk2,hR⟩:=hrel
   have hs:=hstep.out k lo hi hk1 hk2 hR.out
   by_cases hlt:k<B
   ·obtain ⟨s1, s2, s3⟩ := hs.1 hlt
    have ck:w.cell? ⟨b,off+k,none⟩=some (.int .u8 (nth zs k:Nat)):=hB.out.nat (by rw [hL.out];exact s1)
    clear hs
    generalize nth zs k=d at *
    go_wp2
    go_round
    case rel=>exact ⟨k+1,128,191,rfl,rfl,by go_num,by omega,by omega, .inr ⟨by omega,rfl,rfl⟩⟩
    case measure=>simp [intOf];omega
   ·have ck : k < n → w.cell? ⟨b, off + k, none⟩ = some (.int .u8 (nth zs k : Nat)) := fun s1 => hB.out.nat (by rw [hL.out]; exact s1)
    have hs':Hid (¬ (k<n∧lo≤nth zs k∧nth zs k≤hi)):=fun h=>hlt (hs.2 h)
    obtain rfl:k=B:=by omega
    clear hs
    generalize nth zs k=d at *
    go_wp2
    all_goals first | (exfalso;have:=hs'.out;omega) | (go_ret;exact ⟨rfl,rfl⟩)
end Go.Proofs.YtejlaiofpekchaaGreatDoor
namespace Go.Proofs.YtejlaiofpekchaaGreatDoor
open Go.RowKit
def Jnts(w:World)(a:Option Addr)(l:List Int):Prop :=
 l.length≤maxLen∧(l=[]∨∃ b off,a=some ⟨b,off,none⟩∧∀ i,i<l.length→w.cell? ⟨b,off+i,none⟩=some (.int .i32 (l.getD i 0)))
def OwnsJ(w:World)(base:Nat)(v:Value)(l:List Int):Prop:=w.ownsRow base 21 1 v l.length (l.map (Value.int .i32))
def ints(l:List Nat):List Int:=l.map fun r=>((r:Nat):Int)
theorem jnts_len(l:List Nat):(ints l).length=l.length:=by simp [ints]
theorem info21:(Tryz.prog.info? 21).map (fun i=>(i.zero,i.size,i.bytes))=some (some (.int .i32 0),1,4):=by kernel_rfl
theorem ownsJ_nil(w:World)(base:Nat):OwnsJ w base (.slice none 0 0) []:=World.ownsRow_nil w base 21 1
theorem OwnsJ.below{w w':World}{base:Nat}{v:Value}{l:List Int}(h:OwnsJ w base v l)(hb:Below w.heap.size w w'):OwnsJ w' base v l :=
 World.ownsRow.kept (row:=none) h ⟨hb.os,hb.tape,hb.output,hb.size,fun k hk _=>hb.block k hk⟩ (by cases hv:v.ownBlock <;> simp)
theorem OwnsJ.alloc{w:World}{base:Nat}{v:Value}{l:List Int}(h:OwnsJ w base v l)(o:Obj):OwnsJ (w.alloc o) base v l:=h.below ((Below.refl _ _).alloc (Nat.le_refl _) o)
theorem OwnsJ.low{w:World}{base:Nat}{v:Value}{l:List Int}(h:OwnsJ w base v l){a:Addr}(ha:a.block<base)(u:Value):OwnsJ (w.setCell a u) base v l:=ownsRow_setCell_below h ha u
theorem OwnsJ.base{w:World}{base base':Nat}{v:Value}{l:List Int}(h:OwnsJ w base v l)(hB:base'≤base):OwnsJ w base' v l:=by
 obtain ⟨hl,hv⟩:=h
 refine ⟨hl,?_⟩
 rcases hv with ⟨rfl,hn⟩ | ⟨g,cap,cur,rfl,hb,hr⟩
 ·exact .inl ⟨rfl,hn⟩
 ·exact .inr ⟨g,cap,cur,rfl,by omega,hr⟩
theorem grownJ_below{w w1 w2:World}{base:Nat}{v:Value}{l:List Int}(hb:Below base w w1)(h:OwnsJ w1 base v l)(hg:w1.grownBy w2 v.ownBlock)(hB:base≤w1.heap.size):Below base w w2 :=
 hb.grown hg hB fun k hk=>(World.ownsRow.lt h k hk).1
theorem jnts_news{w:World}{x:Addr}{l:List Int}(hb:Jnts w (some x) l):∀ j u,(l.map (Value.int .i32))[j]? = some u→w.cell? (x.add j)=some u:=by
 intro j u hu
 rcases hb.2 with rfl | ⟨b,off,hx,hc⟩
 ·simp at hu
 ·cases hx
  have hj:j<l.length:=by
   have:=(List.getElem?_eq_some_iff.1 hu).1
   simpa using this
  have h1:=hc j hj
  rw [List.getElem?_map,List.getElem?_eq_getElem hj] at hu
  simp only [Option.map_some,Option.some.injEq] at hu
  subst hu
  have e:(⟨b,off,none⟩:Addr).add j=⟨b,off+j,none⟩:=by
   by_cases h0:j=0
   ·subst h0;simp [Addr.add]
   ·simp [Addr.add,h0]
  rw [e,h1,List.getD_eq_getElem?_getD,List.getElem?_eq_getElem hj];rfl
theorem jnts_one(l:List Int):∀ u∈l.map (Value.int .i32),u.oneCell'=true:=by
 intro u hu
 obtain ⟨c,_,rfl⟩:=List.mem_map.1 hu
 rfl
theorem one_rune(w:World)(n:Int):Jnts (w.alloc (.cells #[.int .i32 n] 21)) (some ⟨w.heap.size,0,none⟩) [n]:=by
 refine ⟨by simp [maxLen], .inr ⟨_,_,rfl,?_⟩⟩
 intro i hi
 rw [World.cell?_alloc_mark]
 match i,hi with
 | 0,_=>rfl
theorem wpList_append_jnts{w:World}{ops:Array Oper}{rest:List Oper}{o:Oper}{a:Act}{Q:Exit→Act→World→Prop}(hgd:o.guard=none)(s x:Operand)
  (ho:o.op = .call { callee := .builtin .append,args:=#[s,x],argTypes:=#[147,147] })
  (base:Nat) (v:Value) (ys zs:List Int) (hs:a.eval s=v) (hown:OwnsJ w base v ys)
  (ad:Option Addr) (m c:Nat) (hx:a.eval x = .slice ad m c) (hm:zs.length=m) (hn:ad=none→c=0) (hb:Jnts w ad zs)
  (hbytes:ys.length+zs.length≤52776558133248) (hbase:base≤w.heap.size)
  (h:∀ v' w',OwnsJ w' base v' (ys++zs)→w.grownBy w' v.ownBlock→wpList Tryz.prog ops Q rest (a.put o.dst v') w'):wpList Tryz.prog ops Q (o::rest) a w:=by
 subst hm
 obtain ⟨i,hi,hz,hsz,hby⟩:=info_parts info21
 cases ad with
 | none =>
  have h0:zs=[]:=by
   rcases hb.2 with h0 | ⟨_,_,h0,_⟩
   ·exact h0
   ·cases h0
  subst h0
  rw [hn rfl] at hx
  refine wpList_append_own_none hgd s x 147 ho base 21 i 1 Tryz.underlying147 hi v ys.length _ hs hown hx ?_
  have:=h v w (by simpa using hown) (World.grownBy.refl _ _)
  exact this
 | some ad =>
  refine wpList_append_own_wide w hgd s x 147 ho base 21 i (.int .i32 0) 1 4 Tryz.underlying147 hi hz hsz hby rfl (by decide) v ys.length _ hs hown ad zs.length c (zs.map (Value.int .i32)) hx (by simp) (jnts_news hb) (jnts_one zs) ?_ (by omega) hbase ?_
  ·unfold maxLen;omega
  ·intro v' w' ho' hg _
   refine h v' w' ?_ hg
   unfold OwnsJ
   rw [List.length_append,List.map_append]
   exact ho'
end Go.Proofs.YtejlaiofpekchaaGreatDoor
namespace Go.Proofs.YtejlaiofpekchaaGreatDoor
open Go.RowKit
def whyL(zs:List Int):Nat:=match (runesL zs).2 with | none=>0 | some _=>6
def atL(zs:List Int):Nat:=match (runesL zs).2 with | none=>0 | some p=>p
def txtL(zs:List Int):List Int:=match (runesL zs).2 with | none=>ints (runesL zs).1 | some _=>[]
theorem why_none{zs:List Int}(h:(runesL zs).2=none):whyL zs=0∧atL zs=0∧txtL zs=ints (runesL zs).1:=by
 unfold whyL atL txtL
 rw [h]
 exact ⟨rfl,rfl,rfl⟩
theorem why_some{zs:List Int}{p:Nat}(h:(runesL zs).2=some p):whyL zs=6∧atL zs=p∧txtL zs=[]:=by
 unfold whyL atL txtL
 rw [h]
 exact ⟨rfl,rfl,rfl⟩
def FAt(w:World)(g y f:Nat):Prop:=w.heap[g]? = some (.cells #[.int .i64 y, .int .i64 f] 102 (0,0))
theorem FAt.lt{w:World}{g y f:Nat}(h:FAt w g y f):g<w.heap.size:=(Array.getElem?_eq_some_iff.1 h).1
theorem FAt.c0{w:World}{g y f:Nat}(h:FAt w g y f):w.cell? ⟨g,0,none⟩=some (.int .i64 y):=by rw [cell_row h];rfl
theorem FAt.c1{w:World}{g y f:Nat}(h:FAt w g y f):w.cell? ⟨g,1,none⟩=some (.int .i64 f):=by rw [cell_row h];rfl
theorem FAt.fz{w:World}{g y f:Nat}(h:FAt w g y f)(j:Nat):w.frozen? ⟨g,j,none⟩=false:=by
 unfold FAt at h
 simp [World.frozen?,h]
theorem FAt.kept{w w':World}{g y f:Nat}(h:FAt w g y f)(hb:Below w.heap.size w w'):FAt w' g y f:=by
 unfold FAt
 rw [hb.block g h.lt]
 exact h
set_option maxHeartbeats 1000000 in
theorem check_any(a:Option Addr)(n cap:Nat)(zs:List Int)(w:World)(hl:zs.length=n)(hb:Bytes w a zs)(hc:n≤cap)(hn:n≤4611686018427387904) :
  Calls Tryz.prog 74 #[.slice a n cap] w fun e w'=>e = .returned (.agg #[.int .i64 (whyL zs:Nat), .int .i64 (atL zs:Nat)])∧Below w.heap.size w w':=by
 have hL:Hid (zs.length=n):=hl
 have hB0:Hid (Bytes w a zs):=hb
 have k:=uwhole_any a n cap zs (w.alloc (.cells #[.int .i64 0, .int .i64 0] 102)) hl (hb.kept ((Below.refl _ _).alloc (Nat.le_refl _) _)) hn
 have hle:=end_le zs
 rw [hl] at hle
 by_cases he:endL zs=n
 ·obtain ⟨h1, h2, -⟩ := why_none (end_text (he.trans hl.symm))
  rw [h1,h2]
  rw [he] at k
  clear hb hl he h1 h2 hle
  go_enter Tryz.func74,Tryz.ntmps74
  go_wp2_with fail
  refine k.mono ?_
  rintro e w1 ⟨rfl,hb1⟩
  have hF:FAt w1 w.heap.size 0 0:=FAt.kept (w:=w.alloc _) (heap_alloc_new w _) hb1
  have c0:=hF.c0
  have c1:=hF.c1
  have f0:=hF.fz 0
  have f1:=hF.fz 1
  have hbw:Below w.heap.size w w1:=((Below.refl w.heap.size w).alloc (Nat.le_refl _) _).trans (hb1.mono (by simp))
  clear k
  go_wp2
  refine bodyPost_ret (v := .agg #[.int .i64 0, .int .i64 0]) (by simp [results,Tryz.results74,go_sem, *]) rfl ⟨rfl,?_⟩
  first | exact hbw | exact (hbw.setCell (Nat.le_refl _) _).setCell (Nat.le_refl _) _
 ·have hf := end_fault (b := zs) (by rw [hl]; exact he)
  have hstop:=end_stop zs (by rw [hl];omega)
  obtain ⟨h1,h2, -⟩:=why_some hf
  rw [h1,h2]
  obtain ⟨b,off,rfl⟩:=bytes_some hb (by omega)
  have hE:endL zs<n:=by omega
  have k2:=fun w1 (h:Bytes w1 (some ⟨b,off,none⟩) zs)=>begun_any b (off+endL zs) (n - endL zs) (cap - endL zs) (zs.drop (endL zs)) w1 (by rw [List.length_drop,hl]) (by omega) (h.drop _) hstop (by omega)
  have i1:(cap=endL zs)=False:=by simp;omega
  have i2:((endL zs:Nat):Int)≤(n:Int):=by omega
  have i4:((endL zs:Nat):Int)≤(cap:Int):=by omega
  have i3:(((endL zs:Nat):Int)==(n:Int))=false:=by simp;omega
  have hbl:endL zs+badB (zs.drop (endL zs))≤n:=by
   have:=fault_le zs _ hf
   omega
  clear hb hl he h1 h2 hle hf hstop
  generalize endL zs=E at *
  generalize badB (zs.drop E)=B at *
  have k3:Hid _:=k2
  clear k2
  go_enter Tryz.func74,Tryz.ntmps74
  go_wp2_with fail
  refine k.mono ?_
  rintro e w1 ⟨rfl,hb1⟩
  have hbw:Below w.heap.size w w1:=((Below.refl w.heap.size w).alloc (Nat.le_refl _) _).trans (hb1.mono (by simp))
  have kk:=k3.out w1 (hB0.out.kept hbw)
  have hF:FAt w1 w.heap.size 0 0:=FAt.kept (w:=w.alloc _) (heap_alloc_new w _) hb1
  have c0:=hF.c0
  have c1:=hF.c1
  have f0:=hF.fz 0
  have f1:=hF.fz 1
  clear k
  go_wp2_with (go_at_call 113;refine kk.mono ?_;rintro e w' ⟨rfl,hw⟩;obtain rfl:w1=w':=hw.symm)
  have hv:IntKind.i64.wrap ((E:Int)+(B:Int))=((E+B:Nat):Int):=by rw [IntKind.wrap_i64] <;> omega
  refine bodyPost_ret (v := .agg #[.int .i64 6, .int .i64 ((E+B:Nat):Int)]) (by simp [results,Tryz.results74,go_sem, *]) rfl ⟨rfl,?_⟩
  first | exact hbw | exact (hbw.setCell (Nat.le_refl _) _).setCell (Nat.le_refl _) _
end Go.Proofs.YtejlaiofpekchaaGreatDoor
namespace Go.Proofs.YtejlaiofpekchaaGreatDoor
open Go.RowKit
set_option linter.unusedVariables false
def gtx(s:ByteArray):Bool:=decide (whyL (bs s)=0)
def alF(t:Tr):Int:=t.alo gtx rt rdN
theorem alF_shaped:Tr.Shaped alF:=Tr.alo_shaped gtx rt rdN
theorem why_two(zs:List Int):whyL zs=0∨whyL zs=6:=by unfold whyL;split <;> simp
theorem odd_eq{D:Nat}{w:World}{b:Nb}{t:Tr}(h:Nd (D+1) w b t):t.odd = !(mayB b && t.clean):=by
 have h0:b.kind=t.kind:=h.1.1
 have h1:b.num=t.num:=h.1.2.1
 have hk:t.keys.length=b.lk:=h.2.2.2.1.1
 have hi:t.kids.length=b.li:=h.2.2.2.2.1
 have e8:decide (b.lk=b.li) = !decide (t.keys.length≠t.kids.length):=by rw [hk,hi];by_cases q:b.lk=b.li <;> simp [q]
 have e9:decide (b.li=1) = !decide (t.kids.length≠1):=by rw [hi];by_cases q:b.li=1 <;> simp [q]
 unfold Tr.odd mayB
 rw [h0,h1,e8,e9]
 generalize t.clean=c
 generalize decide (t.keys.length≠t.kids.length)=p8
 generalize decide (t.kids.length≠1)=p9
 by_cases k1:t.kind=1
 ·simp only [k1]
  by_cases q:t.num≤1
  ·have q' : ¬ 1 < t.num := by omega
   cases c <;> simp [q,q']
  ·have q' : 1 < t.num := by omega
   cases c <;> simp [q,q']
 by_cases k8:t.kind=8
 ·simp only [k8]
  cases c <;> cases p8 <;> simp
 by_cases k9:t.kind=9
 ·simp only [k9]
  cases c <;> cases p9 <;> simp
 by_cases k10:t.kind=10
 ·simp only [k10]
  have e:Tr.smp t.num=(decide (t.num≤19) || (decide (t.num=23) || (decide (32≤t.num) && decide (t.num≤255)))):=by
   unfold Tr.smp
   rw [Bool.or_assoc,show decide (t.num<20)=decide (t.num≤19) from decide_eq_decide.2 (by omega),show decide (t.num<256)=decide (t.num≤255) from decide_eq_decide.2 (by omega)]
  rw [←e]
  generalize Tr.smp t.num=m
  cases c <;> cases m <;> simp
 ·simp only [k1, k8, k9, k10, decide_false, if_false, Bool.false_and, Bool.or_false]
  by_cases q1:0≤t.kind
  ·by_cases q2 : t.kind ≤ 10
   ·have q1' : ¬ t.kind < 0 := by omega
    have q2':¬ 10<t.kind:=by omega
    simp [q1,q2,q1',q2']
   ·have q2' : 10 < t.kind := by omega
    simp [q2,q2']
  ·have q1' : t.kind < 0 := by omega
   simp [q1,q1']
end Go.Proofs.YtejlaiofpekchaaGreatDoor
namespace Go.Proofs.YtejlaiofpekchaaGreatDoor
open Go.RowKit
theorem field_why(x y:Value)(w:World):Sem.run Tryz.prog (Instr.field 102 (.agg #[x,y]) 0) w = .ok x w:=by
 have t1:=Tryz.underlying102
 simp [Instr.field,run_underlying t1,asAgg,part,go_sem,Tryz.isAgg28,Tryz.sizeOf28]
end Go.Proofs.YtejlaiofpekchaaGreatDoor
