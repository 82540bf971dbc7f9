/-
  The document's first character, by the plain lists.
  The document's character of bytes, and its first character.
  The document's characters of bytes.
  The fault of a node, what is in it aside, as the document's call tells it: gantlineref08.alone, of Bools and Maps.
-/
import Derived.Test.YtejlaiofpekchaaGreatDoorC6
import Derived.Test.YtejlaiofpekchaaGreatDoorC19
import Derived.Test.YtejlaiofpekchaaGreatDoorC26
import Derived.Test.YtejlaiofpekchaaGreatDoorC25
import Derived.Test.YtejlaiofpekchaaGreatDoorC18
import Derived.Deep.QuietTactic
import Derived.BigQuiet
namespace Go.Proofs.YtejlaiofpekchaaGreatDoor
open Go.RowKit
theorem xlength_0(c:Nat)(w:World)(h:c<128):Calls Tryz.prog 171 #[.int .u8 c] w fun e w'=>e = .returned (.int .i64 1)∧w'=w:=by
  have d0:decide ((c:Int)<128)=true:=by simp;omega
  go_enter Tryz.func171,Tryz.ntmps171
  go_wp2
  go_ret
  exact ⟨rfl,rfl⟩
theorem xlength_1(c:Nat)(w:World)(h:194≤c∧c≤223):Calls Tryz.prog 171 #[.int .u8 c] w fun e w'=>e = .returned (.int .i64 2)∧w'=w:=by
  have d0:decide ((c:Int)<128)=false:=by simp;omega
  have d2:decide ((194:Int)≤(c:Int))=true:=by simp;omega
  have d4:decide ((c:Int)≤223)=true:=by simp;omega
  go_enter Tryz.func171,Tryz.ntmps171
  go_wp2
  go_ret
  exact ⟨rfl,rfl⟩
theorem xlength_2(c:Nat)(w:World)(h:224≤c∧c≤239):Calls Tryz.prog 171 #[.int .u8 c] w fun e w'=>e = .returned (.int .i64 3)∧w'=w:=by
  have d0:decide ((c:Int)<128)=false:=by simp;omega
  have d2:decide ((194:Int)≤(c:Int))=true:=by simp;omega
  have d4:decide ((c:Int)≤223)=false:=by simp;omega
  have d6:decide ((224:Int)≤(c:Int))=true:=by simp;omega
  have d8:decide ((c:Int)≤239)=true:=by simp;omega
  go_enter Tryz.func171,Tryz.ntmps171
  go_wp2
  go_ret
  exact ⟨rfl,rfl⟩
theorem xlength_3(c:Nat)(w:World)(h:240≤c∧c≤244):Calls Tryz.prog 171 #[.int .u8 c] w fun e w'=>e = .returned (.int .i64 4)∧w'=w:=by
  have d0:decide ((c:Int)<128)=false:=by simp;omega
  have d2:decide ((194:Int)≤(c:Int))=true:=by simp;omega
  have d4:decide ((c:Int)≤223)=false:=by simp;omega
  have d6:decide ((224:Int)≤(c:Int))=true:=by simp;omega
  have d8:decide ((c:Int)≤239)=false:=by simp;omega
  have d10:decide ((240:Int)≤(c:Int))=true:=by simp;omega
  have d12:decide ((c:Int)≤244)=true:=by simp;omega
  go_enter Tryz.func171,Tryz.ntmps171
  go_wp2
  go_ret
  exact ⟨rfl,rfl⟩
theorem xlength_4(c:Nat)(w:World)(h:128≤c∧c<194):Calls Tryz.prog 171 #[.int .u8 c] w fun e w'=>e = .returned (.int .i64 0)∧w'=w:=by
  have d0:decide ((c:Int)<128)=false:=by simp;omega
  have d2:decide ((194:Int)≤(c:Int))=false:=by simp;omega
  have d4:decide ((224:Int)≤(c:Int))=false:=by simp;omega
  have d6:decide ((240:Int)≤(c:Int))=false:=by simp;omega
  go_enter Tryz.func171,Tryz.ntmps171
  go_wp2
  go_ret
  exact ⟨rfl,rfl⟩
theorem xlength_5(c:Nat)(w:World)(h:244<c):Calls Tryz.prog 171 #[.int .u8 c] w fun e w'=>e = .returned (.int .i64 0)∧w'=w:=by
  have d0:decide ((c:Int)<128)=false:=by simp;omega
  have d2:decide ((194:Int)≤(c:Int))=true:=by simp;omega
  have d4:decide ((c:Int)≤223)=false:=by simp;omega
  have d6:decide ((224:Int)≤(c:Int))=true:=by simp;omega
  have d8:decide ((c:Int)≤239)=false:=by simp;omega
  have d10:decide ((240:Int)≤(c:Int))=true:=by simp;omega
  have d12:decide ((c:Int)≤244)=false:=by simp;omega
  go_enter Tryz.func171,Tryz.ntmps171
  go_wp2
  go_ret
  exact ⟨rfl,rfl⟩
theorem xlength_any(c:Nat)(w:World):Calls Tryz.prog 171 #[.int .u8 c] w fun e w'=>e = .returned (.int .i64 (lenN c:Nat))∧w'=w:=by
  rcases len_cases c with ⟨e,h⟩ | ⟨e,h⟩ | ⟨e,h⟩ | ⟨e,h⟩ | ⟨e,h0,h | h⟩ <;> rw [e]
  · exact xlength_0 c w h
  · exact xlength_1 c w h
  · exact xlength_2 c w h
  · exact xlength_3 c w h
  · exact xlength_4 c w ⟨h0,h⟩
  · exact xlength_5 c w h
theorem xleast_any(c:Nat)(w:World):Calls Tryz.prog 172 #[.int .u8 c] w fun e w'=>e = .returned (.int .u8 (lo2 c:Nat))∧w'=w:=by
  have hc:=lo2_cases c
  generalize lo2 c=L at *
  rcases hc with ⟨rfl,rfl⟩ | ⟨rfl,rfl⟩ | ⟨h1,h2,rfl⟩
  · go_enter Tryz.func172, Tryz.ntmps172
    go_wp2
    go_ret
    exact ⟨rfl,rfl⟩
  · go_enter Tryz.func172, Tryz.ntmps172
    go_wp2
    go_ret
    exact ⟨rfl,rfl⟩
  · have e1 : ((c : Int) == 224) = false := by simp; omega
    have e2:((c:Int)==240)=false:=by simp;omega
    go_enter Tryz.func172,Tryz.ntmps172
    go_wp2
    go_ret
    exact ⟨rfl,rfl⟩
theorem xmost_any(c:Nat)(w:World):Calls Tryz.prog 173 #[.int .u8 c] w fun e w'=>e = .returned (.int .u8 (hi2 c:Nat))∧w'=w:=by
  have hc:=hi2_cases c
  generalize hi2 c=L at *
  rcases hc with ⟨rfl,rfl⟩ | ⟨rfl,rfl⟩ | ⟨h1,h2,rfl⟩
  · go_enter Tryz.func173, Tryz.ntmps173
    go_wp2
    go_ret
    exact ⟨rfl,rfl⟩
  · go_enter Tryz.func173, Tryz.ntmps173
    go_wp2
    go_ret
    exact ⟨rfl,rfl⟩
  · have e1 : ((c : Int) == 237) = false := by simp; omega
    have e2:((c:Int)==244)=false:=by simp;omega
    go_enter Tryz.func173,Tryz.ntmps173
    go_wp2
    go_ret
    exact ⟨rfl,rfl⟩
def okAt(zs:List Int)(n i:Nat):Prop:=i<n∧((i=1∧lo2 (nth zs 0)≤nth zs 1∧nth zs 1≤hi2 (nth zs 0))∨(2≤i∧128≤nth zs i∧nth zs i≤191))
theorem good_okAt{zs:List Int}{n:Nat}(hl:zs.length=n)(h:Good zs){i:Nat}(h1:1≤i)(h2:i<lenB zs):okAt zs n i:=by
  obtain ⟨k0,k1,k2,k3⟩:=h
  unfold ok1 at k1
  unfold okK at k2 k3
  rw [hl] at k1 k2 k3
  have hb:lenB zs=lenN (nth zs 0):=rfl
  rw [hb] at h2
  unfold okAt
  have hc:=len_cases (nth zs 0)
  have h4:i=1∨i=2∨i=3:=by omega
  rcases h4 with rfl | rfl | rfl
  · have:=k1 (by omega);omega
  · have:=k2 (by omega);omega
  · have:=k3 (by omega);omega
theorem bad_okAt{zs:List Int}{n:Nat}(hl:zs.length=n)(h:¬ Good zs)(h0:lenB zs≠0) :
    badB zs<lenB zs∧1≤badB zs∧(∀ i,1≤i→i<badB zs→okAt zs n i)∧¬ okAt zs n (badB zs):=by
  unfold okAt
  have hb:=bad_cases h
  unfold ok1 okK at hb
  rw [hl] at hb
  rcases hb with ⟨e,k0⟩ | ⟨e,k1,k2⟩ | ⟨e,k1,k2,k3⟩ | ⟨e,k1,k2,k3,k4⟩
  · exact absurd k0 h0
  · rw [e]
    exact ⟨by omega,by omega,fun i h1 h2=>by omega,by omega⟩
  · rw [e]
    refine ⟨by omega,by omega,fun i h1 h2=>?_,by omega⟩
    obtain rfl:i=1:=by omega
    omega
  · rw [e]
    refine ⟨by omega,by omega,fun i h1 h2=>?_,by omega⟩
    have h3:i=1∨i=2:=by omega
    rcases h3 with rfl | rfl
    · omega
    · omega
set_option maxHeartbeats 1000000 in
theorem xfirst_any (b off n cap : Nat) (zs : List Int) (w : World) (hl : zs.length = n) (h0 : 0 < n) (hb : Bytes w (some ⟨b, off, none⟩) zs) (hn : n ≤ 4611686018427387904)
    (hL:lenB zs≠0) (S:Nat) (hS1:1≤S) (hS:∀ i,1≤i→i<S→okAt zs n i) (R:Value)
    (hend:(S=lenB zs∧R = .tuple #[.int .i64 (lenB zs:Nat), .int .i64 (-1)])∨(S<lenB zs∧¬ okAt zs n S∧R = .tuple #[.int .i64 0, .int .i64 (S:Nat)]∧S≤n)) :
    Calls Tryz.prog 151 #[.slice (some ⟨b,off,none⟩) n cap] w fun e w'=>e = .returned R∧∃ q,w'=w.drewN q:=by
  have hLen:Hid (zs.length=n):=hl
  have hB:Hid (Bytes w (some ⟨b,off,none⟩) zs):=hb
  have c0:w.cell? ⟨b,off,none⟩=some (.int .u8 (nth zs 0:Nat)):=hb.nat (i:=0) (by omega)
  have kl:=xlength_any (nth zs 0) w
  rw [show lenN (nth zs 0)=lenB zs from rfl] at kl
  have k1:=fun w1=>xleast_any (nth zs 0) w1
  have k2:=fun w1=>xmost_any (nth zs 0) w1
  have hle:lenB zs≤4:=by
    have:=len_cases (nth zs 0)
    unfold lenB
    omega
  have hl0:(((lenB zs:Nat):Int)==0)=false:=by simp;omega
  have hSH:Hid (∀ i,1≤i→i<S→okAt zs n i):=hS
  have hEH:Hid ((S=lenB zs∧R = .tuple #[.int .i64 (lenB zs:Nat), .int .i64 (-1)])∨(S<lenB zs∧¬ okAt zs n S∧R = .tuple #[.int .i64 0, .int .i64 (S:Nat)]∧S≤n)):=hend
  have hSL:S≤lenB zs:=by rcases hend with h | h <;> omega
  clear hl hb hS hend hL
  generalize hLL:lenB zs=L at *
  clear hLL
  unfold okAt at hSH hEH
  generalize nth zs 0=c at *
  generalize lo2 c=l0 at *
  generalize hi2 c=u0 at *
  go_enter Tryz.func151,Tryz.ntmps151
  go_wp2_with (go_at_call 171;refine kl.mono ?_;rintro e w' ⟨rfl,hw⟩;obtain rfl:w=w':=hw.symm)
  go_loopw [5] (fun i wr=>∃ k:Nat,1≤k∧k≤S∧i = .int .i64 k∧Hid (∃ q,wr=w.drewN q)) (fun i _=>S - (intOf i).toNat)
  case atStart=>exact ⟨1,Nat.le_refl _,hS1,rfl,0,rfl⟩
  case round =>
    obtain ⟨k,hk1,hk2,rfl,hQ⟩:=hrel
    have hcell:Hid (∀ p,wr.cell? p=w.cell? p):=by obtain ⟨q0,h⟩:=hQ.out;intro p;rw [h];rfl
    have c0r:wr.cell? ⟨b,off,none⟩=some (.int .u8 (c:Nat)):=by rw [hcell.out];exact c0
    have hmore:Hid (∀ q,∃ q',wr.drewN q=w.drewN q'):=fun q=>by obtain ⟨q0,h⟩:=hQ.out;exact ⟨q0+q,by rw [h,World.drewN_drewN]⟩
    by_cases hlt:k<S
    · obtain ⟨s1, s2⟩ := hSH.out k hk1 hlt
      have ck:wr.cell? ⟨b,off+k,none⟩=some (.int .u8 (nth zs k:Nat)):=by rw [hcell.out];exact hB.out.nat (by rw [hLen.out];exact s1)
      have j1:(k:Int)<(L:Int):=by omega
      have j2:(k:Int)<(n:Int):=by omega
      rcases s2 with ⟨rfl,s2,s3⟩ | ⟨s2,s3,s4⟩
      · generalize nth zs 1 = d at *
        go_wp2
        go_quiet (first | (go_at_call 172;exact Calls.quiet_of_same (k1 _)) | (go_at_call 173;exact Calls.quiet_of_same (k2 _)))
        go_wp2
        go_roundw
        case rel=>exact ⟨2,by omega,by omega,rfl,hmore.out _⟩
        case measure=>simp [intOf];omega
      · have e1 : ((k : Int) == 1) = false := by simp; omega
        generalize nth zs k=d at *
        go_wp2
        go_roundw
        case rel=>exact ⟨k+1,by omega,by omega,by go_num,hQ⟩
        case measure=>simp [intOf];omega
    · obtain rfl : k = S := by omega
      rcases hEH.out with ⟨rfl,hR⟩ | ⟨h1,h2,hR,h3⟩
      · have hR' : Hid (R = _) := hR
        clear hR
        go_wp2
        go_ret2
        rw [hR'.out]
        exact ⟨rfl,hQ.out⟩
      · have hR' : Hid (R = _) := hR
        clear hR
        by_cases hkn:k<n
        · have ck : wr.cell? ⟨b, off + k, none⟩ = some (.int .u8 (nth zs k : Nat)) := by rw [hcell.out]; exact hB.out.nat (by rw [hLen.out]; exact hkn)
          have j2:(k:Int)<(n:Int):=by omega
          by_cases e1:k=1
          · subst e1
            have hno:Hid (¬ (l0≤nth zs 1∧nth zs 1≤u0)):=fun h=>h2 ⟨hkn, .inl ⟨rfl,h⟩⟩
            clear h2
            generalize nth zs 1=d at *
            go_wp2
            go_quiet (first | (go_at_call 172;exact Calls.quiet_of_same (k1 _)) | (go_at_call 173;exact Calls.quiet_of_same (k2 _)))
            go_wp2
            all_goals first
              | (exfalso;have:=hno.out;omega)
              | (go_ret2
                 rw [hR'.out]
                 exact ⟨rfl,hmore.out _⟩)
          · have hno : Hid (¬ (128 ≤ nth zs k ∧ nth zs k ≤ 191)) := fun h => h2 ⟨hkn, .inr ⟨by omega, h⟩⟩
            have e2:((k:Int)==1)=false:=by simp;omega
            clear h2 e1
            generalize nth zs k=d at *
            go_wp2
            all_goals first
              | (exfalso;have:=hno.out;omega)
              | (go_ret2
                 rw [hR'.out]
                 exact ⟨rfl,hQ.out⟩)
        · obtain rfl : k = n := by omega
          clear h2
          go_wp2
          go_ret2
          rw [hR'.out]
          exact ⟨rfl,hQ.out⟩
end Go.Proofs.YtejlaiofpekchaaGreatDoor
namespace Go.Proofs.YtejlaiofpekchaaGreatDoor
open Go.RowKit
theorem i64_or_nat(a b:Nat)(ha:a<4611686018427387904)(hb:b<4611686018427387904):bits .or .i64 (a:Int) (b:Int)=((a ||| b:Nat):Int):=by
 have hx:a ||| b<2 ^ 62:=Nat.or_lt_two_pow (by omega) (by omega)
 have h1:(BitVec.ofInt 64 (a:Int)).toNat=a:=by
  rw [BitVec.ofInt_natCast,BitVec.toNat_ofNat];exact Nat.mod_eq_of_lt (by omega)
 have h2:(BitVec.ofInt 64 (b:Int)).toNat=b:=by
  rw [BitVec.ofInt_natCast,BitVec.toNat_ofNat];exact Nat.mod_eq_of_lt (by omega)
 show IntKind.i64.wrap ((BitVec.ofInt 64 (a:Int) ||| BitVec.ofInt 64 (b:Int)).toNat:Int)=_
 rw [BitVec.toNat_or,h1,h2,IntKind.wrap_i64]
 omega
theorem or_join(i X y:Nat)(hX:X % 2 ^ i=0)(hy:y<2 ^ i)(h1:X<4611686018427387904)(h2:y<4611686018427387904):bits .or .i64 (X:Int) (y:Int)=((X+y:Nat):Int):=by
 rw [i64_or_nat X y h1 h2,nat_join i X y hX hy]
theorem two_in(c0 c1:Nat):bits .or .i64 ((c0:Int) % 32*64) ((c1:Int) % 64)=((c0 % 32*64+c1 % 64:Nat):Int):=by
 have e:=or_join 6 (c0 % 32*64) (c1 % 64) (by omega) (by omega) (by omega) (by omega)
 rw [←e]
 simp
theorem three_in(c0 c1 c2:Nat):bits .or .i64 (bits .or .i64 ((c0:Int) % 16*4096) ((c1:Int) % 64*64)) ((c2:Int) % 64)=((c0 % 16*4096+c1 % 64*64+c2 % 64:Nat):Int):=by
 have e:=or_join 12 (c0 % 16*4096) (c1 % 64*64) (by omega) (by omega) (by omega) (by omega)
 have e2:=or_join 6 (c0 % 16*4096+c1 % 64*64) (c2 % 64) (by omega) (by omega) (by omega) (by omega)
 rw [←e2,←e]
 simp
theorem four_in(c0 c1 c2 c3:Nat):bits .or .i64 (bits .or .i64 (bits .or .i64 ((c0:Int) % 8*262144) ((c1:Int) % 64*4096)) ((c2:Int) % 64*64)) ((c3:Int) % 64)=((c0 % 8*262144+c1 % 64*4096+c2 % 64*64+c3 % 64:Nat):Int):=by
 have e:=or_join 18 (c0 % 8*262144) (c1 % 64*4096) (by omega) (by omega) (by omega) (by omega)
 have e2:=or_join 12 (c0 % 8*262144+c1 % 64*4096) (c2 % 64*64) (by omega) (by omega) (by omega) (by omega)
 have e3:=or_join 6 (c0 % 8*262144+c1 % 64*4096+c2 % 64*64) (c3 % 64) (by omega) (by omega) (by omega) (by omega)
 rw [←e3,←e2,←e]
 simp
theorem xvalue_1(b off cap:Nat)(c0:Nat)(w:World)(k0:w.cell? ⟨b,off,none⟩=some (.int .u8 c0))(h0:c0<256) :
  Calls Tryz.prog 152 #[.slice (some ⟨b,off,none⟩) 1 cap] w fun e w'=>e = .returned (.int .i64 (c0:Nat))∧∃ q,w'=w.drewN q:=by
 go_enter Tryz.func152,Tryz.ntmps152
 go_wp2
 go_ret
 exact ⟨rfl,0,rfl⟩
set_option maxHeartbeats 1000000 in
theorem xvalue_2(b off cap:Nat)(c0 c1:Nat)(w:World)(h0:c0<256)(h1:c1<256)
  (k0:w.cell? ⟨b,off,none⟩=some (.int .u8 c0)) (k1:w.cell? ⟨b,off+1,none⟩=some (.int .u8 c1)) :
  Calls Tryz.prog 152 #[.slice (some ⟨b,off,none⟩) 2 cap] w fun e w'=>e = .returned (.int .i64 (c0 % 32*64+c1 % 64:Nat))∧∃ q,w'=w.drewN q:=by
 have he:Hid _:=two_in c0 c1
 go_enter Tryz.func152,Tryz.ntmps152
 go_wp2
 go_quiet (fail)
 go_wp2
 go_ret
 exact ⟨by rw [←he.out];rfl,nq,rfl⟩
set_option maxHeartbeats 1000000 in
theorem xvalue_3(b off cap:Nat)(c0 c1 c2:Nat)(w:World)(h0:c0<256)(h1:c1<256)(h2:c2<256)
  (k0:w.cell? ⟨b,off,none⟩=some (.int .u8 c0)) (k1:w.cell? ⟨b,off+1,none⟩=some (.int .u8 c1)) (k2:w.cell? ⟨b,off+2,none⟩=some (.int .u8 c2)) :
  Calls Tryz.prog 152 #[.slice (some ⟨b,off,none⟩) 3 cap] w fun e w'=>e = .returned (.int .i64 (c0 % 16*4096+c1 % 64*64+c2 % 64:Nat))∧∃ q,w'=w.drewN q:=by
 have he:Hid _:=three_in c0 c1 c2
 go_enter Tryz.func152,Tryz.ntmps152
 go_wp2
 go_quiet (fail)
 go_wp2
 go_ret
 exact ⟨by rw [←he.out];rfl,nq,rfl⟩
set_option maxHeartbeats 1000000 in
theorem xvalue_4(b off cap:Nat)(c0 c1 c2 c3:Nat)(w:World)(h0:c0<256)(h1:c1<256)(h2:c2<256)(h3:c3<256)
  (k0:w.cell? ⟨b,off,none⟩=some (.int .u8 c0)) (k1:w.cell? ⟨b,off+1,none⟩=some (.int .u8 c1)) (k2:w.cell? ⟨b,off+2,none⟩=some (.int .u8 c2)) (k3:w.cell? ⟨b,off+3,none⟩=some (.int .u8 c3)) :
  Calls Tryz.prog 152 #[.slice (some ⟨b,off,none⟩) 4 cap] w fun e w'=>e = .returned (.int .i64 (c0 % 8*262144+c1 % 64*4096+c2 % 64*64+c3 % 64:Nat))∧∃ q,w'=w.drewN q:=by
 have he:Hid _:=four_in c0 c1 c2 c3
 go_enter Tryz.func152,Tryz.ntmps152
 go_wp2
 go_quiet (fail)
 go_wp2
 go_ret
 exact ⟨by rw [←he.out];rfl,nq,rfl⟩
theorem xvalue_any(b off cap:Nat)(zs:List Int)(w:World)(hg:Good zs)(hl:lenB zs≤zs.length)(hb:Bytes w (some ⟨b,off,none⟩) zs) :
  Calls Tryz.prog 152 #[.slice (some ⟨b,off,none⟩) (lenB zs) cap] w fun e w'=>e = .returned (.int .i64 (valB zs:Nat))∧∃ q,w'=w.drewN q:=by
 have z:=nth_lt hb.1
 have hB:lenB zs=lenN (nth zs 0):=rfl
 have c:∀ i,i<lenB zs→w.cell? ⟨b,off+i,none⟩=some (.int .u8 (nth zs i:Nat)):=fun i hi=>hb.nat (by omega)
 have k0:=hg.1
 rcases len_cases (nth zs 0) with ⟨e,k⟩ | ⟨e,k⟩ | ⟨e,k⟩ | ⟨e,k⟩ | ⟨e,k⟩ <;> rw [←hB] at e <;> rw [e] at c ⊢
 ·rw [show valB zs = nth zs 0 from by unfold valB valN; rw [if_pos k]]
  exact xvalue_1 b off cap _ w (c 0 (by omega)) (z 0)
 ·rw [show valB zs = _ from by unfold valB valN; rw [if_neg (by omega), if_pos (by omega)]]
  exact xvalue_2 b off cap _ _ w (z 0) (z 1) (c 0 (by omega)) (c 1 (by omega))
 ·rw [show valB zs = _ from by unfold valB valN; rw [if_neg (by omega), if_neg (by omega), if_pos (by omega)]]
  exact xvalue_3 b off cap _ _ _ w (z 0) (z 1) (z 2) (c 0 (by omega)) (c 1 (by omega)) (c 2 (by omega))
 ·rw [show valB zs = _ from by unfold valB valN; rw [if_neg (by omega), if_neg (by omega), if_neg (by omega)]]
  exact xvalue_4 b off cap _ _ _ _ w (z 0) (z 1) (z 2) (z 3) (c 0 (by omega)) (c 1 (by omega)) (c 2 (by omega)) (c 3 (by omega))
 ·exact absurd (hB.symm.trans e) k0
theorem xfirst_good(b off n cap:Nat)(zs:List Int)(w:World)(hl:zs.length=n)(h0:0<n)(hb:Bytes w (some ⟨b,off,none⟩) zs)(hn:n≤4611686018427387904)(hg:Good zs) :
  Calls Tryz.prog 151 #[.slice (some ⟨b,off,none⟩) n cap] w fun e w'=>e = .returned (.tuple #[.int .i64 (lenB zs:Nat), .int .i64 (-1)])∧∃ q,w'=w.drewN q:=by
 have hne:=good_ne hg (fun h=>by rw [h] at hl;simp at hl;omega)
 exact xfirst_any b off n cap zs w hl h0 hb hn (by omega) (lenB zs) hne.1 (fun i h1 h2=>good_okAt hl hg h1 h2) _ (.inl ⟨rfl,rfl⟩)
theorem xfirst_bad(b off n cap:Nat)(zs:List Int)(w:World)(hl:zs.length=n)(h0:0<n)(hb:Bytes w (some ⟨b,off,none⟩) zs)(hn:n≤4611686018427387904)(hg:¬ Good zs) :
  Calls Tryz.prog 151 #[.slice (some ⟨b,off,none⟩) n cap] w fun e w'=>e = .returned (.tuple #[.int .i64 0, .int .i64 (badB zs:Nat)])∧∃ q,w'=w.drewN q:=by
 by_cases hz:lenB zs=0
 ·have hB0 : badB zs = 0 := by unfold badB; rw [if_pos hz]
  rw [hB0]
  have c0:w.cell? ⟨b,off,none⟩=some (.int .u8 (nth zs 0:Nat)):=hb.nat (i:=0) (by omega)
  have kl:=xlength_any (nth zs 0) w
  rw [show lenN (nth zs 0)=0 from hz] at kl
  clear hg hb hB0 hz hl
  generalize nth zs 0=c at *
  go_enter Tryz.func151,Tryz.ntmps151
  go_wp2_with (go_at_call 171;refine kl.mono ?_;rintro e w' ⟨rfl,hw⟩;obtain rfl:w=w':=hw.symm)
  go_ret2
  exact ⟨rfl,0,rfl⟩
 ·obtain ⟨h1, h2, h3, h4⟩ := bad_okAt hl hg hz
  have hle:badB zs≤n:=by
   rw [←hl]
   exact bad_le (fun h=>by rw [h] at hl;simp at hl;omega) hg
  exact xfirst_any b off n cap zs w hl h0 hb hn hz (badB zs) h2 h3 _ (.inr ⟨h1,h4,rfl,hle⟩)
end Go.Proofs.YtejlaiofpekchaaGreatDoor
namespace Go.Proofs.YtejlaiofpekchaaGreatDoor
open Go.RowKit
theorem rr_good{zs:List Int}{p:Nat}{ls:List Nat}(h:runesL zs=(ls++(runesL (zs.drop p)).1,(runesL (zs.drop p)).2.map (p+·)))(h0:zs.drop p≠[])(hg:Good (zs.drop p)) :
  runesL zs=((ls++[valB (zs.drop p)])++(runesL (zs.drop (p+lenB (zs.drop p)))).1,(runesL (zs.drop (p+lenB (zs.drop p)))).2.map (p+lenB (zs.drop p)+·)):=by
 rw [h,runes_good h0 hg,List.drop_drop]
 simp only [List.append_assoc,List.singleton_append,Option.map_map,Prod.mk.injEq,true_and]
 congr 1
 funext x
 simp only [Function.comp_apply]
 omega
theorem rr_bad{zs:List Int}{p:Nat}{ls:List Nat}(h:runesL zs=(ls++(runesL (zs.drop p)).1,(runesL (zs.drop p)).2.map (p+·)))(h0:zs.drop p≠[])(hg:¬ Good (zs.drop p)) :
  (runesL zs).2=some (p+badB (zs.drop p)):=by
 rw [h,runes_bad h0 hg]
 rfl
theorem rr_end{zs:List Int}{p:Nat}{ls:List Nat}(h:runesL zs=(ls++(runesL (zs.drop p)).1,(runesL (zs.drop p)).2.map (p+·)))(hp:zs.length≤p) :
  runesL zs=(ls,none):=by
 rw [h,List.drop_of_length_le hp,runes_nil]
 simp
set_option maxHeartbeats 2000000 in
theorem xrunes_any(a:Option Addr)(n cap:Nat)(zs:List Int)(w:World)(hl:zs.length=n)(hb:Bytes w a zs)(hc:n≤cap)(hn:n≤1099511627776) :
  Calls Tryz.prog 120 #[.slice a n cap] w fun e w'=>∃ v,e = .returned (.tuple #[v, .agg #[.int .i64 (whyL zs:Nat), .int .i64 (atL zs:Nat)]])∧OwnsJ w' w.heap.size v (txtL zs)∧Below w.heap.size w w':=by
 by_cases h0:n=0
 ·subst h0
  obtain rfl:=List.eq_nil_of_length_eq_zero hl
  obtain ⟨h1,h2,h3⟩:=why_none (zs:=[]) (by rw [runes_nil])
  rw [runes_nil] at h3
  rw [h1,h2,h3]
  clear hb hl h1 h2 h3
  go_enter Tryz.func120,Tryz.ntmps120
  go_wp2
  refine wp_loop_rounds 1 ?_
  rw [rounds_succ]
  go_wp2
  refine bodyPost_ret (v := .tuple #[.slice none 0 0, .agg #[.int .i64 0, .int .i64 0]]) (by simp [results,Tryz.results120,go_sem]) rfl ⟨_,rfl,ownsJ_nil _ _,?_⟩
  exact (Below.refl _ _).alloc (Nat.le_refl _) _
 ·obtain ⟨b, off, rfl⟩ := bytes_some hb (by omega)
  have hB:Hid (Bytes (w.alloc (.cells #[.int .i64 0, .int .i64 0] 102)) (some ⟨b,off,none⟩) zs):=hb.kept ((Below.refl _ _).alloc (Nat.le_refl _) _)
  have hL:Hid (zs.length=n):=hl
  have hF0:Hid (FAt (w.alloc (.cells #[.int .i64 0, .int .i64 0] 102)) w.heap.size 0 0):=heap_alloc_new w _
  have hbW:Hid (Below w.heap.size w (w.alloc (.cells #[.int .i64 0, .int .i64 0] 102))):=(Below.refl _ _).alloc (Nat.le_refl _) _
  have hsz0:Hid ((w.alloc (.cells #[.int .i64 0, .int .i64 0] 102)).heap.size=w.heap.size+1):=by show _=_;simp
  clear hb hl h0
  go_enter Tryz.func120,Tryz.ntmps120
  go_wp2
  go_loopw [4,5] (fun v i wr=>∃ (p:Nat) (ls:List Nat),p≤n∧i = .int .i64 p∧Hid (OwnsJ wr (w.heap.size+1) v (ints ls))∧Hid (runesL zs=(ls++(runesL (zs.drop p)).1,(runesL (zs.drop p)).2.map (p+·)))∧Hid (ls.length≤p)∧Hid (Below (w.heap.size+1) (w.alloc (.cells #[.int .i64 0, .int .i64 0] 102)) wr)) (fun _ i _=>n - (intOf i).toNat)
  case atStart=>exact ⟨0,[],Nat.zero_le _,rfl,ownsJ_nil _ _,(by show _=_;simp),Nat.zero_le _,Below.refl _ _⟩
  case round =>
   obtain ⟨p,ls,hp,rfl,hown,hrn,hmany,hbr⟩:=hrel
   have hsz:=hbr.out.size
   rw [hsz0.out] at hsz
   have hFr:FAt wr w.heap.size 0 0:=by
    unfold FAt
    rw [hbr.out.block w.heap.size (by omega)]
    exact hF0.out
   have hbw:Hid (Below w.heap.size w wr):=hbW.out.trans (hbr.out.mono (by omega))
   by_cases hlt:p<n
   ·have hx : zs.drop p ≠ [] := by intro h; have := congrArg List.length h; rw [List.length_drop, hL.out] at this; simp at this; omega
    have hBr:Bytes wr (some ⟨b,off+p,none⟩) (zs.drop p):=(hB.out.below hbr.out (fun x hx0 hne=>by
     have h1:=hB.out
     rw [hx0] at h1
     have:=h1.lt hne
     rw [hsz0.out] at this
     exact this)).drop p
    have hDl:(zs.drop p).length=n - p:=by rw [List.length_drop,hL.out]
    have i1:(cap=p)=False:=by simp;omega
    have i2:(p:Int)≤(n:Int):=by omega
    have j1:(p:Int)<(n:Int):=by omega
    by_cases hg:Good (zs.drop p)
    ·have k1 := xfirst_good b (off + p) (n - p) (cap - p) (zs.drop p) wr hDl (by omega) hBr (by omega) hg
     have hne:=good_ne hg hx
     rw [hDl] at hne
     have k2:=fun w1 (h:Bytes w1 (some ⟨b,off+p,none⟩) (zs.drop p))=>xvalue_any b (off+p) (cap - p) (zs.drop p) w1 hg (by rw [hDl];exact hne.2.1) h
     have k2':Hid _:=k2
     have hBr':Hid (Bytes wr (some ⟨b,off+p,none⟩) (zs.drop p)):=hBr
     have hR:=(good_right hg).1
     have hwr:IntKind.i32.wrap ((valB (zs.drop p):Nat):Int)=((valB (zs.drop p):Nat):Int):=by rw [IntKind.wrap_i32];omega
     have hrn2:Hid _:=rr_good hrn.out hx hg
     clear hx hBr hDl hg k2 hrn hR hFr
     generalize valB (zs.drop p)=V at *
     generalize lenB (zs.drop p)=L at *
     have i3:((p:Int)+(L:Int))≤(n:Int):=by omega
     have i4:(p:Int)≤(p:Int)+(L:Int):=by omega
     go_wp2_with fail
     refine k1.mono ?_
     rintro e w1 ⟨rfl,q1,hw1⟩
     have hb1:Below wr.heap.size wr w1:=by rw [hw1];exact below_drewN (Below.refl _ _) q1
     have k3:=k2'.out w1 (hBr'.out.kept hb1)
     clear hw1 k1
     go_wp2_with fail
     refine k3.mono ?_
     rintro e w2 ⟨rfl,q2,hw2⟩
     have hb2:Below wr.heap.size wr w2:=hb1.trans (by rw [hw2];exact below_drewN (Below.refl _ _) q2)
     have ho2:Hid (OwnsJ w2 (w.heap.size+1) u4 (ints ls)):=hown.out.below hb2
     have hbr2:Hid (Below (w.heap.size+1) (w.alloc (.cells #[.int .i64 0, .int .i64 0] 102)) w2):=hbr.out.trans (hb2.mono hsz)
     have hs2:w.heap.size+1≤w2.heap.size:=Nat.le_trans hsz hb2.size
     clear hw2 k3 hb1 hb2 hown hbr hBr'
     go_wp2_with (at_builtin;refine wpList_append_jnts rfl _ (.tmp 34) rfl (w.heap.size+1) u4 (ints ls) [((V:Nat):Int)] rfl (ho2.out.alloc _) (some ⟨w2.heap.size,0,none⟩) 1 1 rfl rfl (by simp) (one_rune w2 _) (by rw [jnts_len];have:=hmany.out;simp;omega) (by simp;omega) ?_;intro v3 w3 ho3 hg3;have hb3:=grownJ_below (hbr2.out.alloc hs2 _) (ho2.out.alloc _) hg3 (by simp;omega);clear hg3)
     go_roundw
     case rel=>exact ⟨p+L,ls++[V],by omega,by go_num,(by show OwnsJ _ _ _ _;unfold ints;rw [List.map_append];exact ho3),hrn2,(by show _≤_;have:=hmany.out;simp only [List.length_append,List.length_cons,List.length_nil];omega),hb3⟩
     case measure=>simp [intOf];omega
    ·have k1 := xfirst_bad b (off + p) (n - p) (cap - p) (zs.drop p) wr hDl (by omega) hBr (by omega) hg
     have hf:=rr_bad hrn.out hx hg
     obtain ⟨h1,h2,h3⟩:=why_some hf
     have hY:Hid (whyL zs=6∧atL zs=p+badB (zs.drop p)∧txtL zs=[]):=⟨h1,h2,h3⟩
     have hle:p+badB (zs.drop p)≤n:=by rw [←hL.out];exact fault_le zs _ hf
     clear hx hBr hDl hg hrn hf h1 h2 h3
     generalize badB (zs.drop p)=B at *
     go_wp2_with fail
     refine k1.mono ?_
     rintro e w1 ⟨rfl,q1,hw1⟩
     have hb1:Below wr.heap.size wr w1:=by rw [hw1];exact below_drewN (Below.refl _ _) q1
     have hF1:=hFr.kept hb1
     have c0:=hF1.c0
     have c1:=hF1.c1
     have f0:=hF1.fz 0
     have f1:=hF1.fz 1
     have hbw1:Below w.heap.size w w1:=hbw.out.trans (hb1.mono (by omega))
     have i5:(0:Int)≤(B:Int):=by omega
     clear hw1 k1 hb1 hown hbr
     go_wp2
     refine bodyPost_ret (v := .tuple #[.slice none 0 0, .agg #[.int .i64 6, .int .i64 ((p+B:Nat):Int)]]) (by simp [results,Tryz.results120,go_sem, *]) rfl ⟨_,by rw [hY.out.1,hY.out.2.1];rfl,?_,?_⟩
     ·rw [hY.out.2.2];exact ownsJ_nil _ _
     ·exact (hbw1.setCell (Nat.le_refl _) _).setCell (Nat.le_refl _) _
   ·have he := rr_end hrn.out (by rw [hL.out]; omega)
    obtain ⟨h1,h2,h3⟩:=why_none (zs:=zs) (by rw [he])
    rw [he] at h3
    have hY:Hid (whyL zs=0∧atL zs=0∧txtL zs=ints ls):=⟨h1,h2,h3⟩
    have c0:=hFr.c0
    have c1:=hFr.c1
    have f0:=hFr.fz 0
    have f1:=hFr.fz 1
    clear he h1 h2 h3 hrn
    go_wp2
    refine bodyPost_ret (v := .tuple #[u4, .agg #[.int .i64 0, .int .i64 0]]) (by simp [results,Tryz.results120,go_sem, *]) rfl ⟨_,by rw [hY.out.1,hY.out.2.1];rfl,?_,?_⟩
    ·rw [hY.out.2.2]
     exact ((hown.out.low (a:=⟨w.heap.size,0,none⟩) (Nat.lt_succ_self _) _).low (a:=⟨w.heap.size,1,none⟩) (Nat.lt_succ_self _) _).base (Nat.le_succ _)
    ·exact (hbw.out.setCell (Nat.le_refl _) _).setCell (Nat.le_refl _) _
end Go.Proofs.YtejlaiofpekchaaGreatDoor
namespace Go.Proofs.YtejlaiofpekchaaGreatDoor
open Go.RowKit
set_option linter.unusedVariables false
set_option maxHeartbeats 8000000 in
set_option maxRecDepth 100000 in
theorem ealone_k1{D:Nat}{t:Tr}{b:Nb}{w:World}(hN:Nd (D+1) w b t)(hK:b.kind=1):Calls Tryz.prog 81 #[.agg b.arr] w fun e w'=>e = .returned (.int .i64 (alF t))∧Below w.heap.size w w':=by
 have hal:=alloc_below w (.cells b.arr 26)
 have B0:Hid (Below w.heap.size w (w.alloc (.cells b.arr 26))):=hal
 have Q0:Hid (NBox (w.alloc (.cells b.arr 26)) w.heap.size b):=nbox_new w b
 obtain ⟨a0,a1,a2,a3,a4,a5,a6,a7,a8⟩:=(nbox_new w b).fields
 have rk:=hN.2.2.2.1.2.1
 have ri:=hN.2.2.2.2.2.1
 have kB:=bare_any b (w.alloc (.cells b.arr 26))
 have kS:Hid (∀ w',Below w.heap.size w w'→Calls Tryz.prog 23 #[.agg (bar b).arr, .agg b.arr] w' fun e w''=>e = .returned (.bool t.clean)∧Below w'.heap.size w' w''):=fun w' hb=>esam_any (nd_bar (hN.kept hb)) (hN.kept hb) (Tr.clean_iff t)
 have hk:b.kind=t.kind:=hN.1.1
 have hnum:b.num=t.num:=hN.1.2.1
 have hneg:b.neg=t.neg:=hN.1.2.2.1
 have hdig:b.dig=t.dig:=hN.1.2.2.2.1
 have hexp:b.exp=t.exp:=hN.1.2.2.2.2.1
 have htxt:b.txt=t.txt:=hN.1.2.2.2.2.2
 have hlb:t.bytes.length=b.lb:=hN.2.2.1.1
 have hlk:t.keys.length=b.lk:=hN.2.2.2.1.1
 have hli:t.kids.length=b.li:=hN.2.2.2.2.1
 have mb1:=hN.2.2.1.2.1.1
 have mb2:=hN.2.2.1.2.1.2.1
 have mk1:=rk.1
 have mk2:=rk.2.1
 have mi1:=ri.1
 have mi2:=ri.2.1
 unfold maxLen at mb2 mk2 mi2
 have mt:b.txt.size≤140737488351232:=by rw [htxt];exact hN.2.1.2.2.2.2
 have hA:alF t=if (b.kind=5∧4096<b.txt.size)∨(b.kind=6∧4096<b.lb) then 8
  else if b.kind=5∧gtx b.txt=false then 6
  else if b.kind=2∧(rt b.dig=false∨(b.neg=true∧b.dig=⟨#[48]⟩)) then 11
  else if b.kind=3∧rdN b.neg b.dig b.exp=false then 11
  else if t.odd=true then 12 else 0:=by
  rw [hk,hneg,hdig,hexp,htxt,←hlb];rfl
 have hO:=odd_doc hN
 have hkk:Hid (b.kind=t.kind):=hk
 clear hneg hdig hexp htxt hlb hlk hli hnum hN hk hal rk ri
 have e1:(b.kind==1)=true:=by rw [hK];decide
 have e2:(b.kind==2)=false:=by rw [hK];decide
 have e3:(b.kind==3)=false:=by rw [hK];decide
 have e5:(b.kind==5)=false:=by rw [hK];decide
 have e6:(b.kind==6)=false:=by rw [hK];decide
 have e8:(b.kind==8)=false:=by rw [hK];decide
 have e9:(b.kind==9)=false:=by rw [hK];decide
 have e10:(b.kind==10)=false:=by rw [hK];decide
 have d0:decide (b.kind<0)=false:=by rw [hK];decide
 have d10:decide (10<b.kind)=false:=by rw [hK];decide
 rw [if_neg (by omega),if_neg (by omega),if_neg (by omega),if_neg (by omega)] at hA
 rw [d0,d10,e1,e8,e9,e10] at hO
 clear hK
 cases hc:t.clean with
 | false =>
  rw [hO,hc] at hA
  rw [hc] at kS
  have hR:alF t=12:=by rw [hA];simp
  rw [hR]
  clear hA hO hc hR
  go_enter Tryz.func81,Tryz.ntmps81
  go_wp2_with (first
   | (go_at_call 119;refine kB.mono ?_;rintro e w1 ⟨he,hb1⟩;rw [Nb.arr] at he;subst he;clear kB a0 a1 a2 a3 a4 a5 a6 a7 a8;have A1:=alloc_below w1 (.cells #[.int .i64 (bar b).kind, .int .u64 (bar b).num, .bool (bar b).neg, .string (bar b).dig, .int .i64 (bar b).exp, .string (bar b).txt, .slice (bar b).ab (bar b).lb (bar b).cb, .slice (bar b).ak (bar b).lk (bar b).ck, .slice (bar b).ai (bar b).li (bar b).ci] 26);have b1:Below (w.alloc (.cells b.arr 26)).heap.size (w.alloc (.cells b.arr 26)) (w1.alloc (.cells #[.int .i64 (bar b).kind, .int .u64 (bar b).num, .bool (bar b).neg, .string (bar b).dig, .int .i64 (bar b).exp, .string (bar b).txt, .slice (bar b).ab (bar b).lb (bar b).cb, .slice (bar b).ak (bar b).lk (bar b).ck, .slice (bar b).ai (bar b).li (bar b).ci] 26)):=hb1.trans (A1.mono hb1.size);have Q1:Hid (NBox (w1.alloc (.cells #[.int .i64 (bar b).kind, .int .u64 (bar b).num, .bool (bar b).neg, .string (bar b).dig, .int .i64 (bar b).exp, .string (bar b).txt, .slice (bar b).ab (bar b).lb (bar b).cb, .slice (bar b).ak (bar b).lk (bar b).ck, .slice (bar b).ai (bar b).li (bar b).ci] 26)) w.heap.size b):=Q0.out.kept b1 Q0.out.lt;have X1:Hid (NBox (w1.alloc (.cells #[.int .i64 (bar b).kind, .int .u64 (bar b).num, .bool (bar b).neg, .string (bar b).dig, .int .i64 (bar b).exp, .string (bar b).txt, .slice (bar b).ab (bar b).lb (bar b).cb, .slice (bar b).ak (bar b).lk (bar b).ck, .slice (bar b).ai (bar b).li (bar b).ci] 26)) w1.heap.size (bar b)):=nbox_new w1 (bar b);have B1:Hid (Below w.heap.size w (w1.alloc (.cells #[.int .i64 (bar b).kind, .int .u64 (bar b).num, .bool (bar b).neg, .string (bar b).dig, .int .i64 (bar b).exp, .string (bar b).txt, .slice (bar b).ab (bar b).lb (bar b).cb, .slice (bar b).ak (bar b).lk (bar b).ck, .slice (bar b).ai (bar b).li (bar b).ci] 26))):=B0.out.trans (b1.mono B0.out.size);obtain ⟨a0,a1,a2,a3,a4,a5,a6,a7,a8⟩:=Q1.out.fields;obtain ⟨x0,x1,x2,x3,x4,x5,x6,x7,x8⟩:=X1.out.fields)
   | (have kS1:=kS.out _ B1.out;go_at_call 23;refine kS1.mono ?_;rintro e w9 ⟨rfl,hb9⟩;clear kS1;clear a0 a1 a2 a3 a4 a5 a6 a7 a8 x0 x1 x2 x3 x4 x5 x6 x7 x8;have Q9:Hid (NBox w9 w.heap.size b):=Q1.out.kept hb9 Q1.out.lt;have X9:Hid (NBox w9 w1.heap.size (bar b)):=X1.out.kept hb9 X1.out.lt;have B9:Hid (Below w.heap.size w w9):=B1.out.trans (hb9.mono B1.out.size);obtain ⟨a0,a1,a2,a3,a4,a5,a6,a7,a8⟩:=Q9.out.fields;obtain ⟨x0,x1,x2,x3,x4,x5,x6,x7,x8⟩:=X9.out.fields))
  go_ret
  exact ⟨rfl,B9.out⟩
 | true =>
  rw [hO,hc] at hA
  rw [hc] at kS
  cases hq:decide (1<b.num) with
  | false =>
   rw [hq] at hA
   have hR:alF t=0:=by rw [hA];simp [*]
   rw [hR]
   clear hA hO hc hR
   go_enter Tryz.func81,Tryz.ntmps81
   go_wp2_with (first
    | (go_at_call 119;refine kB.mono ?_;rintro e w1 ⟨he,hb1⟩;rw [Nb.arr] at he;subst he;clear kB a0 a1 a2 a3 a4 a5 a6 a7 a8;have A1:=alloc_below w1 (.cells #[.int .i64 (bar b).kind, .int .u64 (bar b).num, .bool (bar b).neg, .string (bar b).dig, .int .i64 (bar b).exp, .string (bar b).txt, .slice (bar b).ab (bar b).lb (bar b).cb, .slice (bar b).ak (bar b).lk (bar b).ck, .slice (bar b).ai (bar b).li (bar b).ci] 26);have b1:Below (w.alloc (.cells b.arr 26)).heap.size (w.alloc (.cells b.arr 26)) (w1.alloc (.cells #[.int .i64 (bar b).kind, .int .u64 (bar b).num, .bool (bar b).neg, .string (bar b).dig, .int .i64 (bar b).exp, .string (bar b).txt, .slice (bar b).ab (bar b).lb (bar b).cb, .slice (bar b).ak (bar b).lk (bar b).ck, .slice (bar b).ai (bar b).li (bar b).ci] 26)):=hb1.trans (A1.mono hb1.size);have Q1:Hid (NBox (w1.alloc (.cells #[.int .i64 (bar b).kind, .int .u64 (bar b).num, .bool (bar b).neg, .string (bar b).dig, .int .i64 (bar b).exp, .string (bar b).txt, .slice (bar b).ab (bar b).lb (bar b).cb, .slice (bar b).ak (bar b).lk (bar b).ck, .slice (bar b).ai (bar b).li (bar b).ci] 26)) w.heap.size b):=Q0.out.kept b1 Q0.out.lt;have X1:Hid (NBox (w1.alloc (.cells #[.int .i64 (bar b).kind, .int .u64 (bar b).num, .bool (bar b).neg, .string (bar b).dig, .int .i64 (bar b).exp, .string (bar b).txt, .slice (bar b).ab (bar b).lb (bar b).cb, .slice (bar b).ak (bar b).lk (bar b).ck, .slice (bar b).ai (bar b).li (bar b).ci] 26)) w1.heap.size (bar b)):=nbox_new w1 (bar b);have B1:Hid (Below w.heap.size w (w1.alloc (.cells #[.int .i64 (bar b).kind, .int .u64 (bar b).num, .bool (bar b).neg, .string (bar b).dig, .int .i64 (bar b).exp, .string (bar b).txt, .slice (bar b).ab (bar b).lb (bar b).cb, .slice (bar b).ak (bar b).lk (bar b).ck, .slice (bar b).ai (bar b).li (bar b).ci] 26))):=B0.out.trans (b1.mono B0.out.size);obtain ⟨a0,a1,a2,a3,a4,a5,a6,a7,a8⟩:=Q1.out.fields;obtain ⟨x0,x1,x2,x3,x4,x5,x6,x7,x8⟩:=X1.out.fields)
    | (have kS1:=kS.out _ B1.out;go_at_call 23;refine kS1.mono ?_;rintro e w9 ⟨rfl,hb9⟩;clear kS1;clear a0 a1 a2 a3 a4 a5 a6 a7 a8 x0 x1 x2 x3 x4 x5 x6 x7 x8;have Q9:Hid (NBox w9 w.heap.size b):=Q1.out.kept hb9 Q1.out.lt;have X9:Hid (NBox w9 w1.heap.size (bar b)):=X1.out.kept hb9 X1.out.lt;have B9:Hid (Below w.heap.size w w9):=B1.out.trans (hb9.mono B1.out.size);obtain ⟨a0,a1,a2,a3,a4,a5,a6,a7,a8⟩:=Q9.out.fields;obtain ⟨x0,x1,x2,x3,x4,x5,x6,x7,x8⟩:=X9.out.fields))
   go_ret
   exact ⟨rfl,B9.out⟩
  | true =>
   rw [hq] at hA
   have hR:alF t=12:=by rw [hA];simp [*]
   rw [hR]
   clear hA hO hc hR
   go_enter Tryz.func81,Tryz.ntmps81
   go_wp2_with (first
    | (go_at_call 119;refine kB.mono ?_;rintro e w1 ⟨he,hb1⟩;rw [Nb.arr] at he;subst he;clear kB a0 a1 a2 a3 a4 a5 a6 a7 a8;have A1:=alloc_below w1 (.cells #[.int .i64 (bar b).kind, .int .u64 (bar b).num, .bool (bar b).neg, .string (bar b).dig, .int .i64 (bar b).exp, .string (bar b).txt, .slice (bar b).ab (bar b).lb (bar b).cb, .slice (bar b).ak (bar b).lk (bar b).ck, .slice (bar b).ai (bar b).li (bar b).ci] 26);have b1:Below (w.alloc (.cells b.arr 26)).heap.size (w.alloc (.cells b.arr 26)) (w1.alloc (.cells #[.int .i64 (bar b).kind, .int .u64 (bar b).num, .bool (bar b).neg, .string (bar b).dig, .int .i64 (bar b).exp, .string (bar b).txt, .slice (bar b).ab (bar b).lb (bar b).cb, .slice (bar b).ak (bar b).lk (bar b).ck, .slice (bar b).ai (bar b).li (bar b).ci] 26)):=hb1.trans (A1.mono hb1.size);have Q1:Hid (NBox (w1.alloc (.cells #[.int .i64 (bar b).kind, .int .u64 (bar b).num, .bool (bar b).neg, .string (bar b).dig, .int .i64 (bar b).exp, .string (bar b).txt, .slice (bar b).ab (bar b).lb (bar b).cb, .slice (bar b).ak (bar b).lk (bar b).ck, .slice (bar b).ai (bar b).li (bar b).ci] 26)) w.heap.size b):=Q0.out.kept b1 Q0.out.lt;have X1:Hid (NBox (w1.alloc (.cells #[.int .i64 (bar b).kind, .int .u64 (bar b).num, .bool (bar b).neg, .string (bar b).dig, .int .i64 (bar b).exp, .string (bar b).txt, .slice (bar b).ab (bar b).lb (bar b).cb, .slice (bar b).ak (bar b).lk (bar b).ck, .slice (bar b).ai (bar b).li (bar b).ci] 26)) w1.heap.size (bar b)):=nbox_new w1 (bar b);have B1:Hid (Below w.heap.size w (w1.alloc (.cells #[.int .i64 (bar b).kind, .int .u64 (bar b).num, .bool (bar b).neg, .string (bar b).dig, .int .i64 (bar b).exp, .string (bar b).txt, .slice (bar b).ab (bar b).lb (bar b).cb, .slice (bar b).ak (bar b).lk (bar b).ck, .slice (bar b).ai (bar b).li (bar b).ci] 26))):=B0.out.trans (b1.mono B0.out.size);obtain ⟨a0,a1,a2,a3,a4,a5,a6,a7,a8⟩:=Q1.out.fields;obtain ⟨x0,x1,x2,x3,x4,x5,x6,x7,x8⟩:=X1.out.fields)
    | (have kS1:=kS.out _ B1.out;go_at_call 23;refine kS1.mono ?_;rintro e w9 ⟨rfl,hb9⟩;clear kS1;clear a0 a1 a2 a3 a4 a5 a6 a7 a8 x0 x1 x2 x3 x4 x5 x6 x7 x8;have Q9:Hid (NBox w9 w.heap.size b):=Q1.out.kept hb9 Q1.out.lt;have X9:Hid (NBox w9 w1.heap.size (bar b)):=X1.out.kept hb9 X1.out.lt;have B9:Hid (Below w.heap.size w w9):=B1.out.trans (hb9.mono B1.out.size);obtain ⟨a0,a1,a2,a3,a4,a5,a6,a7,a8⟩:=Q9.out.fields;obtain ⟨x0,x1,x2,x3,x4,x5,x6,x7,x8⟩:=X9.out.fields))
   go_ret
   exact ⟨rfl,B9.out⟩
set_option maxHeartbeats 8000000 in
set_option maxRecDepth 100000 in
theorem ealone_k8{D:Nat}{t:Tr}{b:Nb}{w:World}(hN:Nd (D+1) w b t)(hK:b.kind=8):Calls Tryz.prog 81 #[.agg b.arr] w fun e w'=>e = .returned (.int .i64 (alF t))∧Below w.heap.size w w':=by
 have hal:=alloc_below w (.cells b.arr 26)
 have B0:Hid (Below w.heap.size w (w.alloc (.cells b.arr 26))):=hal
 have Q0:Hid (NBox (w.alloc (.cells b.arr 26)) w.heap.size b):=nbox_new w b
 obtain ⟨a0,a1,a2,a3,a4,a5,a6,a7,a8⟩:=(nbox_new w b).fields
 have rk:=hN.2.2.2.1.2.1
 have ri:=hN.2.2.2.2.2.1
 have kB:=bare_any b (w.alloc (.cells b.arr 26))
 have kS:Hid (∀ w',Below w.heap.size w w'→Calls Tryz.prog 23 #[.agg (bar b).arr, .agg b.arr] w' fun e w''=>e = .returned (.bool t.clean)∧Below w'.heap.size w' w''):=fun w' hb=>esam_any (nd_bar (hN.kept hb)) (hN.kept hb) (Tr.clean_iff t)
 have hk:b.kind=t.kind:=hN.1.1
 have hnum:b.num=t.num:=hN.1.2.1
 have hneg:b.neg=t.neg:=hN.1.2.2.1
 have hdig:b.dig=t.dig:=hN.1.2.2.2.1
 have hexp:b.exp=t.exp:=hN.1.2.2.2.2.1
 have htxt:b.txt=t.txt:=hN.1.2.2.2.2.2
 have hlb:t.bytes.length=b.lb:=hN.2.2.1.1
 have hlk:t.keys.length=b.lk:=hN.2.2.2.1.1
 have hli:t.kids.length=b.li:=hN.2.2.2.2.1
 have mb1:=hN.2.2.1.2.1.1
 have mb2:=hN.2.2.1.2.1.2.1
 have mk1:=rk.1
 have mk2:=rk.2.1
 have mi1:=ri.1
 have mi2:=ri.2.1
 unfold maxLen at mb2 mk2 mi2
 have mt:b.txt.size≤140737488351232:=by rw [htxt];exact hN.2.1.2.2.2.2
 have hA:alF t=if (b.kind=5∧4096<b.txt.size)∨(b.kind=6∧4096<b.lb) then 8
  else if b.kind=5∧gtx b.txt=false then 6
  else if b.kind=2∧(rt b.dig=false∨(b.neg=true∧b.dig=⟨#[48]⟩)) then 11
  else if b.kind=3∧rdN b.neg b.dig b.exp=false then 11
  else if t.odd=true then 12 else 0:=by
  rw [hk,hneg,hdig,hexp,htxt,←hlb];rfl
 have hO:=odd_doc hN
 have hkk:Hid (b.kind=t.kind):=hk
 clear hneg hdig hexp htxt hlb hlk hli hnum hN hk hal rk ri
 have e1:(b.kind==1)=false:=by rw [hK];decide
 have e2:(b.kind==2)=false:=by rw [hK];decide
 have e3:(b.kind==3)=false:=by rw [hK];decide
 have e5:(b.kind==5)=false:=by rw [hK];decide
 have e6:(b.kind==6)=false:=by rw [hK];decide
 have e8:(b.kind==8)=true:=by rw [hK];decide
 have e9:(b.kind==9)=false:=by rw [hK];decide
 have e10:(b.kind==10)=false:=by rw [hK];decide
 have d0:decide (b.kind<0)=false:=by rw [hK];decide
 have d10:decide (10<b.kind)=false:=by rw [hK];decide
 rw [if_neg (by omega),if_neg (by omega),if_neg (by omega),if_neg (by omega)] at hA
 rw [d0,d10,e1,e8,e9,e10] at hO
 clear hK
 cases hc:t.clean with
 | false =>
  rw [hO,hc] at hA
  rw [hc] at kS
  have hR:alF t=12:=by rw [hA];simp
  rw [hR]
  clear hA hO hc hR
  go_enter Tryz.func81,Tryz.ntmps81
  go_wp2_with (first
   | (go_at_call 119;refine kB.mono ?_;rintro e w1 ⟨he,hb1⟩;rw [Nb.arr] at he;subst he;clear kB a0 a1 a2 a3 a4 a5 a6 a7 a8;have A1:=alloc_below w1 (.cells #[.int .i64 (bar b).kind, .int .u64 (bar b).num, .bool (bar b).neg, .string (bar b).dig, .int .i64 (bar b).exp, .string (bar b).txt, .slice (bar b).ab (bar b).lb (bar b).cb, .slice (bar b).ak (bar b).lk (bar b).ck, .slice (bar b).ai (bar b).li (bar b).ci] 26);have b1:Below (w.alloc (.cells b.arr 26)).heap.size (w.alloc (.cells b.arr 26)) (w1.alloc (.cells #[.int .i64 (bar b).kind, .int .u64 (bar b).num, .bool (bar b).neg, .string (bar b).dig, .int .i64 (bar b).exp, .string (bar b).txt, .slice (bar b).ab (bar b).lb (bar b).cb, .slice (bar b).ak (bar b).lk (bar b).ck, .slice (bar b).ai (bar b).li (bar b).ci] 26)):=hb1.trans (A1.mono hb1.size);have Q1:Hid (NBox (w1.alloc (.cells #[.int .i64 (bar b).kind, .int .u64 (bar b).num, .bool (bar b).neg, .string (bar b).dig, .int .i64 (bar b).exp, .string (bar b).txt, .slice (bar b).ab (bar b).lb (bar b).cb, .slice (bar b).ak (bar b).lk (bar b).ck, .slice (bar b).ai (bar b).li (bar b).ci] 26)) w.heap.size b):=Q0.out.kept b1 Q0.out.lt;have X1:Hid (NBox (w1.alloc (.cells #[.int .i64 (bar b).kind, .int .u64 (bar b).num, .bool (bar b).neg, .string (bar b).dig, .int .i64 (bar b).exp, .string (bar b).txt, .slice (bar b).ab (bar b).lb (bar b).cb, .slice (bar b).ak (bar b).lk (bar b).ck, .slice (bar b).ai (bar b).li (bar b).ci] 26)) w1.heap.size (bar b)):=nbox_new w1 (bar b);have B1:Hid (Below w.heap.size w (w1.alloc (.cells #[.int .i64 (bar b).kind, .int .u64 (bar b).num, .bool (bar b).neg, .string (bar b).dig, .int .i64 (bar b).exp, .string (bar b).txt, .slice (bar b).ab (bar b).lb (bar b).cb, .slice (bar b).ak (bar b).lk (bar b).ck, .slice (bar b).ai (bar b).li (bar b).ci] 26))):=B0.out.trans (b1.mono B0.out.size);obtain ⟨a0,a1,a2,a3,a4,a5,a6,a7,a8⟩:=Q1.out.fields;obtain ⟨x0,x1,x2,x3,x4,x5,x6,x7,x8⟩:=X1.out.fields)
   | (have kS1:=kS.out _ B1.out;go_at_call 23;refine kS1.mono ?_;rintro e w9 ⟨rfl,hb9⟩;clear kS1;clear a0 a1 a2 a3 a4 a5 a6 a7 a8 x0 x1 x2 x3 x4 x5 x6 x7 x8;have Q9:Hid (NBox w9 w.heap.size b):=Q1.out.kept hb9 Q1.out.lt;have X9:Hid (NBox w9 w1.heap.size (bar b)):=X1.out.kept hb9 X1.out.lt;have B9:Hid (Below w.heap.size w w9):=B1.out.trans (hb9.mono B1.out.size);obtain ⟨a0,a1,a2,a3,a4,a5,a6,a7,a8⟩:=Q9.out.fields;obtain ⟨x0,x1,x2,x3,x4,x5,x6,x7,x8⟩:=X9.out.fields))
  go_ret
  exact ⟨rfl,B9.out⟩
 | true =>
  rw [hO,hc] at hA
  rw [hc] at kS
  cases hq:((b.lk:Int) != (b.li:Int)) with
  | false =>
   rw [hq] at hA
   have hR:alF t=0:=by rw [hA];simp [*]
   rw [hR]
   clear hA hO hc hR
   go_enter Tryz.func81,Tryz.ntmps81
   go_wp2_with (first
    | (go_at_call 119;refine kB.mono ?_;rintro e w1 ⟨he,hb1⟩;rw [Nb.arr] at he;subst he;clear kB a0 a1 a2 a3 a4 a5 a6 a7 a8;have A1:=alloc_below w1 (.cells #[.int .i64 (bar b).kind, .int .u64 (bar b).num, .bool (bar b).neg, .string (bar b).dig, .int .i64 (bar b).exp, .string (bar b).txt, .slice (bar b).ab (bar b).lb (bar b).cb, .slice (bar b).ak (bar b).lk (bar b).ck, .slice (bar b).ai (bar b).li (bar b).ci] 26);have b1:Below (w.alloc (.cells b.arr 26)).heap.size (w.alloc (.cells b.arr 26)) (w1.alloc (.cells #[.int .i64 (bar b).kind, .int .u64 (bar b).num, .bool (bar b).neg, .string (bar b).dig, .int .i64 (bar b).exp, .string (bar b).txt, .slice (bar b).ab (bar b).lb (bar b).cb, .slice (bar b).ak (bar b).lk (bar b).ck, .slice (bar b).ai (bar b).li (bar b).ci] 26)):=hb1.trans (A1.mono hb1.size);have Q1:Hid (NBox (w1.alloc (.cells #[.int .i64 (bar b).kind, .int .u64 (bar b).num, .bool (bar b).neg, .string (bar b).dig, .int .i64 (bar b).exp, .string (bar b).txt, .slice (bar b).ab (bar b).lb (bar b).cb, .slice (bar b).ak (bar b).lk (bar b).ck, .slice (bar b).ai (bar b).li (bar b).ci] 26)) w.heap.size b):=Q0.out.kept b1 Q0.out.lt;have X1:Hid (NBox (w1.alloc (.cells #[.int .i64 (bar b).kind, .int .u64 (bar b).num, .bool (bar b).neg, .string (bar b).dig, .int .i64 (bar b).exp, .string (bar b).txt, .slice (bar b).ab (bar b).lb (bar b).cb, .slice (bar b).ak (bar b).lk (bar b).ck, .slice (bar b).ai (bar b).li (bar b).ci] 26)) w1.heap.size (bar b)):=nbox_new w1 (bar b);have B1:Hid (Below w.heap.size w (w1.alloc (.cells #[.int .i64 (bar b).kind, .int .u64 (bar b).num, .bool (bar b).neg, .string (bar b).dig, .int .i64 (bar b).exp, .string (bar b).txt, .slice (bar b).ab (bar b).lb (bar b).cb, .slice (bar b).ak (bar b).lk (bar b).ck, .slice (bar b).ai (bar b).li (bar b).ci] 26))):=B0.out.trans (b1.mono B0.out.size);obtain ⟨a0,a1,a2,a3,a4,a5,a6,a7,a8⟩:=Q1.out.fields;obtain ⟨x0,x1,x2,x3,x4,x5,x6,x7,x8⟩:=X1.out.fields)
    | (have kS1:=kS.out _ B1.out;go_at_call 23;refine kS1.mono ?_;rintro e w9 ⟨rfl,hb9⟩;clear kS1;clear a0 a1 a2 a3 a4 a5 a6 a7 a8 x0 x1 x2 x3 x4 x5 x6 x7 x8;have Q9:Hid (NBox w9 w.heap.size b):=Q1.out.kept hb9 Q1.out.lt;have X9:Hid (NBox w9 w1.heap.size (bar b)):=X1.out.kept hb9 X1.out.lt;have B9:Hid (Below w.heap.size w w9):=B1.out.trans (hb9.mono B1.out.size);obtain ⟨a0,a1,a2,a3,a4,a5,a6,a7,a8⟩:=Q9.out.fields;obtain ⟨x0,x1,x2,x3,x4,x5,x6,x7,x8⟩:=X9.out.fields))
   go_ret
   exact ⟨rfl,B9.out⟩
  | true =>
   rw [hq] at hA
   have hR:alF t=12:=by rw [hA];simp [*]
   rw [hR]
   clear hA hO hc hR
   go_enter Tryz.func81,Tryz.ntmps81
   go_wp2_with (first
    | (go_at_call 119;refine kB.mono ?_;rintro e w1 ⟨he,hb1⟩;rw [Nb.arr] at he;subst he;clear kB a0 a1 a2 a3 a4 a5 a6 a7 a8;have A1:=alloc_below w1 (.cells #[.int .i64 (bar b).kind, .int .u64 (bar b).num, .bool (bar b).neg, .string (bar b).dig, .int .i64 (bar b).exp, .string (bar b).txt, .slice (bar b).ab (bar b).lb (bar b).cb, .slice (bar b).ak (bar b).lk (bar b).ck, .slice (bar b).ai (bar b).li (bar b).ci] 26);have b1:Below (w.alloc (.cells b.arr 26)).heap.size (w.alloc (.cells b.arr 26)) (w1.alloc (.cells #[.int .i64 (bar b).kind, .int .u64 (bar b).num, .bool (bar b).neg, .string (bar b).dig, .int .i64 (bar b).exp, .string (bar b).txt, .slice (bar b).ab (bar b).lb (bar b).cb, .slice (bar b).ak (bar b).lk (bar b).ck, .slice (bar b).ai (bar b).li (bar b).ci] 26)):=hb1.trans (A1.mono hb1.size);have Q1:Hid (NBox (w1.alloc (.cells #[.int .i64 (bar b).kind, .int .u64 (bar b).num, .bool (bar b).neg, .string (bar b).dig, .int .i64 (bar b).exp, .string (bar b).txt, .slice (bar b).ab (bar b).lb (bar b).cb, .slice (bar b).ak (bar b).lk (bar b).ck, .slice (bar b).ai (bar b).li (bar b).ci] 26)) w.heap.size b):=Q0.out.kept b1 Q0.out.lt;have X1:Hid (NBox (w1.alloc (.cells #[.int .i64 (bar b).kind, .int .u64 (bar b).num, .bool (bar b).neg, .string (bar b).dig, .int .i64 (bar b).exp, .string (bar b).txt, .slice (bar b).ab (bar b).lb (bar b).cb, .slice (bar b).ak (bar b).lk (bar b).ck, .slice (bar b).ai (bar b).li (bar b).ci] 26)) w1.heap.size (bar b)):=nbox_new w1 (bar b);have B1:Hid (Below w.heap.size w (w1.alloc (.cells #[.int .i64 (bar b).kind, .int .u64 (bar b).num, .bool (bar b).neg, .string (bar b).dig, .int .i64 (bar b).exp, .string (bar b).txt, .slice (bar b).ab (bar b).lb (bar b).cb, .slice (bar b).ak (bar b).lk (bar b).ck, .slice (bar b).ai (bar b).li (bar b).ci] 26))):=B0.out.trans (b1.mono B0.out.size);obtain ⟨a0,a1,a2,a3,a4,a5,a6,a7,a8⟩:=Q1.out.fields;obtain ⟨x0,x1,x2,x3,x4,x5,x6,x7,x8⟩:=X1.out.fields)
    | (have kS1:=kS.out _ B1.out;go_at_call 23;refine kS1.mono ?_;rintro e w9 ⟨rfl,hb9⟩;clear kS1;clear a0 a1 a2 a3 a4 a5 a6 a7 a8 x0 x1 x2 x3 x4 x5 x6 x7 x8;have Q9:Hid (NBox w9 w.heap.size b):=Q1.out.kept hb9 Q1.out.lt;have X9:Hid (NBox w9 w1.heap.size (bar b)):=X1.out.kept hb9 X1.out.lt;have B9:Hid (Below w.heap.size w w9):=B1.out.trans (hb9.mono B1.out.size);obtain ⟨a0,a1,a2,a3,a4,a5,a6,a7,a8⟩:=Q9.out.fields;obtain ⟨x0,x1,x2,x3,x4,x5,x6,x7,x8⟩:=X9.out.fields))
   go_ret
   exact ⟨rfl,B9.out⟩
end Go.Proofs.YtejlaiofpekchaaGreatDoor
