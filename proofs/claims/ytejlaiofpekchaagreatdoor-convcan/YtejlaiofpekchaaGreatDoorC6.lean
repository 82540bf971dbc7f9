/-
  Texts in bytes, as plain lists: characters, their bytes, where bytes go wrong; and that Go's own decoding agrees. No program is named here.
  Texts in bytes, as plain lists, for this program: where the whole characters end, how many bytes a character has, and what Go's own conversions make of bytes. No program is named here.
  Where the whole characters end, and how far a character is begun, in the program.
  The bytes of which digits tell two each: conv.bytesOf.
-/
import Derived.Test.YtejlaiofpekchaaGreatDoorC3
import Derived.Test.YtejlaiofpekchaaGreatDoorC5
import Derived.Test.YtejlaiofpekchaaGreatDoorC4
import Derived.Lib.DecodeN
import Derived.Laws.BytesArg
import Derived.Laws.IdiomStrings
import Derived.Laws.RangeAny
import Derived.LoopTactic
import Derived.Shelf.Strings.Search1
import Derived.RegionTactic
import Derived.Deep.QuietTactic
import Derived.BigQuiet
namespace Go.Proofs.YtejlaiofpekchaaGreatDoor
def lenN(c:Nat):Nat:=if c<128 then 1 else if 194≤c∧c≤223 then 2 else if 224≤c∧c≤239 then 3 else if 240≤c∧c≤244 then 4 else 0
def lo2(c:Nat):Nat:=if c=224 then 160 else if c=240 then 144 else 128
def hi2(c:Nat):Nat:=if c=237 then 159 else if c=244 then 143 else 191
abbrev ok1(n c0 c1:Nat):Prop:=1<n∧lo2 c0≤c1∧c1≤hi2 c0
abbrev okK(n i c:Nat):Prop:=i<n∧128≤c∧c≤191
def GoodN(n c0 c1 c2 c3:Nat):Prop:=lenN c0≠0∧(2≤lenN c0→ok1 n c0 c1)∧(3≤lenN c0→okK n 2 c2)∧(4≤lenN c0→okK n 3 c3)
def valN(c0 c1 c2 c3:Nat):Nat :=
 if c0<128 then c0 else if c0<224 then c0 % 32*64+c1 % 64 else if c0<240 then c0 % 16*4096+c1 % 64*64+c2 % 64 else c0 % 8*262144+c1 % 64*4096+c2 % 64*64+c3 % 64
theorem len_cases(c:Nat):(lenN c=1∧c<128)∨(lenN c=2∧194≤c∧c≤223)∨(lenN c=3∧224≤c∧c≤239)∨(lenN c=4∧240≤c∧c≤244)∨(lenN c=0∧128≤c∧(c<194∨244<c)):=by
 unfold lenN
 repeat' split
 all_goals omega
theorem lo2_cases(c:Nat):(c=224∧lo2 c=160)∨(c=240∧lo2 c=144)∨(c≠224∧c≠240∧lo2 c=128):=by
 unfold lo2
 repeat' split
 all_goals omega
theorem hi2_cases(c:Nat):(c=237∧hi2 c=159)∨(c=244∧hi2 c=143)∨(c≠237∧c≠244∧hi2 c=191):=by
 unfold hi2
 repeat' split
 all_goals omega
theorem decodeN_good{n c0 c1 c2 c3:Nat}(h:GoodN n c0 c1 c2 c3):Lib.decodeN n c0 c1 c2 c3=(valN c0 c1 c2 c3,lenN c0):=by
 obtain ⟨h0,h1,h2,h3⟩:=h
 have hl:=lo2_cases c0
 have hh:=hi2_cases c0
 unfold ok1 at h1
 unfold okK at h2 h3
 rcases len_cases c0 with ⟨e,h⟩ | ⟨e,h⟩ | ⟨e,h⟩ | ⟨e,h⟩ | ⟨e,h⟩ <;> rw [e] at h0 h1 h2 h3 ⊢
 ·unfold Lib.decodeN valN
  rw [if_pos h,if_pos h]
 ·obtain ⟨k1, k2, k3⟩ := h1 (by omega)
  unfold Lib.decodeN valN
  rw [if_neg (by omega),if_pos (by omega),if_pos (by omega),if_neg (by omega),if_pos (by omega)]
 ·obtain ⟨k1, k2, k3⟩ := h1 (by omega)
  obtain ⟨m1,m2,m3⟩:=h2 (by omega)
  unfold Lib.decodeN valN
  rw [if_neg (by omega),if_neg (by omega),if_pos (by omega),if_pos (by omega),if_neg (by omega),if_neg (by omega),if_pos (by omega)]
 ·obtain ⟨k1, k2, k3⟩ := h1 (by omega)
  obtain ⟨m1,m2,m3⟩:=h2 (by omega)
  obtain ⟨n1,n2,n3⟩:=h3 (by omega)
  unfold Lib.decodeN valN
  rw [if_neg (by omega),if_neg (by omega),if_neg (by omega),if_pos (by omega),if_pos (by omega),if_neg (by omega),if_neg (by omega),if_neg (by omega)]
 ·exact absurd rfl h0
theorem decodeN_bad{n c0 c1 c2 c3:Nat}(z0:c0<256)(z2:c2<256)(z3:c3<256)(h:¬ GoodN n c0 c1 c2 c3):Lib.decodeN n c0 c1 c2 c3=(65533,1):=by
 have hl:=lo2_cases c0
 have hh:=hi2_cases c0
 unfold GoodN ok1 okK at h
 unfold Lib.decodeN
 rcases len_cases c0 with ⟨e,k⟩ | ⟨e,k⟩ | ⟨e,k⟩ | ⟨e,k⟩ | ⟨e,k⟩ <;> rw [e] at h
 all_goals
  repeat' split
  all_goals first | rfl | (exfalso;revert h;simp only [ne_eq,not_not];omega) | (exfalso;omega)
def nth(b:List Int)(k:Nat):Nat:=(b.getD k 0).toNat
def Good(b:List Int):Prop:=GoodN b.length (nth b 0) (nth b 1) (nth b 2) (nth b 3)
def lenB(b:List Int):Nat:=lenN (nth b 0)
def valB(b:List Int):Nat:=valN (nth b 0) (nth b 1) (nth b 2) (nth b 3)
def badB(b:List Int):Nat:=if lenB b=0 then 0 else if ¬ ok1 b.length (nth b 0) (nth b 1) then 1 else if ¬ okK b.length 2 (nth b 2) then 2 else 3
theorem nth_lt{b:List Int}(hz:∀ c∈b,0≤c∧c<256)(i:Nat):nth b i<256:=by
 unfold nth
 rw [List.getD_eq_getElem?_getD]
 rcases Nat.lt_or_ge i b.length with h | h
 ·rw [List.getElem?_eq_getElem h]
  have:=hz _ (List.getElem_mem h)
  show (b[i]).toNat<256
  omega
 ·rw [List.getElem?_eq_none h];decide
theorem nth_drop(b:List Int)(p k:Nat):nth (b.drop p) k=nth b (p+k):=by
 unfold nth
 rw [List.getD_eq_getElem?_getD,List.getD_eq_getElem?_getD,List.getElem?_drop]
theorem get_nth{zs:List Int}(hz:∀ c∈zs,0≤c∧c<256)(i:Nat):((strOfNums zs).get! i).toNat=nth zs i:=by
 rw [show (strOfNums zs).get! i=((zs.map fun n=>UInt8.ofNat n.toNat).toArray)[i]! from rfl,List.getElem!_toArray,List.getElem!_eq_getElem?_getD,List.getElem?_map]
 unfold nth
 rw [List.getD_eq_getElem?_getD]
 rcases Nat.lt_or_ge i zs.length with h | h
 ·rw [List.getElem?_eq_getElem h]
  have hc:=hz _ (List.getElem_mem h)
  show (UInt8.ofNat (zs[i]).toNat).toNat=(zs[i]).toNat
  rw [UInt8.toNat_ofNat']
  exact Nat.mod_eq_of_lt (by omega)
 ·rw [List.getElem?_eq_none h];rfl
theorem decode_good{zs:List Int}(hz:∀ c∈zs,0≤c∧c<256){p:Nat}(h:Good (zs.drop p)):Utf8.decode (strOfNums zs) p=(valB (zs.drop p),lenB (zs.drop p)):=by
 unfold Good at h
 rw [Lib.decode_at,get_nth hz,get_nth hz,get_nth hz,get_nth hz,strOfNums_size]
 rw [List.length_drop] at h
 simp only [nth_drop,Nat.add_zero] at h
 rw [decodeN_good h]
 simp only [valB,lenB,nth_drop,Nat.add_zero]
theorem decode_bad{zs:List Int}(hz:∀ c∈zs,0≤c∧c<256){p:Nat}(h:¬ Good (zs.drop p)):Utf8.decode (strOfNums zs) p=(65533,1):=by
 unfold Good at h
 rw [Lib.decode_at,get_nth hz,get_nth hz,get_nth hz,get_nth hz,strOfNums_size]
 rw [List.length_drop] at h
 simp only [nth_drop,Nat.add_zero] at h
 exact decodeN_bad (nth_lt hz _) (nth_lt hz _) (nth_lt hz _) h
theorem good_ne{b:List Int}(h:Good b)(h0:b=[]→False):1≤lenB b∧lenB b≤b.length∧lenB b≤4:=by
 have hp:0<b.length:=List.length_pos_iff.2 h0
 obtain ⟨k0,k1,k2,k3⟩:=h
 unfold ok1 at k1
 unfold okK at k2 k3
 unfold lenB
 rcases len_cases (nth b 0) with ⟨e,k⟩ | ⟨e,k⟩ | ⟨e,k⟩ | ⟨e,k⟩ | ⟨e,k⟩ <;> rw [e] at k0 k1 k2 k3 ⊢
 ·omega
 ·have:=k1 (by omega);omega
 ·have:=k2 (by omega);omega
 ·have:=k3 (by omega);omega
 ·exact absurd rfl k0
def Right(r:Nat):Prop:=r≤1114111∧(r<55296∨57343<r)
theorem good_right{b:List Int}(h:Good b):Right (valB b):=by
 obtain ⟨k0,k1,k2,k3⟩:=h
 have hlo:=lo2_cases (nth b 0)
 have hhi:=hi2_cases (nth b 0)
 unfold ok1 at k1
 unfold okK at k2 k3
 unfold Right valB valN
 rcases len_cases (nth b 0) with ⟨e,k⟩ | ⟨e,k⟩ | ⟨e,k⟩ | ⟨e,k⟩ | ⟨e,k⟩ <;> rw [e] at k0 k1 k2 k3
 ·rw [if_pos k];omega
 ·have q1 := k1 (by omega)
  rw [if_neg (by omega),if_pos (by omega)]
  omega
 ·have q1 := k1 (by omega)
  have q2:=k2 (by omega)
  rw [if_neg (by omega),if_neg (by omega),if_pos (by omega)]
  omega
 ·have q1 := k1 (by omega)
  have q2:=k2 (by omega)
  have q3:=k3 (by omega)
  rw [if_neg (by omega),if_neg (by omega),if_neg (by omega)]
  omega
 ·exact absurd rfl k0
def goodB(b:List Int):Bool:=decide (lenB b≠0∧(2≤lenB b→ok1 b.length (nth b 0) (nth b 1))∧(3≤lenB b→okK b.length 2 (nth b 2))∧(4≤lenB b→okK b.length 3 (nth b 3)))
theorem goodB_yes{b:List Int}(h:Good b):goodB b=true:=decide_eq_true h
theorem goodB_no{b:List Int}(h:¬ Good b):goodB b=false:=decide_eq_false h
def runesF:Nat→List Int→List Nat × Option Nat
 | 0,_=>([],none)
 | k+1,b=>if b=[] then ([],none) else if goodB b=true then (valB b::(runesF k (b.drop (lenB b))).1,(runesF k (b.drop (lenB b))).2.map (lenB b+·)) else ([],some (badB b))
def runesL(b:List Int):List Nat × Option Nat:=runesF b.length b
theorem runesF_nil(k:Nat):runesF k []=([],none):=by
 cases k with
 | zero=>rfl
 | succ k=>rw [runesF,if_pos rfl]
theorem runesF_more(k:Nat):∀ (b:List Int) (m:Nat),b.length≤k→k≤m→runesF m b=runesF k b:=by
 induction k with
 | zero =>
  intro b m h _
  obtain rfl:b=[]:=List.eq_nil_of_length_eq_zero (by omega)
  rw [runesF_nil,runesF_nil]
 | succ k ih =>
  intro b m h hm
  obtain ⟨m,rfl⟩:∃ m',m=m'+1:=⟨m - 1,by omega⟩
  by_cases h0:b=[]
  ·subst h0;rw [runesF_nil,runesF_nil]
  ·by_cases hg : Good b
   ·have hn := good_ne hg h0
    rw [runesF,runesF,if_neg h0,if_neg h0,goodB_yes hg,if_pos rfl,if_pos rfl,ih (b.drop (lenB b)) m (by rw [List.length_drop];omega) (by omega)]
   ·rw [runesF,runesF,if_neg h0,if_neg h0,goodB_no hg,if_neg (by simp),if_neg (by simp)]
theorem runes_nil:runesL []=([],none):=rfl
theorem runes_good{b:List Int}(h0:b≠[])(h:Good b):runesL b=(valB b::(runesL (b.drop (lenB b))).1,(runesL (b.drop (lenB b))).2.map (lenB b+·)):=by
 have hn:=good_ne h h0
 unfold runesL
 obtain ⟨k,hk⟩:∃ k,b.length=k+1:=⟨b.length - 1,by omega⟩
 rw [hk,runesF,if_neg h0,goodB_yes h,if_pos rfl,runesF_more (b.drop (lenB b)).length (b.drop (lenB b)) k (Nat.le_refl _) (by rw [List.length_drop];omega)]
theorem runes_bad{b:List Int}(h0:b≠[])(h:¬ Good b):runesL b=([],some (badB b)):=by
 have hp:=List.length_pos_iff.2 h0
 unfold runesL
 obtain ⟨k,hk⟩:∃ k,b.length=k+1:=⟨b.length - 1,by omega⟩
 rw [hk,runesF,if_neg h0,goodB_no h,if_neg (by simp)]
theorem text_up{M:List Int→Prop}(nil:M [])(good:∀ b,b≠[]→Good b→M (b.drop (lenB b))→M b)(bad:∀ b,b≠[]→¬ Good b→M b)(k:Nat):∀ b:List Int,b.length≤k→M b:=by
 induction k with
 | zero =>
  intro b h
  obtain rfl:b=[]:=List.eq_nil_of_length_eq_zero (by omega)
  exact nil
 | succ k ih =>
  intro b h
  by_cases h0:b=[]
  ·subst h0;exact nil
  ·by_cases hg : Good b
   ·have hn := good_ne hg h0
    exact good b h0 hg (ih _ (by rw [List.length_drop];omega))
   ·exact bad b h0 hg
theorem text_ind{M:List Int→Prop}(nil:M [])(good:∀ b,b≠[]→Good b→M (b.drop (lenB b))→M b)(bad:∀ b,b≠[]→¬ Good b→M b)(b:List Int):M b:=text_up nil good bad b.length b (Nat.le_refl _)
theorem bad_cases{b:List Int}(h:¬ Good b):(badB b=0∧lenB b=0)∨(badB b=1∧2≤lenB b∧¬ ok1 b.length (nth b 0) (nth b 1)) ∨
  (badB b=2∧3≤lenB b∧ok1 b.length (nth b 0) (nth b 1)∧¬ okK b.length 2 (nth b 2)) ∨
  (badB b=3∧4≤lenB b∧ok1 b.length (nth b 0) (nth b 1)∧okK b.length 2 (nth b 2)∧¬ okK b.length 3 (nth b 3)):=by
 have hg:¬ (lenB b≠0∧(2≤lenB b→ok1 b.length (nth b 0) (nth b 1))∧(3≤lenB b→okK b.length 2 (nth b 2))∧(4≤lenB b→okK b.length 3 (nth b 3))):=h
 unfold badB
 by_cases h0:lenB b=0
 ·left;rw [if_pos h0];exact ⟨rfl,h0⟩
 ·rw [if_neg h0]
  right
  have hc:=len_cases (nth b 0)
  have hb:lenB b=lenN (nth b 0):=rfl
  by_cases h1:ok1 b.length (nth b 0) (nth b 1)
  ·rw [if_neg (fun k => k h1)]
   right
   by_cases h2:okK b.length 2 (nth b 2)
   ·rw [if_neg (fun k => k h2)]
    right
    by_cases h3:4≤lenB b
    ·exact ⟨rfl,h3,h1,h2,fun k=>hg ⟨h0,fun _=>h1,fun _=>h2,fun _=>k⟩⟩
    ·exact absurd ⟨h0,fun _=>h1,fun _=>h2,fun k=>absurd k h3⟩ hg
   ·rw [if_pos h2]
    left
    by_cases h3:3≤lenB b
    ·exact ⟨rfl,h3,h1,h2⟩
    ·exact absurd ⟨h0,fun _=>h1,fun k=>absurd k h3,fun k=>absurd k (by omega)⟩ hg
  ·rw [if_pos h1]
   left
   by_cases h2:2≤lenB b
   ·exact ⟨rfl,h2,h1⟩
   ·exact absurd ⟨h0,fun k=>absurd k h2,fun k=>absurd k (by omega),fun k=>absurd k (by omega)⟩ hg
theorem bad_le{b:List Int}(h0:b≠[])(h:¬ Good b):badB b≤b.length:=by
 have hp:=List.length_pos_iff.2 h0
 rcases bad_cases h with ⟨e,k⟩ | ⟨e,k1,k2⟩ | ⟨e,k1,k2,k3⟩ | ⟨e,k1,k2,k3,k4⟩
 ·omega
 ·omega
 ·have:=k2.1;omega
 ·have:=k3.1;omega
theorem fault_le(b:List Int):∀ p,(runesL b).2=some p→p≤b.length:=by
 induction b using text_ind with
 | nil=>intro p hp;rw [runes_nil] at hp;cases hp
 | good b h0 h ih =>
  intro p hp
  rw [runes_good h0 h] at hp
  dsimp only at hp
  cases hr:(runesL (b.drop (lenB b))).2 with
  | none=>rw [hr] at hp;cases hp
  | some p' =>
   rw [hr] at hp
   simp only [Option.map_some,Option.some.injEq] at hp
   have h1:=ih p' hr
   have hg:=good_ne h h0
   rw [List.length_drop] at h1
   omega
 | bad b h0 h =>
  intro p hp
  rw [runes_bad h0 h] at hp
  simp only [Option.some.injEq] at hp
  subst hp
  exact bad_le h0 h
end Go.Proofs.YtejlaiofpekchaaGreatDoor
namespace Go.Proofs.YtejlaiofpekchaaGreatDoor
def lenR(r:Nat):Nat:=if r<128 then 1 else if r<2048 then 2 else if r<65536 then 3 else 4
theorem val_lenR{b:List Int}(h:Good b):lenR (valB b)=lenB b:=by
 obtain ⟨k0,k1,k2,k3⟩:=h
 have hlo:=lo2_cases (nth b 0)
 have hhi:=hi2_cases (nth b 0)
 unfold ok1 at k1
 unfold okK at k2 k3
 unfold lenR valB valN lenB
 rcases len_cases (nth b 0) with ⟨e,k⟩ | ⟨e,k⟩ | ⟨e,k⟩ | ⟨e,k⟩ | ⟨e,k⟩ <;> rw [e] at k0 k1 k2 k3 ⊢
 ·rw [if_pos k,if_pos k]
 ·have q1 := k1 (by omega)
  rw [if_neg (by omega:¬ nth b 0<128),if_pos (by omega:nth b 0<224),if_neg (by omega),if_pos (by omega)]
 ·have q1 := k1 (by omega)
  have q2:=k2 (by omega)
  rw [if_neg (by omega:¬ nth b 0<128),if_neg (by omega:¬ nth b 0<224),if_pos (by omega:nth b 0<240),if_neg (by omega),if_neg (by omega),if_pos (by omega)]
 ·have q1 := k1 (by omega)
  have q2:=k2 (by omega)
  have q3:=k3 (by omega)
  rw [if_neg (by omega:¬ nth b 0<128),if_neg (by omega:¬ nth b 0<224),if_neg (by omega:¬ nth b 0<240),if_neg (by omega),if_neg (by omega),if_neg (by omega)]
 ·exact absurd rfl k0
def endL(b:List Int):Nat:=((runesL b).1.map lenR).sum
theorem end_nil:endL []=0:=rfl
theorem end_good{b:List Int}(h0:b≠[])(h:Good b):endL b=lenB b+endL (b.drop (lenB b)):=by
 unfold endL
 rw [runes_good h0 h]
 simp only [List.map_cons,List.sum_cons,val_lenR h]
theorem end_bad{b:List Int}(h:¬ Good b):endL b=0:=by
 by_cases h0:b=[]
 ·subst h0;rfl
 ·unfold endL
  rw [runes_bad h0 h]
  rfl
theorem end_le(b:List Int):endL b≤b.length:=by
 induction b using text_ind with
 | nil=>rw [end_nil];simp
 | good b h0 h ih =>
  have:=good_ne h h0
  rw [end_good h0 h]
  rw [List.length_drop] at ih
  omega
 | bad b h0 h=>rw [end_bad h];simp
theorem end_stop(b:List Int):endL b<b.length→¬ Good (b.drop (endL b)):=by
 induction b using text_ind with
 | nil=>intro h;simp at h
 | good b h0 h ih =>
  intro hl
  have hg:=good_ne h h0
  rw [end_good h0 h] at hl ⊢
  rw [←List.drop_drop]
  refine ih ?_
  rw [List.length_drop]
  omega
 | bad b h0 h=>intro _;rw [end_bad h];exact h
theorem fault_end(b:List Int):(runesL b).2=if endL b=b.length then none else some (endL b+badB (b.drop (endL b))):=by
 induction b using text_ind with
 | nil=>rw [runes_nil,end_nil];rfl
 | good b h0 h ih =>
  have hg:=good_ne h h0
  rw [runes_good h0 h,end_good h0 h]
  dsimp only
  rw [ih,List.length_drop,←List.drop_drop]
  by_cases e:endL (b.drop (lenB b))=b.length - lenB b
  ·rw [if_pos e,if_pos (by omega)];rfl
  ·rw [if_neg e, if_neg (by omega)]
   simp only [Option.map_some,Option.some.injEq]
   omega
 | bad b h0 h =>
  have hp:=List.length_pos_iff.2 h0
  rw [runes_bad h0 h,end_bad h,if_neg (by omega)]
  simp
theorem end_text{b:List Int}(h:endL b=b.length):(runesL b).2=none:=by rw [fault_end,if_pos h]
theorem end_fault{b:List Int}(h:endL b≠b.length):(runesL b).2=some (endL b+badB (b.drop (endL b))):=by rw [fault_end,if_neg h]
end Go.Proofs.YtejlaiofpekchaaGreatDoor
namespace Go.Proofs.YtejlaiofpekchaaGreatDoor
open Go.RowKit
theorem Bytes.nat{w:World}{b off:Nat}{zs:List Int}(hb:Bytes w (some ⟨b,off,none⟩) zs){i:Nat}(hi:i<zs.length):w.cell? ⟨b,off+i,none⟩=some (.int .u8 (nth zs i:Nat)):=by
  rcases hb.2.2 with h | ⟨b',off',h,hc⟩
  · subst h;simp at hi
  · cases h
    rw [hc i hi]
    have h1:0≤zs.getD i 0:=by
      rw [List.getD_eq_getElem?_getD,List.getElem?_eq_getElem hi]
      exact (hb.1 _ (List.getElem_mem hi)).1
    unfold nth
    rw [Int.toNat_of_nonneg h1]
theorem rlen_any(r:Nat)(w:World)(h:Right r) :
    Calls Tryz.prog 147 #[.int .i32 (r:Nat)] w fun e w'=>e = .returned (.int .i64 (lenR r:Nat))∧w'=w:=by
  unfold Right at h
  go_enter Tryz.func147,Tryz.ntmps147
  go_wp2
  all_goals
    go_ret
    refine ⟨?_,rfl⟩
    first
    | (have e : lenR r = 1 := by (unfold lenR; repeat' split) <;> omega
       rw [e];rfl)
    | (have e : lenR r = 2 := by (unfold lenR; repeat' split) <;> omega
       rw [e];rfl)
    | (have e : lenR r = 3 := by (unfold lenR; repeat' split) <;> omega
       rw [e];rfl)
    | (have e : lenR r = 4 := by (unfold lenR; repeat' split) <;> omega
       rw [e];rfl)
theorem iter_below(w:World)(s:ByteArray)(p:Nat):Below w.heap.size w (w.iter s p):=(Below.refl _ _).alloc (Nat.le_refl _) _
set_option maxHeartbeats 1000000 in
theorem uwhole_any (a : Option Addr) (n cap : Nat) (zs : List Int) (w : World) (hl : zs.length = n) (hb : Bytes w a zs) (hn : n ≤ 4611686018427387904) :
    Calls Tryz.prog 112 #[.slice a n cap] w fun e w'=>e = .returned (.int .i64 (endL zs:Nat))∧Below w.heap.size w w':=by
  have hZ:Hid (∀ c∈zs,0≤c∧c<256):=hb.1
  have hL:Hid (zs.length=n):=hl
  obtain ⟨s,hS,ks,hsz⟩:∃ s,Hid (s=strOfNums zs)∧(convert 23 9 (.slice a n cap)).run Tryz.prog w = .ok (.string s) w∧s.size=n:=⟨_,rfl,conv_str hb n cap hl,by rw [strOfNums_size,hl]⟩
  clear hb hl
  go_enter Tryz.func112,Tryz.ntmps112
  go_wp2
  go_loopw [3,4] (fun f e wr=>(∃ pos fr:Nat,wr=w.iter s pos∧f = .int .i64 fr∧e = .int .i64 pos∧pos≤n∧Hid (endL zs=pos+endL (zs.drop pos)))∨(∃ p q fr:Nat,wr=w.iter s p∧f = .int .i64 fr∧e = .int .i64 q∧p≤n∧Hid (p=fr+1)∧Hid (q=fr+3)∧Hid (endL zs=fr))) (fun _ _ wr=>n - wr.iterPos w.heap.size)
  case atStart=>exact .inl ⟨0,0,rfl,rfl,rfl,Nat.zero_le _,(by show _=_;simp)⟩
  case round =>
    rcases hrel with ⟨pos,fr,rfl,rfl,rfl,hp,hE⟩ | ⟨p,q,fr,rfl,rfl,rfl,hp,hP,hQ,hE⟩
    · by_cases hlt : pos < n
      · have h0 : zs.drop pos ≠ [] := by intro h; have := congrArg List.length h; rw [List.length_drop, hL.out] at this; simp at this; omega
        by_cases hg:Good (zs.drop pos)
        · have hd := decode_good hZ.out hg
          have hne:=good_ne hg h0
          rw [List.length_drop,hL.out] at hne
          have hR:=good_right hg
          have hlr:=val_lenR hg
          have hE2:Hid (endL zs=(pos+lenB (zs.drop pos))+endL (zs.drop (pos+lenB (zs.drop pos)))):=by
            show _=_
            rw [hE.out,end_good h0 hg,List.drop_drop]
            omega
          have hnx:∀ ty,(Instr.next (.pointer (some ⟨w.heap.size,0,none⟩)) true ty).run Tryz.prog (w.iter s pos) = .ok (.tuple #[.bool true, .int .i64 pos, .int .i32 (valB (zs.drop pos):Nat)]) (w.iter s (pos+lenB (zs.drop pos))):=fun ty=>by
            rw [run_next_any w s pos ty (by omega),hS.out,hd]
          clear hd hE h0 hg
          generalize valB (zs.drop pos)=V at *
          generalize lenB (zs.drop pos)=L at *
          have hlr':Hid (lenR V=L):=hlr
          clear hlr
          have k:=fun w'=>rlen_any V w' hR
          rw [hlr'.out] at k
          go_wp2_with (go_at_call 147;refine (k _).mono ?_;rintro e w' ⟨rfl,rfl⟩)
          go_roundw
          case rel=>exact .inl ⟨pos+L,pos,rfl,rfl,by go_num,by omega,hE2⟩
          case measure=>simp;omega
        · have hd := decode_bad hZ.out hg
          have hE2:Hid (endL zs=pos):=by
            show _=_
            rw [hE.out,end_bad hg,Nat.add_zero]
          have hnx:∀ ty,(Instr.next (.pointer (some ⟨w.heap.size,0,none⟩)) true ty).run Tryz.prog (w.iter s pos) = .ok (.tuple #[.bool true, .int .i64 pos, .int .i32 (65533:Nat)]) (w.iter s (pos+1)):=fun ty=>by
            rw [run_next_any w s pos ty (by omega),hS.out,hd]
          clear hd hE h0 hg
          have k:=fun w'=>rlen_any 65533 w' (by unfold Right;omega)
          rw [show lenR 65533=3 from rfl] at k
          go_wp2_with (go_at_call 147;refine (k _).mono ?_;rintro e w' ⟨rfl,rfl⟩)
          go_roundw
          case rel=>exact .inr ⟨pos+1,pos+3,pos,rfl,rfl,by go_num,by omega,rfl,rfl,hE2⟩
          case measure=>simp;omega
      · obtain rfl : pos = n := by omega
        have hE2:Hid (endL zs=pos):=by
          show _=_
          rw [hE.out,List.drop_of_length_le (by rw [hL.out];omega),end_nil]
          rfl
        have hnx:∀ ty,(Instr.next (.pointer (some ⟨w.heap.size,0,none⟩)) true ty).run Tryz.prog (w.iter s pos)=_:=fun ty=>run_next_end w s pos ty (by omega)
        clear hE
        go_wp2
        go_ret
        rw [hE2.out]
        exact ⟨rfl,iter_below _ _ _⟩
    · have hne : ((p : Int) != (q : Int)) = true := by have := hP.out; have := hQ.out; simp; omega
      by_cases hlt:p<n
      · have hnx : ∀ ty, (Instr.next (.pointer (some ⟨w.heap.size, 0, none⟩)) true ty).run Tryz.prog (w.iter s p) = _ := fun ty => run_next_any w s p ty (by omega)
        go_wp2
        go_ret
        rw [hE.out]
        exact ⟨rfl,iter_below _ _ _⟩
      · obtain rfl : p = n := by omega
        have hnx:∀ ty,(Instr.next (.pointer (some ⟨w.heap.size,0,none⟩)) true ty).run Tryz.prog (w.iter s p)=_:=fun ty=>run_next_end w s p ty (by omega)
        have hne2:((q:Int) != (p:Int))=true:=by have:=hP.out;have:=hQ.out;simp;omega
        go_wp2
        go_ret
        rw [hE.out]
        exact ⟨rfl,iter_below _ _ _⟩
end Go.Proofs.YtejlaiofpekchaaGreatDoor
namespace Go.Proofs.YtejlaiofpekchaaGreatDoor
open Go.RowKit
set_option linter.unusedVariables false
theorem vib_any(s:ByteArray)(c:Int)(w:World):Calls Tryz.prog 125 #[.string s, .int .u8 c] w fun e w'=>e = .returned (.int .i64 (Lib.indexByte s.data.toList c.toNat.toUInt8))∧w'=w:=by
 have k:Calls Tryz.prog 153 #[.string s, .int .u8 c] w fun e w'=>e = .returned (.int .i64 (Lib.indexByte s.data.toList c.toNat.toUInt8))∧w'=w:=Any.stringslite_IndexByte lays217 s c w
 generalize Lib.indexByte s.data.toList c.toNat.toUInt8=X at *
 go_enter Tryz.func125,Tryz.ntmps125
 go_wp2_with (go_at_call 153;refine k.mono ?_;rintro e w1 ⟨rfl,hw⟩;subst hw)
 go_ret
 exact ⟨rfl,rfl⟩
def hv(c:Nat):Int:=Lib.indexByte [48,49,50,51,52,53,54,55,56,57,97,98,99,100,101,102] ((c:Int).toNat.toUInt8)
set_option maxRecDepth 100000 in
theorem hv_in:∀ c:Nat,c<256 → -1≤hv c∧hv c<16:=by decide
theorem hv_any(c:Nat)(w:World):Calls Tryz.prog 125 #[.string ⟨#[48,49,50,51,52,53,54,55,56,57,97,98,99,100,101,102]⟩, .int .u8 (c:Int)] w fun e w'=>e = .returned (.int .i64 (hv c))∧w'=w:=vib_any ⟨#[48,49,50,51,52,53,54,55,56,57,97,98,99,100,101,102]⟩ (c:Int) w
def unh(s:ByteArray):Nat→Option (List Int)
 | 0=>some []
 | k+1=>match unh s k with
  | none=>none
  | some l=>if hv ((s.data[2*k]?.getD 0).toNat)<0∨hv ((s.data[2*k+1]?.getD 0).toNat)<0 then none else some (l++[hv ((s.data[2*k]?.getD 0).toNat)*16+hv ((s.data[2*k+1]?.getD 0).toNat)])
def unhA(s:ByteArray):Option (List Int):=if s.size % 2=0 then unh s (s.size / 2) else none
theorem vbytes_lit(w:World)(zs:List Int)(hz:∀ c∈zs,0≤c∧c<256)(hl:zs.length≤maxLen):Bytes (w.alloc (.cells (zs.map (Value.int .u8)).toArray 5)) (some ⟨w.heap.size,0,none⟩) zs:=by
 refine ⟨hz,hl, .inr ⟨w.heap.size,0,rfl,fun i hi=>?_⟩⟩
 rw [Nat.zero_add,cell_row (heap_alloc_new w _)]
 simp [List.getD_eq_getElem?_getD,hi]
set_option maxRecDepth 100000 in
theorem or16:∀ h:Nat,h<16→∀ l:Nat,l<16→bits .or .i64 ((h:Int)*16) (l:Int) % 256=(h:Int)*16+(l:Int):=by decide
def UnR(s:ByteArray)(w:World)(e:Ending)(w':World):Prop:=((∃ v l,e = .returned (.tuple #[v, .bool true])∧unhA s=some l∧OwnsB w' w.heap.size v l)∨(e = .returned (.tuple #[.slice none 0 0, .bool false])∧unhA s=none))∧Below w.heap.size w w'
theorem unh_none{s:ByteArray}(j:Nat)(h:unh s j=none):∀ {m:Nat},j≤m→unh s m=none:=by
 intro m hm
 induction hm with
 | refl=>exact h
 | step _ ih=>rw [unh,ih]
theorem bdn(w:World)(q:Nat):Below w.heap.size w (w.drewN q):=⟨rfl,rfl,rfl,Nat.le_refl _,fun _ _=>rfl⟩
set_option maxHeartbeats 4000000 in
set_option maxRecDepth 100000 in
theorem bytesof_any(s:ByteArray)(hs:s.size<1000000)(w:World) :
  Calls Tryz.prog 84 #[.string s] w fun e w'=>UnR s w e w':=by
 by_cases h2:s.size % 2=0
 ·have he : ((s.size : Int) % 2 != 0) = false := by simp; omega
  have hA:Hid (unhA s=unh s (s.size / 2)):=if_pos h2
  have hev:Hid (s.size % 2=0):=h2
  clear h2
  go_enter Tryz.func84,Tryz.ntmps84
  go_wp2_with fail
  go_loopw [4,5] (fun s4 s5 wr=>∃ (i k:Nat) (l:List Int),i≤s.size∧s5 = .int .i64 (i:Int)∧Hid (i=2*k∧unh s k=some l∧l.length=k∧OwnsB wr w.heap.size s4 l∧Below w.heap.size w wr)) (fun _ v _=>s.size - (intOf v).toNat)
  case atStart=>exact ⟨0,0,[],by omega,rfl,rfl,rfl,rfl,ownsB_nil _ _,Below.refl _ _⟩
  case round =>
   obtain ⟨i,k,l,hk,rfl,hI⟩:=hrel
   by_cases hlt:i<s.size
   ·have hz : (i : Int) < ((s.size : Nat) : Int) := by omega
    have hi1:i+1<s.size:=by have:=hev.out;have:=hI.out.1;omega
    have hz1:((i+1:Nat):Int)<((s.size:Nat):Int):=by omega
    have hz2:(i:Int)+1<((s.size:Nat):Int):=by omega
    have hz3:(0:Int)≤(i:Int)+1:=by omega
    have hz4:(0:Int)≤(i:Int):=by omega
    have wk:IntKind.i64.wrap ((i:Int)+1)=((i+1:Nat):Int):=by rw [IntKind.wrap_i64];omega
    have wk2:IntKind.i64.wrap ((i:Int)+2)=((i+2:Nat):Int):=by rw [IntKind.wrap_i64];omega
    go_wp2_with fail
    go_quiet ((go_at_call 125;exact Calls.quiet_of_same (hv_any _ _)))
    have hH:=hv_in s[i].toNat (UInt8.toNat_lt _)
    have hL:=hv_in s[i+1].toNat (UInt8.toNat_lt _)
    have hu:Hid (unh s (k+1)=if hv s[i].toNat<0∨hv s[i+1].toNat<0 then none else some (l++[hv s[i].toNat*16+hv s[i+1].toNat])):=by
     show _=_
     obtain ⟨e,h0,_⟩:=hI.out
     have e1:s.data[2*k]?.getD 0=s[i]:=by subst e;rw [Array.getElem?_eq_getElem (show 2*k<s.data.size from hlt)];rfl
     have e2:s.data[2*k+1]?.getD 0=s[i+1]:=by subst e;rw [Array.getElem?_eq_getElem (show 2*k+1<s.data.size from hi1)];rfl
     rw [unh,h0]
     simp only [e1,e2]
    have hB2:Hid (OwnsB (wr.drewN nq) w.heap.size (u4) l∧Below w.heap.size w (wr.drewN nq)):=by
     have hb:Below wr.heap.size wr (wr.drewN nq):=bdn wr nq
     exact ⟨hI.out.2.2.2.1.below hb,hI.out.2.2.2.2.trans (hb.mono hI.out.2.2.2.2.size)⟩
    have hik:Hid (i=2*k∧l.length=k):=⟨hI.out.1,hI.out.2.2.1⟩
    clear hI
    generalize hv s[i].toNat=H at *
    generalize hv s[i+1].toNat=L at *
    generalize wr.drewN nq=X at *
    by_cases h0:H<0
    ·have g0 : decide (H < 0) = true := by simpa using h0
     have hn:Hid (unhA s=none):=by
      show _=_
      rw [hA.out]
      exact unh_none (k+1) (by rw [hu.out,if_pos (.inl h0)]) (by have:=hik.out.1;omega)
     go_wp2_with fail
     refine bodyPost_ret (v := .tuple #[.slice none 0 0, .bool false]) (by simp [results,Tryz.results84,go_sem]) rfl ⟨.inr ⟨rfl,hn.out⟩,hB2.out.2⟩
    have g0:decide (H<0)=false:=by simpa using h0
    by_cases h1:L<0
    ·have g1 : decide (L < 0) = true := by simpa using h1
     have hn:Hid (unhA s=none):=by
      show _=_
      rw [hA.out]
      exact unh_none (k+1) (by rw [hu.out,if_pos (.inr h1)]) (by have:=hik.out.1;omega)
     go_wp2_with fail
     refine bodyPost_ret (v := .tuple #[.slice none 0 0, .bool false]) (by simp [results,Tryz.results84,go_sem]) rfl ⟨.inr ⟨rfl,hn.out⟩,hB2.out.2⟩
    have g1:decide (L<0)=false:=by simpa using h1
    have hu2:Hid (unh s (k+1)=some (l++[H*16+L])):=by show _=_;rw [hu.out,if_neg (by omega)]
    have hor:bits .or .i64 (H*16) L % 256=H*16+L:=by
     obtain ⟨h,rfl⟩:∃ h:Nat,H=(h:Int):=⟨H.toNat,by omega⟩
     obtain ⟨m,rfl⟩:∃ m:Nat,L=(m:Int):=⟨L.toNat,by omega⟩
     exact or16 h (by omega) m (by omega)
    have hC:Hid (0≤H*16+L∧H*16+L<256):=⟨by omega,by omega⟩
    have hHr:Hid (0≤H∧H<16):=⟨by omega,by omega⟩
    clear hu
    go_wp2_with (at_builtin;rw [hor];refine wpList_append_bytes rfl _ _ rfl w.heap.size u4 l [H*16+L] rfl (hB2.out.1.alloc _) (some ⟨X.heap.size,0,none⟩) 1 1 rfl rfl (by simp) (vbytes_lit X [H*16+L] (by simpa using hC.out) (by simp [maxLen])) (by have:=hik.out;simp;omega) (Nat.le_trans hB2.out.2.size (alloc_below X _).size) ?_;intro v2 x2 hO2 hg2;have b2:Hid (Below w.heap.size w x2):=grown_below (hB2.out.2.trans ((alloc_below X _).mono hB2.out.2.size)) (hB2.out.1.alloc _) hg2 (Nat.le_trans hB2.out.2.size (alloc_below X _).size);have O2:Hid (OwnsB x2 w.heap.size v2 (l++[H*16+L])):=hO2;clear hO2 hg2)
    go_roundw
    case rel=>exact ⟨i+2,k+1,l++[H*16+L],by have:=hik.out;have:=hev.out;omega,by go_num,by have:=hik.out;omega,hu2.out,by simp [hik.out.2],O2.out,b2.out⟩
    case measure=>simp [intOf];omega
   ·have hz : ¬ (i : Int) < ((s.size : Nat) : Int) := by omega
    have hf:Hid (unhA s=some l):=by show _=_;rw [hA.out,show s.size / 2=k by have:=hI.out.1;omega];exact hI.out.2.1
    go_wp2_with fail
    refine bodyPost_ret (v := .tuple #[u4, .bool true]) (by simp [results,Tryz.results84,go_sem]) rfl ⟨.inl ⟨u4,l,rfl,hf.out,hI.out.2.2.2.1⟩,hI.out.2.2.2.2⟩
 ·have he : ((s.size : Int) % 2 != 0) = true := by simp; omega
  have hA:Hid (unhA s=none):=if_neg h2
  clear h2
  go_enter Tryz.func84,Tryz.ntmps84
  go_wp2_with fail
  refine bodyPost_ret (v := .tuple #[.slice none 0 0, .bool false]) (by simp [results,Tryz.results84,go_sem]) rfl ⟨.inr ⟨rfl,hA.out⟩,Below.refl _ _⟩
end Go.Proofs.YtejlaiofpekchaaGreatDoor
