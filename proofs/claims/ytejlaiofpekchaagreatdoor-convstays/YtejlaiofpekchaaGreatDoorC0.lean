/-
  Natural numbers as digits, as plain lists of bytes: which are numbers, what they are worth, the one form of a number, and how two stand. No program is named here.
  Digits and groups of digits, the lowest first, to whatever base: what they are worth, what is added to one of them, what is carried, and what is divided. No program is named here.
  Numbers as texts of bytes, and what each call of the document answers, said over the numbers alone.
-/
import Derived.Laws.BytesArg
import Derived.Lib.Bytealg
import Derived.Lib.Small
namespace Go.Proofs.YtejlaiofpekchaaGreatDoor
def Digs(s:List Int):Prop:=∀ c∈s,48≤c∧c≤57
def valS(s:List Int):Nat:=s.foldl (fun n c=>n*10+(c - 48).toNat) 0
def Canon(s:List Int):Prop:=s≠[]∧Digs s∧(s.getD 0 0=48→s.length=1)
def RightS(s:List Int):Prop:=Canon s∧s.length≤800
def numF:Nat→Nat→List Int
 | 0,n=>[((48+n % 10:Nat):Int)]
 | k+1,n=>if n<10 then [((48+n:Nat):Int)] else numF k (n / 10)++[((48+n % 10:Nat):Int)]
def numL(n:Nat):List Int:=numF n n
theorem numF_more(k:Nat):∀ n m,n≤k→k≤m→numF m n=numF k n:=by
 induction k with
 | zero =>
  intro n m h _
  obtain rfl:n=0:=by omega
  cases m with
  | zero=>rfl
  | succ m=>rfl
 | succ k ih =>
  intro n m h hm
  obtain ⟨m,rfl⟩:∃ m',m=m'+1:=⟨m - 1,by omega⟩
  rw [numF,numF]
  by_cases h1:n<10
  ·rw [if_pos h1,if_pos h1]
  ·rw [if_neg h1,if_neg h1,ih (n / 10) m (by omega) (by omega)]
theorem num_small{n:Nat}(h:n<10):numL n=[((48+n:Nat):Int)]:=by
 unfold numL
 cases n with
 | zero=>rfl
 | succ n=>rw [numF,if_pos h]
theorem num_big{n:Nat}(h:10≤n):numL n=numL (n / 10)++[((48+n % 10:Nat):Int)]:=by
 unfold numL
 obtain ⟨k,rfl⟩:∃ k,n=k+1:=⟨n - 1,by omega⟩
 rw [numF,if_neg (by omega),numF_more ((k+1) / 10) ((k+1) / 10) k (Nat.le_refl _) (by omega)]
theorem num_ind{M:Nat→Prop}(small:∀ n,n<10→M n)(big:∀ n,10≤n→M (n / 10)→M n)(n:Nat):M n:=by
 have h:∀ k n,n≤k→M n:=by
  intro k
  induction k with
  | zero=>intro n h;exact small n (by omega)
  | succ k ih =>
   intro n h
   by_cases h1:n<10
   ·exact small n h1
   ·exact big n (by omega) (ih _ (by omega))
 exact h n n (Nat.le_refl _)
theorem val_snoc(s:List Int)(c:Int):valS (s++[c])=valS s*10+(c - 48).toNat:=by
 unfold valS
 rw [List.foldl_append]
 rfl
theorem fold_start(s:List Int):∀ n,s.foldl (fun n c=>n*10+(c - 48).toNat) n=n*10 ^ s.length+valS s:=by
 unfold valS
 induction s with
 | nil=>intro n;simp
 | cons c s ih =>
  intro n
  rw [List.foldl_cons,List.foldl_cons,ih,ih (0*10+(c - 48).toNat),List.length_cons,Nat.pow_succ]
  rw [Nat.zero_mul,Nat.zero_add,Nat.add_mul,Nat.add_assoc,Nat.mul_assoc,Nat.mul_comm 10]
theorem val_append(s t:List Int):valS (s++t)=valS s*10 ^ t.length+valS t:=by
 show (s++t).foldl _ 0=_
 rw [List.foldl_append,fold_start]
 rfl
theorem val_cons(c:Int)(s:List Int):valS (c::s)=(c - 48).toNat*10 ^ s.length+valS s:=by
 have h:=val_append [c] s
 rw [List.singleton_append] at h
 rw [h]
 show (0*10+(c - 48).toNat)*_+_=_
 rw [Nat.zero_mul,Nat.zero_add]
theorem digs_append{s t:List Int}(h1:Digs s)(h2:Digs t):Digs (s++t):=fun c hc=>by
 rcases List.mem_append.1 hc with h | h
 ·exact h1 c h
 ·exact h2 c h
theorem digs_one{n:Nat}(h:n<10):Digs [((48+n:Nat):Int)]:=by
 intro c hc
 simp only [List.mem_cons,List.not_mem_nil,or_false] at hc
 omega
theorem num_ne(n:Nat):numL n≠[]:=by
 by_cases h:n<10
 ·rw [num_small h];simp
 ·rw [num_big (by omega)];simp
theorem num_digs(n:Nat):Digs (numL n):=by
 induction n using num_ind with
 | small n h=>rw [num_small h];exact digs_one h
 | big n h ih=>rw [num_big h];exact digs_append ih (digs_one (by omega))
theorem num_head(n:Nat):n≠0→(numL n).getD 0 0≠48:=by
 induction n using num_ind with
 | small n h =>
  intro h0
  rw [num_small h]
  show ((48+n:Nat):Int)≠48
  omega
 | big n h ih =>
  intro _
  rw [num_big h]
  have h1:=ih (by omega)
  have h2:=num_ne (n / 10)
  rcases hx:numL (n / 10) with _ | ⟨x,l⟩
  ·exact absurd hx h2
  ·rw [hx] at h1
   exact h1
theorem num_canon(n:Nat):Canon (numL n):=by
 refine ⟨num_ne n,num_digs n,fun h=>?_⟩
 by_cases h0:n=0
 ·subst h0;rfl
 ·exact absurd h (num_head n h0)
theorem val_num(n:Nat):valS (numL n)=n:=by
 induction n using num_ind with
 | small n h =>
  rw [num_small h]
  show 0*10+(((48+n:Nat):Int) - 48).toNat=n
  omega
 | big n h ih =>
  rw [num_big h,val_snoc,ih]
  omega
theorem val_lt{s:List Int}(h:Digs s):valS s<10 ^ s.length:=by
 induction s with
 | nil=>simp [valS]
 | cons c s ih =>
  have h1:=ih fun x hx=>h x (by simp [hx])
  have h2:=h c (by simp)
  have h3:(c - 48).toNat≤9:=by omega
  rw [val_cons,List.length_cons,Nat.pow_succ]
  have h4:(c - 48).toNat*10 ^ s.length≤9*10 ^ s.length:=Nat.mul_le_mul_right _ h3
  omega
theorem val_ge{s:List Int}(h:Canon s)(h1:valS s≠0):10 ^ (s.length - 1)≤valS s:=by
 obtain ⟨h0,hd,hz⟩:=h
 rcases s with _ | ⟨c,s⟩
 ·exact absurd rfl h0
 ·rw [List.length_cons, Nat.add_sub_cancel]
  rw [val_cons] at h1 ⊢
  have h2:=hd c (by simp)
  by_cases hc:c=48
  ·have h3 := hz (by rw [hc]; rfl)
   rw [List.length_cons] at h3
   have h4:s=[]:=List.eq_nil_of_length_eq_zero (by omega)
   subst h4
   rw [hc] at h1
   exact absurd rfl h1
  ·have h3 : 1 ≤ (c - 48).toNat := by omega
   have h4:1*10 ^ s.length≤(c - 48).toNat*10 ^ s.length:=Nat.mul_le_mul_right _ h3
   omega
theorem num_snoc(s:List Int)(c:Int)(hs:s=[]∨(Canon s∧valS s≠0))(hc:48≤c∧c≤57)(ih:s≠[]→numL (valS s)=s):numL (valS (s++[c]))=s++[c]:=by
 rw [val_snoc]
 rcases hs with rfl | ⟨h1,h2⟩
 ·rw [num_small (by show 0 * 10 + _ < 10; omega)]
  show [((48+(0*10+(c - 48).toNat):Nat):Int)]=[c]
  simp only [List.cons.injEq,and_true]
  omega
 ·rw [num_big (by omega), show (valS s * 10 + (c - 48).toNat) / 10 = valS s from by omega, ih h1.1, show (valS s * 10 + (c - 48).toNat) % 10 = (c - 48).toNat from by omega]
  congr 1
  simp only [List.cons.injEq,and_true]
  omega
theorem canon_front{s:List Int}{c:Int}(h:Canon (s++[c]))(h0:s≠[]):Canon s∧valS s≠0:=by
 obtain ⟨_,hd,hz⟩:=h
 have hp:=List.length_pos_iff.2 h0
 have hs:Digs s:=fun x hx=>hd x (by simp [hx])
 have hh:(s++[c]).getD 0 0=s.getD 0 0:=by
  rcases s with _ | ⟨x,l⟩
  ·exact absurd rfl h0
  ·rfl
 have hne:s.getD 0 0≠48:=by
  intro h1
  have h2:=hz (by rw [hh];exact h1)
  rw [List.length_append,List.length_cons,List.length_nil] at h2
  omega
 refine ⟨⟨h0,hs,fun h1=>absurd h1 hne⟩,?_⟩
 rcases s with _ | ⟨x,l⟩
 ·exact absurd rfl h0
 ·have h2 : (48 : Int) ≤ x ∧ x ≤ 57 := hs x (by simp)
  have h3:x≠48:=hne
  rw [val_cons]
  have h4:1*10 ^ l.length≤(x - 48).toNat*10 ^ l.length:=Nat.mul_le_mul_right _ (by omega)
  have h5:0<10 ^ l.length:=Nat.pow_pos (by omega)
  omega
theorem num_val_up(k:Nat):∀ s:List Int,s.length≤k→Canon s→numL (valS s)=s:=by
 induction k with
 | zero =>
  intro s h hc
  exact absurd (List.eq_nil_of_length_eq_zero (by omega)) hc.1
 | succ k ih =>
  intro s h hc
  obtain ⟨t,c,rfl⟩:∃ t c,s=t++[c]:=⟨s.dropLast,s.getLast hc.1,(List.dropLast_concat_getLast hc.1).symm⟩
  rw [List.length_append,List.length_cons,List.length_nil] at h
  refine num_snoc t c ?_ (hc.2.1 c (by simp)) fun h0=>ih t (by omega) (canon_front hc h0).1
  by_cases h0:t=[]
  ·exact .inl h0
  ·exact .inr (canon_front hc h0)
theorem num_val{s:List Int}(h:Canon s):numL (valS s)=s:=num_val_up s.length s (Nat.le_refl _) h
theorem num_len{n k:Nat}(hk:1≤k):(numL n).length≤k ↔ n<10 ^ k:=by
 constructor
 ·intro h
  have h1:=val_lt (num_digs n)
  rw [val_num] at h1
  exact Nat.lt_of_lt_of_le h1 (Nat.pow_le_pow_right (by omega) h)
 ·intro h
  by_cases h0:n=0
  ·subst h0;exact hk
  ·have h1 := val_ge (num_canon n) (by rw [val_num]; exact h0)
   rw [val_num] at h1
   rcases Nat.lt_or_ge k (numL n).length with h2 | h2
   ·have h3 : 10 ^ k ≤ 10 ^ ((numL n).length - 1) := Nat.pow_le_pow_right (by omega) (by omega)
    omega
   ·exact h2
theorem right_num{n:Nat}:RightS (numL n) ↔ n<10 ^ 800:=⟨fun h=>(num_len (k:=800) (by omega)).1 h.2,fun h=>⟨num_canon n,(num_len (k:=800) (by omega)).2 h⟩⟩
def lowV:List Nat→Nat
 | []=>0
 | d::l=>d+10*lowV l
theorem low_append(l m:List Nat):lowV (l++m)=lowV l+10 ^ l.length*lowV m:=by
 induction l with
 | nil=>simp [lowV]
 | cons d l ih =>
  rw [List.cons_append]
  show d+10*lowV (l++m)=d+10*lowV l+10 ^ (l.length+1)*lowV m
  rw [ih,Nat.pow_succ,Nat.mul_add,Nat.mul_comm (10 ^ l.length) 10,Nat.mul_assoc]
  omega
theorem low_rev(s:List Int):lowV (s.reverse.map fun c=>(c - 48).toNat)=valS s:=by
 induction s with
 | nil=>rfl
 | cons c s ih =>
  rw [List.reverse_cons,List.map_append,low_append,ih,val_cons,List.length_map,List.length_reverse]
  show valS s+10 ^ s.length*((c - 48).toNat+10*0)=_
  rw [Nat.mul_zero,Nat.add_zero,Nat.mul_comm]
  omega
end Go.Proofs.YtejlaiofpekchaaGreatDoor
namespace Go.Proofs.YtejlaiofpekchaaGreatDoor
def lv(b:Int):List Int→Int
 | []=>0
 | g::l=>g+b*lv b l
def Grp(b:Int)(l:List Int):Prop:=∀ g∈l,0≤g∧g<b
theorem lv_cons(b g:Int)(l:List Int):lv b (g::l)=g+b*lv b l:=rfl
theorem lv_append(b:Int)(l m:List Int):lv b (l++m)=lv b l+b ^ l.length*lv b m:=by
 induction l with
 | nil=>simp [lv]
 | cons g l ih =>
  rw [List.cons_append,lv_cons,ih,lv_cons,List.length_cons,Int.pow_succ,Int.mul_add,Int.mul_comm (b ^ l.length) b,Int.mul_assoc]
  omega
theorem lv_snoc(b:Int)(l:List Int)(g:Int):lv b (l++[g])=lv b l+b ^ l.length*g:=by
 rw [lv_append]
 show _+_*(g+b*0)=_
 rw [Int.mul_zero,Int.add_zero]
theorem lv_set(b:Int)(l:List Int):∀ (i:Nat) (c:Int),i<l.length→lv b (l.set i (l.getD i 0+c))=lv b l+b ^ i*c:=by
 induction l with
 | nil=>intro i c h;simp at h
 | cons g l ih =>
  intro i c h
  cases i with
  | zero =>
   show g+c+b*lv b l=g+b*lv b l+b ^ 0*c
   rw [Int.pow_zero,Int.one_mul]
   omega
  | succ i =>
   show g+b*lv b (l.set i (l.getD i 0+c))=g+b*lv b l+b ^ (i+1)*c
   rw [ih i c (by simpa using h),Int.pow_succ,Int.mul_add,Int.mul_comm (b ^ i) b,Int.mul_assoc]
   omega
theorem lv_zeros(b:Int)(k:Nat):lv b (List.replicate k 0)=0:=by
 induction k with
 | zero=>rfl
 | succ k ih=>rw [List.replicate_succ,lv_cons,ih,Int.mul_zero];rfl
theorem lv_take(b:Int)(l:List Int)(k:Nat)(h:k<l.length):lv b (l.take (k+1))=lv b (l.take k)+b ^ k*l.getD k 0:=by
 rw [List.take_succ_eq_append_getElem h,lv_snoc,List.length_take,Nat.min_eq_left (by omega),List.getD_eq_getElem?_getD,List.getElem?_eq_getElem h]
 rfl
theorem lv_drop(b:Int)(l:List Int)(k:Nat)(h:k<l.length):lv b (l.drop k)=l.getD k 0+b*lv b (l.drop (k+1)):=by
 rw [List.drop_eq_getElem_cons h,lv_cons,List.getD_eq_getElem?_getD,List.getElem?_eq_getElem h]
 rfl
theorem lv_nonneg{b:Int}(hb:0≤b){l:List Int}(h:∀ g∈l,0≤g):0≤lv b l:=by
 induction l with
 | nil=>exact Int.le_refl _
 | cons g l ih =>
  have h1:=ih fun x hx=>h x (by simp [hx])
  have h2:=h g (by simp)
  have h3:=Int.mul_nonneg hb h1
  rw [lv_cons]
  omega
theorem lv_lt{b:Int}(hb:0<b){l:List Int}(h:Grp b l):0≤lv b l∧lv b l<b ^ l.length:=by
 refine ⟨lv_nonneg (by omega) fun g hg=>(h g hg).1,?_⟩
 induction l with
 | nil=>show (0:Int)<b ^ 0;rw [Int.pow_zero];omega
 | cons g l ih =>
  have h1:=ih fun x hx=>h x (by simp [hx])
  have h2:=h g (by simp)
  rw [lv_cons,List.length_cons,Int.pow_succ,Int.mul_comm (b ^ l.length) b]
  have h3:b*(lv b l+1)≤b*b ^ l.length:=Int.mul_le_mul_of_nonneg_left (by omega) (by omega)
  rw [Int.mul_add,Int.mul_one] at h3
  omega
theorem grp_nil(b:Int):Grp b []:=fun _ h=>by cases h
theorem Grp.snoc{b:Int}{l:List Int}(h:Grp b l){g:Int}(hg:0≤g∧g<b):Grp b (l++[g]):=fun x hx=>by
 rcases List.mem_append.1 hx with h1 | h1
 ·exact h x h1
 ·simp only [List.mem_cons, List.not_mem_nil, or_false] at h1
  rw [h1];exact hg
theorem Grp.at{b:Int}{l:List Int}(h:Grp b l){k:Nat}(hk:k<l.length):0≤l.getD k 0∧l.getD k 0<b:=by
 rw [List.getD_eq_getElem?_getD,List.getElem?_eq_getElem hk]
 exact h _ (List.getElem_mem hk)
theorem pow_pos'{b:Int}(hb:0<b)(k:Nat):0<b ^ k:=Int.pow_pos hb
def intsN(l:List Nat):List Int:=l.map fun d=>((d:Nat):Int)
theorem lv_ints(l:List Nat):lv 10 (intsN l)=((lowV l:Nat):Int):=by
 induction l with
 | nil=>rfl
 | cons d l ih =>
  show (d:Int)+10*lv 10 (intsN l)=((d+10*lowV l:Nat):Int)
  rw [ih]
  omega
def dgs(s:List Int):List Int:=s.reverse.map fun c=>c - 48
theorem dgs_len(s:List Int):(dgs s).length=s.length:=by simp [dgs]
theorem dgs_grp{s:List Int}(h:Digs s):Grp 10 (dgs s):=fun g hg=>by
 obtain ⟨c,hc,rfl⟩:=List.mem_map.1 hg
 have:=h c (List.mem_reverse.1 hc)
 omega
theorem dgs_val{s:List Int}(h:Digs s):lv 10 (dgs s)=((valS s:Nat):Int):=by
 have e:dgs s=intsN (s.reverse.map fun c=>(c - 48).toNat):=by
  unfold dgs intsN
  rw [List.map_map]
  refine List.map_congr_left fun c hc=>?_
  have:=h c (List.mem_reverse.1 hc)
  simp only [Function.comp_apply]
  omega
 rw [e,lv_ints,low_rev]
theorem dgs_getD(s:List Int)(k:Nat)(h:k<s.length):(dgs s).getD k 0=s.getD (s.length - 1 - k) 0 - 48:=by
 unfold dgs
 rw [List.getD_eq_getElem?_getD,List.getElem?_map,List.getElem?_reverse h,List.getD_eq_getElem?_getD,List.getElem?_eq_getElem (by omega)]
 rfl
def settleL:Int→List Int→List Int × Int
 | over,[]=>([],over)
 | over,g::l=>((g+over) % 1000000::(settleL ((g+over) / 1000000) l).1,(settleL ((g+over) / 1000000) l).2)
theorem settle_grp(l:List Int):∀ over,Grp 1000000 (settleL over l).1∧(settleL over l).1.length=l.length∧lv 1000000 (settleL over l).1+1000000 ^ l.length*(settleL over l).2=lv 1000000 l+over:=by
 induction l with
 | nil=>intro over;exact ⟨grp_nil _,rfl,by simp [settleL,lv]⟩
 | cons g l ih =>
  intro over
  obtain ⟨h1,h2,h3⟩:=ih ((g+over) / 1000000)
  refine ⟨?_,by simp [settleL,h2],?_⟩
  ·intro x hx
   simp only [settleL,List.mem_cons] at hx
   rcases hx with rfl | hx
   ·omega
   ·exact h1 x hx
  ·simp only [settleL, lv_cons, List.length_cons, Int.pow_succ]
   rw [Int.mul_comm (1000000 ^ l.length) 1000000,Int.mul_assoc]
   omega
theorem room_zero{v x q o:Int}(hx0:0≤x)(hx1:x<q)(hv0:0≤v)(hv1:v<q)(h:x+q*o=v):o=0:=by
 rcases Int.lt_trichotomy o 0 with h1 | h1 | h1
 ·have : q * o ≤ q * (-1) := Int.mul_le_mul_of_nonneg_left (by omega) (by omega)
  omega
 ·exact h1
 ·have : q * 1 ≤ q * o := Int.mul_le_mul_of_nonneg_left (by omega) (by omega)
  omega
theorem settle_val{l:List Int}(h0:0≤lv 1000000 l)(h1:lv 1000000 l<1000000 ^ l.length):lv 1000000 (settleL 0 l).1=lv 1000000 l:=by
 obtain ⟨a,b,c⟩:=settle_grp l 0
 have d:=lv_lt (by decide) a
 rw [b] at d
 rw [Int.add_zero] at c
 have e:=room_zero d.1 d.2 h0 h1 c
 rw [e] at c
 omega
def dig6(g:Int):List Int:=[48+g / 100000 % 10,48+g / 10000 % 10,48+g / 1000 % 10,48+g / 100 % 10,48+g / 10 % 10,48+g % 10]
theorem dig6_digs{g:Int}:Digs (dig6 g):=by
 intro c hc
 simp only [dig6,List.mem_cons,List.not_mem_nil,or_false] at hc
 omega
theorem dig6_val{g:Int}(h:0≤g∧g<1000000):((valS (dig6 g):Nat):Int)=g:=by
 have e1:g / 10=g / 10:=rfl
 have h1:g / 100=g / 10 / 10:=by omega
 have h2:g / 1000=g / 100 / 10:=by omega
 have h3:g / 10000=g / 1000 / 10:=by omega
 have h4:g / 100000=g / 10000 / 10:=by omega
 obtain ⟨a,ha⟩:∃ a,a=g / 10:=⟨_,rfl⟩
 obtain ⟨b,hb⟩:∃ b,b=a / 10:=⟨_,rfl⟩
 obtain ⟨c,hc⟩:∃ c,c=b / 10:=⟨_,rfl⟩
 obtain ⟨d,hd⟩:∃ d,d=c / 10:=⟨_,rfl⟩
 obtain ⟨e,he⟩:∃ e,e=d / 10:=⟨_,rfl⟩
 rw [←ha,←hb] at h1
 rw [h1,←hc] at h2
 rw [h2,←hd] at h3
 rw [h3,←he] at h4
 unfold dig6
 rw [h1,h2,h3,h4,←ha]
 clear h1 h2 h3 h4 e1
 show (((((((0*10+(48+e % 10 - 48).toNat)*10+(48+d % 10 - 48).toNat)*10+(48+c % 10 - 48).toNat)*10+(48+b % 10 - 48).toNat)*10+(48+a % 10 - 48).toNat)*10+(48+g % 10 - 48).toNat:Nat):Int)=g
 have s1:∀ x:Int,(((48+x % 10 - 48).toNat:Nat):Int)=x % 10:=fun x=>by omega
 generalize hE:(48+e % 10 - 48).toNat=E
 generalize hD:(48+d % 10 - 48).toNat=D
 generalize hC:(48+c % 10 - 48).toNat=C
 generalize hB:(48+b % 10 - 48).toNat=B
 generalize hA:(48+a % 10 - 48).toNat=A
 generalize hG:(48+g % 10 - 48).toNat=G
 have tE:=s1 e;rw [hE] at tE;clear hE
 have tD:=s1 d;rw [hD] at tD;clear hD
 have tC:=s1 c;rw [hC] at tC;clear hC
 have tB:=s1 b;rw [hB] at tB;clear hB
 have tA:=s1 a;rw [hA] at tA;clear hA
 have tG:=s1 g;rw [hG] at tG;clear hG s1
 have k1:e<10:=by omega
 have k2:e % 10=e:=by omega
 rw [k2] at tE
 have k3:(E:Int)*10+D=d:=by omega
 have k4:((E:Int)*10+D)*10+C=c:=by rw [k3];omega
 have k5:(((E:Int)*10+D)*10+C)*10+B=b:=by rw [k4];omega
 have k6:((((E:Int)*10+D)*10+C)*10+B)*10+A=a:=by rw [k5];omega
 have k7:(((((E:Int)*10+D)*10+C)*10+B)*10+A)*10+G=g:=by rw [k6];omega
 rw [←k7]
 simp only [Nat.zero_mul,Nat.zero_add,Int.natCast_add,Int.natCast_mul]
 rfl
def tellL(l:List Int):List Int:=l.reverse.flatMap dig6
theorem tell_cons(g:Int)(l:List Int):tellL (g::l)=tellL l++dig6 g:=by simp [tellL]
theorem tell_digs(l:List Int):Digs (tellL l):=by
 induction l with
 | nil=>intro c hc;cases hc
 | cons g l ih=>rw [tell_cons];exact digs_append ih dig6_digs
theorem tell_val{l:List Int}(h:Grp 1000000 l):((valS (tellL l):Nat):Int)=lv 1000000 l:=by
 induction l with
 | nil=>rfl
 | cons g l ih =>
  have h1:=ih fun x hx=>h x (by simp [hx])
  have h2:=dig6_val (h g (by simp))
  rw [tell_cons,val_append,lv_cons,←h1]
  show ((valS (tellL l)*10 ^ 6+valS (dig6 g):Nat):Int)=_
  omega
def trimL(s:List Int):List Int:=s.dropWhile (· == 48)
theorem trim_val(s:List Int):valS (trimL s)=valS s:=by
 induction s with
 | nil=>rfl
 | cons c s ih =>
  unfold trimL at ih ⊢
  rw [List.dropWhile_cons]
  by_cases h:c=48
  ·subst h
   rw [if_pos (by rfl),ih,val_cons]
   show _=0*_+_
   omega
  ·rw [if_neg (by simpa using h)]
theorem trim_digs{s:List Int}(h:Digs s):Digs (trimL s):=fun c hc=>h c ((List.dropWhile_sublist _).mem hc)
theorem trim_head(s:List Int)(h:trimL s≠[]):(trimL s).getD 0 0≠48:=by
 induction s with
 | nil=>exact absurd rfl h
 | cons c s ih =>
  unfold trimL at ih h ⊢
  rw [List.dropWhile_cons] at h ⊢
  by_cases hc:c=48
  ·subst hc
   rw [if_pos (by rfl)] at h ⊢
   exact ih h
  ·rw [if_neg (by simpa using hc)]
   exact hc
theorem trim_num{s:List Int}(h:Digs s)(h0:trimL s≠[]):trimL s=numL (valS s):=by
 rw [←trim_val,num_val]
 exact ⟨h0,trim_digs h,fun h1=>absurd h1 (trim_head s h0)⟩
theorem trim_none{s:List Int}(h0:trimL s=[]):valS s=0:=by rw [←trim_val,h0];rfl
end Go.Proofs.YtejlaiofpekchaaGreatDoor
namespace Go.Proofs.YtejlaiofpekchaaGreatDoor
open Go
def bs(s:ByteArray):List Int:=s.data.toList.map fun b=>((b.toNat:Nat):Int)
theorem bs_bytes(s:ByteArray):∀ c∈bs s,0≤c∧c<256:=fun c hc=>by
 obtain ⟨b,_,rfl⟩:=List.mem_map.1 hc
 have:=b.toNat_lt
 omega
theorem bs_len(s:ByteArray):(bs s).length=s.size:=by unfold bs;rw [List.length_map,Array.length_toList];rfl
theorem bs_str{l:List Int}(h:∀ c∈l,0≤c∧c<256):bs (strOfNums l)=l:=by
 unfold bs
 rw [strOfNums_data,List.map_map]
 have e:∀ c∈l,((fun b:UInt8=>((b.toNat:Nat):Int)) ∘ fun n:Int=>UInt8.ofNat n.toNat) c=c:=fun c hc=>by
  have:=h c hc
  simp only [Function.comp_apply]
  rw [UInt8.toNat_ofNat',Nat.mod_eq_of_lt (by omega)]
  omega
 rw [List.map_congr_left e,List.map_id']
theorem str_bs(s:ByteArray):strOfNums (bs s)=s:=by
 unfold bs strOfNums
 rw [List.map_map]
 have e:((fun n:Int=>UInt8.ofNat n.toNat) ∘ fun b:UInt8=>((b.toNat:Nat):Int))=id:=by
  funext b
  simp
 rw [e,List.map_id]
theorem bs_inj{s t:ByteArray}(h:bs s=bs t):s=t:=by rw [←str_bs s,←str_bs t,h]
def txt(n:Nat):ByteArray:=strOfNums (numL n)
theorem digs_bytes{l:List Int}(h:Digs l):∀ c∈l,0≤c∧c<256:=fun c hc=>by have:=h c hc;omega
theorem bs_txt(n:Nat):bs (txt n)=numL n:=bs_str (digs_bytes (num_digs n))
def val(s:ByteArray):Nat:=valS (bs s)
theorem val_txt(n:Nat):val (txt n)=n:=by unfold val;rw [bs_txt,val_num]
def top:Nat:=10 ^ 800
def rightT(l:List Int):Bool := !l.isEmpty && (decide (l.length≤800) && ((l.getD 0 0 != 48 || l.length==1) && l.all fun c=>decide (48≤c) && decide (c≤57)))
theorem right_iff(l:List Int):rightT l=true ↔ RightS l:=by
 unfold rightT RightS Canon Digs
 simp only [Bool.and_eq_true,Bool.or_eq_true,Bool.not_eq_true',List.isEmpty_eq_false_iff,decide_eq_true_eq,bne_iff_ne,beq_iff_eq,List.all_eq_true]
 constructor
 ·rintro ⟨h0, h1, h2, h3⟩
  refine ⟨⟨h0,h3,fun h=>?_⟩,h1⟩
  rcases h2 with h2 | h2
  ·exact absurd h h2
  ·exact h2
 ·rintro ⟨⟨h0, h3, h2⟩, h1⟩
  refine ⟨h0,h1,?_,h3⟩
  by_cases h:l.getD 0 0=48
  ·exact .inr (h2 h)
  ·exact .inl h
def rt(s:ByteArray):Bool:=rightT (bs s)
theorem rt_iff(s:ByteArray):rt s=true ↔ RightS (bs s):=right_iff _
theorem rt_not{s:ByteArray}(h:¬ RightS (bs s)):rt s=false:=by
 cases h1:rt s with
 | false=>rfl
 | true=>exact absurd ((rt_iff s).1 h1) h
theorem rt_txt{n:Nat}(h:n<top):rt (txt n)=true:=by
 rw [rt_iff,bs_txt]
 unfold top at h
 exact right_num.2 h
def noS:ByteArray:=⟨#[]⟩
def shortA(n:Nat):ByteArray × Int:=if n<top then (txt n,0) else (noS,11)
def mulA(a b:ByteArray):ByteArray × Int:=if rt a=true∧rt b=true then shortA (val a*val b) else (noS,1)
def powA(b n:Int):ByteArray × Int:=if (0≤b∧b≤1000000)∧0≤n∧n≤4000 then shortA (b.toNat ^ n.toNat) else (noS,1)
theorem rt_size{a:ByteArray}(h:rt a=true):0<a.size∧a.size≤800:=by
 have h1:=(rt_iff a).1 h
 have h2:=List.length_pos_iff.2 h1.1.1
 rw [←bs_len]
 exact ⟨h2,h1.2⟩
end Go.Proofs.YtejlaiofpekchaaGreatDoor
