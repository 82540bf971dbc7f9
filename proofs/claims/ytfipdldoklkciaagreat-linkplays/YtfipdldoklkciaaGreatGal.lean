/-
  Texts Lkp, Lki, Lkj, Lkk, Lkl.
-/
import Derived.Test.YtfipdldoklkciaaGreatGaj
import Derived.Test.YtfipdldoklkciaaGreatGak
import Derived.Deep.QuietTactic
import Derived.BigQuiet
namespace Go.Proofs.YtfipdldoklkciaaGreat
open Go.RowKit
set_option linter.unusedVariables false
theorem Rv.k2 {w w' : World} {rb q g : Nat} {s : Rc} (h : Rv w rb s) (k : K2 q g w w') (hq : rb ≠ q) (hg : rb ≠ g) : Rv w' rb s := by
  obtain ⟨h1, cs, h2, h3⟩ := h
  exact ⟨h1, cs, (k.block rb h2.lt hq hg).trans h2, h3⟩
theorem below_dn {B : Nat} {w w' : World} (h : Below B w w') (n : Nat) : Below B w (w'.drewN n) := ⟨h.os, h.tape, h.output, h.size, h.block⟩
theorem dn_b (w : World) (m : Nat) : Hid (Below w.heap.size w (w.drewN m)) := below_dn (Below.refl _ _) m
/-! ### the calls that turn nothing, the world a letter -/
theorem ack_k {rb : Nat} {s : Rc} {w : World} (h : Rv w rb s) :
    Calls Tryz.prog 54 #[.pointer (some ⟨rb, 0, none⟩)] w fun e w' => e = .returned (.tuple #[.int .i64 (ackN s), .int .u64 (ackB s), .int .i64 (s.tk + s.win)]) ∧ Hid (Below w.heap.size w w') :=
  (ack_any h).mono (by rintro e w' ⟨rfl, m, rfl⟩; exact ⟨rfl, dn_b w m⟩)
theorem ready_k {rb : Nat} {s : Rc} {w : World} (h : Rv w rb s) :
    Calls Tryz.prog 85 #[.pointer (some ⟨rb, 0, none⟩)] w fun e w' => e = .returned (.int .i64 (rdy s)) ∧ Hid (Below w.heap.size w w') :=
  (ready_any h).mono (by rintro e w' ⟨rfl, m, rfl⟩; exact ⟨rfl, dn_b w m⟩)
theorem data_k {rb : Nat} {s : Rc} {w : World} (z : Int) (a : Option Addr) (n c : Nat) (h : Rv w rb s) (he : dataE s z n ≠ 0) (hn : (n : Int) ≤ 9223372036854775807) :
    Calls Tryz.prog 50 #[.pointer (some ⟨rb, 0, none⟩), .int .i64 z, .slice a n c] w fun e w' => e = .returned (.int .i64 (dataE s z n)) ∧ Hid (Below w.heap.size w w') :=
  (data_bad z a n c h he hn).mono (by rintro e w' ⟨rfl, m, rfl⟩; exact ⟨rfl, dn_b w m⟩)
theorem take_k {rb : Nat} {s : Rc} {w : World} (h : Rv w rb s) (hL : s.L (s.tk + 1) = none) :
    Calls Tryz.prog 58 #[.pointer (some ⟨rb, 0, none⟩)] w fun e w' => e = .returned (.tuple #[.slice none 0 0, .bool false]) ∧ Hid (Below w.heap.size w w') :=
  (take_no h hL).mono (by rintro e w' ⟨rfl, m, rfl⟩; exact ⟨rfl, dn_b w m⟩)
def dataS (s : Rc) (z : Int) (zs : List Int) : Rc := if dataE s z zs.length = 0 then putA s z zs else s
def takeS (s : Rc) : Rc := if (s.L (s.tk + 1)).isSome = true then takeA s else s
theorem take_step {rb : Nat} {s : Rc} {w : World} (h : Rv w rb s) (ht : s.tk < 4611686018427387904) :
    Calls Tryz.prog 58 #[.pointer (some ⟨rb, 0, none⟩)] w fun e w' => ∃ v, e = .returned v ∧ Hid (Rv w' rb (takeS s)) ∧ Hid (K2 rb rb w w') := by
  cases hL : s.L (s.tk + 1) with
  | none =>
    have e : takeS s = s := by unfold takeS; rw [hL]; rfl
    rw [e]
    refine (take_k h hL).mono ?_
    rintro e w' ⟨rfl, hb⟩
    exact ⟨_, rfl, h.kept hb.out, K2.of_below hb.out⟩
  | some l =>
    have e : takeS s = takeA s := by unfold takeS; rw [hL]; rfl
    rw [e]
    refine (take_yes l h ht hL).mono ?_
    rintro e w' ⟨g, n, c, rfl, hS, hR, hK⟩
    exact ⟨_, rfl, hR, hK⟩
theorem data_step {rb : Nat} {s : Rc} {w : World} (z : Int) (a : Option Addr) (n c : Nat) (zs : List Int) (h : Rv w rb s) (hn : zs.length = n) (h0 : a = none → c = 0) (hb : Bytes w a zs) :
    Calls Tryz.prog 50 #[.pointer (some ⟨rb, 0, none⟩), .int .i64 z, .slice a n c] w fun e w' => e = .returned (.int .i64 (dataE s z n)) ∧ Hid (Rv w' rb (dataS s z zs)) ∧ Hid (K2 rb rb w w') := by
  subst hn
  by_cases he : dataE s z zs.length = 0
  · have e : dataS s z zs = putA s z zs := by unfold dataS; rw [if_pos he]
    rw [e, he]
    exact data_ok z a _ c zs h he rfl h0 hb
  · have e : dataS s z zs = s := by unfold dataS; rw [if_neg he]
    rw [e]
    refine (data_k z a _ c h he (by have := hb.2.1; unfold maxLen at this; omega)).mono ?_
    rintro e w' ⟨rfl, hb⟩
    exact ⟨rfl, h.kept hb.out, K2.of_below hb.out⟩
/-! ### plain facts -/
theorem takeS_win (s : Rc) : (takeS s).win = s.win := by unfold takeS; split <;> rfl
theorem dataS_win (s : Rc) (z : Int) (zs : List Int) : (dataS s z zs).win = s.win := by unfold dataS; split <;> rfl
theorem takeS_tk (s : Rc) : s.tk ≤ (takeS s).tk ∧ (takeS s).tk ≤ s.tk + 1 := by
  unfold takeS
  split
  · exact ⟨by show s.tk ≤ s.tk + 1; omega, Int.le_refl _⟩
  · exact ⟨Int.le_refl _, by omega⟩
theorem dataS_tk (s : Rc) (z : Int) (zs : List Int) : (dataS s z zs).tk = s.tk := by unfold dataS; split <;> rfl
theorem rdy_mono {s s' : Rc} (h : Rok s) (h' : Rok s') (ht : s'.tk = s.tk) (hL : ∀ x, (s.L x).isSome = true → (s'.L x).isSome = true) : rdy s ≤ rdy s' := by
  rcases Nat.lt_or_ge (rdy s') (rdy s) with k | k
  · have h1 := rdy_in h k
    have h2 := rdy_end h'
    rw [ht] at h2
    have h3 := hL _ h1
    rw [h2] at h3
    cases h3
  · exact k
theorem ack_data {s : Rc} {z : Int} {zs : List Int} (h : Rok s) (h' : Rok (dataS s z zs)) : ackN s ≤ ackN (dataS s z zs) := by
  unfold ackN
  rw [dataS_tk]
  have := rdy_mono h h' (dataS_tk s z zs) (fun x hx => by
    unfold dataS
    split
    · show (if x = z then some zs else s.L x).isSome = true
      split
      · rfl
      · exact hx
    · exact hx)
  omega
theorem ack_take {s : Rc} (h : Rok s) (h' : Rok (takeS s)) : ackN (takeS s) = ackN s := by
  unfold takeS at h' ⊢
  split
  · rename_i hs
    rw [if_pos hs] at h'
    have hr : 1 ≤ rdy s := by
      rcases Nat.eq_zero_or_pos (rdy s) with k | k
      · have := rdy_end h
        rw [k] at this
        simp only [Int.natCast_zero, Int.add_zero] at this
        rw [this] at hs
        cases hs
      · exact k
    have e : rdy (takeA s) = rdy s - 1 := by
      refine rdy_of h' (fun j hj => ?_) ?_
      · show (if s.tk + 1 + 1 + (j : Int) = s.tk + 1 then none else s.L (s.tk + 1 + 1 + (j : Int))).isSome = true
        rw [if_neg (by omega)]
        have := rdy_in h (j := j + 1) (by omega)
        rw [show s.tk + 1 + ((j + 1 : Nat) : Int) = s.tk + 1 + 1 + (j : Int) by omega] at this
        exact this
      · show (if s.tk + 1 + 1 + ((rdy s - 1 : Nat) : Int) = s.tk + 1 then none else s.L (s.tk + 1 + 1 + ((rdy s - 1 : Nat) : Int))) = none
        rw [if_neg (by omega), show s.tk + 1 + 1 + ((rdy s - 1 : Nat) : Int) = s.tk + 1 + (rdy s : Int) by omega]
        exact rdy_end h
    unfold ackN
    rw [e]
    show s.tk + 1 + _ = _
    omega
  · rfl
theorem hld_le {s : Rc} (h : Rok s) : (hld s : Int) ≤ s.win := by
  have w1 := h.w1
  have w2 := h.w2
  have e := cnt_add (has s) s.win.toNat (32 - s.win.toNat)
  rw [show s.win.toNat + (32 - s.win.toNat) = 32 by omega, cnt_none (g := fun i => has s (s.win.toNat + i)) _ (fun j hj => by
    show (s.L (s.tk + 1 + ((s.win.toNat + j : Nat) : Int))).isSome = false
    rw [h.none (by omega)]
    rfl)] at e
  have := cnt_le (has s) s.win.toNat
  unfold hld
  omega
theorem rdy_hld {s : Rc} (h : Rok s) : rdy s ≤ hld s := by
  have w2 := h.w2
  have hr := rdy_le h
  have e := cnt_add (has s) (rdy s) (32 - rdy s)
  rw [show rdy s + (32 - rdy s) = 32 by omega, cnt_all (g := has s) (rdy s) (fun j hj => rdy_in h hj)] at e
  unfold hld
  omega
theorem ackB_low {s : Rc} (h : Rok s) : ackB s / 2 ^ s.win.toNat = 0 := by
  have w1 := h.w1
  have w2 := h.w2
  have e : ackB s = bF (ackF s) s.win.toNat := by
    unfold ackB
    rw [show (64 : Nat) = s.win.toNat + (64 - s.win.toNat) by omega]
    refine bF_stop _ (fun j h1 h2 => ?_)
    unfold ackF ackN
    rw [h.none (by omega)]
    rfl
  rw [e]
  have hb := bF_bnd (ackF s) s.win.toNat
  exact Int.ediv_eq_zero_of_lt hb.1 hb.2
theorem ackB_bnd (s : Rc) : 0 ≤ ackB s ∧ ackB s < 18446744073709551616 := by
  have h := bF_bnd (ackF s) 64
  have e : (2 : Int) ^ 64 = 18446744073709551616 := by decide
  rw [e] at h
  exact h
theorem bit_zero (i : Nat) : bitB 0 i = false := by
  unfold bitB
  rw [Int.zero_ediv]
  decide
theorem bits_zero (s : St) (ack : Int) : ∀ i, bitsA s ack 0 i = s
  | 0 => rfl
  | i + 1 => by rw [bitsA, if_neg (by simp [bit_zero])]; exact bits_zero s ack i
/-- A sender of no loads, with a limit. -/
def s0 (win lim : Int) : St := ⟨win, lim, 1, 1, fun _ => none⟩
theorem s0_ok {win lim : Int} (h1 : 1 ≤ win) (h2 : win ≤ 32) (h3 : 0 ≤ lim) (h4 : lim ≤ 4611686018427387904) : Ok (s0 win lim) :=
  ⟨h1, h2, by simp [s0], by simp [s0], by show (1 : Int) - 1 ≤ win; omega, by show (1 : Int) - 1 ≤ lim; omega, h4, (fun z => by constructor <;> intro h <;> simp [s0] at h ⊢ <;> omega), by simp [s0]⟩
theorem ack_s0 {win c : Int} (h1 : 1 ≤ win) (h2 : win ≤ 32) (hc : 0 ≤ c) : ackA (s0 win 0) 0 0 c = s0 win c := by
  unfold ackA
  rw [fin_none (s0_ok h1 h2 (by omega) (by omega)) (by show ¬ (1 : Int) ≤ 0; omega), bits_zero]
  show limA (s0 win 0) c = _
  refine St.ext' rfl ?_ rfl rfl fun _ => rfl
  show max 0 c = c
  omega
theorem may_s0 {win c : Int} (hc : 0 ≤ c) (hc' : c ≤ 4611686018427387904) : mayB (s0 win 0) 0 c = true := by simp [mayB, s0]; omega
theorem same_any (a1 a2 : Option Addr) (n1 n2 c1 c2 : Nat) (z1 z2 : List Int) (w : World) (h1 : Bytes w a1 z1) (h2 : Bytes w a2 z2) (hl1 : z1.length = n1) (hl2 : z2.length = n2) :
    Calls Tryz.prog 9 #[.slice a1 n1 c1, .slice a2 n2 c2] w fun e w' => e = .returned (.bool (decide (z1 = z2))) ∧ w' = w := by
  have k1 := conv_str h1 n1 c1 hl1
  have k2 := conv_str h2 n2 c2 hl2
  have k3 := str_eq h1.1 h2.1
  clear h1 h2 hl1 hl2
  go_enter Tryz.func9, Tryz.ntmps9
  go_wp2
  go_ret
  all_goals simp_all
theorem one_mark (w : World) (n : Int) (h0 : 0 ≤ n) (h1 : n < 256) : Bytes (w.alloc (.cells #[.int .u8 n] 5 (1, 2))) (some ⟨w.heap.size, 0, none⟩) [n] := by
  refine ⟨by simp; omega, by simp [maxLen], .inr ⟨w.heap.size, 0, rfl, fun i hi => ?_⟩⟩
  have : i = 0 := by simp at hi; omega
  subst this
  exact World.cell?_alloc_mark w _ 5 (1, 2) 0
end Go.Proofs.YtfipdldoklkciaaGreat
namespace Go.Proofs.YtfipdldoklkciaaGreat
open Go.RowKit
set_option linter.unusedVariables false
/-- A link as plain data. -/
structure Lk where
  tok : Int
  now : Int
  ep : Int
  s : St
  r : Rc
  n0 : List Gr
  n1 : List Gr
/-- A link's blocks: its own, its sender's, the sender's map, its receiver's. -/
structure Qb where
  lb : Nat
  sb : Nat
  mb : Nat
  rb : Nat
/-- A DATAGRAM's BYTES IN MEMORY, from B on. -/
structure GrIn (w : World) (B : Nat) (g : Gr) : Prop where
  by_ : Bytes w g.a g.zs
  len : g.zs.length = g.n
  le : g.n ≤ g.c
  mx : g.c ≤ 9223372036854775807
  nil : g.a = none → g.c = 0
  at_ : ∀ x, g.a = some x → B ≤ x.block ∧ ∃ cs, Blk w x.block cs 5
/-- THE LINK's OWN CELLS. -/
structure LkC (cs : Array Value) (q : Qb) (L : Lk) : Prop where
  sz : cs.size = 1036
  c0 : cs[0]? = some (.bool true)
  c1 : cs[1]? = some (.int .u64 L.tok)
  c2 : cs[2]? = some (.int .i64 L.now)
  c3 : cs[3]? = some (.int .i64 L.ep)
  c4 : cs[4]? = some (.pointer (some ⟨q.sb, 0, none⟩))
  c5 : cs[5]? = some (.pointer (some ⟨q.rb, 0, none⟩))
  k0 : cs[519]? = some (.int .i64 1)
  e0 : cs[520]? = some (.func (.func 19) #[.pointer (some ⟨q.lb, 0, none⟩)] #[])
  k1 : cs[1034]? = some (.int .i64 2)
  e1 : cs[1035]? = some (.func (.func 20) #[.pointer (some ⟨q.lb, 0, none⟩)] #[])
  n0 : Net cs 6 L.n0
  n1 : Net cs 521 L.n1
structure Lok (L : Lk) : Prop where
  t1 : 0 ≤ L.tok
  t2 : L.tok < 18446744073709551616
  n1 : 0 ≤ L.now
  n2 : L.now ≤ 1099511627776
  e1 : 1 ≤ L.ep
  few : ∀ z e, L.s.L z = some e → e.zs.length ≤ 1100
/-- A LINK IN MEMORY. -/
structure Lm (w : World) (B : Nat) (q : Qb) (L : Lk) : Prop where
  ok : Lok L
  sd : Sd w B q.sb q.mb L.s
  rv : Rv w q.rb L.r
  lk : ∃ cs, Blk w q.lb cs 68 ∧ LkC cs q L
  gr : ∀ g, g ∈ L.n0 ∨ g ∈ L.n1 → GrIn w B g
  hl : B ≤ q.lb
  hr : B ≤ q.rb
theorem GrIn.kept {w w' : World} {B : Nat} {g : Gr} (h : GrIn w B g) (hb : Below w.heap.size w w') : GrIn w' B g :=
  ⟨h.by_.kept hb, h.len, h.le, h.mx, h.nil, fun x hx => ⟨(h.at_ x hx).1, (h.at_ x hx).2.imp fun cs hc => hc.kept hb⟩⟩
theorem Blk.ty {w : World} {g : Nat} {cs cs' : Array Value} {T T' : TypeId} (h : Blk w g cs T) (h' : Blk w g cs' T') : T = T' := by
  unfold Blk at h h'
  rw [h] at h'
  injection h' with h'
  injection h' with _ h'
theorem GrIn.k2 {w w' : World} {B q g : Nat} {x : Gr} (h : GrIn w B x) (k : K2 q g w w') (hq : ∀ cs, ¬ Blk w q cs 5) (hg : ∀ cs, ¬ Blk w g cs 5) : GrIn w' B x := by
  have hne : ∀ y, x.a = some y → y.block ≠ q ∧ y.block ≠ g := fun y hy => by
    obtain ⟨_, cs, hc⟩ := h.at_ y hy
    exact ⟨fun e => hq cs (by rw [← e]; exact hc), fun e => hg cs (by rw [← e]; exact hc)⟩
  refine ⟨h.by_.k2 k hne, h.len, h.le, h.mx, h.nil, fun y hy => ⟨(h.at_ y hy).1, ?_⟩⟩
  obtain ⟨_, cs, hc⟩ := h.at_ y hy
  exact ⟨cs, (k.block y.block hc.lt (hne y hy).1 (hne y hy).2).trans hc⟩
theorem Lm.kept {w w' : World} {B : Nat} {q : Qb} {L : Lk} (h : Lm w B q L) (hb : Below w.heap.size w w') : Lm w' B q L :=
  ⟨h.ok, h.sd.kept hb, h.rv.kept hb, h.lk.imp fun cs hc => ⟨hc.1.kept hb, hc.2⟩, fun g hg => (h.gr g hg).kept hb, h.hl, h.hr⟩
theorem Lm.drew {w : World} {B : Nat} {q : Qb} {L : Lk} (h : Lm w B q L) : Lm w.drew B q L := h.kept (Below.refl _ _).drew
theorem Rv.bk {w : World} {rb : Nat} {s : Rc} (h : Rv w rb s) : ∃ cs, Blk w rb cs 91 := by
  obtain ⟨_, cs, h2, _⟩ := h
  exact ⟨cs, h2⟩
theorem MapI.no {w : World} {b n : Nat} {f : Int → Option Value} (h : MapI w b f n) (cs : Array Value) (T : TypeId) : ¬ Blk w b cs T := by
  intro hb
  obtain ⟨D, ⟨es, clock, h1, _⟩, _⟩ := h
  unfold Blk at hb
  rw [h1] at hb
  cases hb
/-- The four blocks lie apart. -/
theorem Lm.apart {w : World} {B : Nat} {q : Qb} {L : Lk} (h : Lm w B q L) : q.lb ≠ q.sb ∧ q.lb ≠ q.mb ∧ q.lb ≠ q.rb ∧ q.rb ≠ q.sb ∧ q.rb ≠ q.mb := by
  obtain ⟨cs, hc, _⟩ := h.lk
  obtain ⟨cr, hr⟩ := h.rv.bk
  have hs := h.sd.blk
  have hm := h.sd.mp
  refine ⟨fun e => ?_, fun e => ?_, fun e => ?_, fun e => ?_, fun e => ?_⟩
  · rw [e] at hc; exact absurd (hc.ty hs) (by decide)
  · rw [e] at hc; exact hm.no _ _ hc
  · rw [e] at hc; exact absurd (hc.ty hr) (by decide)
  · rw [e] at hr; exact absurd (hr.ty hs) (by decide)
  · rw [e] at hr; exact hm.no _ _ hr
theorem Lm.no5 {w : World} {B : Nat} {q : Qb} {L : Lk} (h : Lm w B q L) : (∀ cs, ¬ Blk w q.lb cs 5) ∧ (∀ cs, ¬ Blk w q.sb cs 5) ∧ (∀ cs, ¬ Blk w q.mb cs 5) ∧ (∀ cs, ¬ Blk w q.rb cs 5) := by
  obtain ⟨cs, hc, _⟩ := h.lk
  obtain ⟨cr, hr⟩ := h.rv.bk
  have hs := h.sd.blk
  have hm := h.sd.mp
  exact ⟨fun c k => absurd (hc.ty k) (by decide), fun c k => absurd (hs.ty k) (by decide), fun c k => hm.no _ _ k, fun c k => absurd (hr.ty k) (by decide)⟩
theorem Sd.but {w w' : World} {B sb mb q g : Nat} {s : St} (h : Sd w B sb mb s) (k : K2 q g w w') (h1 : sb ≠ q ∧ sb ≠ g) (h2 : mb ≠ q ∧ mb ≠ g) (hq : ∀ cs, ¬ Blk w q cs 5) (hg : ∀ cs, ¬ Blk w g cs 5) : Sd w' B sb mb s := by
  refine ⟨h.ok, h.hs, h.hm, (k.block sb h.blk.lt h1.1 h1.2).trans h.blk, ?_, fun z e he => ?_⟩
  · obtain ⟨D, ⟨es, clock, a1, a2⟩, a3⟩ := h.mp
    exact ⟨D, ⟨es, clock, (k.block mb (Array.getElem?_eq_some_iff.1 a1).1 h2.1 h2.2).trans a1, a2⟩, a3⟩
  · have l := h.ld z e he
    have hne : ∀ x, e.a = some x → x.block ≠ q ∧ x.block ≠ g := fun x hx => by
      obtain ⟨cs, hc⟩ := l.ty x hx
      exact ⟨fun e => hq cs (by rw [← e]; exact hc), fun e => hg cs (by rw [← e]; exact hc)⟩
    exact ⟨l.by_.k2 k hne, l.nil, l.le, l.mx, fun x hx => ⟨(l.at_ x hx).1, Nat.lt_of_lt_of_le (l.at_ x hx).2.1 k.size, (l.at_ x hx).2.2⟩, fun x hx => (l.ty x hx).imp fun cs hc => (k.block x.block (l.at_ x hx).2.1 (hne x hx).1 (hne x hx).2).trans hc⟩
theorem LkC.same {cs : Array Value} {q : Qb} {L L' : Lk} (h : LkC cs q L) (h1 : L'.tok = L.tok) (h2 : L'.now = L.now) (h3 : L'.ep = L.ep) (h4 : L'.n0 = L.n0) (h5 : L'.n1 = L.n1) : LkC cs q L' :=
  ⟨h.sz, h.c0, by rw [h1]; exact h.c1, by rw [h2]; exact h.c2, by rw [h3]; exact h.c3, h.c4, h.c5, h.k0, h.e0, h.k1, h.e1, by rw [h4]; exact h.n0, by rw [h5]; exact h.n1⟩
/-- The sender has turned. -/
theorem Lm.turnS {w w' : World} {B : Nat} {q : Qb} {L : Lk} {s : St} (h : Lm w B q L) (hs : Sd w' B q.sb q.mb s) (k : K2 q.sb q.mb w w') (hf : ∀ z e, s.L z = some e → e.zs.length ≤ 1100) : Lm w' B q { L with s := s } := by
  obtain ⟨a1, a2, a3, a4, a5⟩ := h.apart
  obtain ⟨b1, b2, b3, b4⟩ := h.no5
  refine ⟨⟨h.ok.t1, h.ok.t2, h.ok.n1, h.ok.n2, h.ok.e1, hf⟩, hs, h.rv.k2 k a4 a5, h.lk.imp fun cs hc => ⟨(k.block q.lb hc.1.lt a1 a2).trans hc.1, hc.2.same rfl rfl rfl rfl rfl⟩, fun g hg => (h.gr g hg).k2 k b2 b3, h.hl, h.hr⟩
/-- The receiver has turned. -/
theorem Lm.turnR {w w' : World} {B : Nat} {q : Qb} {L : Lk} {r : Rc} (h : Lm w B q L) (hr : Rv w' q.rb r) (k : K2 q.rb q.rb w w') : Lm w' B q { L with r := r } := by
  obtain ⟨a1, a2, a3, a4, a5⟩ := h.apart
  obtain ⟨b1, b2, b3, b4⟩ := h.no5
  refine ⟨⟨h.ok.t1, h.ok.t2, h.ok.n1, h.ok.n2, h.ok.e1, h.ok.few⟩, h.sd.but k ⟨Ne.symm a4, Ne.symm a4⟩ ⟨Ne.symm a5, Ne.symm a5⟩ b4 b4, hr, h.lk.imp fun cs hc => ⟨(k.block q.lb hc.1.lt a3 a3).trans hc.1, hc.2.same rfl rfl rfl rfl rfl⟩, fun g hg => (h.gr g hg).k2 k b4 b4, h.hl, h.hr⟩
/-- The link's own cells have turned. -/
theorem Lm.turnL {w w' : World} {B : Nat} {q : Qb} {L L' : Lk} {cs : Array Value} (h : Lm w B q L) (hb : Blk w' q.lb cs 68) (hc : LkC cs q L') (k : K2 q.lb q.lb w w') (hs : L'.s = L.s) (hr : L'.r = L.r) (hok : Lok L') (hg : ∀ g, g ∈ L'.n0 ∨ g ∈ L'.n1 → (g ∈ L.n0 ∨ g ∈ L.n1) ∨ GrIn w' B g) : Lm w' B q L' := by
  obtain ⟨a1, a2, a3, a4, a5⟩ := h.apart
  obtain ⟨b1, b2, b3, b4⟩ := h.no5
  refine ⟨hok, ?_, ?_, ⟨cs, hb, hc⟩, fun g hgg => ?_, h.hl, h.hr⟩
  · rw [hs]
    exact h.sd.but k ⟨Ne.symm a1, Ne.symm a1⟩ ⟨Ne.symm a2, Ne.symm a2⟩ b1 b1
  · rw [hr]
    exact h.rv.k2 k (Ne.symm a3) (Ne.symm a3)
  · rcases hg g hgg with h1 | h1
    · exact (h.gr g h1).k2 k b1 b1
    · exact h1
/-- NOTHING BUT A LINK's FOUR BLOCKS HAS TURNED. -/
structure K4 (q : Qb) (w w' : World) : Prop where
  os : w'.os = w.os
  tape : w'.tape = w.tape
  output : w'.output = w.output
  size : w.heap.size ≤ w'.heap.size
  block : ∀ k, k < w.heap.size → k ≠ q.lb → k ≠ q.sb → k ≠ q.mb → k ≠ q.rb → w'.heap[k]? = w.heap[k]?
theorem K4.refl (q : Qb) (w : World) : K4 q w w := ⟨rfl, rfl, rfl, Nat.le_refl _, fun _ _ _ _ _ _ => rfl⟩
theorem K4.trans {q : Qb} {a b c : World} (h : K4 q a b) (k : K4 q b c) : K4 q a c :=
  ⟨k.os.trans h.os, k.tape.trans h.tape, k.output.trans h.output, Nat.le_trans h.size k.size, fun i hi h1 h2 h3 h4 => (k.block i (Nat.lt_of_lt_of_le hi h.size) h1 h2 h3 h4).trans (h.block i hi h1 h2 h3 h4)⟩
theorem K4.drew {q : Qb} {w w' : World} (h : K4 q w w') : K4 q w w'.drew := ⟨h.os, h.tape, h.output, h.size, h.block⟩
theorem K4.of_below {q : Qb} {w w' : World} (h : Below w.heap.size w w') : K4 q w w' := ⟨h.os, h.tape, h.output, h.size, fun k hk _ _ _ _ => h.block k hk⟩
theorem K4.of_l {q : Qb} {w w' : World} (h : K2 q.lb q.lb w w') : K4 q w w' := ⟨h.os, h.tape, h.output, h.size, fun k hk h1 _ _ _ => h.block k hk h1 h1⟩
theorem K4.of_s {q : Qb} {w w' : World} (h : K2 q.sb q.mb w w') : K4 q w w' := ⟨h.os, h.tape, h.output, h.size, fun k hk _ h1 h2 _ => h.block k hk h1 h2⟩
theorem K4.of_r {q : Qb} {w w' : World} (h : K2 q.rb q.rb w w') : K4 q w w' := ⟨h.os, h.tape, h.output, h.size, fun k hk _ _ _ h1 => h.block k hk h1 h1⟩
theorem K4.below {q : Qb} {B : Nat} {L : Lk} {a w w' : World} (k : K4 q w w') (h : Below B a w) (hB : B ≤ w.heap.size) (hm : Lm w B q L) : Below B a w' := by
  have h1 := hm.hl; have h2 := hm.hr; have h3 := hm.sd.hs; have h4 := hm.sd.hm
  exact ⟨k.os.trans h.os, k.tape.trans h.tape, k.output.trans h.output, Nat.le_trans h.size k.size, fun i hi => (k.block i (by omega) (by omega) (by omega) (by omega) (by omega)).trans (h.block i hi)⟩
/-! ### cells -/
theorem Lm.cell {w : World} {B : Nat} {q : Qb} {L : Lk} (h : Lm w B q L) : w.cell? ⟨q.lb, 0, none⟩ = some (.bool true) ∧ w.cell? ⟨q.lb, 1, none⟩ = some (.int .u64 L.tok) ∧ w.cell? ⟨q.lb, 2, none⟩ = some (.int .i64 L.now) ∧ w.cell? ⟨q.lb, 3, none⟩ = some (.int .i64 L.ep) ∧ w.cell? ⟨q.lb, 4, none⟩ = some (.pointer (some ⟨q.sb, 0, none⟩)) ∧ w.cell? ⟨q.lb, 5, none⟩ = some (.pointer (some ⟨q.rb, 0, none⟩)) := by
  obtain ⟨cs, hb, hc⟩ := h.lk
  exact ⟨(hb.cell 0).trans hc.c0, (hb.cell 1).trans hc.c1, (hb.cell 2).trans hc.c2, (hb.cell 3).trans hc.c3, (hb.cell 4).trans hc.c4, (hb.cell 5).trans hc.c5⟩
theorem Lm.fz {w : World} {B : Nat} {q : Qb} {L : Lk} (h : Lm w B q L) (j : Nat) : w.frozen? ⟨q.lb, j, none⟩ = false := by
  obtain ⟨cs, hb, _⟩ := h.lk
  exact hb.fz j
theorem Lm.lt {w : World} {B : Nat} {q : Qb} {L : Lk} (h : Lm w B q L) : q.lb < w.heap.size := by
  obtain ⟨cs, hb, _⟩ := h.lk
  exact hb.lt
end Go.Proofs.YtfipdldoklkciaaGreat
namespace Go.Proofs.YtfipdldoklkciaaGreat
open Go.RowKit
set_option linter.unusedVariables false
theorem kmade_c (lb : Nat) (w : World) (h : w.cell? ⟨lb, 0, none⟩ = some (.bool true)) : Calls Tryz.prog 41 #[.pointer (some ⟨lb, 0, none⟩)] w fun e w' => e = .returned (.bool true) ∧ w' = w := by
  go_enter Tryz.func41, Tryz.ntmps41
  go_wp2
  go_ret
  all_goals simp_all
theorem kmade_nil (w : World) : Calls Tryz.prog 41 #[.pointer none] w fun e w' => e = .returned (.bool false) ∧ w' = w := by
  go_enter Tryz.func41, Tryz.ntmps41
  go_wp2
  go_ret
  all_goals simp_all
theorem kmade_no (lb : Nat) (w : World) (h : w.cell? ⟨lb, 0, none⟩ = some (.bool false)) : Calls Tryz.prog 41 #[.pointer (some ⟨lb, 0, none⟩)] w fun e w' => e = .returned (.bool false) ∧ w' = w := by
  go_enter Tryz.func41, Tryz.ntmps41
  go_wp2
  go_ret
  all_goals simp_all
theorem kmade {w : World} {B : Nat} {q : Qb} {L : Lk} (h : Lm w B q L) : Calls Tryz.prog 41 #[.pointer (some ⟨q.lb, 0, none⟩)] w fun e w' => e = .returned (.bool true) ∧ w' = w := kmade_c q.lb w h.cell.1
def netB (n : Int) : Bool := decide (n = 0) || decide (n = 1)
theorem isnet_any (n : Int) (w : World) : Calls Tryz.prog 42 #[.int .i64 n] w fun e w' => e = .returned (.bool (netB n)) ∧ w' = w := by
  by_cases h0 : n = 0
  · subst h0
    go_enter Tryz.func42, Tryz.ntmps42
    go_wp2
    go_ret
    exact ⟨rfl, rfl⟩
  · have d0 : (n == 0) = false := by simpa using h0
    by_cases h1 : n = 1
    · subst h1
      go_enter Tryz.func42, Tryz.ntmps42
      go_wp2
      go_ret
      exact ⟨rfl, rfl⟩
    · have d1 : (n == 1) = false := by simpa using h1
      have e : netB n = false := by simp [netB, h0, h1]
      rw [e]
      clear h0 h1 e
      go_enter Tryz.func42, Tryz.ntmps42
      go_wp2
      go_ret
      all_goals simp_all
def netL (L : Lk) (n : Int) : List Gr := if n = 0 then L.n0 else L.n1
def canE (L : Lk) (n i : Int) : Int := if netB n = false then 1 else if i < 0 ∨ ((netL L n).length : Int) ≤ i then 15 else 0
theorem Lm.c518 {w : World} {B : Nat} {q : Qb} {L : Lk} (h : Lm w B q L) : w.cell? ⟨q.lb, 518, none⟩ = some (.int .i64 (L.n0.length : Nat)) := by
  obtain ⟨cs, hb, hc⟩ := h.lk
  exact (hb.cell 518).trans hc.n0.cnt
theorem Lm.c1033 {w : World} {B : Nat} {q : Qb} {L : Lk} (h : Lm w B q L) : w.cell? ⟨q.lb, 1033, none⟩ = some (.int .i64 (L.n1.length : Nat)) := by
  obtain ⟨cs, hb, hc⟩ := h.lk
  exact (hb.cell 1033).trans hc.n1.cnt
set_option maxRecDepth 100000 in
theorem can0 {w : World} {B : Nat} {q : Qb} {L : Lk} (i : Int) (h : Lm w B q L) : Calls Tryz.prog 55 #[.pointer (some ⟨q.lb, 0, none⟩), .int .i64 0, .int .i64 i] w fun e w' => e = .returned (.int .i64 (canE L 0 i)) ∧ Hid (Below w.heap.size w w') := by
  have k0 := kmade h
  have k1 := isnet_any 0 w
  have c := h.c518
  have e0 : netB 0 = true := by decide
  rw [e0] at k1
  have e1 : canE L 0 i = if i < 0 ∨ (L.n0.length : Int) ≤ i then 15 else 0 := by unfold canE; rw [if_neg (by decide)]; rfl
  rw [e1]
  clear h e0 e1
  generalize L.n0.length = m at *
  by_cases h0 : i < 0
  · have d0 : decide (i < 0) = true := by simpa using h0
    rw [if_pos (.inl h0)]
    clear h0 c
    go_enter Tryz.func55, Tryz.ntmps55
    go_wp2_with (first | (go_at_call 41; refine k0.mono ?_; rintro e w1 ⟨rfl, hw1⟩; obtain rfl := hw1.symm; clear hw1) | (go_at_call 42; refine k1.mono ?_; rintro e w1 ⟨rfl, hw1⟩; obtain rfl := hw1.symm; clear hw1))
    go_ret
    exact ⟨rfl, Below.refl _ _⟩
  · have d0 : decide (i < 0) = false := by simpa using h0
    by_cases h1 : (m : Int) ≤ i
    · have d1 : decide (i ≥ (m : Int)) = true := by simpa using h1
      rw [if_pos (.inr h1)]
      clear h0 h1
      go_enter Tryz.func55, Tryz.ntmps55
      go_wp2_with (first | (go_at_call 41; refine k0.mono ?_; rintro e w1 ⟨rfl, hw1⟩; obtain rfl := hw1.symm; clear hw1) | (go_at_call 42; refine k1.mono ?_; rintro e w1 ⟨rfl, hw1⟩; obtain rfl := hw1.symm; clear hw1))
      go_ret
      exact ⟨rfl, Below.refl _ _⟩
    · have d1 : decide (i ≥ (m : Int)) = false := by simpa using h1
      rw [if_neg (by omega)]
      clear h0 h1
      go_enter Tryz.func55, Tryz.ntmps55
      go_wp2_with (first | (go_at_call 41; refine k0.mono ?_; rintro e w1 ⟨rfl, hw1⟩; obtain rfl := hw1.symm; clear hw1) | (go_at_call 42; refine k1.mono ?_; rintro e w1 ⟨rfl, hw1⟩; obtain rfl := hw1.symm; clear hw1))
      go_ret
      exact ⟨rfl, Below.refl _ _⟩
set_option maxRecDepth 100000 in
theorem can1 {w : World} {B : Nat} {q : Qb} {L : Lk} (i : Int) (h : Lm w B q L) : Calls Tryz.prog 55 #[.pointer (some ⟨q.lb, 0, none⟩), .int .i64 1, .int .i64 i] w fun e w' => e = .returned (.int .i64 (canE L 1 i)) ∧ Hid (Below w.heap.size w w') := by
  have k0 := kmade h
  have k1 := isnet_any 1 w
  have c := h.c1033
  have e0 : netB 1 = true := by decide
  rw [e0] at k1
  have e1 : canE L 1 i = if i < 0 ∨ (L.n1.length : Int) ≤ i then 15 else 0 := by unfold canE; rw [if_neg (by decide)]; rfl
  rw [e1]
  clear h e0 e1
  generalize L.n1.length = m at *
  by_cases h0 : i < 0
  · have d0 : decide (i < 0) = true := by simpa using h0
    rw [if_pos (.inl h0)]
    clear h0 c
    go_enter Tryz.func55, Tryz.ntmps55
    go_wp2_with (first | (go_at_call 41; refine k0.mono ?_; rintro e w1 ⟨rfl, hw1⟩; obtain rfl := hw1.symm; clear hw1) | (go_at_call 42; refine k1.mono ?_; rintro e w1 ⟨rfl, hw1⟩; obtain rfl := hw1.symm; clear hw1))
    go_ret
    exact ⟨rfl, Below.refl _ _⟩
  · have d0 : decide (i < 0) = false := by simpa using h0
    by_cases h1 : (m : Int) ≤ i
    · have d1 : decide (i ≥ (m : Int)) = true := by simpa using h1
      rw [if_pos (.inr h1)]
      clear h0 h1
      go_enter Tryz.func55, Tryz.ntmps55
      go_wp2_with (first | (go_at_call 41; refine k0.mono ?_; rintro e w1 ⟨rfl, hw1⟩; obtain rfl := hw1.symm; clear hw1) | (go_at_call 42; refine k1.mono ?_; rintro e w1 ⟨rfl, hw1⟩; obtain rfl := hw1.symm; clear hw1))
      go_ret
      exact ⟨rfl, Below.refl _ _⟩
    · have d1 : decide (i ≥ (m : Int)) = false := by simpa using h1
      rw [if_neg (by omega)]
      clear h0 h1
      go_enter Tryz.func55, Tryz.ntmps55
      go_wp2_with (first | (go_at_call 41; refine k0.mono ?_; rintro e w1 ⟨rfl, hw1⟩; obtain rfl := hw1.symm; clear hw1) | (go_at_call 42; refine k1.mono ?_; rintro e w1 ⟨rfl, hw1⟩; obtain rfl := hw1.symm; clear hw1))
      go_ret
      exact ⟨rfl, Below.refl _ _⟩
theorem can_bad {w : World} {B : Nat} {q : Qb} {L : Lk} (n i : Int) (hn : netB n = false) (h : Lm w B q L) : Calls Tryz.prog 55 #[.pointer (some ⟨q.lb, 0, none⟩), .int .i64 n, .int .i64 i] w fun e w' => e = .returned (.int .i64 (canE L n i)) ∧ Hid (Below w.heap.size w w') := by
  have k0 := kmade h
  have k1 := isnet_any n w
  rw [hn] at k1
  have e1 : canE L n i = 1 := by unfold canE; rw [if_pos hn]
  rw [e1]
  clear h hn e1
  go_enter Tryz.func55, Tryz.ntmps55
  go_wp2_with (first | (go_at_call 41; refine k0.mono ?_; rintro e w1 ⟨rfl, hw1⟩; obtain rfl := hw1.symm; clear hw1) | (go_at_call 42; refine k1.mono ?_; rintro e w1 ⟨rfl, hw1⟩; obtain rfl := hw1.symm; clear hw1))
  go_ret
  exact ⟨rfl, Below.refl _ _⟩
theorem can_any {w : World} {B : Nat} {q : Qb} {L : Lk} (n i : Int) (h : Lm w B q L) : Calls Tryz.prog 55 #[.pointer (some ⟨q.lb, 0, none⟩), .int .i64 n, .int .i64 i] w fun e w' => e = .returned (.int .i64 (canE L n i)) ∧ Hid (Below w.heap.size w w') := by
  by_cases h0 : n = 0
  · subst h0; exact can0 i h
  · by_cases h1 : n = 1
    · subst h1; exact can1 i h
    · exact can_bad n i (by simp [netB, h0, h1]) h
set_option maxRecDepth 100000 in
theorem way0 {w : World} {B : Nat} {q : Qb} {L : Lk} (h : Lm w B q L) : Calls Tryz.prog 10 #[.pointer (some ⟨q.lb, 0, none⟩), .int .i64 0] w fun e w' => e = .returned (.int .i64 (L.n0.length : Nat)) ∧ Hid (Below w.heap.size w w') := by
  have k0 := kmade h
  have k1 := isnet_any 0 w
  have c := h.c518
  have e0 : netB 0 = true := by decide
  rw [e0] at k1
  clear h e0
  go_enter Tryz.func10, Tryz.ntmps10
  go_wp2_with (first | (go_at_call 41; refine k0.mono ?_; rintro e w1 ⟨rfl, hw1⟩; obtain rfl := hw1.symm; clear hw1) | (go_at_call 42; refine k1.mono ?_; rintro e w1 ⟨rfl, hw1⟩; obtain rfl := hw1.symm; clear hw1))
  go_ret
  exact ⟨rfl, Below.refl _ _⟩
set_option maxRecDepth 100000 in
theorem way1 {w : World} {B : Nat} {q : Qb} {L : Lk} (h : Lm w B q L) : Calls Tryz.prog 10 #[.pointer (some ⟨q.lb, 0, none⟩), .int .i64 1] w fun e w' => e = .returned (.int .i64 (L.n1.length : Nat)) ∧ Hid (Below w.heap.size w w') := by
  have k0 := kmade h
  have k1 := isnet_any 1 w
  have c := h.c1033
  have e0 : netB 1 = true := by decide
  rw [e0] at k1
  clear h e0
  go_enter Tryz.func10, Tryz.ntmps10
  go_wp2_with (first | (go_at_call 41; refine k0.mono ?_; rintro e w1 ⟨rfl, hw1⟩; obtain rfl := hw1.symm; clear hw1) | (go_at_call 42; refine k1.mono ?_; rintro e w1 ⟨rfl, hw1⟩; obtain rfl := hw1.symm; clear hw1))
  go_ret
  exact ⟨rfl, Below.refl _ _⟩
theorem sent_any {w : World} {B : Nat} {q : Qb} {L : Lk} (h : Lm w B q L) : Calls Tryz.prog 12 #[.pointer (some ⟨q.lb, 0, none⟩)] w fun e w' => e = .returned (.int .i64 (L.s.nxt - 1)) ∧ w' = w := by
  have k0 := kmade h
  have k1 := next_any h.sd
  have c := h.cell.2.2.2.2.1
  have hw : IntKind.i64.wrap (L.s.nxt - 1) = L.s.nxt - 1 := by
    have := h.sd.ok.b1; have := h.sd.ok.b2; have := h.sd.ok.l1; have := h.sd.ok.l2
    rw [IntKind.wrap_i64]; omega
  clear h
  go_enter Tryz.func12, Tryz.ntmps12
  go_wp2_with (first | (go_at_call 41; refine k0.mono ?_; rintro e w1 ⟨rfl, hw1⟩; obtain rfl := hw1.symm; clear hw1) | (go_at_call 43; refine k1.mono ?_; rintro e w1 ⟨rfl, hw1⟩; obtain rfl := hw1.symm; clear hw1))
  go_ret
  exact ⟨rfl, rfl⟩
theorem got_any {w : World} {B : Nat} {q : Qb} {L : Lk} (h : Lm w B q L) : Calls Tryz.prog 13 #[.pointer (some ⟨q.lb, 0, none⟩)] w fun e w' => e = .returned (.int .i64 L.r.tk) ∧ w' = w := by
  have k0 := kmade h
  have k1 := taken_any h.rv
  have c := h.cell.2.2.2.2.2
  clear h
  go_enter Tryz.func13, Tryz.ntmps13
  go_wp2_with (first | (go_at_call 41; refine k0.mono ?_; rintro e w1 ⟨rfl, hw1⟩; obtain rfl := hw1.symm; clear hw1) | (go_at_call 44; refine k1.mono ?_; rintro e w1 ⟨rfl, hw1⟩; obtain rfl := hw1.symm; clear hw1))
  go_ret
  exact ⟨rfl, rfl⟩
theorem kheld_any {w : World} {B : Nat} {q : Qb} {L : Lk} (h : Lm w B q L) : Calls Tryz.prog 14 #[.pointer (some ⟨q.lb, 0, none⟩)] w fun e w' => e = .returned (.int .i64 (hld L.r)) ∧ Hid (Below w.heap.size w w') := by
  have k0 := kmade h
  have k1 := held_any h.rv
  have c := h.cell.2.2.2.2.2
  clear h
  go_enter Tryz.func14, Tryz.ntmps14
  go_wp2_with (first | (go_at_call 41; refine k0.mono ?_; rintro e w1 ⟨rfl, hw1⟩; obtain rfl := hw1.symm; clear hw1) | (go_at_call 45; refine k1.mono ?_; rintro e w1 ⟨rfl, hb1⟩))
  go_ret
  exact ⟨rfl, hb1⟩
/-- What an end does with a datagram. -/
theorem hear_data {w : World} {B : Nat} {q : Qb} {L : Lk} (m : Mg) (a : Option Addr) (n c : Nat) (h : Lm w B q L) (hn : m.zs.length = n) (h0 : a = none → c = 0) (hb : Bytes w a m.zs) :
    Calls Tryz.prog 19 #[.pointer (some ⟨q.lb, 0, none⟩), mval m a n c] w fun e w' => e = .returned (.int .i64 (dataE L.r m.seq n)) ∧ Hid (Lm w' B q { L with r := dataS L.r m.seq m.zs }) ∧ Hid (K4 q w w') := by
  have c5 := h.cell.2.2.2.2.2
  have hlt := h.lt
  have hL : Hid (Lm w B q L) := h
  have k : ∀ x, Below w.heap.size w x → Calls Tryz.prog 50 #[.pointer (some ⟨q.rb, 0, none⟩), .int .i64 m.seq, .slice a n c] x fun e w' => e = .returned (.int .i64 (dataE L.r m.seq n)) ∧ Hid (Lm w' B q { L with r := dataS L.r m.seq m.zs }) ∧ Hid (K4 q w w') := fun x hx =>
    (data_step m.seq a n c m.zs (h.rv.kept hx) hn h0 (hb.kept hx)).mono (by
      rintro e w' ⟨rfl, hR, hK⟩
      exact ⟨rfl, (h.kept hx).turnR hR.out hK.out, (K4.of_below hx).trans (K4.of_r hK.out)⟩)
  have k' : Hid (∀ x, Below w.heap.size w x → _) := k
  unfold mval
  clear h hb hn h0 k
  go_enter Tryz.func19, Tryz.ntmps19
  go_wp2
  go_region_with (go_at_call 50; refine (k'.out _ (((Below.refl _ _).alloc (Nat.le_refl _) _).drew)).mono ?_; rintro e w1 ⟨rfl, hL1, hK1⟩)
  all_goals go_wp2
  all_goals go_ret
  all_goals exact ⟨rfl, hL1, hK1⟩
end Go.Proofs.YtfipdldoklkciaaGreat
namespace Go.Proofs.YtfipdldoklkciaaGreat
open Go.RowKit
set_option linter.unusedVariables false
/-- What a sender holds is what it held, with the same bytes. -/
def Sub (s' s : St) : Prop := ∀ z e, s'.L z = some e → ∃ e0, s.L z = some e0 ∧ e0.zs = e.zs
theorem Sub.refl (s : St) : Sub s s := fun z e h => ⟨e, h, rfl⟩
theorem Sub.trans {a b c : St} (h : Sub a b) (k : Sub b c) : Sub a c := fun z e he => by
  obtain ⟨e1, h1, h2⟩ := h z e he
  obtain ⟨e2, h3, h4⟩ := k z e1 h1
  exact ⟨e2, h3, h4.trans h2⟩
theorem Sub.few {a b : St} {N : Nat} (h : Sub a b) (k : ∀ z e, b.L z = some e → e.zs.length ≤ N) : ∀ z e, a.L z = some e → e.zs.length ≤ N := fun z e he => by
  obtain ⟨e1, h1, h2⟩ := h z e he
  rw [← h2]
  exact k z e1 h1
theorem sub_fin (s : St) (k : Int) : Sub (finA s k) s := fun z e h => by
  have h : (if z ≤ k then none else s.L z) = some e := h
  split at h
  · cases h
  · exact ⟨e, h, rfl⟩
theorem sub_bey (s : St) (z : Int) : Sub (beyA s z) s := by
  unfold beyA
  split
  · rename_i e he
    intro x e' h
    have h2 : (if x = z then some { e with there := true } else s.L x) = some e' := h
    by_cases hx : x = z
    · rw [if_pos hx] at h2
      subst hx
      obtain rfl := Option.some.inj h2
      exact ⟨e, he, rfl⟩
    · rw [if_neg hx] at h2
      exact ⟨e', h2, rfl⟩
  · exact Sub.refl s
theorem sub_bits (s : St) (ack bits : Int) : ∀ i, Sub (bitsA s ack bits i) s
  | 0 => Sub.refl s
  | i + 1 => by
    rw [bitsA]
    split
    · exact (sub_bey _ _).trans (sub_bits s ack bits i)
    · exact sub_bits s ack bits i
theorem sub_pops : ∀ (k : Nat) (s : St), Sub (popsF k s) s
  | 0, s => Sub.refl s
  | k + 1, s => by
    rw [popsF]
    split
    · split
      · exact (sub_pops k _).trans (sub_fin s _)
      · exact Sub.refl s
    · exact Sub.refl s
theorem sub_lim (s : St) (c : Int) : Sub (limA s c) s := fun z e h => ⟨e, h, rfl⟩
theorem sub_ack (s : St) (ack bits c : Int) : Sub (ackA s ack bits c) s := (sub_lim _ c).trans ((sub_pops 64 _).trans ((sub_bits _ ack bits 64).trans (sub_fin s ack)))
theorem sub_map (f : Ent → Ent) (hf : ∀ e, (f e).zs = e.zs) (s : St) (q : Int) : Sub { s with L := fun z => if z < q then (s.L z).map f else s.L z } s := fun z e h => by
  have h : (if z < q then (s.L z).map f else s.L z) = some e := h
  split at h
  · cases hL : s.L z with
    | none => rw [hL] at h; cases h
    | some e0 =>
      rw [hL] at h
      obtain rfl := Option.some.inj h
      exact ⟨e0, rfl, (hf e0).symm⟩
  · exact ⟨e, h, rfl⟩
theorem sub_res (s : St) (ack c now : Int) : Sub (resA s ack c now) s := by
  have h1 : Sub (resU (finA s ack) now s.nxt) (finA s ack) := sub_map (ren now) (fun _ => rfl) (finA s ack) s.nxt
  exact (show Sub (resA s ack c now) (resU (finA s ack) now s.nxt) from fun z e h => ⟨e, h, rfl⟩).trans (h1.trans (sub_fin s ack))
theorem sub_due (s : St) (now : Int) : Sub (dueA s now) s := sub_map (dueE now) (fun e => by unfold dueE; split <;> rfl) s s.nxt
def ackS (s : St) (ack bits credit : Int) : St := if mayB s ack credit = true then ackA s ack bits credit else s
def ackE (s : St) (ack credit : Int) : Int := if mayB s ack credit = true then 0 else 1
theorem ack_step {B sb mb : Nat} {s : St} {w : World} (ack bits credit : Int) (h : Sd w B sb mb s) :
    Calls Tryz.prog 18 #[.pointer (some ⟨sb, 0, none⟩), .int .i64 ack, .int .u64 bits, .int .i64 credit] w fun e w' => e = .returned (.int .i64 (ackE s ack credit)) ∧ Hid (Sd w' B sb mb (ackS s ack bits credit)) ∧ Hid (K2 sb mb w w') := by
  unfold ackE ackS
  by_cases hm : mayB s ack credit = true
  · rw [if_pos hm, if_pos hm]
    exact ack_ok ack bits credit h hm
  · rw [if_neg hm, if_neg hm]
    refine (ack_bad ack bits credit h (by simpa using hm)).mono ?_
    rintro e w' ⟨rfl, rfl⟩
    exact ⟨rfl, h, K2.refl _ _ _⟩
theorem sub_ackS (s : St) (ack bits c : Int) : Sub (ackS s ack bits c) s := by
  unfold ackS
  split
  · exact sub_ack s ack bits c
  · exact Sub.refl s
set_option maxHeartbeats 2000000 in
theorem hear_ack {w : World} {B : Nat} {q : Qb} {L : Lk} (m : Mg) (a : Option Addr) (n c : Nat) (h : Lm w B q L) :
    Calls Tryz.prog 20 #[.pointer (some ⟨q.lb, 0, none⟩), mval m a n c] w fun e w' => e = .returned (.int .i64 (ackE L.s m.ack m.cred)) ∧ Hid (Lm w' B q { L with s := ackS L.s m.ack m.bits m.cred }) ∧ Hid (K4 q w w') := by
  have c4 := h.cell.2.2.2.2.1
  have hlt := h.lt
  have k : ∀ x, Below w.heap.size w x → Calls Tryz.prog 18 #[.pointer (some ⟨q.sb, 0, none⟩), .int .i64 m.ack, .int .u64 m.bits, .int .i64 m.cred] x fun e w' => e = .returned (.int .i64 (ackE L.s m.ack m.cred)) ∧ Hid (Lm w' B q { L with s := ackS L.s m.ack m.bits m.cred }) ∧ Hid (K4 q w w') := fun x hx =>
    (ack_step m.ack m.bits m.cred (h.sd.kept hx)).mono (by
      rintro e w' ⟨rfl, hR, hK⟩
      exact ⟨rfl, (h.kept hx).turnS hR.out hK.out ((sub_ackS _ _ _ _).few h.ok.few), (K4.of_below hx).trans (K4.of_s hK.out)⟩)
  have k' : Hid (∀ x, Below w.heap.size w x → _) := k
  unfold mval
  clear h k
  go_enter Tryz.func20, Tryz.ntmps20
  go_wp2
  go_region_with (go_at_call 18; refine (k'.out _ (((Below.refl _ _).alloc (Nat.le_refl _) _).drew)).mono ?_; rintro e w1 ⟨rfl, hL1, hK1⟩)
  all_goals go_wp2
  all_goals go_ret
  all_goals exact ⟨rfl, hL1, hK1⟩
/-! ### a load is sent -/
def sendE (L : Lk) (n : Nat) : Int := if 1100 < n then 8 else pushE L.s n L.now
def SendR (w' : World) (B : Nat) (q : Qb) (L : Lk) (zs : List Int) : Prop := (sendE L zs.length ≠ 0 → Lm w' B q L) ∧ (sendE L zs.length = 0 → ∃ en : Ent, en.zs = zs ∧ en.time = L.now ∧ en.wait = 1 ∧ en.there = false ∧ Lm w' B q { L with s := addA L.s en })
set_option maxRecDepth 100000 in
theorem send_any {w : World} {B : Nat} {q : Qb} {L : Lk} (a : Option Addr) (n c : Nat) (zs : List Int) (h : Lm w B q L) (hB : B ≤ w.heap.size) (hn : zs.length = n) (h0 : a = none → c = 0) (hb : Bytes w a zs) :
    Calls Tryz.prog 23 #[.pointer (some ⟨q.lb, 0, none⟩), .slice a n c] w fun e w' => e = .returned (.int .i64 (sendE L n)) ∧ Hid (SendR w' B q L zs) ∧ Hid (K4 q w w') := by
  have k0 := kmade h
  have c2 := h.cell.2.2.1
  have c4 := h.cell.2.2.2.2.1
  have hl : (n : Int) ≤ 9223372036854775807 := by have := hb.2.1; unfold maxLen at this; omega
  by_cases h1 : 1100 < n
  · have d1 : decide ((n : Int) > 1100) = true := by simp; omega
    have e : sendE L n = 8 := by unfold sendE; rw [if_pos h1]
    have hR : Hid (SendR w B q L zs) := ⟨fun _ => h, fun h2 => by rw [hn, e] at h2; cases h2⟩
    rw [e]
    clear h h1 e hb h0 hn hB
    go_enter Tryz.func23, Tryz.ntmps23
    go_wp2_with (go_at_call 41; refine k0.mono ?_; rintro e w1 ⟨rfl, hw1⟩; obtain rfl := hw1.symm; clear hw1)
    go_ret
    exact ⟨rfl, hR, K4.refl _ _⟩
  · have d1 : decide ((n : Int) > 1100) = false := by simp; omega
    have e : sendE L n = pushE L.s n L.now := by unfold sendE; rw [if_neg h1]
    have k1 : Hid (∃ R : Ending → World → Prop, Calls Tryz.prog 51 #[.pointer (some ⟨q.sb, 0, none⟩), .slice a n c, .int .i64 L.now] w.drew R ∧ ∀ e w', R e w' → ∃ v, e = .returned (.tuple #[v, .int .i64 (sendE L n)]) ∧ Hid (SendR w' B q L zs) ∧ Hid (K4 q w w')) := by
      by_cases hp : pushE L.s n L.now = 0
      · refine ⟨_, push_ok a n c zs L.now h.drew.sd hp hB hn h0 (hb.drewN 1), ?_⟩
        rintro e' w' ⟨rfl, en, he, hS, hK⟩
        refine ⟨_, by rw [e, hp], ⟨fun h2 => absurd (by rw [hn, e]; exact hp) h2, fun _ => ⟨en, he.out.1, he.out.2.1, he.out.2.2.1, he.out.2.2.2.1, ?_⟩⟩, (K4.refl q w).drew.trans (K4.of_s hK.out)⟩
        refine h.drew.turnS hS.out hK.out (fun z e1 he1 => ?_)
        have he1 : (if z = L.s.nxt then some en else L.s.L z) = some e1 := he1
        split at he1
        · obtain rfl := Option.some.inj he1
          rw [he.out.1]; omega
        · exact h.ok.few z e1 he1
      · refine ⟨_, push_bad a n c L.now h.drew.sd hp hl, ?_⟩
        rintro e' w' ⟨rfl, hb'⟩
        exact ⟨_, by rw [e], ⟨fun _ => h.drew.kept hb'.out, fun h2 => absurd (by rw [hn, e] at h2; exact h2) hp⟩, (K4.refl q w).drew.trans (K4.of_below hb'.out)⟩
    obtain ⟨R, k1, k2⟩ := k1.out
    have k2' : Hid (∀ e w', R e w' → _) := k2
    clear h h1 e hb h0 hn hB k2
    go_enter Tryz.func23, Tryz.ntmps23
    go_wp2_with (go_at_call 41; refine k0.mono ?_; rintro e w1 ⟨rfl, hw1⟩; obtain rfl := hw1.symm; clear hw1)
    go_region_with (go_at_call 51; refine k1.mono ?_; intro e w1 hr; obtain ⟨v, rfl, hS, hK⟩ := k2'.out _ _ hr; clear hr)
    all_goals go_wp2
    all_goals go_ret
    all_goals exact ⟨rfl, hS, hK⟩
end Go.Proofs.YtfipdldoklkciaaGreat
namespace Go.Proofs.YtfipdldoklkciaaGreat
open Go.RowKit
set_option linter.unusedVariables false
def rowN : Nat → List Value
  | 0 => []
  | n + 1 => .slice none 0 0 :: .bool false :: rowN n
def wayZ : List Value := rowN 256 ++ [.int .i64 0, .int .i64 0, .nilFunc]
def zl : Array Value := (.bool false :: .int .u64 0 :: .int .i64 0 :: .int .i64 0 :: .pointer none :: .pointer none :: (wayZ ++ wayZ)).toArray
theorem zero_lk (w : World) : (zeroValue 68).run Tryz.prog w = .ok (.agg zl) w := by kernel_rfl
theorem zl_size : zl.size = 1036 := by kernel_rfl
theorem zl_ne : (zl = #[]) = False := by
  rw [eq_iff_iff]
  exact ⟨fun h => absurd (congrArg Array.size h) (by rw [zl_size]; decide), False.elim⟩
theorem zl2 : zl[2]? = some (.int .i64 0) := by kernel_rfl
theorem zl518 : zl[518]? = some (.int .i64 0) := by kernel_rfl
theorem zl1033 : zl[1033]? = some (.int .i64 0) := by kernel_rfl
/-- A link's cells at first. -/
def nl1 (tok : Int) (sb rb : Nat) : Array Value := ((((zl.setIfInBounds 0 (.bool true)).setIfInBounds 1 (.int .u64 tok)).setIfInBounds 3 (.int .i64 1)).setIfInBounds 4 (.pointer (some ⟨sb, 0, none⟩))).setIfInBounds 5 (.pointer (some ⟨rb, 0, none⟩))
theorem nl1_size (tok : Int) (sb rb : Nat) : (nl1 tok sb rb).size = 1036 := by simp [nl1, zl_size]
theorem nl1_get (tok : Int) (sb rb : Nat) (j : Nat) (h : 6 ≤ j) : (nl1 tok sb rb)[j]? = zl[j]? := by
  unfold nl1
  rw [Array.getElem?_setIfInBounds_ne (by omega), Array.getElem?_setIfInBounds_ne (by omega), Array.getElem?_setIfInBounds_ne (by omega), Array.getElem?_setIfInBounds_ne (by omega), Array.getElem?_setIfInBounds_ne (by omega)]
def l0 (tok win : Int) : Lk := ⟨tok, 0, 1, s0 win win, r0 win, [], []⟩
def fn0 (lb : Nat) : Value := .func (.func 19) #[.pointer (some ⟨lb, 0, none⟩)] #[]
def fn1 (lb : Nat) : Value := .func (.func 20) #[.pointer (some ⟨lb, 0, none⟩)] #[]
theorem nl_cells (tok win : Int) (q : Qb) : LkC (((((nl1 tok q.sb q.rb).setIfInBounds 519 (.int .i64 1)).setIfInBounds 520 (fn0 q.lb)).setIfInBounds 1034 (.int .i64 2)).setIfInBounds 1035 (fn1 q.lb)) q (l0 tok win) := by
  have hs := nl1_size tok q.sb q.rb
  have hg := nl1_get tok q.sb q.rb
  have lo : ∀ j, j < 6 → (((((nl1 tok q.sb q.rb).setIfInBounds 519 (.int .i64 1)).setIfInBounds 520 (fn0 q.lb)).setIfInBounds 1034 (.int .i64 2)).setIfInBounds 1035 (fn1 q.lb))[j]? = (nl1 tok q.sb q.rb)[j]? := fun j hj => by
    rw [Array.getElem?_setIfInBounds_ne (by omega), Array.getElem?_setIfInBounds_ne (by omega), Array.getElem?_setIfInBounds_ne (by omega), Array.getElem?_setIfInBounds_ne (by omega)]
  have z := zl_size
  refine ⟨by simp [hs], ?_, ?_, ?_, ?_, ?_, ?_, ?_, ?_, ?_, ?_, ⟨by simp [l0], ?_, by simp [l0], by simp [hs]⟩, ⟨by simp [l0], ?_, by simp [l0], by simp [hs]⟩⟩
  · rw [lo 0 (by omega)]; unfold nl1
    rw [Array.getElem?_setIfInBounds_ne (by omega), Array.getElem?_setIfInBounds_ne (by omega), Array.getElem?_setIfInBounds_ne (by omega), Array.getElem?_setIfInBounds_ne (by omega), Array.getElem?_setIfInBounds_self_of_lt (by omega)]
  · rw [lo 1 (by omega)]; unfold nl1
    rw [Array.getElem?_setIfInBounds_ne (by omega), Array.getElem?_setIfInBounds_ne (by omega), Array.getElem?_setIfInBounds_ne (by omega), Array.getElem?_setIfInBounds_self_of_lt (by simp [z])]
    rfl
  · rw [lo 2 (by omega)]; unfold nl1
    rw [Array.getElem?_setIfInBounds_ne (by omega), Array.getElem?_setIfInBounds_ne (by omega), Array.getElem?_setIfInBounds_ne (by omega), Array.getElem?_setIfInBounds_ne (by omega), Array.getElem?_setIfInBounds_ne (by omega)]
    exact zl2
  · rw [lo 3 (by omega)]; unfold nl1
    rw [Array.getElem?_setIfInBounds_ne (by omega), Array.getElem?_setIfInBounds_ne (by omega), Array.getElem?_setIfInBounds_self_of_lt (by simp [z])]
    rfl
  · rw [lo 4 (by omega)]; unfold nl1
    rw [Array.getElem?_setIfInBounds_ne (by omega), Array.getElem?_setIfInBounds_self_of_lt (by simp [z])]
  · rw [lo 5 (by omega)]; unfold nl1
    rw [Array.getElem?_setIfInBounds_self_of_lt (by simp [z])]
  · rw [Array.getElem?_setIfInBounds_ne (by omega), Array.getElem?_setIfInBounds_ne (by omega), Array.getElem?_setIfInBounds_ne (by omega), Array.getElem?_setIfInBounds_self_of_lt (by omega)]
  · rw [Array.getElem?_setIfInBounds_ne (by omega), Array.getElem?_setIfInBounds_ne (by omega), Array.getElem?_setIfInBounds_self_of_lt (by simp [hs])]
    rfl
  · rw [Array.getElem?_setIfInBounds_ne (by omega), Array.getElem?_setIfInBounds_self_of_lt (by simp [hs])]
  · rw [Array.getElem?_setIfInBounds_self_of_lt (by simp [hs])]
    rfl
  · rw [Array.getElem?_setIfInBounds_ne (by omega), Array.getElem?_setIfInBounds_ne (by omega), Array.getElem?_setIfInBounds_ne (by omega), Array.getElem?_setIfInBounds_ne (by omega), hg 518 (by omega)]
    exact zl518
  · rw [Array.getElem?_setIfInBounds_ne (by omega), Array.getElem?_setIfInBounds_ne (by omega), Array.getElem?_setIfInBounds_ne (by omega), Array.getElem?_setIfInBounds_ne (by omega), hg 1033 (by omega)]
    exact zl1033
theorem knew_no (win tok : Int) (w : World) (h : win < 1 ∨ 32 < win) :
    Calls Tryz.prog 4 #[.int .i64 win, .int .u64 tok] w fun e w' => e = .returned (.tuple #[.pointer none, .int .i64 1]) ∧ w' = w := by
  have k0 := rnew_no win w h
  clear h
  go_enter Tryz.func4, Tryz.ntmps4
  go_wp2_with (go_at_call 16; refine k0.mono ?_; rintro e w1 ⟨rfl, hw1⟩; obtain rfl := hw1.symm; clear hw1)
  go_ret2
  exact ⟨rfl, rfl⟩
set_option maxHeartbeats 1000000 in
set_option maxRecDepth 100000 in
theorem knew_yes (win tok : Int) (w : World) (h1 : 1 ≤ win) (h2 : win ≤ 32) (t1 : 0 ≤ tok) (t2 : tok < 18446744073709551616) :
    Calls Tryz.prog 4 #[.int .i64 win, .int .u64 tok] w fun e w' => ∃ q : Qb, e = .returned (.tuple #[.pointer (some ⟨q.lb, 0, none⟩), .int .i64 0]) ∧ Hid (Lm w' w.heap.size q (l0 tok win)) ∧ Hid (Below w.heap.size w w') := by
  have hw : Hid (1 ≤ win ∧ win ≤ 32 ∧ 0 ≤ tok ∧ tok < 18446744073709551616) := ⟨h1, h2, t1, t2⟩
  have hz := zero_lk
  have hz1 := zl_ne
  have hz2 := zl_size
  clear h1 h2 t1 t2
  go_enter Tryz.func4, Tryz.ntmps4
  go_wp2_with fail
  refine (rnew_yes win w hw.out.1 hw.out.2.1).mono ?_
  rintro e w1 ⟨rfl, hR1, hB1⟩
  generalize hrb : w.heap.size = rb at *
  have hN : Hid (w.heap.size = rb) := hrb
  clear hrb
  go_wp2_with fail
  refine (new_yes win w1 hw.out.1 hw.out.2.1).mono ?_
  rintro e w2 ⟨rfl, hS2, hB2⟩
  have hs2 : Hid (Sd w2 w1.heap.size (w1.heap.size + 1) w1.heap.size (s0 win 0)) := hS2
  have hR2 : Hid (Rv w2 rb (r0 win)) := hR1.out.kept hB2.out
  have hz12 : Hid (rb ≤ w1.heap.size) := by have := hB1.out.size; rw [hN.out] at this; exact this
  have hBB2 : Hid (Below rb w w2) := hB1.out.trans (hB2.out.mono hz12.out)
  have hrl : Hid (rb < w1.heap.size) := hR1.out.lt
  clear hS2 hR1 hB1 hB2
  generalize hsb : w1.heap.size + 1 = sb at *
  have hsb' : Hid (w1.heap.size + 1 = sb) := hsb
  clear hsb
  generalize w1.heap.size = mb at *
  go_wp2_with fail
  have k3 := ack_ok 0 0 win hs2.out (may_s0 (by have := hw.out; omega) (by have := hw.out; omega))
  rw [ack_s0 hw.out.1 hw.out.2.1 (by have := hw.out; omega)] at k3
  refine k3.mono ?_
  rintro e w3 ⟨rfl, hS3, hK3⟩
  have hR3 : Hid (Rv w3 rb (r0 win)) := hR2.out.k2 hK3.out (by have := hrl.out; have := hsb'.out; omega) (by have := hrl.out; omega)
  have hB3 : Hid (Below rb w w3) := hK3.out.below hBB2.out (by have := hBB2.out.size; rw [hN.out] at this; exact this) (by have := hsb'.out; have := hz12.out; omega) hz12.out
  have hS3' : Hid (Sd w3 rb sb mb (s0 win win)) := ⟨hS3.out.ok, by have := hsb'.out; have := hz12.out; omega, hz12.out, hS3.out.blk, hS3.out.mp, fun z e he => by cases he⟩
  clear k3 hS3 hK3 hs2 hR2 hBB2
  go_wp2
  have e5 : ((((zl.setIfInBounds 0 (.bool true)).setIfInBounds 1 (.int .u64 tok)).setIfInBounds 3 (.int .i64 1)).setIfInBounds 4 (.pointer (some ⟨sb, 0, none⟩))).setIfInBounds 5 (.pointer (some ⟨rb, 0, none⟩)) = nl1 tok sb rb := rfl
  rw [e5]
  have hbk : Hid (Blk (w3.alloc (.cells (nl1 tok sb rb) 68)) w3.heap.size (nl1 tok sb rb) 68) := blk_new w3 _ _
  have hB4 : Hid (Below w3.heap.size w3 (w3.alloc (.cells (nl1 tok sb rb) 68))) := (Below.refl _ _).alloc (Nat.le_refl _) _
  have hC := nl_cells tok win ⟨w3.heap.size, sb, mb, rb⟩
  have hC' : Hid (LkC (((((nl1 tok sb rb).setIfInBounds 519 (.int .i64 1)).setIfInBounds 520 (fn0 w3.heap.size)).setIfInBounds 1034 (.int .i64 2)).setIfInBounds 1035 (fn1 w3.heap.size)) ⟨w3.heap.size, sb, mb, rb⟩ (l0 tok win)) := hC
  have hns := nl1_size tok sb rb
  have hns' : Hid ((nl1 tok sb rb).size = 1036) := hns
  clear hz hz1 hz2 hC e5
  generalize nl1 tok sb rb = cs at *
  have u1 : (w3.alloc (.cells cs 68)).cell? ⟨w3.heap.size, 519, none⟩ = some (cs[519]'(by omega)) := (hbk.out.cell 519).trans (Array.getElem?_eq_getElem _)
  have u2 : (w3.alloc (.cells cs 68)).cell? ⟨w3.heap.size, 520, none⟩ = some (cs[520]'(by omega)) := (hbk.out.cell 520).trans (Array.getElem?_eq_getElem _)
  have u3 : (w3.alloc (.cells cs 68)).cell? ⟨w3.heap.size, 1034, none⟩ = some (cs[1034]'(by omega)) := (hbk.out.cell 1034).trans (Array.getElem?_eq_getElem _)
  have u4 : (w3.alloc (.cells cs 68)).cell? ⟨w3.heap.size, 1035, none⟩ = some (cs[1035]'(by omega)) := (hbk.out.cell 1035).trans (Array.getElem?_eq_getElem _)
  have ff := hbk.out.fz
  generalize (cs[519]'(by omega)) = v1 at *
  generalize (cs[520]'(by omega)) = v2 at *
  generalize (cs[1034]'(by omega)) = v3 at *
  generalize (cs[1035]'(by omega)) = v4 at *
  have hlb : Hid (rb ≤ w3.heap.size) := by have := hB3.out.size; rw [hN.out] at this; exact this
  generalize hlbg : w3.heap.size = lb at *
  have hlb' : Hid (w3.heap.size = lb) := hlbg
  clear hlbg hns
  generalize (w3.alloc (.cells cs 68)) = W at *
  have hst : ∀ (X : World) (a : Addr) (f : Fn) (b c : Array Value), (store a (.func f b c)).run Tryz.prog X = _ := fun X a f b c => run_store Tryz.prog X a (.func f b c) .plain rfl
  go_region
  go_wp2
  go_region
  go_wp2
  refine bodyPost_ret (v := .tuple #[.pointer (some ⟨lb, 0, none⟩), .int .i64 0]) (by simp [results, Tryz.results4, go_sem]) rfl ⟨⟨lb, sb, mb, rb⟩, rfl, ?_, ?_⟩
  · have hK : K2 lb lb W ((((W.setCell ⟨lb, 519, none⟩ (.int .i64 1)).setCell ⟨lb, 520, none⟩ (fn0 lb)).setCell ⟨lb, 1034, none⟩ (.int .i64 2)).setCell ⟨lb, 1035, none⟩ (fn1 lb)).drew.drew := ((((K2.set W _ _).trans (K2.set _ _ _)).trans (K2.set _ _ _)).trans (K2.set _ _ _)).drew.drew
    have hb4 : Blk ((((W.setCell ⟨lb, 519, none⟩ (.int .i64 1)).setCell ⟨lb, 520, none⟩ (fn0 lb)).setCell ⟨lb, 1034, none⟩ (.int .i64 2)).setCell ⟨lb, 1035, none⟩ (fn1 lb)).drew.drew lb _ 68 := (((hbk.out.set 519 _).set 520 _).set 1034 _).set 1035 _
    have hB4' : Below w3.heap.size w3 W := by rw [hlb'.out]; exact hB4.out
    have hSW := hS3'.out.kept hB4'
    have hRW := hR3.out.kept hB4'
    have n1 : ∀ c, ¬ Blk W lb c 5 := fun c k => absurd (hbk.out.ty k) (by decide)
    have p1 := hS3'.out.blk.lt
    have p2 := hS3'.out.mp.lt
    have p3 := hR3.out.lt
    have p4 := hlb'.out
    have p5 := hw.out
    show Lm _ w.heap.size _ _
    rw [hN.out]
    exact ⟨⟨p5.2.2.1, p5.2.2.2, Int.le_refl _, by show (0 : Int) ≤ _; decide, Int.le_refl _, (fun z e he => by cases he)⟩, hSW.but hK ⟨by omega, by omega⟩ ⟨by omega, by omega⟩ n1 n1, hRW.k2 hK (by omega) (by omega), ⟨_, hb4, hC'.out⟩, (fun g hg => by rcases hg with h | h <;> cases h), hlb.out, Nat.le_refl _⟩
  · have hK : K2 lb lb W ((((W.setCell ⟨lb, 519, none⟩ (.int .i64 1)).setCell ⟨lb, 520, none⟩ (fn0 lb)).setCell ⟨lb, 1034, none⟩ (.int .i64 2)).setCell ⟨lb, 1035, none⟩ (fn1 lb)).drew.drew := ((((K2.set W _ _).trans (K2.set _ _ _)).trans (K2.set _ _ _)).trans (K2.set _ _ _)).drew.drew
    have hB4' : Below w3.heap.size w3 W := by rw [hlb'.out]; exact hB4.out
    have hz : rb ≤ w3.heap.size := by have := hlb.out; have := hlb'.out; omega
    show Below w.heap.size w _
    rw [hN.out]
    exact hK.below (hB3.out.trans (hB4'.mono hz)) (by have := hB4'.size; omega) hlb.out hlb.out
end Go.Proofs.YtfipdldoklkciaaGreat
