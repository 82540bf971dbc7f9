/-
  Bytes forged; a datagram delivered, at any place.
-/
import Derived.Test.YtfipdldoklkciaaLkr
import Derived.Test.YtfipdldoklkciaaLlb
namespace Go.Proofs.Ytfipdldoklkciaa
open Go.RowKit
set_option linter.unusedVariables false
theorem mcells_at {w : World} {b : Nat} {m : Mg} {a : Option Addr} {n c : Nat} {T : TypeId} (h : Blk w b #[.int .i64 m.kind, .int .u64 m.tok, .int .i64 m.ep, .int .i64 m.seq, .int .i64 m.ack, .int .u64 m.bits, .int .i64 m.cred, .int .i64 m.fmt, .slice a n c] T) : w.cell? ⟨b, 1, none⟩ = some (.int .u64 m.tok) := h.cell 1
def ownB (L : Lk) (zs : List Int) : Bool := decide (upE zs = 0 ∧ (upG zs).tok = L.tok)
set_option maxRecDepth 100000 in
theorem isown_any {w : World} {B : Nat} {q : Qb} {L : Lk} (a : Option Addr) (n c : Nat) (zs : List Int) (h : Lm w B q L) (hn : zs.length = n) (hb : Bytes w a zs) (hc : n ≤ c) (hcm : c ≤ 9223372036854775807) :
    Calls Try.prog 71 #[.pointer (some ⟨q.lb, 0, none⟩), .slice a n c] w fun e w' => e = .returned (.bool (ownB L zs)) ∧ Hid (Below w.heap.size w w') := by
  have kU := unpack_any a n c zs w hn hb hc hcm
  have hL : Hid (Lm w B q L) := h
  have hE : Hid (ownB L zs = decide (upE zs = 0 ∧ (outM zs).tok = L.tok)) := by
    show _ = _
    unfold ownB
    by_cases h0 : upE zs = 0
    · rw [outM_zero h0]
    · simp [h0]
  rw [hE.out]
  clear h hn hb hc hcm hE
  generalize hm : outM zs = m at *
  have hUp : Hid (∀ w w' e, UpR w w' zs e → ∃ a n c, e = .returned (.tuple #[mval m a n c, .int .i64 (upE zs)])) := fun w w' e h => by
    obtain ⟨a3, n3, c3, he, _⟩ := h
    exact ⟨a3, n3, c3, by rw [← hm]; exact he⟩
  clear hm
  generalize upE zs = x at *
  obtain ⟨R, hR⟩ : ∃ R, R = decide (x = 0 ∧ m.tok = L.tok) := ⟨_, rfl⟩
  rw [← hR]
  go_enter Try.func71, Try.ntmps71
  go_wp2_with fail
  refine kU.mono ?_
  rintro e w1 ⟨hU, hb1⟩
  obtain ⟨a3, n3, c3, rfl⟩ := hUp.out _ _ _ hU.out
  have hL1 : Hid (Lm w1 B q L) := hL.out.kept hb1.out
  have hb1' : Hid (Below w.heap.size w w1) := hb1.out
  clear kU hU hUp hL hb1
  unfold mval
  have hbk : Hid (Blk (w1.alloc (.cells #[.int .i64 m.kind, .int .u64 m.tok, .int .i64 m.ep, .int .i64 m.seq, .int .i64 m.ack, .int .u64 m.bits, .int .i64 m.cred, .int .i64 m.fmt, .slice a3 n3 c3] 25)) w1.heap.size #[.int .i64 m.kind, .int .u64 m.tok, .int .i64 m.ep, .int .i64 m.seq, .int .i64 m.ack, .int .u64 m.bits, .int .i64 m.cred, .int .i64 m.fmt, .slice a3 n3 c3] 25) := blk_new _ _ _
  have hA : Hid (Below w1.heap.size w1 (w1.alloc (.cells #[.int .i64 m.kind, .int .u64 m.tok, .int .i64 m.ep, .int .i64 m.seq, .int .i64 m.ack, .int .u64 m.bits, .int .i64 m.cred, .int .i64 m.fmt, .slice a3 n3 c3] 25))) := (Below.refl _ _).alloc (Nat.le_refl _) _
  have q1 := mcells_at hbk.out
  have q2 := (hL1.out.kept hA.out).cell.2.1
  have hB : Hid (Below w.heap.size w (w1.alloc (.cells #[.int .i64 m.kind, .int .u64 m.tok, .int .i64 m.ep, .int .i64 m.seq, .int .i64 m.ack, .int .u64 m.bits, .int .i64 m.cred, .int .i64 m.fmt, .slice a3 n3 c3] 25))) := hb1'.out.trans (hA.out.mono hb1'.out.size)
  clear hL1 hb1' hA hbk
  by_cases h0 : x = 0
  · subst h0
    by_cases h1 : m.tok = L.tok
    · have d1 : (m.tok == L.tok) = true := by simpa using h1
      obtain rfl : R = true := by rw [hR]; simp [h1]
      clear h1 hR
      go_wp2
      generalize w1.alloc (.cells #[.int .i64 m.kind, .int .u64 m.tok, .int .i64 m.ep, .int .i64 m.seq, .int .i64 m.ack, .int .u64 m.bits, .int .i64 m.cred, .int .i64 m.fmt, .slice a3 n3 c3] 25) = W at *
      go_quiet (fail)
      go_wp2
      go_ret
      exact ⟨rfl, Below.drN hB.out _⟩
    · have d1 : (m.tok == L.tok) = false := by simpa using h1
      obtain rfl : R = false := by rw [hR]; simp [h1]
      clear h1 hR
      go_wp2
      generalize w1.alloc (.cells #[.int .i64 m.kind, .int .u64 m.tok, .int .i64 m.ep, .int .i64 m.seq, .int .i64 m.ack, .int .u64 m.bits, .int .i64 m.cred, .int .i64 m.fmt, .slice a3 n3 c3] 25) = W at *
      go_quiet (fail)
      go_wp2
      go_ret
      exact ⟨rfl, Below.drN hB.out _⟩
  · have d0 : (x == 0) = false := by simpa using h0
    obtain rfl : R = false := by rw [hR]; simp [h0]
    clear h0 hR
    go_wp2
    generalize w1.alloc (.cells #[.int .i64 m.kind, .int .u64 m.tok, .int .i64 m.ep, .int .i64 m.seq, .int .i64 m.ack, .int .u64 m.bits, .int .i64 m.cred, .int .i64 m.fmt, .slice a3 n3 c3] 25) = W at *
    go_quiet (fail)
    go_wp2
    go_ret
    exact ⟨rfl, Below.drN hB.out _⟩
def forgeE (L : Lk) (n : Int) (zs : List Int) : Int := if netB n = false then 1 else if 1208 < zs.length then 8 else if ownB L zs = true then 1 else 0
def ForgeS (L L' : Lk) (n : Int) (zs : List Int) : Prop := (forgeE L n zs ≠ 0 → L' = L) ∧ (forgeE L n zs = 0 → ∃ g : Gr, g.zs = zs ∧ g.sp = true ∧ L' = netS L n (putG (netL L n) g))
set_option maxRecDepth 100000 in
theorem forge0 {w : World} {B : Nat} {q : Qb} {L : Lk} (a : Option Addr) (n c : Nat) (zs : List Int) (h : Lm w B q L) (hn : zs.length = n) (h0 : a = none → c = 0) (hb : Bytes w a zs) (hc : n ≤ c) (hcm : c ≤ 9223372036854775807) (h1 : n ≤ 1208) (ho : ownB L zs = false) :
    Calls Try.prog 31 #[.pointer (some ⟨q.lb, 0, none⟩), .int .i64 0, .slice a n c] w fun e w' => e = .returned (.int .i64 0) ∧ Hid (∃ g : Gr, g.zs = zs ∧ g.sp = true ∧ Lm w' B q { L with n0 := putG L.n0 g }) ∧ Hid (K4 q w w') := by
  have k0 := kmade h
  have k1 := isnet_any 0 w
  rw [show netB 0 = true from rfl] at k1
  have k2 := isown_any a n c zs h hn hb hc hcm
  rw [ho] at k2
  have d0 : decide ((n : Int) > 1208) = false := by simp; omega
  have kC : Hid (∀ x, Below w.heap.size w x → Calls Try.prog 73 #[.slice a n c] x fun e w' => ∃ g : Gr, e = .returned (.slice g.a g.n g.c) ∧ Hid (GrIn w' B g ∧ g.zs = zs ∧ g.sp = true ∧ Below w.heap.size w w' ∧ Lm w' B q L)) := fun x hx => (clone_any a n c zs x hn h0 hc (hb.kept hx) (by omega)).mono (by
    rintro e w' ⟨v, rfl, hO, hbb⟩
    obtain ⟨g, e1, e2, rfl, hG⟩ := gr_of_owns true hO.out
    exact ⟨g, rfl, hG.mono (h.kept hx).B_le, e1, e2, hx.trans (hbb.out.mono hx.size), (h.kept hx).kept hbb.out⟩)
  have kP : Hid (∀ x (g : Gr), (GrIn x B g ∧ g.zs = zs ∧ g.sp = true ∧ Below w.heap.size w x ∧ Lm x B q L) → Calls Try.prog 72 #[.pointer (some ⟨q.lb, 6, none⟩), .agg #[.slice g.a g.n g.c, .bool true]] x fun e w' => e = .returned (.tuple #[]) ∧ Hid (∃ g : Gr, g.zs = zs ∧ g.sp = true ∧ Lm w' B q { L with n0 := putG L.n0 g }) ∧ Hid (K4 q w w')) := fun x g hx => by
    obtain ⟨x1, x2, x3, x4, x5⟩ := hx
    have k := lput0 g x5 x1
    unfold Gr.val at k
    rw [x3] at k
    refine k.mono ?_
    rintro e w' ⟨rfl, hl, hk⟩
    exact ⟨rfl, ⟨g, x2, x3, hl.out⟩, (K4.of_below x4).trans hk.out⟩
  have hL : Hid (Lm w B q L) := h
  clear h hn h0 hb hc hcm h1 ho
  go_enter Try.func31, Try.ntmps31
  go_wp2_with fail
  refine k0.mono ?_
  rintro e wn ⟨rfl, hwn⟩
  obtain rfl := hwn.symm
  clear hwn k0
  go_wp2_with (first
    | (go_at_call 61; refine k1.mono ?_; rintro e wn ⟨rfl, hwn⟩; obtain rfl := hwn.symm; clear hwn k1)
    | (go_at_call 71; refine k2.mono ?_; rintro e w1 ⟨rfl, hb1⟩; clear k2))
  go_region_with (first
    | (go_at_call 73; refine (kC.out _ (by repeat' with_reducible first | exact hb1.out | refine Below.drew ?_ | refine Below.drN ?_ _)).mono ?_; rintro e w2 ⟨g, rfl, hG⟩; clear kC)
    | (go_at_call 72; refine (kP.out _ _ hG.out).mono ?_; rintro e w3 ⟨rfl, hL3, hK3⟩; clear kP))
  all_goals go_wp2
  all_goals go_ret
  all_goals exact ⟨rfl, hL3, hK3⟩
set_option maxRecDepth 100000 in
theorem forge1 {w : World} {B : Nat} {q : Qb} {L : Lk} (a : Option Addr) (n c : Nat) (zs : List Int) (h : Lm w B q L) (hn : zs.length = n) (h0 : a = none → c = 0) (hb : Bytes w a zs) (hc : n ≤ c) (hcm : c ≤ 9223372036854775807) (h1 : n ≤ 1208) (ho : ownB L zs = false) :
    Calls Try.prog 31 #[.pointer (some ⟨q.lb, 0, none⟩), .int .i64 1, .slice a n c] w fun e w' => e = .returned (.int .i64 0) ∧ Hid (∃ g : Gr, g.zs = zs ∧ g.sp = true ∧ Lm w' B q { L with n1 := putG L.n1 g }) ∧ Hid (K4 q w w') := by
  have k0 := kmade h
  have k1 := isnet_any 1 w
  rw [show netB 1 = true from rfl] at k1
  have k2 := isown_any a n c zs h hn hb hc hcm
  rw [ho] at k2
  have d0 : decide ((n : Int) > 1208) = false := by simp; omega
  have kC : Hid (∀ x, Below w.heap.size w x → Calls Try.prog 73 #[.slice a n c] x fun e w' => ∃ g : Gr, e = .returned (.slice g.a g.n g.c) ∧ Hid (GrIn w' B g ∧ g.zs = zs ∧ g.sp = true ∧ Below w.heap.size w w' ∧ Lm w' B q L)) := fun x hx => (clone_any a n c zs x hn h0 hc (hb.kept hx) (by omega)).mono (by
    rintro e w' ⟨v, rfl, hO, hbb⟩
    obtain ⟨g, e1, e2, rfl, hG⟩ := gr_of_owns true hO.out
    exact ⟨g, rfl, hG.mono (h.kept hx).B_le, e1, e2, hx.trans (hbb.out.mono hx.size), (h.kept hx).kept hbb.out⟩)
  have kP : Hid (∀ x (g : Gr), (GrIn x B g ∧ g.zs = zs ∧ g.sp = true ∧ Below w.heap.size w x ∧ Lm x B q L) → Calls Try.prog 72 #[.pointer (some ⟨q.lb, 521, none⟩), .agg #[.slice g.a g.n g.c, .bool true]] x fun e w' => e = .returned (.tuple #[]) ∧ Hid (∃ g : Gr, g.zs = zs ∧ g.sp = true ∧ Lm w' B q { L with n1 := putG L.n1 g }) ∧ Hid (K4 q w w')) := fun x g hx => by
    obtain ⟨x1, x2, x3, x4, x5⟩ := hx
    have k := lput1 g x5 x1
    unfold Gr.val at k
    rw [x3] at k
    refine k.mono ?_
    rintro e w' ⟨rfl, hl, hk⟩
    exact ⟨rfl, ⟨g, x2, x3, hl.out⟩, (K4.of_below x4).trans hk.out⟩
  have hL : Hid (Lm w B q L) := h
  clear h hn h0 hb hc hcm h1 ho
  go_enter Try.func31, Try.ntmps31
  go_wp2_with fail
  refine k0.mono ?_
  rintro e wn ⟨rfl, hwn⟩
  obtain rfl := hwn.symm
  clear hwn k0
  go_wp2_with (first
    | (go_at_call 61; refine k1.mono ?_; rintro e wn ⟨rfl, hwn⟩; obtain rfl := hwn.symm; clear hwn k1)
    | (go_at_call 71; refine k2.mono ?_; rintro e w1 ⟨rfl, hb1⟩; clear k2))
  go_region_with (first
    | (go_at_call 73; refine (kC.out _ (by repeat' with_reducible first | exact hb1.out | refine Below.drew ?_ | refine Below.drN ?_ _)).mono ?_; rintro e w2 ⟨g, rfl, hG⟩; clear kC)
    | (go_at_call 72; refine (kP.out _ _ hG.out).mono ?_; rintro e w3 ⟨rfl, hL3, hK3⟩; clear kP))
  all_goals go_wp2
  all_goals go_ret
  all_goals exact ⟨rfl, hL3, hK3⟩
set_option maxRecDepth 100000 in
theorem forge_no {w : World} {B : Nat} {q : Qb} {L : Lk} (k : Int) (a : Option Addr) (n c : Nat) (zs : List Int) (h : Lm w B q L) (hn : zs.length = n) (hb : Bytes w a zs) (hc : n ≤ c) (hcm : c ≤ 9223372036854775807) (hE : forgeE L k zs ≠ 0) :
    Calls Try.prog 31 #[.pointer (some ⟨q.lb, 0, none⟩), .int .i64 k, .slice a n c] w fun e w' => e = .returned (.int .i64 (forgeE L k zs)) ∧ Hid (Below w.heap.size w w') := by
  have k0 := kmade h
  have k1 := isnet_any k w
  cases hk : netB k with
  | false =>
    have e : forgeE L k zs = 1 := by unfold forgeE; rw [if_pos hk]
    rw [e]
    rw [hk] at k1
    clear h hn hb hc hcm hE e hk
    go_enter Try.func31, Try.ntmps31
    go_wp2_with (first
      | (go_at_call 58; refine k0.mono ?_; rintro e wn ⟨rfl, hwn⟩; obtain rfl := hwn.symm; clear hwn k0)
      | (go_at_call 61; refine k1.mono ?_; rintro e wn ⟨rfl, hwn⟩; obtain rfl := hwn.symm; clear hwn k1))
    go_ret
    exact ⟨rfl, Below.refl _ _⟩
  | true =>
    rw [hk] at k1
    by_cases h1 : 1208 < zs.length
    · have e : forgeE L k zs = 8 := by unfold forgeE; rw [if_neg (by rw [hk]; decide), if_pos h1]
      rw [e]
      have d0 : decide ((n : Int) > 1208) = true := by simp; omega
      clear h hn hb hc hcm hE e hk h1
      go_enter Try.func31, Try.ntmps31
      go_wp2_with (first
        | (go_at_call 58; refine k0.mono ?_; rintro e wn ⟨rfl, hwn⟩; obtain rfl := hwn.symm; clear hwn k0)
        | (go_at_call 61; refine k1.mono ?_; rintro e wn ⟨rfl, hwn⟩; obtain rfl := hwn.symm; clear hwn k1))
      go_ret
      exact ⟨rfl, Below.refl _ _⟩
    · have ho : ownB L zs = true := by
        rcases Bool.eq_false_or_eq_true (ownB L zs) with h2 | h2
        · exact h2
        · exfalso
          apply hE
          unfold forgeE
          rw [if_neg (by rw [hk]; decide), if_neg h1, if_neg (by rw [h2]; decide)]
      have e : forgeE L k zs = 1 := by unfold forgeE; rw [if_neg (by rw [hk]; decide), if_neg h1, if_pos ho]
      rw [e]
      have d0 : decide ((n : Int) > 1208) = false := by simp; omega
      have k2 := isown_any a n c zs h hn hb hc hcm
      rw [ho] at k2
      clear h hn hb hc hcm hE e hk h1 ho
      go_enter Try.func31, Try.ntmps31
      go_wp2_with (first
        | (go_at_call 58; refine k0.mono ?_; rintro e wn ⟨rfl, hwn⟩; obtain rfl := hwn.symm; clear hwn k0)
        | (go_at_call 61; refine k1.mono ?_; rintro e wn ⟨rfl, hwn⟩; obtain rfl := hwn.symm; clear hwn k1)
        | (go_at_call 71; refine k2.mono ?_; rintro e w1 ⟨rfl, hb1⟩; clear k2))
      go_ret
      exact ⟨rfl, hb1⟩
theorem forge_any {w : World} {B : Nat} {q : Qb} {L : Lk} (k : Int) (a : Option Addr) (n c : Nat) (zs : List Int) (h : Lm w B q L) (hn : zs.length = n) (h0 : a = none → c = 0) (hb : Bytes w a zs) (hc : n ≤ c) (hcm : c ≤ 9223372036854775807) :
    Calls Try.prog 31 #[.pointer (some ⟨q.lb, 0, none⟩), .int .i64 k, .slice a n c] w fun e w' => e = .returned (.int .i64 (forgeE L k zs)) ∧ Hid (∃ L', ForgeS L L' k zs ∧ Lm w' B q L') ∧ Hid (K4 q w w') := by
  by_cases hE : forgeE L k zs = 0
  · have hE' := hE
    unfold forgeE at hE'
    split at hE'
    · cases hE'
    split at hE'
    · cases hE'
    split at hE'
    · cases hE'
    rename_i h1 h2 h3
    have ho : ownB L zs = false := by simpa using h3
    have h1 : netB k = true := by simpa using h1
    rw [hE]
    by_cases hk : k = 0
    · subst hk
      refine (forge0 a n c zs h hn h0 hb hc hcm (by omega) ho).mono ?_
      rintro e' w' ⟨rfl, hR, hK⟩
      obtain ⟨g, e1, e2, hL⟩ := hR.out
      exact ⟨rfl, ⟨_, ⟨fun x => absurd hE x, fun _ => ⟨g, e1, e2, rfl⟩⟩, hL⟩, hK⟩
    · have hn1 : k = 1 := by
        unfold netB at h1
        simp at h1
        omega
      subst hn1
      refine (forge1 a n c zs h hn h0 hb hc hcm (by omega) ho).mono ?_
      rintro e' w' ⟨rfl, hR, hK⟩
      obtain ⟨g, e1, e2, hL⟩ := hR.out
      exact ⟨rfl, ⟨_, ⟨fun x => absurd hE x, fun _ => ⟨g, e1, e2, rfl⟩⟩, hL⟩, hK⟩
  · refine (forge_no k a n c zs h hn hb hc hcm hE).mono ?_
    rintro e' w' ⟨rfl, hb⟩
    exact ⟨rfl, ⟨L, ⟨fun _ => rfl, fun x => absurd x hE⟩, h.kept hb.out⟩, K4.of_below hb.out⟩
theorem del_any {w : World} {B : Nat} {q : Qb} {L : Lk} (n i : Int) (h : Lm w B q L) :
    Calls Try.prog 28 #[.pointer (some ⟨q.lb, 0, none⟩), .int .i64 n, .int .i64 i] w fun e w' => e = .returned (.int .i64 (delS L n i).1) ∧ Hid (Lm w' B q (delS L n i).2) ∧ Hid (K4 q w w') := by
  by_cases hE : canE L n i = 0
  · obtain ⟨h1, h2, h3⟩ := can_zero hE
    obtain ⟨i, rfl⟩ : ∃ k : Nat, i = (k : Int) := ⟨i.toNat, by omega⟩
    by_cases h0 : n = 0
    · subst h0
      have h3 : ((i : Nat) : Int) < L.n0.length := h3
      obtain ⟨g, hg⟩ : ∃ g, L.n0[i]? = some g := ⟨_, List.getElem?_eq_getElem (by omega)⟩
      have e : delS L 0 (i : Nat) = delR { L with n0 := L.n0.eraseIdx i } 0 g.zs := by
        unfold delS
        rw [show (netL L 0)[((i : Nat) : Int).toNat]? = some g from hg]
        show (if canE L 0 (i : Nat) = 0 then _ else _) = _
        rw [if_pos hE]; rfl
      rw [e]
      exact del0 i g h hE hg
    · have hn1 : n = 1 := by
        unfold netB at h1
        simp at h1
        omega
      subst hn1
      have h3 : ((i : Nat) : Int) < L.n1.length := h3
      obtain ⟨g, hg⟩ : ∃ g, L.n1[i]? = some g := ⟨_, List.getElem?_eq_getElem (by omega)⟩
      have e : delS L 1 (i : Nat) = delR { L with n1 := L.n1.eraseIdx i } 1 g.zs := by
        unfold delS
        rw [show (netL L 1)[((i : Nat) : Int).toNat]? = some g from hg]
        show (if canE L 1 (i : Nat) = 0 then _ else _) = _
        rw [if_pos hE]; rfl
      rw [e]
      exact del1 i g h hE hg
  · have e : delS L n i = (canE L n i, L) := by
      unfold delS
      split
      · rw [if_neg hE]
      · rfl
    rw [e]
    refine (del_no n i h hE).mono ?_
    rintro e w' ⟨rfl, hb⟩
    exact ⟨rfl, h.kept hb.out, K4.of_below hb.out⟩
end Go.Proofs.Ytfipdldoklkciaa
