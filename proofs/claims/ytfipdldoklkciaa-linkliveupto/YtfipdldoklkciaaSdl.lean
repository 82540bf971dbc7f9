/-
  What is told now.
-/
import Derived.Test.YtfipdldoklkciaaSdk
namespace Go.Proofs.Ytfipdldoklkciaa
open Go.RowKit
set_option linter.unusedVariables false
def tellB (now : Int) (e : Ent) : Bool := !e.there && decide (e.time ≤ now)
def nxtE (now : Int) (e : Ent) : Ent := { e with time := now + e.wait, wait := min (2 * e.wait) 64 }
def dueE (now : Int) (e : Ent) : Ent := if tellB now e = true then nxtE now e else e
def dueU (s : St) (now q : Int) : St := { s with L := fun z => if z < q then (s.L z).map (dueE now) else s.L z }
def dueA (s : St) (now : Int) : St := dueU s now s.nxt
/-- What is told of the first k numbers from the base on. -/
def dueL (s : St) (now : Int) : Nat → List (Int × List Int)
  | 0 => []
  | k + 1 => dueL s now k ++ (match s.L (s.base + (k : Int)) with | some e => if tellB now e = true then [(s.base + (k : Int), e.zs)] else [] | none => [])
theorem dueL_len (s : St) (now : Int) : ∀ k, (dueL s now k).length ≤ k
  | 0 => by simp [dueL]
  | k + 1 => by
    have := dueL_len s now k
    unfold dueL
    rw [List.length_append]
    split
    · split <;> simp <;> omega
    · simp; omega
theorem due_none {s : St} {now : Int} (h : Ok s) : dueU s now s.base = s := by
  refine St.ext' rfl rfl rfl rfl fun z => ?_
  show (if z < s.base then (s.L z).map (dueE now) else s.L z) = s.L z
  split
  · have := h.inn z
    cases hL : s.L z with
    | none => rfl
    | some e => rw [hL] at this; simp at this; omega
  · rfl
theorem due_step {s : St} {now q : Int} {e : Ent} (hL : s.L q = some e) (ht : tellB now e = true) : setA (dueU s now q) q (nxtE now e) = dueU s now (q + 1) := by
  refine St.ext' rfl rfl rfl rfl fun z => ?_
  show (if z = q then some (nxtE now e) else if z < q then (s.L z).map (dueE now) else s.L z) = if z < q + 1 then (s.L z).map (dueE now) else s.L z
  by_cases hz : z = q
  · subst hz
    rw [if_pos rfl, if_pos (by omega), hL]
    show _ = some (dueE now e)
    unfold dueE
    rw [if_pos ht]
  · rw [if_neg hz]
    by_cases hq : z < q
    · rw [if_pos hq, if_pos (by omega)]
    · rw [if_neg hq, if_neg (by omega)]
theorem due_skip {s : St} {now q : Int} {e : Ent} (hL : s.L q = some e) (ht : tellB now e = false) : dueU s now (q + 1) = dueU s now q := by
  refine St.ext' rfl rfl rfl rfl fun z => ?_
  show (if z < q + 1 then (s.L z).map (dueE now) else s.L z) = if z < q then (s.L z).map (dueE now) else s.L z
  by_cases hz : z = q
  · subst hz
    rw [if_pos (by omega), if_neg (by omega), hL]
    show some (dueE now e) = _
    unfold dueE
    rw [if_neg (by simp [ht])]
  · by_cases hq : z < q
    · rw [if_pos hq, if_pos (by omega)]
    · rw [if_neg hq, if_neg (by omega)]
theorem due_at {s : St} {now q : Int} : (dueU s now q).L q = s.L q := by
  show (if q < q then (s.L q).map (dueE now) else s.L q) = s.L q
  rw [if_neg (by omega)]
theorem due_up {N sb mb : Nat} {s : St} {now q : Int} (h : Up N sb mb s) : Up N sb mb (dueU s now q) := by
  refine ⟨h.1, h.2.1, fun z e x he hx => ?_⟩
  have he : (if z < q then (s.L z).map (dueE now) else s.L z) = some e := he
  split at he
  · cases hL : s.L z with
    | none => rw [hL] at he; cases he
    | some e1 =>
      rw [hL] at he
      simp at he
      refine h.2.2 z e1 x hL ?_
      rw [← he] at hx
      unfold dueE at hx
      split at hx <;> exact hx
  · exact h.2.2 z e x he hx
theorem due_bad {B sb mb : Nat} {s : St} {w : World} (now : Int) (h : Sd w B sb mb s) (ht : timeB now = false) :
    Calls Try.prog 65 #[.pointer (some ⟨sb, 0, none⟩), .int .i64 now] w fun e w' => e = .returned (.slice none 0 0) ∧ w' = w := by
  have k1 := made_yes sb w h.c0
  have k3 := time_any now w
  rw [ht] at k3
  clear h ht
  go_enter Try.func65, Try.ntmps65
  go_wp2_with (first | (go_at_call 89; refine k1.mono ?_; rintro e w1 ⟨rfl, hw1⟩; obtain rfl := hw1.symm) | (go_at_call 95; refine k3.mono ?_; rintro e w1 ⟨rfl, hw1⟩; obtain rfl := hw1.symm))
  go_ret
  all_goals simp_all
theorem OwnsB.base {w : World} {b b' : Nat} {v : Value} {zs : List Int} (h : OwnsB w b v zs) (hb : b' ≤ b) : OwnsB w b' v zs := by
  obtain ⟨⟨h1, h2⟩, h3⟩ := h
  refine ⟨⟨h1, ?_⟩, h3⟩
  rcases h2 with h2 | ⟨g, cap, cur, hv, hg, r⟩
  · exact .inl h2
  · exact .inr ⟨g, cap, cur, hv, Nat.le_trans hb hg, r⟩
theorem OwnsT.own_lt {w : World} {base : Nat} {v : Value} {L : List (Int × Value × List Int)} (h : OwnsT w base v L) : ∀ g, v.ownBlock = some g → g < w.heap.size := by
  intro g hg
  rcases h.1.2 with ⟨rfl, _⟩ | ⟨g', cap, cur, rfl, _, hc, _⟩
  · simp [Value.ownBlock] at hg
  · simp [Value.ownBlock] at hg
    subst hg
    exact (Array.getElem?_eq_some_iff.1 hc).1
theorem OwnsT.set {w : World} {base g : Nat} {v : Value} {L : List (Int × Value × List Int)} {cs : Array Value} {T : TypeId} (h : OwnsT w base v L) (hb : Blk w g cs T) (h1 : T ≠ 25) (h2 : T ≠ 5) (j : Nat) (u : Value) : OwnsT (w.setCell ⟨g, j, none⟩ u) base v L :=
  h.keep fun b cur e _ h4 h5 => Below.heap_setCell _ _ _ _ (fun e1 => by
    have e2 : b = g := e1
    subst e2
    unfold Blk at hb
    rw [h4] at hb
    injection hb with hb
    injection hb with _ hb
    rcases h5 with rfl | rfl
    · exact h1 hb.symm
    · exact h2 hb.symm)
theorem K2.low {q g : Nat} {w w1 w2 : World} (k : K2 q g w w1) (b : Below w.heap.size w1 w2) : K2 q g w w2 :=
  ⟨b.os.trans k.os, b.tape.trans k.tape, b.output.trans k.output, Nat.le_trans k.size b.size, fun i hi h1 h2 => (b.block i hi).trans (k.block i hi h1 h2)⟩
def plainT (L : List (Int × Value × List Int)) : List (Int × List Int) := L.map fun p => (p.1, p.2.2)
set_option maxHeartbeats 2000000 in
theorem due_ok {B sb mb : Nat} {s : St} {w : World} (now : Int) (h : Sd w B sb mb s) (ht : timeB now = true) :
    Calls Try.prog 65 #[.pointer (some ⟨sb, 0, none⟩), .int .i64 now] w fun e w' => ∃ v L, e = .returned v ∧ Hid (OwnsT w' w.heap.size v L) ∧ Hid (plainT L = dueL s now (s.nxt - s.base).toNat) ∧ Hid (Sd w' B sb mb (dueA s now)) ∧ Hid (Up w.heap.size sb mb (dueA s now)) ∧ Hid (K2 sb mb w w') := by
  have k1 := made_yes sb w h.c0
  have k3 := time_any now w
  rw [ht] at k3
  have c3 := h.c3
  have hS0 : Hid (Sd w B sb mb s) := h
  have hU0 : Hid (Up w.heap.size sb mb s) := h.up
  have hm : Hid (0 ≤ now ∧ now ≤ 1099511627776) := by simp [timeB] at ht; exact ht
  have hO : Hid (Ok s) := h.ok
  clear h ht
  go_enter Try.func65, Try.ntmps65
  go_wp2_with (first | (go_at_call 89; refine k1.mono ?_; rintro e w1 ⟨rfl, hw1⟩; obtain rfl := hw1.symm; clear k1 hw1) | (go_at_call 95; refine k3.mono ?_; rintro e w1 ⟨rfl, hw1⟩; obtain rfl := hw1.symm; clear k3 hw1))
  go_loopw [5, 6, 7] (fun s5 s6 _ wr => ∃ (q : Int) (k : Nat) (v : Value) (L : List (Int × Value × List Int)), s5 = v ∧ s6 = .int .i64 q ∧ Hid (q = s.base + (k : Int) ∧ k ≤ (s.nxt - s.base).toNat) ∧ Hid (OwnsT wr w.heap.size v L) ∧ Hid (plainT L = dueL s now k) ∧ Hid (Sd wr B sb mb (dueU s now q)) ∧ Hid (K2 sb mb w wr)) (fun _ q _ _ => (s.nxt - intOf q).toNat)
  case atStart => exact ⟨s.base, 0, _, [], rfl, rfl, ⟨by simp, Nat.zero_le _⟩, ownsT_nil _ _, rfl, (by show Sd _ _ _ _ _; rw [due_none hO.out]; exact hS0.out), K2.refl _ _ _⟩
  case round =>
    obtain ⟨q, k, v, L, rfl, rfl, hk, hT, hL, hS, hK⟩ := hrel
    have c4 : wr.cell? ⟨sb, 4, none⟩ = some (.int .i64 s.nxt) := hS.out.c4
    have c5 := hS.out.c5
    have hU : Hid (Up w.heap.size sb mb (dueU s now q)) := due_up hU0.out
    by_cases hlt : q < s.nxt
    · have hd : decide (q < s.nxt) = true := by simp; omega
      have hbq : Hid (s.base ≤ q) := by have := hk.out; show _ ≤ _; omega
      have hrg : Hid (-9223372036854775808 ≤ q ∧ q < 9223372036854775808) := by
        have := hO.out.b1; have := hO.out.l1; have := hO.out.l2; have := hbq.out
        show _ ∧ _; omega
      have hwr : IntKind.i64.wrap (q + 1) = q + 1 := by
        have := hO.out.b1; have := hO.out.l1; have := hO.out.l2; have := hbq.out
        rw [IntKind.wrap_i64]; omega
      have hl := hS.out.mp.look hrg.out
      cases hLq : s.L q with
      | none => have := (hO.out.inn q).2 ⟨hbq.out, hlt⟩; rw [hLq] at this; cases this
      | some e =>
      have hL2 : Hid ((dueU s now q).L q = some e) := due_at.trans hLq
      rw [show (dueU s now q).f q = some e.val by simp [St.f, hL2.out]] at hl
      simp only [Option.getD_some, Ent.val] at hl
      have hlt' : Hid (q < s.nxt) := hlt
      have hLq' : Hid (s.L q = some e) := hLq
      have hLq2 : Hid (s.L (s.base + (k : Int)) = some e) := by show _ = _; rw [← hk.out.1]; exact hLq
      have hent := hO.out.ent q e hLq
      have hsb := hS.out.blk.lt
      cases htl : tellB now e with
      | false =>
        have hS2 : Hid (Sd wr B sb mb (dueU s now (q + 1))) := by show Sd _ _ _ _ _; rw [due_skip hLq htl]; exact hS.out
        have hL3 : Hid (plainT L = dueL s now (k + 1)) := by show _ = _; rw [dueL, hLq2.out]; simp only [htl]; rw [hL.out]; simp
        have hend : ∀ (wx : World), Below wr.heap.size wr wx → Hid (((∃ (q' : Int) (k : Nat) (v' : Value) (L : List (Int × Value × List Int)), u5 = v' ∧ Value.int .i64 (q + 1) = .int .i64 q' ∧ Hid (q' = s.base + (k : Int) ∧ k ≤ (s.nxt - s.base).toNat) ∧ Hid (OwnsT wx w.heap.size v' L) ∧ Hid (plainT L = dueL s now k) ∧ Hid (Sd wx B sb mb (dueU s now q')) ∧ Hid (K2 sb mb w wx))) ∧ (s.nxt - (q + 1)).toNat < (s.nxt - q).toNat) := fun wx hb =>
          ⟨⟨q + 1, k + 1, u5, L, rfl, rfl, ⟨by have := hk.out; omega, by have := hk.out; omega⟩, hT.out.kept hb, hL3.out, hS2.out.kept hb, hK.out.trans (K2.of_below hb)⟩, by have := hlt'.out; omega⟩
        cases hth : e.there with
        | true =>
          rw [hth] at hl
          clear hlt hLq hent htl hth
          go_wp2
          refine (hend _ ?_).out
          exact (Below.refl _ _).alloc (Nat.le_refl _) _
        | false =>
          have hdt : decide (e.time > now) = true := by simp [tellB, hth] at htl; simp; omega
          rw [hth] at hl
          clear hlt hLq hent htl hth
          go_wp2
          refine (hend _ ?_).out
          exact (Below.refl _ _).alloc (Nat.le_refl _) _
      | true =>
        have hth : e.there = false := by simp [tellB] at htl; exact htl.1
        have hdt : decide (e.time > now) = false := by simp [tellB] at htl; simp; omega
        have hst : Hid (setA (dueU s now q) q (nxtE now e) = dueU s now (q + 1)) := due_step hLq htl
        have hL3 : Hid (dueL s now (k + 1) = plainT L ++ [(q, e.zs)]) := by show _ = _; rw [dueL, hLq2.out]; simp only [htl]; rw [hL.out, hk.out.1]; simp
        have hthe : Hid (e.there = false) := hth
        rw [hth] at hl
        have hlq := hS.out.ld q e hL2.out
        have hcp : Hid (∀ w', Below wr.heap.size wr w' → Calls Try.prog 97 #[.slice e.a e.n e.c] w' fun e1 w'' => ∃ v, e1 = .returned v ∧ OwnsB w'' w'.heap.size v e.zs ∧ Below w'.heap.size w' w'') := fun w' hw' => copy_any e.a e.n e.c e.zs w' hent.1 hlq.nil (hlq.by_.kept hw') hent.2.1
        have hwt : IntKind.i64.wrap (now + e.wait) = now + e.wait := by have := hm.out; rw [IntKind.wrap_i64]; omega
        have hw2 : IntKind.i64.wrap (2 * e.wait) = 2 * e.wait := by rw [IntKind.wrap_i64]; omega
        have hent' : Hid (1 ≤ e.wait ∧ e.wait ≤ 64) := hent.2.2.2.2
        have hlen : Hid (L.length ≤ 100000) := by
          have h1 : (plainT L).length = L.length := by simp [plainT]
          rw [hL.out] at h1
          have h2 := dueL_len s now k
          have h3 := hk.out.2
          have h4 := hO.out.few
          have h5 := hO.out.w2
          show L.length ≤ 100000
          omega
        have hsz : Hid (((dueU s now q).nxt - (dueU s now q).base).toNat < 1000) := by have := hS.out.ok.few; have := hS.out.ok.w2; show _ < _; omega
        clear hlt hLq hent htl hth hlq
        go_wp2_with fail
        refine (hcp.out _ ((Below.refl _ _).alloc (Nat.le_refl _) _)).mono ?_
        rintro e1 w2 ⟨v2, rfl, hO2, hb2⟩
        have hbk2 : Hid (Blk w2 wr.heap.size _ 145) := (blk_new wr _ _).kept hb2
        have hB2 : Hid (Below wr.heap.size wr w2) := ((Below.refl _ _).alloc (Nat.le_refl _) _).trans (hb2.mono (by simp))
        have hN2 : Hid (w.heap.size ≤ w2.heap.size) := Nat.le_trans hK.out.size hB2.out.size
        have hT2 : Hid (OwnsT w2 w.heap.size u5 L) := hT.out.kept hB2.out
        have hO2' : Hid (OwnsB w2 w.heap.size v2 e.zs) := hO2.base (by have := hK.out.size; simp; omega)
        have hS2 : Hid (Sd w2 B sb mb (dueU s now q)) := hS.out.kept hB2.out
        have hown : Hid (∀ g, u5.ownBlock = some g → g < wr.heap.size) := hT.out.own_lt
        have hwl : Hid (wr.heap.size < w2.heap.size) := hbk2.out.lt
        obtain ⟨a2, n2, c2', rfl, _⟩ := hO2.form
        clear hO2 hb2 hl hcp
        go_wp2_with (at_builtin; refine wpList_append_msg rfl _ _ rfl w.heap.size _ L (q, .slice a2 n2 c2', e.zs) rfl (hT2.out.alloc _) (hO2'.out.alloc _) w2.heap.size rfl (fun j _ => ((blk_new w2 _ _).cell j).trans Array.getElem?_toList.symm) hlen.out (by have := hN2.out; simp; omega) ?_; intro v4 w4 hT4 hg4; have hB4 : Hid (Below w.heap.size w2 w4) := ownT_below ((Below.refl _ _).alloc hN2.out _) (hT2.out.alloc _) hg4 (by have := hN2.out; simp; omega); have hbk4 : Hid (Blk w4 wr.heap.size #[.slice e.a e.n e.c, .int .i64 e.time, .int .i64 e.wait, .bool false] 145) := (hg4.block wr.heap.size (by have := hwl.out; simp; omega) (fun h => by have := hown.out _ h.symm; omega)).trans ((Below.heap_alloc _ _ _ hwl.out).trans hbk2.out); have hT4' : Hid (OwnsT w4 w.heap.size v4 (L ++ [(q, .slice a2 n2 c2', e.zs)])) := hT4; have hg4' : Hid ((w2.alloc _).grownBy w4 u5.ownBlock) := hg4; have d0 := hbk4.out.cell 0; have d1 := hbk4.out.cell 1; have d2 := hbk4.out.cell 2; have d3 := hbk4.out.cell 3; have g1 := hbk4.out.fz 1; have g2 := hbk4.out.fz 2; clear hT4 hg4)
        have hbk5 : Hid (Blk ((w4.setCell ⟨wr.heap.size, 1, none⟩ (.int .i64 (now + e.wait))).setCell ⟨wr.heap.size, 2, none⟩ (.int .i64 (min (2 * e.wait) 64))) wr.heap.size #[.slice e.a e.n e.c, .int .i64 (now + e.wait), .int .i64 (min (2 * e.wait) 64), .bool false] 145) := (hbk4.out.set 1 _).set 2 _
        have hB5 : Hid (Below w.heap.size w2 ((w4.setCell ⟨wr.heap.size, 1, none⟩ (.int .i64 (now + e.wait))).setCell ⟨wr.heap.size, 2, none⟩ (.int .i64 (min (2 * e.wait) 64)))) := (hB4.out.setCell (p := ⟨wr.heap.size, 1, none⟩) hK.out.size _).setCell (p := ⟨wr.heap.size, 2, none⟩) hK.out.size _
        have hT5 : Hid (OwnsT ((w4.setCell ⟨wr.heap.size, 1, none⟩ (.int .i64 (now + e.wait))).setCell ⟨wr.heap.size, 2, none⟩ (.int .i64 (min (2 * e.wait) 64))) w.heap.size v4 (L ++ [(q, .slice a2 n2 c2', e.zs)])) := (hT4'.out.set hbk4.out (by decide) (by decide) 1 _).set (hbk4.out.set 1 _) (by decide) (by decide) 2 _
        clear d0 d1 d2 d3 g1 g2 hbk4 hT4' hg4' hB4
        generalize (w4.setCell ⟨wr.heap.size, 1, none⟩ (.int .i64 (now + e.wait))).setCell ⟨wr.heap.size, 2, none⟩ (.int .i64 (min (2 * e.wait) 64)) = w5 at *
        have hS5 : Hid (Sd w5 B sb mb (dueU s now q)) := hS2.out.below hU.out hB5.out
        have hK5 : Hid (K2 sb mb w w5) := (hK.out.trans (K2.of_below hB2.out)).low hB5.out
        have d0 := hbk5.out.cell 0
        have d1 := hbk5.out.cell 1
        have d2 := hbk5.out.cell 2
        have d3 := hbk5.out.cell 3
        have c55 := hS5.out.c5
        obtain ⟨w6, hr, hm6, hg⟩ := hS5.out.mp.drew.store hsz.out hrg.out (Ent.val { nxtE now e with there := false })
        have hg6 : Hid (w5.grownBy w6 (some mb)) := ⟨hg.os, hg.tape, hg.output, hg.size, hg.block⟩
        have hS6 : Hid (Sd w6 B sb mb (dueU s now (q + 1))) := by
          show Sd _ _ _ _ _
          rw [← hst.out]
          have e9 : ({ nxtE now e with there := false } : Ent) = nxtE now e := by
            have : (nxtE now e).there = false := hthe.out
            cases hne : nxtE now e
            rw [hne] at this
            simp at this
            subst this
            rfl
          rw [e9] at hm6
          have h64 := hent'.out
          have hn0 := hm.out
          exact sd_put hS5.out hL2.out rfl rfl rfl rfl ⟨by show 0 ≤ now + e.wait; omega, by show now + e.wait ≤ _; omega, by show 1 ≤ min (2 * e.wait) 64; omega, by show min (2 * e.wait) 64 ≤ 64; omega⟩ hm6 hg6.out
        have hT6 : Hid (OwnsT w6 w.heap.size v4 (L ++ [(q, .slice a2 n2 c2', e.zs)])) := hT5.out.k2 (K2.of_g (q := sb) hg6.out) hU.out.1 hU.out.2.1
        have hK6 : Hid (K2 sb mb w w6) := hK5.out.trans (K2.of_g hg6.out)
        simp only [Ent.val, nxtE] at hr
        clear hm6 hg c5 c4 hg6 hT5 hS5 hK5
        go_region
        go_wp2
        exact ⟨⟨q + 1, k + 1, v4, L ++ [(q, .slice a2 n2 c2', e.zs)], rfl, rfl, ⟨by have := hk.out; omega, by have := hk.out; have := hlt'.out; have := hbq.out; omega⟩, hT6, (by show _ = _; rw [hL3.out]; simp [plainT]), hS6, hK6⟩, by have := hlt'.out; show (s.nxt - (q + 1)).toNat < (s.nxt - q).toNat; omega⟩
    · have hd : decide (q < s.nxt) = false := by simp; omega
      have hqn : q = s.nxt := by have := hk.out; have := hO.out.b2; omega
      have hkn : Hid (k = (s.nxt - s.base).toNat) := by have := hk.out; have := hO.out.b2; show _ = _; omega
      have hSn : Hid (Sd wr B sb mb (dueA s now)) := by show Sd _ _ _ _ _; unfold dueA; rw [← hqn]; exact hS.out
      have hUn : Hid (Up w.heap.size sb mb (dueA s now)) := due_up hU0.out
      clear hlt hqn c5
      go_wp2
      go_ret
      exact ⟨u5, L, rfl, hT, (by rw [← hkn.out]; exact hL), hSn, hUn, hK⟩
end Go.Proofs.Ytfipdldoklkciaa
