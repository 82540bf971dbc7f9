/-
  A sender that nobody made; loads that are written over: the walk.
-/
import Derived.Test.YtjnoijpindbobaaSdu
import Derived.Test.YtjnoijpindbobaaSdo
namespace Go.Proofs.Ytjnoijpindbobaa
open Go.RowKit
set_option linter.unusedVariables false
theorem Blk.k2 {w w' : World} {q g b : Nat} {cs : Array Value} {T : TypeId} (h : Blk w b cs T) (k : K2 q g w w') (h1 : b ≠ q) (h2 : b ≠ g) : Blk w' b cs T := (k.block b h.lt h1 h2).trans h
/-- The sender, and the act's box, in memory. -/
structure NI (w wr : World) (B sb mb bx : Nat) (act : Array Value) (s : St) : Prop where
  sd : Sd wr B sb mb s
  bel : Below w.heap.size w wr
  bk : Blk wr bx act 31
theorem NI.kept {w wr w' : World} {B sb mb bx : Nat} {act : Array Value} {s : St} (h : NI w wr B sb mb bx act s) (hb : Below wr.heap.size wr w') : NI w w' B sb mb bx act s :=
  ⟨h.sd.kept hb, h.bel.trans (hb.mono h.bel.size), h.bk.kept hb⟩
theorem NI.setAway {w wr : World} {B sb mb bx : Nat} {act : Array Value} {s : St} (h : NI w wr B sb mb bx act s) {g : Nat} (j : Nat) (v : Value) (h1 : g ≠ sb) (h2 : g ≠ mb) (h3 : ∀ z e x, s.L z = some e → e.a = some x → x.block ≠ g) (h4 : g ≠ bx) (h5 : w.heap.size ≤ g) : NI w (wr.setCell ⟨g, j, none⟩ v) B sb mb bx act s :=
  ⟨h.sd.setAway v h1 h2 h3, h.bel.setCell (p := ⟨g, j, none⟩) h5 v, (Below.heap_setCell _ _ _ _ (by simpa using Ne.symm h4)).trans h.bk⟩
theorem nb_pure {en : Ent} {zs : List Int} (h : en.zs = zs ∧ en.time = 0 ∧ en.wait = 1 ∧ en.there = false) :
    dueL (addA (s0 2 2) en) 0 1 = [(1, zs)] ∧ dueL (dueA (addA (s0 2 2) en) 0) 9 1 = [(1, zs)] := by
  have t1 : tellB 0 en = true := by simp [tellB, h]
  have t2 : tellB 9 (nxtE 0 en) = true := by simp [tellB, nxtE, h]
  refine ⟨by simp [dueL, addA, s0, t1, h], ?_⟩
  have hL : (dueA (addA (s0 2 2) en) 0).L 1 = some (nxtE 0 en) := by simp [dueA, dueU, addA, s0, dueE, t1]
  have hb : (dueA (addA (s0 2 2) en) 0).base = 1 := rfl
  have hz : (nxtE 0 en).zs = zs := h.1
  simp [dueL, hb, hL, t2, hz]
/-- One message told, with its load in memory of its own from N on. -/
structure M1 (w : World) (N g n : Nat) (am : Option Addr) (cm : Nat) : Prop where
  cs : ∀ j, j < 9 → w.cell? ⟨g, j, none⟩ = (msC (1, .slice am n cm, []))[j]?
  lt : g < w.heap.size
  ld : n = 0 ∨ ∃ gm, am = some ⟨gm, 0, none⟩ ∧ N ≤ gm ∧ gm < w.heap.size ∧ DW w gm n
theorem m1_of {w : World} {N n c : Nat} {a : Option Addr} {L : List (Int × Value × List Int)} {zs : List Int} (h : OwnsT w N (.slice a n c) L) (hL : plainT L = [(1, zs)]) :
    n = 1 ∧ ∃ g am cm, a = some ⟨g, 0, none⟩ ∧ M1 w N g zs.length am cm ∧ Bytes w am zs ∧ zs.length ≤ cm ∧ cm ≤ 9223372036854775807 := by
  obtain ⟨q, rfl, hq⟩ : ∃ q, L = [q] ∧ (q.1, q.2.2) = ((1 : Int), zs) := by
    match L with
    | [] => simp [plainT] at hL
    | [q] => simp [plainT] at hL; exact ⟨q, rfl, by simp [hL]⟩
    | q1 :: q2 :: l => simp [plainT] at hL
  obtain ⟨z, v, zs'⟩ := q
  simp only [Prod.mk.injEq] at hq
  obtain ⟨rfl, rfl⟩ := hq
  obtain ⟨g, cap, hv, hg1, hg2, hc⟩ := h.cells (i := 0) rfl
  have ho := h.2 (1, v, zs') (by simp)
  obtain ⟨am, cm, e, h1, ⟨h2, h3⟩, h4, h5⟩ := OwnsB.shape (zs := zs') ho
  subst e
  cases hv
  refine ⟨rfl, g, am, cm, rfl, ⟨fun j hj => ?_, hg2, ?_⟩, h4, h2, by unfold maxLen at h3; exact h3⟩
  · have := hc j hj
    rw [Nat.zero_mul, Nat.zero_add] at this
    exact this
  · by_cases h0 : zs'.length = 0
    · exact .inl h0
    · right
      obtain ⟨gm, off, rfl⟩ := bytes_some h4 (by omega)
      have h6 := h5 _ rfl
      obtain rfl : off = 0 := h6.2.2.1
      exact ⟨gm, rfl, h6.1, h6.2.1, DW.of ho⟩
theorem M1.kept {w w' : World} {N g n cm : Nat} {am : Option Addr} (h : M1 w N g n am cm) (hb : Below w.heap.size w w') : M1 w' N g n am cm := by
  refine ⟨fun j hj => by rw [hb.cell (p := ⟨g, j, none⟩) h.lt]; exact h.cs j hj, Nat.lt_of_lt_of_le h.lt hb.size, ?_⟩
  rcases h.ld with h0 | ⟨gm, h1, h2, h3, h4⟩
  · exact .inl h0
  · exact .inr ⟨gm, h1, h2, Nat.lt_of_lt_of_le h3 hb.size, fun i hi => ⟨(h4 i hi).1.imp fun c hc => by rw [hb.cell (p := ⟨gm, i, none⟩) h3]; exact hc, by rw [← (h4 i hi).2]; unfold World.frozen?; rw [hb.block gm h3]⟩⟩
set_option maxRecDepth 20000 in
set_option maxHeartbeats 4000000 in
theorem wnobody (x : Ac) (w : World) (hV : AcV w x) : Calls Try.prog 7 #[x.val] w fun e w' => e = .returned (.bool true) ∧ Below w.heap.size w w' := by
  obtain ⟨hby, hlc, hcm, hnil⟩ := hV
  have hby' : Hid (Bytes w x.a x.zs) := hby
  have hnil' : Hid (x.a = none → x.cap = 0) := hnil
  clear hby hnil
  unfold Ac.val
  obtain ⟨n, hn⟩ : ∃ n, x.zs.length = n := ⟨_, rfl⟩
  rw [hn] at hlc ⊢
  have hn' : Hid (x.zs.length = n) := hn
  clear hn
  go_enter Try.func7, Try.ntmps7
  go_wp2
  have hB3 : Hid (Below w.heap.size w (((w.alloc (.cells #[.int .i64 x.kind, .int .i64 x.now, .int .i64 x.n, .int .i64 x.credit, .int .u64 x.bits, .slice x.a n x.cap] 31)).alloc (.cells #[.bool false, .int .i64 0, .int .i64 0, .int .i64 0, .int .i64 0, .map none] 50)).alloc (.cells #[.pointer none, .pointer (some ⟨w.heap.size + 1, 0, none⟩)] 23))) := (((Below.refl w.heap.size w).alloc (Nat.le_refl _) _).alloc (by simp) _).alloc (by simp; omega) _
  have bA : Hid (Blk (((w.alloc (.cells #[.int .i64 x.kind, .int .i64 x.now, .int .i64 x.n, .int .i64 x.credit, .int .u64 x.bits, .slice x.a n x.cap] 31)).alloc (.cells #[.bool false, .int .i64 0, .int .i64 0, .int .i64 0, .int .i64 0, .map none] 50)).alloc (.cells #[.pointer none, .pointer (some ⟨w.heap.size + 1, 0, none⟩)] 23)) w.heap.size #[.int .i64 x.kind, .int .i64 x.now, .int .i64 x.n, .int .i64 x.credit, .int .u64 x.bits, .slice x.a n x.cap] 31) := ((blk_new w _ _).kept ((Below.refl _ _).alloc (Nat.le_refl _) _)).kept ((Below.refl _ _).alloc (Nat.le_refl _) _)
  have bZ : Hid (Blk (((w.alloc (.cells #[.int .i64 x.kind, .int .i64 x.now, .int .i64 x.n, .int .i64 x.credit, .int .u64 x.bits, .slice x.a n x.cap] 31)).alloc (.cells #[.bool false, .int .i64 0, .int .i64 0, .int .i64 0, .int .i64 0, .map none] 50)).alloc (.cells #[.pointer none, .pointer (some ⟨w.heap.size + 1, 0, none⟩)] 23)) (w.heap.size + 1) #[.bool false, .int .i64 0, .int .i64 0, .int .i64 0, .int .i64 0, .map none] 50) := by
    have h := (blk_new (w.alloc (.cells #[.int .i64 x.kind, .int .i64 x.now, .int .i64 x.n, .int .i64 x.credit, .int .u64 x.bits, .slice x.a n x.cap] 31)) #[.bool false, .int .i64 0, .int .i64 0, .int .i64 0, .int .i64 0, .map none] 50).kept ((Below.refl _ _).alloc (Nat.le_refl _) (.cells #[.pointer none, .pointer (some ⟨w.heap.size + 1, 0, none⟩)] 23))
    rw [show (w.alloc (.cells #[.int .i64 x.kind, .int .i64 x.now, .int .i64 x.n, .int .i64 x.credit, .int .u64 x.bits, .slice x.a n x.cap] 31)).heap.size = w.heap.size + 1 by simp] at h
    exact h
  have bL : Hid (Blk (((w.alloc (.cells #[.int .i64 x.kind, .int .i64 x.now, .int .i64 x.n, .int .i64 x.credit, .int .u64 x.bits, .slice x.a n x.cap] 31)).alloc (.cells #[.bool false, .int .i64 0, .int .i64 0, .int .i64 0, .int .i64 0, .map none] 50)).alloc (.cells #[.pointer none, .pointer (some ⟨w.heap.size + 1, 0, none⟩)] 23)) (w.heap.size + 1 + 1) #[.pointer none, .pointer (some ⟨w.heap.size + 1, 0, none⟩)] 23) := by
    have h := blk_new ((w.alloc (.cells #[.int .i64 x.kind, .int .i64 x.now, .int .i64 x.n, .int .i64 x.credit, .int .u64 x.bits, .slice x.a n x.cap] 31)).alloc (.cells #[.bool false, .int .i64 0, .int .i64 0, .int .i64 0, .int .i64 0, .map none] 50)) #[.pointer none, .pointer (some ⟨w.heap.size + 1, 0, none⟩)] 23
    rw [show ((w.alloc (.cells #[.int .i64 x.kind, .int .i64 x.now, .int .i64 x.n, .int .i64 x.credit, .int .u64 x.bits, .slice x.a n x.cap] 31)).alloc (.cells #[.bool false, .int .i64 0, .int .i64 0, .int .i64 0, .int .i64 0, .map none] 50)).heap.size = w.heap.size + 1 + 1 by simp] at h
    exact h
  generalize (((w.alloc (.cells #[.int .i64 x.kind, .int .i64 x.now, .int .i64 x.n, .int .i64 x.credit, .int .u64 x.bits, .slice x.a n x.cap] 31)).alloc (.cells #[.bool false, .int .i64 0, .int .i64 0, .int .i64 0, .int .i64 0, .map none] 50)).alloc (.cells #[.pointer none, .pointer (some ⟨w.heap.size + 1, 0, none⟩)] 23)) = w3 at hB3 bA bZ bL ⊢
  generalize w.heap.size + 1 + 1 = gl at bL ⊢
  generalize w.heap.size + 1 = gz at bZ bL ⊢
  have a0 := bA.out.cell 0
  have a1 := bA.out.cell 1
  have a2 := bA.out.cell 2
  have a3 := bA.out.cell 3
  have a4 := bA.out.cell 4
  have a5 := bA.out.cell 5
  have l0 : w3.cell? ⟨gl, 0, none⟩ = some (.pointer none) := bL.out.cell 0
  have l1 : w3.cell? ⟨gl, 1, none⟩ = some (.pointer (some ⟨gz, 0, none⟩)) := bL.out.cell 1
  have hz0 : Hid (w3.cell? ⟨gz, 0, none⟩ = some (.bool false)) := bZ.out.cell 0
  generalize hbx : w.heap.size = bx at bA a0 a1 a2 a3 a4 a5 ⊢
  have hbx' : Hid (w.heap.size = bx) := hbx
  clear hbx bL bZ
  go_loopw [4, 5, 6, 19] (fun _ _ _ s19 wr => ∃ i : Nat, i ≤ 2 ∧ s19 = .int .i64 (i : Nat) ∧ Hid (wr = w3)) (fun _ _ _ i _ => 2 - (intOf i).toNat)
  case atStart => exact ⟨0, by omega, rfl, rfl⟩
  case round =>
    obtain ⟨i, hi, rfl, hwr⟩ := hrel
    obtain rfl : wr = w3 := hwr.out
    match i, hi with
    | 0, _ =>
      have kp := push_nil x.a n x.cap x.now wr
      have kd := due_nil x.now wr
      have ka := ack_nil x.n x.bits x.credit wr
      have kr := res_nil x.n x.credit x.now wr
      have ko := out_nil wr
      have kb := base_nil wr
      have kn := next_nil wr
      have kl := limit_nil wr
      go_wp2_with (first | (go_at_call 15; refine kp.mono ?_; rintro e wx ⟨rfl, hwx⟩; obtain rfl := hwx.symm; clear kp hwx) | (go_at_call 16; refine kd.mono ?_; rintro e wx ⟨rfl, hwx⟩; obtain rfl := hwx.symm; clear kd hwx) | (go_at_call 18; refine ka.mono ?_; rintro e wx ⟨rfl, hwx⟩; obtain rfl := hwx.symm; clear ka hwx) | (go_at_call 19; refine kr.mono ?_; rintro e wx ⟨rfl, hwx⟩; obtain rfl := hwx.symm; clear kr hwx) | (go_at_call 11; refine ko.mono ?_; rintro e wx ⟨rfl, hwx⟩; obtain rfl := hwx.symm; clear ko hwx) | (go_at_call 13; refine kb.mono ?_; rintro e wx ⟨rfl, hwx⟩; obtain rfl := hwx.symm; clear kb hwx) | (go_at_call 12; refine kn.mono ?_; rintro e wx ⟨rfl, hwx⟩; obtain rfl := hwx.symm; clear kn hwx) | (go_at_call 14; refine kl.mono ?_; rintro e wx ⟨rfl, hwx⟩; obtain rfl := hwx.symm; clear kl hwx))
      exact ⟨⟨1, by omega, rfl, trivial⟩, by simp [intOf]⟩
    | 1, _ =>
      have kp := push_no gz x.a n x.cap x.now wr hz0.out
      have kd := due_no gz x.now wr hz0.out
      have ka := ack_no gz x.n x.bits x.credit wr hz0.out
      have kr := res_no gz x.n x.credit x.now wr hz0.out
      have ko := out_no gz wr hz0.out
      have kb := base_no gz wr hz0.out
      have kn := next_no gz wr hz0.out
      have kl := limit_no gz wr hz0.out
      go_wp2_with (first | (go_at_call 15; refine kp.mono ?_; rintro e wx ⟨rfl, hwx⟩; obtain rfl := hwx.symm; clear kp hwx) | (go_at_call 16; refine kd.mono ?_; rintro e wx ⟨rfl, hwx⟩; obtain rfl := hwx.symm; clear kd hwx) | (go_at_call 18; refine ka.mono ?_; rintro e wx ⟨rfl, hwx⟩; obtain rfl := hwx.symm; clear ka hwx) | (go_at_call 19; refine kr.mono ?_; rintro e wx ⟨rfl, hwx⟩; obtain rfl := hwx.symm; clear kr hwx) | (go_at_call 11; refine ko.mono ?_; rintro e wx ⟨rfl, hwx⟩; obtain rfl := hwx.symm; clear ko hwx) | (go_at_call 13; refine kb.mono ?_; rintro e wx ⟨rfl, hwx⟩; obtain rfl := hwx.symm; clear kb hwx) | (go_at_call 12; refine kn.mono ?_; rintro e wx ⟨rfl, hwx⟩; obtain rfl := hwx.symm; clear kn hwx) | (go_at_call 14; refine kl.mono ?_; rintro e wx ⟨rfl, hwx⟩; obtain rfl := hwx.symm; clear kl hwx))
      exact ⟨⟨2, by omega, rfl, trivial⟩, by simp [intOf]⟩
    | 2, _ =>
      clear l0 l1 hz0 a0 a1 a2 a3 a4
      have hB3s := hB3.out.size
      go_wp2_with fail
      refine (new_yes 2 wr (by decide) (by decide)).mono ?_
      rintro e w4 ⟨rfl, hS4, hB4⟩
      have hS4' : Hid (Sd w4 wr.heap.size (wr.heap.size + 1) wr.heap.size (s0 2 0)) := hS4
      generalize hsb : wr.heap.size + 1 = sb at *
      have hN : Hid (sb = wr.heap.size + 1) := hsb.symm
      have k2 := ack_ok 0 0 2 hS4'.out (may_s0 (by decide) (by decide))
      rw [ack_s0 (by decide) (by decide) (by decide)] at k2
      have hbl : Hid (bx < wr.heap.size) := bA.out.lt
      have bA4 : Hid (Blk w4 bx _ 31) := bA.out.kept hB4.out
      clear hsb hS4 bA a5
      have hcl : (n : Int) ≤ 9223372036854775807 := by omega
      by_cases hl : 1200 < n
      · have hd : decide ((n : Int) > 1200) = true := by simp; omega
        go_wp2_with (first | (go_at_call 18; refine k2.mono ?_; rintro e w5 ⟨rfl, hS5, hK5⟩; clear k2; have bA5 := (bA4.out.k2 hK5.out (by have := hN.out; have := hbl.out; omega) (by have := hbl.out; omega)).cell 5; have hB5 : Hid (Below w.heap.size w w5) := hK5.out.below (hB3.out.trans (hB4.out.mono hB3s)) (Nat.le_trans hB3s hB4.out.size) (by have := hN.out; omega) hB3s) | (go_at_call 9; refine (alive_any w5).mono ?_; rintro e w6 ⟨rfl, hb6⟩; have hB6 : Hid (Below w.heap.size w w6) := hB5.out.trans (hb6.out.mono hB5.out.size)))
        go_ret
        exact ⟨rfl, hB6.out⟩
      · have hd : decide ((n : Int) > 1200) = false := by simp; omega
        have hEp : pushE (s0 2 2) n 0 = 0 := by
          unfold pushE
          rw [if_neg (by decide), if_neg hl, if_neg (by show ¬ ((2 : Int) < 1 ∨ (2 : Int) ≤ 1 - 1); omega)]
        have hn12 : Hid (n ≤ 1200) := by show _ ≤ _; omega
        go_wp2_with (first
          | (go_at_call 18; refine k2.mono ?_; rintro e w5 ⟨rfl, hS5, hK5⟩; clear k2; have bK5 : Hid (Blk w5 bx #[.int .i64 x.kind, .int .i64 x.now, .int .i64 x.n, .int .i64 x.credit, .int .u64 x.bits, .slice x.a n x.cap] 31) := bA4.out.k2 hK5.out (by have := hN.out; have := hbl.out; omega) (by have := hbl.out; omega); have bA5 : w5.cell? ⟨bx, 5, none⟩ = some (.slice x.a n x.cap) := bK5.out.cell 5; have hB5 : Hid (Below w.heap.size w w5) := hK5.out.below (hB3.out.trans (hB4.out.mono hB3s)) (Nat.le_trans hB3s hB4.out.size) (by have := hN.out; omega) hB3s; have hz5 : Hid (wr.heap.size ≤ w5.heap.size ∧ sb < w5.heap.size ∧ wr.heap.size < w5.heap.size) := ⟨Nat.le_trans hB4.out.size hK5.out.size, hS5.out.blk.lt, hS5.out.mp.lt⟩)
          | (at_builtin; refine wpList_append_bytes rfl _ _ rfl w5.heap.size (.slice none 0 0) [] x.zs rfl (ownsB_nil _ _) _ _ _ rfl hn'.out hnil'.out (hby'.out.kept hB5.out) (by have := hn'.out; have := hn12.out; simp; omega) (Nat.le_refl _) ?_; intro v6 w6 hO6 hg6; have hb6 : Hid (Below w5.heap.size w5 w6) := (Below.refl _ _).grown hg6 (Nat.le_refl _) (by simp [Value.ownBlock]); obtain ⟨a6, n6, c6, rfl, hn6, hz6, hle6, hmx6, hby6⟩ := hO6.form; obtain rfl : n6 = n := (by have h1 := hn6.out; have h2 := hn'.out; simp at h1; omega); have hO6' : Hid (OwnsB w6 w5.heap.size (.slice a6 n6 c6) x.zs) := hO6; have k7 := push_ok a6 n6 c6 x.zs 0 (hS5.out.kept hb6.out) hEp (by have := hz5.out; have := hb6.out.size; omega) hn'.out hz6.out hby6.out; clear hO6 hg6 hn6 hby6)
          | (go_at_call 15; refine k7.mono ?_; rintro e w7 ⟨rfl, en, hen, hS7, hK7⟩; clear k7))
        have hown : Hid (n6 = 0 ∨ ∃ g, a6 = some ⟨g, 0, none⟩ ∧ w5.heap.size ≤ g ∧ g < w6.heap.size ∧ DW w6 g n6) := by
          by_cases h0 : n6 = 0
          · exact .inl h0
          · right
            obtain ⟨a, cp, hv, _, _, hb, hx⟩ := hO6'.out.shape
            cases hv
            obtain ⟨g, off, rfl⟩ := bytes_some hb (by have := hn'.out; omega)
            have h2 := hx _ rfl
            obtain rfl : off = 0 := h2.2.2.1
            refine ⟨g, rfl, h2.1, h2.2.1, ?_⟩
            have := DW.of hO6'.out
            rwa [hn'.out] at this
        obtain ⟨p1, p2⟩ := nb_pure ⟨hen.out.1, hen.out.2.1, hen.out.2.2.1, hen.out.2.2.2.1⟩
        have hp1 : Hid (dueL (addA (s0 2 2) en) 0 1 = [(1, x.zs)]) := p1
        have hp2 : Hid (dueL (dueA (addA (s0 2 2) en) 0) 9 1 = [(1, x.zs)]) := p2
        have hx1 : Hid (((addA (s0 2 2) en).nxt - (addA (s0 2 2) en).base).toNat = 1) := rfl
        have hld : Hid (∀ z e y, (addA (s0 2 2) en).L z = some e → e.a = some y → w6.heap.size ≤ y.block) := fun z e y he hy => by
          have he : (if z = 1 then some en else none) = some e := he
          split at he
          · cases he; exact hen.out.2.2.2.2 y hy
          · cases he
        obtain ⟨B, hBe⟩ : ∃ B, B = wr.heap.size := ⟨_, rfl⟩
        have hord : Hid (w.heap.size ≤ B ∧ sb = B + 1 ∧ bx < B ∧ B < w5.heap.size ∧ sb < w5.heap.size ∧ w5.heap.size ≤ w6.heap.size) := ⟨by rw [hBe]; exact hB3s, by rw [hBe]; exact hN.out, by rw [hBe]; exact hbl.out, by rw [hBe]; exact hz5.out.2.2, hz5.out.2.1, hb6.out.size⟩
        have hI7 : Hid (NI w w7 B sb B bx #[.int .i64 x.kind, .int .i64 x.now, .int .i64 x.n, .int .i64 x.credit, .int .u64 x.bits, .slice x.a n6 x.cap] (addA (s0 2 2) en)) := by
          have h1 : Below w.heap.size w w6 := hB5.out.trans (hb6.out.mono hB5.out.size)
          refine ⟨by rw [hBe]; exact hS7.out, ?_, ?_⟩
          · exact hK7.out.below h1 h1.size (by have := hord.out; omega) hB3s
          · exact (bK5.out.kept hb6.out).k2 hK7.out (by have := hord.out; omega) (by have := hord.out; omega)
        have hD7 : Hid (n6 = 0 ∨ ∃ g, a6 = some ⟨g, 0, none⟩ ∧ w5.heap.size ≤ g ∧ g < w6.heap.size ∧ DW w7 g n6) := by
          rcases hown.out with h | ⟨g, h1, h2, h3, h4⟩
          · exact .inl h
          · refine .inr ⟨g, h1, h2, h3, fun i hi => ?_⟩
            have hk := hK7.out.block g h3 (by have := hord.out; omega) (by have := hord.out; omega)
            obtain ⟨⟨c, h5⟩, h6⟩ := h4 i hi
            exact ⟨⟨c, (World.cell?_of_block (w := w6) (w' := w7) (a := ⟨g, i, none⟩) hk).trans h5⟩, by rw [← h6]; unfold World.frozen?; rw [hk]⟩
        have hs7 : Hid (w6.heap.size ≤ w7.heap.size) := hK7.out.size
        generalize addA (s0 2 2) en = s1 at *
        clear hown hO6' hK7 hS7 bK5 hS5 hK5 hB5 hb6 hz5 bA4 hS4' hB4 hz6 p1 p2 hen hBe hEp hl hd
        go_loopw [10, 127] (fun _ s127 wq => ∃ j : Nat, j ≤ n6 ∧ s127 = .int .i64 (j : Nat) ∧ Hid (NI w wq B sb B bx #[.int .i64 x.kind, .int .i64 x.now, .int .i64 x.n, .int .i64 x.credit, .int .u64 x.bits, .slice x.a n6 x.cap] s1) ∧ Hid (n6 = 0 ∨ ∃ g, a6 = some ⟨g, 0, none⟩ ∧ w5.heap.size ≤ g ∧ g < w6.heap.size ∧ DW wq g n6)) (fun _ j _ => n6 - (intOf j).toNat)
        case atStart => exact ⟨0, Nat.zero_le _, rfl, hI7, hD7⟩
        case round =>
          obtain ⟨j, hj, rfl, hI, hD⟩ := hrel
          clear hI7 hD7
          by_cases hjl : j < n6
          · have hdj : decide ((j : Int) < (n6 : Int)) = true := by simp; omega
            obtain ⟨g, rfl, hg1, hg2, hDW⟩ : ∃ g, a6 = some ⟨g, 0, none⟩ ∧ w5.heap.size ≤ g ∧ g < w6.heap.size ∧ DW wr g n6 := by
              rcases hD.out with h | h
              · omega
              · exact h
            obtain ⟨⟨c, hc⟩, hf⟩ := hDW j hjl
            have hg1' : Hid (w5.heap.size ≤ g) := hg1
            have hg2' : Hid (g < w6.heap.size) := hg2
            have hDW' : Hid (DW wr g n6) := hDW
            clear hg1 hg2 hDW hD
            go_wp2
            have hwi : IntKind.i64.wrap ((j : Int) + 1) = (j : Int) + 1 := by have := hn12.out; rw [IntKind.wrap_i64]; omega
            refine ⟨⟨j + 1, by omega, by simp, hI.out.setAway j _ (by have := hord.out; have := hg1'.out; omega) (by have := hord.out; have := hg1'.out; omega) (fun z e y he hy => by have := hld.out z e y he hy; have := hg2'.out; omega) (by have := hord.out; have := hg1'.out; omega) (by have := hord.out; have := hg1'.out; omega), .inr ⟨g, rfl, hg1'.out, hg2'.out, hDW'.out.set j _⟩⟩, by simp [intOf]; omega⟩
          · have hdj : decide ((j : Int) < (n6 : Int)) = false := by simp; omega
            have k8 := due_ok 0 hI.out.sd (by decide)
            have hB8 : Hid (w.heap.size ≤ B) := hord.out.1
            have hsbx : Hid (B ≤ sb ∧ bx < B) := by have := hord.out; exact ⟨by omega, by omega⟩
            have hup : Hid (Up wr.heap.size sb B s1) := hI.out.sd.up
            have hbu : Hid (bx < wr.heap.size) := hI.out.bk.lt
            clear hD hld hord hs7 hN hbl hB3 hB3s
            go_wp2_with (go_at_call 16; refine k8.mono ?_; rintro e w8 ⟨v8, L8, rfl, hT8, hL8, hS8, hU8, hK8⟩; clear k8; obtain ⟨a8, n8, c8, rfl, hn8, hc8, hm8⟩ := hT8.out.form; obtain ⟨rfl, g8, am, cm, rfl, hM8, hby8, hcm1, hcm2⟩ := m1_of hT8.out (by rw [hL8.out, hx1.out]; exact hp1.out); have hM8' : Hid (M1 w8 wr.heap.size g8 n6 am cm) := (by have := hM8; rw [hn'.out] at this; exact this); have hI8 : Hid (NI w w8 B sb B bx #[.int .i64 x.kind, .int .i64 x.now, .int .i64 x.n, .int .i64 x.credit, .int .u64 x.bits, .slice x.a n6 x.cap] (dueA s1 0)) := ⟨hS8.out, hK8.out.below hI.out.bel hI.out.bel.size (by have := hB8.out; have := hsbx.out; omega) hB8.out, hI.out.bk.k2 hK8.out (by have := hsbx.out; omega) (by have := hsbx.out; omega)⟩; have hx2 : Hid (((dueA s1 0).nxt - (dueA s1 0).base).toNat = 1) := hx1.out; have hcm1' : n6 ≤ cm := (by have := hn'.out; omega); clear hn8 hT8 hL8 hS8 hK8 hM8 hby8 hcm1)
            obtain ⟨N, hNe⟩ : ∃ N, N = wr.heap.size := ⟨_, rfl⟩
            rw [← hNe] at hM8' hU8 hup hbu
            have hNB : Hid (w.heap.size ≤ N ∧ B < N ∧ sb < N ∧ bx < N) := ⟨by rw [hNe]; exact hI.out.bel.size, hU8.out.2.1, hU8.out.1, hbu.out⟩
            clear hI hNe
            generalize hs2 : dueA s1 0 = s2 at *
            clear hs2 hp1 hx1 hup hbu
            go_loopw [12, 13, 140] (fun _ _ s140 wq => ∃ t : Nat, t ≤ 1 ∧ s140 = .int .i64 (t : Nat) ∧ Hid (NI w wq B sb B bx #[.int .i64 x.kind, .int .i64 x.now, .int .i64 x.n, .int .i64 x.credit, .int .u64 x.bits, .slice x.a n6 x.cap] s2) ∧ Hid (t = 0 → M1 wq N g8 n6 am cm)) (fun _ _ t _ => 1 - (intOf t).toNat)
            case atStart => exact ⟨0, by omega, rfl, hI8, fun _ => hM8'⟩
            case round =>
              obtain ⟨t, ht, rfl, hI, hM⟩ := hrel
              clear hI8 hM8'
              match t, ht with
              | 0, _ =>
                have hM0 := hM.out rfl
                have m0 : wr.cell? ⟨g8, 0, none⟩ = some (.int .i64 1) := hM0.cs 0 (by decide)
                have m1 : wr.cell? ⟨g8, 1, none⟩ = some (.int .u64 0) := hM0.cs 1 (by decide)
                have m2 : wr.cell? ⟨g8, 2, none⟩ = some (.int .i64 0) := hM0.cs 2 (by decide)
                have m3 : wr.cell? ⟨g8, 3, none⟩ = some (.int .i64 1) := hM0.cs 3 (by decide)
                have m4 : wr.cell? ⟨g8, 4, none⟩ = some (.int .i64 0) := hM0.cs 4 (by decide)
                have m5 : wr.cell? ⟨g8, 5, none⟩ = some (.int .u64 0) := hM0.cs 5 (by decide)
                have m6 : wr.cell? ⟨g8, 6, none⟩ = some (.int .i64 0) := hM0.cs 6 (by decide)
                have m7 : wr.cell? ⟨g8, 7, none⟩ = some (.int .i64 0) := hM0.cs 7 (by decide)
                have m8 : wr.cell? ⟨g8, 8, none⟩ = some (.slice am n6 cm) := hM0.cs 8 (by decide)
                have hal : Hid (Below wr.heap.size wr (wr.alloc (.cells #[.int .i64 1, .int .u64 0, .int .i64 0, .int .i64 1, .int .i64 0, .int .u64 0, .int .i64 0, .int .i64 0, .slice am n6 cm] 41))) := (Below.refl _ _).alloc (Nat.le_refl _) _
                have hI9 : Hid (NI w (wr.alloc (.cells #[.int .i64 1, .int .u64 0, .int .i64 0, .int .i64 1, .int .i64 0, .int .u64 0, .int .i64 0, .int .i64 0, .slice am n6 cm] 41)) B sb B bx #[.int .i64 x.kind, .int .i64 x.now, .int .i64 x.n, .int .i64 x.credit, .int .u64 x.bits, .slice x.a n6 x.cap] s2) := hI.out.kept hal.out
                have hb9 : Hid (Blk (wr.alloc (.cells #[.int .i64 1, .int .u64 0, .int .i64 0, .int .i64 1, .int .i64 0, .int .u64 0, .int .i64 0, .int .i64 0, .slice am n6 cm] 41)) wr.heap.size #[.int .i64 1, .int .u64 0, .int .i64 0, .int .i64 1, .int .i64 0, .int .u64 0, .int .i64 0, .int .i64 0, .slice am n6 cm] 41) := blk_new _ _ _
                have hD9 : Hid (n6 = 0 ∨ ∃ gm, am = some ⟨gm, 0, none⟩ ∧ N ≤ gm ∧ gm < wr.heap.size ∧ DW (wr.alloc (.cells #[.int .i64 1, .int .u64 0, .int .i64 0, .int .i64 1, .int .i64 0, .int .u64 0, .int .i64 0, .int .i64 0, .slice am n6 cm] 41)) gm n6) := by
                  rcases hM0.ld with h0 | ⟨gm, h1, h2, h3, _⟩
                  · exact .inl h0
                  · rcases (hM0.kept hal.out).ld with h0 | ⟨gm', h1', _, _, h4⟩
                    · exact .inl h0
                    · rw [h1] at h1'
                      cases h1'
                      exact .inr ⟨gm, h1, h2, h3, h4⟩
                clear hM hM0
                go_wp2
                clear m0 m1 m2 m3 m4 m5 m6 m7 m8 hI hal
                generalize (wr.alloc (.cells #[.int .i64 1, .int .u64 0, .int .i64 0, .int .i64 1, .int .i64 0, .int .u64 0, .int .i64 0, .int .i64 0, .slice am n6 cm] 41)) = w9 at hI9 hb9 hD9 ⊢
                generalize wr.heap.size = bm at hb9 hD9 ⊢
                go_loopw [13, 147] (fun _ s147 wq => ∃ j : Nat, j ≤ n6 ∧ s147 = .int .i64 (j : Nat) ∧ Hid (NI w wq B sb B bx #[.int .i64 x.kind, .int .i64 x.now, .int .i64 x.n, .int .i64 x.credit, .int .u64 x.bits, .slice x.a n6 x.cap] s2) ∧ Hid (Blk wq bm #[.int .i64 1, .int .u64 0, .int .i64 0, .int .i64 1, .int .i64 0, .int .u64 0, .int .i64 0, .int .i64 0, .slice am n6 cm] 41) ∧ Hid (n6 = 0 ∨ ∃ gm, am = some ⟨gm, 0, none⟩ ∧ N ≤ gm ∧ gm < bm ∧ DW wq gm n6)) (fun _ j _ => n6 - (intOf j).toNat)
                case atStart => exact ⟨0, Nat.zero_le _, rfl, hI9, hb9, hD9⟩
                case round =>
                  obtain ⟨j2, hj2, rfl, hI, hb, hD⟩ := hrel
                  clear hI9 hb9 hD9
                  by_cases hjl2 : j2 < n6
                  · have hdj2 : decide ((j2 : Int) < (n6 : Int)) = true := by simp; omega
                    obtain ⟨gm, rfl, hg1, hg2, hDW⟩ : ∃ gm, am = some ⟨gm, 0, none⟩ ∧ N ≤ gm ∧ gm < bm ∧ DW wr gm n6 := by
                      rcases hD.out with h | h
                      · omega
                      · exact h
                    obtain ⟨⟨c, hc⟩, hf⟩ := hDW j2 hjl2
                    have x8 : wr.cell? ⟨bm, 8, none⟩ = some (.slice (some ⟨gm, 0, none⟩) n6 cm) := hb.out.cell 8
                    have hg1' : Hid (N ≤ gm) := hg1
                    have hg2' : Hid (gm < bm) := hg2
                    have hDW' : Hid (DW wr gm n6) := hDW
                    clear hg1 hg2 hDW hD
                    go_wp2
                    refine ⟨⟨j2 + 1, by omega, by simp, hI.out.setAway j2 _ (by have := hNB.out; have := hg1'.out; omega) (by have := hNB.out; have := hg1'.out; omega) (fun z e y he hy => by have := hU8.out.2.2 z e y he hy; have := hg1'.out; omega) (by have := hNB.out; have := hg1'.out; omega) (by have := hNB.out; have := hg1'.out; omega), (Below.heap_setCell _ _ _ _ (by have := hg2'.out; show bm ≠ gm; omega)).trans hb.out, .inr ⟨gm, rfl, hg1'.out, hg2'.out, hDW'.out.set j2 _⟩⟩, by simp [intOf]; omega⟩
                  · have hdj2 : decide ((j2 : Int) < (n6 : Int)) = false := by simp; omega
                    clear hD hb
                    go_wp2
                    exact ⟨⟨1, by omega, rfl, hI, fun h => by cases h⟩, by simp [intOf]⟩
              | 1, _ =>
                have k10 := due_ok 9 hI.out.sd (by decide)
                clear hM
                go_wp2_with (go_at_call 16; refine k10.mono ?_; rintro e w10 ⟨v10, L10, rfl, hT10, hL10, hS10, hU10, hK10⟩; clear k10; obtain ⟨a10, n10, c10, rfl, hn10, hc10, hm10⟩ := hT10.out.form; obtain ⟨rfl, g10, al, cl, rfl, hM10, hby10, hcl1, hcl2⟩ := m1_of hT10.out (by rw [hL10.out, hx2.out]; exact hp2.out); have hM10' : Hid (M1 w10 wr.heap.size g10 n6 al cl) := (by have := hM10; rw [hn'.out] at this; exact this); have hby10' : Hid (Bytes w10 al x.zs) := hby10; have hI10 : Hid (NI w w10 B sb B bx #[.int .i64 x.kind, .int .i64 x.now, .int .i64 x.n, .int .i64 x.credit, .int .u64 x.bits, .slice x.a n6 x.cap] (dueA s2 9)) := ⟨hS10.out, hK10.out.below hI.out.bel hI.out.bel.size (by have := hB8.out; have := hsbx.out; omega) hB8.out, hI.out.bk.k2 hK10.out (by have := hsbx.out; omega) (by have := hsbx.out; omega)⟩; have hcl1' : n6 ≤ cl := (by have := hn'.out; omega); clear hn10 hT10 hL10 hS10 hU10 hK10 hM10 hby10 hcl1)
                have y8 : w10.cell? ⟨g10, 8, none⟩ = some (.slice al n6 cl) := hM10'.out.cs 8 (by decide)
                have y5 : w10.cell? ⟨bx, 5, none⟩ = some (.slice x.a n6 x.cap) := hI10.out.bk.cell 5
                have hbyx : Hid (Bytes w10 x.a x.zs) := hby'.out.kept hI10.out.bel
                have SK : Hid (∀ wX, Below w10.heap.size w10 wX → wX.cell? ⟨g10, 8, none⟩ = some (.slice al n6 cl) ∧ wX.cell? ⟨bx, 5, none⟩ = some (.slice x.a n6 x.cap)) := fun wX hX => ⟨(hM10'.out.kept hX).cs 8 (by decide), (hI10.out.bk.kept hX).cell 5⟩
                have kS : Hid (∀ wX, Below w10.heap.size w10 wX → Calls Try.prog 17 #[.slice al n6 cl, .slice x.a n6 x.cap] wX fun e w' => e = .returned (.bool true) ∧ w' = wX) := fun wX hX => by
                  have := same_any al x.a n6 n6 cl x.cap x.zs x.zs wX (hby10'.out.kept hX) (hbyx.out.kept hX) hn'.out hn'.out
                  rwa [show decide (x.zs = x.zs) = true by simp] at this
                have hb10 : Hid (Below w10.heap.size w10 w10) := Below.refl _ _
                go_region_held3 (fun wX => wX.cell? ⟨g10, 8, none⟩ = some (.slice al n6 cl) ∧ wX.cell? ⟨bx, 5, none⟩ = some (.slice x.a n6 x.cap)) (((with_reducible refine SK.out _ ?_); (repeat' with_reducible first | exact hb10.out | exact hb11.out | refine Below.drew ?_))) (first
                  | (go_at_call 17; refine (kS.out _ hb10.out.drew).mono ?_; rintro e wy ⟨rfl, hwy⟩; obtain rfl := hwy.symm; clear hwy)
                  | (go_at_call 9; refine (alive_any _).mono ?_; rintro e w11 ⟨rfl, hc11⟩; have hb11 : Hid (Below w10.heap.size w10 w11) := hb10.out.drew.trans hc11.out))
                go_wp2
                go_ret
                exact ⟨rfl, hI10.out.bel.trans (hb11.out.mono hI10.out.bel.size)⟩
end Go.Proofs.Ytjnoijpindbobaa
