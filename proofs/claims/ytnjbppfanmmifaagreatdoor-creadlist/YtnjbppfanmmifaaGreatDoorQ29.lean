/-
  The program's reader of CBOR: Item and Decode.
  The program's reader of CBOR: Decode.
  CBOR as trees: the two items of alive, read.
  CBOR as trees: no beginning of an item's bytes is one: the walk.
-/
import Derived.Test.YtnjbppfanmmifaaGreatDoorQ28
namespace Go.Proofs.YtnjbppfanmmifaaGreatDoor
open Go.RowKit
set_option linter.unusedVariables false
theorem Lw.up {B B' : Nat} {w : World} (h : Lw B w) (hB : B ≤ B') : Lw B' w := by
  obtain ⟨h1, h2, tp, p, h3⟩ := h
  exact ⟨fun w' h' => h1 w' (h'.mono hB), by omega, tp, p, h3⟩
/-- What is answered of an item. -/
def ItemIs (w w' : World) (x : Ending) (R : Sum (Int × Nat) (Tr × Nat)) : Prop := (match R with
  | .inl f => x = .returned (.tuple #[.agg zN.arr, .int .i64 0, .agg #[.int .i64 f.1, .int .i64 (f.2 : Nat)]])
  | .inr (t, q) => ∃ nb : Nb, x = .returned (.tuple #[.agg nb.arr, .int .i64 (q : Nat), .agg #[.int .i64 0, .int .i64 0]]) ∧ NdW (Rg w.heap.size w'.heap.size) 26 w' nb t) ∧ Below w.heap.size w w'
/-- A tree that was read, behind b boxes. -/
def IT (b : Nat) (w X : World) (nb : Nb) (t : Tr) : Prop := Below w.heap.size w X ∧ NdW (Rg (w.heap.size + b) X.heap.size) 26 X nb t
theorem IT.set {b : Nat} {w X : World} {k j : Nat} {nb : Nb} {t : Tr} {v : Value} (h : IT b w X nb t) (h0 : w.heap.size ≤ k) (h1 : k < w.heap.size + b) : IT b w (X.setCell ⟨k, j, none⟩ v) nb t :=
  ⟨bset h.1 h0, by rw [set_size]; exact nd_set h.2 h1⟩
theorem IT.below {b : Nat} {w X Y : World} {nb : Nb} {t : Tr} (h : IT b w X nb t) (hb : Below X.heap.size X Y) : IT b w Y nb t :=
  ⟨h.1.trans (hb.mono h.1.size), (h.2.stays fun k hk => hb.block k hk.2).mono fun k hk => ⟨hk.1, Nat.lt_of_lt_of_le hk.2 hb.size⟩⟩
theorem IT.alloc {b : Nat} {w X : World} {nb : Nb} {t : Tr} (h : IT b w X nb t) (o : Obj) : IT b w (X.alloc o) nb t := h.below (alloc_below X o)
theorem IT.drew {b : Nat} {w X : World} {nb : Nb} {t : Tr} (h : IT b w X nb t) : IT b w X.drew nb t := h.below (Below.refl _ _).drew
theorem IT.out {b : Nat} {w X : World} {nb : Nb} {t : Tr} {q : Nat} (h : IT b w X nb t) : ItemIs w X (.returned (.tuple #[.agg nb.arr, .int .i64 (q : Nat), .agg #[.int .i64 0, .int .i64 0]])) (.inr (t, q)) := ⟨⟨nb, rfl, h.2.mono fun k hk => ⟨by have := hk.1; omega, hk.2⟩⟩, h.1⟩
/-- The boxes of Item, and its reader. -/
def W3 (w : World) (a : Option Addr) (n c : Nat) (p : Int) : World := ((w.alloc (.cells zN.arr 26)).alloc (.cells #[.int .i64 0, .int .i64 0] 29)).alloc (.cells #[.slice a n c, .int .i64 p, .int .i64 0] 52)
theorem w3_is {w : World} {a : Option Addr} {n c : Nat} {zs : List Int} {p L : Nat} (hl : zs.length = n) (hb : Bytes w a zs) (hc : n ≤ c ∧ c ≤ maxLen ∧ (a = none → c = 0)) (h4 : zs.length ≤ 4096) (hLw : Lw L w) (hL : L ≤ w.heap.size) :
    RSt ⟨w.heap.size + 2, a, c, zs⟩ (W3 w a n c (p : Nat)) p 0 ∧ NBox (W3 w a n c (p : Nat)) w.heap.size zN ∧ Blk (W3 w a n c (p : Nat)) (w.heap.size + 1) #[.int .i64 0, .int .i64 0] 29 ∧ (W3 w a n c (p : Nat)).heap.size = w.heap.size + 3 ∧ Below w.heap.size w (W3 w a n c (p : Nat)) := by
  subst hl
  have s1 : (w.alloc (.cells zN.arr 26)).heap.size = w.heap.size + 1 := by simp
  have s2 : ((w.alloc (.cells zN.arr 26)).alloc (.cells #[.int .i64 0, .int .i64 0] 29)).heap.size = w.heap.size + 2 := by simp
  have A0 := alloc_below w (.cells zN.arr 26)
  have A1 := alloc_below (w.alloc (.cells zN.arr 26)) (.cells #[.int .i64 0, .int .i64 0] 29)
  have A2 := alloc_below ((w.alloc (.cells zN.arr 26)).alloc (.cells #[.int .i64 0, .int .i64 0] 29)) (.cells #[.slice a zs.length c, .int .i64 (p : Nat), .int .i64 0] 52)
  have hB : Below w.heap.size w (W3 w a zs.length c (p : Nat)) := (A0.trans (A1.mono (by omega))).trans (A2.mono (by omega))
  refine ⟨⟨?_, ⟨hb.kept hB, fun h0 x hx => ?_⟩, hc, h4, (hLw.on (hB.mono hL)).up (by show L ≤ w.heap.size + 2; omega)⟩, ((nbox_new w zN).kept A1 (by omega)).kept A2 (by omega), ?_, by unfold W3; simp, hB⟩
  · have := blk_new ((w.alloc (.cells zN.arr 26)).alloc (.cells #[.int .i64 0, .int .i64 0] 29)) #[.slice a zs.length c, .int .i64 (p : Nat), .int .i64 0] 52
    rw [s2] at this
    exact this
  · show x.block < w.heap.size + 2
    rcases hb.2.2 with h | ⟨b, off, ha, hcl⟩
    · subst h; exact absurd h0 (by show ¬ 0 < 0; omega)
    · subst ha
      cases hx
      have := some_block (hcl 0 h0)
      show b < _
      omega
  · have := (blk_new (w.alloc (.cells zN.arr 26)) #[.int .i64 0, .int .i64 0] 29).kept A2 (by omega)
    rw [s1] at this
    exact this
set_option maxHeartbeats 4000000 in
set_option maxRecDepth 100000 in
theorem citem_any (a : Option Addr) (n c : Nat) (zs : List Int) (x : Int) (w : World) {L : Nat} (hl : zs.length = n) (hb : Bytes w a zs) (hc : n ≤ c ∧ c ≤ maxLen ∧ (a = none → c = 0)) (hLw : Lw L w) (hL : L ≤ w.heap.size) : Calls Tryz.prog 21 #[.slice a n c, .int .i64 x] w fun e w' => ItemIs w w' e (itmA zs x) := by
  by_cases hm : 4096 < zs.length
  · have e : itmA zs x = .inl (8, 0) := by unfold itmA; rw [if_pos hm]
    rw [e]
    have g1 : decide ((4096 : Int) < (n : Int)) = true := by simp; omega
    have g1' : decide (4096 < n) = true := by simp; omega
    have B2 : Hid (Below w.heap.size w ((w.alloc (.cells #[.int .i64 0, .int .u64 0, .bool false, .string ⟨#[]⟩, .int .i64 0, .string ⟨#[]⟩, .slice none 0 0, .slice none 0 0, .slice none 0 0] 26)).alloc (.cells #[.int .i64 8, .int .i64 0] 29))) := bal2 w _ _
    unfold ItemIs zN Nb.arr
    simp only
    clear e hl hb hc hLw hL hm
    go_enter Tryz.func21, Tryz.ntmps21
    go_wp2_with fail
    refine bodyPost_ret (v := .tuple #[.agg #[.int .i64 0, .int .u64 0, .bool false, .string ⟨#[]⟩, .int .i64 0, .string ⟨#[]⟩, .slice none 0 0, .slice none 0 0, .slice none 0 0], .int .i64 0, .agg #[.int .i64 8, .int .i64 0]]) (by simp [results, Tryz.results21, go_sem, *]) rfl ⟨rfl, ?_⟩
    exact bal2 w _ _
  have g1 : decide ((4096 : Int) < (n : Int)) = false := by simp; omega
  have g1' : decide (4096 < n) = false := by simp; omega
  by_cases hx : x < 0 ∨ (zs.length : Int) ≤ x
  · have e : itmA zs x = .inl (3, n) := by unfold itmA; rw [if_neg hm, if_pos hx, hl]
    rw [e]
    unfold ItemIs zN Nb.arr
    simp only
    by_cases h0 : x < 0
    · have g2 : decide (x < 0) = true := by simp; omega
      clear e hl hb hc hLw hL hm hx h0
      go_enter Tryz.func21, Tryz.ntmps21
      go_wp2_with fail
      refine bodyPost_ret (v := .tuple #[.agg #[.int .i64 0, .int .u64 0, .bool false, .string ⟨#[]⟩, .int .i64 0, .string ⟨#[]⟩, .slice none 0 0, .slice none 0 0, .slice none 0 0], .int .i64 0, .agg #[.int .i64 3, .int .i64 (n : Nat)]]) (by simp [results, Tryz.results21, go_sem, *]) rfl ⟨rfl, ?_⟩
      exact bal2 w _ _
    · have g2 : decide (x < 0) = false := by simp; omega
      have g3 : decide ((n : Int) ≤ x) = true := by simp; rcases hx with q | q <;> omega
      clear e hl hb hc hLw hL hm hx h0
      go_enter Tryz.func21, Tryz.ntmps21
      go_wp2_with fail
      refine bodyPost_ret (v := .tuple #[.agg #[.int .i64 0, .int .u64 0, .bool false, .string ⟨#[]⟩, .int .i64 0, .string ⟨#[]⟩, .slice none 0 0, .slice none 0 0, .slice none 0 0], .int .i64 0, .agg #[.int .i64 3, .int .i64 (n : Nat)]]) (by simp [results, Tryz.results21, go_sem, *]) rfl ⟨rfl, ?_⟩
      exact bal2 w _ _
  · obtain ⟨p, rfl⟩ : ∃ p : Nat, x = (p : Int) := ⟨x.toNat, by omega⟩
    have hp : p < zs.length := by omega
    have g2 : decide ((p : Int) < 0) = false := by simp
    have g3 : decide ((n : Int) ≤ (p : Int)) = false := by simp; omega
    have g3' : decide (n ≤ p) = false := by simp; omega
    obtain ⟨R3, Z3, B3, S3, L3⟩ := w3_is (p := p) hl hb hc (by omega) hLw hL
    have e : itmA zs (p : Nat) = match rcF 10000 zs 0 1 p 0 none [] [] with | .inl f => .inl f | .inr (t, q, _) => .inr (t, q) := by unfold itmA; rw [if_neg hm, if_neg hx]; rfl
    rw [e]
    have kR : Hid (Calls Tryz.prog 34 #[.pointer (some ⟨w.heap.size + 2, 0, none⟩)] (W3 w a n c (p : Nat)) fun x w' => ReadIs ⟨w.heap.size + 2, a, c, zs⟩ (W3 w a n c (p : Nat)) w' x (rcF 10000 zs 0 1 p 0 none [] [])) := read_any R3 (by show p ≤ zs.length; omega)
    have hE := rc_err zs (by omega) 10000 0 (by omega) 1 p 0 none [] []
    have Z3' : Hid (NBox (W3 w a n c (p : Nat)) w.heap.size zN) := Z3
    have B3' : Hid (Blk (W3 w a n c (p : Nat)) (w.heap.size + 1) #[.int .i64 0, .int .i64 0] 29) := B3
    have S3' : Hid ((W3 w a n c (p : Nat)).heap.size = w.heap.size + 3) := S3
    have L3' : Hid (Below w.heap.size w (W3 w a n c (p : Nat))) := L3
    have hWeq : Hid (((w.alloc (.cells #[.int .i64 0, .int .u64 0, .bool false, .string ⟨#[]⟩, .int .i64 0, .string ⟨#[]⟩, .slice none 0 0, .slice none 0 0, .slice none 0 0] 26)).alloc (.cells #[.int .i64 0, .int .i64 0] 29)).alloc (.cells #[.slice a n c, .int .i64 (p : Nat), .int .i64 0] 52) = W3 w a n c (p : Nat)) := rfl
    generalize W3 w a n c (p : Nat) = W at *
    generalize hRR : rcF 10000 zs 0 1 p 0 none [] [] = R at *
    clear R3 Z3 B3 S3 L3 e
    cases R with
    | inl f =>
      have hf : f.1 ≠ 0 := (hE f rfl (by omega) (by omega) (by simp; omega)).1
      have gf : (f.1 != 0) = true := by simpa using hf
      unfold ReadIs at kR
      simp only at kR
      unfold ItemIs
      simp only
      unfold zN Nb.arr at *
      simp only at *
      clear hf hE hl hb hc hLw hL hm hx hp hRR
      go_enter Tryz.func21, Tryz.ntmps21
      go_wp2_with (go_at_call 34; rw [hWeq.out]; refine kR.out.mono ?_; rintro e w4 ⟨rfl, hq4⟩; have s4 := hq4.size; have s5 := S3'.out; have Z4 := Z3'.out.same (hq4.block _ (by omega) (by omega)); have B4 : Hid (Blk w4 (w.heap.size + 1) #[.int .i64 0, .int .i64 0] 29) := Blk.kq B3'.out hq4 (by omega) (by omega); have l4 : w.heap.size + 2 < w4.heap.size := (by omega); have l40 : w.heap.size < w4.heap.size := (by omega); have l41 : w.heap.size + 1 < w4.heap.size := (by omega); obtain ⟨⟨f0, f1, f2, f3, f4, f5, f6, f7, f8⟩, z0, z1, z2, z3, z4, z5, z6, z7, z8⟩ := zbox Z4; have k0 : w4.cell? ⟨w.heap.size + 1, 0, none⟩ = some (.int .i64 0) := B4.out.cell 0; have k1 : w4.cell? ⟨w.heap.size + 1, 1, none⟩ = some (.int .i64 0) := B4.out.cell 1; have y0 := B4.out.fz 0; have y1 := B4.out.fz 1; have F : Hid (Below w.heap.size w w4) := L3'.out.trans ((hq4.below (by omega)).mono (by omega)); clear hq4 s4 s5 Z4)
      go_region
      go_wp2_with fail
      refine bodyPost_ret (v := .tuple #[.agg #[.int .i64 0, .int .u64 0, .bool false, .string ⟨#[]⟩, .int .i64 0, .string ⟨#[]⟩, .slice none 0 0, .slice none 0 0, .slice none 0 0], .int .i64 0, .agg #[.int .i64 f.1, .int .i64 (f.2 : Nat)]]) (by simp [results, Tryz.results21, go_sem, *]) rfl ⟨rfl, ?_⟩
      repeat (first | with_reducible exact F.out | with_reducible refine bset ?_ (by omega) | with_reducible refine ballo ?_ (Nat.le_refl _) _ | with_reducible refine Below.drew ?_)
    | inr tro =>
      obtain ⟨t, r, o⟩ := tro
      unfold ReadIs at kR
      simp only at kR
      simp only
      unfold zN Nb.arr at *
      simp only at *
      clear hE hl hb hc hLw hL hm hx hp hRR
      go_enter Tryz.func21, Tryz.ntmps21
      go_wp2_with (go_at_call 34; rw [hWeq.out]; refine kR.out.mono ?_; rintro e w4 ⟨⟨nb, he4, hn4⟩, hk4⟩; subst he4; have hq4 := hk4.2.1; simp only at hq4; have s4 := hq4.size; have s5 := S3'.out; have Z4 := Z3'.out.same (hq4.block _ (by omega) (by omega)); have B4 : Hid (Blk w4 (w.heap.size + 1) #[.int .i64 0, .int .i64 0] 29) := Blk.kq B3'.out hq4 (by omega) (by omega); have l4 : w.heap.size + 2 < w4.heap.size := (by omega); have l40 : w.heap.size < w4.heap.size := (by omega); have l41 : w.heap.size + 1 < w4.heap.size := (by omega); obtain ⟨⟨f0, f1, f2, f3, f4, f5, f6, f7, f8⟩, z0, z1, z2, z3, z4, z5, z6, z7, z8⟩ := zbox Z4; have k0 : w4.cell? ⟨w.heap.size + 1, 0, none⟩ = some (.int .i64 0) := B4.out.cell 0; have k1 : w4.cell? ⟨w.heap.size + 1, 1, none⟩ = some (.int .i64 0) := B4.out.cell 1; have y0 := B4.out.fz 0; have y1 := B4.out.fz 1; have c1' : w4.cell? ⟨w.heap.size + 2, 1, none⟩ = some (.int .i64 (r : Nat)) := hk4.1.1.cell 1; have c1 : ((w4.alloc (.cells #[.int .i64 nb.kind, .int .u64 nb.num, .bool nb.neg, .string nb.dig, .int .i64 nb.exp, .string nb.txt, .slice nb.ab nb.lb nb.cb, .slice nb.ak nb.lk nb.ck, .slice nb.ai nb.li nb.ci] 26)).alloc (.cells #[.int .i64 0, .int .i64 0] 29)).cell? ⟨w.heap.size + 2, 1, none⟩ = some (.int .i64 (r : Nat)) := ((bal2 w4 _ _).cell (p := ⟨w.heap.size + 2, 1, none⟩) l4).trans c1'; have F : Hid (IT 3 w w4 nb t) := ⟨L3'.out.trans ((hq4.below (by omega)).mono (by omega)), by rw [← S3'.out]; exact hn4⟩; clear hn4 hk4 hq4 s4 s5 Z4)
      go_region
      go_wp2_with fail
      refine bodyPost_ret (v := .tuple #[.agg #[.int .i64 nb.kind, .int .u64 nb.num, .bool nb.neg, .string nb.dig, .int .i64 nb.exp, .string nb.txt, .slice nb.ab nb.lb nb.cb, .slice nb.ak nb.lk nb.ck, .slice nb.ai nb.li nb.ci], .int .i64 (r : Nat), .agg #[.int .i64 0, .int .i64 0]]) (by simp [results, Tryz.results21, go_sem, *]) rfl ?_
      refine IT.out (b := 3) (nb := nb) ?_
      repeat (first | with_reducible exact F.out | with_reducible refine IT.set ?_ (by omega) (by omega) | with_reducible refine IT.alloc ?_ _ | with_reducible refine IT.drew ?_)
end Go.Proofs.YtnjbppfanmmifaaGreatDoor
namespace Go.Proofs.YtnjbppfanmmifaaGreatDoor
open Go.RowKit
set_option linter.unusedVariables false
/-- What is answered of all bytes. -/
def DcdIs (w w' : World) (x : Ending) (R : Sum (Int × Nat) Tr) : Prop := (match R with
  | .inl f => x = .returned (.tuple #[.agg zN.arr, .agg #[.int .i64 f.1, .int .i64 (f.2 : Nat)]])
  | .inr t => ∃ nb : Nb, x = .returned (.tuple #[.agg nb.arr, .agg #[.int .i64 0, .int .i64 0]]) ∧ NdW (Rg w.heap.size w'.heap.size) 26 w' nb t) ∧ Below w.heap.size w w'
theorem IT.dcd {b : Nat} {w X : World} {nb : Nb} {t : Tr} (h : IT b w X nb t) : DcdIs w X (.returned (.tuple #[.agg nb.arr, .agg #[.int .i64 0, .int .i64 0]])) (.inr t) := ⟨⟨nb, rfl, h.2.mono fun k hk => ⟨by have := hk.1; omega, hk.2⟩⟩, h.1⟩
theorem box_nf2 (w : World) : Below w.heap.size w ((w.alloc (.cells zN.arr 26)).alloc (.cells #[.int .i64 0, .int .i64 0] 29)) ∧ NBox ((w.alloc (.cells zN.arr 26)).alloc (.cells #[.int .i64 0, .int .i64 0] 29)) w.heap.size zN ∧ Blk ((w.alloc (.cells zN.arr 26)).alloc (.cells #[.int .i64 0, .int .i64 0] 29)) (w.heap.size + 1) #[.int .i64 0, .int .i64 0] 29 ∧ ((w.alloc (.cells zN.arr 26)).alloc (.cells #[.int .i64 0, .int .i64 0] 29)).heap.size = w.heap.size + 2 := by
  have s1 : (w.alloc (.cells zN.arr 26)).heap.size = w.heap.size + 1 := by simp
  have A1 := alloc_below (w.alloc (.cells zN.arr 26)) (.cells #[.int .i64 0, .int .i64 0] 29)
  refine ⟨bal2 w _ _, (nbox_new w zN).kept A1 (by omega), ?_, by simp⟩
  have := blk_new (w.alloc (.cells zN.arr 26)) #[.int .i64 0, .int .i64 0] 29
  rw [s1] at this
  exact this
set_option maxHeartbeats 4000000 in
set_option maxRecDepth 100000 in
theorem decode_any (a : Option Addr) (n c : Nat) (zs : List Int) (w : World) {L : Nat} (hl : zs.length = n) (hb : Bytes w a zs) (hc : n ≤ c ∧ c ≤ maxLen ∧ (a = none → c = 0)) (hLw : Lw L w) (hL : L ≤ w.heap.size) : Calls Tryz.prog 17 #[.slice a n c] w fun e w' => DcdIs w w' e (dcdA zs) := by
  obtain ⟨L2', Z2', B2', S2'⟩ := box_nf2 w
  have kI : Hid (∀ wx, Below w.heap.size w wx → Calls Tryz.prog 21 #[.slice a n c, .int .i64 0] wx fun e w' => ItemIs wx w' e (itmA zs 0)) := fun wx hx => citem_any a n c zs 0 wx hl (hb.kept hx) hc (hLw.on (hx.mono hL)) (Nat.le_trans hL hx.size)
  have L2 : Hid (Below w.heap.size w ((w.alloc (.cells #[.int .i64 0, .int .u64 0, .bool false, .string ⟨#[]⟩, .int .i64 0, .string ⟨#[]⟩, .slice none 0 0, .slice none 0 0, .slice none 0 0] 26)).alloc (.cells #[.int .i64 0, .int .i64 0] 29))) := L2'
  have Z2 : Hid (NBox ((w.alloc (.cells #[.int .i64 0, .int .u64 0, .bool false, .string ⟨#[]⟩, .int .i64 0, .string ⟨#[]⟩, .slice none 0 0, .slice none 0 0, .slice none 0 0] 26)).alloc (.cells #[.int .i64 0, .int .i64 0] 29)) w.heap.size zN) := Z2'
  have B2 : Hid (Blk ((w.alloc (.cells #[.int .i64 0, .int .u64 0, .bool false, .string ⟨#[]⟩, .int .i64 0, .string ⟨#[]⟩, .slice none 0 0, .slice none 0 0, .slice none 0 0] 26)).alloc (.cells #[.int .i64 0, .int .i64 0] 29)) (w.heap.size + 1) #[.int .i64 0, .int .i64 0] 29) := B2'
  have S2 : Hid (((w.alloc (.cells #[.int .i64 0, .int .u64 0, .bool false, .string ⟨#[]⟩, .int .i64 0, .string ⟨#[]⟩, .slice none 0 0, .slice none 0 0, .slice none 0 0] 26)).alloc (.cells #[.int .i64 0, .int .i64 0] 29)).heap.size = w.heap.size + 2) := S2'
  have hE := fun f => @itm_err zs 0 f
  unfold dcdA
  generalize itmA zs 0 = R at *
  unfold ItemIs at kI
  clear L2' Z2' B2' S2' hb hc hLw hL
  cases R with
  | inl f =>
    have hf : f.1 ≠ 0 := (hE f rfl).1
    have gf : (f.1 == 0) = false := by simpa using hf
    unfold DcdIs
    simp only at kI ⊢
    unfold zN Nb.arr at *
    simp only at *
    clear hf hE hl
    go_enter Tryz.func17, Tryz.ntmps17
    go_wp2_with (go_at_call 21; refine (kI.out _ L2.out).mono ?_; rintro e w4 ⟨rfl, hb4⟩; have Z4 := Z2.out.kept hb4 Z2.out.lt; have B4 : Hid (Blk w4 (w.heap.size + 1) #[.int .i64 0, .int .i64 0] 29) := Blk.kept B2.out hb4 B2.out.lt; have l41 : w.heap.size + 1 < w4.heap.size := B4.out.lt; have l40 : w.heap.size < w4.heap.size := Z4.lt; obtain ⟨⟨f0, f1, f2, f3, f4, f5, f6, f7, f8⟩, z0, z1, z2, z3, z4, z5, z6, z7, z8⟩ := zbox Z4; have k0 : w4.cell? ⟨w.heap.size + 1, 0, none⟩ = some (.int .i64 0) := B4.out.cell 0; have k1 : w4.cell? ⟨w.heap.size + 1, 1, none⟩ = some (.int .i64 0) := B4.out.cell 1; have y0 := B4.out.fz 0; have y1 := B4.out.fz 1; have F : Hid (Below w.heap.size w w4) := L2.out.trans (hb4.mono L2.out.size); clear hb4 Z4)
    go_region
    go_wp2_with fail
    refine bodyPost_ret (v := .tuple #[.agg #[.int .i64 0, .int .u64 0, .bool false, .string ⟨#[]⟩, .int .i64 0, .string ⟨#[]⟩, .slice none 0 0, .slice none 0 0, .slice none 0 0], .agg #[.int .i64 f.1, .int .i64 (f.2 : Nat)]]) (by simp [results, Tryz.results17, go_sem, *]) rfl ⟨rfl, ?_⟩
    repeat (first | with_reducible exact F.out | with_reducible refine bset ?_ (by omega) | with_reducible refine ballo ?_ (Nat.le_refl _) _ | with_reducible refine Below.drew ?_)
  | inr tq =>
    obtain ⟨t, q⟩ := tq
    simp only at kI ⊢
    by_cases hq : q = zs.length
    · rw [if_neg (by simpa using hq)]
      have hqn : Hid (q = n) := hq.trans hl
      have gq : ((q : Int) != (n : Int)) = false := by simp; omega
      have gq' : (q != n) = false := by simp; omega
      unfold zN Nb.arr at *
      try simp only at *
      clear hE hl hq
      go_enter Tryz.func17, Tryz.ntmps17
      go_wp2_with (go_at_call 21; refine (kI.out _ L2.out).mono ?_; rintro e w4 ⟨⟨nb, he4, hn4⟩, hb4⟩; subst he4; have Z4 := Z2.out.kept hb4 Z2.out.lt; have B4 : Hid (Blk w4 (w.heap.size + 1) #[.int .i64 0, .int .i64 0] 29) := Blk.kept B2.out hb4 B2.out.lt; have l41 : w.heap.size + 1 < w4.heap.size := B4.out.lt; have l40 : w.heap.size < w4.heap.size := Z4.lt; obtain ⟨⟨f0, f1, f2, f3, f4, f5, f6, f7, f8⟩, z0, z1, z2, z3, z4, z5, z6, z7, z8⟩ := zbox Z4; have k0 : w4.cell? ⟨w.heap.size + 1, 0, none⟩ = some (.int .i64 0) := B4.out.cell 0; have k1 : w4.cell? ⟨w.heap.size + 1, 1, none⟩ = some (.int .i64 0) := B4.out.cell 1; have y0 := B4.out.fz 0; have y1 := B4.out.fz 1; have F : Hid (IT 2 w w4 nb t) := ⟨L2.out.trans (hb4.mono L2.out.size), by rw [← S2.out]; exact hn4⟩; clear hb4 hn4 Z4)
      go_region
      go_wp2_with fail
      refine bodyPost_ret (v := .tuple #[.agg #[.int .i64 nb.kind, .int .u64 nb.num, .bool nb.neg, .string nb.dig, .int .i64 nb.exp, .string nb.txt, .slice nb.ab nb.lb nb.cb, .slice nb.ak nb.lk nb.ck, .slice nb.ai nb.li nb.ci], .agg #[.int .i64 0, .int .i64 0]]) (by simp [results, Tryz.results17, go_sem, *]) rfl ?_
      refine IT.dcd (b := 2) (nb := nb) ?_
      repeat (first | with_reducible exact F.out | with_reducible refine IT.set ?_ (by omega) (by omega) | with_reducible refine IT.alloc ?_ _ | with_reducible refine IT.drew ?_)
    · rw [if_pos (by simpa using hq)]
      have gq : ((q : Int) != (n : Int)) = true := by simp; omega
      have gq' : (q != n) = true := by simp; omega
      unfold DcdIs
      simp only
      unfold zN Nb.arr at *
      try simp only at *
      clear hE hl hq
      go_enter Tryz.func17, Tryz.ntmps17
      go_wp2_with (go_at_call 21; refine (kI.out _ L2.out).mono ?_; rintro e w4 ⟨⟨nb, he4, hn4⟩, hb4⟩; subst he4; have Z4 := Z2.out.kept hb4 Z2.out.lt; have B4 : Hid (Blk w4 (w.heap.size + 1) #[.int .i64 0, .int .i64 0] 29) := Blk.kept B2.out hb4 B2.out.lt; have l41 : w.heap.size + 1 < w4.heap.size := B4.out.lt; have l40 : w.heap.size < w4.heap.size := Z4.lt; obtain ⟨⟨f0, f1, f2, f3, f4, f5, f6, f7, f8⟩, z0, z1, z2, z3, z4, z5, z6, z7, z8⟩ := zbox Z4; have k0 : w4.cell? ⟨w.heap.size + 1, 0, none⟩ = some (.int .i64 0) := B4.out.cell 0; have k1 : w4.cell? ⟨w.heap.size + 1, 1, none⟩ = some (.int .i64 0) := B4.out.cell 1; have y0 := B4.out.fz 0; have y1 := B4.out.fz 1; have F : Hid (Below w.heap.size w w4) := L2.out.trans (hb4.mono L2.out.size); clear hb4 hn4 Z4)
      refine bodyPost_ret (v := .tuple #[.agg #[.int .i64 0, .int .u64 0, .bool false, .string ⟨#[]⟩, .int .i64 0, .string ⟨#[]⟩, .slice none 0 0, .slice none 0 0, .slice none 0 0], .agg #[.int .i64 10, .int .i64 (q : Nat)]]) (by simp [results, Tryz.results17, go_sem, *]) rfl ⟨rfl, ?_⟩
      repeat (first | with_reducible exact F.out | with_reducible refine bset ?_ (by omega) | with_reducible refine ballo ?_ (Nat.le_refl _) _ | with_reducible refine Below.drew ?_)
end Go.Proofs.YtnjbppfanmmifaaGreatDoor
namespace Go.Proofs.YtnjbppfanmmifaaGreatDoor
open Go.RowKit
set_option linter.unusedVariables false
def liveB : List Int := [130, 1, 196, 130, 32, 24, 25]
def deadB : List Int := [130, 1, 255]
theorem dead_is : dcdA deadB = .inl (5, 2) := by kernel_rfl
theorem live_is : dcdA liveB = .inr (arrT [intT false ⟨#[49]⟩, decT false ⟨#[50, 53]⟩ (-1)]) := by kernel_rfl
/-- Bytes that are written down in the text. -/
theorem bytes_lit (w : World) (zs : List Int) (hz : ∀ c ∈ zs, 0 ≤ c ∧ c < 256) (hl : zs.length ≤ maxLen) : Bytes (w.alloc (.cells (zs.map (Value.int .u8)).toArray 5)) (some ⟨w.heap.size, 0, none⟩) zs := by
  refine ⟨hz, hl, .inr ⟨w.heap.size, 0, rfl, fun i hi => ?_⟩⟩
  rw [Nat.zero_add, cell_row (heap_alloc_new w _)]
  simp [List.getD_eq_getElem?_getD, hi]
/-- Two kids of a node in memory. -/
theorem two_kids {D : Nat} {w : World} {b : Nb} {t u v : Tr} (h : Nd (D + 1 + 1) w b t) (hk : t.kids = [u, v]) : ∃ bk off cc n0 n1, b.ai = some ⟨bk, off, none⟩ ∧ b.li = 2 ∧ b.ci = cc ∧ 2 ≤ cc ∧ bk < w.heap.size ∧ (∀ j, j < 9 → w.cell? ⟨bk, off + (0 * 9 + j), none⟩ = n0.cells[j]?) ∧ (∀ j, j < 9 → w.cell? ⟨bk, off + (1 * 9 + j), none⟩ = n1.cells[j]?) ∧ Nd (D + 1) w n0 u ∧ Nd (D + 1) w n1 v := by
  have hRow := h.2.2.2.2
  have hlen : t.kids.length = b.li := hRow.1
  have hl2 : b.li = 2 := by rw [← hlen, hk]; rfl
  rcases hRow.2.2 with hz | ⟨bk, off, ha, hc⟩
  · rw [hk] at hz; cases hz
  obtain ⟨n0, hc0, hq0⟩ := hc 0 (by rw [hk]; simp)
  obtain ⟨n1, hc1, hq1⟩ := hc 1 (by rw [hk]; simp)
  have e0 : t.kids[0]'(by rw [hk]; simp) = u := by simp [hk]
  have e1 : t.kids[1]'(by rw [hk]; simp) = v := by simp [hk]
  rw [e0] at hq0
  rw [e1] at hq1
  have g0 := hc0 0 (by omega)
  have hbk : bk < w.heap.size := some_block (g0.trans (List.getElem?_eq_getElem (by simp [Nb.cells])))
  exact ⟨bk, off, b.ci, n0, n1, ha, hl2, rfl, by rw [← hl2]; exact hRow.2.1.1, hbk, hc0, hc1, hq0, hq1⟩
theorem box_two (w : World) (o : Obj) (cs : Array Value) : Blk ((w.alloc o).alloc (.cells cs 29)) (w.heap.size + 1) cs 29 := by
  have s1 : (w.alloc o).heap.size = w.heap.size + 1 := by simp
  have := blk_new (w.alloc o) cs 29
  rw [s1] at this
  exact this
set_option maxHeartbeats 4000000 in
set_option maxRecDepth 100000 in
theorem calive_any (w : World) {L : Nat} (hLw : Lw L w) (hL : L ≤ w.heap.size) : Calls Tryz.prog 20 #[] w fun e w' => e = .returned (.bool true) ∧ Below w.heap.size w w' := by
  have kD : Hid (∀ wx, Below w.heap.size w wx → Calls Tryz.prog 17 #[.slice (some ⟨wx.heap.size, 0, none⟩) 7 7] (wx.alloc (.cells #[.int .u8 130, .int .u8 1, .int .u8 196, .int .u8 130, .int .u8 32, .int .u8 24, .int .u8 25] 5)) fun e w' => DcdIs (wx.alloc (.cells #[.int .u8 130, .int .u8 1, .int .u8 196, .int .u8 130, .int .u8 32, .int .u8 24, .int .u8 25] 5)) w' e (.inr (arrT [intT false ⟨#[49]⟩, decT false ⟨#[50, 53]⟩ (-1)]))) := fun wx hx => by
    have hb := alloc_below wx (.cells #[.int .u8 130, .int .u8 1, .int .u8 196, .int .u8 130, .int .u8 32, .int .u8 24, .int .u8 25] 5)
    have := decode_any (some ⟨wx.heap.size, 0, none⟩) 7 7 liveB (wx.alloc (.cells #[.int .u8 130, .int .u8 1, .int .u8 196, .int .u8 130, .int .u8 32, .int .u8 24, .int .u8 25] 5)) rfl (bytes_lit wx liveB (by decide) (by decide)) ⟨by decide, by decide, fun z => by cases z⟩ (hLw.on ((hx.trans (hb.mono hx.size)).mono hL)) (Nat.le_trans hL (Nat.le_trans hx.size hb.size))
    rw [live_is] at this
    exact this
  have kE : Hid (∀ wx (g : Nat), g = wx.heap.size → Below w.heap.size w wx → Calls Tryz.prog 17 #[.slice (some ⟨g, 0, none⟩) 3 3] (wx.alloc (.cells #[.int .u8 130, .int .u8 1, .int .u8 255] 5)) fun e w' => DcdIs (wx.alloc (.cells #[.int .u8 130, .int .u8 1, .int .u8 255] 5)) w' e (.inl (5, 2))) := fun wx g hg hx => by
    subst hg
    have hb := alloc_below wx (.cells #[.int .u8 130, .int .u8 1, .int .u8 255] 5)
    have := decode_any (some ⟨wx.heap.size, 0, none⟩) 3 3 deadB (wx.alloc (.cells #[.int .u8 130, .int .u8 1, .int .u8 255] 5)) rfl (bytes_lit wx deadB (by decide) (by decide)) ⟨by decide, by decide, fun z => by cases z⟩ (hLw.on ((hx.trans (hb.mono hx.size)).mono hL)) (Nat.le_trans hL (Nat.le_trans hx.size hb.size))
    rw [dead_is] at this
    exact this
  unfold DcdIs at kD kE
  unfold zN Nb.arr at kE
  simp only at kD kE
  clear hLw hL
  go_enter Tryz.func20, Tryz.ntmps20
  go_wp2_with (go_at_call 17; refine (kD.out w (Below.refl _ _)).mono ?_; rintro e x1 ⟨⟨nb, he, hn⟩, hb1⟩; rw [Nb.arr] at he; subst he; have b1 : Hid (Below w.heap.size w x1) := (alloc_below w _).trans (hb1.mono (alloc_below w _).size); obtain ⟨bk, off, cc, n0, n1, q1, q2, q3, q4, q5, q6, q7, q8, q9⟩ := two_kids hn.nd rfl; obtain ⟨u0, u1, u2, u3, u4, u5, u6, u7, u8⟩ := elem_fields (i := 0) q6; obtain ⟨v0, v1, v2, v3, v4, v5, v6, v7, v8⟩ := elem_fields (i := 1) q7; simp only [Nat.zero_mul, Nat.add_zero, Nat.one_mul] at u3 v3 v4; have d0 : n0.dig = ⟨#[49]⟩ := q8.1.2.2.2.1; have d1 : n1.dig = ⟨#[50, 53]⟩ := q9.1.2.2.2.1; have d2 : n1.exp = -1 := q9.1.2.2.2.2.1; rw [d0] at u3; rw [d1] at v3; rw [d2] at v4; have hbk : Hid (bk < x1.heap.size) := q5; have U3 : Hid (x1.cell? ⟨bk, off + 3, none⟩ = some (.string ⟨#[49]⟩)) := u3; have V3 : Hid (x1.cell? ⟨bk, off + 12, none⟩ = some (.string ⟨#[50, 53]⟩)) := v3; have V4 : Hid (x1.cell? ⟨bk, off + 13, none⟩ = some (.int .i64 (-1))) := v4; have Q : Hid (nb.ai = some ⟨bk, off, none⟩ ∧ nb.li = 2 ∧ nb.ci = cc ∧ 2 ≤ cc) := ⟨q1, q2, q3, q4⟩; have NN : Hid (NBox (x1.alloc (.cells #[.int .i64 nb.kind, .int .u64 nb.num, .bool nb.neg, .string nb.dig, .int .i64 nb.exp, .string nb.txt, .slice nb.ab nb.lb nb.cb, .slice nb.ak nb.lk nb.ck, .slice nb.ai nb.li nb.ci] 26)) x1.heap.size nb) := nbox_new x1 nb; have FF : Hid (Blk ((x1.alloc (.cells #[.int .i64 nb.kind, .int .u64 nb.num, .bool nb.neg, .string nb.dig, .int .i64 nb.exp, .string nb.txt, .slice nb.ab nb.lb nb.cb, .slice nb.ak nb.lk nb.ck, .slice nb.ai nb.li nb.ci] 26)).alloc (.cells #[.int .i64 0, .int .i64 0] 29)) (x1.heap.size + 1) #[.int .i64 0, .int .i64 0] 29) := (box_two x1 _ _); have B1 : Hid (Below x1.heap.size x1 ((x1.alloc (.cells #[.int .i64 nb.kind, .int .u64 nb.num, .bool nb.neg, .string nb.dig, .int .i64 nb.exp, .string nb.txt, .slice nb.ab nb.lb nb.cb, .slice nb.ak nb.lk nb.ck, .slice nb.ai nb.li nb.ci] 26)).alloc (.cells #[.int .i64 0, .int .i64 0] 29))) := bal2 x1 _ _; clear hn hb1 u0 u1 u2 u3 u4 u5 u6 u7 u8 v0 v1 v2 v3 v4 v5 v6 v7 v8 q1 q2 q3 q4 q5 q6 q7 q8 q9 d0 d1 d2 kD)
  have b2 : Hid (Below w.heap.size w ((x1.alloc (.cells #[.int .i64 nb.kind, .int .u64 nb.num, .bool nb.neg, .string nb.dig, .int .i64 nb.exp, .string nb.txt, .slice nb.ab nb.lb nb.cb, .slice nb.ak nb.lk nb.ck, .slice nb.ai nb.li nb.ci] 26)).alloc (.cells #[.int .i64 0, .int .i64 0] 29))) := b1.out.trans (B1.out.mono b1.out.size)
  have hYs : ((x1.alloc (.cells #[.int .i64 nb.kind, .int .u64 nb.num, .bool nb.neg, .string nb.dig, .int .i64 nb.exp, .string nb.txt, .slice nb.ab nb.lb nb.cb, .slice nb.ak nb.lk nb.ck, .slice nb.ai nb.li nb.ci] 26)).alloc (.cells #[.int .i64 0, .int .i64 0] 29)).heap.size = x1.heap.size + 1 + 1 := by simp
  refine (kE.out ((x1.alloc (.cells #[.int .i64 nb.kind, .int .u64 nb.num, .bool nb.neg, .string nb.dig, .int .i64 nb.exp, .string nb.txt, .slice nb.ab nb.lb nb.cb, .slice nb.ak nb.lk nb.ck, .slice nb.ai nb.li nb.ci] 26)).alloc (.cells #[.int .i64 0, .int .i64 0] 29)) (x1.heap.size + 1 + 1) hYs.symm b2.out).mono ?_
  rintro e x2 ⟨rfl, hb2⟩
  have c2 : Below ((x1.alloc (.cells #[.int .i64 nb.kind, .int .u64 nb.num, .bool nb.neg, .string nb.dig, .int .i64 nb.exp, .string nb.txt, .slice nb.ab nb.lb nb.cb, .slice nb.ak nb.lk nb.ck, .slice nb.ai nb.li nb.ci] 26)).alloc (.cells #[.int .i64 0, .int .i64 0] 29)).heap.size ((x1.alloc (.cells #[.int .i64 nb.kind, .int .u64 nb.num, .bool nb.neg, .string nb.dig, .int .i64 nb.exp, .string nb.txt, .slice nb.ab nb.lb nb.cb, .slice nb.ak nb.lk nb.ck, .slice nb.ai nb.li nb.ci] 26)).alloc (.cells #[.int .i64 0, .int .i64 0] 29)) x2 := ((alloc_below ((x1.alloc (.cells #[.int .i64 nb.kind, .int .u64 nb.num, .bool nb.neg, .string nb.dig, .int .i64 nb.exp, .string nb.txt, .slice nb.ab nb.lb nb.cb, .slice nb.ak nb.lk nb.ck, .slice nb.ai nb.li nb.ci] 26)).alloc (.cells #[.int .i64 0, .int .i64 0] 29)) (.cells #[.int .u8 130, .int .u8 1, .int .u8 255] 5)).trans (hb2.mono (alloc_below ((x1.alloc (.cells #[.int .i64 nb.kind, .int .u64 nb.num, .bool nb.neg, .string nb.dig, .int .i64 nb.exp, .string nb.txt, .slice nb.ab nb.lb nb.cb, .slice nb.ak nb.lk nb.ck, .slice nb.ai nb.li nb.ci] 26)).alloc (.cells #[.int .i64 0, .int .i64 0] 29)) (.cells #[.int .u8 130, .int .u8 1, .int .u8 255] 5)).size))
  have b3 : Hid (Below w.heap.size w x2) := b2.out.trans (c2.mono b2.out.size)
  have c3 : Below x1.heap.size x1 x2 := B1.out.trans (c2.mono B1.out.size)
  have s2 := c2.size
  have l1 : x1.heap.size + 1 < x2.heap.size := by omega
  have l0 : x1.heap.size < x2.heap.size := by omega
  have up : ∀ (p : Addr) (v : Value), p.block < x2.heap.size → x2.cell? p = some v → ((x2.alloc (.cells #[.int .i64 0, .int .u64 0, .bool false, .string ⟨#[]⟩, .int .i64 0, .string ⟨#[]⟩, .slice none 0 0, .slice none 0 0, .slice none 0 0] 26)).alloc (.cells #[.int .i64 5, .int .i64 2] 29)).cell? p = some v := fun p v hp hv => ((bal2 x2 _ _).cell hp).trans hv
  have N2 : NBox x2 x1.heap.size nb := ((NN.out.kept (alloc_below _ _) NN.out.lt).kept c2 (by omega))
  have F2 : Blk x2 (x1.heap.size + 1) #[.int .i64 0, .int .i64 0] 29 := Blk.kept FF.out c2 (by omega)
  have e8 := N2.fields.2.2.2.2.2.2.2.2
  rw [Q.out.1, Q.out.2.1, Q.out.2.2.1] at e8
  have hc2 := Q.out.2.2.2
  have hbk2 : bk < x2.heap.size := by have := hbk.out; omega
  have m8 := up ⟨x1.heap.size, 8, none⟩ _ l0 e8
  have m0 := up ⟨x1.heap.size + 1, 0, none⟩ (.int .i64 0) l1 (F2.cell 0)
  have m1 := up ⟨x1.heap.size + 1, 1, none⟩ (.int .i64 0) l1 (F2.cell 1)
  have m3 := up ⟨bk, off + 3, none⟩ _ hbk2 ((c3.cell hbk.out).trans U3.out)
  have m12 := up ⟨bk, off + 12, none⟩ _ hbk2 ((c3.cell hbk.out).trans V3.out)
  have m13 := up ⟨bk, off + 13, none⟩ _ hbk2 ((c3.cell hbk.out).trans V4.out)
  have hF : Hid (Below w.heap.size w ((x2.alloc (.cells #[.int .i64 0, .int .u64 0, .bool false, .string ⟨#[]⟩, .int .i64 0, .string ⟨#[]⟩, .slice none 0 0, .slice none 0 0, .slice none 0 0] 26)).alloc (.cells #[.int .i64 5, .int .i64 2] 29))) := b3.out.trans ((bal2 x2 _ _).mono b3.out.size)
  clear b1 U3 V3 V4 Q NN FF B1 b2 hYs hb2 c2 b3 c3 s2 up N2 F2 e8 kE hbk hbk2
  go_wp2_with fail
  go_ret
  exact ⟨rfl, hF.out⟩
end Go.Proofs.YtnjbppfanmmifaaGreatDoor
namespace Go.Proofs.YtnjbppfanmmifaaGreatDoor
open Go.RowKit
set_option linter.unusedVariables false
theorem rem_fit {x : Int} {r : Nat} (hr : 1 ≤ r) (h4 : r ≤ 4096) : ∃ c : Nat, c < r ∧ IntKind.i64.wrap (x.tmod r + r) = x.tmod r + r ∧ (x.tmod r + r).tmod r = (c : Int) ∧ wrap64 (x.tmod r + r) = x.tmod r + r := by
  have h1 : -(r : Int) < x.tmod r := by
    have := Int.natAbs_tmod x r
    have h2 : x.natAbs % (r : Int).natAbs < (r : Int).natAbs := Nat.mod_lt _ (by omega)
    omega
  have h2 : x.tmod r < r := by
    have := Int.natAbs_tmod x r
    have h2 : x.natAbs % (r : Int).natAbs < (r : Int).natAbs := Nat.mod_lt _ (by omega)
    omega
  have e2 : IntKind.i64.wrap (x.tmod r + r) = x.tmod r + r := by rw [IntKind.wrap_i64]; omega
  obtain ⟨m, hm⟩ : ∃ m : Nat, x.tmod r + r = (m : Int) := ⟨(x.tmod r + r).toNat, by omega⟩
  refine ⟨m % r, Nat.mod_lt _ (by omega), e2, ?_, by unfold wrap64; omega⟩
  rw [hm]
  simp [Int.tmod]
set_option maxHeartbeats 4000000 in
set_option maxRecDepth 100000 in
theorem wcheads (a : Option Addr) (n c : Nat) (zs : List Int) (x : Int) (w : World) {L : Nat} (hl : zs.length = n) (hb : Bytes w a zs) (hc : n ≤ c ∧ c ≤ maxLen ∧ (a = none → c = 0)) (hLw : Lw L w) (hL : L ≤ w.heap.size) : Calls Tryz.prog 7 #[.slice a n c, .int .i64 x] w fun e w' => e = .returned (.bool true) ∧ Below w.heap.size w w' := by
  have k1 := citem_any a n c zs 0 w hl hb hc hLw hL
  have kA : Hid (∀ wx, Below w.heap.size w wx → Calls Tryz.prog 20 #[] wx fun e w' => e = .returned (.bool true) ∧ Below wx.heap.size wx w') := fun wx hx => calive_any wx (hLw.on (hx.mono hL)) (Nat.le_trans hL hx.size)
  have hE := fun f => @itm_err zs 0 f
  have hO := fun t r => @itm_ok zs 0 t r
  have hH := fun t r cc => @dcd_heads zs t r cc
  have kD : Hid (∀ wx (m : Nat), m ≤ n → Below w.heap.size w wx → Calls Tryz.prog 17 #[.slice a m c] wx fun e w' => DcdIs wx w' e (dcdA (zs.take m))) := fun wx m hm hx => decode_any a m c (zs.take m) wx (by rw [List.length_take]; omega) ((hb.kept hx).take m) ⟨by omega, hc.2⟩ (hLw.on (hx.mono hL)) (Nat.le_trans hL hx.size)
  unfold ItemIs at k1
  generalize itmA zs 0 = R at *
  cases R with
  | inl f =>
    have hf := (hE f rfl).1
    have gf : (f.1 == 0) = false := by simpa using hf
    simp only at k1
    unfold zN Nb.arr at k1
    simp only at k1
    clear hE hO hH kD hf hl hb hc hLw hL
    go_enter Tryz.func7, Tryz.ntmps7
    go_wp2_with (first
      | (go_at_call 21; refine k1.mono ?_; rintro e x1 ⟨rfl, hb1⟩; have b1 : Hid (Below w.heap.size w ((x1.alloc (.cells #[.int .i64 0, .int .u64 0, .bool false, .string ⟨#[]⟩, .int .i64 0, .string ⟨#[]⟩, .slice none 0 0, .slice none 0 0, .slice none 0 0] 26)).alloc (.cells #[.int .i64 f.1, .int .i64 (f.2 : Nat)] 29))) := hb1.trans ((bal2 x1 _ _).mono hb1.size); clear k1)
      | (go_at_call 20; refine (kA.out _ b1.out).mono ?_; rintro e x2 ⟨rfl, hb2⟩))
    go_ret
    exact ⟨rfl, b1.out.trans (hb2.mono b1.out.size)⟩
  | inr tr =>
    obtain ⟨t, r⟩ := tr
    simp only at k1
    obtain ⟨h4, _, _, hr0, hrn, _⟩ := hO t r rfl
    obtain ⟨m, hm, w1, w2, w3⟩ := rem_fit (x := x) (r := r) (by omega) (by omega)
    obtain ⟨f, hf⟩ := hH t r m rfl hm
    have hf0 : f.1 ≠ 0 := (dcd_err hf).1
    have gf : (f.1 == 0) = false := by simpa using hf0
    have kD1 : Hid (∀ wx, Below w.heap.size w wx → Calls Tryz.prog 17 #[.slice a m c] wx fun e w' => e = .returned (.tuple #[.agg #[.int .i64 0, .int .u64 0, .bool false, .string ⟨#[]⟩, .int .i64 0, .string ⟨#[]⟩, .slice none 0 0, .slice none 0 0, .slice none 0 0], .agg #[.int .i64 f.1, .int .i64 (f.2 : Nat)]]) ∧ Below wx.heap.size wx w') := fun wx hx => by
      have := kD.out wx m (by omega) hx
      rw [hf] at this
      exact this
    have g1 : decide ((r : Int) < 1) = false := by simp; omega
    have g1' : decide (r < 1) = false := by simp; omega
    have g2 : decide ((n : Int) < (r : Int)) = false := by simp; omega
    have g2' : decide (n < r) = false := by simp; omega
    have hr : ¬ (r : Int) = 0 := by omega
    have hr' : ¬ r = 0 := by omega
    have hmc : m ≤ c := by omega
    clear hE hO hH kD hl hb hc hLw hL hf hf0 h4 hr0 hrn
    unfold Nb.arr at k1
    go_enter Tryz.func7, Tryz.ntmps7
    go_wp2_with (first
      | (go_at_call 21; refine k1.mono ?_; rintro e x1 ⟨⟨nb, he1, hn1⟩, hb1⟩; subst he1; have b1 : Hid (Below w.heap.size w ((x1.alloc (.cells #[.int .i64 nb.kind, .int .u64 nb.num, .bool nb.neg, .string nb.dig, .int .i64 nb.exp, .string nb.txt, .slice nb.ab nb.lb nb.cb, .slice nb.ak nb.lk nb.ck, .slice nb.ai nb.li nb.ci] 26)).alloc (.cells #[.int .i64 0, .int .i64 0] 29))) := hb1.trans ((bal2 x1 _ _).mono hb1.size); clear k1 hn1 hb1)
      | (go_at_call 17; refine (kD1.out _ b1.out).mono ?_; rintro e x2 ⟨rfl, hb2⟩; have b2 : Hid (Below w.heap.size w ((x2.alloc (.cells #[.int .i64 0, .int .u64 0, .bool false, .string ⟨#[]⟩, .int .i64 0, .string ⟨#[]⟩, .slice none 0 0, .slice none 0 0, .slice none 0 0] 26)).alloc (.cells #[.int .i64 f.1, .int .i64 (f.2 : Nat)] 29))) := (b1.out.trans (hb2.mono b1.out.size)).trans ((bal2 x2 _ _).mono (b1.out.trans (hb2.mono b1.out.size)).size); clear hb2)
      | (go_at_call 20; refine (kA.out _ b2.out).mono ?_; rintro e x3 ⟨rfl, hb3⟩))
    go_ret
    exact ⟨rfl, b2.out.trans (hb3.mono b2.out.size)⟩
end Go.Proofs.YtnjbppfanmmifaaGreatDoor
