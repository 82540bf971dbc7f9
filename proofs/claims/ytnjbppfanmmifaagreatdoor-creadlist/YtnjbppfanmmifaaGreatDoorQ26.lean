/-
  The program's reader of CBOR: a tag, whatever its item is.
  tree.Same.
  The program's reader of CBOR: is a key there already?
  The program's reader of CBOR: a Map's keys and kids, one more.
-/
import Derived.Test.YtnjbppfanmmifaaGreatDoorQ25
import Derived.Test.YtnjbppfanmmifaaGreatDoorQ6
import Derived.Test.YtnjbppfanmmifaaGreatDoorQ2
import Derived.Test.YtnjbppfanmmifaaGreatDoorQ23
namespace Go.Proofs.YtnjbppfanmmifaaGreatDoor
open Go.RowKit
set_option linter.unusedVariables false
theorem td_of {C : CX} {w W1 X : World} {hd : Hd} {r o D : Nat} {nb : Nb} {R : Tr × Int} {S : Nat → Prop} (hB : Blk W1 w.heap.size hd.arr 94) (hZ : NBox W1 (w.heap.size + 1) zN) (hs : W1.heap.size = w.heap.size + 2) (hg : C.g < w.heap.size) (hq : Kq C.g W1.heap.size W1 X) (hK : RK C w X r o) (hn : R.2 = 0 → NdW S (D + 1) X nb R.1) (hS : ∀ k, S k → W1.heap.size ≤ k ∧ k < X.heap.size) : TD C w X hd r o D nb R S :=
  ⟨hK, Blk.kq hB hq hB.lt (by omega), hZ.same (hq.block _ hZ.lt (by omega)), hn, fun k hk => ⟨by have := (hS k hk).1; omega, (hS k hk).2⟩, by have := hq.size; omega⟩
theorem td_a {C : CX} {w W1 w4 w6 : World} {hd : Hd} {r o D B : Nat} {nb : Nb} {R : Tr × Int} (hB : Blk W1 w.heap.size hd.arr 94) (hZ : NBox W1 (w.heap.size + 1) zN) (hs : W1.heap.size = w.heap.size + 2) (hg : C.g < w.heap.size) (b4 : Kq C.g W1.heap.size W1 w4) (K4 : RK C w w4 r o) (hb : Below w4.heap.size w4 w6) (hBB : W1.heap.size ≤ B) (hn : R.2 = 0 → NdW (SU (Rg B w4.heap.size) w4 w6) (D + 1) w6 nb R.1) : TD C w w6 hd r o D nb R (SU (Rg B w4.heap.size) w4 w6) := by
  have s4 := b4.size
  have s6 := hb.size
  refine td_of hB hZ hs hg (b4.trans (Kq.of (hb.mono s4))) (K4.below hb) hn fun k hk => ?_
  rcases hk with q | q
  · have := q.1; have := q.2; exact ⟨by omega, by omega⟩
  · have := q.1; have := q.2; exact ⟨by omega, by omega⟩
theorem td_b {C : CX} {w W1 w4 w6 : World} {hd : Hd} {r o D B : Nat} {nb : Nb} {R : Tr × Int} {ob : Obj} (hB : Blk W1 w.heap.size hd.arr 94) (hZ : NBox W1 (w.heap.size + 1) zN) (hs : W1.heap.size = w.heap.size + 2) (hg : C.g < w.heap.size) (b4 : Kq C.g W1.heap.size W1 w4) (K4 : RK C w w4 r o) (hb : Below (w4.alloc ob).heap.size (w4.alloc ob) w6) (hBB : W1.heap.size ≤ B) (hn : R.2 = 0 → NdW (SU (Rg B w4.heap.size) (w4.alloc ob) w6) (D + 1) w6 nb R.1) : TD C w w6 hd r o D nb R (SU (Rg B w4.heap.size) (w4.alloc ob) w6) := by
  have s4 := b4.size
  have s5 := (alloc_below w4 ob).size
  have s6 := hb.size
  refine td_of hB hZ hs hg ((kz_alloc b4 (Nat.le_refl _) ob).trans (Kq.of (hb.mono (by omega)))) ((K4.alloc _).below hb) hn fun k hk => ?_
  rcases hk with q | q
  · have := q.1; have := q.2; exact ⟨by omega, by omega⟩
  · have := q.1; have := q.2; exact ⟨by omega, by omega⟩
theorem gs_a {W1 w4 w6 : World} {ob : Obj} (hs : (W1.alloc ob).drew.heap.size ≤ w4.heap.size) : ¬ SU (Rg (W1.alloc ob).drew.heap.size w4.heap.size) w4 w6 W1.heap.size := by
  have e : (W1.alloc ob).drew.heap.size = W1.heap.size + 1 := by show (W1.alloc ob).heap.size = _; simp
  rintro (q | q)
  · have := q.1; omega
  · have := q.1; omega
theorem gs_b {w4 w6 : World} {B : Nat} {ob : Obj} : ¬ SU (Rg B w4.heap.size) (w4.alloc ob) w6 w4.heap.size := by
  have e : (w4.alloc ob).heap.size = w4.heap.size + 1 := by simp
  rintro (q | q)
  · have := q.2; omega
  · have := q.1; omega
/-- A reader, and a tree that was read, behind b boxes. -/
def GR (b : Nat) (C : CX) (w X : World) (r n D : Nat) (nb : Nb) (t : Tr) : Prop := RK C w X r n ∧ NdW (Rg (w.heap.size + b) X.heap.size) D X nb t
theorem GR.set {b : Nat} {C : CX} {w X : World} {r n D j k : Nat} {nb : Nb} {t : Tr} {v : Value} (h : GR b C w X r n D nb t) (h0 : w.heap.size ≤ k) (h1 : k < w.heap.size + b) : GR b C w (X.setCell ⟨k, j, none⟩ v) r n D nb t :=
  ⟨h.1.set h0, by rw [set_size]; exact h.2.stays fun i hi => setk (by have := hi.1; omega) v⟩
theorem GR.out {b : Nat} {C : CX} {w X : World} {r n D : Nat} {nb : Nb} {t : Tr} (h : GR b C w X r n D nb t) : ItmIs C w X D (.returned (.agg nb.arr)) (.inr (t, r, n)) := ⟨⟨nb, rfl, h.2.mono fun k hk => ⟨by have := hk.1; omega, hk.2⟩⟩, h.1⟩
set_option maxHeartbeats 8000000 in
set_option maxRecDepth 100000 in
theorem tag_step {C : CX} {k : Nat} (ih : ItmAt C k) : TagAt C k := by
  intro w hd d q m h hn hm hd24 hq hk
  obtain ⟨D, hD⟩ : ∃ D, d + D = 25 := ⟨25 - d, by omega⟩
  have kI : Hid (∀ wx, RSt C wx q m → Calls Tryz.prog 48 #[.pointer (some ⟨C.g, 0, none⟩), .int .i64 ((d : Int) + 1)] wx fun x w' => ItmIs C wx w' (D + 1) x (rcF k C.zs 0 (d + 1) q m none [] [])) := fun wx hx => by
    have := ih wx (d + 1) q m hx hm (by omega) hq hk
    rw [show 27 - (d + 1) = D + 1 by omega, show (((d + 1 : Nat) : Nat) : Int) = (d : Int) + 1 by omega] at this
    exact this
  have wd : IntKind.i64.wrap ((d : Int) + 1) = (d : Int) + 1 := by rw [IntKind.wrap_i64]; omega
  have hgl : Hid (C.g < w.heap.size) := h.lt
  rw [show 27 - d = D + 1 + 1 by omega]
  generalize rcF k C.zs 0 (d + 1) q m none [] [] = IRR at *
  have s1 : (w.alloc (.cells hd.arr 94)).heap.size = w.heap.size + 1 := by simp
  have A1 := alloc_below (w.alloc (.cells hd.arr 94)) (.cells zN.arr 26)
  have hK1 : Hid (RK C w ((w.alloc (.cells hd.arr 94)).alloc (.cells zN.arr 26)) q m) := (h.rk.alloc _).alloc _
  have hB1 : Hid (Blk ((w.alloc (.cells hd.arr 94)).alloc (.cells zN.arr 26)) w.heap.size hd.arr 94) := Blk.kept (blk_new w hd.arr 94) A1 (by omega)
  have hZ1 : Hid (NBox ((w.alloc (.cells hd.arr 94)).alloc (.cells zN.arr 26)) (w.heap.size + 1) zN) := by have := nbox_new (w.alloc (.cells hd.arr 94)) zN; rw [s1] at this; exact this
  have hWs : Hid (((w.alloc (.cells hd.arr 94)).alloc (.cells zN.arr 26)).heap.size = w.heap.size + 2) := by show _ = _; simp
  obtain ⟨W1, hW1⟩ : ∃ W1, W1 = (w.alloc (.cells hd.arr 94)).alloc (.cells zN.arr 26) := ⟨_, rfl⟩
  rw [← hW1] at hK1 hB1 hZ1 hWs
  have KA : Hid (RK C w W1.drew q m) := hK1.out.drew
  have KB : Hid (RK C w (W1.alloc (.cells zN.arr 26)).drew q m) := (hK1.out.alloc _).drew
  have KA1 : Hid (RSt C W1.drew q m) := KA.out.1
  have KB1 : Hid (RSt C (W1.alloc (.cells zN.arr 26)).drew q m) := KB.out.1
  have a3 : Hid (Kq C.g W1.heap.size W1 (W1.alloc (.cells zN.arr 26))) := Kq.of (alloc_below W1 _)
  have l3 : Hid (NBox (W1.alloc (.cells zN.arr 26)) W1.heap.size zN) := nbox_new W1 zN
  obtain ⟨pl, mj, lo, n, cut⟩ := hd
  have hW2 : ((w.alloc (.cells #[.int .i64 (pl : Nat), .int .u8 mj, .int .u8 lo, .int .u64 (n : Nat), .bool cut] 94)).alloc (.cells #[.int .i64 0, .int .u64 0, .bool false, .string ⟨#[]⟩, .int .i64 0, .string ⟨#[]⟩, .slice none 0 0, .slice none 0 0, .slice none 0 0] 26)) = W1 := hW1.symm
  have hW3 : Hid (((w.alloc (.cells #[.int .i64 (pl : Nat), .int .u8 mj, .int .u8 lo, .int .u64 (n : Nat), .bool cut] 94)).alloc (.cells #[.int .i64 0, .int .u64 0, .bool false, .string ⟨#[]⟩, .int .i64 0, .string ⟨#[]⟩, .slice none 0 0, .slice none 0 0, .slice none 0 0] 26)) = W1) := hW2
  have hn' : Hid (n < 18446744073709551616) := hn
  clear hW1 hW2 A1 s1 h hm hd24 hq hk ih hn
  cases IRR with
  | inl f =>
    have e : tagR ⟨pl, mj, lo, n, cut⟩ (.inl f) = .inl f := rfl
    have q3 : W1.cell? ⟨w.heap.size, 3, none⟩ = some (.int .u64 (n : Nat)) := hB1.out.cell 3
    have q3a : (W1.alloc (.cells #[.int .i64 0, .int .u64 0, .bool false, .string ⟨#[]⟩, .int .i64 0, .string ⟨#[]⟩, .slice none 0 0, .slice none 0 0, .slice none 0 0] 26)).cell? ⟨w.heap.size, 3, none⟩ = some (.int .u64 (n : Nat)) := (Blk.kept hB1.out (alloc_below W1 _) hB1.out.lt).cell 3
    rw [e]
    unfold ItmIs at kI ⊢
    simp only at kI ⊢
    rw [pn_eq] at kI
    unfold Hd.arr zN Nb.arr at *
    simp only at *
    clear e hB1 hZ1 l3 a3 hn'
    go_enter Tryz.func129, Tryz.ntmps129
    go_upto_region 1 with fail
    rw [hW3.out]
    go_region_dies
    all_goals
      refine (kI.out _ (by first | with_reducible exact KA1.out | with_reducible exact KB1.out)).mono ?_
      rintro e w5 ⟨rfl, hk5⟩
      refine ⟨rfl, rfl, ?_⟩
      first
        | (have hX : Kq C.g W1.drew.heap.size W1.drew w5 := (by with_reducible exact hk5); exact KA.out.2.1.next hX)
        | exact KB.out.2.1.next hk5
  | inr tro =>
    obtain ⟨t, r, o⟩ := tro
    unfold ItmIs at kI
    simp only at kI
    have kT : Hid (∀ wx (S : Nat → Prop) (nb : Nb), NdW S (D + 1) wx nb t → (∀ k, S k → k < wx.heap.size) → RK C w wx r o → Calls Tryz.prog 169 #[.int .u64 (n : Nat), .agg nb.arr] wx fun x w' => TgIs S wx w' (D + 1) x (tagA n t)) := fun wx S nb h1 h2 h3 => ctagged_any n hn'.out h1 h2 h3.1.lw (Nat.le_of_lt h3.1.lt)
    obtain ⟨PR, hPR⟩ : ∃ PR, PR = tagR ⟨pl, mj, lo, n, cut⟩ (.inr (t, r, o)) := ⟨_, rfl⟩
    rw [← hPR]
    have hP : Hid (PR = if (tagA n t).2 ≠ 0 then .inl (11, pl) else .inr ((tagA n t).1, r, o)) := hPR
    clear hPR
    generalize tagA n t = TR at *
    obtain ⟨tt, y⟩ := TR
    unfold TgIs at kT
    unfold Nb.arr at kT KB KB1 a3 l3
    unfold Hd.arr zN at *
    simp only at *
    clear hn'
    go_enter Tryz.func129, Tryz.ntmps129
    go_upto_region 1 with fail
    rw [hW3.out]
    go_cut [7, 8] (fun s7 s8 wx => ∃ (g7 : Nat) (nb : Nb), s7 = .pointer (some ⟨g7, 0, none⟩) ∧ s8 = .int .i64 y ∧ Hid (TC C w wx ⟨pl, mj, lo, n, cut⟩ r o (D + 1) g7 nb (tt, y)))
    case first =>
      have SK : Hid (∀ wx, Kq C.g W1.heap.size W1 wx → wx.cell? ⟨w.heap.size, 3, none⟩ = some (.int .u64 (n : Nat))) := fun wx hx => (Blk.kq hB1.out hx hB1.out.lt (by have := hgl.out; omega)).cell 3
      have hCg : Hid (C.g < W1.heap.size) := by have := hWs.out; have := hgl.out; show _ < _; omega
      have hB0 : Hid (W1.heap.size ≤ (W1.alloc (.cells #[.int .i64 0, .int .u64 0, .bool false, .string ⟨#[]⟩, .int .i64 0, .string ⟨#[]⟩, .slice none 0 0, .slice none 0 0, .slice none 0 0] 26)).drew.heap.size) := a3.out.size
      have hW0 : Hid (w.heap.size + 2 ≤ W1.heap.size) := Nat.le_of_eq hWs.out.symm
      go_region_held3 (fun wx => wx.cell? ⟨w.heap.size, 3, none⟩ = some (.int .u64 (n : Nat))) (((with_reducible refine SK.out _ ?_); (repeat' with_reducible first | exact Kq.refl _ _ _ | exact a3.out | exact b6.out | exact b4.out | refine kqd ?_ | refine kz_set ?_ ?_ | refine kz_alloc ?_ ?_ _); (all_goals first | exact Nat.le_refl _ | exact b4.out.size))) (first
        | (go_at_call 48; refine (kI.out _ (by first | exact KA1.out | exact KB1.out)).mono ?_; rintro e w4 ⟨⟨nb4, he4, hn4⟩, hk4⟩; rw [Nb.arr] at he4; subst he4; first
          | (have hX : RK C W1.drew w4 r o := hk4; have K4 : Hid (RK C w w4 r o) := KA.out.next hX; have b4 : Hid (Kq C.g W1.heap.size W1 w4) := (Kq.drew C.g W1.heap.size W1).trans hX.2.1; have N4 : Hid (NdW (Rg W1.heap.size w4.heap.size) (D + 1) w4 nb4 t) := hn4; have N4b : Hid (NdW (Rg W1.heap.size w4.heap.size) (D + 1) (w4.alloc (.cells #[.int .i64 0, .int .u64 0, .bool false, .string ⟨#[]⟩, .int .i64 0, .string ⟨#[]⟩, .slice none 0 0, .slice none 0 0, .slice none 0 0] 26)) nb4 t) := N4.out.stays (fun k hk => (alloc_below w4 (.cells #[.int .i64 0, .int .u64 0, .bool false, .string ⟨#[]⟩, .int .i64 0, .string ⟨#[]⟩, .slice none 0 0, .slice none 0 0, .slice none 0 0] 26)).block k hk.2); have L4 : Hid (∀ k, Rg W1.heap.size w4.heap.size k → k < w4.heap.size) := fun k hk => hk.2; have L4b : Hid (∀ k, Rg W1.heap.size w4.heap.size k → k < (w4.alloc (.cells #[.int .i64 0, .int .u64 0, .bool false, .string ⟨#[]⟩, .int .i64 0, .string ⟨#[]⟩, .slice none 0 0, .slice none 0 0, .slice none 0 0] 26)).heap.size) := fun k hk => Nat.lt_of_lt_of_le hk.2 (alloc_below w4 (.cells #[.int .i64 0, .int .u64 0, .bool false, .string ⟨#[]⟩, .int .i64 0, .string ⟨#[]⟩, .slice none 0 0, .slice none 0 0, .slice none 0 0] 26)).size; have K4b : Hid (RK C w (w4.alloc (.cells #[.int .i64 0, .int .u64 0, .bool false, .string ⟨#[]⟩, .int .i64 0, .string ⟨#[]⟩, .slice none 0 0, .slice none 0 0, .slice none 0 0] 26)) r o) := K4.out.alloc _; clear hk4 hn4 hX)
          | (have hX : RK C (W1.alloc (.cells #[.int .i64 0, .int .u64 0, .bool false, .string ⟨#[]⟩, .int .i64 0, .string ⟨#[]⟩, .slice none 0 0, .slice none 0 0, .slice none 0 0] 26)).drew w4 r o := hk4; have K4 : Hid (RK C w w4 r o) := KB.out.next hX; have b4 : Hid (Kq C.g W1.heap.size W1 w4) := (kqd a3.out).trans (hX.2.1.mono (kqd a3.out).size); have N4 : Hid (NdW (Rg (W1.alloc (.cells #[.int .i64 0, .int .u64 0, .bool false, .string ⟨#[]⟩, .int .i64 0, .string ⟨#[]⟩, .slice none 0 0, .slice none 0 0, .slice none 0 0] 26)).drew.heap.size w4.heap.size) (D + 1) w4 nb4 t) := hn4; have L4 : Hid (∀ k, Rg (W1.alloc (.cells #[.int .i64 0, .int .u64 0, .bool false, .string ⟨#[]⟩, .int .i64 0, .string ⟨#[]⟩, .slice none 0 0, .slice none 0 0, .slice none 0 0] 26)).drew.heap.size w4.heap.size k → k < w4.heap.size) := fun k hk => hk.2; have Z4 : Hid (NBox w4 W1.heap.size zN) := l3.out.same (hX.2.1.block _ l3.out.lt (Nat.ne_of_gt hCg.out)); have s44 : Hid ((W1.alloc (.cells #[.int .i64 0, .int .u64 0, .bool false, .string ⟨#[]⟩, .int .i64 0, .string ⟨#[]⟩, .slice none 0 0, .slice none 0 0, .slice none 0 0] 26)).drew.heap.size ≤ w4.heap.size) := hX.2.1.size; clear hk4 hn4 hX)
          | fail)
        | (go_at_call 169; refine (kT.out _ _ nb4 (by first | exact N4.out | exact N4b.out) (by first | exact L4.out | exact L4b.out) (by first | exact K4.out | exact K4b.out)).mono ?_; rintro e w6 ⟨⟨nb6, he6, hn6⟩, hb6⟩; subst he6; first
          | (have hY : Below w4.heap.size w4 w6 := hb6; have b6 : Hid (Kq C.g W1.heap.size W1 w6) := b4.out.trans (Kq.of (hY.mono b4.out.size)); first
            | (have Z6 : Hid (NBox w6 W1.heap.size zN) := Z4.out.kept hY Z4.out.lt; have T6 : Hid (TD C w w6 ⟨pl, mj, lo, n, cut⟩ r o (D + 1) nb6 (tt, y) (SU (Rg (W1.alloc (.cells #[.int .i64 0, .int .u64 0, .bool false, .string ⟨#[]⟩, .int .i64 0, .string ⟨#[]⟩, .slice none 0 0, .slice none 0 0, .slice none 0 0] 26)).drew.heap.size w4.heap.size) w4 w6)) := td_a hB1.out hZ1.out hWs.out hgl.out b4.out K4.out hY hB0.out hn6; have G6 : Hid (w.heap.size + 2 ≤ W1.heap.size ∧ ¬ SU (Rg (W1.alloc (.cells #[.int .i64 0, .int .u64 0, .bool false, .string ⟨#[]⟩, .int .i64 0, .string ⟨#[]⟩, .slice none 0 0, .slice none 0 0, .slice none 0 0] 26)).drew.heap.size w4.heap.size) w4 w6 W1.heap.size) := ⟨hW0.out, gs_a s44.out⟩; obtain ⟨⟨f0, f1, f2, f3, f4, f5, f6, f7, f8⟩, z0, z1, z2, z3, z4, z5, z6, z7, z8⟩ := zbox Z6.out; clear hn6 hb6 hY)
            | (have T6 : Hid (TD C w w6 ⟨pl, mj, lo, n, cut⟩ r o (D + 1) nb6 (tt, y) (SU (Rg W1.heap.size w4.heap.size) w4 w6)) := td_a hB1.out hZ1.out hWs.out hgl.out b4.out K4.out hY (Nat.le_refl _) hn6; clear hn6 hb6 hY)
            | fail)
          | (have hY : Below (w4.alloc (.cells #[.int .i64 0, .int .u64 0, .bool false, .string ⟨#[]⟩, .int .i64 0, .string ⟨#[]⟩, .slice none 0 0, .slice none 0 0, .slice none 0 0] 26)).heap.size (w4.alloc (.cells #[.int .i64 0, .int .u64 0, .bool false, .string ⟨#[]⟩, .int .i64 0, .string ⟨#[]⟩, .slice none 0 0, .slice none 0 0, .slice none 0 0] 26)) w6 := hb6; have b5 : Hid (Kq C.g W1.heap.size W1 (w4.alloc (.cells #[.int .i64 0, .int .u64 0, .bool false, .string ⟨#[]⟩, .int .i64 0, .string ⟨#[]⟩, .slice none 0 0, .slice none 0 0, .slice none 0 0] 26))) := kz_alloc b4.out (Nat.le_refl _) _; have b6 : Hid (Kq C.g W1.heap.size W1 w6) := b5.out.trans (Kq.of (hY.mono b5.out.size)); have Z6 : Hid (NBox w6 w4.heap.size zN) := (nbox_new w4 zN).kept hY (nbox_new w4 zN).lt; have T6 : Hid (TD C w w6 ⟨pl, mj, lo, n, cut⟩ r o (D + 1) nb6 (tt, y) (SU (Rg W1.heap.size w4.heap.size) (w4.alloc (.cells #[.int .i64 0, .int .u64 0, .bool false, .string ⟨#[]⟩, .int .i64 0, .string ⟨#[]⟩, .slice none 0 0, .slice none 0 0, .slice none 0 0] 26)) w6)) := td_b hB1.out hZ1.out hWs.out hgl.out b4.out K4.out hY (Nat.le_refl _) hn6; have G6 : Hid (w.heap.size + 2 ≤ w4.heap.size ∧ ¬ SU (Rg W1.heap.size w4.heap.size) (w4.alloc (.cells #[.int .i64 0, .int .u64 0, .bool false, .string ⟨#[]⟩, .int .i64 0, .string ⟨#[]⟩, .slice none 0 0, .slice none 0 0, .slice none 0 0] 26)) w6 w4.heap.size) := ⟨Nat.le_trans hW0.out b4.out.size, gs_b⟩; obtain ⟨⟨f0, f1, f2, f3, f4, f5, f6, f7, f8⟩, z0, z1, z2, z3, z4, z5, z6, z7, z8⟩ := zbox Z6.out; clear hn6 hb6 hY)
          | fail))
      all_goals
        go_wp2_with fail
        go_meet
        refine ⟨_, nb6, rfl, rfl, ?_⟩
        first
          | (have F : Hid (TC C w _ ⟨pl, mj, lo, n, cut⟩ r o (D + 1) _ nb6 (tt, y)) := tc_ab T6.out Z6.out G6.out.1 G6.out.2; with_reducible exact F)
          | (have F : Hid (TC C w _ ⟨pl, mj, lo, n, cut⟩ r o (D + 1) _ nb6 (tt, y)) := tc_c T6.out; exact F)
          | fail
    case rest =>
      obtain ⟨g7, nb, rfl, rfl, hT⟩ := hcut
      obtain ⟨⟨f0, f1, f2, f3, f4, f5, f6, f7, f8⟩, z0, z1, z2, z3, z4, z5, z6, z7, z8⟩ := zbox hT.out.2.2.1
      have b0 := hT.out.2.1.cell 0
      unfold Hd.arr at b0
      simp at b0
      by_cases hy : y = 0
      · have gy : (y != 0) = false := by simpa using hy
        have hP2 : Hid (PR = .inr (tt, r, o)) := by have := hP.out; rw [if_neg (by simpa using hy)] at this; exact this
        have hF : Hid (GR 2 C w wc r o (D + 1 + 1) nb tt) := ⟨hT.out.1, hT.out.2.2.2.2 hy⟩
        obtain ⟨n0, n1, n2, n3, n4, n5, n6, n7, n8⟩ := hT.out.2.2.2.1.fields
        clear hy hP hT
        go_wp2_with fail
        refine bodyPost_ret (v := .agg nb.arr) (by rw [Nb.arr]; simp [results, Tryz.results129, go_sem, *]) rfl ?_
        show ItmIs C w _ _ _ PR
        rw [hP2.out]
        refine GR.out (b := 2) ?_
        repeat (first | with_reducible exact hF.out | with_reducible refine GR.set ?_ (by omega) (by omega))
      · have gy : (y != 0) = true := by simpa using hy
        have hP2 : Hid (PR = .inl (11, pl)) := by have := hP.out; rw [if_pos (by simpa using hy)] at this; exact this
        have hF : Hid (Kq C.g w.heap.size w wc) := hT.out.1.2.1
        clear hy hP hT
        go_wp2_with fail
        show _ ∧ ItmIs C w _ _ _ PR
        rw [hP2.out]
        exact ⟨rfl, rfl, hF.out⟩
end Go.Proofs.YtnjbppfanmmifaaGreatDoor
namespace Go.Proofs.YtnjbppfanmmifaaGreatDoor
open Go.RowKit
set_option linter.unusedVariables false
set_option maxHeartbeats 2000000 in
theorem gsame_any {D E : Nat} {t u : Tr} {a b : Nb} {w : World} {v : Bool} (hA : Nd D w a t) (hB : Nd E w b u) (hv : v = true ↔ t.size ≤ 1024 ∧ u.size ≤ 1024 ∧ t = u) : Calls Tryz.prog 42 #[.agg a.arr, .agg b.arr] w fun e w' => e = .returned (.bool v) ∧ Below w.heap.size w w' := by
  have hal := alloc_below w (.cells a.arr 26)
  have hal2 := alloc_below (w.alloc (.cells a.arr 26)) (.cells b.arr 26)
  have hb2 : Hid (Below w.heap.size w ((w.alloc (.cells a.arr 26)).alloc (.cells b.arr 26))) := hal.trans (hal2.mono hal.size)
  have hs2 : Hid (w.heap.size ≤ ((w.alloc (.cells a.arr 26)).alloc (.cells b.arr 26)).heap.size) := Nat.le_trans hal.size hal2.size
  have boxA := (nbox_new w a).kept hal2 (by simp)
  have boxB := nbox_new (w.alloc (.cells a.arr 26)) b
  have s1 : (w.alloc (.cells a.arr 26)).heap.size = w.heap.size + 1 := by simp
  rw [s1] at boxB
  obtain ⟨a0, a1, a2, a3, a4, a5, a6, a7, a8⟩ := boxA.fields
  obtain ⟨b0, b1, b2, b3, b4, b5, b6, b7, b8⟩ := boxB.fields
  have hKa : Hid (NBox ((w.alloc (.cells a.arr 26)).alloc (.cells b.arr 26)) w.heap.size a) := boxA
  have hKb : Hid (NBox ((w.alloc (.cells a.arr 26)).alloc (.cells b.arr 26)) (w.heap.size + 1) b) := boxB
  have hsz : Hid (w.heap.size + 1 < ((w.alloc (.cells a.arr 26)).alloc (.cells b.arr 26)).heap.size) := by show _ < _; simp
  have kA : Hid (∀ w', Below w.heap.size w w' → Calls Tryz.prog 74 #[.agg a.arr] w' _) := fun w' h => few_any (hA.kept h)
  have kB : Hid (∀ w', Below w.heap.size w w' → Calls Tryz.prog 74 #[.agg b.arr] w' _) := fun w' h => few_any (hB.kept h)
  have k1 := kA.out _ hb2.out
  have kS : Hid (∀ (v' : Bool), (v' = true ↔ t = u) → ∀ w', Below w.heap.size w w' → Calls Tryz.prog 75 #[.agg a.arr, .agg b.arr] w' _) := fun v' h w' hb => sam_any (hA.kept hb) (hB.kept hb) h
  have hV : Hid (v = true ↔ t.size ≤ 1024 ∧ u.size ≤ 1024 ∧ t = u) := hv
  clear hal hal2 boxA boxB s1 hv hA hB
  by_cases hf : t.size ≤ 1024
  · rw [decide_eq_true hf] at k1
    by_cases hg : u.size ≤ 1024
    · rw [show decide (u.size ≤ 1024) = true from decide_eq_true hg] at kB
      have hv : v = true ↔ t = u := ⟨fun h => (hV.out.1 h).2.2, fun h => hV.out.2 ⟨hf, hg, h⟩⟩
      have kS' := kS.out v hv
      clear hf hg hv kS
      go_enter Tryz.func42, Tryz.ntmps42
      go_wp2_with (first
        | (go_at_call 74; refine k1.mono ?_; rintro e w1 ⟨rfl, hb1⟩; clear k1; have hbw := hb2.out.trans (hb1.mono hs2.out); have q2 := hKb.out.kept hb1 hsz.out; have q1 := hKa.out.kept hb1 (Nat.lt_of_le_of_lt (Nat.le_succ _) hsz.out); obtain ⟨c0, c1, c2, c3, c4, c5, c6, c7, c8⟩ := q1.fields; obtain ⟨d0, d1, d2, d3, d4, d5, d6, d7, d8⟩ := q2.fields; have k2 := kB.out w1 hbw)
        | (go_at_call 74; refine k2.mono ?_; rintro e w2 ⟨rfl, hb3⟩; clear k2; have hbw2 := hbw.trans (hb3.mono hbw.size); obtain ⟨g0, g1, g2, g3, g4, g5, g6, g7, g8⟩ := (q1.kept hb3 q1.lt).fields; obtain ⟨h0, h1, h2, h3, h4, h5, h6, h7, h8⟩ := (q2.kept hb3 q2.lt).fields; have k3 := kS' w2 hbw2)
        | (go_at_call 75; refine k3.mono ?_; rintro e w3 ⟨rfl, hb4⟩))
      go_ret
      exact ⟨rfl, hbw2.trans (hb4.mono hbw2.size)⟩
    · rw [show decide (u.size ≤ 1024) = false from decide_eq_false hg] at kB
      have hv : v = false := not_true hV.out fun h => hg h.2.1
      subst hv
      clear hf hg kS
      go_enter Tryz.func42, Tryz.ntmps42
      go_wp2_with (first
        | (go_at_call 74; refine k1.mono ?_; rintro e w1 ⟨rfl, hb1⟩; clear k1; have hbw := hb2.out.trans (hb1.mono hs2.out); have q2 := hKb.out.kept hb1 hsz.out; obtain ⟨d0, d1, d2, d3, d4, d5, d6, d7, d8⟩ := q2.fields; have k2 := kB.out w1 hbw)
        | (go_at_call 74; refine k2.mono ?_; rintro e w2 ⟨rfl, hb3⟩))
      go_ret
      exact ⟨rfl, hbw.trans (hb3.mono hbw.size)⟩
  · rw [decide_eq_false hf] at k1
    have hv : v = false := not_true hV.out fun h => hf h.1
    subst hv
    clear hf kS kB
    go_enter Tryz.func42, Tryz.ntmps42
    go_wp2_with (go_at_call 74; refine k1.mono ?_; rintro e w1 ⟨rfl, hb1⟩)
    go_ret
    exact ⟨rfl, hb2.out.trans (hb1.mono hs2.out)⟩
end Go.Proofs.YtnjbppfanmmifaaGreatDoor
namespace Go.Proofs.YtnjbppfanmmifaaGreatDoor
open Go.RowKit
set_option linter.unusedVariables false
set_option maxHeartbeats 2000000 in
/-- The closure: is a node the same as the key? -/
theorem pck_any {D E : Nat} {u t : Tr} {nb kb : Nb} {gk : Nat} {w : World} (hA : Nd D w nb u) (hK : NBox w gk kb) (hB : Nd E w kb t) (v : Bool) (hv : v = true ↔ u.size ≤ 1024 ∧ t.size ≤ 1024 ∧ u = t) :
    Calls Tryz.prog 168 (#[.agg nb.arr] ++ #[.pointer (some ⟨gk, 0, none⟩)]) w fun e w' => e = .returned (.bool v) ∧ Below w.heap.size w w' := by
  show Calls Tryz.prog 168 #[.agg nb.arr, .pointer (some ⟨gk, 0, none⟩)] w _
  have hal := alloc_below w (.cells nb.arr 26)
  have kS := gsame_any (hA.kept hal) (hB.kept hal) hv
  obtain ⟨a0, a1, a2, a3, a4, a5, a6, a7, a8⟩ := (nbox_new w nb).fields
  obtain ⟨b0, b1, b2, b3, b4, b5, b6, b7, b8⟩ := (hK.kept hal hK.lt).fields
  have hW : Hid (Below w.heap.size w (w.alloc (.cells nb.arr 26))) := hal
  unfold Nb.arr at *
  clear hal hK hA hB hv
  go_enter Tryz.func168, Tryz.ntmps168
  go_wp2_with (go_at_call 42; refine kS.mono ?_; rintro e w2 ⟨rfl, hb2⟩)
  go_ret
  exact ⟨rfl, hW.out.trans (hb2.mono hW.out.size)⟩
theorem nine_el {w : World} {a : Option Addr} {bk : List Nb} (h : Nine w a bk) {i : Nat} (hi : i < bk.length) : ∃ b off, a = some ⟨b, off, none⟩ ∧ ∀ j, j < 9 → w.cell? ⟨b, off + (i * 9 + j), none⟩ = (bk[i]).cells[j]? := by
  rcases h with rfl | ⟨b, off, ha, hc⟩
  · cases hi
  · exact ⟨b, off, ha, fun j hj => hc i hi j hj⟩
theorem hasK_snoc {lk : List Tr} {t : Tr} {i : Nat} (h : i < lk.length) : hasK (lk.take (i + 1)) t = (hasK (lk.take i) t || eqF lk[i].deep lk[i] t) := by
  unfold hasK
  rw [List.take_succ_eq_append_getElem h, List.any_append]
  simp
/-- A row of keys in memory. -/
def KR (D : Nat) (w : World) (bk : List Nb) (lk : List Tr) : Prop := bk.length = lk.length ∧ (∀ j (h : j < bk.length) (k : j < lk.length), Nd D w bk[j] lk[j]) ∧ ∀ u ∈ lk, u.size ≤ 1024
set_option maxHeartbeats 4000000 in
set_option maxRecDepth 100000 in
theorem indm_any {D E : Nat} (a : Option Addr) (n c : Nat) (bk : List Nb) (lk : List Tr) (gk : Nat) (kb : Nb) (t : Tr) (w : World) (hKb : NBox w gk kb) (hT : Nd E w kb t) (hsz : t.size ≤ 1024) (hl : bk.length = n) (hN : Nine w a bk) (hR : KR D w bk lk) (hc : n ≤ c) (hcm : c ≤ 9223372036854775807) :
    Calls Tryz.prog 145 #[.slice a n c, .func (.func 168) #[] #[.pointer (some ⟨gk, 0, none⟩)]] w fun e w' => (∃ r : Int, e = .returned (.int .i64 r) ∧ decide (0 ≤ r) = hasK lk t) ∧ Below w.heap.size w w' := by
  have e49 : ∀ args w, (callFunc 168 args).run Tryz.prog w = .ok (.enter 168 args) w := enters_of Tryz.func168 (by kernel_rfl) rfl
  have hx : Hid (bk.length = n) := hl
  have hA : Hid (Nine w a bk) := hN
  have hB : Hid (KR D w bk lk) := hR
  have hK : Hid (NBox w gk kb ∧ Nd E w kb t ∧ t.size ≤ 1024) := ⟨hKb, hT, hsz⟩
  clear hl hKb hN hT hsz hR
  go_enter Tryz.func145, Tryz.ntmps145
  go_wp2
  go_loopw [5, 8] (fun _ s8 wr => ∃ (i : Nat), i ≤ n ∧ s8 = .int .i64 i ∧ Hid (Below w.heap.size w wr) ∧ Hid (hasK (lk.take i) t = false)) (fun _ i _ => n - (intOf i).toNat)
  case atStart => exact ⟨0, Nat.zero_le _, rfl, Below.refl _ _, by show _ = _; rfl⟩
  case round =>
    obtain ⟨i, him, rfl, hbl, hT⟩ := hrel
    by_cases hlt : i < n
    · have hz : (i : Int) < (n : Int) := by omega
      have hix : i < bk.length := by rw [hx.out]; exact hlt
      have hiy : i < lk.length := by rw [← hB.out.1]; exact hix
      obtain ⟨b0, off, rfl, hck⟩ := nine_el (hA.out.kept hbl.out) hix
      obtain ⟨f0, f1, f2, f3, f4, f5, f6, f7, f8⟩ := elem_fields hck
      have hiff : eqF lk[i].deep lk[i] t = true ↔ lk[i].size ≤ 1024 ∧ t.size ≤ 1024 ∧ lk[i] = t := by
        rw [eqF_iff _ _ _ (Nat.le_refl _)]
        exact ⟨fun e => ⟨hB.out.2.2 _ (List.getElem_mem hiy), hK.out.2.2, e⟩, fun e => e.2.2⟩
      have kk := pck_any (((hB.out.2.1 i hix hiy)).kept hbl.out) (hK.out.1.kept hbl.out hK.out.1.lt) (hK.out.2.1.kept hbl.out) _ hiff
      have wi : IntKind.i64.wrap ((i : Int) + 1) = (i : Int) + 1 := by rw [IntKind.wrap_i64]; omega
      have hsn := hasK_snoc (t := t) hiy
      rw [hT.out, Bool.false_or] at hsn
      cases hE : eqF lk[i].deep lk[i] t with
      | true =>
        rw [hE] at kk
        have hm : Hid (hasK lk t = true) := by
          show _ = _
          unfold hasK
          rw [List.any_eq_true]
          exact ⟨lk[i], List.getElem_mem hiy, hE⟩
        generalize bk[i] = nk at *
        clear hck hE hsn hiff
        go_wp2_with (go_at_fn 168; refine kk.mono ?_; rintro e w1 ⟨rfl, hb1⟩)
        go_ret
        exact ⟨⟨_, rfl, by rw [hm.out]; simp⟩, hbl.out.trans (hb1.mono hbl.out.size)⟩
      | false =>
        rw [hE] at kk
        have hT' : Hid (hasK (lk.take (i + 1)) t = false) := by show _ = _; rw [hsn, hE]
        generalize bk[i] = nk at *
        clear hck hE hsn hiff
        go_wp2_with (go_at_fn 168; refine kk.mono ?_; rintro e w1 ⟨rfl, hb1⟩)
        go_roundw
        case rel => exact ⟨i + 1, by omega, by go_num, hbl.out.trans (hb1.mono hbl.out.size), hT'⟩
        case measure => simp [intOf]; omega
    · have hz : ¬ (i : Int) < (n : Int) := by omega
      have hm : Hid (hasK lk t = false) := by
        show _ = _
        have := hT.out
        rwa [List.take_of_length_le (by rw [← hB.out.1, hx.out]; omega)] at this
      go_wp2
      go_ret
      exact ⟨⟨-1, rfl, by rw [hm.out]; rfl⟩, hbl.out⟩
set_option maxHeartbeats 1000000 in
theorem contm_any {D E : Nat} (a : Option Addr) (n c : Nat) (bk : List Nb) (lk : List Tr) (gk : Nat) (kb : Nb) (t : Tr) (w : World) (hKb : NBox w gk kb) (hT : Nd E w kb t) (hsz : t.size ≤ 1024) (hl : bk.length = n) (hN : Nine w a bk) (hR : KR D w bk lk) (hc : n ≤ c) (hcm : c ≤ 9223372036854775807) :
    Calls Tryz.prog 108 #[.slice a n c, .func (.func 168) #[] #[.pointer (some ⟨gk, 0, none⟩)]] w fun e w' => e = .returned (.bool (hasK lk t)) ∧ Below w.heap.size w w' := by
  have ki := indm_any a n c bk lk gk kb t w hKb hT hsz hl hN hR hc hcm
  generalize hasK lk t = v at *
  clear hKb hT hsz hl hN hR hc hcm
  go_enter Tryz.func108, Tryz.ntmps108
  go_wp2_with (go_at_call 145; refine ki.mono ?_; rintro e w1 ⟨⟨r, rfl, hr⟩, hb⟩)
  go_ret
  exact ⟨rfl, hb⟩
end Go.Proofs.YtnjbppfanmmifaaGreatDoor
namespace Go.Proofs.YtnjbppfanmmifaaGreatDoor
open Go.RowKit
set_option linter.unusedVariables false
/-- A Map's node, its items so far. -/
def nbM (ak : Option Addr) (nk ck : Nat) (ai : Option Addr) (ni ci : Nat) : Nb := ⟨8, 0, false, ⟨#[]⟩, 0, ⟨#[]⟩, none, 0, 0, ak, nk, ck, ai, ni, ci⟩
/-- WHERE THE READING OF A MAP STANDS. -/
def MS (C : CX) (w wr : World) (hd : Hd) (D : Nat) (lk li : List Tr) (ak : Option Addr) (nk ck : Nat) (ai : Option Addr) (ni ci p m : Nat) : Prop := RK C w wr p m ∧ Blk wr w.heap.size hd.arr 94 ∧ NBox wr (w.heap.size + 1) zN ∧ NBox wr (w.heap.size + 2) (nbM ak nk ck ai ni ci) ∧ ∃ bk bi S, R2 (w.heap.size + 3) D wr (.slice ak nk ck) (.slice ai ni ci) lk li bk bi S
theorem MS.len {C : CX} {w wr : World} {hd : Hd} {D : Nat} {lk li : List Tr} {ak ai : Option Addr} {nk ck ni ci p m : Nat} (h : MS C w wr hd D lk li ak nk ck ai ni ci p m) : nk = lk.length ∧ ni = li.length := by
  obtain ⟨_, _, _, _, bk, bi, S, h1, h2, h3, h4, _⟩ := h
  obtain ⟨a, c, hv, _⟩ := h1.shape
  obtain ⟨a', c', hv', _⟩ := h2.shape
  simp at hv hv'
  exact ⟨by omega, by omega⟩
theorem nbox_put7 {w : World} {g : Nat} {ak a' ai : Option Addr} {nk ck n' c' ni ci : Nat} (h : NBox w g (nbM ak nk ck ai ni ci)) : NBox (w.setCell ⟨g, 7, none⟩ (.slice a' n' c')) g (nbM a' n' c' ai ni ci) := (heap_setCell_same w g 7 (nbM ak nk ck ai ni ci).arr 26 (.slice a' n' c') h).trans rfl
theorem nbox_put8 {w : World} {g : Nat} {ak a' ai : Option Addr} {nk ck n' c' ni ci : Nat} (h : NBox w g (nbM ak nk ck ai ni ci)) : NBox (w.setCell ⟨g, 8, none⟩ (.slice a' n' c')) g (nbM ak nk ck a' n' c') := (heap_setCell_same w g 8 (nbM ak nk ck ai ni ci).arr 26 (.slice a' n' c') h).trans rfl
theorem mkey_put {C : CX} {w wr w7 w9 : World} {hd : Hd} {D : Nat} {lk li : List Tr} {ak ai : Option Addr} {nk ck ni ci p m r o E : Nat} {b' : Nb} {t : Tr} {bk bi : List Nb} {S : Nat → Prop} {v' : Value} (hA : RK C w wr p m) (hB : Blk wr w.heap.size hd.arr 94) (hZ : NBox wr (w.heap.size + 1) zN) (hN : NBox wr (w.heap.size + 2) (nbM ak nk ck ai ni ci)) (hR : R2 (w.heap.size + 3) D wr (.slice ak nk ck) (.slice ai ni ci) lk li bk bi S)
    (hk : RK C wr w7 r o) (hn5 : NdW (Rg wr.heap.size E) D w7 b' t) (hE : E ≤ w7.heap.size) (ho : OwnsN 26 w9 (w.heap.size + 3) v' (bk ++ [b'])) (hg : (w7.alloc (.cells b'.arr 26)).grownBy w9 (Value.slice ak nk ck).ownBlock) (hnew : ∀ g, v'.ownBlock = some g → (Value.slice ak nk ck).ownBlock = some g ∨ (w7.alloc (.cells b'.arr 26)).heap.size ≤ g) :
    ∃ a' c', v' = .slice a' (lk.length + 1) c' ∧ w9.cell? ⟨w.heap.size + 2, 7, none⟩ = some (.slice ak nk ck) ∧ w9.frozen? ⟨w.heap.size + 2, 7, none⟩ = false ∧ MS C w (w9.setCell ⟨w.heap.size + 2, 7, none⟩ (.slice a' (lk.length + 1) c')) hd D (lk ++ [t]) li a' (lk.length + 1) c' ai ni ci r o := by
  have hG := hA.2.2
  have hw3 : w.heap.size + 3 ≤ wr.heap.size := hN.lt
  have hlt := hR.lt
  have hAl := alloc_below w7 (.cells b'.arr 26)
  have R5 := (hR.kq hk.2.1 (by omega)).flip
  have R6 := R5.kid hn5 hw3 hE (fun k hk => (hlt k hk.symm).2) hAl ho hg hnew
  obtain ⟨a', c', hv, _⟩ := ho.shape
  have hbl : bk.length = lk.length := hR.2.2.1
  rw [List.length_append, List.length_singleton, hbl] at hv
  subst hv
  have s5 : wr.heap.size ≤ w7.heap.size := hk.2.1.size
  have old : ∀ k, k < w.heap.size + 3 → k ≠ C.g → w9.heap[k]? = wr.heap[k]? := fun k h1 h2 => by
    rw [hg.block k (by have := hAl.size; omega) (fun e => by have := (hlt k (.inl e.symm)).1; omega), hAl.block k (by omega), hk.2.1.block k (by omega) h2]
  have N6 : NBox w9 (w.heap.size + 2) (nbM ak nk ck ai ni ci) := hN.same (old _ (by omega) (by omega))
  refine ⟨a', c', rfl, N6.cell 7, N6.fz 7, ?_, ?_, ?_, nbox_put7 N6, bk ++ [b'], bi, _, (R6.flip).keep (by rw [set_size]; exact Nat.le_refl _) fun k h1 _ => setk (by omega) _⟩
  · exact (((hA.next hk).alloc _).grown hg (fun k e => by have := (hlt k (.inl e)).1; omega)).set (by omega)
  · exact (setk (by omega) _).trans ((old _ (by omega) (by omega)).trans hB)
  · exact ((hZ.same (old _ (by omega) (by omega))).same (setk (by omega) _))
theorem mkid_put {C : CX} {w wr w7 w9 : World} {hd : Hd} {D : Nat} {lk li : List Tr} {ak ai : Option Addr} {nk ck ni ci p m r o E : Nat} {b' : Nb} {t : Tr} {bk bi : List Nb} {S : Nat → Prop} {v' : Value} (hA : RK C w wr p m) (hB : Blk wr w.heap.size hd.arr 94) (hZ : NBox wr (w.heap.size + 1) zN) (hN : NBox wr (w.heap.size + 2) (nbM ak nk ck ai ni ci)) (hR : R2 (w.heap.size + 3) D wr (.slice ak nk ck) (.slice ai ni ci) lk li bk bi S)
    (hk : RK C wr w7 r o) (hn5 : NdW (Rg wr.heap.size E) D w7 b' t) (hE : E ≤ w7.heap.size) (ho : OwnsN 26 w9 (w.heap.size + 3) v' (bi ++ [b'])) (hg : (w7.alloc (.cells b'.arr 26)).grownBy w9 (Value.slice ai ni ci).ownBlock) (hnew : ∀ g, v'.ownBlock = some g → (Value.slice ai ni ci).ownBlock = some g ∨ (w7.alloc (.cells b'.arr 26)).heap.size ≤ g) :
    ∃ a' c', v' = .slice a' (li.length + 1) c' ∧ w9.cell? ⟨w.heap.size + 2, 8, none⟩ = some (.slice ai ni ci) ∧ w9.frozen? ⟨w.heap.size + 2, 8, none⟩ = false ∧ MS C w (w9.setCell ⟨w.heap.size + 2, 8, none⟩ (.slice a' (li.length + 1) c')) hd D lk (li ++ [t]) ak nk ck a' (li.length + 1) c' r o := by
  have hG := hA.2.2
  have hw3 : w.heap.size + 3 ≤ wr.heap.size := hN.lt
  have hlt := hR.lt
  have hAl := alloc_below w7 (.cells b'.arr 26)
  have R5 := hR.kq hk.2.1 (by omega)
  have R6 := R5.kid hn5 hw3 hE (fun k hk => (hlt k hk).2) hAl ho hg hnew
  obtain ⟨a', c', hv, _⟩ := ho.shape
  have hbl : bi.length = li.length := hR.2.2.2.1
  rw [List.length_append, List.length_singleton, hbl] at hv
  subst hv
  have s5 : wr.heap.size ≤ w7.heap.size := hk.2.1.size
  have old : ∀ k, k < w.heap.size + 3 → k ≠ C.g → w9.heap[k]? = wr.heap[k]? := fun k h1 h2 => by
    rw [hg.block k (by have := hAl.size; omega) (fun e => by have := (hlt k (.inr e.symm)).1; omega), hAl.block k (by omega), hk.2.1.block k (by omega) h2]
  have N6 : NBox w9 (w.heap.size + 2) (nbM ak nk ck ai ni ci) := hN.same (old _ (by omega) (by omega))
  refine ⟨a', c', rfl, N6.cell 8, N6.fz 8, ?_, ?_, ?_, nbox_put8 N6, bk, bi ++ [b'], _, (R6).keep (by rw [set_size]; exact Nat.le_refl _) fun k h1 _ => setk (by omega) _⟩
  · exact (((hA.next hk).alloc _).grown hg (fun k e => by have := (hlt k (.inr e)).1; omega)).set (by omega)
  · exact (setk (by omega) _).trans ((old _ (by omega) (by omega)).trans hB)
  · exact ((hZ.same (old _ (by omega) (by omega))).same (setk (by omega) _))
theorem MS.kq {C : CX} {w wr wx : World} {hd : Hd} {D : Nat} {lk li : List Tr} {ak ai : Option Addr} {nk ck ni ci p m q o : Nat} (h : MS C w wr hd D lk li ak nk ck ai ni ci p m) (hk : RK C wr wx q o) : MS C w wx hd D lk li ak nk ck ai ni ci q o := by
  obtain ⟨h1, h2, h3, h4, bk, bi, S, hr⟩ := h
  have hg := h1.2.2
  exact ⟨h1.next hk, Blk.kq h2 hk.2.1 h2.lt (by omega), h3.same (hk.2.1.block _ h3.lt (by omega)), h4.same (hk.2.1.block _ h4.lt (by omega)), bk, bi, S, hr.kq hk.2.1 (by omega)⟩
/-- The Map, whole. -/
theorem MS.fin {C : CX} {w wr : World} {hd : Hd} {D : Nat} {lk li : List Tr} {ak ai : Option Addr} {nk ck ni ci p m : Nat} (h : MS C w wr hd D lk li ak nk ck ai ni ci p m) (hk : lk.length ≤ 1024) (hl : li.length ≤ 1024) : JR C w wr p m (D + 1) (nbM ak nk ck ai ni ci) (mapT lk li) := by
  obtain ⟨h1, h2, h3, h4, bk, bi, S, r1, r2, r3, r4, r5, r6, r7, r8⟩ := h
  obtain ⟨f1, f2, f3⟩ := rown_fin r2 r4 r6 (fun k hk => ⟨(r7 k hk).1, (r7 k hk).2.1⟩) (by omega)
  obtain ⟨g1, g2, g3⟩ := rown_fin r1 r3 r5 (fun k hk => ⟨(r7 k hk).1, (r7 k hk).2.1⟩) (by omega)
  have r0 : ∀ k, Room k none 0 0 := fun k => ⟨Nat.le_refl _, Nat.zero_le _, fun _ => rfl, by omega⟩
  refine ⟨h1, ⟨rfl, rfl, rfl, rfl, rfl, rfl⟩, ⟨rfl, rfl, rfl, by show (0 : Nat) ≤ _; omega, by show (0 : Nat) ≤ _; omega⟩, ⟨rfl, r0 1, ⟨by simp [mapT], by simp [mapT], .inl rfl⟩⟩, ⟨wn_zero _ _ _ _, g3, f3⟩, g2, f2⟩
/-- What is left of a Map to be read. -/
def ML (C : CX) (w wr : World) (hd : Hd) (d : Nat) (K : Nat) (done : Nat) (R : Sum (Int × Nat) (Tr × Nat × Nat)) : Prop := ∃ (j p m : Nat) (lk li : List Tr) (ak : Option Addr) (nk ck : Nat) (ai : Option Addr) (ni ci : Nat), MS C w wr hd (26 - d) lk li ak nk ck ai ni ci p m ∧ done = li.length ∧ rcF j C.zs 2 (d + 1) p m ((limA hd).map (· - li.length)) lk li = R ∧ (j ≤ K ∧ m ≤ 1024 ∧ p ≤ C.zs.length ∧ 2 * (C.zs.length - p) + 2 ≤ j ∧ lk.length = li.length ∧ li.length ≤ m) ∧ ∀ u ∈ lk, u.size ≤ 1024
/-- A Map. -/
def MapAt (C : CX) (k : Nat) : Prop := ∀ (w : World) (hd : Hd) (d q m : Nat), RSt C w q m → m ≤ 1024 → d ≤ 24 → q ≤ C.zs.length → 2 * (C.zs.length - q) + 2 ≤ k → Calls Tryz.prog 128 #[.pointer (some ⟨C.g, 0, none⟩), .agg hd.arr, .int .i64 (d : Nat)] w fun x w' => ItmIs C w w' (27 - d) x (rcF k C.zs 2 (d + 1) q m (limA hd) [] [])
theorem wpl_append_node {w : World} {ops : Array Oper} {rest : List Oper} {o : Oper} {a : Act} {Q : Exit → Act → World → Prop} (hgd : o.guard = none) (s x : Operand)
    (ho : o.op = .call { callee := .builtin .append, args := #[s, x], argTypes := #[24, 24] })
    (base : Nat) (v : Value) (ys zs : List Nb) (hs : a.eval s = v) (hown : OwnsN 26 w base v ys)
    (ad : Addr) (m c : Nat) (hx : a.eval x = .slice (some ad) m c) (hm : zs.length = m) (hm0 : 0 < m) (hb : Nine w (some ad) zs)
    (hbytes : ys.length + zs.length ≤ 1000000000) (hbase : base ≤ w.heap.size)
    (h : ∀ v' w', OwnsN 26 w' base v' (ys ++ zs) → w.grownBy w' v.ownBlock → (∀ g, v'.ownBlock = some g → v.ownBlock = some g ∨ w.heap.size ≤ g) → wpList Tryz.prog ops Q rest (a.put o.dst v') w') : wpList Tryz.prog ops Q (o :: rest) a w := by
  have hw : Region.wanted o (yielded ops a.tmps) = true := by simp [Region.wanted, hgd]
  have t := step_append_node (ops := ops) (K := wpList Tryz.prog ops Q rest) (Q := Q) (E := True) hgd s x ho base v ys zs hs hown ad m c hx hm hm0 hb hbytes hbase h
  rw [if_pos hw] at t
  show (if _ then _ else _)
  rw [if_pos hw]
  exact .inl t
end Go.Proofs.YtnjbppfanmmifaaGreatDoor
