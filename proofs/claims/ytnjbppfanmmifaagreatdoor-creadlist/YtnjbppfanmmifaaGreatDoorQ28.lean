/-
  The program's reader of CBOR: what is behind an item's first bytes.
  The program's reader of CBOR: a wrong byte ends the reading by a panic, which is recovered.
-/
import Derived.Test.YtnjbppfanmmifaaGreatDoorQ26
import Derived.Test.YtnjbppfanmmifaaGreatDoorQ27
import Derived.Defers
import Derived.Recover
namespace Go.Proofs.YtnjbppfanmmifaaGreatDoor
open Go.RowKit
set_option linter.unusedVariables false
theorem box2 {C : CX} {w : World} {q m : Nat} (h : RSt C w q m) (hd : Hd) : RK C w ((w.alloc (.cells hd.arr 94)).alloc (.cells zN.arr 26)) q m ∧ Blk ((w.alloc (.cells hd.arr 94)).alloc (.cells zN.arr 26)) w.heap.size hd.arr 94 ∧ NBox ((w.alloc (.cells hd.arr 94)).alloc (.cells zN.arr 26)) (w.heap.size + 1) zN ∧ ((w.alloc (.cells hd.arr 94)).alloc (.cells zN.arr 26)).heap.size = w.heap.size + 2 := by
  have s1 : (w.alloc (.cells hd.arr 94)).heap.size = w.heap.size + 1 := by simp
  have A1 := alloc_below (w.alloc (.cells hd.arr 94)) (.cells zN.arr 26)
  refine ⟨(h.rk.alloc _).alloc _, Blk.kept (blk_new w hd.arr 94) A1 (by omega), ?_, by simp⟩
  have := nbox_new (w.alloc (.cells hd.arr 94)) zN
  rw [s1] at this
  exact this
theorem RK.zbox {C : CX} {w W X : World} {p m q n : Nat} (h : RK C w W p m) (hZ : NBox W (w.heap.size + 1) zN) (hk : RK C W X q n) : NBox X (w.heap.size + 1) zN := hZ.same (hk.2.1.block _ hZ.lt (by have := h.2.2; omega))
theorem txt_room {n : Nat} (h : n < 18446744073709551616) : (txt n).size ≤ 140737488351232 := Nat.le_trans (rt_size (rt_txt (word_top (Nat.le_of_lt h)))).2 (by omega)
/-- Bytes that were read, as a node. -/
theorem byt_nd {B D : Nat} {w : World} {a : Option Addr} {c : Nat} {l : List Int} (h : OwnsB w B (.slice a l.length c) l) (hl : l.length ≤ 4096) : NdW (Rg B w.heap.size) (D + 1) w ⟨6, 0, false, ⟨#[]⟩, 0, ⟨#[]⟩, a, l.length, c, none, 0, 0, none, 0, 0⟩ (bytT l) := by
  have r0 : ∀ k, Room k none 0 0 := fun k => ⟨Nat.le_refl _, Nat.zero_le _, fun _ => rfl, by omega⟩
  obtain ⟨a', c', hv, h1, h2, h3, h4⟩ := h.shape
  simp at hv
  obtain ⟨rfl, rfl⟩ := hv
  refine ⟨⟨rfl, rfl, rfl, rfl, rfl, rfl⟩, ⟨rfl, rfl, rfl, by show (0 : Nat) ≤ _; omega, by show (0 : Nat) ≤ _; omega⟩, ⟨rfl, ⟨h2.1, h2.2, h1, by show l.length * 1 ≤ _; omega⟩, h3⟩, ⟨fun h0 => ?_, wn_zero _ _ _ _, wn_zero _ _ _ _⟩, ⟨rfl, r0 136, .inl rfl⟩, ⟨rfl, r0 136, .inl rfl⟩⟩
  obtain ⟨⟨_, hv⟩, _⟩ := h
  rcases hv with ⟨e, h⟩ | ⟨g, cap, cur, e, hb, hg, _⟩
  · exact absurd h0 (by show ¬ 0 < l.length; omega)
  · simp at e
    exact ⟨g, cur, e.1, ⟨hb, (Array.getElem?_eq_some_iff.1 hg).1⟩, hg⟩
theorem str_len (l : List Int) : (strOfNums l).size = l.length := by simp [strOfNums, ByteArray.size]
theorem oth_leaf {h : Hd} {t : Tr} (hn : h.n < 18446744073709551616) (e : othA h = .inr t) : t.bytes = [] ∧ Lf t ∧ (Lit.int .i64 t.kind).wf = true ∧ (Lit.int .u64 t.num).wf = true ∧ (Lit.int .i64 t.exp).wf = true ∧ t.dig.size ≤ 140737488351232 ∧ t.txt.size ≤ 140737488351232 := by
  have k : ∀ (a b : Int), (Lit.int .i64 a).wf = true → 0 ≤ b → b < 18446744073709551616 → kindT a b = t → t.bytes = [] ∧ Lf t ∧ (Lit.int .i64 t.kind).wf = true ∧ (Lit.int .u64 t.num).wf = true ∧ (Lit.int .i64 t.exp).wf = true ∧ t.dig.size ≤ 140737488351232 ∧ t.txt.size ≤ 140737488351232 := fun a b h1 h2 h3 h4 => by
    subst h4
    refine ⟨rfl, ⟨rfl, rfl⟩, h1, ?_, rfl, by show (0 : Nat) ≤ _; omega, by show (0 : Nat) ≤ _; omega⟩
    show (Lit.int .u64 b).wf = true
    simp [Lit.wf, show IntKind.u64.min = 0 from by decide, show IntKind.u64.max = 18446744073709551615 from by decide]
    omega
  unfold othA at e
  split at e
  · simp at e; exact k 1 0 rfl (by omega) (by omega) e
  split at e
  · simp at e; exact k 1 1 rfl (by omega) (by omega) e
  split at e
  · simp at e; exact k 0 0 rfl (by omega) (by omega) e
  split at e
  · have hw : 0 ≤ (widenA (h.n : Nat) (hwd h.lo : Nat)).1 ∧ (widenA (h.n : Nat) (hwd h.lo : Nat)).1 < 18446744073709551616 := by
      unfold widenA
      split
      · rename_i c; exact widen_room2 ⟨by omega, c.2⟩
      split
      · rename_i c; exact widen_room4 ⟨by omega, c.2⟩
      split
      · show (0 : Int) ≤ (h.n : Nat) ∧ ((h.n : Nat) : Int) < _; omega
      · show (0 : Int) ≤ 0 ∧ (0 : Int) < _; omega
    simp at e; exact k 4 _ rfl hw.1 hw.2 e
  split at e
  · cases e
  · simp at e; exact k 10 _ rfl (by omega) (by omega) e
set_option maxHeartbeats 4000000 in
set_option maxRecDepth 100000 in
theorem body_arr {C : CX} {w : World} {q m : Nat} (h : RSt C w q m) (pl : Nat) (lo : Int) (n : Nat) (cut : Bool) (d : Nat) (hd24 : d ≤ 24) {k : Nat} (ih : ArrAt C k) (hm : m ≤ 1024) (hq : q ≤ C.zs.length) (hk : 2 * (C.zs.length - q) + 2 ≤ k) : Calls Tryz.prog 86 #[.pointer (some ⟨C.g, 0, none⟩), .agg #[.int .i64 (pl : Nat), .int .u8 4, .int .u8 lo, .int .u64 (n : Nat), .bool cut], .int .i64 (d : Nat)] w fun x w' => ItmIs C w w' (27 - d) x (rcF k C.zs 1 (d + 1) q m (limA ⟨pl, 4, lo, n, cut⟩) [] []) := by
  have kA : Hid (∀ wx, RSt C wx q m → Calls Tryz.prog 127 #[.pointer (some ⟨C.g, 0, none⟩), .agg #[.int .i64 (pl : Nat), .int .u8 4, .int .u8 lo, .int .u64 (n : Nat), .bool cut], .int .i64 (d : Nat)] wx fun x w' => ItmIs C wx w' (27 - d) x (rcF k C.zs 1 (d + 1) q m (limA ⟨pl, 4, lo, n, cut⟩) [] [])) := fun wx hx => ih wx ⟨pl, 4, lo, n, cut⟩ d q m hx hm hd24 hq hk
  obtain ⟨K1', B1', Z1', S1'⟩ := box2 h ⟨pl, 4, lo, n, cut⟩
  have K1 : Hid (RK C w ((w.alloc (.cells #[.int .i64 (pl : Nat), .int .u8 4, .int .u8 lo, .int .u64 (n : Nat), .bool cut] 94)).alloc (.cells #[.int .i64 0, .int .u64 0, .bool false, .string ⟨#[]⟩, .int .i64 0, .string ⟨#[]⟩, .slice none 0 0, .slice none 0 0, .slice none 0 0] 26)) q m) := K1'
  have Z1 : Hid (NBox ((w.alloc (.cells #[.int .i64 (pl : Nat), .int .u8 4, .int .u8 lo, .int .u64 (n : Nat), .bool cut] 94)).alloc (.cells #[.int .i64 0, .int .u64 0, .bool false, .string ⟨#[]⟩, .int .i64 0, .string ⟨#[]⟩, .slice none 0 0, .slice none 0 0, .slice none 0 0] 26)) (w.heap.size + 1) zN) := Z1'
  have S1 : Hid (((w.alloc (.cells #[.int .i64 (pl : Nat), .int .u8 4, .int .u8 lo, .int .u64 (n : Nat), .bool cut] 94)).alloc (.cells #[.int .i64 0, .int .u64 0, .bool false, .string ⟨#[]⟩, .int .i64 0, .string ⟨#[]⟩, .slice none 0 0, .slice none 0 0, .slice none 0 0] 26)).heap.size = w.heap.size + 2) := S1'
  obtain ⟨⟨y0, y1, y2, y3, y4, y5, y6, y7, y8⟩, t0, t1, t2, t3, t4, t5, t6, t7, t8⟩ := zbox Z1'
  have c0 : ((w.alloc (.cells #[.int .i64 (pl : Nat), .int .u8 4, .int .u8 lo, .int .u64 (n : Nat), .bool cut] 94)).alloc (.cells #[.int .i64 0, .int .u64 0, .bool false, .string ⟨#[]⟩, .int .i64 0, .string ⟨#[]⟩, .slice none 0 0, .slice none 0 0, .slice none 0 0] 26)).cell? ⟨w.heap.size, 0, none⟩ = some (.int .i64 (pl : Nat)) := B1'.cell 0
  have c1 : ((w.alloc (.cells #[.int .i64 (pl : Nat), .int .u8 4, .int .u8 lo, .int .u64 (n : Nat), .bool cut] 94)).alloc (.cells #[.int .i64 0, .int .u64 0, .bool false, .string ⟨#[]⟩, .int .i64 0, .string ⟨#[]⟩, .slice none 0 0, .slice none 0 0, .slice none 0 0] 26)).cell? ⟨w.heap.size, 1, none⟩ = some (.int .u8 4) := B1'.cell 1
  have c2 : ((w.alloc (.cells #[.int .i64 (pl : Nat), .int .u8 4, .int .u8 lo, .int .u64 (n : Nat), .bool cut] 94)).alloc (.cells #[.int .i64 0, .int .u64 0, .bool false, .string ⟨#[]⟩, .int .i64 0, .string ⟨#[]⟩, .slice none 0 0, .slice none 0 0, .slice none 0 0] 26)).cell? ⟨w.heap.size, 2, none⟩ = some (.int .u8 lo) := B1'.cell 2
  have c3 : ((w.alloc (.cells #[.int .i64 (pl : Nat), .int .u8 4, .int .u8 lo, .int .u64 (n : Nat), .bool cut] 94)).alloc (.cells #[.int .i64 0, .int .u64 0, .bool false, .string ⟨#[]⟩, .int .i64 0, .string ⟨#[]⟩, .slice none 0 0, .slice none 0 0, .slice none 0 0] 26)).cell? ⟨w.heap.size, 3, none⟩ = some (.int .u64 (n : Nat)) := B1'.cell 3
  have c4 : ((w.alloc (.cells #[.int .i64 (pl : Nat), .int .u8 4, .int .u8 lo, .int .u64 (n : Nat), .bool cut] 94)).alloc (.cells #[.int .i64 0, .int .u64 0, .bool false, .string ⟨#[]⟩, .int .i64 0, .string ⟨#[]⟩, .slice none 0 0, .slice none 0 0, .slice none 0 0] 26)).cell? ⟨w.heap.size, 4, none⟩ = some (.bool cut) := B1'.cell 4
  unfold Hd.arr zN Nb.arr at y0 y1 y2 y3 y4 y5 y6 y7 y8 t0 t1 t2 t3 t4 t5 t6 t7 t8
  simp only at y0 y1 y2 y3 y4 y5 y6 y7 y8 t0 t1 t2 t3 t4 t5 t6 t7 t8
  clear K1' B1' Z1' S1'
  generalize (rcF k C.zs 1 (d + 1) q m (limA ⟨pl, 4, lo, n, cut⟩) [] []) = R at *
  clear h
  cases R with
  | inl f =>
    unfold ItmIs at kA ⊢
    simp only at kA ⊢
    rw [pn_eq] at kA
    go_enter Tryz.func86, Tryz.ntmps86
    go_wp2_with (go_at_call 127; refine (kA.out _ K1.out.1).mono ?_; rintro e w3 ⟨rfl, hq3⟩)
    exact ⟨rfl, rfl, K1.out.2.1.next hq3⟩
  | inr tro =>
    obtain ⟨t, r, o⟩ := tro
    unfold ItmIs at kA
    simp only at kA
    go_enter Tryz.func86, Tryz.ntmps86
    go_wp2_with (go_at_call 127; refine (kA.out _ K1.out.1).mono ?_; rintro e w3 ⟨⟨nb, he3, hn3⟩, hk3⟩; rw [Nb.arr] at he3; subst he3; have F : Hid (GR 2 C w w3 r o (27 - d) nb t) := ⟨K1.out.next hk3, by rw [← S1.out]; exact hn3⟩; obtain ⟨⟨f0, f1, f2, f3, f4, f5, f6, f7, f8⟩, z0, z1, z2, z3, z4, z5, z6, z7, z8⟩ := zbox (K1.out.zbox Z1.out hk3); clear hn3 hk3)
    refine bodyPost_ret (v := .agg nb.arr) (by rw [Nb.arr]; simp [results, Tryz.results86, go_sem, *]) rfl ?_
    refine GR.out (b := 2) ?_
    repeat (first | with_reducible exact F.out | with_reducible refine GR.set ?_ (by omega) (by omega))
set_option maxHeartbeats 4000000 in
set_option maxRecDepth 100000 in
theorem body_map {C : CX} {w : World} {q m : Nat} (h : RSt C w q m) (pl : Nat) (lo : Int) (n : Nat) (cut : Bool) (d : Nat) (hd24 : d ≤ 24) {k : Nat} (ih : MapAt C k) (hm : m ≤ 1024) (hq : q ≤ C.zs.length) (hk : 2 * (C.zs.length - q) + 2 ≤ k) : Calls Tryz.prog 86 #[.pointer (some ⟨C.g, 0, none⟩), .agg #[.int .i64 (pl : Nat), .int .u8 5, .int .u8 lo, .int .u64 (n : Nat), .bool cut], .int .i64 (d : Nat)] w fun x w' => ItmIs C w w' (27 - d) x (rcF k C.zs 2 (d + 1) q m (limA ⟨pl, 5, lo, n, cut⟩) [] []) := by
  have kA : Hid (∀ wx, RSt C wx q m → Calls Tryz.prog 128 #[.pointer (some ⟨C.g, 0, none⟩), .agg #[.int .i64 (pl : Nat), .int .u8 5, .int .u8 lo, .int .u64 (n : Nat), .bool cut], .int .i64 (d : Nat)] wx fun x w' => ItmIs C wx w' (27 - d) x (rcF k C.zs 2 (d + 1) q m (limA ⟨pl, 5, lo, n, cut⟩) [] [])) := fun wx hx => ih wx ⟨pl, 5, lo, n, cut⟩ d q m hx hm hd24 hq hk
  obtain ⟨K1', B1', Z1', S1'⟩ := box2 h ⟨pl, 5, lo, n, cut⟩
  have K1 : Hid (RK C w ((w.alloc (.cells #[.int .i64 (pl : Nat), .int .u8 5, .int .u8 lo, .int .u64 (n : Nat), .bool cut] 94)).alloc (.cells #[.int .i64 0, .int .u64 0, .bool false, .string ⟨#[]⟩, .int .i64 0, .string ⟨#[]⟩, .slice none 0 0, .slice none 0 0, .slice none 0 0] 26)) q m) := K1'
  have Z1 : Hid (NBox ((w.alloc (.cells #[.int .i64 (pl : Nat), .int .u8 5, .int .u8 lo, .int .u64 (n : Nat), .bool cut] 94)).alloc (.cells #[.int .i64 0, .int .u64 0, .bool false, .string ⟨#[]⟩, .int .i64 0, .string ⟨#[]⟩, .slice none 0 0, .slice none 0 0, .slice none 0 0] 26)) (w.heap.size + 1) zN) := Z1'
  have S1 : Hid (((w.alloc (.cells #[.int .i64 (pl : Nat), .int .u8 5, .int .u8 lo, .int .u64 (n : Nat), .bool cut] 94)).alloc (.cells #[.int .i64 0, .int .u64 0, .bool false, .string ⟨#[]⟩, .int .i64 0, .string ⟨#[]⟩, .slice none 0 0, .slice none 0 0, .slice none 0 0] 26)).heap.size = w.heap.size + 2) := S1'
  obtain ⟨⟨y0, y1, y2, y3, y4, y5, y6, y7, y8⟩, t0, t1, t2, t3, t4, t5, t6, t7, t8⟩ := zbox Z1'
  have c0 : ((w.alloc (.cells #[.int .i64 (pl : Nat), .int .u8 5, .int .u8 lo, .int .u64 (n : Nat), .bool cut] 94)).alloc (.cells #[.int .i64 0, .int .u64 0, .bool false, .string ⟨#[]⟩, .int .i64 0, .string ⟨#[]⟩, .slice none 0 0, .slice none 0 0, .slice none 0 0] 26)).cell? ⟨w.heap.size, 0, none⟩ = some (.int .i64 (pl : Nat)) := B1'.cell 0
  have c1 : ((w.alloc (.cells #[.int .i64 (pl : Nat), .int .u8 5, .int .u8 lo, .int .u64 (n : Nat), .bool cut] 94)).alloc (.cells #[.int .i64 0, .int .u64 0, .bool false, .string ⟨#[]⟩, .int .i64 0, .string ⟨#[]⟩, .slice none 0 0, .slice none 0 0, .slice none 0 0] 26)).cell? ⟨w.heap.size, 1, none⟩ = some (.int .u8 5) := B1'.cell 1
  have c2 : ((w.alloc (.cells #[.int .i64 (pl : Nat), .int .u8 5, .int .u8 lo, .int .u64 (n : Nat), .bool cut] 94)).alloc (.cells #[.int .i64 0, .int .u64 0, .bool false, .string ⟨#[]⟩, .int .i64 0, .string ⟨#[]⟩, .slice none 0 0, .slice none 0 0, .slice none 0 0] 26)).cell? ⟨w.heap.size, 2, none⟩ = some (.int .u8 lo) := B1'.cell 2
  have c3 : ((w.alloc (.cells #[.int .i64 (pl : Nat), .int .u8 5, .int .u8 lo, .int .u64 (n : Nat), .bool cut] 94)).alloc (.cells #[.int .i64 0, .int .u64 0, .bool false, .string ⟨#[]⟩, .int .i64 0, .string ⟨#[]⟩, .slice none 0 0, .slice none 0 0, .slice none 0 0] 26)).cell? ⟨w.heap.size, 3, none⟩ = some (.int .u64 (n : Nat)) := B1'.cell 3
  have c4 : ((w.alloc (.cells #[.int .i64 (pl : Nat), .int .u8 5, .int .u8 lo, .int .u64 (n : Nat), .bool cut] 94)).alloc (.cells #[.int .i64 0, .int .u64 0, .bool false, .string ⟨#[]⟩, .int .i64 0, .string ⟨#[]⟩, .slice none 0 0, .slice none 0 0, .slice none 0 0] 26)).cell? ⟨w.heap.size, 4, none⟩ = some (.bool cut) := B1'.cell 4
  unfold Hd.arr zN Nb.arr at y0 y1 y2 y3 y4 y5 y6 y7 y8 t0 t1 t2 t3 t4 t5 t6 t7 t8
  simp only at y0 y1 y2 y3 y4 y5 y6 y7 y8 t0 t1 t2 t3 t4 t5 t6 t7 t8
  clear K1' B1' Z1' S1'
  generalize (rcF k C.zs 2 (d + 1) q m (limA ⟨pl, 5, lo, n, cut⟩) [] []) = R at *
  clear h
  cases R with
  | inl f =>
    unfold ItmIs at kA ⊢
    simp only at kA ⊢
    rw [pn_eq] at kA
    go_enter Tryz.func86, Tryz.ntmps86
    go_wp2_with (go_at_call 128; refine (kA.out _ K1.out.1).mono ?_; rintro e w3 ⟨rfl, hq3⟩)
    exact ⟨rfl, rfl, K1.out.2.1.next hq3⟩
  | inr tro =>
    obtain ⟨t, r, o⟩ := tro
    unfold ItmIs at kA
    simp only at kA
    go_enter Tryz.func86, Tryz.ntmps86
    go_wp2_with (go_at_call 128; refine (kA.out _ K1.out.1).mono ?_; rintro e w3 ⟨⟨nb, he3, hn3⟩, hk3⟩; rw [Nb.arr] at he3; subst he3; have F : Hid (GR 2 C w w3 r o (27 - d) nb t) := ⟨K1.out.next hk3, by rw [← S1.out]; exact hn3⟩; obtain ⟨⟨f0, f1, f2, f3, f4, f5, f6, f7, f8⟩, z0, z1, z2, z3, z4, z5, z6, z7, z8⟩ := zbox (K1.out.zbox Z1.out hk3); clear hn3 hk3)
    refine bodyPost_ret (v := .agg nb.arr) (by rw [Nb.arr]; simp [results, Tryz.results86, go_sem, *]) rfl ?_
    refine GR.out (b := 2) ?_
    repeat (first | with_reducible exact F.out | with_reducible refine GR.set ?_ (by omega) (by omega))
set_option maxHeartbeats 4000000 in
set_option maxRecDepth 100000 in
theorem body_tag {C : CX} {w : World} {q m : Nat} (h : RSt C w q m) (pl : Nat) (lo : Int) (n : Nat) (cut : Bool) (d : Nat) (hd24 : d ≤ 24) {k : Nat} (ih : TagAt C k) (hn : n < 18446744073709551616) (hm : m ≤ 1024) (hq : q ≤ C.zs.length) (hk : 2 * (C.zs.length - q) + 1 ≤ k) : Calls Tryz.prog 86 #[.pointer (some ⟨C.g, 0, none⟩), .agg #[.int .i64 (pl : Nat), .int .u8 6, .int .u8 lo, .int .u64 (n : Nat), .bool cut], .int .i64 (d : Nat)] w fun x w' => ItmIs C w w' (27 - d) x (tagR ⟨pl, 6, lo, n, cut⟩ (rcF k C.zs 0 (d + 1) q m none [] [])) := by
  have kA : Hid (∀ wx, RSt C wx q m → Calls Tryz.prog 129 #[.pointer (some ⟨C.g, 0, none⟩), .agg #[.int .i64 (pl : Nat), .int .u8 6, .int .u8 lo, .int .u64 (n : Nat), .bool cut], .int .i64 (d : Nat)] wx fun x w' => ItmIs C wx w' (27 - d) x (tagR ⟨pl, 6, lo, n, cut⟩ (rcF k C.zs 0 (d + 1) q m none [] []))) := fun wx hx => ih wx ⟨pl, 6, lo, n, cut⟩ d q m hx hn hm hd24 hq hk
  obtain ⟨K1', B1', Z1', S1'⟩ := box2 h ⟨pl, 6, lo, n, cut⟩
  have K1 : Hid (RK C w ((w.alloc (.cells #[.int .i64 (pl : Nat), .int .u8 6, .int .u8 lo, .int .u64 (n : Nat), .bool cut] 94)).alloc (.cells #[.int .i64 0, .int .u64 0, .bool false, .string ⟨#[]⟩, .int .i64 0, .string ⟨#[]⟩, .slice none 0 0, .slice none 0 0, .slice none 0 0] 26)) q m) := K1'
  have Z1 : Hid (NBox ((w.alloc (.cells #[.int .i64 (pl : Nat), .int .u8 6, .int .u8 lo, .int .u64 (n : Nat), .bool cut] 94)).alloc (.cells #[.int .i64 0, .int .u64 0, .bool false, .string ⟨#[]⟩, .int .i64 0, .string ⟨#[]⟩, .slice none 0 0, .slice none 0 0, .slice none 0 0] 26)) (w.heap.size + 1) zN) := Z1'
  have S1 : Hid (((w.alloc (.cells #[.int .i64 (pl : Nat), .int .u8 6, .int .u8 lo, .int .u64 (n : Nat), .bool cut] 94)).alloc (.cells #[.int .i64 0, .int .u64 0, .bool false, .string ⟨#[]⟩, .int .i64 0, .string ⟨#[]⟩, .slice none 0 0, .slice none 0 0, .slice none 0 0] 26)).heap.size = w.heap.size + 2) := S1'
  obtain ⟨⟨y0, y1, y2, y3, y4, y5, y6, y7, y8⟩, t0, t1, t2, t3, t4, t5, t6, t7, t8⟩ := zbox Z1'
  have c0 : ((w.alloc (.cells #[.int .i64 (pl : Nat), .int .u8 6, .int .u8 lo, .int .u64 (n : Nat), .bool cut] 94)).alloc (.cells #[.int .i64 0, .int .u64 0, .bool false, .string ⟨#[]⟩, .int .i64 0, .string ⟨#[]⟩, .slice none 0 0, .slice none 0 0, .slice none 0 0] 26)).cell? ⟨w.heap.size, 0, none⟩ = some (.int .i64 (pl : Nat)) := B1'.cell 0
  have c1 : ((w.alloc (.cells #[.int .i64 (pl : Nat), .int .u8 6, .int .u8 lo, .int .u64 (n : Nat), .bool cut] 94)).alloc (.cells #[.int .i64 0, .int .u64 0, .bool false, .string ⟨#[]⟩, .int .i64 0, .string ⟨#[]⟩, .slice none 0 0, .slice none 0 0, .slice none 0 0] 26)).cell? ⟨w.heap.size, 1, none⟩ = some (.int .u8 6) := B1'.cell 1
  have c2 : ((w.alloc (.cells #[.int .i64 (pl : Nat), .int .u8 6, .int .u8 lo, .int .u64 (n : Nat), .bool cut] 94)).alloc (.cells #[.int .i64 0, .int .u64 0, .bool false, .string ⟨#[]⟩, .int .i64 0, .string ⟨#[]⟩, .slice none 0 0, .slice none 0 0, .slice none 0 0] 26)).cell? ⟨w.heap.size, 2, none⟩ = some (.int .u8 lo) := B1'.cell 2
  have c3 : ((w.alloc (.cells #[.int .i64 (pl : Nat), .int .u8 6, .int .u8 lo, .int .u64 (n : Nat), .bool cut] 94)).alloc (.cells #[.int .i64 0, .int .u64 0, .bool false, .string ⟨#[]⟩, .int .i64 0, .string ⟨#[]⟩, .slice none 0 0, .slice none 0 0, .slice none 0 0] 26)).cell? ⟨w.heap.size, 3, none⟩ = some (.int .u64 (n : Nat)) := B1'.cell 3
  have c4 : ((w.alloc (.cells #[.int .i64 (pl : Nat), .int .u8 6, .int .u8 lo, .int .u64 (n : Nat), .bool cut] 94)).alloc (.cells #[.int .i64 0, .int .u64 0, .bool false, .string ⟨#[]⟩, .int .i64 0, .string ⟨#[]⟩, .slice none 0 0, .slice none 0 0, .slice none 0 0] 26)).cell? ⟨w.heap.size, 4, none⟩ = some (.bool cut) := B1'.cell 4
  unfold Hd.arr zN Nb.arr at y0 y1 y2 y3 y4 y5 y6 y7 y8 t0 t1 t2 t3 t4 t5 t6 t7 t8
  simp only at y0 y1 y2 y3 y4 y5 y6 y7 y8 t0 t1 t2 t3 t4 t5 t6 t7 t8
  clear K1' B1' Z1' S1'
  generalize (tagR ⟨pl, 6, lo, n, cut⟩ (rcF k C.zs 0 (d + 1) q m none [] [])) = R at *
  clear h
  cases R with
  | inl f =>
    unfold ItmIs at kA ⊢
    simp only at kA ⊢
    rw [pn_eq] at kA
    go_enter Tryz.func86, Tryz.ntmps86
    go_wp2_with (go_at_call 129; refine (kA.out _ K1.out.1).mono ?_; rintro e w3 ⟨rfl, hq3⟩)
    exact ⟨rfl, rfl, K1.out.2.1.next hq3⟩
  | inr tro =>
    obtain ⟨t, r, o⟩ := tro
    unfold ItmIs at kA
    simp only at kA
    go_enter Tryz.func86, Tryz.ntmps86
    go_wp2_with (go_at_call 129; refine (kA.out _ K1.out.1).mono ?_; rintro e w3 ⟨⟨nb, he3, hn3⟩, hk3⟩; rw [Nb.arr] at he3; subst he3; have F : Hid (GR 2 C w w3 r o (27 - d) nb t) := ⟨K1.out.next hk3, by rw [← S1.out]; exact hn3⟩; obtain ⟨⟨f0, f1, f2, f3, f4, f5, f6, f7, f8⟩, z0, z1, z2, z3, z4, z5, z6, z7, z8⟩ := zbox (K1.out.zbox Z1.out hk3); clear hn3 hk3)
    refine bodyPost_ret (v := .agg nb.arr) (by rw [Nb.arr]; simp [results, Tryz.results86, go_sem, *]) rfl ?_
    refine GR.out (b := 2) ?_
    repeat (first | with_reducible exact F.out | with_reducible refine GR.set ?_ (by omega) (by omega))
set_option maxHeartbeats 4000000 in
set_option maxRecDepth 100000 in
theorem body_oth {C : CX} {w : World} {q m : Nat} (h : RSt C w q m) (pl : Nat) (lo : Int) (n : Nat) (cut : Bool) (d : Nat) (hd24 : d ≤ 24) (hn : n < 18446744073709551616) (hpl : pl ≤ 4096) : Calls Tryz.prog 86 #[.pointer (some ⟨C.g, 0, none⟩), .agg #[.int .i64 (pl : Nat), .int .u8 7, .int .u8 lo, .int .u64 (n : Nat), .bool cut], .int .i64 (d : Nat)] w fun x w' => ItmIs C w w' (27 - d) x (match othA ⟨pl, 7, lo, n, cut⟩ with | .inl e => .inl e | .inr t => .inr (t, q, m)) := by
  have kA : Hid (∀ wx, Calls Tryz.prog 130 #[.pointer (some ⟨C.g, 0, none⟩), .agg #[.int .i64 (pl : Nat), .int .u8 7, .int .u8 lo, .int .u64 (n : Nat), .bool cut]] wx fun x w' => OthIs wx w' x (othA ⟨pl, 7, lo, n, cut⟩)) := fun wx => cother_any C ⟨pl, 7, lo, n, cut⟩ hpl hn wx
  obtain ⟨K1', B1', Z1', S1'⟩ := box2 h ⟨pl, 7, lo, n, cut⟩
  have K1 : Hid (RK C w ((w.alloc (.cells #[.int .i64 (pl : Nat), .int .u8 7, .int .u8 lo, .int .u64 (n : Nat), .bool cut] 94)).alloc (.cells #[.int .i64 0, .int .u64 0, .bool false, .string ⟨#[]⟩, .int .i64 0, .string ⟨#[]⟩, .slice none 0 0, .slice none 0 0, .slice none 0 0] 26)) q m) := K1'
  have Z1 : Hid (NBox ((w.alloc (.cells #[.int .i64 (pl : Nat), .int .u8 7, .int .u8 lo, .int .u64 (n : Nat), .bool cut] 94)).alloc (.cells #[.int .i64 0, .int .u64 0, .bool false, .string ⟨#[]⟩, .int .i64 0, .string ⟨#[]⟩, .slice none 0 0, .slice none 0 0, .slice none 0 0] 26)) (w.heap.size + 1) zN) := Z1'
  have S1 : Hid (((w.alloc (.cells #[.int .i64 (pl : Nat), .int .u8 7, .int .u8 lo, .int .u64 (n : Nat), .bool cut] 94)).alloc (.cells #[.int .i64 0, .int .u64 0, .bool false, .string ⟨#[]⟩, .int .i64 0, .string ⟨#[]⟩, .slice none 0 0, .slice none 0 0, .slice none 0 0] 26)).heap.size = w.heap.size + 2) := S1'
  obtain ⟨⟨y0, y1, y2, y3, y4, y5, y6, y7, y8⟩, t0, t1, t2, t3, t4, t5, t6, t7, t8⟩ := zbox Z1'
  have c0 : ((w.alloc (.cells #[.int .i64 (pl : Nat), .int .u8 7, .int .u8 lo, .int .u64 (n : Nat), .bool cut] 94)).alloc (.cells #[.int .i64 0, .int .u64 0, .bool false, .string ⟨#[]⟩, .int .i64 0, .string ⟨#[]⟩, .slice none 0 0, .slice none 0 0, .slice none 0 0] 26)).cell? ⟨w.heap.size, 0, none⟩ = some (.int .i64 (pl : Nat)) := B1'.cell 0
  have c1 : ((w.alloc (.cells #[.int .i64 (pl : Nat), .int .u8 7, .int .u8 lo, .int .u64 (n : Nat), .bool cut] 94)).alloc (.cells #[.int .i64 0, .int .u64 0, .bool false, .string ⟨#[]⟩, .int .i64 0, .string ⟨#[]⟩, .slice none 0 0, .slice none 0 0, .slice none 0 0] 26)).cell? ⟨w.heap.size, 1, none⟩ = some (.int .u8 7) := B1'.cell 1
  have c2 : ((w.alloc (.cells #[.int .i64 (pl : Nat), .int .u8 7, .int .u8 lo, .int .u64 (n : Nat), .bool cut] 94)).alloc (.cells #[.int .i64 0, .int .u64 0, .bool false, .string ⟨#[]⟩, .int .i64 0, .string ⟨#[]⟩, .slice none 0 0, .slice none 0 0, .slice none 0 0] 26)).cell? ⟨w.heap.size, 2, none⟩ = some (.int .u8 lo) := B1'.cell 2
  have c3 : ((w.alloc (.cells #[.int .i64 (pl : Nat), .int .u8 7, .int .u8 lo, .int .u64 (n : Nat), .bool cut] 94)).alloc (.cells #[.int .i64 0, .int .u64 0, .bool false, .string ⟨#[]⟩, .int .i64 0, .string ⟨#[]⟩, .slice none 0 0, .slice none 0 0, .slice none 0 0] 26)).cell? ⟨w.heap.size, 3, none⟩ = some (.int .u64 (n : Nat)) := B1'.cell 3
  have c4 : ((w.alloc (.cells #[.int .i64 (pl : Nat), .int .u8 7, .int .u8 lo, .int .u64 (n : Nat), .bool cut] 94)).alloc (.cells #[.int .i64 0, .int .u64 0, .bool false, .string ⟨#[]⟩, .int .i64 0, .string ⟨#[]⟩, .slice none 0 0, .slice none 0 0, .slice none 0 0] 26)).cell? ⟨w.heap.size, 4, none⟩ = some (.bool cut) := B1'.cell 4
  unfold Hd.arr zN Nb.arr at y0 y1 y2 y3 y4 y5 y6 y7 y8 t0 t1 t2 t3 t4 t5 t6 t7 t8
  simp only at y0 y1 y2 y3 y4 y5 y6 y7 y8 t0 t1 t2 t3 t4 t5 t6 t7 t8
  clear K1' B1' Z1' S1'
  have hL := @oth_leaf ⟨pl, 7, lo, n, cut⟩
  obtain ⟨D, hD⟩ : ∃ D, d + D = 26 := ⟨26 - d, by omega⟩
  rw [show 27 - d = D + 1 by omega]
  generalize othA ⟨pl, 7, lo, n, cut⟩ = R at *
  unfold OthIs at kA
  cases R with
  | inl f =>
    unfold ItmIs
    simp only at kA ⊢
    rw [pn_eq] at kA
    clear h hL
    go_enter Tryz.func86, Tryz.ntmps86
    go_wp2_with (go_at_call 130; refine (kA.out _).mono ?_; rintro e w3 ⟨rfl, hb3⟩)
    exact ⟨rfl, rfl, (K1.out.below hb3).2.1⟩
  | inr t =>
    obtain ⟨l1, l2, l3, l4, l5, l6, l7⟩ := hL hn rfl
    have F0 : Hid (∀ X, RK C w X q m → GR 2 C w X q m (D + 1) (nbL t) t) := fun X hX => ⟨hX, ndw_leaf _ _ X l1 l2 l3 l4 l5 l6 l7⟩
    simp only at kA ⊢
    unfold nbL Nb.arr at kA
    clear h hL l1 l2 l3 l4 l5 l6 l7
    go_enter Tryz.func86, Tryz.ntmps86
    go_wp2_with (go_at_call 130; refine (kA.out _).mono ?_; rintro e w3 ⟨rfl, hb3⟩; have K3 : Hid (RK C w w3 q m) := K1.out.below hb3; obtain ⟨⟨f0, f1, f2, f3, f4, f5, f6, f7, f8⟩, z0, z1, z2, z3, z4, z5, z6, z7, z8⟩ := zbox (Z1.out.kept hb3 Z1.out.lt); clear hb3)
    refine bodyPost_ret (v := .agg (nbL t).arr) (by unfold nbL Nb.arr; simp [results, Tryz.results86, go_sem, *]) rfl ?_
    refine GR.out (b := 2) (F0.out _ ?_)
    repeat (first | with_reducible exact K3.out | with_reducible refine RK.set ?_ (by omega))
set_option maxHeartbeats 4000000 in
set_option maxRecDepth 100000 in
theorem body_int {C : CX} {w : World} {q m : Nat} (h : RSt C w q m) (pl : Nat) (lo : Int) (n : Nat) (cut : Bool) (d : Nat) (hd24 : d ≤ 24) (hn : n < 18446744073709551616) : Calls Tryz.prog 86 #[.pointer (some ⟨C.g, 0, none⟩), .agg #[.int .i64 (pl : Nat), .int .u8 0, .int .u8 lo, .int .u64 (n : Nat), .bool cut], .int .i64 (d : Nat)] w fun x w' => ItmIs C w w' (27 - d) x (.inr (intT false (txt n), q, m)) := by
  have kA : Hid (∀ wx, RSt C wx q m → Calls Tryz.prog 124 #[.int .u64 (n : Nat)] wx fun e w' => e = .returned (.string (txt n)) ∧ Below wx.heap.size wx w') := fun wx hx => frw_any n hn wx hx.lw.1.here
  obtain ⟨K1', B1', Z1', S1'⟩ := box2 h ⟨pl, 0, lo, n, cut⟩
  have K1 : Hid (RK C w ((w.alloc (.cells #[.int .i64 (pl : Nat), .int .u8 0, .int .u8 lo, .int .u64 (n : Nat), .bool cut] 94)).alloc (.cells #[.int .i64 0, .int .u64 0, .bool false, .string ⟨#[]⟩, .int .i64 0, .string ⟨#[]⟩, .slice none 0 0, .slice none 0 0, .slice none 0 0] 26)) q m) := K1'
  have Z1 : Hid (NBox ((w.alloc (.cells #[.int .i64 (pl : Nat), .int .u8 0, .int .u8 lo, .int .u64 (n : Nat), .bool cut] 94)).alloc (.cells #[.int .i64 0, .int .u64 0, .bool false, .string ⟨#[]⟩, .int .i64 0, .string ⟨#[]⟩, .slice none 0 0, .slice none 0 0, .slice none 0 0] 26)) (w.heap.size + 1) zN) := Z1'
  have S1 : Hid (((w.alloc (.cells #[.int .i64 (pl : Nat), .int .u8 0, .int .u8 lo, .int .u64 (n : Nat), .bool cut] 94)).alloc (.cells #[.int .i64 0, .int .u64 0, .bool false, .string ⟨#[]⟩, .int .i64 0, .string ⟨#[]⟩, .slice none 0 0, .slice none 0 0, .slice none 0 0] 26)).heap.size = w.heap.size + 2) := S1'
  obtain ⟨⟨y0, y1, y2, y3, y4, y5, y6, y7, y8⟩, t0, t1, t2, t3, t4, t5, t6, t7, t8⟩ := zbox Z1'
  have c0 : ((w.alloc (.cells #[.int .i64 (pl : Nat), .int .u8 0, .int .u8 lo, .int .u64 (n : Nat), .bool cut] 94)).alloc (.cells #[.int .i64 0, .int .u64 0, .bool false, .string ⟨#[]⟩, .int .i64 0, .string ⟨#[]⟩, .slice none 0 0, .slice none 0 0, .slice none 0 0] 26)).cell? ⟨w.heap.size, 0, none⟩ = some (.int .i64 (pl : Nat)) := B1'.cell 0
  have c1 : ((w.alloc (.cells #[.int .i64 (pl : Nat), .int .u8 0, .int .u8 lo, .int .u64 (n : Nat), .bool cut] 94)).alloc (.cells #[.int .i64 0, .int .u64 0, .bool false, .string ⟨#[]⟩, .int .i64 0, .string ⟨#[]⟩, .slice none 0 0, .slice none 0 0, .slice none 0 0] 26)).cell? ⟨w.heap.size, 1, none⟩ = some (.int .u8 0) := B1'.cell 1
  have c2 : ((w.alloc (.cells #[.int .i64 (pl : Nat), .int .u8 0, .int .u8 lo, .int .u64 (n : Nat), .bool cut] 94)).alloc (.cells #[.int .i64 0, .int .u64 0, .bool false, .string ⟨#[]⟩, .int .i64 0, .string ⟨#[]⟩, .slice none 0 0, .slice none 0 0, .slice none 0 0] 26)).cell? ⟨w.heap.size, 2, none⟩ = some (.int .u8 lo) := B1'.cell 2
  have c3 : ((w.alloc (.cells #[.int .i64 (pl : Nat), .int .u8 0, .int .u8 lo, .int .u64 (n : Nat), .bool cut] 94)).alloc (.cells #[.int .i64 0, .int .u64 0, .bool false, .string ⟨#[]⟩, .int .i64 0, .string ⟨#[]⟩, .slice none 0 0, .slice none 0 0, .slice none 0 0] 26)).cell? ⟨w.heap.size, 3, none⟩ = some (.int .u64 (n : Nat)) := B1'.cell 3
  have c4 : ((w.alloc (.cells #[.int .i64 (pl : Nat), .int .u8 0, .int .u8 lo, .int .u64 (n : Nat), .bool cut] 94)).alloc (.cells #[.int .i64 0, .int .u64 0, .bool false, .string ⟨#[]⟩, .int .i64 0, .string ⟨#[]⟩, .slice none 0 0, .slice none 0 0, .slice none 0 0] 26)).cell? ⟨w.heap.size, 4, none⟩ = some (.bool cut) := B1'.cell 4
  unfold Hd.arr zN Nb.arr at y0 y1 y2 y3 y4 y5 y6 y7 y8 t0 t1 t2 t3 t4 t5 t6 t7 t8
  simp only at y0 y1 y2 y3 y4 y5 y6 y7 y8 t0 t1 t2 t3 t4 t5 t6 t7 t8
  clear K1' B1' Z1' S1'
  obtain ⟨D, hD⟩ : ∃ D, d + D = 26 := ⟨26 - d, by omega⟩
  rw [show 27 - d = D + 1 by omega]
  have hs := txt_room hn
  generalize txt n = T at *
  have F0 : Hid (∀ X, RK C w X q m → GR 2 C w X q m (D + 1) (nbL (intT false T)) (intT false T)) := fun X hX => ⟨hX, ndw_leaf _ _ X (t := intT false T) rfl ⟨rfl, rfl⟩ rfl rfl rfl hs (by show (0 : Nat) ≤ _; omega)⟩
  clear h hs
  go_enter Tryz.func86, Tryz.ntmps86
  go_wp2_with (go_at_call 124; refine (kA.out _ K1.out.1).mono ?_; rintro e w3 ⟨rfl, hb3⟩; have K3 : Hid (RK C w w3 q m) := K1.out.below hb3; obtain ⟨⟨f0, f1, f2, f3, f4, f5, f6, f7, f8⟩, z0, z1, z2, z3, z4, z5, z6, z7, z8⟩ := zbox (Z1.out.kept hb3 Z1.out.lt); clear hb3)
  refine bodyPost_ret (v := .agg (nbL (intT false T)).arr) (by unfold nbL Nb.arr intT; simp [results, Tryz.results86, go_sem, *]) rfl ?_
  refine GR.out (b := 2) (F0.out _ ?_)
  repeat (first | with_reducible exact K3.out | with_reducible refine RK.set ?_ (by omega))
set_option maxHeartbeats 4000000 in
set_option maxRecDepth 100000 in
theorem body_neg {C : CX} {w : World} {q m : Nat} (h : RSt C w q m) (pl : Nat) (lo : Int) (n : Nat) (cut : Bool) (d : Nat) (hd24 : d ≤ 24) (hn : n < 18446744073709551616) : Calls Tryz.prog 86 #[.pointer (some ⟨C.g, 0, none⟩), .agg #[.int .i64 (pl : Nat), .int .u8 1, .int .u8 lo, .int .u64 (n : Nat), .bool cut], .int .i64 (d : Nat)] w fun x w' => ItmIs C w w' (27 - d) x (.inr ((belA (txt n)).1, q, m)) := by
  have kA : Hid (∀ wx, RSt C wx q m → Calls Tryz.prog 124 #[.int .u64 (n : Nat)] wx fun e w' => e = .returned (.string (txt n)) ∧ Below wx.heap.size wx w') := fun wx hx => frw_any n hn wx hx.lw.1.here
  have kB : Hid (∀ wx, Calls Tryz.prog 125 #[.string (txt n)] wx fun e w' => e = .returned (.tuple #[.agg (nbL (intT true (addA (txt n) oneS).1)).arr, .int .i64 (belA (txt n)).2]) ∧ Below wx.heap.size wx w') := fun wx => cbelow_any (txt n) wx
  obtain ⟨K1', B1', Z1', S1'⟩ := box2 h ⟨pl, 1, lo, n, cut⟩
  have K1 : Hid (RK C w ((w.alloc (.cells #[.int .i64 (pl : Nat), .int .u8 1, .int .u8 lo, .int .u64 (n : Nat), .bool cut] 94)).alloc (.cells #[.int .i64 0, .int .u64 0, .bool false, .string ⟨#[]⟩, .int .i64 0, .string ⟨#[]⟩, .slice none 0 0, .slice none 0 0, .slice none 0 0] 26)) q m) := K1'
  have Z1 : Hid (NBox ((w.alloc (.cells #[.int .i64 (pl : Nat), .int .u8 1, .int .u8 lo, .int .u64 (n : Nat), .bool cut] 94)).alloc (.cells #[.int .i64 0, .int .u64 0, .bool false, .string ⟨#[]⟩, .int .i64 0, .string ⟨#[]⟩, .slice none 0 0, .slice none 0 0, .slice none 0 0] 26)) (w.heap.size + 1) zN) := Z1'
  have S1 : Hid (((w.alloc (.cells #[.int .i64 (pl : Nat), .int .u8 1, .int .u8 lo, .int .u64 (n : Nat), .bool cut] 94)).alloc (.cells #[.int .i64 0, .int .u64 0, .bool false, .string ⟨#[]⟩, .int .i64 0, .string ⟨#[]⟩, .slice none 0 0, .slice none 0 0, .slice none 0 0] 26)).heap.size = w.heap.size + 2) := S1'
  obtain ⟨⟨y0, y1, y2, y3, y4, y5, y6, y7, y8⟩, t0, t1, t2, t3, t4, t5, t6, t7, t8⟩ := zbox Z1'
  have c0 : ((w.alloc (.cells #[.int .i64 (pl : Nat), .int .u8 1, .int .u8 lo, .int .u64 (n : Nat), .bool cut] 94)).alloc (.cells #[.int .i64 0, .int .u64 0, .bool false, .string ⟨#[]⟩, .int .i64 0, .string ⟨#[]⟩, .slice none 0 0, .slice none 0 0, .slice none 0 0] 26)).cell? ⟨w.heap.size, 0, none⟩ = some (.int .i64 (pl : Nat)) := B1'.cell 0
  have c1 : ((w.alloc (.cells #[.int .i64 (pl : Nat), .int .u8 1, .int .u8 lo, .int .u64 (n : Nat), .bool cut] 94)).alloc (.cells #[.int .i64 0, .int .u64 0, .bool false, .string ⟨#[]⟩, .int .i64 0, .string ⟨#[]⟩, .slice none 0 0, .slice none 0 0, .slice none 0 0] 26)).cell? ⟨w.heap.size, 1, none⟩ = some (.int .u8 1) := B1'.cell 1
  have c2 : ((w.alloc (.cells #[.int .i64 (pl : Nat), .int .u8 1, .int .u8 lo, .int .u64 (n : Nat), .bool cut] 94)).alloc (.cells #[.int .i64 0, .int .u64 0, .bool false, .string ⟨#[]⟩, .int .i64 0, .string ⟨#[]⟩, .slice none 0 0, .slice none 0 0, .slice none 0 0] 26)).cell? ⟨w.heap.size, 2, none⟩ = some (.int .u8 lo) := B1'.cell 2
  have c3 : ((w.alloc (.cells #[.int .i64 (pl : Nat), .int .u8 1, .int .u8 lo, .int .u64 (n : Nat), .bool cut] 94)).alloc (.cells #[.int .i64 0, .int .u64 0, .bool false, .string ⟨#[]⟩, .int .i64 0, .string ⟨#[]⟩, .slice none 0 0, .slice none 0 0, .slice none 0 0] 26)).cell? ⟨w.heap.size, 3, none⟩ = some (.int .u64 (n : Nat)) := B1'.cell 3
  have c4 : ((w.alloc (.cells #[.int .i64 (pl : Nat), .int .u8 1, .int .u8 lo, .int .u64 (n : Nat), .bool cut] 94)).alloc (.cells #[.int .i64 0, .int .u64 0, .bool false, .string ⟨#[]⟩, .int .i64 0, .string ⟨#[]⟩, .slice none 0 0, .slice none 0 0, .slice none 0 0] 26)).cell? ⟨w.heap.size, 4, none⟩ = some (.bool cut) := B1'.cell 4
  unfold Hd.arr zN Nb.arr at y0 y1 y2 y3 y4 y5 y6 y7 y8 t0 t1 t2 t3 t4 t5 t6 t7 t8
  simp only at y0 y1 y2 y3 y4 y5 y6 y7 y8 t0 t1 t2 t3 t4 t5 t6 t7 t8
  clear K1' B1' Z1' S1'
  obtain ⟨D, hD⟩ : ∃ D, d + D = 26 := ⟨26 - d, by omega⟩
  rw [show 27 - d = D + 1 by omega, show (belA (txt n)).1 = intT true (addA (txt n) oneS).1 from rfl]
  have hs : (addA (txt n) oneS).1.size ≤ 140737488351232 := Nat.le_trans (bel_size (bel_word hn)) (by omega)
  generalize (addA (txt n) oneS).1 = T at *
  generalize (belA (txt n)).2 = yy at *
  generalize txt n = T0 at *
  have F0 : Hid (∀ X, RK C w X q m → GR 2 C w X q m (D + 1) (nbL (intT true T)) (intT true T)) := fun X hX => ⟨hX, ndw_leaf _ _ X (t := intT true T) rfl ⟨rfl, rfl⟩ rfl rfl rfl hs (by show (0 : Nat) ≤ _; omega)⟩
  unfold nbL Nb.arr intT at kB
  simp only at kB
  clear h hs
  go_enter Tryz.func86, Tryz.ntmps86
  go_wp2_with (first
    | (go_at_call 124; refine (kA.out _ K1.out.1).mono ?_; rintro e w3 ⟨rfl, hb3⟩; have K3 : Hid (RK C w w3 q m) := K1.out.below hb3; have Z3 : Hid (NBox w3 (w.heap.size + 1) zN) := Z1.out.kept hb3 Z1.out.lt; clear hb3)
    | (go_at_call 125; refine (kB.out _).mono ?_; rintro e w4 ⟨rfl, hb4⟩; have K4 : Hid (RK C w w4 q m) := K3.out.below hb4; have Z4' := Z3.out.kept hb4 Z3.out.lt; have l4 : w.heap.size + 1 < w4.heap.size := Z4'.lt; obtain ⟨⟨f0, f1, f2, f3, f4, f5, f6, f7, f8⟩, z0, z1, z2, z3, z4, z5, z6, z7, z8⟩ := zbox (Z4'); clear hb4 Z4'))
  refine bodyPost_ret (v := .agg (nbL (intT true T)).arr) (by unfold nbL Nb.arr intT; simp [results, Tryz.results86, go_sem, *]) rfl ?_
  refine GR.out (b := 2) (F0.out _ ?_)
  repeat (first | with_reducible exact K4.out | with_reducible refine RK.set ?_ (by omega) | with_reducible refine RK.alloc ?_ _)
set_option maxHeartbeats 4000000 in
set_option maxRecDepth 100000 in
theorem body_byt {C : CX} {w : World} {q m : Nat} (h : RSt C w q m) (pl : Nat) (lo : Int) (n : Nat) (cut : Bool) (d : Nat) (hd24 : d ≤ 24) (hn : n ≤ 4096) (hq : q ≤ C.zs.length) (h0 : 0 < C.zs.length) : Calls Tryz.prog 86 #[.pointer (some ⟨C.g, 0, none⟩), .agg #[.int .i64 (pl : Nat), .int .u8 2, .int .u8 lo, .int .u64 (n : Nat), .bool cut], .int .i64 (d : Nat)] w fun x w' => ItmIs C w w' (27 - d) x (match allA C.zs ⟨pl, 2, lo, n, cut⟩ q with | .inl e => .inl e | .inr (l, r) => .inr (bytT l, r, m)) := by
  have kA : Hid (∀ wx, RSt C wx q m → Calls Tryz.prog 126 #[.pointer (some ⟨C.g, 0, none⟩), .agg #[.int .i64 (pl : Nat), .int .u8 2, .int .u8 lo, .int .u64 (n : Nat), .bool cut]] wx fun x w' => AllIs C wx w' m x (allA C.zs ⟨pl, 2, lo, n, cut⟩ q)) := fun wx hx => call_any hx ⟨pl, 2, lo, n, cut⟩ hn hq h0
  obtain ⟨K1', B1', Z1', S1'⟩ := box2 h ⟨pl, 2, lo, n, cut⟩
  have K1 : Hid (RK C w ((w.alloc (.cells #[.int .i64 (pl : Nat), .int .u8 2, .int .u8 lo, .int .u64 (n : Nat), .bool cut] 94)).alloc (.cells #[.int .i64 0, .int .u64 0, .bool false, .string ⟨#[]⟩, .int .i64 0, .string ⟨#[]⟩, .slice none 0 0, .slice none 0 0, .slice none 0 0] 26)) q m) := K1'
  have Z1 : Hid (NBox ((w.alloc (.cells #[.int .i64 (pl : Nat), .int .u8 2, .int .u8 lo, .int .u64 (n : Nat), .bool cut] 94)).alloc (.cells #[.int .i64 0, .int .u64 0, .bool false, .string ⟨#[]⟩, .int .i64 0, .string ⟨#[]⟩, .slice none 0 0, .slice none 0 0, .slice none 0 0] 26)) (w.heap.size + 1) zN) := Z1'
  have S1 : Hid (((w.alloc (.cells #[.int .i64 (pl : Nat), .int .u8 2, .int .u8 lo, .int .u64 (n : Nat), .bool cut] 94)).alloc (.cells #[.int .i64 0, .int .u64 0, .bool false, .string ⟨#[]⟩, .int .i64 0, .string ⟨#[]⟩, .slice none 0 0, .slice none 0 0, .slice none 0 0] 26)).heap.size = w.heap.size + 2) := S1'
  obtain ⟨⟨y0, y1, y2, y3, y4, y5, y6, y7, y8⟩, t0, t1, t2, t3, t4, t5, t6, t7, t8⟩ := zbox Z1'
  have c0 : ((w.alloc (.cells #[.int .i64 (pl : Nat), .int .u8 2, .int .u8 lo, .int .u64 (n : Nat), .bool cut] 94)).alloc (.cells #[.int .i64 0, .int .u64 0, .bool false, .string ⟨#[]⟩, .int .i64 0, .string ⟨#[]⟩, .slice none 0 0, .slice none 0 0, .slice none 0 0] 26)).cell? ⟨w.heap.size, 0, none⟩ = some (.int .i64 (pl : Nat)) := B1'.cell 0
  have c1 : ((w.alloc (.cells #[.int .i64 (pl : Nat), .int .u8 2, .int .u8 lo, .int .u64 (n : Nat), .bool cut] 94)).alloc (.cells #[.int .i64 0, .int .u64 0, .bool false, .string ⟨#[]⟩, .int .i64 0, .string ⟨#[]⟩, .slice none 0 0, .slice none 0 0, .slice none 0 0] 26)).cell? ⟨w.heap.size, 1, none⟩ = some (.int .u8 2) := B1'.cell 1
  have c2 : ((w.alloc (.cells #[.int .i64 (pl : Nat), .int .u8 2, .int .u8 lo, .int .u64 (n : Nat), .bool cut] 94)).alloc (.cells #[.int .i64 0, .int .u64 0, .bool false, .string ⟨#[]⟩, .int .i64 0, .string ⟨#[]⟩, .slice none 0 0, .slice none 0 0, .slice none 0 0] 26)).cell? ⟨w.heap.size, 2, none⟩ = some (.int .u8 lo) := B1'.cell 2
  have c3 : ((w.alloc (.cells #[.int .i64 (pl : Nat), .int .u8 2, .int .u8 lo, .int .u64 (n : Nat), .bool cut] 94)).alloc (.cells #[.int .i64 0, .int .u64 0, .bool false, .string ⟨#[]⟩, .int .i64 0, .string ⟨#[]⟩, .slice none 0 0, .slice none 0 0, .slice none 0 0] 26)).cell? ⟨w.heap.size, 3, none⟩ = some (.int .u64 (n : Nat)) := B1'.cell 3
  have c4 : ((w.alloc (.cells #[.int .i64 (pl : Nat), .int .u8 2, .int .u8 lo, .int .u64 (n : Nat), .bool cut] 94)).alloc (.cells #[.int .i64 0, .int .u64 0, .bool false, .string ⟨#[]⟩, .int .i64 0, .string ⟨#[]⟩, .slice none 0 0, .slice none 0 0, .slice none 0 0] 26)).cell? ⟨w.heap.size, 4, none⟩ = some (.bool cut) := B1'.cell 4
  unfold Hd.arr zN Nb.arr at y0 y1 y2 y3 y4 y5 y6 y7 y8 t0 t1 t2 t3 t4 t5 t6 t7 t8
  simp only at y0 y1 y2 y3 y4 y5 y6 y7 y8 t0 t1 t2 t3 t4 t5 t6 t7 t8
  clear K1' B1' Z1' S1'
  have hL := @all_ok C.zs ⟨pl, 2, lo, n, cut⟩ q
  obtain ⟨D, hD⟩ : ∃ D, d + D = 26 := ⟨26 - d, by omega⟩
  rw [show 27 - d = D + 1 by omega]
  generalize allA C.zs ⟨pl, 2, lo, n, cut⟩ q = R at *
  unfold AllIs at kA
  cases R with
  | inl f =>
    unfold ItmIs
    simp only at kA ⊢
    rw [pn_eq] at kA
    clear h hL
    go_enter Tryz.func86, Tryz.ntmps86
    go_wp2_with (go_at_call 126; refine (kA.out _ K1.out.1).mono ?_; rintro e w3 ⟨rfl, hq3⟩)
    exact ⟨rfl, rfl, K1.out.2.1.next hq3⟩
  | inr lr =>
    obtain ⟨l, r⟩ := lr
    have hl : Hid (l.length ≤ 4096) := (hL rfl).2.2.1 hn
    simp only at kA ⊢
    clear h hL
    go_enter Tryz.func86, Tryz.ntmps86
    go_wp2_with (go_at_call 126; refine (kA.out _ K1.out.1).mono ?_; rintro e w3 ⟨⟨v3, rfl, ho3⟩, hk3⟩; obtain ⟨a3, c3', hv3, hs1, hs2, hs3, hs4⟩ := ho3.shape; subst hv3; have F : Hid (GR 2 C w w3 r m (D + 1) ⟨6, 0, false, ⟨#[]⟩, 0, ⟨#[]⟩, a3, l.length, c3', none, 0, 0, none, 0, 0⟩ (bytT l)) := ⟨K1.out.next hk3, by rw [← S1.out]; exact byt_nd ho3 hl.out⟩; obtain ⟨⟨f0, f1, f2, f3, f4, f5, f6, f7, f8⟩, z0, z1, z2, z3, z4, z5, z6, z7, z8⟩ := zbox (K1.out.zbox Z1.out hk3); clear ho3 hk3 hs1 hs2 hs3 hs4)
    refine bodyPost_ret (v := .agg (Nb.arr ⟨6, 0, false, ⟨#[]⟩, 0, ⟨#[]⟩, a3, l.length, c3', none, 0, 0, none, 0, 0⟩)) (by unfold Nb.arr; simp [results, Tryz.results86, go_sem, *]) rfl ?_
    refine GR.out (b := 2) ?_
    repeat (first | with_reducible exact F.out | with_reducible refine GR.set ?_ (by omega) (by omega))
set_option maxHeartbeats 4000000 in
set_option maxRecDepth 100000 in
theorem body_txt {C : CX} {w : World} {q m : Nat} (h : RSt C w q m) (pl : Nat) (lo : Int) (n : Nat) (cut : Bool) (d : Nat) (hd24 : d ≤ 24) (hn : n ≤ 4096) (hq : q ≤ C.zs.length) (h0 : 0 < C.zs.length) : Calls Tryz.prog 86 #[.pointer (some ⟨C.g, 0, none⟩), .agg #[.int .i64 (pl : Nat), .int .u8 3, .int .u8 lo, .int .u64 (n : Nat), .bool cut], .int .i64 (d : Nat)] w fun x w' => ItmIs C w w' (27 - d) x (match allA C.zs ⟨pl, 3, lo, n, cut⟩ q with | .inl e => .inl e | .inr (l, r) => .inr (txtT (strOfNums l), r, m)) := by
  have kA : Hid (∀ wx, RSt C wx q m → Calls Tryz.prog 126 #[.pointer (some ⟨C.g, 0, none⟩), .agg #[.int .i64 (pl : Nat), .int .u8 3, .int .u8 lo, .int .u64 (n : Nat), .bool cut]] wx fun x w' => AllIs C wx w' m x (allA C.zs ⟨pl, 3, lo, n, cut⟩ q)) := fun wx hx => call_any hx ⟨pl, 3, lo, n, cut⟩ hn hq h0
  obtain ⟨K1', B1', Z1', S1'⟩ := box2 h ⟨pl, 3, lo, n, cut⟩
  have K1 : Hid (RK C w ((w.alloc (.cells #[.int .i64 (pl : Nat), .int .u8 3, .int .u8 lo, .int .u64 (n : Nat), .bool cut] 94)).alloc (.cells #[.int .i64 0, .int .u64 0, .bool false, .string ⟨#[]⟩, .int .i64 0, .string ⟨#[]⟩, .slice none 0 0, .slice none 0 0, .slice none 0 0] 26)) q m) := K1'
  have Z1 : Hid (NBox ((w.alloc (.cells #[.int .i64 (pl : Nat), .int .u8 3, .int .u8 lo, .int .u64 (n : Nat), .bool cut] 94)).alloc (.cells #[.int .i64 0, .int .u64 0, .bool false, .string ⟨#[]⟩, .int .i64 0, .string ⟨#[]⟩, .slice none 0 0, .slice none 0 0, .slice none 0 0] 26)) (w.heap.size + 1) zN) := Z1'
  have S1 : Hid (((w.alloc (.cells #[.int .i64 (pl : Nat), .int .u8 3, .int .u8 lo, .int .u64 (n : Nat), .bool cut] 94)).alloc (.cells #[.int .i64 0, .int .u64 0, .bool false, .string ⟨#[]⟩, .int .i64 0, .string ⟨#[]⟩, .slice none 0 0, .slice none 0 0, .slice none 0 0] 26)).heap.size = w.heap.size + 2) := S1'
  obtain ⟨⟨y0, y1, y2, y3, y4, y5, y6, y7, y8⟩, t0, t1, t2, t3, t4, t5, t6, t7, t8⟩ := zbox Z1'
  have c0 : ((w.alloc (.cells #[.int .i64 (pl : Nat), .int .u8 3, .int .u8 lo, .int .u64 (n : Nat), .bool cut] 94)).alloc (.cells #[.int .i64 0, .int .u64 0, .bool false, .string ⟨#[]⟩, .int .i64 0, .string ⟨#[]⟩, .slice none 0 0, .slice none 0 0, .slice none 0 0] 26)).cell? ⟨w.heap.size, 0, none⟩ = some (.int .i64 (pl : Nat)) := B1'.cell 0
  have c1 : ((w.alloc (.cells #[.int .i64 (pl : Nat), .int .u8 3, .int .u8 lo, .int .u64 (n : Nat), .bool cut] 94)).alloc (.cells #[.int .i64 0, .int .u64 0, .bool false, .string ⟨#[]⟩, .int .i64 0, .string ⟨#[]⟩, .slice none 0 0, .slice none 0 0, .slice none 0 0] 26)).cell? ⟨w.heap.size, 1, none⟩ = some (.int .u8 3) := B1'.cell 1
  have c2 : ((w.alloc (.cells #[.int .i64 (pl : Nat), .int .u8 3, .int .u8 lo, .int .u64 (n : Nat), .bool cut] 94)).alloc (.cells #[.int .i64 0, .int .u64 0, .bool false, .string ⟨#[]⟩, .int .i64 0, .string ⟨#[]⟩, .slice none 0 0, .slice none 0 0, .slice none 0 0] 26)).cell? ⟨w.heap.size, 2, none⟩ = some (.int .u8 lo) := B1'.cell 2
  have c3 : ((w.alloc (.cells #[.int .i64 (pl : Nat), .int .u8 3, .int .u8 lo, .int .u64 (n : Nat), .bool cut] 94)).alloc (.cells #[.int .i64 0, .int .u64 0, .bool false, .string ⟨#[]⟩, .int .i64 0, .string ⟨#[]⟩, .slice none 0 0, .slice none 0 0, .slice none 0 0] 26)).cell? ⟨w.heap.size, 3, none⟩ = some (.int .u64 (n : Nat)) := B1'.cell 3
  have c4 : ((w.alloc (.cells #[.int .i64 (pl : Nat), .int .u8 3, .int .u8 lo, .int .u64 (n : Nat), .bool cut] 94)).alloc (.cells #[.int .i64 0, .int .u64 0, .bool false, .string ⟨#[]⟩, .int .i64 0, .string ⟨#[]⟩, .slice none 0 0, .slice none 0 0, .slice none 0 0] 26)).cell? ⟨w.heap.size, 4, none⟩ = some (.bool cut) := B1'.cell 4
  unfold Hd.arr zN Nb.arr at y0 y1 y2 y3 y4 y5 y6 y7 y8 t0 t1 t2 t3 t4 t5 t6 t7 t8
  simp only at y0 y1 y2 y3 y4 y5 y6 y7 y8 t0 t1 t2 t3 t4 t5 t6 t7 t8
  clear K1' B1' Z1' S1'
  have hL := @all_ok C.zs ⟨pl, 3, lo, n, cut⟩ q
  obtain ⟨D, hD⟩ : ∃ D, d + D = 26 := ⟨26 - d, by omega⟩
  rw [show 27 - d = D + 1 by omega]
  generalize allA C.zs ⟨pl, 3, lo, n, cut⟩ q = R at *
  unfold AllIs at kA
  cases R with
  | inl f =>
    unfold ItmIs
    simp only at kA ⊢
    rw [pn_eq] at kA
    clear h hL
    go_enter Tryz.func86, Tryz.ntmps86
    go_wp2_with (go_at_call 126; refine (kA.out _ K1.out.1).mono ?_; rintro e w3 ⟨rfl, hq3⟩)
    exact ⟨rfl, rfl, K1.out.2.1.next hq3⟩
  | inr lr =>
    obtain ⟨l, r⟩ := lr
    have hl : Hid (l.length ≤ 4096) := (hL rfl).2.2.1 hn
    simp only at kA ⊢
    clear h hL
    have F0 : Hid (∀ X, RK C w X r m → GR 2 C w X r m (D + 1) (nbL (txtT (strOfNums l))) (txtT (strOfNums l))) := fun X hX => ⟨hX, ndw_leaf _ _ X (t := txtT (strOfNums l)) rfl ⟨rfl, rfl⟩ rfl rfl rfl (by show (0 : Nat) ≤ _; omega) (by show (strOfNums l).size ≤ _; rw [str_len]; have := hl.out; omega)⟩
    go_enter Tryz.func86, Tryz.ntmps86
    go_wp2_with (go_at_call 126; refine (kA.out _ K1.out.1).mono ?_; rintro e w3 ⟨⟨v3, rfl, ho3⟩, hk3⟩; obtain ⟨a3, c3', hv3, hs1, hs2, hs3, hs4⟩ := ho3.shape; subst hv3; have cv := conv_str hs3 l.length c3' rfl; have K3 : Hid (RK C w w3 r m) := K1.out.next hk3; obtain ⟨⟨f0, f1, f2, f3, f4, f5, f6, f7, f8⟩, z0, z1, z2, z3, z4, z5, z6, z7, z8⟩ := zbox (K1.out.zbox Z1.out hk3); clear ho3 hk3 hs1 hs2 hs3 hs4)
    refine bodyPost_ret (v := .agg (nbL (txtT (strOfNums l))).arr) (by unfold nbL Nb.arr txtT; simp [results, Tryz.results86, go_sem, *]) rfl ?_
    refine GR.out (b := 2) (F0.out _ ?_)
    repeat (first | with_reducible exact K3.out | with_reducible refine RK.set ?_ (by omega))
theorem body_step {C : CX} {k : Nat} (iA : ArrAt C k) (iM : MapAt C k) (iT : TagAt C k) (d : Nat) : BodyAt C k d := by
  intro w hd p q m h hh hcut hmay hrun hm hd24 hk
  have hz : ∀ c ∈ C.zs, 0 ≤ c ∧ c < 256 := h.2.1.1.1
  obtain ⟨hp, a1, a2, a3, _⟩ := hd_inv hh
  have a3' := a3 hcut
  obtain ⟨w1, w2, w3, w4, w5⟩ := hd_word hz hh
  have h4 := h.2.2.2.1
  obtain ⟨pl, mj, lo, n, cut⟩ := hd
  simp only at *
  unfold bodA
  simp only
  have hmj : mj = 0 ∨ mj = 1 ∨ mj = 2 ∨ mj = 3 ∨ mj = 4 ∨ mj = 5 ∨ mj = 6 ∨ mj = 7 := by omega
  rcases hmj with rfl | rfl | rfl | rfl | rfl | rfl | rfl | rfl
  · exact body_int h pl lo n cut d hd24 w1
  · exact body_neg h pl lo n cut d hd24 w1
  · exact body_byt h pl lo n cut d hd24 (hrun rfl) a3' (by omega)
  · exact body_txt h pl lo n cut d hd24 (hrun rfl) a3' (by omega)
  · exact body_arr h pl lo n cut d hd24 iA hm a3' (by omega)
  · exact body_map h pl lo n cut d hd24 iM hm a3' (by omega)
  · exact body_tag h pl lo n cut d hd24 iT w1 hm a3' (by omega)
  · exact body_oth h pl lo n cut d hd24 w1 (by omega)
/-- EVERY ITEM. -/
theorem itm_all (C : CX) : ∀ k, ItmAt C k := by
  intro k
  induction k using Nat.strongRecOn with
  | _ k ih =>
    match k, ih with
    | 0, _ => intro w d p m h hm hd hp hk; omega
    | k + 1, ih => exact item_step fun d => body_step (array_step fun j hj => ih j (by omega)) (map_step fun j hj => ih j (by omega)) (tag_step (ih k (by omega))) d
end Go.Proofs.YtnjbppfanmmifaaGreatDoor
namespace Go.Proofs.YtnjbppfanmmifaaGreatDoor
open Go.RowKit
set_option linter.unusedVariables false
set_option maxHeartbeats 2000000 in
theorem catch_wrong (g : Nat) (x y a b : Int) (older : List PanicEntry) (w : World) (h0 : w.cell? ⟨g, 0, none⟩ = some (.int .i64 x)) (h1 : w.cell? ⟨g, 1, none⟩ = some (.int .i64 y)) (z0 : w.frozen? ⟨g, 0, none⟩ = false) (z1 : w.frozen? ⟨g, 1, none⟩ = false) :
    CallsD Tryz.prog 47 #[.pointer (some ⟨g, 0, none⟩)] (.panicking ({ v := .iface 61 (.agg #[.int .i64 a, .int .i64 b]), recovered := false } :: older)) w fun e u' w' =>
      e = .returned (.tuple #[]) ∧ u' = .panicking ({ v := .iface 61 (.agg #[.int .i64 a, .int .i64 b]), recovered := true } :: older) ∧ w' = (w.setCell ⟨g, 0, none⟩ (.int .i64 a)).setCell ⟨g, 1, none⟩ (.int .i64 b) := by
  have ta : ∀ w : World, (Instr.typeAssert (.iface 61 (.agg #[.int .i64 a, .int .i64 b])) 20 61 false).run Tryz.prog w = .ok (.agg #[.int .i64 a, .int .i64 b]) w := fun _ => by kernel_rfl
  refine callsD_of_wpS Tryz.func47 rfl fun c₀ cs hu => ?_
  apply wpS_seq
  apply wpS_region
  simp [wpOpsS, go_sem, recoverD, hu, Tryz.ntmps47, Exit.thenS]
  apply wpS_seq
  apply wpS_region
  simp [wpOpsS, go_sem, Exit.thenS, Array.replicate]
  refine wpS_cond (t := true) (by simp [Act.eval]) ?_
  simp only [if_true]
  apply wpS_region
  simp [wpOpsS, go_sem, ta, h0, h1, z0, z1, bodyPostS, results, Tryz.results47]
theorem catch_idle (g : Nat) (w : World) :
    CallsD Tryz.prog 47 #[.pointer (some ⟨g, 0, none⟩)] .returning w fun e u' w' => e = .returned (.tuple #[]) ∧ u' = .returning ∧ w' = w := by
  refine callsD_of_wpS Tryz.func47 rfl fun c₀ cs hu => ?_
  apply wpS_seq
  apply wpS_region
  simp [wpOpsS, go_sem, recoverD, hu, Tryz.ntmps47, Exit.thenS]
  apply wpS_seq
  apply wpS_region
  simp [wpOpsS, go_sem, Exit.thenS, Array.replicate]
  refine wpS_cond (t := false) (by simp [Act.eval]) ?_
  simp only [Bool.false_eq_true, if_false]
  refine wpS_of_wp (wp_skip ?_)
  cases c₀
  simp_all [bodyPostS, results, Tryz.results47]
theorem nd_set {B E D k j : Nat} {X : World} {nb : Nb} {t : Tr} {v : Value} (h : NdW (Rg B E) D X nb t) (hk : k < B) : NdW (Rg B E) D (X.setCell ⟨k, j, none⟩ v) nb t := h.stays fun i hi => setk (by have := hi.1; omega) v
/-- What is answered of a reading. -/
def ReadIs (C : CX) (w w' : World) (x : Ending) (R : Sum (Int × Nat) (Tr × Nat × Nat)) : Prop := match R with
  | .inl f => x = .returned (.tuple #[.agg zN.arr, .agg #[.int .i64 f.1, .int .i64 (f.2 : Nat)]]) ∧ Kq C.g w.heap.size w w'
  | .inr (t, r, n) => (∃ nb : Nb, x = .returned (.tuple #[.agg nb.arr, .agg #[.int .i64 0, .int .i64 0]]) ∧ NdW (Rg w.heap.size w'.heap.size) 26 w' nb t) ∧ RK C w w' r n
/-- Two boxes: a node, a fault. -/
theorem box_nf {C : CX} {w : World} {q m : Nat} (h : RSt C w q m) : RK C w ((w.alloc (.cells zN.arr 26)).alloc (.cells #[.int .i64 0, .int .i64 0] 29)) q m ∧ NBox ((w.alloc (.cells zN.arr 26)).alloc (.cells #[.int .i64 0, .int .i64 0] 29)) w.heap.size zN ∧ Blk ((w.alloc (.cells zN.arr 26)).alloc (.cells #[.int .i64 0, .int .i64 0] 29)) (w.heap.size + 1) #[.int .i64 0, .int .i64 0] 29 ∧ ((w.alloc (.cells zN.arr 26)).alloc (.cells #[.int .i64 0, .int .i64 0] 29)).heap.size = w.heap.size + 2 := by
  have s1 : (w.alloc (.cells zN.arr 26)).heap.size = w.heap.size + 1 := by simp
  have A1 := alloc_below (w.alloc (.cells zN.arr 26)) (.cells #[.int .i64 0, .int .i64 0] 29)
  refine ⟨(h.rk.alloc _).alloc _, (nbox_new w zN).kept A1 (by omega), ?_, by simp⟩
  have := blk_new (w.alloc (.cells zN.arr 26)) #[.int .i64 0, .int .i64 0] 29
  rw [s1] at this
  exact this
set_option maxHeartbeats 4000000 in
set_option maxRecDepth 100000 in
theorem read_any {C : CX} {w : World} {p : Nat} (h : RSt C w p 0) (hp : p ≤ C.zs.length) : Calls Tryz.prog 34 #[.pointer (some ⟨C.g, 0, none⟩)] w fun x w' => ReadIs C w w' x (rcF 10000 C.zs 0 1 p 0 none [] []) := by
  have hmf : ∀ (fn : Fn) (first cap : Array Value) (w : World), (Instr.makeFunc fn first cap).run Tryz.prog w = .ok (.func fn first cap) w := fun _ _ _ _ => rfl
  have h4 := h.2.2.2.1
  have kI : Hid (∀ wx, RSt C wx p 0 → Calls Tryz.prog 48 #[.pointer (some ⟨C.g, 0, none⟩), .int .i64 1] wx fun x w' => ItmIs C wx w' 26 x (rcF 10000 C.zs 0 1 p 0 none [] [])) := fun wx hx => itm_all C 10000 wx 1 p 0 hx (by omega) (by omega) hp (by omega)
  obtain ⟨K1', Z1', B1', S1'⟩ := box_nf h
  have K1 : Hid (RK C w ((w.alloc (.cells zN.arr 26)).alloc (.cells #[.int .i64 0, .int .i64 0] 29)) p 0) := K1'
  have Z1 : Hid (NBox ((w.alloc (.cells zN.arr 26)).alloc (.cells #[.int .i64 0, .int .i64 0] 29)) w.heap.size zN) := Z1'
  have B1 : Hid (Blk ((w.alloc (.cells zN.arr 26)).alloc (.cells #[.int .i64 0, .int .i64 0] 29)) (w.heap.size + 1) #[.int .i64 0, .int .i64 0] 29) := B1'
  have S1 : Hid (((w.alloc (.cells zN.arr 26)).alloc (.cells #[.int .i64 0, .int .i64 0] 29)).heap.size = w.heap.size + 2) := S1'
  have hgl : Hid (C.g < w.heap.size) := h.lt
  generalize rcF 10000 C.zs 0 1 p 0 none [] [] = R at *
  unfold zN Nb.arr at K1 Z1 B1 S1
  simp only at K1 Z1 B1 S1
  clear K1' Z1' B1' S1' h hp h4
  cases R with
  | inl f =>
    unfold ItmIs at kI
    simp only at kI
    rw [pn_eq] at kI
    unfold ReadIs
    simp only
    go_enter_defers Tryz.func34, Tryz.ntmps34
    go_wp2_with (go_at_call 48; refine (kI.out _ K1.out.1).mono ?_; rintro e w3 ⟨rfl, hq3⟩)
    have Z3 := Z1.out.same (hq3.block _ Z1.out.lt (by have := hgl.out; omega))
    have B3 : Blk w3 (w.heap.size + 1) #[.int .i64 0, .int .i64 0] 29 := Blk.kq B1.out hq3 B1.out.lt (by have := hgl.out; omega)
    obtain ⟨⟨f0, f1, f2, f3, f4, f5, f6, f7, f8⟩, _⟩ := zbox Z3
    have F : Hid (Kq C.g w.heap.size w ((w3.setCell ⟨w.heap.size + 1, 0, none⟩ (.int .i64 f.1)).setCell ⟨w.heap.size + 1, 1, none⟩ (.int .i64 (f.2 : Nat)))) := kz_set (kz_set (K1.out.2.1.next hq3) (by omega)) (by omega)
    refine leaves_cons (f := 47) (args := #[.pointer (some ⟨w.heap.size + 1, 0, none⟩)]) (by simp) (by simp [go_sem]) ?_
    refine (catch_wrong (w.heap.size + 1) 0 0 f.1 (f.2 : Nat) [] w3 (B3.cell 0) (B3.cell 1) (B3.fz 0) (B3.fz 1)).mono ?_
    rintro e u' w'' ⟨rfl, rfl, rfl⟩
    have k0 := B3.cell 0
    have k1 := B3.cell 1
    simp at k0 k1
    simp [Leaves, settle, results, Tryz.results34, go_sem, f0, f1, f2, f3, f4, f5, f6, f7, f8, k0, k1]
    exact ⟨rfl, F.out⟩
  | inr tro =>
    obtain ⟨t, r, n⟩ := tro
    unfold ItmIs at kI
    simp only at kI
    unfold ReadIs
    simp only
    go_enter_defers Tryz.func34, Tryz.ntmps34
    go_wp2_with (go_at_call 48; refine (kI.out _ K1.out.1).mono ?_; rintro e w3 ⟨⟨nb, he3, hn3⟩, hk3⟩; rw [Nb.arr] at he3; subst he3; have F : Hid (GR 2 C w w3 r n 26 nb t) := ⟨K1.out.next hk3, by rw [← S1.out]; exact hn3⟩; have Z3 := Z1.out.same (hk3.2.1.block _ Z1.out.lt (by have := hgl.out; omega)); have B3 : Hid (Blk w3 (w.heap.size + 1) #[.int .i64 0, .int .i64 0] 29) := Blk.kq B1.out hk3.2.1 B1.out.lt (by have := hgl.out; omega); obtain ⟨⟨f0, f1, f2, f3, f4, f5, f6, f7, f8⟩, z0, z1, z2, z3, z4, z5, z6, z7, z8⟩ := zbox Z3; have g0 : w3.cell? ⟨w.heap.size + 1, 0, none⟩ = some (.int .i64 0) := B3.out.cell 0; have g1 : w3.cell? ⟨w.heap.size + 1, 1, none⟩ = some (.int .i64 0) := B3.out.cell 1; have y0 := B3.out.fz 0; have y1 := B3.out.fz 1; clear hn3 hk3 Z3)
    refine leaves_cons (f := 47) (args := #[.pointer (some ⟨w.heap.size + 1, 0, none⟩)]) (by simp) (by simp [go_sem]) ?_
    refine (catch_idle (w.heap.size + 1) _).mono ?_
    rintro e u' w'' ⟨rfl, rfl, rfl⟩
    simp [Leaves, settle, results, Tryz.results34, go_sem, f0, f1, f2, f3, f4, f5, f6, f7, f8, g0, g1]
    have F2 : Hid (NdW (Rg (w.heap.size + 2) w3.heap.size) 26 w3 nb t) := F.out.2
    have F1 : Hid (RK C w w3 r n) := F.out.1
    refine ⟨⟨nb, rfl, NdW.mono (S := Rg (w.heap.size + 2) w3.heap.size) (fun k hk => ⟨by have := hk.1; omega, hk.2⟩) ?_⟩, ?_⟩
    · repeat (first | with_reducible exact F2.out | with_reducible refine nd_set ?_ (by omega))
    · repeat (first | with_reducible exact F1.out | with_reducible refine RK.set ?_ (by omega))
end Go.Proofs.YtnjbppfanmmifaaGreatDoor
