/-
  A text read: jread.Parse.
  Tokens read by descent, as plain data: what comes of a value, of an Array's and of a Map's rest; the reader with a stack reads the same.
  Tokens read by descent: more tokens behind, tokens at other places, how many nodes there are, no bounds, other bounds.
  When two trees are the same: tree.same.
  Whether a node's number is right, whether its Kind may have such numbers and counts: tree.isInt, isDec, mayBe.
  What is wrong with a node itself: tree.fault (plain part).
-/
import Derived.Test.YtmlacmoembjeoaaGreatDoorG22
import Derived.Test.YtmlacmoembjeoaaGreatDoorG21
import Derived.Test.YtmlacmoembjeoaaGreatDoorG3
import Derived.Test.YtmlacmoembjeoaaGreatDoorG15
import Derived.Test.YtmlacmoembjeoaaGreatDoorG9
namespace Go.Proofs.YtmlacmoembjeoaaGreatDoor
open Go.RowKit
set_option linter.unusedVariables false
/-- What Parse answers. -/
def parA (zs : List Int) : Tr × Int × Nat := if (readA (newS false) zs).2.1 ≠ 0 then (zT, (readA (newS false) zs).2) else ((readA (newS false) zs).1.root, 0, 0)
theorem jmx_root {B : Nat} {lab : Nat → Nat} {w : World} {g : Nat} {s : JS} (h : JMX B lab w g s) : ∃ D r free nx ao no co nodes ended, RBox w g free nx ao no co nodes r ended ∧ NdS (fun k => B ≤ k ∧ k < w.heap.size) D w r s.root := by
  obtain ⟨D, nbs, ao, co, r, h⟩ := h
  exact ⟨D, r, _, _, _, _, _, _, _, h.box, h.rt.mono fun k hk => hk.2⟩
/-- The places of two answers. -/
def Res (w : World) (g : Nat) (b : Nb) (x y : Int) : Prop := NBox w g b ∧ Blk w (g + 1) #[.int .i64 x, .int .i64 y] 29
theorem Res.call {w w' : World} {g : Nat} {b : Nb} {x y : Int} (h : Res w g b x y) (hk : w'.heap[g]? = w.heap[g]?) (hk2 : w'.heap[g + 1]? = w.heap[g + 1]?) : Res w' g b x y := ⟨h.1.same hk, hk2.trans h.2⟩
theorem res_put {W : World} {g : Nat} {b : Nb} {x y : Int} (h : Res W g b x y) (r : Nb) (u v : Int) :
    Res (((((((((((W.setCell ⟨g, 0, none⟩ (.int .i64 r.kind)).setCell ⟨g, 1, none⟩ (.int .u64 r.num)).setCell ⟨g, 2, none⟩ (.bool r.neg)).setCell ⟨g, 3, none⟩ (.string r.dig)).setCell ⟨g, 4, none⟩ (.int .i64 r.exp)).setCell ⟨g, 5, none⟩ (.string r.txt)).setCell ⟨g, 6, none⟩ (.slice r.ab r.lb r.cb)).setCell ⟨g, 7, none⟩ (.slice r.ak r.lk r.ck)).setCell ⟨g, 8, none⟩ (.slice r.ai r.li r.ci)).setCell ⟨g + 1, 0, none⟩ (.int .i64 u)).setCell ⟨g + 1, 1, none⟩ (.int .i64 v)) g r u v ∧
    (∀ k, k ≠ g → k ≠ g + 1 → (((((((((((W.setCell ⟨g, 0, none⟩ (.int .i64 r.kind)).setCell ⟨g, 1, none⟩ (.int .u64 r.num)).setCell ⟨g, 2, none⟩ (.bool r.neg)).setCell ⟨g, 3, none⟩ (.string r.dig)).setCell ⟨g, 4, none⟩ (.int .i64 r.exp)).setCell ⟨g, 5, none⟩ (.string r.txt)).setCell ⟨g, 6, none⟩ (.slice r.ab r.lb r.cb)).setCell ⟨g, 7, none⟩ (.slice r.ak r.lk r.ck)).setCell ⟨g, 8, none⟩ (.slice r.ai r.li r.ci)).setCell ⟨g + 1, 0, none⟩ (.int .i64 u)).setCell ⟨g + 1, 1, none⟩ (.int .i64 v)).heap[k]? = W.heap[k]?) ∧ Below g W (((((((((((W.setCell ⟨g, 0, none⟩ (.int .i64 r.kind)).setCell ⟨g, 1, none⟩ (.int .u64 r.num)).setCell ⟨g, 2, none⟩ (.bool r.neg)).setCell ⟨g, 3, none⟩ (.string r.dig)).setCell ⟨g, 4, none⟩ (.int .i64 r.exp)).setCell ⟨g, 5, none⟩ (.string r.txt)).setCell ⟨g, 6, none⟩ (.slice r.ab r.lb r.cb)).setCell ⟨g, 7, none⟩ (.slice r.ak r.lk r.ck)).setCell ⟨g, 8, none⟩ (.slice r.ai r.li r.ci)).setCell ⟨g + 1, 0, none⟩ (.int .i64 u)).setCell ⟨g + 1, 1, none⟩ (.int .i64 v)) := by
  obtain ⟨h1, h2⟩ := h
  obtain ⟨p1, p2⟩ := nbox_put h1 r
  have hg : g + 1 ≠ g := by omega
  have q1 : Blk (((((((((W.setCell ⟨g, 0, none⟩ (.int .i64 r.kind)).setCell ⟨g, 1, none⟩ (.int .u64 r.num)).setCell ⟨g, 2, none⟩ (.bool r.neg)).setCell ⟨g, 3, none⟩ (.string r.dig)).setCell ⟨g, 4, none⟩ (.int .i64 r.exp)).setCell ⟨g, 5, none⟩ (.string r.txt)).setCell ⟨g, 6, none⟩ (.slice r.ab r.lb r.cb)).setCell ⟨g, 7, none⟩ (.slice r.ak r.lk r.ck)).setCell ⟨g, 8, none⟩ (.slice r.ai r.li r.ci)) (g + 1) #[.int .i64 x, .int .i64 y] 29 := by
    unfold Blk
    rw [setk hg, setk hg, setk hg, setk hg, setk hg, setk hg, setk hg, setk hg, setk hg]
    exact h2
  refine ⟨⟨p1.same (by rw [setk (by omega), setk (by omega)]), (q1.set 0 (.int .i64 u)).set 1 (.int .i64 v)⟩, fun k hk hk2 => ?_, ?_⟩
  · rw [setk hk2, setk hk2, setk hk, setk hk, setk hk, setk hk, setk hk, setk hk, setk hk, setk hk, setk hk]
  · exact (((((((((((Below.refl g W).setCell (p := ⟨g, 0, none⟩) (Nat.le_refl _) _).setCell (p := ⟨g, 1, none⟩) (Nat.le_refl _) _).setCell (p := ⟨g, 2, none⟩) (Nat.le_refl _) _).setCell (p := ⟨g, 3, none⟩) (Nat.le_refl _) _).setCell (p := ⟨g, 4, none⟩) (Nat.le_refl _) _).setCell (p := ⟨g, 5, none⟩) (Nat.le_refl _) _).setCell (p := ⟨g, 6, none⟩) (Nat.le_refl _) _).setCell (p := ⟨g, 7, none⟩) (Nat.le_refl _) _).setCell (p := ⟨g, 8, none⟩) (Nat.le_refl _) _).setCell (p := ⟨g + 1, 0, none⟩) (Nat.le_succ _) _).setCell (p := ⟨g + 1, 1, none⟩) (Nat.le_succ _) _
set_option maxHeartbeats 4000000 in
set_option maxRecDepth 100000 in
/-- jread.Parse. -/
theorem rparse_any (a : Option Addr) (n cap : Nat) (zs : List Int) (w : World) (hl : zs.length = n) (hb : Bytes w a zs) (hc : n ≤ cap) (hsm : n ≤ 140737488351232) :
    Calls Tryz.prog 9 #[.slice a n cap] w fun e w' => ∃ D b, e = .returned (.tuple #[.agg b.arr, .agg #[.int .i64 (parA zs).2.1, .int .i64 ((parA zs).2.2 : Nat)]]) ∧ Nd D w' b (parA zs).1 ∧ Below w.heap.size w w' := by
  have hA1 := alloc_below w (.cells #[.int .i64 0, .int .u64 0, .bool false, .string ⟨#[]⟩, .int .i64 0, .string ⟨#[]⟩, .slice none 0 0, .slice none 0 0, .slice none 0 0] 26)
  have hA2 := alloc_below (w.alloc (.cells #[.int .i64 0, .int .u64 0, .bool false, .string ⟨#[]⟩, .int .i64 0, .string ⟨#[]⟩, .slice none 0 0, .slice none 0 0, .slice none 0 0] 26)) (.cells #[.int .i64 0, .int .i64 0] 29)
  have s1 : (w.alloc (.cells #[.int .i64 0, .int .u64 0, .bool false, .string ⟨#[]⟩, .int .i64 0, .string ⟨#[]⟩, .slice none 0 0, .slice none 0 0, .slice none 0 0] 26)).heap.size = w.heap.size + 1 := by simp
  have s2 : ((w.alloc (.cells #[.int .i64 0, .int .u64 0, .bool false, .string ⟨#[]⟩, .int .i64 0, .string ⟨#[]⟩, .slice none 0 0, .slice none 0 0, .slice none 0 0] 26)).alloc (.cells #[.int .i64 0, .int .i64 0] 29)).heap.size = w.heap.size + 2 := by simp
  have R0 : Res ((w.alloc (.cells #[.int .i64 0, .int .u64 0, .bool false, .string ⟨#[]⟩, .int .i64 0, .string ⟨#[]⟩, .slice none 0 0, .slice none 0 0, .slice none 0 0] 26)).alloc (.cells #[.int .i64 0, .int .i64 0] 29)) w.heap.size zN 0 0 :=
    ⟨(nbox_new w zN).kept hA2 (by omega), by have := blk_new (w.alloc (.cells #[.int .i64 0, .int .u64 0, .bool false, .string ⟨#[]⟩, .int .i64 0, .string ⟨#[]⟩, .slice none 0 0, .slice none 0 0, .slice none 0 0] 26)) #[.int .i64 0, .int .i64 0] 29; rwa [s1] at this⟩
  have B0 : Below w.heap.size w ((w.alloc (.cells #[.int .i64 0, .int .u64 0, .bool false, .string ⟨#[]⟩, .int .i64 0, .string ⟨#[]⟩, .slice none 0 0, .slice none 0 0, .slice none 0 0] 26)).alloc (.cells #[.int .i64 0, .int .i64 0] 29)) := hA1.trans (hA2.mono (by omega))
  have k1 : Calls Tryz.prog 17 #[] ((w.alloc (.cells #[.int .i64 0, .int .u64 0, .bool false, .string ⟨#[]⟩, .int .i64 0, .string ⟨#[]⟩, .slice none 0 0, .slice none 0 0, .slice none 0 0] 26)).alloc (.cells #[.int .i64 0, .int .i64 0] 29)) fun e w1 => ∃ g, e = .returned (.pointer (some ⟨g, 0, none⟩)) ∧ Hid (g = w.heap.size + 2 ∧ RBox w1 g false 27 none 0 0 0 zN false ∧ Below w.heap.size w w1 ∧ w1.heap.size = w.heap.size + 3 ∧ Res w1 w.heap.size zN 0 0) :=
    (new_any _).mono fun e w1 ⟨q1, q2, q3, q4⟩ => ⟨_, q1, s2, q2, B0.trans (q3.mono (by omega)), by rw [q4, s2], R0.call (q3.block _ (by omega)) (q3.block _ (by omega))⟩
  have kR : Hid (∀ w1 g, g = w.heap.size + 2 ∧ RBox w1 g false 27 none 0 0 0 zN false ∧ Below w.heap.size w w1 ∧ w1.heap.size = w.heap.size + 3 ∧ Res w1 w.heap.size zN 0 0 → Calls Tryz.prog 18 #[.pointer (some ⟨g, 0, none⟩), .slice a n cap] w1 fun e w2 => e = .returned (.agg #[.int .i64 (readA (newS false) zs).2.1, .int .i64 ((readA (newS false) zs).2.2 : Nat)]) ∧ Hid (Below w.heap.size w w2 ∧ w.heap.size + 3 ≤ w2.heap.size ∧ Res w2 w.heap.size zN 0 0 ∧ ((readA (newS false) zs).2.1 = 0 → ∃ D r free nx ao no co nodes ended, RBox w2 g free nx ao no co nodes r ended ∧ NdS (fun k => w.heap.size + 2 ≤ k ∧ k < w2.heap.size) D w2 r (readA (newS false) zs).1.root))) := fun w1 g ⟨q1, q2, q3, q4, q5⟩ =>
    (read_new false (B := w.heap.size + 2) q2 (by omega) a n cap zs hl (hb.kept q3) hc hsm).mono fun e w2 ⟨p1, p2, p3, p4⟩ => ⟨p1, q3.trans (p4.mono (by omega)), by have := p4.size; omega, q5.call (p3 _ (by omega) (by omega)) (p3 _ (by omega) (by omega)), fun h0 => by obtain ⟨lab', hj⟩ := p2 h0; exact jmx_root hj⟩
  have hP : Hid (parA zs = if (readA (newS false) zs).2.1 ≠ 0 then (zT, (readA (newS false) zs).2) else ((readA (newS false) zs).1.root, 0, 0)) := rfl
  obtain ⟨PA, hPA⟩ : ∃ PA, parA zs = PA := ⟨_, rfl⟩
  rw [hPA] at hP ⊢
  obtain ⟨⟨s, X, Y⟩, hRA⟩ : ∃ R, readA (newS false) zs = R := ⟨_, rfl⟩
  rw [hRA] at kR hP
  simp only at kR hP
  clear hRA hPA hl hb hc hsm hA1 hA2 s1 s2 R0 B0
  by_cases hX : X = 0
  · subst hX
    have hP' : Hid (PA = (s.root, 0, 0)) := by show _ = _; rw [hP.out]; rfl
    clear hP
    go_enter Tryz.func9, Tryz.ntmps9
    go_wp2_with (first
      | (go_at_call 17; refine k1.mono ?_; rintro e w1 ⟨g, rfl, h1⟩; clear k1; have k2 := kR.out w1 g h1.out; have hg : Hid (g = w.heap.size + 2) := h1.out.1; clear h1)
      | (go_at_call 18; refine k2.mono ?_; rintro e w2 ⟨rfl, h2⟩; clear k2; obtain ⟨D, r, free, nx, ao, no, co, nodes, ended, hR, hN⟩ := h2.out.2.2.2 (by first | rfl | trivial); have HR : Hid (NdS (fun k => w.heap.size + 2 ≤ k ∧ k < w2.heap.size) D w2 r s.root) := hN; have hA3 := alloc_below w2 (.cells #[.int .i64 0, .int .i64 (Y : Nat)] 29); have R3 : Hid (RBox (w2.alloc (.cells #[.int .i64 0, .int .i64 (Y : Nat)] 29)) g free nx ao no co nodes r ended) := hR.same (hA3.block _ hR.lt); obtain ⟨m0, m1, m2, m3, m4, m5, m6, m7, m8⟩ := R3.out.root; have X3 : Hid (Res (w2.alloc (.cells #[.int .i64 0, .int .i64 (Y : Nat)] 29)) w.heap.size zN 0 0) := h2.out.2.2.1.call (hA3.block _ (by have := h2.out.2.1; omega)) (hA3.block _ (by have := h2.out.2.1; omega)); obtain ⟨n0, n1, n2, n3, n4, n5, n6, n7, n8⟩ := X3.out.1.fields; have z0 := X3.out.1.fz 0; have z1 := X3.out.1.fz 1; have z2 := X3.out.1.fz 2; have z3 := X3.out.1.fz 3; have z4 := X3.out.1.fz 4; have z5 := X3.out.1.fz 5; have z6 := X3.out.1.fz 6; have z7 := X3.out.1.fz 7; have z8 := X3.out.1.fz 8; have y0 := X3.out.2.cell 0; have y1 := X3.out.2.cell 1; have v0 := X3.out.2.fz 0; have v1 := X3.out.2.fz 1; clear hR hN hA3))
    have F := res_put (W := w2.alloc (.cells #[.int .i64 0, .int .i64 (Y : Nat)] 29)) X3.out r 0 0
    obtain ⟨u0, u1, u2, u3, u4, u5, u6, u7, u8⟩ := F.1.1.fields
    have t0 := F.1.2.cell 0
    have t1 := F.1.2.cell 1
    refine bodyPost_ret (v := .tuple #[.agg r.arr, .agg #[.int .i64 0, .int .i64 0]]) (by simp [results, Tryz.results9, go_sem, u0, u1, u2, u3, u4, u5, u6, u7, u8, t0, t1, Nb.arr]) rfl ⟨D, r, by rw [hP'.out]; rfl, ?_, ?_⟩
    · rw [hP'.out]
      exact (HR.out.stays fun k hk => (F.2.1 k (by omega) (by omega)).trans ((alloc_below w2 _).block k hk.2)).nd
    · have hb := h2.out.1.trans ((alloc_below w2 (.cells #[.int .i64 0, .int .i64 (Y : Nat)] 29)).mono h2.out.1.size)
      exact hb.trans F.2.2
  · have hP' : Hid (PA = (zT, X, Y)) := by show _ = _; rw [hP.out, if_pos hX]
    have hXb : (X != 0) = true := by simpa using hX
    clear hP hX
    go_enter Tryz.func9, Tryz.ntmps9
    go_wp2_with (first
      | (go_at_call 17; refine k1.mono ?_; rintro e w1 ⟨g, rfl, h1⟩; clear k1; have k2 := kR.out w1 g h1.out; clear h1)
      | (go_at_call 18; refine k2.mono ?_; rintro e w2 ⟨rfl, h2⟩; clear k2 kR; have HB : Hid (Below w.heap.size w w2) := h2.out.1; have hA3 := alloc_below w2 (.cells #[.int .i64 X, .int .i64 (Y : Nat)] 29); have X3 : Hid (Res (w2.alloc (.cells #[.int .i64 X, .int .i64 (Y : Nat)] 29)) w.heap.size zN 0 0) := h2.out.2.2.1.call (hA3.block _ (by have := h2.out.2.1; omega)) (hA3.block _ (by have := h2.out.2.1; omega)); have Z3 : Blk (w2.alloc (.cells #[.int .i64 X, .int .i64 (Y : Nat)] 29)) w2.heap.size #[.int .i64 X, .int .i64 (Y : Nat)] 29 := blk_new w2 _ _; have q0 := Z3.cell 0; have q1 := Z3.cell 1; obtain ⟨n0, n1, n2, n3, n4, n5, n6, n7, n8⟩ := X3.out.1.fields; have z0 := X3.out.1.fz 0; have z1 := X3.out.1.fz 1; have z2 := X3.out.1.fz 2; have z3 := X3.out.1.fz 3; have z4 := X3.out.1.fz 4; have z5 := X3.out.1.fz 5; have z6 := X3.out.1.fz 6; have z7 := X3.out.1.fz 7; have z8 := X3.out.1.fz 8; have y0 := X3.out.2.cell 0; have y1 := X3.out.2.cell 1; have v0 := X3.out.2.fz 0; have v1 := X3.out.2.fz 1; have hne : Hid (w.heap.size + 3 ≤ w2.heap.size) := h2.out.2.1; clear hA3 h2 Z3))
    have HB3 : Hid (Below w.heap.size w (w2.alloc (.cells #[.int .i64 X, .int .i64 (Y : Nat)] 29))) := HB.out.trans ((alloc_below w2 _).mono HB.out.size)
    have d1 : ¬ w2.heap.size = w.heap.size := by have := hne.out; omega
    have d2 : ¬ w.heap.size = w2.heap.size := by have := hne.out; omega
    have d3 : ¬ w2.heap.size = w.heap.size + 1 := by have := hne.out; omega
    have d4 : ¬ w.heap.size + 1 = w2.heap.size := by have := hne.out; omega
    clear HB hne
    generalize w2.alloc (.cells #[.int .i64 X, .int .i64 (Y : Nat)] 29) = W3 at *
    generalize w2.heap.size = g5 at *
    have F := res_put X3.out zN X (Y : Nat)
    have F0 : Hid (Nd 1 (((((((((((W3.setCell ⟨w.heap.size, 0, none⟩ (.int .i64 0)).setCell ⟨w.heap.size, 1, none⟩ (.int .u64 0)).setCell ⟨w.heap.size, 2, none⟩ (.bool false)).setCell ⟨w.heap.size, 3, none⟩ (.string ⟨#[]⟩)).setCell ⟨w.heap.size, 4, none⟩ (.int .i64 0)).setCell ⟨w.heap.size, 5, none⟩ (.string ⟨#[]⟩)).setCell ⟨w.heap.size, 6, none⟩ (.slice none 0 0)).setCell ⟨w.heap.size, 7, none⟩ (.slice none 0 0)).setCell ⟨w.heap.size, 8, none⟩ (.slice none 0 0)).setCell ⟨w.heap.size + 1, 0, none⟩ (.int .i64 X)).setCell ⟨w.heap.size + 1, 1, none⟩ (.int .i64 (Y : Nat))) zN zT ∧ Below w.heap.size w (((((((((((W3.setCell ⟨w.heap.size, 0, none⟩ (.int .i64 0)).setCell ⟨w.heap.size, 1, none⟩ (.int .u64 0)).setCell ⟨w.heap.size, 2, none⟩ (.bool false)).setCell ⟨w.heap.size, 3, none⟩ (.string ⟨#[]⟩)).setCell ⟨w.heap.size, 4, none⟩ (.int .i64 0)).setCell ⟨w.heap.size, 5, none⟩ (.string ⟨#[]⟩)).setCell ⟨w.heap.size, 6, none⟩ (.slice none 0 0)).setCell ⟨w.heap.size, 7, none⟩ (.slice none 0 0)).setCell ⟨w.heap.size, 8, none⟩ (.slice none 0 0)).setCell ⟨w.heap.size + 1, 0, none⟩ (.int .i64 X)).setCell ⟨w.heap.size + 1, 1, none⟩ (.int .i64 (Y : Nat)))) := ⟨nd_zero 0 _, HB3.out.trans F.2.2⟩
    obtain ⟨u0, u1, u2, u3, u4, u5, u6, u7, u8⟩ := F.1.1.fields
    have t0 := F.1.2.cell 0
    have t1 := F.1.2.cell 1
    simp only [zN] at u0 u1 u2 u3 u4 u5 u6 u7 u8 t0 t1 n0 n1 n2 n3 n4 n5 n6 n7 n8
    clear F
    go_region
    all_goals
      go_wp2_with fail
      refine bodyPost_ret (v := .tuple #[.agg #[.int .i64 0, .int .u64 0, .bool false, .string ⟨#[]⟩, .int .i64 0, .string ⟨#[]⟩, .slice none 0 0, .slice none 0 0, .slice none 0 0], .agg #[.int .i64 X, .int .i64 (Y : Nat)]]) (by simp [results, Tryz.results9, go_sem, u0, u1, u2, u3, u4, u5, u6, u7, u8, t0, t1]) rfl ⟨1, zN, by rw [hP'.out]; rfl, by rw [hP'.out]; exact nd_zero 0 _, F0.out.2.drew⟩
end Go.Proofs.YtmlacmoembjeoaaGreatDoor
namespace Go.Proofs.YtmlacmoembjeoaaGreatDoor
open Go.RowKit
set_option linter.unusedVariables false
def arrT (kids : List Tr) : Tr := ⟨7, 0, false, ⟨#[]⟩, 0, ⟨#[]⟩, [], [], kids⟩
def mapT (keys kids : List Tr) : Tr := ⟨8, 0, false, ⟨#[]⟩, 0, ⟨#[]⟩, [], keys, kids⟩
/-- A value (0), the rest of an Array (1), of a Map (2), d open nodes around it, n nodes begun: a fault, and the tokens from it on (none: they ran out); or the tree, the nodes begun then, the tokens behind. -/
def rdF : Nat → Nat → Bool → Nat → Nat → List Tr → List Tr → List Tk → Sum (Int × List Tk) (Tr × Nat × List Tk)
  | 0, _, _, _, _, _, _, _ => .inl (3, [])
  | k + 1, 0, free, d, n, _, _, L => match L with
    | [] => .inl (3, [])
    | t :: M => if bvA t.kind = false then .inl (5, t :: M)
      else if beginA free n d (nodeA t.kind (strOfNums t.txt)).2 ≠ 0 then .inl (beginA free n d (nodeA t.kind (strOfNums t.txt)).2, t :: M)
      else if t.kind = 3 then (match M with
        | [] => .inl (3, [])
        | u :: N => if u.kind = 4 then .inr (arrT [], n + 1, N) else rdF k 1 free (d + 1) (n + 1) [] [] (u :: N))
      else if t.kind = 1 then (match M with
        | [] => .inl (3, [])
        | u :: N => if u.kind = 2 then .inr (mapT [] [], n + 1, N) else rdF k 2 free (d + 1) (n + 1) [] [] (u :: N))
      else .inr ((nodeA t.kind (strOfNums t.txt)).1, n + 1, M)
  | k + 1, 1, free, d, n, _, kids, L => match rdF k 0 free d n [] [] L with
    | .inl f => .inl f
    | .inr (_, _, []) => .inl (3, [])
    | .inr (t, m, c :: M) => if c.kind = 6 then rdF k 1 free d m [] (kids ++ [t]) M else if c.kind = 4 then .inr (arrT (kids ++ [t]), m, M) else .inl (5, c :: M)
  | k + 1, _ + 2, free, d, n, keys, kids, L => match L with
    | [] => .inl (3, [])
    | t :: M => if t.kind ≠ 7 then .inl (5, t :: M)
      else if beginA free n d (if twT keys (strOfNums t.txt) = true then 9 else 0) ≠ 0 then .inl (beginA free n d (if twT keys (strOfNums t.txt) = true then 9 else 0), t :: M)
      else match M with
        | [] => .inl (3, [])
        | c :: M => if c.kind ≠ 5 then .inl (5, c :: M)
          else match rdF k 0 free d (n + 1) [] [] M with
            | .inl f => .inl f
            | .inr (_, _, []) => .inl (3, [])
            | .inr (u, m, c :: M) => if c.kind = 6 then rdF k 2 free d m (keys ++ [txtT (strOfNums t.txt)]) (kids ++ [u]) M
              else if c.kind = 2 then .inr (mapT (keys ++ [txtT (strOfNums t.txt)]) (kids ++ [u]), m, M) else .inl (5, c :: M)
/-- Tokens are taken. -/
theorem rd_len : ∀ (k q : Nat) (free : Bool) (d n : Nat) (keys kids : List Tr) (L : List Tk) (t : Tr) (m : Nat) (M : List Tk), rdF k q free d n keys kids L = .inr (t, m, M) → M.length < L.length := by
  intro k
  induction k with
  | zero => intro q free d n keys kids L t m M h; simp [rdF] at h
  | succ k ih =>
    intro q free d n keys kids L t m M h
    rcases q with _ | _ | q
    · rcases L with _ | ⟨a, L⟩
      · simp [rdF] at h
      · simp only [rdF] at h
        split at h
        · simp at h
        split at h
        · simp at h
        split at h
        · rcases L with _ | ⟨u, N⟩
          · simp at h
          · simp only at h
            split at h
            · simp at h; obtain ⟨_, _, rfl⟩ := h; simp; try omega
            · have := ih _ _ _ _ _ _ _ _ _ _ h; simp at this ⊢; omega
        split at h
        · rcases L with _ | ⟨u, N⟩
          · simp at h
          · simp only at h
            split at h
            · simp at h; obtain ⟨_, _, rfl⟩ := h; simp; try omega
            · have := ih _ _ _ _ _ _ _ _ _ _ h; simp at this ⊢; omega
        · simp at h; obtain ⟨_, _, rfl⟩ := h; simp; try omega
    · simp only [rdF] at h
      split at h
      · simp at h
      · simp at h
      · rename_i u m' c N hr
        have h1 := ih _ _ _ _ _ _ _ _ _ _ hr
        simp at h1
        split at h
        · have := ih _ _ _ _ _ _ _ _ _ _ h; omega
        split at h
        · simp at h; obtain ⟨_, _, rfl⟩ := h; omega
        · simp at h
    · rcases L with _ | ⟨a, L⟩
      · simp [rdF] at h
      · simp only [rdF] at h
        by_cases c1 : a.kind ≠ 7
        · rw [if_pos c1] at h; simp at h
        rw [if_neg c1] at h
        by_cases c2 : beginA free n d (if twT keys (strOfNums a.txt) = true then 9 else 0) ≠ 0
        · rw [if_pos c2] at h; simp at h
        rw [if_neg c2] at h
        rcases L with _ | ⟨c, L⟩
        · simp at h
        · simp only at h
          by_cases c3 : c.kind ≠ 5
          · rw [if_pos c3] at h; simp at h
          rw [if_neg c3] at h
          split at h
          · simp at h
          · simp at h
          · rename_i u m' c' N hr
            have h1 := ih _ _ _ _ _ _ _ _ _ _ hr
            simp at h1
            split at h
            · have := ih _ _ _ _ _ _ _ _ _ _ h; simp; omega
            split at h
            · simp at h; obtain ⟨_, _, rfl⟩ := h; simp; omega
            · simp at h
theorem putA_nx (s : JS) (a : Nat) (t : Tr) : putA { s with nx := a } t = putA s t := by
  rcases List.eq_nil_or_concat s.opn with q | ⟨os, u, q⟩
  · rw [putA_nil (s := { s with nx := a }) t q, putA_nil t q]
  · have q' : s.opn = os ++ [u] := by rw [q]; simp
    rw [putA_snoc (s := { s with nx := a }) t q', putA_snoc t q']
/-- What the reader with a stack does, where descent has this answer. -/
def Sim (r : Sum (Int × List Tk) (Tr × Nat × List Tk)) (s : JS) (L : List Tk) (f : Tr → Nat → JS) : Prop := match r with
  | .inl (_, []) => (readT s L).2 = (0, 0) ∧ (readT s L).1.ended = false
  | .inl (e, t :: _) => e ≠ 0 ∧ (readT s L).2 = (e, t.frm)
  | .inr (t, n, M) => readT s L = readT (f t n) M
theorem Sim.via {r : Sum (Int × List Tk) (Tr × Nat × List Tk)} {s s1 : JS} {L M : List Tk} {f : Tr → Nat → JS} (e : readT s L = readT s1 M) (h : Sim r s1 M f) : Sim r s L f := by
  unfold Sim at *
  rw [e]
  exact h
theorem Sim.bad {s : JS} {t : Tk} {M N : List Tk} {f : Tr → Nat → JS} {e : Int} (he : e ≠ 0) (h : (stepA s t.kind (strOfNums t.txt)).2 = e) : Sim (.inl (e, t :: N)) s (t :: M) f := by
  have := readT_cons_bad (s := s) (t := t) (l := M) (by rw [h]; exact he)
  exact ⟨he, by rw [this, h]⟩
theorem Sim.ok {s : JS} {t : Tk} {M : List Tk} {f : Tr → Nat → JS} {s1 : JS} {r : Sum (Int × List Tk) (Tr × Nat × List Tk)} (h : stepA s t.kind (strOfNums t.txt) = (s1, 0)) (k : Sim r s1 M f) : Sim r s (t :: M) f := by
  refine Sim.via ?_ k
  rw [readT_cons_ok (by rw [h]), h]
theorem Sim.fault {s : JS} {L : List Tk} {f : Int × List Tk} {f1 f2 : Tr → Nat → JS} (h : Sim (.inl f) s L f1) : Sim (.inl f) s L f2 := by
  obtain ⟨e, _ | ⟨t, M⟩⟩ := f
  · exact h
  · exact h
theorem Sim.out {s : JS} {f : Tr → Nat → JS} (e : Int) (h : s.ended = false) : Sim (.inl (e, [])) s [] f := ⟨rfl, h⟩
def VOK (s : JS) (L : List Tk) : Prop := s.nx = 27 ∨ (s.nx = 41 ∧ ∀ t M, L = t :: M → t.kind ≠ 4)
def KOK (s : JS) (L : List Tk) : Prop := s.nx = 66 ∨ (s.nx = 42 ∧ ∀ t M, L = t :: M → t.kind ≠ 2)
theorem step_v {s : JS} {t : Tk} {M : List Tk} (h : VOK s (t :: M)) (x : ByteArray) : stepA s t.kind x = valA s t.kind x := by
  rcases h with h | ⟨h, h4⟩
  · unfold stepA; rw [if_pos h]
  · unfold stepA; rw [if_neg (by rw [h]; decide), if_pos h, if_neg (h4 t M rfl)]
theorem step_k {s : JS} {t : Tk} {M : List Tk} (h : KOK s (t :: M)) (x : ByteArray) : stepA s t.kind x = keyA s t.kind x := by
  rcases h with h | ⟨h, h4⟩
  · unfold stepA; rw [if_neg (by rw [h]; decide), if_neg (by rw [h]; decide), if_neg (by rw [h]; decide), if_pos h]
  · unfold stepA; rw [if_neg (by rw [h]; decide), if_neg (by rw [h]; decide), if_pos h, if_neg (h4 t M rfl)]
theorem step_fv {s : JS} (h : s.nx = 41) (x : ByteArray) : stepA s 4 x = (endA s, 0) := by unfold stepA; rw [if_neg (by rw [h]; decide), if_pos h, if_pos rfl]
theorem step_fk {s : JS} (h : s.nx = 42) (x : ByteArray) : stepA s 2 x = (endA s, 0) := by unfold stepA; rw [if_neg (by rw [h]; decide), if_neg (by rw [h]; decide), if_pos h, if_pos rfl]
theorem step_bk {s : JS} (h : s.nx = 69) (k : Nat) (x : ByteArray) : stepA s k x = if k = 6 then ({ s with nx := 27 }, 0) else if k = 4 then (endA s, 0) else (s, 5) := by
  unfold stepA; rw [if_neg (by rw [h]; decide), if_neg (by rw [h]; decide), if_neg (by rw [h]; decide), if_neg (by rw [h]; decide), if_neg (by rw [h]; decide), if_pos h]
theorem step_bm {s : JS} (h : s.nx = 70) (k : Nat) (x : ByteArray) : stepA s k x = if k = 6 then ({ s with nx := 66 }, 0) else if k = 2 then (endA s, 0) else (s, 5) := by
  unfold stepA; rw [if_neg (by rw [h]; decide), if_neg (by rw [h]; decide), if_neg (by rw [h]; decide), if_neg (by rw [h]; decide), if_neg (by rw [h]; decide), if_neg (by rw [h]; decide), if_pos h]
theorem step_col {s : JS} (h : s.nx = 87) (k : Nat) (x : ByteArray) : stepA s k x = if k = 5 then ({ s with nx := 27 }, 0) else (s, 5) := by
  unfold stepA; rw [if_neg (by rw [h]; decide), if_neg (by rw [h]; decide), if_neg (by rw [h]; decide), if_neg (by rw [h]; decide), if_pos h]
set_option maxHeartbeats 1000000 in
/-- THE READER WITH A STACK READS BY DESCENT. -/
theorem sim_all : ∀ fuel : Nat,
    (∀ (s : JS) (L : List Tk), s.ended = false → VOK s L → 2 * L.length + 1 ≤ fuel → Sim (rdF fuel 0 s.free s.opn.length s.nodes [] [] L) s L (fun t n => putA { s with nodes := n } t)) ∧
    (∀ (s : JS) (os kids : List Tr) (L : List Tk), s.ended = false → VOK s L → s.opn = os ++ [arrT kids] → 2 * L.length + 2 ≤ fuel → Sim (rdF fuel 1 s.free s.opn.length s.nodes [] kids L) s L (fun t n => putA { s with opn := os, nodes := n } t)) ∧
    (∀ (s : JS) (os keys kids : List Tr) (L : List Tk), s.ended = false → KOK s L → s.opn = os ++ [mapT keys kids] → 2 * L.length + 2 ≤ fuel → Sim (rdF fuel 2 s.free s.opn.length s.nodes keys kids L) s L (fun t n => putA { s with opn := os, nodes := n } t)) := by
  intro fuel
  induction fuel with
  | zero => exact ⟨fun s L _ _ h => by omega, fun s os kids L _ _ _ h => by omega, fun s os keys kids L _ _ _ h => by omega⟩
  | succ k ih =>
    obtain ⟨ihV, ihA, ihM⟩ := ih
    refine ⟨?_, ?_, ?_⟩
    · intro s L he hv hf
      rcases L with _ | ⟨t, M⟩
      · exact Sim.out _ he
      have st := step_v hv (strOfNums t.txt)
      simp only [List.length_cons] at hf
      simp only [rdF]
      by_cases h1 : bvA t.kind = false
      · rw [if_pos h1]
        exact Sim.bad (by decide) (by rw [st]; unfold valA; rw [if_pos h1])
      rw [if_neg h1]
      by_cases h2 : beginA s.free s.nodes s.opn.length (nodeA t.kind (strOfNums t.txt)).2 ≠ 0
      · rw [if_pos h2]
        exact Sim.bad h2 (by rw [st]; unfold valA; rw [if_neg h1, if_pos h2])
      rw [if_neg h2]
      by_cases h3 : t.kind = 3
      · rw [if_pos h3]
        refine Sim.ok (s1 := { s with nx := 41, opn := s.opn ++ [kindT 7 0], nodes := s.nodes + 1 }) (by rw [st]; unfold valA; rw [if_neg h1, if_neg h2, if_pos h3]) ?_
        rcases M with _ | ⟨u, N⟩
        · exact Sim.out _ he
        simp only
        by_cases h4 : u.kind = 4
        · rw [if_pos h4]
          refine Sim.ok (by rw [h4]; exact step_fv rfl _) ?_
          show readT _ N = readT _ N
          rw [endA_snoc (os := s.opn) (t := kindT 7 0) rfl]
          exact congrArg (fun z => readT z N) (putA_nx { s with nodes := s.nodes + 1 } 41 (arrT []))
        · rw [if_neg h4]
          have := ihA { s with nx := 41, opn := s.opn ++ [kindT 7 0], nodes := s.nodes + 1 } s.opn [] (u :: N) he (.inr ⟨rfl, fun t M e => by cases e; exact h4⟩) rfl (by simp at hf ⊢; omega)
          simp only [List.length_append, List.length_singleton] at this
          have e : (fun (t : Tr) (n : Nat) => putA { s with nx := 41, opn := s.opn, nodes := n } t) = (fun t n => putA { s with nodes := n } t) := by funext t n; exact putA_nx { s with nodes := n } 41 t
          rw [e] at this
          exact this
      rw [if_neg h3]
      by_cases h1' : t.kind = 1
      · rw [if_pos h1']
        refine Sim.ok (s1 := { s with nx := 42, opn := s.opn ++ [kindT 8 0], nodes := s.nodes + 1 }) (by rw [st]; unfold valA; rw [if_neg h1, if_neg h2, if_neg h3, if_pos h1']) ?_
        rcases M with _ | ⟨u, N⟩
        · exact Sim.out _ he
        simp only
        by_cases h4 : u.kind = 2
        · rw [if_pos h4]
          refine Sim.ok (by rw [h4]; exact step_fk rfl _) ?_
          show readT _ N = readT _ N
          rw [endA_snoc (os := s.opn) (t := kindT 8 0) rfl]
          exact congrArg (fun z => readT z N) (putA_nx { s with nodes := s.nodes + 1 } 42 (mapT [] []))
        · rw [if_neg h4]
          have := ihM { s with nx := 42, opn := s.opn ++ [kindT 8 0], nodes := s.nodes + 1 } s.opn [] [] (u :: N) he (.inr ⟨rfl, fun t M e => by cases e; exact h4⟩) rfl (by simp at hf ⊢; omega)
          simp only [List.length_append, List.length_singleton] at this
          have e : (fun (t : Tr) (n : Nat) => putA { s with nx := 42, opn := s.opn, nodes := n } t) = (fun t n => putA { s with nodes := n } t) := by funext t n; exact putA_nx { s with nodes := n } 42 t
          rw [e] at this
          exact this
      rw [if_neg h1']
      refine Sim.ok (s1 := putA { s with nodes := s.nodes + 1 } (nodeA t.kind (strOfNums t.txt)).1) (by rw [st]; unfold valA; rw [if_neg h1, if_neg h2, if_neg h3, if_neg h1']) ?_
      exact rfl
    · intro s os kids L he hv ho hf
      have hV := ihV s L he hv (by omega)
      simp only [rdF]
      cases hr : rdF k 0 s.free s.opn.length s.nodes [] [] L with
      | inl f => rw [hr] at hV; exact Sim.fault hV
      | inr z =>
        obtain ⟨t, n, M⟩ := z
        rw [hr] at hV
        have hlen := rd_len _ _ _ _ _ _ _ _ _ _ _ hr
        have hp : putA { s with nodes := n } t = { s with opn := os ++ [arrT (kids ++ [t])], nodes := n, nx := 69 } := by
          rw [putA_snoc (s := { s with nodes := n }) t ho]
          rfl
        have hV' : readT s L = readT { s with opn := os ++ [arrT (kids ++ [t])], nodes := n, nx := 69 } M := by rw [← hp]; exact hV
        rcases M with _ | ⟨c, M⟩
        · exact Sim.via hV' (Sim.out _ he)
        refine Sim.via hV' ?_
        have st := step_bk (s := { s with opn := os ++ [arrT (kids ++ [t])], nodes := n, nx := 69 }) rfl c.kind (strOfNums c.txt)
        simp only at st ⊢
        by_cases h6 : c.kind = 6
        · rw [if_pos h6]
          rw [if_pos h6] at st
          refine Sim.ok st ?_
          have hln : s.opn.length = (os ++ [arrT (kids ++ [t])]).length := by rw [ho]; simp
          rw [hln]
          exact ihA { s with opn := os ++ [arrT (kids ++ [t])], nodes := n, nx := 27 } os (kids ++ [t]) M he (.inl rfl) rfl (by simp at hlen; omega) |> fun q => by
            have e : (fun (t : Tr) (m : Nat) => putA { s with opn := os, nodes := m, nx := 27 } t) = (fun t m => putA { s with opn := os, nodes := m } t) := by funext t m; exact putA_nx { s with opn := os, nodes := m } 27 t
            rw [← e]; exact q
        rw [if_neg h6] at st ⊢
        by_cases h4 : c.kind = 4
        · rw [if_pos h4] at st ⊢
          refine Sim.ok st ?_
          show readT _ M = readT _ M
          rw [endA_snoc (os := os) (t := arrT (kids ++ [t])) rfl]
          exact congrArg (fun z => readT z M) (putA_nx { s with opn := os, nodes := n } 69 _)
        · rw [if_neg h4] at st ⊢
          exact Sim.bad (by decide) (by rw [st])
    · intro s os keys kids L he hv ho hf
      rcases L with _ | ⟨t, M⟩
      · exact Sim.out _ he
      have st := step_k hv (strOfNums t.txt)
      simp only [List.length_cons] at hf
      simp only [rdF]
      by_cases h7 : t.kind ≠ 7
      · rw [if_pos h7]
        exact Sim.bad (by decide) (by rw [st]; unfold keyA; rw [if_pos h7])
      rw [if_neg h7]
      have h7' : t.kind = 7 := by omega
      rw [h7', keyA_snoc (strOfNums t.txt) ho] at st
      have ek : (mapT keys kids).keys = keys := rfl
      rw [ek] at st
      by_cases h2 : beginA s.free s.nodes s.opn.length (if twT keys (strOfNums t.txt) = true then 9 else 0) ≠ 0
      · rw [if_pos h2]
        rw [if_pos h2] at st
        exact Sim.bad h2 (by rw [h7', st])
      rw [if_neg h2]
      rw [if_neg h2] at st
      refine Sim.ok (s1 := { s with nx := 87, nodes := s.nodes + 1, opn := os ++ [mapT (keys ++ [txtT (strOfNums t.txt)]) kids] }) (by rw [h7']; exact st) ?_
      rcases M with _ | ⟨c, M⟩
      · exact Sim.out _ he
      have sc := step_col (s := { s with nx := 87, nodes := s.nodes + 1, opn := os ++ [mapT (keys ++ [txtT (strOfNums t.txt)]) kids] }) rfl c.kind (strOfNums c.txt)
      simp only at sc ⊢
      by_cases h5 : c.kind ≠ 5
      · rw [if_pos h5]
        rw [if_neg h5] at sc
        exact Sim.bad (by decide) (by rw [sc])
      rw [if_neg h5]
      rw [if_pos (by omega)] at sc
      refine Sim.ok sc ?_
      have hln : s.opn.length = (os ++ [mapT (keys ++ [txtT (strOfNums t.txt)]) kids]).length := by rw [ho]; simp
      have hV := ihV { s with nx := 27, nodes := s.nodes + 1, opn := os ++ [mapT (keys ++ [txtT (strOfNums t.txt)]) kids] } M he (.inl rfl) (by simp at hf; omega)
      simp only at hV
      rw [← hln] at hV
      cases hr : rdF k 0 s.free s.opn.length (s.nodes + 1) [] [] M with
      | inl f => rw [hr] at hV; exact Sim.fault hV
      | inr z =>
        obtain ⟨u, n, N⟩ := z
        rw [hr] at hV
        have hlen := rd_len _ _ _ _ _ _ _ _ _ _ _ hr
        have hV' : readT { s with nx := 27, nodes := s.nodes + 1, opn := os ++ [mapT (keys ++ [txtT (strOfNums t.txt)]) kids] } M = readT { s with opn := os ++ [mapT (keys ++ [txtT (strOfNums t.txt)]) (kids ++ [u])], nodes := n, nx := 70 } N := by
          refine Eq.trans (show _ = readT (putA { s with nx := 27, nodes := n, opn := os ++ [mapT (keys ++ [txtT (strOfNums t.txt)]) kids] } u) N from hV) ?_
          rw [putA_snoc (s := { s with nx := 27, nodes := n, opn := os ++ [mapT (keys ++ [txtT (strOfNums t.txt)]) kids] }) u rfl]
          rfl
        rcases N with _ | ⟨c', N⟩
        · exact Sim.via hV' (Sim.out _ he)
        refine Sim.via hV' ?_
        have sm := step_bm (s := { s with opn := os ++ [mapT (keys ++ [txtT (strOfNums t.txt)]) (kids ++ [u])], nodes := n, nx := 70 }) rfl c'.kind (strOfNums c'.txt)
        simp only at sm ⊢
        by_cases h6 : c'.kind = 6
        · rw [if_pos h6] at sm ⊢
          refine Sim.ok sm ?_
          have hln2 : s.opn.length = (os ++ [mapT (keys ++ [txtT (strOfNums t.txt)]) (kids ++ [u])]).length := by rw [ho]; simp
          rw [hln2]
          have q := ihM { s with opn := os ++ [mapT (keys ++ [txtT (strOfNums t.txt)]) (kids ++ [u])], nodes := n, nx := 66 } os (keys ++ [txtT (strOfNums t.txt)]) (kids ++ [u]) N he (.inl rfl) rfl (by simp at hf hlen; omega)
          have e : (fun (t : Tr) (m : Nat) => putA { s with opn := os, nodes := m, nx := 66 } t) = (fun t m => putA { s with opn := os, nodes := m } t) := by funext t m; exact putA_nx { s with opn := os, nodes := m } 66 t
          rw [← e]; exact q
        rw [if_neg h6] at sm ⊢
        by_cases h4 : c'.kind = 2
        · rw [if_pos h4] at sm ⊢
          refine Sim.ok sm ?_
          show readT _ N = readT _ N
          rw [endA_snoc (os := os) (t := mapT (keys ++ [txtT (strOfNums t.txt)]) (kids ++ [u])) rfl]
          exact congrArg (fun z => readT z N) (putA_nx { s with opn := os, nodes := n } 70 _)
        · rw [if_neg h4] at sm ⊢
          exact Sim.bad (by decide) (by rw [sm])
/-- ALL TOKENS, BY DESCENT. -/
def rdW (free : Bool) (L : List Tk) : Sum (Int × List Tk) (Tr × Nat × List Tk) := rdF (2 * L.length + 1) 0 free 0 0 [] [] L
def endS' (free : Bool) (n : Nat) (t : Tr) : JS := ⟨free, 67, [], n, t, true⟩
theorem read_whole (free : Bool) (L : List Tk) : match rdW free L with
    | .inl (_, []) => (readT (newS free) L).2 = (0, 0) ∧ (readT (newS free) L).1.ended = false
    | .inl (e, t :: _) => e ≠ 0 ∧ (readT (newS free) L).2 = (e, t.frm)
    | .inr (t, n, []) => readT (newS free) L = (endS' free n t, 0, 0)
    | .inr (t, n, c :: _) => (readT (newS free) L).2 = (10, c.frm) := by
  have h := (sim_all (2 * L.length + 1)).1 (newS free) L rfl (.inl rfl) (Nat.le_refl _)
  have e : rdF (2 * L.length + 1) 0 (newS free).free (newS free).opn.length (newS free).nodes [] [] L = rdW free L := rfl
  rw [e] at h
  generalize rdW free L = r at h ⊢
  rcases r with ⟨e, _ | ⟨t, M⟩⟩ | ⟨t, n, _ | ⟨c, M⟩⟩
  · exact h
  · exact h
  · exact h
  · have h' : readT (newS free) L = readT (endS' free n t) (c :: M) := h
    show (readT (newS free) L).2 = _
    rw [h']
    have hs : stepA (endS' free n t) c.kind (strOfNums c.txt) = (endS' free n t, 10) := by
      unfold stepA
      rw [if_neg (show ¬ (endS' free n t).nx = 27 from (by decide : ¬ 67 = 27)), if_neg (show ¬ (endS' free n t).nx = 41 from (by decide : ¬ 67 = 41)), if_neg (show ¬ (endS' free n t).nx = 42 from (by decide : ¬ 67 = 42)), if_neg (show ¬ (endS' free n t).nx = 66 from (by decide : ¬ 67 = 66)), if_neg (show ¬ (endS' free n t).nx = 87 from (by decide : ¬ 67 = 87)), if_neg (show ¬ (endS' free n t).nx = 69 from (by decide : ¬ 67 = 69)), if_neg (show ¬ (endS' free n t).nx = 70 from (by decide : ¬ 67 = 70))]
    rw [readT_cons_bad (by rw [hs]; simp), hs]
end Go.Proofs.YtmlacmoembjeoaaGreatDoor
namespace Go.Proofs.YtmlacmoembjeoaaGreatDoor
open Go.RowKit
set_option linter.unusedVariables false
theorem rd_inv0 {k : Nat} {free : Bool} {d n : Nat} {keys kids : List Tr} {L : List Tk} {t : Tr} {m : Nat} {M : List Tk} (h : rdF (k + 1) 0 free d n keys kids L = .inr (t, m, M)) :
    ∃ a L', L = a :: L' ∧ bvA a.kind = true ∧ beginA free n d (nodeA a.kind (strOfNums a.txt)).2 = 0 ∧
    ((a.kind = 3 ∧ ∃ u N, L' = u :: N ∧ ((u.kind = 4 ∧ t = arrT [] ∧ m = n + 1 ∧ M = N) ∨ (u.kind ≠ 4 ∧ rdF k 1 free (d + 1) (n + 1) [] [] (u :: N) = .inr (t, m, M)))) ∨
     (a.kind = 1 ∧ ∃ u N, L' = u :: N ∧ ((u.kind = 2 ∧ t = mapT [] [] ∧ m = n + 1 ∧ M = N) ∨ (u.kind ≠ 2 ∧ rdF k 2 free (d + 1) (n + 1) [] [] (u :: N) = .inr (t, m, M)))) ∨
     (a.kind ≠ 3 ∧ a.kind ≠ 1 ∧ t = (nodeA a.kind (strOfNums a.txt)).1 ∧ m = n + 1 ∧ M = L')) := by
  rcases L with _ | ⟨a, L⟩
  · simp [rdF] at h
  refine ⟨a, L, rfl, ?_⟩
  simp only [rdF] at h
  by_cases h1 : bvA a.kind = false
  · rw [if_pos h1] at h; simp at h
  rw [if_neg h1] at h
  by_cases h2 : beginA free n d (nodeA a.kind (strOfNums a.txt)).2 ≠ 0
  · rw [if_pos h2] at h; simp at h
  rw [if_neg h2] at h
  refine ⟨by simpa using h1, by simpa using h2, ?_⟩
  by_cases h3 : a.kind = 3
  · rw [if_pos h3] at h
    refine .inl ⟨h3, ?_⟩
    rcases L with _ | ⟨u, N⟩
    · simp at h
    refine ⟨u, N, rfl, ?_⟩
    simp only at h
    by_cases h4 : u.kind = 4
    · rw [if_pos h4] at h
      simp at h
      exact .inl ⟨h4, h.1.symm, h.2.1.symm, h.2.2.symm⟩
    · rw [if_neg h4] at h
      exact .inr ⟨h4, h⟩
  rw [if_neg h3] at h
  by_cases h1' : a.kind = 1
  · rw [if_pos h1'] at h
    refine .inr (.inl ⟨h1', ?_⟩)
    rcases L with _ | ⟨u, N⟩
    · simp at h
    refine ⟨u, N, rfl, ?_⟩
    simp only at h
    by_cases h4 : u.kind = 2
    · rw [if_pos h4] at h
      simp at h
      exact .inl ⟨h4, h.1.symm, h.2.1.symm, h.2.2.symm⟩
    · rw [if_neg h4] at h
      exact .inr ⟨h4, h⟩
  rw [if_neg h1'] at h
  simp at h
  exact .inr (.inr ⟨h3, h1', h.1.symm, h.2.1.symm, h.2.2.symm⟩)
theorem rd_inv1 {k : Nat} {free : Bool} {d n : Nat} {keys kids : List Tr} {L : List Tk} {t : Tr} {m : Nat} {M : List Tk} (h : rdF (k + 1) 1 free d n keys kids L = .inr (t, m, M)) :
    ∃ u n' c N, rdF k 0 free d n [] [] L = .inr (u, n', c :: N) ∧ ((c.kind = 6 ∧ rdF k 1 free d n' [] (kids ++ [u]) N = .inr (t, m, M)) ∨ (c.kind = 4 ∧ t = arrT (kids ++ [u]) ∧ m = n' ∧ M = N)) := by
  simp only [rdF] at h
  split at h
  · simp at h
  · simp at h
  · rename_i u n' c N hr
    refine ⟨u, n', c, N, hr, ?_⟩
    by_cases h6 : c.kind = 6
    · rw [if_pos h6] at h; exact .inl ⟨h6, h⟩
    rw [if_neg h6] at h
    by_cases h4 : c.kind = 4
    · rw [if_pos h4] at h
      simp at h
      exact .inr ⟨h4, h.1.symm, h.2.1.symm, h.2.2.symm⟩
    · rw [if_neg h4] at h; simp at h
theorem rd_inv2 {k q : Nat} {free : Bool} {d n : Nat} {keys kids : List Tr} {L : List Tk} {t : Tr} {m : Nat} {M : List Tk} (h : rdF (k + 1) (q + 2) free d n keys kids L = .inr (t, m, M)) :
    ∃ a c L', L = a :: c :: L' ∧ a.kind = 7 ∧ beginA free n d (if twT keys (strOfNums a.txt) = true then 9 else 0) = 0 ∧ c.kind = 5 ∧ ∃ u n' e N, rdF k 0 free d (n + 1) [] [] L' = .inr (u, n', e :: N) ∧
    ((e.kind = 6 ∧ rdF k 2 free d n' (keys ++ [txtT (strOfNums a.txt)]) (kids ++ [u]) N = .inr (t, m, M)) ∨ (e.kind = 2 ∧ t = mapT (keys ++ [txtT (strOfNums a.txt)]) (kids ++ [u]) ∧ m = n' ∧ M = N)) := by
  rcases L with _ | ⟨a, L⟩
  · simp [rdF] at h
  simp only [rdF] at h
  by_cases h7 : a.kind ≠ 7
  · rw [if_pos h7] at h; simp at h
  rw [if_neg h7] at h
  by_cases h2 : beginA free n d (if twT keys (strOfNums a.txt) = true then 9 else 0) ≠ 0
  · rw [if_pos h2] at h; simp at h
  rw [if_neg h2] at h
  rcases L with _ | ⟨c, L⟩
  · simp at h
  simp only at h
  by_cases h5 : c.kind ≠ 5
  · rw [if_pos h5] at h; simp at h
  rw [if_neg h5] at h
  refine ⟨a, c, L, rfl, by omega, by simpa using h2, by omega, ?_⟩
  split at h
  · simp at h
  · simp at h
  · rename_i u n' e N hr
    refine ⟨u, n', e, N, hr, ?_⟩
    by_cases h6 : e.kind = 6
    · rw [if_pos h6] at h; exact .inl ⟨h6, h⟩
    rw [if_neg h6] at h
    by_cases h4 : e.kind = 2
    · rw [if_pos h4] at h
      simp at h
      exact .inr ⟨h4, h.1.symm, h.2.1.symm, h.2.2.symm⟩
    · rw [if_neg h4] at h; simp at h
section
variable {k : Nat} {free : Bool} {d n : Nat} {keys kids : List Tr} {a : Tk}
theorem rd_arr0 {u : Tk} {N : List Tk} (hb : bvA a.kind = true) (h : beginA free n d (nodeA a.kind (strOfNums a.txt)).2 = 0) (h3 : a.kind = 3) (h4 : u.kind = 4) : rdF (k + 1) 0 free d n keys kids (a :: u :: N) = .inr (arrT [], n + 1, N) := by
  simp only [rdF]; rw [if_neg (by rw [hb]; decide), if_neg (by simpa using h), if_pos h3, if_pos h4]
theorem rd_arr {u : Tk} {N : List Tk} (hb : bvA a.kind = true) (h : beginA free n d (nodeA a.kind (strOfNums a.txt)).2 = 0) (h3 : a.kind = 3) (h4 : u.kind ≠ 4) : rdF (k + 1) 0 free d n keys kids (a :: u :: N) = rdF k 1 free (d + 1) (n + 1) [] [] (u :: N) := by
  simp only [rdF]; rw [if_neg (by rw [hb]; decide), if_neg (by simpa using h), if_pos h3, if_neg h4]
theorem rd_map0 {u : Tk} {N : List Tk} (hb : bvA a.kind = true) (h : beginA free n d (nodeA a.kind (strOfNums a.txt)).2 = 0) (h3 : a.kind = 1) (h4 : u.kind = 2) : rdF (k + 1) 0 free d n keys kids (a :: u :: N) = .inr (mapT [] [], n + 1, N) := by
  simp only [rdF]; rw [if_neg (by rw [hb]; decide), if_neg (by simpa using h), if_neg (by omega), if_pos h3, if_pos h4]
theorem rd_map {u : Tk} {N : List Tk} (hb : bvA a.kind = true) (h : beginA free n d (nodeA a.kind (strOfNums a.txt)).2 = 0) (h3 : a.kind = 1) (h4 : u.kind ≠ 2) : rdF (k + 1) 0 free d n keys kids (a :: u :: N) = rdF k 2 free (d + 1) (n + 1) [] [] (u :: N) := by
  simp only [rdF]; rw [if_neg (by rw [hb]; decide), if_neg (by simpa using h), if_neg (by omega), if_pos h3, if_neg h4]
theorem rd_leaf {L : List Tk} (hb : bvA a.kind = true) (h : beginA free n d (nodeA a.kind (strOfNums a.txt)).2 = 0) (h3 : a.kind ≠ 3) (h1 : a.kind ≠ 1) : rdF (k + 1) 0 free d n keys kids (a :: L) = .inr ((nodeA a.kind (strOfNums a.txt)).1, n + 1, L) := by
  simp only [rdF]; rw [if_neg (by rw [hb]; decide), if_neg (by simpa using h), if_neg h3, if_neg h1]
theorem rd_one {L N : List Tk} {u : Tr} {m : Nat} {c : Tk} (h : rdF k 0 free d n [] [] L = .inr (u, m, c :: N)) : rdF (k + 1) 1 free d n keys kids L = if c.kind = 6 then rdF k 1 free d m [] (kids ++ [u]) N else if c.kind = 4 then .inr (arrT (kids ++ [u]), m, N) else .inl (5, c :: N) := by
  simp only [rdF]; rw [h]
theorem rd_two_ok {c e : Tk} {L N : List Tk} {u : Tr} {m : Nat} (h7 : a.kind = 7) (h : beginA free n d (if twT keys (strOfNums a.txt) = true then 9 else 0) = 0) (h5 : c.kind = 5) (hr : rdF k 0 free d (n + 1) [] [] L = .inr (u, m, e :: N)) : rdF (k + 1) 2 free d n keys kids (a :: c :: L) = if e.kind = 6 then rdF k 2 free d m (keys ++ [txtT (strOfNums a.txt)]) (kids ++ [u]) N
              else if e.kind = 2 then .inr (mapT (keys ++ [txtT (strOfNums a.txt)]) (kids ++ [u]), m, N) else .inl (5, e :: N) := by
  simp only [rdF]
  rw [if_neg (by omega), if_neg (by simpa using h), if_neg (by omega), hr]
end
/-- Tokens of the same kinds and texts. -/
def KT (L M : List Tk) : Prop := L.map (fun t => (t.kind, t.txt)) = M.map (fun t => (t.kind, t.txt))
theorem KT.cons {a : Tk} {L M : List Tk} (h : KT (a :: L) M) : ∃ b N, M = b :: N ∧ b.kind = a.kind ∧ b.txt = a.txt ∧ KT L N := by
  rcases M with _ | ⟨b, N⟩
  · simp [KT] at h
  · simp only [KT, List.map_cons, List.cons.injEq, Prod.mk.injEq] at h
    exact ⟨b, N, rfl, h.1.1.symm, h.1.2.symm, h.2⟩
/-- MORE TOKENS BEHIND, AND AT OTHER PLACES: the same tree. -/
theorem rd_more : ∀ (k q : Nat), q ≤ 2 → ∀ (free : Bool) (d n : Nat) (keys kids : List Tr) (L : List Tk) (t : Tr) (m : Nat) (M : List Tk), rdF k q free d n keys kids L = .inr (t, m, M) → ∀ (k' : Nat) (L2 X : List Tk), k ≤ k' → KT L L2 → ∃ M2, KT M M2 ∧ rdF k' q free d n keys kids (L2 ++ X) = .inr (t, m, M2 ++ X) := by
  intro k
  induction k with
  | zero => intro q _ free d n keys kids L t m M h; simp [rdF] at h
  | succ k ih =>
    intro q hq free d n keys kids L t m M h k' L2 X hk hL
    obtain ⟨k', rfl⟩ : ∃ j, k' = j + 1 := ⟨k' - 1, by omega⟩
    rcases q with _ | _ | q
    · obtain ⟨a, L', rfl, hb, hg, hz⟩ := rd_inv0 h
      clear h
      have h := hz
      clear hz
      obtain ⟨b, N2, rfl, e1, e2, hN⟩ := hL.cons
      rw [← e1] at hb
      rw [← e1, ← e2] at hg
      rcases h with ⟨h3, u, N, rfl, h⟩ | ⟨h1, u, N, rfl, h⟩ | ⟨h3, h1, rfl, rfl, rfl⟩
      · obtain ⟨v, N3, rfl, f1, f2, hN3⟩ := hN.cons
        rcases h with ⟨h4, rfl, rfl, rfl⟩ | ⟨h4, h⟩
        · exact ⟨N3, hN3, rd_arr0 hb hg (by omega) (by omega)⟩
        · obtain ⟨M2, g1, g2⟩ := ih 1 (by omega) _ _ _ _ _ _ _ _ _ h k' (v :: N3) X (by omega) hN
          exact ⟨M2, g1, (rd_arr hb hg (by omega) (by omega)).trans g2⟩
      · obtain ⟨v, N3, rfl, f1, f2, hN3⟩ := hN.cons
        rcases h with ⟨h4, rfl, rfl, rfl⟩ | ⟨h4, h⟩
        · exact ⟨N3, hN3, rd_map0 hb hg (by omega) (by omega)⟩
        · obtain ⟨M2, g1, g2⟩ := ih 2 (by omega) _ _ _ _ _ _ _ _ _ h k' (v :: N3) X (by omega) hN
          exact ⟨M2, g1, (rd_map hb hg (by omega) (by omega)).trans g2⟩
      · refine ⟨N2, hN, ?_⟩
        rw [← e1, ← e2]
        exact rd_leaf hb hg (by omega) (by omega)
    · obtain ⟨u, n', c, N, hr, hz⟩ := rd_inv1 h
      clear h
      have h := hz
      clear hz
      obtain ⟨M1, g1, g2⟩ := ih 0 (by omega) _ _ _ _ _ _ _ _ _ hr k' L2 X (by omega) hL
      obtain ⟨c2, N2, rfl, e1, e2, hN⟩ := g1.cons
      rw [rd_one g2, e1]
      rcases h with ⟨h6, h⟩ | ⟨h4, rfl, rfl, rfl⟩
      · rw [if_pos h6]
        exact ih 1 (by omega) _ _ _ _ _ _ _ _ _ h k' N2 X (by omega) hN
      · rw [if_neg (by omega), if_pos h4]
        exact ⟨N2, hN, rfl⟩
    · obtain rfl : q = 0 := by omega
      obtain ⟨a, c, L', rfl, h7, hg, h5, u, n', e, N, hr, hz⟩ := rd_inv2 h
      clear h
      have h := hz
      clear hz
      obtain ⟨a2, N1, rfl, e1, e2, hN1⟩ := hL.cons
      obtain ⟨c2, N2, rfl, f1, f2, hN2⟩ := hN1.cons
      obtain ⟨M1, g1, g2⟩ := ih 0 (by omega) _ _ _ _ _ _ _ _ _ hr k' N2 X (by omega) hN2
      obtain ⟨e3, N3, rfl, p1, p2, hN3⟩ := g1.cons
      have := rd_two_ok (keys := keys) (kids := kids) (a := a2) (c := c2) (by omega) (by rw [e2]; exact hg) (by omega) g2
      rw [List.cons_append, List.cons_append, this, p1, e2]
      rcases h with ⟨h6, h⟩ | ⟨h4, rfl, rfl, rfl⟩
      · rw [if_pos h6]
        exact ih 2 (by omega) _ _ _ _ _ _ _ _ _ h k' N3 X (by omega) hN3
      · rw [if_neg (by omega), if_pos h4]
        exact ⟨N3, hN3, rfl⟩
theorem nodeA_one (k : Nat) (x : ByteArray) : (nodeA k x).1.keys = [] ∧ (nodeA k x).1.kids = [] := by
  unfold nodeA numA
  repeat' split
  all_goals exact ⟨rfl, rfl⟩
theorem size_one {t : Tr} (h : t.keys = [] ∧ t.kids = []) : t.size = 1 ∧ t.deep = 1 := by
  rw [Tr.size_eq, Tr.deep_eq, h.1, h.2]
  exact ⟨rfl, rfl⟩
/-- HOW MANY NODES HAVE BEGUN; what was there stays. -/
theorem rd_size : ∀ (k q : Nat), q ≤ 2 → ∀ (free : Bool) (d n : Nat) (keys kids : List Tr) (L : List Tk) (t : Tr) (m : Nat) (M : List Tk), rdF k q free d n keys kids L = .inr (t, m, M) →
    n < m ∧ (q = 0 → m = n + t.size) ∧ (q = 1 → m + 1 + Tr.sizes kids = n + t.size ∧ ∃ X, t = arrT (kids ++ X)) ∧ (q = 2 → m + 1 + Tr.sizes keys + Tr.sizes kids = n + t.size ∧ ∃ X Y, t = mapT (keys ++ X) (kids ++ Y)) := by
  intro k
  induction k with
  | zero => intro q _ free d n keys kids L t m M h; simp [rdF] at h
  | succ k ih =>
    intro q hq free d n keys kids L t m M h
    rcases q with _ | _ | q
    · refine ⟨?_, fun _ => ?_, fun e => absurd e (by omega), fun e => absurd e (by omega)⟩
      all_goals
        obtain ⟨a, L', rfl, hb, hg, hz⟩ := rd_inv0 h
        clear h
        have h := hz
        clear hz
        rcases h with ⟨h3, u, N, rfl, ⟨h4, rfl, rfl, rfl⟩ | ⟨h4, h⟩⟩ | ⟨h1, u, N, rfl, ⟨h4, rfl, rfl, rfl⟩ | ⟨h4, h⟩⟩ | ⟨h3, h1, rfl, rfl, rfl⟩
      · omega
      · have := (ih 1 (by omega) _ _ _ _ _ _ _ _ _ h).1; omega
      · omega
      · have := (ih 2 (by omega) _ _ _ _ _ _ _ _ _ h).1; omega
      · omega
      · rw [(size_one (t := arrT []) ⟨rfl, rfl⟩).1]
      · have := ((ih 1 (by omega) _ _ _ _ _ _ _ _ _ h).2.2.1 rfl).1; rw [Tr.sizes_nil] at this; omega
      · rw [(size_one (t := mapT [] []) ⟨rfl, rfl⟩).1]
      · have := ((ih 2 (by omega) _ _ _ _ _ _ _ _ _ h).2.2.2 rfl).1; rw [Tr.sizes_nil] at this; omega
      · rw [(size_one (nodeA_one _ _)).1]
    · obtain ⟨u, n', c, N, hr, hz⟩ := rd_inv1 h
      clear h
      have h := hz
      clear hz
      have i0 := ih 0 (by omega) _ _ _ _ _ _ _ _ _ hr
      have s0 := i0.2.1 rfl
      rcases h with ⟨h6, h⟩ | ⟨h4, rfl, rfl, rfl⟩
      · have i1 := ih 1 (by omega) _ _ _ _ _ _ _ _ _ h
        obtain ⟨s1, X, rfl⟩ := i1.2.2.1 rfl
        rw [Tr.sizes_app, Tr.sizes_cons, Tr.sizes_nil] at s1
        exact ⟨by omega, fun e => absurd e (by omega), fun _ => ⟨by omega, u :: X, by simp⟩, fun e => absurd e (by omega)⟩
      · have e : (arrT (kids ++ [u])).size = 1 + Tr.sizes [] + Tr.sizes (kids ++ [u]) := Tr.size_eq _
        rw [Tr.sizes_app, Tr.sizes_cons, Tr.sizes_nil] at e
        exact ⟨by omega, fun e => absurd e (by omega), fun _ => ⟨by omega, [u], rfl⟩, fun e => absurd e (by omega)⟩
    · obtain rfl : q = 0 := by omega
      obtain ⟨a, c, L', rfl, h7, hg, h5, u, n', e, N, hr, hz⟩ := rd_inv2 h
      clear h
      have h := hz
      clear hz
      have i0 := ih 0 (by omega) _ _ _ _ _ _ _ _ _ hr
      have s0 := i0.2.1 rfl
      have sx : (txtT (strOfNums a.txt)).size = 1 := (size_one ⟨rfl, rfl⟩).1
      rcases h with ⟨h6, h⟩ | ⟨h4, rfl, rfl, rfl⟩
      · have i1 := ih 2 (by omega) _ _ _ _ _ _ _ _ _ h
        obtain ⟨s1, X, Y, rfl⟩ := i1.2.2.2 rfl
        rw [Tr.sizes_app, Tr.sizes_cons, Tr.sizes_nil, Tr.sizes_app, Tr.sizes_cons, Tr.sizes_nil] at s1
        exact ⟨by omega, fun e => absurd e (by omega), fun e => absurd e (by omega), fun _ => ⟨by omega, txtT (strOfNums a.txt) :: X, u :: Y, by simp⟩⟩
      · have e : (mapT (keys ++ [txtT (strOfNums a.txt)]) (kids ++ [u])).size = 1 + Tr.sizes (keys ++ [txtT (strOfNums a.txt)]) + Tr.sizes (kids ++ [u]) := Tr.size_eq _
        rw [Tr.sizes_app, Tr.sizes_cons, Tr.sizes_nil, Tr.sizes_app, Tr.sizes_cons, Tr.sizes_nil] at e
        exact ⟨by omega, fun e => absurd e (by omega), fun e => absurd e (by omega), fun _ => ⟨by omega, [txtT (strOfNums a.txt)], [u], rfl⟩⟩
theorem begin_zero {n : Int} {d : Nat} {own : Int} (h : beginA false n d own = 0) : n + 1 ≤ 1024 ∧ d < 24 ∧ own = 0 := by
  unfold beginA at h
  rw [if_neg (by decide)] at h
  split at h
  · omega
  split at h
  · omega
  exact ⟨by omega, by omega, h⟩
/-- WITHOUT BOUNDS NO LESS IS READ. -/
theorem rd_free : ∀ (k q : Nat), q ≤ 2 → ∀ (d n : Nat) (keys kids : List Tr) (L : List Tk) (t : Tr) (m : Nat) (M : List Tk), rdF k q false d n keys kids L = .inr (t, m, M) → rdF k q true d n keys kids L = .inr (t, m, M) := by
  intro k
  induction k with
  | zero => intro q _ d n keys kids L t m M h; simp [rdF] at h
  | succ k ih =>
    intro q hq d n keys kids L t m M h
    rcases q with _ | _ | q
    · obtain ⟨a, L', rfl, hb, hg, hz⟩ := rd_inv0 h
      clear h
      have h := hz
      clear hz
      rcases h with ⟨h3, u, N, rfl, ⟨h4, rfl, rfl, rfl⟩ | ⟨h4, h⟩⟩ | ⟨h1, u, N, rfl, ⟨h4, rfl, rfl, rfl⟩ | ⟨h4, h⟩⟩ | ⟨h3, h1, rfl, rfl, rfl⟩
      · exact rd_arr0 hb rfl h3 h4
      · exact (rd_arr hb rfl h3 h4).trans (ih 1 (by omega) _ _ _ _ _ _ _ _ h)
      · exact rd_map0 hb rfl h1 h4
      · exact (rd_map hb rfl h1 h4).trans (ih 2 (by omega) _ _ _ _ _ _ _ _ h)
      · exact rd_leaf hb rfl h3 h1
    · obtain ⟨u, n', c, N, hr, hz⟩ := rd_inv1 h
      clear h
      have h := hz
      clear hz
      rw [rd_one (ih 0 (by omega) _ _ _ _ _ _ _ _ hr)]
      rcases h with ⟨h6, h⟩ | ⟨h4, rfl, rfl, rfl⟩
      · rw [if_pos h6]; exact ih 1 (by omega) _ _ _ _ _ _ _ _ h
      · rw [if_neg (by omega), if_pos h4]
    · obtain rfl : q = 0 := by omega
      obtain ⟨a, c, L', rfl, h7, hg, h5, u, n', e, N, hr, hz⟩ := rd_inv2 h
      clear h
      have h := hz
      clear hz
      have := rd_two_ok (free := true) (d := d) (n := n) (keys := keys) (kids := kids) h7 rfl h5 (ih 0 (by omega) _ _ _ _ _ _ _ _ hr)
      refine Eq.trans this ?_
      rcases h with ⟨h6, h⟩ | ⟨h4, rfl, rfl, rfl⟩
      · rw [if_pos h6]; exact ih 2 (by omega) _ _ _ _ _ _ _ _ h
      · rw [if_neg (by omega), if_pos h4]
end Go.Proofs.YtmlacmoembjeoaaGreatDoor
namespace Go.Proofs.YtmlacmoembjeoaaGreatDoor
open Go.RowKit
set_option linter.unusedVariables false

theorem beq_of {s t : ByteArray} (v : Bool) (h : v = true ↔ s = t) : (s.toList == t.toList) = v := by
  rw [Bool.eq_iff_iff, h, beq_iff_eq, ByteArray.toList_eq, ByteArray.toList_eq]
  constructor
  · intro e
    cases s; cases t
    simp only at e
    rw [Array.toList_inj.1 e]
  · intro e; rw [e]
theorem not_true {v : Bool} {p : Prop} (h : v = true ↔ p) (hp : ¬ p) : v = false := by
  cases v with
  | false => rfl
  | true => exact absurd (h.1 rfl) hp

end Go.Proofs.YtmlacmoembjeoaaGreatDoor
namespace Go.Proofs.YtmlacmoembjeoaaGreatDoor
open Go.RowKit
set_option linter.unusedVariables false

/-- Is a number right, and not whole? -/
def rdN (n : Bool) (s : ByteArray) (x : Int) : Bool := rtN n s x && !(wholeA n s x).2
end Go.Proofs.YtmlacmoembjeoaaGreatDoor
namespace Go.Proofs.YtmlacmoembjeoaaGreatDoor
open Go.RowKit
set_option linter.unusedVariables false

/-- Are these bytes a text? -/
def gtx (s : ByteArray) : Bool := decide (whyL (bs s) = 0)
/-- The fault of a node. -/
def alF (t : Tr) : Int := t.alo gtx rt rdN
end Go.Proofs.YtmlacmoembjeoaaGreatDoor
