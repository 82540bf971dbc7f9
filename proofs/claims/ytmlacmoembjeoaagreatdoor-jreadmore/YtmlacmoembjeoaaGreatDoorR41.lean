/-
  A value with more behind it: the walk.
-/
import Derived.Test.YtmlacmoembjeoaaGreatDoorR40
import Derived.Deep.RegionHeld3
namespace Go.Proofs.YtmlacmoembjeoaaGreatDoor
open Go.RowKit
set_option linter.unusedVariables false
set_option maxHeartbeats 2000000 in
set_option maxRecDepth 100000 in
theorem wmore (a0 : Option Addr) (n0 c0 : Nat) (zs : List Int) (a1 : Option Addr) (n1 c1 : Nat) (ys : List Int) (w : World) (hl0 : zs.length = n0) (hb0 : Bytes w a0 zs) (hc0 : n0 ≤ c0) (hm0 : c0 ≤ 140737488351232) (hn0 : a0 = none → c0 = 0)
    (hl1 : ys.length = n1) (hb1 : Bytes w a1 ys) (hc1 : n1 ≤ c1) (hm1 : c1 ≤ 140737488351232) (hn1 : a1 = none → c1 = 0) :
    Calls Tryz.prog 8 #[.slice a0 n0 c0, .slice a1 n1 c1] w fun e w' => e = .returned (.bool true) ∧ Below w.heap.size w w' := by
  have k1 := rparse_any a0 n0 c0 zs w hl0 hb0 hc0 (by omega)
  have k2 : Hid (∀ w', Below w.heap.size w w' → Calls Tryz.prog 16 #[.slice a1 n1 c1] w' fun e w'' => ∃ v Y A, e = .returned (.tuple #[v, .agg #[.int .i64 Y, .int .i64 A]]) ∧ OwnsT w'' (w'.heap.size + 1) v (lexW ys).1 ∧ (Y = 0 ↔ (lexW ys).2.1 = 0) ∧ Below w'.heap.size w' w'') := fun w' h => vlex_full a1 n1 c1 ys w' hl1 (hb1.kept h) hc1 hm1
  have k3 : Hid (∀ w' a n c, (zs ++ 32 :: ys).length = n → Bytes w' a (zs ++ 32 :: ys) → n ≤ c → n ≤ 140737488351232 → Calls Tryz.prog 9 #[.slice a n c] w' fun e w'' => ∃ D b, e = .returned (.tuple #[.agg b.arr, .agg #[.int .i64 (parA (zs ++ 32 :: ys)).2.1, .int .i64 ((parA (zs ++ 32 :: ys)).2.2 : Nat)]]) ∧ Nd D w'' b (parA (zs ++ 32 :: ys)).1 ∧ Below w'.heap.size w' w'') := fun w' a n c h1 h2 h3 h4 => rparse_any a n c _ w' h1 h2 h3 h4
  have HL : Hid (zs.length = n0 ∧ ys.length = n1) := ⟨hl0, hl1⟩
  have HB0 : Hid (Bytes w a0 zs ∧ (a0 = none → c0 = 0)) := ⟨hb0, hn0⟩
  have HB1 : Hid (Bytes w a1 ys ∧ (a1 = none → c1 = 0)) := ⟨hb1, hn1⟩
  have hPB : Hid (∀ c Y, (parA zs).2.1 = 0 → (lexW ys).1 = c :: Y → n0 + n1 + 1 ≤ 4096 → (parA (zs ++ 32 :: ys)).2 = (10, n0 + 1 + c.frm)) := fun c Y h1 h2 h3 => by rw [par_more h1 h2 (by omega), hl0]
  have hFR : Hid (∀ c Y, (lexW ys).1 = c :: Y → n0 + n1 + 1 ≤ 4096 → c.frm ≤ n1) := fun c Y h1 h2 => by
    have h := (lex_order ys ys 0 rfl (Nat.zero_le _)).1
    unfold lexW at h1
    rw [if_pos (by omega)] at h1
    rw [h1] at h
    have h3 := h.2.1
    have h4 := h.2.2.1
    omega
  have hE0 : Hid ((parA zs).2.1 = 0 → (parA zs).2.2 = 0) := fun h => (par_right h).1
  obtain ⟨⟨T1, X1, Y1⟩, hP1⟩ : ∃ R, parA zs = R := ⟨_, rfl⟩
  rw [hP1] at k1 hPB hE0
  obtain ⟨⟨T3, X3, Y3⟩, hP3⟩ : ∃ R, parA (zs ++ 32 :: ys) = R := ⟨_, rfl⟩
  rw [hP3] at k3 hPB
  obtain ⟨L, hL⟩ : ∃ L, (lexW ys).1 = L := ⟨_, rfl⟩
  rw [hL] at k2 hPB hFR
  simp only at k1 k3
  have v1 : IntKind.i64.wrap ((n0 : Int) + (n1 : Int)) = (n0 : Int) + (n1 : Int) := by rw [IntKind.wrap_i64]; omega
  have v2 : IntKind.i64.wrap ((n0 : Int) + (n1 : Int) + 1) = (n0 : Int) + (n1 : Int) + 1 := by rw [IntKind.wrap_i64]; omega
  clear hP1 hP3 hL hl0 hb0 hc0 hn0 hl1 hb1 hc1 hn1
  go_enter Tryz.func8, Tryz.ntmps8
  go_wp2_with (go_at_call 9; refine k1.mono ?_; rintro e w1 ⟨D1, b1, he, hN, hB⟩; rw [Nb.arr] at he; subst he; clear k1; have G1 : Hid (PS w ((w1.alloc (.cells #[.int .i64 b1.kind, .int .u64 b1.num, .bool b1.neg, .string b1.dig, .int .i64 b1.exp, .string b1.txt, .slice b1.ab b1.lb b1.cb, .slice b1.ak b1.lk b1.ck, .slice b1.ai b1.li b1.ci] 26)).alloc (.cells #[.int .i64 X1, .int .i64 (Y1 : Nat)] 29)) w1.heap.size b1 T1 X1 (Y1 : Nat)) := ps_new hB hN; clear hN hB)
  generalize ((w1.alloc (.cells #[.int .i64 b1.kind, .int .u64 b1.num, .bool b1.neg, .string b1.dig, .int .i64 b1.exp, .string b1.txt, .slice b1.ab b1.lb b1.cb, .slice b1.ak b1.lk b1.ck, .slice b1.ai b1.li b1.ci] 26)).alloc (.cells #[.int .i64 X1, .int .i64 (Y1 : Nat)] 29)) = W1 at *
  generalize w1.heap.size = p1 at *
  refine (k2.out W1 G1.out.bel).mono ?_
  rintro e w2 ⟨v, Y, A, rfl, hO, _, hB2⟩
  clear k2
  have hA2 := alloc_below w2 (.cells #[.int .i64 Y, .int .i64 A] 29)
  have hB3 := hB2.trans (hA2.mono hB2.size)
  have B2 : Hid (Below w.heap.size w (w2.alloc (.cells #[.int .i64 Y, .int .i64 A] 29))) := G1.out.bel.trans (hB3.mono G1.out.bel.size)
  have K2 := G1.out.flt.kept hB3 G1.out.lt
  have z0 := K2.cell 0
  have z1 := K2.cell 1
  obtain ⟨av, cv, rfl, hcv, hcm, hTA⟩ := (hO.kept hA2).at
  have HT : Hid (TokAt (w2.alloc (.cells #[.int .i64 Y, .int .i64 A] 29)) av L) := hTA
  clear hO hB2 hB3 hA2 G1 hTA K2
  by_cases hX : X1 = 0
  · obtain rfl := hX
    obtain rfl := hE0.out rfl
    by_cases hL0 : L = []
    · subst hL0
      clear hE0 hPB k3
      go_wp2_with fail
      refine (alive_any _).mono ?_
      rintro e w3 ⟨rfl, hB3⟩
      go_wp2_with fail
      go_ret
      exact ⟨rfl, B2.out.trans (hB3.mono B2.out.size)⟩
    · have hLl : 1 ≤ L.length := by cases L with | nil => exact absurd rfl hL0 | cons c Y => simp
      have g0 : ((L.length : Int) == 0) = false := by simp; omega
      by_cases hS : n0 + n1 + 1 ≤ 4096
      · have v3 : decide ((4096 : Int) < (n0 : Int) + (n1 : Int) + 1) = false := by simp; omega
        obtain ⟨c, Lr, rfl⟩ := List.exists_cons_of_ne_nil hL0
        have hP := hPB.out c Lr rfl rfl hS
        have hfr := hFR.out c Lr rfl hS
        simp only [Prod.mk.injEq] at hP
        obtain ⟨rfl, rfl⟩ := hP
        obtain ⟨gl, rfl, hgl, hcl⟩ := HT.out hL0
        have CL : Hid (gl < (w2.alloc (.cells #[.int .i64 Y, .int .i64 A] 29)).heap.size ∧ (w2.alloc (.cells #[.int .i64 Y, .int .i64 A] 29)).cell? ⟨gl, 1, none⟩ = some (.int .i64 (c.frm : Nat))) := ⟨hgl, by rw [hcl 1 (by simp; omega)]; rfl⟩
        have ll : ((c :: Lr).length : Int) = (((c :: Lr).length : Nat) : Int) := rfl
        obtain ⟨LN, hLN⟩ : ∃ LN, (c :: Lr).length = LN := ⟨_, rfl⟩
        rw [hLN] at g0 hLl hcv
        have g1 : (0 : Int) < (LN : Int) := by omega
        have g2 : 0 < LN := by omega
        have g3 : ¬ LN = 0 := by omega
        have g4 : decide ((LN : Int) ≤ 0) = false := by simp; omega
        have w3a : IntKind.i64.wrap ((n0 : Int) + 1) = (n0 : Int) + 1 := by rw [IntKind.wrap_i64]; omega
        have w3b : IntKind.i64.wrap ((n0 : Int) + 1 + (c.frm : Int)) = (n0 : Int) + 1 + (c.frm : Int) := by rw [IntKind.wrap_i64]; omega
        have hE : Hid ((([] ++ zs) ++ [32]) ++ ys = zs ++ 32 :: ys) := by show _ = _; simp
        have HS : Hid (n0 + n1 + 1 ≤ 4096) := hS
        rw [hLN]
        clear hE0 hPB hFR hL0 HT hcl hgl hfr hS ll hLN hLl
        go_wp2_with (first
          | (at_builtin; guard_hyp HB0; refine wpList_append_bytes rfl _ _ rfl (w2.alloc (.cells #[.int .i64 Y, .int .i64 A] 29)).heap.size (.slice none 0 0) [] zs rfl (ownsB_nil _ _) a0 n0 c0 rfl HL.out.1 HB0.out.2 (HB0.out.1.kept B2.out) (by have := HL.out; have := HS.out; simp; omega) (Nat.le_refl _) ?_; intro v3 w3 hO3 hg3; have b3 : Hid (Below (w2.alloc (.cells #[.int .i64 Y, .int .i64 A] 29)).heap.size (w2.alloc (.cells #[.int .i64 Y, .int .i64 A] 29)) w3) := grown_below (Below.refl _ _) (ownsB_nil _ _) hg3 (Nat.le_refl _); have O3 : Hid (OwnsB w3 (w2.alloc (.cells #[.int .i64 Y, .int .i64 A] 29)).heap.size v3 ([] ++ zs)) := hO3; have L3 : Hid ((w2.alloc (.cells #[.int .i64 Y, .int .i64 A] 29)).heap.size ≤ w3.heap.size) := b3.out.size; clear hO3 hg3 HB0)
          | (at_builtin; guard_hyp HB1; guard_hyp O3; refine wpList_append_bytes rfl _ _ rfl (w2.alloc (.cells #[.int .i64 Y, .int .i64 A] 29)).heap.size v3 ([] ++ zs) [32] rfl (O3.out.alloc _) (some ⟨w3.heap.size, 0, none⟩) 1 1 rfl rfl (by simp) (bytes_row w3 [32] (0, 0) (by decide) (by decide)) (by have := HL.out; have := HS.out; simp; omega) (Nat.le_trans L3.out (by simp)) ?_; intro v4 w4 hO4 hg4; have b4 : Hid (Below (w2.alloc (.cells #[.int .i64 Y, .int .i64 A] 29)).heap.size (w2.alloc (.cells #[.int .i64 Y, .int .i64 A] 29)) w4) := grown_below (b3.out.trans ((alloc_below w3 _).mono L3.out)) (O3.out.alloc _) hg4 (Nat.le_trans L3.out (by simp)); have O4 : Hid (OwnsB w4 (w2.alloc (.cells #[.int .i64 Y, .int .i64 A] 29)).heap.size v4 (([] ++ zs) ++ [32])) := hO4; have L4 : Hid ((w2.alloc (.cells #[.int .i64 Y, .int .i64 A] 29)).heap.size ≤ w4.heap.size) := b4.out.size; clear hO4 hg4 O3 b3 L3)
          | (at_builtin; guard_hyp HB1; guard_hyp O4; refine wpList_append_bytes rfl _ _ rfl (w2.alloc (.cells #[.int .i64 Y, .int .i64 A] 29)).heap.size v4 (([] ++ zs) ++ [32]) ys rfl O4.out a1 n1 c1 rfl HL.out.2 HB1.out.2 ((HB1.out.1.kept B2.out).kept b4.out) (by have := HL.out; have := HS.out; simp; omega) L4.out ?_; intro v5 w5 hO5 hg5; have b5 : Hid (Below (w2.alloc (.cells #[.int .i64 Y, .int .i64 A] 29)).heap.size (w2.alloc (.cells #[.int .i64 Y, .int .i64 A] 29)) w5) := grown_below b4.out O4.out hg5 L4.out; rw [hE.out] at hO5; obtain ⟨a2, n2, c2, rfl, hl2, _, hc2, hm2, hB2⟩ := hO5.form; have F5 : Hid ((zs ++ 32 :: ys).length = n2 ∧ Bytes w5 a2 (zs ++ 32 :: ys) ∧ n2 ≤ c2) := ⟨hl2.out, hB2, hc2⟩; have k3' := k3.out w5 a2 n2 c2 F5.out.1 F5.out.2.1 F5.out.2.2 (by have := HL.out; have := HS.out; have h := F5.out.1; simp at h; omega); clear hO5 hg5 O4 b4 HB1 L4 hl2 hc2 hm2 hB2 k3))
        have e9 : (((n0 + 1 + c.frm : Nat) : Nat) : Int) = (n0 : Int) + 1 + (c.frm : Int) := by omega
        rw [e9] at k3'
        refine k3'.mono ?_
        rintro e w7 ⟨D3, b3, he, hN, hB7⟩
        rw [Nb.arr] at he
        subst he
        clear k3' e9
        have G3 : Hid (PS w5 ((w7.alloc (.cells #[.int .i64 b3.kind, .int .u64 b3.num, .bool b3.neg, .string b3.dig, .int .i64 b3.exp, .string b3.txt, .slice b3.ab b3.lb b3.cb, .slice b3.ak b3.lk b3.ck, .slice b3.ai b3.li b3.ci] 26)).alloc (.cells #[.int .i64 10, .int .i64 ((n0 : Int) + 1 + (c.frm : Int))] 29)) w7.heap.size b3 T3 10 ((n0 : Int) + 1 + (c.frm : Int))) := ps_new hB7 hN
        have B7 : Below (w2.alloc (.cells #[.int .i64 Y, .int .i64 A] 29)).heap.size (w2.alloc (.cells #[.int .i64 Y, .int .i64 A] 29)) ((w7.alloc (.cells #[.int .i64 b3.kind, .int .u64 b3.num, .bool b3.neg, .string b3.dig, .int .i64 b3.exp, .string b3.txt, .slice b3.ab b3.lb b3.cb, .slice b3.ak b3.lk b3.ck, .slice b3.ai b3.li b3.ci] 26)).alloc (.cells #[.int .i64 10, .int .i64 ((n0 : Int) + 1 + (c.frm : Int))] 29)) := b5.out.trans (G3.out.bel.mono b5.out.size)
        have BW : Hid (Below w.heap.size w ((w7.alloc (.cells #[.int .i64 b3.kind, .int .u64 b3.num, .bool b3.neg, .string b3.dig, .int .i64 b3.exp, .string b3.txt, .slice b3.ab b3.lb b3.cb, .slice b3.ak b3.lk b3.ck, .slice b3.ai b3.li b3.ci] 26)).alloc (.cells #[.int .i64 10, .int .i64 ((n0 : Int) + 1 + (c.frm : Int))] 29))) := B2.out.trans (B7.mono B2.out.size)
        have m0 := G3.out.flt.cell 0
        have m1 := G3.out.flt.cell 1
        have t1 : ((w7.alloc (.cells #[.int .i64 b3.kind, .int .u64 b3.num, .bool b3.neg, .string b3.dig, .int .i64 b3.exp, .string b3.txt, .slice b3.ab b3.lb b3.cb, .slice b3.ak b3.lk b3.ck, .slice b3.ai b3.li b3.ci] 26)).alloc (.cells #[.int .i64 10, .int .i64 ((n0 : Int) + 1 + (c.frm : Int))] 29)).cell? ⟨gl, 1, none⟩ = some (.int .i64 (c.frm : Nat)) := (B7.cell (p := ⟨gl, 1, none⟩) CL.out.1).trans CL.out.2
        have NB : Hid (w7.heap.size + 1 < ((w7.alloc (.cells #[.int .i64 b3.kind, .int .u64 b3.num, .bool b3.neg, .string b3.dig, .int .i64 b3.exp, .string b3.txt, .slice b3.ab b3.lb b3.cb, .slice b3.ak b3.lk b3.ck, .slice b3.ai b3.li b3.ci] 26)).alloc (.cells #[.int .i64 10, .int .i64 ((n0 : Int) + 1 + (c.frm : Int))] 29)).heap.size ∧ gl < ((w7.alloc (.cells #[.int .i64 b3.kind, .int .u64 b3.num, .bool b3.neg, .string b3.dig, .int .i64 b3.exp, .string b3.txt, .slice b3.ab b3.lb b3.cb, .slice b3.ak b3.lk b3.ck, .slice b3.ai b3.li b3.ci] 26)).alloc (.cells #[.int .i64 10, .int .i64 ((n0 : Int) + 1 + (c.frm : Int))] 29)).heap.size) := ⟨G3.out.lt, Nat.lt_of_lt_of_le CL.out.1 B7.size⟩
        have kA : Hid (∀ wx, Calls Tryz.prog 12 #[] wx fun e w' => e = .returned (.bool true) ∧ Below wx.heap.size wx w') := fun wx => alive_any wx
        clear hN hB7 F5 b5 B7 B2 z0 z1 CL G3
        go_wp2_with fail
        generalize ((w7.alloc (.cells #[.int .i64 b3.kind, .int .u64 b3.num, .bool b3.neg, .string b3.dig, .int .i64 b3.exp, .string b3.txt, .slice b3.ab b3.lb b3.cb, .slice b3.ak b3.lk b3.ck, .slice b3.ai b3.li b3.ci] 26)).alloc (.cells #[.int .i64 10, .int .i64 ((n0 : Int) + 1 + (c.frm : Int))] 29)) = W7 at *
        generalize w7.heap.size = p7 at *
        have S7 : Hid (W7.cell? ⟨p7 + 1, 0, none⟩ = some (.int .i64 10) ∧ W7.cell? ⟨p7 + 1, 1, none⟩ = some (.int .i64 ((n0 : Int) + 1 + (c.frm : Int))) ∧ W7.cell? ⟨gl, 1, none⟩ = some (.int .i64 (c.frm : Nat))) := ⟨m0, m1, t1⟩
        clear m0 m1 t1
        go_region_held3 (fun wx => wx.cell? ⟨p7 + 1, 0, none⟩ = some (.int .i64 10) ∧ wx.cell? ⟨p7 + 1, 1, none⟩ = some (.int .i64 ((n0 : Int) + 1 + (c.frm : Int))) ∧ wx.cell? ⟨gl, 1, none⟩ = some (.int .i64 (c.frm : Nat))) (first | exact S7.out | exact S8.out) (first
          | (go_at_call 12; refine (kA.out _).mono ?_; rintro e w8 ⟨rfl, hB8⟩; have B8 : Hid (Below W7.heap.size W7 w8) := ⟨hB8.os, hB8.tape, hB8.output, hB8.size, hB8.block⟩; have S8 : Hid (w8.cell? ⟨p7 + 1, 0, none⟩ = some (.int .i64 10) ∧ w8.cell? ⟨p7 + 1, 1, none⟩ = some (.int .i64 ((n0 : Int) + 1 + (c.frm : Int))) ∧ w8.cell? ⟨gl, 1, none⟩ = some (.int .i64 (c.frm : Nat))) := ⟨(B8.out.cell (p := ⟨p7 + 1, 0, none⟩) NB.out.1).trans S7.out.1, (B8.out.cell (p := ⟨p7 + 1, 1, none⟩) NB.out.1).trans S7.out.2.1, (B8.out.cell (p := ⟨gl, 1, none⟩) NB.out.2).trans S7.out.2.2⟩; clear hB8))
        all_goals
          go_wp2_with fail
          go_ret
          exact ⟨rfl, BW.out.trans (B8.out.mono BW.out.size)⟩
      · have v3 : decide ((4096 : Int) < (n0 : Int) + (n1 : Int) + 1) = true := by simp; omega
        clear hE0 hPB k3 hL0
        go_wp2_with fail
        refine (alive_any _).mono ?_
        rintro e w3 ⟨rfl, hB3⟩
        go_wp2_with fail
        go_ret
        exact ⟨rfl, B2.out.trans (hB3.mono B2.out.size)⟩
  · have x1 : (X1 == 0) = false := by simpa using hX
    clear hE0 hPB k3 hX
    go_wp2_with fail
    refine (alive_any _).mono ?_
    rintro e w3 ⟨rfl, hB3⟩
    go_wp2_with fail
    go_ret
    exact ⟨rfl, B2.out.trans (hB3.mono B2.out.size)⟩
end Go.Proofs.YtmlacmoembjeoaaGreatDoor
