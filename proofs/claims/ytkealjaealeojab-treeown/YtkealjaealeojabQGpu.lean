/-
  A tree with a node at the end of a path: tree.Put.
-/
import Derived.Test.YtkealjaealeojabQPub
namespace Go.Proofs.Ytkealjaealeojab
open Go.RowKit
set_option linter.unusedVariables false
theorem find_no {D : Nat} {w : World} {g0 o0 : Nat} {t : Tr} {ps : List Int} {v : Value} (h : t.find ps = none) (hv : FindIs D w g0 o0 t ps v) : v = .pointer none := by
  unfold FindIs at hv
  rw [h] at hv
  exact hv
theorem find_yes {D : Nat} {w : World} {g0 o0 : Nat} {t u : Tr} {ps : List Int} {v : Value} (h : t.find ps = some u) (hv : FindIs D w g0 o0 t ps v) : ∃ g o nb, v = .pointer (some ⟨g, o, none⟩) ∧ Spot w g o nb ∧ LeadAt w g o ps g0 o0 t := by
  unfold FindIs at hv
  rw [h] at hv
  obtain ⟨g, o, nb, hv, hs, _, hL⟩ := hv
  exact ⟨g, o, nb, hv, hs, hL⟩
theorem Kp.iff2 {C C' : Nat → Prop} {w w' : World} (h : Kp C w w') (hc : ∀ k, C k → C' k) : Kp C' w w' := ⟨h.os, h.tape, h.output, h.size, fun k hk hn => h.block k hk (fun q => hn (hc k q))⟩
theorem put_base {n B C : Nat} (h : B = n + 1 + 1 + 1) (hc : B ≤ C) : n + 1 + 1 < C := by omega
/-- Only the second box has turned. -/
theorem kp_one {w w' : World} {g1 g2 : Nat} {b c : Nb} (h : Bx w w' g1 g2 b c) (h1 : NBox w g1 b) : Kp (fun k => k = g2) w w' :=
  ⟨h.kp.os, h.kp.tape, h.kp.output, h.kp.size, fun k hk hc => by
    by_cases e : k = g1
    · subst e; exact h.one.trans h1.symm
    · exact h.kp.block k hk (fun q => q.elim e hc)⟩
theorem put_ne {n B C : Nat} (h : B = n + 1 + 1 + 1) (hc : B ≤ C) : n + 1 + 1 ≠ C := by omega
theorem sets_kp (w : World) (g o : Nat) (x : Nb) : Kp (fun k => k = g) w (((((((((w.setCell ⟨g, o, none⟩ (.int .i64 x.kind)).setCell ⟨g, o + 1, none⟩ (.int .u64 x.num)).setCell ⟨g, o + 2, none⟩ (.bool x.neg)).setCell ⟨g, o + 3, none⟩ (.string x.dig)).setCell ⟨g, o + 4, none⟩ (.int .i64 x.exp)).setCell ⟨g, o + 5, none⟩ (.string x.txt)).setCell ⟨g, o + 6, none⟩ (.slice x.ab x.lb x.cb)).setCell ⟨g, o + 7, none⟩ (.slice x.ak x.lk x.ck)).setCell ⟨g, o + 8, none⟩ (.slice x.ai x.li x.ci)) := by
  have e := fun (w : World) (j : Nat) (v : Value) => (⟨rfl, rfl, rfl, by simp [World.setCell], fun k _ hc => setk hc v⟩ : Kp (fun k => k = g) w (w.setCell ⟨g, j, none⟩ v))
  exact ((((((((e _ _ _).trans (e _ _ _)).trans (e _ _ _)).trans (e _ _ _)).trans (e _ _ _)).trans (e _ _ _)).trans (e _ _ _)).trans (e _ _ _)).trans (e _ _ _)
/-- The row in which the path ends. -/
theorem put_row {B D : Nat} {w4 w5 w6 w7 : World} {t : Tr} {b4 : Nb} {f4 : List Nat} {k : Int} {p : List Int} {g o : Nat} (hF4 : Fresh B D w4 b4 t f4) (A5 : Below w4.heap.size w4 w5) (N5 : NBox w5 w4.heap.size b4)
    (hb6 : Below w5.heap.size w5 w6) (hb7 : Below w6.heap.size w6 w7) (hL6 : LeadAt w5 g o (k :: p) w4.heap.size 0 t) : ∃ cur, w7.heap[g]? = some (.cells cur 26 (0, 0)) ∧ o + 9 ≤ cur.size := by
  have hb57 := hb6.trans (hb7.mono hb6.size)
  have F7 := (hF4.kept A5).kept hb57
  have Sp7 := N5.kept hb57 N5.lt
  exact lead_row (k :: p) D b4 t f4 w4.heap.size 0 F7.1 ⟨_, F7.2.1⟩ Sp7.spot ⟨_, Sp7, by show 0 + 9 ≤ 9; omega⟩ (LeadAt.kept hb57 _ _ _ _ hL6)
/-- What comes of the write. -/
theorem put_meet {B D Dx : Nat} {w4 w5 w6 w7 w8 : World} {t tx : Tr} {b4 b7 nb0 : Nb} {f4 fx : List Nat} {k : Int} {p : List Int} {g o B3 : Nat} (hF4 : Fresh B D w4 b4 t f4) (A5 : Below w4.heap.size w4 w5) (N5 : NBox w5 w4.heap.size b4)
    (hb6 : Below w5.heap.size w5 w6) (hb7 : Below w6.heap.size w6 w7) (hFx : Fresh w6.heap.size Dx w7 b7 tx fx) (hs6 : Spot w5 g o nb0) (hL6 : LeadAt w5 g o (k :: p) w4.heap.size 0 t) (hR : NBox w7 B3 zN) (hB3 : B3 < B)
    (hW : Wrt w7 w8 g o b7) (hK : Kp (fun k => k = g) w7 w8) :
    ∃ m f', NBox w8 w4.heap.size b4 ∧ NBox w8 B3 zN ∧ t.lay tx (k :: p) = some m ∧ Fresh B (D + Dx) w8 b4 m f' ∧ Kp (fun q => B ≤ q) w7 w8 := by
  have hb57 := hb6.trans (hb7.mono hb6.size)
  have F7 := (hF4.kept A5).kept hb57
  have Sp7 := N5.kept hb57 N5.lt
  have L7 := LeadAt.kept hb57 _ _ _ _ hL6
  have hgl := hs6.lt
  have hz6 := hb6.size
  have hgx : ∀ q ∈ fx, q ≠ g := fun q hq e => by have := (hFx.2.2.2 q hq).1; omega
  have h4l : ∀ q ∈ f4, B ≤ q ∧ q < w4.heap.size := fun q hq => hF4.2.2.2 q hq
  have hA5 := A5.size
  obtain ⟨hgf, m, f', hm, l1, l2, l3, l4⟩ := lay_mem hW (hFx.1.stays fun q hq => hW.other q (hgx q hq)) (hFx.2.1.stays fun q hq => hW.other q (hgx q hq)) hFx.2.2.1 p k D b4 t f4 w4.heap.size 0 F7.1 F7.2.1 F7.2.2.1 (fun q hq hqx => by have := (h4l q hq).2; have := (hFx.2.2.2 q hqx).1; omega) Sp7.spot L7
  have hg4 := h4l g hgf
  have hsz := hK.size
  refine ⟨m, f', Sp7.same (hW.other _ (by omega)), hR.same (hW.other _ (by omega)), hm, ⟨l1, l2, l3, fun q hq => ?_⟩, hK.iff2 fun q hq => by subst hq; exact hg4.1⟩
  have h57 := hb57.size
  rcases l4 q hq with h | h
  · have := h4l q h; omega
  · have := hFx.2.2.2 q h
    omega
set_option maxHeartbeats 4000000 in
set_option maxRecDepth 100000 in
theorem gput_any {D Dx : Nat} {t tx : Tr} {b x : Nb} {w : World} {pa : Option Addr} {np cp : Nat} {ps : List Int} (hN : Nd D w b t) (hX : Nd Dx w x tx) (hp : PathOk w pa np cp ps) :
    Calls Try.prog 13 #[.agg b.arr, .slice pa np cp, .agg x.arr] w fun e w' => (∃ b' er, e = .returned (.tuple #[.agg b'.arr, .int .i64 er]) ∧ PutIs w.heap.size w' t tx ps b' er) ∧ Below w.heap.size w w' := by
  have q1 := alloc_below w (.cells b.arr 26)
  have q2 := alloc_below (w.alloc (.cells b.arr 26)) (.cells x.arr 26)
  have q3 := alloc_below ((w.alloc (.cells b.arr 26)).alloc (.cells x.arr 26)) (.cells #[.int .i64 0, .int .u64 0, .bool false, .string ⟨#[]⟩, .int .i64 0, .string ⟨#[]⟩, .slice none 0 0, .slice none 0 0, .slice none 0 0] 26)
  have s1 : (w.alloc (.cells b.arr 26)).heap.size = w.heap.size + 1 := by simp
  have s2 : ((w.alloc (.cells b.arr 26)).alloc (.cells x.arr 26)).heap.size = w.heap.size + 1 + 1 := by simp
  have s3 : Hid ((((w.alloc (.cells b.arr 26)).alloc (.cells x.arr 26)).alloc (.cells #[.int .i64 0, .int .u64 0, .bool false, .string ⟨#[]⟩, .int .i64 0, .string ⟨#[]⟩, .slice none 0 0, .slice none 0 0, .slice none 0 0] 26)).heap.size = w.heap.size + 1 + 1 + 1) := by show _ = _; simp
  have n2 := nbox_new (w.alloc (.cells b.arr 26)) x
  have n3 := nbox_new ((w.alloc (.cells b.arr 26)).alloc (.cells x.arr 26)) zN
  rw [s1] at n2
  rw [s2] at n3
  have P1 : Hid (NBox (((w.alloc (.cells b.arr 26)).alloc (.cells x.arr 26)).alloc (.cells #[.int .i64 0, .int .u64 0, .bool false, .string ⟨#[]⟩, .int .i64 0, .string ⟨#[]⟩, .slice none 0 0, .slice none 0 0, .slice none 0 0] 26)) w.heap.size b) := ((nbox_new w b).kept q2 (by omega)).kept q3 (by omega)
  have P2 : Hid (NBox (((w.alloc (.cells b.arr 26)).alloc (.cells x.arr 26)).alloc (.cells #[.int .i64 0, .int .u64 0, .bool false, .string ⟨#[]⟩, .int .i64 0, .string ⟨#[]⟩, .slice none 0 0, .slice none 0 0, .slice none 0 0] 26)) (w.heap.size + 1) x) := n2.kept q3 (by omega)
  have P3 : Hid (NBox (((w.alloc (.cells b.arr 26)).alloc (.cells x.arr 26)).alloc (.cells #[.int .i64 0, .int .u64 0, .bool false, .string ⟨#[]⟩, .int .i64 0, .string ⟨#[]⟩, .slice none 0 0, .slice none 0 0, .slice none 0 0] 26)) (w.heap.size + 1 + 1) zN) := n3
  have B3 : Hid (Below w.heap.size w (((w.alloc (.cells b.arr 26)).alloc (.cells x.arr 26)).alloc (.cells #[.int .i64 0, .int .u64 0, .bool false, .string ⟨#[]⟩, .int .i64 0, .string ⟨#[]⟩, .slice none 0 0, .slice none 0 0, .slice none 0 0] 26))) := (q1.trans (q2.mono (by omega))).trans (q3.mono (by omega))
  have hN' : Hid (Nd D w b t) := hN
  have hX' : Hid (Nd Dx w x tx) := hX
  have hP : Hid (PathOk w pa np cp ps) := hp
  have k1 := few_any (hN.kept B3.out)
  have kX : Hid (∀ w', Below w.heap.size w w' → Calls Try.prog 16 #[.agg x.arr] w' fun e w'' => e = .returned (.bool (decide (tx.size ≤ 1024))) ∧ Below w'.heap.size w' w'') := fun w' h => few_any (hX.kept h)
  clear q1 q2 q3 s1 s2 n2 n3 hN hX hp
  obtain ⟨a0, a1, a2, a3, a4, a5, a6, a7, a8⟩ := P1.out.fields
  by_cases hf : t.size ≤ 1024
  · rw [decide_eq_true hf] at k1
    by_cases hg : tx.size ≤ 1024
    · rw [decide_eq_true hg] at kX
      have hf' : Hid (t.size ≤ 1024) := hf
      have hg' : Hid (tx.size ≤ 1024) := hg
      have kC : Hid (∀ w', Below w.heap.size w w' → Calls Try.prog 18 #[.agg b.arr] w' fun e w'' => (∃ b' f, e = .returned (.agg b'.arr) ∧ Fresh w'.heap.size D w'' b' t f) ∧ Below w'.heap.size w' w'') := fun w' h => gclone_any (hN'.out.kept h) (by omega)
      have kD : Hid (∀ w', Below w.heap.size w w' → Calls Try.prog 18 #[.agg x.arr] w' fun e w'' => (∃ b' f, e = .returned (.agg b'.arr) ∧ Fresh w'.heap.size Dx w'' b' tx f) ∧ Below w'.heap.size w' w'') := fun w' h => gclone_any (hX'.out.kept h) (by omega)
      clear hf hg
      cases hfd : t.find ps with
      | none =>
        have hfd' : Hid (t.find ps = none) := hfd
        clear hfd
        go_enter Try.func13, Try.ntmps13
        go_wp2_with (first
          | (go_at_call 16; refine k1.mono ?_; rintro e w1 ⟨rfl, C1⟩; clear k1 a0 a1 a2 a3 a4 a5 a6 a7 a8; obtain ⟨a0, a1, a2, a3, a4, a5, a6, a7, a8⟩ := (P2.out.kept C1 P2.out.lt).fields; have k2 := kX.out w1 (B3.out.trans (C1.mono B3.out.size)))
          | (go_at_call 16; refine k2.mono ?_; rintro e w2 ⟨rfl, hb2⟩; clear k2 a0 a1 a2 a3 a4 a5 a6 a7 a8; have C2 := C1.trans (hb2.mono C1.size); obtain ⟨a0, a1, a2, a3, a4, a5, a6, a7, a8⟩ := (P1.out.kept C2 P1.out.lt).fields; have k3 := kC.out w2 (B3.out.trans (C2.mono B3.out.size)))
          | (go_at_call 18; refine k3.mono ?_; rintro e w4 ⟨⟨b4, f4, he, hF4⟩, hb4⟩; rw [Nb.arr] at he; subst he; clear k3 a0 a1 a2 a3 a4 a5 a6 a7 a8; have C4 := C2.trans (hb4.mono C2.size); have A5 := alloc_below w4 (.cells #[.int .i64 b4.kind, .int .u64 b4.num, .bool b4.neg, .string b4.dig, .int .i64 b4.exp, .string b4.txt, .slice b4.ab b4.lb b4.cb, .slice b4.ak b4.lk b4.ck, .slice b4.ai b4.li b4.ci] 26); have C5 := C4.trans (A5.mono C4.size); have N5 : NBox (w4.alloc (.cells #[.int .i64 b4.kind, .int .u64 b4.num, .bool b4.neg, .string b4.dig, .int .i64 b4.exp, .string b4.txt, .slice b4.ab b4.lb b4.cb, .slice b4.ak b4.lk b4.ck, .slice b4.ai b4.li b4.ci] 26)) w4.heap.size b4 := nbox_new w4 b4; have B5 := B3.out.trans (C5.mono B3.out.size); have k4 := find_path N5.spot (hF4.kept A5).1.nd (hP.out.kept B5))
          | (go_at_call 17; refine k4.mono ?_; rintro e w6 ⟨⟨v6, rfl, hv6⟩, hb6⟩; obtain rfl : v6 = .pointer none := find_no hfd'.out hv6; clear k4; have C6 := C5.trans (hb6.mono (Nat.le_trans C4.size A5.size)); have R3 := P3.out.kept C6 P3.out.lt; obtain ⟨m0, m1, m2, m3, m4, m5, m6, m7, m8⟩ := R3.fields; have z0 := R3.fz 0; have z1 := R3.fz 1; have z2 := R3.fz 2; have z3 := R3.fz 3; have z4 := R3.fz 4; have z5 := R3.fz 5; have z6 := R3.fz 6; have z7 := R3.fz 7; have z8 := R3.fz 8))
        have x9 := (Bx.put ⟨P1.out.kept C6 P1.out.lt, R3, Kp.refl _ _⟩ (show w.heap.size ≠ w.heap.size + 1 + 1 by omega) zN)
        obtain ⟨u0, u1, u2, u3, u4, u5, u6, u7, u8⟩ := x9.two.fields
        simp only [zN] at u0 u1 u2 u3 u4 u5 u6 u7 u8
        have hBf := (B3.out.trans (C6.mono B3.out.size)).trans (x9.kp.below (B := w.heap.size) (Nat.le_trans B3.out.size C6.size) (fun k hk => by omega))
        refine bodyPost_ret (v := .tuple #[.agg #[.int .i64 0, .int .u64 0, .bool false, .string ⟨#[]⟩, .int .i64 0, .string ⟨#[]⟩, .slice none 0 0, .slice none 0 0, .slice none 0 0], .int .i64 19]) (by simp [results, Try.results13, go_sem, u0, u1, u2, u3, u4, u5, u6, u7, u8]) rfl ⟨⟨zN, 19, rfl, .inr (.inl ⟨hf'.out, hg'.out, hfd'.out, rfl, rfl⟩)⟩, hBf⟩
      | some uu =>
        have hfd' : Hid (t.find ps = some uu) := hfd
        clear hfd
        cases ps with
        | nil =>
          go_enter Try.func13, Try.ntmps13
          go_wp2_with (first
            | (go_at_call 16; refine k1.mono ?_; rintro e w1 ⟨rfl, C1⟩; clear k1 a0 a1 a2 a3 a4 a5 a6 a7 a8; obtain ⟨a0, a1, a2, a3, a4, a5, a6, a7, a8⟩ := (P2.out.kept C1 P2.out.lt).fields; have k2 := kX.out w1 (B3.out.trans (C1.mono B3.out.size)))
            | (go_at_call 16; refine k2.mono ?_; rintro e w2 ⟨rfl, hb2⟩; clear k2 a0 a1 a2 a3 a4 a5 a6 a7 a8; have C2 := C1.trans (hb2.mono C1.size); obtain ⟨a0, a1, a2, a3, a4, a5, a6, a7, a8⟩ := (P1.out.kept C2 P1.out.lt).fields; have k3 := kC.out w2 (B3.out.trans (C2.mono B3.out.size)))
            | (go_at_call 18; refine k3.mono ?_; rintro e w4 ⟨⟨b4, f4, he, hF4⟩, hb4⟩; rw [Nb.arr] at he; subst he; clear k3 a0 a1 a2 a3 a4 a5 a6 a7 a8; have C4 := C2.trans (hb4.mono C2.size); have A5 := alloc_below w4 (.cells #[.int .i64 b4.kind, .int .u64 b4.num, .bool b4.neg, .string b4.dig, .int .i64 b4.exp, .string b4.txt, .slice b4.ab b4.lb b4.cb, .slice b4.ak b4.lk b4.ck, .slice b4.ai b4.li b4.ci] 26); have C5 := C4.trans (A5.mono C4.size); have N5 : NBox (w4.alloc (.cells #[.int .i64 b4.kind, .int .u64 b4.num, .bool b4.neg, .string b4.dig, .int .i64 b4.exp, .string b4.txt, .slice b4.ab b4.lb b4.cb, .slice b4.ak b4.lk b4.ck, .slice b4.ai b4.li b4.ci] 26)) w4.heap.size b4 := nbox_new w4 b4; have B5 := B3.out.trans (C5.mono B3.out.size); have k4 := find_path N5.spot (hF4.kept A5).1.nd (hP.out.kept B5))
            | (go_at_call 17; refine k4.mono ?_; rintro e w6 ⟨⟨v6, he6, hv6⟩, hb6⟩; obtain ⟨g, o, nb0, rfl, hs6, hL6⟩ := find_yes hfd'.out hv6; subst he6; clear k4; obtain ⟨rfl, rfl⟩ : g = w4.heap.size ∧ o = 0 := hL6; have C6 := C5.trans (hb6.mono (Nat.le_trans C4.size A5.size)); obtain ⟨c0, c1, c2, c3, c4, c5, c6, c7, c8⟩ := (P2.out.kept C6 P2.out.lt).fields; have k5 := kD.out w6 (B3.out.trans (C6.mono B3.out.size)))
            | (go_at_call 18; refine k5.mono ?_; rintro e w7 ⟨⟨b7, fx, he, hFx⟩, hb7⟩; rw [Nb.arr] at he; subst he; clear k5 c0 c1 c2 c3 c4 c5 c6 c7 c8; have C7 := C6.trans (hb7.mono C6.size); have hb57 := hb6.trans (hb7.mono hb6.size); have Sp7 := (N5.kept hb57 N5.lt); have hne8 := put_ne s3.out C4.size; have X8 := Bx.put ⟨P3.out.kept C7 P3.out.lt, Sp7, Kp.refl _ _⟩ hne8 b7; have R8 := X8.one; obtain ⟨m0, m1, m2, m3, m4, m5, m6, m7, m8⟩ := Sp7.fields; have y0 := Sp7.fz 0; have y1 := Sp7.fz 1; have y2 := Sp7.fz 2; have y3 := Sp7.fz 3; have y4 := Sp7.fz 4; have y5 := Sp7.fz 5; have y6 := Sp7.fz 6; have y7 := Sp7.fz 7; have y8 := Sp7.fz 8; obtain ⟨c0, c1, c2, c3, c4, c5, c6, c7, c8⟩ := X8.two.fields; obtain ⟨d0, d1, d2, d3, d4, d5, d6, d7, d8⟩ := R8.fields; have z0 := R8.fz 0; have z1 := R8.fz 1; have z2 := R8.fz 2; have z3 := R8.fz 3; have z4 := R8.fz 4; have z5 := R8.fz 5; have z6 := R8.fz 6; have z7 := R8.fz 7; have z8 := R8.fz 8))
          have X9 := (Bx.put ⟨X8.two, R8, Kp.refl _ _⟩ (Ne.symm hne8) b7)
          obtain ⟨u0, u1, u2, u3, u4, u5, u6, u7, u8⟩ := X9.two.fields
          have z3 := s3.out
          have z4 := C4.size
          have z6 := C6.size
          have z5 := A5.size
          have z66 := hb6.size
          have zlt := N5.lt
          have F9 := (hFx.kp X8.kp (fun k hk => by omega)).kp X9.kp (fun k hk => by omega)
          have hBf := ((B3.out.trans (C7.mono B3.out.size)).trans (X8.kp.below (B := w.heap.size) (Nat.le_trans B3.out.size C7.size) (fun k hk => by omega))).trans (X9.kp.below (B := w.heap.size) (Nat.le_trans (Nat.le_trans B3.out.size C7.size) X8.kp.size) (fun k hk => by omega))
          refine bodyPost_ret (v := .tuple #[.agg b7.arr, .int .i64 0]) (by simp [results, Try.results13, go_sem, u0, u1, u2, u3, u4, u5, u6, u7, u8, Nb.arr]) rfl ⟨⟨b7, 0, rfl, .inr (.inr ⟨hf'.out, hg'.out, rfl, Dx, tx, fx, rfl, F9.base (by omega)⟩)⟩, hBf⟩
        | cons k p =>
          go_enter Try.func13, Try.ntmps13
          go_wp2_with (first
            | (go_at_call 16; refine k1.mono ?_; rintro e w1 ⟨rfl, C1⟩; clear k1 a0 a1 a2 a3 a4 a5 a6 a7 a8; obtain ⟨a0, a1, a2, a3, a4, a5, a6, a7, a8⟩ := (P2.out.kept C1 P2.out.lt).fields; have k2 := kX.out w1 (B3.out.trans (C1.mono B3.out.size)))
            | (go_at_call 16; refine k2.mono ?_; rintro e w2 ⟨rfl, hb2⟩; clear k2 a0 a1 a2 a3 a4 a5 a6 a7 a8; have C2 := C1.trans (hb2.mono C1.size); obtain ⟨a0, a1, a2, a3, a4, a5, a6, a7, a8⟩ := (P1.out.kept C2 P1.out.lt).fields; have k3 := kC.out w2 (B3.out.trans (C2.mono B3.out.size)))
            | (go_at_call 18; refine k3.mono ?_; rintro e w4 ⟨⟨b4, f4, he, hF4⟩, hb4⟩; rw [Nb.arr] at he; subst he; clear k3 a0 a1 a2 a3 a4 a5 a6 a7 a8; have C4 := C2.trans (hb4.mono C2.size); have A5 := alloc_below w4 (.cells #[.int .i64 b4.kind, .int .u64 b4.num, .bool b4.neg, .string b4.dig, .int .i64 b4.exp, .string b4.txt, .slice b4.ab b4.lb b4.cb, .slice b4.ak b4.lk b4.ck, .slice b4.ai b4.li b4.ci] 26); have C5 := C4.trans (A5.mono C4.size); have N5 : NBox (w4.alloc (.cells #[.int .i64 b4.kind, .int .u64 b4.num, .bool b4.neg, .string b4.dig, .int .i64 b4.exp, .string b4.txt, .slice b4.ab b4.lb b4.cb, .slice b4.ak b4.lk b4.ck, .slice b4.ai b4.li b4.ci] 26)) w4.heap.size b4 := nbox_new w4 b4; have B5 := B3.out.trans (C5.mono B3.out.size); have k4 := find_path N5.spot (hF4.kept A5).1.nd (hP.out.kept B5))
            | (go_at_call 17; refine k4.mono ?_; rintro e w6 ⟨⟨v6, he6, hv6⟩, hb6⟩; obtain ⟨g, o, nb0, rfl, hs6, hL6⟩ := find_yes hfd'.out hv6; subst he6; clear k4; have C6 := C5.trans (hb6.mono (Nat.le_trans C4.size A5.size)); obtain ⟨c0, c1, c2, c3, c4, c5, c6, c7, c8⟩ := (P2.out.kept C6 P2.out.lt).fields; have k5 := kD.out w6 (B3.out.trans (C6.mono B3.out.size)))
            | (go_at_call 18; refine k5.mono ?_; rintro e w7 ⟨⟨b7, fx, he, hFx⟩, hb7⟩; rw [Nb.arr] at he; subst he; clear k5 c0 c1 c2 c3 c4 c5 c6 c7 c8; have C7 := C6.trans (hb7.mono C6.size); obtain ⟨cur, hrow⟩ := put_row hF4 A5 N5 hb6 hb7 hL6; obtain ⟨m, f', G8, R8, hm, F8, hKp⟩ := put_meet hF4 A5 N5 hb6 hb7 hFx hs6 hL6 (P3.out.kept C7 P3.out.lt) (put_base s3.out C2.size) (wrt9 b7 hrow.1 hrow.2) (sets_kp w7 g o b7); obtain ⟨m0, m1, m2, m3, m4, m5, m6, m7, m8⟩ := ((hs6.kept hb6).kept hb7).fields; have y0 := row_fz hrow.1 (o); have y1 := row_fz hrow.1 (o + 1); have y2 := row_fz hrow.1 (o + 2); have y3 := row_fz hrow.1 (o + 3); have y4 := row_fz hrow.1 (o + 4); have y5 := row_fz hrow.1 (o + 5); have y6 := row_fz hrow.1 (o + 6); have y7 := row_fz hrow.1 (o + 7); have y8 := row_fz hrow.1 (o + 8); obtain ⟨c0, c1, c2, c3, c4, c5, c6, c7, c8⟩ := G8.fields; obtain ⟨d0, d1, d2, d3, d4, d5, d6, d7, d8⟩ := R8.fields; have z0 := R8.fz 0; have z1 := R8.fz 1; have z2 := R8.fz 2; have z3 := R8.fz 3; have z4 := R8.fz 4; have z5 := R8.fz 5; have z6 := R8.fz 6; have z7 := R8.fz 7; have z8 := R8.fz 8))
          have hne8 := Ne.symm (put_ne s3.out C4.size)
          have X9 := (Bx.put ⟨G8, R8, Kp.refl _ _⟩ hne8 b4)
          obtain ⟨u0, u1, u2, u3, u4, u5, u6, u7, u8⟩ := X9.two.fields
          have z3 := s3.out
          have z2 := C2.size
          have z4 := C4.size
          have K9 : Kp (fun k => k = w.heap.size + 1 + 1) _ _ := (kp_one (Bx.put ⟨G8, R8, Kp.refl _ _⟩ hne8 b4) G8)
          have F9 := F8.kp K9 (fun k hk => by omega)
          have hBf := ((B3.out.trans (C7.mono B3.out.size)).trans (hKp.below (B := w.heap.size) (Nat.le_trans B3.out.size C7.size) (fun k hk => by omega))).trans (K9.below (B := w.heap.size) (Nat.le_trans (Nat.le_trans B3.out.size C7.size) hKp.size) (fun k hk => by omega))
          refine bodyPost_ret (v := .tuple #[.agg b4.arr, .int .i64 0]) (by simp [results, Try.results13, go_sem, u0, u1, u2, u3, u4, u5, u6, u7, u8, Nb.arr]) rfl ⟨⟨b4, 0, rfl, .inr (.inr ⟨hf'.out, hg'.out, rfl, _, m, f', hm, F9.base (by omega)⟩)⟩, hBf⟩
    · rw [decide_eq_false hg] at kX
      have hg' : Hid (1024 < tx.size) := by show _ < _; omega
      clear hf hg
      go_enter Try.func13, Try.ntmps13
      go_wp2_with (first
        | (go_at_call 16; refine k1.mono ?_; rintro e w1 ⟨rfl, C1⟩; clear k1 a0 a1 a2 a3 a4 a5 a6 a7 a8; obtain ⟨a0, a1, a2, a3, a4, a5, a6, a7, a8⟩ := (P2.out.kept C1 P2.out.lt).fields; have k2 := kX.out w1 (B3.out.trans (C1.mono B3.out.size)))
        | (go_at_call 16; refine k2.mono ?_; rintro e w6 ⟨rfl, hb6⟩; clear k2; have C6 := C1.trans (hb6.mono C1.size); have R3 := P3.out.kept C6 P3.out.lt; obtain ⟨m0, m1, m2, m3, m4, m5, m6, m7, m8⟩ := R3.fields; have z0 := R3.fz 0; have z1 := R3.fz 1; have z2 := R3.fz 2; have z3 := R3.fz 3; have z4 := R3.fz 4; have z5 := R3.fz 5; have z6 := R3.fz 6; have z7 := R3.fz 7; have z8 := R3.fz 8))
      have x9 := (Bx.put ⟨P1.out.kept C6 P1.out.lt, R3, Kp.refl _ _⟩ (show w.heap.size ≠ w.heap.size + 1 + 1 by omega) zN)
      obtain ⟨u0, u1, u2, u3, u4, u5, u6, u7, u8⟩ := x9.two.fields
      simp only [zN] at u0 u1 u2 u3 u4 u5 u6 u7 u8
      have hBf := (B3.out.trans (C6.mono B3.out.size)).trans (x9.kp.below (B := w.heap.size) (Nat.le_trans B3.out.size C6.size) (fun k hk => by omega))
      refine bodyPost_ret (v := .tuple #[.agg #[.int .i64 0, .int .u64 0, .bool false, .string ⟨#[]⟩, .int .i64 0, .string ⟨#[]⟩, .slice none 0 0, .slice none 0 0, .slice none 0 0], .int .i64 8]) (by simp [results, Try.results13, go_sem, u0, u1, u2, u3, u4, u5, u6, u7, u8]) rfl ⟨⟨zN, 8, rfl, .inl ⟨.inr hg'.out, rfl, rfl⟩⟩, hBf⟩
  · rw [decide_eq_false hf] at k1
    have hg' : Hid (1024 < t.size) := by show _ < _; omega
    clear hf
    go_enter Try.func13, Try.ntmps13
    go_wp2_with (first
      | (go_at_call 16; refine k1.mono ?_; rintro e w6 ⟨rfl, hb6⟩; clear k1; have C6 := hb6; have R3 := P3.out.kept C6 P3.out.lt; obtain ⟨m0, m1, m2, m3, m4, m5, m6, m7, m8⟩ := R3.fields; have z0 := R3.fz 0; have z1 := R3.fz 1; have z2 := R3.fz 2; have z3 := R3.fz 3; have z4 := R3.fz 4; have z5 := R3.fz 5; have z6 := R3.fz 6; have z7 := R3.fz 7; have z8 := R3.fz 8))
    have x9 := (Bx.put ⟨P1.out.kept C6 P1.out.lt, R3, Kp.refl _ _⟩ (show w.heap.size ≠ w.heap.size + 1 + 1 by omega) zN)
    obtain ⟨u0, u1, u2, u3, u4, u5, u6, u7, u8⟩ := x9.two.fields
    simp only [zN] at u0 u1 u2 u3 u4 u5 u6 u7 u8
    have hBf := (B3.out.trans (C6.mono B3.out.size)).trans (x9.kp.below (B := w.heap.size) (Nat.le_trans B3.out.size C6.size) (fun k hk => by omega))
    refine bodyPost_ret (v := .tuple #[.agg #[.int .i64 0, .int .u64 0, .bool false, .string ⟨#[]⟩, .int .i64 0, .string ⟨#[]⟩, .slice none 0 0, .slice none 0 0, .slice none 0 0], .int .i64 8]) (by simp [results, Try.results13, go_sem, u0, u1, u2, u3, u4, u5, u6, u7, u8]) rfl ⟨⟨zN, 8, rfl, .inl ⟨.inl hg'.out, rfl, rfl⟩⟩, hBf⟩
end Go.Proofs.Ytkealjaealeojab
