/-
  What stands at the end of a path, as the document says: At; and the walk of the statement on paths.
-/
import Derived.Test.YtkealjaealeojaaQEaf
import Derived.Test.YtkealjaealeojaaQGh
namespace Go.Proofs.Ytkealjaealeojaa
open Go.RowKit
set_option linter.unusedVariables false

set_option maxHeartbeats 2000000 in
set_option maxRecDepth 100000 in
/-- The document's At. -/
theorem eat_any {D : Nat} {t : Tr} {b : Nb} {w : World} {pa : Option Addr} {np cp : Nat} {ps : List Int} (hN : Nd D w b t) (hp : PathOk w pa np cp ps) :
    Calls Try.prog 21 #[.agg b.arr, .slice pa np cp] w fun e w' => (∃ b' er, e = .returned (.tuple #[.agg b'.arr, .int .i64 er]) ∧ ((1024 < t.size ∧ b' = zN ∧ er = 8) ∨ (t.size ≤ 1024 ∧ t.find ps = none ∧ b' = zN ∧ er = 19) ∨ (t.size ≤ 1024 ∧ er = 0 ∧ ∃ u, t.find ps = some u ∧ Nd D w b' u))) ∧ Below w.heap.size w w' := by
  have hal := alloc_below w (.cells b.arr 26)
  have hal2 := alloc_below (w.alloc (.cells b.arr 26)) (.cells #[.int .i64 0, .int .u64 0, .bool false, .string ⟨#[]⟩, .int .i64 0, .string ⟨#[]⟩, .slice none 0 0, .slice none 0 0, .slice none 0 0] 26)
  have s1 : (w.alloc (.cells b.arr 26)).heap.size = w.heap.size + 1 := by simp
  have s2 : ((w.alloc (.cells b.arr 26)).alloc (.cells #[.int .i64 0, .int .u64 0, .bool false, .string ⟨#[]⟩, .int .i64 0, .string ⟨#[]⟩, .slice none 0 0, .slice none 0 0, .slice none 0 0] 26)).heap.size = w.heap.size + 1 + 1 := by simp
  have x0 : Bx ((w.alloc (.cells b.arr 26)).alloc (.cells #[.int .i64 0, .int .u64 0, .bool false, .string ⟨#[]⟩, .int .i64 0, .string ⟨#[]⟩, .slice none 0 0, .slice none 0 0, .slice none 0 0] 26)) ((w.alloc (.cells b.arr 26)).alloc (.cells #[.int .i64 0, .int .u64 0, .bool false, .string ⟨#[]⟩, .int .i64 0, .string ⟨#[]⟩, .slice none 0 0, .slice none 0 0, .slice none 0 0] 26)) w.heap.size (w.heap.size + 1) b zN :=
    ⟨(nbox_new w b).kept hal2 (by omega), by have := nbox_new (w.alloc (.cells b.arr 26)) zN; rwa [s1] at this, Kp.refl _ _⟩
  have hne : Hid (w.heap.size ≠ w.heap.size + 1) := by show _ ≠ _; omega
  have hB2 : Hid (Below w.heap.size w ((w.alloc (.cells b.arr 26)).alloc (.cells #[.int .i64 0, .int .u64 0, .bool false, .string ⟨#[]⟩, .int .i64 0, .string ⟨#[]⟩, .slice none 0 0, .slice none 0 0, .slice none 0 0] 26))) := hal.trans (hal2.mono (by omega))
  have hW : Hid (∀ w', Kp (fun k => k = w.heap.size ∨ k = w.heap.size + 1) ((w.alloc (.cells b.arr 26)).alloc (.cells #[.int .i64 0, .int .u64 0, .bool false, .string ⟨#[]⟩, .int .i64 0, .string ⟨#[]⟩, .slice none 0 0, .slice none 0 0, .slice none 0 0] 26)) w' → Below w.heap.size w w') := fun w' h => hB2.out.trans (h.below (by omega) fun k hk => by omega)
  have k1 := efew_any (hN.kept hB2.out)
  have kF : Hid (∀ w', Below w.heap.size w w' → Calls Try.prog 40 #[.agg b.arr, .slice pa np cp] w' fun e w'' => (∃ b' er, e = .returned (.tuple #[.agg b'.arr, .int .i64 er]) ∧ ((t.find ps = none ∧ b' = zN ∧ er = 19) ∨ (er = 0 ∧ ∃ u, t.find ps = some u ∧ Nd D w b' u))) ∧ Below w'.heap.size w' w'') := fun w' hb => efind_any hb hN (hp.kept hb)
  clear hal hal2 s1 s2 hN hp
  obtain ⟨a0, a1, a2, a3, a4, a5, a6, a7, a8⟩ := x0.one.fields
  by_cases hf : t.size ≤ 1024
  · rw [decide_eq_true hf] at k1
    have hf' : Hid (t.size ≤ 1024) := hf
    clear hf
    go_enter Try.func21, Try.ntmps21
    go_wp2_with (first
      | (go_at_call 13; refine k1.mono ?_; rintro e w3 ⟨rfl, hb3⟩; clear k1 a0 a1 a2 a3 a4 a5 a6 a7 a8; have x1 := x0.call hb3; obtain ⟨a0, a1, a2, a3, a4, a5, a6, a7, a8⟩ := x1.one.fields; have k2 := kF.out w3 (hW.out _ x1.kp))
      | (go_at_call 40; refine k2.mono ?_; rintro e w4 ⟨⟨b', er, he, hR⟩, hb4⟩; rw [Nb.arr] at he; subst he; clear k2 a0 a1 a2 a3 a4 a5 a6 a7 a8; have x2 := x1.call hb4; obtain ⟨m0, m1, m2, m3, m4, m5, m6, m7, m8⟩ := x2.two.fields; have z0 := x2.two.fz 0; have z1 := x2.two.fz 1; have z2 := x2.two.fz 2; have z3 := x2.two.fz 3; have z4 := x2.two.fz 4; have z5 := x2.two.fz 5; have z6 := x2.two.fz 6; have z7 := x2.two.fz 7; have z8 := x2.two.fz 8))
    have x3 := x2.put hne.out b'
    obtain ⟨u0, u1, u2, u3, u4, u5, u6, u7, u8⟩ := x3.two.fields
    have hfin : (1024 < t.size ∧ b' = zN ∧ er = 8) ∨ (t.size ≤ 1024 ∧ t.find ps = none ∧ b' = zN ∧ er = 19) ∨ (t.size ≤ 1024 ∧ er = 0 ∧ ∃ u, t.find ps = some u ∧ Nd D w b' u) := by
      rcases hR with ⟨h1, h2, h3⟩ | ⟨h1, u, h2, h3⟩
      · exact .inr (.inl ⟨hf'.out, h1, h2, h3⟩)
      · exact .inr (.inr ⟨hf'.out, h1, u, h2, h3⟩)
    refine bodyPost_ret (v := .tuple #[.agg b'.arr, .int .i64 er]) (by simp [results, Try.results21, go_sem, u0, u1, u2, u3, u4, u5, u6, u7, u8, Nb.arr]) rfl ⟨⟨b', er, rfl, hfin⟩, hW.out _ x3.kp⟩
  · rw [decide_eq_false hf] at k1
    have hf' : Hid (1024 < t.size) := by show _ < _; omega
    clear hf
    go_enter Try.func21, Try.ntmps21
    go_wp2_with (first
      | (go_at_call 13; refine k1.mono ?_; rintro e w3 ⟨rfl, hb3⟩; clear k1 a0 a1 a2 a3 a4 a5 a6 a7 a8; have x2 := x0.call hb3; obtain ⟨m0, m1, m2, m3, m4, m5, m6, m7, m8⟩ := x2.two.fields; have z0 := x2.two.fz 0; have z1 := x2.two.fz 1; have z2 := x2.two.fz 2; have z3 := x2.two.fz 3; have z4 := x2.two.fz 4; have z5 := x2.two.fz 5; have z6 := x2.two.fz 6; have z7 := x2.two.fz 7; have z8 := x2.two.fz 8))
    have x3 := x2.put hne.out zN
    obtain ⟨u0, u1, u2, u3, u4, u5, u6, u7, u8⟩ := x3.two.fields
    simp only [zN] at u0 u1 u2 u3 u4 u5 u6 u7 u8
    refine bodyPost_ret (v := .tuple #[.agg #[.int .i64 0, .int .u64 0, .bool false, .string ⟨#[]⟩, .int .i64 0, .string ⟨#[]⟩, .slice none 0 0, .slice none 0 0, .slice none 0 0], .int .i64 8]) (by simp [results, Try.results21, go_sem, u0, u1, u2, u3, u4, u5, u6, u7, u8]) rfl ⟨⟨zN, 8, rfl, .inl ⟨hf'.out, rfl, rfl⟩⟩, hW.out _ x3.kp⟩

/-- A path that came in as a row. -/
theorem path_of {w : World} {a : Option Addr} {len cap : Nat} {zs : List Int} (h : IsRow .i64 w a len cap zs) (hc : cap ≤ 140737488351232) : PathOk w a len cap (zs.take len) := by
  rcases h with ⟨rfl, rfl, rfl, rfl⟩ | ⟨x, rfl, hl, hm, hz, hcell, hwz⟩
  · exact ⟨rfl, ⟨by simp, .inl rfl⟩, Nat.le_refl _, (fun k hk => by cases hk), by omega⟩
  · have hlen : (zs.take len).length = len := by rw [List.length_take]; omega
    refine ⟨hlen, ⟨by omega, ?_⟩, hl, fun k hk => ?_, by omega⟩
    · by_cases h0 : len = 0
      · left; subst h0; simp
      · right
        obtain ⟨b, off, spot⟩ := x
        have hc0 := hcell 0 (by omega)
        have hspot : spot = none := by simpa [Addr.add] using World.cell?_spot hc0
        subst hspot
        refine ⟨b, off, rfl, fun i hi => ?_⟩
        have hi' : i < len := by omega
        have := hcell i (by omega)
        rw [List.getD_eq_getElem?_getD, List.getElem?_take, if_pos hi', ← List.getD_eq_getElem?_getD]
        by_cases h1 : i = 0
        · subst h1; simpa [Addr.add] using this
        · simpa [Addr.add, h1] using this
    · have := hwz k (List.mem_of_mem_take hk)
      simp [Lit.wf, show IntKind.i64.min = -9223372036854775808 from by decide, show IntKind.i64.max = 9223372036854775807 from by decide] at this
      omega
theorem AtIs.nd {B D : Nat} {w : World} {t : Tr} {ps : List Int} {b' : Nb} {er : Int} (h : AtIs B D w t ps b' er) : ∃ u, Nd (D + 1) w b' u ∧ ((er ≠ 0 ∧ u = zT) ∨ (er = 0 ∧ t.size ≤ 1024 ∧ t.find ps = some u)) := by
  rcases h with ⟨_, rfl, rfl⟩ | ⟨_, _, rfl, rfl⟩ | ⟨h1, rfl, u, f, h2, h3⟩
  · exact ⟨zT, nd_zero _ _, .inl ⟨by decide, rfl⟩⟩
  · exact ⟨zT, nd_zero _ _, .inl ⟨by decide, rfl⟩⟩
  · exact ⟨u, nd_succ _ h3.1.nd, .inr ⟨rfl, h1, h2⟩⟩
/-- Both answers meet. -/
theorem paths_meet {B D : Nat} {w1 wa w2 wb : World} {t : Tr} {ps : List Int} {b1 b2 : Nb} {e1 e2 : Int} (hA : AtIs B D w1 t ps b1 e1)
    (hE : (1024 < t.size ∧ b2 = zN ∧ e2 = 8) ∨ (t.size ≤ 1024 ∧ t.find ps = none ∧ b2 = zN ∧ e2 = 19) ∨ (t.size ≤ 1024 ∧ e2 = 0 ∧ ∃ u, t.find ps = some u ∧ Nd D wa b2 u))
    (hb2 : Below wa.heap.size wa w2) (hA1 : Below w1.heap.size w1 wa) (hA2 : Below w2.heap.size w2 wb) :
    Calls Try.prog 22 #[.agg b1.arr, .agg b2.arr] wb (fun e w' => e = .returned (.bool true) ∧ Below wb.heap.size wb w') ∧ (e1 == e2) = true := by
  have hk : ∀ {D : Nat} {b : Nb} {u : Tr}, Nd D wa b u → Nd D wb b u := fun h => (h.kept hb2).kept hA2
  rcases hA with ⟨h1, rfl, rfl⟩ | ⟨h1, h2, rfl, rfl⟩ | ⟨h1, rfl, u, f, h2, h3⟩
  · rcases hE with ⟨_, rfl, rfl⟩ | ⟨g1, _⟩ | ⟨g1, _⟩
    · exact ⟨both_any (nd_zero 0 wb) (nd_zero 0 wb) rfl, rfl⟩
    · omega
    · omega
  · rcases hE with ⟨g1, _⟩ | ⟨_, _, rfl, rfl⟩ | ⟨_, _, v, g2, _⟩
    · omega
    · exact ⟨both_any (nd_zero 0 wb) (nd_zero 0 wb) rfl, rfl⟩
    · rw [h2] at g2; cases g2
  · rcases hE with ⟨g1, _⟩ | ⟨_, g2, _⟩ | ⟨_, rfl, v, g2, g3⟩
    · omega
    · rw [h2] at g2; cases g2
    · rw [h2] at g2
      cases g2
      exact ⟨both_any (hk (h3.1.nd.kept hA1)) (hk g3) rfl, rfl⟩
set_option maxHeartbeats 2000000 in
set_option maxRecDepth 100000 in
theorem wpaths {D : Nat} {t : Tr} {b : Nb} {w : World} {pa : Option Addr} {np cp : Nat} {ps : List Int} (hN : Nd D w b t) (hp : PathOk w pa np cp ps) :
    Calls Try.prog 5 #[.agg b.arr, .slice pa np cp] w fun e w' => e = .returned (.bool true) ∧ Below w.heap.size w w' := by
  have B0 : Hid (Below w.heap.size w (w.alloc (.cells b.arr 26))) := alloc_below w _
  have Q0 : Hid (NBox (w.alloc (.cells b.arr 26)) w.heap.size b) := nbox_new w b
  obtain ⟨a0, a1, a2, a3, a4, a5, a6, a7, a8⟩ := (nbox_new w b).fields
  have k1 := gat_any (hN.kept B0.out) (hp.kept B0.out)
  have kE : Hid (∀ w', Below w.heap.size w w' → Calls Try.prog 21 #[.agg b.arr, .slice pa np cp] w' _) := fun w' hb => eat_any (hN.kept hb) (hp.kept hb)
  have kA : Hid (∀ w', Calls Try.prog 11 #[] w' _) := fun w' => alive_any w'
  clear hN hp
  go_enter Try.func5, Try.ntmps5
  go_wp2_with (first
    | (go_at_call 20; refine k1.mono ?_; rintro e w1 ⟨⟨b1, e1, he, hA⟩, hb1⟩; rw [Nb.arr] at he; subst he; clear k1 a0 a1 a2 a3 a4 a5 a6 a7 a8; have Q1 := Q0.out.kept hb1 Q0.out.lt; have B1 := B0.out.trans (hb1.mono B0.out.size); have A1 := alloc_below w1 (.cells #[.int .i64 b1.kind, .int .u64 b1.num, .bool b1.neg, .string b1.dig, .int .i64 b1.exp, .string b1.txt, .slice b1.ab b1.lb b1.cb, .slice b1.ak b1.lk b1.ck, .slice b1.ai b1.li b1.ci] 26); have Q2 := Q1.kept A1 Q1.lt; have B2 := B1.trans (A1.mono B1.size); have P1 : NBox (w1.alloc (.cells #[.int .i64 b1.kind, .int .u64 b1.num, .bool b1.neg, .string b1.dig, .int .i64 b1.exp, .string b1.txt, .slice b1.ab b1.lb b1.cb, .slice b1.ak b1.lk b1.ck, .slice b1.ai b1.li b1.ci] 26)) w1.heap.size b1 := nbox_new w1 b1; obtain ⟨a0, a1, a2, a3, a4, a5, a6, a7, a8⟩ := Q2.fields; have k2 := kE.out _ B2)
    | (go_at_call 21; refine k2.mono ?_; rintro e w2 ⟨⟨b2, e2, he, hE⟩, hb2⟩; rw [Nb.arr] at he; subst he; clear k2 a0 a1 a2 a3 a4 a5 a6 a7 a8; have A2 := alloc_below w2 (.cells #[.int .i64 b2.kind, .int .u64 b2.num, .bool b2.neg, .string b2.dig, .int .i64 b2.exp, .string b2.txt, .slice b2.ab b2.lb b2.cb, .slice b2.ak b2.lk b2.ck, .slice b2.ai b2.li b2.ci] 26); have P1' := (P1.kept hb2 P1.lt).kept A2 (Nat.lt_of_lt_of_le P1.lt hb2.size); have P2 : NBox (w2.alloc (.cells #[.int .i64 b2.kind, .int .u64 b2.num, .bool b2.neg, .string b2.dig, .int .i64 b2.exp, .string b2.txt, .slice b2.ab b2.lb b2.cb, .slice b2.ak b2.lk b2.ck, .slice b2.ai b2.li b2.ci] 26)) w2.heap.size b2 := nbox_new w2 b2; have B3 := (B2.trans (hb2.mono B2.size)).trans (A2.mono (Nat.le_trans B2.size hb2.size)); obtain ⟨c0, c1, c2, c3, c4, c5, c6, c7, c8⟩ := P1'.fields; obtain ⟨d0, d1, d2, d3, d4, d5, d6, d7, d8⟩ := P2.fields; obtain ⟨k3, hee⟩ := paths_meet hA hE hb2 A1 A2; have hee' : (e1 == e2) = true := hee; clear hee hA hE)
    | (go_at_call 22; refine k3.mono ?_; rintro e w4 ⟨rfl, hb4⟩; have B4 := B3.trans (hb4.mono B3.size); have k5 := kA.out w4)
    | (go_at_call 11; refine k5.mono ?_; rintro e w5 ⟨rfl, hb5⟩))
  go_ret
  exact ⟨rfl, B4.trans (hb5.mono B4.size)⟩
end Go.Proofs.Ytkealjaealeojaa
