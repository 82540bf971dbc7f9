/-
  Where a path leads, as the document says: Find.
-/
import Derived.Test.YtkealjaealeojaaQEaw
namespace Go.Proofs.Ytkealjaealeojaa
open Go.RowKit
set_option linter.unusedVariables false
set_option maxHeartbeats 1000000 in
set_option maxRecDepth 100000 in
/-- The document's Find. -/
theorem efind_any {D : Nat} {t : Tr} {b : Nb} {w0 w : World} {pa : Option Addr} {np cp : Nat} {ps : List Int} (hb0 : Below w0.heap.size w0 w) (hN : Nd D w0 b t) (hp : PathOk w pa np cp ps) :
    Calls Try.prog 40 #[.agg b.arr, .slice pa np cp] w fun e w' => (∃ b' er, e = .returned (.tuple #[.agg b'.arr, .int .i64 er]) ∧ ((t.find ps = none ∧ b' = zN ∧ er = 19) ∨ (er = 0 ∧ ∃ u, t.find ps = some u ∧ Nd D w0 b' u))) ∧ Below w.heap.size w w' := by
  have hal := alloc_below w (.cells b.arr 26)
  have hal2 := alloc_below (w.alloc (.cells b.arr 26)) (.cells #[.int .i64 0, .int .u64 0, .bool false, .string ⟨#[]⟩, .int .i64 0, .string ⟨#[]⟩, .slice none 0 0, .slice none 0 0, .slice none 0 0] 26)
  have s1 : (w.alloc (.cells b.arr 26)).heap.size = w.heap.size + 1 := by simp
  have s2 : ((w.alloc (.cells b.arr 26)).alloc (.cells #[.int .i64 0, .int .u64 0, .bool false, .string ⟨#[]⟩, .int .i64 0, .string ⟨#[]⟩, .slice none 0 0, .slice none 0 0, .slice none 0 0] 26)).heap.size = w.heap.size + 1 + 1 := by simp
  have x0 : Hid (Bx ((w.alloc (.cells b.arr 26)).alloc (.cells #[.int .i64 0, .int .u64 0, .bool false, .string ⟨#[]⟩, .int .i64 0, .string ⟨#[]⟩, .slice none 0 0, .slice none 0 0, .slice none 0 0] 26)) ((w.alloc (.cells b.arr 26)).alloc (.cells #[.int .i64 0, .int .u64 0, .bool false, .string ⟨#[]⟩, .int .i64 0, .string ⟨#[]⟩, .slice none 0 0, .slice none 0 0, .slice none 0 0] 26)) w.heap.size (w.heap.size + 1) b zN) :=
    ⟨(nbox_new w b).kept hal2 (by omega), by have := nbox_new (w.alloc (.cells b.arr 26)) zN; rwa [s1] at this, Kp.refl _ _⟩
  have hne : Hid (w.heap.size ≠ w.heap.size + 1) := by show _ ≠ _; omega
  have hB2 : Hid (Below w.heap.size w ((w.alloc (.cells b.arr 26)).alloc (.cells #[.int .i64 0, .int .u64 0, .bool false, .string ⟨#[]⟩, .int .i64 0, .string ⟨#[]⟩, .slice none 0 0, .slice none 0 0, .slice none 0 0] 26))) := hal.trans (hal2.mono (by omega))
  have hW : Hid (∀ w', Kp (fun k => k = w.heap.size ∨ k = w.heap.size + 1) ((w.alloc (.cells b.arr 26)).alloc (.cells #[.int .i64 0, .int .u64 0, .bool false, .string ⟨#[]⟩, .int .i64 0, .string ⟨#[]⟩, .slice none 0 0, .slice none 0 0, .slice none 0 0] 26)) w' → Below w.heap.size w w') := fun w' h => hB2.out.trans (h.below (by omega) fun k hk => by omega)
  have hN0 : Hid (Nd D w0 b t) := hN
  have Z0 : Hid (Below w0.heap.size w0 w) := hb0
  have hP : Hid (PathOk w pa np cp ps) := hp
  have hnp := hp.2.2.2.2
  have hcp := hp.2.2.1
  clear hal hal2 s1 s2 hN hp hb0
  go_enter Try.func40, Try.ntmps40
  go_wp2
  go_loopw [6, 7, 8, 9] (fun s6 _ _ _ wr => ∃ (i : Nat) (nb : Nb) (t' : Tr), i ≤ np ∧ s6 = .int .i64 i ∧ Hid (Bx ((w.alloc (.cells b.arr 26)).alloc (.cells #[.int .i64 0, .int .u64 0, .bool false, .string ⟨#[]⟩, .int .i64 0, .string ⟨#[]⟩, .slice none 0 0, .slice none 0 0, .slice none 0 0] 26)) wr w.heap.size (w.heap.size + 1) nb zN) ∧ Hid (Nd D w0 nb t') ∧ Hid (t.find ps = t'.find (ps.drop i))) (fun i _ _ _ _ => np - (intOf i).toNat)
  case atStart => exact ⟨0, b, t, Nat.zero_le _, rfl, x0, hN0, rfl⟩
  case round =>
    obtain ⟨i, nb, t', him, rfl, hX, hN', hF⟩ := hrel
    have Bel : Hid (Below w.heap.size w wr) := hW.out _ hX.out.kp
    obtain ⟨f0, f1, f2, f3, f4, f5, f6, f7, f8⟩ := hX.out.one.fields
    obtain ⟨m0, m1, m2, m3, m4, m5, m6, m7, m8⟩ := hX.out.two.fields
    by_cases hlt : i < np
    · have hz : (i : Int) < (np : Int) := by omega
      have hip : i < ps.length := by rw [hP.out.1]; exact hlt
      obtain ⟨pb, po, rfl, hpc⟩ : ∃ pb po, pa = some ⟨pb, po, none⟩ ∧ ∀ wx, Below w.heap.size w wx → wx.cell? ⟨pb, po + i, none⟩ = some (.int .i64 (ps.getD i 0)) := by
        rcases hP.out.2.1.2 with h2 | ⟨pb, po, h2, _⟩
        · rw [h2] at hip; cases hip
        · exact ⟨pb, po, h2, fun wx hb => by have h1 := hP.out.2.1.kept hb; rw [h2] at h1; exact h1.cell hip⟩
      have hgd : ps.getD i 0 = ps[i] := by rw [List.getD_eq_getElem?_getD, List.getElem?_eq_getElem hip]; rfl
      rw [hgd] at hpc
      have hkr := hP.out.2.2.2.1 _ (List.getElem_mem hip)
      have hF' : Hid (t.find ps = t'.find (ps[i] :: ps.drop (i + 1))) := by
        show _ = _
        rw [hF.out, List.drop_eq_getElem_cons hip]
      generalize ps[i] = k at *
      have hpc' : Hid (∀ wx, Below w.heap.size w wx → wx.cell? ⟨pb, po + i, none⟩ = some (.int .i64 k)) := hpc
      have hpc0 := hpc wr Bel.out
      have wi : IntKind.i64.wrap ((i : Int) + 1) = (i : Int) + 1 := by rw [IntKind.wrap_i64]; omega
      cases D with
      | zero => exact absurd hN'.out id
      | succ D =>
      have rk := hN'.out.2.2.2.1.2.1
      have ri := hN'.out.2.2.2.2.2.1
      have kw := fun w' => eway_any nb k hkr.2 ⟨rk.1, rk.2.1, ri.1, ri.2.1⟩ w'
      have mk' := rk.2.1
      have mi' := ri.2.1
      have mk1 := rk.1
      have mi1 := ri.1
      unfold maxLen at mk' mi'
      clear hpc hgd rk ri
      cases hw : t'.way k with
      | none =>
        have hno := wayA_no hN'.out hw
        have hfin : Hid (t.find ps = none) := by show _ = _; rw [hF'.out, Tr.find_none hw]
        generalize (wayA nb k).1 = J at *
        generalize (wayA nb k).2.1 = SD at *
        rw [hno] at kw
        clear hw hno hF hF'
        go_wp2
        go_region_held3 (fun wx => (wx.cell? ⟨w.heap.size, 0, none⟩ = some (.int .i64 nb.kind) ∧ wx.cell? ⟨w.heap.size, 1, none⟩ = some (.int .u64 nb.num) ∧ wx.cell? ⟨w.heap.size, 2, none⟩ = some (.bool nb.neg) ∧ wx.cell? ⟨w.heap.size, 3, none⟩ = some (.string nb.dig) ∧ wx.cell? ⟨w.heap.size, 4, none⟩ = some (.int .i64 nb.exp) ∧ wx.cell? ⟨w.heap.size, 5, none⟩ = some (.string nb.txt) ∧ wx.cell? ⟨w.heap.size, 6, none⟩ = some (.slice nb.ab nb.lb nb.cb) ∧ wx.cell? ⟨w.heap.size, 7, none⟩ = some (.slice nb.ak nb.lk nb.ck) ∧ wx.cell? ⟨w.heap.size, 8, none⟩ = some (.slice nb.ai nb.li nb.ci)) ∧ wx.cell? ⟨pb, po + i, none⟩ = some (.int .i64 k)) (first | exact ⟨hX.out.one.fields, hpc'.out _ Bel.out.drew⟩ | exact ⟨X1.out.one.fields, hpc'.out _ (hW.out _ X1.out.kp)⟩) (first
          | (go_at_call 56; refine (kw _).mono ?_; rintro e w1 ⟨rfl, q1⟩; have X1 : Hid (Bx ((w.alloc (.cells b.arr 26)).alloc (.cells #[.int .i64 0, .int .u64 0, .bool false, .string ⟨#[]⟩, .int .i64 0, .string ⟨#[]⟩, .slice none 0 0, .slice none 0 0, .slice none 0 0] 26)) w1 w.heap.size (w.heap.size + 1) nb zN) := Bx.call (w := wr.drew) ⟨hX.out.one, hX.out.two, hX.out.kp.drew⟩ q1; clear q1))
        obtain ⟨n0, n1, n2, n3, n4, n5, n6, n7, n8⟩ := X1.out.two.fields
        have z0 := X1.out.two.fz 0; have z1 := X1.out.two.fz 1; have z2 := X1.out.two.fz 2; have z3 := X1.out.two.fz 3; have z4 := X1.out.two.fz 4; have z5 := X1.out.two.fz 5; have z6 := X1.out.two.fz 6; have z7 := X1.out.two.fz 7; have z8 := X1.out.two.fz 8
        go_wp2
        have x3 := X1.out.put hne.out zN
        obtain ⟨u0, u1, u2, u3, u4, u5, u6, u7, u8⟩ := x3.two.fields
        simp only [zN] at u0 u1 u2 u3 u4 u5 u6 u7 u8
        refine bodyPost_ret (v := .tuple #[.agg #[.int .i64 0, .int .u64 0, .bool false, .string ⟨#[]⟩, .int .i64 0, .string ⟨#[]⟩, .slice none 0 0, .slice none 0 0, .slice none 0 0], .int .i64 19]) (by simp [results, Try.results40, go_sem, u0, u1, u2, u3, u4, u5, u6, u7, u8]) rfl ⟨⟨zN, 19, rfl, .inl ⟨hfin.out, rfl, rfl⟩⟩, hW.out _ x3.kp⟩
      | some jb =>
        obtain ⟨j, sd⟩ := jb
        have hyes := wayA_yes hN'.out hw
        rw [hyes] at kw
        have hrow := hN'.out.side sd
        have hjl : j < (t'.side sd).length := Tr.way_lt hw
        have hjL : j < nb.sideL sd := by rw [← hrow.1]; exact hjl
        obtain ⟨bk, ok, nk, hak, hck, hNk, hbk⟩ := row_el hrow (Below.refl _ _) hjl
        have hu : (t'.side sd)[j]? = some (t'.side sd)[j] := List.getElem?_eq_getElem hjl
        have hF2 : Hid (t.find ps = ((t'.side sd)[j]).find (ps.drop (i + 1))) := by show _ = _; rw [hF'.out, Tr.find_some hw hu]
        have hE : Hid (∀ wx, Below w0.heap.size w0 wx → (wx.cell? ⟨bk, ok + j * 9, none⟩ = some (.int .i64 nk.kind) ∧ wx.cell? ⟨bk, ok + j * 9 + 1, none⟩ = some (.int .u64 nk.num) ∧ wx.cell? ⟨bk, ok + j * 9 + 2, none⟩ = some (.bool nk.neg) ∧ wx.cell? ⟨bk, ok + j * 9 + 3, none⟩ = some (.string nk.dig) ∧ wx.cell? ⟨bk, ok + j * 9 + 4, none⟩ = some (.int .i64 nk.exp) ∧ wx.cell? ⟨bk, ok + j * 9 + 5, none⟩ = some (.string nk.txt) ∧ wx.cell? ⟨bk, ok + j * 9 + 6, none⟩ = some (.slice nk.ab nk.lb nk.cb) ∧ wx.cell? ⟨bk, ok + j * 9 + 7, none⟩ = some (.slice nk.ak nk.lk nk.ck) ∧ wx.cell? ⟨bk, ok + j * 9 + 8, none⟩ = some (.slice nk.ai nk.li nk.ci))) := fun wx hb => elem_fields fun q hq => by rw [hb.cell (p := ⟨bk, ok + (j * 9 + q), none⟩) hbk]; exact hck q hq
        have hNk' : Hid (Nd (D + 1) w0 nk (t'.side sd)[j]) := nd_succ _ hNk
        generalize (t'.side sd)[j] = u at *
        clear hw hF hF' hyes hrow hjl hck hNk hbk hu
        have hjz : (0 : Int) ≤ (j : Int) := by omega
        cases sd with
        | false =>
          have hak' : Hid (nb.ai = some ⟨bk, ok, none⟩) := hak
          have hjn : (j : Int) < (nb.li : Int) := by have : j < nb.li := hjL; omega
          clear hak hjL
          go_wp2
          go_region_held3 (fun wx => (wx.cell? ⟨w.heap.size, 0, none⟩ = some (.int .i64 nb.kind) ∧ wx.cell? ⟨w.heap.size, 1, none⟩ = some (.int .u64 nb.num) ∧ wx.cell? ⟨w.heap.size, 2, none⟩ = some (.bool nb.neg) ∧ wx.cell? ⟨w.heap.size, 3, none⟩ = some (.string nb.dig) ∧ wx.cell? ⟨w.heap.size, 4, none⟩ = some (.int .i64 nb.exp) ∧ wx.cell? ⟨w.heap.size, 5, none⟩ = some (.string nb.txt) ∧ wx.cell? ⟨w.heap.size, 6, none⟩ = some (.slice nb.ab nb.lb nb.cb) ∧ wx.cell? ⟨w.heap.size, 7, none⟩ = some (.slice nb.ak nb.lk nb.ck) ∧ wx.cell? ⟨w.heap.size, 8, none⟩ = some (.slice nb.ai nb.li nb.ci)) ∧ wx.cell? ⟨pb, po + i, none⟩ = some (.int .i64 k)) (first | exact ⟨hX.out.one.fields, hpc'.out _ Bel.out.drew⟩ | exact ⟨X1.out.one.fields, hpc'.out _ (hW.out _ X1.out.kp)⟩) (first
            | (go_at_call 56; refine (kw _).mono ?_; rintro e w1 ⟨rfl, q1⟩; have X1 : Hid (Bx ((w.alloc (.cells b.arr 26)).alloc (.cells #[.int .i64 0, .int .u64 0, .bool false, .string ⟨#[]⟩, .int .i64 0, .string ⟨#[]⟩, .slice none 0 0, .slice none 0 0, .slice none 0 0] 26)) w1 w.heap.size (w.heap.size + 1) nb zN) := Bx.call (w := wr.drew) ⟨hX.out.one, hX.out.two, hX.out.kp.drew⟩ q1; clear q1))
          clear f0 f1 f2 f3 f4 f5 f6 f7 f8
          obtain ⟨f0, f1, f2, f3, f4, f5, f6, f7, f8⟩ := X1.out.one.fields
          obtain ⟨g0, g1, g2, g3, g4, g5, g6, g7, g8⟩ := hE.out w1 (Z0.out.trans ((hW.out _ X1.out.kp).mono Z0.out.size))
          have z0 := X1.out.one.fz 0; have z1 := X1.out.one.fz 1; have z2 := X1.out.one.fz 2; have z3 := X1.out.one.fz 3; have z4 := X1.out.one.fz 4; have z5 := X1.out.one.fz 5; have z6 := X1.out.one.fz 6; have z7 := X1.out.one.fz 7; have z8 := X1.out.one.fz 8
          have hak2 := hak'.out
          go_wp2
          go_roundw
          case rel => exact ⟨i + 1, nk, u, by omega, by go_num, (X1.out.swap.put hne.out.symm nk).swap, hNk', hF2⟩
          case measure => simp [intOf]; omega
        | true =>
          have hak' : Hid (nb.ak = some ⟨bk, ok, none⟩) := hak
          have hjn : (j : Int) < (nb.lk : Int) := by have : j < nb.lk := hjL; omega
          clear hak hjL
          go_wp2
          go_region_held3 (fun wx => (wx.cell? ⟨w.heap.size, 0, none⟩ = some (.int .i64 nb.kind) ∧ wx.cell? ⟨w.heap.size, 1, none⟩ = some (.int .u64 nb.num) ∧ wx.cell? ⟨w.heap.size, 2, none⟩ = some (.bool nb.neg) ∧ wx.cell? ⟨w.heap.size, 3, none⟩ = some (.string nb.dig) ∧ wx.cell? ⟨w.heap.size, 4, none⟩ = some (.int .i64 nb.exp) ∧ wx.cell? ⟨w.heap.size, 5, none⟩ = some (.string nb.txt) ∧ wx.cell? ⟨w.heap.size, 6, none⟩ = some (.slice nb.ab nb.lb nb.cb) ∧ wx.cell? ⟨w.heap.size, 7, none⟩ = some (.slice nb.ak nb.lk nb.ck) ∧ wx.cell? ⟨w.heap.size, 8, none⟩ = some (.slice nb.ai nb.li nb.ci)) ∧ wx.cell? ⟨pb, po + i, none⟩ = some (.int .i64 k)) (first | exact ⟨hX.out.one.fields, hpc'.out _ Bel.out.drew⟩ | exact ⟨X1.out.one.fields, hpc'.out _ (hW.out _ X1.out.kp)⟩) (first
            | (go_at_call 56; refine (kw _).mono ?_; rintro e w1 ⟨rfl, q1⟩; have X1 : Hid (Bx ((w.alloc (.cells b.arr 26)).alloc (.cells #[.int .i64 0, .int .u64 0, .bool false, .string ⟨#[]⟩, .int .i64 0, .string ⟨#[]⟩, .slice none 0 0, .slice none 0 0, .slice none 0 0] 26)) w1 w.heap.size (w.heap.size + 1) nb zN) := Bx.call (w := wr.drew) ⟨hX.out.one, hX.out.two, hX.out.kp.drew⟩ q1; clear q1))
          clear f0 f1 f2 f3 f4 f5 f6 f7 f8
          obtain ⟨f0, f1, f2, f3, f4, f5, f6, f7, f8⟩ := X1.out.one.fields
          obtain ⟨g0, g1, g2, g3, g4, g5, g6, g7, g8⟩ := hE.out w1 (Z0.out.trans ((hW.out _ X1.out.kp).mono Z0.out.size))
          have z0 := X1.out.one.fz 0; have z1 := X1.out.one.fz 1; have z2 := X1.out.one.fz 2; have z3 := X1.out.one.fz 3; have z4 := X1.out.one.fz 4; have z5 := X1.out.one.fz 5; have z6 := X1.out.one.fz 6; have z7 := X1.out.one.fz 7; have z8 := X1.out.one.fz 8
          have hak2 := hak'.out
          go_wp2
          go_roundw
          case rel => exact ⟨i + 1, nk, u, by omega, by go_num, (X1.out.swap.put hne.out.symm nk).swap, hNk', hF2⟩
          case measure => simp [intOf]; omega
    · have hz : ¬ (i : Int) < (np : Int) := by omega
      have hfin : Hid (t.find ps = some t') := by
        show _ = _
        rw [hF.out, List.drop_of_length_le (by rw [hP.out.1]; omega), Tr.find_nil]
      have z0 := hX.out.two.fz 0; have z1 := hX.out.two.fz 1; have z2 := hX.out.two.fz 2; have z3 := hX.out.two.fz 3; have z4 := hX.out.two.fz 4; have z5 := hX.out.two.fz 5; have z6 := hX.out.two.fz 6; have z7 := hX.out.two.fz 7; have z8 := hX.out.two.fz 8
      go_wp2
      have x3 := hX.out.put hne.out nb
      obtain ⟨u0, u1, u2, u3, u4, u5, u6, u7, u8⟩ := x3.two.fields
      refine bodyPost_ret (v := .tuple #[.agg nb.arr, .int .i64 0]) (by simp [results, Try.results40, go_sem, u0, u1, u2, u3, u4, u5, u6, u7, u8, Nb.arr]) rfl ⟨⟨nb, 0, rfl, .inr ⟨rfl, t', hfin.out, hN'.out⟩⟩, hW.out _ x3.kp⟩
end Go.Proofs.Ytkealjaealeojaa
