/-
  A tree with a node at a path, as the document says: Lay.
-/
import Derived.Test.YtkealjaealeojabQElh
namespace Go.Proofs.Ytkealjaealeojab
open Go.RowKit
set_option linter.unusedVariables false
set_option maxHeartbeats 1000000 in
set_option maxRecDepth 100000 in
theorem lay_no {B D Dx : Nat} {t tx : Tr} {b x : Nb} {w : World} {pa : Option Addr} {np cp : Nat} {k : Int} {p : List Int} (hB : B ≤ w.heap.size) (hN : NdS (· < B) (D + 1) w b t) (hX : NdS (· < B) Dx w x tx) (hp : PathOk w pa np cp (k :: p)) (hsz : t.size ≤ 1000000) (hw : t.way k = none) :
    Calls Try.prog 28 #[.agg b.arr, .slice pa np cp, .agg x.arr] w fun e w' => (∃ b' er, e = .returned (.tuple #[.agg b'.arr, .int .i64 er]) ∧ LayIs B ((D + 1) + Dx) w w' t tx (k :: p) b' er) ∧ Below w.heap.size w w' := by
  have T0 : Hid (Bt w (((w.alloc (.cells b.arr 26)).alloc (.cells x.arr 26)).alloc (.cells #[.int .i64 0, .int .u64 0, .bool false, .string ⟨#[]⟩, .int .i64 0, .string ⟨#[]⟩, .slice none 0 0, .slice none 0 0, .slice none 0 0] 26)) b x zN) := bt_new w b x zN
  have hP : Hid (PathOk w pa np cp (k :: p)) := hp
  have hX' : Hid (NdS (· < B) Dx w x tx) := hX
  have hB' : Hid (B ≤ w.heap.size) := hB
  have hS : Hid (t.size ≤ 1000000) := hsz
  have hnp : ((np : Int) == 0) = false := by have := hp.1; simp at this; simp; omega
  have hnp0 : 0 < np := by have := hp.1; simp at this; omega
  have hnp2 : (1 : Int) ≤ (np : Int) := by have := hp.1; simp at this; omega
  have hnp3 : 1 ≤ np := by have := hp.1; simp at this; omega
  have hnp1 : (0 : Int) < (np : Int) := by have := hp.1; simp at this; omega
  obtain ⟨pb, po, rfl, hpc⟩ : ∃ pb po, pa = some ⟨pb, po, none⟩ ∧ ∀ wx, Below w.heap.size w wx → wx.cell? ⟨pb, po, none⟩ = some (.int .i64 k) := by
    rcases hp.2.1.2 with h2 | ⟨pb, po, h2, _⟩
    · cases h2
    · exact ⟨pb, po, h2, fun wx hb => by have h1 := hp.2.1.kept hb; rw [h2] at h1; have := h1.cell (i := 0) (by simp); simpa using this⟩
  have hpc' : Hid (∀ wx, Below w.heap.size w wx → wx.cell? ⟨pb, po, none⟩ = some (.int .i64 k)) := hpc
  have hkr := hp.2.2.2.1 k List.mem_cons_self
  have hN' : Hid (NdS (· < B) (D + 1) w b t) := hN
  have rk := hN.2.2.2.2.1.2.1
  have ri := hN.2.2.2.2.2.2.1
  have kw := fun w' => eway_any b k hkr.2 ⟨rk.1, rk.2.1, ri.1, ri.2.1⟩ w'
  have mk' := rk.2.1
  have mi' := ri.2.1
  have mk1 := rk.1
  have mi1 := ri.1
  have hnk : Hid (b.ak = none → b.ck = 0) := rk.2.2.1
  have hni : Hid (b.ai = none → b.ci = 0) := ri.2.2.1
  unfold maxLen at mk' mi'
  have ncp : np ≤ cp := hp.2.2.1
  have np2 := hp.2.2.2.2
  obtain ⟨f0, f1, f2, f3, f4, f5, f6, f7, f8⟩ := T0.out.one.fields
  have hno := wayA_no hN.nd hw
  have hfin : Hid (t.lay tx (k :: p) = none) := Tr.lay_none hw
  generalize (wayA b k).1 = J at *
  generalize (wayA b k).2.1 = SD at *
  rw [hno] at kw
  clear hw hno hB hN hX hp hsz hpc rk ri
  go_enter Try.func28, Try.ntmps28
  go_wp2
  go_region_held3 (fun wx => (wx.cell? ⟨w.heap.size, 0, none⟩ = some (.int .i64 b.kind) ∧ wx.cell? ⟨w.heap.size, 1, none⟩ = some (.int .u64 b.num) ∧ wx.cell? ⟨w.heap.size, 2, none⟩ = some (.bool b.neg) ∧ wx.cell? ⟨w.heap.size, 3, none⟩ = some (.string b.dig) ∧ wx.cell? ⟨w.heap.size, 4, none⟩ = some (.int .i64 b.exp) ∧ wx.cell? ⟨w.heap.size, 5, none⟩ = some (.string b.txt) ∧ wx.cell? ⟨w.heap.size, 6, none⟩ = some (.slice b.ab b.lb b.cb) ∧ wx.cell? ⟨w.heap.size, 7, none⟩ = some (.slice b.ak b.lk b.ck) ∧ wx.cell? ⟨w.heap.size, 8, none⟩ = some (.slice b.ai b.li b.ci)) ∧ wx.cell? ⟨pb, po, none⟩ = some (.int .i64 k)) (first | exact ⟨T0.out.one.fields, hpc'.out _ T0.out.bel.drew⟩ | exact ⟨T1.out.one.fields, hpc'.out _ T1.out.bel⟩) (first
    | (go_at_call 42; refine (kw _).mono ?_; rintro e w1 ⟨rfl, q1⟩; have T1 : Hid (Bt w w1 b x zN) := T0.out.drew.on q1; clear q1))
  obtain ⟨m0, m1, m2, m3, m4, m5, m6, m7, m8⟩ := T1.out.thr.fields
  have z0 := T1.out.thr.fz 0; have z1 := T1.out.thr.fz 1; have z2 := T1.out.thr.fz 2; have z3 := T1.out.thr.fz 3; have z4 := T1.out.thr.fz 4; have z5 := T1.out.thr.fz 5; have z6 := T1.out.thr.fz 6; have z7 := T1.out.thr.fz 7; have z8 := T1.out.thr.fz 8
  go_wp2
  have T2 := T1.out.put zN
  obtain ⟨u0, u1, u2, u3, u4, u5, u6, u7, u8⟩ := T2.thr.fields
  simp only [zN] at u0 u1 u2 u3 u4 u5 u6 u7 u8
  refine bodyPost_ret (v := .tuple #[.agg #[.int .i64 0, .int .u64 0, .bool false, .string ⟨#[]⟩, .int .i64 0, .string ⟨#[]⟩, .slice none 0 0, .slice none 0 0, .slice none 0 0], .int .i64 19]) (by simp [results, Try.results28, go_sem, u0, u1, u2, u3, u4, u5, u6, u7, u8]) rfl ⟨⟨zN, 19, rfl, .inl ⟨hfin.out, rfl, rfl⟩⟩, T2.bel⟩
end Go.Proofs.Ytkealjaealeojab
