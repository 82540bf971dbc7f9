/-
  What was read of a text, in memory: the method take, the method exp.
-/
import Derived.Test.YtfkoghmbkgbgbaaDoorMake
import Derived.Lib.MinMax
namespace Go.Proofs.YtfkoghmbkgbgbaaDoor
open Go.RowKit

theorem but_setCell {a w : World} {g : Nat} (h : a.grownBy w (some g)) (j : Nat) (u : Value) : a.grownBy (w.setCell ⟨g, j, none⟩ u) (some g) :=
  ⟨h.os, h.tape, h.output, Nat.le_trans h.size (by simp [World.setCell]), fun k hk hne => (Below.heap_setCell w ⟨g, j, none⟩ u k (fun e => hne (by rw [e]))).trans (h.block k hk hne)⟩
theorem own_above {w : World} {base : Nat} {v : Value} {zs : List Int} (h : OwnsB w base v zs) : ∀ k, v.ownBlock = some k → base ≤ k ∧ k < w.heap.size := fun k hk => World.ownsRow.lt h.1 k hk
theorem OwnsB.other {w w' : World} {base : Nat} {v : Value} {zs : List Int} (h : OwnsB w base v zs) {r : Option Nat} (hg : w.grownBy w' r) (hr : ∀ k, r = some k → k < base) : OwnsB w' base v zs := by
  refine ⟨World.ownsRow.kept h.1 hg ?_, h.2⟩
  cases hv : v.ownBlock with
  | none => exact .inl rfl
  | some k =>
    refine .inr ?_
    intro e
    have h1 := own_above h k hv
    have h2 := hr k e.symm
    omega
/-- What was read, in block g. -/
def PAt (w : World) (g : Nat) (n : Bool) (v : Value) (k : Nat) (l : Bool) (m : Nat) : Prop := w.heap[g]? = some (.cells #[.bool n, v, .int .i64 k, .bool l, .int .i64 m] 107 (0, 0))
theorem PAt.lt {w : World} {g : Nat} {n : Bool} {v : Value} {k : Nat} {l : Bool} {m : Nat} (h : PAt w g n v k l m) : g < w.heap.size := (Array.getElem?_eq_some_iff.1 h).1
theorem PAt.c0 {w : World} {g : Nat} {n : Bool} {v : Value} {k : Nat} {l : Bool} {m : Nat} (h : PAt w g n v k l m) : w.cell? ⟨g, 0, none⟩ = some (.bool n) := by rw [cell_row h]; rfl
theorem PAt.c1 {w : World} {g : Nat} {n : Bool} {v : Value} {k : Nat} {l : Bool} {m : Nat} (h : PAt w g n v k l m) : w.cell? ⟨g, 1, none⟩ = some v := by rw [cell_row h]; rfl
theorem PAt.c2 {w : World} {g : Nat} {n : Bool} {v : Value} {k : Nat} {l : Bool} {m : Nat} (h : PAt w g n v k l m) : w.cell? ⟨g, 2, none⟩ = some (.int .i64 k) := by rw [cell_row h]; rfl
theorem PAt.c3 {w : World} {g : Nat} {n : Bool} {v : Value} {k : Nat} {l : Bool} {m : Nat} (h : PAt w g n v k l m) : w.cell? ⟨g, 3, none⟩ = some (.bool l) := by rw [cell_row h]; rfl
theorem PAt.c4 {w : World} {g : Nat} {n : Bool} {v : Value} {k : Nat} {l : Bool} {m : Nat} (h : PAt w g n v k l m) : w.cell? ⟨g, 4, none⟩ = some (.int .i64 m) := by rw [cell_row h]; rfl
theorem PAt.fz {w : World} {g : Nat} {n : Bool} {v : Value} {k : Nat} {l : Bool} {m : Nat} (h : PAt w g n v k l m) (j : Nat) : w.frozen? ⟨g, j, none⟩ = false := by
  unfold PAt at h
  simp [World.frozen?, h]
theorem PAt.kept {w w' : World} {B g : Nat} {n : Bool} {v : Value} {k : Nat} {l : Bool} {m : Nat} (h : PAt w g n v k l m) (hb : Below B w w') (hg : g < B) : PAt w' g n v k l m := by
  unfold PAt
  rw [hb.block g hg]
  exact h
theorem PAt.set0 {w : World} {g : Nat} {n : Bool} {v : Value} {k : Nat} {l : Bool} {m : Nat} (h : PAt w g n v k l m) (n' : Bool) : PAt (w.setCell ⟨g, 0, none⟩ (.bool n')) g n' v k l m := by
  unfold PAt at *
  rw [heap_setCell_same _ g 0 _ 107 _ h]
  rfl
theorem PAt.set1 {w : World} {g : Nat} {n : Bool} {v : Value} {k : Nat} {l : Bool} {m : Nat} (h : PAt w g n v k l m) (v' : Value) : PAt (w.setCell ⟨g, 1, none⟩ v') g n v' k l m := by
  unfold PAt at *
  rw [heap_setCell_same _ g 1 _ 107 _ h]
  rfl
theorem PAt.set2 {w : World} {g : Nat} {n : Bool} {v : Value} {k : Nat} {l : Bool} {m : Nat} (h : PAt w g n v k l m) (k' : Nat) : PAt (w.setCell ⟨g, 2, none⟩ (.int .i64 k')) g n v k' l m := by
  unfold PAt at *
  rw [heap_setCell_same _ g 2 _ 107 _ h]
  rfl
theorem PAt.set3 {w : World} {g : Nat} {n : Bool} {v : Value} {k : Nat} {l : Bool} {m : Nat} (h : PAt w g n v k l m) (l' : Bool) : PAt (w.setCell ⟨g, 3, none⟩ (.bool l')) g n v k l' m := by
  unfold PAt at *
  rw [heap_setCell_same _ g 3 _ 107 _ h]
  rfl
theorem PAt.set4 {w : World} {g : Nat} {n : Bool} {v : Value} {k : Nat} {l : Bool} {m : Nat} (h : PAt w g n v k l m) (m' : Nat) : PAt (w.setCell ⟨g, 4, none⟩ (.int .i64 m')) g n v k l m' := by
  unfold PAt at *
  rw [heap_setCell_same _ g 4 _ 107 _ h]
  rfl
theorem own_set {w : World} {g : Nat} {v : Value} {zs : List Int} (h : OwnsB w (g + 1) v zs) (j : Nat) (u : Value) : OwnsB (w.setCell ⟨g, j, none⟩ u) (g + 1) v zs :=
  h.other (but_setCell (World.grownBy.refl _ _) j u) (fun k hk => by cases hk; omega)
theorem bset {a w : World} {g : Nat} (h : Below g a w) (j : Nat) (u : Value) : Below g a (w.setCell ⟨g, j, none⟩ u) := h.setCell (p := ⟨g, j, none⟩) (Nat.le_refl _) u
/-- What was read, with its digits. -/
def Prt (w : World) (g : Nat) (p : Pd) : Prop := ∃ v, PAt w g p.1 v p.2.2.1 p.2.2.2.1 p.2.2.2.2 ∧ OwnsB w (g + 1) v p.2.1
set_option maxHeartbeats 1000000 in
theorem take_some (g : Nat) (p : Pd) (q : Nat) (c : Int) (w : World) (h : Prt w g p) (hk : p.2.1.length ≤ 4096 ∧ p.2.2.1 ≤ 4096 ∧ p.2.2.2.2 ≤ 10000) (hc : 0 ≤ c ∧ c < 256) (hd : q = 8 → 48 ≤ c) (hq : q ≤ 8) :
    Calls Tryd.prog 73 #[.pointer (some ⟨g, 0, none⟩), .int .i64 ((q : Nat) : Int), .int .u8 c] w fun e w' => (∃ u, e = .returned u) ∧ Prt w' g (takeS p q c) ∧ Below g w w' := by
  obtain ⟨n, ds, k, l, m⟩ := p
  obtain ⟨v, hp, ho⟩ := h
  dsimp only at hp ho hk
  have hP : Hid (PAt w g n v k l m) := hp
  have hO : Hid (OwnsB w (g + 1) v ds) := ho
  have hlt := hp.lt
  have c0 := hp.c0
  have c1 := hp.c1
  have c2 := hp.c2
  have c3 := hp.c3
  have c4 := hp.c4
  have f0 := hp.fz 0
  have f1 := hp.fz 1
  have f2 := hp.fz 2
  have f3 := hp.fz 3
  have f4 := hp.fz 4
  clear hp ho
  match q, hq with
  | 0, _ | 4, _ | 6, _ =>
    go_enter Tryd.func73, Tryd.ntmps73
    go_wp2
    refine bodyPost_end (results_none rfl _ _ _) rfl ?_
    exact ⟨⟨_, rfl⟩, ⟨v, hP.out, hO.out⟩, Below.refl _ _⟩
  | 1, _ =>
    go_enter Tryd.func73, Tryd.ntmps73
    go_wp2
    refine bodyPost_end (results_none rfl _ _ _) rfl ?_
    exact ⟨⟨_, rfl⟩, ⟨v, hP.out.set0 true, own_set hO.out 0 _⟩, bset (Below.refl _ _) _ _⟩
  | 7, _ =>
    go_enter Tryd.func73, Tryd.ntmps73
    go_wp2
    refine bodyPost_end (results_none rfl _ _ _) rfl ?_
    exact ⟨⟨_, rfl⟩, ⟨v, hP.out.set3 _, own_set hO.out 3 _⟩, bset (Below.refl _ _) _ _⟩
  | 8, _ =>
    obtain ⟨d, rfl⟩ : ∃ d : Nat, c = ((48 + d : Nat) : Int) := ⟨(c - 48).toNat, by have := hd rfl; omega⟩
    have hd4 : d < 208 := by omega
    have hm : m ≤ 10000 := hk.2.2
    have e1 : IntKind.u8.wrap (((48 + d : Nat) : Int) - 48) = ((d : Nat) : Int) := by
      simp [IntKind.wrap, IntKind.bits, IntKind.signed]; omega
    have e2 : IntKind.i64.wrap ((m : Int) * 10) = ((m * 10 : Nat) : Int) := by rw [IntKind.wrap_i64] <;> omega
    have e3 : IntKind.i64.wrap (((m * 10 : Nat) : Int) + ((d : Nat) : Int)) = ((m * 10 + d : Nat) : Int) := by rw [IntKind.wrap_i64] <;> omega
    have e6 : IntKind.i64.wrap ((d : Nat) : Int) = ((d : Nat) : Int) := by rw [IntKind.wrap_i64] <;> omega
    have e4 : min (((m * 10 + d : Nat) : Int)) 10000 = ((min (m * 10 + d) 10000 : Nat) : Int) := by omega
    have e5 : takeS (n, ds, k, l, m) 8 ((48 + d : Nat) : Int) = (n, ds, k, l, min (m * 10 + d) 10000) := by
      have h6 : (((48 + d : Nat) : Int) - 48).toNat = d := by omega
      simp [takeS]
      omega
    rw [e5]
    clear e5 hk hd hc hm hd4
    generalize ((48 + d : Nat) : Int) = C at *
    generalize hM : min (m * 10 + d) 10000 = M at *
    clear hM
    generalize ((m * 10 + d : Nat) : Int) = X at *
    generalize ((m * 10 : Nat) : Int) = Y at *
    go_enter Tryd.func73, Tryd.ntmps73
    go_wp2
    refine bodyPost_end (results_none rfl _ _ _) rfl ?_
    exact ⟨⟨_, rfl⟩, ⟨v, hP.out.set4 M, own_set hO.out 4 _⟩, bset (Below.refl _ _) _ _⟩
  | 2, _ | 3, _ =>
    have hB1 : Hid (Bytes (w.alloc (.cells #[.int .u8 c] 5)) (some ⟨w.heap.size, 0, none⟩) [c]) := one_byte w c hc.1 hc.2
    have hlen : ds.length ≤ 4096 := hk.1
    clear hk hd hc
    go_enter Tryd.func73, Tryd.ntmps73
    go_wp2_with (at_builtin; refine wpList_append_bytes rfl _ (.tmp 21) rfl (g + 1) v ds [c] rfl (hO.out.alloc _) (some ⟨w.heap.size, 0, none⟩) 1 1 rfl rfl (by simp) hB1.out (by simp; omega) (by simp; omega) ?_; intro v4 w4 ho4' hg4; have hb4 : Hid (Below (g + 1) w w4) := grown_below ((Below.refl (g + 1) w).alloc (by omega) _) (hO.out.alloc _) hg4 (by simp; omega); have hP4 : Hid (PAt w4 g n v k l m) := hP.out.kept hb4.out (by omega); have cc1 := hP4.out.c1; have ff1 := hP4.out.fz 1; have ho4 : Hid (OwnsB w4 (g + 1) v4 (ds ++ [c])) := ho4'; clear ho4'; obtain ⟨a4, n4, cp4, rfl, -, -, -, -, -⟩ := ho4.out.form)
    refine bodyPost_end (results_none rfl _ _ _) rfl ?_
    exact ⟨⟨_, rfl⟩, ⟨_, hP4.out.set1 _, own_set ho4.out 1 _⟩, bset (hb4.out.mono (by omega)) _ _⟩
  | 5, _ =>
    have hB1 : Hid (Bytes (w.alloc (.cells #[.int .u8 c] 5)) (some ⟨w.heap.size, 0, none⟩) [c]) := one_byte w c hc.1 hc.2
    have hlen : ds.length ≤ 4096 := hk.1
    have e2 : IntKind.i64.wrap ((k : Int) + 1) = ((k + 1 : Nat) : Int) := by have := hk.2.1; rw [IntKind.wrap_i64] <;> omega
    have e5 : takeS (n, ds, k, l, m) 5 c = (n, ds ++ [c], k + 1, l, m) := by simp [takeS]
    rw [e5]
    clear hk hd hc e5
    generalize k + 1 = K at *
    go_enter Tryd.func73, Tryd.ntmps73
    go_wp2_with (at_builtin; refine wpList_append_bytes rfl _ (.tmp 33) rfl (g + 1) v ds [c] rfl (hO.out.alloc _) (some ⟨w.heap.size, 0, none⟩) 1 1 rfl rfl (by simp) hB1.out (by simp; omega) (by simp; omega) ?_; intro v4 w4 ho4' hg4; have hb4 : Hid (Below (g + 1) w w4) := grown_below ((Below.refl (g + 1) w).alloc (by omega) _) (hO.out.alloc _) hg4 (by simp; omega); have hP4 : Hid (PAt w4 g n v k l m) := hP.out.kept hb4.out (by omega); have cc1 := hP4.out.c1; have ff1 := hP4.out.fz 1; have cc2 := hP4.out.c2; have ff2 := hP4.out.fz 2; have ho4 : Hid (OwnsB w4 (g + 1) v4 (ds ++ [c])) := ho4'; clear ho4'; obtain ⟨a4, n4, cp4, rfl, -, -, -, -, -⟩ := ho4.out.form)
    refine bodyPost_end (results_none rfl _ _ _) rfl ?_
    exact ⟨⟨_, rfl⟩, ⟨_, (hP4.out.set1 _).set2 K, own_set (own_set ho4.out 1 _) 2 _⟩, bset (bset (hb4.out.mono (by omega)) _ _) _ _⟩
end Go.Proofs.YtfkoghmbkgbgbaaDoor
