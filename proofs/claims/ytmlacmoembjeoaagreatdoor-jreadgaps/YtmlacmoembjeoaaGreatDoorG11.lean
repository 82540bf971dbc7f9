/-
  What was read of a text, in memory: the method take, the method exp.
  The exponent of what was read.
  A number is read: dec.Parse.
  The number that begins at a place: jlex.numberAt.
-/
import Derived.Test.YtmlacmoembjeoaaGreatDoorG10
import Derived.Lib.MinMax
import Derived.BigQuiet
import Derived.Deep.RegionHeld3
namespace Go.Proofs.YtmlacmoembjeoaaGreatDoor
open Go.RowKit

theorem but_setCell {a w : World} {g : Nat} (h : a.grownBy w (some g)) (j : Nat) (u : Value) : a.grownBy (w.setCell ⟨g, j, none⟩ u) (some g) :=
  ⟨h.os, h.tape, h.output, Nat.le_trans h.size (by simp [World.setCell]), fun k hk hne => (Below.heap_setCell w ⟨g, j, none⟩ u k (fun e => hne (by rw [e]))).trans (h.block k hk hne)⟩
theorem own_above {w : World} {base : Nat} {v : Value} {zs : List Int} (h : OwnsB w base v zs) : ∀ k, v.ownBlock = some k → base ≤ k ∧ k < w.heap.size := fun k hk => World.ownsRow.lt h.1 k hk
theorem OwnsB.other {w w' : World} {base : Nat} {v : Value} {zs : List Int} (h : OwnsB w base v zs) {r : Option Nat} (hg : w.grownBy w' r) (hr : ∀ k, r = some k → k < base) : OwnsB w' base v zs := by
  refine ⟨World.ownsRow.kept h.1 hg ?_, h.2⟩
  cases hv : v.ownBlock with
  | none => exact .inl rfl
  | some k =>
    refine .inr ?_
    intro e
    have h1 := own_above h k hv
    have h2 := hr k e.symm
    omega
/-- What was read, in block g. -/
def PAt (w : World) (g : Nat) (n : Bool) (v : Value) (k : Nat) (l : Bool) (m : Nat) : Prop := w.heap[g]? = some (.cells #[.bool n, v, .int .i64 k, .bool l, .int .i64 m] 129 (0, 0))
theorem PAt.lt {w : World} {g : Nat} {n : Bool} {v : Value} {k : Nat} {l : Bool} {m : Nat} (h : PAt w g n v k l m) : g < w.heap.size := (Array.getElem?_eq_some_iff.1 h).1
theorem PAt.c0 {w : World} {g : Nat} {n : Bool} {v : Value} {k : Nat} {l : Bool} {m : Nat} (h : PAt w g n v k l m) : w.cell? ⟨g, 0, none⟩ = some (.bool n) := by rw [cell_row h]; rfl
theorem PAt.c1 {w : World} {g : Nat} {n : Bool} {v : Value} {k : Nat} {l : Bool} {m : Nat} (h : PAt w g n v k l m) : w.cell? ⟨g, 1, none⟩ = some v := by rw [cell_row h]; rfl
theorem PAt.c2 {w : World} {g : Nat} {n : Bool} {v : Value} {k : Nat} {l : Bool} {m : Nat} (h : PAt w g n v k l m) : w.cell? ⟨g, 2, none⟩ = some (.int .i64 k) := by rw [cell_row h]; rfl
theorem PAt.c3 {w : World} {g : Nat} {n : Bool} {v : Value} {k : Nat} {l : Bool} {m : Nat} (h : PAt w g n v k l m) : w.cell? ⟨g, 3, none⟩ = some (.bool l) := by rw [cell_row h]; rfl
theorem PAt.c4 {w : World} {g : Nat} {n : Bool} {v : Value} {k : Nat} {l : Bool} {m : Nat} (h : PAt w g n v k l m) : w.cell? ⟨g, 4, none⟩ = some (.int .i64 m) := by rw [cell_row h]; rfl
theorem PAt.fz {w : World} {g : Nat} {n : Bool} {v : Value} {k : Nat} {l : Bool} {m : Nat} (h : PAt w g n v k l m) (j : Nat) : w.frozen? ⟨g, j, none⟩ = false := by
  unfold PAt at h
  simp [World.frozen?, h]
theorem PAt.kept {w w' : World} {B g : Nat} {n : Bool} {v : Value} {k : Nat} {l : Bool} {m : Nat} (h : PAt w g n v k l m) (hb : Below B w w') (hg : g < B) : PAt w' g n v k l m := by
  unfold PAt
  rw [hb.block g hg]
  exact h
theorem PAt.set0 {w : World} {g : Nat} {n : Bool} {v : Value} {k : Nat} {l : Bool} {m : Nat} (h : PAt w g n v k l m) (n' : Bool) : PAt (w.setCell ⟨g, 0, none⟩ (.bool n')) g n' v k l m := by
  unfold PAt at *
  rw [heap_setCell_same _ g 0 _ 129 _ h]
  rfl
theorem PAt.set1 {w : World} {g : Nat} {n : Bool} {v : Value} {k : Nat} {l : Bool} {m : Nat} (h : PAt w g n v k l m) (v' : Value) : PAt (w.setCell ⟨g, 1, none⟩ v') g n v' k l m := by
  unfold PAt at *
  rw [heap_setCell_same _ g 1 _ 129 _ h]
  rfl
theorem PAt.set2 {w : World} {g : Nat} {n : Bool} {v : Value} {k : Nat} {l : Bool} {m : Nat} (h : PAt w g n v k l m) (k' : Nat) : PAt (w.setCell ⟨g, 2, none⟩ (.int .i64 k')) g n v k' l m := by
  unfold PAt at *
  rw [heap_setCell_same _ g 2 _ 129 _ h]
  rfl
theorem PAt.set3 {w : World} {g : Nat} {n : Bool} {v : Value} {k : Nat} {l : Bool} {m : Nat} (h : PAt w g n v k l m) (l' : Bool) : PAt (w.setCell ⟨g, 3, none⟩ (.bool l')) g n v k l' m := by
  unfold PAt at *
  rw [heap_setCell_same _ g 3 _ 129 _ h]
  rfl
theorem PAt.set4 {w : World} {g : Nat} {n : Bool} {v : Value} {k : Nat} {l : Bool} {m : Nat} (h : PAt w g n v k l m) (m' : Nat) : PAt (w.setCell ⟨g, 4, none⟩ (.int .i64 m')) g n v k l m' := by
  unfold PAt at *
  rw [heap_setCell_same _ g 4 _ 129 _ h]
  rfl
theorem own_set {w : World} {g : Nat} {v : Value} {zs : List Int} (h : OwnsB w (g + 1) v zs) (j : Nat) (u : Value) : OwnsB (w.setCell ⟨g, j, none⟩ u) (g + 1) v zs :=
  h.other (but_setCell (World.grownBy.refl _ _) j u) (fun k hk => by cases hk; omega)
theorem bset {a w : World} {g : Nat} (h : Below g a w) (j : Nat) (u : Value) : Below g a (w.setCell ⟨g, j, none⟩ u) := h.setCell (p := ⟨g, j, none⟩) (Nat.le_refl _) u
/-- What was read, with its digits. -/
def Prt (w : World) (g : Nat) (p : Pd) : Prop := ∃ v, PAt w g p.1 v p.2.2.1 p.2.2.2.1 p.2.2.2.2 ∧ OwnsB w (g + 1) v p.2.1
set_option maxHeartbeats 1000000 in
theorem take_some (g : Nat) (p : Pd) (q : Nat) (c : Int) (w : World) (h : Prt w g p) (hk : p.2.1.length ≤ 4096 ∧ p.2.2.1 ≤ 4096 ∧ p.2.2.2.2 ≤ 10000) (hc : 0 ≤ c ∧ c < 256) (hd : q = 8 → 48 ≤ c) (hq : q ≤ 8) :
    Calls Tryz.prog 107 #[.pointer (some ⟨g, 0, none⟩), .int .i64 ((q : Nat) : Int), .int .u8 c] w fun e w' => (∃ u, e = .returned u) ∧ Prt w' g (takeS p q c) ∧ Below g w w' := by
  obtain ⟨n, ds, k, l, m⟩ := p
  obtain ⟨v, hp, ho⟩ := h
  dsimp only at hp ho hk
  have hP : Hid (PAt w g n v k l m) := hp
  have hO : Hid (OwnsB w (g + 1) v ds) := ho
  have hlt := hp.lt
  have c0 := hp.c0
  have c1 := hp.c1
  have c2 := hp.c2
  have c3 := hp.c3
  have c4 := hp.c4
  have f0 := hp.fz 0
  have f1 := hp.fz 1
  have f2 := hp.fz 2
  have f3 := hp.fz 3
  have f4 := hp.fz 4
  clear hp ho
  match q, hq with
  | 0, _ | 4, _ | 6, _ =>
    go_enter Tryz.func107, Tryz.ntmps107
    go_wp2
    refine bodyPost_end (results_none rfl _ _ _) rfl ?_
    exact ⟨⟨_, rfl⟩, ⟨v, hP.out, hO.out⟩, Below.refl _ _⟩
  | 1, _ =>
    go_enter Tryz.func107, Tryz.ntmps107
    go_wp2
    refine bodyPost_end (results_none rfl _ _ _) rfl ?_
    exact ⟨⟨_, rfl⟩, ⟨v, hP.out.set0 true, own_set hO.out 0 _⟩, bset (Below.refl _ _) _ _⟩
  | 7, _ =>
    go_enter Tryz.func107, Tryz.ntmps107
    go_wp2
    refine bodyPost_end (results_none rfl _ _ _) rfl ?_
    exact ⟨⟨_, rfl⟩, ⟨v, hP.out.set3 _, own_set hO.out 3 _⟩, bset (Below.refl _ _) _ _⟩
  | 8, _ =>
    obtain ⟨d, rfl⟩ : ∃ d : Nat, c = ((48 + d : Nat) : Int) := ⟨(c - 48).toNat, by have := hd rfl; omega⟩
    have hd4 : d < 208 := by omega
    have hm : m ≤ 10000 := hk.2.2
    have e1 : IntKind.u8.wrap (((48 + d : Nat) : Int) - 48) = ((d : Nat) : Int) := by
      simp [IntKind.wrap, IntKind.bits, IntKind.signed]; omega
    have e2 : IntKind.i64.wrap ((m : Int) * 10) = ((m * 10 : Nat) : Int) := by rw [IntKind.wrap_i64] <;> omega
    have e3 : IntKind.i64.wrap (((m * 10 : Nat) : Int) + ((d : Nat) : Int)) = ((m * 10 + d : Nat) : Int) := by rw [IntKind.wrap_i64] <;> omega
    have e6 : IntKind.i64.wrap ((d : Nat) : Int) = ((d : Nat) : Int) := by rw [IntKind.wrap_i64] <;> omega
    have e4 : min (((m * 10 + d : Nat) : Int)) 10000 = ((min (m * 10 + d) 10000 : Nat) : Int) := by omega
    have e5 : takeS (n, ds, k, l, m) 8 ((48 + d : Nat) : Int) = (n, ds, k, l, min (m * 10 + d) 10000) := by
      have h6 : (((48 + d : Nat) : Int) - 48).toNat = d := by omega
      simp [takeS]
      omega
    rw [e5]
    clear e5 hk hd hc hm hd4
    generalize ((48 + d : Nat) : Int) = C at *
    generalize hM : min (m * 10 + d) 10000 = M at *
    clear hM
    generalize ((m * 10 + d : Nat) : Int) = X at *
    generalize ((m * 10 : Nat) : Int) = Y at *
    go_enter Tryz.func107, Tryz.ntmps107
    go_wp2
    refine bodyPost_end (results_none rfl _ _ _) rfl ?_
    exact ⟨⟨_, rfl⟩, ⟨v, hP.out.set4 M, own_set hO.out 4 _⟩, bset (Below.refl _ _) _ _⟩
  | 2, _ | 3, _ =>
    have hB1 : Hid (Bytes (w.alloc (.cells #[.int .u8 c] 5)) (some ⟨w.heap.size, 0, none⟩) [c]) := one_byte w c hc.1 hc.2
    have hlen : ds.length ≤ 4096 := hk.1
    clear hk hd hc
    go_enter Tryz.func107, Tryz.ntmps107
    go_wp2_with (at_builtin; refine wpList_append_bytes rfl _ (.tmp 21) rfl (g + 1) v ds [c] rfl (hO.out.alloc _) (some ⟨w.heap.size, 0, none⟩) 1 1 rfl rfl (by simp) hB1.out (by simp; omega) (by simp; omega) ?_; intro v4 w4 ho4' hg4; have hb4 : Hid (Below (g + 1) w w4) := grown_below ((Below.refl (g + 1) w).alloc (by omega) _) (hO.out.alloc _) hg4 (by simp; omega); have hP4 : Hid (PAt w4 g n v k l m) := hP.out.kept hb4.out (by omega); have cc1 := hP4.out.c1; have ff1 := hP4.out.fz 1; have ho4 : Hid (OwnsB w4 (g + 1) v4 (ds ++ [c])) := ho4'; clear ho4'; obtain ⟨a4, n4, cp4, rfl, -, -, -, -, -⟩ := ho4.out.form)
    refine bodyPost_end (results_none rfl _ _ _) rfl ?_
    exact ⟨⟨_, rfl⟩, ⟨_, hP4.out.set1 _, own_set ho4.out 1 _⟩, bset (hb4.out.mono (by omega)) _ _⟩
  | 5, _ =>
    have hB1 : Hid (Bytes (w.alloc (.cells #[.int .u8 c] 5)) (some ⟨w.heap.size, 0, none⟩) [c]) := one_byte w c hc.1 hc.2
    have hlen : ds.length ≤ 4096 := hk.1
    have e2 : IntKind.i64.wrap ((k : Int) + 1) = ((k + 1 : Nat) : Int) := by have := hk.2.1; rw [IntKind.wrap_i64] <;> omega
    have e5 : takeS (n, ds, k, l, m) 5 c = (n, ds ++ [c], k + 1, l, m) := by simp [takeS]
    rw [e5]
    clear hk hd hc e5
    generalize k + 1 = K at *
    go_enter Tryz.func107, Tryz.ntmps107
    go_wp2_with (at_builtin; refine wpList_append_bytes rfl _ (.tmp 33) rfl (g + 1) v ds [c] rfl (hO.out.alloc _) (some ⟨w.heap.size, 0, none⟩) 1 1 rfl rfl (by simp) hB1.out (by simp; omega) (by simp; omega) ?_; intro v4 w4 ho4' hg4; have hb4 : Hid (Below (g + 1) w w4) := grown_below ((Below.refl (g + 1) w).alloc (by omega) _) (hO.out.alloc _) hg4 (by simp; omega); have hP4 : Hid (PAt w4 g n v k l m) := hP.out.kept hb4.out (by omega); have cc1 := hP4.out.c1; have ff1 := hP4.out.fz 1; have cc2 := hP4.out.c2; have ff2 := hP4.out.fz 2; have ho4 : Hid (OwnsB w4 (g + 1) v4 (ds ++ [c])) := ho4'; clear ho4'; obtain ⟨a4, n4, cp4, rfl, -, -, -, -, -⟩ := ho4.out.form)
    refine bodyPost_end (results_none rfl _ _ _) rfl ?_
    exact ⟨⟨_, rfl⟩, ⟨_, (hP4.out.set1 _).set2 K, own_set (own_set ho4.out 1 _) 2 _⟩, bset (bset (hb4.out.mono (by omega)) _ _) _ _⟩
end Go.Proofs.YtmlacmoembjeoaaGreatDoor
namespace Go.Proofs.YtmlacmoembjeoaaGreatDoor
open Go.RowKit

set_option maxHeartbeats 1000000 in
theorem exp_any (g : Nat) (n : Bool) (v : Value) (k : Nat) (l : Bool) (m : Nat) (ds : List Int) (w : World) (hp : PAt w g n v k l m) (hk : k ≤ 4096) (hm : m ≤ 10000) :
    Calls Tryz.prog 110 #[.pointer (some ⟨g, 0, none⟩)] w fun e w' => e = .returned (.int .i64 (expS (n, ds, k, l, m))) ∧ Below w.heap.size w w' := by
  have c2 := hp.c2
  have c3 := hp.c3
  have c4 := hp.c4
  clear hp
  cases l with
  | true =>
    have e1 : expS (n, ds, k, true, m) = -((m : Nat) : Int) - ((k : Nat) : Int) := by unfold expS; rw [if_pos rfl]
    have e2 : IntKind.i64.wrap (-((m : Nat) : Int)) = -((m : Nat) : Int) := by rw [IntKind.wrap_i64] <;> omega
    have e3 : IntKind.i64.wrap (-((m : Nat) : Int) - ((k : Nat) : Int)) = -((m : Nat) : Int) - ((k : Nat) : Int) := by rw [IntKind.wrap_i64] <;> omega
    rw [e1]
    clear e1 hk hm
    go_enter Tryz.func110, Tryz.ntmps110
    go_wp2
    go_quiet (fail)
    go_wp2
    go_ret
    exact ⟨rfl, ⟨rfl, rfl, rfl, Nat.le_refl _, fun _ _ => rfl⟩⟩
  | false =>
    have e1 : expS (n, ds, k, false, m) = ((m : Nat) : Int) - ((k : Nat) : Int) := by unfold expS; rw [if_neg (by simp)]
    have e3 : IntKind.i64.wrap (((m : Nat) : Int) - ((k : Nat) : Int)) = ((m : Nat) : Int) - ((k : Nat) : Int) := by rw [IntKind.wrap_i64] <;> omega
    rw [e1]
    clear e1 hk hm
    go_enter Tryz.func110, Tryz.ntmps110
    go_wp2
    go_quiet (fail)
    go_wp2
    go_ret
    exact ⟨rfl, ⟨rfl, rfl, rfl, Nat.le_refl _, fun _ _ => rfl⟩⟩
end Go.Proofs.YtmlacmoembjeoaaGreatDoor
namespace Go.Proofs.YtmlacmoembjeoaaGreatDoor
open Go.RowKit

/-- A fault as a block's whole. -/
def FRow (w : World) (g : Nat) (y f : Int) : Prop := w.heap[g]? = some (.cells #[.int .i64 y, .int .i64 f] 29 (0, 0))
theorem FRow.lt {w : World} {g : Nat} {y f : Int} (h : FRow w g y f) : g < w.heap.size := (Array.getElem?_eq_some_iff.1 h).1
theorem FRow.c0 {w : World} {g : Nat} {y f : Int} (h : FRow w g y f) : w.cell? ⟨g, 0, none⟩ = some (.int .i64 y) := by rw [cell_row h]; rfl
theorem FRow.c1 {w : World} {g : Nat} {y f : Int} (h : FRow w g y f) : w.cell? ⟨g, 1, none⟩ = some (.int .i64 f) := by rw [cell_row h]; rfl
theorem FRow.fz {w : World} {g : Nat} {y f : Int} (h : FRow w g y f) (j : Nat) : w.frozen? ⟨g, j, none⟩ = false := by
  unfold FRow at h
  simp [World.frozen?, h]
theorem FRow.keep {w w' : World} {B g : Nat} {y f : Int} (h : FRow w g y f) (hb : Below B w w') (hg : g < B) : FRow w' g y f := by
  unfold FRow
  rw [hb.block g hg]
  exact h
theorem NRow.keep {w w' : World} {B g : Nat} {n : Bool} {s : ByteArray} {x : Int} (h : NRow w g n s x) (hb : Below B w w') (hg : g < B) : NRow w' g n s x := by
  unfold NRow
  rw [hb.block g hg]
  exact h
/-- What Parse has in memory: its two results, what was read. -/
def Mem (w wr : World) (p : Pd) : Prop := NRow wr w.heap.size false noS 0 ∧ FRow wr (w.heap.size + 1) 0 0 ∧ Prt wr (w.heap.size + 2) p ∧ Below w.heap.size w wr
theorem Mem.on {w wr w' : World} {p p' : Pd} (h : Mem w wr p) (hp : Prt w' (w.heap.size + 2) p') (hb : Below (w.heap.size + 2) wr w') : Mem w w' p' :=
  ⟨h.1.keep hb (by omega), h.2.1.keep hb (by omega), hp, h.2.2.2.trans (hb.mono (by omega))⟩
theorem mem0 (w : World) : Mem w (((w.alloc (.cells #[.bool false, .string ⟨#[]⟩, .int .i64 0] 84)).alloc (.cells #[.int .i64 0, .int .i64 0] 29)).alloc (.cells #[.bool false, .slice none 0 0, .int .i64 0, .bool false, .int .i64 0] 129)) p0 := by
  have a1 := alloc_below w (.cells #[.bool false, .string ⟨#[]⟩, .int .i64 0] 84)
  have h1 := row_new w false ⟨#[]⟩ 0
  generalize hw1 : w.alloc (.cells #[.bool false, .string ⟨#[]⟩, .int .i64 0] 84) = w1 at *
  have s1 : w1.heap.size = w.heap.size + 1 := by rw [← hw1]; simp
  have a2 := alloc_below w1 (.cells #[.int .i64 0, .int .i64 0] 29)
  have h2 : FRow (w1.alloc (.cells #[.int .i64 0, .int .i64 0] 29)) (w.heap.size + 1) 0 0 := by rw [← s1]; exact heap_alloc_new w1 _
  generalize hw2 : w1.alloc (.cells #[.int .i64 0, .int .i64 0] 29) = w2 at *
  have s2 : w2.heap.size = w.heap.size + 2 := by rw [← hw2]; simp; omega
  have a3 := alloc_below w2 (.cells #[.bool false, .slice none 0 0, .int .i64 0, .bool false, .int .i64 0] 129)
  have h3 : PAt (w2.alloc (.cells #[.bool false, .slice none 0 0, .int .i64 0, .bool false, .int .i64 0] 129)) (w.heap.size + 2) false (.slice none 0 0) 0 false 0 := by rw [← s2]; exact heap_alloc_new w2 _
  exact ⟨(h1.keep a2 (by omega)).keep a3 (by omega), h2.keep a3 (by omega), ⟨_, h3, ownsB_nil _ _⟩, a1.trans ((a2.mono (by omega)).trans (a3.mono (by omega)))⟩
theorem NRow.set {w : World} {g : Nat} {n : Bool} {s : ByteArray} {x : Int} (h : NRow w g n s x) (n' : Bool) (s' : ByteArray) (x' : Int) : NRow (((w.setCell ⟨g, 0, none⟩ (.bool n')).setCell ⟨g, 1, none⟩ (.string s')).setCell ⟨g, 2, none⟩ (.int .i64 x')) g n' s' x' := by
  unfold NRow at *
  rw [heap_setCell_same _ g 2 _ 84 _ (heap_setCell_same _ g 1 _ 84 _ (heap_setCell_same _ g 0 _ 84 _ h))]
  rfl
/-- What Parse has in memory at its end. -/
def Fin3 (w wz : World) (h : Nat) (mb : Bool) (ms : ByteArray) (mx : Int) : Prop := NRow wz h mb ms mx ∧ NRow wz w.heap.size false noS 0 ∧ FRow wz (w.heap.size + 1) 0 0 ∧ Below w.heap.size w wz ∧ w.heap.size + 1 < h
theorem fin3 {w wr wz : World} {h : Nat} {mb : Bool} {ms : ByteArray} {mx : Int} (hN : NRow wr w.heap.size false noS 0) (hF : FRow wr (w.heap.size + 1) 0 0) (hB : Below w.heap.size w wr) (hb : Below wr.heap.size wr wz) (hr : NRow wz h mb ms mx) (hh : wr.heap.size ≤ h) : Fin3 w wz h mb ms mx :=
  ⟨hr, hN.keep hb hN.lt, hF.keep hb hF.lt, hB.trans (hb.mono hB.size), Nat.lt_of_lt_of_le hF.lt hh⟩
theorem done_wrong (n k : Nat) (p : Pd) : doneA n (some k, 9, p) = (noN, 5, ((k : Nat) : Int)) := rfl
theorem done_early (n q : Nat) (p : Pd) (h : endS q = false) : doneA n (none, q, p) = (noN, 3, ((n : Nat) : Int)) := by
  show (if endS q = true then _ else _) = _
  rw [h]; rfl
theorem done_made (n q : Nat) (p : Pd) (h : endS q = true) : doneA n (none, q, p) = ((makeA p.1 (strOfNums p.2.1) (expS p)).1, (makeA p.1 (strOfNums p.2.1) (expS p)).2, 0) := by
  show (if endS q = true then _ else _) = _
  rw [if_pos h]
theorem getD_mem {l : List Int} {k : Nat} (h : k < l.length) : l.getD k 0 ∈ l := by
  rw [List.getD_eq_getElem?_getD, List.getElem?_eq_getElem h]
  exact List.getElem_mem h
set_option maxRecDepth 100000 in
set_option maxHeartbeats 2000000 in
theorem parse_any (s : ByteArray) (w : World) : Calls Tryz.prog 84 #[.string s] w fun e w' => e = .returned (.tuple #[.agg #[.bool (parseA s).1.1, .string (parseA s).1.2.1, .int .i64 (parseA s).1.2.2], .agg #[.int .i64 (parseA s).2.1, .int .i64 (parseA s).2.2]]) ∧ Below w.heap.size w w' := by
  by_cases h1 : 4096 < s.size
  · have hR : parseA s = (noN, 11, 0) := by unfold parseA; rw [if_pos h1]
    rw [hR]
    have d1 : decide (4096 < ((s.size : Nat) : Int)) = true := by simp; omega
    clear h1 hR
    unfold noN noS
    go_enter Tryz.func84, Tryz.ntmps84
    go_wp2
    refine bodyPost_ret (v := .tuple #[.agg #[.bool false, .string ⟨#[]⟩, .int .i64 0], .agg #[.int .i64 11, .int .i64 0]]) (by simp [results, Tryz.results84, go_sem]) rfl ⟨rfl, ?_⟩
    exact (alloc_below _ _).alloc (by simp) _
  have hR : Hid (doneA s.size (runS (bs s) 0 0 p0) = parseA s) := by show _ = _; unfold parseA; rw [if_neg h1]
  have d1 : decide (4096 < ((s.size : Nat) : Int)) = false := by simp; omega
  have hsz : s.size ≤ 4096 := by omega
  generalize parseA s = P at *
  generalize hrun : runS (bs s) 0 0 p0 = R at *
  have kA := after_any
  have hM := mem0 w
  clear h1
  go_enter Tryz.func84, Tryz.ntmps84
  go_wp2
  go_loopw [16, 5] (fun v u wr => ∃ (k q : Nat) (p : Pd), k ≤ s.size ∧ q ≤ 8 ∧ v = .int .i64 k ∧ u = .int .i64 q ∧ Hid (runS ((bs s).drop k) k q p = R) ∧ Hid (InS p k) ∧ Hid (Mem w wr p)) (fun v _ _ => s.size - (intOf v).toNat)
  case atStart => exact ⟨0, 0, p0, Nat.zero_le _, by omega, rfl, rfl, hrun, in0, hM⟩
  case round =>
    clear hM hrun
    obtain ⟨k, q, p, hk, hq, rfl, rfl, hrun, hin, hmem⟩ := hrel
    by_cases hlt : k < s.size
    · have bk := bs_at s hlt
      obtain ⟨r1, r2⟩ := run_step (by rw [bs_len]; exact hlt) hrun.out
      have k1 := kA q hq ((bs s).getD k 0) wr
      have hq9 := after_le q ((bs s).getD k 0)
      have ht := in_take (q := q) (c := (bs s).getD k 0) hin.out
      have hdg := take_dig (q := q) (c := (bs s).getD k 0)
      have hb255 := bs_bytes s _ (getD_mem (l := bs s) (k := k) (by rw [bs_len]; exact hlt))
      rw [bk] at r1 r2 k1 hq9 ht hdg hb255
      clear bk kA hrun
      obtain ⟨Q, hQ⟩ : ∃ Q, afterS q (((s[k]'hlt).toNat : Nat) : Int) = Q := ⟨_, rfl⟩
      rw [hQ] at r1 r2 k1 hq9 ht hdg
      clear hQ
      by_cases h9 : Q = 9
      · subst h9
        obtain rfl := r1 rfl
        have hP := hR.out
        rw [done_wrong] at hP
        subst hP
        obtain ⟨m1, m2, m3, m4⟩ := hmem.out
        obtain ⟨c0, c1, c2⟩ := m1.at
        have f0 := m1.fz 0
        have f1 := m1.fz 1
        have f2 := m1.fz 2
        have e0 := m2.c0
        have e1 := m2.c1
        have g0 := m2.fz 0
        have g1 := m2.fz 1
        have hB : Hid (Below w.heap.size w wr) := m4
        clear r1 r2 hq9 ht hdg hb255 hR m1 m2 m3 m4 hmem hin
        unfold noN noS at *
        go_wp2_with (go_at_call 106; refine k1.mono ?_; rintro e w1 ⟨rfl, hw⟩; obtain rfl : wr = w1 := hw.symm)
        refine bodyPost_ret (v := .tuple #[.agg #[.bool false, .string ⟨#[]⟩, .int .i64 0], .agg #[.int .i64 5, .int .i64 ((k : Nat) : Int)]]) (by simp [results, Tryz.results84, go_sem, *]) rfl ⟨rfl, ?_⟩
        refine Below.setCell (Below.setCell (Below.setCell (Below.setCell (Below.setCell hB.out ?_ _) ?_ _) ?_ _) ?_ _) ?_ _ <;> simp
      · have hrun' : Hid _ := r2 h9
        have hin' : Hid _ := ht
        have d9 : (((Q : Nat) : Int) == 9) = false := by simp; omega
        obtain ⟨i1, i2, i3, i4⟩ := hin.out
        have k2 := take_some (w.heap.size + 2) p Q (((s[k]'hlt).toNat : Nat) : Int) wr hmem.out.2.2.1 ⟨by omega, by omega, i3⟩ hb255 (fun h => (hdg (by omega)).1) (by omega)
        have hk1 : k + 1 ≤ s.size := by omega
        have hQ8 : Q ≤ 8 := by omega
        clear r1 r2 hq9 ht hdg hb255 hR hin i1 i2 i3 i4 h9
        generalize hT : takeS p Q (((s[k]'hlt).toNat : Nat) : Int) = p' at *
        clear hT
        go_wp2_with (first
          | (go_at_call 106; refine k1.mono ?_; rintro e w1 ⟨rfl, hw⟩; obtain rfl : wr = w1 := hw.symm)
          | (go_at_call 107; refine k2.mono ?_; rintro e w2 ⟨⟨u, rfl⟩, hp2, hb2⟩))
        go_roundw
        case rel => exact ⟨k + 1, Q, p', by omega, by omega, by go_num, rfl, hrun', hin', hmem.out.on hp2 hb2⟩
        case measure => simp [intOf]; omega
    · obtain rfl : k = s.size := by omega
      have hr := hrun.out
      rw [List.drop_of_length_le (by rw [bs_len]; exact Nat.le_refl _)] at hr
      have hr' : (none, q, p) = R := hr
      subst hr'
      clear hr hrun kA hlt
      have kQ := mayend_any q hq
      obtain ⟨m1, m2, ⟨v, m3, m5⟩, m4⟩ := hmem.out
      obtain ⟨i1, i2, i3, i4⟩ := hin.out
      cases hE : endS q with
      | false =>
        rw [hE] at kQ
        have hP := hR.out
        rw [done_early _ _ _ hE] at hP
        subst hP
        obtain ⟨c0, c1, c2⟩ := m1.at
        have f0 := m1.fz 0
        have f1 := m1.fz 1
        have f2 := m1.fz 2
        have e0 := m2.c0
        have e1 := m2.c1
        have g0 := m2.fz 0
        have g1 := m2.fz 1
        have hB : Hid (Below w.heap.size w wr) := m4
        clear m1 m2 m3 m4 m5 hmem hin hR i1 i2 i3 i4
        unfold noN noS at *
        go_wp2_with (go_at_call 108; refine (kQ _).mono ?_; rintro e w1 ⟨rfl, hw⟩; obtain rfl : wr = w1 := hw.symm)
        refine bodyPost_ret (v := .tuple #[.agg #[.bool false, .string ⟨#[]⟩, .int .i64 0], .agg #[.int .i64 3, .int .i64 ((s.size : Nat) : Int)]]) (by simp [results, Tryz.results84, go_sem, *]) rfl ⟨rfl, ?_⟩
        refine Below.setCell (Below.setCell (Below.setCell (Below.setCell (Below.setCell hB.out ?_ _) ?_ _) ?_ _) ?_ _) ?_ _ <;> simp
      | true =>
        rw [hE] at kQ
        have hP0 := hR.out
        rw [done_made _ _ _ hE] at hP0
        obtain ⟨n, ds, kk, l, m⟩ := p
        dsimp only at m3 m5 i1 i2 i3 i4 hP0
        have kM := make_any n (strOfNums ds) (expS (n, ds, kk, l, m))
        have kE := fun wx (h : PAt wx (w.heap.size + 2) n v kk l m) => exp_any (w.heap.size + 2) n v kk l m ds wx h (by omega) i3
        generalize makeA n (strOfNums ds) (expS (n, ds, kk, l, m)) = MM at *
        generalize expS (n, ds, kk, l, m) = E at *
        obtain ⟨⟨mb, ms, mx⟩, me⟩ := MM
        dsimp only at kM hP0
        have hPP : Hid (((mb, ms, mx), me, 0) = P) := hP0
        clear hP0
        have hP : Hid (PAt wr (w.heap.size + 2) n v kk l m) := m3
        have hO : Hid (OwnsB wr (w.heap.size + 3) v ds) := m5
        have hN : Hid (NRow wr w.heap.size false noS 0) := m1
        have hF : Hid (FRow wr (w.heap.size + 1) 0 0) := m2
        have hB : Hid (Below w.heap.size w wr) := m4
        have c0 := m3.c0
        have c1 := m3.c1
        obtain ⟨a, nn, cc, rfl, hl, -, -, -, hby⟩ := m5.form
        have hcv := conv_str hby.out nn cc hl.out
        have hS := fun (wx : World) (h : Below wr.heap.size wr wx) => (⟨by rw [h.cell (p := ⟨w.heap.size + 2, 0, none⟩) hP.out.lt]; exact c0, by rw [h.cell (p := ⟨w.heap.size + 2, 1, none⟩) hP.out.lt]; exact c1, conv_str (hby.out.kept h) nn cc hl.out⟩ : wx.cell? ⟨w.heap.size + 2, 0, none⟩ = some (.bool n) ∧ wx.cell? ⟨w.heap.size + 2, 1, none⟩ = some (.slice a nn cc) ∧ (convert 22 9 (.slice a nn cc)).run Tryz.prog wx = .ok (.string (strOfNums ds)) wx)
        clear m1 m2 m3 m4 m5 hmem hin hR i1 i2 i3 i4 hq hsz hk
        generalize hSt : strOfNums ds = St at *
        clear hSt
        have hS' : Hid _ := hS
        clear hS
        go_wp2_with (go_at_call 108; refine (kQ _).mono ?_; rintro e w1 ⟨rfl, hw⟩; obtain rfl : wr = w1 := hw.symm)
        go_region_held3 (fun wx => wx.cell? ⟨w.heap.size + 2, 0, none⟩ = some (.bool n) ∧ wx.cell? ⟨w.heap.size + 2, 1, none⟩ = some (.slice a nn cc) ∧ (convert 22 9 (.slice a nn cc)).run Tryz.prog wx = .ok (.string St) wx) (first | exact ⟨c0, c1, hcv⟩ | exact hS'.out _ (Below.refl wr.heap.size wr).drew | exact hS'.out _ b1 | exact hS'.out _ b2 | exact hS'.out _ (b2.alloc b2.size _) | exact hS'.out _ (Below.setCell (Below.setCell (Below.setCell b2 b1.size _) b1.size _) b1.size _) | exact hS'.out _ (Below.setCell (Below.setCell (Below.setCell b2 (Nat.le_refl wr.heap.size) _) (Nat.le_refl wr.heap.size) _) (Nat.le_refl wr.heap.size) _) | exact hS'.out _ (b1.alloc b1.size _) | exact hS'.out _ ((Below.refl wr.heap.size wr).drew.alloc (Nat.le_refl _) _)) (first
          | (go_at_call 110; refine (kE _ (by exact hP.out)).mono ?_; rintro e w3 ⟨rfl, b0⟩; have b1 : Below wr.heap.size wr w3 := ((Below.refl wr.heap.size wr).drew).trans b0)
          | (go_at_call 110; refine (kE _ (PAt.kept (w := wr.drew) hP.out (alloc_below _ _) hP.out.lt)).mono ?_; rintro e w3 ⟨rfl, b0⟩; have b1 : Below wr.heap.size wr w3 := (((Below.refl wr.heap.size wr).drew).alloc (Nat.le_refl _) _).trans (b0.mono (by simp)); have r3 : Hid (NRow w3 wr.heap.size false ⟨#[]⟩ 0) := (row_new wr.drew false ⟨#[]⟩ 0).keep b0 (by simp))
          | (go_at_call 109; refine (kM _).mono ?_; rintro e w4 ⟨rfl, b2'⟩; have b2 : Below wr.heap.size wr w4 := b1.trans (b2'.mono b1.size); have r4 : NRow w4 wr.heap.size false ⟨#[]⟩ 0 := r3.out.keep b2' r3.out.lt; obtain ⟨p0', p1', p2'⟩ := r4.at; have q0 := r4.fz 0; have q1 := r4.fz 1; have q2 := r4.fz 2)
          | (go_at_call 109; refine (kM _).mono ?_; rintro e w4 ⟨rfl, b2'⟩; have b2 : Below wr.heap.size wr w4 := (b1.alloc b1.size _).trans (b2'.mono (by have := b1.size; simp; omega)); have r4 : NRow w4 w3.heap.size false ⟨#[]⟩ 0 := (row_new w3 false ⟨#[]⟩ 0).keep b2' (by simp); obtain ⟨p0', p1', p2'⟩ := r4.at; have q0 := r4.fz 0; have q1 := r4.fz 1; have q2 := r4.fz 2)
          | (go_at_call 109; refine (kM _).mono ?_; rintro e w4 ⟨rfl, b2'⟩; have b2 : Below wr.heap.size wr w4 := b1.trans (b2'.mono b1.size)))
        · have hfin := fin3 hN.out hF.out hB.out (b2.alloc b2.size (.cells #[.bool mb, .string ms, .int .i64 mx] 84)) (row_new w4 mb ms mx) b2.size
          clear kE kM kQ hP hO hN hF hB c0 c1 hl hby hcv hS'
          obtain ⟨z1, z2, z3, z4, z5⟩ := hfin
          generalize w4.alloc (.cells #[.bool mb, .string ms, .int .i64 mx] 84) = wz at *
          generalize w4.heap.size = h7 at *
          clear b2 b2' b1 b0
          obtain ⟨c0, c1, c2⟩ := z2.at
          obtain ⟨k0, k1, k2⟩ := z1.at
          have f0 := z2.fz 0
          have f1 := z2.fz 1
          have f2 := z2.fz 2
          have e0 := z3.c0
          have e1 := z3.c1
          have g0 := z3.fz 0
          have g1 := z3.fz 1
          have hB4 : Hid (Below w.heap.size w wz) := z4
          clear z1 z2 z3 z4 z5
          unfold noS at *
          go_wp2
          refine bodyPost_ret (v := .tuple #[.agg #[.bool mb, .string ms, .int .i64 mx], .agg #[.int .i64 me, .int .i64 0]]) (by simp [results, Tryz.results84, go_sem, *]) rfl ⟨?_, ?_⟩
          · rw [← hPP.out]
          · refine Below.setCell (Below.setCell (Below.setCell (Below.setCell (Below.setCell hB4.out ?_ _) ?_ _) ?_ _) ?_ _) ?_ _ <;> simp
        · have hfin := fin3 hN.out hF.out hB.out (Below.setCell (Below.setCell (Below.setCell b2 (p := ⟨w3.heap.size, 0, none⟩) b1.size (.bool mb)) (p := ⟨w3.heap.size, 1, none⟩) b1.size (.string ms)) (p := ⟨w3.heap.size, 2, none⟩) b1.size (.int .i64 mx)) (r4.set mb ms mx) b1.size
          clear kE kM kQ hP hO hN hF hB c0 c1 hl hby hcv hS'
          obtain ⟨z1, z2, z3, z4, z5⟩ := hfin
          generalize (((w4.setCell ⟨w3.heap.size, 0, none⟩ (.bool mb)).setCell ⟨w3.heap.size, 1, none⟩ (.string ms)).setCell ⟨w3.heap.size, 2, none⟩ (.int .i64 mx)) = wz at *
          clear r4 p0' p1' p2' q0 q1 q2 b2 b2'
          generalize w3.heap.size = h7 at *
          clear b1 b0
          obtain ⟨c0, c1, c2⟩ := z2.at
          obtain ⟨k0, k1, k2⟩ := z1.at
          have f0 := z2.fz 0
          have f1 := z2.fz 1
          have f2 := z2.fz 2
          have e0 := z3.c0
          have e1 := z3.c1
          have g0 := z3.fz 0
          have g1 := z3.fz 1
          have hB4 : Hid (Below w.heap.size w wz) := z4
          clear z1 z2 z3 z4 z5
          unfold noS at *
          go_wp2
          refine bodyPost_ret (v := .tuple #[.agg #[.bool mb, .string ms, .int .i64 mx], .agg #[.int .i64 me, .int .i64 0]]) (by simp [results, Tryz.results84, go_sem, *]) rfl ⟨?_, ?_⟩
          · rw [← hPP.out]
          · refine Below.setCell (Below.setCell (Below.setCell (Below.setCell (Below.setCell hB4.out ?_ _) ?_ _) ?_ _) ?_ _) ?_ _ <;> simp
        · have hfin := fin3 hN.out hF.out hB.out (Below.setCell (Below.setCell (Below.setCell b2 (p := ⟨wr.heap.size, 0, none⟩) (Nat.le_refl _) (.bool mb)) (p := ⟨wr.heap.size, 1, none⟩) (Nat.le_refl _) (.string ms)) (p := ⟨wr.heap.size, 2, none⟩) (Nat.le_refl _) (.int .i64 mx)) (r4.set mb ms mx) (Nat.le_refl _)
          clear kE kM kQ hP hO hN hF hB c0 c1 hl hby hcv hS'
          obtain ⟨z1, z2, z3, z4, z5⟩ := hfin
          generalize (((w4.setCell ⟨wr.heap.size, 0, none⟩ (.bool mb)).setCell ⟨wr.heap.size, 1, none⟩ (.string ms)).setCell ⟨wr.heap.size, 2, none⟩ (.int .i64 mx)) = wz at *
          clear r4 p0' p1' p2' q0 q1 q2 b2 b2' r3
          clear b1 b0
          generalize wr.heap.size = h7 at *
          obtain ⟨c0, c1, c2⟩ := z2.at
          obtain ⟨k0, k1, k2⟩ := z1.at
          have f0 := z2.fz 0
          have f1 := z2.fz 1
          have f2 := z2.fz 2
          have e0 := z3.c0
          have e1 := z3.c1
          have g0 := z3.fz 0
          have g1 := z3.fz 1
          have hB4 : Hid (Below w.heap.size w wz) := z4
          clear z1 z2 z3 z4 z5
          unfold noS at *
          go_wp2
          refine bodyPost_ret (v := .tuple #[.agg #[.bool mb, .string ms, .int .i64 mx], .agg #[.int .i64 me, .int .i64 0]]) (by simp [results, Tryz.results84, go_sem, *]) rfl ⟨?_, ?_⟩
          · rw [← hPP.out]
          · refine Below.setCell (Below.setCell (Below.setCell (Below.setCell (Below.setCell hB4.out ?_ _) ?_ _) ?_ _) ?_ _) ?_ _ <;> simp
end Go.Proofs.YtmlacmoembjeoaaGreatDoor
namespace Go.Proofs.YtmlacmoembjeoaaGreatDoor
open Go.RowKit
set_option linter.unusedVariables false

/-- A token, or a fault, as an answer. -/
def tokV (R : Tk × Nat × Nat) : Value := .tuple #[.agg #[.int .i64 (R.1.kind : Nat), .int .i64 (R.1.frm : Nat), .int .i64 (R.1.to : Nat), .string (strOfNums R.1.txt)], .agg #[.int .i64 (R.2.1 : Nat), .int .i64 (R.2.2 : Nat)]]
/-- The two results in memory, still zero. -/
structure TB (w wx : World) : Prop where
  tok : Blk wx w.heap.size #[.int .i64 0, .int .i64 0, .int .i64 0, .string ⟨#[]⟩] 40
  flt : Blk wx (w.heap.size + 1) #[.int .i64 0, .int .i64 0] 29
  bel : Below w.heap.size w wx
theorem tb_new (w : World) : TB w ((w.alloc (.cells #[.int .i64 0, .int .i64 0, .int .i64 0, .string ⟨#[]⟩] 40)).alloc (.cells #[.int .i64 0, .int .i64 0] 29)) := by
  have a1 := alloc_below w (.cells #[.int .i64 0, .int .i64 0, .int .i64 0, .string ⟨#[]⟩] 40)
  have h1 := blk_new w #[.int .i64 0, .int .i64 0, .int .i64 0, .string ⟨#[]⟩] 40
  generalize hw1 : w.alloc (.cells #[.int .i64 0, .int .i64 0, .int .i64 0, .string ⟨#[]⟩] 40) = w1 at *
  have s1 : w1.heap.size = w.heap.size + 1 := by rw [← hw1]; simp
  have a2 := alloc_below w1 (.cells #[.int .i64 0, .int .i64 0] 29)
  have h2 := blk_new w1 #[.int .i64 0, .int .i64 0] 29
  exact ⟨h1.kept a2 (by omega), by rw [← s1]; exact h2, a1.trans (a2.mono (by omega))⟩
theorem TB.on {w wx wy : World} (h : TB w wx) (hb : Below wx.heap.size wx wy) : TB w wy := ⟨h.tok.kept hb h.tok.lt, h.flt.kept hb h.flt.lt, h.bel.trans (hb.mono h.bel.size)⟩
theorem TB.cells {w wx : World} (h : TB w wx) : wx.cell? ⟨w.heap.size, 0, none⟩ = some (.int .i64 0) ∧ wx.cell? ⟨w.heap.size, 1, none⟩ = some (.int .i64 0) ∧ wx.cell? ⟨w.heap.size, 2, none⟩ = some (.int .i64 0) ∧ wx.cell? ⟨w.heap.size, 3, none⟩ = some (.string ⟨#[]⟩) ∧ wx.cell? ⟨w.heap.size + 1, 0, none⟩ = some (.int .i64 0) ∧ wx.cell? ⟨w.heap.size + 1, 1, none⟩ = some (.int .i64 0) :=
  ⟨h.tok.cell 0, h.tok.cell 1, h.tok.cell 2, h.tok.cell 3, h.flt.cell 0, h.flt.cell 1⟩
theorem TB.fz {w wx : World} (h : TB w wx) : wx.frozen? ⟨w.heap.size, 0, none⟩ = false ∧ wx.frozen? ⟨w.heap.size, 1, none⟩ = false ∧ wx.frozen? ⟨w.heap.size, 2, none⟩ = false ∧ wx.frozen? ⟨w.heap.size, 3, none⟩ = false ∧ wx.frozen? ⟨w.heap.size + 1, 0, none⟩ = false ∧ wx.frozen? ⟨w.heap.size + 1, 1, none⟩ = false :=
  ⟨h.tok.fz 0, h.tok.fz 1, h.tok.fz 2, h.tok.fz 3, h.flt.fz 0, h.flt.fz 1⟩
/-- What Parse answers of a number's bytes. -/
theorem parse_of (t : ByteArray) (ht : t.size ≤ 4096) : ((nuF (bs t) 0 0).1 < (bs t).length → (parseA t).2 = (5, (((nuF (bs t) 0 0).1 : Nat) : Int))) ∧ ((nuF (bs t) 0 0).1 = (bs t).length → (endS (nuF (bs t) 0 0).2 = true → (parseA t).2.1 ≠ 5 ∧ (parseA t).2.1 ≠ 3) ∧ (endS (nuF (bs t) 0 0).2 = false → (parseA t).2 = (3, ((t.size : Nat) : Int)))) := by
  have hR : parseA t = doneA t.size (runS (bs t) 0 0 p0) := by unfold parseA; rw [if_neg (by omega)]
  refine ⟨fun h => ?_, fun h => ⟨fun he => ?_, fun he => ?_⟩⟩
  · obtain ⟨p', e⟩ := nu_wrong (bs t) 0 0 p0 (by omega)
    rw [hR, e, done_wrong]
  · obtain ⟨p', e⟩ := nu_whole (bs t) 0 0 p0 (by omega)
    rw [hR, e, done_made _ _ _ he]
    rcases make_errs p'.1 (strOfNums p'.2.1) (expS p') with h1 | h1 | h1
    · rw [h1]; simp
    · rw [h1]; simp
    · rw [h1]; simp
  · obtain ⟨p', e⟩ := nu_whole (bs t) 0 0 p0 (by omega)
    rw [hR, e, done_early _ _ _ he]
end Go.Proofs.YtmlacmoembjeoaaGreatDoor
