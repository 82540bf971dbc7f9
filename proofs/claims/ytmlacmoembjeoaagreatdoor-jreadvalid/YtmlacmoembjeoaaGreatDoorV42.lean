/-
  Parts of the proof.
-/
import Derived.Test.YtmlacmoembjeoaaGreatDoorV26
import Derived.Test.YtmlacmoembjeoaaGreatDoorV12
import Derived.Test.YtmlacmoembjeoaaGreatDoorV20
import Derived.Test.YtmlacmoembjeoaaGreatDoorV14
import Derived.Test.YtmlacmoembjeoaaGreatDoorV3
import Derived.Deep.DeepCutAuto
namespace Go.Proofs.YtmlacmoembjeoaaGreatDoor
open Go.RowKit
set_option linter.unusedVariables false
def skF : Nat → Nat → List Tk → Option (List Tk)
  | 0, _, _ => none
  | k + 1, 0, L => match L with
    | [] => none
    | t :: M => if bvA t.kind = false then none
      else if t.kind = 3 then (match M with
        | [] => none
        | u :: N => if u.kind = 4 then some N else skF k 1 (u :: N))
      else if t.kind = 1 then (match M with
        | [] => none
        | u :: N => if u.kind = 2 then some N else skF k 2 (u :: N))
      else some M
  | k + 1, 1, L => match skF k 0 L with
    | none => none
    | some [] => none
    | some (c :: M) => if c.kind = 6 then skF k 1 M else if c.kind = 4 then some M else none
  | k + 1, _ + 2, L => match L with
    | [] => none
    | t :: M => if t.kind ≠ 7 then none
      else match M with
        | [] => none
        | c :: M => if c.kind ≠ 5 then none
          else match skF k 0 M with
            | none => none
            | some [] => none
            | some (c :: M) => if c.kind = 6 then skF k 2 M else if c.kind = 2 then some M else none
def toO (r : Sum (Int × List Tk) (Tr × Nat × List Tk)) : Option (List Tk) := match r with
  | .inl _ => none
  | .inr (_, _, M) => some M
theorem beg_free (n : Int) (d : Nat) (e : Int) : beginA true n d e = 0 := by unfold beginA; rw [if_pos rfl]
theorem sk_rd : ∀ (k q : Nat), q ≤ 2 → ∀ (d n : Nat) (keys kids : List Tr) (L : List Tk), toO (rdF k q true d n keys kids L) = skF k q L := by
  intro k
  induction k with
  | zero => intro q _ d n keys kids L; rfl
  | succ k ih =>
    intro q hq d n keys kids L
    rcases q with _ | _ | q
    · cases L with
      | nil => rfl
      | cons t M =>
        simp only [rdF, skF]
        by_cases h1 : bvA t.kind = false
        · rw [if_pos h1, if_pos h1]; rfl
        rw [if_neg h1, if_neg h1, if_neg (by rw [beg_free]; simp)]
        by_cases h3 : t.kind = 3
        · rw [if_pos h3, if_pos h3]
          cases M with
          | nil => rfl
          | cons u N =>
            simp only
            by_cases h4 : u.kind = 4
            · rw [if_pos h4, if_pos h4]; rfl
            · rw [if_neg h4, if_neg h4]; exact ih 1 (by omega) _ _ _ _ _
        rw [if_neg h3, if_neg h3]
        by_cases h2 : t.kind = 1
        · rw [if_pos h2, if_pos h2]
          cases M with
          | nil => rfl
          | cons u N =>
            simp only
            by_cases h4 : u.kind = 2
            · rw [if_pos h4, if_pos h4]; rfl
            · rw [if_neg h4, if_neg h4]; exact ih 2 (by omega) _ _ _ _ _
        rw [if_neg h2, if_neg h2]
        rfl
    · have h0 := ih 0 (by omega) d n [] [] L
      simp only [rdF, skF]
      rw [← h0]
      cases hr : rdF k 0 true d n [] [] L with
      | inl f => rfl
      | inr z =>
        obtain ⟨t, m, M⟩ := z
        cases M with
        | nil => rfl
        | cons c M =>
          simp only [toO]
          by_cases h6 : c.kind = 6
          · rw [if_pos h6, if_pos h6]; exact ih 1 (by omega) _ _ _ _ _
          rw [if_neg h6, if_neg h6]
          by_cases h4 : c.kind = 4
          · rw [if_pos h4, if_pos h4]
          · rw [if_neg h4, if_neg h4]
    · obtain rfl : q = 0 := by omega
      cases L with
      | nil => rfl
      | cons t M =>
        simp only [rdF, skF]
        by_cases h7 : t.kind ≠ 7
        · rw [if_pos h7, if_pos h7]; rfl
        rw [if_neg h7, if_neg h7, if_neg (by rw [beg_free]; simp)]
        cases M with
        | nil => rfl
        | cons c M =>
          simp only
          by_cases h5 : c.kind ≠ 5
          · rw [if_pos h5, if_pos h5]; rfl
          rw [if_neg h5, if_neg h5]
          have h0 := ih 0 (by omega) d (n + 1) [] [] M
          rw [← h0]
          cases hr : rdF k 0 true d (n + 1) [] [] M with
          | inl f => rfl
          | inr z =>
            obtain ⟨u, m, M⟩ := z
            cases M with
            | nil => rfl
            | cons c M =>
              simp only [toO]
              by_cases h6 : c.kind = 6
              · rw [if_pos h6, if_pos h6]; exact ih 2 (by omega) _ _ _ _ _
              rw [if_neg h6, if_neg h6]
              by_cases h4 : c.kind = 2
              · rw [if_pos h4, if_pos h4]
              · rw [if_neg h4, if_neg h4]
end Go.Proofs.YtmlacmoembjeoaaGreatDoor
namespace Go.Proofs.YtmlacmoembjeoaaGreatDoor
open Go.RowKit
set_option linter.unusedVariables false
theorem tkW_get (L : List Tk) (i j : Nat) (hi : i < L.length) (hj : j < 4) : (tkCs L)[i * 4 + j]? = (tkC (L[i]'hi))[j]? := by
  induction L generalizing i with
  | nil => simp at hi
  | cons t L ih =>
    have e : tkCs (t :: L) = tkC t ++ tkCs L := rfl
    have hl : (tkC t).length = 4 := rfl
    rw [e]
    cases i with
    | zero => rw [List.getElem?_append_left (by omega)]; simp
    | succ i =>
      rw [List.getElem?_append_right (by omega), hl, show (i + 1) * 4 + j - 4 = i * 4 + j by omega, ih i (by simpa using hi)]
      rfl
theorem Kq.mono {g B B' : Nat} {w w' : World} (h : Kq g B w w') (hB : B' ≤ B) : Kq g B' w w' := ⟨h.os, h.tape, h.output, h.size, fun k hk hg => h.block k (by omega) hg⟩
theorem kqd {g B : Nat} {w w' : World} (h : Kq g B w w') : Kq g B w w'.drew := ⟨h.os, h.tape, h.output, h.size, h.block⟩
theorem kq56 (g : Nat) (w : World) (u v : Value) : Kq g w.heap.size w ((w.setCell ⟨g, 5, none⟩ u).setCell ⟨g, 6, none⟩ v) := (Kq.set g _ w 5 u).trans (Kq.set g _ _ 6 v)
theorem kq56' {g B : Nat} {w w' : World} (h : Kq g B w w') (u v : Value) : Kq g B w ((w'.setCell ⟨g, 5, none⟩ u).setCell ⟨g, 6, none⟩ v) := h.trans ((Kq.set g _ w' 5 u).trans (Kq.set g _ _ 6 v))
def Rb (w : World) (g : Nat) (bb lv : Value) (p n : Int) (free : Bool) (y z ly lz : Int) : Prop := Blk w g #[bb, lv, .int .i64 p, .int .i64 n, .bool free, .int .i64 y, .int .i64 z, .int .i64 ly, .int .i64 lz] 55
theorem Rb.c1 {w : World} {g : Nat} {bb lv : Value} {p n : Int} {free : Bool} {y z ly lz : Int} (h : Rb w g bb lv p n free y z ly lz) : w.cell? ⟨g, 1, none⟩ = some lv := Blk.cell h 1
theorem Rb.c0 {w : World} {g : Nat} {bb lv : Value} {p n : Int} {free : Bool} {y z ly lz : Int} (h : Rb w g bb lv p n free y z ly lz) : w.cell? ⟨g, 0, none⟩ = some bb := Blk.cell h 0
theorem Rb.c2 {w : World} {g : Nat} {bb lv : Value} {p n : Int} {free : Bool} {y z ly lz : Int} (h : Rb w g bb lv p n free y z ly lz) : w.cell? ⟨g, 2, none⟩ = some (.int .i64 p) := Blk.cell h 2
theorem Rb.c3 {w : World} {g : Nat} {bb lv : Value} {p n : Int} {free : Bool} {y z ly lz : Int} (h : Rb w g bb lv p n free y z ly lz) : w.cell? ⟨g, 3, none⟩ = some (.int .i64 n) := Blk.cell h 3
theorem Rb.c4 {w : World} {g : Nat} {bb lv : Value} {p n : Int} {free : Bool} {y z ly lz : Int} (h : Rb w g bb lv p n free y z ly lz) : w.cell? ⟨g, 4, none⟩ = some (.bool free) := Blk.cell h 4
theorem Rb.c5 {w : World} {g : Nat} {bb lv : Value} {p n : Int} {free : Bool} {y z ly lz : Int} (h : Rb w g bb lv p n free y z ly lz) : w.cell? ⟨g, 5, none⟩ = some (.int .i64 y) := Blk.cell h 5
theorem Rb.c6 {w : World} {g : Nat} {bb lv : Value} {p n : Int} {free : Bool} {y z ly lz : Int} (h : Rb w g bb lv p n free y z ly lz) : w.cell? ⟨g, 6, none⟩ = some (.int .i64 z) := Blk.cell h 6
theorem Rb.c7 {w : World} {g : Nat} {bb lv : Value} {p n : Int} {free : Bool} {y z ly lz : Int} (h : Rb w g bb lv p n free y z ly lz) : w.cell? ⟨g, 7, none⟩ = some (.int .i64 ly) := Blk.cell h 7
theorem Rb.c8 {w : World} {g : Nat} {bb lv : Value} {p n : Int} {free : Bool} {y z ly lz : Int} (h : Rb w g bb lv p n free y z ly lz) : w.cell? ⟨g, 8, none⟩ = some (.int .i64 lz) := Blk.cell h 8
theorem Rb.fz {w : World} {g : Nat} {bb lv : Value} {p n : Int} {free : Bool} {y z ly lz : Int} (h : Rb w g bb lv p n free y z ly lz) (j : Nat) : w.frozen? ⟨g, j, none⟩ = false := Blk.fz h j
theorem Rb.s2 {w : World} {g : Nat} {bb lv : Value} {p n : Int} {free : Bool} {y z ly lz : Int} (h : Rb w g bb lv p n free y z ly lz) (p' : Int) : Rb (w.setCell ⟨g, 2, none⟩ (.int .i64 p')) g bb lv p' n free y z ly lz := Blk.set h 2 _
theorem Rb.s3 {w : World} {g : Nat} {bb lv : Value} {p n : Int} {free : Bool} {y z ly lz : Int} (h : Rb w g bb lv p n free y z ly lz) (n' : Int) : Rb (w.setCell ⟨g, 3, none⟩ (.int .i64 n')) g bb lv p n' free y z ly lz := Blk.set h 3 _
theorem Rb.s56 {w : World} {g : Nat} {bb lv : Value} {p n : Int} {free : Bool} {y z ly lz : Int} (h : Rb w g bb lv p n free y z ly lz) (y' z' : Int) : Rb ((w.setCell ⟨g, 5, none⟩ (.int .i64 y')).setCell ⟨g, 6, none⟩ (.int .i64 z')) g bb lv p n free y' z' ly lz := Blk.set (Blk.set h 5 _) 6 _
theorem Rb.drew {w : World} {g : Nat} {bb lv : Value} {p n : Int} {free : Bool} {y z ly lz : Int} (h : Rb w g bb lv p n free y z ly lz) : Rb w.drew g bb lv p n free y z ly lz := h
def Tg (w : World) (g : Nat) (lv : Value) (L : List Tk) : Prop := ∃ av cv, lv = .slice av L.length cv ∧ L.length ≤ cv ∧ cv ≤ 9223372036854775807 ∧ (L ≠ [] → ∃ gl, av = some ⟨gl, 0, none⟩ ∧ gl < w.heap.size ∧ gl ≠ g ∧ ∀ j, j < L.length * 4 → w.cell? ⟨gl, j, none⟩ = (tkCs L)[j]?)
theorem Tg.kq {w w' : World} {g B : Nat} {lv : Value} {L : List Tk} (h : Tg w g lv L) (hq : Kq g B w w') (hB : w.heap.size ≤ B) : Tg w' g lv L := by
  obtain ⟨av, cv, h1, h2, h3, h4⟩ := h
  refine ⟨av, cv, h1, h2, h3, fun h0 => ?_⟩
  obtain ⟨gl, a1, a2, a3, a4⟩ := h4 h0
  refine ⟨gl, a1, Nat.lt_of_lt_of_le a2 hq.size, a3, fun j hj => ?_⟩
  rw [← a4 j hj]
  unfold World.cell?
  rw [hq.block gl (by omega) a3]
theorem Tg.at {w : World} {g : Nat} {lv : Value} {L : List Tk} (h : Tg w g lv L) {i : Nat} (hi : i < L.length) : ∃ gl cv, lv = .slice (some ⟨gl, 0, none⟩) L.length cv ∧ L.length ≤ cv ∧ cv ≤ 9223372036854775807 ∧ w.cell? ⟨gl, i * 4, none⟩ = some (.int .i64 (L[i].kind : Nat)) ∧ w.cell? ⟨gl, i * 4 + 1, none⟩ = some (.int .i64 (L[i].frm : Nat)) ∧ w.cell? ⟨gl, i * 4 + 3, none⟩ = some (.string (strOfNums L[i].txt)) := by
  obtain ⟨av, cv, h1, h2, h3, h4⟩ := h
  obtain ⟨gl, a1, _, _, a4⟩ := h4 (by intro e; subst e; simp at hi)
  subst a1
  refine ⟨gl, cv, h1, h2, h3, ?_, ?_, ?_⟩
  · have := a4 (i * 4 + 0) (by omega); rw [tkW_get L i 0 hi (by omega)] at this; exact this
  · have := a4 (i * 4 + 1) (by omega); rw [tkW_get L i 1 hi (by omega)] at this; exact this
  · have := a4 (i * 4 + 3) (by omega); rw [tkW_get L i 3 hi (by omega)] at this; exact this
set_option maxHeartbeats 1000000 in
set_option maxRecDepth 100000 in
theorem wok_any {w : World} {g : Nat} {bb lv : Value} {p n : Int} {free : Bool} {y z ly lz : Int} (h : Rb w g bb lv p n free y z ly lz) : Calls Tryz.prog 30 #[.pointer (some ⟨g, 0, none⟩)] w fun e w' => e = .returned (.bool (y == 0)) ∧ w' = w := by
  have c5 := h.c5
  clear h
  go_enter Tryz.func30, Tryz.ntmps30
  go_wp2
  go_ret
  exact ⟨rfl, rfl⟩
set_option maxHeartbeats 2000000 in
set_option maxRecDepth 100000 in
theorem wfails_yes {w : World} {g : Nat} {bb lv : Value} {p : Nat} {n : Int} {free : Bool} {z ly lz : Int} {L : List Tk} (k : Int) (h : Rb w g bb lv p n free 0 z ly lz) (hT : Tg w g lv L) (hp : p < L.length) : Calls Tryz.prog 31 #[.pointer (some ⟨g, 0, none⟩), .int .i64 k] w fun e w' => e = .returned (.tuple #[]) ∧ ((∃ z', Rb w' g bb lv p n free k z' ly lz) ∧ Kq g w.heap.size w w') := by
  have kO := wok_any h
  obtain ⟨gl, cv, rfl, hc, hcm, t0, t1, t3⟩ := hT.at hp
  have c1 := h.c1
  have c2 := h.c2
  have f5 := h.fz 5
  have f6 := h.fz 6
  have hR : Hid (∀ z', Rb ((w.setCell ⟨g, 5, none⟩ (.int .i64 k)).setCell ⟨g, 6, none⟩ (.int .i64 z')) g bb (.slice (some ⟨gl, 0, none⟩) L.length cv) p n free k z' ly lz) := fun z' => h.s56 k z'
  have hK : Hid (∀ z', Kq g w.heap.size w ((w.setCell ⟨g, 5, none⟩ (.int .i64 k)).setCell ⟨g, 6, none⟩ (.int .i64 z'))) := fun z' => (Kq.set g _ w 5 _).trans (Kq.set g _ _ 6 _)
  have c5 := h.c5
  have c6 := h.c6
  have hz : (p : Int) < (L.length : Int) := by omega
  have hz0 : (0 : Int) ≤ (p : Int) := by omega
  clear h hT
  generalize L[p].frm = fr at *
  generalize L[p].kind = kd at *
  generalize L[p].txt = tx at *
  clear hp
  generalize L.length = N at *
  go_enter Tryz.func31, Tryz.ntmps31
  go_wp2_with (go_at_call 30; refine kO.mono ?_; rintro e w2 ⟨rfl, rfl⟩)
  go_region
  all_goals
    go_wp2_with fail
    go_end0
    exact ⟨rfl, ⟨_, (hR.out _).drew⟩, kqd (hK.out _)⟩
set_option maxHeartbeats 2000000 in
set_option maxRecDepth 100000 in
theorem wover_no {w : World} {g : Nat} {bb lv : Value} {p : Nat} {n : Int} {free : Bool} {y z ly lz : Int} {L : List Tk} (h : Rb w g bb lv p n free y z ly lz) (hT : Tg w g lv L) (hp : p < L.length) : Calls Tryz.prog 75 #[.pointer (some ⟨g, 0, none⟩)] w fun e w' => e = .returned (.bool false) ∧ w' = w.drew := by
  obtain ⟨gl, cv, rfl, hc, hcm, t0, t1, t3⟩ := hT.at hp
  have c1 := h.c1
  have c2 := h.c2
  have hz : decide ((p : Int) < (L.length : Int)) = true := by simp; omega
  have hz1 : decide (p < L.length) = true := by simpa using hp
  clear h hT t0 t1 t3
  clear hp
  generalize L.length = N at *
  go_enter Tryz.func75, Tryz.ntmps75
  go_wp2_with fail
  go_region
  all_goals
    go_wp2_with fail
    go_ret
    exact ⟨rfl, rfl⟩
set_option maxHeartbeats 2000000 in
set_option maxRecDepth 100000 in
theorem wover_yes {w : World} {g : Nat} {ab : Option Addr} {nb cb : Nat} {lv : Value} {p : Nat} {n : Int} {free : Bool} {z ly lz : Int} {L : List Tk} (h : Rb w g (.slice ab nb cb) lv p n free 0 z ly lz) (hT : Tg w g lv L) (hp : ¬ p < L.length) : Calls Tryz.prog 75 #[.pointer (some ⟨g, 0, none⟩)] w fun e w' => e = .returned (.bool true) ∧ ((∃ y' z', y' ≠ 0 ∧ Rb w' g (.slice ab nb cb) lv p n free y' z' ly lz) ∧ Kq g w.heap.size w w') := by
  obtain ⟨av, cv, rfl, hc, hcm, _⟩ := hT
  have c0 := h.c0
  have c1 := h.c1
  have c2 := h.c2
  have c5 := h.c5
  have c6 := h.c6
  have c7 := h.c7
  have c8 := h.c8
  have f5 := h.fz 5
  have f6 := h.fz 6
  have kO : Hid (∀ wx, Rb wx g (.slice ab nb cb) (.slice av L.length cv) p n free 0 z ly lz → Calls Tryz.prog 30 #[.pointer (some ⟨g, 0, none⟩)] wx fun e w' => e = .returned (.bool true) ∧ w' = wx) := fun wx hr => wok_any hr
  have hh : Hid (Rb w g (.slice ab nb cb) (.slice av L.length cv) p n free 0 z ly lz) := h
  have hz : decide ((p : Int) < (L.length : Int)) = false := by simp; omega
  have hz1 : decide (p < L.length) = false := by simpa using hp
  clear h hp
  generalize L.length = N at *
  by_cases hl : ly = 0
  · subst hl
    go_enter Tryz.func75, Tryz.ntmps75
    go_wp2_with fail
    go_region
    all_goals
      go_wp2_with (go_at_call 30; refine (kO.out _ (by exact hh.out)).mono ?_; rintro e w2 ⟨rfl, rfl⟩)
      go_ret
      exact ⟨rfl, ⟨3, (nb : Int), by decide, ((hh.out.s56 0 lz).s56 3 (nb : Int)).drew⟩, kqd (kq56' (kq56 g w _ _) _ _)⟩
  · have hl0 : (ly == 0) = false := by simpa using hl
    have hl1 : Hid (ly ≠ 0) := hl
    clear hl
    go_enter Tryz.func75, Tryz.ntmps75
    go_wp2_with fail
    go_region
    all_goals
      go_wp2_with (go_at_call 30; refine (kO.out _ (by exact hh.out)).mono ?_; rintro e w2 ⟨rfl, rfl⟩)
      go_ret
      exact ⟨rfl, ⟨ly, lz, hl1.out, (hh.out.s56 ly lz).drew⟩, kqd (kq56 g w _ _)⟩
theorem wkind_bad {w : World} {g : Nat} {bb lv : Value} {p n : Int} {free : Bool} {y z ly lz : Int} (h : Rb w g bb lv p n free y z ly lz) (hy : y ≠ 0) : Calls Tryz.prog 46 #[.pointer (some ⟨g, 0, none⟩)] w fun e w' => e = .returned (.int .i64 0) ∧ w' = w := by
  have kO := wok_any h
  have hy0 : (y == 0) = false := by simpa using hy
  rw [hy0] at kO
  clear h hy hy0
  go_enter Tryz.func46, Tryz.ntmps46
  go_wp2_with (go_at_call 30; refine kO.mono ?_; rintro e w2 ⟨rfl, rfl⟩)
  go_ret
  exact ⟨rfl, rfl⟩
set_option maxHeartbeats 2000000 in
set_option maxRecDepth 100000 in
theorem wkind_out {w : World} {g : Nat} {ab : Option Addr} {nb cb : Nat} {lv : Value} {p : Nat} {n : Int} {free : Bool} {z ly lz : Int} {L : List Tk} (h : Rb w g (.slice ab nb cb) lv p n free 0 z ly lz) (hT : Tg w g lv L) (hp : ¬ p < L.length) : Calls Tryz.prog 46 #[.pointer (some ⟨g, 0, none⟩)] w fun e w' => e = .returned (.int .i64 0) ∧ ((∃ y' z', y' ≠ 0 ∧ Rb w' g (.slice ab nb cb) lv p n free y' z' ly lz) ∧ Kq g w.heap.size w w') := by
  have kO := wok_any h
  have kV := wover_yes h hT hp
  clear h hT hp
  go_enter Tryz.func46, Tryz.ntmps46
  go_wp2_with (first
    | (go_at_call 30; refine kO.mono ?_; rintro e w2 ⟨rfl, rfl⟩)
    | (go_at_call 75; refine kV.mono ?_; rintro e w3 ⟨rfl, hr, hk⟩))
  go_ret
  exact ⟨rfl, hr, hk⟩
set_option maxHeartbeats 2000000 in
set_option maxRecDepth 100000 in
theorem wkind_ok {w : World} {g : Nat} {bb lv : Value} {p : Nat} {n : Int} {free : Bool} {z ly lz : Int} {L : List Tk} (h : Rb w g bb lv p n free 0 z ly lz) (hT : Tg w g lv L) (hp : p < L.length) : Calls Tryz.prog 46 #[.pointer (some ⟨g, 0, none⟩)] w fun e w' => e = .returned (.int .i64 (L[p].kind : Nat)) ∧ ∃ q, w' = w.drewN q := by
  have kO := wok_any h
  have kV := wover_no h hT hp
  obtain ⟨gl, cv, rfl, hc, hcm, t0, t1, t3⟩ := hT.at hp
  have c1 := h.c1
  have c2 := h.c2
  have hz : (p : Int) < (L.length : Int) := by omega
  have hz0 : (0 : Int) ≤ (p : Int) := by omega
  clear h hT
  generalize L[p].kind = kd at *
  generalize L[p].frm = fr at *
  generalize L[p].txt = tx at *
  clear hp
  generalize L.length = N at *
  go_enter Tryz.func46, Tryz.ntmps46
  go_wp2_with (first
    | (go_at_call 30; refine kO.mono ?_; rintro e w2 ⟨rfl, rfl⟩)
    | (go_at_call 75; refine kV.mono ?_; rintro e w3 ⟨rfl, rfl⟩))
  go_quiet (fail)
  go_wp2_with fail
  go_ret
  exact ⟨rfl, _, World.drewN_drewN w2 1 _⟩
end Go.Proofs.YtmlacmoembjeoaaGreatDoor
namespace Go.Proofs.YtmlacmoembjeoaaGreatDoor
open Go.RowKit
set_option linter.unusedVariables false
structure RC where
  g : Nat
  ab : Option Addr
  nb : Nat
  cb : Nat
  lv : Value
  free : Bool
  ly : Int
  lz : Int
  L : List Tk
def Sg (C : RC) (w : World) (p n : Nat) (y : Int) : Prop := (∃ z, Rb w C.g (.slice C.ab C.nb C.cb) C.lv p n C.free y z C.ly C.lz) ∧ Tg w C.g C.lv C.L
def Sb (C : RC) (w : World) : Prop := ∃ p n y, y ≠ 0 ∧ Sg C w p n y
theorem Sg.lt {C : RC} {w : World} {p n : Nat} {y : Int} (h : Sg C w p n y) : C.g < w.heap.size := by obtain ⟨⟨z, h⟩, _⟩ := h; exact Blk.lt h
theorem Sg.below {C : RC} {w w' : World} {p n : Nat} {y : Int} (h : Sg C w p n y) (hb : Below w.heap.size w w') : Sg C w' p n y := by
  obtain ⟨⟨z, h1⟩, h2⟩ := h
  exact ⟨⟨z, Blk.kept h1 hb (Blk.lt h1)⟩, h2.kq (Kq.of hb) (Nat.le_refl _)⟩
theorem kq_refl (g : Nat) (w : World) (q : Nat) : Kq g w.heap.size w (w.drewN q) := ⟨rfl, rfl, rfl, Nat.le_refl _, fun _ _ _ => rfl⟩
theorem Sg.at_ {C : RC} {w : World} {p n : Nat} {y : Int} (h : Sg C w p n y) (q : Nat) : Sg C (w.setCell ⟨C.g, 2, none⟩ (.int .i64 (q : Nat))) q n y := by
  obtain ⟨⟨z, h1⟩, h2⟩ := h
  exact ⟨⟨z, h1.s2 _⟩, h2.kq (Kq.set C.g w.heap.size w 2 _) (Nat.le_refl _)⟩
theorem Sg.no_ {C : RC} {w : World} {p n : Nat} {y : Int} (h : Sg C w p n y) (m : Nat) : Sg C (w.setCell ⟨C.g, 3, none⟩ (.int .i64 (m : Nat))) p m y := by
  obtain ⟨⟨z, h1⟩, h2⟩ := h
  exact ⟨⟨z, h1.s3 _⟩, h2.kq (Kq.set C.g w.heap.size w 3 _) (Nat.le_refl _)⟩
theorem gok {C : RC} {w : World} {p n : Nat} {y : Int} (h : Sg C w p n y) : Calls Tryz.prog 30 #[.pointer (some ⟨C.g, 0, none⟩)] w fun e w' => e = .returned (.bool (y == 0)) ∧ w' = w := by
  obtain ⟨⟨z, h1⟩, _⟩ := h
  exact wok_any h1
theorem gfails {C : RC} {w : World} {p n : Nat} (k : Int) (h : Sg C w p n 0) (hp : p < C.L.length) : Calls Tryz.prog 31 #[.pointer (some ⟨C.g, 0, none⟩), .int .i64 k] w fun e w' => e = .returned (.tuple #[]) ∧ Sg C w' p n k ∧ Kq C.g w.heap.size w w' := by
  obtain ⟨⟨z, h1⟩, h2⟩ := h
  exact (wfails_yes k h1 h2 hp).mono fun e w' ⟨a, b, c⟩ => ⟨a, ⟨b, h2.kq c (Nat.le_refl _)⟩, c⟩
theorem gkind_bad {C : RC} {w : World} {p n : Nat} {y : Int} (h : Sg C w p n y) (hy : y ≠ 0) : Calls Tryz.prog 46 #[.pointer (some ⟨C.g, 0, none⟩)] w fun e w' => e = .returned (.int .i64 0) ∧ w' = w := by
  obtain ⟨⟨z, h1⟩, _⟩ := h
  exact wkind_bad h1 hy
theorem gkind_out {C : RC} {w : World} {p n : Nat} (h : Sg C w p n 0) (hp : ¬ p < C.L.length) : Calls Tryz.prog 46 #[.pointer (some ⟨C.g, 0, none⟩)] w fun e w' => e = .returned (.int .i64 0) ∧ Sb C w' ∧ Kq C.g w.heap.size w w' := by
  obtain ⟨⟨z, h1⟩, h2⟩ := h
  exact (wkind_out h1 h2 hp).mono fun e w' ⟨a, ⟨y, z, b1, b2⟩, c⟩ => ⟨a, ⟨p, n, y, b1, ⟨z, b2⟩, h2.kq c (Nat.le_refl _)⟩, c⟩
theorem gkind {C : RC} {w : World} {p n : Nat} (h : Sg C w p n 0) (hp : p < C.L.length) : Calls Tryz.prog 46 #[.pointer (some ⟨C.g, 0, none⟩)] w fun e w' => e = .returned (.int .i64 (C.L[p].kind : Nat)) ∧ Sg C w' p n 0 ∧ Kq C.g w.heap.size w w' := by
  have hh := h
  obtain ⟨⟨z, h1⟩, h2⟩ := h
  exact (wkind_ok h1 h2 hp).mono fun e w' ⟨a, q, b⟩ => ⟨a, by subst b; exact hh, by subst b; exact kq_refl _ _ _⟩
theorem gmust_bad {C : RC} {w : World} {p n : Nat} {y : Int} (k : Int) (h : Sg C w p n y) (hy : y ≠ 0) : Calls Tryz.prog 76 #[.pointer (some ⟨C.g, 0, none⟩), .int .i64 k] w fun e w' => e = .returned (.tuple #[]) ∧ w' = w := by
  have kK := gkind_bad h hy
  clear h hy
  go_enter Tryz.func76, Tryz.ntmps76
  go_wp2_with (go_at_call 46; refine kK.mono ?_; rintro e w2 ⟨rfl, rfl⟩)
  refine bodyPost_ret (v := .tuple #[]) (by simp [results, Tryz.results76, go_sem, *]) rfl ⟨rfl, rfl⟩
set_option maxHeartbeats 2000000 in
set_option maxRecDepth 100000 in
theorem gmust_no {C : RC} {w : World} {p n : Nat} (k : Nat) (h : Sg C w p n 0) (hp : ∀ hp : p < C.L.length, C.L[p].kind ≠ k ∧ C.L[p].kind ≠ 0) : Calls Tryz.prog 76 #[.pointer (some ⟨C.g, 0, none⟩), .int .i64 (k : Nat)] w fun e w' => e = .returned (.tuple #[]) ∧ Sb C w' ∧ Kq C.g w.heap.size w w' := by
  by_cases hl : p < C.L.length
  · have kK := gkind h hl
    obtain ⟨h1, h2⟩ := hp hl
    have g0 : (((C.L[p].kind : Nat) : Int) == 0) = false := by simp; omega
    have g1 : (((C.L[p].kind : Nat) : Int) != ((k : Nat) : Int)) = true := by simp; omega
    have kF : Hid (∀ wx, Sg C wx p n 0 → Calls Tryz.prog 31 #[.pointer (some ⟨C.g, 0, none⟩), .int .i64 5] wx fun e w' => e = .returned (.tuple #[]) ∧ Sg C w' p n 5 ∧ Kq C.g wx.heap.size wx w') := fun wx hx => gfails 5 hx hl
    generalize C.L[p].kind = kd at *
    clear h hp h1 h2 hl
    go_enter Tryz.func76, Tryz.ntmps76
    go_wp2_with (first
      | (go_at_call 46; refine kK.mono ?_; rintro e w2 ⟨rfl, s2, q2⟩; have S2 : Hid (Sg C w2 p n 0) := s2; have Q2 : Hid (Kq C.g w.heap.size w w2) := q2; clear s2 q2)
      | (go_at_call 31; refine (kF.out w2 S2.out).mono ?_; rintro e w3 ⟨rfl, s3, q3⟩))
    refine bodyPost_ret (v := .tuple #[]) (by simp [results, Tryz.results76, go_sem, *]) rfl ⟨rfl, ⟨p, n, 5, by decide, s3⟩, Q2.out.trans (q3.mono Q2.out.size)⟩
  · have kK := gkind_out h hl
    clear h hp hl
    go_enter Tryz.func76, Tryz.ntmps76
    go_wp2_with (go_at_call 46; refine kK.mono ?_; rintro e w2 ⟨rfl, s2, q2⟩)
    refine bodyPost_ret (v := .tuple #[]) (by simp [results, Tryz.results76, go_sem, *]) rfl ⟨rfl, s2, q2⟩
set_option maxHeartbeats 2000000 in
set_option maxRecDepth 100000 in
theorem gmust {C : RC} {w : World} {p n : Nat} (h : Sg C w p n 0) (hl : p < C.L.length) (h0 : C.L[p].kind ≠ 0) (hM : p ≤ 1000000) : Calls Tryz.prog 76 #[.pointer (some ⟨C.g, 0, none⟩), .int .i64 (C.L[p].kind : Nat)] w fun e w' => e = .returned (.tuple #[]) ∧ Sg C w' (p + 1) n 0 ∧ Kq C.g w.heap.size w w' := by
  have kK := gkind h hl
  have g0 : (((C.L[p].kind : Nat) : Int) == 0) = false := by simp; omega
  have wi : IntKind.i64.wrap ((p : Int) + 1) = (p : Int) + 1 := by rw [IntKind.wrap_i64]; omega
  generalize C.L[p].kind = kd at *
  have g1 : (((kd : Nat) : Int) != ((kd : Nat) : Int)) = false := by simp
  clear h h0 hl
  go_enter Tryz.func76, Tryz.ntmps76
  go_wp2_with fail
  refine kK.mono ?_
  rintro e w2 ⟨rfl, s2, q2⟩
  have S2 : Hid (Sg C (w2.setCell ⟨C.g, 2, none⟩ (.int .i64 ((p : Int) + 1))) (p + 1) n 0) := by have := s2.at_ (p + 1); rw [show (((p + 1 : Nat) : Nat) : Int) = (p : Int) + 1 by omega] at this; exact this
  have Q2 : Hid (Kq C.g w.heap.size w (w2.setCell ⟨C.g, 2, none⟩ (.int .i64 ((p : Int) + 1)))) := q2.trans (Kq.set _ _ _ _ _)
  obtain ⟨⟨z, hr⟩, _⟩ := s2
  have c2 := hr.c2
  have f2 := hr.fz 2
  clear kK q2 hr
  go_wp2_with fail
  go_end0
  exact ⟨rfl, S2.out, Q2.out⟩
theorem gmore_yes {C : RC} {w : World} {p n : Nat} (c : Int) (h : Sg C w p n 0) (hl : p < C.L.length) (h6 : C.L[p].kind = 6) (hM : p ≤ 1000000) : Calls Tryz.prog 77 #[.pointer (some ⟨C.g, 0, none⟩), .int .i64 c] w fun e w' => e = .returned (.bool true) ∧ Sg C w' (p + 1) n 0 ∧ Kq C.g w.heap.size w w' := by
  have kK := gkind h hl
  rw [h6] at kK
  have wi : IntKind.i64.wrap ((p : Int) + 1) = (p : Int) + 1 := by rw [IntKind.wrap_i64]; omega
  clear h h6 hl
  go_enter Tryz.func77, Tryz.ntmps77
  go_wp2_with fail
  refine kK.mono ?_
  rintro e w2 ⟨rfl, s2, q2⟩
  have S2 : Hid (Sg C (w2.setCell ⟨C.g, 2, none⟩ (.int .i64 ((p : Int) + 1))) (p + 1) n 0) := by have := s2.at_ (p + 1); rw [show (((p + 1 : Nat) : Nat) : Int) = (p : Int) + 1 by omega] at this; exact this
  have Q2 : Hid (Kq C.g w.heap.size w (w2.setCell ⟨C.g, 2, none⟩ (.int .i64 ((p : Int) + 1)))) := q2.trans (Kq.set _ _ _ _ _)
  obtain ⟨⟨z, hr⟩, _⟩ := s2
  have c2 := hr.c2
  have f2 := hr.fz 2
  clear kK q2 hr
  go_wp2_with fail
  go_ret
  exact ⟨rfl, S2.out, Q2.out⟩
set_option maxHeartbeats 2000000 in
set_option maxRecDepth 100000 in
theorem gmore_end {C : RC} {w : World} {p n : Nat} (h : Sg C w p n 0) (hl : p < C.L.length) (h6 : C.L[p].kind ≠ 6) (h0 : C.L[p].kind ≠ 0) (hM : p ≤ 1000000) : Calls Tryz.prog 77 #[.pointer (some ⟨C.g, 0, none⟩), .int .i64 (C.L[p].kind : Nat)] w fun e w' => e = .returned (.bool false) ∧ Sg C w' (p + 1) n 0 ∧ Kq C.g w.heap.size w w' := by
  have kK := gkind h hl
  have g6 : (((C.L[p].kind : Nat) : Int) == 6) = false := by simp; omega
  have kM : Hid (∀ wx, Sg C wx p n 0 → Calls Tryz.prog 76 #[.pointer (some ⟨C.g, 0, none⟩), .int .i64 (C.L[p].kind : Nat)] wx fun e w' => e = .returned (.tuple #[]) ∧ Sg C w' (p + 1) n 0 ∧ Kq C.g wx.heap.size wx w') := fun wx hx => gmust hx hl h0 hM
  generalize C.L[p].kind = kd at *
  clear h h6 h0 hl
  go_enter Tryz.func77, Tryz.ntmps77
  go_wp2_with (first
    | (go_at_call 46; refine kK.mono ?_; rintro e w2 ⟨rfl, s2, q2⟩; have S2 : Hid (Sg C w2 p n 0) := s2; have Q2 : Hid (Kq C.g w.heap.size w w2) := q2; clear s2 q2)
    | (go_at_call 76; refine (kM.out w2 S2.out).mono ?_; rintro e w3 ⟨rfl, s3, q3⟩))
  go_ret
  exact ⟨rfl, s3, Q2.out.trans (q3.mono Q2.out.size)⟩
set_option maxHeartbeats 2000000 in
set_option maxRecDepth 100000 in
theorem gmore_no {C : RC} {w : World} {p n : Nat} (c : Nat) (h : Sg C w p n 0) (hp : ∀ hp : p < C.L.length, C.L[p].kind ≠ c ∧ C.L[p].kind ≠ 0 ∧ C.L[p].kind ≠ 6) : Calls Tryz.prog 77 #[.pointer (some ⟨C.g, 0, none⟩), .int .i64 (c : Nat)] w fun e w' => e = .returned (.bool false) ∧ Sb C w' ∧ Kq C.g w.heap.size w w' := by
  by_cases hl : p < C.L.length
  · have kK := gkind h hl
    obtain ⟨h1, h2, h3⟩ := hp hl
    have g6 : (((C.L[p].kind : Nat) : Int) == 6) = false := by simp; omega
    have kM : Hid (∀ wx, Sg C wx p n 0 → Calls Tryz.prog 76 #[.pointer (some ⟨C.g, 0, none⟩), .int .i64 (c : Nat)] wx fun e w' => e = .returned (.tuple #[]) ∧ Sb C w' ∧ Kq C.g wx.heap.size wx w') := fun wx hx => gmust_no c hx (fun _ => ⟨h1, h2⟩)
    generalize C.L[p].kind = kd at *
    clear h hp h1 h2 h3 hl
    go_enter Tryz.func77, Tryz.ntmps77
    go_wp2_with (first
      | (go_at_call 46; refine kK.mono ?_; rintro e w2 ⟨rfl, s2, q2⟩; have S2 : Hid (Sg C w2 p n 0) := s2; have Q2 : Hid (Kq C.g w.heap.size w w2) := q2; clear s2 q2)
      | (go_at_call 76; refine (kM.out w2 S2.out).mono ?_; rintro e w3 ⟨rfl, s3, q3⟩))
    go_ret
    exact ⟨rfl, s3, Q2.out.trans (q3.mono Q2.out.size)⟩
  · have kK := gkind_out h hl
    have kM : Hid (∀ wx, Sb C wx → Calls Tryz.prog 76 #[.pointer (some ⟨C.g, 0, none⟩), .int .i64 (c : Nat)] wx fun e w' => e = .returned (.tuple #[]) ∧ w' = wx) := fun wx ⟨p, n, y, hy, hx⟩ => gmust_bad c hx hy
    clear h hp hl
    go_enter Tryz.func77, Tryz.ntmps77
    go_wp2_with (first
      | (go_at_call 46; refine kK.mono ?_; rintro e w2 ⟨rfl, s2, q2⟩; have S2 : Hid (Sb C w2) := s2; have Q2 : Hid (Kq C.g w.heap.size w w2) := q2; clear s2 q2)
      | (go_at_call 76; refine (kM.out w2 S2.out).mono ?_; rintro e w3 ⟨rfl, rfl⟩))
    go_ret
    exact ⟨rfl, S2.out, Q2.out⟩
set_option maxHeartbeats 2000000 in
set_option maxRecDepth 100000 in
theorem gbeg_ok {C : RC} {w : World} {p n d : Nat} (h : Sg C w p n 0) (hn : n ≤ 1000000) (hd : d ≤ 1000000) (hb : C.free = true ∨ (n + 1 ≤ 1024 ∧ d ≤ 24)) : Calls Tryz.prog 47 #[.pointer (some ⟨C.g, 0, none⟩), .int .i64 (d : Nat)] w fun e w' => e = .returned (.tuple #[]) ∧ Sg C w' p (n + 1) 0 ∧ Kq C.g w.heap.size w w' := by
  have wi : IntKind.i64.wrap ((n : Int) + 1) = (n : Int) + 1 := by rw [IntKind.wrap_i64]; omega
  have S2 : Hid (Sg C (w.setCell ⟨C.g, 3, none⟩ (.int .i64 ((n : Int) + 1))) p (n + 1) 0) := by have := h.no_ (n + 1); rw [show (((n + 1 : Nat) : Nat) : Int) = (n : Int) + 1 by omega] at this; exact this
  have Q2 : Hid (Kq C.g w.heap.size w (w.setCell ⟨C.g, 3, none⟩ (.int .i64 ((n : Int) + 1)))) := Kq.set _ _ _ _ _
  obtain ⟨⟨z, hr⟩, _⟩ := h
  have c3 := hr.c3
  have c4 := hr.c4
  have f3 := hr.fz 3
  have n34 : Hid (C.g = C.g) := rfl
  clear hr
  cases hf : C.free with
  | true =>
    rw [hf] at c4
    clear hb
    go_enter Tryz.func47, Tryz.ntmps47
    go_wp2_with fail
    refine bodyPost_ret (v := .tuple #[]) (by simp [results, Tryz.results47, go_sem, *]) rfl ⟨rfl, S2.out, Q2.out⟩
  | false =>
    rw [hf] at c4
    have hb' : n + 1 ≤ 1024 ∧ d ≤ 24 := by rcases hb with q | q; rw [hf] at q; cases q; exact q
    have g1 : decide ((1024 : Int) < (n : Int) + 1) = false := by simp; omega
    have g2 : decide ((24 : Int) < (d : Int)) = false := by simp; omega
    have g3 : decide (24 < d) = false := by simp; omega
    clear hb hb'
    go_enter Tryz.func47, Tryz.ntmps47
    go_wp2_with fail
    go_end0
    exact ⟨rfl, S2.out, Q2.out⟩
end Go.Proofs.YtmlacmoembjeoaaGreatDoor
namespace Go.Proofs.YtmlacmoembjeoaaGreatDoor
open Go.RowKit
set_option linter.unusedVariables false
set_option maxRecDepth 100000 in
theorem step_call2 {f : FuncId} {v1 v2 : Value} {w : World} {ops : Array Oper} {o : Oper} {a : Act} {K : Act → World → Prop} {Q : Exit → Act → World → Prop} {E : Prop} {R : Value → World → Prop} (hgd : o.guard = none) (n1 n2 : Nat) (T1 T2 : TypeId)
    (ho : o.op = .call { callee := .value (.func f), args := #[.tmp n1, .tmp n2], argTypes := #[T1, T2] }) (hx1 : a.eval (.tmp n1) = v1) (hx2 : a.eval (.tmp n2) = v2) (hcf : ∀ args w, (callFunc f args).run Tryz.prog w = .ok (.enter f args) w)
    (k : Calls Tryz.prog f #[v1, v2] w fun e w' => ∃ r, e = .returned r ∧ R r w') (h : ∀ r w', R r w' → K (a.put o.dst r) w') :
    if Region.wanted o (yielded ops a.tmps) = true then Oper.wp Tryz.prog o a w K Q else E := by
  have hw : Region.wanted o (yielded ops a.tmps) = true := by simp [Region.wanted, hgd]
  rw [if_pos hw]
  unfold Oper.wp
  simp [Act.eval] at hx1 hx2
  simp [execOp, ho, resolve, invoke, hcf, hx1, hx2, go_sem]
  refine Calls.mono (R := fun e w' => ∃ r, e = .returned r ∧ R r w') k ?_
  rintro e w' ⟨r, he, hr⟩
  subst he
  exact h r w' hr
theorem nbox_kq {w w' : World} {g k B : Nat} {b : Nb} (h : NBox w k b) (hq : Kq g B w w') (hk : k < B) (hne : k ≠ g) : NBox w' k b := (hq.block k hk hne).trans h
theorem owns_kq {w w' : World} {g base : Nat} {v : Value} {l : List Nb} (h : OwnsN 26 w base v l) (hq : Kq g w.heap.size w w') (hg : g < base) : OwnsN 26 w' base v l :=
  World.ownsRow.kept (row := some g) h ⟨hq.os, hq.tape, hq.output, hq.size, fun k hk hne => hq.block k hk (fun e => hne (by rw [e]))⟩ (.inr fun e => by have := (World.ownsRow.lt h g e).1; omega)
theorem Sg.move {C : RC} {w w5 wx : World} {p n : Nat} {y : Int} {B : Nat} (h5 : Sg C w5 p n y) (h0 : Tg w C.g C.lv C.L) (hq : Kq C.g w.heap.size w wx) (hb : Below B w5 wx) (hg : C.g < B) : Sg C wx p n y := by
  obtain ⟨⟨z, h1⟩, _⟩ := h5
  exact ⟨⟨z, Blk.kept h1 hb hg⟩, h0.kq hq (Nat.le_refl _)⟩
def VR (C : RC) (p : Nat) (o : Option (List Tk)) (w : World) : Prop := match o with
  | none => Sb C w
  | some M => ∃ q n, p < q ∧ q ≤ C.L.length ∧ C.L.drop q = M ∧ n ≤ q ∧ Sg C w q n 0
theorem VR.move {C : RC} {w w5 wx : World} {p : Nat} {o : Option (List Tk)} {B : Nat} (h5 : VR C p o w5) (h0 : Tg w C.g C.lv C.L) (hq : Kq C.g w.heap.size w wx) (hb : Below B w5 wx) (hg : C.g < B) : VR C p o wx := by
  cases o with
  | none => obtain ⟨p, n, y, hy, h⟩ := h5; exact ⟨p, n, y, hy, h.move h0 hq hb hg⟩
  | some M => obtain ⟨q, n, a, b, c, d, h⟩ := h5; exact ⟨q, n, a, b, c, d, h.move h0 hq hb hg⟩
def VAt (C : RC) (k : Nat) : Prop := ∀ (w : World) (p n d : Nat), Sg C w p n 0 → n ≤ p → d ≤ p + 1 → p ≤ C.L.length → 2 * (C.L.length - p) + 1 ≤ k → Calls Tryz.prog 29 #[.pointer (some ⟨C.g, 0, none⟩), .int .i64 (d : Nat)] w fun e w' => ∃ r, e = .returned r ∧ ((∃ b : Nb, r = .agg b.arr) ∧ VR C p (skF k 0 (C.L.drop p)) w' ∧ Kq C.g w.heap.size w w')
end Go.Proofs.YtmlacmoembjeoaaGreatDoor
namespace Go.Proofs.YtmlacmoembjeoaaGreatDoor
open Go.RowKit
set_option linter.unusedVariables false
theorem kq_kp {g r : Nat} {w wx wy : World} (h : Kq g w.heap.size w wx) (hk : Kp (fun k => k = r) wx wy) (hr : w.heap.size ≤ r) : Kq g w.heap.size w wy :=
  h.trans ⟨hk.os, hk.tape, hk.output, hk.size, fun k hk' _ => hk.block k (Nat.lt_of_lt_of_le hk' h.size) (by omega)⟩
theorem vr_fin {C : RC} {w wx wy : World} {p r : Nat} {o : Option (List Tk)} (hV : VR C p o wx) (hT : Tg w C.g C.lv C.L) (hK : Kq C.g w.heap.size w wx) (hk : Kp (fun k => k = r) wx wy) (hr : w.heap.size ≤ r) (hg : C.g < w.heap.size) : VR C p o wy ∧ Kq C.g w.heap.size w wy := by
  have h2 := kq_kp hK hk hr
  exact ⟨hV.move hT h2 (hk.below hK.size fun k e => by omega) hg, h2⟩
def arO (k : Nat) (L : List Tk) : Option (List Tk) := match L with
  | [] => none
  | u :: N => if u.kind = 4 then some N else skF k 1 (u :: N)
theorem arO_cons (k : Nat) (u : Tk) (N : List Tk) : arO k (u :: N) = if u.kind = 4 then some N else skF k 1 (u :: N) := rfl
def LAt (C : RC) (k : Nat) : Prop := ∀ (w : World) (p n d : Nat), Sg C w p n 0 → n ≤ p + 1 → d ≤ p + 1 → p < C.L.length → 2 * (C.L.length - (p + 1)) + 2 ≤ k → Calls Tryz.prog 49 #[.pointer (some ⟨C.g, 0, none⟩), .int .i64 (d : Nat)] w fun e w' => ∃ r, e = .returned r ∧ ((∃ b : Nb, r = .agg b.arr) ∧ VR C p (arO k (C.L.drop (p + 1))) w' ∧ Kq C.g w.heap.size w w')
def atW (g : Nat) (w : World) : Nat := match w.cell? ⟨g, 2, none⟩ with
  | some (.int _ p) => p.toNat
  | _ => 0
theorem Sg.atw {C : RC} {w : World} {p n : Nat} {y : Int} (h : Sg C w p n y) : atW C.g w = p := by
  obtain ⟨⟨z, h1⟩, _⟩ := h
  unfold atW
  rw [h1.c2]
  simp
theorem list_put {C : RC} {w w5 w6 : World} {nb b' : Nb} {bis : List Nb} {q : Nat} {o : Option (List Tk)} {v' : Value} (hN : NBox w5 (w.heap.size + 1) nb) (hR : NBox w5 w.heap.size zN) (hO : OwnsN 26 w5 (w.heap.size + 2) (.slice nb.ai nb.li nb.ci) bis) (hK : Kq C.g w.heap.size w w5) (hV : VR C q o w5) (hT : Tg w C.g C.lv C.L) (hg0 : C.g < w.heap.size)
    (ho : OwnsN 26 w6 (w.heap.size + 2) v' (bis ++ [b'])) (hg : (w5.alloc (.cells b'.arr 26)).grownBy w6 (Value.slice nb.ai nb.li nb.ci).ownBlock) :
    ∃ a' c', v' = .slice a' (bis.length + 1) c' ∧ w6.cell? ⟨w.heap.size + 1, 8, none⟩ = some (.slice nb.ai nb.li nb.ci) ∧ w6.frozen? ⟨w.heap.size + 1, 8, none⟩ = false ∧
    (∃ nb' bis', NBox (w6.setCell ⟨w.heap.size + 1, 8, none⟩ (.slice a' (bis.length + 1) c')) (w.heap.size + 1) nb' ∧ NBox (w6.setCell ⟨w.heap.size + 1, 8, none⟩ (.slice a' (bis.length + 1) c')) w.heap.size zN ∧ OwnsN 26 (w6.setCell ⟨w.heap.size + 1, 8, none⟩ (.slice a' (bis.length + 1) c')) (w.heap.size + 2) (.slice nb'.ai nb'.li nb'.ci) bis' ∧ bis'.length ≤ bis.length + 1 ∧ Kq C.g w.heap.size w (w6.setCell ⟨w.heap.size + 1, 8, none⟩ (.slice a' (bis.length + 1) c')) ∧ VR C q o (w6.setCell ⟨w.heap.size + 1, 8, none⟩ (.slice a' (bis.length + 1) c'))) := by
  have A := alloc_below w5 (.cells b'.arr 26)
  have hs5 := hK.size
  have old : ∀ k, k < w5.heap.size → k < w.heap.size + 2 → w6.heap[k]? = w5.heap[k]? := fun k hk h2 => by
    rw [hg.block k (Nat.lt_of_lt_of_le hk A.size) (fun e => by have := (World.ownsRow.lt hO k e.symm).1; omega), A.block k hk]
  obtain ⟨a', c', rfl, _⟩ := ho.shape
  rw [List.length_append, List.length_singleton] at *
  have N6 : NBox w6 (w.heap.size + 1) nb := (old _ hN.lt (by omega)).trans hN
  have R6 : NBox w6 w.heap.size zN := (old _ hR.lt (by omega)).trans hR
  have b6 : Below w.heap.size w5 w6 := ⟨hg.os.trans A.os, hg.tape.trans A.tape, hg.output.trans A.output, Nat.le_trans A.size hg.size, fun k hk => old k (by omega) (by omega)⟩
  have bx : Below w.heap.size w5 (w6.setCell ⟨w.heap.size + 1, 8, none⟩ (.slice a' (bis.length + 1) c')) := b6.setCell (p := ⟨w.heap.size + 1, 8, none⟩) (Nat.le_succ _) _
  have kx : Kq C.g w.heap.size w (w6.setCell ⟨w.heap.size + 1, 8, none⟩ (.slice a' (bis.length + 1) c')) := hK.trans (Kq.of bx)
  refine ⟨a', c', rfl, N6.cell 8, N6.fz 8, ⟨nb.kind, nb.num, nb.neg, nb.dig, nb.exp, nb.txt, nb.ab, nb.lb, nb.cb, nb.ak, nb.lk, nb.ck, a', bis.length + 1, c'⟩, bis ++ [b'], nbox_set N6 8 _ rfl, ?_, ownsRow_setCell_below ho (show w.heap.size + 1 < w.heap.size + 2 by omega) _, by simp, kx, hV.move hT kx bx hg0⟩
  exact (setk (Nat.ne_of_lt (Nat.lt_succ_self _)) _).trans R6
theorem sk1_none {j : Nat} {L : List Tk} (h : skF j 0 L = none) : skF (j + 1) 1 L = none := by simp only [skF]; rw [h]
theorem sk1_nil {j : Nat} {L : List Tk} (h : skF j 0 L = some []) : skF (j + 1) 1 L = none := by simp only [skF]; rw [h]
theorem sk1_cons {j : Nat} {L M : List Tk} {c : Tk} (h : skF j 0 L = some (c :: M)) : skF (j + 1) 1 L = if c.kind = 6 then skF j 1 M else if c.kind = 4 then some M else none := by simp only [skF]; rw [h]
def LI (C : RC) (w : World) (k p d : Nat) (wr : World) : Prop := ∃ (nb : Nb) (bis : List Nb), NBox wr (w.heap.size + 1) nb ∧ NBox wr w.heap.size zN ∧ OwnsN 26 wr (w.heap.size + 2) (.slice nb.ai nb.li nb.ci) bis ∧ bis.length ≤ 1000000 ∧ Kq C.g w.heap.size w wr ∧
  ((Sb C wr ∧ arO k (C.L.drop (p + 1)) = none) ∨ ∃ q n j, Sg C wr q n 0 ∧ p < q ∧ q ≤ C.L.length ∧ n ≤ q ∧ d + 1 ≤ q + 1 ∧ j ≤ k ∧ 2 * (C.L.length - q) + 2 ≤ j ∧ bis.length ≤ q ∧ skF j 1 (C.L.drop q) = arO k (C.L.drop (p + 1)))
set_option maxHeartbeats 4000000 in
set_option maxRecDepth 100000 in
theorem list_step {C : RC} (hL : ∀ t ∈ C.L, 1 ≤ t.kind ∧ t.kind ≤ 11) (hN : C.L.length ≤ 4096) {k : Nat} (ih : ∀ j, j ≤ k → VAt C j) : LAt C k := by
  intro w p n d h hn hd hp hk
  have A1 := alloc_below w (.cells #[.int .i64 0, .int .u64 0, .bool false, .string ⟨#[]⟩, .int .i64 0, .string ⟨#[]⟩, .slice none 0 0, .slice none 0 0, .slice none 0 0] 26)
  have A2 := alloc_below (w.alloc (.cells #[.int .i64 0, .int .u64 0, .bool false, .string ⟨#[]⟩, .int .i64 0, .string ⟨#[]⟩, .slice none 0 0, .slice none 0 0, .slice none 0 0] 26)) (.cells #[.int .i64 7, .int .u64 0, .bool false, .string ⟨#[]⟩, .int .i64 0, .string ⟨#[]⟩, .slice none 0 0, .slice none 0 0, .slice none 0 0] 26)
  have B2 := A1.trans (A2.mono A1.size)
  have S2 := h.below B2
  have LG : Hid (C.g < w.heap.size) := h.lt
  have TG : Hid (Tg w C.g C.lv C.L) := h.2
  have NR : Hid (NBox ((w.alloc (.cells #[.int .i64 0, .int .u64 0, .bool false, .string ⟨#[]⟩, .int .i64 0, .string ⟨#[]⟩, .slice none 0 0, .slice none 0 0, .slice none 0 0] 26)).alloc (.cells #[.int .i64 7, .int .u64 0, .bool false, .string ⟨#[]⟩, .int .i64 0, .string ⟨#[]⟩, .slice none 0 0, .slice none 0 0, .slice none 0 0] 26)) w.heap.size zN) := (nbox_new w zN).kept A2 (alloc_lt _ _)
  have NN : Hid (NBox ((w.alloc (.cells #[.int .i64 0, .int .u64 0, .bool false, .string ⟨#[]⟩, .int .i64 0, .string ⟨#[]⟩, .slice none 0 0, .slice none 0 0, .slice none 0 0] 26)).alloc (.cells #[.int .i64 7, .int .u64 0, .bool false, .string ⟨#[]⟩, .int .i64 0, .string ⟨#[]⟩, .slice none 0 0, .slice none 0 0, .slice none 0 0] 26)) (w.heap.size + 1) (leafN (kindT 7 0))) := two_box w _ (leafN (kindT 7 0))
  have kO := gok S2
  have wi : IntKind.i64.wrap ((p : Int) + 1) = (p : Int) + 1 := by rw [IntKind.wrap_i64]; omega
  have wj : IntKind.i64.wrap ((p : Int) + 1 + 1) = (p : Int) + 1 + 1 := by rw [IntKind.wrap_i64]; omega
  have wd : IntKind.i64.wrap ((d : Int) + 1) = (d : Int) + 1 := by rw [IntKind.wrap_i64]; omega
  have BW : Hid (Below w.heap.size w ((w.alloc (.cells #[.int .i64 0, .int .u64 0, .bool false, .string ⟨#[]⟩, .int .i64 0, .string ⟨#[]⟩, .slice none 0 0, .slice none 0 0, .slice none 0 0] 26)).alloc (.cells #[.int .i64 7, .int .u64 0, .bool false, .string ⟨#[]⟩, .int .i64 0, .string ⟨#[]⟩, .slice none 0 0, .slice none 0 0, .slice none 0 0] 26))) := B2
  have S2' : Hid (Sg C ((w.alloc (.cells #[.int .i64 0, .int .u64 0, .bool false, .string ⟨#[]⟩, .int .i64 0, .string ⟨#[]⟩, .slice none 0 0, .slice none 0 0, .slice none 0 0] 26)).alloc (.cells #[.int .i64 7, .int .u64 0, .bool false, .string ⟨#[]⟩, .int .i64 0, .string ⟨#[]⟩, .slice none 0 0, .slice none 0 0, .slice none 0 0] 26)) p n 0) := S2
  have HK : Hid (n ≤ p + 1 ∧ d ≤ p + 1 ∧ p < C.L.length ∧ 2 * (C.L.length - (p + 1)) + 2 ≤ k ∧ C.L.length ≤ 4096) := ⟨hn, hd, hp, hk, hN⟩
  obtain ⟨⟨z, hr⟩, _⟩ := S2
  have c2 := hr.c2
  have f2 := hr.fz 2
  clear A1 A2 B2 h hr hn hd hp hk hN
  go_enter Tryz.func49, Tryz.ntmps49
  go_wp2_with fail
  generalize ((w.alloc (.cells #[.int .i64 0, .int .u64 0, .bool false, .string ⟨#[]⟩, .int .i64 0, .string ⟨#[]⟩, .slice none 0 0, .slice none 0 0, .slice none 0 0] 26)).alloc (.cells #[.int .i64 7, .int .u64 0, .bool false, .string ⟨#[]⟩, .int .i64 0, .string ⟨#[]⟩, .slice none 0 0, .slice none 0 0, .slice none 0 0] 26)) = W2 at *
  refine kO.mono ?_
  rintro e w2 ⟨rfl, rfl⟩
  have S3 : Hid (Sg C (w2.setCell ⟨C.g, 2, none⟩ (.int .i64 ((p : Int) + 1))) (p + 1) n 0) := by have := S2'.out.at_ (p + 1); rw [show (((p + 1 : Nat) : Nat) : Int) = (p : Int) + 1 by omega] at this; exact this
  have Q3 : Hid (Kq C.g w2.heap.size w2 (w2.setCell ⟨C.g, 2, none⟩ (.int .i64 ((p : Int) + 1)))) := Kq.set _ _ _ _ _
  clear kO
  have NR3 : Hid (NBox (w2.setCell ⟨C.g, 2, none⟩ (.int .i64 ((p : Int) + 1))) w.heap.size zN) := nbox_kq NR.out Q3.out NR.out.lt (Nat.ne_of_gt LG.out)
  have NN3 : Hid (NBox (w2.setCell ⟨C.g, 2, none⟩ (.int .i64 ((p : Int) + 1))) (w.heap.size + 1) (leafN (kindT 7 0))) := nbox_kq NN.out Q3.out NN.out.lt (by have := LG.out; omega)
  have K3 : Hid (Kq C.g w.heap.size w (w2.setCell ⟨C.g, 2, none⟩ (.int .i64 ((p : Int) + 1)))) := (Kq.of BW.out).trans (Q3.out.mono BW.out.size)
  go_upto_region 5 with fail
  clear c2 f2 NR NN Q3 BW S2'
  generalize w2.setCell ⟨C.g, 2, none⟩ (.int .i64 ((p : Int) + 1)) = W3 at *
  go_cut [20] (fun s20 wx => (s20 = .bool false ∧ Hid (LI C w k p d wx)) ∨ (s20 = .bool true ∧ Hid (Sg C wx (p + 1) n 0 ∧ (∃ h1 : p + 1 < C.L.length, (C.L[p + 1]).kind = 4) ∧ Kq C.g w.heap.size w wx ∧ NBox wx w.heap.size zN ∧ NBox wx (w.heap.size + 1) (leafN (kindT 7 0)))))
  case first =>
    by_cases h1 : p + 1 < C.L.length
    · have kK := gkind S3.out h1
      by_cases h4 : C.L[p + 1].kind = 4
      · rw [h4] at kK
        go_wp2_with (go_at_call 46; refine kK.mono ?_; rintro e w4 ⟨rfl, s4, q4⟩)
        go_meet
        refine .inr ⟨rfl, s4, ⟨h1, h4⟩, K3.out.trans (q4.mono K3.out.size), nbox_kq NR3.out q4 NR3.out.lt (Nat.ne_of_gt LG.out), nbox_kq NN3.out q4 NN3.out.lt (by have := LG.out; omega)⟩
      · have g4 : (((C.L[p + 1].kind : Nat) : Int) == 4) = false := by simp; omega
        go_wp2_with (go_at_call 46; refine kK.mono ?_; rintro e w4 ⟨rfl, s4, q4⟩)
        go_meet
        refine .inl ⟨rfl, leafN (kindT 7 0), [], nbox_kq NN3.out q4 NN3.out.lt (by have := LG.out; omega), nbox_kq NR3.out q4 NR3.out.lt (Nat.ne_of_gt LG.out), ownsN_nil _ _, Nat.zero_le _, K3.out.trans (q4.mono K3.out.size), .inr ⟨p + 1, n, k, s4, by omega, by omega, HK.out.1, by have := HK.out; omega, Nat.le_refl _, HK.out.2.2.2.1, Nat.zero_le _, ?_⟩⟩
        rw [List.drop_eq_getElem_cons h1]
        rw [arO_cons, if_neg h4]
    · have kK := gkind_out S3.out h1
      go_wp2_with (go_at_call 46; refine kK.mono ?_; rintro e w4 ⟨rfl, s4, q4⟩)
      go_meet
      refine .inl ⟨rfl, leafN (kindT 7 0), [], nbox_kq NN3.out q4 NN3.out.lt (by have := LG.out; omega), nbox_kq NR3.out q4 NR3.out.lt (Nat.ne_of_gt LG.out), ownsN_nil _ _, Nat.zero_le _, K3.out.trans (q4.mono K3.out.size), .inl ⟨s4, ?_⟩⟩
      rw [List.drop_eq_nil_of_le (by omega)]
      rfl
  case rest =>
    clear S3 NR3 NN3 K3
    rcases hcut with ⟨rfl, hI⟩ | ⟨rfl, hS⟩
    · go_wp2_with fail
      go_loopw [] (fun wr => Hid (LI C w k p d wr)) (fun wr => C.L.length - atW C.g wr)
      case atStart => exact hI
      case round =>
        obtain ⟨nb, bis, n1, n2, o1, l1, k1, hs⟩ := hrel.out
        have NNr : Hid (NBox wr (w.heap.size + 1) nb) := n1
        have NRr : Hid (NBox wr w.heap.size zN) := n2
        have OOr : Hid (OwnsN 26 wr (w.heap.size + 2) (.slice nb.ai nb.li nb.ci) bis) := o1
        have KKr : Hid (Kq C.g w.heap.size w wr) := k1
        have LB : Hid (bis.length ≤ 1000000) := l1
        clear hrel n1 n2 o1 l1 k1
        rcases hs with ⟨sb, hno⟩ | ⟨q, n', j, sg, hpq, hql, hnq, hdq, hjk, hfu, hbq, hsk⟩
        · have V5 : Hid (VR C p (arO k (C.L.drop (p + 1))) wr) := by show VR _ _ _ _; rw [hno]; exact sb
          obtain ⟨p', n', y, hy, s⟩ := sb
          have kO := gok s
          have hy0 : (y == 0) = false := by simpa using hy
          rw [hy0] at kO
          clear hno s hy hy0 hI
          go_upto_region 12 with (go_at_call 30; refine kO.mono ?_; rintro e w4 ⟨rfl, rfl⟩)
          have qf := NRr.out.fz
          obtain ⟨t0, t1, t2, t3, t4, t5, t6, t7, t8⟩ := NRr.out.fields
          obtain ⟨v0, v1, v2, v3, v4, v5, v6, v7, v8⟩ := NNr.out.fields
          have x9 := nbox_put NRr.out nb
          have F9 : Hid (VR C p (arO k (C.L.drop (p + 1))) _ ∧ Kq C.g w.heap.size w _) := vr_fin V5.out TG.out KKr.out x9.2 (Nat.le_refl _) LG.out
          obtain ⟨u0, u1, u2, u3, u4, u5, u6, u7, u8⟩ := x9.1.fields
          go_wp2_with fail
          refine bodyPost_ret (v := .agg nb.arr) (by simp [results, Tryz.results49, go_sem, Nb.arr] at *; simp [go_sem, u0, u1, u2, u3, u4, u5, u6, u7, u8]) rfl ⟨_, rfl, ⟨nb, rfl⟩, F9.out⟩
        · obtain ⟨j, rfl⟩ : ∃ i, j = i + 1 := ⟨j - 1, by omega⟩
          have kO := gok sg
          have kV0 := ih j (by omega) wr.drew q n' (d + 1) sg hnq hdq hql (by omega)
          rw [show (((d + 1 : Nat) : Nat) : Int) = (d : Int) + 1 by omega] at kV0
          have kV : Hid (Calls Tryz.prog 29 #[.pointer (some ⟨C.g, 0, none⟩), .int .i64 ((d : Int) + 1)] wr.drew fun e w' => ∃ r, e = .returned r ∧ ((∃ b : Nb, r = .agg b.arr) ∧ VR C q (skF j 0 (C.L.drop q)) w' ∧ Kq C.g wr.drew.heap.size wr.drew w')) := kV0
          have hsk' : Hid (skF (j + 1) 1 (C.L.drop q) = arO k (C.L.drop (p + 1))) := hsk
          have HQ : Hid (p < q ∧ q ≤ C.L.length ∧ n' ≤ q ∧ d + 1 ≤ q + 1 ∧ j + 1 ≤ k ∧ 2 * (C.L.length - q) + 2 ≤ j + 1 ∧ bis.length ≤ q) := ⟨hpq, hql, hnq, hdq, hjk, hfu, hbq⟩
          have hat : atW C.g wr = q := sg.atw
          have hat' : Hid (atW C.g wr = q) := hat
          have hcf : ∀ args w, (callFunc 29 args).run Tryz.prog w = .ok (.enter 29 args) w := fun _ _ => rfl
          clear hsk hpq hql hnq hdq hjk hfu hbq kV0 sg hI hat
          go_upto_region 9 with (go_at_call 30; refine kO.mono ?_; rintro e w4 ⟨rfl, hw4⟩; obtain rfl := hw4.symm)
          go_cut [] (fun wx => Hid (∃ nb' bis', NBox wx (w.heap.size + 1) nb' ∧ NBox wx w.heap.size zN ∧ OwnsN 26 wx (w.heap.size + 2) (.slice nb'.ai nb'.li nb'.ci) bis' ∧ bis'.length ≤ bis.length + 1 ∧ Kq C.g w.heap.size w wx ∧ VR C q (skF j 0 (C.L.drop q)) wx))
          case first =>
            have c8 : wr.cell? ⟨w.heap.size + 1, 8, none⟩ = some (.slice nb.ai nb.li nb.ci) := NNr.out.cell 8
            go_region_law (first
              | (refine step_call2 (by rfl) 33 35 73 3 (by rfl) (by rfl) (by rfl) hcf kV.out ?_; rintro r w5 ⟨⟨b', hb'⟩, hv, hq5⟩; rw [Nb.arr] at hb'; subst hb'; have q5 : Hid (Kq C.g wr.heap.size wr w5) := ⟨hq5.os, hq5.tape, hq5.output, hq5.size, hq5.block⟩; have N5 : Hid (NBox w5 (w.heap.size + 1) nb) := nbox_kq NNr.out q5.out NNr.out.lt (by have := LG.out; omega); have R5 : Hid (NBox w5 w.heap.size zN) := nbox_kq NRr.out q5.out NRr.out.lt (Nat.ne_of_gt LG.out); have O5 : Hid (OwnsN 26 w5 (w.heap.size + 2) (.slice nb.ai nb.li nb.ci) bis) := owns_kq OOr.out q5.out (by have := LG.out; omega); have K5 : Hid (Kq C.g w.heap.size w w5) := KKr.out.trans (q5.out.mono KKr.out.size); have V5 : Hid (VR C q (skF j 0 (C.L.drop q)) w5) := hv; have c85 : w5.cell? ⟨w.heap.size + 1, 8, none⟩ = some (.slice nb.ai nb.li nb.ci) := N5.out.cell 8; have c8a : (w5.alloc (.cells #[.int .i64 b'.kind, .int .u64 b'.num, .bool b'.neg, .string b'.dig, .int .i64 b'.exp, .string b'.txt, .slice b'.ab b'.lb b'.cb, .slice b'.ak b'.lk b'.ck, .slice b'.ai b'.li b'.ci] 26)).cell? ⟨w.heap.size + 1, 8, none⟩ = some (.slice nb.ai nb.li nb.ci) := (N5.out.kept (alloc_below _ _) N5.out.lt).cell 8; have l5 : Hid (w.heap.size + 2 ≤ w5.heap.size) := N5.out.lt; clear hv hq5)
              | (refine step_append_node (by rfl) _ _ (by rfl) (w.heap.size + 2) (.slice nb.ai nb.li nb.ci) bis [b'] (by rfl) (World.ownsRow.kept (row := none) O5.out (⟨(alloc_below w5 _).os, (alloc_below w5 _).tape, (alloc_below w5 _).output, (alloc_below w5 _).size, fun k hk _ => (alloc_below w5 _).block k hk⟩) (by cases hv : (Value.slice nb.ai nb.li nb.ci).ownBlock <;> simp)) ⟨w5.heap.size, 0, none⟩ 1 1 (by rfl) rfl (by decide) (nine_one w5 b') (by have := LB.out; simp; omega) (Nat.le_trans l5.out (alloc_below w5 _).size) ?_; intro v6 w6 ho6 hg6 hn6; obtain ⟨a6, c6, rfl, e6, f6, F6⟩ := list_put N5.out R5.out O5.out K5.out V5.out TG.out LG.out ho6 hg6; have F : Hid _ := F6; clear ho6 hg6 hn6 F6))
            all_goals
              go_wp2_with fail
              go_meet
              with_reducible exact F
          case rest =>
            obtain ⟨nb, bis', n1, n2, o1, l1, k1, vr⟩ := hcut.out
            have NNc : Hid (NBox wc (w.heap.size + 1) nb) := n1
            have NRc : Hid (NBox wc w.heap.size zN) := n2
            have OOc : Hid (OwnsN 26 wc (w.heap.size + 2) (.slice nb.ai nb.li nb.ci) bis') := o1
            have KKc : Hid (Kq C.g w.heap.size w wc) := k1
            have LBc : Hid (bis'.length ≤ bis.length + 1) := l1
            have hcm : ∀ args w, (callFunc 77 args).run Tryz.prog w = .ok (.enter 77 args) w := fun _ _ => rfl
            clear hcut n1 n2 o1 l1 k1 NNr NRr OOr KKr kO kV hcf
            cases hvo : skF j 0 (C.L.drop q) with
            | none =>
              rw [hvo] at vr
              rw [sk1_none hvo] at hsk'
              have V5 : Hid (VR C p (arO k (C.L.drop (p + 1))) wc) := by show VR _ _ _ _; rw [← hsk'.out]; exact vr
              obtain ⟨p', n', y, hy, s⟩ := vr
              have kO := gok s
              have hy0 : (y == 0) = false := by simpa using hy
              rw [hy0] at kO
              clear hsk' s hy hy0 hvo
              go_upto_region 11 with (go_at_call 30; refine kO.mono ?_; rintro e w4 ⟨rfl, hw4⟩; obtain rfl := hw4.symm)
              have qf := NRc.out.fz
              obtain ⟨t0, t1, t2, t3, t4, t5, t6, t7, t8⟩ := NRc.out.fields
              obtain ⟨v0, v1, v2, v3, v4, v5, v6, v7, v8⟩ := NNc.out.fields
              have x9 := nbox_put NRc.out nb
              have F9 : Hid (VR C p (arO k (C.L.drop (p + 1))) _ ∧ Kq C.g w.heap.size w _) := vr_fin V5.out TG.out KKc.out x9.2 (Nat.le_refl _) LG.out
              obtain ⟨u0, u1, u2, u3, u4, u5, u6, u7, u8⟩ := x9.1.fields
              go_wp2_with fail
              refine bodyPost_ret (v := .agg nb.arr) (by simp [results, Tryz.results49, go_sem, Nb.arr] at *; simp [go_sem, u0, u1, u2, u3, u4, u5, u6, u7, u8]) rfl ⟨_, rfl, ⟨nb, rfl⟩, F9.out⟩
            | some M =>
              rw [hvo] at vr
              obtain ⟨q1, n1, hq1, hq1l, hM, hn1, s1⟩ := vr
              have kO := gok s1
              by_cases hl : q1 < C.L.length
              · rw [List.drop_eq_getElem_cons hl] at hM
                subst hM
                rw [sk1_cons hvo] at hsk'
                by_cases h6 : C.L[q1].kind = 6
                · have kM := gmore_yes 4 s1 hl h6 (by have := HK.out; omega)
                  have hsk2 : Hid (skF j 1 (C.L.drop (q1 + 1)) = arO k (C.L.drop (p + 1))) := by have := hsk'.out; rw [if_pos h6] at this; exact this
                  have HQ1 : Hid (q < q1 ∧ q1 < C.L.length ∧ n1 ≤ q1) := ⟨hq1, hl, hn1⟩
                  clear hsk' h6 s1 hvo hq1 hq1l hn1
                  go_wp2_with (first | (go_at_call 30; refine kO.mono ?_; rintro e w4 ⟨rfl, hw4⟩; obtain rfl := hw4.symm) | (go_at_call 77; refine kM.mono ?_; rintro e w7 ⟨rfl, s7, q7⟩; have S7 : Hid (Sg C w7 (q1 + 1) n1 0) := s7; have Q7 : Hid _ := q7; clear s7 q7))
                  go_roundw
                  case rel =>
                    refine ⟨nb, bis', nbox_kq NNc.out Q7.out NNc.out.lt (by have := LG.out; omega), nbox_kq NRc.out Q7.out NRc.out.lt (Nat.ne_of_gt LG.out), owns_kq OOc.out Q7.out (by have := LG.out; omega), ?_, KKc.out.trans (Q7.out.mono KKc.out.size), .inr ⟨q1 + 1, n1, j, S7.out, ?_, ?_, ?_, ?_, ?_, ?_, ?_, hsk2.out⟩⟩
                    all_goals (have g1 := HK.out; have g2 := HQ.out; have g3 := HQ1.out; have g4 := LBc.out; omega)
                  case measure =>
                    rw [S7.out.atw, hat'.out]
                    have g2 := HQ.out; have g3 := HQ1.out; omega
                · by_cases h4 : C.L[q1].kind = 4
                  · have kM := gmore_end s1 hl h6 (by omega) (by have := HK.out; omega)
                    rw [h4] at kM
                    have hsk2 : Hid (some (C.L.drop (q1 + 1)) = arO k (C.L.drop (p + 1))) := by have := hsk'.out; rw [if_neg h6, if_pos h4] at this; exact this
                    have HQ1 : Hid (q < q1 ∧ q1 < C.L.length ∧ n1 ≤ q1) := ⟨hq1, hl, hn1⟩
                    clear hsk' h6 h4 s1 hvo hq1 hq1l hn1
                    go_upto_region 11 with (first | (go_at_call 30; refine kO.mono ?_; rintro e w4 ⟨rfl, hw4⟩; obtain rfl := hw4.symm) | (go_at_call 77; refine kM.mono ?_; rintro e w7 ⟨rfl, s7, q7⟩; have S7 : Hid _ := s7; have Q7 : Hid _ := q7; clear s7 q7))
                    have V5 : Hid (VR C p (arO k (C.L.drop (p + 1))) w7) := by
                      show VR _ _ _ _
                      rw [← hsk2.out]
                      exact ⟨q1 + 1, n1, by have g2 := HQ.out; have g3 := HQ1.out; omega, HQ1.out.2.1, rfl, by have g3 := HQ1.out; omega, S7.out⟩
                    have NN7 : Hid (NBox w7 (w.heap.size + 1) nb) := nbox_kq NNc.out Q7.out NNc.out.lt (by have := LG.out; omega)
                    have NR7 : Hid (NBox w7 w.heap.size zN) := nbox_kq NRc.out Q7.out NRc.out.lt (Nat.ne_of_gt LG.out)
                    have KK7 : Hid (Kq C.g w.heap.size w w7) := KKc.out.trans (Q7.out.mono KKc.out.size)
                    have qf := NR7.out.fz
                    obtain ⟨t0, t1, t2, t3, t4, t5, t6, t7, t8⟩ := NR7.out.fields
                    obtain ⟨v0, v1, v2, v3, v4, v5, v6, v7, v8⟩ := NN7.out.fields
                    have x9 := nbox_put NR7.out nb
                    have F9 : Hid (VR C p (arO k (C.L.drop (p + 1))) _ ∧ Kq C.g w.heap.size w _) := vr_fin V5.out TG.out KK7.out x9.2 (Nat.le_refl _) LG.out
                    obtain ⟨u0, u1, u2, u3, u4, u5, u6, u7, u8⟩ := x9.1.fields
                    go_wp2_with fail
                    refine bodyPost_ret (v := .agg nb.arr) (by simp [results, Tryz.results49, go_sem, Nb.arr] at *; simp [go_sem, u0, u1, u2, u3, u4, u5, u6, u7, u8]) rfl ⟨_, rfl, ⟨nb, rfl⟩, F9.out⟩
                  · have kM := gmore_no 4 s1 (fun hp => ⟨h4, by have := hL _ (List.getElem_mem hp); omega, h6⟩)
                    have hsk2 : Hid (none = arO k (C.L.drop (p + 1))) := by have := hsk'.out; rw [if_neg h6, if_neg h4] at this; exact this
                    clear hsk' h6 h4 s1 hvo hq1 hq1l hn1
                    go_upto_region 11 with (first | (go_at_call 30; refine kO.mono ?_; rintro e w4 ⟨rfl, hw4⟩; obtain rfl := hw4.symm) | (go_at_call 77; refine kM.mono ?_; rintro e w7 ⟨rfl, s7, q7⟩; have S7 : Hid _ := s7; have Q7 : Hid _ := q7; clear s7 q7))
                    have V5 : Hid (VR C p (arO k (C.L.drop (p + 1))) w7) := by
                      show VR _ _ _ _
                      rw [← hsk2.out]
                      exact S7.out
                    have NN7 : Hid (NBox w7 (w.heap.size + 1) nb) := nbox_kq NNc.out Q7.out NNc.out.lt (by have := LG.out; omega)
                    have NR7 : Hid (NBox w7 w.heap.size zN) := nbox_kq NRc.out Q7.out NRc.out.lt (Nat.ne_of_gt LG.out)
                    have KK7 : Hid (Kq C.g w.heap.size w w7) := KKc.out.trans (Q7.out.mono KKc.out.size)
                    have qf := NR7.out.fz
                    obtain ⟨t0, t1, t2, t3, t4, t5, t6, t7, t8⟩ := NR7.out.fields
                    obtain ⟨v0, v1, v2, v3, v4, v5, v6, v7, v8⟩ := NN7.out.fields
                    have x9 := nbox_put NR7.out nb
                    have F9 : Hid (VR C p (arO k (C.L.drop (p + 1))) _ ∧ Kq C.g w.heap.size w _) := vr_fin V5.out TG.out KK7.out x9.2 (Nat.le_refl _) LG.out
                    obtain ⟨u0, u1, u2, u3, u4, u5, u6, u7, u8⟩ := x9.1.fields
                    go_wp2_with fail
                    refine bodyPost_ret (v := .agg nb.arr) (by simp [results, Tryz.results49, go_sem, Nb.arr] at *; simp [go_sem, u0, u1, u2, u3, u4, u5, u6, u7, u8]) rfl ⟨_, rfl, ⟨nb, rfl⟩, F9.out⟩
              · rw [List.drop_eq_nil_of_le (by omega)] at hM
                subst hM
                rw [sk1_nil hvo] at hsk'
                have kM := gmore_no 4 s1 (fun hp => absurd hp hl)
                have hsk2 : Hid (none = arO k (C.L.drop (p + 1))) := hsk'.out
                clear hsk' s1 hvo hq1 hq1l hn1
                go_upto_region 11 with (first | (go_at_call 30; refine kO.mono ?_; rintro e w4 ⟨rfl, hw4⟩; obtain rfl := hw4.symm) | (go_at_call 77; refine kM.mono ?_; rintro e w7 ⟨rfl, s7, q7⟩; have S7 : Hid _ := s7; have Q7 : Hid _ := q7; clear s7 q7))
                have V5 : Hid (VR C p (arO k (C.L.drop (p + 1))) w7) := by
                  show VR _ _ _ _
                  rw [← hsk2.out]
                  exact S7.out
                have NN7 : Hid (NBox w7 (w.heap.size + 1) nb) := nbox_kq NNc.out Q7.out NNc.out.lt (by have := LG.out; omega)
                have NR7 : Hid (NBox w7 w.heap.size zN) := nbox_kq NRc.out Q7.out NRc.out.lt (Nat.ne_of_gt LG.out)
                have KK7 : Hid (Kq C.g w.heap.size w w7) := KKc.out.trans (Q7.out.mono KKc.out.size)
                have qf := NR7.out.fz
                obtain ⟨t0, t1, t2, t3, t4, t5, t6, t7, t8⟩ := NR7.out.fields
                obtain ⟨v0, v1, v2, v3, v4, v5, v6, v7, v8⟩ := NN7.out.fields
                have x9 := nbox_put NR7.out nb
                have F9 : Hid (VR C p (arO k (C.L.drop (p + 1))) _ ∧ Kq C.g w.heap.size w _) := vr_fin V5.out TG.out KK7.out x9.2 (Nat.le_refl _) LG.out
                obtain ⟨u0, u1, u2, u3, u4, u5, u6, u7, u8⟩ := x9.1.fields
                go_wp2_with fail
                refine bodyPost_ret (v := .agg nb.arr) (by simp [results, Tryz.results49, go_sem, Nb.arr] at *; simp [go_sem, u0, u1, u2, u3, u4, u5, u6, u7, u8]) rfl ⟨_, rfl, ⟨nb, rfl⟩, F9.out⟩
    · have s4 := hS.out.1
      obtain ⟨h1, h4⟩ := hS.out.2.1
      have S5 : Hid (Sg C (wc.setCell ⟨C.g, 2, none⟩ (.int .i64 ((p : Int) + 1 + 1))) (p + 2) n 0) := by have := s4.at_ (p + 2); rw [show (((p + 2 : Nat) : Nat) : Int) = (p : Int) + 1 + 1 by omega] at this; exact this
      have Q5 : Hid (Kq C.g w.heap.size w (wc.setCell ⟨C.g, 2, none⟩ (.int .i64 ((p : Int) + 1 + 1)))) := hS.out.2.2.1.trans (Kq.set _ _ _ _ _)
      have q5 := Kq.set C.g wc.heap.size wc 2 (.int .i64 ((p : Int) + 1 + 1))
      have NR5 : Hid (NBox (wc.setCell ⟨C.g, 2, none⟩ (.int .i64 ((p : Int) + 1 + 1))) w.heap.size zN) := nbox_kq hS.out.2.2.2.1 q5 hS.out.2.2.2.1.lt (Nat.ne_of_gt LG.out)
      have NN5 : Hid (NBox (wc.setCell ⟨C.g, 2, none⟩ (.int .i64 ((p : Int) + 1 + 1))) (w.heap.size + 1) (leafN (kindT 7 0))) := nbox_kq hS.out.2.2.2.2 q5 hS.out.2.2.2.2.lt (by have := LG.out; omega)
      have V5 : Hid (VR C p (arO k (C.L.drop (p + 1))) (wc.setCell ⟨C.g, 2, none⟩ (.int .i64 ((p : Int) + 1 + 1)))) := by
        show VR _ _ _ _
        rw [List.drop_eq_getElem_cons h1]
        rw [arO_cons, if_pos h4]
        exact ⟨p + 2, n, by omega, by omega, rfl, by have := HK.out; omega, S5.out⟩
      obtain ⟨⟨z, hr⟩, _⟩ := s4
      have c2 : wc.cell? ⟨C.g, 2, none⟩ = some (.int .i64 ((p : Int) + 1)) := by have := hr.c2; rw [show (((p + 1 : Nat) : Nat) : Int) = (p : Int) + 1 by omega] at this; exact this
      have f2 := hr.fz 2
      obtain ⟨nb, hnb⟩ : ∃ nb, leafN (kindT 7 0) = nb := ⟨_, rfl⟩
      rw [hnb] at NN5
      clear hS hr q5 h1 h4 hnb
      go_upto_region 7 with fail
      clear c2 f2
      generalize wc.setCell ⟨C.g, 2, none⟩ (.int .i64 ((p : Int) + 1 + 1)) = W5 at *
      have qf := NR5.out.fz
      obtain ⟨t0, t1, t2, t3, t4, t5, t6, t7, t8⟩ := NR5.out.fields
      obtain ⟨v0, v1, v2, v3, v4, v5, v6, v7, v8⟩ := NN5.out.fields
      have x9 := nbox_put NR5.out nb
      have F9 : Hid (VR C p (arO k (C.L.drop (p + 1))) _ ∧ Kq C.g w.heap.size w _) := vr_fin V5.out TG.out Q5.out x9.2 (Nat.le_refl _) LG.out
      obtain ⟨u0, u1, u2, u3, u4, u5, u6, u7, u8⟩ := x9.1.fields
      go_wp2_with fail
      refine bodyPost_ret (v := .agg nb.arr) (by simp [results, Tryz.results49, go_sem, Nb.arr] at *; simp [go_sem, u0, u1, u2, u3, u4, u5, u6, u7, u8]) rfl ⟨_, rfl, ⟨nb, rfl⟩, F9.out⟩
end Go.Proofs.YtmlacmoembjeoaaGreatDoor
namespace Go.Proofs.YtmlacmoembjeoaaGreatDoor
open Go

abbrev St := Nat × Int × Int
def isR (l : List Int) (st : St) (c : Int) : Bool := (st.2.1 == 0) && (decide (st.1 < l.length) && (l.getD st.1 0 == c))
def onR (st : St) : St := (st.1 + 1, st.2.1, st.2.2)
def mayR (l : List Int) (st : St) (c : Int) : St := if isR l st c = true then onR st else st
def wrongR (l : List Int) (st : St) : St := if st.2.1 = 0 then (if l.length ≤ st.1 then (st.1, 3, ((l.length : Nat) : Int)) else (st.1, 5, ((st.1 : Nat) : Int))) else st
def spanR (l : List Int) (st : St) : List Int := if st.2.1 = 0 then (l.drop st.1).takeWhile isD else []
def digRY (l : List Int) (st : St) : List Int × St := if spanR l st = [] then ([], wrongR l st) else (spanR l st, (st.1 + (spanR l st).length, st.2.1, st.2.2))
def powY (d : List Int) : Nat := d.foldl (fun n c => min (n * 10 + (c - 48).toNat) 1000000) 0
def st0 : St := (0, 0, 0)
def wholeR (l : List Int) (st : St) : List Int × St := if isR l st 48 = true then ([48], onR st) else digRY l st
def partR (l : List Int) (st : St) : List Int × St := if isR l st 46 = true then digRY l (onR st) else ([], st)
def signR (l : List Int) (st : St) : St := if isR l st 45 = true ∨ isR l st 43 = true then onR st else st
def expR (l : List Int) (st : St) : Int × St :=
  if isR l st 101 = true ∨ isR l st 69 = true then
    ((if isR l (onR st) 45 = true then -((powY (digRY l (signR l (onR st))).1 : Nat) : Int) else ((powY (digRY l (signR l (onR st))).1 : Nat) : Int)), (digRY l (signR l (onR st))).2)
  else (0, st)
def lastR (l : List Int) (st : St) : St := if st.1 < l.length then wrongR l st else st
def finR (n : Bool) (wh pt : List Int) (x : Int) (st : St) : Nm × Int × Int :=
  if st.2.1 ≠ 0 then (noN, st.2.1, st.2.2)
  else if (makeA n (strOfNums (wh ++ pt)) (x - ((pt.length : Nat) : Int))).2 ≠ 0 then (noN, 11, 0)
  else ((makeA n (strOfNums (wh ++ pt)) (x - ((pt.length : Nat) : Int))).1, 0, 0)
def readR (l : List Int) : Nm × Int × Int :=
  finR (isR l st0 45) (wholeR l (mayR l st0 45)).1 (partR l (wholeR l (mayR l st0 45)).2).1 (expR l (partR l (wholeR l (mayR l st0 45)).2).2).1 (lastR l (expR l (partR l (wholeR l (mayR l st0 45)).2).2).2)

theorem is_bad {l : List Int} {st : St} {c : Int} (h : st.2.1 ≠ 0) : isR l st c = false := by
  unfold isR
  have : (st.2.1 == 0) = false := by simpa using h
  rw [this]; rfl
theorem wrong_bad {l : List Int} {st : St} (h : st.2.1 ≠ 0) : wrongR l st = st := by unfold wrongR; rw [if_neg h]
theorem wrong_is {l : List Int} {st : St} (h : st.2.1 = 0) : (wrongR l st).2.1 ≠ 0 := by
  unfold wrongR
  rw [if_pos h]
  split
  · show (3 : Int) ≠ 0; decide
  · show (5 : Int) ≠ 0; decide
theorem part_bad {l : List Int} {st : St} (h : st.2.1 ≠ 0) : partR l st = ([], st) := by unfold partR; rw [is_bad h]; rfl
theorem exp_bad {l : List Int} {st : St} (h : st.2.1 ≠ 0) : expR l st = (0, st) := by
  unfold expR
  rw [if_neg (by rw [is_bad h, is_bad h]; simp)]
theorem last_bad {l : List Int} {st : St} (h : st.2.1 ≠ 0) : lastR l st = st := by
  unfold lastR
  split
  · exact wrong_bad h
  · rfl
def faultR (l : List Int) (k : Nat) : Nm × Int × Int := if l.length ≤ k then (noN, 3, ((l.length : Nat) : Int)) else (noN, 5, ((k : Nat) : Int))
theorem fin_bad {n : Bool} {wh pt : List Int} {x : Int} {l : List Int} {k : Nat} : finR n wh pt x (wrongR l (k, 0, 0)) = faultR l k := by
  unfold finR faultR wrongR
  rw [if_pos rfl]
  by_cases h : l.length ≤ k
  · rw [if_pos h, if_pos h]; rfl
  · rw [if_neg h, if_neg h]; rfl
theorem is_at {l : List Int} {k : Nat} {c : Int} : isR l (k, 0, 0) c = true ↔ k < l.length ∧ l.getD k 0 = c := by
  unfold isR
  simp
theorem dig_at (l : List Int) (k : Nat) : digRY l (k, 0, 0) = if (l.drop k).takeWhile isD = [] then ([], wrongR l (k, 0, 0)) else ((l.drop k).takeWhile isD, (k + ((l.drop k).takeWhile isD).length, 0, 0)) := rfl
theorem drop_at {l : List Int} {k : Nat} (h : k < l.length) : l.drop k = l.getD k 0 :: l.drop (k + 1) := by
  rw [List.drop_eq_getElem_cons h, List.getD_eq_getElem?_getD, List.getElem?_eq_getElem h]
  rfl
theorem drop_end {l : List Int} {k : Nat} (h : ¬ k < l.length) : l.drop k = [] := List.drop_of_length_le (by omega)
theorem drop_span (l : List Int) (k : Nat) : (l.drop k).dropWhile isD = l.drop (k + ((l.drop k).takeWhile isD).length) := by
  have h := List.takeWhile_append_dropWhile (p := isD) (l := l.drop k)
  have h2 : (l.drop k).drop ((l.drop k).takeWhile isD).length = (l.drop k).dropWhile isD := by
    conv => lhs; arg 2; rw [← h]
    rw [List.drop_left]
  rw [← h2, List.drop_drop]
theorem span_stop (l : List Int) (k : Nat) (h : k + ((l.drop k).takeWhile isD).length < l.length) : isD (l.getD (k + ((l.drop k).takeWhile isD).length) 0) = false := by
  have h1 := drop_span l k
  rw [drop_at h] at h1
  cases hc : isD (l.getD (k + ((l.drop k).takeWhile isD).length) 0) with
  | false => rfl
  | true =>
    have h2 := List.head_dropWhile_not (p := isD) (l := l.drop k) (by rw [h1]; simp)
    simp only [h1, List.head_cons] at h2
    rw [hc] at h2
    cases h2
theorem run_cons' (c : Int) (l : List Int) (k q : Nat) (p : Pd) : runS (c :: l) k q p = if afterS q c = 9 then (some k, 9, p) else runS l (k + 1) (afterS q c) (takeS p (afterS q c) c) := by
  conv => lhs; unfold runS
theorem span_first {l : List Int} {k : Nat} (h : k < l.length) (hc : isD (l.getD k 0) = true) : (l.drop k).takeWhile isD = l.getD k 0 :: (l.drop (k + 1)).takeWhile isD := by
  rw [drop_at h, List.takeWhile_cons_of_pos hc]
theorem span_none {l : List Int} {k : Nat} : (l.drop k).takeWhile isD = [] ↔ (k < l.length → isD (l.getD k 0) = false) := by
  constructor
  · intro h hk
    cases hc : isD (l.getD k 0) with
    | false => rfl
    | true => rw [span_first hk hc] at h; cases h
  · intro h
    by_cases hk : k < l.length
    · rw [drop_at hk, List.takeWhile_cons_of_neg (by rw [h hk]; simp)]
    · rw [drop_end hk]; rfl
theorem run_fault {l : List Int} {k q : Nat} {p : Pd} (hq : endS q = false) (h : k < l.length → afterS q (l.getD k 0) = 9) : doneA l.length (runS (l.drop k) k q p) = faultR l k := by
  unfold faultR
  by_cases hk : k < l.length
  · rw [if_neg (by omega), drop_at hk, run_cons', if_pos (h hk)]
    rfl
  · rw [if_pos (by omega), drop_end hk]
    show (if endS q = true then _ else _) = _
    rw [hq]; rfl
end Go.Proofs.YtmlacmoembjeoaaGreatDoor
