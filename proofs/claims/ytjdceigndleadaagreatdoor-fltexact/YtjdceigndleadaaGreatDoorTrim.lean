/-
  Digits without the 0 ahead: bytes.TrimLeft.
-/
import Derived.Test.YtjdceigndleadaaGreatDoorBack
namespace Go.Proofs.YtjdceigndleadaaGreatDoor
open Go.RowKit Go.Shelf
attribute [local go_sem] Oper.semAt_some
open Go.RowKit

/-- The places that have come. -/
def plc {n : Nat} {P : Int → Prop} (pre : List (Bk n P)) : List Nat := pre.map fun x => x.1.1
theorem grown_keep {w A B : World} {row : Option Nat} {X g : Nat} (h : w.grownBy A (some g)) (hX : w.heap.size ≤ X) (hg : A.grownBy B row) (hr : ∀ r, row = some r → X ≤ r ∧ ∃ o : Obj, A.heap[r]? = some o ∧ o.isCells = false) : w.grownBy B (some g) :=
  ⟨hg.os.trans h.os, hg.tape.trans h.tape, hg.output.trans h.output, Nat.le_trans h.size hg.size, fun k hk hne => (hg.block k (Nat.lt_of_lt_of_le hk h.size) (fun e => by have := (hr k e.symm).1; omega)).trans (h.block k hk hne)⟩
theorem grown_set {w A : World} {g : Nat} (h : w.grownBy A (some g)) {a : Addr} (ha : a.block = g ∨ w.heap.size ≤ a.block) (u : Value) : w.grownBy (A.setCell a u) (some g) :=
  ⟨h.os, h.tape, h.output, Nat.le_trans h.size (by simp [World.setCell]), fun k hk hne => (Below.heap_setCell A a u k (fun e => by
    rcases ha with ha | ha
    · exact hne (by rw [e, ha])
    · omega)).trans (h.block k hk hne)⟩
theorem grown_new {w A : World} {g : Nat} (h : w.grownBy A (some g)) (o : Obj) : w.grownBy (A.alloc o) (some g) :=
  ⟨h.os, h.tape, h.output, Nat.le_trans h.size (by simp), fun k hk hne => (Below.heap_alloc A o k (Nat.lt_of_lt_of_le hk h.size)).trans (h.block k hk hne)⟩

theorem upto_desc (n k : Nat) : upto (fun j => n - 1 - j) (k + 1) = upto (fun j => n - 1 - j) k ++ [n - 1 - k] := upto_succ _ _
def lenV : Value → Nat | .slice _ n _ => n | _ => 0
theorem trim_zero (zs : List Int) : trimL (48 :: zs) = trimL zs := rfl
theorem trim_stop {c : Int} (h : c ≠ 48) (zs : List Int) : trimL (c :: zs) = c :: zs := by
  unfold trimL
  rw [List.dropWhile_cons, if_neg (by simpa using h)]
theorem Bytes.tail {w : World} {b off : Nat} {c : Int} {zs : List Int} (h : Bytes w (some ⟨b, off, none⟩) (c :: zs)) : Bytes w (some ⟨b, off + 1, none⟩) zs := h.drop 1
theorem bytes_none (w : World) (a : Option Addr) : Bytes w a [] := ⟨by simp, by simp, .inl rfl⟩

set_option maxHeartbeats 400000 in
theorem trimb_any (a : Option Addr) (n cap : Nat) (zs : List Int) (w : World) (hb : Bytes w a zs) (hl : zs.length = n) (hnc : n ≤ cap) (hcm : cap ≤ 9223372036854775807) :
    Calls Tryz.prog 77 #[.slice a n cap, .int .u8 48] w fun e w' => (∃ a' n' cap', e = .returned (.slice a' n' cap') ∧ (trimL zs).length = n' ∧ Bytes w a' (trimL zs) ∧ n' ≤ cap' ∧ cap' ≤ 9223372036854775807) ∧ w' = w := by
  have hB : Hid (Bytes w a zs) := hb
  have hL : Hid (zs.length = n) := hl
  clear hb hl
  go_enter Tryz.func77, Tryz.ntmps77
  go_wp2
  go_loop [0] (fun v => ∃ (a' : Option Addr) (n' c' : Nat) (ys : List Int), v = .slice a' n' c' ∧ Hid (ys.length = n') ∧ Hid (Bytes w a' ys) ∧ Hid (trimL ys = trimL zs) ∧ n' ≤ c' ∧ c' ≤ 9223372036854775807) (fun v => lenV v)
  case atStart => exact ⟨a, n, cap, zs, rfl, hL, hB, rfl, hnc, hcm⟩
  case round =>
    obtain ⟨a', n', c', ys, rfl, hy, hby, htr, hn', hc'⟩ := hrel
    clear hB hL hnc hcm
    cases ys with
    | nil =>
      obtain rfl : n' = 0 := hy.out.symm
      have hT : Hid (trimL zs = []) := htr.out.symm
      go_wp2
      go_ret
      exact ⟨⟨none, 0, 0, rfl, by rw [hT.out]; rfl, by rw [hT.out]; exact bytes_none _ _, Nat.le_refl _, by omega⟩, rfl⟩
    | cons c ys =>
      obtain ⟨m, rfl⟩ : ∃ m, n' = m + 1 := ⟨ys.length, by rw [← hy.out]; rfl⟩
      obtain ⟨b, off, rfl⟩ := bytes_some hby.out (by simp)
      have hcell : w.cell? ⟨b, off, none⟩ = some (.int .u8 c) := by
        rcases hby.out.2.2 with h | ⟨b', o', h, hcc⟩
        · cases h
        · cases h
          exact hcc 0 (by simp)
      have hy' : Hid (ys.length = m) := by have := hy.out; simp only [List.length_cons] at this; show _ = _; omega
      by_cases h48 : c = 48
      · subst h48
        have hbt : Hid _ := hby.out.tail
        have htr' : Hid (trimL ys = trimL zs) := by have := htr.out; rwa [trim_zero] at this
        by_cases hc1 : c' = 1
        · subst hc1
          obtain rfl : m = 0 := by omega
          have hys : ys = [] := List.eq_nil_of_length_eq_zero hy'.out
          go_wp2
          go_round
          case rel => exact ⟨_, 0, _, [], rfl, rfl, bytes_none _ _, (by rw [← hys]; exact htr'), by omega, by omega⟩
          case measure => simp [lenV]
        · have hc2 : (c' = 1) = False := by simp; omega
          clear hc1
          go_wp2
          go_round
          case rel => exact ⟨_, m, c' - 1, ys, by simp, hy', hbt, htr', by omega, by omega⟩
          case measure => simp [lenV]
      · have hT : Hid (trimL zs = c :: ys) := by rw [← htr.out]; exact trim_stop h48 ys
        have hd : (c == 48) = false := by simpa using h48
        clear h48
        go_wp2
        go_ret
        exact ⟨⟨_, m + 1, c', rfl, by rw [hT.out]; exact hy.out, by rw [hT.out]; exact hby.out, hn', hc'⟩, rfl⟩
set_option maxRecDepth 100000 in
set_option maxHeartbeats 400000 in
theorem trim_any (a : Option Addr) (n cap : Nat) (zs : List Int) (w : World) (hb : Bytes w a zs) (hl : zs.length = n) (hnc : n ≤ cap) (hcm : cap ≤ 9223372036854775807) :
    Calls Tryz.prog 69 #[.slice a n cap, .string ⟨#[48]⟩] w fun e w' => (∃ a' n' cap', e = .returned (.slice a' n' cap') ∧ (trimL zs).length = n' ∧ Bytes w a' (trimL zs) ∧ n' ≤ cap' ∧ cap' ≤ 9223372036854775807) ∧ w' = w := by
  by_cases h0 : n = 0
  · subst h0
    obtain rfl := List.eq_nil_of_length_eq_zero hl
    clear hb hl
    go_enter Tryz.func69, Tryz.ntmps69
    go_wp2
    go_ret
    exact ⟨⟨none, 0, 0, rfl, rfl, bytes_none _ _, Nat.le_refl _, by omega⟩, rfl⟩
  · have hk := trimb_any a n cap zs w hb hl hnc hcm
    have hn0 : ((n : Int) == 0) = false := by simp; omega
    clear hb hl hnc hcm h0
    go_enter Tryz.func69, Tryz.ntmps69
    go_wp2_with (go_at_call 77; refine hk.mono ?_; rintro e w' ⟨⟨a', n', cap', rfl, hx⟩, hw⟩; obtain rfl : w = w' := hw.symm)
    go_ret
    exact ⟨⟨a', n', cap', rfl, hx⟩, rfl⟩
end Go.Proofs.YtjdceigndleadaaGreatDoor
