/-
  The document's side: which texts are numbers, a number's digits, and the number of digits, each carried on.
  The document's side: the number of digits, each carried on (gantlineref05.text).
  The document's side: how two numbers stand.
  Quotients: nat.Div.
  The document's side: quotients.
  Words: nat.ToWord, and the document's.
-/
import Derived.Test.YtnjbppfanmmifaaGreatDoorQ19
import Derived.Test.YtnjbppfanmmifaaGreatDoorQ13
import Derived.Sort.Walk0
namespace Go.Proofs.YtnjbppfanmmifaaGreatDoor
open Go.RowKit

end Go.Proofs.YtnjbppfanmmifaaGreatDoor
namespace Go.Proofs.YtnjbppfanmmifaaGreatDoor
open Go.RowKit

/-- 10 hundred thousand million at most in a place. -/
def Mod (l : List Nat) : Prop := ∀ x ∈ l, x ≤ 1000000000000
theorem Mod.at {l : List Nat} (h : Mod l) (k : Nat) : l.getD k 0 ≤ 1000000000000 := by
  rw [List.getD_eq_getElem?_getD]
  cases hx : l[k]? with
  | none => exact Nat.zero_le _
  | some y => exact h y (List.mem_of_getElem? hx)

end Go.Proofs.YtnjbppfanmmifaaGreatDoor
namespace Go.Proofs.YtnjbppfanmmifaaGreatDoor
open Go.RowKit

end Go.Proofs.YtnjbppfanmmifaaGreatDoor
namespace Go.Proofs.YtnjbppfanmmifaaGreatDoor
open Go.RowKit

end Go.Proofs.YtnjbppfanmmifaaGreatDoor
namespace Go.Proofs.YtnjbppfanmmifaaGreatDoor
open Go.RowKit

end Go.Proofs.YtnjbppfanmmifaaGreatDoor
namespace Go.Proofs.YtnjbppfanmmifaaGreatDoor
open Go.RowKit Go.Shelf

theorem fold_ge (s : List Int) (n : Nat) : n ≤ s.foldl (fun n c => n * 10 + (c - 48).toNat) n := by
  rw [fold_start]
  have h := Nat.mul_le_mul_left n (Nat.pow_pos (n := s.length) (by decide : 0 < 10))
  omega
theorem parse_digs : ∀ (l : List UInt8) (acc : Nat), Digs (l.map fun c => ((c.toNat : Nat) : Int)) → acc ≤ 18446744073709551615 →
    Lib.parseUintM 18446744073709551615 acc l = if (l.map fun c => ((c.toNat : Nat) : Int)).foldl (fun n c => n * 10 + (c - 48).toNat) acc ≤ 18446744073709551615 then .ok ((l.map fun c => ((c.toNat : Nat) : Int)).foldl (fun n c => n * 10 + (c - 48).toNat) acc) else .range
  | [], acc, _, h => by
    show Lib.NumEnd.ok acc = if acc ≤ 18446744073709551615 then _ else _
    rw [if_pos h]
    rfl
  | c :: r, acc, hd, h => by
    have hc : 48 ≤ ((c.toNat : Nat) : Int) ∧ ((c.toNat : Nat) : Int) ≤ 57 := hd _ (by simp)
    have hr : Digs (r.map fun c => ((c.toNat : Nat) : Int)) := fun x hx => hd x (by rw [List.map_cons]; exact List.mem_cons_of_mem _ hx)
    have e : (((c.toNat : Nat) : Int) - 48).toNat = c.toNat - 48 := by omega
    have hge := fold_ge (r.map fun c => ((c.toNat : Nat) : Int)) (acc * 10 + (c.toNat - 48))
    rw [List.map_cons, List.foldl_cons, e]
    unfold Lib.parseUintM
    rw [if_pos (by omega)]
    by_cases h1 : 1844674407370955162 ≤ acc
    · rw [if_pos h1, if_neg (by omega)]
    · rw [if_neg h1]
      by_cases h2 : 18446744073709551615 < acc * 10 + (c.toNat - 48)
      · rw [if_pos h2, if_neg (by omega)]
      · rw [if_neg h2]
        exact parse_digs r _ hr (by omega)
theorem parse_right {s : ByteArray} (hs : rt s = true) : Lib.parseUintB 64 s.data.toList = if val s ≤ 18446744073709551615 then .ok (val s) else .range := by
  have h1 := (rt_iff s).1 hs
  have h0 : s.data.toList ≠ [] := fun h => h1.1.1 (by unfold bs; rw [h]; rfl)
  unfold Lib.parseUintB
  rw [if_neg h0]
  exact parse_digs s.data.toList 0 h1.1.2.1 (by decide)
theorem cell_lt {w : World} {a : Addr} {v : Value} (h : w.cell? a = some v) : a.block < w.heap.size := by
  rcases Nat.lt_or_ge a.block w.heap.size with h1 | h1
  · exact h1
  · exfalso
    unfold World.cell? at h
    rw [Array.getElem?_eq_none h1] at h
    cases h
set_option maxHeartbeats 1000000 in
set_option maxRecDepth 100000 in
theorem tow_any (s : ByteArray) (w : World) (tp : TypeId) (p : Value) (hv : w.cell? ⟨5, 0, none⟩ = some (.iface tp p)) :
    Calls Tryz.prog 150 #[.string s] w fun e w' => e = .returned (.tuple #[.int .u64 (towA s).1, .bool (towA s).2]) ∧ Below w.heap.size w w' := by
  cases hs : rt s with
  | false =>
    have e : towA s = (0, false) := by unfold towA; rw [if_neg (by rw [hs]; simp)]
    rw [e]
    clear e hv
    go_enter Tryz.func150, Tryz.ntmps150
    go_wp2_with (go_at_call 142; refine (right_any _ _).mono ?_; rintro e w1 ⟨rfl, hw⟩; obtain rfl : w = w1 := hw.symm; rw [hs])
    go_ret2
    exact ⟨rfl, Below.refl _ _⟩
  | true =>
    have hp := parse_right hs
    have sz := (rt_size hs).2
    by_cases hle : val s ≤ 18446744073709551615
    · rw [if_pos hle] at hp
      have e : towA s = (((val s : Nat) : Int), true) := by unfold towA; rw [if_pos ⟨hs, by omega⟩]
      rw [e]
      have hk := Any.strconv_ParseUint_10_at64_ok laysPu14 s (by omega) (val s) hp w
      have hk' : Calls Tryz.prog 184 #[.string s, .int .i64 10, .int .i64 64] w fun e w' => e = .returned (.tuple #[.int .u64 (val s : Nat), .nilIface]) ∧ Below w.heap.size w w' := by
        refine hk.mono ?_
        rintro e w' ⟨he, h | h⟩
        · exact ⟨he, by rw [h]; exact Below.refl _ _⟩
        · exact ⟨he, by rw [h]; exact Lib.bytesWorld_below _ _ _⟩
      generalize val s = N at *
      clear e hv hk hp hle sz
      go_enter Tryz.func150, Tryz.ntmps150
      go_wp2_with (first
        | (go_at_call 142; refine (right_any _ _).mono ?_; rintro e w1 ⟨rfl, hw⟩; obtain rfl : w = w1 := hw.symm; rw [hs])
        | (go_at_call 184; refine hk'.mono ?_; rintro e w1 ⟨rfl, hb1⟩))
      go_ret2
      exact ⟨rfl, hb1⟩
    · rw [if_neg hle] at hp
      have e : towA s = (0, false) := by unfold towA; rw [if_neg (by omega)]
      rw [e]
      have hk := Any.strconv_ParseUint_10_at64_range laysPu14 s (by omega) hp (.iface tp p) w hv (.inr ⟨tp, p, rfl⟩)
      have hk' : Calls Tryz.prog 184 #[.string s, .int .i64 10, .int .i64 64] w fun e w' => ∃ N, e = .returned (.tuple #[.int .u64 18446744073709551615, .iface 220 (.pointer (some ⟨N, 0, none⟩))]) ∧ Below w.heap.size w w' := by
        refine hk.mono ?_
        rintro e w' ⟨N, he, -, -, hb⟩
        exact ⟨N, he, hb⟩
      clear e hv hk hp hle sz
      go_enter Tryz.func150, Tryz.ntmps150
      go_wp2_with (first
        | (go_at_call 142; refine (right_any _ _).mono ?_; rintro e w1 ⟨rfl, hw⟩; obtain rfl : w = w1 := hw.symm; rw [hs])
        | (go_at_call 184; refine hk'.mono ?_; rintro e w1 ⟨N, rfl, hb1⟩))
      go_ret2
      exact ⟨rfl, hb1⟩
end Go.Proofs.YtnjbppfanmmifaaGreatDoor
