/-
  The document's side: which texts are numbers, a number's digits, and the number of digits, each carried on.
-/
import Derived.Test.YtjdceigndleadaaGreatDoorYright
import Derived.Test.YtjdceigndleadaaGreatDoorMul
namespace Go.Proofs.YtjdceigndleadaaGreatDoor
open Go.RowKit

theorem xshort_any (n : Nat) (w : World) : Calls Tryz.prog 38 #[.string (txt n)] w fun e w' => e = .returned (.tuple #[.string (shortA n).1, .int .i64 (shortA n).2]) ∧ w' = w := by
  have hl := txt_long (n := n)
  by_cases h : top ≤ n
  · have e : shortA n = (noS, 11) := by unfold shortA; rw [if_neg (by omega)]
    rw [e]
    have d : decide (800 < (((txt n).size : Nat) : Int)) = true := by have := hl.2 h; simp; omega
    clear hl h e
    generalize txt n = t at *
    go_enter Tryz.func38, Tryz.ntmps38
    go_wp2
    go_ret2
    exact ⟨rfl, rfl⟩
  · have e : shortA n = (txt n, 0) := by unfold shortA; rw [if_pos (by omega)]
    rw [e]
    have d : decide (800 < (((txt n).size : Nat) : Int)) = false := by have := fun h2 => h (hl.1 h2); simp; omega
    clear hl h e
    generalize txt n = t at *
    go_enter Tryz.func38, Tryz.ntmps38
    go_wp2
    go_ret2
    exact ⟨rfl, rfl⟩

theorem dgs_take {s : List Int} {j k : Nat} (hj : j + 1 + k = s.length) : (dgs s).take (k + 1) = (dgs s).take k ++ [s.getD j 0 - 48] := by
  have hk : k < (dgs s).length := by rw [dgs_len]; omega
  rw [List.take_succ_eq_append_getElem hk]
  have h := dgs_getD s k (by omega)
  rw [List.getD_eq_getElem?_getD, List.getElem?_eq_getElem hk] at h
  simp only [Option.getD_some] at h
  have hjj : s.length - 1 - k = j := by omega
  rw [h, hjj]
set_option maxHeartbeats 1000000 in
theorem xdigits_any (s : ByteArray) (w : World) (hd : Digs (bs s)) (hsz : s.size ≤ 100000) :
    Calls Tryz.prog 58 #[.string s] w fun e w' => (∃ v, e = .returned v ∧ OwnsI w' w.heap.size v (dgs (bs s))) ∧ Below w.heap.size w w' := by
  have w0 : IntKind.i64.wrap (((s.size : Nat) : Int) - 1) = ((s.size : Nat) : Int) - 1 := wrap_fit (by omega) (by omega)
  have hD : Hid (Digs (bs s)) := hd
  have hlen : Hid ((dgs (bs s)).length = s.size) := by show _ = _; rw [dgs_len, bs_len]
  clear hd
  go_enter Tryz.func58, Tryz.ntmps58
  go_wp2
  go_loopw [3, 4] (fun v i wr => ∃ (j k : Nat), j + k = s.size ∧ i = .int .i64 ((j : Int) - 1) ∧ Hid (OwnsI wr w.heap.size v ((dgs (bs s)).take k)) ∧ Hid (Below w.heap.size w wr)) (fun _ i _ => (intOf i + 1).toNat)
  case atStart => exact ⟨s.size, 0, by omega, rfl, (by show OwnsI _ _ _ _; rw [List.take_zero]; exact ownsI_nil _ _), Below.refl _ _⟩
  case round =>
    obtain ⟨j, k, hjk, rfl, hO, hbl⟩ := hrel
    cases j with
    | zero =>
      have hfin : Hid (OwnsI wr w.heap.size u3 (dgs (bs s))) := by
        have := hO.out
        rwa [List.take_of_length_le (by rw [hlen.out]; omega)] at this
      clear hO
      go_wp2
      go_ret
      exact ⟨⟨_, rfl, hfin.out⟩, hbl.out⟩
    | succ m =>
      have hms : m < s.size := by omega
      have hb := bs_at s hms
      have hds := hD.out _ (getD_mem (l := bs s) (k := m) (by rw [bs_len]; exact hms))
      have htk : Hid _ := dgs_take (s := bs s) (j := m) (k := k) (by rw [bs_len]; omega)
      have e1 : ((m + 1 : Nat) : Int) - 1 = (m : Int) := by omega
      rw [e1]
      have hlk : Hid (((dgs (bs s)).take k).length ≤ 100000) := by show _ ≤ _; rw [List.length_take]; omega
      have hbs : w.heap.size ≤ wr.heap.size := hbl.out.size
      rw [hb] at hds htk
      have w1' : IntKind.u8.wrap ((((s[m]'hms).toNat : Nat) : Int) - 48) = (((s[m]'hms).toNat : Nat) : Int) - 48 := by rw [IntKind.wrap_u8]; omega
      have w2 : IntKind.i64.wrap ((((s[m]'hms).toNat : Nat) : Int) - 48) = (((s[m]'hms).toNat : Nat) : Int) - 48 := wrap_fit (by omega) (by omega)
      have w3 : IntKind.i64.wrap ((m : Int) - 1) = (m : Int) - 1 := wrap_fit (by omega) (by omega)
      obtain ⟨D, hDD⟩ : ∃ D, (((s[m]'hms).toNat : Nat) : Int) - 48 = D := ⟨_, rfl⟩
      rw [hDD] at w1' w2 htk
      clear hb hds e1
      go_wp2_with (at_builtin; refine wpList_append_ints rfl _ _ rfl w.heap.size _ ((dgs (bs s)).take k) [D] rfl (hO.out.alloc _) _ 1 1 rfl rfl (by intro h; cases h) (one_int _ _) (by have := hlk.out; simp; omega) (by simp; omega) ?_; intro v' w9 ho9 hg9)
      go_roundw
      case rel => exact ⟨m, k + 1, by omega, rfl, (by show OwnsI _ _ _ _; rw [htk.out]; exact ho9), grownI_below (hbl.out.alloc hbs _) (hO.out.alloc _) hg9 (by simp; omega)⟩
      case measure => simp [intOf]
end Go.Proofs.YtjdceigndleadaaGreatDoor
