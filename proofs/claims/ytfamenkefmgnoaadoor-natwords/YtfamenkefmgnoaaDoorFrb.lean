/-
  The number of bytes: nat.FromBytes.
-/
import Derived.Test.YtfamenkefmgnoaaDoorMul
namespace Go.Proofs.YtfamenkefmgnoaaDoor
open Go.RowKit

theorem byt_take {zs : List Int} {k : Nat} (hz : ∀ c ∈ zs, 0 ≤ c ∧ c < 256) (hk : k < zs.length) : ((bytV (zs.take (k + 1)) : Nat) : Int) = 256 * ((bytV (zs.take k) : Nat) : Int) + zs.getD k 0 := by
  have h1 := hz _ (getD_mem hk)
  have e : zs.take (k + 1) = zs.take k ++ [zs.getD k 0] := by
    rw [List.take_succ_eq_append_getElem hk, List.getD_eq_getElem?_getD, List.getElem?_eq_getElem hk]; rfl
  rw [e, byt_snoc]
  generalize zs.getD k 0 = c at *
  omega
set_option maxHeartbeats 1000000 in
theorem frb_any (a : Option Addr) (n cap : Nat) (zs : List Int) (w : World) (hl : zs.length = n) (hb : Bytes w a zs) :
    Calls Tryd.prog 24 #[.slice a n cap] w fun e w' => e = .returned (.tuple #[.string (frbA zs).1, .int .i64 (frbA zs).2]) ∧ Below w.heap.size w w' := by
  by_cases h4 : n ≤ 400
  · obtain ⟨R, hR⟩ : ∃ R, frbA zs = R := ⟨_, rfl⟩
    rw [hR]
    have hR' : Hid (shortA (bytV zs) = R) := by rw [← hR]; unfold frbA; rw [if_pos (by omega)]; rfl
    have hd : decide (400 < (n : Int)) = false := by simp; omega
    have hL : Hid (zs.length = n) := hl
    have hB : Hid (Bytes w a zs) := hb
    clear hR hl hb
    go_enter Tryd.func24, Tryd.ntmps24
    go_wp2
    go_loopw [4, 12] (fun v i wr => ∃ (k : Nat) (l : List Int), k ≤ n ∧ i = .int .i64 k ∧ Hid (OwnsI wr w.heap.size v l) ∧ Hid (Grp 1000000 l) ∧ Hid (lv 1000000 l = (bytV (zs.take k) : Nat)) ∧ Hid (l.length ≤ k) ∧ Hid (Below w.heap.size w wr)) (fun _ i _ => n - (intOf i).toNat)
    case atStart => exact ⟨0, [], Nat.zero_le _, rfl, ownsI_nil _ _, grp_nil _, rfl, Nat.le_refl _, Below.refl _ _⟩
    case round =>
      obtain ⟨k, l, hk, rfl, hO, hG, hv, hln, hbl⟩ := hrel
      by_cases hlt : k < n
      · have hkl : k < zs.length := by rw [hL.out]; exact hlt
        obtain ⟨b, off, rfl⟩ := bytes_some hB.out (by rw [hL.out]; omega)
        obtain ⟨hz, -, hc⟩ := hB.out.kept hbl.out
        have hcell : wr.cell? ⟨b, off + k, none⟩ = some (.int .u8 (zs.getD k 0)) := by
          rcases hc with h | ⟨b', o', h, hc⟩
          · rw [h] at hkl; cases hkl
          · cases h
            exact hc k hkl
        have hcb := hz _ (getD_mem hkl)
        have hbt : Hid _ := byt_take hz hkl
        clear hc hz
        generalize zs.getD k 0 = c at *
        have i1 : (k : Int) < (n : Int) := by omega
        have hln' := hln.out
        have kt := times_any _ l w.heap.size wr hO.out hG.out (by omega) 256 c (by omega) (by omega) hbl.out.size
        have wc : IntKind.i64.wrap c = c := wrap_fit (by omega) (by omega)
        clear hln' hcb
        go_wp2_with (go_at_call 46; refine kt.mono ?_; rintro e w2 ⟨⟨v', l', rfl, hO2, hG2, hv2, hlen⟩, hb2⟩)
        go_roundw
        case rel => exact ⟨k + 1, l', by omega, by go_num, hO2, hG2, (by show _ = _; rw [hv2, hv.out]; exact hbt.out.symm), (by show _ ≤ _; have := hln.out; omega), hbl.out.trans hb2⟩
        case measure => simp [intOf]; omega
      · obtain rfl : k = n := by omega
        have hln' := hln.out
        have hlt2 := lv_lt (by decide) hG.out
        have ht := tell_any _ l w.heap.size wr hO.out (fun g hg => by have := hG.out g hg; omega) hlt2.1 hlt2.2 (by omega) hbl.out.size
        have hn : (lv 1000000 l).toNat = bytV zs := by rw [hv.out, List.take_of_length_le (by rw [hL.out]; exact Nat.le_refl _), Int.toNat_natCast]
        rw [hn, hR'.out] at ht
        clear hn hlt2 hln'
        go_wp2_with (go_at_call 38; refine ht.mono ?_; rintro e w9 ⟨rfl, hb9⟩)
        go_ret2
        exact ⟨rfl, hbl.out.trans hb9⟩
  · have e : frbA zs = (noS, 11) := by unfold frbA; rw [if_neg (by omega)]
    rw [e]
    have hd : decide (400 < (n : Int)) = true := by simp; omega
    clear hl hb h4 e
    go_enter Tryd.func24, Tryd.ntmps24
    go_wp2
    go_ret2
    exact ⟨rfl, Below.refl _ _⟩
end Go.Proofs.YtfamenkefmgnoaaDoor
