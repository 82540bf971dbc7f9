/-
  The look through bytes, in the program.
-/
import Derived.Test.YtfipdldoklkciaaTell
import Derived.WalkMore
namespace Go.Proofs.Ytfipdldoklkciaa
open Go.RowKit

theorem many_loads {L : List (List Int)} {p n : Nat} (h : 8 * L.length ≤ p) (hp : p ≤ n) (hn : n ≤ 1099511627776) : (L.length + 1) * 24 ≤ 140737488355328 := by omega

set_option maxHeartbeats 1000000 in
theorem scan_any (a : Option Addr) (n cap : Nat) (zs : List Int) (w : World) (hl : zs.length = n) (hb : Bytes w a zs) (hc : n ≤ cap) (hcm : cap ≤ 9223372036854775807) (hn : n ≤ 1099511627776) :
    Calls Try.prog 81 #[.slice a n cap] w fun e w' => ∃ v, e = .returned (.tuple #[v, .int .i64 ((scanL zs).2 : Nat)]) ∧ OwnsL w' w.heap.size 0 v (scanL zs).1 ∧ Below w.heap.size w w' := by
  by_cases h0 : n = 0
  · subst h0
    obtain rfl : zs = [] := List.eq_nil_of_length_eq_zero hl
    clear hb
    go_enter Try.func81, Try.ntmps81
    go_wp2
    go_step3
    go_wp2
    go_step3
    go_wp2
    go_loopw [4, 5] (fun v i wr => i = .int .i64 0 ∧ v = .slice none 0 0 ∧ Hid (wr = w)) (fun _ _ _ => 0)
    case atStart => exact ⟨rfl, rfl, rfl⟩
    case round =>
      obtain ⟨rfl, rfl, hw⟩ := hrel
      go_wp2
      try rw [Exit.noGoto_ret]
      go_ret2
      rw [scan_nil]
      refine ⟨_, rfl, ownsL_nil _ _ _, ?_⟩
      rw [hw.out]
      exact Below.refl _ _
  · obtain ⟨b, off, rfl⟩ := bytes_some hb (by omega)
    have hB : Hid (Bytes w (some ⟨b, off, none⟩) zs) := hb
    have hL : Hid (zs.length = n) := hl
    clear hb hl
    go_enter Try.func81, Try.ntmps81
    go_wp2
    go_step3
    go_wp2
    go_step3
    go_wp2
    go_loopw [4, 5] (fun v i wr => ∃ (p : Nat) (L : List (List Int)), p ≤ n ∧ i = .int .i64 p ∧ Hid (OwnsL wr w.heap.size 0 v L) ∧ Hid (scanL zs = (L ++ (scanL (zs.drop p)).1, p + (scanL (zs.drop p)).2)) ∧ Hid (8 * L.length ≤ p) ∧ Below w.heap.size w wr) (fun _ i _ => n - (intOf i).toNat)
    case atStart => exact ⟨0, [], Nat.zero_le _, rfl, ownsL_nil _ _ _, (by show _ = _; simp), (by show _ ≤ _; simp), Below.refl _ _⟩
    case round =>
      obtain ⟨p, L, hp, rfl, hown, hsc, hmany, hbr⟩ := hrel
      have hsz := hbr.size
      by_cases hlt : p < n
      · have hne : zs.drop p ≠ [] := by intro h; have := congrArg List.length h; rw [List.length_drop, hL.out] at this; simp at this; omega
        have hBr : Bytes wr (some ⟨b, off + p, none⟩) (zs.drop p) := (hB.out.kept hbr).drop p
        have hDl : (zs.drop p).length = n - p := by rw [List.length_drop, hL.out]
        have i1 : (cap = p) = False := by simp; omega
        have i2 : (p : Int) ≤ (n : Int) := by omega
        by_cases hW : Whole (zs.drop p)
        · have k := tell_whole b (off + p) (n - p) (cap - p) (zs.drop p) wr hDl (by omega) (by omega) hBr hW
          have hs2 : Hid (scanL zs = ((L ++ [loadAt (zs.drop p)]) ++ (scanL (zs.drop (p + (nAt (zs.drop p) + 8)))).1, (p + (nAt (zs.drop p) + 8)) + (scanL (zs.drop (p + (nAt (zs.drop p) + 8)))).2)) := by
            show _ = _
            rw [hsc.out, scan_whole hW, List.drop_drop]
            simp [Nat.add_assoc]
          have hle : nAt (zs.drop p) + 8 ≤ n - p := by have := hW.2.1; omega
          have hm2 : Hid (8 * (L ++ [loadAt (zs.drop p)]).length ≤ p + (nAt (zs.drop p) + 8)) := by
            show _ ≤ _
            have := hmany.out
            simp only [List.length_append, List.length_cons, List.length_nil]
            omega
          clear hBr hDl hne hW hsc
          generalize loadAt (zs.drop p) = l at *
          generalize nAt (zs.drop p) = N at *
          go_wp2_with fail
          refine k.mono ?_
          rintro e w1 ⟨a1, c1, rfl, hld, hb1⟩
          have ho1 : Hid (OwnsL w1 w.heap.size 0 u4 L) := hown.out.below hb1
          have hb2 : Below w.heap.size w w1 := hbr.trans (hb1.mono hsz)
          have hs1 := hb2.size
          clear k hown
          go_wp2_with (at_builtin; refine wpList_append_loads rfl _ (.tmp 24) rfl w.heap.size 0 (Nat.zero_le _) u4 L [l] rfl (ho1.out.alloc _) (some ⟨w1.heap.size, 0, none⟩) 1 1 rfl rfl (by simp) (one_load hld _) (many_loads hmany.out hp hn) (by simp; omega) ?_; intro v3 w3 ho3 hg3; have hb3 := grownL_below (hb2.alloc hs1 _) (ho1.out.alloc _) hg3 (by simp; omega); clear hg3)
          go_roundw
          case rel => exact ⟨p + (N + 8), L ++ [l], by omega, by go_num, ho3, hs2, hm2, hb3⟩
          case measure => simp [intOf]; omega
        · by_cases hF : Few (zs.drop p)
          · have k := tell_few b (off + p) (n - p) (cap - p) (zs.drop p) wr hDl (by omega) hBr hF
            have hs2 : Hid (scanL zs = (L, p)) := by
              show _ = _
              rw [hsc.out, scan_few hF]
              simp
            clear hBr hDl hne hW hsc hF
            go_wp2_with (go_at_call 106; refine k.mono ?_; rintro e w1 ⟨rfl, rfl⟩)
            try rw [Exit.noGoto_ret]
            go_ret2
            rw [hs2.out]
            exact ⟨_, rfl, hown.out, hbr⟩
          · have k : Calls Try.prog 106 #[.slice (some ⟨b, off + p, none⟩) (n - p) (cap - p)] wr fun e w' => e = .returned (.tuple #[.slice none 0 0, .int .i64 0]) ∧ Below wr.heap.size wr w' := by
              by_cases hf : Front (zs.drop p)
              · have hnn : nAt (zs.drop p) + 8 ≤ n - p := by
                  rcases Nat.lt_or_ge (n - p) (nAt (zs.drop p) + 8) with h | h
                  · exact absurd ⟨hf, by omega⟩ hF
                  · exact h
                exact tell_bad b (off + p) (n - p) (cap - p) (zs.drop p) wr hDl (by omega) (by omega) hBr hf hnn fun h => hW ⟨hf, by omega, h⟩
              · refine (tell_no b (off + p) (n - p) (cap - p) (zs.drop p) wr hDl (by omega) hBr hf).mono ?_
                rintro e w1 ⟨rfl, rfl⟩
                exact ⟨rfl, Below.refl _ _⟩
            have hs2 : Hid (scanL zs = (L ++ (scanL (zs.drop (p + 1))).1, (p + 1) + (scanL (zs.drop (p + 1))).2)) := by
              show _ = _
              rw [hsc.out, scan_step hne hW hF, List.drop_drop]
              simp [Nat.add_assoc]
            clear hBr hDl hne hW hsc hF
            go_wp2_with (go_at_call 106; refine k.mono ?_; rintro e w1 ⟨rfl, hb1⟩)
            go_roundw
            case rel => exact ⟨p + 1, L, by omega, by go_num, hown.out.below hb1, hs2, (by show _ ≤ _; have := hmany.out; omega), hbr.trans (hb1.mono hsz)⟩
            case measure => simp [intOf]; omega
      · have hs2 : Hid (scanL zs = (L, p)) := by
          show _ = _
          rw [hsc.out, List.drop_of_length_le (by rw [hL.out]; omega), scan_nil]
          simp
        clear hsc
        go_wp2
        try rw [Exit.noGoto_ret]
        go_ret2
        rw [hs2.out]
        exact ⟨_, rfl, hown.out, hbr⟩
