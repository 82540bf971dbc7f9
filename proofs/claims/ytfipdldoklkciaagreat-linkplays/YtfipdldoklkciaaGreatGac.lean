/-
  Texts Tell, Scan, RefOpen, Qcu, Qtk.
-/
import Derived.Test.YtfipdldoklkciaaGreatGab
import Derived.WalkMore
import Derived.Test.YtfipdldoklkciaaGreatGaa
import Derived.Deep.RegionWith
import Derived.Deep.QuietTactic
import Derived.BigQuiet
namespace Go.Proofs.YtfipdldoklkciaaGreat
open Go.RowKit

theorem byte_at {w : World} {b off : Nat} {zs : List Int} (hB : Bytes w (some ⟨b, off, none⟩) zs) {i : Nat} (hi : i < zs.length) :
    w.cell? ⟨b, off + i, none⟩ = some (.int .u8 ((zs.getD i 0).toNat : Int)) ∧ (zs.getD i 0).toNat < 256 := by
  rcases hB.2.2 with h0 | ⟨b', off', hx, hc⟩
  · subst h0; simp at hi
  · cases hx
    have hm : zs.getD i 0 ∈ zs := by rw [List.getD_eq_getElem?_getD, List.getElem?_eq_getElem hi]; exact List.getElem_mem hi
    have hz := hB.1 _ hm
    refine ⟨?_, by omega⟩
    rw [hc i hi, Int.toNat_of_nonneg hz.1]

set_option maxHeartbeats 400000 in
theorem least_any (b off n cap : Nat) (zs : List Int) (w : World) (hl : zs.length = n) (hB : Bytes w (some ⟨b, off, none⟩) zs) :
    Calls Tryz.prog 126 #[.slice (some ⟨b, off, none⟩) n cap] w fun e w' => e = .returned (.int .i64 (nAt zs : Nat)) ∧ w' = w := by
  by_cases h3 : 3 < n
  · obtain ⟨c2, z2⟩ := byte_at hB (i := 2) (by omega)
    obtain ⟨c3, z3⟩ := byte_at hB (i := 3) (by omega)
    have e : Hid (nAt zs = (zs.getD 2 0).toNat * 256 + (zs.getD 3 0).toNat) := rfl
    generalize (zs.getD 2 0).toNat = m2 at *
    generalize (zs.getD 3 0).toNat = m3 at *
    clear hB hl
    have d1 : decide (2 < (n : Int)) = true := by simp; omega
    have d2 : decide (3 < (n : Int)) = true := by simp; omega
    go_enter Tryz.func126, Tryz.ntmps126
    go_wp2
    go_ret
    exact ⟨by rw [e.out]; rfl, rfl⟩
  · by_cases h2 : 2 < n
    · obtain ⟨c2, z2⟩ := byte_at hB (i := 2) (by omega)
      have e : Hid (nAt zs = (zs.getD 2 0).toNat * 256) := by show _ = _; unfold nAt; rw [getD_out (i := 3) (by omega)]; exact Nat.add_zero _
      generalize (zs.getD 2 0).toNat = m2 at *
      clear hB hl
      have d1 : decide (2 < (n : Int)) = true := by simp; omega
      have d2 : decide (3 < (n : Int)) = false := by simp; omega
      go_enter Tryz.func126, Tryz.ntmps126
      go_wp2
      go_ret
      exact ⟨by rw [e.out]; rfl, rfl⟩
    · have e : Hid (nAt zs = 0) := by show _ = _; unfold nAt; rw [getD_out (i := 3) (by omega), getD_out (i := 2) (by omega)]; rfl
      clear hB hl
      have d1 : decide (2 < (n : Int)) = false := by simp; omega
      have d2 : decide (3 < (n : Int)) = false := by simp; omega
      go_enter Tryz.func126, Tryz.ntmps126
      go_wp2
      go_ret
      exact ⟨by rw [e.out]; rfl, rfl⟩

instance (b : List Int) : Decidable (Marked b) := by unfold Marked; infer_instance

set_option maxHeartbeats 400000 in
theorem marked_any (b off n cap : Nat) (zs : List Int) (w : World) (hl : zs.length = n) (hp : 0 < n) (hB : Bytes w (some ⟨b, off, none⟩) zs) :
    Calls Tryz.prog 127 #[.slice (some ⟨b, off, none⟩) n cap] w fun e w' => e = .returned (.bool (decide (Marked zs))) ∧ w' = w := by
  obtain ⟨c0', z0⟩ := byte_at hB (i := 0) (by omega)
  have c0 : w.cell? ⟨b, off, none⟩ = some (.int .u8 ((zs.getD 0 0).toNat : Int)) := c0'
  clear c0'
  by_cases h0 : zs.getD 0 0 = 165
  · rw [h0] at c0
    by_cases h1 : n < 2
    · have e : Hid (decide (Marked zs) = true) := by exact decide_eq_true (⟨h0, .inl (by omega)⟩ : Marked zs)
      have d1 : decide ((n : Int) < 2) = true := by simp; omega
      clear hB hl h0 z0
      go_enter Tryz.func127, Tryz.ntmps127
      go_wp2
      go_ret
      exact ⟨by rw [e.out]; rfl, rfl⟩
    · obtain ⟨c1, z1⟩ := byte_at hB (i := 1) (by omega)
      have d1 : decide ((n : Int) < 2) = false := by simp; omega
      have z : 0 ≤ zs.getD 1 0 := (hB.1 _ (by rw [List.getD_eq_getElem?_getD, List.getElem?_eq_getElem (by omega)]; exact List.getElem_mem _)).1
      have e : Hid (decide (Marked zs) = (((zs.getD 1 0).toNat : Int) == 90)) := by
        show _ = _
        rw [Int.toNat_of_nonneg z, Bool.eq_iff_iff, decide_eq_true_iff, beq_iff_eq]
        exact ⟨fun h => by rcases h.2 with h5 | h5 <;> omega, fun h => ⟨h0, .inr h⟩⟩
      generalize (zs.getD 1 0).toNat = m1 at *
      clear hB hl h0 z0 z
      go_enter Tryz.func127, Tryz.ntmps127
      go_wp2
      go_ret
      exact ⟨by rw [e.out]; rfl, rfl⟩
  · have z : 0 ≤ zs.getD 0 0 := (hB.1 _ (by rw [List.getD_eq_getElem?_getD, List.getElem?_eq_getElem (by omega)]; exact List.getElem_mem _)).1
    have e : Hid (decide (Marked zs) = false) := by exact decide_eq_false (fun h : Marked zs => h0 h.1)
    have d0 : ((((zs.getD 0 0).toNat : Nat) : Int) == 165) = false := by rw [Int.toNat_of_nonneg z]; simpa using h0
    generalize (zs.getD 0 0).toNat = m0 at *
    clear hB hl h0 z
    go_enter Tryz.func127, Tryz.ntmps127
    go_wp2
    go_ret
    exact ⟨by rw [e.out]; rfl, rfl⟩

set_option maxHeartbeats 400000 in
theorem tell_no (b off n cap : Nat) (zs : List Int) (w : World) (hl : zs.length = n) (hp : 0 < n) (hB : Bytes w (some ⟨b, off, none⟩) zs) (h : ¬ Front zs) :
    Calls Tryz.prog 123 #[.slice (some ⟨b, off, none⟩) n cap] w fun e w' => e = .returned (.tuple #[.slice none 0 0, .int .i64 0]) ∧ w' = w := by
  have k1 := least_any b off n cap zs w hl hB
  have k2 := marked_any b off n cap zs w hl hp hB
  by_cases hm : Marked zs
  · have d1 : decide (Marked zs) = true := decide_eq_true hm
    have d2 : decide (1200 < ((nAt zs : Nat) : Int)) = true := by
      have : 1200 < nAt zs := by
        rcases Nat.lt_or_ge 1200 (nAt zs) with h1 | h1
        · exact h1
        · exact absurd ⟨hm, h1⟩ h
      simp; omega
    rw [d1] at k2
    clear hB hl h hm d1
    generalize nAt zs = N at *
    go_enter Tryz.func123, Tryz.ntmps123
    go_wp2_with (first | (go_at_call 126; refine k1.mono ?_; rintro e w' ⟨rfl, rfl⟩) | (go_at_call 127; refine k2.mono ?_; rintro e w' ⟨rfl, rfl⟩))
    go_ret2
    exact ⟨rfl, rfl⟩
  · have d1 : decide (Marked zs) = false := decide_eq_false hm
    rw [d1] at k2
    clear hB hl h hm d1
    generalize nAt zs = N at *
    go_enter Tryz.func123, Tryz.ntmps123
    go_wp2_with (first | (go_at_call 126; refine k1.mono ?_; rintro e w' ⟨rfl, rfl⟩) | (go_at_call 127; refine k2.mono ?_; rintro e w' ⟨rfl, rfl⟩))
    go_ret2
    exact ⟨rfl, rfl⟩

set_option maxHeartbeats 400000 in
theorem tell_few (b off n cap : Nat) (zs : List Int) (w : World) (hl : zs.length = n) (hp : 0 < n) (hB : Bytes w (some ⟨b, off, none⟩) zs) (h : Few zs) :
    Calls Tryz.prog 123 #[.slice (some ⟨b, off, none⟩) n cap] w fun e w' => e = .returned (.tuple #[.slice none 0 0, .int .i64 1]) ∧ w' = w := by
  have k1 := least_any b off n cap zs w hl hB
  have k2 := marked_any b off n cap zs w hl hp hB
  have d1 : decide (Marked zs) = true := decide_eq_true h.1.1
  have z1 : nAt zs ≤ 1200 := h.1.2
  have z2 : n < nAt zs + 8 := by rw [← hl]; exact h.2
  rw [d1] at k2
  clear hB hl h d1
  generalize nAt zs = N at *
  have d2 : decide (1200 < (N : Int)) = false := by simp; omega
  have d3 : decide ((n : Int) < (N : Int) + 8) = true := by simp; omega
  go_enter Tryz.func123, Tryz.ntmps123
  go_wp2_with (first | (go_at_call 126; refine k1.mono ?_; rintro e w' ⟨rfl, rfl⟩) | (go_at_call 127; refine k2.mono ?_; rintro e w' ⟨rfl, rfl⟩))
  go_ret2
  exact ⟨rfl, rfl⟩

theorem inner_len {zs : List Int} {N : Nat} (h : N + 8 ≤ zs.length) : ((zs.take (N + 8)).drop 2).length = N + 6 := by
  rw [List.length_drop, List.length_take]; omega
theorem inner_load {zs : List Int} {N : Nat} : (((zs.take (N + 8)).drop 2).take (N + 2)).drop 2 = (zs.drop 4).take N := by
  rw [List.drop_take, List.drop_drop, List.drop_take, List.take_take]
  congr 1
  omega

set_option maxHeartbeats 400000 in
theorem tell_bad (b off n cap : Nat) (zs : List Int) (w : World) (hl : zs.length = n) (hc : n ≤ cap) (hcm : cap ≤ 9223372036854775807) (hB : Bytes w (some ⟨b, off, none⟩) zs) (hf : Front zs) (hn : nAt zs + 8 ≤ n) (hs : ¬ Sealed ((zs.take (nAt zs + 8)).drop 2)) :
    Calls Tryz.prog 123 #[.slice (some ⟨b, off, none⟩) n cap] w fun e w' => e = .returned (.tuple #[.slice none 0 0, .int .i64 0]) ∧ Below w.heap.size w w' := by
  have k1 := least_any b off n cap zs w hl hB
  have k2 := marked_any b off n cap zs w hl (by omega) hB
  have d1 : decide (Marked zs) = true := decide_eq_true hf.1
  have z1 : nAt zs ≤ 1200 := hf.2
  rw [d1] at k2
  have k3 := fun c h1 h2 => opens_not (some ⟨b, off + 2, none⟩) (nAt zs + 6) c ((zs.take (nAt zs + 8)).drop 2) w ((hB.take _).drop 2) (inner_len (by omega)) h1 h2 hs
  clear hB hl hf d1 hs
  generalize nAt zs = N at *
  have d2 : decide (1200 < (N : Int)) = false := by simp; omega
  have d3 : decide ((n : Int) < (N : Int) + 8) = false := by simp; omega
  have i1 : (N : Int) + 8 ≤ (cap : Int) := by omega
  have i2 : (2 : Int) ≤ (N : Int) + 8 := by omega
  have i3 : (cap = 2) = False := by simp; omega
  have i4 : N + 8 - 2 = N + 6 := by omega
  go_enter Tryz.func123, Tryz.ntmps123
  go_wp2_with (first | (go_at_call 126; refine k1.mono ?_; rintro e w' ⟨rfl, rfl⟩) | (go_at_call 127; refine k2.mono ?_; rintro e w' ⟨rfl, rfl⟩) | (go_at_call 128; refine (k3 _ (by omega) (by omega)).mono ?_; rintro e w1 ⟨rfl, hb1⟩))
  go_ret2
  exact ⟨rfl, hb1⟩

set_option maxHeartbeats 400000 in
theorem tell_whole (b off n cap : Nat) (zs : List Int) (w : World) (hl : zs.length = n) (hc : n ≤ cap) (hcm : cap ≤ 9223372036854775807) (hB : Bytes w (some ⟨b, off, none⟩) zs) (h : Whole zs) :
    Calls Tryz.prog 123 #[.slice (some ⟨b, off, none⟩) n cap] w fun e w' => ∃ a' c', e = .returned (.tuple #[.slice a' (nAt zs) c', .int .i64 2]) ∧ Load w' 0 (.slice a' (nAt zs) c') (loadAt zs) ∧ Below w.heap.size w w' := by
  obtain ⟨hf, hn, hs⟩ := h
  rw [hl] at hn
  have k1 := least_any b off n cap zs w hl hB
  have k2 := marked_any b off n cap zs w hl (by omega) hB
  have d1 : decide (Marked zs) = true := decide_eq_true hf.1
  have z1 : nAt zs ≤ 1200 := hf.2
  rw [d1] at k2
  have il := inner_len (zs := zs) (N := nAt zs) (by omega)
  have k3 := fun c h1 h2 => opens (some ⟨b, off + 2, none⟩) (nAt zs + 6) c ((zs.take (nAt zs + 8)).drop 2) w ((hB.take _).drop 2) il h1 h2 (by omega) hs
  rw [il, show nAt zs + 6 - 4 = nAt zs + 2 from by omega] at k3
  have hT : Hid (((zs.take (nAt zs + 8)).drop 2).take (nAt zs + 2) = ((zs.take (nAt zs + 8)).drop 2).take (nAt zs + 2)) := rfl
  have hTl : Hid ((((zs.take (nAt zs + 8)).drop 2).take (nAt zs + 2)).length = nAt zs + 2) := by show _ = _; rw [List.length_take, il]; omega
  have hLd : Hid ((((zs.take (nAt zs + 8)).drop 2).take (nAt zs + 2)).drop 2 = loadAt zs) := inner_load
  have hLl : Hid ((loadAt zs).length = nAt zs) := load_len (by omega)
  clear hB hl hf d1 hs hT il
  generalize ((zs.take (nAt zs + 8)).drop 2).take (nAt zs + 2) = T at *
  generalize loadAt zs = L at *
  generalize nAt zs = N at *
  have d2 : decide (1200 < (N : Int)) = false := by simp; omega
  have d3 : decide ((n : Int) < (N : Int) + 8) = false := by simp; omega
  have i1 : (N : Int) + 8 ≤ (cap : Int) := by omega
  have i2 : (2 : Int) ≤ (N : Int) + 8 := by omega
  have i3 : (cap = 2) = False := by simp; omega
  have i4 : N + 8 - 2 = N + 6 := by omega
  go_enter Tryz.func123, Tryz.ntmps123
  go_wp2_with (first | (go_at_call 126; refine k1.mono ?_; rintro e w' ⟨rfl, rfl⟩) | (go_at_call 127; refine k2.mono ?_; rintro e w' ⟨rfl, rfl⟩))
  refine (k3 _ (by omega) (by omega)).mono ?_
  rintro e w1 ⟨v1, rfl, ho1, hb1⟩
  obtain ⟨g1, n1, cap1, rfl, hR1, hl1, hc1, hm1⟩ := ho1.row (by have := hTl.out; omega)
  obtain rfl : n1 = N + 2 := by rw [← hl1.out, hTl.out]
  clear hl1 k3
  have j1 : (2 : Int) ≤ (N : Int) + 2 := by omega
  have j2 : N + 2 - 2 = N := by omega
  by_cases hq : cap1 = 2
  · subst hq
    go_wp2
    go_ret2
    obtain rfl : N = 0 := by omega
    refine ⟨_, _, rfl, ?_, hb1⟩
    have h1 : L = [] := List.eq_nil_of_length_eq_zero hLl.out
    subst h1
    refine ⟨_, _, rfl, ⟨by simp, by simp, .inl rfl⟩, by simp, by simp, by simp [maxLen], fun x hx _ => ?_⟩
    cases hx
    rcases hR1.out.1.2 with ⟨h1, _⟩ | ⟨g, cap', cur, h1, _, hg, _⟩
    · cases h1
    · cases h1
      exact .inr ⟨_, _, hg⟩
  · have j3 : (cap1 = 2) = False := by simp [hq]
    go_wp2
    go_ret2
    refine ⟨_, _, rfl, ?_, hb1⟩
    have hby := hR1.out.bytes.drop 2
    rw [hLd.out] at hby
    refine ⟨some ⟨g1, 0 + 2, none⟩, cap1 - 2, by rw [hLl.out], hby, by simp, by rw [hLl.out]; omega, by unfold maxLen; omega, fun x hx _ => ?_⟩
    cases hx
    rcases hR1.out.1.2 with ⟨h1, _⟩ | ⟨g, cap', cur, h1, _, hg, _⟩
    · cases h1
    · cases h1
      exact .inr ⟨_, _, hg⟩
end Go.Proofs.YtfipdldoklkciaaGreat
namespace Go.Proofs.YtfipdldoklkciaaGreat
open Go.RowKit

theorem many_loads {L : List (List Int)} {p n : Nat} (h : 8 * L.length ≤ p) (hp : p ≤ n) (hn : n ≤ 1099511627776) : (L.length + 1) * 24 ≤ 140737488355328 := by omega

set_option maxHeartbeats 1000000 in
theorem scan_any (a : Option Addr) (n cap : Nat) (zs : List Int) (w : World) (hl : zs.length = n) (hb : Bytes w a zs) (hc : n ≤ cap) (hcm : cap ≤ 9223372036854775807) (hn : n ≤ 1099511627776) :
    Calls Tryz.prog 109 #[.slice a n cap] w fun e w' => ∃ v, e = .returned (.tuple #[v, .int .i64 ((scanL zs).2 : Nat)]) ∧ OwnsL w' w.heap.size 0 v (scanL zs).1 ∧ Below w.heap.size w w' := by
  by_cases h0 : n = 0
  · subst h0
    obtain rfl : zs = [] := List.eq_nil_of_length_eq_zero hl
    clear hb
    go_enter Tryz.func109, Tryz.ntmps109
    go_wp2
    go_step3
    go_wp2
    go_step3
    go_wp2
    go_loopw [4, 5] (fun v i wr => i = .int .i64 0 ∧ v = .slice none 0 0 ∧ Hid (wr = w)) (fun _ _ _ => 0)
    case atStart => exact ⟨rfl, rfl, rfl⟩
    case round =>
      obtain ⟨rfl, rfl, hw⟩ := hrel
      go_wp2
      try rw [Exit.noGoto_ret]
      go_ret2
      rw [scan_nil]
      refine ⟨_, rfl, ownsL_nil _ _ _, ?_⟩
      rw [hw.out]
      exact Below.refl _ _
  · obtain ⟨b, off, rfl⟩ := bytes_some hb (by omega)
    have hB : Hid (Bytes w (some ⟨b, off, none⟩) zs) := hb
    have hL : Hid (zs.length = n) := hl
    clear hb hl
    go_enter Tryz.func109, Tryz.ntmps109
    go_wp2
    go_step3
    go_wp2
    go_step3
    go_wp2
    go_loopw [4, 5] (fun v i wr => ∃ (p : Nat) (L : List (List Int)), p ≤ n ∧ i = .int .i64 p ∧ Hid (OwnsL wr w.heap.size 0 v L) ∧ Hid (scanL zs = (L ++ (scanL (zs.drop p)).1, p + (scanL (zs.drop p)).2)) ∧ Hid (8 * L.length ≤ p) ∧ Below w.heap.size w wr) (fun _ i _ => n - (intOf i).toNat)
    case atStart => exact ⟨0, [], Nat.zero_le _, rfl, ownsL_nil _ _ _, (by show _ = _; simp), (by show _ ≤ _; simp), Below.refl _ _⟩
    case round =>
      obtain ⟨p, L, hp, rfl, hown, hsc, hmany, hbr⟩ := hrel
      have hsz := hbr.size
      by_cases hlt : p < n
      · have hne : zs.drop p ≠ [] := by intro h; have := congrArg List.length h; rw [List.length_drop, hL.out] at this; simp at this; omega
        have hBr : Bytes wr (some ⟨b, off + p, none⟩) (zs.drop p) := (hB.out.kept hbr).drop p
        have hDl : (zs.drop p).length = n - p := by rw [List.length_drop, hL.out]
        have i1 : (cap = p) = False := by simp; omega
        have i2 : (p : Int) ≤ (n : Int) := by omega
        by_cases hW : Whole (zs.drop p)
        · have k := tell_whole b (off + p) (n - p) (cap - p) (zs.drop p) wr hDl (by omega) (by omega) hBr hW
          have hs2 : Hid (scanL zs = ((L ++ [loadAt (zs.drop p)]) ++ (scanL (zs.drop (p + (nAt (zs.drop p) + 8)))).1, (p + (nAt (zs.drop p) + 8)) + (scanL (zs.drop (p + (nAt (zs.drop p) + 8)))).2)) := by
            show _ = _
            rw [hsc.out, scan_whole hW, List.drop_drop]
            simp [Nat.add_assoc]
          have hle : nAt (zs.drop p) + 8 ≤ n - p := by have := hW.2.1; omega
          have hm2 : Hid (8 * (L ++ [loadAt (zs.drop p)]).length ≤ p + (nAt (zs.drop p) + 8)) := by
            show _ ≤ _
            have := hmany.out
            simp only [List.length_append, List.length_cons, List.length_nil]
            omega
          clear hBr hDl hne hW hsc
          generalize loadAt (zs.drop p) = l at *
          generalize nAt (zs.drop p) = N at *
          go_wp2_with fail
          refine k.mono ?_
          rintro e w1 ⟨a1, c1, rfl, hld, hb1⟩
          have ho1 : Hid (OwnsL w1 w.heap.size 0 u4 L) := hown.out.below hb1
          have hb2 : Below w.heap.size w w1 := hbr.trans (hb1.mono hsz)
          have hs1 := hb2.size
          clear k hown
          go_wp2_with (at_builtin; refine wpList_append_loads rfl _ (.tmp 24) rfl w.heap.size 0 (Nat.zero_le _) u4 L [l] rfl (ho1.out.alloc _) (some ⟨w1.heap.size, 0, none⟩) 1 1 rfl rfl (by simp) (one_load hld _) (many_loads hmany.out hp hn) (by simp; omega) ?_; intro v3 w3 ho3 hg3; have hb3 := grownL_below (hb2.alloc hs1 _) (ho1.out.alloc _) hg3 (by simp; omega); clear hg3)
          go_roundw
          case rel => exact ⟨p + (N + 8), L ++ [l], by omega, by go_num, ho3, hs2, hm2, hb3⟩
          case measure => simp [intOf]; omega
        · by_cases hF : Few (zs.drop p)
          · have k := tell_few b (off + p) (n - p) (cap - p) (zs.drop p) wr hDl (by omega) hBr hF
            have hs2 : Hid (scanL zs = (L, p)) := by
              show _ = _
              rw [hsc.out, scan_few hF]
              simp
            clear hBr hDl hne hW hsc hF
            go_wp2_with (go_at_call 123; refine k.mono ?_; rintro e w1 ⟨rfl, rfl⟩)
            try rw [Exit.noGoto_ret]
            go_ret2
            rw [hs2.out]
            exact ⟨_, rfl, hown.out, hbr⟩
          · have k : Calls Tryz.prog 123 #[.slice (some ⟨b, off + p, none⟩) (n - p) (cap - p)] wr fun e w' => e = .returned (.tuple #[.slice none 0 0, .int .i64 0]) ∧ Below wr.heap.size wr w' := by
              by_cases hf : Front (zs.drop p)
              · have hnn : nAt (zs.drop p) + 8 ≤ n - p := by
                  rcases Nat.lt_or_ge (n - p) (nAt (zs.drop p) + 8) with h | h
                  · exact absurd ⟨hf, by omega⟩ hF
                  · exact h
                exact tell_bad b (off + p) (n - p) (cap - p) (zs.drop p) wr hDl (by omega) (by omega) hBr hf hnn fun h => hW ⟨hf, by omega, h⟩
              · refine (tell_no b (off + p) (n - p) (cap - p) (zs.drop p) wr hDl (by omega) hBr hf).mono ?_
                rintro e w1 ⟨rfl, rfl⟩
                exact ⟨rfl, Below.refl _ _⟩
            have hs2 : Hid (scanL zs = (L ++ (scanL (zs.drop (p + 1))).1, (p + 1) + (scanL (zs.drop (p + 1))).2)) := by
              show _ = _
              rw [hsc.out, scan_step hne hW hF, List.drop_drop]
              simp [Nat.add_assoc]
            clear hBr hDl hne hW hsc hF
            go_wp2_with (go_at_call 123; refine k.mono ?_; rintro e w1 ⟨rfl, hb1⟩)
            go_roundw
            case rel => exact ⟨p + 1, L, by omega, by go_num, hown.out.below hb1, hs2, (by show _ ≤ _; have := hmany.out; omega), hbr.trans (hb1.mono hsz)⟩
            case measure => simp [intOf]; omega
      · have hs2 : Hid (scanL zs = (L, p)) := by
          show _ = _
          rw [hsc.out, List.drop_of_length_le (by rw [hL.out]; omega), scan_nil]
          simp
        clear hsc
        go_wp2
        try rw [Exit.noGoto_ret]
        go_ret2
        rw [hs2.out]
        exact ⟨_, rfl, hown.out, hbr⟩
end Go.Proofs.YtfipdldoklkciaaGreat
namespace Go.Proofs.YtfipdldoklkciaaGreat
open Go.RowKit

set_option maxRecDepth 100000 in
theorem refSeal_at (a : Option Addr) (m cap : Nat) (zs : List Int) (w : World) (hm : zs.length = m) (hb : Bytes w a zs) (hn : a = none → cap = 0) (hl : m + 4 ≤ 140737488355328) :
    Calls Tryz.prog 124 #[.slice a m cap] w fun e w' => ∃ v, e = .returned v ∧ OwnsB w' w.heap.size v (zs ++ le4 (moreL 0 zs)) ∧ Below w.heap.size w w' := by
  subst hm
  exact refSeal_any a cap zs w hb hn hl

set_option maxHeartbeats 400000 in
set_option maxRecDepth 100000 in
theorem refOpen_short (a : Option Addr) (n cap : Nat) (w : World) (h : n < 4) :
    Calls Tryz.prog 118 #[.slice a n cap] w fun e w' => e = .returned (.tuple #[.slice none 0 0, .bool false]) ∧ ∃ n, w' = w.drewN n := by
  have hd : decide ((n : Int) - 4 < 0) = true := by simp; omega
  go_enter Tryz.func118, Tryz.ntmps118
  go_wp2
  go_quiet (fail)
  go_wp2
  go_ret2
  exact ⟨rfl, nq, rfl⟩

set_option maxHeartbeats 1000000 in
set_option maxRecDepth 100000 in
theorem refOpen_no (b off n cap : Nat) (zs : List Int) (w : World) (hn : Hid (zs.length = n)) (h4 : 4 ≤ n) (hcap : n ≤ cap) (_hm : cap ≤ 9223372036854775807) (hr : n ≤ 140737488355328)
    (hB : Hid (Bytes w (some ⟨b, off, none⟩) zs)) (hne : zs.take (n - 4) ++ le4 (moreL 0 (zs.take (n - 4))) ≠ zs) :
    Calls Tryz.prog 118 #[.slice (some ⟨b, off, none⟩) n cap] w fun e w' => e = .returned (.tuple #[.slice none 0 0, .bool false]) ∧ Below w.heap.size w w' := by
  have hd : decide ((n : Int) - 4 < 0) = false := by simp; omega
  have hi0 : (0 : Int) ≤ (n : Int) - 4 := by omega
  have hi1 : (n : Int) - 4 ≤ (cap : Int) := by omega
  have hi2 : (4 : Int) ≤ (n : Int) := by omega
  have hT : Hid ((zs.take (n - 4)).length = ((n : Int) - 4).toNat) := by show _ = _; rw [List.length_take, hn.out]; omega
  have hX : ∀ c ∈ zs.take (n - 4) ++ le4 (moreL 0 (zs.take (n - 4))), 0 ≤ c ∧ c < 256 := fun c hc => by
    rcases List.mem_append.1 hc with h1 | h1
    · exact take_bytes hB.out.1 _ c h1
    · exact le4_bytes _ c h1
  have hq : ((strOfNums (zs.take (n - 4) ++ le4 (moreL 0 (zs.take (n - 4))))).toList == (strOfNums zs).toList) = false := by rw [str_eq hX hB.out.1]; simpa using hne
  clear hne hX
  have hcv0 := conv_str (w := w.drew) hB.out n cap hn.out
  go_enter Tryz.func118, Tryz.ntmps118
  go_wp2
  go_region_with ((go_at_call 124; refine (refSeal_at _ _ _ (zs.take (n - 4)) _ hT.out (by exact (hB.out.take (n - 4))) (by simp) (by omega)).mono ?_; rintro e w1 ⟨v1, rfl, ho1, hb1'⟩; have hb1 : Below w.heap.size w w1 := ⟨hb1'.os, hb1'.tape, hb1'.output, hb1'.size, hb1'.block⟩; obtain ⟨a1, n1, cap1, rfl, hl1, -, hc1, hm1, hB1⟩ := ho1.form; have hcv1 := conv_str hB1.out n1 cap1 hl1.out; have hcv2 := conv_str (hB.out.kept hb1) n cap hn.out; clear ho1 hb1'))
  all_goals (go_wp2; go_ret2; exact ⟨rfl, hb1⟩)

set_option maxHeartbeats 1000000 in
set_option maxRecDepth 100000 in
theorem refOpen_yes (b off n cap : Nat) (zs : List Int) (w : World) (hn : Hid (zs.length = n)) (h4 : 4 ≤ n) (hcap : n ≤ cap) (_hm : cap ≤ 9223372036854775807) (hr : n ≤ 140737488355328)
    (hB : Hid (Bytes w (some ⟨b, off, none⟩) zs)) (heq : zs.take (n - 4) ++ le4 (moreL 0 (zs.take (n - 4))) = zs) :
    Calls Tryz.prog 118 #[.slice (some ⟨b, off, none⟩) n cap] w fun e w' => ∃ v, e = .returned (.tuple #[v, .bool true]) ∧ OwnsB w' w.heap.size v (zs.take (n - 4)) ∧ Below w.heap.size w w' := by
  have hd : decide ((n : Int) - 4 < 0) = false := by simp; omega
  have hi0 : (0 : Int) ≤ (n : Int) - 4 := by omega
  have hi1 : (n : Int) - 4 ≤ (cap : Int) := by omega
  have hi2 : (4 : Int) ≤ (n : Int) := by omega
  have hT : Hid ((zs.take (n - 4)).length = ((n : Int) - 4).toNat) := by show _ = _; rw [List.length_take, hn.out]; omega
  have hX : ∀ c ∈ zs.take (n - 4) ++ le4 (moreL 0 (zs.take (n - 4))), 0 ≤ c ∧ c < 256 := fun c hc => by
    rcases List.mem_append.1 hc with h1 | h1
    · exact take_bytes hB.out.1 _ c h1
    · exact le4_bytes _ c h1
  have hq : ((strOfNums (zs.take (n - 4) ++ le4 (moreL 0 (zs.take (n - 4))))).toList == (strOfNums zs).toList) = true := by rw [str_eq hX hB.out.1]; simpa using heq
  clear heq hX
  have hcv0 := conv_str (w := w.drew) hB.out n cap hn.out
  go_enter Tryz.func118, Tryz.ntmps118
  go_wp2
  go_region_with ((go_at_call 124; refine (refSeal_at _ _ _ (zs.take (n - 4)) _ hT.out (by exact (hB.out.take (n - 4))) (by simp) (by omega)).mono ?_; rintro e w1 ⟨v1, rfl, ho1, hb1'⟩; have hb1 : Below w.heap.size w w1 := ⟨hb1'.os, hb1'.tape, hb1'.output, hb1'.size, hb1'.block⟩; obtain ⟨a1, n1, cap1, rfl, hl1, -, hc1, hm1, hB1⟩ := ho1.form; have hcv1 := conv_str hB1.out n1 cap1 hl1.out; have hcv2 := conv_str (hB.out.kept hb1) n cap hn.out; clear ho1 hb1'))
  all_goals
    have hs1 := hb1.size
    have hZ : Hid (Bytes w1 (some ⟨b, off, none⟩) (zs.take (n - 4))) := (hB.out.take _).kept hb1
    clear hq hcv0 hcv1 hcv2 hd hB1 hl1
    go_wp2_with (at_builtin; (refine wpList_append_bytes rfl _ (.tmp 22) rfl w.heap.size (.slice none 0 0) [] (zs.take (n - 4)) rfl (ownsB_nil _ _) (some ⟨b, off, none⟩) _ cap rfl (by rw [List.length_take, hn.out]; omega) (by simp) hZ.out (by rw [List.length_take, hn.out]; simp; omega) hs1 ?_); intro v2 w2 ho2 hg2; have hb2 := grown_below hb1 (ownsB_nil _ _) hg2 hs1; simp only [List.nil_append] at ho2; clear hg2)
    go_ret2
    exact ⟨_, rfl, ho2, hb2⟩

set_option maxRecDepth 100000 in
theorem sealed_whole {zs : List Int} (h4 : 4 ≤ zs.length) : Sealed zs ↔ zs.take (zs.length - 4) ++ le4 (moreL 0 (zs.take (zs.length - 4))) = zs := by
  constructor
  · intro h
    rw [← h.2]
    exact List.take_append_drop _ _
  · intro h
    refine ⟨h4, ?_⟩
    have h1 := List.take_append_drop (zs.length - 4) zs
    have h2 := h.trans h1.symm
    exact (List.append_cancel_left h2).symm

set_option maxRecDepth 100000 in
theorem refOpens_not (a : Option Addr) (n cap : Nat) (zs : List Int) (w : World) (hb : Bytes w a zs) (hl : zs.length = n) (hcap : n ≤ cap) (hm : cap ≤ 9223372036854775807) (hr : n ≤ 140737488355328) (hs : ¬ Sealed zs) :
    Calls Tryz.prog 118 #[.slice a n cap] w fun e w' => e = .returned (.tuple #[.slice none 0 0, .bool false]) ∧ Below w.heap.size w w' := by
  subst hl
  by_cases h4 : 4 ≤ zs.length
  · obtain ⟨b, off, rfl⟩ := bytes_some hb (by omega)
    exact refOpen_no b off zs.length cap zs w rfl h4 hcap hm hr hb fun h => hs ((sealed_whole h4).2 h)
  · refine (refOpen_short a zs.length cap w (by omega)).mono ?_
    rintro e w' ⟨rfl, n, rfl⟩
    exact ⟨rfl, below_drewN (Below.refl _ _) n⟩

set_option maxRecDepth 100000 in
theorem refOpens (a : Option Addr) (n cap : Nat) (zs : List Int) (w : World) (hb : Bytes w a zs) (hl : zs.length = n) (hcap : n ≤ cap) (hm : cap ≤ 9223372036854775807) (hr : n ≤ 140737488355328) (hs : Sealed zs) :
    Calls Tryz.prog 118 #[.slice a n cap] w fun e w' => ∃ v, e = .returned (.tuple #[v, .bool true]) ∧ OwnsB w' w.heap.size v (zs.take (zs.length - 4)) ∧ Below w.heap.size w w' := by
  subst hl
  have h4 := hs.1
  obtain ⟨b, off, rfl⟩ := bytes_some hb (by omega)
  exact refOpen_yes b off zs.length cap zs w rfl h4 hcap hm hr hb ((sealed_whole h4).1 hs)
end Go.Proofs.YtfipdldoklkciaaGreat
namespace Go.Proofs.YtfipdldoklkciaaGreat
open Go.RowKit

/-- A CURSOR THAT WAS MADE, IN BLOCK g: its bytes v, its place p, its fault (y, f). -/
def CurAt (w : World) (g : Nat) (v : Value) (p y f : Nat) : Prop :=
  w.heap[g]? = some (.cells #[.bool true, v, .int .i64 p, .int .i64 y, .int .i64 f] 163 (0, 0))

theorem CurAt.lt {w : World} {g : Nat} {v : Value} {p y f : Nat} (h : CurAt w g v p y f) : g < w.heap.size := (Array.getElem?_eq_some_iff.1 h).1
theorem CurAt.c0 {w : World} {g : Nat} {v : Value} {p y f : Nat} (h : CurAt w g v p y f) : w.cell? ⟨g, 0, none⟩ = some (.bool true) := cell_row h 0
theorem CurAt.c1 {w : World} {g : Nat} {v : Value} {p y f : Nat} (h : CurAt w g v p y f) : w.cell? ⟨g, 1, none⟩ = some v := cell_row h 1
theorem CurAt.c2 {w : World} {g : Nat} {v : Value} {p y f : Nat} (h : CurAt w g v p y f) : w.cell? ⟨g, 2, none⟩ = some (.int .i64 p) := cell_row h 2
theorem CurAt.c3 {w : World} {g : Nat} {v : Value} {p y f : Nat} (h : CurAt w g v p y f) : w.cell? ⟨g, 3, none⟩ = some (.int .i64 y) := cell_row h 3
theorem CurAt.c4 {w : World} {g : Nat} {v : Value} {p y f : Nat} (h : CurAt w g v p y f) : w.cell? ⟨g, 4, none⟩ = some (.int .i64 f) := cell_row h 4

theorem CurAt.kept {w w' : World} {g : Nat} {v : Value} {p y f : Nat} (h : CurAt w g v p y f) (hb : Below w.heap.size w w') : CurAt w' g v p y f := by
  unfold CurAt
  rw [hb.block g h.lt]
  exact h

set_option maxHeartbeats 400000 in
theorem left_any (g p y f n cap : Nat) (a : Option Addr) (w : World) (h : CurAt w g (.slice a n cap) p y f) (hp : p ≤ n) (hn : n ≤ 9223372036854775807) :
    Calls Tryz.prog 91 #[.pointer (some ⟨g, 0, none⟩)] w fun e w' => e = .returned (.int .i64 ((n - p : Nat) : Int)) ∧ ∃ k, w' = w.drewN k := by
  have h1 := h.c1
  have h2 := h.c2
  have hs : ((n : Int) - (p : Int)) = ((n - p : Nat) : Int) := by omega
  go_enter Tryz.func91, Tryz.ntmps91
  go_wp2
  go_quiet (fail)
  go_wp2
  go_ret
  exact ⟨by rw [← hs]; rfl, nq, rfl⟩

theorem CurAt.alloc {w : World} {g : Nat} {v : Value} {p y f : Nat} (h : CurAt w g v p y f) (o : Obj) : CurAt (w.alloc o) g v p y f := h.kept ((Below.refl _ _).alloc (Nat.le_refl _) o)

set_option maxHeartbeats 400000 in
theorem fault_any (g p y f : Nat) (v : Value) (w : World) (h : CurAt w g v p y f) :
    Calls Tryz.prog 92 #[.pointer (some ⟨g, 0, none⟩)] w fun e w' => e = .returned (.agg #[.int .i64 y, .int .i64 f]) ∧ Below w.heap.size w w' := by
  have h0 := fun o => (h.alloc o).c0
  have h3 := fun o => (h.alloc o).c3
  have h4 := fun o => (h.alloc o).c4
  have hlt : g < w.heap.size := h.lt
  go_enter Tryz.func92, Tryz.ntmps92
  go_wp2
  refine bodyPost_ret (v := .agg #[.int .i64 y, .int .i64 f]) (by simp [results, Tryz.results92, go_sem]) rfl ⟨rfl, ?_⟩
  exact (Below.refl _ _).alloc (Nat.le_refl _) _

theorem Below.but {w w' : World} (h : Below w.heap.size w w') (row : Option Nat) : w.grownBy w' row := ⟨h.os, h.tape, h.output, h.size, fun k hk _ => h.block k hk⟩

theorem CurAt.fz {w : World} {g : Nat} {v : Value} {p y f : Nat} (h : CurAt w g v p y f) (j : Nat) : w.frozen? ⟨g, j, none⟩ = false := by
  unfold CurAt at h
  simp [World.frozen?, h]

theorem but_setCell {w w' : World} {g : Nat} (h : w.grownBy w' (some g)) (j : Nat) (u : Value) : w.grownBy (w'.setCell ⟨g, j, none⟩ u) (some g) :=
  ⟨h.os, h.tape, h.output, by simpa [World.setCell] using h.size, fun k hk hne => by
    rw [Below.heap_setCell _ _ _ _ (fun e => hne (by rw [e]))]
    exact h.block k hk hne⟩

theorem but_drewN {w w' : World} {row : Option Nat} (h : w.grownBy w' row) (k : Nat) : w.grownBy (w'.drewN k) row := ⟨h.os, h.tape, h.output, h.size, h.block⟩

/-- A fault is laid. -/
theorem CurAt.fails {w : World} {g : Nat} {v : Value} {p y f : Nat} (h : CurAt w g v p y f) (y' f' : Nat) : CurAt ((w.setCell ⟨g, 3, none⟩ (.int .i64 y')).setCell ⟨g, 4, none⟩ (.int .i64 f')) g v p y' f' := by
  unfold CurAt at *
  rw [heap_setCell_same _ g 4 _ 163 _ (heap_setCell_same _ g 3 _ 163 _ h)]
  rfl

theorem field_y (y f : Int) (w : World) : (Instr.field 141 (.agg #[.int .i64 y, .int .i64 f]) 0).run Tryz.prog w = .ok (.int .i64 y) w := by kernel_rfl

set_option maxHeartbeats 400000 in
theorem canRead_stop (g p y f : Nat) (v : Value) (n : Int) (m : Bool) (w : World) (h : CurAt w g v p y f) (hy : y ≠ 0) :
    Calls Tryz.prog 112 #[.pointer (some ⟨g, 0, none⟩), .int .i64 n, .bool m] w fun e w' => e = .returned (.bool false) ∧ Below w.heap.size w w' := by
  have hy' : ((y : Int) != 0) = true := by rw [bne_iff_ne]; omega
  have hfd := field_y
  go_enter Tryz.func112, Tryz.ntmps112
  go_wp2_with fail
  refine (fault_any _ _ _ _ _ _ h).mono ?_
  rintro e w1 ⟨rfl, hb⟩
  go_wp2
  go_ret
  exact ⟨rfl, hb⟩

set_option maxHeartbeats 400000 in
theorem canRead_arg (g p f : Nat) (v : Value) (n : Int) (w : World) (h : CurAt w g v p 0 f) :
    Calls Tryz.prog 112 #[.pointer (some ⟨g, 0, none⟩), .int .i64 n, .bool false] w fun e w' => e = .returned (.bool false) ∧ CurAt w' g v p 1 p ∧ w.grownBy w' (some g) := by
  have hfd := field_y
  go_enter Tryz.func112, Tryz.ntmps112
  go_wp2_with fail
  refine (fault_any _ _ _ _ _ _ h).mono ?_
  rintro e w1 ⟨rfl, hb⟩
  have h1 := h.kept hb
  have c2 := h1.c2
  have c3 := h1.c3
  have c4 := h1.c4
  have z3 := h1.fz 3
  have z4 := h1.fz 4
  go_wp2
  go_ret
  exact ⟨rfl, h1.fails 1 p, but_setCell (but_setCell (Below.but hb _) 3 _) 4 _⟩

theorem left_b (g p y f n cap : Nat) (a : Option Addr) (w : World) (h : CurAt w g (.slice a n cap) p y f) (hp : p ≤ n) (hn : n ≤ 9223372036854775807) :
    Calls Tryz.prog 91 #[.pointer (some ⟨g, 0, none⟩)] w fun e w' => e = .returned (.int .i64 ((n - p : Nat) : Int)) ∧ Below w.heap.size w w' := by
  refine (left_any g p y f n cap a w h hp hn).mono ?_
  rintro e w' ⟨rfl, k, rfl⟩
  exact ⟨rfl, below_drewN (Below.refl _ _) k⟩

theorem trans_kept {a b c : World} (h : Below a.heap.size a b) (k : Below b.heap.size b c) : Below a.heap.size a c := h.trans (k.mono h.size)

set_option maxHeartbeats 400000 in
theorem canRead_end (g p f n cap : Nat) (a : Option Addr) (k : Int) (w : World) (h : CurAt w g (.slice a n cap) p 0 f) (hp : p ≤ n) (hn : n ≤ 9223372036854775807) (hk : ((n - p : Nat) : Int) < k) :
    Calls Tryz.prog 112 #[.pointer (some ⟨g, 0, none⟩), .int .i64 k, .bool true] w fun e w' => e = .returned (.bool false) ∧ CurAt w' g (.slice a n cap) p 3 n ∧ w.grownBy w' (some g) := by
  have hfd := field_y
  have hd : decide (((n - p : Nat) : Int) < k) = true := by simpa using hk
  go_enter Tryz.func112, Tryz.ntmps112
  go_wp2_with fail
  refine (fault_any _ _ _ _ _ _ h).mono ?_
  rintro e w1 ⟨rfl, hb⟩
  go_wp2_with fail
  refine (left_b _ _ _ _ _ _ _ _ (h.kept hb) hp hn).mono ?_
  rintro e w2 ⟨rfl, hb2⟩
  have h1 := (h.kept hb).kept hb2
  have c1 := h1.c1
  have c2 := h1.c2
  have c3 := h1.c3
  have c4 := h1.c4
  have z3 := h1.fz 3
  have z4 := h1.fz 4
  go_wp2
  go_ret
  exact ⟨rfl, h1.fails 3 n, but_setCell (but_setCell (Below.but (trans_kept hb hb2) _) 3 _) 4 _⟩

set_option maxHeartbeats 400000 in
theorem canRead_ok (g p f n cap : Nat) (a : Option Addr) (k : Int) (w : World) (h : CurAt w g (.slice a n cap) p 0 f) (hp : p ≤ n) (hn : n ≤ 9223372036854775807) (hk : k ≤ ((n - p : Nat) : Int)) :
    Calls Tryz.prog 112 #[.pointer (some ⟨g, 0, none⟩), .int .i64 k, .bool true] w fun e w' => e = .returned (.bool true) ∧ Below w.heap.size w w' := by
  have hfd := field_y
  have hd : decide (((n - p : Nat) : Int) < k) = false := by simpa using hk
  go_enter Tryz.func112, Tryz.ntmps112
  go_wp2_with fail
  refine (fault_any _ _ _ _ _ _ h).mono ?_
  rintro e w1 ⟨rfl, hb⟩
  go_wp2_with fail
  refine (left_b _ _ _ _ _ _ _ _ (h.kept hb) hp hn).mono ?_
  rintro e w2 ⟨rfl, hb2⟩
  go_wp2
  go_ret
  exact ⟨rfl, trans_kept hb hb2⟩

/-- The place goes on. -/
theorem CurAt.goes {w : World} {g : Nat} {v : Value} {p y f : Nat} (h : CurAt w g v p y f) (p' : Nat) : CurAt (w.setCell ⟨g, 2, none⟩ (.int .i64 p')) g v p' y f := by
  unfold CurAt at *
  rw [heap_setCell_same _ g 2 _ 163 _ h]
  rfl

set_option maxHeartbeats 400000 in
theorem pass_none (g y f : Nat) (w : World) (h : CurAt w g (.slice none 0 0) 0 y f) :
    Calls Tryz.prog 114 #[.pointer (some ⟨g, 0, none⟩), .int .i64 0] w fun e w' => e = .returned (.slice none 0 0) ∧ CurAt w' g (.slice none 0 0) 0 y f ∧ w.grownBy w' (some g) := by
  have c1 := h.c1
  have c2 := h.c2
  have z2 := h.fz 2
  go_enter Tryz.func114, Tryz.ntmps114
  go_wp2
  go_quiet (fail)
  go_wp2
  go_ret
  exact ⟨rfl, h.goes 0, but_drewN (but_setCell (World.grownBy.refl _ _) 2 _) nq⟩

set_option maxHeartbeats 400000 in
theorem pass_mid (g p y f n cap k b off : Nat) (w : World) (h : CurAt w g (.slice (some ⟨b, off, none⟩) n cap) p y f) (hp : p < cap) (hk : p + k ≤ n) (hc : n ≤ cap) (hm : cap ≤ 9223372036854775807) :
    Calls Tryz.prog 114 #[.pointer (some ⟨g, 0, none⟩), .int .i64 k] w fun e w' => e = .returned (.slice (some ⟨b, off + p, none⟩) k (cap - p)) ∧ CurAt w' g (.slice (some ⟨b, off, none⟩) n cap) (p + k) y f ∧ w.grownBy w' (some g) := by
  have c1 := h.c1
  have c2 := h.c2
  have z2 := h.fz 2
  have e1 : (cap = p) = False := by simp; omega
  have e2 : p + k - p = k := by omega
  have e3 : (p : Int) + (k : Int) ≤ (cap : Int) := by omega
  go_enter Tryz.func114, Tryz.ntmps114
  go_wp2
  go_quiet (fail)
  go_wp2
  go_ret
  exact ⟨by rw [e2]; rfl, h.goes (p + k), but_drewN (but_setCell (World.grownBy.refl _ _) 2 _) nq⟩

set_option maxHeartbeats 400000 in
theorem pass_end (g y f n b off : Nat) (w : World) (h : CurAt w g (.slice (some ⟨b, off, none⟩) n n) n y f) (hm : n ≤ 9223372036854775807) :
    Calls Tryz.prog 114 #[.pointer (some ⟨g, 0, none⟩), .int .i64 0] w fun e w' => e = .returned (.slice (some ⟨b, off, none⟩) 0 0) ∧ CurAt w' g (.slice (some ⟨b, off, none⟩) n n) n y f ∧ w.grownBy w' (some g) := by
  have c1 := h.c1
  have c2 := h.c2
  have z2 := h.fz 2
  go_enter Tryz.func114, Tryz.ntmps114
  go_wp2
  go_quiet (fail)
  go_wp2
  go_ret
  exact ⟨rfl, h.goes n, but_drewN (but_setCell (World.grownBy.refl _ _) 2 _) nq⟩

/-- THE WHOLE CURSOR: in block g, over the bytes 'zs' (at a, n of them, no room behind), at the place p, with the fault (y, f); all of it from 'base' on. -/
def Cur (w : World) (base g : Nat) (a : Option Addr) (n : Nat) (zs : List Int) (p y f : Nat) : Prop :=
  CurAt w g (.slice a n n) p y f ∧ Bytes w a zs ∧ zs.length = n ∧ p ≤ n ∧ n ≤ 140737488355328 ∧ base ≤ g ∧ (a = none → n = 0) ∧ (∀ x, a = some x → x.block ≠ g ∧ x.block < w.heap.size ∧ x.spot = none ∧ base ≤ x.block)

theorem Bytes.but {w w' : World} {g : Nat} {a : Option Addr} {zs : List Int} (h : Bytes w a zs) (hg : w.grownBy w' (some g)) (ha : ∀ x, a = some x → x.block ≠ g) : Bytes w' a zs := by
  refine ⟨h.1, h.2.1, ?_⟩
  rcases h.2.2 with h0 | ⟨b, off, rfl, hc⟩
  · exact .inl h0
  · refine .inr ⟨b, off, rfl, fun i hi => ?_⟩
    exact hg.cell (hc i hi) (fun e => ha _ rfl (Option.some.inj e))

theorem Cur.kept {w w' : World} {base g : Nat} {a : Option Addr} {n : Nat} {zs : List Int} {p y f : Nat} (h : Cur w base g a n zs p y f) (hb : Below w.heap.size w w') : Cur w' base g a n zs p y f := by
  obtain ⟨h1, h2, h3, h4, h5, h6, h7, h8⟩ := h
  exact ⟨h1.kept hb, h2.kept hb, h3, h4, h5, h6, h7, fun x hx => ⟨(h8 x hx).1, Nat.lt_of_lt_of_le (h8 x hx).2.1 hb.size, (h8 x hx).2.2⟩⟩

theorem Cur.turned {w w' : World} {base g : Nat} {a : Option Addr} {n : Nat} {zs : List Int} {p y f p' y' f' : Nat} (h : Cur w base g a n zs p y f) (hg : w.grownBy w' (some g)) (hc : CurAt w' g (.slice a n n) p' y' f') (hp : p' ≤ n) : Cur w' base g a n zs p' y' f' := by
  obtain ⟨h1, h2, h3, h4, h5, h6, h7, h8⟩ := h
  exact ⟨hc, h2.but hg (fun x hx => (h8 x hx).1), h3, hp, h5, h6, h7, fun x hx => ⟨(h8 x hx).1, Nat.lt_of_lt_of_le (h8 x hx).2.1 hg.size, (h8 x hx).2.2⟩⟩

/-- Another cursor, or bytes elsewhere, stay. -/
theorem Cur.other {w w' : World} {base g r : Nat} {a : Option Addr} {n : Nat} {zs : List Int} {p y f : Nat} (h : Cur w base g a n zs p y f) (hg : w.grownBy w' (some r)) (hr : r ≠ g) (ha : ∀ x, a = some x → x.block ≠ r) : Cur w' base g a n zs p y f := by
  obtain ⟨h1, h2, h3, h4, h5, h6, h7, h8⟩ := h
  refine ⟨?_, h2.but hg ha, h3, h4, h5, h6, h7, fun x hx => ⟨(h8 x hx).1, Nat.lt_of_lt_of_le (h8 x hx).2.1 hg.size, (h8 x hx).2.2⟩⟩
  unfold CurAt
  rw [hg.block g h1.lt (fun e => hr (Option.some.inj e).symm)]
  exact h1

theorem pass_any (base g p y f n k : Nat) (a : Option Addr) (zs : List Int) (w : World) (h : Cur w base g a n zs p y f) (hk : p + k ≤ n) :
    Calls Tryz.prog 114 #[.pointer (some ⟨g, 0, none⟩), .int .i64 k] w fun e w' => ∃ a' c', e = .returned (.slice a' k c') ∧ Hid (Bytes w' a' ((zs.drop p).take k)) ∧ Hid (((zs.drop p).take k).length = k) ∧ Hid (a' = none → c' = 0) ∧ Cur w' base g a n zs (p + k) y f ∧ w.grownBy w' (some g) := by
  obtain ⟨h1, h2, h3, h4, h5, h6, h7, h8⟩ := id h
  have hl : ((zs.drop p).take k).length = k := by rw [List.length_take, List.length_drop]; omega
  cases a with
  | none =>
    have hn := h7 rfl
    subst hn
    have hp0 : p = 0 := by omega
    have hk0 : k = 0 := by omega
    subst hp0
    subst hk0
    refine (pass_none g y f w h1).mono ?_
    rintro e w' ⟨rfl, hc, hg⟩
    have h' := h.turned hg hc (Nat.le_refl _)
    exact ⟨none, 0, rfl, (by show Bytes _ _ _; simpa using h'.2.1.take 0), hl, fun _ => rfl, h', hg⟩
  | some x =>
    obtain ⟨b, off, sp⟩ := x
    obtain rfl : sp = none := (h8 _ rfl).2.2.1
    by_cases hp : p < n
    · refine (pass_mid g p y f n n k b off w h1 hp hk (Nat.le_refl _) (by omega)).mono ?_
      rintro e w' ⟨rfl, hc, hg⟩
      have h' := h.turned hg hc hk
      exact ⟨_, _, rfl, (h'.2.1.drop p).take k, hl, (fun hx => by cases hx), h', hg⟩
    · have hpn : p = n := by omega
      have hk0 : k = 0 := by omega
      subst hpn
      subst hk0
      refine (pass_end g y f p b off w h1 (by omega)).mono ?_
      rintro e w' ⟨rfl, hc, hg⟩
      have h' := h.turned hg hc (Nat.le_refl _)
      exact ⟨_, _, rfl, (by show Bytes _ _ _; simpa using h'.2.1.take 0), hl, (fun hx => by cases hx), h', hg⟩
end Go.Proofs.YtfipdldoklkciaaGreat
namespace Go.Proofs.YtfipdldoklkciaaGreat
open Go.RowKit

/-- BYTES IN A ROW OF THEIR OWN (from 'base' on), at its head. -/
def Row (w : World) (base : Nat) (a : Option Addr) (zs : List Int) : Prop :=
  (a = none ∧ zs = []) ∨ ∃ g cur, a = some ⟨g, 0, none⟩ ∧ base ≤ g ∧ w.heap[g]? = some (.cells cur 5 (0, 0)) ∧ cur.toList.take zs.length = zs.map (Value.int .u8)

theorem row_of_owns {w : World} {base n cap : Nat} {a : Option Addr} {zs : List Int} (h : OwnsB w base (.slice a n cap) zs) : Row w base a zs := by
  obtain ⟨⟨hl, hv⟩, hz⟩ := h
  rcases hv with ⟨h1, hn⟩ | ⟨g, cap', cur, h1, hb, hg, hnc, hcm, hcs, htk⟩
  · cases h1
    exact .inl ⟨rfl, List.eq_nil_of_length_eq_zero hn⟩
  · cases h1
    exact .inr ⟨g, cur, rfl, hb, hg, by simpa using htk⟩

theorem Row.places {w : World} {base : Nat} {a : Option Addr} {zs : List Int} (h : Row w base a zs) : ∀ x, a = some x → base ≤ x.block ∧ x.block < w.heap.size ∧ x.spot = none := by
  intro x hx
  rcases h with ⟨rfl, _⟩ | ⟨g, cur, rfl, hb, hg, _⟩
  · cases hx
  · cases hx
    exact ⟨hb, (Array.getElem?_eq_some_iff.1 hg).1, rfl⟩

set_option maxHeartbeats 400000 in
theorem cutOff_any (a : Option Addr) (n cap : Nat) (zs : List Int) (w : World) (hl : zs.length = n) (hb : Bytes w a zs) (hn : a = none → cap = 0) (hm : n ≤ 140737488355328) :
    Calls Tryz.prog 111 #[.slice a n cap] w fun e w' => ∃ a', e = .returned (.slice a' n n) ∧ Hid (Row w' w.heap.size a' zs) ∧ Hid (Bytes w' a' zs) ∧ Below w.heap.size w w' := by
  have hB : Hid (Bytes w a zs) := hb
  have hL : Hid (zs.length = n) := hl
  clear hb hl
  go_enter Tryz.func111, Tryz.ntmps111
  go_wp2_with (at_builtin; refine wpList_append_bytes rfl _ (.tmp 4) rfl w.heap.size (.slice none 0 0) [] zs rfl (ownsB_nil _ _) a n cap rfl hL.out hn hB.out (by rw [hL.out]; simp; omega) (Nat.le_refl _) ?_; intro v2 w2 ho2 hg2; have hb2 := grown_below (Below.refl _ _) (ownsB_nil _ _) hg2 (Nat.le_refl _); simp only [List.nil_append] at ho2; clear hg2; obtain ⟨a2, n2, cap2, rfl, hl2, hn2, hc2, hm2, hB2⟩ := ho2.form; obtain rfl : n2 = n := hl2.out.symm.trans hL.out)
  go_ret
  exact ⟨a2, rfl, row_of_owns ho2, hB2, hb2⟩

theorem alloc_lt (w : World) (o : Obj) : (w.alloc o).heap.size = w.heap.size + 1 := by simp

set_option maxHeartbeats 400000 in
theorem new_any (a : Option Addr) (n cap : Nat) (zs : List Int) (w : World) (hl : zs.length = n) (hb : Bytes w a zs) (hn : a = none → cap = 0) (hm : n ≤ 140737488355328) :
    Calls Tryz.prog 87 #[.slice a n cap] w fun e w' => ∃ g a', e = .returned (.pointer (some ⟨g, 0, none⟩)) ∧ Cur w' w.heap.size g a' n zs 0 0 0 ∧ Below w.heap.size w w' := by
  go_enter Tryz.func87, Tryz.ntmps87
  go_wp2_with fail
  refine (cutOff_any a n cap zs w hl hb hn hm).mono ?_
  rintro e w1 ⟨a1, rfl, hr1, hB1, hb1⟩
  clear hb hn
  go_wp2
  go_ret
  have hb2 := (Below.refl w1.heap.size w1).alloc (Nat.le_refl _) (.cells #[.bool true, .slice a1 n n, .int .i64 0, .int .i64 0, .int .i64 0] 163)
  refine ⟨w1.heap.size, a1, rfl, ⟨heap_alloc_new _ _, hB1.out.kept hb2, hl, Nat.zero_le _, hm, hb1.size, ?_, ?_⟩, trans_kept hb1 hb2⟩
  · rintro rfl
    rcases hr1.out with ⟨_, h0⟩ | ⟨_, _, h0, _⟩
    · rw [← hl, h0]; rfl
    · cases h0
  · intro x hx
    obtain ⟨h1, h2, h3⟩ := hr1.out.places x hx
    exact ⟨by omega, Nat.lt_of_lt_of_le h2 hb2.size, h3, h1⟩

set_option maxHeartbeats 400000 in
theorem take_stop (base g p y f n : Nat) (a : Option Addr) (zs : List Int) (k : Int) (w : World) (h : Cur w base g a n zs p y f) (hy : y ≠ 0) :
    Calls Tryz.prog 90 #[.pointer (some ⟨g, 0, none⟩), .int .i64 k] w fun e w' => e = .returned (.slice none 0 0) ∧ Cur w' base g a n zs p y f ∧ w.grownBy w' (some g) := by
  go_enter Tryz.func90, Tryz.ntmps90
  go_wp2_with fail
  refine (canRead_stop _ _ _ _ _ _ _ _ h.1 hy).mono ?_
  rintro e w1 ⟨rfl, hb1⟩
  go_wp2
  go_ret
  exact ⟨rfl, h.kept hb1, Below.but hb1 _⟩

set_option maxHeartbeats 400000 in
theorem take_arg (base g p f n : Nat) (a : Option Addr) (zs : List Int) (k : Int) (w : World) (h : Cur w base g a n zs p 0 f) (hk : k < 0) :
    Calls Tryz.prog 90 #[.pointer (some ⟨g, 0, none⟩), .int .i64 k] w fun e w' => e = .returned (.slice none 0 0) ∧ Cur w' base g a n zs p 1 p ∧ w.grownBy w' (some g) := by
  have hd : decide (0 ≤ k) = false := by simp; omega
  go_enter Tryz.func90, Tryz.ntmps90
  go_wp2_with fail
  refine (canRead_arg _ _ _ _ _ _ h.1).mono ?_
  rintro e w1 ⟨rfl, hc1, hg1⟩
  go_wp2
  go_ret
  exact ⟨rfl, h.turned hg1 hc1 h.2.2.2.1, hg1⟩

set_option maxHeartbeats 400000 in
theorem take_end (base g p f n : Nat) (a : Option Addr) (zs : List Int) (k : Int) (w : World) (h : Cur w base g a n zs p 0 f) (hk : ((n - p : Nat) : Int) < k) :
    Calls Tryz.prog 90 #[.pointer (some ⟨g, 0, none⟩), .int .i64 k] w fun e w' => e = .returned (.slice none 0 0) ∧ Cur w' base g a n zs p 3 n ∧ w.grownBy w' (some g) := by
  have hp : p ≤ n := h.2.2.2.1
  have hn : n ≤ 140737488355328 := h.2.2.2.2.1
  have hd : decide (0 ≤ k) = true := by simp; omega
  go_enter Tryz.func90, Tryz.ntmps90
  go_wp2_with fail
  refine (canRead_end _ _ _ _ _ _ _ _ h.1 hp (by omega) hk).mono ?_
  rintro e w1 ⟨rfl, hc1, hg1⟩
  go_wp2
  go_ret
  exact ⟨rfl, h.turned hg1 hc1 hp, hg1⟩

set_option maxHeartbeats 400000 in
theorem take_ok (base g p f n k : Nat) (a : Option Addr) (zs : List Int) (w : World) (h : Cur w base g a n zs p 0 f) (hk : p + k ≤ n) :
    Calls Tryz.prog 90 #[.pointer (some ⟨g, 0, none⟩), .int .i64 k] w fun e w' => ∃ a', e = .returned (.slice a' k k) ∧ Hid (Row w' w.heap.size a' ((zs.drop p).take k)) ∧ Hid (Bytes w' a' ((zs.drop p).take k)) ∧ Cur w' base g a n zs (p + k) 0 f ∧ w.grownBy w' (some g) := by
  have hp : p ≤ n := h.2.2.2.1
  have hn : n ≤ 140737488355328 := h.2.2.2.2.1
  go_enter Tryz.func90, Tryz.ntmps90
  go_wp2_with fail
  refine (canRead_ok _ _ _ _ _ _ _ _ h.1 hp (by omega) (by omega)).mono ?_
  rintro e w1 ⟨rfl, hb1⟩
  go_wp2_with fail
  refine (pass_any base g p 0 f n k a zs w1 (h.kept hb1) hk).mono ?_
  rintro e w2 ⟨a2, c2, rfl, hB2, hl2, hn2, hc2, hg2⟩
  go_wp2_with fail
  refine (cutOff_any a2 k c2 _ w2 hl2.out hB2.out hn2.out (by omega)).mono ?_
  rintro e w3 ⟨a3, rfl, hr3, hB3, hb3⟩
  go_wp2
  go_ret
  refine ⟨a3, rfl, ?_, hB3, hc2.kept hb3, ?_⟩
  · show Row _ _ _ _
    rcases hr3.out with h1 | ⟨g3, cur, h1, h2, h3⟩
    · exact .inl h1
    · exact .inr ⟨g3, cur, h1, Nat.le_trans (Nat.le_trans hb1.size hg2.size) h2, h3⟩
  · exact ((Below.but hb1 _).trans hg2).trans (Below.but hb3 _)
end Go.Proofs.YtfipdldoklkciaaGreat
