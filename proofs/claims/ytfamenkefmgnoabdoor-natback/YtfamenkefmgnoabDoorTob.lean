/-
  A number's bytes: nat.ToBytes.
-/
import Derived.Test.YtfamenkefmgnoabDoorFrb
import Derived.Test.YtfamenkefmgnoabDoorRev
namespace Go.Proofs.YtfamenkefmgnoabDoor
open Go.RowKit

theorem own_above {w : World} {base : Nat} {v : Value} {zs : List Int} (h : OwnsB w base v zs) : ∀ k, v.ownBlock = some k → base ≤ k ∧ k < w.heap.size := fun k hk => World.ownsRow.lt h.1 k hk
theorem OwnsB.other {w w' : World} {base : Nat} {v : Value} {zs : List Int} (h : OwnsB w base v zs) {r : Option Nat} (hg : w.grownBy w' r) (hr : ∀ k, r = some k → k < base) : OwnsB w' base v zs := by
  refine ⟨World.ownsRow.kept h.1 hg ?_, h.2⟩
  cases hv : v.ownBlock with
  | none => exact .inl rfl
  | some k =>
    refine .inr ?_
    intro e
    have h1 := own_above h k hv
    have h2 := hr k e.symm
    omega
theorem OwnsB.low {w : World} {base base' : Nat} {v : Value} {zs : List Int} (h : OwnsB w base v zs) (hB : base' ≤ base) : OwnsB w base' v zs := by
  obtain ⟨⟨h1, h2⟩, h3⟩ := h
  refine ⟨⟨h1, ?_⟩, h3⟩
  rcases h2 with h2 | ⟨g, cap, cur, h4, h5, h6⟩
  · exact .inl h2
  · exact .inr ⟨g, cap, cur, h4, Nat.le_trans hB h5, h6⟩
theorem OwnsI.other {w w' : World} {base g n cap : Nat} {l : List Int} (h : OwnsI w base (.slice (some ⟨g, 0, none⟩) n cap) l) {r : Option Nat} (hg : w.grownBy w' r) (hr : ∀ k, r = some k → g < k) : OwnsI w' base (.slice (some ⟨g, 0, none⟩) n cap) l := by
  refine World.ownsRow.kept h hg (.inr ?_)
  simp only [Value.ownBlock]
  intro e
  have := hr g e.symm
  omega
theorem by_step {N M : Nat} {zs : List Int} (h : byL N = byL M ++ zs.reverse) (hM : 0 < M) : byL N = byL (M / 256) ++ (zs ++ [((M % 256 : Nat) : Int)]).reverse := by
  rw [h, by_some (by omega), List.reverse_append]
  simp
theorem by_len (k : Nat) : ∀ n, n < 256 ^ k → (byL n).length ≤ k := by
  induction k with
  | zero =>
    intro n hn
    rw [Nat.pow_zero] at hn
    obtain rfl : n = 0 := by omega
    rw [by_zero]
    exact Nat.le_refl _
  | succ k ih =>
    intro n hn
    by_cases h : n = 0
    · rw [h, by_zero]
      exact Nat.zero_le _
    · rw [by_some h, List.length_append]
      have := ih (n / 256) (by rw [Nat.pow_succ] at hn; omega)
      simp only [List.length_cons, List.length_nil]
      omega
theorem ten_le (m k : Nat) (h : k = 2 * m) : 10 ^ k ≤ 256 ^ m := by
  rw [h, Nat.pow_mul]
  exact Nat.pow_le_pow_left (by decide) m
theorem top_le : top ≤ 256 ^ 400 := by
  unfold top
  exact ten_le 400 800 rfl
theorem by_top {n : Nat} (h : n < top) : (byL n).length ≤ 400 := by_len 400 n (Nat.lt_of_lt_of_le h top_le)
theorem by_part {N M : Nat} {zs : List Int} (h : byL N = byL M ++ zs.reverse) (hN : N < top) : zs.length ≤ 400 := by
  have h1 := by_top hN
  rw [h, List.length_append, List.length_reverse] at h1
  omega
set_option maxRecDepth 100000 in
set_option maxHeartbeats 2000000 in
theorem tob_yes (s : ByteArray) (w : World) (hs : rt s = true) :
    Calls Tryd.prog 11 #[.string s] w fun e w' => (∃ v, e = .returned (.tuple #[v, .int .i64 0]) ∧ OwnsB w' w.heap.size v (byL (val s))) ∧ Below w.heap.size w w' := by
  have rs := (rt_iff s).1 hs
  have ss := rt_size hs
  have kA := gather_any s w ss.1 (by omega) rs.1.2.1
  obtain ⟨N, hN⟩ : ∃ N, val s = N := ⟨_, rfl⟩
  have hNt : Hid (N < top) := by rw [← hN]; exact right_lt hs
  rw [hN] at kA ⊢
  clear rs hN
  go_enter Tryd.func11, Tryd.ntmps11
  go_wp2_with (go_at_call 13; refine (right_any _ _).mono ?_; rintro e w1 ⟨rfl, hw⟩; obtain rfl : w = w1 := hw.symm; rw [hs])
  refine kA.mono ?_
  rintro e w1 ⟨v1, l1, rfl, ho1, hn1, hg1, hv1, hb1⟩
  obtain ⟨g, n, cap, rfl, hln, hnc, hcm, hbg⟩ := ho1.row (by omega)
  have kW := woz_any g n cap w.heap.size l1 w1 ho1 hg1
  have hlt : Hid (w.heap.size ≤ g ∧ g < w1.heap.size) := ho1.ge
  have hsz1 : Hid (w.heap.size ≤ w1.heap.size) := hb1.size
  have hn2 : n ≤ 134 := by have := hln.out; omega
  rw [hv1] at kW
  clear ho1 kA hg1 hv1 hn1 ss hln
  go_wp2_with (go_at_call 21; refine kW.mono ?_; rintro e w2 ⟨⟨k1, l2, rfl, ho2, hl2, hk2, hg2, hv2, hp2⟩, hw2⟩; obtain rfl : w1 = w2 := hw2.symm)
  have hb1' : Hid _ := hb1
  have st1 : Hid _ := ho2
  have st2 : Hid _ := hg2
  have st3 : Hid _ := hv2
  have st4 : Hid _ := hp2
  have st5 : Hid _ := hl2
  clear kW hb1 ho2 hg2 hv2 hp2 hl2
  go_loopg [4, 5] N (fun K vb v wr => ∃ (k M : Nat) (l zs : List Int), v = .slice (some ⟨g, 0, none⟩) k cap ∧ k ≤ n ∧ Hid (OwnsI wr w.heap.size (.slice (some ⟨g, 0, none⟩) k cap) l) ∧ Hid (l.length = k) ∧ Hid (Grp 1000000 l) ∧ Hid (lv 1000000 l = (M : Nat)) ∧ Hid (0 < k → 0 < lv 1000000 l) ∧ Hid (OwnsB wr w1.heap.size vb zs) ∧ Hid (byL N = byL M ++ zs.reverse) ∧ Hid (Below w.heap.size w wr) ∧ Hid (w1.heap.size ≤ wr.heap.size) ∧ Hid (M ≤ K))
  case atStart => exact ⟨k1, N, l2, [], rfl, hk2, st1, st5, st2, st3, st4, ownsB_nil _ _, (by show _ = _; simp), hb1', Nat.le_refl _, Nat.le_refl _⟩
  case round =>
    obtain ⟨k, M, l, zs, rfl, hkn, hO, hlk, hG, hM, hpos, hB, hby, hbl, hsz, hMK⟩ := hrel
    clear st1 st2 st3 st4 st5 hb1'
    by_cases hk : 0 < k
    · have hM0 : 0 < M := by have h1 := hpos.out hk; rw [hM.out] at h1; omega
      have kD := divide_any _ w.heap.size l 256 wr hO.out (by rw [hlk.out]; exact hk) hG.out (by decide)
      rw [hM.out] at kD
      have e1 : (M : Int) % 256 = ((M % 256 : Nat) : Int) := by omega
      have e2 : (M : Int) / 256 = ((M / 256 : Nat) : Int) := by omega
      rw [e1, e2] at kD
      have hst : Hid _ := by_step hby.out hM0
      have hY : M % 256 < 256 := by omega
      have hless : Hid (M / 256 < M) := by show _ < _; omega
      clear e1 e2
      obtain ⟨Y, hYe⟩ : ∃ Y, M % 256 = Y := ⟨_, rfl⟩
      obtain ⟨Q, hQe⟩ : ∃ Q, M / 256 = Q := ⟨_, rfl⟩
      rw [hYe] at kD hst hY
      rw [hQe] at kD hst hless
      have w1' : IntKind.u8.wrap (Y : Int) = (Y : Int) := by rw [IntKind.wrap_u8]; omega
      have k0 : (0 : Int) < (k : Int) := by omega
      clear hYe hQe
      go_wp2_with fail
      refine kD.mono ?_
      rintro e w3 ⟨rfl, ⟨l3, ho3, hl3, hg3, hv3⟩, hgr3⟩
      have hB3' := hB.out.other hgr3 (fun q hq => by cases hq; exact hlt.out.2)
      have hB3 : Hid (OwnsB w3 w1.heap.size u4 zs) := hB3'
      have hbl3 : Hid (Below w.heap.size w w3) := hbl.out.grown hgr3 hbl.out.size (fun q hq => by cases hq; exact hlt.out.1)
      have hsz3 : Hid (w1.heap.size ≤ w3.heap.size) := by show _ ≤ _; have h1 := hsz.out; have h2 := hgr3.size; omega
      have hzl : Hid (zs.length ≤ 400) := by_part hby.out hNt.out
      have hYb : 0 ≤ (Y : Int) ∧ (Y : Int) < 256 := by omega
      have hO3 : Hid (OwnsI w3 w.heap.size (.slice (some ⟨g, 0, none⟩) k cap) l3) := ho3
      have hG3 : Hid (Grp 1000000 l3) := hg3
      have hV3 : Hid (lv 1000000 l3 = (Q : Nat)) := hv3
      have hs3 : Hid (w.heap.size ≤ w3.heap.size) := hbl3.out.size
      clear hB3' kD ho3 hg3 hv3 hgr3 hB hbl hsz hG hO hpos hby hM hl3 hlk
      go_wp2_with (at_builtin; go_loud (refine wpList_append_bytes rfl _ _ rfl w1.heap.size _ zs [(Y : Int)] rfl (hB3.out.alloc _) _ 1 1 rfl rfl (by intro h; cases h) (one_byte _ _ hYb.1 hYb.2) (by have := hzl.out; simp; omega) (by have := hsz3.out; simp; omega) ?_; intro v' w9 ho9 hg9))
      have hab : Hid (∀ q, u4.ownBlock = some q → w1.heap.size ≤ q ∧ q < (w3.alloc (.cells #[.int .u8 (Y : Int)] 5)).heap.size) := own_above (hB3.out.alloc (.cells #[.int .u8 (Y : Int)] 5))
      have hO9 := (hO3.out.alloc (.cells #[.int .u8 (Y : Int)] 5)).other hg9 (fun q hq => by have := (hab.out q hq).1; have := hlt.out.2; omega)
      have kW2 := woz_any g k cap w.heap.size l3 w9 hO9 hG3.out
      rw [hV3.out] at kW2
      have hbl9 : Hid (Below w.heap.size w w9) := (hbl3.out.alloc hs3.out _).grown hg9 (by have := hs3.out; simp; omega) (fun q hq => by have := (hab.out q hq).1; have := hsz1.out; omega)
      have hsz9 : Hid (w1.heap.size ≤ w9.heap.size) := by show _ ≤ _; have h1 := hsz3.out; have h2 := hg9.size; simp at h2; omega
      have hB9 : Hid (OwnsB w9 w1.heap.size v' (zs ++ [(Y : Int)])) := ho9
      clear ho9 hg9 hO9 hab
      go_wp2_with (go_at_call 21; refine kW2.mono ?_; rintro e w10 ⟨⟨k5, l5, rfl, ho5, hl5, hk5, hg5, hv5, hp5⟩, hw10⟩; obtain rfl : w9 = w10 := hw10.symm)
      go_roundg Q
      case measure => have := hless.out; have := hMK.out; omega
      case rel => exact ⟨k5, Q, l5, zs ++ [(Y : Int)], rfl, by omega, ho5, hl5, hg5, hv5, hp5, hB9, hst, hbl9, hsz9, Nat.le_refl _⟩
    · obtain rfl : k = 0 := by omega
      have hM0 : M = 0 := by
        have h1 : l = [] := List.eq_nil_of_length_eq_zero hlk.out
        have h2 := hM.out
        rw [h1] at h2
        have h3 : (0 : Int) = ((M : Nat) : Int) := h2
        omega
      have hz : Hid (zs.reverse = byL N) := by
        have := hby.out
        rw [hM0, by_zero, List.nil_append] at this
        exact this.symm
      by_cases hzs : zs = []
      · subst hzs
        have hz' := hz.out
        rw [List.reverse_nil] at hz'
        obtain ⟨a7, n7, c7, rfl, hl7, hn7, hnc7, hcm7, -⟩ := hB.out.form
        have hl7' := hl7.out
        simp only [List.length_nil] at hl7'
        subst hl7'
        have hB' : Hid (OwnsB wr w1.heap.size (.slice a7 0 c7) (byL N)) := by rw [← hz']; exact hB.out
        have kR := rev_none a7 c7 wr
        clear hB hz hz' hM0
        go_wp2_with fail
        refine kR.mono ?_
        rintro e w8 ⟨rfl, hw8⟩
        obtain rfl : wr = w8 := hw8.symm
        clear kR
        go_wp2
        go_ret2
        exact ⟨⟨_, rfl, hB'.out.low hsz1.out⟩, hbl.out⟩
      · obtain ⟨g7, n7, c7, rfl, hR7, hl7, hnc7, hcm7⟩ := hB.out.row (List.length_pos_iff.2 hzs)
        have hzl : Hid (zs.length ≤ 400) := by_part hby.out hNt.out
        have kR := rev_any g7 n7 c7 w1.heap.size zs wr hR7.out (by have := hl7.out; have := hzl.out; omega)
        rw [hz.out] at kR
        clear hB hR7
        go_wp2_with fail
        refine kR.mono ?_
        rintro e w8 ⟨rfl, ho8, hb8⟩
        clear kR
        go_wp2
        go_ret2
        refine ⟨⟨_, rfl, ?_⟩, hbl.out.trans (hb8.mono hsz1.out)⟩
        exact ho8.owns.low hsz1.out
theorem tob_no (s : ByteArray) (w : World) (hs : rt s = false) :
    Calls Tryd.prog 11 #[.string s] w fun e w' => e = .returned (.tuple #[.slice none 0 0, .int .i64 1]) ∧ w' = w := by
  go_enter Tryd.func11, Tryd.ntmps11
  go_wp2_with (go_at_call 13; refine (right_any _ _).mono ?_; rintro e w1 ⟨rfl, hw⟩; obtain rfl : w = w1 := hw.symm; rw [hs])
  go_ret2
  exact ⟨rfl, rfl⟩
theorem tob_any (s : ByteArray) (w : World) :
    Calls Tryd.prog 11 #[.string s] w fun e w' => (∃ v, e = .returned (.tuple #[v, .int .i64 (tobA s).2]) ∧ OwnsB w' w.heap.size v (tobA s).1) ∧ Below w.heap.size w w' := by
  cases hs : rt s with
  | true =>
    have e : tobA s = (byL (val s), 0) := by unfold tobA; rw [if_pos hs]
    rw [e]
    exact tob_yes s w hs
  | false =>
    have e : tobA s = ([], 1) := by unfold tobA; rw [if_neg (by rw [hs]; decide)]
    rw [e]
    refine (tob_no s w hs).mono ?_
    rintro e w' ⟨rfl, rfl⟩
    exact ⟨⟨_, rfl, ownsB_nil _ _⟩, Below.refl _ _⟩
end Go.Proofs.YtfamenkefmgnoabDoor
