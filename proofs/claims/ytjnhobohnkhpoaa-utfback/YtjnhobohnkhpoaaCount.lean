/-
  How many characters bytes have, in the program.
-/
import Derived.Test.YtjnhobohnkhpoaaRunes
namespace Go.Proofs.Ytjnhobohnkhpoaa
open Go.RowKit

set_option maxHeartbeats 1000000 in
theorem rcounts_any (zs : List Int) (w : World) (hz : ∀ c ∈ zs, 0 ≤ c ∧ c < 256) (hn : (runesL zs).2 = none) (hm : zs.length ≤ 4611686018427387904) :
    Calls Try.prog 34 #[.string (strOfNums zs)] w fun e w' => e = .returned (.int .i64 ((runesL zs).1.length : Nat)) ∧ Below w.heap.size w w' := by
  have hZ : Hid (∀ c ∈ zs, 0 ≤ c ∧ c < 256) := hz
  have hT : Hid ((runesL zs).2 = none) := hn
  have hmany := runes_many zs
  obtain ⟨s, hS, hsz⟩ : ∃ s, Hid (strOfNums zs = s) ∧ Hid (s.size = zs.length) := ⟨_, rfl, strOfNums_size zs⟩
  rw [hS.out]
  have hM : Hid (zs.length ≤ 4611686018427387904) := hm
  generalize hR : (runesL zs).1.length = R at *
  have hR' : Hid ((runesL zs).1.length = R) := hR
  have hRm : Hid (R ≤ zs.length) := hmany
  have hRb : R ≤ 4611686018427387904 := Nat.le_trans hmany hm
  clear hR hz hn hmany hm
  go_enter Try.func34, Try.ntmps34
  go_wp2
  go_loopw [2] (fun n wr => ∃ pos k : Nat, wr = w.iter s pos ∧ n = .int .i64 k ∧ Hid (pos ≤ zs.length) ∧ k ≤ R ∧ Hid (k + (runesL (zs.drop pos)).1.length = R) ∧ Hid ((runesL (zs.drop pos)).2 = none)) (fun _ wr => zs.length - wr.iterPos w.heap.size)
  case atStart => exact ⟨0, 0, rfl, rfl, Nat.zero_le _, Nat.zero_le _, (by show _ = _; simpa using hR'.out), (by show _ = _; simpa using hT.out)⟩
  case round =>
    obtain ⟨pos, k, rfl, rfl, hp, hkR, hk, hN⟩ := hrel
    by_cases hlt : pos < zs.length
    · have h0 : zs.drop pos ≠ [] := by intro h; have := congrArg List.length h; rw [List.length_drop] at this; simp at this; omega
      have hg : Good (zs.drop pos) := Classical.byContradiction fun h => by
        have := hN.out
        rw [runes_bad h0 h] at this
        cases this
      have hd := decode_good hZ.out hg
      have hne := good_ne hg h0
      rw [List.length_drop] at hne
      have hr := runes_good h0 hg
      have hk2 : Hid (k + 1 + (runesL (zs.drop (pos + lenB (zs.drop pos)))).1.length = R) := by
        show _ = _
        rw [← hk.out, hr, List.drop_drop]
        simp only [List.length_cons]
        omega
      have hN2 : Hid ((runesL (zs.drop (pos + lenB (zs.drop pos)))).2 = none) := by
        have := hN.out
        rw [hr, List.drop_drop] at this
        show _ = _
        simpa using this
      have hnx : ∀ ty, (Instr.next (.pointer (some ⟨w.heap.size, 0, none⟩)) true ty).run Try.prog (w.iter s pos) = .ok (.tuple #[.bool true, .int .i64 pos, .int .i32 (valB (zs.drop pos) : Nat)]) (w.iter s (pos + lenB (zs.drop pos))) := fun ty => by
        rw [run_next_any w s pos ty (by rw [hsz.out]; exact hlt), ← hS.out, hd]
      have hkb : k + 1 ≤ R := by have := hk2.out; omega
      have hne' : Hid _ := hne
      have hlt' : Hid _ := hlt
      clear hd h0 hg hr hne hlt
      generalize valB (zs.drop pos) = V at *
      generalize lenB (zs.drop pos) = L at *
      go_wp2
      go_roundw
      case rel => exact ⟨pos + L, k + 1, rfl, by go_num, (by show _ ≤ _; have := hne'.out; have := hlt'.out; omega), hkb, hk2, hN2⟩
      case measure => have := hne'.out; have := hlt'.out; simp; omega
    · have hk2 : Hid (k = R) := by
        show _ = _
        rw [← hk.out, List.drop_of_length_le (by omega), runes_nil]
        rfl
      have hnx : ∀ ty, (Instr.next (.pointer (some ⟨w.heap.size, 0, none⟩)) true ty).run Try.prog (w.iter s pos) = _ := fun ty => run_next_end w s pos ty (by rw [hsz.out]; exact hlt)
      clear hlt
      go_wp2
      go_ret
      rw [hk2.out]
      exact ⟨rfl, iter_below _ _ _⟩

theorem ascii_good {zs : List Int} (h : nth zs 0 < 128) : Good zs ∧ lenB zs = 1 := by
  have e : lenN (nth zs 0) = 1 := by unfold lenN; rw [if_pos h]
  refine ⟨?_, e⟩
  unfold Good GoodN
  rw [e]
  exact ⟨by omega, fun h => by omega, fun h => by omega, fun h => by omega⟩

set_option maxHeartbeats 1000000 in
theorem rcount_any (a : Option Addr) (n cap : Nat) (zs : List Int) (w : World) (hl : zs.length = n) (hb : Bytes w a zs) (hc : n ≤ cap) (hn : n ≤ 4611686018427387904) (hT : (runesL zs).2 = none) :
    Calls Try.prog 24 #[.slice a n cap] w fun e w' => e = .returned (.int .i64 ((runesL zs).1.length : Nat)) ∧ Below w.heap.size w w' := by
  by_cases h0 : n = 0
  · subst h0
    obtain rfl := List.eq_nil_of_length_eq_zero hl
    rw [runes_nil]
    clear hb hl hT
    go_enter Try.func24, Try.ntmps24
    go_wp2
    refine wp_loop_rounds 1 ?_
    rw [rounds_succ]
    go_wp2
    go_ret
    exact ⟨rfl, Below.refl _ _⟩
  · obtain ⟨b, off, rfl⟩ := bytes_some hb (by omega)
    have hB : Hid (Bytes w (some ⟨b, off, none⟩) zs) := hb
    have hL : Hid (zs.length = n) := hl
    have hT' : Hid ((runesL zs).2 = none) := hT
    have hmany := runes_many zs
    rw [hl] at hmany
    generalize hR : (runesL zs).1.length = R at *
    have hR' : Hid ((runesL zs).1.length = R) := hR
    clear hb hl hT hR h0
    go_enter Try.func24, Try.ntmps24
    go_wp2
    go_loop [4] (fun i => ∃ k : Nat, i = .int .i64 k ∧ k ≤ n ∧ Hid (k + (runesL (zs.drop k)).1.length = R) ∧ Hid ((runesL (zs.drop k)).2 = none)) (fun i => n - (intOf i).toNat)
    case atStart => exact ⟨0, rfl, Nat.zero_le _, (by show _ = _; simpa using hR'.out), (by show _ = _; simpa using hT'.out)⟩
    case round =>
      obtain ⟨k, rfl, hk, hkR, hN⟩ := hrel
      by_cases hlt : k < n
      · have hx : zs.drop k ≠ [] := by intro h; have := congrArg List.length h; rw [List.length_drop, hL.out] at this; simp at this; omega
        have ck : w.cell? ⟨b, off + k, none⟩ = some (.int .u8 (nth zs k : Nat)) := hB.out.nat (by rw [hL.out]; exact hlt)
        have j1 : (k : Int) < (n : Int) := by omega
        by_cases hA : nth zs k < 128
        · obtain ⟨hg, hl1⟩ := ascii_good (zs := zs.drop k) (by rw [nth_drop]; exact hA)
          have hr := runes_good hx hg
          rw [hl1, List.drop_drop] at hr
          have hk2 : Hid (k + 1 + (runesL (zs.drop (k + 1))).1.length = R) := by
            show _ = _
            rw [← hkR.out, hr]
            simp only [List.length_cons]
            omega
          have hN2 : Hid ((runesL (zs.drop (k + 1))).2 = none) := by
            have := hN.out
            rw [hr] at this
            show _ = _
            simpa using this
          have dd : decide ((128 : Int) ≤ ((nth zs k : Nat) : Int)) = false := by simp; omega
          clear hx hr hg hl1 hA
          generalize nth zs k = d at *
          go_wp2
          go_round
          case rel => exact ⟨k + 1, by go_num, by omega, hk2, hN2⟩
          case measure => simp [intOf]; omega
        · have hD := hB.out.drop k
          have ks := conv_str hD (n - k) (cap - k) (by rw [List.length_drop, hL.out])
          have kc := rcounts_any (zs.drop k) w hD.1 hN.out (by rw [List.length_drop, hL.out]; omega)
          have i1 : (cap = k) = False := by simp; omega
          have i2 : (k : Int) ≤ (n : Int) := by omega
          have hkR2 := hkR.out
          generalize (runesL (zs.drop k)).1.length = M at *
          generalize strOfNums (zs.drop k) = s at *
          have hv : IntKind.i64.wrap ((k : Int) + (M : Int)) = ((R : Nat) : Int) := by rw [IntKind.wrap_i64] <;> omega
          have hsum : Hid ((k : Int) + (M : Int) = ((R : Nat) : Int)) := by show _ = _; omega
          have hMb : (k : Int) + (M : Int) ≤ 4611686018427387904 := by omega
          have dd : decide ((128 : Int) ≤ ((nth zs k : Nat) : Int)) = true := by simp; omega
          clear hkR2 hD hx hv hA
          generalize nth zs k = d at *
          go_wp2_with (go_at_call 34; refine kc.mono ?_; rintro e w1 ⟨rfl, hb1⟩)
          go_ret
          exact ⟨by rw [← hsum.out]; rfl, hb1⟩
      · have hk2 : Hid (k = R) := by
          show _ = _
          rw [← hkR.out, List.drop_of_length_le (by rw [hL.out]; omega), runes_nil]
          rfl
        go_wp2
        go_ret
        rw [hk2.out]
        exact ⟨rfl, Below.refl _ _⟩

theorem count_any (a : Option Addr) (n cap : Nat) (zs : List Int) (w : World) (hl : zs.length = n) (hb : Bytes w a zs) (hc : n ≤ cap) (hn : n ≤ 4611686018427387904) :
    Calls Try.prog 13 #[.slice a n cap] w fun e w' => e = .returned (.int .i64 ((txtL zs).length : Nat)) ∧ Below w.heap.size w w' := by
  have k := whole_any a n cap zs w hl hb hn
  by_cases he : endL zs = n
  · have hT := end_text (b := zs) (he.trans hl.symm)
    obtain ⟨-, -, h3⟩ := why_none hT
    rw [h3, ints_len]
    have k2 := fun w1 (h : Below w.heap.size w w1) => rcount_any a n cap zs w1 hl (hb.kept h) hc hn hT
    rw [he] at k
    have k2' : Hid _ := k2
    clear hb hl he hT h3 k2
    generalize (runesL zs).1.length = R at *
    go_enter Try.func13, Try.ntmps13
    go_wp2_with fail
    refine k.mono ?_
    rintro e w1 ⟨rfl, hb1⟩
    have k3 := k2'.out w1 hb1
    clear k
    go_wp2_with (go_at_call 24; refine k3.mono ?_; rintro e w2 ⟨rfl, hb2⟩)
    go_ret
    exact ⟨rfl, hb1.trans (hb2.mono hb1.size)⟩
  · obtain ⟨-, -, h3⟩ := why_some (end_fault (b := zs) (by rw [hl]; exact he))
    rw [h3]
    have e1 : (((endL zs : Nat) : Int) != (n : Int)) = true := by simp; omega
    clear hb hl he h3
    generalize endL zs = E at *
    go_enter Try.func13, Try.ntmps13
    go_wp2_with (go_at_call 22; refine k.mono ?_; rintro e w1 ⟨rfl, hb1⟩)
    go_ret
    exact ⟨rfl, hb1⟩
end Go.Proofs.Ytjnhobohnkhpoaa
