/-
  The document's side: a number's bytes, and the number of bytes.
-/
import Derived.Test.YtfamenkefmgnoaaDoorXfrw
import Derived.Test.YtfamenkefmgnoaaDoorXdiv
import Derived.Test.YtfamenkefmgnoaaDoorTob
namespace Go.Proofs.YtfamenkefmgnoaaDoor
open Go.RowKit

theorem txt_nought : txt 0 = ⟨#[48]⟩ := by decide
theorem txt_other {n : Nat} (h : n ≠ 0) : ((txt n).toList == [48]) = false := by
  rw [beq_eq_false_iff_ne, Lib.toList_data]
  intro e
  have h1 : txt n = txt 0 := by
    rw [txt_nought]
    generalize txt n = t at e
    obtain ⟨⟨l⟩⟩ := t
    simp at e
    rw [e]
  exact h (txt_inj h1)
theorem byx_step {N M : Nat} {zs : List Int} (h : byL N = byL M ++ zs) (hM : 0 < M) : byL N = byL (M / 256) ++ ([((M % 256 : Nat) : Int)] ++ zs) := by
  rw [h, by_some (by omega), List.append_assoc]
theorem byx_part {N M : Nat} {zs : List Int} (h : byL N = byL M ++ zs) (hN : N < top) : zs.length ≤ 400 := by
  have h1 := by_top hN
  rw [h, List.length_append] at h1
  omega
set_option maxRecDepth 100000 in
set_option maxHeartbeats 2000000 in
theorem xtob_yes (s : ByteArray) (w : World) (hs : rt s = true) :
    Calls Tryd.prog 27 #[.string s] w fun e w' => (∃ v, e = .returned (.tuple #[v, .int .i64 0]) ∧ OwnsB w' w.heap.size v (byL (val s))) ∧ Below w.heap.size w w' := by
  obtain ⟨N, hN⟩ : ∃ N, val s = N := ⟨_, rfl⟩
  have hNt : Hid (N < top) := by rw [← hN]; exact right_lt hs
  have hs' : Hid (s = txt N) := by rw [← hN]; exact (txt_rt hs).symm
  rw [hN]
  clear hN
  go_enter Tryd.func27, Tryd.ntmps27
  go_wp2_with (go_at_call 18; refine (xright_any _ _).mono ?_; rintro e w1 ⟨rfl, hw⟩; obtain rfl : w = w1 := hw.symm; rw [hs])
  go_loopg [0, 4] N (fun K sv vb wr => ∃ (M : Nat) (t : ByteArray) (zs : List Int), sv = .string t ∧ Hid (t = txt M) ∧ Hid (OwnsB wr w.heap.size vb zs) ∧ Hid (byL N = byL M ++ zs) ∧ Hid (Below w.heap.size w wr) ∧ Hid (M ≤ K) ∧ Hid (M ≤ N))
  case atStart => exact ⟨N, s, [], rfl, hs', ownsB_nil _ _, (by show _ = _; simp), Below.refl _ _, Nat.le_refl _, Nat.le_refl _⟩
  case round =>
    obtain ⟨M, t, zs, rfl, ht, hB, hby, hbl, hMK, hMN⟩ := hrel
    have hbs : w.heap.size ≤ wr.heap.size := hbl.out.size
    by_cases hM : M = 0
    · have ht0 : t = ⟨#[48]⟩ := by rw [ht.out, hM, txt_nought]
      have hB' : Hid (OwnsB wr w.heap.size u4 (byL N)) := by
        show OwnsB _ _ _ _
        rw [hby.out, hM, by_zero, List.nil_append]
        exact hB.out
      subst ht0
      clear hB hby ht
      go_wp2
      go_ret2
      exact ⟨⟨_, rfl, hB'.out⟩, hbl.out⟩
    · have hd := txt_other hM
      rw [← ht.out] at hd
      have hMt : M < top := by have := hMN.out; have := hNt.out; omega
      have kD := xdi_any t 256 wr (by rw [ht.out]; exact digs_txt M) (by rw [ht.out]; have := txt_fits hMt; omega) (by decide)
      rw [ht.out, val_txt, ← ht.out] at kD
      have hst : Hid _ := byx_step hby.out (by omega)
      have hzl : Hid (zs.length ≤ 400) := byx_part hby.out hNt.out
      have hY : M % 256 < 256 := by omega
      have hless : Hid (M / 256 < M) := by show _ < _; omega
      obtain ⟨Y, hYe⟩ : ∃ Y, M % 256 = Y := ⟨_, rfl⟩
      obtain ⟨Q, hQe⟩ : ∃ Q, M / 256 = Q := ⟨_, rfl⟩
      rw [hYe] at kD hst hY
      rw [hQe] at kD hst hless
      have w1' : IntKind.u8.wrap (Y : Int) = (Y : Int) := by rw [IntKind.wrap_u8]; omega
      obtain ⟨T, hT⟩ : ∃ T, txt Q = T := ⟨_, rfl⟩
      rw [hT] at kD
      have hT' : Hid (T = txt Q) := hT.symm
      have hB0 : Hid (OwnsB wr w.heap.size u4 zs) := hB.out
      clear hYe hQe hT hMt
      go_wp2_with fail
      refine kD.mono ?_
      rintro e w3 ⟨rfl, hb3⟩
      have hbl3 : Hid (Below w.heap.size w w3) := hbl.out.trans (hb3.mono hbs)
      have hbs3 : w.heap.size ≤ w3.heap.size := hbl3.out.size
      have hB3 := (hB0.out.below hb3).alloc (.cells #[.int .u8 (Y : Int)] 5)
      obtain ⟨a7, n7, c7, rfl, hl7, hn7, hnc7, hcm7, hI7⟩ := hB3.form
      have hlit : Hid (OwnsB (w3.alloc (.cells #[.int .u8 (Y : Int)] 5)) w.heap.size (.slice (some ⟨w3.heap.size, 0, none⟩) 1 1) [(Y : Int)]) := ⟨World.ownsRow_lit w3 #[.int .u8 (Y : Int)] 1 hbs3 (by decide) rfl, fun c hc => by simp at hc; omega⟩
      clear hB3 hB0 hB kD hb3 hbl
      go_wp2_with (at_builtin; refine wpList_append_bytes rfl _ _ rfl w.heap.size _ [(Y : Int)] zs rfl hlit.out _ n7 c7 rfl hl7.out hn7.out hI7.out (by have := hzl.out; simp; omega) (by simp; omega) ?_; intro v' w9 ho9 hg9)
      go_roundg Q
      case measure => have := hless.out; have := hMK.out; omega
      case rel => exact ⟨Q, T, _, rfl, hT', ho9, hst, (hbl3.out.alloc hbs3 _).grown hg9 (by simp; omega) (by intro j hj; cases hj; exact hbs3), Nat.le_refl _, (by show _ ≤ _; have := hless.out; have := hMN.out; omega)⟩
theorem xtob_any (s : ByteArray) (w : World) :
    Calls Tryd.prog 27 #[.string s] w fun e w' => (∃ v, e = .returned (.tuple #[v, .int .i64 (tobA s).2]) ∧ OwnsB w' w.heap.size v (tobA s).1) ∧ Below w.heap.size w w' := by
  cases hs : rt s with
  | true =>
    have e : tobA s = (byL (val s), 0) := by unfold tobA; rw [if_pos hs]
    rw [e]
    exact xtob_yes s w hs
  | false =>
    have e : tobA s = ([], 1) := by unfold tobA; rw [if_neg (by rw [hs]; decide)]
    rw [e]
    clear e
    go_enter Tryd.func27, Tryd.ntmps27
    go_wp2_with (go_at_call 18; refine (xright_any _ _).mono ?_; rintro e w1 ⟨rfl, hw⟩; obtain rfl : w = w1 := hw.symm; rw [hs])
    go_ret2
    exact ⟨⟨_, rfl, ownsB_nil _ _⟩, Below.refl _ _⟩
end Go.Proofs.YtfamenkefmgnoaaDoor
