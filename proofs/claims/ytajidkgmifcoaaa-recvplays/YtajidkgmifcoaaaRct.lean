/-
  The document's Ack.
-/
import Derived.Test.YtajidkgmifcoaaaRcs
namespace Go.Proofs.Ytajidkgmifcoaaa
open Go.RowKit
set_option linter.unusedVariables false
theorem ackF_has (s : Rc) (j : Nat) : ackF s j = has s (rdy s + 1 + j) := by
  unfold ackF has ackN
  congr 2
  omega
set_option maxHeartbeats 1000000 in
theorem mack_any {w : World} {mb D : Nat} {s : Rc} (h : Dm w mb D s) :
    Calls Try.prog 18 #[.pointer (some ⟨mb, 0, none⟩)] w fun e w' => e = .returned (.tuple #[.int .i64 (ackN s), .int .u64 (ackB s), .int .i64 (s.tk + s.win)]) ∧ Hid (Below w.heap.size w w') := by
  obtain ⟨g, n, c, L, hF, hnc, hcm⟩ := h.open_
  have k1 := mready_any h
  have hF' : Hid (DmF w mb D g n c L s) := hF
  have c0 := hF.blk.cell 0
  have c1 := hF.blk.cell 1
  have c2 := hF.blk.cell 2
  simp only [List.getElem?_toArray, List.getElem?_cons_succ, List.getElem?_cons_zero] at c0 c1 c2
  have hn32 : n ≤ 32 := by have := hF.ok.w2; have := hF.nw; omega
  have hrn : rdy s ≤ n := by have := rdy_le hF.ok; have := hF.nw; omega
  have ht1 := hF.ok.t1
  have ht2 := hF.ok.t2
  have hw1 := hF.ok.w1
  have hw2 := hF.ok.w2
  have hwa : IntKind.i64.wrap (s.tk + (rdy s : Int)) = ackN s := by unfold ackN; rw [IntKind.wrap_i64]; omega
  have hwb : IntKind.i64.wrap (s.tk + s.win) = s.tk + s.win := by rw [IntKind.wrap_i64]; omega
  have hAF : Hid (∀ j, ackF s j = has s (rdy s + 1 + j)) := ackF_has s
  have hwr : IntKind.i64.wrap ((rdy s : Int) + 1) = ((rdy s + 1 : Nat) : Int) := by rw [IntKind.wrap_i64]; omega
  have hAB : Hid (∀ j, j ≤ 64 → n ≤ rdy s + 1 + j → bF (ackF s) j = ackB s) := fun j hj hnj => by
    unfold ackB
    rw [show (64 : Nat) = j + (64 - j) by omega, bF_stop (64 - j) (fun i h1 h2 => by rw [ackF_has]; exact has_of hF.ok (by have := hF.nw; omega))]
  clear h hF
  generalize hr : rdy s = r at *
  clear hr
  generalize ackN s = A at *
  generalize ackB s = B at *
  go_enter Try.func18, Try.ntmps18
  go_wp2_with (go_at_call 21; refine k1.mono ?_; rintro e w1 ⟨rfl, hw1⟩; obtain rfl := hw1.symm; clear hw1 k1)
  go_loopw [6, 7] (fun s6 s7 wr => ∃ j i : Nat, Hid (i = r + 1 + j) ∧ Hid (i ≤ n ∨ j = 0) ∧ s6 = .int .u64 (bF (ackF s) j) ∧ s7 = .int .i64 (i : Int) ∧ wr = w) (fun _ v _ => 33 - (intOf v).toNat)
  case atStart => exact ⟨0, r + 1, rfl, .inr rfl, rfl, rfl, rfl⟩
  case round =>
    obtain ⟨j, i, hij, hin, rfl, rfl, hw⟩ := hrel
    obtain rfl := hw.symm
    clear hw
    by_cases hlt : i < n
    · have hd : decide ((i : Int) < (n : Int)) = true := by simp; omega
      have hc := hF'.out.is hlt
      have q1 : IntKind.i64.wrap ((i : Int) - (r : Int)) = (i : Int) - (r : Int) := by have := hij.out; rw [IntKind.wrap_i64]; omega
      have q2 : IntKind.i64.wrap ((i : Int) - (r : Int) - 1) = (j : Int) := by have := hij.out; rw [IntKind.wrap_i64]; omega
      have q3 : IntKind.i64.wrap ((i : Int) + 1) = ((i + 1 : Nat) : Int) := by rw [IntKind.wrap_i64]; omega
      have hj64 : j < 64 := by have := hij.out; omega
      have hsh := wrap_two hj64
      have hor := bF_or (ackF s) j hj64
      have hNN : bF (ackF s) (j + 1) = if ackF s j = true then bF (ackF s) j + 2 ^ j else bF (ackF s) j := rfl
      have hFj := hAF.out j
      rw [← hij.out] at hFj
      cases hs : has s i with
      | true =>
        rw [hs] at hc hFj
        rw [hFj, if_pos rfl] at hNN
        rw [← hNN] at hor
        clear hs hFj
        generalize hb1 : bF (ackF s) (j + 1) = b1 at *
        clear hNN
        generalize bF (ackF s) j = b at *
        go_wp2_with fail
        exact ⟨⟨j + 1, i + 1, by have := hij.out; show i + 1 = _; omega, .inl (by omega), by rw [hb1], rfl, by trivial⟩, by simp [intOf]; omega⟩
      | false =>
        rw [hs] at hc hFj
        rw [hFj, if_neg (by decide)] at hNN
        clear hs hFj
        go_wp2_with fail
        exact ⟨⟨j + 1, i + 1, by have := hij.out; show i + 1 = _; omega, .inl (by omega), by rw [hNN], rfl, by trivial⟩, by simp [intOf]; omega⟩
    · have hd : decide ((i : Int) < (n : Int)) = false := by simp; omega
      have hB : bF (ackF s) j = B := hAB.out j (by have := hij.out; have := hin.out; rcases this with h | h <;> omega) (by have := hij.out; omega)
      rw [hB]
      clear hB
      go_wp2_with fail
      go_quiet (fail)
      go_wp2
      refine bodyPost_ret (v := .tuple #[.int .i64 A, .int .u64 B, .int .i64 (s.tk + s.win)]) (by simp [results, Try.results18, go_sem]) rfl ?_
      exact ⟨rfl, dn_b w _⟩
end Go.Proofs.Ytajidkgmifcoaaa
