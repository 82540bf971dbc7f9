/-
  The same loads? As the document's own answer has it: just where the lists are the same.
-/
import Derived.Test.YticlobjikpfcjabNLoads
namespace Go.Proofs.Yticlobjikpfcjab
open Go.RowKit

theorem same_at (a b : Option Addr) (m n ca cb : Nat) (za zb : List Int) (w : World) (hm : za.length = m) (hn : zb.length = n) (ha : Bytes w a za) (hb : Bytes w b zb) :
    Calls Try.prog 15 #[.slice a m ca, .slice b n cb] w fun e w' => e = .returned (.bool (decide (za = zb))) ∧ w' = w := by
  subst hm
  subst hn
  exact same_any a b ca cb za zb w ha hb

theorem same_told {a b : Option Addr} {m n ca cb : Nat} {za zb : List Int} {w : World} {r : Bool} (h : decide (za = zb) = r)
    (k : Calls Try.prog 15 #[.slice a m ca, .slice b n cb] w fun e w' => e = .returned (.bool (decide (za = zb))) ∧ w' = w) :
    Calls Try.prog 15 #[.slice a m ca, .slice b n cb] w fun e w' => e = .returned (.bool r) ∧ w' = w := by
  rw [h] at k
  exact k

set_option maxHeartbeats 400000 in
theorem sameL_len (a b : Option Addr) (n m ca cb : Nat) (w : World) (h : n ≠ m) :
    Calls Try.prog 11 #[.slice a n ca, .slice b m cb] w fun e w' => e = .returned (.bool false) ∧ w' = w := by
  have d : ((n : Int) != (m : Int)) = true := by rw [bne_iff_ne]; omega
  go_enter Try.func11, Try.ntmps11
  go_wp2
  go_ret
  exact ⟨rfl, rfl⟩

theorem head_eq {La Lb : List (List Int)} {k : Nat} {la lb : List Int} (h : La.take k = Lb.take k) (ha : La.take (k + 1) = La.take k ++ [la]) (hb : Lb.take (k + 1) = Lb.take k ++ [lb]) (e : la = lb) : La.take (k + 1) = Lb.take (k + 1) := by
  rw [ha, hb, h, e]

set_option maxHeartbeats 1000000 in
theorem sameL_eq (ba bb : Nat) (a b : Option Addr) (n ca cb : Nat) (La Lb : List (List Int)) (w : World) (hla : La.length = n) (hlb : Lb.length = n) (ha : Lists w ba a La) (hb : Lists w bb b Lb) :
    Calls Try.prog 11 #[.slice a n ca, .slice b n cb] w fun e w' => e = .returned (.bool (decide (La = Lb))) ∧ Below w.heap.size w w' := by
  have hm : n ≤ 9223372036854775807 := by rw [← hla]; exact ha.1
  have hA : Hid (La.length = n) := hla
  have hB : Hid (Lb.length = n) := hlb
  clear hla hlb
  by_cases h0 : n = 0
  · subst h0
    obtain rfl : La = [] := List.eq_nil_of_length_eq_zero hA.out
    obtain rfl : Lb = [] := List.eq_nil_of_length_eq_zero hB.out
    clear ha hb
    go_enter Try.func11, Try.ntmps11
    go_wp2
    go_loopw [5] (fun i wr => i = .int .i64 0 ∧ Hid (wr = w)) (fun _ _ => 0)
    case atStart => exact ⟨rfl, rfl⟩
    case round =>
      obtain ⟨rfl, hw⟩ := hrel
      go_wp2
      go_ret
      refine ⟨rfl, ?_⟩
      rw [hw.out]
      exact Below.refl _ _
  · have hLa : Hid (Lists w ba a La) := ha
    have hLb : Hid (Lists w bb b Lb) := hb
    obtain ⟨b1, o1, rfl⟩ : ∃ b1 o1, a = some ⟨b1, o1, none⟩ := by
      rcases ha.2 with h1 | ⟨b1, o1, _, h1, _⟩
      · rw [h1] at hA; exact absurd hA.out.symm h0
      · exact ⟨b1, o1, h1⟩
    obtain ⟨b2, o2, rfl⟩ : ∃ b2 o2, b = some ⟨b2, o2, none⟩ := by
      rcases hb.2 with h1 | ⟨b1, o1, _, h1, _⟩
      · rw [h1] at hB; exact absurd hB.out.symm h0
      · exact ⟨b1, o1, h1⟩
    clear ha hb
    go_enter Try.func11, Try.ntmps11
    go_wp2
    go_loopw [5] (fun i wr => ∃ k : Nat, k ≤ n ∧ i = .int .i64 k ∧ Hid (La.take k = Lb.take k) ∧ Below w.heap.size w wr) (fun i _ => n - (intOf i).toNat)
    case atStart => exact ⟨0, Nat.zero_le _, rfl, (by show _ = _; simp), Below.refl _ _⟩
    case round =>
      obtain ⟨k, hk, rfl, heq, hbr⟩ := hrel
      by_cases hlt : k < n
      · have j1 : (k : Int) < (n : Int) := by omega
        obtain ⟨la, a1, n1, c1, hc1, hl1, hB1, -, hx1, hy1, -, ht1, hg1⟩ : ∃ (l : List Int) (a : Option Addr) (n' cap : Nat), wr.cell? ⟨b1, o1 + k, none⟩ = some (.slice a n' cap) ∧ Hid (l.length = n') ∧ Hid (Bytes wr a l) ∧ Hid (a = none → cap = 0) ∧ n' ≤ cap ∧ cap ≤ 9223372036854775807 ∧ Hid (∀ x, a = some x → l ≠ [] → Safe wr ba 5 x.block) ∧ Hid (La.take (k + 1) = La.take k ++ [l]) ∧ Hid (La[k]? = some l) := by
          rcases (hLa.out.kept hbr).2 with h1 | ⟨_, _, vs, h1, _, hvl, hc⟩
          · rw [h1] at hA; exact absurd hA.out.symm h0
          · cases h1
            exact next_load hvl hc (by rw [hA.out]; exact hlt)
        obtain ⟨lb, a2, n2, c2, hc2, hl2, hB2, -, hx2, hy2, -, ht2, hg2⟩ : ∃ (l : List Int) (a : Option Addr) (n' cap : Nat), wr.cell? ⟨b2, o2 + k, none⟩ = some (.slice a n' cap) ∧ Hid (l.length = n') ∧ Hid (Bytes wr a l) ∧ Hid (a = none → cap = 0) ∧ n' ≤ cap ∧ cap ≤ 9223372036854775807 ∧ Hid (∀ x, a = some x → l ≠ [] → Safe wr bb 5 x.block) ∧ Hid (Lb.take (k + 1) = Lb.take k ++ [l]) ∧ Hid (Lb[k]? = some l) := by
          rcases (hLb.out.kept hbr).2 with h1 | ⟨_, _, vs, h1, _, hvl, hc⟩
          · rw [h1] at hB; exact absurd hB.out.symm h0
          · cases h1
            exact next_load hvl hc (by rw [hB.out]; exact hlt)
        by_cases hq : la = lb
        · have hdq : decide (la = lb) = true := decide_eq_true hq
          go_wp2
          go_quiet (first | (go_at_call 15; exact Calls.quiet_of_same (same_told hdq (same_at a1 a2 n1 n2 c1 c2 la lb _ hl1.out hl2.out (hB1.out.drewN _) (hB2.out.drewN _)))))
          go_wp2
          go_roundw
          case rel => exact ⟨k + 1, by omega, by go_num, head_eq heq.out ht1.out ht2.out hq, below_drewN hbr nq⟩
          case measure => simp [intOf]; omega
        · have hdq : decide (la = lb) = false := decide_eq_false hq
          have hne : Hid (decide (La = Lb) = false) := by
            refine decide_eq_false fun h => hq ?_
            have h1 := hg1.out
            rw [h, hg2.out] at h1
            exact (Option.some.inj h1).symm
          go_wp2
          go_quiet (first | (go_at_call 15; exact Calls.quiet_of_same (same_told hdq (same_at a1 a2 n1 n2 c1 c2 la lb _ hl1.out hl2.out (hB1.out.drewN _) (hB2.out.drewN _)))))
          go_wp2
          go_ret
          exact ⟨by rw [hne.out]; rfl, below_drewN hbr nq⟩
      · have he : Hid (decide (La = Lb) = true) := by
          refine decide_eq_true ?_
          have := heq.out
          rwa [List.take_of_length_le (by rw [hA.out]; omega), List.take_of_length_le (by rw [hB.out]; omega)] at this
        go_wp2
        go_ret
        exact ⟨by rw [he.out]; rfl, hbr⟩

theorem sameL_any (ba bb : Nat) (a b : Option Addr) (n m ca cb : Nat) (La Lb : List (List Int)) (w : World) (hla : La.length = n) (hlb : Lb.length = m) (ha : Lists w ba a La) (hb : Lists w bb b Lb) :
    Calls Try.prog 11 #[.slice a n ca, .slice b m cb] w fun e w' => e = .returned (.bool (decide (La = Lb))) ∧ Below w.heap.size w w' := by
  by_cases h : n = m
  · subst h
    exact sameL_eq ba bb a b n ca cb La Lb w hla hlb ha hb
  · refine (sameL_len a b n m ca cb w h).mono ?_
    rintro e w' ⟨rfl, rfl⟩
    refine ⟨?_, Below.refl _ _⟩
    rw [decide_eq_false]
    intro e
    rw [e] at hla
    omega
end Go.Proofs.Yticlobjikpfcjab
