/-
  Never more than window loads; none above the limit; the base never falls.
-/
import Derived.Test.YtjnoijpindbobaaSdo
namespace Go.Proofs.Ytjnoijpindbobaa
open Go.RowKit
set_option linter.unusedVariables false
/-- An act's cells in memory. -/
theorem acs_at {w : World} {a : Option Addr} {L : List Ac} (h : Acs w a L) {i : Nat} {x : Ac} (hx : L[i]? = some x) : ∃ b off, a = some ⟨b, off, none⟩ ∧ b < w.heap.size ∧ (∀ j, j < 6 → w.cell? ⟨b, off + i * 6 + j, none⟩ = x.cells[j]?) ∧ AcV w x := by
  rcases h.2 with rfl | ⟨b, off, rfl, hlt, hc⟩
  · simp at hx
  · exact ⟨b, off, rfl, hlt, (hc i x hx).1, (hc i x hx).2⟩
set_option maxHeartbeats 1000000 in
theorem wbounds (win : Int) (a : Option Addr) (len cap : Nat) (L : List Ac) (w : World) (hA : AcArg w a len cap L) :
    Calls Try.prog 3 #[.int .i64 win, .slice a len cap] w fun e w' => e = .returned (.bool true) ∧ Below w.heap.size w w' := by
  by_cases hw : 1 ≤ win ∧ win ≤ 32
  · have hwin : Hid (1 ≤ win ∧ win ≤ 32) := hw
    obtain ⟨hlen, hlc, hcm, hnil, hAc⟩ := hA
    have hAc' : Hid (Acs w a L) := hAc
    have hlen' : Hid (L.length = len) := hlen
    clear hAc hlen hw
    go_enter Try.func3, Try.ntmps3
    go_wp2_with fail
    refine (new_yes win w hwin.out.1 hwin.out.2).mono ?_
    rintro e w1 ⟨rfl, hS1, hB1⟩
    have hS1' : Hid (Sd w1 w.heap.size (w.heap.size + 1) w.heap.size (s0 win 0)) := hS1
    clear hS1
    generalize hsb : w.heap.size + 1 = sb at *
    have hN : Hid (w.heap.size ≤ sb) := by show _ ≤ _; omega
    clear hsb
    go_wp2_with (go_at_call 9; refine (alive_any w1).mono ?_; rintro e w2 ⟨rfl, hb2⟩)
    have hS2 : Hid (Sd w2 w.heap.size sb w.heap.size (s0 win 0)) := hS1'.out.kept hb2.out
    have hB2 : Hid (Below w.heap.size w w2) := hB1.out.trans (hb2.out.mono hB1.out.size)
    clear hS1' hb2 hB1
    go_loopw [7, 9, 28] (fun s7 _ s28 wr => ∃ (i : Nat) (s : St), i ≤ len ∧ s28 = .int .i64 (i : Nat) ∧ s7 = .int .i64 s.base ∧ Hid (s.win = win) ∧ Hid (Sd wr w.heap.size sb w.heap.size s) ∧ Hid (Below w.heap.size w wr)) (fun _ _ i _ => len - (intOf i).toNat)
    case atStart => exact ⟨0, s0 win 0, Nat.zero_le _, rfl, rfl, rfl, hS2, hB2⟩
    case round =>
      obtain ⟨i, s, hi, rfl, rfl, hsw, hS, hB⟩ := hrel
      clear hS2 hB2
      by_cases hlt : i < len
      · have hd : decide ((i : Int) < (len : Int)) = true := by simp; omega
        obtain ⟨x, hx⟩ : ∃ x, L[i]? = some x := ⟨L[i]'(by rw [hlen'.out]; exact hlt), List.getElem?_eq_getElem _⟩
        obtain ⟨b, off, rfl, hbl, hc, hV⟩ := acs_at (hAc'.out.kept hB.out) hx
        have d0 : wr.cell? ⟨b, off + i * 6, none⟩ = some (.int .i64 x.kind) := hc 0 (by decide)
        have d1 : wr.cell? ⟨b, off + i * 6 + 1, none⟩ = some (.int .i64 x.now) := hc 1 (by decide)
        have d2 : wr.cell? ⟨b, off + i * 6 + 2, none⟩ = some (.int .i64 x.n) := hc 2 (by decide)
        have d3 : wr.cell? ⟨b, off + i * 6 + 3, none⟩ = some (.int .i64 x.credit) := hc 3 (by decide)
        have d4 : wr.cell? ⟨b, off + i * 6 + 4, none⟩ = some (.int .u64 x.bits) := hc 4 (by decide)
        have d5 : wr.cell? ⟨b, off + i * 6 + 5, none⟩ = some (.slice x.a x.zs.length x.cap) := hc 5 (by decide)
        have hV' : Hid (AcV wr x) := hV
        clear hc hV hx
        go_wp2_with fail
        have hal : Hid (Below wr.heap.size wr (wr.alloc (.cells #[.int .i64 x.kind, .int .i64 x.now, .int .i64 x.n, .int .i64 x.credit, .int .u64 x.bits, .slice x.a x.zs.length x.cap] 31))) := (Below.refl _ _).alloc (Nat.le_refl _) _
        refine (plays_any x.kind x.now x.n x.credit x.bits x.a x.zs.length x.cap x.zs (hS.out.kept hal.out) (Nat.le_trans hB.out.size hal.out.size) rfl hV'.out.2.2.2 (hV'.out.1.kept hal.out)).mono ?_
        rintro e w3 ⟨rfl, s', hS3, hR3, hK3⟩
        have hB3 : Hid (Below w.heap.size w w3) := hK3.out.below (hB.out.trans (hal.out.mono hB.out.size)) (Nat.le_trans hB.out.size hal.out.size) hN.out (Nat.le_refl _)
        have kO := out_any hS3.out
        have kN := next_any hS3.out
        have kB := base_any hS3.out
        have kL := limit_any hS3.out
        have hsw3 : Hid (s'.win = win) := hR3.out.1.trans hsw.out
        have o1 := hS3.out.ok.b1
        have o2 := hS3.out.ok.b2
        have o3 := hS3.out.ok.few
        have o4 := hS3.out.ok.l1
        have o5 := hS3.out.ok.l2
        have o6 := hR3.out.2.1
        have o7 := hsw3.out
        have f1 : decide (s'.nxt - s'.base < 0) = false := by simp; omega
        have f2 : decide (s'.nxt - s'.base > win) = false := by simp; omega
        have f3 : IntKind.i64.wrap (s'.nxt - s'.base) = s'.nxt - s'.base := by rw [IntKind.wrap_i64]; omega
        have f4 : IntKind.i64.wrap (s'.nxt - 1) = s'.nxt - 1 := by rw [IntKind.wrap_i64]; omega
        have f5 : decide (s'.nxt - 1 > s'.lim) = false := by simp; omega
        have f6 : decide (s'.base < s.base) = false := by simp; omega
        clear o1 o2 o3 o4 o5 o6 o7 d0 d1 d2 d3 d4 d5 hK3 hal hV'
        go_wp2_with (first | (go_at_call 11; refine kO.mono ?_; rintro e w4 ⟨rfl, hw4⟩; obtain rfl := hw4.symm; clear hw4) | (go_at_call 12; refine kN.mono ?_; rintro e w4 ⟨rfl, hw4⟩; obtain rfl := hw4.symm; clear hw4) | (go_at_call 13; refine kB.mono ?_; rintro e w4 ⟨rfl, hw4⟩; obtain rfl := hw4.symm; clear hw4) | (go_at_call 14; refine kL.mono ?_; rintro e w4 ⟨rfl, hw4⟩; obtain rfl := hw4.symm; clear hw4))
        exact ⟨⟨i + 1, s', by omega, by simp, rfl, hsw3, hS3, hB3⟩, by simp [intOf]; omega⟩
      · have hd : decide ((i : Int) < (len : Int)) = false := by simp; omega
        go_wp2
        go_ret
        exact ⟨rfl, hB.out⟩
  · have hno : win < 1 ∨ 32 < win := by omega
    clear hA hw
    go_enter Try.func3, Try.ntmps3
    go_wp2_with fail
    refine (new_no win w hno).mono ?_
    rintro e w1 ⟨rfl, hw1⟩
    obtain rfl := hw1.symm
    go_wp2_with (go_at_call 9; refine (alive_any w).mono ?_; rintro e w2 ⟨rfl, hb2⟩)
    go_ret
    exact ⟨rfl, hb2.out⟩
end Go.Proofs.Ytjnoijpindbobaa
