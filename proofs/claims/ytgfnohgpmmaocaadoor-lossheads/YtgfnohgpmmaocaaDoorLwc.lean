/-
  Stage 15: the walk of the statement: what is built is parsed as the list.
-/
import Derived.Test.YtgfnohgpmmaocaaDoorLwa
import Derived.Test.YtgfnohgpmmaocaaDoorLop
import Derived.Test.YtgfnohgpmmaocaaDoorLsm
namespace Go.Proofs.YtgfnohgpmmaocaaDoor
open Go.RowKit
set_option linter.unusedVariables false
set_option linter.unusedSimpArgs false

theorem lss_n64 {w : World} {a : Option Addr} {L : List Ls} (h : Lss w a L) : ∀ x ∈ L, x.n < 18446744073709551616 := by
  intro x hx
  rcases h.2 with h0 | ⟨b, off, rfl, hc⟩
  · rw [h0] at hx; simp at hx
  · obtain ⟨i, hi⟩ := List.mem_iff_getElem?.1 hx
    obtain ⟨_, _, _, _, _, _, _, h⟩ := hc i x hi
    exact h
theorem bld_len (L : List Ls) (hn : ∀ x ∈ L, x.n < 18446744073709551616) : (bldA L).1.length ≤ 2000000 := by
  unfold bldA
  by_cases h1 : 2048 < L.length
  · rw [if_pos h1]; simp
  · rw [if_neg h1]
    by_cases h2 : ∀ x ∈ L, mayL x
    · rw [if_pos ((all_may L).2 h2)]
      have h3 := lossB_len L (fun x hx => ⟨h2 x hx, hn x hx⟩)
      have h4 := cg_le L.length (by omega)
      simp only [List.length_append, shortL_length]
      omega
    · rw [if_neg (fun h9 => h2 ((all_may L).1 h9))]; simp

set_option maxHeartbeats 4000000 in
theorem wback (a : Option Addr) (n cap : Nat) (L : List Ls) (w : World) (h : LsArg w a n cap L) :
    Calls Tryd.prog 6 #[.slice a n cap] w fun e w' => e = .returned (.bool true) ∧ Below w.heap.size w w' := by
  obtain ⟨hl, hnc, hcm, hn, hL⟩ := h
  have k1 := build_any a n cap L w hl hL hn hnc hcm
  have hL0 : Hid (Lss w a L) := hL
  have hn64 := lss_n64 hL
  have hbl := bld_len L hn64
  clear hL
  by_cases h0 : (bldA L).2 = 0
  · obtain ⟨_, e2⟩ := par_back L hn64 h0
    rw [h0] at k1
    have he : Hid (parA (bldA L).1 = (L, 0, 0)) := e2
    clear e2 h0 hn64
    generalize (bldA L).1 = zb at *
    go_enter Tryd.func6, Tryd.ntmps6
    go_wp2_with fail
    refine k1.mono ?_
    rintro e w1 ⟨v1, rfl, hO1, hB1⟩
    clear k1
    obtain ⟨a1, n1, c1, rfl, hl1, hn1, hc1, hm1, hb1⟩ := hO1.out.form
    have k2 := parse_any a1 n1 c1 zb w1 hl1.out hb1.out hn1.out (by have := hl1.out; omega)
    rw [he.out] at k2
    clear hO1 hb1
    go_wp2_with fail
    refine k2.mono ?_
    rintro e w2 ⟨v2, L2, rfl, hO2, hB2⟩
    clear k2
    obtain ⟨a2, c2, rfl, hn2, hc2, hm2, hL2⟩ := hO2.out.1.lss hO2.out.2.1
    have hLs : L2.map Prod.snd = L := hO2.out.2.2
    rw [hLs] at hL2
    have hll : Hid (L.length = L2.length) := by show _ = _; rw [← hLs, List.length_map]
    have hBw : Hid (Below w.heap.size w w2) := hB1.out.trans (hB2.out.mono hB1.out.size)
    clear hO2 hLs hB1 hB2
    generalize L2.length = n2 at *
    have hal := (Below.refl w2.heap.size w2).alloc (Nat.le_refl _) (.cells #[.int .i64 0, .int .i64 0] 33)
    have kS := samel_yes a a2 n n2 cap c2 L _ hl hll.out ((hL0.out.kept hBw.out).kept hal) (hL2.out.kept hal) hnc hcm hc2 hm2
    have hBa : Hid (Below w.heap.size w (w2.alloc (.cells #[.int .i64 0, .int .i64 0] 33))) := hBw.out.trans (hal.mono hBw.out.size)
    clear hL0 hL2 hal hBw
    go_wp2_with (first
      | (go_at_call 15; go_loud (refine kS.mono ?_; rintro e w3 ⟨rfl, hb3⟩; clear kS; have hB3 : Hid (Below w.heap.size w w3) := hBa.out.trans (hb3.out.mono hBa.out.size)))
      | (go_at_call 12; go_loud (refine (alive_any w3).mono ?_; rintro e w4 ⟨rfl, hb4⟩)))
    go_ret
    exact ⟨rfl, hB3.out.trans (hb4.out.mono hB3.out.size)⟩
  · have e1 := bld_bad L h0
    rw [e1] at k1
    generalize (bldA L).2 = y at *
    have hy : ((y : Int) != 0) = true := by rw [bne_iff_ne]; omega
    go_enter Tryd.func6, Tryd.ntmps6
    go_wp2_with fail
    refine k1.mono ?_
    rintro e w1 ⟨v1, rfl, hO1, hB1⟩
    clear k1
    obtain ⟨a1, n1, c1, rfl, hl1, hn1, hc1, hm1, hb1⟩ := hO1.out.form
    have hz : n1 = 0 := hl1.out.symm
    subst hz
    clear hO1 hb1
    go_wp2_with (go_at_call 12; go_loud (refine (alive_any w1).mono ?_; rintro e w4 ⟨rfl, hb4⟩))
    go_ret
    exact ⟨rfl, hB1.out.trans (hb4.out.mono hB1.out.size)⟩
end Go.Proofs.YtgfnohgpmmaocaaDoor
