/-
  A text's characters, in the program.
-/
import Derived.Test.YtjnhobohnkhpoabCheck
namespace Go.Proofs.Ytjnhobohnkhpoab
open Go.RowKit

set_option maxHeartbeats 1000000 in
theorem runes_any (a : Option Addr) (n cap : Nat) (zs : List Int) (w : World) (hl : zs.length = n) (hb : Bytes w a zs) (hc : n ≤ cap) (hn : n ≤ 4611686018427387904) :
    Calls Try.prog 4 #[.slice a n cap] w fun e w' => ∃ v, e = .returned (.tuple #[v, .agg #[.int .i64 (whyL zs : Nat), .int .i64 (atL zs : Nat)]]) ∧ OwnsI w' w.heap.size v (txtL zs) ∧ Below w.heap.size w w' := by
  have hB0 : Hid (Bytes w a zs) := hb
  have k := check_any a n cap zs (w.alloc (.cells #[.int .i64 0, .int .i64 0] 26)) hl (hb.kept ((Below.refl _ _).alloc (Nat.le_refl _) _)) hc hn
  cases hf : (runesL zs).2 with
  | some p =>
    obtain ⟨h1, h2, h3⟩ := why_some hf
    have hT : Hid (txtL zs = []) := h3
    rw [h1, h2] at k ⊢
    clear hb hl hf h1 h2 h3
    go_enter Try.func4, Try.ntmps4
    go_wp2_with fail
    refine k.mono ?_
    rintro e w1 ⟨rfl, hb1⟩
    have hF : FAt w1 w.heap.size 0 0 := FAt.kept (w := w.alloc _) (heap_alloc_new w _) hb1
    have hlt := hF.lt
    have c0 := hF.c0
    have c1 := hF.c1
    have f0 := hF.fz 0
    have f1 := hF.fz 1
    have hbw : Below w.heap.size w w1 := ((Below.refl w.heap.size w).alloc (Nat.le_refl _) _).trans (hb1.mono (by simp))
    have hne : ¬ w.heap.size = w1.heap.size := by omega
    clear k
    go_wp2
    go_region
    all_goals
      go_wp2
      refine bodyPost_ret (v := .tuple #[.slice none 0 0, .agg #[.int .i64 6, .int .i64 p]]) (by simp [results, Try.results4, go_sem, *]) rfl ⟨_, rfl, ?_, ?_⟩
      · rw [hT.out]; exact ownsI_nil _ _
      · have hb2 := (hbw.setCell (p := ⟨w.heap.size, 0, none⟩) (Nat.le_refl _) (.int .i64 6)).setCell (p := ⟨w.heap.size, 1, none⟩) (Nat.le_refl _) (.int .i64 p)
        exact (hb2.alloc hb2.size _).drew
  | none =>
    obtain ⟨h1, h2, h3⟩ := why_none hf
    have hT : Hid (txtL zs = ints (runesL zs).1) := h3
    have hm : zs.length ≤ maxLen := hb.2.1
    obtain ⟨cp, X, kr, hX, hcp⟩ := conv_runes hb.1 hf hm
    have ks := fun w1 (h : Bytes w1 a zs) => conv_str h n cap hl
    rw [h1, h2] at k ⊢
    clear hb hl hf h1 h2 h3 hm
    generalize strOfNums zs = s at *
    generalize hN : (runesL zs).1.length = N at *
    clear hN
    have ks' : Hid _ := ks
    clear ks
    go_enter Try.func4, Try.ntmps4
    go_wp2_with fail
    refine k.mono ?_
    rintro e w1 ⟨rfl, hb1⟩
    have hF : FAt w1 w.heap.size 0 0 := FAt.kept (w := w.alloc _) (heap_alloc_new w _) hb1
    have hlt := hF.lt
    have c0 := hF.c0
    have c1 := hF.c1
    have f0 := hF.fz 0
    have f1 := hF.fz 1
    have hbw : Below w.heap.size w w1 := ((Below.refl w.heap.size w).alloc (Nat.le_refl _) _).trans (hb1.mono (by simp))
    have hne : ¬ w.heap.size = w1.heap.size := by omega
    have ks := fun o => ks'.out (w1.alloc o) (hB0.out.kept (hbw.alloc hbw.size o))
    clear k
    go_wp2
    refine bodyPost_ret (v := .tuple #[.slice (some ⟨w1.heap.size + 1, 0, none⟩) N (cp (w1.alloc (.cells #[.int .i64 0, .int .i64 0] 26))), .agg #[.int .i64 0, .int .i64 0]]) (by simp [results, Try.results4, go_sem, *]) rfl ⟨_, rfl, ?_, ?_⟩
    · rw [hT.out]
      have h9 := hX.out (w1.alloc (.cells #[.int .i64 0, .int .i64 0] 26)) (((w1.setCell ⟨w.heap.size, 0, none⟩ (.int .i64 0)).setCell ⟨w.heap.size, 1, none⟩ (.int .i64 0)).alloc (.cells #[.int .i64 0, .int .i64 0] 26)) w.heap.size (by simp; omega)
      rw [show (((w1.setCell ⟨w.heap.size, 0, none⟩ (.int .i64 0)).setCell ⟨w.heap.size, 1, none⟩ (.int .i64 0)).alloc (.cells #[.int .i64 0, .int .i64 0] 26)).heap.size = w1.heap.size + 1 from by simp] at h9
      exact h9
    · have hb2 := (hbw.setCell (p := ⟨w.heap.size, 0, none⟩) (Nat.le_refl _) (.int .i64 0)).setCell (p := ⟨w.heap.size, 1, none⟩) (Nat.le_refl _) (.int .i64 0)
      exact ((hb2.alloc hb2.size _).alloc (hb2.alloc hb2.size _).size _).drew
end Go.Proofs.Ytjnhobohnkhpoab
