/-
  Receivers that nobody made; what is written over.
-/
import Derived.Test.YtajidkgmifcoaaaRch
namespace Go.Proofs.Ytajidkgmifcoaaa
open Go.RowKit
set_option linter.unusedVariables false
theorem take_nil (w : World) : Calls Try.prog 12 #[.pointer none] w fun e w' => e = .returned (.tuple #[.slice none 0 0, .bool false]) ∧ w' = w := by
  have k1 := made_nil w
  go_enter Try.func12, Try.ntmps12
  go_wp2_with (go_at_call 24; refine k1.mono ?_; rintro e w1 ⟨rfl, hw1⟩; obtain rfl := hw1.symm)
  go_ret2
  all_goals simp_all
theorem take_un (rb : Nat) (w : World) (h : w.cell? ⟨rb, 0, none⟩ = some (.bool false)) : Calls Try.prog 12 #[.pointer (some ⟨rb, 0, none⟩)] w fun e w' => e = .returned (.tuple #[.slice none 0 0, .bool false]) ∧ w' = w := by
  have k1 := made_no rb w h
  go_enter Try.func12, Try.ntmps12
  go_wp2_with (go_at_call 24; refine k1.mono ?_; rintro e w1 ⟨rfl, hw1⟩; obtain rfl := hw1.symm)
  go_ret2
  all_goals simp_all
theorem ack_nil (w : World) : Calls Try.prog 17 #[.pointer none] w fun e w' => e = .returned (.tuple #[.int .i64 0, .int .u64 0, .int .i64 0]) ∧ w' = w := by
  have k1 := made_nil w
  go_enter Try.func17, Try.ntmps17
  go_wp2_with (go_at_call 24; refine k1.mono ?_; rintro e w1 ⟨rfl, hw1⟩; obtain rfl := hw1.symm)
  refine bodyPost_ret (v := .tuple #[.int .i64 0, .int .u64 0, .int .i64 0]) (by simp [results, Try.results17, go_sem]) rfl ?_
  all_goals simp_all
theorem ack_un (rb : Nat) (w : World) (h : w.cell? ⟨rb, 0, none⟩ = some (.bool false)) : Calls Try.prog 17 #[.pointer (some ⟨rb, 0, none⟩)] w fun e w' => e = .returned (.tuple #[.int .i64 0, .int .u64 0, .int .i64 0]) ∧ w' = w := by
  have k1 := made_no rb w h
  go_enter Try.func17, Try.ntmps17
  go_wp2_with (go_at_call 24; refine k1.mono ?_; rintro e w1 ⟨rfl, hw1⟩; obtain rfl := hw1.symm)
  refine bodyPost_ret (v := .tuple #[.int .i64 0, .int .u64 0, .int .i64 0]) (by simp [results, Try.results17, go_sem]) rfl ?_
  all_goals simp_all
theorem data_nil (z : Int) (a : Option Addr) (n c : Nat) (w : World) : Calls Try.prog 15 #[.pointer none, .int .i64 z, .slice a n c] w fun e w' => e = .returned (.int .i64 2) ∧ w' = w := by
  have k1 := made_nil w
  go_enter Try.func15, Try.ntmps15
  go_wp2_with (go_at_call 24; refine k1.mono ?_; rintro e w1 ⟨rfl, hw1⟩; obtain rfl := hw1.symm)
  go_ret
  all_goals simp_all
theorem data_un (rb : Nat) (z : Int) (a : Option Addr) (n c : Nat) (w : World) (h : w.cell? ⟨rb, 0, none⟩ = some (.bool false)) : Calls Try.prog 15 #[.pointer (some ⟨rb, 0, none⟩), .int .i64 z, .slice a n c] w fun e w' => e = .returned (.int .i64 2) ∧ w' = w := by
  have k1 := made_no rb w h
  go_enter Try.func15, Try.ntmps15
  go_wp2_with (go_at_call 24; refine k1.mono ?_; rintro e w1 ⟨rfl, hw1⟩; obtain rfl := hw1.symm)
  go_ret
  all_goals simp_all
theorem taken_nil (w : World) : Calls Try.prog 19 #[.pointer none] w fun e w' => e = .returned (.int .i64 0) ∧ w' = w := by
  have k1 := made_nil w
  go_enter Try.func19, Try.ntmps19
  go_wp2_with (go_at_call 24; refine k1.mono ?_; rintro e w1 ⟨rfl, hw1⟩; obtain rfl := hw1.symm)
  go_ret
  all_goals simp_all
theorem taken_un (rb : Nat) (w : World) (h : w.cell? ⟨rb, 0, none⟩ = some (.bool false)) : Calls Try.prog 19 #[.pointer (some ⟨rb, 0, none⟩)] w fun e w' => e = .returned (.int .i64 0) ∧ w' = w := by
  have k1 := made_no rb w h
  go_enter Try.func19, Try.ntmps19
  go_wp2_with (go_at_call 24; refine k1.mono ?_; rintro e w1 ⟨rfl, hw1⟩; obtain rfl := hw1.symm)
  go_ret
  all_goals simp_all
theorem ready_nil (w : World) : Calls Try.prog 20 #[.pointer none] w fun e w' => e = .returned (.int .i64 0) ∧ w' = w := by
  have k1 := made_nil w
  go_enter Try.func20, Try.ntmps20
  go_wp2_with (go_at_call 24; refine k1.mono ?_; rintro e w1 ⟨rfl, hw1⟩; obtain rfl := hw1.symm)
  go_ret
  all_goals simp_all
theorem ready_un (rb : Nat) (w : World) (h : w.cell? ⟨rb, 0, none⟩ = some (.bool false)) : Calls Try.prog 20 #[.pointer (some ⟨rb, 0, none⟩)] w fun e w' => e = .returned (.int .i64 0) ∧ w' = w := by
  have k1 := made_no rb w h
  go_enter Try.func20, Try.ntmps20
  go_wp2_with (go_at_call 24; refine k1.mono ?_; rintro e w1 ⟨rfl, hw1⟩; obtain rfl := hw1.symm)
  go_ret
  all_goals simp_all
theorem held_nil (w : World) : Calls Try.prog 22 #[.pointer none] w fun e w' => e = .returned (.int .i64 0) ∧ w' = w := by
  have k1 := made_nil w
  go_enter Try.func22, Try.ntmps22
  go_wp2_with (go_at_call 24; refine k1.mono ?_; rintro e w1 ⟨rfl, hw1⟩; obtain rfl := hw1.symm)
  go_ret
  all_goals simp_all
theorem held_un (rb : Nat) (w : World) (h : w.cell? ⟨rb, 0, none⟩ = some (.bool false)) : Calls Try.prog 22 #[.pointer (some ⟨rb, 0, none⟩)] w fun e w' => e = .returned (.int .i64 0) ∧ w' = w := by
  have k1 := made_no rb w h
  go_enter Try.func22, Try.ntmps22
  go_wp2_with (go_at_call 24; refine k1.mono ?_; rintro e w1 ⟨rfl, hw1⟩; obtain rfl := hw1.symm)
  go_ret
  all_goals simp_all
theorem OwnsB.blk {w : World} {base : Nat} {v : Value} {zs : List Int} (h : OwnsB w base v zs) : ∀ k, v.ownBlock = some k → ∃ cs, Blk w k cs 5 := by
  intro k hk
  rcases h.1.2 with ⟨rfl, _⟩ | ⟨g, cap, cur, rfl, hg, hc, _⟩
  · simp [Value.ownBlock] at hk
  · simp [Value.ownBlock] at hk
    subst hk
    exact ⟨cur, hc⟩
/-- A block of bytes that may be written over: the first n cells. -/
def DW (w : World) (g n : Nat) : Prop := ∀ i, i < n → (∃ c, w.cell? ⟨g, i, none⟩ = some (.int .u8 c)) ∧ w.frozen? ⟨g, i, none⟩ = false
theorem DW.of {w : World} {base n c : Nat} {g : Nat} {zs : List Int} (h : OwnsB w base (.slice (some ⟨g, 0, none⟩) n c) zs) : DW w g zs.length := by
  intro i hi
  obtain ⟨a, cap, hv, _, _, hb, _⟩ := h.shape
  cases hv
  rcases hb.2.2 with h0 | ⟨b, off, e, hc⟩
  · rw [h0] at hi; simp at hi
  · cases e
    refine ⟨⟨_, by have := hc i hi; rw [Nat.zero_add] at this; exact this⟩, ?_⟩
    obtain ⟨cs, hk⟩ := h.blk _ rfl
    exact hk.fz i
theorem DW.set {w : World} {g n : Nat} (h : DW w g n) (j : Nat) (v : Int) : DW (w.setCell ⟨g, j, none⟩ (.int .u8 v)) g n := by
  intro i hi
  obtain ⟨⟨c, hc⟩, hf⟩ := h i hi
  refine ⟨?_, by rw [World.frozen?_setCell]; exact hf⟩
  by_cases hij : i = j
  · subst hij
    exact ⟨v, World.cell?_setCell_same w _ _ hc⟩
  · exact ⟨c, by rw [World.cell?_setCell_other w _ _ _ (fun e => by injection e; omega)]; exact hc⟩
theorem DW.k2 {w w' : World} {g n rb : Nat} (h : DW w g n) (k : K2 rb rb w w') (hg : g ≠ rb) : DW w' g n := by
  intro i hi
  obtain ⟨⟨c, hc⟩, hf⟩ := h i hi
  have hlt : g < w.heap.size := by
    simp only [World.cell?] at hc
    rcases Nat.lt_or_ge g w.heap.size with h2 | h2
    · exact h2
    · simp [Array.getElem?_eq_none h2] at hc
  have e := k.block g hlt hg hg
  refine ⟨⟨c, by rw [World.cell?_of_block e]; exact hc⟩, ?_⟩
  unfold World.frozen? at hf ⊢
  rw [e]
  exact hf
theorem At.away {w0 w : World} {rb g : Nat} {s : Rc} (h : At w0 w rb s) (j : Nat) (v : Value) (hg : rb < g) : At w0 (w.setCell ⟨g, j, none⟩ v) rb s :=
  ⟨h.rv.but (K2.set w j v) (by omega), (K2.set (q := g) (g := g) w j v).below h.bel h.sz (by omega) (by omega), by have := h.sz; simp [World.setCell]; exact this⟩
end Go.Proofs.Ytajidkgmifcoaaa
