/-
  Senders that nobody made; what is written over.
-/
import Derived.Test.YtjnoijpindbobaaSdv
namespace Go.Proofs.Ytjnoijpindbobaa
open Go.RowKit
set_option linter.unusedVariables false
theorem push_nil (a : Option Addr) (n c : Nat) (now : Int) (w : World) : Calls Try.prog 15 #[.pointer none, .slice a n c, .int .i64 now] w fun e w' => e = .returned (.tuple #[.int .i64 0, .int .i64 2]) ∧ w' = w := by
  have k1 := made_nil w
  go_enter Try.func15, Try.ntmps15
  go_wp2_with (go_at_call 20; refine k1.mono ?_; rintro e w1 ⟨rfl, hw1⟩; obtain rfl := hw1.symm)
  go_ret2
  all_goals simp_all
theorem push_no (sb : Nat) (a : Option Addr) (n c : Nat) (now : Int) (w : World) (h : w.cell? ⟨sb, 0, none⟩ = some (.bool false)) : Calls Try.prog 15 #[.pointer (some ⟨sb, 0, none⟩), .slice a n c, .int .i64 now] w fun e w' => e = .returned (.tuple #[.int .i64 0, .int .i64 2]) ∧ w' = w := by
  have k1 := made_no sb w h
  go_enter Try.func15, Try.ntmps15
  go_wp2_with (go_at_call 20; refine k1.mono ?_; rintro e w1 ⟨rfl, hw1⟩; obtain rfl := hw1.symm)
  go_ret2
  all_goals simp_all
theorem due_nil (now : Int) (w : World) : Calls Try.prog 16 #[.pointer none, .int .i64 now] w fun e w' => e = .returned (.slice none 0 0) ∧ w' = w := by
  have k1 := made_nil w
  go_enter Try.func16, Try.ntmps16
  go_wp2_with (go_at_call 20; refine k1.mono ?_; rintro e w1 ⟨rfl, hw1⟩; obtain rfl := hw1.symm)
  go_ret
  all_goals simp_all
theorem due_no (sb : Nat) (now : Int) (w : World) (h : w.cell? ⟨sb, 0, none⟩ = some (.bool false)) : Calls Try.prog 16 #[.pointer (some ⟨sb, 0, none⟩), .int .i64 now] w fun e w' => e = .returned (.slice none 0 0) ∧ w' = w := by
  have k1 := made_no sb w h
  go_enter Try.func16, Try.ntmps16
  go_wp2_with (go_at_call 20; refine k1.mono ?_; rintro e w1 ⟨rfl, hw1⟩; obtain rfl := hw1.symm)
  go_ret
  all_goals simp_all
theorem ack_nil (ack bits credit : Int) (w : World) : Calls Try.prog 18 #[.pointer none, .int .i64 ack, .int .u64 bits, .int .i64 credit] w fun e w' => e = .returned (.int .i64 2) ∧ w' = w := by
  have k1 := made_nil w
  go_enter Try.func18, Try.ntmps18
  go_wp2_with (go_at_call 20; refine k1.mono ?_; rintro e w1 ⟨rfl, hw1⟩; obtain rfl := hw1.symm)
  go_ret
  all_goals simp_all
theorem ack_no (sb : Nat) (ack bits credit : Int) (w : World) (h : w.cell? ⟨sb, 0, none⟩ = some (.bool false)) : Calls Try.prog 18 #[.pointer (some ⟨sb, 0, none⟩), .int .i64 ack, .int .u64 bits, .int .i64 credit] w fun e w' => e = .returned (.int .i64 2) ∧ w' = w := by
  have k1 := made_no sb w h
  go_enter Try.func18, Try.ntmps18
  go_wp2_with (go_at_call 20; refine k1.mono ?_; rintro e w1 ⟨rfl, hw1⟩; obtain rfl := hw1.symm)
  go_ret
  all_goals simp_all
theorem res_nil (ack credit now : Int) (w : World) : Calls Try.prog 19 #[.pointer none, .int .i64 ack, .int .i64 credit, .int .i64 now] w fun e w' => e = .returned (.int .i64 2) ∧ w' = w := by
  have k1 := made_nil w
  go_enter Try.func19, Try.ntmps19
  go_wp2_with (go_at_call 20; refine k1.mono ?_; rintro e w1 ⟨rfl, hw1⟩; obtain rfl := hw1.symm)
  go_ret
  all_goals simp_all
theorem res_no (sb : Nat) (ack credit now : Int) (w : World) (h : w.cell? ⟨sb, 0, none⟩ = some (.bool false)) : Calls Try.prog 19 #[.pointer (some ⟨sb, 0, none⟩), .int .i64 ack, .int .i64 credit, .int .i64 now] w fun e w' => e = .returned (.int .i64 2) ∧ w' = w := by
  have k1 := made_no sb w h
  go_enter Try.func19, Try.ntmps19
  go_wp2_with (go_at_call 20; refine k1.mono ?_; rintro e w1 ⟨rfl, hw1⟩; obtain rfl := hw1.symm)
  go_ret
  all_goals simp_all
/-- A block of bytes that may be written over: the first n cells. -/
def DW (w : World) (g n : Nat) : Prop := ∀ i, i < n → (∃ c, w.cell? ⟨g, i, none⟩ = some (.int .u8 c)) ∧ w.frozen? ⟨g, i, none⟩ = false
theorem DW.of {w : World} {base n c : Nat} {g : Nat} {zs : List Int} (h : OwnsB w base (.slice (some ⟨g, 0, none⟩) n c) zs) : DW w g zs.length := by
  intro i hi
  obtain ⟨a, cap, hv, _, _, hb, _⟩ := h.shape
  cases hv
  rcases hb.2.2 with h0 | ⟨b, off, e, hc⟩
  · rw [h0] at hi; simp at hi
  · cases e
    refine ⟨⟨_, by have := hc i hi; rw [Nat.zero_add] at this; exact this⟩, ?_⟩
    obtain ⟨cs, hk⟩ := h.blk _ rfl
    exact hk.fz i
theorem DW.set {w : World} {g n : Nat} (h : DW w g n) (j : Nat) (v : Int) : DW (w.setCell ⟨g, j, none⟩ (.int .u8 v)) g n := by
  intro i hi
  obtain ⟨⟨c, hc⟩, hf⟩ := h i hi
  refine ⟨?_, by rw [World.frozen?_setCell]; exact hf⟩
  by_cases hij : i = j
  · subst hij
    exact ⟨v, World.cell?_setCell_same w _ _ hc⟩
  · exact ⟨c, by rw [World.cell?_setCell_other w _ _ _ (fun e => by injection e; omega)]; exact hc⟩
theorem Sd.setAway {w : World} {B sb mb g j : Nat} {s : St} (h : Sd w B sb mb s) (v : Value) (h1 : g ≠ sb) (h2 : g ≠ mb) (h3 : ∀ z e x, s.L z = some e → e.a = some x → x.block ≠ g) : Sd (w.setCell ⟨g, j, none⟩ v) B sb mb s := by
  have hk : ∀ k, k ≠ g → (w.setCell ⟨g, j, none⟩ v).heap[k]? = w.heap[k]? := fun k hk => Below.heap_setCell _ _ _ _ (by simpa using hk)
  refine ⟨h.ok, h.hs, h.hm, (hk sb (Ne.symm h1)).trans h.blk, h.mp.set (Ne.symm h2) j v, fun z e he => ?_⟩
  have l := h.ld z e he
  refine ⟨⟨l.by_.1, l.by_.2.1, ?_⟩, l.nil, l.le, l.mx, fun x hx => ⟨(l.at_ x hx).1, by have := (l.at_ x hx).2.1; simp [World.setCell]; exact this, (l.at_ x hx).2.2⟩, fun x hx => (l.ty x hx).imp fun cs hc => (hk _ (h3 z e x he hx)).trans hc⟩
  rcases l.by_.2.2 with h4 | ⟨b, off, h4, h5⟩
  · exact .inl h4
  · refine .inr ⟨b, off, h4, fun i hi => ?_⟩
    rw [← h5 i hi]
    exact World.cell?_of_block (w := w) (w' := w.setCell ⟨g, j, none⟩ v) (hk b (h3 z e _ he h4))
end Go.Proofs.Ytjnoijpindbobaa
