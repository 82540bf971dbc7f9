/-
  A text has its tokens, and a text is written.
-/
import Derived.Test.YtfkoghmbkgbgbaaDoorJlx
import Derived.Test.YtfkoghmbkgbgbaaDoorJea
import Derived.Lib.SlBytesConst
namespace Go.Proofs.YtfkoghmbkgbgbaaDoor
open Go.RowKit
set_option linter.unusedVariables false

theorem bytes_row (w : World) (zs : List Int) (m : Nat × Nat) (hz : ∀ c ∈ zs, 0 ≤ c ∧ c < 256) (hl : zs.length ≤ maxLen) : Bytes (w.alloc (.cells (zs.map (Value.int .u8)).toArray 5 m)) (some ⟨w.heap.size, 0, none⟩) zs := by
  refine ⟨hz, hl, .inr ⟨_, _, rfl, ?_⟩⟩
  intro i hi
  rw [Nat.zero_add, World.cell?_alloc_mark]
  simp [List.getElem?_map, List.getElem?_eq_getElem hi, List.getD_eq_getElem?_getD]
def liveB : List Int := [91, 34, 97, 92, 117, 48, 48, 52, 49, 34, 44, 32, 45, 49, 46, 53, 101, 50, 93]
def liveT : List Tk := [⟨3, 0, 1, []⟩, ⟨7, 1, 10, [97, 65]⟩, ⟨6, 10, 11, []⟩, ⟨8, 12, 18, [45, 49, 46, 53, 101, 50]⟩, ⟨4, 18, 19, []⟩]
set_option maxRecDepth 100000 in
theorem live_lex : lexA liveB 0 = (liveT, 0, 0) := by kernel_rfl
theorem live_esc : strOfNums (escA (bs ⟨#[97, 10]⟩)) = ⟨#[34, 97, 92, 110, 34]⟩ := by decide +kernel
/-- Tokens that a call has made, told by their cells. -/
theorem OwnsT.cells {w : World} {base : Nat} {v : Value} {L : List Tk} (h : OwnsT w base v L) (h0 : L ≠ []) : ∃ g cap, v = .slice (some ⟨g, 0, none⟩) L.length cap ∧ base ≤ g ∧ g < w.heap.size ∧ L.length ≤ cap ∧ cap ≤ 9223372036854775807 ∧ ∀ j, j < L.length * 4 → w.cell? ⟨g, j, none⟩ = (tkCs L)[j]? := by
  rcases h.2 with ⟨hv, hn⟩ | ⟨g, cap, cur, hv, hg, hc, hnc, hcm, hsz, htk⟩
  · exact absurd (List.eq_nil_of_length_eq_zero hn) h0
  · refine ⟨g, cap, hv, hg, (Array.getElem?_eq_some_iff.1 hc).1, hnc, by unfold maxLen at hcm; omega, fun j hj => ?_⟩
    rw [cell_row hc j, ← htk, List.getElem?_take_of_lt hj, Array.getElem?_toList]
set_option maxHeartbeats 4000000 in
set_option maxRecDepth 100000 in
theorem alive_any (w : World) : Calls Tryd.prog 12 #[] w fun e w' => e = .returned (.bool true) ∧ Below w.heap.size w w' := by
  have hA := alloc_below w (.cells (liveB.map (Value.int .u8)).toArray 5 (19, 20))
  have kL := lex_any (some ⟨w.heap.size, 0, none⟩) 19 19 liveB (w.alloc (.cells (liveB.map (Value.int .u8)).toArray 5 (19, 20))) rfl (bytes_row w liveB (19, 20) (by decide) (by decide)) (Nat.le_refl _) (by decide)
  rw [live_lex] at kL
  have kL' : Calls Tryd.prog 9 #[.slice (some ⟨w.heap.size, 0, none⟩) 19 19] (w.alloc (.cells #[.int .u8 91, .int .u8 34, .int .u8 97, .int .u8 92, .int .u8 117, .int .u8 48, .int .u8 48, .int .u8 52, .int .u8 49, .int .u8 34, .int .u8 44, .int .u8 32, .int .u8 45, .int .u8 49, .int .u8 46, .int .u8 53, .int .u8 101, .int .u8 50, .int .u8 93] 5 (19, 20))) fun e w' => ∃ g cap, e = .returned (.tuple #[.slice (some ⟨g, 0, none⟩) 5 cap, .agg #[.int .i64 0, .int .i64 0]]) ∧ 5 ≤ cap ∧ cap ≤ 9223372036854775807 ∧ g < w'.heap.size ∧ w'.cell? ⟨g, 7, none⟩ = some (.string ⟨#[97, 65]⟩) ∧ w'.cell? ⟨g, 15, none⟩ = some (.string ⟨#[45, 49, 46, 53, 101, 50]⟩) ∧ Below w.heap.size w w' := by
    refine kL.mono ?_
    rintro e w' ⟨v, rfl, hO, hb⟩
    obtain ⟨g, cap, rfl, hg, hgl, h5, hc, hcs⟩ := hO.cells (by decide)
    refine ⟨g, cap, rfl, h5, hc, hgl, (hcs 7 (by decide)).trans ?_, (hcs 15 (by decide)).trans ?_, hA.trans (hb.mono hA.size)⟩
    · kernel_rfl
    · kernel_rfl
  have kE : Hid (∀ w', Calls Tryd.prog 15 #[.string ⟨#[97, 10]⟩] w' fun e w'' => e = .returned (.string ⟨#[34, 97, 92, 110, 34]⟩) ∧ Below w'.heap.size w' w'') := fun w' => by
    have := escape_any ⟨#[97, 10]⟩ w' (by decide)
    rw [live_esc] at this
    exact this
  have kc := fun (w : World) (C : Array Value) (n c : Nat) => Lib.run_convert_bytes_const (P := Tryd.prog) w 22 5 C n c Tryd.underlying22 Tryd.underlying5
  clear kL hA
  go_enter Tryd.func12, Tryd.ntmps12
  go_wp2_with (first
    | (go_at_call 9; refine kL'.mono ?_; rintro e w1 ⟨g, cap, rfl, h5, hc, hgl, c7, c15, hb⟩; clear kL'; have b1 : Hid (Below w.heap.size w w1) := hb; have g1 : Hid (g < w1.heap.size) := hgl; have C7 : (w1.alloc (.cells #[.int .i64 0, .int .i64 0] 26)).cell? ⟨g, 7, none⟩ = some (.string ⟨#[97, 65]⟩) := ((alloc_below w1 _).cell (p := ⟨g, 7, none⟩) hgl).trans c7; have C15 : (w1.alloc (.cells #[.int .i64 0, .int .i64 0] 26)).cell? ⟨g, 15, none⟩ = some (.string ⟨#[45, 49, 46, 53, 101, 50]⟩) := ((alloc_below w1 _).cell (p := ⟨g, 15, none⟩) hgl).trans c15; clear hb c7 c15)
    | (go_at_call 15; refine (kE.out _).mono ?_; rintro e w2 ⟨rfl, b2⟩))
  go_ret
  have h1 := b1.out.trans ((alloc_below w1 (.cells #[.int .i64 0, .int .i64 0] 26)).mono b1.out.size)
  exact ⟨rfl, h1.trans (b2.mono h1.size)⟩
end Go.Proofs.YtfkoghmbkgbgbaaDoor
