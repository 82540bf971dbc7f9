/-
  Sealing, in the program and in the document's own answer: new bytes, those that came and the check sum's four, the lowest first.
-/
import Derived.Test.YtfipdldoklkciaaSame
import Derived.Test.YtfipdldoklkciaaMore
namespace Go.Proofs.Ytfipdldoklkciaa
open Go.RowKit

/-- A check sum's four bytes, the lowest first. -/
def le4 (n : Nat) : List Int := [((n % 256 : Nat) : Int), ((n / 256 % 256 : Nat) : Int), ((n / 65536 % 256 : Nat) : Int), ((n / 16777216 % 256 : Nat) : Int)]

theorem le4_bytes (n : Nat) : ∀ c ∈ le4 n, 0 ≤ c ∧ c < 256 := by
  intro c hc
  simp only [le4, List.mem_cons, List.not_mem_nil, or_false] at hc
  rcases hc with rfl | rfl | rfl | rfl <;> omega

theorem four_bytes (w : World) (n : Nat) (h : n < 4294967296) :
    Bytes (w.alloc (.cells #[.int .u8 ((n : Int) % 256), .int .u8 ((n : Int) / 256 % 256), .int .u8 ((n : Int) / 65536 % 256), .int .u8 ((n : Int) / 16777216)] 5)) (some ⟨w.heap.size, 0, none⟩) (le4 n) := by
  refine ⟨le4_bytes n, by simp [le4, maxLen], .inr ⟨_, _, rfl, ?_⟩⟩
  intro i hi
  rw [World.cell?_alloc_mark]
  match i, hi with
  | 0, _ => rfl
  | 1, _ => rfl
  | 2, _ => rfl
  | 3, _ =>
    show some (Value.int .u8 ((n : Int) / 16777216)) = some (Value.int .u8 ((n / 16777216 % 256 : Nat) : Int))
    rw [show (n : Int) / 16777216 = ((n / 16777216 % 256 : Nat) : Int) from by omega]

set_option maxHeartbeats 400000 in
theorem seal_any (a : Option Addr) (cap : Nat) (zs : List Int) (w : World) (hb : Bytes w a zs) (hn : a = none → cap = 0) (hl : zs.length + 4 ≤ 140737488355328) :
    Calls Try.prog 79 #[.slice a zs.length cap] w fun e w' => ∃ v, e = .returned v ∧ OwnsB w' w.heap.size v (zs ++ le4 (moreL 0 zs)) ∧ Below w.heap.size w w' := by
  obtain ⟨i0, hi, hz0, hz1, hz2⟩ := info_parts info5
  have hlt := moreL_lt (n := 0) (by decide) hb.1
  have hB : Hid (Bytes w a zs) := hb
  go_enter Try.func79, Try.ntmps79
  go_wp2_with fail
  refine (sum_any _ _ _ _ hb).mono ?_
  rintro e w1 ⟨rfl, rfl⟩
  go_wp2_with (first
    | (at_make; refine wpList_make_own _ rfl _ _ 23 rfl w1.heap.size 5 i0 (.int .u8 0) 1 Try.underlying23 hi hz0 hz1 .i64 .i64 _ (zs.length + 4) rfl rfl (by omega) (by rw [hz2]; omega) (by unfold maxLen; omega) (Nat.le_refl _) ?_; intro w2 ho2 hg2; have hb2 : Below w1.heap.size w1 w2 := (Below.refl _ _).grown hg2 (Nat.le_refl _) (by simp); have hB2 : Hid (Bytes w2 a zs) := Bytes.kept hB.out hb2; have hs2 := hb2.size)
    | (at_builtin; refine wpList_append_bytes rfl (.tmp 11) (.tmp 12) rfl w1.heap.size (.slice (some ⟨w1.heap.size, 0, none⟩) 0 (zs.length + 4)) [] zs rfl ⟨ho2, by simp⟩ a zs.length cap rfl rfl hn hB2.out (by simp; omega) hs2 ?_; intro v3 w3 ho3 hg3; have hb3 := grown_below hb2 (zs := []) ⟨ho2, by simp⟩ hg3 hs2; simp only [List.nil_append] at ho3; clear ho2 hg2 hB2 hs2 hg3)
    | (at_builtin; refine wpList_append_bytes rfl (.tmp 14) (.tmp 26) rfl w1.heap.size v3 zs (le4 (moreL 0 zs)) rfl (ho3.alloc _) (some ⟨w3.heap.size, 0, none⟩) 4 4 rfl rfl (by simp) (four_bytes w3 _ hlt) hl (by simp; have := hb3.size; omega) ?_; intro v4 w4 ho4 hg4; have hb4 := grown_below (hb3.alloc hb3.size _) (ho3.alloc _) hg4 (by simp; have := hb3.size; omega); clear ho3 hg4))
  go_ret
  exact ⟨_, rfl, ho4, hb4⟩
end Go.Proofs.Ytfipdldoklkciaa
