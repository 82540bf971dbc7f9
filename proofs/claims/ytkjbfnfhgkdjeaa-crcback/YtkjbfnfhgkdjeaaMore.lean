/-
  The check sum with bytes behind, in the program and in the document's own answer: both are the plain function.
-/
import Derived.Test.YtkjbfnfhgkdjeaaTurn
import Derived.Lib.SlBytesConst
namespace Go.Proofs.Ytkjbfnfhgkdjeaa
open Go.RowKit

/-- WHAT A WALK IS TOLD OF A SLICE OF BYTES: its elements are 'zs', and lie at a. -/
def Bytes (w : World) (a : Option Addr) (zs : List Int) : Prop :=
  (∀ c ∈ zs, 0 ≤ c ∧ c < 256) ∧ zs.length ≤ maxLen ∧
  (zs = [] ∨ ∃ b off, a = some ⟨b, off, none⟩ ∧ ∀ i, i < zs.length → w.cell? ⟨b, off + i, none⟩ = some (.int .u8 (zs.getD i 0)))

theorem flip_in (m : Nat) (hm : m < 4294967296) : bits .xor .u32 IntKind.u32.max (m : Int) = ((4294967295 ^^^ m : Nat) : Int) := by
  rw [show IntKind.u32.max = ((4294967295 : Nat) : Int) from by decide]
  exact u32_xor_nat _ _ (by decide) hm

/-- THE NEXT BYTE: its cell, its bounds, and what has been gone over then. -/
theorem next_byte {w : World} {b off : Nat} {zs : List Int} (hz : ∀ c ∈ zs, 0 ≤ c ∧ c < 256)
    (hc : ∀ i, i < zs.length → w.cell? ⟨b, off + i, none⟩ = some (.int .u8 (zs.getD i 0))) {k : Nat} (hk : k < zs.length) :
    ∃ c : Int, w.cell? ⟨b, off + k, none⟩ = some (.int .u8 c) ∧ 0 ≤ c ∧ c < 256 ∧ zs.take (k + 1) = zs.take k ++ [c] := by
  refine ⟨zs[k], ?_, (hz _ (List.getElem_mem hk)).1, (hz _ (List.getElem_mem hk)).2, List.take_succ_eq_append_getElem hk⟩
  rw [hc k hk, List.getD_eq_getElem?_getD, List.getElem?_eq_getElem hk]; rfl

theorem take_bytes {zs : List Int} (hz : ∀ c ∈ zs, 0 ≤ c ∧ c < 256) (k : Nat) : ∀ c ∈ zs.take k, 0 ≤ c ∧ c < 256 :=
  fun c h => hz c (List.mem_of_mem_take h)

set_option maxHeartbeats 400000 in
theorem more_any (s : Nat) (hs : s < 4294967296) (a : Option Addr) (cap : Nat) (zs : List Int) (w : World) (hb : Bytes w a zs) :
    Calls Try.prog 12 #[.int .u32 s, .slice a zs.length cap] w fun e w' => e = .returned (.int .u32 (moreL s zs : Nat)) ∧ w' = w := by
  obtain ⟨hz, hm, ha⟩ := hb
  unfold maxLen at hm
  have hZ : Hid (∀ c ∈ zs, 0 ≤ c ∧ c < 256) := hz
  clear hz
  have hx : Hid (bits .xor .u32 IntKind.u32.max (s : Int) = ((4294967295 ^^^ s : Nat) : Int)) := flip_in s hs
  rcases ha with rfl | ⟨b, off, rfl, hc⟩
  · go_enter Try.func12, Try.ntmps12
    go_wp2
    go_loop [5, 12] (fun t i => i = .int .i64 0 ∧ t = .int .u32 (4294967295 ^^^ s : Nat)) (fun _ _ => 0)
    case atStart => exact ⟨rfl, by rw [hx.out]⟩
    case round =>
      obtain ⟨rfl, rfl⟩ := hrel
      have hf : Hid (bits .xor .u32 IntKind.u32.max ((4294967295 ^^^ s : Nat) : Int) = ((moreL s [] : Nat) : Int)) := flip_in _ (xor32 (by decide) hs)
      generalize 4294967295 ^^^ s = m at *
      go_wp2
      go_ret
      exact ⟨by rw [← hf.out]; rfl, rfl⟩
  · have hC : Hid (∀ i, i < zs.length → w.cell? ⟨b, off + i, none⟩ = some (.int .u8 (zs.getD i 0))) := hc
    clear hc
    go_enter Try.func12, Try.ntmps12
    go_wp2
    go_loop [5, 12] (fun t i => ∃ k : Nat, k ≤ zs.length ∧ i = .int .i64 k ∧ t = .int .u32 (runL (4294967295 ^^^ s) (zs.take k) : Nat)) (fun _ i => zs.length - (intOf i).toNat)
    case atStart => exact ⟨0, by omega, rfl, by rw [hx.out]; rfl⟩
    case round =>
      obtain ⟨k, hk, rfl, rfl⟩ := hrel
      have hr := runL_lt (zs.take k) _ (xor32 (show 4294967295 < 4294967296 by decide) hs) (take_bytes hZ.out k)
      by_cases hlt : k < zs.length
      · obtain ⟨c, hck, hc0, hc1, htk⟩ := next_byte hZ.out hC.out hlt
        have hs2 : Hid (runL (4294967295 ^^^ s) (zs.take (k + 1)) = tb (runL (4294967295 ^^^ s) (zs.take k)) c.toNat) := by
          show _ = _
          rw [htk, runL_snoc]
        clear htk hx
        generalize runL (4294967295 ^^^ s) (zs.take k) = m at *
        go_wp2_with (go_at_call 19; refine (turn_any _ _ _ (by omega) (by omega) (by omega) (by omega)).mono ?_; rintro e w' ⟨rfl, rfl⟩)
        go_round
        case rel => exact ⟨k + 1, by omega, by go_num, by rw [hs2.out]⟩
        case measure => simp [intOf]; omega
      · have hf : Hid (bits .xor .u32 IntKind.u32.max ((runL (4294967295 ^^^ s) (zs.take k) : Nat) : Int) = ((moreL s zs : Nat) : Int)) := by
          show _ = _
          rw [flip_in _ hr, List.take_of_length_le (by omega)]; rfl
        clear hx
        generalize runL (4294967295 ^^^ s) (zs.take k) = m at *
        go_wp2
        go_ret
        exact ⟨by rw [← hf.out]; rfl, rfl⟩

set_option maxHeartbeats 400000 in
theorem refMore_any (s : Nat) (hs : s < 4294967296) (a : Option Addr) (cap : Nat) (zs : List Int) (w : World) (hb : Bytes w a zs) :
    Calls Try.prog 13 #[.int .u32 s, .slice a zs.length cap] w fun e w' => e = .returned (.int .u32 (moreL s zs : Nat)) ∧ w' = w := by
  obtain ⟨hz, hm, ha⟩ := hb
  unfold maxLen at hm
  have hZ : Hid (∀ c ∈ zs, 0 ≤ c ∧ c < 256) := hz
  clear hz
  have hx : Hid (bits .xor .u32 IntKind.u32.max (s : Int) = ((4294967295 ^^^ s : Nat) : Int)) := flip_in s hs
  rcases ha with rfl | ⟨b, off, rfl, hc⟩
  · go_enter Try.func13, Try.ntmps13
    go_wp2
    go_loop [5, 6] (fun t i => i = .int .i64 0 ∧ t = .int .u32 (4294967295 ^^^ s : Nat)) (fun _ _ => 0)
    case atStart => exact ⟨rfl, by rw [hx.out]⟩
    case round =>
      obtain ⟨rfl, rfl⟩ := hrel
      have hf : Hid (bits .xor .u32 IntKind.u32.max ((4294967295 ^^^ s : Nat) : Int) = ((moreL s [] : Nat) : Int)) := flip_in _ (xor32 (by decide) hs)
      generalize 4294967295 ^^^ s = m at *
      go_wp2
      go_ret
      exact ⟨by rw [← hf.out]; rfl, rfl⟩
  · have hC : Hid (∀ i, i < zs.length → w.cell? ⟨b, off + i, none⟩ = some (.int .u8 (zs.getD i 0))) := hc
    clear hc
    go_enter Try.func13, Try.ntmps13
    go_wp2
    go_loop [5, 6] (fun t i => ∃ k : Nat, k ≤ zs.length ∧ i = .int .i64 k ∧ t = .int .u32 (runL (4294967295 ^^^ s) (zs.take k) : Nat)) (fun _ i => zs.length - (intOf i).toNat)
    case atStart => exact ⟨0, by omega, rfl, by rw [hx.out]; rfl⟩
    case round =>
      obtain ⟨k, hk, rfl, rfl⟩ := hrel
      have hr := runL_lt (zs.take k) _ (xor32 (show 4294967295 < 4294967296 by decide) hs) (take_bytes hZ.out k)
      by_cases hlt : k < zs.length
      · obtain ⟨c, hck, hc0, hc1, htk⟩ := next_byte hZ.out hC.out hlt
        have hs2 : Hid (runL (4294967295 ^^^ s) (zs.take (k + 1)) = tb (runL (4294967295 ^^^ s) (zs.take k)) c.toNat) := by
          show _ = _
          rw [htk, runL_snoc]
        clear htk hx
        generalize runL (4294967295 ^^^ s) (zs.take k) = m at *
        go_wp2_with (go_at_call 20; refine (step_any _ _ _ (by omega) (by omega) (by omega) (by omega)).mono ?_; rintro e w' ⟨rfl, rfl⟩)
        go_round
        case rel => exact ⟨k + 1, by omega, by go_num, by rw [hs2.out]⟩
        case measure => simp [intOf]; omega
      · have hf : Hid (bits .xor .u32 IntKind.u32.max ((runL (4294967295 ^^^ s) (zs.take k) : Nat) : Int) = ((moreL s zs : Nat) : Int)) := by
          show _ = _
          rw [flip_in _ hr, List.take_of_length_le (by omega)]; rfl
        clear hx
        generalize runL (4294967295 ^^^ s) (zs.take k) = m at *
        go_wp2
        go_ret
        exact ⟨by rw [← hf.out]; rfl, rfl⟩

set_option maxHeartbeats 400000 in
theorem sum_any (a : Option Addr) (cap : Nat) (zs : List Int) (w : World) (hb : Bytes w a zs) :
    Calls Try.prog 9 #[.slice a zs.length cap] w fun e w' => e = .returned (.int .u32 (moreL 0 zs : Nat)) ∧ w' = w := by
  go_enter Try.func9, Try.ntmps9
  go_wp2_with (go_at_call 12; refine (more_any 0 (by decide) _ _ _ _ hb).mono ?_; rintro e w' ⟨rfl, rfl⟩)
  go_ret
  exact ⟨rfl, rfl⟩

set_option maxHeartbeats 400000 in
theorem refSum_any (a : Option Addr) (cap : Nat) (zs : List Int) (w : World) (hb : Bytes w a zs) :
    Calls Try.prog 10 #[.slice a zs.length cap] w fun e w' => e = .returned (.int .u32 (moreL 0 zs : Nat)) ∧ w' = w := by
  go_enter Try.func10, Try.ntmps10
  go_wp2_with (go_at_call 13; refine (refMore_any 0 (by decide) _ _ _ _ hb).mono ?_; rintro e w' ⟨rfl, rfl⟩)
  go_ret
  exact ⟨rfl, rfl⟩

/-- The nine bytes' row, as the text lays it. -/
theorem nine_bytes (w : World) (m : Nat × Nat) : Bytes (w.alloc (.cells #[.int .u8 49, .int .u8 50, .int .u8 51, .int .u8 52, .int .u8 53, .int .u8 54, .int .u8 55, .int .u8 56, .int .u8 57] 5 m)) (some ⟨w.heap.size, 0, none⟩) [49, 50, 51, 52, 53, 54, 55, 56, 57] := by
  refine ⟨by decide, by decide, .inr ⟨_, _, rfl, ?_⟩⟩
  intro i hi
  rw [World.cell?_alloc_mark]
  match i, hi with
  | 0, _ => rfl
  | 1, _ => rfl
  | 2, _ => rfl
  | 3, _ => rfl
  | 4, _ => rfl
  | 5, _ => rfl
  | 6, _ => rfl
  | 7, _ => rfl
  | 8, _ => rfl

theorem nine_sum (w : World) (m : Nat × Nat) :
    Calls Try.prog 9 #[.slice (some ⟨w.heap.size, 0, none⟩) 9 9] (w.alloc (.cells #[.int .u8 49, .int .u8 50, .int .u8 51, .int .u8 52, .int .u8 53, .int .u8 54, .int .u8 55, .int .u8 56, .int .u8 57] 5 m))
      fun e w' => e = .returned (.int .u32 3421780262) ∧ w' = w.alloc (.cells #[.int .u8 49, .int .u8 50, .int .u8 51, .int .u8 52, .int .u8 53, .int .u8 54, .int .u8 55, .int .u8 56, .int .u8 57] 5 m) := by
  have h := sum_any _ 9 _ _ (nine_bytes w m)
  rw [nine] at h
  exact h

set_option maxHeartbeats 400000 in
theorem alive_any (w : World) :
    Calls Try.prog 11 #[] w fun e w' => e = .returned (.bool true) ∧ Below w.heap.size w w' := by
  have kc := fun (w : World) (C : Array Value) (n c : Nat) => Lib.run_convert_bytes_const (P := Try.prog) w 22 5 C n c Try.underlying22 Try.underlying5
  go_enter Try.func11, Try.ntmps11
  go_wp2_with (go_at_call 9; refine (nine_sum _ _).mono ?_; rintro e w' ⟨rfl, rfl⟩)
  go_ret
  exact ⟨rfl, (Below.refl _ _).alloc (Nat.le_refl _) _⟩

/-- WHAT THE WALK IS TOLD OF A SLICE OF INTEGERS THAT CAME IN: it is nil; or it leads to a row of 'cap' cells, the numbers 'zs' (the first 'len' are its elements, the rest its spare room), each fitting its kind. -/
def IsRow (k : IntKind) (w : World) (a : Option Addr) (len cap : Nat) (zs : List Int) : Prop :=
  (a = none ∧ len = 0 ∧ cap = 0 ∧ zs = []) ∨
  ∃ x, a = some x ∧ len ≤ cap ∧ cap ≤ maxLen ∧ zs.length = cap ∧ (∀ i, i < zs.length → w.cell? (x.add i) = some (.int k (zs.getD i 0))) ∧ ∀ n ∈ zs, (Lit.int k n).wf = true

theorem nil_cap {w : World} {a : Option Addr} {len cap : Nat} {zs : List Int} (h : IsRow .u8 w a len cap zs) : a = none → cap = 0 := by
  rcases h with ⟨rfl, rfl, rfl, rfl⟩ | ⟨x, rfl, _⟩
  · exact fun _ => rfl
  · intro h; cases h

theorem row_le {w : World} {a : Option Addr} {len cap : Nat} {zs : List Int} (h : IsRow .u8 w a len cap zs) : len ≤ cap ∧ cap ≤ maxLen := by
  rcases h with ⟨rfl, rfl, rfl, rfl⟩ | ⟨x, rfl, hl, hm, _⟩
  · exact ⟨Nat.le_refl _, Nat.zero_le _⟩
  · exact ⟨hl, hm⟩

theorem bytes_of_row {w : World} {a : Option Addr} {len cap : Nat} {zs : List Int} (h : IsRow .u8 w a len cap zs) : (zs.take len).length = len ∧ Bytes w a (zs.take len) := by
  rcases h with ⟨rfl, rfl, rfl, rfl⟩ | ⟨x, rfl, hl, hm, hz, hcell, hwz⟩
  · exact ⟨rfl, by simp, by simp, .inl (by simp)⟩
  · have hlen : (zs.take len).length = len := by rw [List.length_take]; omega
    refine ⟨hlen, ?_, by omega, ?_⟩
    · intro c hc
      have := hwz c (List.mem_of_mem_take hc)
      simp [Lit.wf, show IntKind.u8.min = 0 from by decide, show IntKind.u8.max = 255 from by decide] at this
      omega
    · by_cases h0 : len = 0
      · left; subst h0; simp
      · right
        obtain ⟨b, off, spot⟩ := x
        have hc := hcell 0 (by omega)
        have hspot : spot = none := by simpa [Addr.add] using World.cell?_spot hc
        subst hspot
        refine ⟨b, off, rfl, fun i hi => ?_⟩
        have hi' : i < len := by omega
        have := hcell i (by omega)
        rw [List.getD_eq_getElem?_getD, List.getElem?_take, if_pos hi', ← List.getD_eq_getElem?_getD]
        by_cases h1 : i = 0
        · subst h1; simpa [Addr.add] using this
        · simpa [Addr.add, h1] using this
end Go.Proofs.Ytkjbfnfhgkdjeaa
