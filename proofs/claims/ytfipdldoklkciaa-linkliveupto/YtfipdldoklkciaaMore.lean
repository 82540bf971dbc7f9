/-
  The check sum with bytes behind, in the program and in the document's own answer: both are the plain function.
-/
import Derived.Test.YtfipdldoklkciaaTurn
import Derived.Lib.SlBytesConst
namespace Go.Proofs.Ytfipdldoklkciaa
open Go.RowKit

theorem flip_in (m : Nat) (hm : m < 4294967296) : bits .xor .u32 IntKind.u32.max (m : Int) = ((4294967295 ^^^ m : Nat) : Int) := by
  rw [show IntKind.u32.max = ((4294967295 : Nat) : Int) from by decide]
  exact u32_xor_nat _ _ (by decide) hm

set_option maxHeartbeats 400000 in
theorem more_any (s : Nat) (hs : s < 4294967296) (a : Option Addr) (cap : Nat) (zs : List Int) (w : World) (hb : Bytes w a zs) :
    Calls Try.prog 107 #[.int .u32 s, .slice a zs.length cap] w fun e w' => e = .returned (.int .u32 (moreL s zs : Nat)) ∧ w' = w := by
  obtain ⟨hz, hm, ha⟩ := hb
  unfold maxLen at hm
  have hZ : Hid (∀ c ∈ zs, 0 ≤ c ∧ c < 256) := hz
  clear hz
  have hx : Hid (bits .xor .u32 IntKind.u32.max (s : Int) = ((4294967295 ^^^ s : Nat) : Int)) := flip_in s hs
  rcases ha with rfl | ⟨b, off, rfl, hc⟩
  · go_enter Try.func107, Try.ntmps107
    go_wp2
    go_loop [5, 12] (fun t i => i = .int .i64 0 ∧ t = .int .u32 (4294967295 ^^^ s : Nat)) (fun _ _ => 0)
    case atStart => exact ⟨rfl, by rw [hx.out]⟩
    case round =>
      obtain ⟨rfl, rfl⟩ := hrel
      have hf : Hid (bits .xor .u32 IntKind.u32.max ((4294967295 ^^^ s : Nat) : Int) = ((moreL s [] : Nat) : Int)) := flip_in _ (xor32 (by decide) hs)
      generalize 4294967295 ^^^ s = m at *
      go_wp2
      go_ret
      exact ⟨by rw [← hf.out]; rfl, rfl⟩
  · have hC : Hid (∀ i, i < zs.length → w.cell? ⟨b, off + i, none⟩ = some (.int .u8 (zs.getD i 0))) := hc
    clear hc
    go_enter Try.func107, Try.ntmps107
    go_wp2
    go_loop [5, 12] (fun t i => ∃ k : Nat, k ≤ zs.length ∧ i = .int .i64 k ∧ t = .int .u32 (runL (4294967295 ^^^ s) (zs.take k) : Nat)) (fun _ i => zs.length - (intOf i).toNat)
    case atStart => exact ⟨0, by omega, rfl, by rw [hx.out]; rfl⟩
    case round =>
      obtain ⟨k, hk, rfl, rfl⟩ := hrel
      have hr := runL_lt (zs.take k) _ (xor32 (show 4294967295 < 4294967296 by decide) hs) (take_bytes hZ.out k)
      by_cases hlt : k < zs.length
      · obtain ⟨c, hck, hc0, hc1, htk⟩ := next_byte hZ.out hC.out hlt
        have hs2 : Hid (runL (4294967295 ^^^ s) (zs.take (k + 1)) = tb (runL (4294967295 ^^^ s) (zs.take k)) c.toNat) := by
          show _ = _
          rw [htk, runL_snoc]
        clear htk hx
        generalize runL (4294967295 ^^^ s) (zs.take k) = m at *
        go_wp2_with (go_at_call 112; refine (turn_any _ _ _ (by omega) (by omega) (by omega) (by omega)).mono ?_; rintro e w' ⟨rfl, rfl⟩)
        go_round
        case rel => exact ⟨k + 1, by omega, by go_num, by rw [hs2.out]⟩
        case measure => simp [intOf]; omega
      · have hf : Hid (bits .xor .u32 IntKind.u32.max ((runL (4294967295 ^^^ s) (zs.take k) : Nat) : Int) = ((moreL s zs : Nat) : Int)) := by
          show _ = _
          rw [flip_in _ hr, List.take_of_length_le (by omega)]; rfl
        clear hx
        generalize runL (4294967295 ^^^ s) (zs.take k) = m at *
        go_wp2
        go_ret
        exact ⟨by rw [← hf.out]; rfl, rfl⟩

set_option maxHeartbeats 400000 in
theorem refMore_any (s : Nat) (hs : s < 4294967296) (a : Option Addr) (cap : Nat) (zs : List Int) (w : World) (hb : Bytes w a zs) :
    Calls Try.prog 108 #[.int .u32 s, .slice a zs.length cap] w fun e w' => e = .returned (.int .u32 (moreL s zs : Nat)) ∧ w' = w := by
  obtain ⟨hz, hm, ha⟩ := hb
  unfold maxLen at hm
  have hZ : Hid (∀ c ∈ zs, 0 ≤ c ∧ c < 256) := hz
  clear hz
  have hx : Hid (bits .xor .u32 IntKind.u32.max (s : Int) = ((4294967295 ^^^ s : Nat) : Int)) := flip_in s hs
  rcases ha with rfl | ⟨b, off, rfl, hc⟩
  · go_enter Try.func108, Try.ntmps108
    go_wp2
    go_loop [5, 6] (fun t i => i = .int .i64 0 ∧ t = .int .u32 (4294967295 ^^^ s : Nat)) (fun _ _ => 0)
    case atStart => exact ⟨rfl, by rw [hx.out]⟩
    case round =>
      obtain ⟨rfl, rfl⟩ := hrel
      have hf : Hid (bits .xor .u32 IntKind.u32.max ((4294967295 ^^^ s : Nat) : Int) = ((moreL s [] : Nat) : Int)) := flip_in _ (xor32 (by decide) hs)
      generalize 4294967295 ^^^ s = m at *
      go_wp2
      go_ret
      exact ⟨by rw [← hf.out]; rfl, rfl⟩
  · have hC : Hid (∀ i, i < zs.length → w.cell? ⟨b, off + i, none⟩ = some (.int .u8 (zs.getD i 0))) := hc
    clear hc
    go_enter Try.func108, Try.ntmps108
    go_wp2
    go_loop [5, 6] (fun t i => ∃ k : Nat, k ≤ zs.length ∧ i = .int .i64 k ∧ t = .int .u32 (runL (4294967295 ^^^ s) (zs.take k) : Nat)) (fun _ i => zs.length - (intOf i).toNat)
    case atStart => exact ⟨0, by omega, rfl, by rw [hx.out]; rfl⟩
    case round =>
      obtain ⟨k, hk, rfl, rfl⟩ := hrel
      have hr := runL_lt (zs.take k) _ (xor32 (show 4294967295 < 4294967296 by decide) hs) (take_bytes hZ.out k)
      by_cases hlt : k < zs.length
      · obtain ⟨c, hck, hc0, hc1, htk⟩ := next_byte hZ.out hC.out hlt
        have hs2 : Hid (runL (4294967295 ^^^ s) (zs.take (k + 1)) = tb (runL (4294967295 ^^^ s) (zs.take k)) c.toNat) := by
          show _ = _
          rw [htk, runL_snoc]
        clear htk hx
        generalize runL (4294967295 ^^^ s) (zs.take k) = m at *
        go_wp2_with (go_at_call 113; refine (step_any _ _ _ (by omega) (by omega) (by omega) (by omega)).mono ?_; rintro e w' ⟨rfl, rfl⟩)
        go_round
        case rel => exact ⟨k + 1, by omega, by go_num, by rw [hs2.out]⟩
        case measure => simp [intOf]; omega
      · have hf : Hid (bits .xor .u32 IntKind.u32.max ((runL (4294967295 ^^^ s) (zs.take k) : Nat) : Int) = ((moreL s zs : Nat) : Int)) := by
          show _ = _
          rw [flip_in _ hr, List.take_of_length_le (by omega)]; rfl
        clear hx
        generalize runL (4294967295 ^^^ s) (zs.take k) = m at *
        go_wp2
        go_ret
        exact ⟨by rw [← hf.out]; rfl, rfl⟩

set_option maxHeartbeats 400000 in
theorem sum_any (a : Option Addr) (cap : Nat) (zs : List Int) (w : World) (hb : Bytes w a zs) :
    Calls Try.prog 104 #[.slice a zs.length cap] w fun e w' => e = .returned (.int .u32 (moreL 0 zs : Nat)) ∧ w' = w := by
  go_enter Try.func104, Try.ntmps104
  go_wp2_with (go_at_call 107; refine (more_any 0 (by decide) _ _ _ _ hb).mono ?_; rintro e w' ⟨rfl, rfl⟩)
  go_ret
  exact ⟨rfl, rfl⟩

set_option maxHeartbeats 400000 in
theorem refSum_any (a : Option Addr) (cap : Nat) (zs : List Int) (w : World) (hb : Bytes w a zs) :
    Calls Try.prog 105 #[.slice a zs.length cap] w fun e w' => e = .returned (.int .u32 (moreL 0 zs : Nat)) ∧ w' = w := by
  go_enter Try.func105, Try.ntmps105
  go_wp2_with (go_at_call 108; refine (refMore_any 0 (by decide) _ _ _ _ hb).mono ?_; rintro e w' ⟨rfl, rfl⟩)
  go_ret
  exact ⟨rfl, rfl⟩

theorem sum_at (a : Option Addr) (m cap : Nat) (zs : List Int) (w : World) (hm : zs.length = m) (hb : Bytes w a zs) :
    Calls Try.prog 104 #[.slice a m cap] w fun e w' => e = .returned (.int .u32 (moreL 0 zs : Nat)) ∧ w' = w := by
  subst hm; exact sum_any a cap zs w hb

/-- 'copy' into a row of as many bytes that the call itself has made. -/
theorem copy_into {w0 w : World} {g k : Nat} {ys : List Value} (ho : w.ownsRow w0.heap.size 5 1 (.slice (some ⟨g, 0, none⟩) k k) k ys) (hb : Below w0.heap.size w0 w)
    (x : Addr) (n cap : Nat) (zs : List Int) (hbx : Bytes w (some x) zs) (hn : zs.length = n) (hk : k ≤ n) :
    ∃ w', (∀ ty, (Builtin.copy_ #[23, 23] ty #[.slice (some ⟨g, 0, none⟩) k k, .slice (some x) n cap]).run Try.prog w = .ok (goInt k) w') ∧
      OwnsB w' w0.heap.size (.slice (some ⟨g, 0, none⟩) k k) (zs.take k) ∧ Below w0.heap.size w0 w' := by
  obtain ⟨hl, hv⟩ := ho
  rcases hv with ⟨h1, _⟩ | ⟨g', cap', cur, hv, hbg, hg, _, hcm, hcs, _⟩
  · cases h1
  · cases hv
    have hlen : ((zs.take k).map (Value.int .u8)).length = k := by rw [List.length_map, List.length_take]; omega
    have hcl : cur.toList.length = k := by rw [Array.length_toList, hcs, Nat.mul_one]
    have hr := fun ty => run_copy_row (P := Try.prog) w 23 23 ty 5 g 0 k k x n cap cur 5 ((zs.take k).map (Value.int .u8)) Try.underlying23 (by kernel_rfl) hg (by rw [hlen]; exact (Nat.min_eq_right hk).symm) (bytes_news (hbx.take k)) (by omega) (bytes_one _)
    simp only [hlen] at hr
    refine ⟨_, hr, ⟨⟨by rw [List.length_map, Nat.mul_one], .inr ⟨g, k, _, ?_, hbg, setRow_heap w g cur _ 5 _ hg, ?_, hcm, ?_, ?_⟩⟩, (hbx.take k).1⟩, below_setRow hb hbg _⟩
    · rw [List.length_take]; congr 1; omega
    · rw [List.length_take]; omega
    · simp only [List.size_toArray, List.length_append, List.length_take, List.length_drop, hlen, hcl]; omega
    · rw [show (zs.take k).length * 1 = ((zs.take k).map (Value.int .u8)).length from by rw [List.length_map, Nat.mul_one]]
      simp

end Go.Proofs.Ytfipdldoklkciaa
