/-
  A character's bytes put behind bytes, in the program.
-/
import Derived.Test.YtjnhobohnkhpoabCheck
import Derived.Laws.Shifts
namespace Go.Proofs.Ytjnhobohnkhpoab
open Go.RowKit

/-- A number that is a character. -/
def RightI (r : Int) : Prop := (0 ≤ r ∧ r < 55296) ∨ (57343 < r ∧ r ≤ 1114111)
theorem right_nat {r : Int} (h : RightI r) : ∃ m : Nat, r = (m : Int) ∧ Right m := by
  unfold RightI at h
  exact ⟨r.toNat, by omega, by unfold Right; omega⟩
theorem valid_yes (r : Int) (w : World) (h : RightI r) :
    Calls Try.prog 12 #[.int .i32 r] w fun e w' => e = .returned (.bool true) ∧ w' = w := by
  unfold RightI at h
  go_enter Try.func12, Try.ntmps12
  go_wp2
  all_goals first | (exfalso; omega) | (go_ret; exact ⟨rfl, rfl⟩)
theorem valid_no (r : Int) (w : World) (h : ¬ RightI r) :
    Calls Try.prog 12 #[.int .i32 r] w fun e w' => e = .returned (.bool false) ∧ w' = w := by
  unfold RightI at h
  go_enter Try.func12, Try.ntmps12
  go_wp2
  all_goals first | (exfalso; omega) | (go_ret; exact ⟨rfl, rfl⟩)

/-- A row's cells, written by a literal, are bytes. -/
theorem two_bytes (w : World) (x y : Int) (hx : 0 ≤ x ∧ x < 256) (hy : 0 ≤ y ∧ y < 256) : Bytes (w.alloc (.cells #[.int .u8 x, .int .u8 y] 5)) (some ⟨w.heap.size, 0, none⟩) [x, y] := by
  refine ⟨by intro c hc; simp at hc; omega, by simp [maxLen], .inr ⟨_, _, rfl, ?_⟩⟩
  intro i hi
  rw [World.cell?_alloc_mark]
  match i, hi with
  | 0, _ => rfl
  | 1, _ => rfl
theorem three_bytes (w : World) (x y z : Int) (hx : 0 ≤ x ∧ x < 256) (hy : 0 ≤ y ∧ y < 256) (hz : 0 ≤ z ∧ z < 256) : Bytes (w.alloc (.cells #[.int .u8 x, .int .u8 y, .int .u8 z] 5)) (some ⟨w.heap.size, 0, none⟩) [x, y, z] := by
  refine ⟨by intro c hc; simp at hc; omega, by simp [maxLen], .inr ⟨_, _, rfl, ?_⟩⟩
  intro i hi
  rw [World.cell?_alloc_mark]
  match i, hi with
  | 0, _ => rfl
  | 1, _ => rfl
  | 2, _ => rfl
theorem four_bytes (w : World) (x y z u : Int) (hx : 0 ≤ x ∧ x < 256) (hy : 0 ≤ y ∧ y < 256) (hz : 0 ≤ z ∧ z < 256) (hu : 0 ≤ u ∧ u < 256) : Bytes (w.alloc (.cells #[.int .u8 x, .int .u8 y, .int .u8 z, .int .u8 u] 5)) (some ⟨w.heap.size, 0, none⟩) [x, y, z, u] := by
  refine ⟨by intro c hc; simp at hc; omega, by simp [maxLen], .inr ⟨_, _, rfl, ?_⟩⟩
  intro i hi
  rw [World.cell?_alloc_mark]
  match i, hi with
  | 0, _ => rfl
  | 1, _ => rfl
  | 2, _ => rfl
  | 3, _ => rfl

set_option maxRecDepth 100000 in
set_option maxHeartbeats 1000000 in
theorem appn_two (base : Nat) (v : Value) (ys : List Int) (r : Nat) (w : World) (h1 : 128 ≤ r) (h2 : r < 2048) (ho : OwnsB w base v ys) (hB : base ≤ w.heap.size) (hm : ys.length + 4 ≤ 140737488355328) :
    Calls Try.prog 16 #[v, .int .i32 (r : Nat)] w fun e w' => ∃ v', e = .returned v' ∧ OwnsB w' base v' (ys ++ encL r) ∧ Below base w w' := by
  have hu : IntKind.u32.wrap (r : Int) = r := by
    simp [IntKind.wrap, IntKind.bits, IntKind.signed]; omega
  have he : Hid (encL r = [192 + (r : Int) / 64, 128 + (r : Int) % 64]) := by
    show _ = _
    unfold encL
    rw [if_neg (by omega), if_pos h2]
    simp
  have ho' : Hid (OwnsB w base v ys) := ho
  clear ho
  go_enter Try.func16, Try.ntmps16
  go_wp2_with (at_builtin; refine wpList_append_bytes rfl _ (.tmp 23) rfl base v ys [192 + (r : Int) / 64, 128 + (r : Int) % 64] rfl (ho'.out.alloc _) (some ⟨w.heap.size, 0, none⟩) 2 2 rfl rfl (by simp) (two_bytes w _ _ (by omega) (by omega)) (by simp; omega) (by simp; omega) ?_; intro v4 w4 ho4 hg4; have hb4 := grown_below ((Below.refl base w).alloc hB _) (ho'.out.alloc _) hg4 (by simp; omega))
  go_ret
  exact ⟨_, rfl, by rw [he.out]; exact ho4, hb4⟩
set_option maxRecDepth 100000 in
set_option maxHeartbeats 1000000 in
theorem appn_three (base : Nat) (v : Value) (ys : List Int) (r : Nat) (w : World) (h1 : 2048 ≤ r) (h2 : r < 55296) (ho : OwnsB w base v ys) (hB : base ≤ w.heap.size) (hm : ys.length + 4 ≤ 140737488355328) :
    Calls Try.prog 16 #[v, .int .i32 (r : Nat)] w fun e w' => ∃ v', e = .returned v' ∧ OwnsB w' base v' (ys ++ encL r) ∧ Below base w w' := by
  have hu : IntKind.u32.wrap (r : Int) = r := by
    simp [IntKind.wrap, IntKind.bits, IntKind.signed]; omega
  have he : Hid (encL r = [224 + (r : Int) / 4096, 128 + (r : Int) / 64 % 64, 128 + (r : Int) % 64]) := by
    show _ = _
    unfold encL
    rw [if_neg (by omega), if_neg (by omega), if_pos (by omega)]
    simp
  have ho' : Hid (OwnsB w base v ys) := ho
  clear ho
  have d0 : decide ((r : Int) ≤ 2047) = false := by simp; omega
  have d1 : decide ((r : Int) < 55296) = true := by simp; omega
  go_enter Try.func16, Try.ntmps16
  go_wp2_with (at_builtin; refine wpList_append_bytes rfl _ (.tmp 48) rfl base v ys [224 + (r : Int) / 4096, 128 + (r : Int) / 64 % 64, 128 + (r : Int) % 64] rfl (ho'.out.alloc _) (some ⟨w.heap.size, 0, none⟩) 3 3 rfl rfl (by simp) (three_bytes w _ _ _ (by omega) (by omega) (by omega)) (by simp; omega) (by simp; omega) ?_; intro v4 w4 ho4 hg4; have hb4 := grown_below ((Below.refl base w).alloc hB _) (ho'.out.alloc _) hg4 (by simp; omega))
  go_ret
  exact ⟨_, rfl, by rw [he.out]; exact ho4, hb4⟩
set_option maxRecDepth 100000 in
set_option maxHeartbeats 1000000 in
theorem appn_high (base : Nat) (v : Value) (ys : List Int) (r : Nat) (w : World) (h1 : 57344 ≤ r) (h2 : r < 65536) (ho : OwnsB w base v ys) (hB : base ≤ w.heap.size) (hm : ys.length + 4 ≤ 140737488355328) :
    Calls Try.prog 16 #[v, .int .i32 (r : Nat)] w fun e w' => ∃ v', e = .returned v' ∧ OwnsB w' base v' (ys ++ encL r) ∧ Below base w w' := by
  have hu : IntKind.u32.wrap (r : Int) = r := by
    simp [IntKind.wrap, IntKind.bits, IntKind.signed]; omega
  have he : Hid (encL r = [224 + (r : Int) / 4096, 128 + (r : Int) / 64 % 64, 128 + (r : Int) % 64]) := by
    show _ = _
    unfold encL
    rw [if_neg (by omega), if_neg (by omega), if_pos h2]
    simp
  have ho' : Hid (OwnsB w base v ys) := ho
  clear ho
  have d0 : decide ((r : Int) ≤ 2047) = false := by simp; omega
  have d1 : decide ((r : Int) < 55296) = false := by simp; omega
  have d2 : decide ((57343 : Int) < (r : Int)) = true := by simp; omega
  have d3 : decide ((r : Int) ≤ 65535) = true := by simp; omega
  go_enter Try.func16, Try.ntmps16
  go_wp2_with (at_builtin; refine wpList_append_bytes rfl _ (.tmp 48) rfl base v ys [224 + (r : Int) / 4096, 128 + (r : Int) / 64 % 64, 128 + (r : Int) % 64] rfl (ho'.out.alloc _) (some ⟨w.heap.size, 0, none⟩) 3 3 rfl rfl (by simp) (three_bytes w _ _ _ (by omega) (by omega) (by omega)) (by simp; omega) (by simp; omega) ?_; intro v4 w4 ho4 hg4; have hb4 := grown_below ((Below.refl base w).alloc hB _) (ho'.out.alloc _) hg4 (by simp; omega))
  go_ret
  exact ⟨_, rfl, by rw [he.out]; exact ho4, hb4⟩
set_option maxRecDepth 100000 in
set_option maxHeartbeats 1000000 in
theorem appn_four (base : Nat) (v : Value) (ys : List Int) (r : Nat) (w : World) (h1 : 65536 ≤ r) (h2 : r ≤ 1114111) (ho : OwnsB w base v ys) (hB : base ≤ w.heap.size) (hm : ys.length + 4 ≤ 140737488355328) :
    Calls Try.prog 16 #[v, .int .i32 (r : Nat)] w fun e w' => ∃ v', e = .returned v' ∧ OwnsB w' base v' (ys ++ encL r) ∧ Below base w w' := by
  have hu : IntKind.u32.wrap (r : Int) = r := by
    simp [IntKind.wrap, IntKind.bits, IntKind.signed]; omega
  have he : Hid (encL r = [240 + (r : Int) / 262144, 128 + (r : Int) / 4096 % 64, 128 + (r : Int) / 64 % 64, 128 + (r : Int) % 64]) := by
    show _ = _
    unfold encL
    rw [if_neg (by omega), if_neg (by omega), if_neg (by omega)]
    simp
  have ho' : Hid (OwnsB w base v ys) := ho
  clear ho
  have d0 : decide ((r : Int) ≤ 2047) = false := by simp; omega
  have d1 : decide ((r : Int) < 55296) = false := by simp; omega
  have d2 : decide ((57343 : Int) < (r : Int)) = true := by simp; omega
  have d3 : decide ((r : Int) ≤ 65535) = false := by simp; omega
  have d4 : decide ((65535 : Int) < (r : Int)) = true := by simp; omega
  have d5 : decide ((r : Int) ≤ 1114111) = true := by simp; omega
  go_enter Try.func16, Try.ntmps16
  go_wp2_with (at_builtin; refine wpList_append_bytes rfl _ (.tmp 76) rfl base v ys [240 + (r : Int) / 262144, 128 + (r : Int) / 4096 % 64, 128 + (r : Int) / 64 % 64, 128 + (r : Int) % 64] rfl (ho'.out.alloc _) (some ⟨w.heap.size, 0, none⟩) 4 4 rfl rfl (by simp) (four_bytes w _ _ _ _ (by omega) (by omega) (by omega) (by omega)) (by simp; omega) (by simp; omega) ?_; intro v4 w4 ho4 hg4; have hb4 := grown_below ((Below.refl base w).alloc hB _) (ho'.out.alloc _) hg4 (by simp; omega))
  go_ret
  exact ⟨_, rfl, by rw [he.out]; exact ho4, hb4⟩
theorem appn_any (base : Nat) (v : Value) (ys : List Int) (r : Nat) (w : World) (hr : Right r) (h1 : 128 ≤ r) (ho : OwnsB w base v ys) (hB : base ≤ w.heap.size) (hm : ys.length + 4 ≤ 140737488355328) :
    Calls Try.prog 16 #[v, .int .i32 (r : Nat)] w fun e w' => ∃ v', e = .returned v' ∧ OwnsB w' base v' (ys ++ encL r) ∧ Below base w w' := by
  unfold Right at hr
  by_cases h2 : r < 2048
  · exact appn_two base v ys r w h1 h2 ho hB hm
  · by_cases h3 : r < 55296
    · exact appn_three base v ys r w (by omega) h3 ho hB hm
    · by_cases h4 : r < 65536
      · exact appn_high base v ys r w (by omega) h4 ho hB hm
      · exact appn_four base v ys r w (by omega) (by omega) ho hB hm

set_option maxHeartbeats 1000000 in
theorem appr_any (base : Nat) (v : Value) (ys : List Int) (r : Nat) (w : World) (hr : Right r) (ho : OwnsB w base v ys) (hB : base ≤ w.heap.size) (hm : ys.length + 4 ≤ 140737488355328) :
    Calls Try.prog 14 #[v, .int .i32 (r : Nat)] w fun e w' => ∃ v', e = .returned v' ∧ OwnsB w' base v' (ys ++ encL r) ∧ Below base w w' := by
  have hu : IntKind.u32.wrap (r : Int) = r := by
    simp [IntKind.wrap, IntKind.bits, IntKind.signed]; unfold Right at hr; omega
  by_cases h1 : r < 128
  · have he : Hid (encL r = [(r : Int)]) := by
      show _ = _
      unfold encL
      rw [if_pos h1]
    have ho' : Hid (OwnsB w base v ys) := ho
    clear ho hr
    go_enter Try.func14, Try.ntmps14
    go_wp2_with (at_builtin; refine wpList_append_bytes rfl _ (.tmp 11) rfl base v ys [(r : Int)] rfl (ho'.out.alloc _) (some ⟨w.heap.size, 0, none⟩) 1 1 rfl rfl (by simp) (one_byte w _ (by omega) (by omega)) (by simp; omega) (by simp; omega) ?_; intro v4 w4 ho4 hg4; have hb4 := grown_below ((Below.refl base w).alloc hB _) (ho'.out.alloc _) hg4 (by simp; omega))
    go_ret
    exact ⟨_, rfl, by rw [he.out]; exact ho4, hb4⟩
  · have k := appn_any base v ys r w hr (by omega) ho hB hm
    clear ho hr
    go_enter Try.func14, Try.ntmps14
    go_wp2_with (go_at_call 16; refine k.mono ?_; rintro e w' ⟨v', rfl, ho', hb'⟩)
    go_ret
    exact ⟨_, rfl, ho', hb'⟩

theorem put_bad (v : Value) (r : Int) (w : World) (h : ¬ RightI r) :
    Calls Try.prog 7 #[v, .int .i32 r] w fun e w' => e = .returned (.tuple #[.slice none 0 0, .int .i64 1]) ∧ w' = w := by
  have k := valid_no r w h
  clear h
  go_enter Try.func7, Try.ntmps7
  go_wp2_with (go_at_call 12; refine k.mono ?_; rintro e w' ⟨rfl, hw⟩; obtain rfl : w = w' := hw.symm)
  go_ret2
  exact ⟨rfl, rfl⟩

set_option maxHeartbeats 1000000 in
theorem put_ok (a : Option Addr) (n cap : Nat) (zs : List Int) (r : Nat) (w : World) (hl : zs.length = n) (hb : Bytes w a zs) (hnc : a = none → cap = 0) (hm : n + 4 ≤ 140737488355328) (hr : Right r) :
    Calls Try.prog 7 #[.slice a n cap, .int .i32 (r : Nat)] w fun e w' => ∃ v, e = .returned (.tuple #[v, .int .i64 0]) ∧ OwnsB w' w.heap.size v (zs ++ encL r) ∧ Below w.heap.size w w' := by
  have hL : Hid (zs.length = n) := hl
  have hB : Hid (Bytes w a zs) := hb
  have hN : Hid (a = none → cap = 0) := hnc
  have k1 := valid_yes (r : Int) w (by unfold RightI; unfold Right at hr; omega)
  have k2 := rlen_any r w hr
  have hq := lenR_le r
  have hR : Hid (Right r) := hr
  obtain ⟨i5, hi5, hz5, hs5, hby5⟩ := info_parts info5
  have I5 : Hid (Try.prog.info? 5 = some i5 ∧ i5.zero = some (.int .u8 0) ∧ i5.size = 1 ∧ i5.bytes = 1) := ⟨hi5, hz5, hs5, hby5⟩
  clear hl hb hnc hr hi5 hz5 hs5 hby5
  generalize lenR r = q at *
  go_enter Try.func7, Try.ntmps7
  go_wp2_with (first
    | (go_at_call 12; refine k1.mono ?_; rintro e w' ⟨rfl, hw⟩; obtain rfl : w = w' := hw.symm)
    | (go_at_call 13; refine k2.mono ?_; rintro e w' ⟨rfl, hw⟩; obtain rfl : w = w' := hw.symm)
    | (at_make; refine wpList_make_own w rfl _ _ 22 rfl w.heap.size 5 i5 (.int .u8 0) 1 Try.underlying22 I5.out.1 I5.out.2.1 I5.out.2.2.1 .i64 .i64 _ (n + q) rfl rfl (by omega) (by rw [I5.out.2.2.2]; omega) (by unfold maxLen; omega) (Nat.le_refl _) ?_; intro w1 ho1 hg1)
    | (at_builtin; refine wpList_append_bytes rfl _ (.tmp 17) rfl w.heap.size _ [] zs rfl ⟨ho1, by simp⟩ a n cap rfl hL.out hN.out (hB.out.kept ((Below.refl w.heap.size w).grown hg1 (Nat.le_refl _) (fun k hk => by cases hk))) (by rw [hL.out]; simp; omega) (hg1.size) ?_; intro v2 w2 ho2 hg2; have hb2 := grown_below ((Below.refl w.heap.size w).grown hg1 (Nat.le_refl _) (fun k hk => by cases hk)) (zs := []) ⟨ho1, by simp⟩ hg2 hg1.size)
    | (go_at_call 14; refine (appr_any w.heap.size v2 ([] ++ zs) r w2 hR.out ho2 hb2.size (by rw [List.nil_append, hL.out]; exact hm)).mono ?_; rintro e w3 ⟨v3, rfl, ho3, hb3⟩))
  go_ret2
  exact ⟨_, rfl, by simpa using ho3, hb2.trans hb3⟩
end Go.Proofs.Ytjnhobohnkhpoab
