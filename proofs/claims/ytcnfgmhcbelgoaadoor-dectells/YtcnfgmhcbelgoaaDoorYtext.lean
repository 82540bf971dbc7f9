/-
  The document's side: a number's text.
-/
import Derived.Test.YtcnfgmhcbelgoaaDoorWhl
import Derived.Test.YtcnfgmhcbelgoaaDoorXfw
import Derived.Test.YtcnfgmhcbelgoaaDoorText
namespace Go.Proofs.YtcnfgmhcbelgoaaDoor
open Go.RowKit

theorem bs_lit1 (c : UInt8) : bs ⟨#[c]⟩ = [((c.toNat : Nat) : Int)] := rfl
theorem bs_lit2 (c d : UInt8) : bs ⟨#[c, d]⟩ = [((c.toNat : Nat) : Int), ((d.toNat : Nat) : Int)] := rfl
theorem text_bytes {n : Bool} {s : ByteArray} {x : Int} : ∀ c ∈ textL n (bs s) x, 0 ≤ c ∧ c < 256 := by
  intro c hc
  unfold textL at hc
  rcases List.mem_append.1 hc with h | h
  · rcases List.mem_append.1 h with h | h
    · split at h
      · simp at h; omega
      · cases h
    · exact bs_bytes s c h
  · split at h
    · cases h
    · rcases List.mem_cons.1 h with h | h
      · omega
      · exact itoa_bytes x c h
set_option maxRecDepth 100000 in
set_option maxHeartbeats 1000000 in
theorem yt_tz (s : ByteArray) (x : Int) (w : World) (hr : rtN true s x = true) (h0 : x = 0) : Calls Tryd.prog 19 #[.agg #[.bool true, .string s, .int .i64 x]] w fun e w' => e = .returned (.string (textA true s x)) ∧ Below w.heap.size w w' := by
  have kR := yright_any true s x
  have hB' : Hid (NmAt (w.alloc (.cells #[.bool true, .string s, .int .i64 x] 23)) w.heap.size true s x) := box_at w true s x 23
  have hx := rtN_exp hr
  have hsz := (rt_size (rtN_rt hr)).2
  have hA : textA true s x = (⟨#[45]⟩ ++ s) := by
    apply bs_inj
    unfold textA
    rw [if_pos hr, bs_str text_bytes]
    unfold textL
    rw [if_pos rfl, if_pos h0]
    simp [bs_catW, bs_lit1]
  rw [hA]
  rw [hr] at kR
  have e1 : decide (0 < x) = false := by simp; omega
  have e2 : decide (x < 0) = false := by simp; omega
  have t0 : ¬ 9223372036854775807 < 1 + s.size := by omega
  clear hA hr hx hsz h0
  obtain ⟨b0, b1, b2⟩ := hB'.out
  go_enter Tryd.func19, Tryd.ntmps19
  go_wp2_with fail
  refine (kR _).mono ?_
  rintro e w1 ⟨rfl, hb⟩
  obtain ⟨c0, c1, c2⟩ := hB'.out.kept hb (alloc_lt _ _)
  have d1 := box_below hb
  clear b0 b1 b2 hb
  go_wp2
  go_ret
  exact ⟨rfl, d1⟩
set_option maxRecDepth 100000 in
set_option maxHeartbeats 1000000 in
theorem yt_tp (s : ByteArray) (x : Int) (w : World) (hr : rtN true s x = true) (h0 : 0 < x) : Calls Tryd.prog 19 #[.agg #[.bool true, .string s, .int .i64 x]] w fun e w' => e = .returned (.string (textA true s x)) ∧ Below w.heap.size w w' := by
  have kR := yright_any true s x
  have hB' : Hid (NmAt (w.alloc (.cells #[.bool true, .string s, .int .i64 x] 23)) w.heap.size true s x) := box_at w true s x 23
  have hx := rtN_exp hr
  have hsz := (rt_size (rtN_rt hr)).2
  have hA : textA true s x = (⟨#[45]⟩ ++ s) ++ (⟨#[101]⟩ ++ txt x.natAbs) := by
    apply bs_inj
    unfold textA
    rw [if_pos hr, bs_str text_bytes]
    unfold textL
    rw [if_pos rfl, if_neg (by omega)]
    unfold itoaL
    rw [if_neg (by omega), show x.toNat = x.natAbs from by omega]
    simp [bs_catW, bs_lit1, bs_txt]
  rw [hA]
  rw [hr] at kR
  have e1 : decide (0 < x) = true := by simpa using h0
  obtain ⟨u, hu⟩ : ∃ u, x.natAbs = u := ⟨_, rfl⟩
  rw [hu]
  have kF := xfrw_any u (by omega)
  have v1 : IntKind.u64.wrap x = ((u : Nat) : Int) := by rw [IntKind.wrap_u64]; omega
  have hT : (txt u).size ≤ 20 := by rw [txt_size]; exact num_len20 (by omega)
  generalize txt u = T at *
  have t1 : ¬ 9223372036854775807 < 1 + T.size := by omega
  have t2 : ¬ 9223372036854775807 < 1 + s.size + (1 + T.size) := by omega
  clear hT hu
  have t0 : ¬ 9223372036854775807 < 1 + s.size := by omega
  clear hA hr hx hsz h0
  obtain ⟨b0, b1, b2⟩ := hB'.out
  go_enter Tryd.func19, Tryd.ntmps19
  go_wp2_with fail
  refine (kR _).mono ?_
  rintro e w1 ⟨rfl, hb⟩
  obtain ⟨c0, c1, c2⟩ := hB'.out.kept hb (alloc_lt _ _)
  have d1 := box_below hb
  clear b0 b1 b2 hb
  go_wp2_with fail
  refine (kF _).mono ?_
  rintro e w2 ⟨rfl, b2⟩
  have d2 := d1.trans (b2.mono d1.size)
  go_wp2
  go_ret
  exact ⟨rfl, d2⟩
set_option maxRecDepth 100000 in
set_option maxHeartbeats 1000000 in
theorem yt_tm (s : ByteArray) (x : Int) (w : World) (hr : rtN true s x = true) (h0 : x < 0) : Calls Tryd.prog 19 #[.agg #[.bool true, .string s, .int .i64 x]] w fun e w' => e = .returned (.string (textA true s x)) ∧ Below w.heap.size w w' := by
  have kR := yright_any true s x
  have hB' : Hid (NmAt (w.alloc (.cells #[.bool true, .string s, .int .i64 x] 23)) w.heap.size true s x) := box_at w true s x 23
  have hx := rtN_exp hr
  have hsz := (rt_size (rtN_rt hr)).2
  have hA : textA true s x = (⟨#[45]⟩ ++ s) ++ (⟨#[101, 45]⟩ ++ txt x.natAbs) := by
    apply bs_inj
    unfold textA
    rw [if_pos hr, bs_str text_bytes]
    unfold textL
    rw [if_pos rfl, if_neg (by omega)]
    unfold itoaL
    rw [if_pos h0]
    simp [bs_catW, bs_lit1, bs_lit2, bs_txt]
  rw [hA]
  rw [hr] at kR
  have e1 : decide (0 < x) = false := by simp; omega
  have e2 : decide (x < 0) = true := by simpa using h0
  obtain ⟨u, hu⟩ : ∃ u, x.natAbs = u := ⟨_, rfl⟩
  rw [hu]
  have kF := xfrw_any u (by omega)
  have v0 : IntKind.i64.wrap (-x) = ((u : Nat) : Int) := by rw [IntKind.wrap_i64] <;> omega
  have v1 : IntKind.u64.wrap ((u : Nat) : Int) = ((u : Nat) : Int) := by rw [IntKind.wrap_u64]; omega
  have hT : (txt u).size ≤ 20 := by rw [txt_size]; exact num_len20 (by omega)
  generalize txt u = T at *
  have t1 : ¬ 9223372036854775807 < 2 + T.size := by omega
  have t2 : ¬ 9223372036854775807 < 1 + s.size + (2 + T.size) := by omega
  clear hT hu
  have t0 : ¬ 9223372036854775807 < 1 + s.size := by omega
  clear hA hr hx hsz h0
  obtain ⟨b0, b1, b2⟩ := hB'.out
  go_enter Tryd.func19, Tryd.ntmps19
  go_wp2_with fail
  refine (kR _).mono ?_
  rintro e w1 ⟨rfl, hb⟩
  obtain ⟨c0, c1, c2⟩ := hB'.out.kept hb (alloc_lt _ _)
  have d1 := box_below hb
  clear b0 b1 b2 hb
  go_wp2_with fail
  refine (kF _).mono ?_
  rintro e w2 ⟨rfl, b2⟩
  have d2 := d1.trans (b2.mono d1.size)
  go_wp2
  go_ret
  exact ⟨rfl, d2⟩
set_option maxRecDepth 100000 in
set_option maxHeartbeats 1000000 in
theorem yt_fz (s : ByteArray) (x : Int) (w : World) (hr : rtN false s x = true) (h0 : x = 0) : Calls Tryd.prog 19 #[.agg #[.bool false, .string s, .int .i64 x]] w fun e w' => e = .returned (.string (textA false s x)) ∧ Below w.heap.size w w' := by
  have kR := yright_any false s x
  have hB' : Hid (NmAt (w.alloc (.cells #[.bool false, .string s, .int .i64 x] 23)) w.heap.size false s x) := box_at w false s x 23
  have hx := rtN_exp hr
  have hsz := (rt_size (rtN_rt hr)).2
  have hA : textA false s x = s := by
    apply bs_inj
    unfold textA
    rw [if_pos hr, bs_str text_bytes]
    unfold textL
    rw [if_neg (by simp), if_pos h0]
    simp
  rw [hA]
  rw [hr] at kR
  have e1 : decide (0 < x) = false := by simp; omega
  have e2 : decide (x < 0) = false := by simp; omega
  clear hA hr hx hsz h0
  obtain ⟨b0, b1, b2⟩ := hB'.out
  go_enter Tryd.func19, Tryd.ntmps19
  go_wp2_with fail
  refine (kR _).mono ?_
  rintro e w1 ⟨rfl, hb⟩
  obtain ⟨c0, c1, c2⟩ := hB'.out.kept hb (alloc_lt _ _)
  have d1 := box_below hb
  clear b0 b1 b2 hb
  go_wp2
  go_ret
  exact ⟨rfl, d1⟩
set_option maxRecDepth 100000 in
set_option maxHeartbeats 1000000 in
theorem yt_fp (s : ByteArray) (x : Int) (w : World) (hr : rtN false s x = true) (h0 : 0 < x) : Calls Tryd.prog 19 #[.agg #[.bool false, .string s, .int .i64 x]] w fun e w' => e = .returned (.string (textA false s x)) ∧ Below w.heap.size w w' := by
  have kR := yright_any false s x
  have hB' : Hid (NmAt (w.alloc (.cells #[.bool false, .string s, .int .i64 x] 23)) w.heap.size false s x) := box_at w false s x 23
  have hx := rtN_exp hr
  have hsz := (rt_size (rtN_rt hr)).2
  have hA : textA false s x = s ++ (⟨#[101]⟩ ++ txt x.natAbs) := by
    apply bs_inj
    unfold textA
    rw [if_pos hr, bs_str text_bytes]
    unfold textL
    rw [if_neg (by simp), if_neg (by omega)]
    unfold itoaL
    rw [if_neg (by omega), show x.toNat = x.natAbs from by omega]
    simp [bs_catW, bs_lit1, bs_txt]
  rw [hA]
  rw [hr] at kR
  have e1 : decide (0 < x) = true := by simpa using h0
  obtain ⟨u, hu⟩ : ∃ u, x.natAbs = u := ⟨_, rfl⟩
  rw [hu]
  have kF := xfrw_any u (by omega)
  have v1 : IntKind.u64.wrap x = ((u : Nat) : Int) := by rw [IntKind.wrap_u64]; omega
  have hT : (txt u).size ≤ 20 := by rw [txt_size]; exact num_len20 (by omega)
  generalize txt u = T at *
  have t1 : ¬ 9223372036854775807 < 1 + T.size := by omega
  have t2 : ¬ 9223372036854775807 < s.size + (1 + T.size) := by omega
  clear hT hu
  clear hA hr hx hsz h0
  obtain ⟨b0, b1, b2⟩ := hB'.out
  go_enter Tryd.func19, Tryd.ntmps19
  go_wp2_with fail
  refine (kR _).mono ?_
  rintro e w1 ⟨rfl, hb⟩
  obtain ⟨c0, c1, c2⟩ := hB'.out.kept hb (alloc_lt _ _)
  have d1 := box_below hb
  clear b0 b1 b2 hb
  go_wp2_with fail
  refine (kF _).mono ?_
  rintro e w2 ⟨rfl, b2⟩
  have d2 := d1.trans (b2.mono d1.size)
  go_wp2
  go_ret
  exact ⟨rfl, d2⟩
set_option maxRecDepth 100000 in
set_option maxHeartbeats 1000000 in
theorem yt_fm (s : ByteArray) (x : Int) (w : World) (hr : rtN false s x = true) (h0 : x < 0) : Calls Tryd.prog 19 #[.agg #[.bool false, .string s, .int .i64 x]] w fun e w' => e = .returned (.string (textA false s x)) ∧ Below w.heap.size w w' := by
  have kR := yright_any false s x
  have hB' : Hid (NmAt (w.alloc (.cells #[.bool false, .string s, .int .i64 x] 23)) w.heap.size false s x) := box_at w false s x 23
  have hx := rtN_exp hr
  have hsz := (rt_size (rtN_rt hr)).2
  have hA : textA false s x = s ++ (⟨#[101, 45]⟩ ++ txt x.natAbs) := by
    apply bs_inj
    unfold textA
    rw [if_pos hr, bs_str text_bytes]
    unfold textL
    rw [if_neg (by simp), if_neg (by omega)]
    unfold itoaL
    rw [if_pos h0]
    simp [bs_catW, bs_lit2, bs_txt]
  rw [hA]
  rw [hr] at kR
  have e1 : decide (0 < x) = false := by simp; omega
  have e2 : decide (x < 0) = true := by simpa using h0
  obtain ⟨u, hu⟩ : ∃ u, x.natAbs = u := ⟨_, rfl⟩
  rw [hu]
  have kF := xfrw_any u (by omega)
  have v0 : IntKind.i64.wrap (-x) = ((u : Nat) : Int) := by rw [IntKind.wrap_i64] <;> omega
  have v1 : IntKind.u64.wrap ((u : Nat) : Int) = ((u : Nat) : Int) := by rw [IntKind.wrap_u64]; omega
  have hT : (txt u).size ≤ 20 := by rw [txt_size]; exact num_len20 (by omega)
  generalize txt u = T at *
  have t1 : ¬ 9223372036854775807 < 2 + T.size := by omega
  have t2 : ¬ 9223372036854775807 < s.size + (2 + T.size) := by omega
  clear hT hu
  clear hA hr hx hsz h0
  obtain ⟨b0, b1, b2⟩ := hB'.out
  go_enter Tryd.func19, Tryd.ntmps19
  go_wp2_with fail
  refine (kR _).mono ?_
  rintro e w1 ⟨rfl, hb⟩
  obtain ⟨c0, c1, c2⟩ := hB'.out.kept hb (alloc_lt _ _)
  have d1 := box_below hb
  clear b0 b1 b2 hb
  go_wp2_with fail
  refine (kF _).mono ?_
  rintro e w2 ⟨rfl, b2⟩
  have d2 := d1.trans (b2.mono d1.size)
  go_wp2
  go_ret
  exact ⟨rfl, d2⟩
theorem ytext_any (n : Bool) (s : ByteArray) (x : Int) (w : World) : Calls Tryd.prog 19 #[.agg #[.bool n, .string s, .int .i64 x]] w fun e w' => e = .returned (.string (textA n s x)) ∧ Below w.heap.size w w' := by
  cases hr : rtN n s x with
  | false =>
    have kR := yright_any n s x
    rw [show textA n s x = noS from by unfold textA; rw [hr]; rfl]
    rw [hr] at kR
    obtain ⟨b0, b1, b2⟩ := box_at w n s x 23
    clear hr
    go_enter Tryd.func19, Tryd.ntmps19
    go_wp2_with (go_at_call 17; refine (kR _).mono ?_; rintro e w1 ⟨rfl, hb⟩)
    go_ret
    exact ⟨rfl, box_below hb⟩
  | true =>
    rcases Int.lt_trichotomy x 0 with h | h | h
    · cases n with
      | true => exact yt_tm s x w hr h
      | false => exact yt_fm s x w hr h
    · cases n with
      | true => exact yt_tz s x w hr h
      | false => exact yt_fz s x w hr h
    · cases n with
      | true => exact yt_tp s x w hr h
      | false => exact yt_fp s x w hr h
end Go.Proofs.YtcnfgmhcbelgoaaDoor
