/-
  Where a byte, or a character, stands in a text: strings.IndexByte, strings.IndexRune; the gaps ahead: jlex.behindGaps.
-/
import Derived.Test.YtfkoghmbkgbgbaaDoorUwhl
import Derived.Test.YtfkoghmbkgbgbaaDoorLib
import Derived.Test.YtfkoghmbkgbgbaaDoorJpm
import Derived.Shelf.Strings.Search1
import Derived.Laws.Runes
import Derived.Deep.RegionHeld3
namespace Go.Proofs.YtfkoghmbkgbgbaaDoor
open Go.RowKit
set_option linter.unusedVariables false

/-- strings.IndexByte. -/
theorem ib_any (s : ByteArray) (c : Int) (w : World) : Calls Tryd.prog 33 #[.string s, .int .u8 c] w fun e w' => e = .returned (.int .i64 (Lib.indexByte s.data.toList c.toNat.toUInt8)) ∧ w' = w := by
  have k : Calls Tryd.prog 52 #[.string s, .int .u8 c] w fun e w' => e = .returned (.int .i64 (Lib.indexByte s.data.toList c.toNat.toUInt8)) ∧ w' = w := Any.stringslite_IndexByte lays217 s c w
  generalize Lib.indexByte s.data.toList c.toNat.toUInt8 = X at *
  go_enter Tryd.func33, Tryd.ntmps33
  go_wp2_with (go_at_call 52; refine k.mono ?_; rintro e w1 ⟨rfl, hw⟩; subst hw)
  go_ret
  exact ⟨rfl, rfl⟩
set_option maxRecDepth 100000 in
theorem gap_ix : ∀ c : Nat, c < 256 → decide (0 ≤ Lib.indexByte [32, 9, 10, 13] ((c : Int).toNat.toUInt8)) = isGap (c : Int) := by decide
theorem gap_any (c : Nat) (hc : c < 256) (w : World) : Calls Tryd.prog 33 #[.string ⟨#[32, 9, 10, 13]⟩, .int .u8 (c : Int)] w fun e w' => (∃ X, e = .returned (.int .i64 X) ∧ decide (0 ≤ X) = isGap (c : Int)) ∧ w' = w :=
  (ib_any ⟨#[32, 9, 10, 13]⟩ (c : Int) w).mono fun e w' ⟨h1, h2⟩ => ⟨⟨_, h1, gap_ix c hc⟩, h2⟩
theorem gapN_yes {b : List Int} {k : Nat} (hk : k < b.length) (h : isGap (b.getD k 0) = true) : gapN (b.drop k) = gapN (b.drop (k + 1)) + 1 := by
  rw [List.drop_eq_getElem_cons hk, gapN, if_pos]
  rw [List.getD_eq_getElem?_getD, List.getElem?_eq_getElem hk] at h
  exact h
theorem gapN_no {b : List Int} {k : Nat} (hk : k < b.length) (h : isGap (b.getD k 0) = false) : gapN (b.drop k) = 0 := by
  rw [List.drop_eq_getElem_cons hk, gapN, if_neg]
  rw [List.getD_eq_getElem?_getD, List.getElem?_eq_getElem hk] at h
  simpa using h
set_option maxHeartbeats 2000000 in
/-- jlex.behindGaps. -/
theorem gaps_any (s : ByteArray) (p : Nat) (w : World) (hp : p ≤ s.size) (hs : s.size ≤ 1000000) :
    Calls Tryd.prog 19 #[.string s, .int .i64 (p : Int)] w fun e w' => e = .returned (.int .i64 ((p + gapN ((bs s).drop p) : Nat) : Int)) ∧ w' = w := by
  obtain ⟨R, hR⟩ : ∃ R, R = p + gapN ((bs s).drop p) := ⟨_, rfl⟩
  rw [← hR]
  have hR' : Hid (p + gapN ((bs s).drop p) = R) := hR.symm
  clear hR
  go_enter Tryd.func19, Tryd.ntmps19
  go_wp2
  go_loopw [1] (fun v wr => ∃ k : Nat, k ≤ s.size ∧ v = .int .i64 k ∧ Hid (wr = w) ∧ Hid (k + gapN ((bs s).drop k) = R)) (fun v _ => s.size - (intOf v).toNat)
  case atStart => exact ⟨p, hp, rfl, rfl, hR'⟩
  case round =>
    obtain ⟨k, hk, rfl, hw, hE⟩ := hrel
    by_cases hlt : k < s.size
    · have hz : (k : Int) < ((s.size : Nat) : Int) := by omega
      have bk := bs_at s hlt
      have k1 := gap_any (s[k]'hlt).toNat (UInt8.toNat_lt _) wr
      have hgl : k < (bs s).length := by rw [bs_len]; exact hlt
      have wk : IntKind.i64.wrap ((k : Int) + 1) = ((k + 1 : Nat) : Int) := by rw [IntKind.wrap_i64]; omega
      cases hg : isGap (((s[k]'hlt).toNat : Nat) : Int) with
      | true =>
        have hE' : Hid (k + 1 + gapN ((bs s).drop (k + 1)) = R) := by
          show _ = _
          rw [← hE.out, gapN_yes hgl (by rw [bk]; exact hg)]; omega
        rw [hg] at k1
        clear hg bk hgl
        go_wp2_with (go_at_call 33; refine k1.mono ?_; rintro e w1 ⟨⟨X, rfl, hX⟩, hw1⟩; obtain rfl : wr = w1 := hw1.symm)
        go_roundw
        case rel => exact ⟨k + 1, by omega, by go_num, hw, hE'⟩
        case measure => simp [intOf]; omega
      | false =>
        have hE' : k = R := by rw [← hE.out, gapN_no hgl (by rw [bk]; exact hg)]; omega
        subst hE'
        rw [hg] at k1
        clear hg bk hgl
        go_wp2_with (go_at_call 33; refine k1.mono ?_; rintro e w1 ⟨⟨X, rfl, hX⟩, hw1⟩; obtain rfl : wr = w1 := hw1.symm)
        go_ret
        exact ⟨rfl, hw.out⟩
    · have hz : ¬ (k : Int) < ((s.size : Nat) : Int) := by omega
      have hE' : k = R := by
        rw [← hE.out, List.drop_of_length_le (by rw [bs_len]; omega)]; rfl
      subst hE'
      go_wp2
      go_ret
      exact ⟨rfl, hw.out⟩

set_option maxHeartbeats 1000000 in
/-- utf8.ValidRune. -/
theorem valid_any (r : Nat) (hr : Right r) (w : World) : Calls Tryd.prog 67 #[.int .i32 (r : Int)] w fun e w' => e = .returned (.bool true) ∧ w' = w := by
  unfold Right at hr
  have a0 : decide ((0 : Int) ≤ (r : Int)) = true := by simp
  by_cases h : r < 55296
  · have a1 : decide ((r : Int) < 55296) = true := by simp; omega
    clear h hr
    go_enter Tryd.func67, Tryd.ntmps67
    go_wp2
    go_ret
    exact ⟨rfl, rfl⟩
  · have a1 : decide ((r : Int) < 55296) = false := by simp; omega
    have a2 : decide ((57343 : Int) < (r : Int)) = true := by simp; omega
    have a3 : decide ((r : Int) ≤ 1114111) = true := by simp; omega
    clear h hr
    go_enter Tryd.func67, Tryd.ntmps67
    go_wp2
    go_ret
    exact ⟨rfl, rfl⟩
set_option maxHeartbeats 2000000 in
set_option maxRecDepth 100000 in
theorem ir_ascii (s : ByteArray) (r : Nat) (hr : r < 128) (w : World) : Calls Tryd.prog 46 #[.string s, .int .i32 (r : Int)] w fun e w' => e = .returned (.int .i64 (Lib.indexByte s.data.toList ((r : Int).toNat.toUInt8))) ∧ w' = w := by
  have k := ib_any s (r : Int) w
  generalize Lib.indexByte s.data.toList ((r : Int).toNat.toUInt8) = X at *
  have a0 : decide ((0 : Int) ≤ (r : Int)) = true := by simp
  have a1 : decide ((r : Int) < 128) = true := by simp; omega
  have w1 : IntKind.u8.wrap (r : Int) = (r : Int) := by rw [IntKind.wrap_u8]; omega
  clear hr
  go_enter Tryd.func46, Tryd.ntmps46
  go_wp2_with (go_at_call 33; refine k.mono ?_; rintro e w1 ⟨rfl, hw⟩; subst hw)
  go_ret
  exact ⟨rfl, rfl⟩
/-- All its bytes are below 128. -/
def Ascii (s : ByteArray) : Prop := ∀ b ∈ s.data.toList, b.toNat < 128
theorem ascii_at {s : ByteArray} (hs : Ascii s) {k : Nat} (h : k < s.size) : (s[k]'h).toNat < 128 := hs _ (by
  have : s[k]'h = s.data.toList[k]'(by simpa using h) := rfl
  rw [this]
  exact List.getElem_mem _)
theorem ascii_decode {s : ByteArray} (hs : Ascii s) {k : Nat} (h : k < s.size) : Utf8.decode s k = ((s[k]'h).toNat, 1) := by
  have hz := bs_bytes s
  have e : s = strOfNums (bs s) := (str_bs s).symm
  have hk : k < (bs s).length := by rw [bs_len]; exact h
  have h0 : nth ((bs s).drop k) 0 = (s[k]'h).toNat := by
    rw [nth_drop]
    unfold nth
    rw [Nat.add_zero, bs_at s h]
    rfl
  have hlt := ascii_at hs h
  have hl : lenB ((bs s).drop k) = 1 := by
    unfold lenB lenN
    rw [h0, if_pos hlt]
  have hG : Good ((bs s).drop k) := by
    have hL : lenN (nth ((bs s).drop k) 0) = 1 := hl
    unfold Good GoodN
    rw [hL]
    exact ⟨by omega, fun h => by omega, fun h => by omega, fun h => by omega⟩
  have hv : valB ((bs s).drop k) = (s[k]'h).toNat := by
    unfold valB valN
    rw [h0, if_pos hlt]
  conv => lhs; rw [e]
  rw [decode_good hz hG, hv, hl]
set_option maxHeartbeats 2000000 in
set_option maxRecDepth 100000 in
theorem ir_odd (s : ByteArray) (hs : Ascii s) (w : World) : Calls Tryd.prog 46 #[.string s, .int .i32 65533] w fun e w' => e = .returned (.int .i64 (-1)) ∧ Below w.heap.size w w' := by
  have hS : Hid (Ascii s) := hs
  clear hs
  go_enter Tryd.func46, Tryd.ntmps46
  go_wp2
  go_loopw [] (fun wr => ∃ pos : Nat, wr = w.iter s pos ∧ pos ≤ s.size) (fun wr => s.size - wr.iterPos w.heap.size)
  case atStart => exact ⟨0, rfl, Nat.zero_le _⟩
  case round =>
    obtain ⟨pos, rfl, hp⟩ := hrel
    by_cases hlt : pos < s.size
    · have hd := ascii_decode hS.out hlt
      have ha := ascii_at hS.out hlt
      have hnx : ∀ ty, (Instr.next (.pointer (some ⟨w.heap.size, 0, none⟩)) true ty).run Tryd.prog (w.iter s pos) = .ok (.tuple #[.bool true, .int .i64 pos, .int .i32 (((s[pos]'hlt).toNat : Nat) : Int)]) (w.iter s (pos + 1)) := fun ty => by
        rw [run_next_any w s pos ty hlt, hd]
      generalize (s[pos]'hlt).toNat = V at *
      have hV : (((V : Nat) : Int) == 65533) = false := by simp; omega
      clear hd ha
      go_wp2
      go_roundw
      case rel => exact ⟨pos + 1, rfl, by omega⟩
      case measure => simp; omega
    · obtain rfl : pos = s.size := by omega
      have hnx : ∀ ty, (Instr.next (.pointer (some ⟨w.heap.size, 0, none⟩)) true ty).run Tryd.prog (w.iter s s.size) = _ := fun ty => run_next_end w s s.size ty (by omega)
      go_wp2
      go_ret
      exact ⟨rfl, iter_below w s _⟩
set_option maxHeartbeats 4000000 in
set_option maxRecDepth 100000 in
theorem ir_big (s : ByteArray) (hs : Ascii s) (h4 : 4 ≤ s.size) (h5 : s.size ≤ 1000) (r : Nat) (hr : Right r) (h128 : 128 ≤ r) (hodd : r ≠ 65533) (w : World) : Calls Tryd.prog 46 #[.string s, .int .i32 (r : Int)] w fun e w' => e = .returned (.int .i64 (-1)) ∧ Below w.heap.size w w' := by
  have kV := fun w' => valid_any r hr w'
  have hv : Utf8.valid (r : Int) = true := by
    unfold Right at hr
    unfold Utf8.valid
    simp
    omega
  obtain ⟨e1, e2, e3⟩ := encode_facts (r : Int) hv (by omega)
  have a0 : decide ((0 : Int) ≤ (r : Int)) = true := by simp
  have a1 : decide ((r : Int) < 128) = false := by simp; omega
  have a2 : (((r : Nat) : Int) == 65533) = false := by simp; omega
  generalize hE : Utf8.encode (r : Int) = E at *
  obtain ⟨m, hm⟩ : ∃ m, E.size = m + 1 := ⟨E.size - 1, by omega⟩
  have hmE : m < E.size := by omega
  have hms : m < s.size := by omega
  have W1 : IntKind.i64.wrap (((E.size : Nat) : Int) - 1) = ((m : Nat) : Int) := by rw [IntKind.wrap_i64]; omega
  have W2 : IntKind.i64.wrap (((m : Nat) : Int) + 1) = ((m : Nat) : Int) + 1 := by rw [IntKind.wrap_i64]; omega
  have hlast : 128 ≤ (E[m]'hmE).toNat := by
    have := e3 (by omega)
    have e : E.size - 1 = m := by omega
    simpa only [e] using this
  have hfst := ascii_at hs hms
  have hne : ((((s[m]'hms).toNat : Nat) : Int) != (((E[m]'hmE).toNat : Nat) : Int)) = true := by simp; omega
  have kI : ∀ w0, Calls Tryd.prog 33 #[.string (s.extract (m + 1) s.size), .int .u8 (((E[m]'hmE).toNat : Nat) : Int)] w0 fun e w' => e = .returned (.int .i64 (-1)) ∧ w' = w0 := fun w0 => by
    have k := ib_any (s.extract (m + 1) s.size) (((E[m]'hmE).toNat : Nat) : Int) w0
    have hx : Lib.indexByte (s.extract (m + 1) s.size).data.toList (((((E[m]'hmE).toNat : Nat) : Int)).toNat.toUInt8) = -1 := by
      rw [← Lib.firstIdx_eq]
      refine firstIdx_ascii s _ _ _ hs ?_
      have e : (((((E[m]'hmE).toNat : Nat) : Int)).toNat.toUInt8) = E[m]'hmE := by
        rw [Int.toNat_natCast, Nat.toUInt8, UInt8.ofNat_toNat]
      rw [e]; exact hlast
    rwa [hx] at k
  have hm1 : m + 1 ≤ s.size := by omega
  have hz : (m : Int) < ((s.size : Nat) : Int) := by omega
  have hz0 : (0 : Int) ≤ (m : Int) + 1 := by omega
  have hz1 : (m : Int) + 1 ≤ ((s.size : Nat) : Int) := by omega
  clear e1 e2 e3 hlast hfst hr h128 hodd hv hm
  go_enter Tryd.func46, Tryd.ntmps46
  go_wp2_with (go_at_call 67; refine (kV _).mono ?_; rintro e w1 ⟨rfl, hw⟩; obtain rfl : w = w1 := hw.symm)
  go_step3
  go_wp2
  go_loopw [9] (fun v wr => v = .int .i64 m ∧ wr = w) (fun _ _ => 0)
  case atStart => exact ⟨rfl, rfl⟩
  case round =>
    obtain ⟨rfl, rfl⟩ := hrel
    go_wp2
    go_step3
    go_wp2
    go_quiet (fail)
    go_wp2
    go_region_held3 (fun _ => True) (trivial) (first
      | (go_at_call 33; refine (kI _).mono ?_; rintro e w1 ⟨rfl, hw1⟩; have B1 : Hid (Below wr.heap.size wr w1) := (by (rw [hw1]; exact ⟨rfl, rfl, rfl, Nat.le_refl _, fun _ _ => rfl⟩)); clear hw1))
    go_wp2
    rw [Exit.noGoto_ret]
    change bodyPost Tryd.prog Tryd.f46 (fun e w' => e = Ending.returned (Value.int IntKind.i64 (-1)) ∧ Below wr.heap.size wr w') Exit.ret _ w1
    go_ret
    exact ⟨rfl, B1.out⟩
/-- strings.IndexRune of ASCII signs. -/
theorem ir_any (s : ByteArray) (hs : Ascii s) (h4 : 4 ≤ s.size) (h5 : s.size ≤ 1000) (r : Nat) (hr : Right r) (w : World) : Calls Tryd.prog 46 #[.string s, .int .i32 (r : Int)] w fun e w' => e = .returned (.int .i64 (if r < 128 then Lib.indexByte s.data.toList ((r : Int).toNat.toUInt8) else -1)) ∧ Below w.heap.size w w' := by
  by_cases h : r < 128
  · rw [if_pos h]
    exact (ir_ascii s r h w).mono fun e w' ⟨h1, h2⟩ => ⟨h1, by rw [h2]; exact Below.refl _ _⟩
  · rw [if_neg h]
    by_cases ho : r = 65533
    · subst ho
      exact ir_odd s hs w
    · exact ir_big s hs h4 h5 r hr (by omega) ho w
/-- The signs that tell a character behind a backslash, and the characters that they mean. -/
def sgnS : ByteArray := ⟨#[34, 92, 98, 102, 110, 114, 116]⟩
def meanS : ByteArray := ⟨#[34, 92, 8, 12, 10, 13, 9]⟩
theorem sgn_ascii : Ascii sgnS := by unfold Ascii sgnS; decide
theorem mean_ascii : Ascii meanS := by unfold Ascii meanS; decide
/-- Where a sign stands among them. -/
def sgnI (r : Nat) : Int := if r = 34 then 0 else if r = 92 then 1 else if r = 98 then 2 else if r = 102 then 3 else if r = 110 then 4 else if r = 114 then 5 else if r = 116 then 6 else -1
def meanI (r : Nat) : Int := if r = 34 then 0 else if r = 92 then 1 else if r = 8 then 2 else if r = 12 then 3 else if r = 10 then 4 else if r = 13 then 5 else if r = 9 then 6 else -1
set_option maxRecDepth 100000 in
theorem sgn_ix : ∀ r : Nat, r < 128 → Lib.indexByte sgnS.data.toList ((r : Int).toNat.toUInt8) = sgnI r := by decide
set_option maxRecDepth 100000 in
theorem mean_ix : ∀ r : Nat, r < 128 → Lib.indexByte meanS.data.toList ((r : Int).toNat.toUInt8) = meanI r := by decide
theorem sgn_big {r : Nat} (h : ¬ r < 128) : sgnI r = -1 := by
  unfold sgnI
  rw [if_neg (by omega), if_neg (by omega), if_neg (by omega), if_neg (by omega), if_neg (by omega), if_neg (by omega), if_neg (by omega)]
theorem mean_big {r : Nat} (h : ¬ r < 128) : meanI r = -1 := by
  unfold meanI
  rw [if_neg (by omega), if_neg (by omega), if_neg (by omega), if_neg (by omega), if_neg (by omega), if_neg (by omega), if_neg (by omega)]
theorem sgn_any (r : Nat) (hr : Right r) (w : World) : Calls Tryd.prog 46 #[.string ⟨#[34, 92, 98, 102, 110, 114, 116]⟩, .int .i32 (r : Int)] w fun e w' => e = .returned (.int .i64 (sgnI r)) ∧ Below w.heap.size w w' := by
  refine (ir_any sgnS sgn_ascii (by decide) (by decide) r hr w).mono ?_
  rintro e w' ⟨h1, h2⟩
  refine ⟨?_, h2⟩
  rw [h1]
  by_cases h : r < 128
  · rw [if_pos h, sgn_ix r h]
  · rw [if_neg h, sgn_big h]
theorem mean_any (r : Nat) (hr : Right r) (w : World) : Calls Tryd.prog 46 #[.string ⟨#[34, 92, 8, 12, 10, 13, 9]⟩, .int .i32 (r : Int)] w fun e w' => e = .returned (.int .i64 (meanI r)) ∧ Below w.heap.size w w' := by
  refine (ir_any meanS mean_ascii (by decide) (by decide) r hr w).mono ?_
  rintro e w' ⟨h1, h2⟩
  refine ⟨?_, h2⟩
  rw [h1]
  by_cases h : r < 128
  · rw [if_pos h, mean_ix r h]
  · rw [if_neg h, mean_big h]
end Go.Proofs.YtfkoghmbkgbgbaaDoor
