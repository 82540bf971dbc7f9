/-
  Where a byte, or a character, stands in a text: strings.IndexByte, strings.IndexRune; the gaps ahead: jlex.behindGaps.
  What reads a string's characters: behind a backslash; one more character: (*jlex.reader).take.
  What reads a string's characters: one more character: (*jlex.reader).take.
  How far a character is begun that is not whole.
  Rows of runes: read, made, appended to, compared; what Go's '[]rune(s)' lays.
  Whether bytes are a text, and a text's characters, in the program.
-/
import Derived.Test.YtmlacmoembjeoaaGreatDoorG8
import Derived.Test.YtmlacmoembjeoaaGreatDoorG4
import Derived.Shelf.Strings.Search1
import Derived.Laws.Runes
import Derived.Deep.RegionHeld3
import Derived.Deep.DeepAppendWide
import Derived.Deep.QuietTactic
import Derived.BigQuiet
import Derived.RegionTactic
import Derived.ChangeAlike
namespace Go.Proofs.YtmlacmoembjeoaaGreatDoor
open Go.RowKit
set_option linter.unusedVariables false

/-- strings.IndexByte. -/
theorem ib_any (s : ByteArray) (c : Int) (w : World) : Calls Tryz.prog 71 #[.string s, .int .u8 c] w fun e w' => e = .returned (.int .i64 (Lib.indexByte s.data.toList c.toNat.toUInt8)) ∧ w' = w := by
  have k : Calls Tryz.prog 88 #[.string s, .int .u8 c] w fun e w' => e = .returned (.int .i64 (Lib.indexByte s.data.toList c.toNat.toUInt8)) ∧ w' = w := Any.stringslite_IndexByte lays217 s c w
  generalize Lib.indexByte s.data.toList c.toNat.toUInt8 = X at *
  go_enter Tryz.func71, Tryz.ntmps71
  go_wp2_with (go_at_call 88; refine k.mono ?_; rintro e w1 ⟨rfl, hw⟩; subst hw)
  go_ret
  exact ⟨rfl, rfl⟩
set_option maxRecDepth 100000 in
theorem gap_ix : ∀ c : Nat, c < 256 → decide (0 ≤ Lib.indexByte [32, 9, 10, 13] ((c : Int).toNat.toUInt8)) = isGap (c : Int) := by decide
theorem gap_any (c : Nat) (hc : c < 256) (w : World) : Calls Tryz.prog 71 #[.string ⟨#[32, 9, 10, 13]⟩, .int .u8 (c : Int)] w fun e w' => (∃ X, e = .returned (.int .i64 X) ∧ decide (0 ≤ X) = isGap (c : Int)) ∧ w' = w :=
  (ib_any ⟨#[32, 9, 10, 13]⟩ (c : Int) w).mono fun e w' ⟨h1, h2⟩ => ⟨⟨_, h1, gap_ix c hc⟩, h2⟩
theorem gapN_yes {b : List Int} {k : Nat} (hk : k < b.length) (h : isGap (b.getD k 0) = true) : gapN (b.drop k) = gapN (b.drop (k + 1)) + 1 := by
  rw [List.drop_eq_getElem_cons hk, gapN, if_pos]
  rw [List.getD_eq_getElem?_getD, List.getElem?_eq_getElem hk] at h
  exact h
theorem gapN_no {b : List Int} {k : Nat} (hk : k < b.length) (h : isGap (b.getD k 0) = false) : gapN (b.drop k) = 0 := by
  rw [List.drop_eq_getElem_cons hk, gapN, if_neg]
  rw [List.getD_eq_getElem?_getD, List.getElem?_eq_getElem hk] at h
  simpa using h
set_option maxHeartbeats 2000000 in
/-- jlex.behindGaps. -/
theorem gaps_any (s : ByteArray) (p : Nat) (w : World) (hp : p ≤ s.size) (hs : s.size ≤ 1000000) :
    Calls Tryz.prog 44 #[.string s, .int .i64 (p : Int)] w fun e w' => e = .returned (.int .i64 ((p + gapN ((bs s).drop p) : Nat) : Int)) ∧ w' = w := by
  obtain ⟨R, hR⟩ : ∃ R, R = p + gapN ((bs s).drop p) := ⟨_, rfl⟩
  rw [← hR]
  have hR' : Hid (p + gapN ((bs s).drop p) = R) := hR.symm
  clear hR
  go_enter Tryz.func44, Tryz.ntmps44
  go_wp2
  go_loopw [1] (fun v wr => ∃ k : Nat, k ≤ s.size ∧ v = .int .i64 k ∧ Hid (wr = w) ∧ Hid (k + gapN ((bs s).drop k) = R)) (fun v _ => s.size - (intOf v).toNat)
  case atStart => exact ⟨p, hp, rfl, rfl, hR'⟩
  case round =>
    obtain ⟨k, hk, rfl, hw, hE⟩ := hrel
    by_cases hlt : k < s.size
    · have hz : (k : Int) < ((s.size : Nat) : Int) := by omega
      have bk := bs_at s hlt
      have k1 := gap_any (s[k]'hlt).toNat (UInt8.toNat_lt _) wr
      have hgl : k < (bs s).length := by rw [bs_len]; exact hlt
      have wk : IntKind.i64.wrap ((k : Int) + 1) = ((k + 1 : Nat) : Int) := by rw [IntKind.wrap_i64]; omega
      cases hg : isGap (((s[k]'hlt).toNat : Nat) : Int) with
      | true =>
        have hE' : Hid (k + 1 + gapN ((bs s).drop (k + 1)) = R) := by
          show _ = _
          rw [← hE.out, gapN_yes hgl (by rw [bk]; exact hg)]; omega
        rw [hg] at k1
        clear hg bk hgl
        go_wp2_with (go_at_call 71; refine k1.mono ?_; rintro e w1 ⟨⟨X, rfl, hX⟩, hw1⟩; obtain rfl : wr = w1 := hw1.symm)
        go_roundw
        case rel => exact ⟨k + 1, by omega, by go_num, hw, hE'⟩
        case measure => simp [intOf]; omega
      | false =>
        have hE' : k = R := by rw [← hE.out, gapN_no hgl (by rw [bk]; exact hg)]; omega
        subst hE'
        rw [hg] at k1
        clear hg bk hgl
        go_wp2_with (go_at_call 71; refine k1.mono ?_; rintro e w1 ⟨⟨X, rfl, hX⟩, hw1⟩; obtain rfl : wr = w1 := hw1.symm)
        go_ret
        exact ⟨rfl, hw.out⟩
    · have hz : ¬ (k : Int) < ((s.size : Nat) : Int) := by omega
      have hE' : k = R := by
        rw [← hE.out, List.drop_of_length_le (by rw [bs_len]; omega)]; rfl
      subst hE'
      go_wp2
      go_ret
      exact ⟨rfl, hw.out⟩

set_option maxHeartbeats 1000000 in
/-- utf8.ValidRune. -/
theorem valid_any (r : Nat) (hr : Right r) (w : World) : Calls Tryz.prog 155 #[.int .i32 (r : Int)] w fun e w' => e = .returned (.bool true) ∧ w' = w := by
  unfold Right at hr
  have a0 : decide ((0 : Int) ≤ (r : Int)) = true := by simp
  by_cases h : r < 55296
  · have a1 : decide ((r : Int) < 55296) = true := by simp; omega
    clear h hr
    go_enter Tryz.func155, Tryz.ntmps155
    go_wp2
    go_ret
    exact ⟨rfl, rfl⟩
  · have a1 : decide ((r : Int) < 55296) = false := by simp; omega
    have a2 : decide ((57343 : Int) < (r : Int)) = true := by simp; omega
    have a3 : decide ((r : Int) ≤ 1114111) = true := by simp; omega
    clear h hr
    go_enter Tryz.func155, Tryz.ntmps155
    go_wp2
    go_ret
    exact ⟨rfl, rfl⟩
set_option maxHeartbeats 2000000 in
set_option maxRecDepth 100000 in
theorem ir_ascii (s : ByteArray) (r : Nat) (hr : r < 128) (w : World) : Calls Tryz.prog 139 #[.string s, .int .i32 (r : Int)] w fun e w' => e = .returned (.int .i64 (Lib.indexByte s.data.toList ((r : Int).toNat.toUInt8))) ∧ w' = w := by
  have k := ib_any s (r : Int) w
  generalize Lib.indexByte s.data.toList ((r : Int).toNat.toUInt8) = X at *
  have a0 : decide ((0 : Int) ≤ (r : Int)) = true := by simp
  have a1 : decide ((r : Int) < 128) = true := by simp; omega
  have w1 : IntKind.u8.wrap (r : Int) = (r : Int) := by rw [IntKind.wrap_u8]; omega
  clear hr
  go_enter Tryz.func139, Tryz.ntmps139
  go_wp2_with (go_at_call 71; refine k.mono ?_; rintro e w1 ⟨rfl, hw⟩; subst hw)
  go_ret
  exact ⟨rfl, rfl⟩
/-- All its bytes are below 128. -/
def Ascii (s : ByteArray) : Prop := ∀ b ∈ s.data.toList, b.toNat < 128
theorem ascii_at {s : ByteArray} (hs : Ascii s) {k : Nat} (h : k < s.size) : (s[k]'h).toNat < 128 := hs _ (by
  have : s[k]'h = s.data.toList[k]'(by simpa using h) := rfl
  rw [this]
  exact List.getElem_mem _)
theorem ascii_decode {s : ByteArray} (hs : Ascii s) {k : Nat} (h : k < s.size) : Utf8.decode s k = ((s[k]'h).toNat, 1) := by
  have hz := bs_bytes s
  have e : s = strOfNums (bs s) := (str_bs s).symm
  have hk : k < (bs s).length := by rw [bs_len]; exact h
  have h0 : nth ((bs s).drop k) 0 = (s[k]'h).toNat := by
    rw [nth_drop]
    unfold nth
    rw [Nat.add_zero, bs_at s h]
    rfl
  have hlt := ascii_at hs h
  have hl : lenB ((bs s).drop k) = 1 := by
    unfold lenB lenN
    rw [h0, if_pos hlt]
  have hG : Good ((bs s).drop k) := by
    have hL : lenN (nth ((bs s).drop k) 0) = 1 := hl
    unfold Good GoodN
    rw [hL]
    exact ⟨by omega, fun h => by omega, fun h => by omega, fun h => by omega⟩
  have hv : valB ((bs s).drop k) = (s[k]'h).toNat := by
    unfold valB valN
    rw [h0, if_pos hlt]
  conv => lhs; rw [e]
  rw [decode_good hz hG, hv, hl]
set_option maxHeartbeats 2000000 in
set_option maxRecDepth 100000 in
theorem ir_odd (s : ByteArray) (hs : Ascii s) (w : World) : Calls Tryz.prog 139 #[.string s, .int .i32 65533] w fun e w' => e = .returned (.int .i64 (-1)) ∧ Below w.heap.size w w' := by
  have hS : Hid (Ascii s) := hs
  clear hs
  go_enter Tryz.func139, Tryz.ntmps139
  go_wp2
  go_loopw [] (fun wr => ∃ pos : Nat, wr = w.iter s pos ∧ pos ≤ s.size) (fun wr => s.size - wr.iterPos w.heap.size)
  case atStart => exact ⟨0, rfl, Nat.zero_le _⟩
  case round =>
    obtain ⟨pos, rfl, hp⟩ := hrel
    by_cases hlt : pos < s.size
    · have hd := ascii_decode hS.out hlt
      have ha := ascii_at hS.out hlt
      have hnx : ∀ ty, (Instr.next (.pointer (some ⟨w.heap.size, 0, none⟩)) true ty).run Tryz.prog (w.iter s pos) = .ok (.tuple #[.bool true, .int .i64 pos, .int .i32 (((s[pos]'hlt).toNat : Nat) : Int)]) (w.iter s (pos + 1)) := fun ty => by
        rw [run_next_any w s pos ty hlt, hd]
      generalize (s[pos]'hlt).toNat = V at *
      have hV : (((V : Nat) : Int) == 65533) = false := by simp; omega
      clear hd ha
      go_wp2
      go_roundw
      case rel => exact ⟨pos + 1, rfl, by omega⟩
      case measure => simp; omega
    · obtain rfl : pos = s.size := by omega
      have hnx : ∀ ty, (Instr.next (.pointer (some ⟨w.heap.size, 0, none⟩)) true ty).run Tryz.prog (w.iter s s.size) = _ := fun ty => run_next_end w s s.size ty (by omega)
      go_wp2
      go_ret
      exact ⟨rfl, iter_below w s _⟩
set_option maxHeartbeats 4000000 in
set_option maxRecDepth 100000 in
theorem ir_big (s : ByteArray) (hs : Ascii s) (h4 : 4 ≤ s.size) (h5 : s.size ≤ 1000) (r : Nat) (hr : Right r) (h128 : 128 ≤ r) (hodd : r ≠ 65533) (w : World) : Calls Tryz.prog 139 #[.string s, .int .i32 (r : Int)] w fun e w' => e = .returned (.int .i64 (-1)) ∧ Below w.heap.size w w' := by
  have kV := fun w' => valid_any r hr w'
  have hv : Utf8.valid (r : Int) = true := by
    unfold Right at hr
    unfold Utf8.valid
    simp
    omega
  obtain ⟨e1, e2, e3⟩ := encode_facts (r : Int) hv (by omega)
  have a0 : decide ((0 : Int) ≤ (r : Int)) = true := by simp
  have a1 : decide ((r : Int) < 128) = false := by simp; omega
  have a2 : (((r : Nat) : Int) == 65533) = false := by simp; omega
  generalize hE : Utf8.encode (r : Int) = E at *
  obtain ⟨m, hm⟩ : ∃ m, E.size = m + 1 := ⟨E.size - 1, by omega⟩
  have hmE : m < E.size := by omega
  have hms : m < s.size := by omega
  have W1 : IntKind.i64.wrap (((E.size : Nat) : Int) - 1) = ((m : Nat) : Int) := by rw [IntKind.wrap_i64]; omega
  have W2 : IntKind.i64.wrap (((m : Nat) : Int) + 1) = ((m : Nat) : Int) + 1 := by rw [IntKind.wrap_i64]; omega
  have hlast : 128 ≤ (E[m]'hmE).toNat := by
    have := e3 (by omega)
    have e : E.size - 1 = m := by omega
    simpa only [e] using this
  have hfst := ascii_at hs hms
  have hne : ((((s[m]'hms).toNat : Nat) : Int) != (((E[m]'hmE).toNat : Nat) : Int)) = true := by simp; omega
  have kI : ∀ w0, Calls Tryz.prog 71 #[.string (s.extract (m + 1) s.size), .int .u8 (((E[m]'hmE).toNat : Nat) : Int)] w0 fun e w' => e = .returned (.int .i64 (-1)) ∧ w' = w0 := fun w0 => by
    have k := ib_any (s.extract (m + 1) s.size) (((E[m]'hmE).toNat : Nat) : Int) w0
    have hx : Lib.indexByte (s.extract (m + 1) s.size).data.toList (((((E[m]'hmE).toNat : Nat) : Int)).toNat.toUInt8) = -1 := by
      rw [← Lib.firstIdx_eq]
      refine firstIdx_ascii s _ _ _ hs ?_
      have e : (((((E[m]'hmE).toNat : Nat) : Int)).toNat.toUInt8) = E[m]'hmE := by
        rw [Int.toNat_natCast, Nat.toUInt8, UInt8.ofNat_toNat]
      rw [e]; exact hlast
    rwa [hx] at k
  have hm1 : m + 1 ≤ s.size := by omega
  have hz : (m : Int) < ((s.size : Nat) : Int) := by omega
  have hz0 : (0 : Int) ≤ (m : Int) + 1 := by omega
  have hz1 : (m : Int) + 1 ≤ ((s.size : Nat) : Int) := by omega
  clear e1 e2 e3 hlast hfst hr h128 hodd hv hm
  go_enter Tryz.func139, Tryz.ntmps139
  go_wp2_with (go_at_call 155; refine (kV _).mono ?_; rintro e w1 ⟨rfl, hw⟩; obtain rfl : w = w1 := hw.symm)
  go_step3
  go_wp2
  go_loopw [9] (fun v wr => v = .int .i64 m ∧ wr = w) (fun _ _ => 0)
  case atStart => exact ⟨rfl, rfl⟩
  case round =>
    obtain ⟨rfl, rfl⟩ := hrel
    go_wp2
    go_step3
    go_wp2
    go_quiet (fail)
    go_wp2
    go_region_held3 (fun _ => True) (trivial) (first
      | (go_at_call 71; refine (kI _).mono ?_; rintro e w1 ⟨rfl, hw1⟩; have B1 : Hid (Below wr.heap.size wr w1) := (by (rw [hw1]; exact ⟨rfl, rfl, rfl, Nat.le_refl _, fun _ _ => rfl⟩)); clear hw1))
    go_wp2
    rw [Exit.noGoto_ret]
    change bodyPost Tryz.prog Tryz.f139 (fun e w' => e = Ending.returned (Value.int IntKind.i64 (-1)) ∧ Below wr.heap.size wr w') Exit.ret _ w1
    go_ret
    exact ⟨rfl, B1.out⟩
/-- strings.IndexRune of ASCII signs. -/
theorem ir_any (s : ByteArray) (hs : Ascii s) (h4 : 4 ≤ s.size) (h5 : s.size ≤ 1000) (r : Nat) (hr : Right r) (w : World) : Calls Tryz.prog 139 #[.string s, .int .i32 (r : Int)] w fun e w' => e = .returned (.int .i64 (if r < 128 then Lib.indexByte s.data.toList ((r : Int).toNat.toUInt8) else -1)) ∧ Below w.heap.size w w' := by
  by_cases h : r < 128
  · rw [if_pos h]
    exact (ir_ascii s r h w).mono fun e w' ⟨h1, h2⟩ => ⟨h1, by rw [h2]; exact Below.refl _ _⟩
  · rw [if_neg h]
    by_cases ho : r = 65533
    · subst ho
      exact ir_odd s hs w
    · exact ir_big s hs h4 h5 r hr (by omega) ho w
/-- The signs that tell a character behind a backslash, and the characters that they mean. -/
def sgnS : ByteArray := ⟨#[34, 92, 98, 102, 110, 114, 116]⟩
theorem sgn_ascii : Ascii sgnS := by unfold Ascii sgnS; decide
/-- Where a sign stands among them. -/
def sgnI (r : Nat) : Int := if r = 34 then 0 else if r = 92 then 1 else if r = 98 then 2 else if r = 102 then 3 else if r = 110 then 4 else if r = 114 then 5 else if r = 116 then 6 else -1
set_option maxRecDepth 100000 in
theorem sgn_ix : ∀ r : Nat, r < 128 → Lib.indexByte sgnS.data.toList ((r : Int).toNat.toUInt8) = sgnI r := by decide
theorem sgn_big {r : Nat} (h : ¬ r < 128) : sgnI r = -1 := by
  unfold sgnI
  rw [if_neg (by omega), if_neg (by omega), if_neg (by omega), if_neg (by omega), if_neg (by omega), if_neg (by omega), if_neg (by omega)]
theorem sgn_any (r : Nat) (hr : Right r) (w : World) : Calls Tryz.prog 139 #[.string ⟨#[34, 92, 98, 102, 110, 114, 116]⟩, .int .i32 (r : Int)] w fun e w' => e = .returned (.int .i64 (sgnI r)) ∧ Below w.heap.size w w' := by
  refine (ir_any sgnS sgn_ascii (by decide) (by decide) r hr w).mono ?_
  rintro e w' ⟨h1, h2⟩
  refine ⟨?_, h2⟩
  rw [h1]
  by_cases h : r < 128
  · rw [if_pos h, sgn_ix r h]
  · rw [if_neg h, sgn_big h]
end Go.Proofs.YtmlacmoembjeoaaGreatDoor
namespace Go.Proofs.YtmlacmoembjeoaaGreatDoor
open Go.RowKit
set_option linter.unusedVariables false

theorem Rdr.top {w : World} {g B q num dig fst : Nat} {zs : List Int} (h : Rdr w g B q num dig fst zs) : B ≤ w.heap.size := by obtain ⟨p, v, h⟩ := h; exact h.top
theorem Rdr.kq {w w' : World} {g B q num dig fst : Nat} {zs : List Int} (h : Rdr w g B q num dig fst zs) (hb : Below w.heap.size w w') : Kq g B w w' := Kq.of (hb.mono h.top)
/-- What is read of a sign behind a backslash. -/
def aslR (r : Nat) (zs : List Int) : Nat × List Int := if r = 117 then (2, zs) else if r = 47 then (0, zs ++ encL 47) else match shortM r with | some m => (0, zs ++ encL m) | none => (6, zs)
theorem put_int {w : World} {g B q num dig fst : Nat} {zs : List Int} (c : Int) (r : Nat) (hc : (r : Int) = c) (hr : Right r) (h : Rdr w g B q num dig fst zs) (hlen : zs.length + 4 ≤ 140737488355328) :
    Calls Tryz.prog 138 #[.pointer (some ⟨g, 0, none⟩), .int .i32 c] w fun e w' => e = .returned (.int .i64 0) ∧ Rdr w' g B q num dig fst (zs ++ encL r) ∧ Kq g B w w' := by
  subst hc
  exact put_any r hr h hlen
theorem sgn_int (r : Nat) (i : Int) (hr : Right r) (hi : sgnI r = i) (w : World) : Calls Tryz.prog 139 #[.string ⟨#[34, 92, 98, 102, 110, 114, 116]⟩, .int .i32 (r : Int)] w fun e w' => e = .returned (.int .i64 i) ∧ Below w.heap.size w w' := by
  subst hi
  exact sgn_any r hr w
set_option maxHeartbeats 1000000 in
set_option maxRecDepth 100000 in
theorem asl_34 {w : World} {g B q num dig fst : Nat} {zs ys : List Int} (r : Nat) (hr : r = 34) (hy : zs ++ encL 34 = ys) (h : Rdr w g B q num dig fst zs) (hlen : zs.length + 4 ≤ 140737488355328) :
    Calls Tryz.prog 119 #[.pointer (some ⟨g, 0, none⟩), .int .i32 (r : Int)] w fun e w' => e = .returned (.int .i64 0) ∧ Rdr w' g B q num dig fst ys ∧ Kq g B w w' := by
  have kS := sgn_int r 0 (by rw [hr]; exact ⟨by omega, by omega⟩) (by rw [hr]; rfl) w
  have kP : Hid (∀ w1, Below w.heap.size w w1 → Calls Tryz.prog 138 #[.pointer (some ⟨g, 0, none⟩), .int .i32 34] w1 fun e w' => e = .returned (.int .i64 0) ∧ Rdr w' g B q num dig fst ys ∧ Kq g B w1 w') := fun w1 hb => by
    rw [← hy]
    exact put_int 34 34 rfl ⟨by omega, by omega⟩ (h.below hb) hlen
  have H : Hid (Rdr w g B q num dig fst zs) := h
  have a1 : ((r : Int) == 117) = false := by simp; omega
  have a2 : ((r : Int) == 47) = false := by simp; omega
  have hw : IntKind.i32.wrap ((((⟨#[34, 92, 8, 12, 10, 13, 9]⟩ : ByteArray)[0]'(by decide)).toNat : Nat) : Int) = 34 := by decide
  clear h hlen hy hr
  go_enter Tryz.func119, Tryz.ntmps119
  go_wp2_with (first
    | (go_at_call 139; refine kS.mono ?_; rintro e w1 ⟨rfl, hb1⟩; clear kS; have k2 := kP.out w1 hb1)
    | (go_at_call 138; refine k2.mono ?_; rintro e w2 ⟨rfl, h2, q2⟩))
  go_ret
  exact ⟨rfl, h2, (H.out.kq hb1).trans q2⟩
set_option maxHeartbeats 1000000 in
set_option maxRecDepth 100000 in
theorem asl_92 {w : World} {g B q num dig fst : Nat} {zs ys : List Int} (r : Nat) (hr : r = 92) (hy : zs ++ encL 92 = ys) (h : Rdr w g B q num dig fst zs) (hlen : zs.length + 4 ≤ 140737488355328) :
    Calls Tryz.prog 119 #[.pointer (some ⟨g, 0, none⟩), .int .i32 (r : Int)] w fun e w' => e = .returned (.int .i64 0) ∧ Rdr w' g B q num dig fst ys ∧ Kq g B w w' := by
  have kS := sgn_int r 1 (by rw [hr]; exact ⟨by omega, by omega⟩) (by rw [hr]; rfl) w
  have kP : Hid (∀ w1, Below w.heap.size w w1 → Calls Tryz.prog 138 #[.pointer (some ⟨g, 0, none⟩), .int .i32 92] w1 fun e w' => e = .returned (.int .i64 0) ∧ Rdr w' g B q num dig fst ys ∧ Kq g B w1 w') := fun w1 hb => by
    rw [← hy]
    exact put_int 92 92 rfl ⟨by omega, by omega⟩ (h.below hb) hlen
  have H : Hid (Rdr w g B q num dig fst zs) := h
  have a1 : ((r : Int) == 117) = false := by simp; omega
  have a2 : ((r : Int) == 47) = false := by simp; omega
  have hw : IntKind.i32.wrap ((((⟨#[34, 92, 8, 12, 10, 13, 9]⟩ : ByteArray)[1]'(by decide)).toNat : Nat) : Int) = 92 := by decide
  clear h hlen hy hr
  go_enter Tryz.func119, Tryz.ntmps119
  go_wp2_with (first
    | (go_at_call 139; refine kS.mono ?_; rintro e w1 ⟨rfl, hb1⟩; clear kS; have k2 := kP.out w1 hb1)
    | (go_at_call 138; refine k2.mono ?_; rintro e w2 ⟨rfl, h2, q2⟩))
  go_ret
  exact ⟨rfl, h2, (H.out.kq hb1).trans q2⟩
set_option maxHeartbeats 1000000 in
set_option maxRecDepth 100000 in
theorem asl_98 {w : World} {g B q num dig fst : Nat} {zs ys : List Int} (r : Nat) (hr : r = 98) (hy : zs ++ encL 8 = ys) (h : Rdr w g B q num dig fst zs) (hlen : zs.length + 4 ≤ 140737488355328) :
    Calls Tryz.prog 119 #[.pointer (some ⟨g, 0, none⟩), .int .i32 (r : Int)] w fun e w' => e = .returned (.int .i64 0) ∧ Rdr w' g B q num dig fst ys ∧ Kq g B w w' := by
  have kS := sgn_int r 2 (by rw [hr]; exact ⟨by omega, by omega⟩) (by rw [hr]; rfl) w
  have kP : Hid (∀ w1, Below w.heap.size w w1 → Calls Tryz.prog 138 #[.pointer (some ⟨g, 0, none⟩), .int .i32 8] w1 fun e w' => e = .returned (.int .i64 0) ∧ Rdr w' g B q num dig fst ys ∧ Kq g B w1 w') := fun w1 hb => by
    rw [← hy]
    exact put_int 8 8 rfl ⟨by omega, by omega⟩ (h.below hb) hlen
  have H : Hid (Rdr w g B q num dig fst zs) := h
  have a1 : ((r : Int) == 117) = false := by simp; omega
  have a2 : ((r : Int) == 47) = false := by simp; omega
  have hw : IntKind.i32.wrap ((((⟨#[34, 92, 8, 12, 10, 13, 9]⟩ : ByteArray)[2]'(by decide)).toNat : Nat) : Int) = 8 := by decide
  clear h hlen hy hr
  go_enter Tryz.func119, Tryz.ntmps119
  go_wp2_with (first
    | (go_at_call 139; refine kS.mono ?_; rintro e w1 ⟨rfl, hb1⟩; clear kS; have k2 := kP.out w1 hb1)
    | (go_at_call 138; refine k2.mono ?_; rintro e w2 ⟨rfl, h2, q2⟩))
  go_ret
  exact ⟨rfl, h2, (H.out.kq hb1).trans q2⟩
set_option maxHeartbeats 1000000 in
set_option maxRecDepth 100000 in
theorem asl_102 {w : World} {g B q num dig fst : Nat} {zs ys : List Int} (r : Nat) (hr : r = 102) (hy : zs ++ encL 12 = ys) (h : Rdr w g B q num dig fst zs) (hlen : zs.length + 4 ≤ 140737488355328) :
    Calls Tryz.prog 119 #[.pointer (some ⟨g, 0, none⟩), .int .i32 (r : Int)] w fun e w' => e = .returned (.int .i64 0) ∧ Rdr w' g B q num dig fst ys ∧ Kq g B w w' := by
  have kS := sgn_int r 3 (by rw [hr]; exact ⟨by omega, by omega⟩) (by rw [hr]; rfl) w
  have kP : Hid (∀ w1, Below w.heap.size w w1 → Calls Tryz.prog 138 #[.pointer (some ⟨g, 0, none⟩), .int .i32 12] w1 fun e w' => e = .returned (.int .i64 0) ∧ Rdr w' g B q num dig fst ys ∧ Kq g B w1 w') := fun w1 hb => by
    rw [← hy]
    exact put_int 12 12 rfl ⟨by omega, by omega⟩ (h.below hb) hlen
  have H : Hid (Rdr w g B q num dig fst zs) := h
  have a1 : ((r : Int) == 117) = false := by simp; omega
  have a2 : ((r : Int) == 47) = false := by simp; omega
  have hw : IntKind.i32.wrap ((((⟨#[34, 92, 8, 12, 10, 13, 9]⟩ : ByteArray)[3]'(by decide)).toNat : Nat) : Int) = 12 := by decide
  clear h hlen hy hr
  go_enter Tryz.func119, Tryz.ntmps119
  go_wp2_with (first
    | (go_at_call 139; refine kS.mono ?_; rintro e w1 ⟨rfl, hb1⟩; clear kS; have k2 := kP.out w1 hb1)
    | (go_at_call 138; refine k2.mono ?_; rintro e w2 ⟨rfl, h2, q2⟩))
  go_ret
  exact ⟨rfl, h2, (H.out.kq hb1).trans q2⟩
set_option maxHeartbeats 1000000 in
set_option maxRecDepth 100000 in
theorem asl_110 {w : World} {g B q num dig fst : Nat} {zs ys : List Int} (r : Nat) (hr : r = 110) (hy : zs ++ encL 10 = ys) (h : Rdr w g B q num dig fst zs) (hlen : zs.length + 4 ≤ 140737488355328) :
    Calls Tryz.prog 119 #[.pointer (some ⟨g, 0, none⟩), .int .i32 (r : Int)] w fun e w' => e = .returned (.int .i64 0) ∧ Rdr w' g B q num dig fst ys ∧ Kq g B w w' := by
  have kS := sgn_int r 4 (by rw [hr]; exact ⟨by omega, by omega⟩) (by rw [hr]; rfl) w
  have kP : Hid (∀ w1, Below w.heap.size w w1 → Calls Tryz.prog 138 #[.pointer (some ⟨g, 0, none⟩), .int .i32 10] w1 fun e w' => e = .returned (.int .i64 0) ∧ Rdr w' g B q num dig fst ys ∧ Kq g B w1 w') := fun w1 hb => by
    rw [← hy]
    exact put_int 10 10 rfl ⟨by omega, by omega⟩ (h.below hb) hlen
  have H : Hid (Rdr w g B q num dig fst zs) := h
  have a1 : ((r : Int) == 117) = false := by simp; omega
  have a2 : ((r : Int) == 47) = false := by simp; omega
  have hw : IntKind.i32.wrap ((((⟨#[34, 92, 8, 12, 10, 13, 9]⟩ : ByteArray)[4]'(by decide)).toNat : Nat) : Int) = 10 := by decide
  clear h hlen hy hr
  go_enter Tryz.func119, Tryz.ntmps119
  go_wp2_with (first
    | (go_at_call 139; refine kS.mono ?_; rintro e w1 ⟨rfl, hb1⟩; clear kS; have k2 := kP.out w1 hb1)
    | (go_at_call 138; refine k2.mono ?_; rintro e w2 ⟨rfl, h2, q2⟩))
  go_ret
  exact ⟨rfl, h2, (H.out.kq hb1).trans q2⟩
set_option maxHeartbeats 1000000 in
set_option maxRecDepth 100000 in
theorem asl_114 {w : World} {g B q num dig fst : Nat} {zs ys : List Int} (r : Nat) (hr : r = 114) (hy : zs ++ encL 13 = ys) (h : Rdr w g B q num dig fst zs) (hlen : zs.length + 4 ≤ 140737488355328) :
    Calls Tryz.prog 119 #[.pointer (some ⟨g, 0, none⟩), .int .i32 (r : Int)] w fun e w' => e = .returned (.int .i64 0) ∧ Rdr w' g B q num dig fst ys ∧ Kq g B w w' := by
  have kS := sgn_int r 5 (by rw [hr]; exact ⟨by omega, by omega⟩) (by rw [hr]; rfl) w
  have kP : Hid (∀ w1, Below w.heap.size w w1 → Calls Tryz.prog 138 #[.pointer (some ⟨g, 0, none⟩), .int .i32 13] w1 fun e w' => e = .returned (.int .i64 0) ∧ Rdr w' g B q num dig fst ys ∧ Kq g B w1 w') := fun w1 hb => by
    rw [← hy]
    exact put_int 13 13 rfl ⟨by omega, by omega⟩ (h.below hb) hlen
  have H : Hid (Rdr w g B q num dig fst zs) := h
  have a1 : ((r : Int) == 117) = false := by simp; omega
  have a2 : ((r : Int) == 47) = false := by simp; omega
  have hw : IntKind.i32.wrap ((((⟨#[34, 92, 8, 12, 10, 13, 9]⟩ : ByteArray)[5]'(by decide)).toNat : Nat) : Int) = 13 := by decide
  clear h hlen hy hr
  go_enter Tryz.func119, Tryz.ntmps119
  go_wp2_with (first
    | (go_at_call 139; refine kS.mono ?_; rintro e w1 ⟨rfl, hb1⟩; clear kS; have k2 := kP.out w1 hb1)
    | (go_at_call 138; refine k2.mono ?_; rintro e w2 ⟨rfl, h2, q2⟩))
  go_ret
  exact ⟨rfl, h2, (H.out.kq hb1).trans q2⟩
set_option maxHeartbeats 1000000 in
set_option maxRecDepth 100000 in
theorem asl_116 {w : World} {g B q num dig fst : Nat} {zs ys : List Int} (r : Nat) (hr : r = 116) (hy : zs ++ encL 9 = ys) (h : Rdr w g B q num dig fst zs) (hlen : zs.length + 4 ≤ 140737488355328) :
    Calls Tryz.prog 119 #[.pointer (some ⟨g, 0, none⟩), .int .i32 (r : Int)] w fun e w' => e = .returned (.int .i64 0) ∧ Rdr w' g B q num dig fst ys ∧ Kq g B w w' := by
  have kS := sgn_int r 6 (by rw [hr]; exact ⟨by omega, by omega⟩) (by rw [hr]; rfl) w
  have kP : Hid (∀ w1, Below w.heap.size w w1 → Calls Tryz.prog 138 #[.pointer (some ⟨g, 0, none⟩), .int .i32 9] w1 fun e w' => e = .returned (.int .i64 0) ∧ Rdr w' g B q num dig fst ys ∧ Kq g B w1 w') := fun w1 hb => by
    rw [← hy]
    exact put_int 9 9 rfl ⟨by omega, by omega⟩ (h.below hb) hlen
  have H : Hid (Rdr w g B q num dig fst zs) := h
  have a1 : ((r : Int) == 117) = false := by simp; omega
  have a2 : ((r : Int) == 47) = false := by simp; omega
  have hw : IntKind.i32.wrap ((((⟨#[34, 92, 8, 12, 10, 13, 9]⟩ : ByteArray)[6]'(by decide)).toNat : Nat) : Int) = 9 := by decide
  clear h hlen hy hr
  go_enter Tryz.func119, Tryz.ntmps119
  go_wp2_with (first
    | (go_at_call 139; refine kS.mono ?_; rintro e w1 ⟨rfl, hb1⟩; clear kS; have k2 := kP.out w1 hb1)
    | (go_at_call 138; refine k2.mono ?_; rintro e w2 ⟨rfl, h2, q2⟩))
  go_ret
  exact ⟨rfl, h2, (H.out.kq hb1).trans q2⟩
set_option maxHeartbeats 2000000 in
set_option maxRecDepth 100000 in
/-- (*jlex.reader).afterSlash. -/
theorem asl_any {w : World} {g B q num dig fst : Nat} {zs : List Int} (r : Nat) (hr : Right r) (h : Rdr w g B q num dig fst zs) (hlen : zs.length + 4 ≤ 140737488355328) :
    Calls Tryz.prog 119 #[.pointer (some ⟨g, 0, none⟩), .int .i32 (r : Int)] w fun e w' => e = .returned (.int .i64 ((aslR r zs).1 : Nat)) ∧ Rdr w' g B q num dig fst (aslR r zs).2 ∧ Kq g B w w' := by
  have H : Hid (Rdr w g B q num dig fst zs) := h
  by_cases h34 : r = 34
  · have hR : aslR r zs = (0, zs ++ encL 34) := by unfold aslR shortM; simp [h34]
    rw [hR]
    exact asl_34 r h34 rfl h hlen
  by_cases h92 : r = 92
  · have hR : aslR r zs = (0, zs ++ encL 92) := by unfold aslR shortM; simp [h92]
    rw [hR]
    exact asl_92 r h92 rfl h hlen
  by_cases h98 : r = 98
  · have hR : aslR r zs = (0, zs ++ encL 8) := by unfold aslR shortM; simp [h98]
    rw [hR]
    exact asl_98 r h98 rfl h hlen
  by_cases h102 : r = 102
  · have hR : aslR r zs = (0, zs ++ encL 12) := by unfold aslR shortM; simp [h102]
    rw [hR]
    exact asl_102 r h102 rfl h hlen
  by_cases h110 : r = 110
  · have hR : aslR r zs = (0, zs ++ encL 10) := by unfold aslR shortM; simp [h110]
    rw [hR]
    exact asl_110 r h110 rfl h hlen
  by_cases h114 : r = 114
  · have hR : aslR r zs = (0, zs ++ encL 13) := by unfold aslR shortM; simp [h114]
    rw [hR]
    exact asl_114 r h114 rfl h hlen
  by_cases h116 : r = 116
  · have hR : aslR r zs = (0, zs ++ encL 9) := by unfold aslR shortM; simp [h116]
    rw [hR]
    exact asl_116 r h116 rfl h hlen
  by_cases h117 : r = 117
  · have hR : aslR r zs = (2, zs) := by unfold aslR; rw [if_pos h117]
    rw [hR]
    have a1 : ((r : Int) == 117) = true := by simp; omega
    clear hR hr h hlen h34 h92 h98 h102 h110 h114 h116 h117
    go_enter Tryz.func119, Tryz.ntmps119
    go_wp2
    go_ret
    exact ⟨rfl, H.out, Kq.refl _ _ _⟩
  have a1 : ((r : Int) == 117) = false := by simp; omega
  by_cases h47 : r = 47
  · have hR : aslR r zs = (0, zs ++ encL r) := by unfold aslR; rw [if_neg h117, if_pos h47, h47]
    rw [hR]
    have a2 : ((r : Int) == 47) = true := by simp; omega
    have kP := put_any r hr h hlen
    clear hR hr h hlen h34 h92 h98 h102 h110 h114 h116 h117 h47
    go_enter Tryz.func119, Tryz.ntmps119
    go_wp2_with (go_at_call 138; refine kP.mono ?_; rintro e w2 ⟨rfl, h2, q2⟩)
    go_ret
    exact ⟨rfl, h2, q2⟩
  have a2 : ((r : Int) == 47) = false := by simp; omega
  have hs : shortM r = none := by unfold shortM; rw [if_neg h34, if_neg h92, if_neg h98, if_neg h102, if_neg h110, if_neg h114, if_neg h116]
  have hR : aslR r zs = (6, zs) := by unfold aslR; rw [if_neg h117, if_neg h47, hs]
  rw [hR]
  have kS := sgn_any r hr w
  have hI : sgnI r = -1 := by unfold sgnI; rw [if_neg h34, if_neg h92, if_neg h98, if_neg h102, if_neg h110, if_neg h114, if_neg h116]
  rw [hI] at kS
  clear hI hs hR hr h hlen h34 h92 h98 h102 h110 h114 h116 h117 h47
  go_enter Tryz.func119, Tryz.ntmps119
  go_wp2_with (go_at_call 139; refine kS.mono ?_; rintro e w1 ⟨rfl, hb1⟩; clear kS)
  go_ret
  exact ⟨rfl, H.out.below hb1, H.out.kq hb1⟩

end Go.Proofs.YtmlacmoembjeoaaGreatDoor
namespace Go.Proofs.YtmlacmoembjeoaaGreatDoor
open Go.RowKit
set_option linter.unusedVariables false
/-! ### take -/
/-- The reader as what was read. -/
def RdS (w : World) (g B : Nat) (s : RS) : Prop := Rdr w g B s.q s.num s.dig s.fst s.txt
def InvR (s : RS) : Prop := s.num < 16 ^ s.dig ∧ s.dig ≤ 3 ∧ (s.fst = 0 ∨ (55296 ≤ s.fst ∧ s.fst < 56320))
theorem inv_r0 : InvR r0 := ⟨by decide, by decide, .inl rfl⟩
theorem inv_dig {s : RS} {d : Nat} (hd : d < 16) (h : InvR s) (h6 : (digR s d).q ≠ 6) : InvR (digR s d) := by
  obtain ⟨hn, hdg, hf⟩ := h
  obtain ⟨h4, hp⟩ := pow_dig hdg hn
  have hp' := hp d hd
  unfold digR at h6 ⊢
  by_cases hm : mayGo s.fst (s.num * 16 + d) (s.dig + 1) = false
  · rw [if_pos hm] at h6; exact absurd rfl h6
  rw [if_neg hm]
  by_cases h1 : s.dig + 1 < 4
  · rw [if_pos h1]; exact ⟨hp', by show s.dig + 1 ≤ 3; omega, hf⟩
  rw [if_neg h1]
  by_cases h2 : s.fst ≠ 0
  · rw [if_pos h2]; exact ⟨by show 0 < 16 ^ 0; decide, by show 0 ≤ 3; omega, .inl rfl⟩
  rw [if_neg h2]
  by_cases h3 : 55296 ≤ s.num * 16 + d ∧ s.num * 16 + d < 57344
  · rw [if_pos h3]
    refine ⟨by show 0 < 16 ^ 0; decide, by show 0 ≤ 3; omega, .inr ⟨h3.1, ?_⟩⟩
    show s.num * 16 + d < 56320
    have e3 : s.dig = 3 := by omega
    have e0 : s.fst = 0 := by omega
    rw [e3, e0] at hm
    have := may_shift 0 (s.num * 16 + d) 4 1 (by decide)
    rw [if_pos rfl] at this
    have hm' : mayGo 0 (s.num * 16 + d) 4 = true := by simpa using hm
    rw [hm'] at this
    have := this.symm
    simp at this
    omega
  · rw [if_neg h3]; exact ⟨by show 0 < 16 ^ 0; decide, by show 0 ≤ 3; omega, .inl rfl⟩
theorem inv_take {s : RS} {r : Nat} (h : InvR s) (h6 : (takeR s r).q ≠ 6) : InvR (takeR s r) := by
  unfold takeR at h6 ⊢
  by_cases q0 : s.q = 0
  · rw [if_pos q0]; repeat' split
    all_goals exact h
  rw [if_neg q0]
  by_cases q1 : s.q = 1
  · rw [if_pos q1]; repeat' split
    all_goals exact h
  rw [if_neg q1]
  by_cases q2 : s.q = 2
  · rw [if_pos q2]
    rw [if_neg q0, if_neg q1, if_pos q2] at h6
    cases hx : hexD r with
    | none => exact h
    | some d => rw [hx] at h6; exact inv_dig (hex_lt hx) h h6
  rw [if_neg q2]
  repeat' split
  all_goals exact h
set_option maxHeartbeats 4000000 in
set_option maxRecDepth 100000 in
/-- (*jlex.reader).take. -/
theorem take_rd {w : World} {g B : Nat} {s : RS} (r : Nat) (hr : Right r) (h : RdS w g B s) (hq : s.q ≤ 4) (hi : InvR s) (hlen : s.txt.length + 4 ≤ 140737488355328) :
    Calls Tryz.prog 91 #[.pointer (some ⟨g, 0, none⟩), .int .i32 (r : Int)] w fun e w' => e = .returned (.tuple #[]) ∧ RdS w' g B (takeR s r) ∧ Kq g B w w' := by
  obtain ⟨q, num, dig, fst, zs⟩ := s
  unfold RdS at h ⊢
  dsimp only at h hq hlen
  have hqq : q = 0 ∨ q = 1 ∨ q = 2 ∨ q = 3 ∨ q = 4 := by omega
  rcases hqq with rfl | rfl | rfl | rfl | rfl
  · have kA := ach_any r hr h hlen
    have hR : takeR ⟨0, num, dig, fst, zs⟩ r = ⟨(achR r zs).1, num, dig, fst, (achR r zs).2⟩ := by
      unfold takeR achR putR
      rw [if_pos rfl]
      repeat' split
      all_goals rfl
    rw [hR]
    have c0 : w.cell? ⟨g, 0, none⟩ = some (.int .i64 0) := h.c0
    generalize (achR r zs).1 = Q at *
    generalize (achR r zs).2 = Z at *
    clear hR h hr hi hq hlen
    go_enter Tryz.func91, Tryz.ntmps91
    go_wp2_with (go_at_call 118; refine kA.mono ?_; rintro e w1 ⟨rfl, h1, k1⟩; have d0 := h1.c0; have f0 := h1.fz 0)
    go_end0
    exact ⟨rfl, h1.s0 Q, k1.trans (Kq.set g B w1 0 _)⟩
  · have kA := asl_any r hr h hlen
    have hR : takeR ⟨1, num, dig, fst, zs⟩ r = ⟨(aslR r zs).1, num, dig, fst, (aslR r zs).2⟩ := by
      unfold takeR aslR putR
      rw [if_neg (by simp), if_pos rfl]
      by_cases e1 : r = 117
      · simp only [e1, if_true]
      · by_cases e2 : r = 47
        · simp only [e2, if_true]; rfl
        · simp only [if_neg e1, if_neg e2]
          cases hx : shortM r <;> rfl
    rw [hR]
    have c0 : w.cell? ⟨g, 0, none⟩ = some (.int .i64 1) := h.c0
    generalize (aslR r zs).1 = Q at *
    generalize (aslR r zs).2 = Z at *
    clear hR h hr hi hq hlen
    go_enter Tryz.func91, Tryz.ntmps91
    go_wp2_with (go_at_call 119; refine kA.mono ?_; rintro e w1 ⟨rfl, h1, k1⟩; have d0 := h1.c0; have f0 := h1.fz 0)
    go_end0
    exact ⟨rfl, h1.s0 Q, k1.trans (Kq.set g B w1 0 _)⟩
  · have c0 : w.cell? ⟨g, 0, none⟩ = some (.int .i64 2) := h.c0
    cases hx : hexD r with
    | none =>
      have kA := adg_none r hr.1 hx h
      have hR : takeR ⟨2, num, dig, fst, zs⟩ r = ⟨6, num, dig, fst, zs⟩ := by
        unfold takeR
        rw [if_neg (by simp), if_neg (by simp), if_pos rfl, hx]
      rw [hR]
      clear hR h hr hi hq hlen hx
      go_enter Tryz.func91, Tryz.ntmps91
      go_wp2_with (go_at_call 120; refine kA.mono ?_; rintro e w1 ⟨rfl, h1, k1⟩; have d0 := h1.c0; have f0 := h1.fz 0)
      go_end0
      exact ⟨rfl, h1.s0 6, k1.trans (Kq.set g B w1 0 _)⟩
    | some d =>
      have kA := adg_some r d hr.1 hx h hi.2.1 hi.1 hi.2.2 hlen
      have hR : takeR ⟨2, num, dig, fst, zs⟩ r = ⟨(adgR d num dig fst zs).1, (adgR d num dig fst zs).2.1, (adgR d num dig fst zs).2.2.1, (adgR d num dig fst zs).2.2.2.1, (adgR d num dig fst zs).2.2.2.2⟩ := by
        unfold takeR
        rw [if_neg (by simp), if_neg (by simp), if_pos rfl, hx]
        show digR ⟨2, num, dig, fst, zs⟩ d = _
        unfold digR adgR endR
        dsimp only
        repeat' split
        all_goals rfl
      rw [hR]
      generalize (adgR d num dig fst zs).1 = X1 at *
      generalize (adgR d num dig fst zs).2.1 = X2 at *
      generalize (adgR d num dig fst zs).2.2.1 = X3 at *
      generalize (adgR d num dig fst zs).2.2.2.1 = X4 at *
      generalize (adgR d num dig fst zs).2.2.2.2 = X5 at *
      clear hR h hr hi hq hlen hx
      go_enter Tryz.func91, Tryz.ntmps91
      go_wp2_with (go_at_call 120; refine kA.mono ?_; rintro e w1 ⟨rfl, h1, k1⟩; have d0 := h1.c0; have f0 := h1.fz 0)
      go_end0
      exact ⟨rfl, h1.s0 X1, k1.trans (Kq.set g B w1 0 _)⟩
  · have c0 : w.cell? ⟨g, 0, none⟩ = some (.int .i64 3) := h.c0
    have f0 := h.fz 0
    have H : Hid (Rdr w g B 3 num dig fst zs) := h
    have hR : takeR ⟨3, num, dig, fst, zs⟩ r = ⟨if r = 92 then 4 else 6, num, dig, fst, zs⟩ := by
      unfold takeR
      rw [if_neg (by simp), if_neg (by simp), if_neg (by simp), if_pos rfl]
    rw [hR]
    by_cases he : r = 92
    · have kO : Calls Tryz.prog 121 #[.int .i32 (r : Int), .int .i32 92, .int .i64 4] w fun e w' => e = .returned (.int .i64 4) ∧ w' = w := only_any r 92 4 w true (by simp; omega)
      rw [if_pos he]
      clear hR h hr hi hq hlen he
      go_enter Tryz.func91, Tryz.ntmps91
      go_wp2_with (go_at_call 121; refine kO.mono ?_; rintro e w1 ⟨rfl, hw⟩; subst hw)
      go_end0
      exact ⟨rfl, H.out.s0 4, Kq.set g B w1 0 _⟩
    · have kO : Calls Tryz.prog 121 #[.int .i32 (r : Int), .int .i32 92, .int .i64 4] w fun e w' => e = .returned (.int .i64 6) ∧ w' = w := only_any r 92 4 w false (by simp; omega)
      rw [if_neg he]
      clear hR h hr hi hq hlen he
      go_enter Tryz.func91, Tryz.ntmps91
      go_wp2_with (go_at_call 121; refine kO.mono ?_; rintro e w1 ⟨rfl, hw⟩; subst hw)
      go_end0
      exact ⟨rfl, H.out.s0 6, Kq.set g B w1 0 _⟩
  · have c0 : w.cell? ⟨g, 0, none⟩ = some (.int .i64 4) := h.c0
    have f0 := h.fz 0
    have H : Hid (Rdr w g B 4 num dig fst zs) := h
    have hR : takeR ⟨4, num, dig, fst, zs⟩ r = ⟨if r = 117 then 2 else 6, num, dig, fst, zs⟩ := by
      unfold takeR
      rw [if_neg (by simp), if_neg (by simp), if_neg (by simp), if_neg (by simp), if_pos rfl]
    rw [hR]
    by_cases he : r = 117
    · have kO : Calls Tryz.prog 121 #[.int .i32 (r : Int), .int .i32 117, .int .i64 2] w fun e w' => e = .returned (.int .i64 2) ∧ w' = w := only_any r 117 2 w true (by simp; omega)
      rw [if_pos he]
      clear hR h hr hi hq hlen he
      go_enter Tryz.func91, Tryz.ntmps91
      go_wp2_with (go_at_call 121; refine kO.mono ?_; rintro e w1 ⟨rfl, hw⟩; subst hw)
      go_end0
      exact ⟨rfl, H.out.s0 2, Kq.set g B w1 0 _⟩
    · have kO : Calls Tryz.prog 121 #[.int .i32 (r : Int), .int .i32 117, .int .i64 2] w fun e w' => e = .returned (.int .i64 6) ∧ w' = w := only_any r 117 2 w false (by simp; omega)
      rw [if_neg he]
      clear hR h hr hi hq hlen he
      go_enter Tryz.func91, Tryz.ntmps91
      go_wp2_with (go_at_call 121; refine kO.mono ?_; rintro e w1 ⟨rfl, hw⟩; subst hw)
      go_end0
      exact ⟨rfl, H.out.s0 6, Kq.set g B w1 0 _⟩
end Go.Proofs.YtmlacmoembjeoaaGreatDoor
namespace Go.Proofs.YtmlacmoembjeoaaGreatDoor
open Go.RowKit

theorem second_none (c : Nat) (w : World) (h : c < 194 ∨ 244 < c) :
    Calls Tryz.prog 153 #[.int .u8 c] w fun e w' => e = .returned (.tuple #[.int .u8 1, .int .u8 0]) ∧ w' = w := by
  have e1 : ((c : Int) == 224) = false := by simp; omega
  have e2 : ((c : Int) == 237) = false := by simp; omega
  have e3 : ((c : Int) == 240) = false := by simp; omega
  have e4 : ((c : Int) == 244) = false := by simp; omega
  go_enter Tryz.func153, Tryz.ntmps153
  go_wp2
  all_goals first | (exfalso; omega) | (go_ret2; exact ⟨rfl, rfl⟩)
theorem second_some (c : Nat) (w : World) (h : 194 ≤ c) (h2 : c ≤ 244) :
    Calls Tryz.prog 153 #[.int .u8 c] w fun e w' => e = .returned (.tuple #[.int .u8 (lo2 c : Nat), .int .u8 (hi2 c : Nat)]) ∧ w' = w := by
  by_cases c1 : c = 224
  · subst c1
    go_enter Tryz.func153, Tryz.ntmps153
    go_wp2
    go_ret2
    exact ⟨rfl, rfl⟩
  by_cases c2 : c = 237
  · subst c2
    go_enter Tryz.func153, Tryz.ntmps153
    go_wp2
    go_ret2
    exact ⟨rfl, rfl⟩
  by_cases c3 : c = 240
  · subst c3
    go_enter Tryz.func153, Tryz.ntmps153
    go_wp2
    go_ret2
    exact ⟨rfl, rfl⟩
  by_cases c4 : c = 244
  · subst c4
    go_enter Tryz.func153, Tryz.ntmps153
    go_wp2
    go_ret2
    exact ⟨rfl, rfl⟩
  have e1 : ((c : Int) == 224) = false := by simp; omega
  have e2 : ((c : Int) == 237) = false := by simp; omega
  have e3 : ((c : Int) == 240) = false := by simp; omega
  have e4 : ((c : Int) == 244) = false := by simp; omega
  have l : Hid (lo2 c = 128) := by show _ = _; unfold lo2; rw [if_neg c1, if_neg c3]
  have u : Hid (hi2 c = 191) := by show _ = _; unfold hi2; rw [if_neg c2, if_neg c4]
  clear c1 c2 c3 c4
  rw [l.out, u.out]
  go_enter Tryz.func153, Tryz.ntmps153
  go_wp2
  all_goals first | (exfalso; omega) | (go_ret2; exact ⟨rfl, rfl⟩)

/-- What the loop meets at its k-th byte. -/
theorem begun_step {zs : List Int} (hbad : ¬ Good zs) (h0 : lenB zs ≠ 0) {k lo hi : Nat} (hk : 1 ≤ k) (hle : k ≤ badB zs) (hr : (k = 1 ∧ lo = lo2 (nth zs 0) ∧ hi = hi2 (nth zs 0)) ∨ (2 ≤ k ∧ lo = 128 ∧ hi = 191)) :
    k < badB zs ↔ (k < zs.length ∧ lo ≤ nth zs k ∧ nth zs k ≤ hi) := by
  rcases bad_cases hbad with ⟨e, k0⟩ | ⟨e, k1, k2⟩ | ⟨e, k1, k2, k3⟩ | ⟨e, k1, k2, k3, k4⟩
  · exact absurd k0 h0
  · unfold ok1 at k2
    obtain rfl : k = 1 := by omega
    rcases hr with ⟨_, rfl, rfl⟩ | ⟨h, _⟩
    · omega
    · omega
  · unfold ok1 at k2
    unfold okK at k3
    rcases hr with ⟨rfl, rfl, rfl⟩ | ⟨h, rfl, rfl⟩
    · omega
    · obtain rfl : k = 2 := by omega
      omega
  · unfold ok1 at k2
    unfold okK at k3 k4
    rcases hr with ⟨rfl, rfl, rfl⟩ | ⟨h, rfl, rfl⟩
    · omega
    · have h3 : k = 2 ∨ k = 3 := by omega
      rcases h3 with rfl | rfl
      · omega
      · omega

set_option maxHeartbeats 1000000 in
theorem begun_any (b off n cap : Nat) (zs : List Int) (w : World) (hl : zs.length = n) (h0 : 0 < n) (hb : Bytes w (some ⟨b, off, none⟩) zs) (hbad : ¬ Good zs) (hn : n ≤ 4611686018427387904) :
    Calls Tryz.prog 137 #[.slice (some ⟨b, off, none⟩) n cap] w fun e w' => e = .returned (.int .i64 (badB zs : Nat)) ∧ w' = w := by
  have hL : Hid (zs.length = n) := hl
  have hB : Hid (Bytes w (some ⟨b, off, none⟩) zs) := hb
  have hbad' : Hid (¬ Good zs) := hbad
  have c0 : w.cell? ⟨b, off, none⟩ = some (.int .u8 (nth zs 0 : Nat)) := hb.nat (i := 0) (by omega)
  have z0 := nth_lt hb.1 0
  have hcs := len_cases (nth zs 0)
  have hlb : lenB zs = lenN (nth zs 0) := rfl
  by_cases hz : lenB zs = 0
  · have k : Calls Tryz.prog 153 #[.int .u8 (nth zs 0 : Nat)] w fun e w' => e = .returned (.tuple #[.int .u8 1, .int .u8 0]) ∧ w' = w := second_none (nth zs 0) w (by omega)
    have hB0 : Hid (badB zs = 0) := by show _ = _; unfold badB; rw [if_pos hz]
    clear hcs hlb hz hb hl hbad
    generalize nth zs 0 = c at *
    go_enter Tryz.func137, Tryz.ntmps137
    go_wp2_with (go_at_call 153; refine k.mono ?_; rintro e w' ⟨rfl, hw⟩; obtain rfl : w = w' := hw.symm)
    go_ret
    rw [hB0.out]
    exact ⟨rfl, rfl⟩
  · have hg1 : lenB zs ≠ 1 := by
      intro h1
      refine hbad ?_
      unfold Good GoodN
      rw [← hlb, h1]
      exact ⟨by omega, fun h => by omega, fun h => by omega, fun h => by omega⟩
    have k : Calls Tryz.prog 153 #[.int .u8 (nth zs 0 : Nat)] w fun e w' => e = .returned (.tuple #[.int .u8 (lo2 (nth zs 0) : Nat), .int .u8 (hi2 (nth zs 0) : Nat)]) ∧ w' = w := second_some (nth zs 0) w (by omega) (by omega)
    have hlo := lo2_cases (nth zs 0)
    have hhi := hi2_cases (nth zs 0)
    have hle : lo2 (nth zs 0) ≤ hi2 (nth zs 0) := by omega
    have hb1 : 1 ≤ badB zs := by
      rcases bad_cases hbad with ⟨e, k0⟩ | ⟨e, k1, k2⟩ | ⟨e, k1, k2, k3⟩ | ⟨e, k1, k2, k3, k4⟩
      · exact absurd k0 hz
      all_goals omega
    have hstep : Hid (∀ k lo hi : Nat, 1 ≤ k → k ≤ badB zs → ((k = 1 ∧ lo = lo2 (nth zs 0) ∧ hi = hi2 (nth zs 0)) ∨ (2 ≤ k ∧ lo = 128 ∧ hi = 191)) → (k < badB zs ↔ (k < n ∧ lo ≤ nth zs k ∧ nth zs k ≤ hi))) := fun k lo hi h1 h2 h3 => by rw [← hL.out]; exact begun_step hbad hz h1 h2 h3
    clear hcs hlb hz hb hl hbad hlo hhi hg1
    generalize lo2 (nth zs 0) = l0 at *
    generalize hi2 (nth zs 0) = u0 at *
    generalize hB3 : badB zs = B at *
    clear hB3
    generalize nth zs 0 = c at *
    go_enter Tryz.func137, Tryz.ntmps137
    go_wp2_with (go_at_call 153; refine k.mono ?_; rintro e w' ⟨rfl, hw⟩; obtain rfl : w = w' := hw.symm)
    go_loop [3, 4, 5] (fun l u i => ∃ k lo hi : Nat, l = .int .u8 lo ∧ u = .int .u8 hi ∧ i = .int .i64 k ∧ 1 ≤ k ∧ k ≤ B ∧ Hid ((k = 1 ∧ lo = l0 ∧ hi = u0) ∨ (2 ≤ k ∧ lo = 128 ∧ hi = 191))) (fun _ _ i => B - (intOf i).toNat)
    case atStart => exact ⟨1, l0, u0, rfl, rfl, rfl, Nat.le_refl _, hb1, .inl ⟨rfl, rfl, rfl⟩⟩
    case round =>
      obtain ⟨k, lo, hi, rfl, rfl, rfl, hk1, hk2, hR⟩ := hrel
      have hs := hstep.out k lo hi hk1 hk2 hR.out
      by_cases hlt : k < B
      · obtain ⟨s1, s2, s3⟩ := hs.1 hlt
        have ck : w.cell? ⟨b, off + k, none⟩ = some (.int .u8 (nth zs k : Nat)) := hB.out.nat (by rw [hL.out]; exact s1)
        clear hs
        generalize nth zs k = d at *
        go_wp2
        go_round
        case rel => exact ⟨k + 1, 128, 191, rfl, rfl, by go_num, by omega, by omega, .inr ⟨by omega, rfl, rfl⟩⟩
        case measure => simp [intOf]; omega
      · have ck : k < n → w.cell? ⟨b, off + k, none⟩ = some (.int .u8 (nth zs k : Nat)) := fun s1 => hB.out.nat (by rw [hL.out]; exact s1)
        have hs' : Hid (¬ (k < n ∧ lo ≤ nth zs k ∧ nth zs k ≤ hi)) := fun h => hlt (hs.2 h)
        obtain rfl : k = B := by omega
        clear hs
        generalize nth zs k = d at *
        go_wp2
        all_goals first | (exfalso; have := hs'.out; omega) | (go_ret; exact ⟨rfl, rfl⟩)
end Go.Proofs.YtmlacmoembjeoaaGreatDoor
namespace Go.Proofs.YtmlacmoembjeoaaGreatDoor
open Go.RowKit

/-- The runes l lie at a. -/
def Jnts (w : World) (a : Option Addr) (l : List Int) : Prop :=
  l.length ≤ maxLen ∧ (l = [] ∨ ∃ b off, a = some ⟨b, off, none⟩ ∧ ∀ i, i < l.length → w.cell? ⟨b, off + i, none⟩ = some (.int .i32 (l.getD i 0)))
/-- Runes in new memory. -/
def OwnsJ (w : World) (base : Nat) (v : Value) (l : List Int) : Prop := w.ownsRow base 21 1 v l.length (l.map (Value.int .i32))
def ints (l : List Nat) : List Int := l.map fun r => ((r : Nat) : Int)
theorem jnts_len (l : List Nat) : (ints l).length = l.length := by simp [ints]
theorem info21 : (Tryz.prog.info? 21).map (fun i => (i.zero, i.size, i.bytes)) = some (some (.int .i32 0), 1, 4) := by kernel_rfl

theorem ownsJ_nil (w : World) (base : Nat) : OwnsJ w base (.slice none 0 0) [] := World.ownsRow_nil w base 21 1
theorem OwnsJ.below {w w' : World} {base : Nat} {v : Value} {l : List Int} (h : OwnsJ w base v l) (hb : Below w.heap.size w w') : OwnsJ w' base v l :=
  World.ownsRow.kept (row := none) h ⟨hb.os, hb.tape, hb.output, hb.size, fun k hk _ => hb.block k hk⟩ (by cases hv : v.ownBlock <;> simp)
theorem OwnsJ.alloc {w : World} {base : Nat} {v : Value} {l : List Int} (h : OwnsJ w base v l) (o : Obj) : OwnsJ (w.alloc o) base v l := h.below ((Below.refl _ _).alloc (Nat.le_refl _) o)
/-- Where blocks below stay it stays. -/
theorem OwnsJ.low {w : World} {base : Nat} {v : Value} {l : List Int} (h : OwnsJ w base v l) {a : Addr} (ha : a.block < base) (u : Value) : OwnsJ (w.setCell a u) base v l := ownsRow_setCell_below h ha u
theorem OwnsJ.base {w : World} {base base' : Nat} {v : Value} {l : List Int} (h : OwnsJ w base v l) (hB : base' ≤ base) : OwnsJ w base' v l := by
  obtain ⟨hl, hv⟩ := h
  refine ⟨hl, ?_⟩
  rcases hv with ⟨rfl, hn⟩ | ⟨g, cap, cur, rfl, hb, hr⟩
  · exact .inl ⟨rfl, hn⟩
  · exact .inr ⟨g, cap, cur, rfl, by omega, hr⟩
theorem grownJ_below {w w1 w2 : World} {base : Nat} {v : Value} {l : List Int} (hb : Below base w w1) (h : OwnsJ w1 base v l) (hg : w1.grownBy w2 v.ownBlock) (hB : base ≤ w1.heap.size) : Below base w w2 :=
  hb.grown hg hB fun k hk => (World.ownsRow.lt h k hk).1

theorem jnts_news {w : World} {x : Addr} {l : List Int} (hb : Jnts w (some x) l) : ∀ j u, (l.map (Value.int .i32))[j]? = some u → w.cell? (x.add j) = some u := by
  intro j u hu
  rcases hb.2 with rfl | ⟨b, off, hx, hc⟩
  · simp at hu
  · cases hx
    have hj : j < l.length := by
      have := (List.getElem?_eq_some_iff.1 hu).1
      simpa using this
    have h1 := hc j hj
    rw [List.getElem?_map, List.getElem?_eq_getElem hj] at hu
    simp only [Option.map_some, Option.some.injEq] at hu
    subst hu
    have e : (⟨b, off, none⟩ : Addr).add j = ⟨b, off + j, none⟩ := by
      by_cases h0 : j = 0
      · subst h0; simp [Addr.add]
      · simp [Addr.add, h0]
    rw [e, h1, List.getD_eq_getElem?_getD, List.getElem?_eq_getElem hj]; rfl
theorem jnts_one (l : List Int) : ∀ u ∈ l.map (Value.int .i32), u.oneCell' = true := by
  intro u hu
  obtain ⟨c, _, rfl⟩ := List.mem_map.1 hu
  rfl
theorem one_rune (w : World) (n : Int) : Jnts (w.alloc (.cells #[.int .i32 n] 21)) (some ⟨w.heap.size, 0, none⟩) [n] := by
  refine ⟨by simp [maxLen], .inr ⟨_, _, rfl, ?_⟩⟩
  intro i hi
  rw [World.cell?_alloc_mark]
  match i, hi with
  | 0, _ => rfl

/-- 'append(v, x...)', v the call's own runes, x any runes. -/
theorem wpList_append_jnts {w : World} {ops : Array Oper} {rest : List Oper} {o : Oper} {a : Act} {Q : Exit → Act → World → Prop} (hgd : o.guard = none) (s x : Operand)
    (ho : o.op = .call { callee := .builtin .append, args := #[s, x], argTypes := #[77, 77] })
    (base : Nat) (v : Value) (ys zs : List Int) (hs : a.eval s = v) (hown : OwnsJ w base v ys)
    (ad : Option Addr) (m c : Nat) (hx : a.eval x = .slice ad m c) (hm : zs.length = m) (hn : ad = none → c = 0) (hb : Jnts w ad zs)
    (hbytes : ys.length + zs.length ≤ 52776558133248) (hbase : base ≤ w.heap.size)
    (h : ∀ v' w', OwnsJ w' base v' (ys ++ zs) → w.grownBy w' v.ownBlock → wpList Tryz.prog ops Q rest (a.put o.dst v') w') : wpList Tryz.prog ops Q (o :: rest) a w := by
  subst hm
  obtain ⟨i, hi, hz, hsz, hby⟩ := info_parts info21
  cases ad with
  | none =>
    have h0 : zs = [] := by
      rcases hb.2 with h0 | ⟨_, _, h0, _⟩
      · exact h0
      · cases h0
    subst h0
    rw [hn rfl] at hx
    refine wpList_append_own_none hgd s x 77 ho base 21 i 1 Tryz.underlying77 hi v ys.length _ hs hown hx ?_
    have := h v w (by simpa using hown) (World.grownBy.refl _ _)
    exact this
  | some ad =>
    refine wpList_append_own_wide w hgd s x 77 ho base 21 i (.int .i32 0) 1 4 Tryz.underlying77 hi hz hsz hby rfl (by decide) v ys.length _ hs hown ad zs.length c (zs.map (Value.int .i32)) hx (by simp) (jnts_news hb) (jnts_one zs) ?_ (by omega) hbase ?_
    · unfold maxLen; omega
    · intro v' w' ho' hg _
      refine h v' w' ?_ hg
      unfold OwnsJ
      rw [List.length_append, List.map_append]
      exact ho'

end Go.Proofs.YtmlacmoembjeoaaGreatDoor
namespace Go.Proofs.YtmlacmoembjeoaaGreatDoor
open Go.RowKit

/-- The fault of bytes: its number, its place. -/
def whyL (zs : List Int) : Nat := match (runesL zs).2 with | none => 0 | some _ => 6
def atL (zs : List Int) : Nat := match (runesL zs).2 with | none => 0 | some p => p
/-- The characters of a text; none of what is no text. -/
def txtL (zs : List Int) : List Int := match (runesL zs).2 with | none => ints (runesL zs).1 | some _ => []
theorem why_none {zs : List Int} (h : (runesL zs).2 = none) : whyL zs = 0 ∧ atL zs = 0 ∧ txtL zs = ints (runesL zs).1 := by
  unfold whyL atL txtL
  rw [h]
  exact ⟨rfl, rfl, rfl⟩
theorem why_some {zs : List Int} {p : Nat} (h : (runesL zs).2 = some p) : whyL zs = 6 ∧ atL zs = p ∧ txtL zs = [] := by
  unfold whyL atL txtL
  rw [h]
  exact ⟨rfl, rfl, rfl⟩

/-- A fault in block g. -/
def FAt (w : World) (g y f : Nat) : Prop := w.heap[g]? = some (.cells #[.int .i64 y, .int .i64 f] 29 (0, 0))
theorem FAt.lt {w : World} {g y f : Nat} (h : FAt w g y f) : g < w.heap.size := (Array.getElem?_eq_some_iff.1 h).1
theorem FAt.c0 {w : World} {g y f : Nat} (h : FAt w g y f) : w.cell? ⟨g, 0, none⟩ = some (.int .i64 y) := by rw [cell_row h]; rfl
theorem FAt.c1 {w : World} {g y f : Nat} (h : FAt w g y f) : w.cell? ⟨g, 1, none⟩ = some (.int .i64 f) := by rw [cell_row h]; rfl
theorem FAt.fz {w : World} {g y f : Nat} (h : FAt w g y f) (j : Nat) : w.frozen? ⟨g, j, none⟩ = false := by
  unfold FAt at h
  simp [World.frozen?, h]
theorem FAt.kept {w w' : World} {g y f : Nat} (h : FAt w g y f) (hb : Below w.heap.size w w') : FAt w' g y f := by
  unfold FAt
  rw [hb.block g h.lt]
  exact h

set_option maxHeartbeats 1000000 in
theorem check_any (a : Option Addr) (n cap : Nat) (zs : List Int) (w : World) (hl : zs.length = n) (hb : Bytes w a zs) (hc : n ≤ cap) (hn : n ≤ 4611686018427387904) :
    Calls Tryz.prog 117 #[.slice a n cap] w fun e w' => e = .returned (.agg #[.int .i64 (whyL zs : Nat), .int .i64 (atL zs : Nat)]) ∧ Below w.heap.size w w' := by
  have hL : Hid (zs.length = n) := hl
  have hB0 : Hid (Bytes w a zs) := hb
  have k := uwhole_any a n cap zs (w.alloc (.cells #[.int .i64 0, .int .i64 0] 29)) hl (hb.kept ((Below.refl _ _).alloc (Nat.le_refl _) _)) hn
  have hle := end_le zs
  rw [hl] at hle
  by_cases he : endL zs = n
  · obtain ⟨h1, h2, -⟩ := why_none (end_text (he.trans hl.symm))
    rw [h1, h2]
    rw [he] at k
    clear hb hl he h1 h2 hle
    go_enter Tryz.func117, Tryz.ntmps117
    go_wp2_with fail
    refine k.mono ?_
    rintro e w1 ⟨rfl, hb1⟩
    have hF : FAt w1 w.heap.size 0 0 := FAt.kept (w := w.alloc _) (heap_alloc_new w _) hb1
    have c0 := hF.c0
    have c1 := hF.c1
    have f0 := hF.fz 0
    have f1 := hF.fz 1
    have hbw : Below w.heap.size w w1 := ((Below.refl w.heap.size w).alloc (Nat.le_refl _) _).trans (hb1.mono (by simp))
    clear k
    go_wp2
    refine bodyPost_ret (v := .agg #[.int .i64 0, .int .i64 0]) (by simp [results, Tryz.results117, go_sem, *]) rfl ⟨rfl, ?_⟩
    first | exact hbw | exact (hbw.setCell (Nat.le_refl _) _).setCell (Nat.le_refl _) _
  · have hf := end_fault (b := zs) (by rw [hl]; exact he)
    have hstop := end_stop zs (by rw [hl]; omega)
    obtain ⟨h1, h2, -⟩ := why_some hf
    rw [h1, h2]
    obtain ⟨b, off, rfl⟩ := bytes_some hb (by omega)
    have hE : endL zs < n := by omega
    have k2 := fun w1 (h : Bytes w1 (some ⟨b, off, none⟩) zs) => begun_any b (off + endL zs) (n - endL zs) (cap - endL zs) (zs.drop (endL zs)) w1 (by rw [List.length_drop, hl]) (by omega) (h.drop _) hstop (by omega)
    have i1 : (cap = endL zs) = False := by simp; omega
    have i2 : ((endL zs : Nat) : Int) ≤ (n : Int) := by omega
    have i4 : ((endL zs : Nat) : Int) ≤ (cap : Int) := by omega
    have i3 : (((endL zs : Nat) : Int) == (n : Int)) = false := by simp; omega
    have hbl : endL zs + badB (zs.drop (endL zs)) ≤ n := by
      have := fault_le zs _ hf
      omega
    clear hb hl he h1 h2 hle hf hstop
    generalize endL zs = E at *
    generalize badB (zs.drop E) = B at *
    have k3 : Hid _ := k2
    clear k2
    go_enter Tryz.func117, Tryz.ntmps117
    go_wp2_with fail
    refine k.mono ?_
    rintro e w1 ⟨rfl, hb1⟩
    have hbw : Below w.heap.size w w1 := ((Below.refl w.heap.size w).alloc (Nat.le_refl _) _).trans (hb1.mono (by simp))
    have kk := k3.out w1 (hB0.out.kept hbw)
    have hF : FAt w1 w.heap.size 0 0 := FAt.kept (w := w.alloc _) (heap_alloc_new w _) hb1
    have c0 := hF.c0
    have c1 := hF.c1
    have f0 := hF.fz 0
    have f1 := hF.fz 1
    clear k
    go_wp2_with (go_at_call 137; refine kk.mono ?_; rintro e w' ⟨rfl, hw⟩; obtain rfl : w1 = w' := hw.symm)
    have hv : IntKind.i64.wrap ((E : Int) + (B : Int)) = ((E + B : Nat) : Int) := by rw [IntKind.wrap_i64] <;> omega
    refine bodyPost_ret (v := .agg #[.int .i64 6, .int .i64 ((E + B : Nat) : Int)]) (by simp [results, Tryz.results117, go_sem, *]) rfl ⟨rfl, ?_⟩
    first | exact hbw | exact (hbw.setCell (Nat.le_refl _) _).setCell (Nat.le_refl _) _
end Go.Proofs.YtmlacmoembjeoaaGreatDoor
