/-
  Numbers, words and tokens of JSON texts as plain data, and the tokens one behind the other; that a fault hangs on the bytes up to it alone, and that tokens stand in order with gaps alone between them. No program is named here.
  Where a byte, or a character, stands in a text: strings.IndexByte, strings.IndexRune; the gaps ahead: jlex.behindGaps.
  A text as a string: jlex.escapeRune.
-/
import Derived.Test.YtelabgonpmafpaaGreatDoorP6
import Derived.Test.YtelabgonpmafpaaGreatDoorP4
import Derived.Shelf.Strings.Search1
import Derived.Laws.Runes
import Derived.Deep.RegionHeld3
namespace Go.Proofs.YtelabgonpmafpaaGreatDoor
open Go
set_option linter.unusedVariables false

/-! ### Numbers -/
/-- A TOKEN. -/
structure Tk where
  kind : Nat
  frm : Nat
  to : Nat
  txt : List Int
def z0 : Tk := ⟨0, 0, 0, []⟩
/-! ### Words -/
/-! ### Tokens -/
/-! ### One behind the other -/
end Go.Proofs.YtelabgonpmafpaaGreatDoor
namespace Go.Proofs.YtelabgonpmafpaaGreatDoor
open Go.RowKit
set_option linter.unusedVariables false

/-- strings.IndexByte. -/
theorem ib_any (s : ByteArray) (c : Int) (w : World) : Calls Tryz.prog 130 #[.string s, .int .u8 c] w fun e w' => e = .returned (.int .i64 (Lib.indexByte s.data.toList c.toNat.toUInt8)) ∧ w' = w := by
  have k : Calls Tryz.prog 159 #[.string s, .int .u8 c] w fun e w' => e = .returned (.int .i64 (Lib.indexByte s.data.toList c.toNat.toUInt8)) ∧ w' = w := Any.stringslite_IndexByte lays217 s c w
  generalize Lib.indexByte s.data.toList c.toNat.toUInt8 = X at *
  go_enter Tryz.func130, Tryz.ntmps130
  go_wp2_with (go_at_call 159; refine k.mono ?_; rintro e w1 ⟨rfl, hw⟩; subst hw)
  go_ret
  exact ⟨rfl, rfl⟩
set_option maxHeartbeats 1000000 in
/-- utf8.ValidRune. -/
theorem valid_any (r : Nat) (hr : Right r) (w : World) : Calls Tryz.prog 152 #[.int .i32 (r : Int)] w fun e w' => e = .returned (.bool true) ∧ w' = w := by
  unfold Right at hr
  have a0 : decide ((0 : Int) ≤ (r : Int)) = true := by simp
  by_cases h : r < 55296
  · have a1 : decide ((r : Int) < 55296) = true := by simp; omega
    clear h hr
    go_enter Tryz.func152, Tryz.ntmps152
    go_wp2
    go_ret
    exact ⟨rfl, rfl⟩
  · have a1 : decide ((r : Int) < 55296) = false := by simp; omega
    have a2 : decide ((57343 : Int) < (r : Int)) = true := by simp; omega
    have a3 : decide ((r : Int) ≤ 1114111) = true := by simp; omega
    clear h hr
    go_enter Tryz.func152, Tryz.ntmps152
    go_wp2
    go_ret
    exact ⟨rfl, rfl⟩
set_option maxHeartbeats 2000000 in
set_option maxRecDepth 100000 in
theorem ir_ascii (s : ByteArray) (r : Nat) (hr : r < 128) (w : World) : Calls Tryz.prog 117 #[.string s, .int .i32 (r : Int)] w fun e w' => e = .returned (.int .i64 (Lib.indexByte s.data.toList ((r : Int).toNat.toUInt8))) ∧ w' = w := by
  have k := ib_any s (r : Int) w
  generalize Lib.indexByte s.data.toList ((r : Int).toNat.toUInt8) = X at *
  have a0 : decide ((0 : Int) ≤ (r : Int)) = true := by simp
  have a1 : decide ((r : Int) < 128) = true := by simp; omega
  have w1 : IntKind.u8.wrap (r : Int) = (r : Int) := by rw [IntKind.wrap_u8]; omega
  clear hr
  go_enter Tryz.func117, Tryz.ntmps117
  go_wp2_with (go_at_call 130; refine k.mono ?_; rintro e w1 ⟨rfl, hw⟩; subst hw)
  go_ret
  exact ⟨rfl, rfl⟩
/-- All its bytes are below 128. -/
def Ascii (s : ByteArray) : Prop := ∀ b ∈ s.data.toList, b.toNat < 128
theorem ascii_at {s : ByteArray} (hs : Ascii s) {k : Nat} (h : k < s.size) : (s[k]'h).toNat < 128 := hs _ (by
  have : s[k]'h = s.data.toList[k]'(by simpa using h) := rfl
  rw [this]
  exact List.getElem_mem _)
theorem ascii_decode {s : ByteArray} (hs : Ascii s) {k : Nat} (h : k < s.size) : Utf8.decode s k = ((s[k]'h).toNat, 1) := by
  have hz := bs_bytes s
  have e : s = strOfNums (bs s) := (str_bs s).symm
  have hk : k < (bs s).length := by rw [bs_len]; exact h
  have h0 : nth ((bs s).drop k) 0 = (s[k]'h).toNat := by
    rw [nth_drop]
    unfold nth
    rw [Nat.add_zero, bs_at s h]
    rfl
  have hlt := ascii_at hs h
  have hl : lenB ((bs s).drop k) = 1 := by
    unfold lenB lenN
    rw [h0, if_pos hlt]
  have hG : Good ((bs s).drop k) := by
    have hL : lenN (nth ((bs s).drop k) 0) = 1 := hl
    unfold Good GoodN
    rw [hL]
    exact ⟨by omega, fun h => by omega, fun h => by omega, fun h => by omega⟩
  have hv : valB ((bs s).drop k) = (s[k]'h).toNat := by
    unfold valB valN
    rw [h0, if_pos hlt]
  conv => lhs; rw [e]
  rw [decode_good hz hG, hv, hl]
set_option maxHeartbeats 2000000 in
set_option maxRecDepth 100000 in
theorem ir_odd (s : ByteArray) (hs : Ascii s) (w : World) : Calls Tryz.prog 117 #[.string s, .int .i32 65533] w fun e w' => e = .returned (.int .i64 (-1)) ∧ Below w.heap.size w w' := by
  have hS : Hid (Ascii s) := hs
  clear hs
  go_enter Tryz.func117, Tryz.ntmps117
  go_wp2
  go_loopw [] (fun wr => ∃ pos : Nat, wr = w.iter s pos ∧ pos ≤ s.size) (fun wr => s.size - wr.iterPos w.heap.size)
  case atStart => exact ⟨0, rfl, Nat.zero_le _⟩
  case round =>
    obtain ⟨pos, rfl, hp⟩ := hrel
    by_cases hlt : pos < s.size
    · have hd := ascii_decode hS.out hlt
      have ha := ascii_at hS.out hlt
      have hnx : ∀ ty, (Instr.next (.pointer (some ⟨w.heap.size, 0, none⟩)) true ty).run Tryz.prog (w.iter s pos) = .ok (.tuple #[.bool true, .int .i64 pos, .int .i32 (((s[pos]'hlt).toNat : Nat) : Int)]) (w.iter s (pos + 1)) := fun ty => by
        rw [run_next_any w s pos ty hlt, hd]
      generalize (s[pos]'hlt).toNat = V at *
      have hV : (((V : Nat) : Int) == 65533) = false := by simp; omega
      clear hd ha
      go_wp2
      go_roundw
      case rel => exact ⟨pos + 1, rfl, by omega⟩
      case measure => simp; omega
    · obtain rfl : pos = s.size := by omega
      have hnx : ∀ ty, (Instr.next (.pointer (some ⟨w.heap.size, 0, none⟩)) true ty).run Tryz.prog (w.iter s s.size) = _ := fun ty => run_next_end w s s.size ty (by omega)
      go_wp2
      go_ret
      exact ⟨rfl, iter_below w s _⟩
set_option maxHeartbeats 4000000 in
set_option maxRecDepth 100000 in
theorem ir_big (s : ByteArray) (hs : Ascii s) (h4 : 4 ≤ s.size) (h5 : s.size ≤ 1000) (r : Nat) (hr : Right r) (h128 : 128 ≤ r) (hodd : r ≠ 65533) (w : World) : Calls Tryz.prog 117 #[.string s, .int .i32 (r : Int)] w fun e w' => e = .returned (.int .i64 (-1)) ∧ Below w.heap.size w w' := by
  have kV := fun w' => valid_any r hr w'
  have hv : Utf8.valid (r : Int) = true := by
    unfold Right at hr
    unfold Utf8.valid
    simp
    omega
  obtain ⟨e1, e2, e3⟩ := encode_facts (r : Int) hv (by omega)
  have a0 : decide ((0 : Int) ≤ (r : Int)) = true := by simp
  have a1 : decide ((r : Int) < 128) = false := by simp; omega
  have a2 : (((r : Nat) : Int) == 65533) = false := by simp; omega
  generalize hE : Utf8.encode (r : Int) = E at *
  obtain ⟨m, hm⟩ : ∃ m, E.size = m + 1 := ⟨E.size - 1, by omega⟩
  have hmE : m < E.size := by omega
  have hms : m < s.size := by omega
  have W1 : IntKind.i64.wrap (((E.size : Nat) : Int) - 1) = ((m : Nat) : Int) := by rw [IntKind.wrap_i64]; omega
  have W2 : IntKind.i64.wrap (((m : Nat) : Int) + 1) = ((m : Nat) : Int) + 1 := by rw [IntKind.wrap_i64]; omega
  have hlast : 128 ≤ (E[m]'hmE).toNat := by
    have := e3 (by omega)
    have e : E.size - 1 = m := by omega
    simpa only [e] using this
  have hfst := ascii_at hs hms
  have hne : ((((s[m]'hms).toNat : Nat) : Int) != (((E[m]'hmE).toNat : Nat) : Int)) = true := by simp; omega
  have kI : ∀ w0, Calls Tryz.prog 130 #[.string (s.extract (m + 1) s.size), .int .u8 (((E[m]'hmE).toNat : Nat) : Int)] w0 fun e w' => e = .returned (.int .i64 (-1)) ∧ w' = w0 := fun w0 => by
    have k := ib_any (s.extract (m + 1) s.size) (((E[m]'hmE).toNat : Nat) : Int) w0
    have hx : Lib.indexByte (s.extract (m + 1) s.size).data.toList (((((E[m]'hmE).toNat : Nat) : Int)).toNat.toUInt8) = -1 := by
      rw [← Lib.firstIdx_eq]
      refine firstIdx_ascii s _ _ _ hs ?_
      have e : (((((E[m]'hmE).toNat : Nat) : Int)).toNat.toUInt8) = E[m]'hmE := by
        rw [Int.toNat_natCast, Nat.toUInt8, UInt8.ofNat_toNat]
      rw [e]; exact hlast
    rwa [hx] at k
  have hm1 : m + 1 ≤ s.size := by omega
  have hz : (m : Int) < ((s.size : Nat) : Int) := by omega
  have hz0 : (0 : Int) ≤ (m : Int) + 1 := by omega
  have hz1 : (m : Int) + 1 ≤ ((s.size : Nat) : Int) := by omega
  clear e1 e2 e3 hlast hfst hr h128 hodd hv hm
  go_enter Tryz.func117, Tryz.ntmps117
  go_wp2_with (go_at_call 152; refine (kV _).mono ?_; rintro e w1 ⟨rfl, hw⟩; obtain rfl : w = w1 := hw.symm)
  go_step3
  go_wp2
  go_loopw [9] (fun v wr => v = .int .i64 m ∧ wr = w) (fun _ _ => 0)
  case atStart => exact ⟨rfl, rfl⟩
  case round =>
    obtain ⟨rfl, rfl⟩ := hrel
    go_wp2
    go_step3
    go_wp2
    go_quiet (fail)
    go_wp2
    go_region_held3 (fun _ => True) (trivial) (first
      | (go_at_call 130; refine (kI _).mono ?_; rintro e w1 ⟨rfl, hw1⟩; have B1 : Hid (Below wr.heap.size wr w1) := (by (rw [hw1]; exact ⟨rfl, rfl, rfl, Nat.le_refl _, fun _ _ => rfl⟩)); clear hw1))
    go_wp2
    rw [Exit.noGoto_ret]
    change bodyPost Tryz.prog Tryz.f117 (fun e w' => e = Ending.returned (Value.int IntKind.i64 (-1)) ∧ Below wr.heap.size wr w') Exit.ret _ w1
    go_ret
    exact ⟨rfl, B1.out⟩
/-- strings.IndexRune of ASCII signs. -/
theorem ir_any (s : ByteArray) (hs : Ascii s) (h4 : 4 ≤ s.size) (h5 : s.size ≤ 1000) (r : Nat) (hr : Right r) (w : World) : Calls Tryz.prog 117 #[.string s, .int .i32 (r : Int)] w fun e w' => e = .returned (.int .i64 (if r < 128 then Lib.indexByte s.data.toList ((r : Int).toNat.toUInt8) else -1)) ∧ Below w.heap.size w w' := by
  by_cases h : r < 128
  · rw [if_pos h]
    exact (ir_ascii s r h w).mono fun e w' ⟨h1, h2⟩ => ⟨h1, by rw [h2]; exact Below.refl _ _⟩
  · rw [if_neg h]
    by_cases ho : r = 65533
    · subst ho
      exact ir_odd s hs w
    · exact ir_big s hs h4 h5 r hr (by omega) ho w
def meanS : ByteArray := ⟨#[34, 92, 8, 12, 10, 13, 9]⟩
theorem mean_ascii : Ascii meanS := by unfold Ascii meanS; decide
def meanI (r : Nat) : Int := if r = 34 then 0 else if r = 92 then 1 else if r = 8 then 2 else if r = 12 then 3 else if r = 10 then 4 else if r = 13 then 5 else if r = 9 then 6 else -1
set_option maxRecDepth 100000 in
theorem mean_ix : ∀ r : Nat, r < 128 → Lib.indexByte meanS.data.toList ((r : Int).toNat.toUInt8) = meanI r := by decide
theorem mean_big {r : Nat} (h : ¬ r < 128) : meanI r = -1 := by
  unfold meanI
  rw [if_neg (by omega), if_neg (by omega), if_neg (by omega), if_neg (by omega), if_neg (by omega), if_neg (by omega), if_neg (by omega)]
theorem mean_any (r : Nat) (hr : Right r) (w : World) : Calls Tryz.prog 117 #[.string ⟨#[34, 92, 8, 12, 10, 13, 9]⟩, .int .i32 (r : Int)] w fun e w' => e = .returned (.int .i64 (meanI r)) ∧ Below w.heap.size w w' := by
  refine (ir_any meanS mean_ascii (by decide) (by decide) r hr w).mono ?_
  rintro e w' ⟨h1, h2⟩
  refine ⟨?_, h2⟩
  rw [h1]
  by_cases h : r < 128
  · rw [if_pos h, mean_ix r h]
  · rw [if_neg h, mean_big h]
end Go.Proofs.YtelabgonpmafpaaGreatDoor
namespace Go.Proofs.YtelabgonpmafpaaGreatDoor
open Go.RowKit
set_option linter.unusedVariables false

/-- What a builder's writes leave. -/
def KI (g B : Nat) (w w' : World) : Prop := Kq g B w w' ∧ Its w w'
theorem KI.trans {g B : Nat} {a b c : World} (h : KI g B a b) (k : KI g B b c) : KI g B a c := ⟨h.1.trans k.1, h.2.trans k.2⟩
theorem KI.of {g B : Nat} {w w' : World} (h : Below w.heap.size w w') (hB : B ≤ w.heap.size) : KI g B w w' := ⟨Kq.of (h.mono hB), Its.of h⟩
/-- A builder that has a block of its own. -/
def BB (w : World) (g B : Nat) (zs : List Int) : Prop := ∃ cs p v, Bdr w g 0 B cs 100 p v zs
theorem BB.top {w : World} {g B : Nat} {zs : List Int} (h : BB w g B zs) : B ≤ w.heap.size := by obtain ⟨_, _, _, h⟩ := h; exact h.top
theorem BB.low {w : World} {g B : Nat} {zs : List Int} (h : BB w g B zs) : g < B := by obtain ⟨_, _, _, h⟩ := h; exact h.low
theorem wb_bb {w : World} {g B : Nat} {zs : List Int} (c : Int) (hc0 : 0 ≤ c) (hc1 : c < 256) (h : BB w g B zs) (hlen : zs.length + 4 ≤ 140737488355328) :
    Calls Tryz.prog 81 #[.pointer (some ⟨g, 0, none⟩), .int .u8 c] w fun e w' => e = .returned .nilIface ∧ BB w' g B (zs ++ [c]) ∧ KI g B w w' := by
  obtain ⟨cs, p, v, h⟩ := h
  exact (wbyte_its c hc0 hc1 h hlen).mono fun e w' ⟨h1, ⟨v', h2⟩, h3⟩ => ⟨h1, ⟨_, _, _, h2⟩, h3⟩
theorem ws_bb {w : World} {g B : Nat} {zs : List Int} (t : ByteArray) (h : BB w g B zs) (hlen : zs.length + t.size ≤ 140737488355328) :
    Calls Tryz.prog 77 #[.pointer (some ⟨g, 0, none⟩), .string t] w fun e w' => (∃ n, e = .returned (.tuple #[.int .i64 n, .nilIface])) ∧ BB w' g B (zs ++ bs t) ∧ KI g B w w' := by
  obtain ⟨cs, p, v, h⟩ := h
  exact (wstr_its t h hlen).mono fun e w' ⟨h1, ⟨v', h2⟩, h3⟩ => ⟨h1, ⟨_, _, _, h2⟩, h3⟩
theorem wr_bb {w : World} {g B : Nat} {zs : List Int} (r : Nat) (hr : Right r) (h : BB w g B zs) (hlen : zs.length + 4 ≤ 140737488355328) :
    Calls Tryz.prog 118 #[.pointer (some ⟨g, 0, none⟩), .int .i32 (r : Int)] w fun e w' => (∃ n, e = .returned (.tuple #[.int .i64 n, .nilIface])) ∧ BB w' g B (zs ++ encL r) ∧ KI g B w w' := by
  obtain ⟨cs, p, v, h⟩ := h
  exact (wrune_its r hr h hlen).mono fun e w' ⟨h1, ⟨v', h2⟩, h3⟩ => ⟨h1, ⟨_, _, _, h2⟩, h3⟩
theorem st_bb {w : World} {g B : Nat} {zs : List Int} (h : BB w g B zs) :
    Calls Tryz.prog 78 #[.pointer (some ⟨g, 0, none⟩)] w fun e w' => e = .returned (.string (strOfNums zs)) ∧ Below B w w' := by
  obtain ⟨cs, p, v, h⟩ := h
  exact bstr_any h
theorem BB.on {w w' : World} {g B : Nat} {zs : List Int} (h : BB w g B zs) (hb : Below w.heap.size w w') : BB w' g B zs := by
  obtain ⟨cs, p, v, h⟩ := h
  exact ⟨cs, p, v, h.blk.kept hb h.blk.lt, h.ptr, h.own, h.buf, h.lies, h.row.below hb, h.low, Nat.le_trans h.top hb.size⟩

/-! ### One character -/
def shortN (r : Nat) : Nat := if r = 34 then 34 else if r = 92 then 92 else if r = 8 then 98 else if r = 12 then 102 else if r = 10 then 110 else if r = 13 then 114 else 116
def hexN (d : Nat) : Nat := if d < 10 then 48 + d else 87 + d
def escR (r : Nat) : List Int := if 0 ≤ meanI r then [92, (shortN r : Int)] else if r < 32 then [92, 117, 48, 48, (hexN (r / 16) : Int), (hexN (r % 16) : Int)] else encL r
theorem escR_len (r : Nat) : (escR r).length ≤ 6 := by
  unfold escR
  split
  · simp
  · split
    · simp
    · have := (enc_len r).2; omega
theorem hex_byte : ∀ (d : Nat) (h : d < (⟨#[48, 49, 50, 51, 52, 53, 54, 55, 56, 57, 97, 98, 99, 100, 101, 102]⟩ : ByteArray).size), ((⟨#[48, 49, 50, 51, 52, 53, 54, 55, 56, 57, 97, 98, 99, 100, 101, 102]⟩ : ByteArray)[d]'h).toNat = hexN d := by decide
theorem and15 : ∀ r : Nat, r < 32 → bits BinOp.and IntKind.i32 (r : Int) 15 = ((r % 16 : Nat) : Int) := by decide
theorem u8_lt (b : UInt8) : ((b.toNat : Nat) : Int) < 256 := by have := b.toNat_lt; omega
theorem short_byte (r m : Nat) (hm : meanI r = (m : Nat)) (h : m < (⟨#[34, 92, 98, 102, 110, 114, 116]⟩ : ByteArray).size) : ((⟨#[34, 92, 98, 102, 110, 114, 116]⟩ : ByteArray)[m]'h).toNat = shortN r := by
  unfold meanI at hm
  unfold shortN
  by_cases h1 : r = 34
  · rw [if_pos h1] at hm ⊢; obtain rfl : m = 0 := by omega
    rfl
  rw [if_neg h1] at hm ⊢
  by_cases h2 : r = 92
  · rw [if_pos h2] at hm ⊢; obtain rfl : m = 1 := by omega
    rfl
  rw [if_neg h2] at hm ⊢
  by_cases h3 : r = 8
  · rw [if_pos h3] at hm ⊢; obtain rfl : m = 2 := by omega
    rfl
  rw [if_neg h3] at hm ⊢
  by_cases h4 : r = 12
  · rw [if_pos h4] at hm ⊢; obtain rfl : m = 3 := by omega
    rfl
  rw [if_neg h4] at hm ⊢
  by_cases h5 : r = 10
  · rw [if_pos h5] at hm ⊢; obtain rfl : m = 4 := by omega
    rfl
  rw [if_neg h5] at hm ⊢
  by_cases h6 : r = 13
  · rw [if_pos h6] at hm ⊢; obtain rfl : m = 5 := by omega
    rfl
  rw [if_neg h6] at hm ⊢
  by_cases h7 : r = 9
  · rw [if_pos h7] at hm; obtain rfl : m = 6 := by omega
    rfl
  rw [if_neg h7] at hm
  omega
set_option maxHeartbeats 1000000 in
set_option maxRecDepth 100000 in
theorem esc_short {w : World} {g B : Nat} {zs : List Int} (r m : Nat) (hr : Right r) (hm : meanI r = (m : Nat)) (h : BB w g B zs) (hlen : zs.length + 100 ≤ 140737488355328) : Calls Tryz.prog 82 #[.pointer (some ⟨g, 0, none⟩), .int .i32 (r : Int)] w fun e w' => e = .returned (.tuple #[]) ∧ BB w' g B (zs ++ [92, (shortN r : Int)]) ∧ KI g B w w' := by
  have kM := mean_any r hr w
  rw [hm] at kM
  have hm7 : m < 7 := by unfold meanI at hm; omega
  have a1 : decide ((0 : Int) ≤ (m : Int)) = true := by simp
  have hB : Hid (BB w g B zs) := h
  have hl' : Hid (zs.length + 100 ≤ 140737488355328) := hlen
  have hsh : Hid (meanI r = (m : Nat)) := hm
  clear hm h hlen
  go_enter Tryz.func82, Tryz.ntmps82
  go_wp2_with (first
    | (go_at_call 117; refine kM.mono ?_; rintro e w1 ⟨rfl, hb1⟩; clear kM; have h1 : Hid (BB w1 g B zs) := hB.out.on hb1)
    | (go_at_call 81; guard_hyp h1; refine (wb_bb 92 (by decide) (by decide) h1.out (by have := hl'.out; omega)).mono ?_; rintro e w2 ⟨rfl, h2', q2⟩; have h2 : Hid (BB w2 g B (zs ++ [92])) := h2'; clear h1 h2')
    | (go_at_call 81; guard_hyp h2; refine (wb_bb _ (Int.natCast_nonneg _) (u8_lt _) h2.out (by have := hl'.out; simp; omega)).mono ?_; rintro e w3 ⟨rfl, h3, q3⟩))
  go_end0
  refine ⟨rfl, ?_, ?_⟩
  · rw [short_byte r m hsh.out] at h3
    rw [show zs ++ [92, (shortN r : Int)] = zs ++ [92] ++ [(shortN r : Int)] by simp]; exact h3
  · exact (KI.trans (KI.of hb1 hB.out.top) q2).trans q3
set_option maxHeartbeats 1000000 in
set_option maxRecDepth 100000 in
theorem esc_small {w : World} {g B : Nat} {zs : List Int} (r : Nat) (hr : Right r) (hm : meanI r = -1) (h32 : r < 32) (h : BB w g B zs) (hlen : zs.length + 100 ≤ 140737488355328) : Calls Tryz.prog 82 #[.pointer (some ⟨g, 0, none⟩), .int .i32 (r : Int)] w fun e w' => e = .returned (.tuple #[]) ∧ BB w' g B (zs ++ [92, 117, 48, 48, (hexN (r / 16) : Int), (hexN (r % 16) : Int)]) ∧ KI g B w w' := by
  have kM := mean_any r hr w
  rw [hm] at kM
  have a2 : decide ((r : Int) < 32) = true := by simp; omega
  have hB : Hid (BB w g B zs) := h
  have hl' : Hid (zs.length + 100 ≤ 140737488355328) := hlen
  have h32' : Hid (r < 32) := h32
  have hA := and15 r h32
  have d1 : (r : Int) / 16 < 16 := by omega
  have d2 : ((r % 16 : Nat) : Int) < 16 := by omega
  have d3 : r / 16 < 16 := by omega
  have d4 : r % 16 < 16 := by omega
  clear hm h hlen hr h32
  go_enter Tryz.func82, Tryz.ntmps82
  go_wp2_with (first
    | (go_at_call 117; refine kM.mono ?_; rintro e w1 ⟨rfl, hb1⟩; clear kM; have h1 : Hid (BB w1 g B zs) := hB.out.on hb1)
    | (go_at_call 77; refine (ws_bb ⟨#[92, 117, 48, 48]⟩ h1.out (by have := hl'.out; have e4 : (⟨#[92, 117, 48, 48]⟩ : ByteArray).size = 4 := rfl; omega)).mono ?_; rintro e w2 ⟨⟨n2, rfl⟩, h2', q2⟩; have h2 : Hid (BB w2 g B (zs ++ [92, 117, 48, 48])) := h2'; clear h1 h2')
    | (go_at_call 81; guard_hyp h2; refine (wb_bb _ (Int.natCast_nonneg _) (u8_lt _) h2.out (by have := hl'.out; simp; omega)).mono ?_; rintro e w3 ⟨rfl, h3', q3⟩; rw [hex_byte (r / 16)] at h3'; have h3 : Hid (BB w3 g B (zs ++ [92, 117, 48, 48] ++ [(hexN (r / 16) : Int)])) := h3'; clear h2 h3')
    | (go_at_call 81; guard_hyp h3; refine (wb_bb _ (Int.natCast_nonneg _) (u8_lt _) h3.out (by have := hl'.out; simp; omega)).mono ?_; rintro e w4 ⟨rfl, h4, q4⟩))
  go_end0
  refine ⟨rfl, ?_, ?_⟩
  · rw [hex_byte (r % 16)] at h4
    rw [show zs ++ [92, 117, 48, 48, (hexN (r / 16) : Int), (hexN (r % 16) : Int)] = zs ++ [92, 117, 48, 48] ++ [(hexN (r / 16) : Int)] ++ [(hexN (r % 16) : Int)] by simp]; exact h4
  · exact ((KI.trans (KI.of hb1 hB.out.top) q2).trans q3).trans q4
set_option maxHeartbeats 1000000 in
set_option maxRecDepth 100000 in
theorem esc_plain {w : World} {g B : Nat} {zs : List Int} (r : Nat) (hr : Right r) (hm : meanI r = -1) (h32 : ¬ r < 32) (h : BB w g B zs) (hlen : zs.length + 100 ≤ 140737488355328) : Calls Tryz.prog 82 #[.pointer (some ⟨g, 0, none⟩), .int .i32 (r : Int)] w fun e w' => e = .returned (.tuple #[]) ∧ BB w' g B (zs ++ encL r) ∧ KI g B w w' := by
  have kM := mean_any r hr w
  rw [hm] at kM
  have a2 : decide ((r : Int) < 32) = false := by simp; omega
  have hB : Hid (BB w g B zs) := h
  have hl' : Hid (zs.length + 100 ≤ 140737488355328) := hlen
  have hr' : Hid (Right r) := hr
  clear hm h hlen hr h32
  go_enter Tryz.func82, Tryz.ntmps82
  go_wp2_with (first
    | (go_at_call 117; refine kM.mono ?_; rintro e w1 ⟨rfl, hb1⟩; clear kM; have h1 : Hid (BB w1 g B zs) := hB.out.on hb1)
    | (go_at_call 118; refine (wr_bb r hr'.out h1.out (by have := hl'.out; omega)).mono ?_; rintro e w2 ⟨⟨n2, rfl⟩, h2, q2⟩))
  go_end0
  exact ⟨rfl, h2, KI.trans (KI.of hb1 hB.out.top) q2⟩
/-- jlex.escapeRune. -/
theorem escr_any {w : World} {g B : Nat} {zs : List Int} (r : Nat) (hr : Right r) (h : BB w g B zs) (hlen : zs.length + 100 ≤ 140737488355328) : Calls Tryz.prog 82 #[.pointer (some ⟨g, 0, none⟩), .int .i32 (r : Int)] w fun e w' => e = .returned (.tuple #[]) ∧ BB w' g B (zs ++ escR r) ∧ KI g B w w' := by
  unfold escR
  by_cases h0 : 0 ≤ meanI r
  · rw [if_pos h0]
    obtain ⟨m, hm⟩ := Int.eq_ofNat_of_zero_le h0
    exact esc_short r m hr hm h hlen
  · rw [if_neg h0]
    have hm : meanI r = -1 := by unfold meanI at h0 ⊢; omega
    by_cases h1 : r < 32
    · rw [if_pos h1]; exact esc_small r hr hm h1 h hlen
    · rw [if_neg h1]; exact esc_plain r hr hm h1 h hlen
end Go.Proofs.YtelabgonpmafpaaGreatDoor
