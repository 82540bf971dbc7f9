/-
  A text as a string: jlex.escapeRune.
-/
import Derived.Test.YtfkoghmbkgbgbaaDoorJbi
import Derived.Test.YtfkoghmbkgbgbaaDoorJix
namespace Go.Proofs.YtfkoghmbkgbgbaaDoor
open Go.RowKit
set_option linter.unusedVariables false

/-- What a builder's writes leave. -/
def KI (g B : Nat) (w w' : World) : Prop := Kq g B w w' ∧ Its w w'
theorem KI.trans {g B : Nat} {a b c : World} (h : KI g B a b) (k : KI g B b c) : KI g B a c := ⟨h.1.trans k.1, h.2.trans k.2⟩
theorem KI.of {g B : Nat} {w w' : World} (h : Below w.heap.size w w') (hB : B ≤ w.heap.size) : KI g B w w' := ⟨Kq.of (h.mono hB), Its.of h⟩
/-- A builder that has a block of its own. -/
def BB (w : World) (g B : Nat) (zs : List Int) : Prop := ∃ cs p v, Bdr w g 0 B cs 58 p v zs
theorem BB.top {w : World} {g B : Nat} {zs : List Int} (h : BB w g B zs) : B ≤ w.heap.size := by obtain ⟨_, _, _, h⟩ := h; exact h.top
theorem BB.low {w : World} {g B : Nat} {zs : List Int} (h : BB w g B zs) : g < B := by obtain ⟨_, _, _, h⟩ := h; exact h.low
theorem wb_bb {w : World} {g B : Nat} {zs : List Int} (c : Int) (hc0 : 0 ≤ c) (hc1 : c < 256) (h : BB w g B zs) (hlen : zs.length + 4 ≤ 140737488355328) :
    Calls Tryd.prog 28 #[.pointer (some ⟨g, 0, none⟩), .int .u8 c] w fun e w' => e = .returned .nilIface ∧ BB w' g B (zs ++ [c]) ∧ KI g B w w' := by
  obtain ⟨cs, p, v, h⟩ := h
  exact (wbyte_its c hc0 hc1 h hlen).mono fun e w' ⟨h1, ⟨v', h2⟩, h3⟩ => ⟨h1, ⟨_, _, _, h2⟩, h3⟩
theorem ws_bb {w : World} {g B : Nat} {zs : List Int} (t : ByteArray) (h : BB w g B zs) (hlen : zs.length + t.size ≤ 140737488355328) :
    Calls Tryd.prog 47 #[.pointer (some ⟨g, 0, none⟩), .string t] w fun e w' => (∃ n, e = .returned (.tuple #[.int .i64 n, .nilIface])) ∧ BB w' g B (zs ++ bs t) ∧ KI g B w w' := by
  obtain ⟨cs, p, v, h⟩ := h
  exact (wstr_its t h hlen).mono fun e w' ⟨h1, ⟨v', h2⟩, h3⟩ => ⟨h1, ⟨_, _, _, h2⟩, h3⟩
theorem wr_bb {w : World} {g B : Nat} {zs : List Int} (r : Nat) (hr : Right r) (h : BB w g B zs) (hlen : zs.length + 4 ≤ 140737488355328) :
    Calls Tryd.prog 48 #[.pointer (some ⟨g, 0, none⟩), .int .i32 (r : Int)] w fun e w' => (∃ n, e = .returned (.tuple #[.int .i64 n, .nilIface])) ∧ BB w' g B (zs ++ encL r) ∧ KI g B w w' := by
  obtain ⟨cs, p, v, h⟩ := h
  exact (wrune_its r hr h hlen).mono fun e w' ⟨h1, ⟨v', h2⟩, h3⟩ => ⟨h1, ⟨_, _, _, h2⟩, h3⟩
theorem st_bb {w : World} {g B : Nat} {zs : List Int} (h : BB w g B zs) :
    Calls Tryd.prog 30 #[.pointer (some ⟨g, 0, none⟩)] w fun e w' => e = .returned (.string (strOfNums zs)) ∧ Below B w w' := by
  obtain ⟨cs, p, v, h⟩ := h
  exact bstr_any h
theorem BB.on {w w' : World} {g B : Nat} {zs : List Int} (h : BB w g B zs) (hb : Below w.heap.size w w') : BB w' g B zs := by
  obtain ⟨cs, p, v, h⟩ := h
  exact ⟨cs, p, v, h.blk.kept hb h.blk.lt, h.ptr, h.own, h.buf, h.lies, h.row.below hb, h.low, Nat.le_trans h.top hb.size⟩

/-! ### One character -/
def shortN (r : Nat) : Nat := if r = 34 then 34 else if r = 92 then 92 else if r = 8 then 98 else if r = 12 then 102 else if r = 10 then 110 else if r = 13 then 114 else 116
def hexN (d : Nat) : Nat := if d < 10 then 48 + d else 87 + d
def escR (r : Nat) : List Int := if 0 ≤ meanI r then [92, (shortN r : Int)] else if r < 32 then [92, 117, 48, 48, (hexN (r / 16) : Int), (hexN (r % 16) : Int)] else encL r
theorem escR_len (r : Nat) : (escR r).length ≤ 6 := by
  unfold escR
  split
  · simp
  · split
    · simp
    · have := (enc_len r).2; omega
theorem hex_byte : ∀ (d : Nat) (h : d < (⟨#[48, 49, 50, 51, 52, 53, 54, 55, 56, 57, 97, 98, 99, 100, 101, 102]⟩ : ByteArray).size), ((⟨#[48, 49, 50, 51, 52, 53, 54, 55, 56, 57, 97, 98, 99, 100, 101, 102]⟩ : ByteArray)[d]'h).toNat = hexN d := by decide
theorem and15 : ∀ r : Nat, r < 32 → bits BinOp.and IntKind.i32 (r : Int) 15 = ((r % 16 : Nat) : Int) := by decide
theorem u8_lt (b : UInt8) : ((b.toNat : Nat) : Int) < 256 := by have := b.toNat_lt; omega
theorem short_byte (r m : Nat) (hm : meanI r = (m : Nat)) (h : m < (⟨#[34, 92, 98, 102, 110, 114, 116]⟩ : ByteArray).size) : ((⟨#[34, 92, 98, 102, 110, 114, 116]⟩ : ByteArray)[m]'h).toNat = shortN r := by
  unfold meanI at hm
  unfold shortN
  by_cases h1 : r = 34
  · rw [if_pos h1] at hm ⊢; obtain rfl : m = 0 := by omega
    rfl
  rw [if_neg h1] at hm ⊢
  by_cases h2 : r = 92
  · rw [if_pos h2] at hm ⊢; obtain rfl : m = 1 := by omega
    rfl
  rw [if_neg h2] at hm ⊢
  by_cases h3 : r = 8
  · rw [if_pos h3] at hm ⊢; obtain rfl : m = 2 := by omega
    rfl
  rw [if_neg h3] at hm ⊢
  by_cases h4 : r = 12
  · rw [if_pos h4] at hm ⊢; obtain rfl : m = 3 := by omega
    rfl
  rw [if_neg h4] at hm ⊢
  by_cases h5 : r = 10
  · rw [if_pos h5] at hm ⊢; obtain rfl : m = 4 := by omega
    rfl
  rw [if_neg h5] at hm ⊢
  by_cases h6 : r = 13
  · rw [if_pos h6] at hm ⊢; obtain rfl : m = 5 := by omega
    rfl
  rw [if_neg h6] at hm ⊢
  by_cases h7 : r = 9
  · rw [if_pos h7] at hm; obtain rfl : m = 6 := by omega
    rfl
  rw [if_neg h7] at hm
  omega
set_option maxHeartbeats 1000000 in
set_option maxRecDepth 100000 in
theorem esc_short {w : World} {g B : Nat} {zs : List Int} (r m : Nat) (hr : Right r) (hm : meanI r = (m : Nat)) (h : BB w g B zs) (hlen : zs.length + 100 ≤ 140737488355328) : Calls Tryd.prog 29 #[.pointer (some ⟨g, 0, none⟩), .int .i32 (r : Int)] w fun e w' => e = .returned (.tuple #[]) ∧ BB w' g B (zs ++ [92, (shortN r : Int)]) ∧ KI g B w w' := by
  have kM := mean_any r hr w
  rw [hm] at kM
  have hm7 : m < 7 := by unfold meanI at hm; omega
  have a1 : decide ((0 : Int) ≤ (m : Int)) = true := by simp
  have hB : Hid (BB w g B zs) := h
  have hl' : Hid (zs.length + 100 ≤ 140737488355328) := hlen
  have hsh : Hid (meanI r = (m : Nat)) := hm
  clear hm h hlen
  go_enter Tryd.func29, Tryd.ntmps29
  go_wp2_with (first
    | (go_at_call 46; refine kM.mono ?_; rintro e w1 ⟨rfl, hb1⟩; clear kM; have h1 : Hid (BB w1 g B zs) := hB.out.on hb1)
    | (go_at_call 28; guard_hyp h1; refine (wb_bb 92 (by decide) (by decide) h1.out (by have := hl'.out; omega)).mono ?_; rintro e w2 ⟨rfl, h2', q2⟩; have h2 : Hid (BB w2 g B (zs ++ [92])) := h2'; clear h1 h2')
    | (go_at_call 28; guard_hyp h2; refine (wb_bb _ (Int.natCast_nonneg _) (u8_lt _) h2.out (by have := hl'.out; simp; omega)).mono ?_; rintro e w3 ⟨rfl, h3, q3⟩))
  go_end0
  refine ⟨rfl, ?_, ?_⟩
  · rw [short_byte r m hsh.out] at h3
    rw [show zs ++ [92, (shortN r : Int)] = zs ++ [92] ++ [(shortN r : Int)] by simp]; exact h3
  · exact (KI.trans (KI.of hb1 hB.out.top) q2).trans q3
set_option maxHeartbeats 1000000 in
set_option maxRecDepth 100000 in
theorem esc_small {w : World} {g B : Nat} {zs : List Int} (r : Nat) (hr : Right r) (hm : meanI r = -1) (h32 : r < 32) (h : BB w g B zs) (hlen : zs.length + 100 ≤ 140737488355328) : Calls Tryd.prog 29 #[.pointer (some ⟨g, 0, none⟩), .int .i32 (r : Int)] w fun e w' => e = .returned (.tuple #[]) ∧ BB w' g B (zs ++ [92, 117, 48, 48, (hexN (r / 16) : Int), (hexN (r % 16) : Int)]) ∧ KI g B w w' := by
  have kM := mean_any r hr w
  rw [hm] at kM
  have a2 : decide ((r : Int) < 32) = true := by simp; omega
  have hB : Hid (BB w g B zs) := h
  have hl' : Hid (zs.length + 100 ≤ 140737488355328) := hlen
  have h32' : Hid (r < 32) := h32
  have hA := and15 r h32
  have d1 : (r : Int) / 16 < 16 := by omega
  have d2 : ((r % 16 : Nat) : Int) < 16 := by omega
  have d3 : r / 16 < 16 := by omega
  have d4 : r % 16 < 16 := by omega
  clear hm h hlen hr h32
  go_enter Tryd.func29, Tryd.ntmps29
  go_wp2_with (first
    | (go_at_call 46; refine kM.mono ?_; rintro e w1 ⟨rfl, hb1⟩; clear kM; have h1 : Hid (BB w1 g B zs) := hB.out.on hb1)
    | (go_at_call 47; refine (ws_bb ⟨#[92, 117, 48, 48]⟩ h1.out (by have := hl'.out; have e4 : (⟨#[92, 117, 48, 48]⟩ : ByteArray).size = 4 := rfl; omega)).mono ?_; rintro e w2 ⟨⟨n2, rfl⟩, h2', q2⟩; have h2 : Hid (BB w2 g B (zs ++ [92, 117, 48, 48])) := h2'; clear h1 h2')
    | (go_at_call 28; guard_hyp h2; refine (wb_bb _ (Int.natCast_nonneg _) (u8_lt _) h2.out (by have := hl'.out; simp; omega)).mono ?_; rintro e w3 ⟨rfl, h3', q3⟩; rw [hex_byte (r / 16)] at h3'; have h3 : Hid (BB w3 g B (zs ++ [92, 117, 48, 48] ++ [(hexN (r / 16) : Int)])) := h3'; clear h2 h3')
    | (go_at_call 28; guard_hyp h3; refine (wb_bb _ (Int.natCast_nonneg _) (u8_lt _) h3.out (by have := hl'.out; simp; omega)).mono ?_; rintro e w4 ⟨rfl, h4, q4⟩))
  go_end0
  refine ⟨rfl, ?_, ?_⟩
  · rw [hex_byte (r % 16)] at h4
    rw [show zs ++ [92, 117, 48, 48, (hexN (r / 16) : Int), (hexN (r % 16) : Int)] = zs ++ [92, 117, 48, 48] ++ [(hexN (r / 16) : Int)] ++ [(hexN (r % 16) : Int)] by simp]; exact h4
  · exact ((KI.trans (KI.of hb1 hB.out.top) q2).trans q3).trans q4
set_option maxHeartbeats 1000000 in
set_option maxRecDepth 100000 in
theorem esc_plain {w : World} {g B : Nat} {zs : List Int} (r : Nat) (hr : Right r) (hm : meanI r = -1) (h32 : ¬ r < 32) (h : BB w g B zs) (hlen : zs.length + 100 ≤ 140737488355328) : Calls Tryd.prog 29 #[.pointer (some ⟨g, 0, none⟩), .int .i32 (r : Int)] w fun e w' => e = .returned (.tuple #[]) ∧ BB w' g B (zs ++ encL r) ∧ KI g B w w' := by
  have kM := mean_any r hr w
  rw [hm] at kM
  have a2 : decide ((r : Int) < 32) = false := by simp; omega
  have hB : Hid (BB w g B zs) := h
  have hl' : Hid (zs.length + 100 ≤ 140737488355328) := hlen
  have hr' : Hid (Right r) := hr
  clear hm h hlen hr h32
  go_enter Tryd.func29, Tryd.ntmps29
  go_wp2_with (first
    | (go_at_call 46; refine kM.mono ?_; rintro e w1 ⟨rfl, hb1⟩; clear kM; have h1 : Hid (BB w1 g B zs) := hB.out.on hb1)
    | (go_at_call 48; refine (wr_bb r hr'.out h1.out (by have := hl'.out; omega)).mono ?_; rintro e w2 ⟨⟨n2, rfl⟩, h2, q2⟩))
  go_end0
  exact ⟨rfl, h2, KI.trans (KI.of hb1 hB.out.top) q2⟩
/-- jlex.escapeRune. -/
theorem escr_any {w : World} {g B : Nat} {zs : List Int} (r : Nat) (hr : Right r) (h : BB w g B zs) (hlen : zs.length + 100 ≤ 140737488355328) : Calls Tryd.prog 29 #[.pointer (some ⟨g, 0, none⟩), .int .i32 (r : Int)] w fun e w' => e = .returned (.tuple #[]) ∧ BB w' g B (zs ++ escR r) ∧ KI g B w w' := by
  unfold escR
  by_cases h0 : 0 ≤ meanI r
  · rw [if_pos h0]
    obtain ⟨m, hm⟩ := Int.eq_ofNat_of_zero_le h0
    exact esc_short r m hr hm h hlen
  · rw [if_neg h0]
    have hm : meanI r = -1 := by unfold meanI at h0 ⊢; omega
    by_cases h1 : r < 32
    · rw [if_pos h1]; exact esc_small r hr hm h1 h hlen
    · rw [if_neg h1]; exact esc_plain r hr hm h1 h hlen
end Go.Proofs.YtfkoghmbkgbgbaaDoor
