/-
  What is said of a loss, by the document's own answer; an integer's text.
-/
import Derived.Test.YtgfnohgpmmaocaaDoorLsa
import Derived.Test.YtgfnohgpmmaocaaDoorXfr
import Derived.Lib.AppendIntMem
namespace Go.Proofs.YtgfnohgpmmaocaaDoor
open Go.RowKit
set_option linter.unusedVariables false
set_option linter.unusedSimpArgs false

/-- An integer's text. -/
def itoB (s : Int) : ByteArray := if s < 0 then ⟨#[45]⟩ ++ txt s.natAbs else txt s.toNat
theorem itoa_itoB (s : Int) : (⟨(Lib.itoa s).toArray⟩ : ByteArray) = itoB s := by
  unfold Lib.itoa itoB
  by_cases h : s < 0
  · rw [if_pos h, if_pos h, ← dec_txt]
    apply ByteArray.ext
    rw [ByteArray.data_append]
    simp
  · rw [if_neg h, if_neg h, dec_txt]
theorem itoB_size (s : Int) (h0 : -9223372036854775808 ≤ s) (h1 : s ≤ 9223372036854775807) : (itoB s).size ≤ 30 := by
  unfold itoB
  by_cases h : s < 0
  · rw [if_pos h, ByteArray.size_append, txt_size]
    have := num_len20 (m := s.natAbs) (by omega)
    show 1 + _ ≤ 30
    omega
  · rw [if_neg h, txt_size]
    have := num_len20 (m := s.toNat) (by omega)
    omega
theorem itoa_any (s : Int) (h0 : -9223372036854775808 ≤ s) (h1 : s ≤ 9223372036854775807) (wr : World) (htab : Lib.TabIs Tryd.prog wr "internal/strconv.uint64pow10" .u64 Lib.pow10Tab) : Calls Tryd.prog 29 #[.int .i64 s] wr fun e w' => e = .returned (.string (itoB s)) ∧ Below wr.heap.size wr w' := by
  refine (Any.strconv_Itoa laysM171 s h0 h1 wr htab).mono ?_
  rintro e w' ⟨rfl, k, os, rfl⟩
  rw [itoa_itoB]
  exact ⟨rfl, Lib.below_grow _ wr (Nat.le_refl _) k os⟩

/-- Texts with a stroke between them. -/
def jnZ (f : Int → ByteArray) (p : List Int) : ByteArray := ⟨(Lib.join ((p.map f).map (·.data.toList)) [47]).toArray⟩
theorem join_snoc (s : List UInt8) (y : List UInt8) : ∀ (xs : List (List UInt8)), Lib.join (xs ++ [y]) s = if xs = [] then y else Lib.join xs s ++ (s ++ y) := by
  intro xs
  induction xs with
  | nil => simp [Lib.join]
  | cons a l ih =>
    cases l with
    | nil => simp [Lib.join, List.intercalate]
    | cons b l =>
      have e1 : Lib.join ((a :: b :: l) ++ [y]) s = a ++ (s ++ Lib.join ((b :: l) ++ [y]) s) := by simp [Lib.join, List.intercalate]
      have e2 : Lib.join (a :: b :: l) s = a ++ (s ++ Lib.join (b :: l) s) := by simp [Lib.join, List.intercalate]
      rw [e1, ih, e2]
      simp
theorem jnZ_snoc (f : Int → ByteArray) (p : List Int) (x : Int) : jnZ f (p ++ [x]) = if p = [] then f x else jnZ f p ++ (⟨#[47]⟩ ++ f x) := by
  unfold jnZ
  rw [List.map_append, List.map_append, List.map_singleton, List.map_singleton, join_snoc]
  by_cases h : p = []
  · subst h; simp
  · rw [if_neg (by simp [h]), if_neg h]
    apply ByteArray.ext
    simp [ByteArray.data_append]
theorem jnZ_size (f : Int → ByteArray) (p : List Int) (h : ∀ s ∈ p, (f s).size ≤ 30) : (jnZ f p).size ≤ p.length * 31 := by
  show (Lib.join ((p.map f).map (·.data.toList)) [47]).length ≤ _
  have := join_len [47] 30 ((p.map f).map (·.data.toList)) (fun x hx => by
    obtain ⟨y, hy, rfl⟩ := List.mem_map.1 hx
    obtain ⟨z, hz, rfl⟩ := List.mem_map.1 hy
    have := h z hz
    rw [Array.length_toList]; exact this)
  simpa using this

set_option maxHeartbeats 4000000 in
theorem rsay_any (pa : Option Addr) (pc : Nat) (x : Ls) (w : World) (hI : Ints w pa x.path) (hc : x.path.length ≤ pc) (hm : pc ≤ 9223372036854775807) (hp : x.path.length ≤ 2000) (hb : ∀ s ∈ x.path, -9223372036854775808 ≤ s ∧ s ≤ 9223372036854775807) :
    Calls Tryd.prog 17 #[.agg #[.slice pa x.path.length pc, .int .i64 x.kind, .int .u64 (x.n : Nat)]] w fun e w' => e = .returned (.string (sayB itoB x)) ∧ Hid (Below w.heap.size w w') := by
  obtain ⟨p, k, n⟩ := x
  simp only at hI hc hp hb ⊢
  have hI0 : Hid (∀ wr, Below w.heap.size w wr → Ints wr pa p) := fun wr h => hI.kept h
  obtain ⟨W0, hW0⟩ : ∃ W0, Hid (W0 = w.alloc (.cells #[.slice pa p.length pc, .int .i64 k, .int .u64 (n : Nat)] 41)) := ⟨_, rfl⟩
  have hB0 : Hid (Below w.heap.size w W0) := by show Below _ _ _; rw [hW0.out]; exact (Below.refl _ _).alloc (Nat.le_refl _) _
  have hX0 : Hid (Blc W0 w.heap.size #[.slice pa p.length pc, .int .i64 k, .int .u64 (n : Nat)] 41) := by show Blc _ _ _ _; rw [hW0.out]; exact heap_alloc_new _ _
  have d1 := hX0.out.cell 1
  rw [hW0.out] at d1
  clear hI
  have hb0 : Hid (∀ s ∈ p, -9223372036854775808 ≤ s ∧ s ≤ 9223372036854775807) := hb
  clear hb
  have hb := hb0
  clear hb0
  by_cases hk : 1 ≤ k ∧ k ≤ 6
  · obtain ⟨W1, hW1⟩ : ∃ W1, Hid (W1 = W0.alloc (.cells #[.string ⟨#[102, 108, 111, 97, 116]⟩, .string ⟨#[110, 97, 110]⟩, .string ⟨#[98, 121, 116, 101, 115]⟩, .string ⟨#[116, 97, 103]⟩, .string ⟨#[109, 97, 112]⟩, .string ⟨#[115, 105, 109, 112, 108, 101]⟩] 9)) := ⟨_, rfl⟩
    have hBa : Hid (Below W0.heap.size W0 W1) := by show Below _ _ _; rw [hW1.out]; exact (Below.refl _ _).alloc (Nat.le_refl _) _
    have hBV : Hid (Below w.heap.size w W1) := hB0.out.trans (hBa.out.mono hB0.out.size)
    have hXV : Hid (Blc W1 w.heap.size #[.slice pa p.length pc, .int .i64 k, .int .u64 (n : Nat)] 41) := (hBa.out.block _ (Array.getElem?_eq_some_iff.1 hX0.out).1).trans hX0.out
    rw [hW1.out, hW0.out] at hBV hXV
    have hcs : k = 1 ∨ k = 2 ∨ k = 3 ∨ k = 4 ∨ k = 5 ∨ k = 6 := by omega
    rcases hcs with rfl | rfl | rfl | rfl | rfl | rfl
    · have hnm : Hid (nameB 1 = ⟨#[102, 108, 111, 97, 116]⟩) := rfl
      clear hBa hW1 hB0 hX0 hW0
      go_enter Tryd.func17, Tryd.ntmps17
      go_wp2_with fail
      go_loopw [3, 4] (fun sv i wr => ∃ (I : Nat) (S : ByteArray), i = .int .i64 I ∧ sv = .string S ∧ I ≤ p.length ∧ Hid (S = nameB 1 ++ ⟨#[32, 47]⟩ ++ jnZ itoB (p.take I)) ∧ Hid (Below w.heap.size w wr) ∧ Hid (Blc wr w.heap.size #[.slice pa p.length pc, .int .i64 1, .int .u64 (n : Nat)] 41)) (fun _ i _ => p.length - (intOf i).toNat)
      case atStart => exact ⟨0, _, rfl, rfl, Nat.zero_le _, by show _ = _; rw [hnm.out]; rfl, hBV, hXV⟩
      case round =>
        obtain ⟨I, S, rfl, rfl, hI, hS, hB, hX⟩ := hrel
        have c0 := hX.out.cell 0
        have hSz : Hid (S.size ≤ 70000) := by
          show _ ≤ _
          have h1 := jnZ_size itoB (p.take I) (fun s hs => itoB_size s (hb.out s (List.mem_of_mem_take hs)).1 (hb.out s (List.mem_of_mem_take hs)).2)
          have h2 := nameB_size 1
          rw [List.length_take] at h1
          rw [hS.out, ByteArray.size_append, ByteArray.size_append]
          show (nameB 1).size + 2 + _ ≤ _
          omega
        by_cases hlt : I < p.length
        · have hIr : Hid (Ints wr pa p) := hI0.out wr hB.out
          obtain ⟨b, off, rfl⟩ := ints_some hIr.out (by omega)
          have hcell := hIr.out.cell hlt
          have hg : Hid (p.take (I + 1) = p.take I ++ [p.getD I 0] ∧ p.getD I 0 ∈ p) := by
            show _ ∧ _
            rw [List.take_succ_eq_append_getElem hlt, List.getD_eq_getElem?_getD, List.getElem?_eq_getElem hlt]
            exact ⟨rfl, List.getElem_mem hlt⟩
          have hnil : Hid (p.take I = [] ↔ I = 0) := by
            show _ ↔ _
            constructor
            · intro h; have := congrArg List.length h; rw [List.length_take, List.length_nil] at this; omega
            · rintro rfl; rfl
          generalize p.getD I 0 = z at *
          have hz := hb.out z hg.out.2
          have hzs := itoB_size z hz.1 hz.2
          have hS1 : Hid (nameB 1 ++ ⟨#[32, 47]⟩ ++ jnZ itoB (p.take (I + 1)) = if I = 0 then S ++ itoB z else S ++ ⟨#[47]⟩ ++ itoB z) := by
            show _ = _
            rw [hg.out.1, jnZ_snoc, hS.out]
            by_cases h0 : I = 0
            · rw [if_pos (hnil.out.2 h0), if_pos h0, h0]
              show _ = nameB 1 ++ ⟨#[32, 47]⟩ ++ ⟨#[]⟩ ++ _
              rw [show nameB 1 ++ ⟨#[32, 47]⟩ ++ ⟨#[]⟩ = nameB 1 ++ ⟨#[32, 47]⟩ by apply ByteArray.ext; simp [ByteArray.data_append]]
            · rw [if_neg (fun h => h0 (hnil.out.1 h)), if_neg h0]
              simp only [ByteArray.append_assoc]
          have hSz' : S.size ≤ 70000 := hSz.out
          have hSzA : (S ++ ⟨#[47]⟩).size ≤ 70001 := by rw [ByteArray.size_append]; show _ + 1 ≤ _; omega
          have q1 : S.size + 1 ≤ 9223372036854775807 := by omega
          have q2 : S.size + (⟨#[47]⟩ : ByteArray).size ≤ 9223372036854775807 := q1
          clear hS hg hnil hIr
          by_cases hneg : z < 0
          · have wz : IntKind.u64.wrap z = z + 18446744073709551616 := by rw [IntKind.wrap_u64]; omega
            have wn : IntKind.u64.wrap (-(z + 18446744073709551616)) = ((z.natAbs : Nat) : Int) := by rw [IntKind.wrap_u64]; omega
            have hit : itoB z = ⟨#[45]⟩ ++ txt z.natAbs := by unfold itoB; rw [if_pos hneg]
            rw [hit] at hzs hS1
            have kF : Hid (∀ wx, Calls Tryd.prog 32 #[.int .u64 ((z.natAbs : Nat) : Int)] wx fun e w' => e = .returned (.string (txt z.natAbs)) ∧ Below wx.heap.size wx w') := fun wx => xfrw_any z.natAbs (by omega) wx
            have hts : (txt z.natAbs).size ≤ 20 := by rw [txt_size]; exact num_len20 (by omega)
            generalize txt z.natAbs = T at *
            generalize ((z.natAbs : Nat) : Int) = za at *
            have q3 : (⟨#[45]⟩ : ByteArray).size + T.size ≤ 9223372036854775807 := by show 1 + _ ≤ _; omega
            have q3' : 1 + T.size ≤ 9223372036854775807 := by omega
            have q4 : S.size + (⟨#[45]⟩ ++ T : ByteArray).size ≤ 9223372036854775807 := by omega
            have q4' : S.size + (1 + T.size) ≤ 9223372036854775807 := by omega
            have q5 : (S ++ ⟨#[47]⟩).size + (⟨#[45]⟩ ++ T : ByteArray).size ≤ 9223372036854775807 := by omega
            have q5' : S.size + 1 + (1 + T.size) ≤ 9223372036854775807 := by omega
            by_cases h0 : I = 0
            · rw [if_pos h0] at hS1
              have hcell0 : wr.cell? ⟨b, off, none⟩ = some (.int .i64 z) := by have := hcell; rwa [h0, Nat.add_zero] at this
              subst h0
              go_wp2_with (go_at_call 32; go_loud (refine (kF.out _).mono ?_; rintro e w5 ⟨rfl, hb5⟩; have hB5 : Hid (Below w.heap.size w w5) := hB.out.trans (hb5.mono hB.out.size); have hX5 : Hid (Blc w5 w.heap.size #[.slice (some ⟨b, off, none⟩) p.length pc, .int .i64 1, .int .u64 (n : Nat)] 41) := (hb5.block _ (Array.getElem?_eq_some_iff.1 hX.out).1).trans hX.out))
              go_roundw
              case rel => exact ⟨1, _, rfl, rfl, by omega, hS1.out.symm, hB5, hX5⟩
              case measure => simp [intOf]; omega
            · rw [if_neg h0] at hS1
              have h0' : (0 : Int) < (I : Int) := by omega
              have h0'' : 0 < I := by omega
              go_wp2_with (go_at_call 32; go_loud (refine (kF.out _).mono ?_; rintro e w5 ⟨rfl, hb5⟩; have hB5 : Hid (Below w.heap.size w w5) := hB.out.trans (hb5.mono hB.out.size); have hX5 : Hid (Blc w5 w.heap.size #[.slice (some ⟨b, off, none⟩) p.length pc, .int .i64 1, .int .u64 (n : Nat)] 41) := (hb5.block _ (Array.getElem?_eq_some_iff.1 hX.out).1).trans hX.out))
              go_roundw
              case rel => exact ⟨I + 1, _, by go_num, rfl, by omega, hS1.out.symm, hB5, hX5⟩
              case measure => simp [intOf]; omega
          · have wz : IntKind.u64.wrap z = ((z.toNat : Nat) : Int) := by rw [IntKind.wrap_u64]; omega
            have hit : itoB z = txt z.toNat := by unfold itoB; rw [if_neg hneg]
            rw [hit] at hzs hS1
            have kF : Hid (∀ wx, Calls Tryd.prog 32 #[.int .u64 ((z.toNat : Nat) : Int)] wx fun e w' => e = .returned (.string (txt z.toNat)) ∧ Below wx.heap.size wx w') := fun wx => xfrw_any z.toNat (by omega) wx
            generalize txt z.toNat = T at *
            generalize ((z.toNat : Nat) : Int) = za at *
            have q4 : S.size + T.size ≤ 9223372036854775807 := by omega
            have q5 : (S ++ ⟨#[47]⟩).size + T.size ≤ 9223372036854775807 := by omega
            have q5' : S.size + 1 + T.size ≤ 9223372036854775807 := by omega
            by_cases h0 : I = 0
            · rw [if_pos h0] at hS1
              have hcell0 : wr.cell? ⟨b, off, none⟩ = some (.int .i64 z) := by have := hcell; rwa [h0, Nat.add_zero] at this
              subst h0
              go_wp2_with (go_at_call 32; go_loud (refine (kF.out _).mono ?_; rintro e w5 ⟨rfl, hb5⟩; have hB5 : Hid (Below w.heap.size w w5) := hB.out.trans (hb5.mono hB.out.size); have hX5 : Hid (Blc w5 w.heap.size #[.slice (some ⟨b, off, none⟩) p.length pc, .int .i64 1, .int .u64 (n : Nat)] 41) := (hb5.block _ (Array.getElem?_eq_some_iff.1 hX.out).1).trans hX.out))
              go_roundw
              case rel => exact ⟨1, _, rfl, rfl, by omega, hS1.out.symm, hB5, hX5⟩
              case measure => simp [intOf]; omega
            · rw [if_neg h0] at hS1
              have h0' : (0 : Int) < (I : Int) := by omega
              have h0'' : 0 < I := by omega
              go_wp2_with (go_at_call 32; go_loud (refine (kF.out _).mono ?_; rintro e w5 ⟨rfl, hb5⟩; have hB5 : Hid (Below w.heap.size w w5) := hB.out.trans (hb5.mono hB.out.size); have hX5 : Hid (Blc w5 w.heap.size #[.slice (some ⟨b, off, none⟩) p.length pc, .int .i64 1, .int .u64 (n : Nat)] 41) := (hb5.block _ (Array.getElem?_eq_some_iff.1 hX.out).1).trans hX.out))
              go_roundw
              case rel => exact ⟨I + 1, _, by go_num, rfl, by omega, hS1.out.symm, hB5, hX5⟩
              case measure => simp [intOf]; omega
        · have e : I = p.length := by omega
          subst e
          have hF : Hid (S = sayB itoB ⟨p, 1, n⟩) := by show _ = _; rw [hS.out, List.take_length]; rfl
          clear hS
          go_wp2
          go_ret
          exact ⟨by rw [← hF.out]; rfl, hB⟩
    · have hnm : Hid (nameB 2 = ⟨#[110, 97, 110]⟩) := rfl
      clear hBa hW1 hB0 hX0 hW0
      go_enter Tryd.func17, Tryd.ntmps17
      go_wp2_with fail
      go_loopw [3, 4] (fun sv i wr => ∃ (I : Nat) (S : ByteArray), i = .int .i64 I ∧ sv = .string S ∧ I ≤ p.length ∧ Hid (S = nameB 2 ++ ⟨#[32, 47]⟩ ++ jnZ itoB (p.take I)) ∧ Hid (Below w.heap.size w wr) ∧ Hid (Blc wr w.heap.size #[.slice pa p.length pc, .int .i64 2, .int .u64 (n : Nat)] 41)) (fun _ i _ => p.length - (intOf i).toNat)
      case atStart => exact ⟨0, _, rfl, rfl, Nat.zero_le _, by show _ = _; rw [hnm.out]; rfl, hBV, hXV⟩
      case round =>
        obtain ⟨I, S, rfl, rfl, hI, hS, hB, hX⟩ := hrel
        have c0 := hX.out.cell 0
        have hSz : Hid (S.size ≤ 70000) := by
          show _ ≤ _
          have h1 := jnZ_size itoB (p.take I) (fun s hs => itoB_size s (hb.out s (List.mem_of_mem_take hs)).1 (hb.out s (List.mem_of_mem_take hs)).2)
          have h2 := nameB_size 2
          rw [List.length_take] at h1
          rw [hS.out, ByteArray.size_append, ByteArray.size_append]
          show (nameB 2).size + 2 + _ ≤ _
          omega
        by_cases hlt : I < p.length
        · have hIr : Hid (Ints wr pa p) := hI0.out wr hB.out
          obtain ⟨b, off, rfl⟩ := ints_some hIr.out (by omega)
          have hcell := hIr.out.cell hlt
          have hg : Hid (p.take (I + 1) = p.take I ++ [p.getD I 0] ∧ p.getD I 0 ∈ p) := by
            show _ ∧ _
            rw [List.take_succ_eq_append_getElem hlt, List.getD_eq_getElem?_getD, List.getElem?_eq_getElem hlt]
            exact ⟨rfl, List.getElem_mem hlt⟩
          have hnil : Hid (p.take I = [] ↔ I = 0) := by
            show _ ↔ _
            constructor
            · intro h; have := congrArg List.length h; rw [List.length_take, List.length_nil] at this; omega
            · rintro rfl; rfl
          generalize p.getD I 0 = z at *
          have hz := hb.out z hg.out.2
          have hzs := itoB_size z hz.1 hz.2
          have hS1 : Hid (nameB 2 ++ ⟨#[32, 47]⟩ ++ jnZ itoB (p.take (I + 1)) = if I = 0 then S ++ itoB z else S ++ ⟨#[47]⟩ ++ itoB z) := by
            show _ = _
            rw [hg.out.1, jnZ_snoc, hS.out]
            by_cases h0 : I = 0
            · rw [if_pos (hnil.out.2 h0), if_pos h0, h0]
              show _ = nameB 2 ++ ⟨#[32, 47]⟩ ++ ⟨#[]⟩ ++ _
              rw [show nameB 2 ++ ⟨#[32, 47]⟩ ++ ⟨#[]⟩ = nameB 2 ++ ⟨#[32, 47]⟩ by apply ByteArray.ext; simp [ByteArray.data_append]]
            · rw [if_neg (fun h => h0 (hnil.out.1 h)), if_neg h0]
              simp only [ByteArray.append_assoc]
          have hSz' : S.size ≤ 70000 := hSz.out
          have hSzA : (S ++ ⟨#[47]⟩).size ≤ 70001 := by rw [ByteArray.size_append]; show _ + 1 ≤ _; omega
          have q1 : S.size + 1 ≤ 9223372036854775807 := by omega
          have q2 : S.size + (⟨#[47]⟩ : ByteArray).size ≤ 9223372036854775807 := q1
          clear hS hg hnil hIr
          by_cases hneg : z < 0
          · have wz : IntKind.u64.wrap z = z + 18446744073709551616 := by rw [IntKind.wrap_u64]; omega
            have wn : IntKind.u64.wrap (-(z + 18446744073709551616)) = ((z.natAbs : Nat) : Int) := by rw [IntKind.wrap_u64]; omega
            have hit : itoB z = ⟨#[45]⟩ ++ txt z.natAbs := by unfold itoB; rw [if_pos hneg]
            rw [hit] at hzs hS1
            have kF : Hid (∀ wx, Calls Tryd.prog 32 #[.int .u64 ((z.natAbs : Nat) : Int)] wx fun e w' => e = .returned (.string (txt z.natAbs)) ∧ Below wx.heap.size wx w') := fun wx => xfrw_any z.natAbs (by omega) wx
            have hts : (txt z.natAbs).size ≤ 20 := by rw [txt_size]; exact num_len20 (by omega)
            generalize txt z.natAbs = T at *
            generalize ((z.natAbs : Nat) : Int) = za at *
            have q3 : (⟨#[45]⟩ : ByteArray).size + T.size ≤ 9223372036854775807 := by show 1 + _ ≤ _; omega
            have q3' : 1 + T.size ≤ 9223372036854775807 := by omega
            have q4 : S.size + (⟨#[45]⟩ ++ T : ByteArray).size ≤ 9223372036854775807 := by omega
            have q4' : S.size + (1 + T.size) ≤ 9223372036854775807 := by omega
            have q5 : (S ++ ⟨#[47]⟩).size + (⟨#[45]⟩ ++ T : ByteArray).size ≤ 9223372036854775807 := by omega
            have q5' : S.size + 1 + (1 + T.size) ≤ 9223372036854775807 := by omega
            by_cases h0 : I = 0
            · rw [if_pos h0] at hS1
              have hcell0 : wr.cell? ⟨b, off, none⟩ = some (.int .i64 z) := by have := hcell; rwa [h0, Nat.add_zero] at this
              subst h0
              go_wp2_with (go_at_call 32; go_loud (refine (kF.out _).mono ?_; rintro e w5 ⟨rfl, hb5⟩; have hB5 : Hid (Below w.heap.size w w5) := hB.out.trans (hb5.mono hB.out.size); have hX5 : Hid (Blc w5 w.heap.size #[.slice (some ⟨b, off, none⟩) p.length pc, .int .i64 2, .int .u64 (n : Nat)] 41) := (hb5.block _ (Array.getElem?_eq_some_iff.1 hX.out).1).trans hX.out))
              go_roundw
              case rel => exact ⟨1, _, rfl, rfl, by omega, hS1.out.symm, hB5, hX5⟩
              case measure => simp [intOf]; omega
            · rw [if_neg h0] at hS1
              have h0' : (0 : Int) < (I : Int) := by omega
              have h0'' : 0 < I := by omega
              go_wp2_with (go_at_call 32; go_loud (refine (kF.out _).mono ?_; rintro e w5 ⟨rfl, hb5⟩; have hB5 : Hid (Below w.heap.size w w5) := hB.out.trans (hb5.mono hB.out.size); have hX5 : Hid (Blc w5 w.heap.size #[.slice (some ⟨b, off, none⟩) p.length pc, .int .i64 2, .int .u64 (n : Nat)] 41) := (hb5.block _ (Array.getElem?_eq_some_iff.1 hX.out).1).trans hX.out))
              go_roundw
              case rel => exact ⟨I + 1, _, by go_num, rfl, by omega, hS1.out.symm, hB5, hX5⟩
              case measure => simp [intOf]; omega
          · have wz : IntKind.u64.wrap z = ((z.toNat : Nat) : Int) := by rw [IntKind.wrap_u64]; omega
            have hit : itoB z = txt z.toNat := by unfold itoB; rw [if_neg hneg]
            rw [hit] at hzs hS1
            have kF : Hid (∀ wx, Calls Tryd.prog 32 #[.int .u64 ((z.toNat : Nat) : Int)] wx fun e w' => e = .returned (.string (txt z.toNat)) ∧ Below wx.heap.size wx w') := fun wx => xfrw_any z.toNat (by omega) wx
            generalize txt z.toNat = T at *
            generalize ((z.toNat : Nat) : Int) = za at *
            have q4 : S.size + T.size ≤ 9223372036854775807 := by omega
            have q5 : (S ++ ⟨#[47]⟩).size + T.size ≤ 9223372036854775807 := by omega
            have q5' : S.size + 1 + T.size ≤ 9223372036854775807 := by omega
            by_cases h0 : I = 0
            · rw [if_pos h0] at hS1
              have hcell0 : wr.cell? ⟨b, off, none⟩ = some (.int .i64 z) := by have := hcell; rwa [h0, Nat.add_zero] at this
              subst h0
              go_wp2_with (go_at_call 32; go_loud (refine (kF.out _).mono ?_; rintro e w5 ⟨rfl, hb5⟩; have hB5 : Hid (Below w.heap.size w w5) := hB.out.trans (hb5.mono hB.out.size); have hX5 : Hid (Blc w5 w.heap.size #[.slice (some ⟨b, off, none⟩) p.length pc, .int .i64 2, .int .u64 (n : Nat)] 41) := (hb5.block _ (Array.getElem?_eq_some_iff.1 hX.out).1).trans hX.out))
              go_roundw
              case rel => exact ⟨1, _, rfl, rfl, by omega, hS1.out.symm, hB5, hX5⟩
              case measure => simp [intOf]; omega
            · rw [if_neg h0] at hS1
              have h0' : (0 : Int) < (I : Int) := by omega
              have h0'' : 0 < I := by omega
              go_wp2_with (go_at_call 32; go_loud (refine (kF.out _).mono ?_; rintro e w5 ⟨rfl, hb5⟩; have hB5 : Hid (Below w.heap.size w w5) := hB.out.trans (hb5.mono hB.out.size); have hX5 : Hid (Blc w5 w.heap.size #[.slice (some ⟨b, off, none⟩) p.length pc, .int .i64 2, .int .u64 (n : Nat)] 41) := (hb5.block _ (Array.getElem?_eq_some_iff.1 hX.out).1).trans hX.out))
              go_roundw
              case rel => exact ⟨I + 1, _, by go_num, rfl, by omega, hS1.out.symm, hB5, hX5⟩
              case measure => simp [intOf]; omega
        · have e : I = p.length := by omega
          subst e
          have hF : Hid (S = sayB itoB ⟨p, 2, n⟩) := by show _ = _; rw [hS.out, List.take_length]; rfl
          clear hS
          go_wp2
          go_ret
          exact ⟨by rw [← hF.out]; rfl, hB⟩
    · have hnm : Hid (nameB 3 = ⟨#[98, 121, 116, 101, 115]⟩) := rfl
      clear hBa hW1 hB0 hX0 hW0
      go_enter Tryd.func17, Tryd.ntmps17
      go_wp2_with fail
      go_loopw [3, 4] (fun sv i wr => ∃ (I : Nat) (S : ByteArray), i = .int .i64 I ∧ sv = .string S ∧ I ≤ p.length ∧ Hid (S = nameB 3 ++ ⟨#[32, 47]⟩ ++ jnZ itoB (p.take I)) ∧ Hid (Below w.heap.size w wr) ∧ Hid (Blc wr w.heap.size #[.slice pa p.length pc, .int .i64 3, .int .u64 (n : Nat)] 41)) (fun _ i _ => p.length - (intOf i).toNat)
      case atStart => exact ⟨0, _, rfl, rfl, Nat.zero_le _, by show _ = _; rw [hnm.out]; rfl, hBV, hXV⟩
      case round =>
        obtain ⟨I, S, rfl, rfl, hI, hS, hB, hX⟩ := hrel
        have c0 := hX.out.cell 0
        have hSz : Hid (S.size ≤ 70000) := by
          show _ ≤ _
          have h1 := jnZ_size itoB (p.take I) (fun s hs => itoB_size s (hb.out s (List.mem_of_mem_take hs)).1 (hb.out s (List.mem_of_mem_take hs)).2)
          have h2 := nameB_size 3
          rw [List.length_take] at h1
          rw [hS.out, ByteArray.size_append, ByteArray.size_append]
          show (nameB 3).size + 2 + _ ≤ _
          omega
        by_cases hlt : I < p.length
        · have hIr : Hid (Ints wr pa p) := hI0.out wr hB.out
          obtain ⟨b, off, rfl⟩ := ints_some hIr.out (by omega)
          have hcell := hIr.out.cell hlt
          have hg : Hid (p.take (I + 1) = p.take I ++ [p.getD I 0] ∧ p.getD I 0 ∈ p) := by
            show _ ∧ _
            rw [List.take_succ_eq_append_getElem hlt, List.getD_eq_getElem?_getD, List.getElem?_eq_getElem hlt]
            exact ⟨rfl, List.getElem_mem hlt⟩
          have hnil : Hid (p.take I = [] ↔ I = 0) := by
            show _ ↔ _
            constructor
            · intro h; have := congrArg List.length h; rw [List.length_take, List.length_nil] at this; omega
            · rintro rfl; rfl
          generalize p.getD I 0 = z at *
          have hz := hb.out z hg.out.2
          have hzs := itoB_size z hz.1 hz.2
          have hS1 : Hid (nameB 3 ++ ⟨#[32, 47]⟩ ++ jnZ itoB (p.take (I + 1)) = if I = 0 then S ++ itoB z else S ++ ⟨#[47]⟩ ++ itoB z) := by
            show _ = _
            rw [hg.out.1, jnZ_snoc, hS.out]
            by_cases h0 : I = 0
            · rw [if_pos (hnil.out.2 h0), if_pos h0, h0]
              show _ = nameB 3 ++ ⟨#[32, 47]⟩ ++ ⟨#[]⟩ ++ _
              rw [show nameB 3 ++ ⟨#[32, 47]⟩ ++ ⟨#[]⟩ = nameB 3 ++ ⟨#[32, 47]⟩ by apply ByteArray.ext; simp [ByteArray.data_append]]
            · rw [if_neg (fun h => h0 (hnil.out.1 h)), if_neg h0]
              simp only [ByteArray.append_assoc]
          have hSz' : S.size ≤ 70000 := hSz.out
          have hSzA : (S ++ ⟨#[47]⟩).size ≤ 70001 := by rw [ByteArray.size_append]; show _ + 1 ≤ _; omega
          have q1 : S.size + 1 ≤ 9223372036854775807 := by omega
          have q2 : S.size + (⟨#[47]⟩ : ByteArray).size ≤ 9223372036854775807 := q1
          clear hS hg hnil hIr
          by_cases hneg : z < 0
          · have wz : IntKind.u64.wrap z = z + 18446744073709551616 := by rw [IntKind.wrap_u64]; omega
            have wn : IntKind.u64.wrap (-(z + 18446744073709551616)) = ((z.natAbs : Nat) : Int) := by rw [IntKind.wrap_u64]; omega
            have hit : itoB z = ⟨#[45]⟩ ++ txt z.natAbs := by unfold itoB; rw [if_pos hneg]
            rw [hit] at hzs hS1
            have kF : Hid (∀ wx, Calls Tryd.prog 32 #[.int .u64 ((z.natAbs : Nat) : Int)] wx fun e w' => e = .returned (.string (txt z.natAbs)) ∧ Below wx.heap.size wx w') := fun wx => xfrw_any z.natAbs (by omega) wx
            have hts : (txt z.natAbs).size ≤ 20 := by rw [txt_size]; exact num_len20 (by omega)
            generalize txt z.natAbs = T at *
            generalize ((z.natAbs : Nat) : Int) = za at *
            have q3 : (⟨#[45]⟩ : ByteArray).size + T.size ≤ 9223372036854775807 := by show 1 + _ ≤ _; omega
            have q3' : 1 + T.size ≤ 9223372036854775807 := by omega
            have q4 : S.size + (⟨#[45]⟩ ++ T : ByteArray).size ≤ 9223372036854775807 := by omega
            have q4' : S.size + (1 + T.size) ≤ 9223372036854775807 := by omega
            have q5 : (S ++ ⟨#[47]⟩).size + (⟨#[45]⟩ ++ T : ByteArray).size ≤ 9223372036854775807 := by omega
            have q5' : S.size + 1 + (1 + T.size) ≤ 9223372036854775807 := by omega
            by_cases h0 : I = 0
            · rw [if_pos h0] at hS1
              have hcell0 : wr.cell? ⟨b, off, none⟩ = some (.int .i64 z) := by have := hcell; rwa [h0, Nat.add_zero] at this
              subst h0
              go_wp2_with (go_at_call 32; go_loud (refine (kF.out _).mono ?_; rintro e w5 ⟨rfl, hb5⟩; have hB5 : Hid (Below w.heap.size w w5) := hB.out.trans (hb5.mono hB.out.size); have hX5 : Hid (Blc w5 w.heap.size #[.slice (some ⟨b, off, none⟩) p.length pc, .int .i64 3, .int .u64 (n : Nat)] 41) := (hb5.block _ (Array.getElem?_eq_some_iff.1 hX.out).1).trans hX.out))
              go_roundw
              case rel => exact ⟨1, _, rfl, rfl, by omega, hS1.out.symm, hB5, hX5⟩
              case measure => simp [intOf]; omega
            · rw [if_neg h0] at hS1
              have h0' : (0 : Int) < (I : Int) := by omega
              have h0'' : 0 < I := by omega
              go_wp2_with (go_at_call 32; go_loud (refine (kF.out _).mono ?_; rintro e w5 ⟨rfl, hb5⟩; have hB5 : Hid (Below w.heap.size w w5) := hB.out.trans (hb5.mono hB.out.size); have hX5 : Hid (Blc w5 w.heap.size #[.slice (some ⟨b, off, none⟩) p.length pc, .int .i64 3, .int .u64 (n : Nat)] 41) := (hb5.block _ (Array.getElem?_eq_some_iff.1 hX.out).1).trans hX.out))
              go_roundw
              case rel => exact ⟨I + 1, _, by go_num, rfl, by omega, hS1.out.symm, hB5, hX5⟩
              case measure => simp [intOf]; omega
          · have wz : IntKind.u64.wrap z = ((z.toNat : Nat) : Int) := by rw [IntKind.wrap_u64]; omega
            have hit : itoB z = txt z.toNat := by unfold itoB; rw [if_neg hneg]
            rw [hit] at hzs hS1
            have kF : Hid (∀ wx, Calls Tryd.prog 32 #[.int .u64 ((z.toNat : Nat) : Int)] wx fun e w' => e = .returned (.string (txt z.toNat)) ∧ Below wx.heap.size wx w') := fun wx => xfrw_any z.toNat (by omega) wx
            generalize txt z.toNat = T at *
            generalize ((z.toNat : Nat) : Int) = za at *
            have q4 : S.size + T.size ≤ 9223372036854775807 := by omega
            have q5 : (S ++ ⟨#[47]⟩).size + T.size ≤ 9223372036854775807 := by omega
            have q5' : S.size + 1 + T.size ≤ 9223372036854775807 := by omega
            by_cases h0 : I = 0
            · rw [if_pos h0] at hS1
              have hcell0 : wr.cell? ⟨b, off, none⟩ = some (.int .i64 z) := by have := hcell; rwa [h0, Nat.add_zero] at this
              subst h0
              go_wp2_with (go_at_call 32; go_loud (refine (kF.out _).mono ?_; rintro e w5 ⟨rfl, hb5⟩; have hB5 : Hid (Below w.heap.size w w5) := hB.out.trans (hb5.mono hB.out.size); have hX5 : Hid (Blc w5 w.heap.size #[.slice (some ⟨b, off, none⟩) p.length pc, .int .i64 3, .int .u64 (n : Nat)] 41) := (hb5.block _ (Array.getElem?_eq_some_iff.1 hX.out).1).trans hX.out))
              go_roundw
              case rel => exact ⟨1, _, rfl, rfl, by omega, hS1.out.symm, hB5, hX5⟩
              case measure => simp [intOf]; omega
            · rw [if_neg h0] at hS1
              have h0' : (0 : Int) < (I : Int) := by omega
              have h0'' : 0 < I := by omega
              go_wp2_with (go_at_call 32; go_loud (refine (kF.out _).mono ?_; rintro e w5 ⟨rfl, hb5⟩; have hB5 : Hid (Below w.heap.size w w5) := hB.out.trans (hb5.mono hB.out.size); have hX5 : Hid (Blc w5 w.heap.size #[.slice (some ⟨b, off, none⟩) p.length pc, .int .i64 3, .int .u64 (n : Nat)] 41) := (hb5.block _ (Array.getElem?_eq_some_iff.1 hX.out).1).trans hX.out))
              go_roundw
              case rel => exact ⟨I + 1, _, by go_num, rfl, by omega, hS1.out.symm, hB5, hX5⟩
              case measure => simp [intOf]; omega
        · have e : I = p.length := by omega
          subst e
          have hF : Hid (S = sayB itoB ⟨p, 3, n⟩) := by show _ = _; rw [hS.out, List.take_length]; rfl
          clear hS
          go_wp2
          go_ret
          exact ⟨by rw [← hF.out]; rfl, hB⟩
    · have hnm : Hid (nameB 4 = ⟨#[116, 97, 103]⟩) := rfl
      clear hBa hW1 hB0 hX0 hW0
      go_enter Tryd.func17, Tryd.ntmps17
      go_wp2_with fail
      go_loopw [3, 4] (fun sv i wr => ∃ (I : Nat) (S : ByteArray), i = .int .i64 I ∧ sv = .string S ∧ I ≤ p.length ∧ Hid (S = nameB 4 ++ ⟨#[32, 47]⟩ ++ jnZ itoB (p.take I)) ∧ Hid (Below w.heap.size w wr) ∧ Hid (Blc wr w.heap.size #[.slice pa p.length pc, .int .i64 4, .int .u64 (n : Nat)] 41)) (fun _ i _ => p.length - (intOf i).toNat)
      case atStart => exact ⟨0, _, rfl, rfl, Nat.zero_le _, by show _ = _; rw [hnm.out]; rfl, hBV, hXV⟩
      case round =>
        obtain ⟨I, S, rfl, rfl, hI, hS, hB, hX⟩ := hrel
        have c0 := hX.out.cell 0
        have hSz : Hid (S.size ≤ 70000) := by
          show _ ≤ _
          have h1 := jnZ_size itoB (p.take I) (fun s hs => itoB_size s (hb.out s (List.mem_of_mem_take hs)).1 (hb.out s (List.mem_of_mem_take hs)).2)
          have h2 := nameB_size 4
          rw [List.length_take] at h1
          rw [hS.out, ByteArray.size_append, ByteArray.size_append]
          show (nameB 4).size + 2 + _ ≤ _
          omega
        by_cases hlt : I < p.length
        · have hIr : Hid (Ints wr pa p) := hI0.out wr hB.out
          obtain ⟨b, off, rfl⟩ := ints_some hIr.out (by omega)
          have hcell := hIr.out.cell hlt
          have hg : Hid (p.take (I + 1) = p.take I ++ [p.getD I 0] ∧ p.getD I 0 ∈ p) := by
            show _ ∧ _
            rw [List.take_succ_eq_append_getElem hlt, List.getD_eq_getElem?_getD, List.getElem?_eq_getElem hlt]
            exact ⟨rfl, List.getElem_mem hlt⟩
          have hnil : Hid (p.take I = [] ↔ I = 0) := by
            show _ ↔ _
            constructor
            · intro h; have := congrArg List.length h; rw [List.length_take, List.length_nil] at this; omega
            · rintro rfl; rfl
          generalize p.getD I 0 = z at *
          have hz := hb.out z hg.out.2
          have hzs := itoB_size z hz.1 hz.2
          have hS1 : Hid (nameB 4 ++ ⟨#[32, 47]⟩ ++ jnZ itoB (p.take (I + 1)) = if I = 0 then S ++ itoB z else S ++ ⟨#[47]⟩ ++ itoB z) := by
            show _ = _
            rw [hg.out.1, jnZ_snoc, hS.out]
            by_cases h0 : I = 0
            · rw [if_pos (hnil.out.2 h0), if_pos h0, h0]
              show _ = nameB 4 ++ ⟨#[32, 47]⟩ ++ ⟨#[]⟩ ++ _
              rw [show nameB 4 ++ ⟨#[32, 47]⟩ ++ ⟨#[]⟩ = nameB 4 ++ ⟨#[32, 47]⟩ by apply ByteArray.ext; simp [ByteArray.data_append]]
            · rw [if_neg (fun h => h0 (hnil.out.1 h)), if_neg h0]
              simp only [ByteArray.append_assoc]
          have hSz' : S.size ≤ 70000 := hSz.out
          have hSzA : (S ++ ⟨#[47]⟩).size ≤ 70001 := by rw [ByteArray.size_append]; show _ + 1 ≤ _; omega
          have q1 : S.size + 1 ≤ 9223372036854775807 := by omega
          have q2 : S.size + (⟨#[47]⟩ : ByteArray).size ≤ 9223372036854775807 := q1
          clear hS hg hnil hIr
          by_cases hneg : z < 0
          · have wz : IntKind.u64.wrap z = z + 18446744073709551616 := by rw [IntKind.wrap_u64]; omega
            have wn : IntKind.u64.wrap (-(z + 18446744073709551616)) = ((z.natAbs : Nat) : Int) := by rw [IntKind.wrap_u64]; omega
            have hit : itoB z = ⟨#[45]⟩ ++ txt z.natAbs := by unfold itoB; rw [if_pos hneg]
            rw [hit] at hzs hS1
            have kF : Hid (∀ wx, Calls Tryd.prog 32 #[.int .u64 ((z.natAbs : Nat) : Int)] wx fun e w' => e = .returned (.string (txt z.natAbs)) ∧ Below wx.heap.size wx w') := fun wx => xfrw_any z.natAbs (by omega) wx
            have hts : (txt z.natAbs).size ≤ 20 := by rw [txt_size]; exact num_len20 (by omega)
            generalize txt z.natAbs = T at *
            generalize ((z.natAbs : Nat) : Int) = za at *
            have q3 : (⟨#[45]⟩ : ByteArray).size + T.size ≤ 9223372036854775807 := by show 1 + _ ≤ _; omega
            have q3' : 1 + T.size ≤ 9223372036854775807 := by omega
            have q4 : S.size + (⟨#[45]⟩ ++ T : ByteArray).size ≤ 9223372036854775807 := by omega
            have q4' : S.size + (1 + T.size) ≤ 9223372036854775807 := by omega
            have q5 : (S ++ ⟨#[47]⟩).size + (⟨#[45]⟩ ++ T : ByteArray).size ≤ 9223372036854775807 := by omega
            have q5' : S.size + 1 + (1 + T.size) ≤ 9223372036854775807 := by omega
            by_cases h0 : I = 0
            · rw [if_pos h0] at hS1
              have hcell0 : wr.cell? ⟨b, off, none⟩ = some (.int .i64 z) := by have := hcell; rwa [h0, Nat.add_zero] at this
              subst h0
              go_wp2_with (go_at_call 32; go_loud (refine (kF.out _).mono ?_; rintro e w5 ⟨rfl, hb5⟩; have hB5 : Hid (Below w.heap.size w w5) := hB.out.trans (hb5.mono hB.out.size); have hX5 : Hid (Blc w5 w.heap.size #[.slice (some ⟨b, off, none⟩) p.length pc, .int .i64 4, .int .u64 (n : Nat)] 41) := (hb5.block _ (Array.getElem?_eq_some_iff.1 hX.out).1).trans hX.out))
              go_roundw
              case rel => exact ⟨1, _, rfl, rfl, by omega, hS1.out.symm, hB5, hX5⟩
              case measure => simp [intOf]; omega
            · rw [if_neg h0] at hS1
              have h0' : (0 : Int) < (I : Int) := by omega
              have h0'' : 0 < I := by omega
              go_wp2_with (go_at_call 32; go_loud (refine (kF.out _).mono ?_; rintro e w5 ⟨rfl, hb5⟩; have hB5 : Hid (Below w.heap.size w w5) := hB.out.trans (hb5.mono hB.out.size); have hX5 : Hid (Blc w5 w.heap.size #[.slice (some ⟨b, off, none⟩) p.length pc, .int .i64 4, .int .u64 (n : Nat)] 41) := (hb5.block _ (Array.getElem?_eq_some_iff.1 hX.out).1).trans hX.out))
              go_roundw
              case rel => exact ⟨I + 1, _, by go_num, rfl, by omega, hS1.out.symm, hB5, hX5⟩
              case measure => simp [intOf]; omega
          · have wz : IntKind.u64.wrap z = ((z.toNat : Nat) : Int) := by rw [IntKind.wrap_u64]; omega
            have hit : itoB z = txt z.toNat := by unfold itoB; rw [if_neg hneg]
            rw [hit] at hzs hS1
            have kF : Hid (∀ wx, Calls Tryd.prog 32 #[.int .u64 ((z.toNat : Nat) : Int)] wx fun e w' => e = .returned (.string (txt z.toNat)) ∧ Below wx.heap.size wx w') := fun wx => xfrw_any z.toNat (by omega) wx
            generalize txt z.toNat = T at *
            generalize ((z.toNat : Nat) : Int) = za at *
            have q4 : S.size + T.size ≤ 9223372036854775807 := by omega
            have q5 : (S ++ ⟨#[47]⟩).size + T.size ≤ 9223372036854775807 := by omega
            have q5' : S.size + 1 + T.size ≤ 9223372036854775807 := by omega
            by_cases h0 : I = 0
            · rw [if_pos h0] at hS1
              have hcell0 : wr.cell? ⟨b, off, none⟩ = some (.int .i64 z) := by have := hcell; rwa [h0, Nat.add_zero] at this
              subst h0
              go_wp2_with (go_at_call 32; go_loud (refine (kF.out _).mono ?_; rintro e w5 ⟨rfl, hb5⟩; have hB5 : Hid (Below w.heap.size w w5) := hB.out.trans (hb5.mono hB.out.size); have hX5 : Hid (Blc w5 w.heap.size #[.slice (some ⟨b, off, none⟩) p.length pc, .int .i64 4, .int .u64 (n : Nat)] 41) := (hb5.block _ (Array.getElem?_eq_some_iff.1 hX.out).1).trans hX.out))
              go_roundw
              case rel => exact ⟨1, _, rfl, rfl, by omega, hS1.out.symm, hB5, hX5⟩
              case measure => simp [intOf]; omega
            · rw [if_neg h0] at hS1
              have h0' : (0 : Int) < (I : Int) := by omega
              have h0'' : 0 < I := by omega
              go_wp2_with (go_at_call 32; go_loud (refine (kF.out _).mono ?_; rintro e w5 ⟨rfl, hb5⟩; have hB5 : Hid (Below w.heap.size w w5) := hB.out.trans (hb5.mono hB.out.size); have hX5 : Hid (Blc w5 w.heap.size #[.slice (some ⟨b, off, none⟩) p.length pc, .int .i64 4, .int .u64 (n : Nat)] 41) := (hb5.block _ (Array.getElem?_eq_some_iff.1 hX.out).1).trans hX.out))
              go_roundw
              case rel => exact ⟨I + 1, _, by go_num, rfl, by omega, hS1.out.symm, hB5, hX5⟩
              case measure => simp [intOf]; omega
        · have e : I = p.length := by omega
          subst e
          have hF : Hid (S = sayB itoB ⟨p, 4, n⟩) := by show _ = _; rw [hS.out, List.take_length]; rfl
          clear hS
          go_wp2
          go_ret
          exact ⟨by rw [← hF.out]; rfl, hB⟩
    · have hnm : Hid (nameB 5 = ⟨#[109, 97, 112]⟩) := rfl
      clear hBa hW1 hB0 hX0 hW0
      go_enter Tryd.func17, Tryd.ntmps17
      go_wp2_with fail
      go_loopw [3, 4] (fun sv i wr => ∃ (I : Nat) (S : ByteArray), i = .int .i64 I ∧ sv = .string S ∧ I ≤ p.length ∧ Hid (S = nameB 5 ++ ⟨#[32, 47]⟩ ++ jnZ itoB (p.take I)) ∧ Hid (Below w.heap.size w wr) ∧ Hid (Blc wr w.heap.size #[.slice pa p.length pc, .int .i64 5, .int .u64 (n : Nat)] 41)) (fun _ i _ => p.length - (intOf i).toNat)
      case atStart => exact ⟨0, _, rfl, rfl, Nat.zero_le _, by show _ = _; rw [hnm.out]; rfl, hBV, hXV⟩
      case round =>
        obtain ⟨I, S, rfl, rfl, hI, hS, hB, hX⟩ := hrel
        have c0 := hX.out.cell 0
        have hSz : Hid (S.size ≤ 70000) := by
          show _ ≤ _
          have h1 := jnZ_size itoB (p.take I) (fun s hs => itoB_size s (hb.out s (List.mem_of_mem_take hs)).1 (hb.out s (List.mem_of_mem_take hs)).2)
          have h2 := nameB_size 5
          rw [List.length_take] at h1
          rw [hS.out, ByteArray.size_append, ByteArray.size_append]
          show (nameB 5).size + 2 + _ ≤ _
          omega
        by_cases hlt : I < p.length
        · have hIr : Hid (Ints wr pa p) := hI0.out wr hB.out
          obtain ⟨b, off, rfl⟩ := ints_some hIr.out (by omega)
          have hcell := hIr.out.cell hlt
          have hg : Hid (p.take (I + 1) = p.take I ++ [p.getD I 0] ∧ p.getD I 0 ∈ p) := by
            show _ ∧ _
            rw [List.take_succ_eq_append_getElem hlt, List.getD_eq_getElem?_getD, List.getElem?_eq_getElem hlt]
            exact ⟨rfl, List.getElem_mem hlt⟩
          have hnil : Hid (p.take I = [] ↔ I = 0) := by
            show _ ↔ _
            constructor
            · intro h; have := congrArg List.length h; rw [List.length_take, List.length_nil] at this; omega
            · rintro rfl; rfl
          generalize p.getD I 0 = z at *
          have hz := hb.out z hg.out.2
          have hzs := itoB_size z hz.1 hz.2
          have hS1 : Hid (nameB 5 ++ ⟨#[32, 47]⟩ ++ jnZ itoB (p.take (I + 1)) = if I = 0 then S ++ itoB z else S ++ ⟨#[47]⟩ ++ itoB z) := by
            show _ = _
            rw [hg.out.1, jnZ_snoc, hS.out]
            by_cases h0 : I = 0
            · rw [if_pos (hnil.out.2 h0), if_pos h0, h0]
              show _ = nameB 5 ++ ⟨#[32, 47]⟩ ++ ⟨#[]⟩ ++ _
              rw [show nameB 5 ++ ⟨#[32, 47]⟩ ++ ⟨#[]⟩ = nameB 5 ++ ⟨#[32, 47]⟩ by apply ByteArray.ext; simp [ByteArray.data_append]]
            · rw [if_neg (fun h => h0 (hnil.out.1 h)), if_neg h0]
              simp only [ByteArray.append_assoc]
          have hSz' : S.size ≤ 70000 := hSz.out
          have hSzA : (S ++ ⟨#[47]⟩).size ≤ 70001 := by rw [ByteArray.size_append]; show _ + 1 ≤ _; omega
          have q1 : S.size + 1 ≤ 9223372036854775807 := by omega
          have q2 : S.size + (⟨#[47]⟩ : ByteArray).size ≤ 9223372036854775807 := q1
          clear hS hg hnil hIr
          by_cases hneg : z < 0
          · have wz : IntKind.u64.wrap z = z + 18446744073709551616 := by rw [IntKind.wrap_u64]; omega
            have wn : IntKind.u64.wrap (-(z + 18446744073709551616)) = ((z.natAbs : Nat) : Int) := by rw [IntKind.wrap_u64]; omega
            have hit : itoB z = ⟨#[45]⟩ ++ txt z.natAbs := by unfold itoB; rw [if_pos hneg]
            rw [hit] at hzs hS1
            have kF : Hid (∀ wx, Calls Tryd.prog 32 #[.int .u64 ((z.natAbs : Nat) : Int)] wx fun e w' => e = .returned (.string (txt z.natAbs)) ∧ Below wx.heap.size wx w') := fun wx => xfrw_any z.natAbs (by omega) wx
            have hts : (txt z.natAbs).size ≤ 20 := by rw [txt_size]; exact num_len20 (by omega)
            generalize txt z.natAbs = T at *
            generalize ((z.natAbs : Nat) : Int) = za at *
            have q3 : (⟨#[45]⟩ : ByteArray).size + T.size ≤ 9223372036854775807 := by show 1 + _ ≤ _; omega
            have q3' : 1 + T.size ≤ 9223372036854775807 := by omega
            have q4 : S.size + (⟨#[45]⟩ ++ T : ByteArray).size ≤ 9223372036854775807 := by omega
            have q4' : S.size + (1 + T.size) ≤ 9223372036854775807 := by omega
            have q5 : (S ++ ⟨#[47]⟩).size + (⟨#[45]⟩ ++ T : ByteArray).size ≤ 9223372036854775807 := by omega
            have q5' : S.size + 1 + (1 + T.size) ≤ 9223372036854775807 := by omega
            by_cases h0 : I = 0
            · rw [if_pos h0] at hS1
              have hcell0 : wr.cell? ⟨b, off, none⟩ = some (.int .i64 z) := by have := hcell; rwa [h0, Nat.add_zero] at this
              subst h0
              go_wp2_with (go_at_call 32; go_loud (refine (kF.out _).mono ?_; rintro e w5 ⟨rfl, hb5⟩; have hB5 : Hid (Below w.heap.size w w5) := hB.out.trans (hb5.mono hB.out.size); have hX5 : Hid (Blc w5 w.heap.size #[.slice (some ⟨b, off, none⟩) p.length pc, .int .i64 5, .int .u64 (n : Nat)] 41) := (hb5.block _ (Array.getElem?_eq_some_iff.1 hX.out).1).trans hX.out))
              go_roundw
              case rel => exact ⟨1, _, rfl, rfl, by omega, hS1.out.symm, hB5, hX5⟩
              case measure => simp [intOf]; omega
            · rw [if_neg h0] at hS1
              have h0' : (0 : Int) < (I : Int) := by omega
              have h0'' : 0 < I := by omega
              go_wp2_with (go_at_call 32; go_loud (refine (kF.out _).mono ?_; rintro e w5 ⟨rfl, hb5⟩; have hB5 : Hid (Below w.heap.size w w5) := hB.out.trans (hb5.mono hB.out.size); have hX5 : Hid (Blc w5 w.heap.size #[.slice (some ⟨b, off, none⟩) p.length pc, .int .i64 5, .int .u64 (n : Nat)] 41) := (hb5.block _ (Array.getElem?_eq_some_iff.1 hX.out).1).trans hX.out))
              go_roundw
              case rel => exact ⟨I + 1, _, by go_num, rfl, by omega, hS1.out.symm, hB5, hX5⟩
              case measure => simp [intOf]; omega
          · have wz : IntKind.u64.wrap z = ((z.toNat : Nat) : Int) := by rw [IntKind.wrap_u64]; omega
            have hit : itoB z = txt z.toNat := by unfold itoB; rw [if_neg hneg]
            rw [hit] at hzs hS1
            have kF : Hid (∀ wx, Calls Tryd.prog 32 #[.int .u64 ((z.toNat : Nat) : Int)] wx fun e w' => e = .returned (.string (txt z.toNat)) ∧ Below wx.heap.size wx w') := fun wx => xfrw_any z.toNat (by omega) wx
            generalize txt z.toNat = T at *
            generalize ((z.toNat : Nat) : Int) = za at *
            have q4 : S.size + T.size ≤ 9223372036854775807 := by omega
            have q5 : (S ++ ⟨#[47]⟩).size + T.size ≤ 9223372036854775807 := by omega
            have q5' : S.size + 1 + T.size ≤ 9223372036854775807 := by omega
            by_cases h0 : I = 0
            · rw [if_pos h0] at hS1
              have hcell0 : wr.cell? ⟨b, off, none⟩ = some (.int .i64 z) := by have := hcell; rwa [h0, Nat.add_zero] at this
              subst h0
              go_wp2_with (go_at_call 32; go_loud (refine (kF.out _).mono ?_; rintro e w5 ⟨rfl, hb5⟩; have hB5 : Hid (Below w.heap.size w w5) := hB.out.trans (hb5.mono hB.out.size); have hX5 : Hid (Blc w5 w.heap.size #[.slice (some ⟨b, off, none⟩) p.length pc, .int .i64 5, .int .u64 (n : Nat)] 41) := (hb5.block _ (Array.getElem?_eq_some_iff.1 hX.out).1).trans hX.out))
              go_roundw
              case rel => exact ⟨1, _, rfl, rfl, by omega, hS1.out.symm, hB5, hX5⟩
              case measure => simp [intOf]; omega
            · rw [if_neg h0] at hS1
              have h0' : (0 : Int) < (I : Int) := by omega
              have h0'' : 0 < I := by omega
              go_wp2_with (go_at_call 32; go_loud (refine (kF.out _).mono ?_; rintro e w5 ⟨rfl, hb5⟩; have hB5 : Hid (Below w.heap.size w w5) := hB.out.trans (hb5.mono hB.out.size); have hX5 : Hid (Blc w5 w.heap.size #[.slice (some ⟨b, off, none⟩) p.length pc, .int .i64 5, .int .u64 (n : Nat)] 41) := (hb5.block _ (Array.getElem?_eq_some_iff.1 hX.out).1).trans hX.out))
              go_roundw
              case rel => exact ⟨I + 1, _, by go_num, rfl, by omega, hS1.out.symm, hB5, hX5⟩
              case measure => simp [intOf]; omega
        · have e : I = p.length := by omega
          subst e
          have hF : Hid (S = sayB itoB ⟨p, 5, n⟩) := by show _ = _; rw [hS.out, List.take_length]; rfl
          clear hS
          go_wp2
          go_ret
          exact ⟨by rw [← hF.out]; rfl, hB⟩
    · have hnm : Hid (nameB 6 = ⟨#[115, 105, 109, 112, 108, 101]⟩) := rfl
      clear hBa hW1 hB0 hX0 hW0
      go_enter Tryd.func17, Tryd.ntmps17
      go_wp2_with fail
      go_loopw [3, 4] (fun sv i wr => ∃ (I : Nat) (S : ByteArray), i = .int .i64 I ∧ sv = .string S ∧ I ≤ p.length ∧ Hid (S = nameB 6 ++ ⟨#[32, 47]⟩ ++ jnZ itoB (p.take I)) ∧ Hid (Below w.heap.size w wr) ∧ Hid (Blc wr w.heap.size #[.slice pa p.length pc, .int .i64 6, .int .u64 (n : Nat)] 41)) (fun _ i _ => p.length - (intOf i).toNat)
      case atStart => exact ⟨0, _, rfl, rfl, Nat.zero_le _, by show _ = _; rw [hnm.out]; rfl, hBV, hXV⟩
      case round =>
        obtain ⟨I, S, rfl, rfl, hI, hS, hB, hX⟩ := hrel
        have c0 := hX.out.cell 0
        have hSz : Hid (S.size ≤ 70000) := by
          show _ ≤ _
          have h1 := jnZ_size itoB (p.take I) (fun s hs => itoB_size s (hb.out s (List.mem_of_mem_take hs)).1 (hb.out s (List.mem_of_mem_take hs)).2)
          have h2 := nameB_size 6
          rw [List.length_take] at h1
          rw [hS.out, ByteArray.size_append, ByteArray.size_append]
          show (nameB 6).size + 2 + _ ≤ _
          omega
        by_cases hlt : I < p.length
        · have hIr : Hid (Ints wr pa p) := hI0.out wr hB.out
          obtain ⟨b, off, rfl⟩ := ints_some hIr.out (by omega)
          have hcell := hIr.out.cell hlt
          have hg : Hid (p.take (I + 1) = p.take I ++ [p.getD I 0] ∧ p.getD I 0 ∈ p) := by
            show _ ∧ _
            rw [List.take_succ_eq_append_getElem hlt, List.getD_eq_getElem?_getD, List.getElem?_eq_getElem hlt]
            exact ⟨rfl, List.getElem_mem hlt⟩
          have hnil : Hid (p.take I = [] ↔ I = 0) := by
            show _ ↔ _
            constructor
            · intro h; have := congrArg List.length h; rw [List.length_take, List.length_nil] at this; omega
            · rintro rfl; rfl
          generalize p.getD I 0 = z at *
          have hz := hb.out z hg.out.2
          have hzs := itoB_size z hz.1 hz.2
          have hS1 : Hid (nameB 6 ++ ⟨#[32, 47]⟩ ++ jnZ itoB (p.take (I + 1)) = if I = 0 then S ++ itoB z else S ++ ⟨#[47]⟩ ++ itoB z) := by
            show _ = _
            rw [hg.out.1, jnZ_snoc, hS.out]
            by_cases h0 : I = 0
            · rw [if_pos (hnil.out.2 h0), if_pos h0, h0]
              show _ = nameB 6 ++ ⟨#[32, 47]⟩ ++ ⟨#[]⟩ ++ _
              rw [show nameB 6 ++ ⟨#[32, 47]⟩ ++ ⟨#[]⟩ = nameB 6 ++ ⟨#[32, 47]⟩ by apply ByteArray.ext; simp [ByteArray.data_append]]
            · rw [if_neg (fun h => h0 (hnil.out.1 h)), if_neg h0]
              simp only [ByteArray.append_assoc]
          have hSz' : S.size ≤ 70000 := hSz.out
          have hSzA : (S ++ ⟨#[47]⟩).size ≤ 70001 := by rw [ByteArray.size_append]; show _ + 1 ≤ _; omega
          have q1 : S.size + 1 ≤ 9223372036854775807 := by omega
          have q2 : S.size + (⟨#[47]⟩ : ByteArray).size ≤ 9223372036854775807 := q1
          clear hS hg hnil hIr
          by_cases hneg : z < 0
          · have wz : IntKind.u64.wrap z = z + 18446744073709551616 := by rw [IntKind.wrap_u64]; omega
            have wn : IntKind.u64.wrap (-(z + 18446744073709551616)) = ((z.natAbs : Nat) : Int) := by rw [IntKind.wrap_u64]; omega
            have hit : itoB z = ⟨#[45]⟩ ++ txt z.natAbs := by unfold itoB; rw [if_pos hneg]
            rw [hit] at hzs hS1
            have kF : Hid (∀ wx, Calls Tryd.prog 32 #[.int .u64 ((z.natAbs : Nat) : Int)] wx fun e w' => e = .returned (.string (txt z.natAbs)) ∧ Below wx.heap.size wx w') := fun wx => xfrw_any z.natAbs (by omega) wx
            have hts : (txt z.natAbs).size ≤ 20 := by rw [txt_size]; exact num_len20 (by omega)
            generalize txt z.natAbs = T at *
            generalize ((z.natAbs : Nat) : Int) = za at *
            have q3 : (⟨#[45]⟩ : ByteArray).size + T.size ≤ 9223372036854775807 := by show 1 + _ ≤ _; omega
            have q3' : 1 + T.size ≤ 9223372036854775807 := by omega
            have q4 : S.size + (⟨#[45]⟩ ++ T : ByteArray).size ≤ 9223372036854775807 := by omega
            have q4' : S.size + (1 + T.size) ≤ 9223372036854775807 := by omega
            have q5 : (S ++ ⟨#[47]⟩).size + (⟨#[45]⟩ ++ T : ByteArray).size ≤ 9223372036854775807 := by omega
            have q5' : S.size + 1 + (1 + T.size) ≤ 9223372036854775807 := by omega
            by_cases h0 : I = 0
            · rw [if_pos h0] at hS1
              have hcell0 : wr.cell? ⟨b, off, none⟩ = some (.int .i64 z) := by have := hcell; rwa [h0, Nat.add_zero] at this
              subst h0
              go_wp2_with (go_at_call 32; go_loud (refine (kF.out _).mono ?_; rintro e w5 ⟨rfl, hb5⟩; have hB5 : Hid (Below w.heap.size w w5) := hB.out.trans (hb5.mono hB.out.size); have hX5 : Hid (Blc w5 w.heap.size #[.slice (some ⟨b, off, none⟩) p.length pc, .int .i64 6, .int .u64 (n : Nat)] 41) := (hb5.block _ (Array.getElem?_eq_some_iff.1 hX.out).1).trans hX.out))
              go_roundw
              case rel => exact ⟨1, _, rfl, rfl, by omega, hS1.out.symm, hB5, hX5⟩
              case measure => simp [intOf]; omega
            · rw [if_neg h0] at hS1
              have h0' : (0 : Int) < (I : Int) := by omega
              have h0'' : 0 < I := by omega
              go_wp2_with (go_at_call 32; go_loud (refine (kF.out _).mono ?_; rintro e w5 ⟨rfl, hb5⟩; have hB5 : Hid (Below w.heap.size w w5) := hB.out.trans (hb5.mono hB.out.size); have hX5 : Hid (Blc w5 w.heap.size #[.slice (some ⟨b, off, none⟩) p.length pc, .int .i64 6, .int .u64 (n : Nat)] 41) := (hb5.block _ (Array.getElem?_eq_some_iff.1 hX.out).1).trans hX.out))
              go_roundw
              case rel => exact ⟨I + 1, _, by go_num, rfl, by omega, hS1.out.symm, hB5, hX5⟩
              case measure => simp [intOf]; omega
          · have wz : IntKind.u64.wrap z = ((z.toNat : Nat) : Int) := by rw [IntKind.wrap_u64]; omega
            have hit : itoB z = txt z.toNat := by unfold itoB; rw [if_neg hneg]
            rw [hit] at hzs hS1
            have kF : Hid (∀ wx, Calls Tryd.prog 32 #[.int .u64 ((z.toNat : Nat) : Int)] wx fun e w' => e = .returned (.string (txt z.toNat)) ∧ Below wx.heap.size wx w') := fun wx => xfrw_any z.toNat (by omega) wx
            generalize txt z.toNat = T at *
            generalize ((z.toNat : Nat) : Int) = za at *
            have q4 : S.size + T.size ≤ 9223372036854775807 := by omega
            have q5 : (S ++ ⟨#[47]⟩).size + T.size ≤ 9223372036854775807 := by omega
            have q5' : S.size + 1 + T.size ≤ 9223372036854775807 := by omega
            by_cases h0 : I = 0
            · rw [if_pos h0] at hS1
              have hcell0 : wr.cell? ⟨b, off, none⟩ = some (.int .i64 z) := by have := hcell; rwa [h0, Nat.add_zero] at this
              subst h0
              go_wp2_with (go_at_call 32; go_loud (refine (kF.out _).mono ?_; rintro e w5 ⟨rfl, hb5⟩; have hB5 : Hid (Below w.heap.size w w5) := hB.out.trans (hb5.mono hB.out.size); have hX5 : Hid (Blc w5 w.heap.size #[.slice (some ⟨b, off, none⟩) p.length pc, .int .i64 6, .int .u64 (n : Nat)] 41) := (hb5.block _ (Array.getElem?_eq_some_iff.1 hX.out).1).trans hX.out))
              go_roundw
              case rel => exact ⟨1, _, rfl, rfl, by omega, hS1.out.symm, hB5, hX5⟩
              case measure => simp [intOf]; omega
            · rw [if_neg h0] at hS1
              have h0' : (0 : Int) < (I : Int) := by omega
              have h0'' : 0 < I := by omega
              go_wp2_with (go_at_call 32; go_loud (refine (kF.out _).mono ?_; rintro e w5 ⟨rfl, hb5⟩; have hB5 : Hid (Below w.heap.size w w5) := hB.out.trans (hb5.mono hB.out.size); have hX5 : Hid (Blc w5 w.heap.size #[.slice (some ⟨b, off, none⟩) p.length pc, .int .i64 6, .int .u64 (n : Nat)] 41) := (hb5.block _ (Array.getElem?_eq_some_iff.1 hX.out).1).trans hX.out))
              go_roundw
              case rel => exact ⟨I + 1, _, by go_num, rfl, by omega, hS1.out.symm, hB5, hX5⟩
              case measure => simp [intOf]; omega
        · have e : I = p.length := by omega
          subst e
          have hF : Hid (S = sayB itoB ⟨p, 6, n⟩) := by show _ = _; rw [hS.out, List.take_length]; rfl
          clear hS
          go_wp2
          go_ret
          exact ⟨by rw [← hF.out]; rfl, hB⟩
  · have hnm : Hid (nameB k = ⟨#[63]⟩) := by
      show _ = _
      unfold nameB
      rw [if_neg (by omega), if_neg (by omega), if_neg (by omega), if_neg (by omega), if_neg (by omega), if_neg (by omega)]
    have hBV := hB0
    have hXV := hX0
    rw [hW0.out] at hBV hXV
    clear hB0 hX0 hW0
    by_cases h1 : 1 ≤ k
    · have h6 : ¬ k ≤ 6 := by omega
      go_enter Tryd.func17, Tryd.ntmps17
      go_wp2_with fail
      go_loopw [3, 4] (fun sv i wr => ∃ (I : Nat) (S : ByteArray), i = .int .i64 I ∧ sv = .string S ∧ I ≤ p.length ∧ Hid (S = nameB k ++ ⟨#[32, 47]⟩ ++ jnZ itoB (p.take I)) ∧ Hid (Below w.heap.size w wr) ∧ Hid (Blc wr w.heap.size #[.slice pa p.length pc, .int .i64 k, .int .u64 (n : Nat)] 41)) (fun _ i _ => p.length - (intOf i).toNat)
      case atStart => exact ⟨0, _, rfl, rfl, Nat.zero_le _, by show _ = _; rw [hnm.out]; rfl, hBV, hXV⟩
      case round =>
        obtain ⟨I, S, rfl, rfl, hI, hS, hB, hX⟩ := hrel
        have c0 := hX.out.cell 0
        have hSz : Hid (S.size ≤ 70000) := by
          show _ ≤ _
          have h1 := jnZ_size itoB (p.take I) (fun s hs => itoB_size s (hb.out s (List.mem_of_mem_take hs)).1 (hb.out s (List.mem_of_mem_take hs)).2)
          have h2 := nameB_size k
          rw [List.length_take] at h1
          rw [hS.out, ByteArray.size_append, ByteArray.size_append]
          show (nameB k).size + 2 + _ ≤ _
          omega
        by_cases hlt : I < p.length
        · have hIr : Hid (Ints wr pa p) := hI0.out wr hB.out
          obtain ⟨b, off, rfl⟩ := ints_some hIr.out (by omega)
          have hcell := hIr.out.cell hlt
          have hg : Hid (p.take (I + 1) = p.take I ++ [p.getD I 0] ∧ p.getD I 0 ∈ p) := by
            show _ ∧ _
            rw [List.take_succ_eq_append_getElem hlt, List.getD_eq_getElem?_getD, List.getElem?_eq_getElem hlt]
            exact ⟨rfl, List.getElem_mem hlt⟩
          have hnil : Hid (p.take I = [] ↔ I = 0) := by
            show _ ↔ _
            constructor
            · intro h; have := congrArg List.length h; rw [List.length_take, List.length_nil] at this; omega
            · rintro rfl; rfl
          generalize p.getD I 0 = z at *
          have hz := hb.out z hg.out.2
          have hzs := itoB_size z hz.1 hz.2
          have hS1 : Hid (nameB k ++ ⟨#[32, 47]⟩ ++ jnZ itoB (p.take (I + 1)) = if I = 0 then S ++ itoB z else S ++ ⟨#[47]⟩ ++ itoB z) := by
            show _ = _
            rw [hg.out.1, jnZ_snoc, hS.out]
            by_cases h0 : I = 0
            · rw [if_pos (hnil.out.2 h0), if_pos h0, h0]
              show _ = nameB k ++ ⟨#[32, 47]⟩ ++ ⟨#[]⟩ ++ _
              rw [show nameB k ++ ⟨#[32, 47]⟩ ++ ⟨#[]⟩ = nameB k ++ ⟨#[32, 47]⟩ by apply ByteArray.ext; simp [ByteArray.data_append]]
            · rw [if_neg (fun h => h0 (hnil.out.1 h)), if_neg h0]
              simp only [ByteArray.append_assoc]
          have hSz' : S.size ≤ 70000 := hSz.out
          have hSzA : (S ++ ⟨#[47]⟩).size ≤ 70001 := by rw [ByteArray.size_append]; show _ + 1 ≤ _; omega
          have q1 : S.size + 1 ≤ 9223372036854775807 := by omega
          have q2 : S.size + (⟨#[47]⟩ : ByteArray).size ≤ 9223372036854775807 := q1
          clear hS hg hnil hIr
          by_cases hneg : z < 0
          · have wz : IntKind.u64.wrap z = z + 18446744073709551616 := by rw [IntKind.wrap_u64]; omega
            have wn : IntKind.u64.wrap (-(z + 18446744073709551616)) = ((z.natAbs : Nat) : Int) := by rw [IntKind.wrap_u64]; omega
            have hit : itoB z = ⟨#[45]⟩ ++ txt z.natAbs := by unfold itoB; rw [if_pos hneg]
            rw [hit] at hzs hS1
            have kF : Hid (∀ wx, Calls Tryd.prog 32 #[.int .u64 ((z.natAbs : Nat) : Int)] wx fun e w' => e = .returned (.string (txt z.natAbs)) ∧ Below wx.heap.size wx w') := fun wx => xfrw_any z.natAbs (by omega) wx
            have hts : (txt z.natAbs).size ≤ 20 := by rw [txt_size]; exact num_len20 (by omega)
            generalize txt z.natAbs = T at *
            generalize ((z.natAbs : Nat) : Int) = za at *
            have q3 : (⟨#[45]⟩ : ByteArray).size + T.size ≤ 9223372036854775807 := by show 1 + _ ≤ _; omega
            have q3' : 1 + T.size ≤ 9223372036854775807 := by omega
            have q4 : S.size + (⟨#[45]⟩ ++ T : ByteArray).size ≤ 9223372036854775807 := by omega
            have q4' : S.size + (1 + T.size) ≤ 9223372036854775807 := by omega
            have q5 : (S ++ ⟨#[47]⟩).size + (⟨#[45]⟩ ++ T : ByteArray).size ≤ 9223372036854775807 := by omega
            have q5' : S.size + 1 + (1 + T.size) ≤ 9223372036854775807 := by omega
            by_cases h0 : I = 0
            · rw [if_pos h0] at hS1
              have hcell0 : wr.cell? ⟨b, off, none⟩ = some (.int .i64 z) := by have := hcell; rwa [h0, Nat.add_zero] at this
              subst h0
              go_wp2_with (go_at_call 32; go_loud (refine (kF.out _).mono ?_; rintro e w5 ⟨rfl, hb5⟩; have hB5 : Hid (Below w.heap.size w w5) := hB.out.trans (hb5.mono hB.out.size); have hX5 : Hid (Blc w5 w.heap.size #[.slice (some ⟨b, off, none⟩) p.length pc, .int .i64 k, .int .u64 (n : Nat)] 41) := (hb5.block _ (Array.getElem?_eq_some_iff.1 hX.out).1).trans hX.out))
              go_roundw
              case rel => exact ⟨1, _, rfl, rfl, by omega, hS1.out.symm, hB5, hX5⟩
              case measure => simp [intOf]; omega
            · rw [if_neg h0] at hS1
              have h0' : (0 : Int) < (I : Int) := by omega
              have h0'' : 0 < I := by omega
              go_wp2_with (go_at_call 32; go_loud (refine (kF.out _).mono ?_; rintro e w5 ⟨rfl, hb5⟩; have hB5 : Hid (Below w.heap.size w w5) := hB.out.trans (hb5.mono hB.out.size); have hX5 : Hid (Blc w5 w.heap.size #[.slice (some ⟨b, off, none⟩) p.length pc, .int .i64 k, .int .u64 (n : Nat)] 41) := (hb5.block _ (Array.getElem?_eq_some_iff.1 hX.out).1).trans hX.out))
              go_roundw
              case rel => exact ⟨I + 1, _, by go_num, rfl, by omega, hS1.out.symm, hB5, hX5⟩
              case measure => simp [intOf]; omega
          · have wz : IntKind.u64.wrap z = ((z.toNat : Nat) : Int) := by rw [IntKind.wrap_u64]; omega
            have hit : itoB z = txt z.toNat := by unfold itoB; rw [if_neg hneg]
            rw [hit] at hzs hS1
            have kF : Hid (∀ wx, Calls Tryd.prog 32 #[.int .u64 ((z.toNat : Nat) : Int)] wx fun e w' => e = .returned (.string (txt z.toNat)) ∧ Below wx.heap.size wx w') := fun wx => xfrw_any z.toNat (by omega) wx
            generalize txt z.toNat = T at *
            generalize ((z.toNat : Nat) : Int) = za at *
            have q4 : S.size + T.size ≤ 9223372036854775807 := by omega
            have q5 : (S ++ ⟨#[47]⟩).size + T.size ≤ 9223372036854775807 := by omega
            have q5' : S.size + 1 + T.size ≤ 9223372036854775807 := by omega
            by_cases h0 : I = 0
            · rw [if_pos h0] at hS1
              have hcell0 : wr.cell? ⟨b, off, none⟩ = some (.int .i64 z) := by have := hcell; rwa [h0, Nat.add_zero] at this
              subst h0
              go_wp2_with (go_at_call 32; go_loud (refine (kF.out _).mono ?_; rintro e w5 ⟨rfl, hb5⟩; have hB5 : Hid (Below w.heap.size w w5) := hB.out.trans (hb5.mono hB.out.size); have hX5 : Hid (Blc w5 w.heap.size #[.slice (some ⟨b, off, none⟩) p.length pc, .int .i64 k, .int .u64 (n : Nat)] 41) := (hb5.block _ (Array.getElem?_eq_some_iff.1 hX.out).1).trans hX.out))
              go_roundw
              case rel => exact ⟨1, _, rfl, rfl, by omega, hS1.out.symm, hB5, hX5⟩
              case measure => simp [intOf]; omega
            · rw [if_neg h0] at hS1
              have h0' : (0 : Int) < (I : Int) := by omega
              have h0'' : 0 < I := by omega
              go_wp2_with (go_at_call 32; go_loud (refine (kF.out _).mono ?_; rintro e w5 ⟨rfl, hb5⟩; have hB5 : Hid (Below w.heap.size w w5) := hB.out.trans (hb5.mono hB.out.size); have hX5 : Hid (Blc w5 w.heap.size #[.slice (some ⟨b, off, none⟩) p.length pc, .int .i64 k, .int .u64 (n : Nat)] 41) := (hb5.block _ (Array.getElem?_eq_some_iff.1 hX.out).1).trans hX.out))
              go_roundw
              case rel => exact ⟨I + 1, _, by go_num, rfl, by omega, hS1.out.symm, hB5, hX5⟩
              case measure => simp [intOf]; omega
        · have e : I = p.length := by omega
          subst e
          have hF : Hid (S = sayB itoB ⟨p, k, n⟩) := by show _ = _; rw [hS.out, List.take_length]; rfl
          clear hS
          go_wp2
          go_ret
          exact ⟨by rw [← hF.out]; rfl, hB⟩
    · go_enter Tryd.func17, Tryd.ntmps17
      go_wp2_with fail
      go_loopw [3, 4] (fun sv i wr => ∃ (I : Nat) (S : ByteArray), i = .int .i64 I ∧ sv = .string S ∧ I ≤ p.length ∧ Hid (S = nameB k ++ ⟨#[32, 47]⟩ ++ jnZ itoB (p.take I)) ∧ Hid (Below w.heap.size w wr) ∧ Hid (Blc wr w.heap.size #[.slice pa p.length pc, .int .i64 k, .int .u64 (n : Nat)] 41)) (fun _ i _ => p.length - (intOf i).toNat)
      case atStart => exact ⟨0, _, rfl, rfl, Nat.zero_le _, by show _ = _; rw [hnm.out]; rfl, hBV, hXV⟩
      case round =>
        obtain ⟨I, S, rfl, rfl, hI, hS, hB, hX⟩ := hrel
        have c0 := hX.out.cell 0
        have hSz : Hid (S.size ≤ 70000) := by
          show _ ≤ _
          have h1 := jnZ_size itoB (p.take I) (fun s hs => itoB_size s (hb.out s (List.mem_of_mem_take hs)).1 (hb.out s (List.mem_of_mem_take hs)).2)
          have h2 := nameB_size k
          rw [List.length_take] at h1
          rw [hS.out, ByteArray.size_append, ByteArray.size_append]
          show (nameB k).size + 2 + _ ≤ _
          omega
        by_cases hlt : I < p.length
        · have hIr : Hid (Ints wr pa p) := hI0.out wr hB.out
          obtain ⟨b, off, rfl⟩ := ints_some hIr.out (by omega)
          have hcell := hIr.out.cell hlt
          have hg : Hid (p.take (I + 1) = p.take I ++ [p.getD I 0] ∧ p.getD I 0 ∈ p) := by
            show _ ∧ _
            rw [List.take_succ_eq_append_getElem hlt, List.getD_eq_getElem?_getD, List.getElem?_eq_getElem hlt]
            exact ⟨rfl, List.getElem_mem hlt⟩
          have hnil : Hid (p.take I = [] ↔ I = 0) := by
            show _ ↔ _
            constructor
            · intro h; have := congrArg List.length h; rw [List.length_take, List.length_nil] at this; omega
            · rintro rfl; rfl
          generalize p.getD I 0 = z at *
          have hz := hb.out z hg.out.2
          have hzs := itoB_size z hz.1 hz.2
          have hS1 : Hid (nameB k ++ ⟨#[32, 47]⟩ ++ jnZ itoB (p.take (I + 1)) = if I = 0 then S ++ itoB z else S ++ ⟨#[47]⟩ ++ itoB z) := by
            show _ = _
            rw [hg.out.1, jnZ_snoc, hS.out]
            by_cases h0 : I = 0
            · rw [if_pos (hnil.out.2 h0), if_pos h0, h0]
              show _ = nameB k ++ ⟨#[32, 47]⟩ ++ ⟨#[]⟩ ++ _
              rw [show nameB k ++ ⟨#[32, 47]⟩ ++ ⟨#[]⟩ = nameB k ++ ⟨#[32, 47]⟩ by apply ByteArray.ext; simp [ByteArray.data_append]]
            · rw [if_neg (fun h => h0 (hnil.out.1 h)), if_neg h0]
              simp only [ByteArray.append_assoc]
          have hSz' : S.size ≤ 70000 := hSz.out
          have hSzA : (S ++ ⟨#[47]⟩).size ≤ 70001 := by rw [ByteArray.size_append]; show _ + 1 ≤ _; omega
          have q1 : S.size + 1 ≤ 9223372036854775807 := by omega
          have q2 : S.size + (⟨#[47]⟩ : ByteArray).size ≤ 9223372036854775807 := q1
          clear hS hg hnil hIr
          by_cases hneg : z < 0
          · have wz : IntKind.u64.wrap z = z + 18446744073709551616 := by rw [IntKind.wrap_u64]; omega
            have wn : IntKind.u64.wrap (-(z + 18446744073709551616)) = ((z.natAbs : Nat) : Int) := by rw [IntKind.wrap_u64]; omega
            have hit : itoB z = ⟨#[45]⟩ ++ txt z.natAbs := by unfold itoB; rw [if_pos hneg]
            rw [hit] at hzs hS1
            have kF : Hid (∀ wx, Calls Tryd.prog 32 #[.int .u64 ((z.natAbs : Nat) : Int)] wx fun e w' => e = .returned (.string (txt z.natAbs)) ∧ Below wx.heap.size wx w') := fun wx => xfrw_any z.natAbs (by omega) wx
            have hts : (txt z.natAbs).size ≤ 20 := by rw [txt_size]; exact num_len20 (by omega)
            generalize txt z.natAbs = T at *
            generalize ((z.natAbs : Nat) : Int) = za at *
            have q3 : (⟨#[45]⟩ : ByteArray).size + T.size ≤ 9223372036854775807 := by show 1 + _ ≤ _; omega
            have q3' : 1 + T.size ≤ 9223372036854775807 := by omega
            have q4 : S.size + (⟨#[45]⟩ ++ T : ByteArray).size ≤ 9223372036854775807 := by omega
            have q4' : S.size + (1 + T.size) ≤ 9223372036854775807 := by omega
            have q5 : (S ++ ⟨#[47]⟩).size + (⟨#[45]⟩ ++ T : ByteArray).size ≤ 9223372036854775807 := by omega
            have q5' : S.size + 1 + (1 + T.size) ≤ 9223372036854775807 := by omega
            by_cases h0 : I = 0
            · rw [if_pos h0] at hS1
              have hcell0 : wr.cell? ⟨b, off, none⟩ = some (.int .i64 z) := by have := hcell; rwa [h0, Nat.add_zero] at this
              subst h0
              go_wp2_with (go_at_call 32; go_loud (refine (kF.out _).mono ?_; rintro e w5 ⟨rfl, hb5⟩; have hB5 : Hid (Below w.heap.size w w5) := hB.out.trans (hb5.mono hB.out.size); have hX5 : Hid (Blc w5 w.heap.size #[.slice (some ⟨b, off, none⟩) p.length pc, .int .i64 k, .int .u64 (n : Nat)] 41) := (hb5.block _ (Array.getElem?_eq_some_iff.1 hX.out).1).trans hX.out))
              go_roundw
              case rel => exact ⟨1, _, rfl, rfl, by omega, hS1.out.symm, hB5, hX5⟩
              case measure => simp [intOf]; omega
            · rw [if_neg h0] at hS1
              have h0' : (0 : Int) < (I : Int) := by omega
              have h0'' : 0 < I := by omega
              go_wp2_with (go_at_call 32; go_loud (refine (kF.out _).mono ?_; rintro e w5 ⟨rfl, hb5⟩; have hB5 : Hid (Below w.heap.size w w5) := hB.out.trans (hb5.mono hB.out.size); have hX5 : Hid (Blc w5 w.heap.size #[.slice (some ⟨b, off, none⟩) p.length pc, .int .i64 k, .int .u64 (n : Nat)] 41) := (hb5.block _ (Array.getElem?_eq_some_iff.1 hX.out).1).trans hX.out))
              go_roundw
              case rel => exact ⟨I + 1, _, by go_num, rfl, by omega, hS1.out.symm, hB5, hX5⟩
              case measure => simp [intOf]; omega
          · have wz : IntKind.u64.wrap z = ((z.toNat : Nat) : Int) := by rw [IntKind.wrap_u64]; omega
            have hit : itoB z = txt z.toNat := by unfold itoB; rw [if_neg hneg]
            rw [hit] at hzs hS1
            have kF : Hid (∀ wx, Calls Tryd.prog 32 #[.int .u64 ((z.toNat : Nat) : Int)] wx fun e w' => e = .returned (.string (txt z.toNat)) ∧ Below wx.heap.size wx w') := fun wx => xfrw_any z.toNat (by omega) wx
            generalize txt z.toNat = T at *
            generalize ((z.toNat : Nat) : Int) = za at *
            have q4 : S.size + T.size ≤ 9223372036854775807 := by omega
            have q5 : (S ++ ⟨#[47]⟩).size + T.size ≤ 9223372036854775807 := by omega
            have q5' : S.size + 1 + T.size ≤ 9223372036854775807 := by omega
            by_cases h0 : I = 0
            · rw [if_pos h0] at hS1
              have hcell0 : wr.cell? ⟨b, off, none⟩ = some (.int .i64 z) := by have := hcell; rwa [h0, Nat.add_zero] at this
              subst h0
              go_wp2_with (go_at_call 32; go_loud (refine (kF.out _).mono ?_; rintro e w5 ⟨rfl, hb5⟩; have hB5 : Hid (Below w.heap.size w w5) := hB.out.trans (hb5.mono hB.out.size); have hX5 : Hid (Blc w5 w.heap.size #[.slice (some ⟨b, off, none⟩) p.length pc, .int .i64 k, .int .u64 (n : Nat)] 41) := (hb5.block _ (Array.getElem?_eq_some_iff.1 hX.out).1).trans hX.out))
              go_roundw
              case rel => exact ⟨1, _, rfl, rfl, by omega, hS1.out.symm, hB5, hX5⟩
              case measure => simp [intOf]; omega
            · rw [if_neg h0] at hS1
              have h0' : (0 : Int) < (I : Int) := by omega
              have h0'' : 0 < I := by omega
              go_wp2_with (go_at_call 32; go_loud (refine (kF.out _).mono ?_; rintro e w5 ⟨rfl, hb5⟩; have hB5 : Hid (Below w.heap.size w w5) := hB.out.trans (hb5.mono hB.out.size); have hX5 : Hid (Blc w5 w.heap.size #[.slice (some ⟨b, off, none⟩) p.length pc, .int .i64 k, .int .u64 (n : Nat)] 41) := (hb5.block _ (Array.getElem?_eq_some_iff.1 hX.out).1).trans hX.out))
              go_roundw
              case rel => exact ⟨I + 1, _, by go_num, rfl, by omega, hS1.out.symm, hB5, hX5⟩
              case measure => simp [intOf]; omega
        · have e : I = p.length := by omega
          subst e
          have hF : Hid (S = sayB itoB ⟨p, k, n⟩) := by show _ = _; rw [hS.out, List.take_length]; rfl
          clear hS
          go_wp2
          go_ret
          exact ⟨by rw [← hF.out]; rfl, hB⟩
end Go.Proofs.YtgfnohgpmmaocaaDoor
