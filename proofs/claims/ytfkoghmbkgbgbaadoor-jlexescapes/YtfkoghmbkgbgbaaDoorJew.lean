/-
  A text as a string: the document's Escape, walked.
-/
import Derived.Test.YtfkoghmbkgbgbaaDoorJev
namespace Go.Proofs.YtfkoghmbkgbgbaaDoor
open Go.RowKit
set_option linter.unusedVariables false

theorem vb_drop {b : List Int} {i : Nat} (h : i < b.length) : vbAll (b.drop i) = vbR (b[i]'h).toNat ++ vbAll (b.drop (i + 1)) := by
  rw [List.drop_eq_getElem_cons h]; rfl
theorem bs_get (s : ByteArray) (i : Nat) (h : i < s.size) (h' : i < (bs s).length) : ((bs s)[i]'h').toNat = (s[i]'h).toNat := by
  simp only [bs, List.getElem_map, Int.toNat_natCast]
  rfl
theorem and15u : ∀ r : Nat, r < 32 → bits BinOp.and IntKind.u8 (r : Int) 15 = ((r % 16 : Nat) : Int) := by decide
theorem ixN_le (c : Nat) : ixN c ≤ 7 := by
  unfold ixN
  repeat' split
  all_goals omega
set_option maxHeartbeats 8000000 in
set_option maxRecDepth 100000 in
/-- The document's Escape. -/
theorem vesc_any (s : ByteArray) (w : World) (hs : s.size ≤ 100000) :
    Calls Tryd.prog 16 #[.string s] w fun e w' => e = .returned (.string (strOfNums (escA (bs s)))) ∧ Below w.heap.size w w' := by
  have hcv := Lib.run_convert_string_bytes (P := Tryd.prog) w 9 22 5 s Tryd.underlying9 Tryd.underlying22 Tryd.underlying5
  obtain ⟨gC, nC, cC, hvC, hlC, hcC, hcC', hBC⟩ := (own_conv w s hs).form
  have hvC' : (Value.slice (some ⟨w.heap.size, 0, none⟩) s.size (grownCap w s.size 0 5)) = Value.slice (some ⟨gC, 0, none⟩) nC cC := hvC
  rw [hvC'] at hcv
  have kX := xrunes_any (some ⟨gC, 0, none⟩) nC cC (bs s) (Lib.bytesWorld w 5 s) hlC.out hBC.out hcC (by have := hlC.out; rw [bs_len] at this; omega)
  have BC : Hid (Below w.heap.size w (Lib.bytesWorld w 5 s)) := convB_below w s
  obtain ⟨W, hW⟩ : ∃ W, Lib.bytesWorld w 5 s = W := ⟨_, rfl⟩
  rw [hW] at hcv kX BC
  have hs' : Hid (s.size ≤ 100000) := hs
  by_cases hn : (runesL (bs s)).2 = none
  · have e1 : escA (bs s) = [34] ++ vbAll (bs s) ++ [34] := by unfold escA; rw [if_pos hn, vb_text _ (bs_bytes s) hn]
    rw [(why_none hn).1, (why_none hn).2.1] at kX
    have kX' : Calls Tryd.prog 17 #[.slice (some ⟨gC, 0, none⟩) nC cC] W fun e w' => ∃ v, e = .returned (.tuple #[v, .agg #[.int .i64 0, .int .i64 0]]) ∧ Below W.heap.size W w' := kX.mono fun e w' ⟨v, h1, _, h2⟩ => ⟨v, h1, h2⟩
    obtain ⟨F, hF⟩ : ∃ F, [34] ++ vbAll (bs s) = F := ⟨_, rfl⟩
    rw [e1, hF]
    have hF' : Hid (bs (⟨#[34]⟩ : ByteArray) ++ vbAll ((bs s).drop 0) = F) := by rw [List.drop_zero]; exact hF
    have k2 := fun (w : World) (a b : UInt8) => conv_two w a b
    have k3 := fun (w : World) (a b : UInt8) => conv_twoD w a b
    clear hW hvC hvC' hlC hcC hcC' hBC kX hs hn e1 hF
    go_enter Tryd.func16, Tryd.ntmps16
    go_wp2_with (go_at_call 17; refine kX'.mono ?_; rintro e w1 ⟨v, rfl, hb⟩; clear kX'; have b1 : Hid (Below w.heap.size w (w1.alloc (.cells #[.int .i64 0, .int .i64 0] 26))) := (fun h1 => h1.trans ((alloc_below w1 _).mono h1.size)) (BC.out.trans (hb.mono BC.out.size)); clear hb)
    go_loopw [7, 8] (fun v u wr => ∃ (O : ByteArray) (i : Nat), i ≤ s.size ∧ v = .string O ∧ u = .int .i64 i ∧ Hid (O.size ≤ 1 + 6 * i) ∧ Hid (bs O ++ vbAll ((bs s).drop i) = F) ∧ Hid (Below w.heap.size w wr)) (fun _ u _ => s.size - (intOf u).toNat)
    case atStart => exact ⟨⟨#[34]⟩, 0, Nat.zero_le _, rfl, rfl, by show _ ≤ _; decide, hF', b1⟩
    case round =>
      obtain ⟨O, i, hi, rfl, rfl, hO, hE, hB⟩ := hrel
      by_cases hlt : i < s.size
      · have hlt' : i < (bs s).length := by rw [bs_len]; exact hlt
        have hd := vb_drop hlt'
        rw [bs_get s i hlt hlt'] at hd
        have hE2 : Hid (bs O ++ vbR (s[i]'hlt).toNat ++ vbAll ((bs s).drop (i + 1)) = F) := by
          show _ = _
          rw [List.append_assoc, ← hd]; exact hE.out
        have hC : (s[i]'hlt).toNat < 256 := by have := (s[i]'hlt).toNat_lt; omega
        have hzl : (i : Int) < ((s.size : Nat) : Int) := by omega
        clear hd hE
        obtain ⟨C, hCC⟩ : ∃ C, (s[i]'hlt).toNat = C := ⟨_, rfl⟩
        rw [hCC] at hE2 hC
        have k1 := fun (w : World) => conv_one w C hC
        have hE3 : Hid (bs O ++ vbR C ++ vbAll ((bs s).drop (i + 1)) = F) := hE2
        have hix := ixN_le C
        have W1 : IntKind.i64.wrap ((i : Int) + 1) = ((i + 1 : Nat) : Int) := by have := hs'.out; rw [IntKind.wrap_i64]; omega
        clear hE2
        go_wp2
        obtain ⟨wq, hwq⟩ : ∃ wq, wr = wq := ⟨_, rfl⟩
        rw [hwq] at hB ⊢
        clear hwq
        go_loopw [10] (fun u wi => ∃ k : Nat, k ≤ ixN C ∧ u = .int .i64 k ∧ wi = wq) (fun u _ => ixN C - (intOf u).toNat)
        case atStart => exact ⟨0, Nat.zero_le _, rfl, rfl⟩
        case round =>
          obtain ⟨k, hk, rfl, rfl⟩ := hrel
          by_cases hk2 : k < ixN C
          · have v1 : (k : Int) < 7 := by omega
            have hks : k < (⟨#[34, 92, 8, 9, 10, 12, 13]⟩ : ByteArray).size := by show k < 7; omega
            have hfb := from_byte k hks
            have v2 : (((((⟨#[34, 92, 8, 9, 10, 12, 13]⟩ : ByteArray)[k]'hks).toNat : Nat) : Int) != (C : Int)) = true := by
              simp only [bne_iff_ne, ne_eq]
              intro h
              have h' := Int.ofNat.inj h
              rw [h'] at hfb
              omega
            clear hfb
            go_wp2
            go_roundw
            case rel => exact ⟨k + 1, by omega, by go_num, trivial⟩
            case measure => simp [intOf]; omega
          · have hkx : k = ixN C := by omega
            by_cases h7 : k < 7
            · have v1 : (k : Int) < 7 := by omega
              have hks : k < (⟨#[34, 92, 8, 9, 10, 12, 13]⟩ : ByteArray).size := h7
              have hib := ix_byte C k hks hkx.symm
              have v2 : (((((⟨#[34, 92, 8, 9, 10, 12, 13]⟩ : ByteArray)[k]'hks).toNat : Nat) : Int) != (C : Int)) = false := by rw [hib]; simp
              obtain ⟨X, hX⟩ : ∃ X, (⟨#[34, 92, 98, 116, 110, 102, 114]⟩ : ByteArray).extract k (k + 1) = X := ⟨_, rfl⟩
              have hbX : bs X = [(toN k : Int)] := by rw [← hX]; exact to_ext k h7
              have hsX : X.size = 1 := by rw [← bs_len, hbX]; rfl
              have hvb : vbR C = [92, (toN k : Int)] := by unfold vbR; rw [← hkx, if_pos h7]
              have hnext : Hid (bs (O ++ (⟨#[92]⟩ ++ X)) ++ vbAll ((bs s).drop (i + 1)) = F) := by
                have := hE3.out
                rw [hvb] at this
                show _ = _
                rw [bs_app, bs_app, hbX]; exact this
              have hsz : Hid ((O ++ (⟨#[92]⟩ ++ X)).size ≤ 1 + 6 * (i + 1)) := by
                have := hO.out
                show _ ≤ _
                rw [ByteArray.size_append, ByteArray.size_append, hsX]
                show O.size + (1 + 1) ≤ _
                omega
              have z1 : ¬ 9223372036854775807 < 1 + X.size := by omega
              have z2 : ¬ 9223372036854775807 < O.size + (1 + X.size) := by have := hO.out; have := hs'.out; omega
              have s1 : (k : Int) + 1 ≤ 7 := by omega
              clear hib hbX hvb hsX hkx hE3
              go_wp2
              go_roundw
              case rel => exact ⟨O ++ (⟨#[92]⟩ ++ X), i + 1, hlt, rfl, by go_num, hsz, hnext, hB⟩
              case measure => simp [intOf]; omega
            · obtain rfl : k = 7 := by omega
              by_cases h32 : C < 32
              · have v3 : decide ((C : Int) < 32) = true := by simp; omega
                have hA : bits BinOp.and IntKind.u8 (C : Int) 15 = ((C % 16 : Nat) : Int) := and15u C h32
                have d1 : (C : Int) / 16 < 16 := by omega
                have d2 : ((C % 16 : Nat) : Int) < 16 := by omega
                have d3 : C / 16 < 16 := by omega
                have d4 : C % 16 < 16 := by omega
                have d5 : (C : Int) % 16 < 16 := by omega
                have d6 : (0 : Int) ≤ (C : Int) % 16 := by omega
                have d7 : (0 : Int) ≤ (C : Int) / 16 := by omega
                have hvb : vbR C = [92, 117, 48, 48, (hexN (C / 16) : Int), (hexN (C % 16) : Int)] := by unfold vbR; rw [← hkx, if_neg (by decide), if_pos h32]
                have hE4 : Hid (bs O ++ [92, 117, 48, 48, (hexN (C / 16) : Int), (hexN (C % 16) : Int)] ++ vbAll ((bs s).drop (i + 1)) = F) := by
                  have := hE3.out
                  rw [hvb] at this
                  exact this
                have p1 : C / 16 < (⟨#[48, 49, 50, 51, 52, 53, 54, 55, 56, 57, 97, 98, 99, 100, 101, 102]⟩ : ByteArray).size := d3
                have p2 : C % 16 < (⟨#[48, 49, 50, 51, 52, 53, 54, 55, 56, 57, 97, 98, 99, 100, 101, 102]⟩ : ByteArray).size := d4
                have hbX : bs (strOfNums [((((⟨#[48, 49, 50, 51, 52, 53, 54, 55, 56, 57, 97, 98, 99, 100, 101, 102]⟩ : ByteArray)[C / 16]'p1).toNat : Nat) : Int), ((((⟨#[48, 49, 50, 51, 52, 53, 54, 55, 56, 57, 97, 98, 99, 100, 101, 102]⟩ : ByteArray)[C % 16]'p2).toNat : Nat) : Int)]) = [(hexN (C / 16) : Int), (hexN (C % 16) : Int)] := by
                  rw [bs_str (by intro x hx; simp at hx; rcases hx with rfl | rfl <;> exact ⟨Int.natCast_nonneg _, u8_lt _⟩), hex_byte, hex_byte]
                have hsX : (strOfNums [((((⟨#[48, 49, 50, 51, 52, 53, 54, 55, 56, 57, 97, 98, 99, 100, 101, 102]⟩ : ByteArray)[C / 16]'p1).toNat : Nat) : Int), ((((⟨#[48, 49, 50, 51, 52, 53, 54, 55, 56, 57, 97, 98, 99, 100, 101, 102]⟩ : ByteArray)[C % 16]'p2).toNat : Nat) : Int)]).size = 2 := by rw [← bs_len, hbX]; rfl
                have hnext : Hid (bs (O ++ (⟨#[92, 117, 48, 48]⟩ ++ strOfNums [((((⟨#[48, 49, 50, 51, 52, 53, 54, 55, 56, 57, 97, 98, 99, 100, 101, 102]⟩ : ByteArray)[C / 16]'p1).toNat : Nat) : Int), ((((⟨#[48, 49, 50, 51, 52, 53, 54, 55, 56, 57, 97, 98, 99, 100, 101, 102]⟩ : ByteArray)[C % 16]'p2).toNat : Nat) : Int)])) ++ vbAll ((bs s).drop (i + 1)) = F) := by
                  show _ = _
                  rw [bs_app, bs_app, hbX]; exact hE4.out
                have hsz : Hid ((O ++ (⟨#[92, 117, 48, 48]⟩ ++ strOfNums [((((⟨#[48, 49, 50, 51, 52, 53, 54, 55, 56, 57, 97, 98, 99, 100, 101, 102]⟩ : ByteArray)[C / 16]'p1).toNat : Nat) : Int), ((((⟨#[48, 49, 50, 51, 52, 53, 54, 55, 56, 57, 97, 98, 99, 100, 101, 102]⟩ : ByteArray)[C % 16]'p2).toNat : Nat) : Int)])).size ≤ 1 + 6 * (i + 1)) := by
                  have := hO.out
                  show _ ≤ _
                  rw [ByteArray.size_append, ByteArray.size_append, hsX]
                  show O.size + (4 + 2) ≤ _
                  omega
                have z2 : ¬ 9223372036854775807 < O.size + 6 := by have := hO.out; have := hs'.out; omega
                have z3 : ¬ 9223372036854775807 < O.size + (4 + 2) := by have := hO.out; have := hs'.out; omega
                have hB5 : Hid (Below w.heap.size w (wr.alloc (.cells #[.int .u8 ((((⟨#[48, 49, 50, 51, 52, 53, 54, 55, 56, 57, 97, 98, 99, 100, 101, 102]⟩ : ByteArray)[C / 16]'p1).toNat : Nat) : Int), .int .u8 ((((⟨#[48, 49, 50, 51, 52, 53, 54, 55, 56, 57, 97, 98, 99, 100, 101, 102]⟩ : ByteArray)[C % 16]'p2).toNat : Nat) : Int)] 5)).drew) := (hB.out.trans ((alloc_below wr _).mono hB.out.size)).drew
                clear h7 hkx hvb hE3 h32 hbX
                go_wp2
                go_region
                all_goals
                  go_wp2
                  go_roundw
                  case rel => exact ⟨_, i + 1, hlt, rfl, by go_num, hsz, hnext, hB5⟩
                  case measure => simp [intOf]; omega
              · have v3 : decide ((C : Int) < 32) = false := by simp; omega
                have hvb : vbR C = [(C : Int)] := by unfold vbR; rw [← hkx, if_neg (by decide), if_neg h32]
                have hbc : bs (strOfNums [(C : Int)]) = [(C : Int)] := bs_str (by intro x hx; simp at hx; omega)
                have hsX : (strOfNums [(C : Int)]).size = 1 := by rw [← bs_len, hbc]; rfl
                have hnext : Hid (bs (O ++ strOfNums [(C : Int)]) ++ vbAll ((bs s).drop (i + 1)) = F) := by
                  have := hE3.out
                  rw [hvb] at this
                  show _ = _
                  rw [bs_app, hbc]; exact this
                have hsz : Hid ((O ++ strOfNums [(C : Int)]).size ≤ 1 + 6 * (i + 1)) := by
                  have := hO.out
                  show _ ≤ _
                  rw [ByteArray.size_append, hsX]
                  omega
                have z1 : ¬ 9223372036854775807 < O.size + (strOfNums [(C : Int)]).size := by have := hO.out; have := hs'.out; omega
                have hB5 : Hid (Below w.heap.size w (wr.alloc (.cells #[.int .u8 (C : Int)] 5))) := hB.out.trans ((alloc_below wr _).mono hB.out.size)
                clear hvb hbc hsX hkx hE3 h7 h32
                generalize strOfNums [(C : Int)] = X at *
                go_wp2
                go_roundw
                case rel => exact ⟨O ++ X, i + 1, hlt, rfl, by go_num, hsz, hnext, hB5⟩
                case measure => simp [intOf]; omega
      · obtain rfl : i = s.size := by omega
        have hFF : bs O = F := by
          have := hE.out
          rw [List.drop_of_length_le (by rw [bs_len]; omega)] at this
          simpa [vbAll] using this
        have hfin : Hid (O ++ ⟨#[34]⟩ = strOfNums (F ++ [34])) := by
          show _ = _
          rw [← hFF, ← str_bs (O ++ ⟨#[34]⟩), bs_app]; rfl
        have hO2 : Hid (O.size ≤ 1 + 6 * s.size) := hO
        have hz1 : ¬ 9223372036854775807 < O.size + 1 := by have := hO.out; have := hs'.out; omega
        clear hE hFF hF'
        go_wp2
        go_ret
        exact ⟨by rw [hfin.out]; rfl, hB.out⟩
  · obtain ⟨p, hp⟩ := Option.ne_none_iff_exists'.1 hn
    have e1 : escA (bs s) = [] := by unfold escA; rw [if_neg hn]
    rw [(why_some hp).1] at kX
    rw [e1]
    generalize atL (bs s) = AT at *
    have kX' : Calls Tryd.prog 17 #[.slice (some ⟨gC, 0, none⟩) nC cC] W fun e w' => ∃ v, e = .returned (.tuple #[v, .agg #[.int .i64 6, .int .i64 (AT : Nat)]]) ∧ Below W.heap.size W w' := kX.mono fun e w' ⟨v, h1, _, h2⟩ => ⟨v, h1, h2⟩
    clear hW hvC hvC' hlC hcC hcC' hBC kX hs hn e1 hp
    go_enter Tryd.func16, Tryd.ntmps16
    go_wp2_with (go_at_call 17; refine kX'.mono ?_; rintro e w1 ⟨v, rfl, hb⟩; clear kX'; have b1 : Hid (Below w.heap.size w (w1.alloc (.cells #[.int .i64 6, .int .i64 (AT : Nat)] 26))) := (fun h1 => h1.trans ((alloc_below w1 _).mono h1.size)) (BC.out.trans (hb.mono BC.out.size)); clear hb)
    go_ret
    exact ⟨rfl, b1.out⟩
set_option maxHeartbeats 2000000 in
set_option maxRecDepth 100000 in
theorem escapes_any (s : ByteArray) (w : World) (hs : s.size ≤ maxLen) : Calls Tryd.prog 5 #[.string s] w fun e w' => e = .returned (.bool true) ∧ Below w.heap.size w w' := by
  have kA : Hid (∀ w', Calls Tryd.prog 12 #[] w' fun e w'' => e = .returned (.bool true) ∧ Below w'.heap.size w' w'') := alive_any
  by_cases hb : s.size ≤ 20000
  · have k1 : Hid (∀ w', Calls Tryd.prog 15 #[.string s] w' fun e w'' => e = .returned (.string (strOfNums (escA (bs s)))) ∧ Below w'.heap.size w' w'') := fun w' => escape_any s w' (by omega)
    have k2 : Hid (∀ w', Calls Tryd.prog 16 #[.string s] w' fun e w'' => e = .returned (.string (strOfNums (escA (bs s)))) ∧ Below w'.heap.size w' w'') := fun w' => vesc_any s w' (by omega)
    have a1 : decide ((20000 : Int) < ((s.size : Nat) : Int)) = false := by simp; omega
    generalize strOfNums (escA (bs s)) = E at *
    clear hs hb
    go_enter Tryd.func5, Tryd.ntmps5
    go_wp2_with (first
      | (go_at_call 15; refine (k1.out _).mono ?_; rintro e w1 ⟨rfl, b1⟩; clear k1)
      | (go_at_call 16; refine (k2.out _).mono ?_; rintro e w2 ⟨rfl, b2⟩; clear k2)
      | (go_at_call 12; refine (kA.out _).mono ?_; rintro e w3 ⟨rfl, b3⟩))
    go_ret
    have h2 := b1.trans (b2.mono b1.size)
    exact ⟨rfl, h2.trans (b3.mono h2.size)⟩
  · have a1 : decide ((20000 : Int) < ((s.size : Nat) : Int)) = true := by simp; omega
    clear hs hb
    go_enter Tryd.func5, Tryd.ntmps5
    go_wp2
    go_ret
    exact ⟨rfl, Below.refl _ _⟩
end Go.Proofs.YtfkoghmbkgbgbaaDoor
