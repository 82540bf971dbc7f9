/-
  A text as a string: the document's Escape, walked.
  A tree's whole text: the document's text, in parts.
  A tree's whole text: the document's text, walked.
-/
import Derived.Test.YtelabgonpmafpaaGreatDoorP19
import Derived.Test.YtelabgonpmafpaaGreatDoorP18
namespace Go.Proofs.YtelabgonpmafpaaGreatDoor
open Go.RowKit
set_option linter.unusedVariables false

theorem vb_drop {b : List Int} {i : Nat} (h : i < b.length) : vbAll (b.drop i) = vbR (b[i]'h).toNat ++ vbAll (b.drop (i + 1)) := by
  rw [List.drop_eq_getElem_cons h]; rfl
theorem bs_get (s : ByteArray) (i : Nat) (h : i < s.size) (h' : i < (bs s).length) : ((bs s)[i]'h').toNat = (s[i]'h).toNat := by
  simp only [bs, List.getElem_map, Int.toNat_natCast]
  rfl
theorem and15u : ∀ r : Nat, r < 32 → bits BinOp.and IntKind.u8 (r : Int) 15 = ((r % 16 : Nat) : Int) := by decide
theorem ixN_le (c : Nat) : ixN c ≤ 7 := by
  unfold ixN
  repeat' split
  all_goals omega
set_option maxHeartbeats 8000000 in
set_option maxRecDepth 100000 in
/-- The document's Escape. -/
theorem vesc_any (s : ByteArray) (w : World) (hs : s.size ≤ 100000) :
    Calls Tryz.prog 32 #[.string s] w fun e w' => e = .returned (.string (strOfNums (escA (bs s)))) ∧ Below w.heap.size w w' := by
  have hcv := Lib.run_convert_string_bytes (P := Tryz.prog) w 9 23 5 s Tryz.underlying9 Tryz.underlying23 Tryz.underlying5
  obtain ⟨gC, nC, cC, hvC, hlC, hcC, hcC', hBC⟩ := (own_conv w s (by omega)).form
  have hvC' : (Value.slice (some ⟨w.heap.size, 0, none⟩) s.size (grownCap w s.size 0 5)) = Value.slice (some ⟨gC, 0, none⟩) nC cC := hvC
  rw [hvC'] at hcv
  have kX := xrunes_any (some ⟨gC, 0, none⟩) nC cC (bs s) (Lib.bytesWorld w 5 s) hlC.out hBC.out hcC (by have := hlC.out; rw [bs_len] at this; omega)
  have BC : Hid (Below w.heap.size w (Lib.bytesWorld w 5 s)) := convB_below w s
  obtain ⟨W, hW⟩ : ∃ W, Lib.bytesWorld w 5 s = W := ⟨_, rfl⟩
  rw [hW] at hcv kX BC
  have hs' : Hid (s.size ≤ 100000) := hs
  by_cases hn : (runesL (bs s)).2 = none
  · have e1 : escA (bs s) = [34] ++ vbAll (bs s) ++ [34] := by unfold escA; rw [if_pos hn, vb_text _ (bs_bytes s) hn]
    rw [(why_none hn).1, (why_none hn).2.1] at kX
    have kX' : Calls Tryz.prog 57 #[.slice (some ⟨gC, 0, none⟩) nC cC] W fun e w' => ∃ v, e = .returned (.tuple #[v, .agg #[.int .i64 0, .int .i64 0]]) ∧ Below W.heap.size W w' := kX.mono fun e w' ⟨v, h1, _, h2⟩ => ⟨v, h1, h2⟩
    obtain ⟨F, hF⟩ : ∃ F, [34] ++ vbAll (bs s) = F := ⟨_, rfl⟩
    rw [e1, hF]
    have hF' : Hid (bs (⟨#[34]⟩ : ByteArray) ++ vbAll ((bs s).drop 0) = F) := by rw [List.drop_zero]; exact hF
    have k2 := fun (w : World) (a b : UInt8) => conv_two w a b
    have k3 := fun (w : World) (a b : UInt8) => conv_twoD w a b
    clear hW hvC hvC' hlC hcC hcC' hBC kX hs hn e1 hF
    go_enter Tryz.func32, Tryz.ntmps32
    go_wp2_with (go_at_call 57; refine kX'.mono ?_; rintro e w1 ⟨v, rfl, hb⟩; clear kX'; have b1 : Hid (Below w.heap.size w (w1.alloc (.cells #[.int .i64 0, .int .i64 0] 36))) := (fun h1 => h1.trans ((alloc_below w1 _).mono h1.size)) (BC.out.trans (hb.mono BC.out.size)); clear hb)
    go_loopw [7, 8] (fun v u wr => ∃ (O : ByteArray) (i : Nat), i ≤ s.size ∧ v = .string O ∧ u = .int .i64 i ∧ Hid (O.size ≤ 1 + 6 * i) ∧ Hid (bs O ++ vbAll ((bs s).drop i) = F) ∧ Hid (Below w.heap.size w wr)) (fun _ u _ => s.size - (intOf u).toNat)
    case atStart => exact ⟨⟨#[34]⟩, 0, Nat.zero_le _, rfl, rfl, by show _ ≤ _; decide, hF', b1⟩
    case round =>
      obtain ⟨O, i, hi, rfl, rfl, hO, hE, hB⟩ := hrel
      by_cases hlt : i < s.size
      · have hlt' : i < (bs s).length := by rw [bs_len]; exact hlt
        have hd := vb_drop hlt'
        rw [bs_get s i hlt hlt'] at hd
        have hE2 : Hid (bs O ++ vbR (s[i]'hlt).toNat ++ vbAll ((bs s).drop (i + 1)) = F) := by
          show _ = _
          rw [List.append_assoc, ← hd]; exact hE.out
        have hC : (s[i]'hlt).toNat < 256 := by have := (s[i]'hlt).toNat_lt; omega
        have hzl : (i : Int) < ((s.size : Nat) : Int) := by omega
        clear hd hE
        obtain ⟨C, hCC⟩ : ∃ C, (s[i]'hlt).toNat = C := ⟨_, rfl⟩
        rw [hCC] at hE2 hC
        have k1 := fun (w : World) => conv_one w C hC
        have hE3 : Hid (bs O ++ vbR C ++ vbAll ((bs s).drop (i + 1)) = F) := hE2
        have hix := ixN_le C
        have W1 : IntKind.i64.wrap ((i : Int) + 1) = ((i + 1 : Nat) : Int) := by have := hs'.out; rw [IntKind.wrap_i64]; omega
        clear hE2
        go_wp2
        obtain ⟨wq, hwq⟩ : ∃ wq, wr = wq := ⟨_, rfl⟩
        rw [hwq] at hB ⊢
        clear hwq
        go_loopw [10] (fun u wi => ∃ k : Nat, k ≤ ixN C ∧ u = .int .i64 k ∧ wi = wq) (fun u _ => ixN C - (intOf u).toNat)
        case atStart => exact ⟨0, Nat.zero_le _, rfl, rfl⟩
        case round =>
          obtain ⟨k, hk, rfl, rfl⟩ := hrel
          by_cases hk2 : k < ixN C
          · have v1 : (k : Int) < 7 := by omega
            have hks : k < (⟨#[34, 92, 8, 9, 10, 12, 13]⟩ : ByteArray).size := by show k < 7; omega
            have hfb := from_byte k hks
            have v2 : (((((⟨#[34, 92, 8, 9, 10, 12, 13]⟩ : ByteArray)[k]'hks).toNat : Nat) : Int) != (C : Int)) = true := by
              simp only [bne_iff_ne, ne_eq]
              intro h
              have h' := Int.ofNat.inj h
              rw [h'] at hfb
              omega
            clear hfb
            go_wp2
            go_roundw
            case rel => exact ⟨k + 1, by omega, by go_num, trivial⟩
            case measure => simp [intOf]; omega
          · have hkx : k = ixN C := by omega
            by_cases h7 : k < 7
            · have v1 : (k : Int) < 7 := by omega
              have hks : k < (⟨#[34, 92, 8, 9, 10, 12, 13]⟩ : ByteArray).size := h7
              have hib := ix_byte C k hks hkx.symm
              have v2 : (((((⟨#[34, 92, 8, 9, 10, 12, 13]⟩ : ByteArray)[k]'hks).toNat : Nat) : Int) != (C : Int)) = false := by rw [hib]; simp
              obtain ⟨X, hX⟩ : ∃ X, (⟨#[34, 92, 98, 116, 110, 102, 114]⟩ : ByteArray).extract k (k + 1) = X := ⟨_, rfl⟩
              have hbX : bs X = [(toN k : Int)] := by rw [← hX]; exact to_ext k h7
              have hsX : X.size = 1 := by rw [← bs_len, hbX]; rfl
              have hvb : vbR C = [92, (toN k : Int)] := by unfold vbR; rw [← hkx, if_pos h7]
              have hnext : Hid (bs (O ++ (⟨#[92]⟩ ++ X)) ++ vbAll ((bs s).drop (i + 1)) = F) := by
                have := hE3.out
                rw [hvb] at this
                show _ = _
                rw [bs_app, bs_app, hbX]; exact this
              have hsz : Hid ((O ++ (⟨#[92]⟩ ++ X)).size ≤ 1 + 6 * (i + 1)) := by
                have := hO.out
                show _ ≤ _
                rw [ByteArray.size_append, ByteArray.size_append, hsX]
                show O.size + (1 + 1) ≤ _
                omega
              have z1 : ¬ 9223372036854775807 < 1 + X.size := by omega
              have z2 : ¬ 9223372036854775807 < O.size + (1 + X.size) := by have := hO.out; have := hs'.out; omega
              have s1 : (k : Int) + 1 ≤ 7 := by omega
              clear hib hbX hvb hsX hkx hE3
              go_wp2
              go_roundw
              case rel => exact ⟨O ++ (⟨#[92]⟩ ++ X), i + 1, hlt, rfl, by go_num, hsz, hnext, hB⟩
              case measure => simp [intOf]; omega
            · obtain rfl : k = 7 := by omega
              by_cases h32 : C < 32
              · have v3 : decide ((C : Int) < 32) = true := by simp; omega
                have hA : bits BinOp.and IntKind.u8 (C : Int) 15 = ((C % 16 : Nat) : Int) := and15u C h32
                have d1 : (C : Int) / 16 < 16 := by omega
                have d2 : ((C % 16 : Nat) : Int) < 16 := by omega
                have d3 : C / 16 < 16 := by omega
                have d4 : C % 16 < 16 := by omega
                have d5 : (C : Int) % 16 < 16 := by omega
                have d6 : (0 : Int) ≤ (C : Int) % 16 := by omega
                have d7 : (0 : Int) ≤ (C : Int) / 16 := by omega
                have hvb : vbR C = [92, 117, 48, 48, (hexN (C / 16) : Int), (hexN (C % 16) : Int)] := by unfold vbR; rw [← hkx, if_neg (by decide), if_pos h32]
                have hE4 : Hid (bs O ++ [92, 117, 48, 48, (hexN (C / 16) : Int), (hexN (C % 16) : Int)] ++ vbAll ((bs s).drop (i + 1)) = F) := by
                  have := hE3.out
                  rw [hvb] at this
                  exact this
                have p1 : C / 16 < (⟨#[48, 49, 50, 51, 52, 53, 54, 55, 56, 57, 97, 98, 99, 100, 101, 102]⟩ : ByteArray).size := d3
                have p2 : C % 16 < (⟨#[48, 49, 50, 51, 52, 53, 54, 55, 56, 57, 97, 98, 99, 100, 101, 102]⟩ : ByteArray).size := d4
                have hbX : bs (strOfNums [((((⟨#[48, 49, 50, 51, 52, 53, 54, 55, 56, 57, 97, 98, 99, 100, 101, 102]⟩ : ByteArray)[C / 16]'p1).toNat : Nat) : Int), ((((⟨#[48, 49, 50, 51, 52, 53, 54, 55, 56, 57, 97, 98, 99, 100, 101, 102]⟩ : ByteArray)[C % 16]'p2).toNat : Nat) : Int)]) = [(hexN (C / 16) : Int), (hexN (C % 16) : Int)] := by
                  rw [bs_str (by intro x hx; simp at hx; rcases hx with rfl | rfl <;> exact ⟨Int.natCast_nonneg _, u8_lt _⟩), hex_byte, hex_byte]
                have hsX : (strOfNums [((((⟨#[48, 49, 50, 51, 52, 53, 54, 55, 56, 57, 97, 98, 99, 100, 101, 102]⟩ : ByteArray)[C / 16]'p1).toNat : Nat) : Int), ((((⟨#[48, 49, 50, 51, 52, 53, 54, 55, 56, 57, 97, 98, 99, 100, 101, 102]⟩ : ByteArray)[C % 16]'p2).toNat : Nat) : Int)]).size = 2 := by rw [← bs_len, hbX]; rfl
                have hnext : Hid (bs (O ++ (⟨#[92, 117, 48, 48]⟩ ++ strOfNums [((((⟨#[48, 49, 50, 51, 52, 53, 54, 55, 56, 57, 97, 98, 99, 100, 101, 102]⟩ : ByteArray)[C / 16]'p1).toNat : Nat) : Int), ((((⟨#[48, 49, 50, 51, 52, 53, 54, 55, 56, 57, 97, 98, 99, 100, 101, 102]⟩ : ByteArray)[C % 16]'p2).toNat : Nat) : Int)])) ++ vbAll ((bs s).drop (i + 1)) = F) := by
                  show _ = _
                  rw [bs_app, bs_app, hbX]; exact hE4.out
                have hsz : Hid ((O ++ (⟨#[92, 117, 48, 48]⟩ ++ strOfNums [((((⟨#[48, 49, 50, 51, 52, 53, 54, 55, 56, 57, 97, 98, 99, 100, 101, 102]⟩ : ByteArray)[C / 16]'p1).toNat : Nat) : Int), ((((⟨#[48, 49, 50, 51, 52, 53, 54, 55, 56, 57, 97, 98, 99, 100, 101, 102]⟩ : ByteArray)[C % 16]'p2).toNat : Nat) : Int)])).size ≤ 1 + 6 * (i + 1)) := by
                  have := hO.out
                  show _ ≤ _
                  rw [ByteArray.size_append, ByteArray.size_append, hsX]
                  show O.size + (4 + 2) ≤ _
                  omega
                have z2 : ¬ 9223372036854775807 < O.size + 6 := by have := hO.out; have := hs'.out; omega
                have z3 : ¬ 9223372036854775807 < O.size + (4 + 2) := by have := hO.out; have := hs'.out; omega
                have hB5 : Hid (Below w.heap.size w (wr.alloc (.cells #[.int .u8 ((((⟨#[48, 49, 50, 51, 52, 53, 54, 55, 56, 57, 97, 98, 99, 100, 101, 102]⟩ : ByteArray)[C / 16]'p1).toNat : Nat) : Int), .int .u8 ((((⟨#[48, 49, 50, 51, 52, 53, 54, 55, 56, 57, 97, 98, 99, 100, 101, 102]⟩ : ByteArray)[C % 16]'p2).toNat : Nat) : Int)] 5)).drew) := (hB.out.trans ((alloc_below wr _).mono hB.out.size)).drew
                clear h7 hkx hvb hE3 h32 hbX
                go_wp2
                go_region
                all_goals
                  go_wp2
                  go_roundw
                  case rel => exact ⟨_, i + 1, hlt, rfl, by go_num, hsz, hnext, hB5⟩
                  case measure => simp [intOf]; omega
              · have v3 : decide ((C : Int) < 32) = false := by simp; omega
                have hvb : vbR C = [(C : Int)] := by unfold vbR; rw [← hkx, if_neg (by decide), if_neg h32]
                have hbc : bs (strOfNums [(C : Int)]) = [(C : Int)] := bs_str (by intro x hx; simp at hx; omega)
                have hsX : (strOfNums [(C : Int)]).size = 1 := by rw [← bs_len, hbc]; rfl
                have hnext : Hid (bs (O ++ strOfNums [(C : Int)]) ++ vbAll ((bs s).drop (i + 1)) = F) := by
                  have := hE3.out
                  rw [hvb] at this
                  show _ = _
                  rw [bs_app, hbc]; exact this
                have hsz : Hid ((O ++ strOfNums [(C : Int)]).size ≤ 1 + 6 * (i + 1)) := by
                  have := hO.out
                  show _ ≤ _
                  rw [ByteArray.size_append, hsX]
                  omega
                have z1 : ¬ 9223372036854775807 < O.size + (strOfNums [(C : Int)]).size := by have := hO.out; have := hs'.out; omega
                have hB5 : Hid (Below w.heap.size w (wr.alloc (.cells #[.int .u8 (C : Int)] 5))) := hB.out.trans ((alloc_below wr _).mono hB.out.size)
                clear hvb hbc hsX hkx hE3 h7 h32
                generalize strOfNums [(C : Int)] = X at *
                go_wp2
                go_roundw
                case rel => exact ⟨O ++ X, i + 1, hlt, rfl, by go_num, hsz, hnext, hB5⟩
                case measure => simp [intOf]; omega
      · obtain rfl : i = s.size := by omega
        have hFF : bs O = F := by
          have := hE.out
          rw [List.drop_of_length_le (by rw [bs_len]; omega)] at this
          simpa [vbAll] using this
        have hfin : Hid (O ++ ⟨#[34]⟩ = strOfNums (F ++ [34])) := by
          show _ = _
          rw [← hFF, ← str_bs (O ++ ⟨#[34]⟩), bs_app]; rfl
        have hO2 : Hid (O.size ≤ 1 + 6 * s.size) := hO
        have hz1 : ¬ 9223372036854775807 < O.size + 1 := by have := hO.out; have := hs'.out; omega
        clear hE hFF hF'
        go_wp2
        go_ret
        exact ⟨by rw [hfin.out]; rfl, hB.out⟩
  · obtain ⟨p, hp⟩ := Option.ne_none_iff_exists'.1 hn
    have e1 : escA (bs s) = [] := by unfold escA; rw [if_neg hn]
    rw [(why_some hp).1] at kX
    rw [e1]
    generalize atL (bs s) = AT at *
    have kX' : Calls Tryz.prog 57 #[.slice (some ⟨gC, 0, none⟩) nC cC] W fun e w' => ∃ v, e = .returned (.tuple #[v, .agg #[.int .i64 6, .int .i64 (AT : Nat)]]) ∧ Below W.heap.size W w' := kX.mono fun e w' ⟨v, h1, _, h2⟩ => ⟨v, h1, h2⟩
    clear hW hvC hvC' hlC hcC hcC' hBC kX hs hn e1 hp
    go_enter Tryz.func32, Tryz.ntmps32
    go_wp2_with (go_at_call 57; refine kX'.mono ?_; rintro e w1 ⟨v, rfl, hb⟩; clear kX'; have b1 : Hid (Below w.heap.size w (w1.alloc (.cells #[.int .i64 6, .int .i64 (AT : Nat)] 36))) := (fun h1 => h1.trans ((alloc_below w1 _).mono h1.size)) (BC.out.trans (hb.mono BC.out.size)); clear hb)
    go_ret
    exact ⟨rfl, b1.out⟩
end Go.Proofs.YtelabgonpmafpaaGreatDoor
namespace Go.Proofs.YtelabgonpmafpaaGreatDoor
open Go.RowKit
set_option linter.unusedVariables false
theorem bsz_inj {a b : ByteArray} (h : bs a = bs b) : a = b := by rw [← str_bs a, ← str_bs b, h]
set_option maxHeartbeats 1000000 in
set_option maxRecDepth 100000 in
theorem numD_any (b : Nb) (w : World) : Calls Tryz.prog 31 #[.agg b.arr] w fun e w' => e = .returned (.agg #[.bool b.neg, .string b.dig, .int .i64 b.exp]) ∧ Below w.heap.size w w' := by
  have A1 := alloc_below w (.cells b.arr 26)
  have A2 := alloc_below (w.alloc (.cells b.arr 26)) (.cells #[.bool false, .string ⟨#[]⟩, .int .i64 0] 53)
  have A3 := alloc_below (w.alloc (.cells b.arr 26)) (.cells #[.bool b.neg, .string b.dig, .int .i64 b.exp] 53)
  have B2 : Hid (Below w.heap.size w ((w.alloc (.cells b.arr 26)).alloc (.cells #[.bool b.neg, .string b.dig, .int .i64 b.exp] 53))) := A1.trans (A3.mono A1.size)
  obtain ⟨f0, f1, f2, f3, f4, f5, f6, f7, f8⟩ := ((nbox_new w b).kept A2 (by simp)).fields
  clear A1 A2 A3
  go_enter Tryz.func31, Tryz.ntmps31
  go_wp2_with fail
  refine bodyPost_ret (v := .agg #[.bool b.neg, .string b.dig, .int .i64 b.exp]) (by simp [results, Tryz.results31, go_sem, *]) rfl ⟨rfl, B2.out⟩
def TextDAt (D : Nat) : Prop := ∀ (t : Tr) (b : Nb) (w : World) (s : ByteArray), Nd D w b t → t.All (fun u => alF u = 0) → t.size ≤ 1000000 → txF D t = some s → Calls Tryz.prog 20 #[.agg b.arr] w fun e w' => e = .returned (.string s) ∧ Below w.heap.size w w'
theorem sz_app (a b : ByteArray) : (a ++ b).size = a.size + b.size := ByteArray.size_append
/-- A row that grows by a text. -/
theorem row_next {m : List ByteArray} {x sa : ByteArray} (h : bs sa = cat (rowP m)) : (m = [] → bs (sa ++ x) = cat (rowP (m ++ [x]))) ∧ (m ≠ [] → bs ((sa ++ ⟨#[44]⟩) ++ x) = cat (rowP (m ++ [x]))) := by
  refine ⟨fun e => ?_, fun e => ?_⟩
  · rw [bs_app, h, rowP_snoc, cat_app, if_pos e, cat_cons, cat_nil, List.append_nil]
  · rw [bs_app, bs_app, h, rowP_snoc, cat_app, if_neg e, cat_cons, cat_cons, cat_nil, List.append_nil, List.append_assoc]
theorem wrap_two (a c : UInt8) {m : List ByteArray} {sa : ByteArray} (h : bs sa = cat (rowP m)) : ((⟨#[a]⟩ : ByteArray) ++ sa) ++ ⟨#[c]⟩ = catB [⟨#[a]⟩, catB (rowP m), ⟨#[c]⟩] := by
  apply bsz_inj
  rw [bs_app, bs_app, catB_bs, cat_cons, cat_cons, cat_cons, cat_nil, catB_bs, h, List.append_nil, List.append_assoc]
theorem row_pre (m : List ByteArray) (i : Nat) : (cat (rowP (m.take i))).length ≤ (cat (rowP m)).length := by
  cases m with
  | nil => simp
  | cons x l =>
    cases i with
    | zero => simp [rowP, cat]
    | succ i =>
      rw [List.take_succ_cons, rowP, rowP, cat_cons, cat_cons, List.length_append, List.length_append]
      have : (l.map fun y => [(⟨#[44]⟩ : ByteArray), y]) = ((l.take i).map fun y => [(⟨#[44]⟩ : ByteArray), y]) ++ ((l.drop i).map fun y => [(⟨#[44]⟩ : ByteArray), y]) := by rw [← List.map_append, List.take_append_drop]
      rw [this, List.flatten_append, cat_app, List.length_append]
      omega
theorem mem_row {m : List ByteArray} {x : ByteArray} (h : x ∈ m) : x ∈ rowP m := by
  cases m with
  | nil => cases h
  | cons y l =>
    rw [rowP, List.mem_cons]
    rcases List.mem_cons.1 h with rfl | h
    · exact .inl rfl
    · exact .inr (List.mem_flatten.2 ⟨[⟨#[44]⟩, x], List.mem_map_of_mem (f := fun y => [(⟨#[44]⟩ : ByteArray), y]) h, by simp⟩)
theorem map_at {f : Tr → Option ByteArray} {l : List Tr} {m : List ByteArray} (h : l.map f = m.map some) {i : Nat} (h1 : i < l.length) (h2 : i < m.length) : f l[i] = some m[i] := by
  have := congrArg (fun z => z[i]?) h
  simp only [List.getElem?_map, List.getElem?_eq_getElem h1, List.getElem?_eq_getElem h2, Option.map_some, Option.some.injEq] at this
  exact this
theorem zip_at {d : Nat} {k l : List Tr} {m : List ByteArray} (h : List.zipWith (memG (txF d)) k l = m.map some) {i : Nat} (h0 : i < k.length) (h1 : i < l.length) (h2 : i < m.length) : k[i].kind = 5 ∧ ∃ z, txF d l[i] = some z ∧ m[i] = catB [strOfNums (escA (bs k[i].txt)), ⟨#[58]⟩, z] := by
  have := congrArg (fun z => z[i]?) h
  simp only [List.getElem?_zipWith, List.getElem?_map, List.getElem?_eq_getElem h0, List.getElem?_eq_getElem h1, List.getElem?_eq_getElem h2, Option.map_some, Option.some.injEq] at this
  unfold memG at this
  by_cases k5 : k[i].kind = 5
  · rw [if_pos k5] at this
    cases hz : txF d l[i] with
    | none => rw [hz] at this; cases this
    | some z => rw [hz] at this; simp only [Option.map_some, Option.some.injEq] at this; exact ⟨k5, z, rfl, this.symm⟩
  · rw [if_neg k5] at this; cases this
end Go.Proofs.YtelabgonpmafpaaGreatDoor
namespace Go.Proofs.YtelabgonpmafpaaGreatDoor
open Go.RowKit
set_option linter.unusedVariables false
set_option maxHeartbeats 8000000 in
set_option maxRecDepth 100000 in
theorem textd_step {D : Nat} (ih : TextDAt D) : TextDAt (D + 1) := by
  intro t b w s hN hA hS hs
  obtain ⟨h0, hak, hai⟩ := (Tr.all_eq _ t).1 hA
  have e0 : b.kind = t.kind := hN.1.1
  have e1 : b.num = t.num := hN.1.2.1
  have e2 : b.neg = t.neg := hN.1.2.2.1
  have e3 : b.dig = t.dig := hN.1.2.2.2.1
  have e4 : b.exp = t.exp := hN.1.2.2.2.2.1
  have e5 : b.txt = t.txt := hN.1.2.2.2.2.2
  have hal := alloc_below w (.cells b.arr 26)
  have B1 : Hid (Below w.heap.size w (w.alloc (.cells b.arr 26))) := hal
  have rk : Hid (RowN (Nd D (w.alloc (.cells b.arr 26))) (w.alloc (.cells b.arr 26)) b.ak b.lk b.ck t.keys) := (hN.2.2.2.1).kept (R := Nd D (w.alloc (.cells b.arr 26))) hal (fun _ _ _ q => q.kept hal)
  have ri : Hid (RowN (Nd D (w.alloc (.cells b.arr 26))) (w.alloc (.cells b.arr 26)) b.ai b.li b.ci t.kids) := (hN.2.2.2.2).kept (R := Nd D (w.alloc (.cells b.arr 26))) hal (fun _ _ _ q => q.kept hal)
  have X1 : Hid (NBox (w.alloc (.cells b.arr 26)) w.heap.size b) := nbox_new w b
  obtain ⟨f0, f1, f2, f3, f4, f5, f6, f7, f8⟩ := (nbox_new w b).fields
  have hsz := Tr.size_eq t
  have hss : Hid (s.size ≤ 30000 * 1000000) := by show _ ≤ _; have := txF_size (D + 1) t s hA hs; omega
  clear hal hN hA
  have hs0 := hs
  rw [txF] at hs
  by_cases k0 : t.kind = 0
  · have hk : b.kind = 0 := by rw [e0, k0]
    rw [if_pos k0] at hs
    have g0 : (b.kind == 0) = true := by rw [hk]; rfl
    have g1 : (b.kind == 1) = false := by rw [hk]; rfl
    have g2 : (b.kind == 2) = false := by rw [hk]; rfl
    have g3 : (b.kind == 3) = false := by rw [hk]; rfl
    have g5 : (b.kind == 5) = false := by rw [hk]; rfl
    cases hs
    clear hk e0 e1 e2 e3 e4 e5 hs0  k0
    go_enter Tryz.func20, Tryz.ntmps20
    go_wp2_with fail
    go_ret
    exact ⟨rfl, B1.out⟩
  rw [if_neg k0] at hs
  by_cases k1 : t.kind = 1
  · have hk : b.kind = 1 := by rw [e0, k1]
    rw [if_pos k1] at hs
    have g0 : (b.kind == 0) = false := by rw [hk]; rfl
    have g1 : (b.kind == 1) = true := by rw [hk]; rfl
    have g2 : (b.kind == 2) = false := by rw [hk]; rfl
    have g3 : (b.kind == 3) = false := by rw [hk]; rfl
    have g5 : (b.kind == 5) = false := by rw [hk]; rfl
    by_cases hn : t.num = 1
    · have gn : (b.num == 1) = true := by rw [e1, hn]; rfl
      rw [if_pos hn] at hs
      cases hs
      clear hk e0 e1 e2 e3 e4 e5 hs0 k0 k1 hn
      go_enter Tryz.func20, Tryz.ntmps20
      go_wp2_with fail
      go_ret
      exact ⟨rfl, B1.out⟩
    · have gn : (b.num == 1) = false := by rw [e1]; simpa using hn
      rw [if_neg hn] at hs
      cases hs
      clear hk e0 e1 e2 e3 e4 e5 hs0 k0 k1 hn
      go_enter Tryz.func20, Tryz.ntmps20
      go_wp2_with fail
      go_ret
      exact ⟨rfl, B1.out⟩
  rw [if_neg k1] at hs
  by_cases k2 : t.kind = 2
  · have hk : b.kind = 2 := by rw [e0, k2]
    rw [if_pos k2] at hs
    have g0 : (b.kind == 0) = false := by rw [hk]; rfl
    have g1 : (b.kind == 1) = false := by rw [hk]; rfl
    have g2 : (b.kind == 2) = true := by rw [hk]; rfl
    have g3 : (b.kind == 3) = false := by rw [hk]; rfl
    have g5 : (b.kind == 5) = false := by rw [hk]; rfl
    have hd : b.dig.size ≤ 800 := by rw [e3]; exact (al_dig h0 k2).1
    by_cases hn : t.neg = true
    · have gn : b.neg = true := by rw [e2, hn]
      have hx : Hid (s = ⟨#[45]⟩ ++ b.dig) := by
        show _ = _
        cases hs
        apply bsz_inj
        rw [catB_bs, cat_cons, cat_cons, cat_nil, List.append_nil, bs_app, hn, e3]
        rfl
      have z1 : ¬ 9223372036854775807 < 1 + b.dig.size := by omega
      clear hk e0 e1 e2 e3 e4 e5 hs0 k0 k1 k2 hn hs
      go_enter Tryz.func20, Tryz.ntmps20
      go_wp2_with fail
      go_ret
      exact ⟨by rw [hx.out]; rfl, B1.out⟩
    · have gn : b.neg = false := by rw [e2]; simpa using hn
      have hx : Hid (s = b.dig) := by
        show _ = _
        cases hs
        apply bsz_inj
        rw [catB_bs, cat_cons, cat_cons, cat_nil, List.append_nil, e3]
        have : t.neg = false := by simpa using hn
        rw [this]
        rfl
      clear hk e0 e1 e2 e3 e4 e5 hs0 k0 k1 k2 hn hs
      go_enter Tryz.func20, Tryz.ntmps20
      go_wp2_with fail
      go_ret
      exact ⟨by rw [hx.out]; rfl, B1.out⟩
  rw [if_neg k2] at hs
  by_cases k3 : t.kind = 3
  · have hk : b.kind = 3 := by rw [e0, k3]
    rw [if_pos k3] at hs
    have g0 : (b.kind == 0) = false := by rw [hk]; rfl
    have g1 : (b.kind == 1) = false := by rw [hk]; rfl
    have g2 : (b.kind == 2) = false := by rw [hk]; rfl
    have g3 : (b.kind == 3) = true := by rw [hk]; rfl
    have g5 : (b.kind == 5) = false := by rw [hk]; rfl
    have hx : Hid (s = textA b.neg b.dig b.exp) := by show _ = _; cases hs; rw [e2, e3, e4]
    have kN := numD_any b (w.alloc (.cells b.arr 26))
    have kT : Hid (∀ wx, Calls Tryz.prog 30 #[.agg #[.bool b.neg, .string b.dig, .int .i64 b.exp]] wx fun e w' => e = .returned (.string (textA b.neg b.dig b.exp)) ∧ Below wx.heap.size wx w') := fun wx => ytext_any b.neg b.dig b.exp wx
    generalize textA b.neg b.dig b.exp = sx at *
    clear hs
    clear hk e0 e1 e2 e3 e4 e5 hs0 k0 k1 k2 k3
    go_enter Tryz.func20, Tryz.ntmps20
    go_wp2_with (first
      | (go_at_call 31; refine kN.mono ?_; rintro e w2 ⟨rfl, hb2⟩; have b2 : Hid (Below w.heap.size w w2) := B1.out.trans (hb2.mono B1.out.size); clear hb2)
      | (go_at_call 30; refine (kT.out _).mono ?_; rintro e w3 ⟨rfl, hb3⟩))
    go_ret
    exact ⟨by rw [hx.out]; rfl, b2.out.trans (hb3.mono b2.out.size)⟩
  rw [if_neg k3] at hs
  by_cases k5 : t.kind = 5
  · have hk : b.kind = 5 := by rw [e0, k5]
    rw [if_pos k5] at hs
    have g0 : (b.kind == 0) = false := by rw [hk]; rfl
    have g1 : (b.kind == 1) = false := by rw [hk]; rfl
    have g2 : (b.kind == 2) = false := by rw [hk]; rfl
    have g3 : (b.kind == 3) = false := by rw [hk]; rfl
    have g5 : (b.kind == 5) = true := by rw [hk]; rfl
    have hx : Hid (s = strOfNums (escA (bs b.txt))) := by show _ = _; cases hs; rw [e5]
    have kE := vesc_any b.txt (w.alloc (.cells b.arr 26)) (by rw [e5]; have := (al_txt h0 k5).1; omega)
    generalize strOfNums (escA (bs b.txt)) = sx at *
    clear hs
    clear hk e0 e1 e2 e3 e4 e5 hs0 k0 k1 k2 k3 k5
    go_enter Tryz.func20, Tryz.ntmps20
    go_wp2_with (go_at_call 32; refine kE.mono ?_; rintro e w2 ⟨rfl, hb2⟩)
    go_ret
    exact ⟨by rw [hx.out]; rfl, B1.out.trans (hb2.mono B1.out.size)⟩
  rw [if_neg k5] at hs
  have g0 : (b.kind == 0) = false := by rw [e0]; simpa using k0
  have g1 : (b.kind == 1) = false := by rw [e0]; simpa using k1
  have g2 : (b.kind == 2) = false := by rw [e0]; simpa using k2
  have g3 : (b.kind == 3) = false := by rw [e0]; simpa using k3
  have g5 : (b.kind == 5) = false := by rw [e0]; simpa using k5
  have li0 : b.li ≤ b.ci := ri.out.2.1.1
  have li1 : b.ci ≤ 9223372036854775807 := by have := ri.out.2.1.2.1; simpa [maxLen] using this
  have li2 : Hid (t.kids.length = b.li) := ri.out.1
  have lk0 : b.lk ≤ b.ck := rk.out.2.1.1
  have lk1 : b.ck ≤ 9223372036854775807 := by have := rk.out.2.1.2.1; simpa [maxLen] using this
  have lk2 : Hid (t.keys.length = b.lk) := rk.out.1
  have hai' : Hid (∀ u ∈ t.kids, u.All (fun u => alF u = 0) ∧ u.size ≤ 1000000) := fun u hu => ⟨hai u hu, by have := Tr.size_le hu; omega⟩
  have hak' : Hid (∀ u ∈ t.keys, alF u = 0) := fun u hu => ((Tr.all_eq _ u).1 (hak u hu)).1
  by_cases k7 : t.kind = 7
  · have g8 : (b.kind == 8) = false := by rw [e0, k7]; rfl
    rw [if_pos k7] at hs
    cases ho : optAll (t.kids.map (txF D)) with
    | none => rw [ho] at hs; cases hs
    | some m =>
      rw [ho] at hs
      simp only [Option.map_some, Option.some.injEq] at hs
      have hx : Hid (s = catB [⟨#[91]⟩, catB (rowP m), ⟨#[93]⟩]) := hs.symm
      have hm : Hid (t.kids.map (txF D) = m.map some) := opt_mem ho
      have hml : Hid (m.length = b.li) := by show _ = _; have := congrArg List.length hm.out; simp at this; rw [← li2.out]; exact this.symm
      have hlen : Hid ((cat (rowP m)).length + 2 = s.size) := by
        show _ = _
        rw [hx.out, catB_size, cat_cons, cat_cons, cat_cons, cat_nil, List.length_append, List.length_append, List.length_append, bs_len, bs_len, bs_len, catB_size]
        show _ = 1 + (_ + (1 + 0))
        omega
      clear hs hs0 e0 e1 e2 e3 e4 e5 k0 k1 k2 k3 k5 k7 ho hak hai hsz
      go_enter Tryz.func20, Tryz.ntmps20
      go_wp2_with fail
      generalize w.alloc (.cells b.arr 26) = W1 at *
      go_loopw [3, 4] (fun s3 s4 wr => ∃ (i : Nat) (sa : ByteArray), i ≤ b.li ∧ s3 = .string sa ∧ s4 = .int .i64 i ∧ Hid (Below W1.heap.size W1 wr) ∧ Hid (bs sa = cat (rowP (m.take i)))) (fun _ i _ => b.li - (intOf i).toNat)
      case atStart => exact ⟨0, ⟨#[]⟩, Nat.zero_le _, rfl, rfl, Below.refl _ _, rfl⟩
      case round =>
        obtain ⟨i, sa, him, rfl, rfl, hbl, hsa⟩ := hrel
        have X2 := X1.out.kept hbl.out X1.out.lt
        obtain ⟨q0, q1, q2, q3, q4, q5, q6, q7, q8⟩ := X2.fields
        have hpre : Hid (sa.size ≤ (cat (rowP m)).length) := by show _ ≤ _; rw [← bs_len, hsa.out]; exact row_pre m i
        by_cases hlt : i < b.li
        · have hy : (i : Int) < (b.li : Int) := by omega
          have hy0 : (0 : Int) ≤ (i : Int) := by omega
          have hiy : i < t.kids.length := by rw [li2.out]; exact hlt
          have him' : i < m.length := by rw [hml.out]; exact hlt
          obtain ⟨bl, ol, nl, hadr, hcl, hNl, hbl0⟩ := row_el ri.out hbl.out hiy
          obtain ⟨p0, p1, p2, p3, p4, p5, p6, p7, p8⟩ := elem_fields hcl
          have wi : IntKind.i64.wrap ((i : Int) + 1) = (i : Int) + 1 := by rw [IntKind.wrap_i64]; omega
          have hxi : txF D t.kids[i] = some m[i] := map_at hm.out hiy him'
          have kk := ih t.kids[i] nl _ m[i] hNl (hai'.out _ (List.getElem_mem hiy)).1 (hai'.out _ (List.getElem_mem hiy)).2 hxi
          rw [hadr] at q8
          have hnx := row_next (m := m.take i) (x := m[i]) (sa := sa) hsa.out
          rw [← List.take_succ_eq_append_getElem him'] at hnx
          have hnx' : Hid ((m.take i = [] → bs (sa ++ m[i]) = cat (rowP (m.take (i + 1)))) ∧ (m.take i ≠ [] → bs ((sa ++ ⟨#[44]⟩) ++ m[i]) = cat (rowP (m.take (i + 1))))) := hnx
          have hxs : m[i].size ≤ 30000 * 1000000 := by have := cat_mem (mem_row (List.getElem_mem him')); have := hlen.out; have := hss.out; omega
          have hsas : sa.size ≤ 30000 * 1000000 := by have := hpre.out; have := hlen.out; have := hss.out; omega
          have z1 : ¬ 9223372036854775807 < sa.size + 1 := by omega
          have z2 : ¬ 9223372036854775807 < sa.size + m[i].size := by omega
          have z3 : ¬ 9223372036854775807 < sa.size + 1 + m[i].size := by omega
          by_cases hi0 : i = 0
          · have gi : decide (0 < i) = false := by simp; omega
            have gj : decide ((0 : Int) < (i : Int)) = false := by simp; omega
            have hr : Hid (bs (sa ++ m[i]) = cat (rowP (m.take (i + 1)))) := hnx'.out.1 (by rw [hi0]; rfl)
            generalize m[i] = xi at *
            clear hadr hcl hNl hbl0 X2 hnx hnx' hsa hxi hi0 hxs hsas f0 f1 f2 f3 f4 f5 f6 f7 f8
            go_wp2_with (go_at_call 20; refine kk.mono ?_; rintro e w5 ⟨rfl, hb5⟩; have b5 : Hid (Below W1.heap.size W1 w5) := hbl.out.trans (hb5.mono hbl.out.size); clear hb5)
            go_roundw
            case rel => exact ⟨i + 1, sa ++ xi, by omega, rfl, by go_num, b5, hr⟩
            case measure => simp [intOf]; omega
          · have gi : decide (0 < i) = true := by simp; omega
            have gj : decide ((0 : Int) < (i : Int)) = true := by simp; omega
            have hr : Hid (bs ((sa ++ ⟨#[44]⟩) ++ m[i]) = cat (rowP (m.take (i + 1)))) := hnx'.out.2 (by intro e; have := congrArg List.length e; rw [List.length_take, List.length_nil] at this; omega)
            generalize m[i] = xi at *
            clear hadr hcl hNl hbl0 X2 hnx hnx' hsa hxi hi0 hxs hsas f0 f1 f2 f3 f4 f5 f6 f7 f8
            go_wp2_with (go_at_call 20; refine kk.mono ?_; rintro e w5 ⟨rfl, hb5⟩; have b5 : Hid (Below W1.heap.size W1 w5) := hbl.out.trans (hb5.mono hbl.out.size); clear hb5)
            go_roundw
            case rel => exact ⟨i + 1, (sa ++ ⟨#[44]⟩) ++ xi, by omega, rfl, by go_num, b5, hr⟩
            case measure => simp [intOf]; omega
        · have hy : ¬ (i : Int) < (b.li : Int) := by omega
          have hr : Hid ((⟨#[91]⟩ ++ sa) ++ ⟨#[93]⟩ = s) := by
            have := hsa.out
            rw [List.take_of_length_le (by rw [hml.out]; omega)] at this
            show _ = _
            rw [hx.out]
            exact wrap_two 91 93 this
          have hsas : sa.size ≤ 30000 * 1000000 := by have := hpre.out; have := hlen.out; have := hss.out; omega
          have z1 : ¬ 9223372036854775807 < 1 + sa.size := by omega
          have z2 : ¬ 9223372036854775807 < 1 + sa.size + 1 := by omega
          clear X2 hsa hsas f0 f1 f2 f3 f4 f5 f6 f7 f8
          go_wp2_with fail
          go_ret
          exact ⟨by rw [← hr.out]; rfl, B1.out.trans (hbl.out.mono B1.out.size)⟩
  rw [if_neg k7] at hs
  by_cases k8 : t.kind = 8
  · have g8 : (b.kind == 8) = true := by rw [e0, k8]; rfl
    have hkl : Hid (t.keys.length = t.kids.length) := al_map h0 k8
    rw [if_pos k8] at hs
    cases ho : optAll (List.zipWith (memG (txF D)) t.keys t.kids) with
    | none => rw [ho] at hs; cases hs
    | some m =>
      rw [ho] at hs
      simp only [Option.map_some, Option.some.injEq] at hs
      have hx : Hid (s = catB [⟨#[123]⟩, catB (rowP m), ⟨#[125]⟩]) := hs.symm
      have hm : Hid (List.zipWith (memG (txF D)) t.keys t.kids = m.map some) := opt_mem ho
      have hml : Hid (m.length = b.li) := by show _ = _; have := congrArg List.length hm.out; simp at this; have := hkl.out; have := li2.out; omega
      have hlen : Hid ((cat (rowP m)).length + 2 = s.size) := by
        show _ = _
        rw [hx.out, catB_size, cat_cons, cat_cons, cat_cons, cat_nil, List.length_append, List.length_append, List.length_append, bs_len, bs_len, bs_len, catB_size]
        show _ = 1 + (_ + (1 + 0))
        omega
      clear hs hs0 e0 e1 e2 e3 e4 e5 k0 k1 k2 k3 k5 k7 k8 ho hak hai hsz
      go_enter Tryz.func20, Tryz.ntmps20
      go_wp2_with fail
      generalize w.alloc (.cells b.arr 26) = W1 at *
      go_loopw [3, 4] (fun s3 s4 wr => ∃ (i : Nat) (sa : ByteArray), i ≤ b.li ∧ s3 = .string sa ∧ s4 = .int .i64 i ∧ Hid (Below W1.heap.size W1 wr) ∧ Hid (bs sa = cat (rowP (m.take i)))) (fun _ i _ => b.li - (intOf i).toNat)
      case atStart => exact ⟨0, ⟨#[]⟩, Nat.zero_le _, rfl, rfl, Below.refl _ _, rfl⟩
      case round =>
        obtain ⟨i, sa, him, rfl, rfl, hbl, hsa⟩ := hrel
        have X2 := X1.out.kept hbl.out X1.out.lt
        obtain ⟨q0, q1, q2, q3, q4, q5, q6, q7, q8⟩ := X2.fields
        have hpre : Hid (sa.size ≤ (cat (rowP m)).length) := by show _ ≤ _; rw [← bs_len, hsa.out]; exact row_pre m i
        by_cases hlt : i < b.li
        · have hy : (i : Int) < (b.li : Int) := by omega
          have hy0 : (0 : Int) ≤ (i : Int) := by omega
          have hiy : i < t.kids.length := by rw [li2.out]; exact hlt
          have him' : i < m.length := by rw [hml.out]; exact hlt
          obtain ⟨bl, ol, nl, hadr, hcl, hNl, hbl0⟩ := row_el ri.out hbl.out hiy
          obtain ⟨p0, p1, p2, p3, p4, p5, p6, p7, p8⟩ := elem_fields hcl
          have wi : IntKind.i64.wrap ((i : Int) + 1) = (i : Int) + 1 := by rw [IntKind.wrap_i64]; omega
          have hik : i < t.keys.length := by rw [hkl.out]; exact hiy
          have hil : i < b.lk := by rw [← lk2.out]; exact hik
          have hkz : (i : Int) < (b.lk : Int) := by omega
          have hkd : decide (i < b.lk) = true := by simpa using hil
          obtain ⟨bk, ok, nk, hadk, hck, hNk, hbk0⟩ := row_el rk.out hbl.out hik
          obtain ⟨d0, d1, d2, d3, d4, d5, d6, d7, d8⟩ := elem_fields hck
          obtain ⟨hk5, z, hz, hmz⟩ := zip_at hm.out hik hiy him'
          have hks : nk.txt = t.keys[i].txt := by
            cases D with
            | zero => exact hNk.elim
            | succ D => exact hNk.1.2.2.2.2.2
          have kk : Hid (∀ wx, Below W1.heap.size W1 wx → Nd D wx nl t.kids[i] → Calls Tryz.prog 20 #[.agg nl.arr] wx fun e w' => e = .returned (.string z) ∧ Below wx.heap.size wx w') := fun wx _ hn => ih t.kids[i] nl wx z hn (hai'.out _ (List.getElem_mem hiy)).1 (hai'.out _ (List.getElem_mem hiy)).2 hz
          have hNl' : Hid (Nd D wr nl t.kids[i]) := hNl
          have kE := vesc_any nk.txt wr (by rw [hks]; have := (al_txt (hak'.out _ (List.getElem_mem hik)) hk5).1; omega)
          rw [hadr] at q8
          rw [hadk] at q7
          have hnx := row_next (m := m.take i) (x := m[i]) (sa := sa) hsa.out
          rw [← List.take_succ_eq_append_getElem him'] at hnx
          have hnx' : Hid ((m.take i = [] → bs (sa ++ m[i]) = cat (rowP (m.take (i + 1)))) ∧ (m.take i ≠ [] → bs ((sa ++ ⟨#[44]⟩) ++ m[i]) = cat (rowP (m.take (i + 1))))) := hnx
          have hxs : m[i].size ≤ 30000 * 1000000 := by have := cat_mem (mem_row (List.getElem_mem him')); have := hlen.out; have := hss.out; omega
          have hsas : sa.size ≤ 30000 * 1000000 := by have := hpre.out; have := hlen.out; have := hss.out; omega
          rw [← hks] at hmz
          obtain ⟨es, hes⟩ : ∃ es, strOfNums (escA (bs nk.txt)) = es := ⟨_, rfl⟩
          rw [hes] at hmz kE
          have hmb : Hid (bs m[i] = bs ((es ++ ⟨#[58]⟩) ++ z)) := by show _ = _; rw [hmz, catB_bs, cat_cons, cat_cons, cat_cons, cat_nil, bs_app, bs_app, List.append_nil, List.append_assoc]
          have hez : es.size + 1 + z.size = m[i].size := by
            have := congrArg List.length hmb.out
            rw [bs_len, bs_len, sz_app, sz_app] at this
            rw [this]
            rfl
          have z1 : ¬ 9223372036854775807 < sa.size + 1 := by omega
          have z2 : ¬ 9223372036854775807 < es.size + 1 := by omega
          have z3 : ¬ 9223372036854775807 < sa.size + (es.size + 1) := by omega
          have z4 : ¬ 9223372036854775807 < sa.size + (es.size + 1) + z.size := by omega
          have z5 : ¬ 9223372036854775807 < sa.size + 1 + (es.size + 1) := by omega
          have z6 : ¬ 9223372036854775807 < sa.size + 1 + (es.size + 1) + z.size := by omega
          by_cases hi0 : i = 0
          · have gi : decide (0 < i) = false := by simp; omega
            have gj : decide ((0 : Int) < (i : Int)) = false := by simp; omega
            have hr : Hid (bs ((sa ++ (es ++ ⟨#[58]⟩)) ++ z) = cat (rowP (m.take (i + 1)))) := by show _ = _; rw [← hnx'.out.1 (by rw [hi0]; rfl), bs_app sa, hmb.out]; simp only [bs_app, List.append_assoc]
            have HIY : Hid (i < t.kids.length) := hiy
            have HCL : Hid (∀ j, j < 9 → wr.cell? ⟨bl, ol + (i * 9 + j), none⟩ = nl.cells[j]?) := hcl
            have HBL : Hid (bl < wr.heap.size) := Nat.lt_of_lt_of_le hbl0 hbl.out.size
            have HAD : Hid (b.ai = some ⟨bl, ol, none⟩) := hadr
            clear hadr hadk hcl hck hNl hNk hbl0 hbk0 X2 hnx hnx' hsa hi0 hxs hsas hez hmb hmz hes hz hks hk5 f0 f1 f2 f3 f4 f5 f6 f7 f8 p0 p1 p2 p3 p4 p5 p6 p7 p8
            go_wp2_with (first
              | (go_at_call 32; refine kE.mono ?_; rintro e w4 ⟨rfl, hb4⟩; have b4 : Hid (Below W1.heap.size W1 w4) := hbl.out.trans (hb4.mono hbl.out.size); have X4 := X1.out.kept b4.out X1.out.lt; obtain ⟨r0, r1, r2, r3, r4, r5, r6, r7, r8⟩ := X4.fields; obtain ⟨bx, ox, nx, hadx, hcx, hNx, hbx⟩ := row_el ri.out b4.out HIY.out; have kk' := kk.out w4 b4.out (hNl'.out.kept hb4); have hcl4 : Hid (∀ j, j < 9 → w4.cell? ⟨bl, ol + (i * 9 + j), none⟩ = nl.cells[j]?) := (fun j hj => (hb4.cell (p := ⟨bl, ol + (i * 9 + j), none⟩) HBL.out).trans (HCL.out j hj)); obtain ⟨y0, y1, y2, y3, y4, y5, y6, y7, y8⟩ := elem_fields hcl4.out; rw [HAD.out] at r8; clear hb4 hcx hNx hbx hadx)
              | (go_at_call 20; refine kk'.mono ?_; rintro e w5 ⟨rfl, hb5⟩; have b5 : Hid (Below W1.heap.size W1 w5) := b4.out.trans (hb5.mono b4.out.size); clear hb5))
            go_roundw
            case rel => exact ⟨i + 1, (sa ++ (es ++ ⟨#[58]⟩)) ++ z, by omega, rfl, by go_num, b5, hr⟩
            case measure => simp [intOf]; omega
          · have gi : decide (0 < i) = true := by simp; omega
            have gj : decide ((0 : Int) < (i : Int)) = true := by simp; omega
            have hr : Hid (bs (((sa ++ ⟨#[44]⟩) ++ (es ++ ⟨#[58]⟩)) ++ z) = cat (rowP (m.take (i + 1)))) := by show _ = _; rw [← hnx'.out.2 (by intro e; have := congrArg List.length e; rw [List.length_take, List.length_nil] at this; omega), bs_app (sa ++ ⟨#[44]⟩), hmb.out]; simp only [bs_app, List.append_assoc]
            have HIY : Hid (i < t.kids.length) := hiy
            have HCL : Hid (∀ j, j < 9 → wr.cell? ⟨bl, ol + (i * 9 + j), none⟩ = nl.cells[j]?) := hcl
            have HBL : Hid (bl < wr.heap.size) := Nat.lt_of_lt_of_le hbl0 hbl.out.size
            have HAD : Hid (b.ai = some ⟨bl, ol, none⟩) := hadr
            clear hadr hadk hcl hck hNl hNk hbl0 hbk0 X2 hnx hnx' hsa hi0 hxs hsas hez hmb hmz hes hz hks hk5 f0 f1 f2 f3 f4 f5 f6 f7 f8 p0 p1 p2 p3 p4 p5 p6 p7 p8
            go_wp2_with (first
              | (go_at_call 32; refine kE.mono ?_; rintro e w4 ⟨rfl, hb4⟩; have b4 : Hid (Below W1.heap.size W1 w4) := hbl.out.trans (hb4.mono hbl.out.size); have X4 := X1.out.kept b4.out X1.out.lt; obtain ⟨r0, r1, r2, r3, r4, r5, r6, r7, r8⟩ := X4.fields; obtain ⟨bx, ox, nx, hadx, hcx, hNx, hbx⟩ := row_el ri.out b4.out HIY.out; have kk' := kk.out w4 b4.out (hNl'.out.kept hb4); have hcl4 : Hid (∀ j, j < 9 → w4.cell? ⟨bl, ol + (i * 9 + j), none⟩ = nl.cells[j]?) := (fun j hj => (hb4.cell (p := ⟨bl, ol + (i * 9 + j), none⟩) HBL.out).trans (HCL.out j hj)); obtain ⟨y0, y1, y2, y3, y4, y5, y6, y7, y8⟩ := elem_fields hcl4.out; rw [HAD.out] at r8; clear hb4 hcx hNx hbx hadx)
              | (go_at_call 20; refine kk'.mono ?_; rintro e w5 ⟨rfl, hb5⟩; have b5 : Hid (Below W1.heap.size W1 w5) := b4.out.trans (hb5.mono b4.out.size); clear hb5))
            go_roundw
            case rel => exact ⟨i + 1, ((sa ++ ⟨#[44]⟩) ++ (es ++ ⟨#[58]⟩)) ++ z, by omega, rfl, by go_num, b5, hr⟩
            case measure => simp [intOf]; omega
        · have hy : ¬ (i : Int) < (b.li : Int) := by omega
          have hr : Hid ((⟨#[123]⟩ ++ sa) ++ ⟨#[125]⟩ = s) := by
            have := hsa.out
            rw [List.take_of_length_le (by rw [hml.out]; omega)] at this
            show _ = _
            rw [hx.out]
            exact wrap_two 123 125 this
          have hsas : sa.size ≤ 30000 * 1000000 := by have := hpre.out; have := hlen.out; have := hss.out; omega
          have z1 : ¬ 9223372036854775807 < 1 + sa.size := by omega
          have z2 : ¬ 9223372036854775807 < 1 + sa.size + 1 := by omega
          clear X2 hsa hsas f0 f1 f2 f3 f4 f5 f6 f7 f8
          go_wp2_with fail
          go_ret
          exact ⟨by rw [← hr.out]; rfl, B1.out.trans (hbl.out.mono B1.out.size)⟩
  rw [if_neg k8] at hs
  cases hs
theorem textd_all : ∀ D, TextDAt D := by
  intro D
  induction D with
  | zero => intro t b w s h; exact h.elim
  | succ D ih => exact textd_step ih
end Go.Proofs.YtelabgonpmafpaaGreatDoor
