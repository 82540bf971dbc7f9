/-
  The texts of a Map's members: jsay.memberTexts.
  A tree's text: jsay.textOf.
  A tree's text: jsay.textOf, walked.
  A tree's text, or why it has none: jsay.tell, jsay.Print.
  Which trees can be told: the document's told.
  The document's side: a number of 64 bits as a text, and powers.
-/
import Derived.Test.YtelabgonpmafpaaGreatDoorP17
import Derived.Test.YtelabgonpmafpaaGreatDoorP10
import Derived.Test.YtelabgonpmafpaaGreatDoorP11
import Derived.Deep.RegionHeld3
namespace Go.Proofs.YtelabgonpmafpaaGreatDoor
open Go.RowKit
set_option linter.unusedVariables false
theorem zip_take (f : Tr → Tr → Option ByteArray) : ∀ (k l : List Tr) (i : Nat) (hk : i < k.length) (hl : i < l.length), List.zipWith f (k.take (i + 1)) (l.take (i + 1)) = List.zipWith f (k.take i) (l.take i) ++ [f k[i] l[i]] := by
  intro k l i hk hl
  rw [List.take_succ_eq_append_getElem hk, List.take_succ_eq_append_getElem hl, List.zipWith_append (by simp; omega)]
  rfl
theorem strs_three (w : World) (x y z : ByteArray) : Strs (w.alloc (.cells #[.string x, .string y, .string z] 9)) (some ⟨w.heap.size, 0, none⟩) [x, y, z] := strs_row w [x, y, z] (by simp [maxLen])
theorem three_size {x y z : ByteArray} {M : Nat} (h1 : x.size ≤ M) (h2 : y.size ≤ M) (h3 : z.size ≤ M) : ∀ u ∈ [x, y, z], u.size ≤ M := by
  intro u hu
  simp only [List.mem_cons, List.not_mem_nil, or_false] at hu
  rcases hu with rfl | rfl | rfl
  · exact h1
  · exact h2
  · exact h3
set_option maxHeartbeats 2000000 in
set_option maxRecDepth 100000 in
/-- jsay.memberTexts. -/
theorem memb_step {D : Nat} (ih : TextAt D) (a a1 : Option Addr) (n c n1 c1 : Nat) (k l : List Tr) (w : World) (hk : RowN (Nd D w) w a n c k) (hl : RowN (Nd D w) w a1 n1 c1 l) (hkl : n = n1) (hAk : ∀ u ∈ k, alF u = 0) (hA : ∀ u ∈ l, u.All (fun u => alF u = 0)) (hD : ∀ u ∈ l, u.deep ≤ 24) (hS : Tr.sizes l ≤ 1000000) (hT : Tab w.heap.size w) :
    Calls Tryz.prog 53 #[.slice a n c, .slice a1 n1 c1] w fun e w' => KidsR (optAll (List.zipWith (memF (txT D)) k l)) w.heap.size e w' ∧ Below w.heap.size w w' := by
  subst hkl
  have hx : Hid (k.length = n ∧ l.length = n) := ⟨hk.1, hl.1⟩
  have mk := hk.2.1.1
  have mk' := hk.2.1.2.1
  have ml := hl.2.1.1
  have ml' := hl.2.1.2.1
  unfold maxLen at mk' ml'
  have hRk : Hid (RowN (Nd D w) w a n c k) := hk
  have hR : Hid (RowN (Nd D w) w a1 n c1 l) := hl
  have hAD : Hid ((∀ u ∈ l, u.All (fun u => alF u = 0)) ∧ (∀ u ∈ l, u.deep ≤ 24) ∧ (∀ u ∈ k, alF u = 0)) := ⟨hA, hD, hAk⟩
  have hn' : Hid (l.length ≤ 1000000) := Nat.le_trans (Tr.length_le l) hS
  have hS' : Hid (Tr.sizes l ≤ 1000000) := hS
  have hT' : Hid (Tab w.heap.size w) := hT
  clear hk hl hA hD hAk hS hT
  go_enter Tryz.func53, Tryz.ntmps53
  go_wp2
  go_loopw [6, 7, 8, 9, 10, 13] (fun s6 _ _ _ _ s13 wr => ∃ (i : Nat) (v : Value) (m : List ByteArray), i ≤ n ∧ s6 = v ∧ s13 = .int .i64 i ∧ Hid (Below w.heap.size w wr) ∧ Hid (OwnsZ wr w.heap.size v m) ∧ Hid (List.zipWith (memF (txT D)) (k.take i) (l.take i) = m.map some)) (fun _ _ _ _ _ i _ => n - (intOf i).toNat)
  case atStart => exact ⟨0, _, [], Nat.zero_le _, rfl, rfl, Below.refl _ _, ownsZ_nil _ _, rfl⟩
  case round =>
    obtain ⟨i, v, m, him, rfl, rfl, hbl, hO, hM⟩ := hrel
    by_cases hlt : i < n
    · have hz : (i : Int) < (n : Int) := by omega
      have hiy : i < k.length := by rw [hx.out.1]; exact hlt
      have hix : i < l.length := by rw [hx.out.2]; exact hlt
      obtain ⟨bk, ok, nk, rfl, hck, hNk, hbk⟩ := row_el hRk.out hbl.out hiy
      obtain ⟨f0, f1, f2, f3, f4, f5, f6, f7, f8⟩ := elem_fields hck
      have hal := alloc_below wr (.cells nk.arr 26)
      have hBw : Hid (Below w.heap.size w (wr.alloc (.cells nk.arr 26))) := hbl.out.trans (hal.mono hbl.out.size)
      have hB : Hid (Below wr.heap.size wr (wr.alloc (.cells nk.arr 26))) := hal
      obtain ⟨bl, ol, nl, rfl, hcl, hNl, hbl0⟩ := row_el hR.out hBw.out hix
      obtain ⟨p0, p1, p2, p3, p4, p5, p6, p7, p8⟩ := elem_fields hcl
      rw [Nb.arr] at p0 p1 p2 p3 p4 p5 p6 p7 p8
      have kk := ih l[i] nl (wr.alloc (.cells nk.arr 26)) hNl (hAD.out.1 _ (List.getElem_mem hix)) (hAD.out.2.1 _ (List.getElem_mem hix)) (Nat.le_trans (Tr.size_le (List.getElem_mem hix)) hS'.out) ((hT'.out.on hBw.out).up hBw.out.size)
      have wi : IntKind.i64.wrap ((i : Int) + 1) = (i : Int) + 1 := by rw [IntKind.wrap_i64]; omega
      have hZ : Hid (List.zipWith (memF (txT D)) (k.take (i + 1)) (l.take (i + 1)) = List.zipWith (memF (txT D)) (k.take i) (l.take i) ++ [memF (txT D) k[i] l[i]]) := zip_take _ k l i hiy hix
      have hTN : Hid (memF (txT D) k[i] l[i] = none → optAll (List.zipWith (memF (txT D)) k l) = none) := fun h => opt_none i (by
        rw [List.getElem?_zipWith, List.getElem?_eq_getElem hiy, List.getElem?_eq_getElem hix]
        simp [h])
      have hks : nk.kind = k[i].kind ∧ nk.txt = k[i].txt := by
        cases D with
        | zero => exact hNk.elim
        | succ D => exact ⟨hNk.1.1, hNk.1.2.2.2.2.2⟩
      have hal0 : Hid (k[i].kind = 5 → k[i].txt.size ≤ 4096) := fun h => (al_txt (hAD.out.2.2 _ (List.getElem_mem hiy)) h).1
      have hml : Hid (m.length ≤ 1000000) := by show _ ≤ _; have := congrArg List.length hM.out; simp at this; have := hn'.out; omega
      have hsz : Hid (∀ s, txT D l[i] = some s → s.size ≤ 600000) := fun s h => by
        have := txT_size D l[i] s (hAD.out.1 _ (List.getElem_mem hix)) h
        have := hAD.out.2.1 _ (List.getElem_mem hix)
        omega
      have hmf : Hid (∀ s, nk.kind = 5 → txT D l[i] = some s → memF (txT D) k[i] l[i] = some (jnB [strOfNums (escA (bs nk.txt)), ⟨#[58]⟩, s])) := fun s h5 h => by
        unfold memF
        rw [← hks.1, if_pos h5, h, ← hks.2]
        rfl
      have hmn : Hid (nk.kind ≠ 5 ∨ txT D l[i] = none → memF (txT D) k[i] l[i] = none) := fun h => by
        unfold memF
        rw [← hks.1]
        rcases h with h | h
        · rw [if_neg h]
        · rw [h]; split <;> rfl
      rw [← hks.1, ← hks.2] at hal0
      have bx := (nbox_new wr nk).fields
      obtain ⟨q0, q1, q2, q3, q4, q5, q6, q7, q8⟩ := bx
      have X1 : Hid (NBox (wr.alloc (.cells nk.arr 26)) wr.heap.size nk) := nbox_new wr nk
      generalize memF (txT D) k[i] l[i] = mf at *
      generalize txT D l[i] = tx at *
      clear hck hNk hbk hcl hNl hbl0 hal hks
      go_wp2_with fail
      refine kk.mono ?_
      rintro e w2 ⟨⟨s, okv, rfl, hs⟩, hb2⟩
      have b2 : Hid (Below w.heap.size w w2) := hBw.out.trans (hb2.mono hBw.out.size)
      have O2 : Hid (OwnsZ w2 w.heap.size u6 m) := (hO.out.below hB.out).below (hb2.mono (Nat.le_refl _))
      have X2 : Hid (NBox w2 wr.heap.size nk) := X1.out.kept hb2 X1.out.lt
      obtain ⟨d0, d1, d2, d3, d4, d5, d6, d7, d8⟩ := X2.out.fields
      clear hb2 kk hO hB hBw X1 f0 f1 f2 f3 f4 f5 f6 f7 f8 p0 p1 p2 p3 p4 p5 p6 p7 p8 q0 q1 q2 q3 q4 q5 q6 q7 q8
      by_cases h5 : okv = true ∧ nk.kind = 5
      · obtain ⟨rfl, h5⟩ := h5
        have g5 : (nk.kind != 5) = false := by simp [h5]
        have ht := hs.out.1 rfl
        have hs1 : Hid (mf = some (jnB [strOfNums (escA (bs nk.txt)), ⟨#[58]⟩, s])) := hmf.out s h5 ht
        have hsz1 : Hid (s.size ≤ 600000 ∧ nk.txt.size ≤ 4096) := ⟨hsz.out s ht, hal0.out h5⟩
        have kE := escape_any nk.txt w2 (by have := hsz1.out.2; omega)
        have hes : Hid ((strOfNums (escA (bs nk.txt))).size ≤ 600000) := by show _ ≤ _; have := esc_size nk.txt; have := hsz1.out.2; omega
        generalize strOfNums (escA (bs nk.txt)) = es at *
        have hP3 : Hid (∀ u ∈ [es, ⟨#[58]⟩, s], u.size ≤ 1000000) := three_size (Nat.le_trans hes.out (by omega)) (by show 1 ≤ _; omega) (Nat.le_trans hsz1.out.1 (by omega))
        clear hs hsz hmf hmn hal0 ht h5 hTN
        go_wp2_with (first
          | (go_at_call 50; refine kE.mono ?_; rintro e w3 ⟨rfl, hb3⟩; have b3 : Hid (Below w.heap.size w w3) := b2.out.trans (hb3.mono b2.out.size); have O3 : Hid (OwnsZ w3 w.heap.size u6 m) := O2.out.below hb3; have kJ := join_any (some ⟨w3.heap.size, 0, none⟩) 3 3 [es, ⟨#[58]⟩, s] (w3.alloc (.cells #[.string es, .string ⟨#[58]⟩, .string s] 9)) rfl (strs_three w3 _ _ _) (Nat.le_refl _) (by omega) hP3.out; clear hb3 O2)
          | (go_at_call 47; refine kJ.mono ?_; rintro e w4 ⟨rfl, hb4⟩; have A4 := alloc_below w3 (.cells #[.string es, .string ⟨#[58]⟩, .string s] 9); have b4 : Hid (Below w.heap.size w w4) := (b3.out.trans (A4.mono b3.out.size)).trans (hb4.mono (Nat.le_trans b3.out.size A4.size)); have O4 : Hid (OwnsZ w4 w.heap.size u6 m) := (O3.out.below A4).below hb4; clear hb4 O3 A4 kJ)
          | (at_builtin; guard_hyp O4; refine wpList_append_strs rfl _ _ rfl w.heap.size u6 m [jnB [es, ⟨#[58]⟩, s]] rfl (O4.out.alloc _) (some ⟨w4.heap.size, 0, none⟩) 1 1 rfl rfl (by simp) (one_str w4 _) (by have := hml.out; simp; omega) (Nat.le_trans b4.out.size (by simp)) ?_; intro v5 w5 ho5 hg5; have b5 : Hid (Below w.heap.size w w5) := grownZ_below (b4.out.trans ((alloc_below w4 _).mono b4.out.size)) (O4.out.alloc _) hg5 (Nat.le_trans b4.out.size (by simp)); have O5 : Hid (OwnsZ w5 w.heap.size v5 (m ++ [jnB [es, ⟨#[58]⟩, s]])) := ho5; clear ho5 hg5 O4))
        go_roundw
        case rel => exact ⟨i + 1, v5, m ++ [jnB [es, ⟨#[58]⟩, s]], by omega, rfl, by go_num, b5, O5, by show _ = _; rw [hZ.out, hM.out, hs1.out]; simp⟩
        case measure => simp [intOf]; omega
      · have hmf0 : Hid (optAll (List.zipWith (memF (txT D)) k l) = none) := hTN.out (hmn.out (by
          by_cases q : nk.kind = 5
          · refine .inr (hs.out.2 ?_)
            cases okv with
            | true => exact absurd ⟨rfl, q⟩ h5
            | false => rfl
          · exact .inl q))
        clear hTN hmn hmf hsz hal0 hs
        cases okv with
        | false =>
          clear h5
          go_wp2_with fail
          refine bodyPost_ret (v := .tuple #[.slice none 0 0, .bool false]) (by simp [results, Tryz.results53, go_sem, *]) rfl ⟨⟨_, _, rfl, .inr ⟨rfl, rfl, hmf0.out⟩⟩, b2.out⟩
        | true =>
          have g5 : (nk.kind != 5) = true := by simp; intro h; exact h5 ⟨rfl, h⟩
          clear h5
          go_wp2_with fail
          refine bodyPost_ret (v := .tuple #[.slice none 0 0, .bool false]) (by simp [results, Tryz.results53, go_sem, *]) rfl ⟨⟨_, _, rfl, .inr ⟨rfl, rfl, hmf0.out⟩⟩, b2.out⟩
    · have hz : ¬ (i : Int) < (n : Int) := by omega
      have hM' : Hid (optAll (List.zipWith (memF (txT D)) k l) = some m) := by
        have := hM.out
        rw [List.take_of_length_le (by rw [hx.out.1]; omega), List.take_of_length_le (by rw [hx.out.2]; omega)] at this
        show _ = _
        rw [this]
        exact opt_some m
      clear hM
      go_wp2_with fail
      refine bodyPost_ret (v := .tuple #[u6, .bool true]) (by simp [results, Tryz.results53, go_sem, *]) rfl ⟨⟨_, _, rfl, .inl ⟨rfl, m, hM'.out, hO.out⟩⟩, hbl.out⟩
end Go.Proofs.YtelabgonpmafpaaGreatDoor
namespace Go.Proofs.YtelabgonpmafpaaGreatDoor
open Go.RowKit
set_option linter.unusedVariables false
theorem tx_null {d : Nat} {t : Tr} (h : t.kind = 0) : txT (d + 1) t = some sNull := by rw [txT, if_pos h]
theorem tx_bool {d : Nat} {t : Tr} (h : t.kind = 1) : txT (d + 1) t = some (if t.num = 1 then sTrue else sFalse) := by rw [txT, if_neg (by omega), if_pos h]
theorem tx_int {d : Nat} {t : Tr} (h : t.kind = 2) : txT (d + 1) t = some (jnB [sign t.neg, t.dig]) := by rw [txT, if_neg (by omega), if_neg (by omega), if_pos h]
theorem tx_dec {d : Nat} {t : Tr} (h : t.kind = 3) : txT (d + 1) t = some (textA t.neg t.dig t.exp) := by rw [txT, if_neg (by omega), if_neg (by omega), if_neg (by omega), if_pos h]
theorem tx_text {d : Nat} {t : Tr} (h : t.kind = 5) : txT (d + 1) t = some (strOfNums (escA (bs t.txt))) := by rw [txT, if_neg (by omega), if_neg (by omega), if_neg (by omega), if_neg (by omega), if_pos h]
theorem tx_arr {d : Nat} {t : Tr} (h : t.kind = 7) : txT (d + 1) t = (optAll (t.kids.map (txT d))).map fun l => jnB [⟨#[91]⟩, jnB (rowP l), ⟨#[93]⟩] := by rw [txT, if_neg (by omega), if_neg (by omega), if_neg (by omega), if_neg (by omega), if_neg (by omega), if_pos h]
theorem tx_map {d : Nat} {t : Tr} (h : t.kind = 8) : txT (d + 1) t = (optAll (List.zipWith (memF (txT d)) t.keys t.kids)).map fun l => jnB [⟨#[123]⟩, jnB (rowP l), ⟨#[125]⟩] := by rw [txT, if_neg (by omega), if_neg (by omega), if_neg (by omega), if_neg (by omega), if_neg (by omega), if_neg (by omega), if_pos h]
theorem tx_else {d : Nat} {t : Tr} (h : t.kind ≠ 0 ∧ t.kind ≠ 1 ∧ t.kind ≠ 2 ∧ t.kind ≠ 3 ∧ t.kind ≠ 5 ∧ t.kind ≠ 7 ∧ t.kind ≠ 8) : txT (d + 1) t = none := by
  rw [txT, if_neg h.1, if_neg h.2.1, if_neg h.2.2.1, if_neg h.2.2.2.1, if_neg h.2.2.2.2.1, if_neg h.2.2.2.2.2.1, if_neg h.2.2.2.2.2.2]
theorem bool_any (y : Bool) (w : World) : Calls Tryz.prog 46 #[.bool y] w fun e w' => e = .returned (.string (if y = true then sTrue else sFalse)) ∧ w' = w := by
  cases y with
  | true =>
    go_enter Tryz.func46, Tryz.ntmps46
    go_wp2
    go_ret
    exact ⟨rfl, rfl⟩
  | false =>
    go_enter Tryz.func46, Tryz.ntmps46
    go_wp2
    go_ret
    exact ⟨rfl, rfl⟩
theorem sign_any (y : Bool) (w : World) : Calls Tryz.prog 48 #[.bool y] w fun e w' => e = .returned (.string (sign y)) ∧ w' = w := by
  cases y with
  | true =>
    go_enter Tryz.func48, Tryz.ntmps48
    go_wp2
    go_ret
    exact ⟨rfl, rfl⟩
  | false =>
    go_enter Tryz.func48, Tryz.ntmps48
    go_wp2
    go_ret
    exact ⟨rfl, rfl⟩
theorem strs_two (w : World) (x y : ByteArray) : Strs (w.alloc (.cells #[.string x, .string y] 9)) (some ⟨w.heap.size, 0, none⟩) [x, y] := strs_row w [x, y] (by simp [maxLen])
theorem two_size {x y : ByteArray} {M : Nat} (h1 : x.size ≤ M) (h2 : y.size ≤ M) : ∀ u ∈ [x, y], u.size ≤ M := by
  intro u hu
  simp only [List.mem_cons, List.not_mem_nil, or_false] at hu
  rcases hu with rfl | rfl
  · exact h1
  · exact h2
end Go.Proofs.YtelabgonpmafpaaGreatDoor
namespace Go.Proofs.YtelabgonpmafpaaGreatDoor
open Go.RowKit
set_option linter.unusedVariables false
theorem strs_drew {w : World} {a : Option Addr} {l : List ByteArray} (h : Strs w a l) : Strs w.drew a l := h
theorem deep_kids {t : Tr} (h : t.deep ≤ 24) : ∀ u ∈ t.kids, u.deep ≤ 24 := fun u hu => by have := Tr.kid_deep hu; omega
set_option maxHeartbeats 4000000 in
set_option maxRecDepth 100000 in
theorem text_step {D : Nat} (ih : TextAt D) : TextAt (D + 1) := by
  intro t b w hN hA hD hS hT
  obtain ⟨h0, hak, hai⟩ := (Tr.all_eq _ t).1 hA
  have e0 : b.kind = t.kind := hN.1.1
  have e1 : b.num = t.num := hN.1.2.1
  have e2 : b.neg = t.neg := hN.1.2.2.1
  have e3 : b.dig = t.dig := hN.1.2.2.2.1
  have e4 : b.exp = t.exp := hN.1.2.2.2.2.1
  have e5 : b.txt = t.txt := hN.1.2.2.2.2.2
  have hal := alloc_below w (.cells b.arr 26)
  have B1 : Hid (Below w.heap.size w (w.alloc (.cells b.arr 26))) := hal
  have rk := (hN.2.2.2.1).kept (R := Nd D (w.alloc (.cells b.arr 26))) hal (fun _ _ _ q => q.kept hal)
  have ri := (hN.2.2.2.2).kept (R := Nd D (w.alloc (.cells b.arr 26))) hal (fun _ _ _ q => q.kept hal)
  have T1 : Hid (Tab (w.alloc (.cells b.arr 26)).heap.size (w.alloc (.cells b.arr 26))) := (hT.on hal).up hal.size
  have LP : Hid (w.heap.size < (w.alloc (.cells b.arr 26)).heap.size) := by show _ < _; simp
  obtain ⟨f0, f1, f2, f3, f4, f5, f6, f7, f8⟩ := (nbox_new w b).fields
  have hsz := Tr.size_eq t
  clear hN hal hT
  by_cases k0 : t.kind = 0
  · have hk : b.kind = 0 := by rw [e0, k0]
    have g0 : (b.kind == 0) = true := by rw [hk]; rfl
    have g1 : (b.kind == 1) = false := by rw [hk]; rfl
    have g2 : (b.kind == 2) = false := by rw [hk]; rfl
    have g3 : (b.kind == 3) = false := by rw [hk]; rfl
    have g5 : (b.kind == 5) = false := by rw [hk]; rfl
    have g7 : (b.kind == 7) = false := by rw [hk]; rfl
    have g8 : (b.kind == 8) = false := by rw [hk]; rfl
    have hx : Hid (txT (D + 1) t = some sNull) := tx_null k0
    clear hk e0 e1 e2 e3 e4 e5 rk ri k0
    go_enter Tryz.func26, Tryz.ntmps26
    go_wp2_with fail
    refine bodyPost_ret (v := .tuple #[.string ⟨#[110, 117, 108, 108]⟩, .bool true]) (by simp [results, Tryz.results26, go_sem, *]) rfl ⟨⟨_, _, rfl, fun _ => hx.out, fun h => by cases h⟩, B1.out⟩
  by_cases k1 : t.kind = 1
  · have hk : b.kind = 1 := by rw [e0, k1]
    have g0 : (b.kind == 0) = false := by rw [hk]; rfl
    have g1 : (b.kind == 1) = true := by rw [hk]; rfl
    have g2 : (b.kind == 2) = false := by rw [hk]; rfl
    have g3 : (b.kind == 3) = false := by rw [hk]; rfl
    have g5 : (b.kind == 5) = false := by rw [hk]; rfl
    have g7 : (b.kind == 7) = false := by rw [hk]; rfl
    have g8 : (b.kind == 8) = false := by rw [hk]; rfl
    have hx : Hid (txT (D + 1) t = some (if (b.num == 1) = true then sTrue else sFalse)) := by show _ = _; rw [tx_bool k1, e1]; simp
    have kB : Hid (∀ wx, Calls Tryz.prog 46 #[.bool (b.num == 1)] wx fun e w' => e = .returned (.string (if (b.num == 1) = true then sTrue else sFalse)) ∧ w' = wx) := fun wx => bool_any _ wx
    generalize (if (b.num == 1) = true then sTrue else sFalse) = sb at *
    clear hk e0 e1 e2 e3 e4 e5 rk ri k0 k1
    go_enter Tryz.func26, Tryz.ntmps26
    go_wp2_with (go_at_call 46; refine (kB.out _).mono ?_; rintro e w2 ⟨rfl, rfl⟩)
    refine bodyPost_ret (v := .tuple #[.string sb, .bool true]) (by simp [results, Tryz.results26, go_sem, *]) rfl ⟨⟨_, _, rfl, fun _ => hx.out, fun h => by cases h⟩, B1.out⟩
  by_cases k2 : t.kind = 2
  · have hk : b.kind = 2 := by rw [e0, k2]
    have g0 : (b.kind == 0) = false := by rw [hk]; rfl
    have g1 : (b.kind == 1) = false := by rw [hk]; rfl
    have g2 : (b.kind == 2) = true := by rw [hk]; rfl
    have g3 : (b.kind == 3) = false := by rw [hk]; rfl
    have g5 : (b.kind == 5) = false := by rw [hk]; rfl
    have g7 : (b.kind == 7) = false := by rw [hk]; rfl
    have g8 : (b.kind == 8) = false := by rw [hk]; rfl
    have hx : Hid (txT (D + 1) t = some (jnB [sign b.neg, b.dig])) := by show _ = _; rw [tx_int k2, e2, e3]
    have hm : Hid (∀ u ∈ [sign b.neg, b.dig], u.size ≤ 1000000) := two_size (Nat.le_trans (sign_size _) (by omega)) (by rw [e3]; exact Nat.le_trans (al_dig h0 k2).1 (by omega))
    have kS : Hid (∀ wx, Calls Tryz.prog 48 #[.bool b.neg] wx fun e w' => e = .returned (.string (sign b.neg)) ∧ w' = wx) := fun wx => sign_any b.neg wx
    have kJ : Hid (∀ q wx, Strs wx (some ⟨q, 0, none⟩) [sign b.neg, b.dig] → Calls Tryz.prog 47 #[.slice (some ⟨q, 0, none⟩) 2 2] wx fun e w' => e = .returned (.string (jnB [sign b.neg, b.dig])) ∧ Below wx.heap.size wx w') := fun q wx hs => join_any _ 2 2 [sign b.neg, b.dig] wx rfl hs (Nat.le_refl _) (by omega) hm.out
    generalize sign b.neg = sg at *
    clear hm
    clear hk e0 e1 e2 e3 e4 e5 rk ri k0 k1 k2
    go_enter Tryz.func26, Tryz.ntmps26
    go_wp2_with fail
    have PB : Hid (∀ w', Below (w.alloc (.cells b.arr 26)).heap.size (w.alloc (.cells b.arr 26)) w' → Below w.heap.size w w') := fun w' h => B1.out.trans (h.mono B1.out.size)
    generalize w.alloc (.cells b.arr 26) = W1 at *
    have S1 : Hid (W1.cell? ⟨w.heap.size, 2, none⟩ = some (.bool b.neg) ∧ W1.cell? ⟨w.heap.size, 3, none⟩ = some (.string b.dig)) := ⟨f2, f3⟩
    have S2 : Hid (∀ w', Below W1.heap.size W1 w' → w'.cell? ⟨w.heap.size, 2, none⟩ = some (.bool b.neg) ∧ w'.cell? ⟨w.heap.size, 3, none⟩ = some (.string b.dig)) := fun w' h => ⟨(h.cell (p := ⟨w.heap.size, 2, none⟩) LP.out).trans f2, (h.cell (p := ⟨w.heap.size, 3, none⟩) LP.out).trans f3⟩
    have A2 : Hid (Below W1.heap.size W1 (W1.alloc (.cells #[.string sg, .string b.dig] 9))) := alloc_below W1 _
    have A3 : Hid (Below W1.heap.size W1 (W1.alloc (.cells #[.string sg, .string b.dig] 9)).drew) := (alloc_below W1 _).drew
    have z2 : Hid (Strs (W1.alloc (.cells #[.string sg, .string b.dig] 9)) (some ⟨W1.heap.size, 0, none⟩) [sg, b.dig]) := strs_two W1 sg b.dig
    clear f0 f1 f2 f3 f4 f5 f6 f7 f8
    go_region_held3 (fun wx => wx.cell? ⟨w.heap.size, 2, none⟩ = some (.bool b.neg) ∧ wx.cell? ⟨w.heap.size, 3, none⟩ = some (.string b.dig)) (first | exact S1.out | exact S2.out _ A3.out | exact S2.out _ A2.out | exact S2.out _ B4.out) (first
      | (go_at_call 48; refine (kS.out _).mono ?_; rintro e w2 ⟨rfl, rfl⟩; clear kS)
      | (go_at_call 47; refine (kJ.out _ _ (strs_drew z2.out)).mono ?_; rintro e w4 ⟨rfl, hb4⟩; have B4 : Hid (Below W1.heap.size W1 w4) := A2.out.trans (Below.mono ⟨hb4.os, hb4.tape, hb4.output, hb4.size, hb4.block⟩ A2.out.size); clear hb4))
    go_wp2_with fail
    refine bodyPost_ret (v := .tuple #[.string (jnB [sg, b.dig]), .bool true]) (by simp [results, Tryz.results26, go_sem, *]) rfl ⟨⟨_, _, rfl, fun _ => hx.out, fun h => by cases h⟩, PB.out _ B4.out⟩
  by_cases k3 : t.kind = 3
  · have hk : b.kind = 3 := by rw [e0, k3]
    have g0 : (b.kind == 0) = false := by rw [hk]; rfl
    have g1 : (b.kind == 1) = false := by rw [hk]; rfl
    have g2 : (b.kind == 2) = false := by rw [hk]; rfl
    have g3 : (b.kind == 3) = true := by rw [hk]; rfl
    have g5 : (b.kind == 5) = false := by rw [hk]; rfl
    have g7 : (b.kind == 7) = false := by rw [hk]; rfl
    have g8 : (b.kind == 8) = false := by rw [hk]; rfl
    have hx : Hid (txT (D + 1) t = some (textA b.neg b.dig b.exp)) := by show _ = _; rw [tx_dec k3, e2, e3, e4]
    have kT := text_any b.neg b.dig b.exp (w.alloc (.cells b.arr 26)) T1.out
    generalize textA b.neg b.dig b.exp = sx at *
    clear hk e0 e1 e2 e3 e4 e5 rk ri k0 k1 k2 k3
    go_enter Tryz.func26, Tryz.ntmps26
    go_wp2_with (go_at_call 49; refine kT.mono ?_; rintro e w2 ⟨rfl, hb2⟩)
    refine bodyPost_ret (v := .tuple #[.string sx, .bool true]) (by simp [results, Tryz.results26, go_sem, *]) rfl ⟨⟨_, _, rfl, fun _ => hx.out, fun h => by cases h⟩, B1.out.trans (hb2.mono B1.out.size)⟩
  by_cases k5 : t.kind = 5
  · have hk : b.kind = 5 := by rw [e0, k5]
    have g0 : (b.kind == 0) = false := by rw [hk]; rfl
    have g1 : (b.kind == 1) = false := by rw [hk]; rfl
    have g2 : (b.kind == 2) = false := by rw [hk]; rfl
    have g3 : (b.kind == 3) = false := by rw [hk]; rfl
    have g5 : (b.kind == 5) = true := by rw [hk]; rfl
    have g7 : (b.kind == 7) = false := by rw [hk]; rfl
    have g8 : (b.kind == 8) = false := by rw [hk]; rfl
    have hx : Hid (txT (D + 1) t = some (strOfNums (escA (bs b.txt)))) := by show _ = _; rw [tx_text k5, e5]
    have kE := escape_any b.txt (w.alloc (.cells b.arr 26)) (by rw [e5]; have := (al_txt h0 k5).1; omega)
    generalize strOfNums (escA (bs b.txt)) = sx at *
    clear hk e0 e1 e2 e3 e4 e5 rk ri k0 k1 k2 k3 k5
    go_enter Tryz.func26, Tryz.ntmps26
    go_wp2_with (go_at_call 50; refine kE.mono ?_; rintro e w2 ⟨rfl, hb2⟩)
    refine bodyPost_ret (v := .tuple #[.string sx, .bool true]) (by simp [results, Tryz.results26, go_sem, *]) rfl ⟨⟨_, _, rfl, fun _ => hx.out, fun h => by cases h⟩, B1.out.trans (hb2.mono B1.out.size)⟩
  by_cases k7 : t.kind = 7
  · have hk : b.kind = 7 := by rw [e0, k7]
    have g0 : (b.kind == 0) = false := by rw [hk]; rfl
    have g1 : (b.kind == 1) = false := by rw [hk]; rfl
    have g2 : (b.kind == 2) = false := by rw [hk]; rfl
    have g3 : (b.kind == 3) = false := by rw [hk]; rfl
    have g5 : (b.kind == 5) = false := by rw [hk]; rfl
    have g7 : (b.kind == 7) = true := by rw [hk]; rfl
    have g8 : (b.kind == 8) = false := by rw [hk]; rfl
    have hx : Hid (txT (D + 1) t = (optAll (t.kids.map (txT D))).map fun l => jnB [⟨#[91]⟩, jnB (rowP l), ⟨#[93]⟩]) := tx_arr k7
    have hms : ∀ m, optAll (t.kids.map (txT D)) = some m → ∀ x ∈ m, x.size ≤ 900000 := fun m hm x hx => by
      have hx' : some x ∈ t.kids.map (txT D) := by rw [opt_mem hm]; exact List.mem_map_of_mem hx
      obtain ⟨u, hu, hx'⟩ := List.mem_map.1 hx'
      have h1 := txT_size D u x (hai u hu) hx'
      have h2 := deep_kids hD u hu
      omega
    have hlen : Hid (∀ m, optAll (t.kids.map (txT D)) = some m → m.length ≤ 1000000) := fun m hm => by
      have := congrArg List.length (opt_mem hm)
      simp at this
      have := Tr.length_le t.kids
      omega
    have kk := kids_step ih b.ai b.li b.ci t.kids (w.alloc (.cells b.arr 26)) ri hai (deep_kids hD) (by omega) T1.out
    have hsz2 : Hid (∀ m, optAll (t.kids.map (txT D)) = some m → ∀ x ∈ m, x.size ≤ 900000) := hms
    have kR : Hid (∀ m a n c wx, m.length = n → Strs wx a m → n ≤ c → c ≤ 9223372036854775807 → n ≤ 1000000 → (∀ x ∈ m, x.size ≤ 900000) → Calls Tryz.prog 52 #[.slice a n c] wx fun e w' => e = .returned (.string (jnB (rowP m))) ∧ Below wx.heap.size wx w') := fun m a n c wx h1 h2 h3 h4 h5 h6 => row_any a n c m wx h1 h2 h3 h4 h5 (fun x hx => Nat.le_trans (h6 x hx) (by omega))
    have kJ : Hid (∀ m wx, (∀ x ∈ m, x.size ≤ 900000) → Calls Tryz.prog 47 #[.slice (some ⟨wx.heap.size, 0, none⟩) 3 3] (wx.alloc (.cells #[.string ⟨#[91]⟩, .string (jnB (rowP m)), .string ⟨#[93]⟩] 9)) fun e w' => e = .returned (.string (jnB [⟨#[91]⟩, jnB (rowP m), ⟨#[93]⟩])) ∧ Below wx.heap.size wx w') := fun m wx hm => (join_any _ 3 3 [⟨#[91]⟩, jnB (rowP m), ⟨#[93]⟩] _ rfl (strs_three wx _ _ _) (Nat.le_refl _) (by omega) (three_size (by show 1 ≤ _; omega) (Nat.le_trans (jnB_size _ 900000 (fun x hx => by rcases rowP_mem hx with h | rfl; exact hm x h; show 1 ≤ _; omega)) (by omega)) (by show 1 ≤ _; omega))).mono fun e w' ⟨h1, h2⟩ => ⟨h1, (alloc_below wx _).trans (h2.mono (alloc_below wx _).size)⟩
    clear hms
    clear hk e0 e1 e2 e3 e4 e5 rk ri hai hak hA k0 k1 k2 k3 k5 k7
    go_enter Tryz.func26, Tryz.ntmps26
    go_wp2_with fail
    refine kk.mono ?_
    rintro e w2 ⟨⟨v, okv, rfl, hv⟩, hb2⟩
    have b2 : Hid (Below w.heap.size w w2) := B1.out.trans (hb2.mono B1.out.size)
    clear kk hb2
    rcases hv.out with ⟨rfl, m, hm, hO⟩ | ⟨rfl, rfl, hm⟩
    · obtain ⟨a2, n2, c2, rfl, hl2, _, hc2, hm2, hs2⟩ := hO.form
      have hM := hsz2.out m hm
      have kr := kR.out m a2 n2 c2 w2 hl2.out hs2.out hc2 hm2 (by rw [← hl2.out]; exact hlen.out m hm) hM
      have hx2 : Hid (txT (D + 1) t = some (jnB [⟨#[91]⟩, jnB (rowP m), ⟨#[93]⟩])) := hx.out.trans (by rw [hm]; rfl)
      have kj : Hid (∀ wx, Calls Tryz.prog 47 #[.slice (some ⟨wx.heap.size, 0, none⟩) 3 3] (wx.alloc (.cells #[.string ⟨#[91]⟩, .string (jnB (rowP m)), .string ⟨#[93]⟩] 9)) fun e w' => e = .returned (.string (jnB [⟨#[91]⟩, jnB (rowP m), ⟨#[93]⟩])) ∧ Below wx.heap.size wx w') := fun wx => kJ.out m wx hM
      generalize jnB [⟨#[91]⟩, jnB (rowP m), ⟨#[93]⟩] = R at *
      generalize jnB (rowP m) = rw0 at *
      clear hO hl2 hs2 hM hv hm hx kR kJ hsz2 hlen
      go_wp2_with (first
        | (go_at_call 52; refine kr.mono ?_; rintro e w3 ⟨rfl, hb3⟩; have b3 : Hid (Below w.heap.size w w3) := b2.out.trans (hb3.mono b2.out.size); clear hb3)
        | (go_at_call 47; refine (kj.out w3).mono ?_; rintro e w4 ⟨rfl, hb4⟩))
      refine bodyPost_ret (v := .tuple #[.string R, .bool true]) (by simp [results, Tryz.results26, go_sem, *]) rfl ⟨⟨_, _, rfl, fun _ => hx2.out, fun h => by cases h⟩, b3.out.trans (hb4.mono b3.out.size)⟩
    · have kr := kR.out [] none 0 0 w2 rfl ⟨by simp [maxLen], .inl rfl⟩ (Nat.le_refl _) (by omega) (by omega) (by simp)
      have hx2 : Hid (txT (D + 1) t = none) := hx.out.trans (by rw [hm]; rfl)
      have kj : Hid (∀ wx, Calls Tryz.prog 47 #[.slice (some ⟨wx.heap.size, 0, none⟩) 3 3] (wx.alloc (.cells #[.string ⟨#[91]⟩, .string (jnB (rowP [])), .string ⟨#[93]⟩] 9)) fun e w' => e = .returned (.string (jnB [⟨#[91]⟩, jnB (rowP []), ⟨#[93]⟩])) ∧ Below wx.heap.size wx w') := fun wx => kJ.out [] wx (by simp)
      generalize jnB [⟨#[91]⟩, jnB (rowP []), ⟨#[93]⟩] = R at *
      generalize jnB (rowP []) = rw0 at *
      clear hv hm hx kR kJ hsz2 hlen
      go_wp2_with (first
        | (go_at_call 52; refine kr.mono ?_; rintro e w3 ⟨rfl, hb3⟩; have b3 : Hid (Below w.heap.size w w3) := b2.out.trans (hb3.mono b2.out.size); clear hb3)
        | (go_at_call 47; refine (kj.out w3).mono ?_; rintro e w4 ⟨rfl, hb4⟩))
      refine bodyPost_ret (v := .tuple #[.string R, .bool false]) (by simp [results, Tryz.results26, go_sem, *]) rfl ⟨⟨_, _, rfl, (fun h => by cases h), fun _ => hx2.out⟩, b3.out.trans (hb4.mono b3.out.size)⟩
  by_cases k8 : t.kind = 8
  · have hk : b.kind = 8 := by rw [e0, k8]
    have g0 : (b.kind == 0) = false := by rw [hk]; rfl
    have g1 : (b.kind == 1) = false := by rw [hk]; rfl
    have g2 : (b.kind == 2) = false := by rw [hk]; rfl
    have g3 : (b.kind == 3) = false := by rw [hk]; rfl
    have g5 : (b.kind == 5) = false := by rw [hk]; rfl
    have g7 : (b.kind == 7) = false := by rw [hk]; rfl
    have g8 : (b.kind == 8) = true := by rw [hk]; rfl
    have hx : Hid (txT (D + 1) t = (optAll (List.zipWith (memF (txT D)) t.keys t.kids)).map fun l => jnB [⟨#[123]⟩, jnB (rowP l), ⟨#[125]⟩]) := tx_map k8
    have hms : ∀ m, optAll (List.zipWith (memF (txT D)) t.keys t.kids) = some m → ∀ x ∈ m, x.size ≤ 900000 := fun m hm x hx => by
      have hx' : some x ∈ List.zipWith (memF (txT D)) t.keys t.kids := by rw [opt_mem hm]; exact List.mem_map_of_mem hx
      obtain ⟨k, u, hk1, hu, hx'⟩ := zip_mem hx'
      simp only [memF] at hx'
      by_cases k5' : k.kind = 5
      · rw [if_pos k5'] at hx'
        cases hxu : txT D u with
        | none => rw [hxu] at hx'; cases hx'
        | some y =>
          rw [hxu] at hx'; simp only [Option.map_some, Option.some.injEq] at hx'; subst hx'
          have h1 := txT_size D u y (hai u hu) hxu
          have h2 := deep_kids hD u hu
          have h3 := (al_txt ((Tr.all_eq _ k).1 (hak k hk1)).1 k5').1
          have h4 := esc_size k.txt
          exact Nat.le_trans (jnB_size _ 600000 (three_size (by omega) (by show 1 ≤ _; omega) (by omega))) (by omega)
      · rw [if_neg k5'] at hx'; cases hx'
    have hlen : Hid (∀ m, optAll (List.zipWith (memF (txT D)) t.keys t.kids) = some m → m.length ≤ 1000000) := fun m hm => by
      have := congrArg List.length (opt_mem hm)
      simp at this
      have := Tr.length_le t.kids
      omega
    have kk := memb_step ih b.ak b.ai b.lk b.ck b.li b.ci t.keys t.kids (w.alloc (.cells b.arr 26)) rk ri (by rw [← rk.1, ← ri.1]; exact al_map h0 k8) (fun u hu => ((Tr.all_eq _ u).1 (hak u hu)).1) hai (deep_kids hD) (by omega) T1.out
    have hsz2 : Hid (∀ m, optAll (List.zipWith (memF (txT D)) t.keys t.kids) = some m → ∀ x ∈ m, x.size ≤ 900000) := hms
    have kR : Hid (∀ m a n c wx, m.length = n → Strs wx a m → n ≤ c → c ≤ 9223372036854775807 → n ≤ 1000000 → (∀ x ∈ m, x.size ≤ 900000) → Calls Tryz.prog 52 #[.slice a n c] wx fun e w' => e = .returned (.string (jnB (rowP m))) ∧ Below wx.heap.size wx w') := fun m a n c wx h1 h2 h3 h4 h5 h6 => row_any a n c m wx h1 h2 h3 h4 h5 (fun x hx => Nat.le_trans (h6 x hx) (by omega))
    have kJ : Hid (∀ m wx, (∀ x ∈ m, x.size ≤ 900000) → Calls Tryz.prog 47 #[.slice (some ⟨wx.heap.size, 0, none⟩) 3 3] (wx.alloc (.cells #[.string ⟨#[123]⟩, .string (jnB (rowP m)), .string ⟨#[125]⟩] 9)) fun e w' => e = .returned (.string (jnB [⟨#[123]⟩, jnB (rowP m), ⟨#[125]⟩])) ∧ Below wx.heap.size wx w') := fun m wx hm => (join_any _ 3 3 [⟨#[123]⟩, jnB (rowP m), ⟨#[125]⟩] _ rfl (strs_three wx _ _ _) (Nat.le_refl _) (by omega) (three_size (by show 1 ≤ _; omega) (Nat.le_trans (jnB_size _ 900000 (fun x hx => by rcases rowP_mem hx with h | rfl; exact hm x h; show 1 ≤ _; omega)) (by omega)) (by show 1 ≤ _; omega))).mono fun e w' ⟨h1, h2⟩ => ⟨h1, (alloc_below wx _).trans (h2.mono (alloc_below wx _).size)⟩
    clear hms
    clear hk e0 e1 e2 e3 e4 e5 rk ri hai hak hA k0 k1 k2 k3 k5 k7 k8
    go_enter Tryz.func26, Tryz.ntmps26
    go_wp2_with fail
    refine kk.mono ?_
    rintro e w2 ⟨⟨v, okv, rfl, hv⟩, hb2⟩
    have b2 : Hid (Below w.heap.size w w2) := B1.out.trans (hb2.mono B1.out.size)
    clear kk hb2
    rcases hv.out with ⟨rfl, m, hm, hO⟩ | ⟨rfl, rfl, hm⟩
    · obtain ⟨a2, n2, c2, rfl, hl2, _, hc2, hm2, hs2⟩ := hO.form
      have hM := hsz2.out m hm
      have kr := kR.out m a2 n2 c2 w2 hl2.out hs2.out hc2 hm2 (by rw [← hl2.out]; exact hlen.out m hm) hM
      have hx2 : Hid (txT (D + 1) t = some (jnB [⟨#[123]⟩, jnB (rowP m), ⟨#[125]⟩])) := hx.out.trans (by rw [hm]; rfl)
      have kj : Hid (∀ wx, Calls Tryz.prog 47 #[.slice (some ⟨wx.heap.size, 0, none⟩) 3 3] (wx.alloc (.cells #[.string ⟨#[123]⟩, .string (jnB (rowP m)), .string ⟨#[125]⟩] 9)) fun e w' => e = .returned (.string (jnB [⟨#[123]⟩, jnB (rowP m), ⟨#[125]⟩])) ∧ Below wx.heap.size wx w') := fun wx => kJ.out m wx hM
      generalize jnB [⟨#[123]⟩, jnB (rowP m), ⟨#[125]⟩] = R at *
      generalize jnB (rowP m) = rw0 at *
      clear hO hl2 hs2 hM hv hm hx kR kJ hsz2 hlen
      go_wp2_with (first
        | (go_at_call 52; refine kr.mono ?_; rintro e w3 ⟨rfl, hb3⟩; have b3 : Hid (Below w.heap.size w w3) := b2.out.trans (hb3.mono b2.out.size); clear hb3)
        | (go_at_call 47; refine (kj.out w3).mono ?_; rintro e w4 ⟨rfl, hb4⟩))
      refine bodyPost_ret (v := .tuple #[.string R, .bool true]) (by simp [results, Tryz.results26, go_sem, *]) rfl ⟨⟨_, _, rfl, fun _ => hx2.out, fun h => by cases h⟩, b3.out.trans (hb4.mono b3.out.size)⟩
    · have kr := kR.out [] none 0 0 w2 rfl ⟨by simp [maxLen], .inl rfl⟩ (Nat.le_refl _) (by omega) (by omega) (by simp)
      have hx2 : Hid (txT (D + 1) t = none) := hx.out.trans (by rw [hm]; rfl)
      have kj : Hid (∀ wx, Calls Tryz.prog 47 #[.slice (some ⟨wx.heap.size, 0, none⟩) 3 3] (wx.alloc (.cells #[.string ⟨#[123]⟩, .string (jnB (rowP [])), .string ⟨#[125]⟩] 9)) fun e w' => e = .returned (.string (jnB [⟨#[123]⟩, jnB (rowP []), ⟨#[125]⟩])) ∧ Below wx.heap.size wx w') := fun wx => kJ.out [] wx (by simp)
      generalize jnB [⟨#[123]⟩, jnB (rowP []), ⟨#[125]⟩] = R at *
      generalize jnB (rowP []) = rw0 at *
      clear hv hm hx kR kJ hsz2 hlen
      go_wp2_with (first
        | (go_at_call 52; refine kr.mono ?_; rintro e w3 ⟨rfl, hb3⟩; have b3 : Hid (Below w.heap.size w w3) := b2.out.trans (hb3.mono b2.out.size); clear hb3)
        | (go_at_call 47; refine (kj.out w3).mono ?_; rintro e w4 ⟨rfl, hb4⟩))
      refine bodyPost_ret (v := .tuple #[.string R, .bool false]) (by simp [results, Tryz.results26, go_sem, *]) rfl ⟨⟨_, _, rfl, (fun h => by cases h), fun _ => hx2.out⟩, b3.out.trans (hb4.mono b3.out.size)⟩
  have hx : Hid (txT (D + 1) t = none) := tx_else ⟨k0, k1, k2, k3, k5, k7, k8⟩
  have g0 : (b.kind == 0) = false := by rw [e0]; simpa using k0
  have g1 : (b.kind == 1) = false := by rw [e0]; simpa using k1
  have g2 : (b.kind == 2) = false := by rw [e0]; simpa using k2
  have g3 : (b.kind == 3) = false := by rw [e0]; simpa using k3
  have g5 : (b.kind == 5) = false := by rw [e0]; simpa using k5
  have g7 : (b.kind == 7) = false := by rw [e0]; simpa using k7
  have g8 : (b.kind == 8) = false := by rw [e0]; simpa using k8
  clear e0 e1 e2 e3 e4 e5 k0 k1 k2 k3 k5 k7 k8 rk ri
  go_enter Tryz.func26, Tryz.ntmps26
  go_wp2_with fail
  refine bodyPost_ret (v := .tuple #[.string ⟨#[]⟩, .bool false]) (by simp [results, Tryz.results26, go_sem, *]) rfl ⟨⟨_, _, rfl, (fun h => by cases h), fun _ => hx.out⟩, B1.out⟩
/-- jsay.textOf. -/
theorem textof_all : ∀ D, TextAt D := by
  intro D
  induction D with
  | zero => intro t b w h; exact h.elim
  | succ D ih => exact text_step ih
end Go.Proofs.YtelabgonpmafpaaGreatDoor
namespace Go.Proofs.YtelabgonpmafpaaGreatDoor
open Go.RowKit
set_option linter.unusedVariables false
theorem chk_null {t : Tr} {er : Int} (h : Tr.ChkIs alF t er) : er = 0 ↔ t.May (fun u => alF u = 0) :=
  ⟨fun e => (Tr.chk_may alF_shaped).1 (by rw [e] at h; exact h), fun e => Tr.chk_one h ((Tr.chk_may alF_shaped).2 e)⟩
/-- What jsay.tell answers. -/
def TellR (D : Nat) (t : Tr) (s : ByteArray) (er : Int) : Prop := (Tr.ChkIs alF t er ∧ er ≠ 0 ∧ s = ⟨#[]⟩) ∨ (t.May (fun u => alF u = 0) ∧ txT D t = none ∧ er = 12 ∧ s = ⟨#[]⟩) ∨ (t.May (fun u => alF u = 0) ∧ txT D t = some s ∧ er = 0)
set_option maxHeartbeats 2000000 in
set_option maxRecDepth 100000 in
theorem tell_any {D : Nat} {t : Tr} {b : Nb} {w : World} (hN : Nd D w b t) (hT : Tab w.heap.size w) :
    Calls Tryz.prog 17 #[.agg b.arr] w fun e w' => (∃ s er, e = .returned (.tuple #[.string s, .int .i64 er]) ∧ Hid (TellR D t s er)) ∧ Below w.heap.size w w' := by
  have hal := alloc_below w (.cells b.arr 26)
  have B1 : Hid (Below w.heap.size w (w.alloc (.cells b.arr 26))) := hal
  have X1 : Hid (NBox (w.alloc (.cells b.arr 26)) w.heap.size b) := nbox_new w b
  have kC := gcheck_any (hN.kept hal)
  have hN' : Hid (Nd D w b t) := hN
  have hT' : Hid (Tab w.heap.size w) := hT
  obtain ⟨f0, f1, f2, f3, f4, f5, f6, f7, f8⟩ := (nbox_new w b).fields
  clear hN hal hT
  go_enter Tryz.func17, Tryz.ntmps17
  go_wp2_with fail
  refine kC.mono ?_
  rintro e w2 ⟨⟨er, rfl, hc⟩, hb2⟩
  have b2 : Hid (Below w.heap.size w w2) := B1.out.trans (hb2.mono B1.out.size)
  have X2 : Hid (NBox w2 w.heap.size b) := X1.out.kept hb2 X1.out.lt
  have hc' : Hid (Tr.ChkIs alF t er) := hc
  clear kC hb2 f0 f1 f2 f3 f4 f5 f6 f7 f8 X1 hc
  by_cases h0 : er = 0
  · have hM : Hid (t.May (fun u => alF u = 0)) := (chk_null hc'.out).1 h0
    subst h0
    have kT := textof_all D t b w2 (hN'.out.kept b2.out) hM.out.2.2.1 hM.out.2.1 (Nat.le_trans hM.out.1 (by omega)) ((hT'.out.on b2.out).up b2.out.size)
    obtain ⟨f0, f1, f2, f3, f4, f5, f6, f7, f8⟩ := X2.out.fields
    go_wp2_with fail
    refine kT.mono ?_
    rintro e w3 ⟨⟨s, okv, rfl, hs⟩, hb3⟩
    have b3 : Hid (Below w.heap.size w w3) := b2.out.trans (hb3.mono b2.out.size)
    clear kT hb3 f0 f1 f2 f3 f4 f5 f6 f7 f8
    cases okv with
    | true =>
      have hs1 : Hid (txT D t = some s) := hs.out.1 rfl
      clear hs
      go_wp2_with fail
      refine bodyPost_ret (v := .tuple #[.string s, .int .i64 0]) (by simp [results, Tryz.results17, go_sem, *]) rfl ⟨⟨_, _, rfl, .inr (.inr ⟨hM.out, hs1.out, rfl⟩)⟩, b3.out⟩
    | false =>
      have hs1 : Hid (txT D t = none) := hs.out.2 rfl
      clear hs
      go_wp2_with fail
      refine bodyPost_ret (v := .tuple #[.string ⟨#[]⟩, .int .i64 12]) (by simp [results, Tryz.results17, go_sem, *]) rfl ⟨⟨_, _, rfl, .inr (.inl ⟨hM.out, hs1.out, rfl, rfl⟩)⟩, b3.out⟩
  · have g0 : (er != 0) = true := by simpa using h0
    have h0' : Hid (er ≠ 0) := h0
    clear h0
    go_wp2_with fail
    refine bodyPost_ret (v := .tuple #[.string ⟨#[]⟩, .int .i64 er]) (by simp [results, Tryz.results17, go_sem, *]) rfl ⟨⟨_, _, rfl, .inl ⟨hc'.out, h0'.out, rfl⟩⟩, b2.out⟩
theorem conv_b (t : ByteArray) (w : World) (hs : t.size ≤ 10000000) : ∃ g n c W, (convert 9 23 (.string t)).run Tryz.prog w = .ok (.slice (some ⟨g, 0, none⟩) n c) W ∧ Hid (Below w.heap.size w W) ∧ Hid ((bs t).length = n) ∧ n ≤ c ∧ c ≤ 9223372036854775807 ∧ Hid (Bytes W (some ⟨g, 0, none⟩) (bs t)) := by
  have hcv := Lib.run_convert_string_bytes (P := Tryz.prog) w 9 23 5 t Tryz.underlying9 Tryz.underlying23 Tryz.underlying5
  obtain ⟨gC, nC, cC, hvC, hlC, hcC, hcC', hBC⟩ := (own_conv w t (by omega)).form
  have hvC' : (Value.slice (some ⟨w.heap.size, 0, none⟩) t.size (grownCap w t.size 0 5)) = Value.slice (some ⟨gC, 0, none⟩) nC cC := hvC
  rw [hvC'] at hcv
  exact ⟨gC, nC, cC, Lib.bytesWorld w 5 t, hcv, convB_below w t, hlC, hcC, hcC', hBC⟩
/-- What jsay.Print answers. -/
def PrintR (D : Nat) (t : Tr) (v : Value) (er : Int) (w' : World) : Prop := (v = .slice none 0 0 ∧ er ≠ 0 ∧ ((Tr.ChkIs alF t er) ∨ (t.May (fun u => alF u = 0) ∧ txT D t = none ∧ er = 12) ∨ (∃ s, t.May (fun u => alF u = 0) ∧ txT D t = some s ∧ 4096 < s.size ∧ er = 8)))
  ∨ (er = 0 ∧ ∃ s a n c, v = .slice a n c ∧ t.May (fun u => alF u = 0) ∧ txT D t = some s ∧ s.size ≤ 4096 ∧ (bs s).length = n ∧ n ≤ c ∧ c ≤ 9223372036854775807 ∧ (a = none → c = 0) ∧ Bytes w' a (bs s))
set_option maxHeartbeats 2000000 in
set_option maxRecDepth 100000 in
/-- jsay.Print. -/
theorem print_any {D : Nat} {t : Tr} {b : Nb} {w : World} (hN : Nd D w b t) (hT : Tab w.heap.size w) :
    Calls Tryz.prog 7 #[.agg b.arr] w fun e w' => (∃ v er, e = .returned (.tuple #[v, .int .i64 er]) ∧ Hid (PrintR D t v er w')) ∧ Below w.heap.size w w' := by
  have hal := alloc_below w (.cells b.arr 26)
  have B1 : Hid (Below w.heap.size w (w.alloc (.cells b.arr 26))) := hal
  have kT := tell_any (hN.kept hal) ((hT.on hal).up hal.size)
  obtain ⟨f0, f1, f2, f3, f4, f5, f6, f7, f8⟩ := (nbox_new w b).fields
  clear hN hal hT
  go_enter Tryz.func7, Tryz.ntmps7
  go_wp2_with fail
  refine kT.mono ?_
  rintro e w2 ⟨⟨s, er, rfl, hr⟩, hb2⟩
  have b2 : Hid (Below w.heap.size w w2) := B1.out.trans (hb2.mono B1.out.size)
  clear kT hb2 f0 f1 f2 f3 f4 f5 f6 f7 f8
  by_cases h0 : er = 0
  · subst h0
    have hq : Hid (t.May (fun u => alF u = 0) ∧ txT D t = some s) := by
      rcases hr.out with ⟨_, h, _⟩ | ⟨_, _, h, _⟩ | ⟨h1, h2, _⟩
      · exact absurd rfl h
      · cases h
      · exact ⟨h1, h2⟩
    by_cases hl : s.size ≤ 4096
    · have g1 : decide ((4096 : Int) < (s.size : Int)) = false := by simp; omega
      have g2 : decide (4096 < s.size) = false := by simp; omega
      obtain ⟨g, n, c, W, hcv, BW, hn, hc, hcm, hby⟩ := conv_b s w2 (by omega)
      have hl' : Hid (s.size ≤ 4096) := hl
      clear hl
      go_wp2_with fail
      refine bodyPost_ret (v := .tuple #[.slice (some ⟨g, 0, none⟩) n c, .int .i64 0]) (by simp [results, Tryz.results7, go_sem, *]) rfl ⟨⟨_, _, rfl, .inr ⟨rfl, s, _, n, c, rfl, hq.out.1, hq.out.2, hl'.out, hn.out, hc, hcm, (fun h => by cases h), hby.out⟩⟩, b2.out.trans (BW.out.mono b2.out.size)⟩
    · have g1 : decide ((4096 : Int) < (s.size : Int)) = true := by simp; omega
      have g2 : decide (4096 < s.size) = true := by simp; omega
      have hl' : Hid (4096 < s.size) := by show _ < _; omega
      clear hl
      go_wp2_with fail
      refine bodyPost_ret (v := .tuple #[.slice none 0 0, .int .i64 8]) (by simp [results, Tryz.results7, go_sem, *]) rfl ⟨⟨_, _, rfl, .inl ⟨rfl, by decide, .inr (.inr ⟨s, hq.out.1, hq.out.2, hl'.out, rfl⟩)⟩⟩, b2.out⟩
  · have g0 : (er != 0) = true := by simpa using h0
    have hq : Hid (er ≠ 0 ∧ ((Tr.ChkIs alF t er) ∨ (t.May (fun u => alF u = 0) ∧ txT D t = none ∧ er = 12) ∨ (∃ s, t.May (fun u => alF u = 0) ∧ txT D t = some s ∧ 4096 < s.size ∧ er = 8))) := by
      refine ⟨h0, ?_⟩
      rcases hr.out with ⟨h, _, _⟩ | ⟨h1, h2, h, _⟩ | ⟨h1, h2, h⟩
      · exact .inl h
      · exact .inr (.inl ⟨h1, h2, h⟩)
      · exact absurd h h0
    clear h0
    go_wp2_with fail
    refine bodyPost_ret (v := .tuple #[.slice none 0 0, .int .i64 er]) (by simp [results, Tryz.results7, go_sem, *]) rfl ⟨⟨_, _, rfl, .inl ⟨rfl, hq.out.1, hq.out.2⟩⟩, b2.out⟩
set_option maxHeartbeats 2000000 in
set_option maxRecDepth 100000 in
/-- jsay.Can. -/
theorem can_any {D : Nat} {t : Tr} {b : Nb} {w : World} (hN : Nd D w b t) (hT : Tab w.heap.size w) :
    Calls Tryz.prog 10 #[.agg b.arr] w fun e w' => (∃ s er, e = .returned (.bool (er == 0)) ∧ Hid (TellR D t s er)) ∧ Below w.heap.size w w' := by
  have hal := alloc_below w (.cells b.arr 26)
  have B1 : Hid (Below w.heap.size w (w.alloc (.cells b.arr 26))) := hal
  have kT := tell_any (hN.kept hal) ((hT.on hal).up hal.size)
  obtain ⟨f0, f1, f2, f3, f4, f5, f6, f7, f8⟩ := (nbox_new w b).fields
  clear hN hal hT
  go_enter Tryz.func10, Tryz.ntmps10
  go_wp2_with fail
  refine kT.mono ?_
  rintro e w2 ⟨⟨s, er, rfl, hr⟩, hb2⟩
  have b2 : Hid (Below w.heap.size w w2) := B1.out.trans (hb2.mono B1.out.size)
  clear kT hb2 f0 f1 f2 f3 f4 f5 f6 f7 f8
  go_wp2_with fail
  go_ret
  exact ⟨⟨s, er, rfl, hr⟩, b2.out⟩
end Go.Proofs.YtelabgonpmafpaaGreatDoor
namespace Go.Proofs.YtelabgonpmafpaaGreatDoor
open Go.RowKit
set_option linter.unusedVariables false
def ToldAt (D : Nat) : Prop := ∀ (t : Tr) (b : Nb) (w : World), Nd D w b t → t.All (fun u => alF u = 0) → Calls Tryz.prog 19 #[.agg b.arr] w fun e w' => e = .returned (.bool (txF D t).isSome) ∧ Below w.heap.size w w'
set_option maxHeartbeats 4000000 in
set_option maxRecDepth 100000 in
theorem told_step {D : Nat} (ih : ToldAt D) : ToldAt (D + 1) := by
  intro t b w hN hA
  obtain ⟨h0, hak, hai⟩ := (Tr.all_eq _ t).1 hA
  have e0 : b.kind = t.kind := hN.1.1
  have hal := alloc_below w (.cells b.arr 26)
  have B1 : Hid (Below w.heap.size w (w.alloc (.cells b.arr 26))) := hal
  have rk : Hid (RowN (Nd D (w.alloc (.cells b.arr 26))) (w.alloc (.cells b.arr 26)) b.ak b.lk b.ck t.keys) := (hN.2.2.2.1).kept (R := Nd D (w.alloc (.cells b.arr 26))) hal (fun _ _ _ q => q.kept hal)
  have ri : Hid (RowN (Nd D (w.alloc (.cells b.arr 26))) (w.alloc (.cells b.arr 26)) b.ai b.li b.ci t.kids) := (hN.2.2.2.2).kept (R := Nd D (w.alloc (.cells b.arr 26))) hal (fun _ _ _ q => q.kept hal)
  have X1 : Hid (NBox (w.alloc (.cells b.arr 26)) w.heap.size b) := nbox_new w b
  obtain ⟨f0, f1, f2, f3, f4, f5, f6, f7, f8⟩ := (nbox_new w b).fields
  have hV := tx_is (d := D) h0
  obtain ⟨V, hVe⟩ : ∃ V, (txF (D + 1) t).isSome = V := ⟨_, rfl⟩
  rw [hVe] at hV ⊢
  have hai' : Hid (∀ u ∈ t.kids, u.All (fun u => alF u = 0)) := hai
  have lk0 : b.lk ≤ b.ck := rk.out.2.1.1
  have lk1 : b.ck ≤ 9223372036854775807 := by have := rk.out.2.1.2.1; simpa [maxLen] using this
  have li0 : b.li ≤ b.ci := ri.out.2.1.1
  have li1 : b.ci ≤ 9223372036854775807 := by have := ri.out.2.1.2.1; simpa [maxLen] using this
  have lk2 : Hid (t.keys.length = b.lk) := rk.out.1
  have li2 : Hid (t.kids.length = b.li) := ri.out.1
  clear hal hN hVe hA hak hai
  by_cases k8 : 8 < t.kind
  · have g1 : decide (8 < b.kind) = true := by rw [e0]; simpa using k8
    have hv : V = false := by
      cases V with
      | false => rfl
      | true => have := (hV.1 rfl).1; omega
    subst hv
    clear hV e0 k8
    go_enter Tryz.func19, Tryz.ntmps19
    go_wp2_with fail
    go_ret
    exact ⟨rfl, B1.out⟩
  have g1 : decide (8 < b.kind) = false := by rw [e0]; simpa using k8
  by_cases k4 : t.kind = 4
  · have g2 : (b.kind == 4) = true := by rw [e0, k4]; rfl
    have hv : V = false := by
      cases V with
      | false => rfl
      | true => have := (hV.1 rfl).1; omega
    subst hv
    clear hV e0 k8 k4
    go_enter Tryz.func19, Tryz.ntmps19
    go_wp2_with fail
    go_ret
    exact ⟨rfl, B1.out⟩
  have g2 : (b.kind == 4) = false := by rw [e0]; simpa using k4
  by_cases k6 : t.kind = 6
  · have g3 : (b.kind == 6) = true := by rw [e0, k6]; rfl
    have hv : V = false := by
      cases V with
      | false => rfl
      | true => have := (hV.1 rfl).1; omega
    subst hv
    clear hV e0 k8 k4 k6
    go_enter Tryz.func19, Tryz.ntmps19
    go_wp2_with fail
    go_ret
    exact ⟨rfl, B1.out⟩
  have g3 : (b.kind == 6) = false := by rw [e0]; simpa using k6
  have hK : Hid (V = true ↔ (∀ i (hi : i < t.keys.length), (t.keys[i]).kind = 5) ∧ (∀ i (hi : i < t.kids.length), (txF D t.kids[i]).isSome = true)) := hV.trans ⟨fun q => q.2, fun q => ⟨by omega, q⟩⟩
  clear hV e0 k8 k4 k6
  go_enter Tryz.func19, Tryz.ntmps19
  go_wp2_with fail
  generalize w.alloc (.cells b.arr 26) = W1 at *
  go_loopw [3] (fun s3 wr => ∃ i : Nat, i ≤ b.lk ∧ s3 = .int .i64 i ∧ wr = W1 ∧ Hid (∀ j (h : j < t.keys.length), j < i → (t.keys[j]).kind = 5)) (fun i _ => b.lk - (intOf i).toNat)
  case atStart => exact ⟨0, Nat.zero_le _, rfl, rfl, fun j _ h => by omega⟩
  case round =>
    obtain ⟨i, him, rfl, hW, hi5⟩ := hrel
    obtain rfl := hW.symm
    by_cases hlt : i < b.lk
    · have hz : (i : Int) < (b.lk : Int) := by omega
      have hz0 : (0 : Int) ≤ (i : Int) := by omega
      have hix : i < t.keys.length := by rw [lk2.out]; exact hlt
      obtain ⟨bk, ok, nk, hadr, hck, hNk, hbk⟩ := row_el rk.out (Below.refl _ _) hix
      obtain ⟨p0, p1, p2, p3, p4, p5, p6, p7, p8⟩ := elem_fields hck
      have hks : nk.kind = t.keys[i].kind := by
        cases D with
        | zero => exact hNk.elim
        | succ D => exact hNk.1.1
      have wi : IntKind.i64.wrap ((i : Int) + 1) = (i : Int) + 1 := by rw [IntKind.wrap_i64]; omega
      rw [hadr] at f7
      by_cases h5 : t.keys[i].kind = 5
      · have g5 : (nk.kind != 5) = false := by rw [hks, h5]; rfl
        have hi5' : Hid (∀ j (h : j < t.keys.length), j < i + 1 → (t.keys[j]).kind = 5) := fun j hj hl => by
          by_cases e : j = i
          · subst e; exact h5
          · exact hi5.out j hj (by omega)
        clear hks h5 hadr hck hNk hbk hi5
        go_wp2_with fail
        go_roundw
        case rel => exact ⟨i + 1, by omega, by go_num, (by first | trivial | rfl), hi5'⟩
        case measure => simp [intOf]; omega
      · have g5 : (nk.kind != 5) = true := by rw [hks]; simpa using h5
        have hv : V = false := by
          cases V with
          | false => rfl
          | true => exact absurd ((hK.out.1 rfl).1 i hix) h5
        subst hv
        clear hks h5 hadr hck hNk hbk hi5 hK
        go_wp2_with fail
        go_ret
        exact ⟨rfl, B1.out⟩
    · have hz : ¬ (i : Int) < (b.lk : Int) := by omega
      have hall : Hid (∀ j (h : j < t.keys.length), (t.keys[j]).kind = 5) := fun j hj => hi5.out j hj (by have := lk2.out; omega)
      clear hi5
      go_wp2_with fail
      go_loopw [4] (fun s4 wx => ∃ i : Nat, i ≤ b.li ∧ s4 = .int .i64 i ∧ Hid (Below W1.heap.size W1 wx) ∧ Hid (∀ j (h : j < t.kids.length), j < i → (txF D t.kids[j]).isSome = true)) (fun i _ => b.li - (intOf i).toNat)
      case atStart => exact ⟨0, Nat.zero_le _, rfl, Below.refl _ _, fun j _ h => by omega⟩
      case round =>
        obtain ⟨i2, him2, rfl, hbl, hi6⟩ := hrel
        have X2 := X1.out.kept hbl.out X1.out.lt
        obtain ⟨q0, q1, q2, q3, q4, q5, q6, q7, q8⟩ := X2.fields
        by_cases hlt2 : i2 < b.li
        · have hy : (i2 : Int) < (b.li : Int) := by omega
          have hy0 : (0 : Int) ≤ (i2 : Int) := by omega
          have hiy : i2 < t.kids.length := by rw [li2.out]; exact hlt2
          obtain ⟨bl, ol, nl, hadr, hcl, hNl, hbl0⟩ := row_el ri.out hbl.out hiy
          obtain ⟨p0, p1, p2, p3, p4, p5, p6, p7, p8⟩ := elem_fields hcl
          have wi : IntKind.i64.wrap ((i2 : Int) + 1) = (i2 : Int) + 1 := by rw [IntKind.wrap_i64]; omega
          have kk := ih t.kids[i2] nl _ hNl (hai'.out _ (List.getElem_mem hiy))
          rw [hadr] at q8
          obtain ⟨U, hU⟩ : ∃ U, (txF D t.kids[i2]).isSome = U := ⟨_, rfl⟩
          rw [hU] at kk
          cases U with
          | true =>
            have hi7 : Hid (∀ j (h : j < t.kids.length), j < i2 + 1 → (txF D t.kids[j]).isSome = true) := fun j hj hl => by
              by_cases e : j = i2
              · subst e; exact hU
              · exact hi6.out j hj (by omega)
            clear hadr hcl hNl hbl0 hU hi6 X2 f0 f1 f2 f3 f4 f5 f6 f7 f8
            go_wp2_with (go_at_call 19; refine kk.mono ?_; rintro e w5 ⟨rfl, hb5⟩; have b5 : Hid (Below W1.heap.size W1 w5) := hbl.out.trans (hb5.mono hbl.out.size); clear hb5)
            go_roundw
            case rel => exact ⟨i2 + 1, by omega, by go_num, b5, hi7⟩
            case measure => simp [intOf]; omega
          | false =>
            have hv : V = false := by
              cases V with
              | false => rfl
              | true => have := (hK.out.1 rfl).2 i2 hiy; rw [hU] at this; cases this
            subst hv
            clear hadr hcl hNl hbl0 hU hi6 X2 hK f0 f1 f2 f3 f4 f5 f6 f7 f8
            go_wp2_with (go_at_call 19; refine kk.mono ?_; rintro e w5 ⟨rfl, hb5⟩; have b5 : Hid (Below W1.heap.size W1 w5) := hbl.out.trans (hb5.mono hbl.out.size); clear hb5)
            go_ret
            exact ⟨rfl, B1.out.trans (b5.out.mono B1.out.size)⟩
        · have hy : ¬ (i2 : Int) < (b.li : Int) := by omega
          have hv : V = true := hK.out.2 ⟨hall.out, fun j hj => hi6.out j hj (by have := li2.out; omega)⟩
          subst hv
          clear hi6 X2 hK f0 f1 f2 f3 f4 f5 f6 f7 f8
          go_wp2_with fail
          go_ret
          exact ⟨rfl, B1.out.trans (hbl.out.mono B1.out.size)⟩
theorem told_all : ∀ D, ToldAt D := by
  intro D
  induction D with
  | zero => intro t b w h; exact h.elim
  | succ D ih => exact told_step ih
end Go.Proofs.YtelabgonpmafpaaGreatDoor
namespace Go.Proofs.YtelabgonpmafpaaGreatDoor
open Go.RowKit

theorem str_cons (c : Int) (ys : List Int) : strOfNums [c] ++ strOfNums ys = strOfNums (c :: ys) := by
  apply ByteArray.ext
  rw [ByteArray.data_append]
  simp [strOfNums]
/-- A number's digits, none of 0. -/
def front (m : Nat) : List Int := if m = 0 then [] else numL m
theorem num_front (m : Nat) : numL m = front (m / 10) ++ [((48 + m % 10 : Nat) : Int)] := by
  unfold front
  by_cases h : m < 10
  · rw [if_pos (by omega), num_small h, Nat.mod_eq_of_lt h]; rfl
  · rw [if_neg (by omega), num_big (by omega)]
def boolOf : Value → Nat | .bool true => 1 | _ => 0
theorem num_len20 {m : Nat} (h : m < 18446744073709551616) : (numL m).length ≤ 20 := (num_len (by omega)).2 (by omega)
set_option maxRecDepth 100000 in
set_option maxHeartbeats 1000000 in
theorem xfrw_any (n : Nat) (hn : n < 18446744073709551616) (w : World) :
    Calls Tryz.prog 56 #[.int .u64 n] w fun e w' => e = .returned (.string (txt n)) ∧ Below w.heap.size w w' := by
  have hlen : Hid ((numL n).length ≤ 20) := num_len20 hn
  obtain ⟨R, hR⟩ : ∃ R, txt n = R := ⟨_, rfl⟩
  rw [hR]
  have hR' : Hid (strOfNums (numL n) = R) := hR
  clear hR
  go_enter Tryz.func56, Tryz.ntmps56
  go_wp2
  go_loopw [0, 3, 4] (fun mv sv fv wr => ∃ (m : Nat) (s : ByteArray) (ys : List Int) (f : Bool), mv = .int .u64 m ∧ sv = .string s ∧ fv = .bool f ∧ m < 18446744073709551616 ∧ Hid (s = strOfNums ys) ∧ Hid (numL n = (if f = true then numL m else front m) ++ ys) ∧ Hid (Below w.heap.size w wr)) (fun mv _ fv _ => (intOf mv).toNat + boolOf fv)
  case atStart => exact ⟨n, ⟨#[]⟩, [], true, rfl, rfl, rfl, hn, rfl, (by show _ = _; rw [if_pos rfl, List.append_nil]), Below.refl _ _⟩
  case round =>
    obtain ⟨m, s, ys, f, rfl, rfl, rfl, hm, hs, hnum, hbl⟩ := hrel
    by_cases hgo : f = true ∨ 0 < m
    · have hnm : (if f = true then numL m else front m) = numL m := by
        cases f with
        | true => rfl
        | false =>
          have : 0 < m := hgo.resolve_left (by decide)
          unfold front
          rw [if_neg (by decide), if_neg (by omega)]
      have hst : Hid (numL n = front (m / 10) ++ (((48 + m % 10 : Nat) : Int) :: ys)) := by
        show _ = _
        rw [hnum.out, hnm, num_front m, List.append_assoc]
        rfl
      have hys : Hid (ys.length ≤ 20) := by
        show _ ≤ _
        have h1 := congrArg List.length hnum.out
        rw [List.length_append] at h1
        have := hlen.out
        omega
      have hsz : s.size ≤ 20 := by rw [hs.out, strOfNums_size]; exact hys.out
      have hms : Hid (m / 10 + 0 < m + boolOf (.bool f)) := by
        show _ < _
        rcases hgo with h | h
        · subst h
          show m / 10 + 0 < m + 1
          omega
        · omega
      obtain ⟨c, hc⟩ : ∃ c : Int, ((48 + m % 10 : Nat) : Int) = c := ⟨_, rfl⟩
      rw [hc] at hst
      have hcb : 0 ≤ c ∧ c < 256 := by omega
      have hm' : m / 10 < 18446744073709551616 := by omega
      have q1 : Int.tmod (m : Int) 10 = ((m % 10 : Nat) : Int) := rfl
      have q2 : Int.tdiv (m : Int) 10 = ((m / 10 : Nat) : Int) := rfl
      have e1 : ((m : Nat) : Int) % 10 = ((m % 10 : Nat) : Int) := by omega
      have e2 : ((m : Nat) : Int) / 10 = ((m / 10 : Nat) : Int) := by omega
      have hmd : m % 10 < 10 := by omega
      generalize m % 10 = D at *
      generalize m / 10 = M at *
      have w1 : IntKind.u64.wrap (48 + (D : Int)) = c := by rw [IntKind.wrap_u64]; omega
      have w2 : IntKind.u8.wrap c = c := by rw [IntKind.wrap_u8]; omega
      have w3 : IntKind.u64.wrap (M : Int) = (M : Int) := by rw [IntKind.wrap_u64]; omega
      have ks := fun (X : World) => conv_str (one_byte X c hcb.1 hcb.2) 1 1 rfl
      have hs1 : (strOfNums [c]).size = 1 := strOfNums_size _
      have hsum : (strOfNums [c]).size + s.size ≤ 9223372036854775807 := by omega
      have hcat : Hid (strOfNums [c] ++ s = strOfNums (c :: ys)) := by show _ = _; rw [hs.out]; exact str_cons c ys
      generalize strOfNums [c] = C1 at *
      have hadd := fun X => run_string_add_sum (P := Tryz.prog) X C1 s hsum
      have hbs : w.heap.size ≤ wr.heap.size := hbl.out.size
      clear hmd hcb hnm hc hsz hs1
      rcases hgo with hf | hpos
      · subst hf
        go_wp2
        go_roundw
        case rel => exact ⟨M, C1 ++ s, c :: ys, false, by first | rfl | simp, rfl, rfl, hm', hcat, hst, hbl.out.alloc hbs _⟩
        case measure => exact hms.out
      · have hp1 : decide (0 < (m : Int)) = true := by simp; omega
        cases f with
        | true =>
          go_wp2
          go_roundw
          case rel => exact ⟨M, C1 ++ s, c :: ys, false, by first | rfl | simp, rfl, rfl, hm', hcat, hst, hbl.out.alloc hbs _⟩
          case measure => exact hms.out
        | false =>
          go_wp2
          go_roundw
          case rel => exact ⟨M, C1 ++ s, c :: ys, false, by first | rfl | simp, rfl, rfl, hm', hcat, hst, hbl.out.alloc hbs _⟩
          case measure => exact hms.out
    · obtain rfl : f = false := by
        cases f with
        | true => exact absurd (.inl rfl) hgo
        | false => rfl
      obtain rfl : m = 0 := by
        rcases Nat.eq_zero_or_pos m with h | h
        · exact h
        · exact absurd (.inr h) hgo
      have hfin : Hid (s = R) := by show _ = _; rw [hs.out, ← hR'.out, hnum.out]; rfl
      clear hgo
      go_wp2
      go_ret
      exact ⟨by rw [hfin.out]; rfl, hbl.out⟩

end Go.Proofs.YtelabgonpmafpaaGreatDoor
