/-
  Texts with commas between: jsay.row.
  The texts of an Array's Kids: jsay.kidTexts.
  The texts of a Map's members: jsay.memberTexts.
  A tree's text: jsay.textOf.
  A tree's text: jsay.textOf, walked.
  A tree's text, or why it has none: jsay.tell, jsay.Print.
  A tree has its text.
-/
import Derived.Test.YtelabgonpmafpaaDoorU11
import Derived.Deep.RegionHeld3
namespace Go.Proofs.YtelabgonpmafpaaDoor
open Go.RowKit
set_option linter.unusedVariables false
/-- What stands there behind i texts. -/
theorem rowP_snoc (l : List ByteArray) (x : ByteArray) : rowP (l ++ [x]) = rowP l ++ (if l = [] then [x] else [⟨#[44]⟩, x]) := by
  cases l with
  | nil => rfl
  | cons y l => simp [rowP]
theorem rowP_len (l : List ByteArray) : (rowP l).length ≤ 2 * l.length := by
  cases l with
  | nil => simp [rowP]
  | cons x l =>
    rw [rowP, List.length_cons, List.length_cons]
    have : (l.map fun y => [(⟨#[44]⟩ : ByteArray), y]).flatten.length = 2 * l.length := by
      induction l with
      | nil => rfl
      | cons y l ih => rw [List.map_cons, List.flatten_cons, List.length_append, ih, List.length_cons, List.length_cons]; simp; omega
    omega
set_option maxHeartbeats 2000000 in
set_option maxRecDepth 100000 in
/-- jsay.row. -/
theorem row_any (a : Option Addr) (n c : Nat) (l : List ByteArray) (w : World) (hl : l.length = n) (hb : Strs w a l) (hc : n ≤ c) (hcm : c ≤ 9223372036854775807) (hn : n ≤ 1000000) (hM : ∀ x ∈ l, x.size ≤ 1000000) :
    Calls Tryd.prog 28 #[.slice a n c] w fun e w' => e = .returned (.string (jnB (rowP l))) ∧ Below w.heap.size w w' := by
  have hx : Hid (l.length = n) := hl
  have hB : Hid (Strs w a l) := hb
  have hm : Hid (∀ x ∈ rowP l, x.size ≤ 1000000) := fun x hx => by
    rcases rowP_mem hx with h | rfl
    · exact hM x h
    · show 1 ≤ _; omega
  have hn' : Hid (n ≤ 1000000) := hn
  clear hl hb hM hn
  go_enter Tryd.func28, Tryd.ntmps28
  go_wp2
  go_loopw [3, 4, 5, 8] (fun s3 _ _ s8 wr => ∃ (i : Nat) (v : Value), i ≤ n ∧ s3 = v ∧ s8 = .int .i64 i ∧ Hid (Below w.heap.size w wr) ∧ Hid (OwnsZ wr w.heap.size v (rowP (l.take i)))) (fun _ _ _ i _ => n - (intOf i).toNat)
  case atStart => exact ⟨0, _, Nat.zero_le _, rfl, rfl, Below.refl _ _, ownsZ_nil _ _⟩
  case round =>
    obtain ⟨i, v, him, rfl, rfl, hbl, hO⟩ := hrel
    by_cases hlt : i < n
    · have hz : (i : Int) < (n : Int) := by omega
      have hix : i < l.length := by rw [hx.out]; exact hlt
      obtain ⟨bk, ok, rfl⟩ := strs_some hB.out (by omega)
      have hlt0 : bk < w.heap.size := hB.out.lt (by intro h; rw [h] at hix; simp at hix)
      have hck : wr.cell? ⟨bk, ok + i, none⟩ = some (.string l[i]) := (hbl.out.cell (p := ⟨bk, ok + i, none⟩) hlt0).trans (hB.out.get hix)
      have wi : IntKind.i64.wrap ((i : Int) + 1) = (i : Int) + 1 := by rw [IntKind.wrap_i64]; omega
      have hR : Hid (rowP (l.take (i + 1)) = rowP (l.take i) ++ (if l.take i = [] then [l[i]] else [⟨#[44]⟩, l[i]])) := by
        show _ = _
        rw [List.take_succ_eq_append_getElem hix, rowP_snoc]
      have hln : Hid ((rowP (l.take i)).length ≤ 2000000) := by
        show _ ≤ _
        have := rowP_len (l.take i)
        rw [List.length_take] at this
        have := hn'.out
        omega
      have hsz := hbl.out.size
      have hsz' : Hid (w.heap.size ≤ wr.heap.size) := hsz
      by_cases h0 : i = 0
      · have g1 : decide ((0 : Int) < (i : Int)) = false := by simp; omega
        have g2 : decide (0 < i) = false := by simp; omega
        have hR1 : Hid (rowP (l.take (i + 1)) = rowP (l.take i) ++ [l[i]]) := by have := hR.out; rw [if_pos (by rw [h0]; rfl)] at this; exact this
        generalize l[i] = x at *
        generalize rowP (l.take i) = ys at *
        clear hR hsz h0
        go_wp2_with (at_builtin; refine wpList_append_strs rfl _ _ rfl w.heap.size u3 ys [x] rfl (hO.out.alloc _) (some ⟨wr.heap.size, 0, none⟩) 1 1 rfl rfl (by simp) (one_str wr x) (by have := hln.out; simp; omega) (Nat.le_trans hsz'.out (by simp)) ?_; intro v2 w2 ho2 hg2; have b2 : Hid (Below w.heap.size w w2) := grownZ_below (hbl.out.trans ((alloc_below wr _).mono hsz'.out)) (hO.out.alloc _) hg2 (Nat.le_trans hsz'.out (by simp)); have O2 : Hid (OwnsZ w2 w.heap.size v2 (ys ++ [x])) := ho2; clear ho2 hg2)
        go_roundw
        case rel => exact ⟨i + 1, v2, by omega, rfl, by go_num, b2, by rw [hR1.out]; exact O2⟩
        case measure => simp [intOf]; omega
      · have g1 : decide ((0 : Int) < (i : Int)) = true := by simp; omega
        have g2 : decide (0 < i) = true := by simp; omega
        have hR1 : Hid (rowP (l.take (i + 1)) = (rowP (l.take i) ++ [⟨#[44]⟩]) ++ [l[i]]) := by
          have := hR.out
          rw [if_neg (by intro h; have := congrArg List.length h; rw [List.length_take, List.length_nil] at this; omega)] at this
          show _ = _
          rw [this]
          simp
        generalize l[i] = x at *
        generalize rowP (l.take i) = ys at *
        clear hR hsz h0
        go_wp2_with (first
          | (at_builtin; guard_hyp hO; refine wpList_append_strs rfl _ _ rfl w.heap.size u3 ys [⟨#[44]⟩] rfl (hO.out.alloc _) (some ⟨wr.heap.size, 0, none⟩) 1 1 rfl rfl (by simp) (one_str wr _) (by have := hln.out; simp; omega) (Nat.le_trans hsz'.out (by simp)) ?_; intro v2 w2 ho2 hg2; have b2 : Hid (Below w.heap.size w w2) := grownZ_below (hbl.out.trans ((alloc_below wr _).mono hsz'.out)) (hO.out.alloc _) hg2 (Nat.le_trans hsz'.out (by simp)); have O2 : Hid (OwnsZ w2 w.heap.size v2 (ys ++ [⟨#[44]⟩])) := ho2; clear ho2 hg2 hO)
          | (at_builtin; guard_hyp O2; refine wpList_append_strs rfl _ _ rfl w.heap.size v2 (ys ++ [⟨#[44]⟩]) [x] rfl (O2.out.alloc _) (some ⟨w2.heap.size, 0, none⟩) 1 1 rfl rfl (by simp) (one_str w2 x) (by have := hln.out; simp; omega) (Nat.le_trans b2.out.size (by simp)) ?_; intro v3 w3 ho3 hg3; have b3 : Hid (Below w.heap.size w w3) := grownZ_below (b2.out.trans ((alloc_below w2 _).mono b2.out.size)) (O2.out.alloc _) hg3 (Nat.le_trans b2.out.size (by simp)); have O3 : Hid (OwnsZ w3 w.heap.size v3 ((ys ++ [⟨#[44]⟩]) ++ [x])) := ho3; clear ho3 hg3 O2))
        go_roundw
        case rel => exact ⟨i + 1, v3, by omega, rfl, by go_num, b3, by rw [hR1.out]; exact O3⟩
        case measure => simp [intOf]; omega
    · have hz : ¬ (i : Int) < (n : Int) := by omega
      have hO' := hO.out
      rw [List.take_of_length_le (by rw [hx.out]; omega)] at hO'
      obtain ⟨a2, n2, c2, rfl, hl2, _, hc2, hm2, hb2⟩ := hO'.form
      have kJ := join_any a2 n2 c2 (rowP l) wr hl2.out hb2.out hc2 hm2 hm.out
      clear hO hO' hb2
      go_wp2_with (go_at_call 23; refine kJ.mono ?_; rintro e w3 ⟨rfl, hb3⟩)
      go_ret
      exact ⟨rfl, hbl.out.trans (hb3.mono hbl.out.size)⟩
end Go.Proofs.YtelabgonpmafpaaDoor
namespace Go.Proofs.YtelabgonpmafpaaDoor
open Go.RowKit
set_option linter.unusedVariables false
def TextR (x : Option ByteArray) (e : Ending) : Prop := ∃ s ok, e = .returned (.tuple #[.string s, .bool ok]) ∧ Hid ((ok = true → x = some s) ∧ (ok = false → x = none))
def KidsR (x : Option (List ByteArray)) (base : Nat) (e : Ending) (w' : World) : Prop := ∃ v ok, e = .returned (.tuple #[v, .bool ok]) ∧ Hid ((ok = true ∧ ∃ m, x = some m ∧ OwnsZ w' base v m) ∨ (ok = false ∧ v = .slice none 0 0 ∧ x = none))
/-- What jsay.textOf answers. -/
def TextAt (D : Nat) : Prop := ∀ (t : Tr) (b : Nb) (w : World), Nd D w b t → t.All (fun u => alF u = 0) → t.deep ≤ 24 → t.size ≤ 1000000 → Tab w.heap.size w →
  Calls Tryd.prog 14 #[.agg b.arr] w fun e w' => TextR (txT D t) e ∧ Below w.heap.size w w'
theorem take_map {D : Nat} {l : List Tr} {i : Nat} (hi : i < l.length) {m : List ByteArray} {s : ByteArray} (h : (l.take i).map (txT D) = m.map some) (hs : txT D l[i] = some s) : (l.take (i + 1)).map (txT D) = (m ++ [s]).map some := by
  rw [List.take_succ_eq_append_getElem hi, List.map_append, h, List.map_append]
  simp [hs]
set_option maxHeartbeats 2000000 in
set_option maxRecDepth 100000 in
/-- jsay.kidTexts. -/
theorem kids_step {D : Nat} (ih : TextAt D) (a : Option Addr) (n c : Nat) (l : List Tr) (w : World) (hl : RowN (Nd D w) w a n c l) (hA : ∀ u ∈ l, u.All (fun u => alF u = 0)) (hD : ∀ u ∈ l, u.deep ≤ 24) (hS : Tr.sizes l ≤ 1000000) (hT : Tab w.heap.size w) :
    Calls Tryd.prog 27 #[.slice a n c] w fun e w' => KidsR (optAll (l.map (txT D))) w.heap.size e w' ∧ Below w.heap.size w w' := by
  have hx : Hid (l.length = n) := hl.1
  have mk := hl.2.1.1
  have mk' := hl.2.1.2.1
  unfold maxLen at mk'
  have hR : Hid (RowN (Nd D w) w a n c l) := hl
  have hAD : Hid ((∀ u ∈ l, u.All (fun u => alF u = 0)) ∧ (∀ u ∈ l, u.deep ≤ 24)) := ⟨hA, hD⟩
  have hn' : Hid (l.length ≤ 1000000) := Nat.le_trans (Tr.length_le l) hS
  have hS' : Hid (Tr.sizes l ≤ 1000000) := hS
  have hT' : Hid (Tab w.heap.size w) := hT
  clear hl hA hD hS hT
  go_enter Tryd.func27, Tryd.ntmps27
  go_wp2
  go_loopw [4, 6, 7, 8, 11] (fun s4 _ _ _ s11 wr => ∃ (i : Nat) (v : Value) (m : List ByteArray), i ≤ n ∧ s4 = v ∧ s11 = .int .i64 i ∧ Hid (Below w.heap.size w wr) ∧ Hid (OwnsZ wr w.heap.size v m) ∧ Hid ((l.take i).map (txT D) = m.map some)) (fun _ _ _ _ i _ => n - (intOf i).toNat)
  case atStart => exact ⟨0, _, [], Nat.zero_le _, rfl, rfl, Below.refl _ _, ownsZ_nil _ _, rfl⟩
  case round =>
    obtain ⟨i, v, m, him, rfl, rfl, hbl, hO, hM⟩ := hrel
    by_cases hlt : i < n
    · have hz : (i : Int) < (n : Int) := by omega
      have hix : i < l.length := by rw [hx.out]; exact hlt
      obtain ⟨bk, ok, nk, rfl, hck, hNk, hbk⟩ := row_el hR.out hbl.out hix
      obtain ⟨f0, f1, f2, f3, f4, f5, f6, f7, f8⟩ := elem_fields hck
      have hal := alloc_below wr (.cells nk.arr 26)
      have hB : Hid (Below wr.heap.size wr (wr.alloc (.cells nk.arr 26))) := hal
      have hBw : Hid (Below w.heap.size w (wr.alloc (.cells nk.arr 26))) := hbl.out.trans (hal.mono hbl.out.size)
      have kk := ih l[i] nk (wr.alloc (.cells nk.arr 26)) (hNk.kept hal) (hAD.out.1 _ (List.getElem_mem hix)) (hAD.out.2 _ (List.getElem_mem hix)) (Nat.le_trans (Tr.size_le (List.getElem_mem hix)) hS'.out) ((hT'.out.on hBw.out).up hBw.out.size)
      have wi : IntKind.i64.wrap ((i : Int) + 1) = (i : Int) + 1 := by rw [IntKind.wrap_i64]; omega
      have hTM : Hid (∀ s, txT D l[i] = some s → (l.take (i + 1)).map (txT D) = (m ++ [s]).map some) := fun s hs => take_map hix hM.out hs
      have hTN : Hid (txT D l[i] = none → optAll (l.map (txT D)) = none) := fun h => opt_none i (by rw [List.getElem?_map, List.getElem?_eq_getElem hix]; simp [h])
      have hml : Hid (m.length ≤ 1000000) := by show _ ≤ _; have := congrArg List.length hM.out; simp at this; have := hn'.out; omega
      have bx := (nbox_new wr nk).fields
      obtain ⟨q0, q1, q2, q3, q4, q5, q6, q7, q8⟩ := bx
      generalize txT D l[i] = tx at *
      clear hck hNk hbk hal
      go_wp2_with fail
      refine kk.mono ?_
      rintro e w2 ⟨⟨s, okv, rfl, hs⟩, hb2⟩
      have b2 : Hid (Below w.heap.size w w2) := hBw.out.trans (hb2.mono hBw.out.size)
      have O2 : Hid (OwnsZ w2 w.heap.size u4 m) := (hO.out.below hB.out).below (hb2.mono (Nat.le_refl _))
      clear hb2 kk hO hB hBw
      cases okv with
      | true =>
        have hs1 : Hid ((l.take (i + 1)).map (txT D) = (m ++ [s]).map some) := hTM.out s (hs.out.1 rfl)
        clear hs hTM hTN
        go_wp2_with (at_builtin; refine wpList_append_strs rfl _ _ rfl w.heap.size u4 m [s] rfl (O2.out.alloc _) (some ⟨w2.heap.size, 0, none⟩) 1 1 rfl rfl (by simp) (one_str w2 s) (by have := hml.out; simp; omega) (Nat.le_trans b2.out.size (by simp)) ?_; intro v3 w3 ho3 hg3; have b3 : Hid (Below w.heap.size w w3) := grownZ_below (b2.out.trans ((alloc_below w2 _).mono b2.out.size)) (O2.out.alloc _) hg3 (Nat.le_trans b2.out.size (by simp)); have O3 : Hid (OwnsZ w3 w.heap.size v3 (m ++ [s])) := ho3; clear ho3 hg3 O2)
        go_roundw
        case rel => exact ⟨i + 1, v3, m ++ [s], by omega, rfl, by go_num, b3, O3, hs1⟩
        case measure => simp [intOf]; omega
      | false =>
        have hs0 : Hid (optAll (l.map (txT D)) = none) := hTN.out (hs.out.2 rfl)
        clear hs hTM hTN
        go_wp2_with fail
        refine bodyPost_ret (v := .tuple #[.slice none 0 0, .bool false]) (by simp [results, Tryd.results27, go_sem, *]) rfl ⟨⟨_, _, rfl, .inr ⟨rfl, rfl, hs0.out⟩⟩, b2.out⟩
    · have hz : ¬ (i : Int) < (n : Int) := by omega
      have hM' : Hid (optAll (l.map (txT D)) = some m) := by
        have := hM.out
        rw [List.take_of_length_le (by rw [hx.out]; omega)] at this
        show _ = _
        rw [this]
        exact opt_some m
      clear hM
      go_wp2_with fail
      refine bodyPost_ret (v := .tuple #[u4, .bool true]) (by simp [results, Tryd.results27, go_sem, *]) rfl ⟨⟨_, _, rfl, .inl ⟨rfl, m, hM'.out, hO.out⟩⟩, hbl.out⟩
end Go.Proofs.YtelabgonpmafpaaDoor
namespace Go.Proofs.YtelabgonpmafpaaDoor
open Go.RowKit
set_option linter.unusedVariables false
theorem zip_take (f : Tr → Tr → Option ByteArray) : ∀ (k l : List Tr) (i : Nat) (hk : i < k.length) (hl : i < l.length), List.zipWith f (k.take (i + 1)) (l.take (i + 1)) = List.zipWith f (k.take i) (l.take i) ++ [f k[i] l[i]] := by
  intro k l i hk hl
  rw [List.take_succ_eq_append_getElem hk, List.take_succ_eq_append_getElem hl, List.zipWith_append (by simp; omega)]
  rfl
theorem strs_three (w : World) (x y z : ByteArray) : Strs (w.alloc (.cells #[.string x, .string y, .string z] 9)) (some ⟨w.heap.size, 0, none⟩) [x, y, z] := strs_row w [x, y, z] (by simp [maxLen])
theorem three_size {x y z : ByteArray} {M : Nat} (h1 : x.size ≤ M) (h2 : y.size ≤ M) (h3 : z.size ≤ M) : ∀ u ∈ [x, y, z], u.size ≤ M := by
  intro u hu
  simp only [List.mem_cons, List.not_mem_nil, or_false] at hu
  rcases hu with rfl | rfl | rfl
  · exact h1
  · exact h2
  · exact h3
set_option maxHeartbeats 2000000 in
set_option maxRecDepth 100000 in
/-- jsay.memberTexts. -/
theorem memb_step {D : Nat} (ih : TextAt D) (a a1 : Option Addr) (n c n1 c1 : Nat) (k l : List Tr) (w : World) (hk : RowN (Nd D w) w a n c k) (hl : RowN (Nd D w) w a1 n1 c1 l) (hkl : n = n1) (hAk : ∀ u ∈ k, alF u = 0) (hA : ∀ u ∈ l, u.All (fun u => alF u = 0)) (hD : ∀ u ∈ l, u.deep ≤ 24) (hS : Tr.sizes l ≤ 1000000) (hT : Tab w.heap.size w) :
    Calls Tryd.prog 29 #[.slice a n c, .slice a1 n1 c1] w fun e w' => KidsR (optAll (List.zipWith (memF (txT D)) k l)) w.heap.size e w' ∧ Below w.heap.size w w' := by
  subst hkl
  have hx : Hid (k.length = n ∧ l.length = n) := ⟨hk.1, hl.1⟩
  have mk := hk.2.1.1
  have mk' := hk.2.1.2.1
  have ml := hl.2.1.1
  have ml' := hl.2.1.2.1
  unfold maxLen at mk' ml'
  have hRk : Hid (RowN (Nd D w) w a n c k) := hk
  have hR : Hid (RowN (Nd D w) w a1 n c1 l) := hl
  have hAD : Hid ((∀ u ∈ l, u.All (fun u => alF u = 0)) ∧ (∀ u ∈ l, u.deep ≤ 24) ∧ (∀ u ∈ k, alF u = 0)) := ⟨hA, hD, hAk⟩
  have hn' : Hid (l.length ≤ 1000000) := Nat.le_trans (Tr.length_le l) hS
  have hS' : Hid (Tr.sizes l ≤ 1000000) := hS
  have hT' : Hid (Tab w.heap.size w) := hT
  clear hk hl hA hD hAk hS hT
  go_enter Tryd.func29, Tryd.ntmps29
  go_wp2
  go_loopw [6, 7, 8, 9, 10, 13] (fun s6 _ _ _ _ s13 wr => ∃ (i : Nat) (v : Value) (m : List ByteArray), i ≤ n ∧ s6 = v ∧ s13 = .int .i64 i ∧ Hid (Below w.heap.size w wr) ∧ Hid (OwnsZ wr w.heap.size v m) ∧ Hid (List.zipWith (memF (txT D)) (k.take i) (l.take i) = m.map some)) (fun _ _ _ _ _ i _ => n - (intOf i).toNat)
  case atStart => exact ⟨0, _, [], Nat.zero_le _, rfl, rfl, Below.refl _ _, ownsZ_nil _ _, rfl⟩
  case round =>
    obtain ⟨i, v, m, him, rfl, rfl, hbl, hO, hM⟩ := hrel
    by_cases hlt : i < n
    · have hz : (i : Int) < (n : Int) := by omega
      have hiy : i < k.length := by rw [hx.out.1]; exact hlt
      have hix : i < l.length := by rw [hx.out.2]; exact hlt
      obtain ⟨bk, ok, nk, rfl, hck, hNk, hbk⟩ := row_el hRk.out hbl.out hiy
      obtain ⟨f0, f1, f2, f3, f4, f5, f6, f7, f8⟩ := elem_fields hck
      have hal := alloc_below wr (.cells nk.arr 26)
      have hBw : Hid (Below w.heap.size w (wr.alloc (.cells nk.arr 26))) := hbl.out.trans (hal.mono hbl.out.size)
      have hB : Hid (Below wr.heap.size wr (wr.alloc (.cells nk.arr 26))) := hal
      obtain ⟨bl, ol, nl, rfl, hcl, hNl, hbl0⟩ := row_el hR.out hBw.out hix
      obtain ⟨p0, p1, p2, p3, p4, p5, p6, p7, p8⟩ := elem_fields hcl
      rw [Nb.arr] at p0 p1 p2 p3 p4 p5 p6 p7 p8
      have kk := ih l[i] nl (wr.alloc (.cells nk.arr 26)) hNl (hAD.out.1 _ (List.getElem_mem hix)) (hAD.out.2.1 _ (List.getElem_mem hix)) (Nat.le_trans (Tr.size_le (List.getElem_mem hix)) hS'.out) ((hT'.out.on hBw.out).up hBw.out.size)
      have wi : IntKind.i64.wrap ((i : Int) + 1) = (i : Int) + 1 := by rw [IntKind.wrap_i64]; omega
      have hZ : Hid (List.zipWith (memF (txT D)) (k.take (i + 1)) (l.take (i + 1)) = List.zipWith (memF (txT D)) (k.take i) (l.take i) ++ [memF (txT D) k[i] l[i]]) := zip_take _ k l i hiy hix
      have hTN : Hid (memF (txT D) k[i] l[i] = none → optAll (List.zipWith (memF (txT D)) k l) = none) := fun h => opt_none i (by
        rw [List.getElem?_zipWith, List.getElem?_eq_getElem hiy, List.getElem?_eq_getElem hix]
        simp [h])
      have hks : nk.kind = k[i].kind ∧ nk.txt = k[i].txt := by
        cases D with
        | zero => exact hNk.elim
        | succ D => exact ⟨hNk.1.1, hNk.1.2.2.2.2.2⟩
      have hal0 : Hid (k[i].kind = 5 → k[i].txt.size ≤ 4096) := fun h => (al_txt (hAD.out.2.2 _ (List.getElem_mem hiy)) h).1
      have hml : Hid (m.length ≤ 1000000) := by show _ ≤ _; have := congrArg List.length hM.out; simp at this; have := hn'.out; omega
      have hsz : Hid (∀ s, txT D l[i] = some s → s.size ≤ 600000) := fun s h => by
        have := txT_size D l[i] s (hAD.out.1 _ (List.getElem_mem hix)) h
        have := hAD.out.2.1 _ (List.getElem_mem hix)
        omega
      have hmf : Hid (∀ s, nk.kind = 5 → txT D l[i] = some s → memF (txT D) k[i] l[i] = some (jnB [strOfNums (escA (bs nk.txt)), ⟨#[58]⟩, s])) := fun s h5 h => by
        unfold memF
        rw [← hks.1, if_pos h5, h, ← hks.2]
        rfl
      have hmn : Hid (nk.kind ≠ 5 ∨ txT D l[i] = none → memF (txT D) k[i] l[i] = none) := fun h => by
        unfold memF
        rw [← hks.1]
        rcases h with h | h
        · rw [if_neg h]
        · rw [h]; split <;> rfl
      rw [← hks.1, ← hks.2] at hal0
      have bx := (nbox_new wr nk).fields
      obtain ⟨q0, q1, q2, q3, q4, q5, q6, q7, q8⟩ := bx
      have X1 : Hid (NBox (wr.alloc (.cells nk.arr 26)) wr.heap.size nk) := nbox_new wr nk
      generalize memF (txT D) k[i] l[i] = mf at *
      generalize txT D l[i] = tx at *
      clear hck hNk hbk hcl hNl hbl0 hal hks
      go_wp2_with fail
      refine kk.mono ?_
      rintro e w2 ⟨⟨s, okv, rfl, hs⟩, hb2⟩
      have b2 : Hid (Below w.heap.size w w2) := hBw.out.trans (hb2.mono hBw.out.size)
      have O2 : Hid (OwnsZ w2 w.heap.size u6 m) := (hO.out.below hB.out).below (hb2.mono (Nat.le_refl _))
      have X2 : Hid (NBox w2 wr.heap.size nk) := X1.out.kept hb2 X1.out.lt
      obtain ⟨d0, d1, d2, d3, d4, d5, d6, d7, d8⟩ := X2.out.fields
      clear hb2 kk hO hB hBw X1 f0 f1 f2 f3 f4 f5 f6 f7 f8 p0 p1 p2 p3 p4 p5 p6 p7 p8 q0 q1 q2 q3 q4 q5 q6 q7 q8
      by_cases h5 : okv = true ∧ nk.kind = 5
      · obtain ⟨rfl, h5⟩ := h5
        have g5 : (nk.kind != 5) = false := by simp [h5]
        have ht := hs.out.1 rfl
        have hs1 : Hid (mf = some (jnB [strOfNums (escA (bs nk.txt)), ⟨#[58]⟩, s])) := hmf.out s h5 ht
        have hsz1 : Hid (s.size ≤ 600000 ∧ nk.txt.size ≤ 4096) := ⟨hsz.out s ht, hal0.out h5⟩
        have kE := escape_any nk.txt w2 (by have := hsz1.out.2; omega)
        have hes : Hid ((strOfNums (escA (bs nk.txt))).size ≤ 600000) := by show _ ≤ _; have := esc_size nk.txt; have := hsz1.out.2; omega
        generalize strOfNums (escA (bs nk.txt)) = es at *
        have hP3 : Hid (∀ u ∈ [es, ⟨#[58]⟩, s], u.size ≤ 1000000) := three_size (Nat.le_trans hes.out (by omega)) (by show 1 ≤ _; omega) (Nat.le_trans hsz1.out.1 (by omega))
        clear hs hsz hmf hmn hal0 ht h5 hTN
        go_wp2_with (first
          | (go_at_call 26; refine kE.mono ?_; rintro e w3 ⟨rfl, hb3⟩; have b3 : Hid (Below w.heap.size w w3) := b2.out.trans (hb3.mono b2.out.size); have O3 : Hid (OwnsZ w3 w.heap.size u6 m) := O2.out.below hb3; have kJ := join_any (some ⟨w3.heap.size, 0, none⟩) 3 3 [es, ⟨#[58]⟩, s] (w3.alloc (.cells #[.string es, .string ⟨#[58]⟩, .string s] 9)) rfl (strs_three w3 _ _ _) (Nat.le_refl _) (by omega) hP3.out; clear hb3 O2)
          | (go_at_call 23; refine kJ.mono ?_; rintro e w4 ⟨rfl, hb4⟩; have A4 := alloc_below w3 (.cells #[.string es, .string ⟨#[58]⟩, .string s] 9); have b4 : Hid (Below w.heap.size w w4) := (b3.out.trans (A4.mono b3.out.size)).trans (hb4.mono (Nat.le_trans b3.out.size A4.size)); have O4 : Hid (OwnsZ w4 w.heap.size u6 m) := (O3.out.below A4).below hb4; clear hb4 O3 A4 kJ)
          | (at_builtin; guard_hyp O4; refine wpList_append_strs rfl _ _ rfl w.heap.size u6 m [jnB [es, ⟨#[58]⟩, s]] rfl (O4.out.alloc _) (some ⟨w4.heap.size, 0, none⟩) 1 1 rfl rfl (by simp) (one_str w4 _) (by have := hml.out; simp; omega) (Nat.le_trans b4.out.size (by simp)) ?_; intro v5 w5 ho5 hg5; have b5 : Hid (Below w.heap.size w w5) := grownZ_below (b4.out.trans ((alloc_below w4 _).mono b4.out.size)) (O4.out.alloc _) hg5 (Nat.le_trans b4.out.size (by simp)); have O5 : Hid (OwnsZ w5 w.heap.size v5 (m ++ [jnB [es, ⟨#[58]⟩, s]])) := ho5; clear ho5 hg5 O4))
        go_roundw
        case rel => exact ⟨i + 1, v5, m ++ [jnB [es, ⟨#[58]⟩, s]], by omega, rfl, by go_num, b5, O5, by show _ = _; rw [hZ.out, hM.out, hs1.out]; simp⟩
        case measure => simp [intOf]; omega
      · have hmf0 : Hid (optAll (List.zipWith (memF (txT D)) k l) = none) := hTN.out (hmn.out (by
          by_cases q : nk.kind = 5
          · refine .inr (hs.out.2 ?_)
            cases okv with
            | true => exact absurd ⟨rfl, q⟩ h5
            | false => rfl
          · exact .inl q))
        clear hTN hmn hmf hsz hal0 hs
        cases okv with
        | false =>
          clear h5
          go_wp2_with fail
          refine bodyPost_ret (v := .tuple #[.slice none 0 0, .bool false]) (by simp [results, Tryd.results29, go_sem, *]) rfl ⟨⟨_, _, rfl, .inr ⟨rfl, rfl, hmf0.out⟩⟩, b2.out⟩
        | true =>
          have g5 : (nk.kind != 5) = true := by simp; intro h; exact h5 ⟨rfl, h⟩
          clear h5
          go_wp2_with fail
          refine bodyPost_ret (v := .tuple #[.slice none 0 0, .bool false]) (by simp [results, Tryd.results29, go_sem, *]) rfl ⟨⟨_, _, rfl, .inr ⟨rfl, rfl, hmf0.out⟩⟩, b2.out⟩
    · have hz : ¬ (i : Int) < (n : Int) := by omega
      have hM' : Hid (optAll (List.zipWith (memF (txT D)) k l) = some m) := by
        have := hM.out
        rw [List.take_of_length_le (by rw [hx.out.1]; omega), List.take_of_length_le (by rw [hx.out.2]; omega)] at this
        show _ = _
        rw [this]
        exact opt_some m
      clear hM
      go_wp2_with fail
      refine bodyPost_ret (v := .tuple #[u6, .bool true]) (by simp [results, Tryd.results29, go_sem, *]) rfl ⟨⟨_, _, rfl, .inl ⟨rfl, m, hM'.out, hO.out⟩⟩, hbl.out⟩
end Go.Proofs.YtelabgonpmafpaaDoor
namespace Go.Proofs.YtelabgonpmafpaaDoor
open Go.RowKit
set_option linter.unusedVariables false
theorem tx_null {d : Nat} {t : Tr} (h : t.kind = 0) : txT (d + 1) t = some sNull := by rw [txT, if_pos h]
theorem tx_bool {d : Nat} {t : Tr} (h : t.kind = 1) : txT (d + 1) t = some (if t.num = 1 then sTrue else sFalse) := by rw [txT, if_neg (by omega), if_pos h]
theorem tx_int {d : Nat} {t : Tr} (h : t.kind = 2) : txT (d + 1) t = some (jnB [sign t.neg, t.dig]) := by rw [txT, if_neg (by omega), if_neg (by omega), if_pos h]
theorem tx_dec {d : Nat} {t : Tr} (h : t.kind = 3) : txT (d + 1) t = some (textA t.neg t.dig t.exp) := by rw [txT, if_neg (by omega), if_neg (by omega), if_neg (by omega), if_pos h]
theorem tx_text {d : Nat} {t : Tr} (h : t.kind = 5) : txT (d + 1) t = some (strOfNums (escA (bs t.txt))) := by rw [txT, if_neg (by omega), if_neg (by omega), if_neg (by omega), if_neg (by omega), if_pos h]
theorem tx_arr {d : Nat} {t : Tr} (h : t.kind = 7) : txT (d + 1) t = (optAll (t.kids.map (txT d))).map fun l => jnB [⟨#[91]⟩, jnB (rowP l), ⟨#[93]⟩] := by rw [txT, if_neg (by omega), if_neg (by omega), if_neg (by omega), if_neg (by omega), if_neg (by omega), if_pos h]
theorem tx_map {d : Nat} {t : Tr} (h : t.kind = 8) : txT (d + 1) t = (optAll (List.zipWith (memF (txT d)) t.keys t.kids)).map fun l => jnB [⟨#[123]⟩, jnB (rowP l), ⟨#[125]⟩] := by rw [txT, if_neg (by omega), if_neg (by omega), if_neg (by omega), if_neg (by omega), if_neg (by omega), if_neg (by omega), if_pos h]
theorem tx_else {d : Nat} {t : Tr} (h : t.kind ≠ 0 ∧ t.kind ≠ 1 ∧ t.kind ≠ 2 ∧ t.kind ≠ 3 ∧ t.kind ≠ 5 ∧ t.kind ≠ 7 ∧ t.kind ≠ 8) : txT (d + 1) t = none := by
  rw [txT, if_neg h.1, if_neg h.2.1, if_neg h.2.2.1, if_neg h.2.2.2.1, if_neg h.2.2.2.2.1, if_neg h.2.2.2.2.2.1, if_neg h.2.2.2.2.2.2]
theorem bool_any (y : Bool) (w : World) : Calls Tryd.prog 22 #[.bool y] w fun e w' => e = .returned (.string (if y = true then sTrue else sFalse)) ∧ w' = w := by
  cases y with
  | true =>
    go_enter Tryd.func22, Tryd.ntmps22
    go_wp2
    go_ret
    exact ⟨rfl, rfl⟩
  | false =>
    go_enter Tryd.func22, Tryd.ntmps22
    go_wp2
    go_ret
    exact ⟨rfl, rfl⟩
theorem sign_any (y : Bool) (w : World) : Calls Tryd.prog 24 #[.bool y] w fun e w' => e = .returned (.string (sign y)) ∧ w' = w := by
  cases y with
  | true =>
    go_enter Tryd.func24, Tryd.ntmps24
    go_wp2
    go_ret
    exact ⟨rfl, rfl⟩
  | false =>
    go_enter Tryd.func24, Tryd.ntmps24
    go_wp2
    go_ret
    exact ⟨rfl, rfl⟩
theorem strs_two (w : World) (x y : ByteArray) : Strs (w.alloc (.cells #[.string x, .string y] 9)) (some ⟨w.heap.size, 0, none⟩) [x, y] := strs_row w [x, y] (by simp [maxLen])
theorem two_size {x y : ByteArray} {M : Nat} (h1 : x.size ≤ M) (h2 : y.size ≤ M) : ∀ u ∈ [x, y], u.size ≤ M := by
  intro u hu
  simp only [List.mem_cons, List.not_mem_nil, or_false] at hu
  rcases hu with rfl | rfl
  · exact h1
  · exact h2
end Go.Proofs.YtelabgonpmafpaaDoor
namespace Go.Proofs.YtelabgonpmafpaaDoor
open Go.RowKit
set_option linter.unusedVariables false
theorem strs_drew {w : World} {a : Option Addr} {l : List ByteArray} (h : Strs w a l) : Strs w.drew a l := h
theorem deep_kids {t : Tr} (h : t.deep ≤ 24) : ∀ u ∈ t.kids, u.deep ≤ 24 := fun u hu => by have := Tr.kid_deep hu; omega
set_option maxHeartbeats 4000000 in
set_option maxRecDepth 100000 in
theorem text_step {D : Nat} (ih : TextAt D) : TextAt (D + 1) := by
  intro t b w hN hA hD hS hT
  obtain ⟨h0, hak, hai⟩ := (Tr.all_eq _ t).1 hA
  have e0 : b.kind = t.kind := hN.1.1
  have e1 : b.num = t.num := hN.1.2.1
  have e2 : b.neg = t.neg := hN.1.2.2.1
  have e3 : b.dig = t.dig := hN.1.2.2.2.1
  have e4 : b.exp = t.exp := hN.1.2.2.2.2.1
  have e5 : b.txt = t.txt := hN.1.2.2.2.2.2
  have hal := alloc_below w (.cells b.arr 26)
  have B1 : Hid (Below w.heap.size w (w.alloc (.cells b.arr 26))) := hal
  have rk := (hN.2.2.2.1).kept (R := Nd D (w.alloc (.cells b.arr 26))) hal (fun _ _ _ q => q.kept hal)
  have ri := (hN.2.2.2.2).kept (R := Nd D (w.alloc (.cells b.arr 26))) hal (fun _ _ _ q => q.kept hal)
  have T1 : Hid (Tab (w.alloc (.cells b.arr 26)).heap.size (w.alloc (.cells b.arr 26))) := (hT.on hal).up hal.size
  have LP : Hid (w.heap.size < (w.alloc (.cells b.arr 26)).heap.size) := by show _ < _; simp
  obtain ⟨f0, f1, f2, f3, f4, f5, f6, f7, f8⟩ := (nbox_new w b).fields
  have hsz := Tr.size_eq t
  clear hN hal hT
  by_cases k0 : t.kind = 0
  · have hk : b.kind = 0 := by rw [e0, k0]
    have g0 : (b.kind == 0) = true := by rw [hk]; rfl
    have g1 : (b.kind == 1) = false := by rw [hk]; rfl
    have g2 : (b.kind == 2) = false := by rw [hk]; rfl
    have g3 : (b.kind == 3) = false := by rw [hk]; rfl
    have g5 : (b.kind == 5) = false := by rw [hk]; rfl
    have g7 : (b.kind == 7) = false := by rw [hk]; rfl
    have g8 : (b.kind == 8) = false := by rw [hk]; rfl
    have hx : Hid (txT (D + 1) t = some sNull) := tx_null k0
    clear hk e0 e1 e2 e3 e4 e5 rk ri k0
    go_enter Tryd.func14, Tryd.ntmps14
    go_wp2_with fail
    refine bodyPost_ret (v := .tuple #[.string ⟨#[110, 117, 108, 108]⟩, .bool true]) (by simp [results, Tryd.results14, go_sem, *]) rfl ⟨⟨_, _, rfl, fun _ => hx.out, fun h => by cases h⟩, B1.out⟩
  by_cases k1 : t.kind = 1
  · have hk : b.kind = 1 := by rw [e0, k1]
    have g0 : (b.kind == 0) = false := by rw [hk]; rfl
    have g1 : (b.kind == 1) = true := by rw [hk]; rfl
    have g2 : (b.kind == 2) = false := by rw [hk]; rfl
    have g3 : (b.kind == 3) = false := by rw [hk]; rfl
    have g5 : (b.kind == 5) = false := by rw [hk]; rfl
    have g7 : (b.kind == 7) = false := by rw [hk]; rfl
    have g8 : (b.kind == 8) = false := by rw [hk]; rfl
    have hx : Hid (txT (D + 1) t = some (if (b.num == 1) = true then sTrue else sFalse)) := by show _ = _; rw [tx_bool k1, e1]; simp
    have kB : Hid (∀ wx, Calls Tryd.prog 22 #[.bool (b.num == 1)] wx fun e w' => e = .returned (.string (if (b.num == 1) = true then sTrue else sFalse)) ∧ w' = wx) := fun wx => bool_any _ wx
    generalize (if (b.num == 1) = true then sTrue else sFalse) = sb at *
    clear hk e0 e1 e2 e3 e4 e5 rk ri k0 k1
    go_enter Tryd.func14, Tryd.ntmps14
    go_wp2_with (go_at_call 22; refine (kB.out _).mono ?_; rintro e w2 ⟨rfl, rfl⟩)
    refine bodyPost_ret (v := .tuple #[.string sb, .bool true]) (by simp [results, Tryd.results14, go_sem, *]) rfl ⟨⟨_, _, rfl, fun _ => hx.out, fun h => by cases h⟩, B1.out⟩
  by_cases k2 : t.kind = 2
  · have hk : b.kind = 2 := by rw [e0, k2]
    have g0 : (b.kind == 0) = false := by rw [hk]; rfl
    have g1 : (b.kind == 1) = false := by rw [hk]; rfl
    have g2 : (b.kind == 2) = true := by rw [hk]; rfl
    have g3 : (b.kind == 3) = false := by rw [hk]; rfl
    have g5 : (b.kind == 5) = false := by rw [hk]; rfl
    have g7 : (b.kind == 7) = false := by rw [hk]; rfl
    have g8 : (b.kind == 8) = false := by rw [hk]; rfl
    have hx : Hid (txT (D + 1) t = some (jnB [sign b.neg, b.dig])) := by show _ = _; rw [tx_int k2, e2, e3]
    have hm : Hid (∀ u ∈ [sign b.neg, b.dig], u.size ≤ 1000000) := two_size (Nat.le_trans (sign_size _) (by omega)) (by rw [e3]; exact Nat.le_trans (al_dig h0 k2).1 (by omega))
    have kS : Hid (∀ wx, Calls Tryd.prog 24 #[.bool b.neg] wx fun e w' => e = .returned (.string (sign b.neg)) ∧ w' = wx) := fun wx => sign_any b.neg wx
    have kJ : Hid (∀ q wx, Strs wx (some ⟨q, 0, none⟩) [sign b.neg, b.dig] → Calls Tryd.prog 23 #[.slice (some ⟨q, 0, none⟩) 2 2] wx fun e w' => e = .returned (.string (jnB [sign b.neg, b.dig])) ∧ Below wx.heap.size wx w') := fun q wx hs => join_any _ 2 2 [sign b.neg, b.dig] wx rfl hs (Nat.le_refl _) (by omega) hm.out
    generalize sign b.neg = sg at *
    clear hm
    clear hk e0 e1 e2 e3 e4 e5 rk ri k0 k1 k2
    go_enter Tryd.func14, Tryd.ntmps14
    go_wp2_with fail
    have PB : Hid (∀ w', Below (w.alloc (.cells b.arr 26)).heap.size (w.alloc (.cells b.arr 26)) w' → Below w.heap.size w w') := fun w' h => B1.out.trans (h.mono B1.out.size)
    generalize w.alloc (.cells b.arr 26) = W1 at *
    have S1 : Hid (W1.cell? ⟨w.heap.size, 2, none⟩ = some (.bool b.neg) ∧ W1.cell? ⟨w.heap.size, 3, none⟩ = some (.string b.dig)) := ⟨f2, f3⟩
    have S2 : Hid (∀ w', Below W1.heap.size W1 w' → w'.cell? ⟨w.heap.size, 2, none⟩ = some (.bool b.neg) ∧ w'.cell? ⟨w.heap.size, 3, none⟩ = some (.string b.dig)) := fun w' h => ⟨(h.cell (p := ⟨w.heap.size, 2, none⟩) LP.out).trans f2, (h.cell (p := ⟨w.heap.size, 3, none⟩) LP.out).trans f3⟩
    have A2 : Hid (Below W1.heap.size W1 (W1.alloc (.cells #[.string sg, .string b.dig] 9))) := alloc_below W1 _
    have A3 : Hid (Below W1.heap.size W1 (W1.alloc (.cells #[.string sg, .string b.dig] 9)).drew) := (alloc_below W1 _).drew
    have z2 : Hid (Strs (W1.alloc (.cells #[.string sg, .string b.dig] 9)) (some ⟨W1.heap.size, 0, none⟩) [sg, b.dig]) := strs_two W1 sg b.dig
    clear f0 f1 f2 f3 f4 f5 f6 f7 f8
    go_region_held3 (fun wx => wx.cell? ⟨w.heap.size, 2, none⟩ = some (.bool b.neg) ∧ wx.cell? ⟨w.heap.size, 3, none⟩ = some (.string b.dig)) (first | exact S1.out | exact S2.out _ A3.out | exact S2.out _ A2.out | exact S2.out _ B4.out) (first
      | (go_at_call 24; refine (kS.out _).mono ?_; rintro e w2 ⟨rfl, rfl⟩; clear kS)
      | (go_at_call 23; refine (kJ.out _ _ (strs_drew z2.out)).mono ?_; rintro e w4 ⟨rfl, hb4⟩; have B4 : Hid (Below W1.heap.size W1 w4) := A2.out.trans (Below.mono ⟨hb4.os, hb4.tape, hb4.output, hb4.size, hb4.block⟩ A2.out.size); clear hb4))
    go_wp2_with fail
    refine bodyPost_ret (v := .tuple #[.string (jnB [sg, b.dig]), .bool true]) (by simp [results, Tryd.results14, go_sem, *]) rfl ⟨⟨_, _, rfl, fun _ => hx.out, fun h => by cases h⟩, PB.out _ B4.out⟩
  by_cases k3 : t.kind = 3
  · have hk : b.kind = 3 := by rw [e0, k3]
    have g0 : (b.kind == 0) = false := by rw [hk]; rfl
    have g1 : (b.kind == 1) = false := by rw [hk]; rfl
    have g2 : (b.kind == 2) = false := by rw [hk]; rfl
    have g3 : (b.kind == 3) = true := by rw [hk]; rfl
    have g5 : (b.kind == 5) = false := by rw [hk]; rfl
    have g7 : (b.kind == 7) = false := by rw [hk]; rfl
    have g8 : (b.kind == 8) = false := by rw [hk]; rfl
    have hx : Hid (txT (D + 1) t = some (textA b.neg b.dig b.exp)) := by show _ = _; rw [tx_dec k3, e2, e3, e4]
    have kT := text_any b.neg b.dig b.exp (w.alloc (.cells b.arr 26)) T1.out
    generalize textA b.neg b.dig b.exp = sx at *
    clear hk e0 e1 e2 e3 e4 e5 rk ri k0 k1 k2 k3
    go_enter Tryd.func14, Tryd.ntmps14
    go_wp2_with (go_at_call 25; refine kT.mono ?_; rintro e w2 ⟨rfl, hb2⟩)
    refine bodyPost_ret (v := .tuple #[.string sx, .bool true]) (by simp [results, Tryd.results14, go_sem, *]) rfl ⟨⟨_, _, rfl, fun _ => hx.out, fun h => by cases h⟩, B1.out.trans (hb2.mono B1.out.size)⟩
  by_cases k5 : t.kind = 5
  · have hk : b.kind = 5 := by rw [e0, k5]
    have g0 : (b.kind == 0) = false := by rw [hk]; rfl
    have g1 : (b.kind == 1) = false := by rw [hk]; rfl
    have g2 : (b.kind == 2) = false := by rw [hk]; rfl
    have g3 : (b.kind == 3) = false := by rw [hk]; rfl
    have g5 : (b.kind == 5) = true := by rw [hk]; rfl
    have g7 : (b.kind == 7) = false := by rw [hk]; rfl
    have g8 : (b.kind == 8) = false := by rw [hk]; rfl
    have hx : Hid (txT (D + 1) t = some (strOfNums (escA (bs b.txt)))) := by show _ = _; rw [tx_text k5, e5]
    have kE := escape_any b.txt (w.alloc (.cells b.arr 26)) (by rw [e5]; have := (al_txt h0 k5).1; omega)
    generalize strOfNums (escA (bs b.txt)) = sx at *
    clear hk e0 e1 e2 e3 e4 e5 rk ri k0 k1 k2 k3 k5
    go_enter Tryd.func14, Tryd.ntmps14
    go_wp2_with (go_at_call 26; refine kE.mono ?_; rintro e w2 ⟨rfl, hb2⟩)
    refine bodyPost_ret (v := .tuple #[.string sx, .bool true]) (by simp [results, Tryd.results14, go_sem, *]) rfl ⟨⟨_, _, rfl, fun _ => hx.out, fun h => by cases h⟩, B1.out.trans (hb2.mono B1.out.size)⟩
  by_cases k7 : t.kind = 7
  · have hk : b.kind = 7 := by rw [e0, k7]
    have g0 : (b.kind == 0) = false := by rw [hk]; rfl
    have g1 : (b.kind == 1) = false := by rw [hk]; rfl
    have g2 : (b.kind == 2) = false := by rw [hk]; rfl
    have g3 : (b.kind == 3) = false := by rw [hk]; rfl
    have g5 : (b.kind == 5) = false := by rw [hk]; rfl
    have g7 : (b.kind == 7) = true := by rw [hk]; rfl
    have g8 : (b.kind == 8) = false := by rw [hk]; rfl
    have hx : Hid (txT (D + 1) t = (optAll (t.kids.map (txT D))).map fun l => jnB [⟨#[91]⟩, jnB (rowP l), ⟨#[93]⟩]) := tx_arr k7
    have hms : ∀ m, optAll (t.kids.map (txT D)) = some m → ∀ x ∈ m, x.size ≤ 900000 := fun m hm x hx => by
      have hx' : some x ∈ t.kids.map (txT D) := by rw [opt_mem hm]; exact List.mem_map_of_mem hx
      obtain ⟨u, hu, hx'⟩ := List.mem_map.1 hx'
      have h1 := txT_size D u x (hai u hu) hx'
      have h2 := deep_kids hD u hu
      omega
    have hlen : Hid (∀ m, optAll (t.kids.map (txT D)) = some m → m.length ≤ 1000000) := fun m hm => by
      have := congrArg List.length (opt_mem hm)
      simp at this
      have := Tr.length_le t.kids
      omega
    have kk := kids_step ih b.ai b.li b.ci t.kids (w.alloc (.cells b.arr 26)) ri hai (deep_kids hD) (by omega) T1.out
    have hsz2 : Hid (∀ m, optAll (t.kids.map (txT D)) = some m → ∀ x ∈ m, x.size ≤ 900000) := hms
    have kR : Hid (∀ m a n c wx, m.length = n → Strs wx a m → n ≤ c → c ≤ 9223372036854775807 → n ≤ 1000000 → (∀ x ∈ m, x.size ≤ 900000) → Calls Tryd.prog 28 #[.slice a n c] wx fun e w' => e = .returned (.string (jnB (rowP m))) ∧ Below wx.heap.size wx w') := fun m a n c wx h1 h2 h3 h4 h5 h6 => row_any a n c m wx h1 h2 h3 h4 h5 (fun x hx => Nat.le_trans (h6 x hx) (by omega))
    have kJ : Hid (∀ m wx, (∀ x ∈ m, x.size ≤ 900000) → Calls Tryd.prog 23 #[.slice (some ⟨wx.heap.size, 0, none⟩) 3 3] (wx.alloc (.cells #[.string ⟨#[91]⟩, .string (jnB (rowP m)), .string ⟨#[93]⟩] 9)) fun e w' => e = .returned (.string (jnB [⟨#[91]⟩, jnB (rowP m), ⟨#[93]⟩])) ∧ Below wx.heap.size wx w') := fun m wx hm => (join_any _ 3 3 [⟨#[91]⟩, jnB (rowP m), ⟨#[93]⟩] _ rfl (strs_three wx _ _ _) (Nat.le_refl _) (by omega) (three_size (by show 1 ≤ _; omega) (Nat.le_trans (jnB_size _ 900000 (fun x hx => by rcases rowP_mem hx with h | rfl; exact hm x h; show 1 ≤ _; omega)) (by omega)) (by show 1 ≤ _; omega))).mono fun e w' ⟨h1, h2⟩ => ⟨h1, (alloc_below wx _).trans (h2.mono (alloc_below wx _).size)⟩
    clear hms
    clear hk e0 e1 e2 e3 e4 e5 rk ri hai hak hA k0 k1 k2 k3 k5 k7
    go_enter Tryd.func14, Tryd.ntmps14
    go_wp2_with fail
    refine kk.mono ?_
    rintro e w2 ⟨⟨v, okv, rfl, hv⟩, hb2⟩
    have b2 : Hid (Below w.heap.size w w2) := B1.out.trans (hb2.mono B1.out.size)
    clear kk hb2
    rcases hv.out with ⟨rfl, m, hm, hO⟩ | ⟨rfl, rfl, hm⟩
    · obtain ⟨a2, n2, c2, rfl, hl2, _, hc2, hm2, hs2⟩ := hO.form
      have hM := hsz2.out m hm
      have kr := kR.out m a2 n2 c2 w2 hl2.out hs2.out hc2 hm2 (by rw [← hl2.out]; exact hlen.out m hm) hM
      have hx2 : Hid (txT (D + 1) t = some (jnB [⟨#[91]⟩, jnB (rowP m), ⟨#[93]⟩])) := hx.out.trans (by rw [hm]; rfl)
      have kj : Hid (∀ wx, Calls Tryd.prog 23 #[.slice (some ⟨wx.heap.size, 0, none⟩) 3 3] (wx.alloc (.cells #[.string ⟨#[91]⟩, .string (jnB (rowP m)), .string ⟨#[93]⟩] 9)) fun e w' => e = .returned (.string (jnB [⟨#[91]⟩, jnB (rowP m), ⟨#[93]⟩])) ∧ Below wx.heap.size wx w') := fun wx => kJ.out m wx hM
      generalize jnB [⟨#[91]⟩, jnB (rowP m), ⟨#[93]⟩] = R at *
      generalize jnB (rowP m) = rw0 at *
      clear hO hl2 hs2 hM hv hm hx kR kJ hsz2 hlen
      go_wp2_with (first
        | (go_at_call 28; refine kr.mono ?_; rintro e w3 ⟨rfl, hb3⟩; have b3 : Hid (Below w.heap.size w w3) := b2.out.trans (hb3.mono b2.out.size); clear hb3)
        | (go_at_call 23; refine (kj.out w3).mono ?_; rintro e w4 ⟨rfl, hb4⟩))
      refine bodyPost_ret (v := .tuple #[.string R, .bool true]) (by simp [results, Tryd.results14, go_sem, *]) rfl ⟨⟨_, _, rfl, fun _ => hx2.out, fun h => by cases h⟩, b3.out.trans (hb4.mono b3.out.size)⟩
    · have kr := kR.out [] none 0 0 w2 rfl ⟨by simp [maxLen], .inl rfl⟩ (Nat.le_refl _) (by omega) (by omega) (by simp)
      have hx2 : Hid (txT (D + 1) t = none) := hx.out.trans (by rw [hm]; rfl)
      have kj : Hid (∀ wx, Calls Tryd.prog 23 #[.slice (some ⟨wx.heap.size, 0, none⟩) 3 3] (wx.alloc (.cells #[.string ⟨#[91]⟩, .string (jnB (rowP [])), .string ⟨#[93]⟩] 9)) fun e w' => e = .returned (.string (jnB [⟨#[91]⟩, jnB (rowP []), ⟨#[93]⟩])) ∧ Below wx.heap.size wx w') := fun wx => kJ.out [] wx (by simp)
      generalize jnB [⟨#[91]⟩, jnB (rowP []), ⟨#[93]⟩] = R at *
      generalize jnB (rowP []) = rw0 at *
      clear hv hm hx kR kJ hsz2 hlen
      go_wp2_with (first
        | (go_at_call 28; refine kr.mono ?_; rintro e w3 ⟨rfl, hb3⟩; have b3 : Hid (Below w.heap.size w w3) := b2.out.trans (hb3.mono b2.out.size); clear hb3)
        | (go_at_call 23; refine (kj.out w3).mono ?_; rintro e w4 ⟨rfl, hb4⟩))
      refine bodyPost_ret (v := .tuple #[.string R, .bool false]) (by simp [results, Tryd.results14, go_sem, *]) rfl ⟨⟨_, _, rfl, (fun h => by cases h), fun _ => hx2.out⟩, b3.out.trans (hb4.mono b3.out.size)⟩
  by_cases k8 : t.kind = 8
  · have hk : b.kind = 8 := by rw [e0, k8]
    have g0 : (b.kind == 0) = false := by rw [hk]; rfl
    have g1 : (b.kind == 1) = false := by rw [hk]; rfl
    have g2 : (b.kind == 2) = false := by rw [hk]; rfl
    have g3 : (b.kind == 3) = false := by rw [hk]; rfl
    have g5 : (b.kind == 5) = false := by rw [hk]; rfl
    have g7 : (b.kind == 7) = false := by rw [hk]; rfl
    have g8 : (b.kind == 8) = true := by rw [hk]; rfl
    have hx : Hid (txT (D + 1) t = (optAll (List.zipWith (memF (txT D)) t.keys t.kids)).map fun l => jnB [⟨#[123]⟩, jnB (rowP l), ⟨#[125]⟩]) := tx_map k8
    have hms : ∀ m, optAll (List.zipWith (memF (txT D)) t.keys t.kids) = some m → ∀ x ∈ m, x.size ≤ 900000 := fun m hm x hx => by
      have hx' : some x ∈ List.zipWith (memF (txT D)) t.keys t.kids := by rw [opt_mem hm]; exact List.mem_map_of_mem hx
      obtain ⟨k, u, hk1, hu, hx'⟩ := zip_mem hx'
      simp only [memF] at hx'
      by_cases k5' : k.kind = 5
      · rw [if_pos k5'] at hx'
        cases hxu : txT D u with
        | none => rw [hxu] at hx'; cases hx'
        | some y =>
          rw [hxu] at hx'; simp only [Option.map_some, Option.some.injEq] at hx'; subst hx'
          have h1 := txT_size D u y (hai u hu) hxu
          have h2 := deep_kids hD u hu
          have h3 := (al_txt ((Tr.all_eq _ k).1 (hak k hk1)).1 k5').1
          have h4 := esc_size k.txt
          exact Nat.le_trans (jnB_size _ 600000 (three_size (by omega) (by show 1 ≤ _; omega) (by omega))) (by omega)
      · rw [if_neg k5'] at hx'; cases hx'
    have hlen : Hid (∀ m, optAll (List.zipWith (memF (txT D)) t.keys t.kids) = some m → m.length ≤ 1000000) := fun m hm => by
      have := congrArg List.length (opt_mem hm)
      simp at this
      have := Tr.length_le t.kids
      omega
    have kk := memb_step ih b.ak b.ai b.lk b.ck b.li b.ci t.keys t.kids (w.alloc (.cells b.arr 26)) rk ri (by rw [← rk.1, ← ri.1]; exact al_map h0 k8) (fun u hu => ((Tr.all_eq _ u).1 (hak u hu)).1) hai (deep_kids hD) (by omega) T1.out
    have hsz2 : Hid (∀ m, optAll (List.zipWith (memF (txT D)) t.keys t.kids) = some m → ∀ x ∈ m, x.size ≤ 900000) := hms
    have kR : Hid (∀ m a n c wx, m.length = n → Strs wx a m → n ≤ c → c ≤ 9223372036854775807 → n ≤ 1000000 → (∀ x ∈ m, x.size ≤ 900000) → Calls Tryd.prog 28 #[.slice a n c] wx fun e w' => e = .returned (.string (jnB (rowP m))) ∧ Below wx.heap.size wx w') := fun m a n c wx h1 h2 h3 h4 h5 h6 => row_any a n c m wx h1 h2 h3 h4 h5 (fun x hx => Nat.le_trans (h6 x hx) (by omega))
    have kJ : Hid (∀ m wx, (∀ x ∈ m, x.size ≤ 900000) → Calls Tryd.prog 23 #[.slice (some ⟨wx.heap.size, 0, none⟩) 3 3] (wx.alloc (.cells #[.string ⟨#[123]⟩, .string (jnB (rowP m)), .string ⟨#[125]⟩] 9)) fun e w' => e = .returned (.string (jnB [⟨#[123]⟩, jnB (rowP m), ⟨#[125]⟩])) ∧ Below wx.heap.size wx w') := fun m wx hm => (join_any _ 3 3 [⟨#[123]⟩, jnB (rowP m), ⟨#[125]⟩] _ rfl (strs_three wx _ _ _) (Nat.le_refl _) (by omega) (three_size (by show 1 ≤ _; omega) (Nat.le_trans (jnB_size _ 900000 (fun x hx => by rcases rowP_mem hx with h | rfl; exact hm x h; show 1 ≤ _; omega)) (by omega)) (by show 1 ≤ _; omega))).mono fun e w' ⟨h1, h2⟩ => ⟨h1, (alloc_below wx _).trans (h2.mono (alloc_below wx _).size)⟩
    clear hms
    clear hk e0 e1 e2 e3 e4 e5 rk ri hai hak hA k0 k1 k2 k3 k5 k7 k8
    go_enter Tryd.func14, Tryd.ntmps14
    go_wp2_with fail
    refine kk.mono ?_
    rintro e w2 ⟨⟨v, okv, rfl, hv⟩, hb2⟩
    have b2 : Hid (Below w.heap.size w w2) := B1.out.trans (hb2.mono B1.out.size)
    clear kk hb2
    rcases hv.out with ⟨rfl, m, hm, hO⟩ | ⟨rfl, rfl, hm⟩
    · obtain ⟨a2, n2, c2, rfl, hl2, _, hc2, hm2, hs2⟩ := hO.form
      have hM := hsz2.out m hm
      have kr := kR.out m a2 n2 c2 w2 hl2.out hs2.out hc2 hm2 (by rw [← hl2.out]; exact hlen.out m hm) hM
      have hx2 : Hid (txT (D + 1) t = some (jnB [⟨#[123]⟩, jnB (rowP m), ⟨#[125]⟩])) := hx.out.trans (by rw [hm]; rfl)
      have kj : Hid (∀ wx, Calls Tryd.prog 23 #[.slice (some ⟨wx.heap.size, 0, none⟩) 3 3] (wx.alloc (.cells #[.string ⟨#[123]⟩, .string (jnB (rowP m)), .string ⟨#[125]⟩] 9)) fun e w' => e = .returned (.string (jnB [⟨#[123]⟩, jnB (rowP m), ⟨#[125]⟩])) ∧ Below wx.heap.size wx w') := fun wx => kJ.out m wx hM
      generalize jnB [⟨#[123]⟩, jnB (rowP m), ⟨#[125]⟩] = R at *
      generalize jnB (rowP m) = rw0 at *
      clear hO hl2 hs2 hM hv hm hx kR kJ hsz2 hlen
      go_wp2_with (first
        | (go_at_call 28; refine kr.mono ?_; rintro e w3 ⟨rfl, hb3⟩; have b3 : Hid (Below w.heap.size w w3) := b2.out.trans (hb3.mono b2.out.size); clear hb3)
        | (go_at_call 23; refine (kj.out w3).mono ?_; rintro e w4 ⟨rfl, hb4⟩))
      refine bodyPost_ret (v := .tuple #[.string R, .bool true]) (by simp [results, Tryd.results14, go_sem, *]) rfl ⟨⟨_, _, rfl, fun _ => hx2.out, fun h => by cases h⟩, b3.out.trans (hb4.mono b3.out.size)⟩
    · have kr := kR.out [] none 0 0 w2 rfl ⟨by simp [maxLen], .inl rfl⟩ (Nat.le_refl _) (by omega) (by omega) (by simp)
      have hx2 : Hid (txT (D + 1) t = none) := hx.out.trans (by rw [hm]; rfl)
      have kj : Hid (∀ wx, Calls Tryd.prog 23 #[.slice (some ⟨wx.heap.size, 0, none⟩) 3 3] (wx.alloc (.cells #[.string ⟨#[123]⟩, .string (jnB (rowP [])), .string ⟨#[125]⟩] 9)) fun e w' => e = .returned (.string (jnB [⟨#[123]⟩, jnB (rowP []), ⟨#[125]⟩])) ∧ Below wx.heap.size wx w') := fun wx => kJ.out [] wx (by simp)
      generalize jnB [⟨#[123]⟩, jnB (rowP []), ⟨#[125]⟩] = R at *
      generalize jnB (rowP []) = rw0 at *
      clear hv hm hx kR kJ hsz2 hlen
      go_wp2_with (first
        | (go_at_call 28; refine kr.mono ?_; rintro e w3 ⟨rfl, hb3⟩; have b3 : Hid (Below w.heap.size w w3) := b2.out.trans (hb3.mono b2.out.size); clear hb3)
        | (go_at_call 23; refine (kj.out w3).mono ?_; rintro e w4 ⟨rfl, hb4⟩))
      refine bodyPost_ret (v := .tuple #[.string R, .bool false]) (by simp [results, Tryd.results14, go_sem, *]) rfl ⟨⟨_, _, rfl, (fun h => by cases h), fun _ => hx2.out⟩, b3.out.trans (hb4.mono b3.out.size)⟩
  have hx : Hid (txT (D + 1) t = none) := tx_else ⟨k0, k1, k2, k3, k5, k7, k8⟩
  have g0 : (b.kind == 0) = false := by rw [e0]; simpa using k0
  have g1 : (b.kind == 1) = false := by rw [e0]; simpa using k1
  have g2 : (b.kind == 2) = false := by rw [e0]; simpa using k2
  have g3 : (b.kind == 3) = false := by rw [e0]; simpa using k3
  have g5 : (b.kind == 5) = false := by rw [e0]; simpa using k5
  have g7 : (b.kind == 7) = false := by rw [e0]; simpa using k7
  have g8 : (b.kind == 8) = false := by rw [e0]; simpa using k8
  clear e0 e1 e2 e3 e4 e5 k0 k1 k2 k3 k5 k7 k8 rk ri
  go_enter Tryd.func14, Tryd.ntmps14
  go_wp2_with fail
  refine bodyPost_ret (v := .tuple #[.string ⟨#[]⟩, .bool false]) (by simp [results, Tryd.results14, go_sem, *]) rfl ⟨⟨_, _, rfl, (fun h => by cases h), fun _ => hx.out⟩, B1.out⟩
/-- jsay.textOf. -/
theorem textof_all : ∀ D, TextAt D := by
  intro D
  induction D with
  | zero => intro t b w h; exact h.elim
  | succ D ih => exact text_step ih
end Go.Proofs.YtelabgonpmafpaaDoor
namespace Go.Proofs.YtelabgonpmafpaaDoor
open Go.RowKit
set_option linter.unusedVariables false
theorem chk_null {t : Tr} {er : Int} (h : Tr.ChkIs alF t er) : er = 0 ↔ t.May (fun u => alF u = 0) :=
  ⟨fun e => (Tr.chk_may alF_shaped).1 (by rw [e] at h; exact h), fun e => Tr.chk_one h ((Tr.chk_may alF_shaped).2 e)⟩
/-- What jsay.tell answers. -/
def TellR (D : Nat) (t : Tr) (s : ByteArray) (er : Int) : Prop := (Tr.ChkIs alF t er ∧ er ≠ 0 ∧ s = ⟨#[]⟩) ∨ (t.May (fun u => alF u = 0) ∧ txT D t = none ∧ er = 12 ∧ s = ⟨#[]⟩) ∨ (t.May (fun u => alF u = 0) ∧ txT D t = some s ∧ er = 0)
set_option maxHeartbeats 2000000 in
set_option maxRecDepth 100000 in
theorem tell_any {D : Nat} {t : Tr} {b : Nb} {w : World} (hN : Nd D w b t) (hT : Tab w.heap.size w) :
    Calls Tryd.prog 9 #[.agg b.arr] w fun e w' => (∃ s er, e = .returned (.tuple #[.string s, .int .i64 er]) ∧ Hid (TellR D t s er)) ∧ Below w.heap.size w w' := by
  have hal := alloc_below w (.cells b.arr 26)
  have B1 : Hid (Below w.heap.size w (w.alloc (.cells b.arr 26))) := hal
  have X1 : Hid (NBox (w.alloc (.cells b.arr 26)) w.heap.size b) := nbox_new w b
  have kC := gcheck_any (hN.kept hal)
  have hN' : Hid (Nd D w b t) := hN
  have hT' : Hid (Tab w.heap.size w) := hT
  obtain ⟨f0, f1, f2, f3, f4, f5, f6, f7, f8⟩ := (nbox_new w b).fields
  clear hN hal hT
  go_enter Tryd.func9, Tryd.ntmps9
  go_wp2_with fail
  refine kC.mono ?_
  rintro e w2 ⟨⟨er, rfl, hc⟩, hb2⟩
  have b2 : Hid (Below w.heap.size w w2) := B1.out.trans (hb2.mono B1.out.size)
  have X2 : Hid (NBox w2 w.heap.size b) := X1.out.kept hb2 X1.out.lt
  have hc' : Hid (Tr.ChkIs alF t er) := hc
  clear kC hb2 f0 f1 f2 f3 f4 f5 f6 f7 f8 X1 hc
  by_cases h0 : er = 0
  · have hM : Hid (t.May (fun u => alF u = 0)) := (chk_null hc'.out).1 h0
    subst h0
    have kT := textof_all D t b w2 (hN'.out.kept b2.out) hM.out.2.2.1 hM.out.2.1 (Nat.le_trans hM.out.1 (by omega)) ((hT'.out.on b2.out).up b2.out.size)
    obtain ⟨f0, f1, f2, f3, f4, f5, f6, f7, f8⟩ := X2.out.fields
    go_wp2_with fail
    refine kT.mono ?_
    rintro e w3 ⟨⟨s, okv, rfl, hs⟩, hb3⟩
    have b3 : Hid (Below w.heap.size w w3) := b2.out.trans (hb3.mono b2.out.size)
    clear kT hb3 f0 f1 f2 f3 f4 f5 f6 f7 f8
    cases okv with
    | true =>
      have hs1 : Hid (txT D t = some s) := hs.out.1 rfl
      clear hs
      go_wp2_with fail
      refine bodyPost_ret (v := .tuple #[.string s, .int .i64 0]) (by simp [results, Tryd.results9, go_sem, *]) rfl ⟨⟨_, _, rfl, .inr (.inr ⟨hM.out, hs1.out, rfl⟩)⟩, b3.out⟩
    | false =>
      have hs1 : Hid (txT D t = none) := hs.out.2 rfl
      clear hs
      go_wp2_with fail
      refine bodyPost_ret (v := .tuple #[.string ⟨#[]⟩, .int .i64 12]) (by simp [results, Tryd.results9, go_sem, *]) rfl ⟨⟨_, _, rfl, .inr (.inl ⟨hM.out, hs1.out, rfl, rfl⟩)⟩, b3.out⟩
  · have g0 : (er != 0) = true := by simpa using h0
    have h0' : Hid (er ≠ 0) := h0
    clear h0
    go_wp2_with fail
    refine bodyPost_ret (v := .tuple #[.string ⟨#[]⟩, .int .i64 er]) (by simp [results, Tryd.results9, go_sem, *]) rfl ⟨⟨_, _, rfl, .inl ⟨hc'.out, h0'.out, rfl⟩⟩, b2.out⟩
theorem conv_b (t : ByteArray) (w : World) (hs : t.size ≤ 10000000) : ∃ g n c W, (convert 9 23 (.string t)).run Tryd.prog w = .ok (.slice (some ⟨g, 0, none⟩) n c) W ∧ Hid (Below w.heap.size w W) ∧ Hid ((bs t).length = n) ∧ n ≤ c ∧ c ≤ 9223372036854775807 ∧ Hid (Bytes W (some ⟨g, 0, none⟩) (bs t)) := by
  have hcv := Lib.run_convert_string_bytes (P := Tryd.prog) w 9 23 5 t Tryd.underlying9 Tryd.underlying23 Tryd.underlying5
  obtain ⟨gC, nC, cC, hvC, hlC, hcC, hcC', hBC⟩ := (own_conv w t (by omega)).form
  have hvC' : (Value.slice (some ⟨w.heap.size, 0, none⟩) t.size (grownCap w t.size 0 5)) = Value.slice (some ⟨gC, 0, none⟩) nC cC := hvC
  rw [hvC'] at hcv
  exact ⟨gC, nC, cC, Lib.bytesWorld w 5 t, hcv, convB_below w t, hlC, hcC, hcC', hBC⟩
/-- What jsay.Print answers. -/
def PrintR (D : Nat) (t : Tr) (v : Value) (er : Int) (w' : World) : Prop := (v = .slice none 0 0 ∧ er ≠ 0 ∧ ((Tr.ChkIs alF t er) ∨ (t.May (fun u => alF u = 0) ∧ txT D t = none ∧ er = 12) ∨ (∃ s, t.May (fun u => alF u = 0) ∧ txT D t = some s ∧ 4096 < s.size ∧ er = 8)))
  ∨ (er = 0 ∧ ∃ s a n c, v = .slice a n c ∧ t.May (fun u => alF u = 0) ∧ txT D t = some s ∧ s.size ≤ 4096 ∧ (bs s).length = n ∧ n ≤ c ∧ c ≤ 9223372036854775807 ∧ (a = none → c = 0) ∧ Bytes w' a (bs s))
set_option maxHeartbeats 2000000 in
set_option maxRecDepth 100000 in
/-- jsay.Print. -/
theorem print_any {D : Nat} {t : Tr} {b : Nb} {w : World} (hN : Nd D w b t) (hT : Tab w.heap.size w) :
    Calls Tryd.prog 5 #[.agg b.arr] w fun e w' => (∃ v er, e = .returned (.tuple #[v, .int .i64 er]) ∧ Hid (PrintR D t v er w')) ∧ Below w.heap.size w w' := by
  have hal := alloc_below w (.cells b.arr 26)
  have B1 : Hid (Below w.heap.size w (w.alloc (.cells b.arr 26))) := hal
  have kT := tell_any (hN.kept hal) ((hT.on hal).up hal.size)
  obtain ⟨f0, f1, f2, f3, f4, f5, f6, f7, f8⟩ := (nbox_new w b).fields
  clear hN hal hT
  go_enter Tryd.func5, Tryd.ntmps5
  go_wp2_with fail
  refine kT.mono ?_
  rintro e w2 ⟨⟨s, er, rfl, hr⟩, hb2⟩
  have b2 : Hid (Below w.heap.size w w2) := B1.out.trans (hb2.mono B1.out.size)
  clear kT hb2 f0 f1 f2 f3 f4 f5 f6 f7 f8
  by_cases h0 : er = 0
  · subst h0
    have hq : Hid (t.May (fun u => alF u = 0) ∧ txT D t = some s) := by
      rcases hr.out with ⟨_, h, _⟩ | ⟨_, _, h, _⟩ | ⟨h1, h2, _⟩
      · exact absurd rfl h
      · cases h
      · exact ⟨h1, h2⟩
    by_cases hl : s.size ≤ 4096
    · have g1 : decide ((4096 : Int) < (s.size : Int)) = false := by simp; omega
      have g2 : decide (4096 < s.size) = false := by simp; omega
      obtain ⟨g, n, c, W, hcv, BW, hn, hc, hcm, hby⟩ := conv_b s w2 (by omega)
      have hl' : Hid (s.size ≤ 4096) := hl
      clear hl
      go_wp2_with fail
      refine bodyPost_ret (v := .tuple #[.slice (some ⟨g, 0, none⟩) n c, .int .i64 0]) (by simp [results, Tryd.results5, go_sem, *]) rfl ⟨⟨_, _, rfl, .inr ⟨rfl, s, _, n, c, rfl, hq.out.1, hq.out.2, hl'.out, hn.out, hc, hcm, (fun h => by cases h), hby.out⟩⟩, b2.out.trans (BW.out.mono b2.out.size)⟩
    · have g1 : decide ((4096 : Int) < (s.size : Int)) = true := by simp; omega
      have g2 : decide (4096 < s.size) = true := by simp; omega
      have hl' : Hid (4096 < s.size) := by show _ < _; omega
      clear hl
      go_wp2_with fail
      refine bodyPost_ret (v := .tuple #[.slice none 0 0, .int .i64 8]) (by simp [results, Tryd.results5, go_sem, *]) rfl ⟨⟨_, _, rfl, .inl ⟨rfl, by decide, .inr (.inr ⟨s, hq.out.1, hq.out.2, hl'.out, rfl⟩)⟩⟩, b2.out⟩
  · have g0 : (er != 0) = true := by simpa using h0
    have hq : Hid (er ≠ 0 ∧ ((Tr.ChkIs alF t er) ∨ (t.May (fun u => alF u = 0) ∧ txT D t = none ∧ er = 12) ∨ (∃ s, t.May (fun u => alF u = 0) ∧ txT D t = some s ∧ 4096 < s.size ∧ er = 8))) := by
      refine ⟨h0, ?_⟩
      rcases hr.out with ⟨h, _, _⟩ | ⟨h1, h2, h, _⟩ | ⟨h1, h2, h⟩
      · exact .inl h
      · exact .inr (.inl ⟨h1, h2, h⟩)
      · exact absurd h h0
    clear h0
    go_wp2_with fail
    refine bodyPost_ret (v := .tuple #[.slice none 0 0, .int .i64 er]) (by simp [results, Tryd.results5, go_sem, *]) rfl ⟨⟨_, _, rfl, .inl ⟨rfl, hq.out.1, hq.out.2⟩⟩, b2.out⟩
set_option maxHeartbeats 2000000 in
set_option maxRecDepth 100000 in
/-- jsay.Can. -/
theorem can_any {D : Nat} {t : Tr} {b : Nb} {w : World} (hN : Nd D w b t) (hT : Tab w.heap.size w) :
    Calls Tryd.prog 10 #[.agg b.arr] w fun e w' => (∃ s er, e = .returned (.bool (er == 0)) ∧ Hid (TellR D t s er)) ∧ Below w.heap.size w w' := by
  have hal := alloc_below w (.cells b.arr 26)
  have B1 : Hid (Below w.heap.size w (w.alloc (.cells b.arr 26))) := hal
  have kT := tell_any (hN.kept hal) ((hT.on hal).up hal.size)
  obtain ⟨f0, f1, f2, f3, f4, f5, f6, f7, f8⟩ := (nbox_new w b).fields
  clear hN hal hT
  go_enter Tryd.func10, Tryd.ntmps10
  go_wp2_with fail
  refine kT.mono ?_
  rintro e w2 ⟨⟨s, er, rfl, hr⟩, hb2⟩
  have b2 : Hid (Below w.heap.size w w2) := B1.out.trans (hb2.mono B1.out.size)
  clear kT hb2 f0 f1 f2 f3 f4 f5 f6 f7 f8
  go_wp2_with fail
  go_ret
  exact ⟨⟨s, er, rfl, hr⟩, b2.out⟩
end Go.Proofs.YtelabgonpmafpaaDoor
namespace Go.Proofs.YtelabgonpmafpaaDoor
open Go.RowKit
set_option linter.unusedVariables false
def lfN1 : Nb := ⟨2, 0, true, ⟨#[55]⟩, 0, ⟨#[]⟩, none, 0, 0, none, 0, 0, none, 0, 0⟩
def lfT1 : Tr := ⟨2, 0, true, ⟨#[55]⟩, 0, ⟨#[]⟩, [], [], []⟩
theorem nd_lf1 (W : World) : Nd 1 W lfN1 lfT1 := ⟨⟨rfl, rfl, rfl, rfl, rfl, rfl⟩, ⟨by decide, by decide, by decide, by decide, by decide⟩, ⟨rfl, room_nil _, bytes_nil _⟩, rowN_nil _ _, rowN_nil _ _⟩
def lfN2 : Nb := ⟨3, 0, false, ⟨#[50, 53]⟩, (-1), ⟨#[]⟩, none, 0, 0, none, 0, 0, none, 0, 0⟩
def lfT2 : Tr := ⟨3, 0, false, ⟨#[50, 53]⟩, (-1), ⟨#[]⟩, [], [], []⟩
theorem nd_lf2 (W : World) : Nd 1 W lfN2 lfT2 := ⟨⟨rfl, rfl, rfl, rfl, rfl, rfl⟩, ⟨by decide, by decide, by decide, by decide, by decide⟩, ⟨rfl, room_nil _, bytes_nil _⟩, rowN_nil _ _, rowN_nil _ _⟩
def lfN3 : Nb := ⟨5, 0, false, ⟨#[]⟩, 0, ⟨#[97, 34]⟩, none, 0, 0, none, 0, 0, none, 0, 0⟩
def lfT3 : Tr := ⟨5, 0, false, ⟨#[]⟩, 0, ⟨#[97, 34]⟩, [], [], []⟩
theorem nd_lf3 (W : World) : Nd 1 W lfN3 lfT3 := ⟨⟨rfl, rfl, rfl, rfl, rfl, rfl⟩, ⟨by decide, by decide, by decide, by decide, by decide⟩, ⟨rfl, room_nil _, bytes_nil _⟩, rowN_nil _ _, rowN_nil _ _⟩
def alN (g : Nat) : Nb := ⟨7, 0, false, ⟨#[]⟩, 0, ⟨#[]⟩, none, 0, 0, none, 0, 0, some ⟨g, 0, none⟩, 3, 3⟩
def alT : Tr := ⟨7, 0, false, ⟨#[]⟩, 0, ⟨#[]⟩, [], [], [lfT1, lfT2, lfT3]⟩
def alS : ByteArray := ⟨#[91, 45, 55, 44, 50, 53, 101, 45, 49, 44, 34, 97, 92, 34, 34, 93]⟩
theorem nd_al (w : World) : Nd 2 ((w.alloc (.cells #[.int .i64 2, .int .u64 0, .bool true, .string ⟨#[55]⟩, .int .i64 0, .string ⟨#[]⟩, .slice none 0 0, .slice none 0 0, .slice none 0 0, .int .i64 3, .int .u64 0, .bool false, .string ⟨#[50, 53]⟩, .int .i64 (-1), .string ⟨#[]⟩, .slice none 0 0, .slice none 0 0, .slice none 0 0, .int .i64 5, .int .u64 0, .bool false, .string ⟨#[]⟩, .int .i64 0, .string ⟨#[97, 34]⟩, .slice none 0 0, .slice none 0 0, .slice none 0 0] 26)).alloc (.cells #[.int .i64 7, .int .u64 0, .bool false, .string ⟨#[]⟩, .int .i64 0, .string ⟨#[]⟩, .slice none 0 0, .slice none 0 0, .slice (some ⟨w.heap.size, 0, none⟩) 3 3] 26)) (alN w.heap.size) alT := by
  have A2 := alloc_below (w.alloc (.cells #[.int .i64 2, .int .u64 0, .bool true, .string ⟨#[55]⟩, .int .i64 0, .string ⟨#[]⟩, .slice none 0 0, .slice none 0 0, .slice none 0 0, .int .i64 3, .int .u64 0, .bool false, .string ⟨#[50, 53]⟩, .int .i64 (-1), .string ⟨#[]⟩, .slice none 0 0, .slice none 0 0, .slice none 0 0, .int .i64 5, .int .u64 0, .bool false, .string ⟨#[]⟩, .int .i64 0, .string ⟨#[97, 34]⟩, .slice none 0 0, .slice none 0 0, .slice none 0 0] 26)) (.cells #[.int .i64 7, .int .u64 0, .bool false, .string ⟨#[]⟩, .int .i64 0, .string ⟨#[]⟩, .slice none 0 0, .slice none 0 0, .slice (some ⟨w.heap.size, 0, none⟩) 3 3] 26)
  have hc : ∀ j, ((w.alloc (.cells #[.int .i64 2, .int .u64 0, .bool true, .string ⟨#[55]⟩, .int .i64 0, .string ⟨#[]⟩, .slice none 0 0, .slice none 0 0, .slice none 0 0, .int .i64 3, .int .u64 0, .bool false, .string ⟨#[50, 53]⟩, .int .i64 (-1), .string ⟨#[]⟩, .slice none 0 0, .slice none 0 0, .slice none 0 0, .int .i64 5, .int .u64 0, .bool false, .string ⟨#[]⟩, .int .i64 0, .string ⟨#[97, 34]⟩, .slice none 0 0, .slice none 0 0, .slice none 0 0] 26)).alloc (.cells #[.int .i64 7, .int .u64 0, .bool false, .string ⟨#[]⟩, .int .i64 0, .string ⟨#[]⟩, .slice none 0 0, .slice none 0 0, .slice (some ⟨w.heap.size, 0, none⟩) 3 3] 26)).cell? ⟨w.heap.size, j, none⟩ = (#[.int .i64 2, .int .u64 0, .bool true, .string ⟨#[55]⟩, .int .i64 0, .string ⟨#[]⟩, .slice none 0 0, .slice none 0 0, .slice none 0 0, .int .i64 3, .int .u64 0, .bool false, .string ⟨#[50, 53]⟩, .int .i64 (-1), .string ⟨#[]⟩, .slice none 0 0, .slice none 0 0, .slice none 0 0, .int .i64 5, .int .u64 0, .bool false, .string ⟨#[]⟩, .int .i64 0, .string ⟨#[97, 34]⟩, .slice none 0 0, .slice none 0 0, .slice none 0 0] : Array Value)[j]? := fun j => by
    rw [A2.cell (p := ⟨w.heap.size, j, none⟩) (by simp)]
    exact cell_row (heap_alloc_new w _) j
  refine ⟨⟨rfl, rfl, rfl, rfl, rfl, rfl⟩, ⟨by decide, by decide, by decide, by decide, by decide⟩, ⟨rfl, room_nil _, bytes_nil _⟩, rowN_nil _ _, rfl, ⟨Nat.le_refl _, by show (3 : Nat) ≤ maxLen; decide, fun h => by simp [alN] at h, by show 3 * 136 ≤ _; omega⟩, .inr ⟨w.heap.size, 0, rfl, fun i hi => ?_⟩⟩
  have hi3 : i < 3 := hi
  rcases i with _ | _ | _ | i
  · refine ⟨lfN1, fun j hj => ?_, nd_lf1 _⟩
    rw [hc]
    rcases j with _ | _ | _ | _ | _ | _ | _ | _ | _ | j
    all_goals first | rfl | omega
  · refine ⟨lfN2, fun j hj => ?_, nd_lf2 _⟩
    rw [hc]
    rcases j with _ | _ | _ | _ | _ | _ | _ | _ | _ | j
    all_goals first | rfl | omega
  · refine ⟨lfN3, fun j hj => ?_, nd_lf3 _⟩
    rw [hc]
    rcases j with _ | _ | _ | _ | _ | _ | _ | _ | _ | j
    all_goals first | rfl | omega
  · omega
theorem al_size : alT.size = 4 := by
  have h1 : lfT1.size = 1 := by rw [Tr.size_eq]; rfl
  have h2 : lfT2.size = 1 := by rw [Tr.size_eq]; rfl
  have h3 : lfT3.size = 1 := by rw [Tr.size_eq]; rfl
  rw [Tr.size_eq]
  show 1 + Tr.sizes [] + Tr.sizes [lfT1, lfT2, lfT3] = 4
  rw [Tr.sizes_cons, Tr.sizes_cons, Tr.sizes_cons, Tr.sizes_nil, h1, h2, h3]
theorem al_may : alT.May (fun u => alF u = 0) := by
  refine ⟨by rw [al_size]; omega, Nat.le_trans (Tr.deep_size alT) (by rw [al_size]; omega), ?_, ?_⟩
  · rw [Tr.all_eq]
    refine ⟨by kernel_rfl, fun k hk => by simp [alT] at hk, fun k hk => ?_⟩
    simp only [alT, List.mem_cons, List.not_mem_nil, or_false] at hk
    rcases hk with rfl | rfl | rfl
    all_goals
      rw [Tr.all_eq]
      exact ⟨by kernel_rfl, (fun k hk => by cases hk), (fun k hk => by cases hk)⟩
  · rw [Tr.all_eq]
    refine ⟨List.nodup_nil, fun k hk => by simp [alT] at hk, fun k hk => ?_⟩
    simp only [alT, List.mem_cons, List.not_mem_nil, or_false] at hk
    rcases hk with rfl | rfl | rfl
    all_goals
      rw [Tr.all_eq]
      exact ⟨List.nodup_nil, (fun k hk => by cases hk), (fun k hk => by cases hk)⟩
theorem al_text : txT 2 alT = some alS := by kernel_rfl
theorem al_print {v : Value} {er : Int} {w' : World} (h : PrintR 2 alT v er w') : er = 0 ∧ ∃ a n c, v = .slice a n c ∧ (bs alS).length = n ∧ n ≤ c ∧ c ≤ 9223372036854775807 ∧ (a = none → c = 0) ∧ Bytes w' a (bs alS) := by
  rcases h with ⟨_, h0, h | ⟨_, h, _⟩ | ⟨s, _, h, h2, _⟩⟩ | ⟨h0, s, a, n, c, hv, _, h1, h2, h3⟩
  · exact absurd ((chk_null h).2 al_may) h0
  · rw [al_text] at h; cases h
  · rw [al_text] at h; cases h; exact absurd h2 (by decide)
  · rw [al_text] at h1; cases h1; exact ⟨h0, a, n, c, hv, h3⟩
theorem al_tell {s : ByteArray} {er : Int} (h : TellR 2 alT s er) : er = 0 := by
  rcases h with ⟨h, h0, _⟩ | ⟨_, h, _⟩ | ⟨_, _, h⟩
  · exact absurd ((chk_null h).2 al_may) h0
  · rw [al_text] at h; cases h
  · exact h
set_option maxHeartbeats 2000000 in
set_option maxRecDepth 100000 in
theorem alive_any (w : World) (hT : Tab w.heap.size w) : Calls Tryd.prog 6 #[] w fun e w' => e = .returned (.bool true) ∧ Below w.heap.size w w' := by
  have A1 := alloc_below w (.cells #[.int .i64 2, .int .u64 0, .bool true, .string ⟨#[55]⟩, .int .i64 0, .string ⟨#[]⟩, .slice none 0 0, .slice none 0 0, .slice none 0 0, .int .i64 3, .int .u64 0, .bool false, .string ⟨#[50, 53]⟩, .int .i64 (-1), .string ⟨#[]⟩, .slice none 0 0, .slice none 0 0, .slice none 0 0, .int .i64 5, .int .u64 0, .bool false, .string ⟨#[]⟩, .int .i64 0, .string ⟨#[97, 34]⟩, .slice none 0 0, .slice none 0 0, .slice none 0 0] 26)
  have A2 := alloc_below (w.alloc (.cells #[.int .i64 2, .int .u64 0, .bool true, .string ⟨#[55]⟩, .int .i64 0, .string ⟨#[]⟩, .slice none 0 0, .slice none 0 0, .slice none 0 0, .int .i64 3, .int .u64 0, .bool false, .string ⟨#[50, 53]⟩, .int .i64 (-1), .string ⟨#[]⟩, .slice none 0 0, .slice none 0 0, .slice none 0 0, .int .i64 5, .int .u64 0, .bool false, .string ⟨#[]⟩, .int .i64 0, .string ⟨#[97, 34]⟩, .slice none 0 0, .slice none 0 0, .slice none 0 0] 26)) (.cells #[.int .i64 7, .int .u64 0, .bool false, .string ⟨#[]⟩, .int .i64 0, .string ⟨#[]⟩, .slice none 0 0, .slice none 0 0, .slice (some ⟨w.heap.size, 0, none⟩) 3 3] 26)
  have s1 : (w.alloc (.cells #[.int .i64 2, .int .u64 0, .bool true, .string ⟨#[55]⟩, .int .i64 0, .string ⟨#[]⟩, .slice none 0 0, .slice none 0 0, .slice none 0 0, .int .i64 3, .int .u64 0, .bool false, .string ⟨#[50, 53]⟩, .int .i64 (-1), .string ⟨#[]⟩, .slice none 0 0, .slice none 0 0, .slice none 0 0, .int .i64 5, .int .u64 0, .bool false, .string ⟨#[]⟩, .int .i64 0, .string ⟨#[97, 34]⟩, .slice none 0 0, .slice none 0 0, .slice none 0 0] 26)).heap.size = w.heap.size + 1 := by simp
  have B2 : Hid (Below w.heap.size w ((w.alloc (.cells #[.int .i64 2, .int .u64 0, .bool true, .string ⟨#[55]⟩, .int .i64 0, .string ⟨#[]⟩, .slice none 0 0, .slice none 0 0, .slice none 0 0, .int .i64 3, .int .u64 0, .bool false, .string ⟨#[50, 53]⟩, .int .i64 (-1), .string ⟨#[]⟩, .slice none 0 0, .slice none 0 0, .slice none 0 0, .int .i64 5, .int .u64 0, .bool false, .string ⟨#[]⟩, .int .i64 0, .string ⟨#[97, 34]⟩, .slice none 0 0, .slice none 0 0, .slice none 0 0] 26)).alloc (.cells #[.int .i64 7, .int .u64 0, .bool false, .string ⟨#[]⟩, .int .i64 0, .string ⟨#[]⟩, .slice none 0 0, .slice none 0 0, .slice (some ⟨w.heap.size, 0, none⟩) 3 3] 26))) := A1.trans (A2.mono A1.size)
  have hN := nd_al w
  have X2 : Hid (NBox ((w.alloc (.cells #[.int .i64 2, .int .u64 0, .bool true, .string ⟨#[55]⟩, .int .i64 0, .string ⟨#[]⟩, .slice none 0 0, .slice none 0 0, .slice none 0 0, .int .i64 3, .int .u64 0, .bool false, .string ⟨#[50, 53]⟩, .int .i64 (-1), .string ⟨#[]⟩, .slice none 0 0, .slice none 0 0, .slice none 0 0, .int .i64 5, .int .u64 0, .bool false, .string ⟨#[]⟩, .int .i64 0, .string ⟨#[97, 34]⟩, .slice none 0 0, .slice none 0 0, .slice none 0 0] 26)).alloc (.cells #[.int .i64 7, .int .u64 0, .bool false, .string ⟨#[]⟩, .int .i64 0, .string ⟨#[]⟩, .slice none 0 0, .slice none 0 0, .slice (some ⟨w.heap.size, 0, none⟩) 3 3] 26)) (w.heap.size + 1) (alN w.heap.size)) := by have := nbox_new (w.alloc (.cells #[.int .i64 2, .int .u64 0, .bool true, .string ⟨#[55]⟩, .int .i64 0, .string ⟨#[]⟩, .slice none 0 0, .slice none 0 0, .slice none 0 0, .int .i64 3, .int .u64 0, .bool false, .string ⟨#[50, 53]⟩, .int .i64 (-1), .string ⟨#[]⟩, .slice none 0 0, .slice none 0 0, .slice none 0 0, .int .i64 5, .int .u64 0, .bool false, .string ⟨#[]⟩, .int .i64 0, .string ⟨#[97, 34]⟩, .slice none 0 0, .slice none 0 0, .slice none 0 0] 26)) (alN w.heap.size); rw [s1] at this; exact this
  have T2 := (hT.on B2.out).up B2.out.size
  have kP := print_any hN T2
  have hN' : Hid (Nd 2 ((w.alloc (.cells #[.int .i64 2, .int .u64 0, .bool true, .string ⟨#[55]⟩, .int .i64 0, .string ⟨#[]⟩, .slice none 0 0, .slice none 0 0, .slice none 0 0, .int .i64 3, .int .u64 0, .bool false, .string ⟨#[50, 53]⟩, .int .i64 (-1), .string ⟨#[]⟩, .slice none 0 0, .slice none 0 0, .slice none 0 0, .int .i64 5, .int .u64 0, .bool false, .string ⟨#[]⟩, .int .i64 0, .string ⟨#[97, 34]⟩, .slice none 0 0, .slice none 0 0, .slice none 0 0] 26)).alloc (.cells #[.int .i64 7, .int .u64 0, .bool false, .string ⟨#[]⟩, .int .i64 0, .string ⟨#[]⟩, .slice none 0 0, .slice none 0 0, .slice (some ⟨w.heap.size, 0, none⟩) 3 3] 26)) (alN w.heap.size) alT) := hN
  have T2' : Hid (Tab ((w.alloc (.cells #[.int .i64 2, .int .u64 0, .bool true, .string ⟨#[55]⟩, .int .i64 0, .string ⟨#[]⟩, .slice none 0 0, .slice none 0 0, .slice none 0 0, .int .i64 3, .int .u64 0, .bool false, .string ⟨#[50, 53]⟩, .int .i64 (-1), .string ⟨#[]⟩, .slice none 0 0, .slice none 0 0, .slice none 0 0, .int .i64 5, .int .u64 0, .bool false, .string ⟨#[]⟩, .int .i64 0, .string ⟨#[97, 34]⟩, .slice none 0 0, .slice none 0 0, .slice none 0 0] 26)).alloc (.cells #[.int .i64 7, .int .u64 0, .bool false, .string ⟨#[]⟩, .int .i64 0, .string ⟨#[]⟩, .slice none 0 0, .slice none 0 0, .slice (some ⟨w.heap.size, 0, none⟩) 3 3] 26)).heap.size ((w.alloc (.cells #[.int .i64 2, .int .u64 0, .bool true, .string ⟨#[55]⟩, .int .i64 0, .string ⟨#[]⟩, .slice none 0 0, .slice none 0 0, .slice none 0 0, .int .i64 3, .int .u64 0, .bool false, .string ⟨#[50, 53]⟩, .int .i64 (-1), .string ⟨#[]⟩, .slice none 0 0, .slice none 0 0, .slice none 0 0, .int .i64 5, .int .u64 0, .bool false, .string ⟨#[]⟩, .int .i64 0, .string ⟨#[97, 34]⟩, .slice none 0 0, .slice none 0 0, .slice none 0 0] 26)).alloc (.cells #[.int .i64 7, .int .u64 0, .bool false, .string ⟨#[]⟩, .int .i64 0, .string ⟨#[]⟩, .slice none 0 0, .slice none 0 0, .slice (some ⟨w.heap.size, 0, none⟩) 3 3] 26))) := T2
  clear A1 A2 s1 hT hN T2
  go_enter Tryd.func6, Tryd.ntmps6
  go_wp2_with fail
  refine kP.mono ?_
  rintro e w3 ⟨⟨v, er, rfl, hr⟩, hb3⟩
  obtain ⟨rfl, a, n, c, rfl, hl, hc, hcm, hca, hby⟩ := al_print hr.out
  have hcv := conv_str hby n c hl
  rw [str_bs] at hcv
  unfold alS at hcv
  have b3 : Hid (Below w.heap.size w w3) := B2.out.trans (hb3.mono B2.out.size)
  have X3 := X2.out.kept hb3 X2.out.lt
  obtain ⟨f0, f1, f2, f3, f4, f5, f6, f7, f8⟩ := X3.fields
  simp only [alN] at f0 f1 f2 f3 f4 f5 f6 f7 f8
  have kC := can_any (hN'.out.kept hb3) ((T2'.out.on hb3).up hb3.size)
  clear kP hr hl hby hca hb3 B2 X2 X3 hN' T2'
  go_wp2_with fail
  refine kC.mono ?_
  rintro e w4 ⟨⟨s, er, rfl, ht⟩, hb4⟩
  obtain rfl := al_tell ht.out
  go_wp2_with fail
  go_ret
  exact ⟨rfl, b3.out.trans (hb4.mono b3.out.size)⟩
end Go.Proofs.YtelabgonpmafpaaDoor
