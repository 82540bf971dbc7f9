/-
  The fault of a node, what is in it aside, as the document's call tells it: gantlineref08.alone.
  The fault of the first node that has one, as the document's call tells it: gantlineref08.forms.
  All nodes of a tree with their depths, in the order in which they are gone over; going over them as long as more is wanted; and what is told so: how many there are, how deep they lie, the first fault, keys that stand twice.
  Going over all nodes of a tree: tree.each, whatever it hands each node to.
  tree.each: the function to which nodes are handed wants no more at once.
  tree.each: it wants more.
  tree.each: it wants more.
  How many nodes a tree has, and how deep it is: tree.each put together, tree.measure, Few, Size, Deep.
  Whether two keys are the same: tree.twice, with slices.ContainsFunc and slices.IndexFunc; tree.Same.
  Whether a map has two keys that are the same, as the document's call tells it: gantlineref08.twice.
  The document's count of nodes and depth: left, deep.
-/
import Derived.Test.YtmlacmoembjeoaaGreatDoorQ28
import Derived.Test.YtmlacmoembjeoaaGreatDoorQ29
import Derived.Test.YtmlacmoembjeoaaGreatDoorQ30
import Derived.Test.YtmlacmoembjeoaaGreatDoorQ31
import Derived.Test.YtmlacmoembjeoaaGreatDoorQ32
import Derived.Test.YtmlacmoembjeoaaGreatDoorQ33
import Derived.Test.YtmlacmoembjeoaaGreatDoorQ19
import Derived.Test.YtmlacmoembjeoaaGreatDoorQ2
import Derived.Test.YtmlacmoembjeoaaGreatDoorQ20
import Derived.Test.YtmlacmoembjeoaaGreatDoorQ26
import Derived.Shelf.Abstract
import Derived.Deep.RegionHeld3
namespace Go.Proofs.YtmlacmoembjeoaaGreatDoor
open Go.RowKit
set_option linter.unusedVariables false
theorem ealone_any {D : Nat} {t : Tr} {b : Nb} {w : World} (hN : Nd D w b t) : Calls Tryz.prog 33 #[.agg b.arr] w fun e w' => e = .returned (.int .i64 (alF t)) ∧ Below w.heap.size w w' := by
  cases D with
  | zero => exact absurd hN id
  | succ D =>
    by_cases h1 : b.kind = 1
    · exact ealone_k1 hN h1
    by_cases h2 : b.kind = 2
    · exact ealone_k2 hN h2
    by_cases h3 : b.kind = 3
    · exact ealone_k3 hN h3
    by_cases h5 : b.kind = 5
    · exact ealone_k5 hN h5
    by_cases h6 : b.kind = 6
    · exact ealone_k6 hN h6
    by_cases h8 : b.kind = 8
    · exact ealone_k8 hN h8
    by_cases h9 : b.kind = 9
    · exact ealone_k9 hN h9
    by_cases h10 : b.kind = 10
    · exact ealone_k10 hN h10
    exact ealone_ko hN h1 h2 h3 h5 h6 h8 h9 h10
end Go.Proofs.YtmlacmoembjeoaaGreatDoor
namespace Go.Proofs.YtmlacmoembjeoaaGreatDoor
open Go.RowKit
set_option linter.unusedVariables false

def FormAt (D : Nat) : Prop := ∀ (t : Tr) (b : Nb) (w : World), Nd D w b t → Calls Tryz.prog 23 #[.agg b.arr] w fun e w' => e = .returned (.int .i64 (t.forms alF)) ∧ Below w.heap.size w w'
/-- The faults of what has been gone over. -/
def fst8 (t : Tr) (i : Nat) : List Int := if t.kind = 8 then Tr.inter ((t.keys.take i).map (Tr.forms alF)) ((t.kids.take i).map (Tr.forms alF)) else (t.kids.take i).map (Tr.forms alF)
theorem fst8_zero (t : Tr) : fst8 t 0 = [] := by unfold fst8; split <;> simp [Tr.inter]
theorem fst8_all {t : Tr} {n : Nat} (hn : t.kids.length ≤ n) (hk : t.kind = 8 → t.keys.length ≤ n) : fst8 t n = t.steps.map (Tr.forms alF) := by
  unfold fst8 Tr.steps
  split
  · rename_i h; rw [Tr.inter_map, List.take_of_length_le hn, List.take_of_length_le (hk h)]
  · rw [List.take_of_length_le hn]
theorem fst8_map {t : Tr} {i : Nat} (h8 : t.kind = 8) (hk : i < t.keys.length) (hi : i < t.kids.length) : fst8 t (i + 1) = fst8 t i ++ [(t.keys[i]).forms alF, (t.kids[i]).forms alF] := by
  unfold fst8
  rw [if_pos h8, if_pos h8, ← Tr.inter_map, ← Tr.inter_map, Tr.inter_snoc _ _ hk hi, List.map_append]
  rfl
theorem fst8_arr {t : Tr} {i : Nat} (h8 : t.kind ≠ 8) (hi : i < t.kids.length) : fst8 t (i + 1) = fst8 t i ++ [(t.kids[i]).forms alF] := by
  unfold fst8
  rw [if_neg h8, if_neg h8, List.take_succ_eq_append_getElem hi, List.map_append]
  rfl
theorem firstE_pre {l : List Int} (h : Tr.firstE l ≠ 0) (m : List Int) : Tr.firstE (l ++ m) = Tr.firstE l := by rw [Tr.firstE_app, if_neg h]
theorem firstE_suf {l : List Int} (h : Tr.firstE l = 0) (m : List Int) : Tr.firstE (l ++ m) = Tr.firstE m := by rw [Tr.firstE_app, if_pos h]
theorem fst8_pre (t : Tr) (i : Nat) : ∃ m, t.steps.map (Tr.forms alF) = fst8 t i ++ m := by
  unfold fst8 Tr.steps
  split
  · rw [← Tr.inter_map]
    have key : ∀ (l m : List Tr) (i : Nat), ∃ r, Tr.inter l m = Tr.inter (l.take i) (m.take i) ++ r := by
      intro l
      induction l with
      | nil => intro m i; exact ⟨[], by simp [Tr.inter]⟩
      | cons a l ih =>
        intro m i
        cases m with
        | nil => exact ⟨[], by cases i <;> simp [Tr.inter]⟩
        | cons b m =>
          cases i with
          | zero => exact ⟨Tr.inter (a :: l) (b :: m), by simp [Tr.inter]⟩
          | succ i =>
            obtain ⟨r, hr⟩ := ih m i
            exact ⟨r, by simp only [List.take_succ_cons, Tr.inter, hr, List.cons_append]⟩
    obtain ⟨r, hr⟩ := key t.keys t.kids i
    exact ⟨r.map (Tr.forms alF), by rw [hr, List.map_append]⟩
  · exact ⟨(t.kids.drop i).map (Tr.forms alF), by rw [← List.map_append, List.take_append_drop]⟩
theorem forms_stop {t : Tr} {i : Nat} (h0 : alF t = 0) (h : Tr.firstE (fst8 t i) ≠ 0) : t.forms alF = Tr.firstE (fst8 t i) := by
  rw [Tr.forms_eq, h0, Tr.firstE_zero]
  obtain ⟨m, hm⟩ := fst8_pre t i
  rw [hm, firstE_pre h]
theorem forms_end {t : Tr} {n : Nat} (h0 : alF t = 0) (hn : t.kids.length = n) (h : Tr.firstE (fst8 t n) = 0) : t.forms alF = 0 := by
  rw [Tr.forms_eq, h0, Tr.firstE_zero, ← fst8_all (Nat.le_of_eq hn) (fun h8 => by rw [(alF_shaped t h0).1 h8]; exact Nat.le_of_eq hn), h]
theorem forms_not {t : Tr} (h0 : alF t ≠ 0) : t.forms alF = alF t := by rw [Tr.forms_eq, Tr.firstE_not _ h0]

theorem form_el {D : Nat} (ih : FormAt D) {w : World} {a : Option Addr} {len cap : Nat} {l : List Tr} (h : RowN (Nd D w) w a len cap l) {i : Nat} (hi : i < l.length) (w2 : World) (hb : Below w.heap.size w w2) :
    ∃ (bk ok : Nat) (nk : Nb), a = some ⟨bk, ok, none⟩ ∧ (∀ j, j < 9 → w2.cell? ⟨bk, ok + (i * 9 + j), none⟩ = nk.cells[j]?) ∧ Calls Tryz.prog 23 #[.agg nk.arr] w2 fun e w' => e = .returned (.int .i64 ((l[i]).forms alF)) ∧ Below w2.heap.size w2 w' := by
  obtain ⟨bk, ok, nk, h1, h2, h3, _⟩ := row_el h hb hi
  exact ⟨bk, ok, nk, h1, h2, ih _ _ _ h3⟩
theorem firstE_two {l : List Int} (h : 0 = Tr.firstE l) (a b : Int) : Tr.firstE (l ++ [a, b]) = if a = 0 then b else a := by
  rw [firstE_suf h.symm]
  show (if a = 0 then (if b = 0 then (0 : Int) else b) else a) = _
  by_cases ha : a = 0
  · rw [if_pos ha, if_pos ha]; split
    · rename_i hb; rw [hb]
    · rfl
  · rw [if_neg ha, if_neg ha]
theorem firstE_one {l : List Int} (h : 0 = Tr.firstE l) (a : Int) : Tr.firstE (l ++ [a]) = a := by
  rw [firstE_suf h.symm]
  show (if a = 0 then (0 : Int) else a) = a
  split
  · rename_i hb; rw [hb]
  · rfl

set_option maxHeartbeats 4000000 in
set_option maxRecDepth 100000 in
theorem form_step {D : Nat} (ih : FormAt D) : FormAt (D + 1) := by
  intro t b w hN
  have hal := alloc_below w (.cells b.arr 26)
  have Q0 : Hid (NBox (w.alloc (.cells b.arr 26)) w.heap.size b) := nbox_new w b
  have B0 : Hid (Below w.heap.size w (w.alloc (.cells b.arr 26))) := hal
  obtain ⟨a0, a1, a2, a3, a4, a5, a6, a7, a8⟩ := (nbox_new w b).fields
  have kA := ealone_any (hN.kept hal)
  have hNk : Hid (RowN (Nd D w) w b.ak b.lk b.ck t.keys) := hN.2.2.2.1
  have hNi : Hid (RowN (Nd D w) w b.ai b.li b.ci t.kids) := hN.2.2.2.2
  have hlk : Hid (t.keys.length = b.lk) := hN.2.2.2.1.1
  have hli : Hid (t.kids.length = b.li) := hN.2.2.2.2.1
  have mk := hN.2.2.2.1.2.1.1
  have mk' := hN.2.2.2.1.2.1.2.1
  have mi := hN.2.2.2.2.2.1.1
  have mi' := hN.2.2.2.2.2.1.2.1
  unfold maxLen at mk' mi'
  have hkd : Hid (b.kind = t.kind) := hN.1.1
  clear hal hN
  by_cases hz : alF t = 0
  · have h0 : Hid (alF t = 0) := hz
    rw [hz] at kA
    have hsh : Hid (t.kind = 8 → b.lk = b.li) := fun h8 => by rw [← hlk.out, ← hli.out]; exact (alF_shaped t hz).1 h8
    clear hz
    have hF : Hid (∀ i, Tr.firstE (fst8 t i) ≠ 0 → t.forms alF = Tr.firstE (fst8 t i)) := fun i h => forms_stop h0.out h
    have hE : Hid (Tr.firstE (fst8 t b.li) = 0 → t.forms alF = 0) := fun h => forms_end h0.out hli.out h
    generalize t.forms alF = R at *
    go_enter Tryz.func23, Tryz.ntmps23
    go_wp2_with (go_at_call 33; refine kA.mono ?_; rintro e w1 ⟨rfl, hb1⟩; clear kA a0 a1 a2 a3 a4 a5 a6 a7 a8; have Q1 : Hid (NBox w1 w.heap.size b) := Q0.out.kept hb1 Q0.out.lt; have B1 : Hid (Below w.heap.size w w1) := B0.out.trans (hb1.mono B0.out.size); obtain ⟨a0, a1, a2, a3, a4, a5, a6, a7, a8⟩ := Q1.out.fields)
    go_loopw [3, 4] (fun s3 s4 wr => ∃ (i : Nat) (M : Int), i ≤ b.li ∧ s3 = .int .i64 M ∧ s4 = .int .i64 i ∧ Hid (Below w1.heap.size w1 wr) ∧ Hid (M = Tr.firstE (fst8 t i))) (fun _ i _ => b.li - (intOf i).toNat)
    case atStart => exact ⟨0, 0, Nat.zero_le _, rfl, rfl, Below.refl _ _, by show _ = _; rw [fst8_zero]; rfl⟩
    case round =>
      obtain ⟨i, M, him, rfl, rfl, hbl, hM⟩ := hrel
      clear a0 a1 a2 a3 a4 a5 a6 a7 a8
      have Qr : Hid (NBox wr w.heap.size b) := Q1.out.kept hbl.out Q1.out.lt
      have Br : Hid (Below w.heap.size w wr) := B1.out.trans (hbl.out.mono B1.out.size)
      obtain ⟨a0, a1, a2, a3, a4, a5, a6, a7, a8⟩ := Qr.out.fields
      by_cases hlt : i < b.li
      · have hz : (i : Int) < (b.li : Int) := by omega
        by_cases hM0 : M = 0
        · subst hM0
          have hix : i < t.kids.length := by rw [hli.out]; exact hlt
          have wi : IntKind.i64.wrap ((i : Int) + 1) = (i : Int) + 1 := by rw [IntKind.wrap_i64]; omega
          have hI : Hid (∀ w2, Below w.heap.size w w2 → ∃ (bk ok : Nat) (nk : Nb), b.ai = some ⟨bk, ok, none⟩ ∧ (∀ j, j < 9 → w2.cell? ⟨bk, ok + (i * 9 + j), none⟩ = nk.cells[j]?) ∧ Calls Tryz.prog 23 #[.agg nk.arr] w2 fun e w' => e = .returned (.int .i64 ((t.kids[i]).forms alF)) ∧ Below w2.heap.size w2 w') := fun w2 hb => form_el ih hNi.out hix w2 hb
          by_cases h8 : t.kind = 8
          · have e8 : (b.kind == 8) = true := by rw [hkd.out, h8]; decide
            have hkk : i < b.lk := by rw [hsh.out h8]; exact hlt
            have hkz : (i : Int) < (b.lk : Int) := by omega
            have hkx : i < t.keys.length := by rw [hlk.out]; exact hkk
            obtain ⟨bk, ok, nk, hak, hck, kk⟩ := form_el ih hNk.out hkx wr Br.out
            obtain ⟨f0, f1, f2, f3, f4, f5, f6, f7, f8⟩ := elem_fields hck
            have hS : Hid (Tr.firstE (fst8 t (i + 1)) = if (t.keys[i]).forms alF = 0 then (t.kids[i]).forms alF else (t.keys[i]).forms alF) := by
              show _ = _
              rw [fst8_map h8 hkx hix, firstE_two hM.out]
            generalize (t.keys[i]).forms alF = E1 at *
            generalize (t.kids[i]).forms alF = E2 at *
            clear hck h8 hix hkx hM
            by_cases hE1 : E1 = 0
            · subst hE1
              have hS' : Hid (E2 = Tr.firstE (fst8 t (i + 1))) := by
                show _ = _
                rw [hS.out, if_pos rfl]
              clear hS
              go_wp2_with (first
                | (go_at_call 23; refine kk.mono ?_; rintro e w2 ⟨rfl, hb2⟩; clear kk f0 f1 f2 f3 f4 f5 f6 f7 f8 a0 a1 a2 a3 a4 a5 a6 a7 a8; have Q2 : Hid (NBox w2 w.heap.size b) := Qr.out.kept hb2 Qr.out.lt; have B2 : Hid (Below w.heap.size w w2) := Br.out.trans (hb2.mono Br.out.size); obtain ⟨a0, a1, a2, a3, a4, a5, a6, a7, a8⟩ := Q2.out.fields; obtain ⟨bi, oi, ni, hai, hci, ki⟩ := hI.out w2 B2.out; obtain ⟨f0, f1, f2, f3, f4, f5, f6, f7, f8⟩ := elem_fields hci; clear hci)
                | (go_at_call 23; refine ki.mono ?_; rintro e w3 ⟨rfl, hb3⟩))
              try simp only [hak, hai]
              go_roundw
              case rel => exact ⟨i + 1, E2, by omega, rfl, by go_num, hbl.out.trans ((hb2.trans (hb3.mono hb2.size)).mono hbl.out.size), hS'⟩
              case measure => simp [intOf]; omega
            · have hS' : Hid (E1 = Tr.firstE (fst8 t (i + 1))) := by
                show _ = _
                rw [hS.out, if_neg hE1]
              have hE1' : (E1 == 0) = false := by simp [hE1]
              clear hS hE1 hI
              go_wp2_with (first
                | (go_at_call 23; refine kk.mono ?_; rintro e w2 ⟨rfl, hb2⟩; clear kk f0 f1 f2 f3 f4 f5 f6 f7 f8 a0 a1 a2 a3 a4 a5 a6 a7 a8))
              try simp only [hak]
              go_roundw
              case rel => exact ⟨i + 1, E1, by omega, rfl, by go_num, hbl.out.trans (hb2.mono hbl.out.size), hS'⟩
              case measure => simp [intOf]; omega
          · have e8 : (b.kind == 8) = false := by rw [hkd.out]; simp [h8]
            have hS' : Hid ((t.kids[i]).forms alF = Tr.firstE (fst8 t (i + 1))) := by
              show _ = _
              rw [fst8_arr h8 hix, firstE_one hM.out]
            obtain ⟨bi, oi, ni, hai, hci, ki⟩ := hI.out wr Br.out
            obtain ⟨f0, f1, f2, f3, f4, f5, f6, f7, f8⟩ := elem_fields hci
            generalize (t.kids[i]).forms alF = E2 at *
            clear hci h8 hix hM hI
            go_wp2_with (first
              | (go_at_call 23; refine ki.mono ?_; rintro e w3 ⟨rfl, hb3⟩))
            try simp only [hai]
            go_roundw
            case rel => exact ⟨i + 1, E2, by omega, rfl, by go_num, hbl.out.trans (hb3.mono hbl.out.size), hS'⟩
            case measure => simp [intOf]; omega
        · have hM0' : (M == 0) = false := by simp [hM0]
          obtain rfl : R = M := by rw [hF.out i (by rw [← hM.out]; exact hM0), hM.out]
          clear hM0
          go_wp2
          go_ret
          exact ⟨rfl, Br.out⟩
      · have hz : ¬ (i : Int) < (b.li : Int) := by omega
        obtain rfl : i = b.li := by omega
        have hRM : Hid (R = M) := by
          show _ = _
          by_cases hM0 : M = 0
          · rw [hM0]; exact hE.out (by rw [← hM.out]; exact hM0)
          · rw [hF.out b.li (by rw [← hM.out]; exact hM0), hM.out]
        obtain rfl : R = M := hRM.out
        clear hRM
        go_wp2
        go_ret
        exact ⟨rfl, Br.out⟩
  · rw [forms_not hz]
    have hz' : (alF t == 0) = false := by simp [hz]
    generalize alF t = M at *
    clear hz
    by_cases hlt : 0 < b.li
    · have hz : (0 : Int) < (b.li : Int) := by omega
      go_enter Tryz.func23, Tryz.ntmps23
      go_wp2_with (go_at_call 33; refine kA.mono ?_; rintro e w1 ⟨rfl, hb1⟩; clear kA a0 a1 a2 a3 a4 a5 a6 a7 a8; have Q1 : Hid (NBox w1 w.heap.size b) := Q0.out.kept hb1 Q0.out.lt; have B1 : Hid (Below w.heap.size w w1) := B0.out.trans (hb1.mono B0.out.size); obtain ⟨a0, a1, a2, a3, a4, a5, a6, a7, a8⟩ := Q1.out.fields)
      go_loopw [3, 4] (fun s3 s4 wr => s3 = .int .i64 M ∧ s4 = .int .i64 0 ∧ wr = w1) (fun _ i _ => 0)
      case atStart => exact ⟨rfl, rfl, rfl⟩
      case round =>
        obtain ⟨rfl, rfl, rfl⟩ := hrel
        go_wp2
        go_ret
        exact ⟨rfl, B1.out⟩
    · have hz : ¬ (0 : Int) < (b.li : Int) := by omega
      clear hlt
      go_enter Tryz.func23, Tryz.ntmps23
      go_wp2_with (go_at_call 33; refine kA.mono ?_; rintro e w1 ⟨rfl, hb1⟩; clear kA a0 a1 a2 a3 a4 a5 a6 a7 a8; have Q1 : Hid (NBox w1 w.heap.size b) := Q0.out.kept hb1 Q0.out.lt; have B1 : Hid (Below w.heap.size w w1) := B0.out.trans (hb1.mono B0.out.size); obtain ⟨a0, a1, a2, a3, a4, a5, a6, a7, a8⟩ := Q1.out.fields)
      go_loopw [3, 4] (fun s3 s4 wr => s3 = .int .i64 M ∧ s4 = .int .i64 0 ∧ wr = w1) (fun _ i _ => 0)
      case atStart => exact ⟨rfl, rfl, rfl⟩
      case round =>
        obtain ⟨rfl, rfl, rfl⟩ := hrel
        go_wp2
        go_ret
        exact ⟨rfl, B1.out⟩
theorem form_all : ∀ D, FormAt D := by
  intro D
  induction D with
  | zero => intro t b w h; exact absurd h id
  | succ D ih => exact form_step ih
end Go.Proofs.YtmlacmoembjeoaaGreatDoor
namespace Go.Proofs.YtmlacmoembjeoaaGreatDoor
set_option linter.unusedVariables false
namespace Tr

/-- One of each in turn, and what is left of the longer. -/
def alt {α : Type} : List α → List α → List α
  | [], m => m
  | a :: l, [] => a :: l
  | a :: l, b :: m => a :: b :: alt l m
theorem alt_nil {α : Type} (l : List α) : alt l [] = l := by cases l <;> rfl
theorem alt_mem {α : Type} (x : α) : ∀ l m : List α, x ∈ alt l m ↔ x ∈ l ∨ x ∈ m := by
  intro l
  induction l with
  | nil => intro m; simp [alt]
  | cons a l ih =>
    intro m
    cases m with
    | nil => simp [alt]
    | cons b m =>
      simp only [alt, List.mem_cons, ih]
      constructor
      · rintro (h | h | h | h)
        · exact .inl (.inl h)
        · exact .inr (.inl h)
        · exact .inl (.inr h)
        · exact .inr (.inr h)
      · rintro ((h | h) | (h | h))
        · exact .inl h
        · exact .inr (.inr (.inl h))
        · exact .inr (.inl h)
        · exact .inr (.inr (.inr h))
theorem alt_map {α β : Type} (f : α → β) : ∀ l m : List α, (alt l m).map f = alt (l.map f) (m.map f) := by
  intro l
  induction l with
  | nil => intro m; rfl
  | cons a l ih =>
    intro m
    cases m with
    | nil => rfl
    | cons b m => simp only [alt, List.map_cons, ih]
theorem alt_inter {α : Type} : ∀ l m : List α, l.length = m.length → alt l m = inter l m := by
  intro l
  induction l with
  | nil => intro m h; cases m with | nil => rfl | cons b m => cases h
  | cons a l ih =>
    intro m h
    cases m with
    | nil => cases h
    | cons b m => simp only [alt, inter, ih m (by simpa using h)]
theorem alt_sum : ∀ l m : List Nat, (alt l m).sum = l.sum + m.sum := by
  intro l
  induction l with
  | nil => intro m; simp [alt]
  | cons a l ih =>
    intro m
    cases m with
    | nil => simp [alt]
    | cons b m => simp only [alt, List.sum_cons, ih]; omega
/-- The next two, if they are there. -/
def oneAt {α : Type} (l : List α) (i : Nat) : List α := match l[i]? with | some x => [x] | none => []
theorem oneAt_lt {α : Type} {l : List α} {i : Nat} (h : i < l.length) : oneAt l i = [l[i]] := by unfold oneAt; rw [List.getElem?_eq_getElem h]
theorem oneAt_ge {α : Type} {l : List α} {i : Nat} (h : l.length ≤ i) : oneAt l i = [] := by unfold oneAt; rw [List.getElem?_eq_none h]
theorem alt_drop {α : Type} : ∀ (i : Nat) (l m : List α), alt (l.drop i) (m.drop i) = oneAt l i ++ (oneAt m i ++ alt (l.drop (i + 1)) (m.drop (i + 1))) := by
  intro i
  induction i with
  | zero =>
    intro l m
    cases l with
    | nil => cases m with
      | nil => rfl
      | cons b m => simp [alt, oneAt]
    | cons a l => cases m with
      | nil => simp [oneAt, alt_nil]
      | cons b m => simp [alt, oneAt]
  | succ i ih =>
    intro l m
    have e : ∀ (x : List α), oneAt x (i + 1) = oneAt x.tail i := by intro x; cases x <;> simp [oneAt]
    have d : ∀ (x : List α) (k : Nat), x.drop (k + 1) = x.tail.drop k := by intro x k; cases x <;> simp
    rw [e, e, d, d, ih, d l (i + 1), d m (i + 1)]

/-- ALL NODES, each with its depth, ahead of those in it, a key ahead of its kid. -/
def seq : Tr → Nat → List (Tr × Nat)
  | ⟨k, b, c, d, e, f, g, keys, kids⟩, n => (⟨k, b, c, d, e, f, g, keys, kids⟩, n) :: (alt (keys.map fun u => seq u (n + 1)) (kids.map fun u => seq u (n + 1))).flatten
theorem seq_eq (t : Tr) (n : Nat) : t.seq n = (t, n) :: (alt (t.keys.map fun u => seq u (n + 1)) (t.kids.map fun u => seq u (n + 1))).flatten := by
  cases t; rw [seq]
/-- Those in it. -/
def seqs (l : List Tr) (n : Nat) : List (Tr × Nat) := (l.map fun u => seq u n).flatten
theorem seq_alt (t : Tr) (n : Nat) : t.seq n = (t, n) :: seqs (alt t.keys t.kids) (n + 1) := by
  rw [seq_eq, seqs, alt_map]
theorem seqs_app (l m : List Tr) (n : Nat) : seqs (l ++ m) n = seqs l n ++ seqs m n := by simp [seqs]
theorem seqs_one (t : Tr) (n : Nat) : seqs [t] n = seq t n := by simp [seqs]
theorem seqs_nil (n : Nat) : seqs [] n = [] := rfl
theorem seqs_cons (t : Tr) (l : List Tr) (n : Nat) : seqs (t :: l) n = seq t n ++ seqs l n := by simp [seqs]

theorem seq_len (t : Tr) : ∀ n, (t.seq n).length = t.size := by
  induction t using ind with
  | h t hk hi =>
    intro n
    rw [seq_eq, List.length_cons, List.length_flatten, alt_map, alt_sum, size_eq, sizes, sizes, List.map_map, List.map_map]
    have a : t.keys.map (List.length ∘ fun u => seq u (n + 1)) = t.keys.map size := List.map_congr_left fun u hu => hk u hu _
    have b : t.kids.map (List.length ∘ fun u => seq u (n + 1)) = t.kids.map size := List.map_congr_left fun u hu => hi u hu _
    rw [a, b]; omega

theorem foldl_max_app (l m : List Nat) : (l ++ m).foldl max 0 = max (l.foldl max 0) (m.foldl max 0) := by
  have : ∀ (m : List Nat) (a : Nat), m.foldl max a = max a (m.foldl max 0) := by
    intro m
    induction m with
    | nil => intro a; simp
    | cons x m ih => intro a; rw [List.foldl_cons, ih, List.foldl_cons, ih (max 0 x)]; omega
  rw [List.foldl_append, this m]
theorem mx_app (l m : List Nat) : mx (l ++ m) = max (mx l) (mx m) := foldl_max_app l m
theorem mx_cons (a : Nat) (m : List Nat) : mx (a :: m) = max a (mx m) := by
  have := mx_app [a] m
  simpa [mx] using this
theorem mx_flat (l : List (List Nat)) : mx l.flatten = mx (l.map mx) := by
  induction l with
  | nil => rfl
  | cons a l ih => rw [List.flatten_cons, mx_app, ih, List.map_cons, mx_cons]
theorem mx_alt : ∀ l m : List Nat, mx (alt l m) = max (mx l) (mx m) := by
  intro l
  induction l with
  | nil => intro m; simp [alt, mx]
  | cons a l ih =>
    intro m
    cases m with
    | nil => simp [alt, mx]
    | cons b m => simp only [alt, mx_cons, ih]; omega
theorem mx_addL (n : Nat) : ∀ l : List Nat, l ≠ [] → mx (l.map (n + ·)) = n + mx l := by
  intro l
  induction l with
  | nil => intro h; exact absurd rfl h
  | cons a l ih =>
    intro _
    rw [List.map_cons, mx_cons, mx_cons]
    cases l with
    | nil => simp [mx]
    | cons b l => rw [ih (by simp)]; omega

/-- The deepest. -/
theorem seq_deep (t : Tr) : ∀ n, mx ((t.seq (n + 1)).map Prod.snd) = n + t.deep := by
  induction t using ind with
  | h t hk hi =>
    intro n
    rw [seq_eq, List.map_cons, mx_cons, List.map_flatten, mx_flat, List.map_map, alt_map, mx_alt, List.map_map, List.map_map, deep_eq]
    have a : t.keys.map ((mx ∘ List.map Prod.snd) ∘ fun u => seq u (n + 1 + 1)) = (t.keys.map deep).map ((n + 1) + ·) := by
      rw [List.map_map]; exact List.map_congr_left fun u hu => hk u hu (n + 1)
    have b : t.kids.map ((mx ∘ List.map Prod.snd) ∘ fun u => seq u (n + 1 + 1)) = (t.kids.map deep).map ((n + 1) + ·) := by
      rw [List.map_map]; exact List.map_congr_left fun u hu => hi u hu (n + 1)
    rw [a, b]
    show max (n + 1) _ = _
    unfold deeps
    by_cases h1 : t.keys.map deep = []
    · by_cases h2 : t.kids.map deep = []
      · rw [h1, h2]; simp [mx]
      · rw [h1, mx_addL _ _ h2]; simp [mx]; omega
    · by_cases h2 : t.kids.map deep = []
      · rw [h2, mx_addL _ _ h1]; simp [mx]; omega
      · rw [mx_addL _ _ h1, mx_addL _ _ h2]; omega

/-- GOING OVER THEM, as long as more is wanted: was all wanted, and what is known behind it. -/
def go {σ : Type} (f : Tr → Nat → σ → Bool × σ) : List (Tr × Nat) → σ → Bool × σ
  | [], s => (true, s)
  | x :: l, s => if (f x.1 x.2 s).1 = true then go f l (f x.1 x.2 s).2 else (false, (f x.1 x.2 s).2)
theorem go_nil {σ : Type} (f : Tr → Nat → σ → Bool × σ) (s : σ) : go f [] s = (true, s) := rfl
theorem go_cons {σ : Type} (f : Tr → Nat → σ → Bool × σ) (x : Tr × Nat) (l : List (Tr × Nat)) (s : σ) : go f (x :: l) s = if (f x.1 x.2 s).1 = true then go f l (f x.1 x.2 s).2 else (false, (f x.1 x.2 s).2) := rfl
theorem go_app {σ : Type} (f : Tr → Nat → σ → Bool × σ) (m : List (Tr × Nat)) : ∀ (l : List (Tr × Nat)) (s : σ), go f (l ++ m) s = if (go f l s).1 = true then go f m (go f l s).2 else go f l s := by
  intro l
  induction l with
  | nil => intro s; simp [go]
  | cons x l ih =>
    intro s
    rw [List.cons_append, go_cons, go_cons]
    by_cases h : (f x.1 x.2 s).1 = true
    · rw [if_pos h, if_pos h, ih]
    · rw [if_neg h, if_neg h]; simp

/-! ### How many, how deep -/

/-- One more node: its number, the deepest. -/
def meas (_ : Tr) (d : Nat) (s : Nat × Nat) : Bool × (Nat × Nat) := (decide (s.1 + 1 ≤ 1024), (s.1 + 1, max s.2 d))
theorem meas_go : ∀ (l : List (Tr × Nat)) (a b : Nat), a ≤ 1024 → go meas l (a, b) = if a + l.length ≤ 1024 then (true, (a + l.length, max b (mx (l.map Prod.snd)))) else (false, (go meas l (a, b)).2) := by
  intro l
  induction l with
  | nil => intro a b ha; simp [go, mx, ha]
  | cons x l ih =>
    intro a b ha
    rw [go_cons]
    simp only [meas, List.length_cons, List.map_cons, mx_cons]
    by_cases h : a + 1 ≤ 1024
    · simp only [h, decide_true, if_true]
      rw [ih (a + 1) (max b x.2) h]
      by_cases h2 : a + 1 + l.length ≤ 1024
      · rw [if_pos h2, if_pos (by omega)]
        simp only [Prod.mk.injEq, true_and]
        exact ⟨by omega, by omega⟩
      · rw [if_neg h2, if_neg (by omega)]
    · have e : ¬ (a + (l.length + 1) ≤ 1024) := by omega
      rw [if_neg e]
      simp [h]
/-- What the program tells of how many there are, and how deep. -/
def mes (t : Tr) : Nat × Nat := if t.size ≤ 1024 then (t.size, t.deep) else (1025, 1025)
theorem meas_all (t : Tr) : (go meas (t.seq 1) (0, 0)).1 = decide (t.size ≤ 1024) ∧ (t.size ≤ 1024 → (go meas (t.seq 1) (0, 0)).2 = (t.size, t.deep)) := by
  rw [meas_go _ _ _ (by omega), seq_len, seq_deep t 0]
  by_cases h : t.size ≤ 1024
  · rw [if_pos (by omega)]
    refine ⟨by simp [h], fun _ => ?_⟩
    simp
  · rw [if_neg (by omega)]
    exact ⟨by simp [h], fun h' => absurd h' h⟩

/-! ### The first fault -/

/-- The fault of the node: go on, if there is none. -/
def flt (al : Tr → Int) (t : Tr) (_ : Nat) (_ : Int) : Bool × Int := (decide (al t = 0), al t)
theorem flt_go (al : Tr → Int) : ∀ (l : List (Tr × Nat)), (go (flt al) l 0).2 = firstE (l.map fun x => al x.1) := by
  have : ∀ (l : List (Tr × Nat)) (s : Int), s = 0 → (go (flt al) l s).2 = firstE (l.map fun x => al x.1) := by
    intro l
    induction l with
    | nil => intro s hs; exact hs
    | cons x l ih =>
      intro s hs
      rw [go_cons, List.map_cons]
      by_cases h : al x.1 = 0
      · rw [if_pos (show (flt al x.1 x.2 s).1 = true from decide_eq_true h), ih (flt al x.1 x.2 s).2 h, h, firstE_zero]
      · rw [if_neg (show ¬ (flt al x.1 x.2 s).1 = true from fun e => h (of_decide_eq_true e)), firstE_not _ h]
        rfl
  exact fun l => this l 0 rfl
theorem seq_forms {al : Tr → Int} (hs : Shaped al) (t : Tr) : ∀ n, firstE ((t.seq n).map fun x => al x.1) = t.forms al := by
  induction t using ind with
  | h t hk hi =>
    intro n
    rw [forms_eq, seq_eq, List.map_cons]
    by_cases h0 : al t = 0
    · show firstE (al t :: _) = _
      rw [h0, firstE_zero, firstE_zero, List.map_flatten, firstE_flat, List.map_map, alt_map, List.map_map, List.map_map]
      have a : t.keys.map ((firstE ∘ List.map fun x => al x.1) ∘ fun u => seq u (n + 1)) = t.keys.map (forms al) := List.map_congr_left fun u hu => hk u hu (n + 1)
      have b : t.kids.map ((firstE ∘ List.map fun x => al x.1) ∘ fun u => seq u (n + 1)) = t.kids.map (forms al) := List.map_congr_left fun u hu => hi u hu (n + 1)
      rw [a, b, ← alt_map]
      congr 2
      unfold steps
      split
      · rename_i h8; exact alt_inter _ _ ((hs t h0).1 h8)
      · rename_i h8; rw [(hs t h0).2 h8]; rfl
    · show firstE (al t :: _) = _
      rw [firstE_not _ h0, firstE_not _ h0]
theorem flt_all {al : Tr → Int} (hs : Shaped al) (t : Tr) (n : Nat) : (go (flt al) (t.seq n) 0).2 = t.forms al := by
  rw [flt_go, seq_forms hs]

/-! ### Keys twice -/

/-- Go on, if no two keys are the same. -/
def twc (p : Tr → Bool) (t : Tr) (_ : Nat) (s : Unit) : Bool × Unit := (p t, s)
theorem twc_go (p : Tr → Bool) : ∀ (l : List (Tr × Nat)), (go (twc p) l ()).1 = l.all fun x => p x.1 := by
  intro l
  induction l with
  | nil => rfl
  | cons x l ih =>
    rw [go_cons, List.all_cons]
    by_cases h : p x.1 = true
    · rw [if_pos (show (twc p x.1 x.2 ()).1 = true from h), h, Bool.true_and]; exact ih
    · rw [if_neg (show ¬ (twc p x.1 x.2 ()).1 = true from h)]; simp at h; simp [h]
theorem seq_all (Q : Tr → Prop) (t : Tr) : ∀ n, (∀ x ∈ t.seq n, Q x.1) ↔ t.All Q := by
  induction t using ind with
  | h t hk hi =>
    intro n
    rw [seq_eq, all_eq]
    constructor
    · intro h
      refine ⟨h (t, n) List.mem_cons_self, fun k hm => (hk k hm (n + 1)).1 fun x hx => h x ?_, fun k hm => (hi k hm (n + 1)).1 fun x hx => h x ?_⟩
      · exact List.mem_cons_of_mem _ (List.mem_flatten.2 ⟨_, (alt_mem _ _ _).2 (.inl (List.mem_map.2 ⟨k, hm, rfl⟩)), hx⟩)
      · exact List.mem_cons_of_mem _ (List.mem_flatten.2 ⟨_, (alt_mem _ _ _).2 (.inr (List.mem_map.2 ⟨k, hm, rfl⟩)), hx⟩)
    · rintro ⟨h0, h1, h2⟩ x hx
      rcases List.mem_cons.1 hx with rfl | hx
      · exact h0
      · obtain ⟨l, hl, hx⟩ := List.mem_flatten.1 hx
        rcases (alt_mem _ _ _).1 hl with hl | hl
        · obtain ⟨k, hm, rfl⟩ := List.mem_map.1 hl
          exact (hk k hm (n + 1)).2 (h1 k hm) x hx
        · obtain ⟨k, hm, rfl⟩ := List.mem_map.1 hl
          exact (hi k hm (n + 1)).2 (h2 k hm) x hx
theorem twc_all (p : Tr → Bool) (t : Tr) (n : Nat) : (go (twc p) (t.seq n) ()).1 = true ↔ t.All (fun u => p u = true) := by
  rw [twc_go, List.all_eq_true]
  exact seq_all (fun u => p u = true) t n
end Tr
end Go.Proofs.YtmlacmoembjeoaaGreatDoor
namespace Go.Proofs.YtmlacmoembjeoaaGreatDoor
open Go.RowKit
set_option linter.unusedVariables false

/-- WHAT IS ASKED OF THE FUNCTION TO WHICH EACH NODE IS HANDED: f is what it answers, and what is known then; I what is known, in memory; C the blocks that it may turn; J which depths may come. -/
structure Takes (g : Nat) (cap : Array Value) (σ : Type) (f : Tr → Nat → σ → Bool × σ) (I : σ → World → Prop) (J : σ → Nat → Tr → Prop) (C : Nat → Prop) (B : Nat) : Prop where
  call : ∀ (s : σ) (w : World) (b : Nb) (t : Tr) (d D : Nat), I s w → J s d t → NdS (· < B) D w b t → Calls Tryz.prog g (#[.agg b.arr, .int .i64 d] ++ cap) w fun e w' => e = .returned (.bool (f t d s).1) ∧ I (f t d s).2 w' ∧ Kp C w w'
  enter : ∀ args w, (callFunc g args).run Tryz.prog w = .ok (.enter g args) w
  keeps : ∀ s w w', I s w → Below w.heap.size w w' → I s w'
  room : ∀ s w, I s w → B ≤ w.heap.size ∧ ∀ k, C k → B ≤ k ∧ k < w.heap.size
  first : ∀ s d t u, J s d t → (u ∈ t.keys ∨ u ∈ t.kids) → (f t d s).1 = true → J (f t d s).2 (d + 1) u ∧ d < 4611686018427387904
  more : ∀ s d u t' d', J s d u → (f t' d' s).1 = true → J (f t' d' s).2 d u
theorem Takes.goes {g : Nat} {cap : Array Value} {σ : Type} {f : Tr → Nat → σ → Bool × σ} {I : σ → World → Prop} {J : σ → Nat → Tr → Prop} {C : Nat → Prop} {B : Nat} (T : Takes g cap σ f I J C B) {d : Nat} {u : Tr} : ∀ (l : List (Tr × Nat)) (s : σ), J s d u → (Tr.go f l s).1 = true → J (Tr.go f l s).2 d u := by
  intro l
  induction l with
  | nil => intro s h _; exact h
  | cons x l ih =>
    intro s h hr
    rw [Tr.go_cons] at hr ⊢
    by_cases h1 : (f x.1 x.2 s).1 = true
    · rw [if_pos h1] at hr ⊢
      exact ih _ (T.more s d u _ _ h h1) hr
    · rw [if_neg h1] at hr
      cases hr

/-- What is left to go over at round i. -/
def Left {σ : Type} (f : Tr → Nat → σ → Bool × σ) (t : Tr) (d : Nat) (i : Nat) (s : σ) : Bool × σ := Tr.go f (Tr.seqs (Tr.alt (t.keys.drop i) (t.kids.drop i)) (d + 1)) s
theorem left_end {σ : Type} (f : Tr → Nat → σ → Bool × σ) {t : Tr} {d i : Nat} (hk : t.keys.length ≤ i) (hi : t.kids.length ≤ i) (s : σ) : Left f t d i s = (true, s) := by
  unfold Left
  rw [List.drop_of_length_le hk, List.drop_of_length_le hi]
  rfl
theorem left_both {σ : Type} (f : Tr → Nat → σ → Bool × σ) {t : Tr} {d i : Nat} (hk : i < t.keys.length) (hi : i < t.kids.length) (s : σ) :
    Left f t d i s = if (Tr.go f ((t.keys[i]).seq (d + 1)) s).1 = true then (if (Tr.go f ((t.kids[i]).seq (d + 1)) (Tr.go f ((t.keys[i]).seq (d + 1)) s).2).1 = true then Left f t d (i + 1) (Tr.go f ((t.kids[i]).seq (d + 1)) (Tr.go f ((t.keys[i]).seq (d + 1)) s).2).2 else Tr.go f ((t.kids[i]).seq (d + 1)) (Tr.go f ((t.keys[i]).seq (d + 1)) s).2) else Tr.go f ((t.keys[i]).seq (d + 1)) s := by
  unfold Left
  rw [Tr.alt_drop, Tr.oneAt_lt hk, Tr.oneAt_lt hi, Tr.seqs_app, Tr.seqs_app, Tr.seqs_one, Tr.seqs_one, Tr.go_app, Tr.go_app]
theorem left_key {σ : Type} (f : Tr → Nat → σ → Bool × σ) {t : Tr} {d i : Nat} (hk : i < t.keys.length) (hi : t.kids.length ≤ i) (s : σ) :
    Left f t d i s = if (Tr.go f ((t.keys[i]).seq (d + 1)) s).1 = true then Left f t d (i + 1) (Tr.go f ((t.keys[i]).seq (d + 1)) s).2 else Tr.go f ((t.keys[i]).seq (d + 1)) s := by
  unfold Left
  rw [Tr.alt_drop, Tr.oneAt_lt hk, Tr.oneAt_ge hi, List.nil_append, Tr.seqs_app, Tr.seqs_one, Tr.go_app]
theorem left_kid {σ : Type} (f : Tr → Nat → σ → Bool × σ) {t : Tr} {d i : Nat} (hk : t.keys.length ≤ i) (hi : i < t.kids.length) (s : σ) :
    Left f t d i s = if (Tr.go f ((t.kids[i]).seq (d + 1)) s).1 = true then Left f t d (i + 1) (Tr.go f ((t.kids[i]).seq (d + 1)) s).2 else Tr.go f ((t.kids[i]).seq (d + 1)) s := by
  unfold Left
  rw [Tr.alt_drop, Tr.oneAt_ge hk, Tr.oneAt_lt hi, List.nil_append, Tr.seqs_app, Tr.seqs_one, Tr.go_app]
theorem left_start {σ : Type} (f : Tr → Nat → σ → Bool × σ) {t : Tr} {d : Nat} (s : σ) : Tr.go f (t.seq d) s = if (f t d s).1 = true then Left f t d 0 (f t d s).2 else (false, (f t d s).2) := by
  rw [Tr.seq_alt, Tr.go_cons]
  rfl
/-- The element at i of a row that lies below B, in a world in which that has stayed. -/
theorem row_at {B D : Nat} {w w' : World} {a : Option Addr} {len cap : Nat} {l : List Tr} (h : RowN (NdS (· < B) D w) w a len cap l) (hin : In (· < B) a len) (hb : Below B w w') {i : Nat} (hi : i < l.length) :
    ∃ (bk off : Nat) (nb : Nb), a = some ⟨bk, off, none⟩ ∧ (∀ j, j < 9 → w'.cell? ⟨bk, off + (i * 9 + j), none⟩ = nb.cells[j]?) ∧ NdS (· < B) D w' nb l[i] := by
  obtain ⟨h0, _, h2⟩ := h
  rcases h2 with rfl | ⟨b, off, ha, hc⟩
  · cases hi
  · obtain ⟨nb, hn, hQ⟩ := hc i hi
    refine ⟨b, off, nb, ha, fun j hj => ?_, hQ.below hb fun k hk => hk⟩
    rw [hb.cell (p := ⟨b, off + (i * 9 + j), none⟩) (hin (by omega) ⟨b, off, none⟩ ha)]
    exact hn j hj


end Go.Proofs.YtmlacmoembjeoaaGreatDoor
namespace Go.Proofs.YtmlacmoembjeoaaGreatDoor
open Go.RowKit
set_option linter.unusedVariables false

end Go.Proofs.YtmlacmoembjeoaaGreatDoor
namespace Go.Proofs.YtmlacmoembjeoaaGreatDoor
open Go.RowKit
set_option linter.unusedVariables false

end Go.Proofs.YtmlacmoembjeoaaGreatDoor
namespace Go.Proofs.YtmlacmoembjeoaaGreatDoor
open Go.RowKit
set_option linter.unusedVariables false

end Go.Proofs.YtmlacmoembjeoaaGreatDoor
namespace Go.Proofs.YtmlacmoembjeoaaGreatDoor
open Go.RowKit
set_option linter.unusedVariables false

/-- Two numbers in boxes of their own. -/
def IM (B g2 g3 : Nat) (s : Nat × Nat) (w : World) : Prop := w.heap[g2]? = some (.cells #[.int .i64 (s.1 : Nat)] 3 (0, 0)) ∧ w.heap[g3]? = some (.cells #[.int .i64 (s.2 : Nat)] 3 (0, 0)) ∧ B ≤ w.heap.size
theorem block_lt {w : World} {g : Nat} {o : Obj} (h : w.heap[g]? = some o) : g < w.heap.size := (Array.getElem?_eq_some_iff.1 h).1
theorem other_set {w : World} {g k : Nat} (h : k ≠ g) (u : Value) : (w.setCell ⟨g, 0, none⟩ u).heap[k]? = w.heap[k]? := Below.heap_setCell w ⟨g, 0, none⟩ u k h
theorem kp_set {w : World} {C : Nat → Prop} {g : Nat} (h : C g) (u : Value) : Kp C w (w.setCell ⟨g, 0, none⟩ u) :=
  ⟨rfl, rfl, rfl, by simp [World.setCell], fun k _ hc => other_set (fun e => hc (by rw [e]; exact h)) u⟩
theorem Tr.mes_few (t : Tr) : decide ((t.mes.1 : Nat) ≤ 1024) = decide (t.size ≤ 1024) := by
  unfold Tr.mes
  split
  · rfl
  · rename_i h; simp [h]
end Go.Proofs.YtmlacmoembjeoaaGreatDoor
namespace Go.Proofs.YtmlacmoembjeoaaGreatDoor
open Go.RowKit
set_option linter.unusedVariables false

theorem RowN.take {Q : Nb → Tr → Prop} {w : World} {a : Option Addr} {len cap : Nat} {l : List Tr} (h : RowN Q w a len cap l) {i : Nat} (hi : i ≤ len) : RowN Q w a i cap (l.take i) := by
  obtain ⟨h0, h1, h2⟩ := h
  refine ⟨by rw [List.length_take]; omega, ⟨Nat.le_trans hi h1.1, h1.2.1, h1.2.2.1, Nat.le_trans (Nat.mul_le_mul_right _ hi) h1.2.2.2⟩, ?_⟩
  rcases h2 with rfl | ⟨b, off, ha, hc⟩
  · exact .inl (by simp)
  · refine .inr ⟨b, off, ha, fun j hj => ?_⟩
    have hj' : j < l.length := by rw [List.length_take] at hj; omega
    obtain ⟨nb, hn, hQ⟩ := hc j hj'
    exact ⟨nb, hn, by rw [List.getElem_take]; exact hQ⟩

end Go.Proofs.YtmlacmoembjeoaaGreatDoor
namespace Go.Proofs.YtmlacmoembjeoaaGreatDoor
open Go.RowKit
set_option linter.unusedVariables false

/-- A node's box, and nothing else turned. -/
def Bo1 (w wx : World) (b : Nb) : Prop := NBox wx w.heap.size b ∧ Below w.heap.size w wx
theorem bo1_new (w : World) (b : Nb) : Bo1 w (w.alloc (.cells b.arr 26)) b := ⟨nbox_new w b, alloc_below w _⟩
theorem Bo1.on {w wx wy : World} {b : Nb} (h : Bo1 w wx b) (hb : Below wx.heap.size wx wy) : Bo1 w wy b := ⟨h.1.kept hb h.1.lt, h.2.trans (hb.mono h.2.size)⟩
theorem Bo1.drew {w wx : World} {b : Nb} (h : Bo1 w wx b) : Bo1 w wx.drew b := h.on (Below.refl _ _).drew
/-- No map in it has two keys that are the same. -/
def Tr.once (t : Tr) : Prop := t.All (fun u => u.keys.Nodup)
theorem once_eq (t : Tr) : t.once ↔ t.keys.Nodup ∧ (∀ k, k ∈ t.keys → k.once) ∧ (∀ k, k ∈ t.kids → k.once) := Tr.all_eq _ t
def TwAt (D : Nat) : Prop := ∀ (t : Tr) (b : Nb) (w : World) (v : Bool), Nd D w b t → (v = true ↔ ¬ t.once) → Calls Tryz.prog 24 #[.agg b.arr] w fun e w' => e = .returned (.bool v) ∧ Below w.heap.size w w'
theorem tw_el {D : Nat} (ih : TwAt D) {w : World} {a : Option Addr} {len cap : Nat} {l : List Tr} (h : RowN (Nd D w) w a len cap l) {i : Nat} (hi : i < l.length) {v : Bool} (hv : v = true ↔ ¬ (l[i]).once) (w2 : World) (hb : Below w.heap.size w w2) :
    ∃ (bk ok : Nat) (nk : Nb), a = some ⟨bk, ok, none⟩ ∧ (∀ j, j < 9 → w2.cell? ⟨bk, ok + (i * 9 + j), none⟩ = nk.cells[j]?) ∧ Calls Tryz.prog 24 #[.agg nk.arr] w2 fun e w' => e = .returned (.bool v) ∧ Below w2.heap.size w2 w' := by
  obtain ⟨bk, ok, nk, h1, h2, h3, _⟩ := row_el h hb hi
  exact ⟨bk, ok, nk, h1, h2, ih _ _ _ _ h3 hv⟩
theorem bool_of (p : Prop) : ∃ v : Bool, v = true ↔ p := ⟨@decide p (Classical.propDecidable _), by simp⟩
theorem take_once {l : List Tr} {i : Nat} (hi : i < l.length) (h : ∀ k, k ∈ l.take i → k.once) (h1 : (l[i]).once) : ∀ k, k ∈ l.take (i + 1) → k.once := by
  intro k hk
  rw [List.take_succ_eq_append_getElem hi] at hk
  rcases List.mem_append.1 hk with hk | hk
  · exact h k hk
  · rw [List.mem_singleton] at hk; subst hk; exact h1
/-- So far no key at a place is one of those ahead: k of those ahead of i were held against it. -/
def NotAmong (l : List Tr) (i k : Nat) : Prop := ∀ (h : i < l.length), l[i] ∉ l.take k
theorem not_among_zero (l : List Tr) (i : Nat) : NotAmong l i 0 := fun h => by simp
theorem not_among_next {l : List Tr} {i k : Nat} (hk : k < l.length) (h : NotAmong l i k) (hi : i < l.length) (hne : l[i] ≠ l[k]) : NotAmong l i (k + 1) := fun _ => by
  rw [List.take_succ_eq_append_getElem hk]
  intro hm
  rcases List.mem_append.1 hm with hm | hm
  · exact h hi hm
  · rw [List.mem_singleton] at hm; exact hne hm
theorem nodup_next {l : List Tr} {i : Nat} (hi : i < l.length) (h : (l.take i).Nodup) (hn : NotAmong l i i) : (l.take (i + 1)).Nodup := by
  rw [List.take_succ_eq_append_getElem hi]
  refine List.nodup_append.2 ⟨h, by simp, fun x hx y hy he => ?_⟩
  rw [List.mem_singleton] at hy
  subst hy he
  exact hn hi hx
theorem nodup_not {l : List Tr} {i k : Nat} (hi : i < l.length) (hk : k < i) (he : l[i] = l[k]'(by omega)) : ¬ l.Nodup := by
  intro hn
  have := (List.getElem_inj (h₀ := hi) (h₁ := by omega) hn).1 he
  omega

set_option maxHeartbeats 4000000 in
set_option maxRecDepth 100000 in
theorem tw_step {D : Nat} (ih : TwAt D) : TwAt (D + 1) := by
  intro t b w v hN hv
  have hal := alloc_below w (.cells b.arr 26)
  have Q0 : Hid (NBox (w.alloc (.cells b.arr 26)) w.heap.size b) := nbox_new w b
  have B0 : Hid (Below w.heap.size w (w.alloc (.cells b.arr 26))) := hal
  obtain ⟨a0, a1, a2, a3, a4, a5, a6, a7, a8⟩ := (nbox_new w b).fields
  have hNk : Hid (RowN (Nd D w) w b.ak b.lk b.ck t.keys) := hN.2.2.2.1
  have hNi : Hid (RowN (Nd D w) w b.ai b.li b.ci t.kids) := hN.2.2.2.2
  have hlk : Hid (t.keys.length = b.lk) := hN.2.2.2.1.1
  have hli : Hid (t.kids.length = b.li) := hN.2.2.2.2.1
  have mk := hN.2.2.2.1.2.1.1
  have mk' := hN.2.2.2.1.2.1.2.1
  have mi := hN.2.2.2.2.2.1.1
  have mi' := hN.2.2.2.2.2.1.2.1
  unfold maxLen at mk' mi'
  have hV : Hid (v = true ↔ ¬ t.once) := hv
  clear hal hN hv
  go_enter Tryz.func24, Tryz.ntmps24
  go_wp2
  go_loopw [3] (fun s3 wr => ∃ (i : Nat), i ≤ b.lk ∧ s3 = .int .i64 i ∧ Hid (Below (w.alloc (.cells b.arr 26)).heap.size (w.alloc (.cells b.arr 26)) wr) ∧ Hid ((t.keys.take i).Nodup)) (fun i _ => b.lk - (intOf i).toNat)
  case atStart => exact ⟨0, Nat.zero_le _, rfl, Below.refl _ _, by show List.Nodup _; simp⟩
  case round =>
    obtain ⟨i, him, rfl, hbl, hD⟩ := hrel
    clear a0 a1 a2 a3 a4 a5 a6 a7 a8
    have Qr : Hid (NBox wr w.heap.size b) := Q0.out.kept hbl.out Q0.out.lt
    have Br : Hid (Below w.heap.size w wr) := B0.out.trans (hbl.out.mono B0.out.size)
    obtain ⟨a0, a1, a2, a3, a4, a5, a6, a7, a8⟩ := Qr.out.fields
    by_cases hlt : i < b.lk
    · have hz : (i : Int) < (b.lk : Int) := by omega
      have hix : Hid (i < t.keys.length) := by show _ < _; rw [hlk.out]; exact hlt
      have wi : IntKind.i64.wrap ((i : Int) + 1) = (i : Int) + 1 := by rw [IntKind.wrap_i64]; omega
      go_wp2
      go_loopw [4] (fun s4 wr => ∃ (k : Nat), k ≤ i ∧ s4 = .int .i64 k ∧ Hid (Below (w.alloc (.cells b.arr 26)).heap.size (w.alloc (.cells b.arr 26)) wr) ∧ Hid (NotAmong t.keys i k)) (fun k _ => i - (intOf k).toNat)
      case atStart => exact ⟨0, Nat.zero_le _, rfl, hbl, not_among_zero _ _⟩
      case round =>
        obtain ⟨k, hki, rfl, hbs, hA⟩ := hrel
        clear a0 a1 a2 a3 a4 a5 a6 a7 a8
        have Qs : Hid (NBox wr w.heap.size b) := Q0.out.kept hbs.out Q0.out.lt
        have Bs : Hid (Below w.heap.size w wr) := B0.out.trans (hbs.out.mono B0.out.size)
        obtain ⟨a0, a1, a2, a3, a4, a5, a6, a7, a8⟩ := Qs.out.fields
        by_cases hkl : k < i
        · have hkz : (k : Int) < (i : Int) := by omega
          have hkb : (k : Int) < (b.lk : Int) := by omega
          have hkx : Hid (k < t.keys.length) := by show _ < _; rw [hlk.out]; omega
          have wk : IntKind.i64.wrap ((k : Int) + 1) = (k : Int) + 1 := by rw [IntKind.wrap_i64]; omega
          obtain ⟨bk, ok, nk, hak, hck, hNn⟩ := row_sp hNk.out Bs.out hix.out
          obtain ⟨bk', ok', nj, hak', hcj, hNj⟩ := row_sp hNk.out Bs.out hkx.out
          have hae : some (⟨bk, ok, none⟩ : Addr) = some ⟨bk', ok', none⟩ := by rw [← hak, ← hak']
          obtain ⟨rfl, rfl⟩ : bk = bk' ∧ ok = ok' := by simpa using hae
          have hT : Hid (Bo1 w wr b) := ⟨Qs.out, Bs.out⟩
          have hS : Hid (∀ wx, Bo1 w wx b → wx.cell? ⟨w.heap.size, 7, none⟩ = some (.slice (some ⟨bk, ok, none⟩) b.lk b.ck) ∧ (wx.cell? ⟨bk, ok + i * 9, none⟩ = some (.int .i64 nk.kind) ∧ wx.cell? ⟨bk, ok + i * 9 + 1, none⟩ = some (.int .u64 nk.num) ∧ wx.cell? ⟨bk, ok + i * 9 + 2, none⟩ = some (.bool nk.neg) ∧ wx.cell? ⟨bk, ok + i * 9 + 3, none⟩ = some (.string nk.dig) ∧ wx.cell? ⟨bk, ok + i * 9 + 4, none⟩ = some (.int .i64 nk.exp) ∧ wx.cell? ⟨bk, ok + i * 9 + 5, none⟩ = some (.string nk.txt) ∧ wx.cell? ⟨bk, ok + i * 9 + 6, none⟩ = some (.slice nk.ab nk.lb nk.cb) ∧ wx.cell? ⟨bk, ok + i * 9 + 7, none⟩ = some (.slice nk.ak nk.lk nk.ck) ∧ wx.cell? ⟨bk, ok + i * 9 + 8, none⟩ = some (.slice nk.ai nk.li nk.ci)) ∧ (wx.cell? ⟨bk, ok + k * 9, none⟩ = some (.int .i64 nj.kind) ∧ wx.cell? ⟨bk, ok + k * 9 + 1, none⟩ = some (.int .u64 nj.num) ∧ wx.cell? ⟨bk, ok + k * 9 + 2, none⟩ = some (.bool nj.neg) ∧ wx.cell? ⟨bk, ok + k * 9 + 3, none⟩ = some (.string nj.dig) ∧ wx.cell? ⟨bk, ok + k * 9 + 4, none⟩ = some (.int .i64 nj.exp) ∧ wx.cell? ⟨bk, ok + k * 9 + 5, none⟩ = some (.string nj.txt) ∧ wx.cell? ⟨bk, ok + k * 9 + 6, none⟩ = some (.slice nj.ab nj.lb nj.cb) ∧ wx.cell? ⟨bk, ok + k * 9 + 7, none⟩ = some (.slice nj.ak nj.lk nj.ck) ∧ wx.cell? ⟨bk, ok + k * 9 + 8, none⟩ = some (.slice nj.ai nj.li nj.ci))) := fun wx h => ⟨by rw [← hak]; exact h.1.cell 7, elem_fields (hck wx h.2), elem_fields (hcj wx h.2)⟩
          have hS0 := hS.out _ hT.out
          obtain ⟨e0, ⟨f0, f1, f2, f3, f4, f5, f6, f7, f8⟩, ⟨g0, g1, g2, g3, g4, g5, g6, g7, g8⟩⟩ := hS0
          obtain ⟨u, hu⟩ := bool_of (t.keys[i]'hix.out = t.keys[k]'hkx.out)
          have kS : ∀ w', Below w.heap.size w w' → Calls Tryz.prog 21 #[.agg nk.arr, .agg nj.arr] w' fun e w'' => e = .returned (.bool u) ∧ Below w'.heap.size w' w'' := fun w' hb => esam_any (hNn.kept hb) (hNj.kept hb) hu
          have hU : Hid (u = true ↔ t.keys[i]'hix.out = t.keys[k]'hkx.out) := hu
          clear hak' hae hcj hck hNn hNj hu
          cases u with
          | true =>
            obtain rfl : v = true := hV.out.2 (fun ho => nodup_not hix.out hkl (hU.out.1 rfl) ((once_eq t).1 ho).1)
            go_wp2
            go_region_held3 (fun wx => wx.cell? ⟨w.heap.size, 7, none⟩ = some (.slice (some ⟨bk, ok, none⟩) b.lk b.ck) ∧ (wx.cell? ⟨bk, ok + i * 9, none⟩ = some (.int .i64 nk.kind) ∧ wx.cell? ⟨bk, ok + i * 9 + 1, none⟩ = some (.int .u64 nk.num) ∧ wx.cell? ⟨bk, ok + i * 9 + 2, none⟩ = some (.bool nk.neg) ∧ wx.cell? ⟨bk, ok + i * 9 + 3, none⟩ = some (.string nk.dig) ∧ wx.cell? ⟨bk, ok + i * 9 + 4, none⟩ = some (.int .i64 nk.exp) ∧ wx.cell? ⟨bk, ok + i * 9 + 5, none⟩ = some (.string nk.txt) ∧ wx.cell? ⟨bk, ok + i * 9 + 6, none⟩ = some (.slice nk.ab nk.lb nk.cb) ∧ wx.cell? ⟨bk, ok + i * 9 + 7, none⟩ = some (.slice nk.ak nk.lk nk.ck) ∧ wx.cell? ⟨bk, ok + i * 9 + 8, none⟩ = some (.slice nk.ai nk.li nk.ci)) ∧ (wx.cell? ⟨bk, ok + k * 9, none⟩ = some (.int .i64 nj.kind) ∧ wx.cell? ⟨bk, ok + k * 9 + 1, none⟩ = some (.int .u64 nj.num) ∧ wx.cell? ⟨bk, ok + k * 9 + 2, none⟩ = some (.bool nj.neg) ∧ wx.cell? ⟨bk, ok + k * 9 + 3, none⟩ = some (.string nj.dig) ∧ wx.cell? ⟨bk, ok + k * 9 + 4, none⟩ = some (.int .i64 nj.exp) ∧ wx.cell? ⟨bk, ok + k * 9 + 5, none⟩ = some (.string nj.txt) ∧ wx.cell? ⟨bk, ok + k * 9 + 6, none⟩ = some (.slice nj.ab nj.lb nj.cb) ∧ wx.cell? ⟨bk, ok + k * 9 + 7, none⟩ = some (.slice nj.ak nj.lk nj.ck) ∧ wx.cell? ⟨bk, ok + k * 9 + 8, none⟩ = some (.slice nj.ai nj.li nj.ci))) (first | exact hS.out _ hT.out.drew | exact hS.out _ T1.out) (first
              | (go_at_call 21; refine (kS _ hT.out.drew.2).mono ?_; rintro e w1 ⟨rfl, q1⟩; have T1 : Hid (Bo1 w w1 b) := hT.out.drew.on q1; clear q1))
            go_wp2
            go_ret
            exact ⟨rfl, T1.out.2⟩
          | false =>
            have hA' : Hid (NotAmong t.keys i (k + 1)) := not_among_next hkx.out hA.out hix.out (fun h => by have := hU.out.2 h; cases this)
            go_wp2
            go_region_held3 (fun wx => wx.cell? ⟨w.heap.size, 7, none⟩ = some (.slice (some ⟨bk, ok, none⟩) b.lk b.ck) ∧ (wx.cell? ⟨bk, ok + i * 9, none⟩ = some (.int .i64 nk.kind) ∧ wx.cell? ⟨bk, ok + i * 9 + 1, none⟩ = some (.int .u64 nk.num) ∧ wx.cell? ⟨bk, ok + i * 9 + 2, none⟩ = some (.bool nk.neg) ∧ wx.cell? ⟨bk, ok + i * 9 + 3, none⟩ = some (.string nk.dig) ∧ wx.cell? ⟨bk, ok + i * 9 + 4, none⟩ = some (.int .i64 nk.exp) ∧ wx.cell? ⟨bk, ok + i * 9 + 5, none⟩ = some (.string nk.txt) ∧ wx.cell? ⟨bk, ok + i * 9 + 6, none⟩ = some (.slice nk.ab nk.lb nk.cb) ∧ wx.cell? ⟨bk, ok + i * 9 + 7, none⟩ = some (.slice nk.ak nk.lk nk.ck) ∧ wx.cell? ⟨bk, ok + i * 9 + 8, none⟩ = some (.slice nk.ai nk.li nk.ci)) ∧ (wx.cell? ⟨bk, ok + k * 9, none⟩ = some (.int .i64 nj.kind) ∧ wx.cell? ⟨bk, ok + k * 9 + 1, none⟩ = some (.int .u64 nj.num) ∧ wx.cell? ⟨bk, ok + k * 9 + 2, none⟩ = some (.bool nj.neg) ∧ wx.cell? ⟨bk, ok + k * 9 + 3, none⟩ = some (.string nj.dig) ∧ wx.cell? ⟨bk, ok + k * 9 + 4, none⟩ = some (.int .i64 nj.exp) ∧ wx.cell? ⟨bk, ok + k * 9 + 5, none⟩ = some (.string nj.txt) ∧ wx.cell? ⟨bk, ok + k * 9 + 6, none⟩ = some (.slice nj.ab nj.lb nj.cb) ∧ wx.cell? ⟨bk, ok + k * 9 + 7, none⟩ = some (.slice nj.ak nj.lk nj.ck) ∧ wx.cell? ⟨bk, ok + k * 9 + 8, none⟩ = some (.slice nj.ai nj.li nj.ci))) (first | exact hS.out _ hT.out.drew | exact hS.out _ T1.out) (first
              | (go_at_call 21; refine (kS _ hT.out.drew.2).mono ?_; rintro e w1 ⟨rfl, q1⟩; have T1 : Hid (Bo1 w w1 b) := hT.out.drew.on q1; have hbT : Hid (Below (w.alloc (.cells b.arr 26)).heap.size (w.alloc (.cells b.arr 26)) w1) := hbs.out.drew.trans (q1.mono hbs.out.drew.size); clear q1))
            go_wp2
            try simp only [hak]
            go_roundw
            case rel => exact ⟨k + 1, by omega, by go_num, hbT, hA'⟩
            case measure => simp [intOf]; omega
        · have hkz : ¬ (k : Int) < (i : Int) := by omega
          obtain rfl : k = i := by omega
          have hD' : Hid ((t.keys.take (k + 1)).Nodup) := nodup_next hix.out hD.out hA.out
          go_wp2
          go_roundw
          case rel => exact ⟨k + 1, by omega, by go_num, hbs, hD'⟩
          case measure => simp [intOf]; omega
    · have hz : ¬ (i : Int) < (b.lk : Int) := by omega
      have hDD : Hid (t.keys.Nodup) := by
        have := hD.out
        rwa [List.take_of_length_le (by rw [hlk.out]; omega)] at this
      clear hlt him hD
      go_wp2
      go_loopw [5] (fun s5 wr => ∃ (k : Nat), k ≤ b.lk ∧ s5 = .int .i64 k ∧ Hid (Below (w.alloc (.cells b.arr 26)).heap.size (w.alloc (.cells b.arr 26)) wr) ∧ Hid (∀ x, x ∈ t.keys.take k → x.once)) (fun k _ => b.lk - (intOf k).toNat)
      case atStart => exact ⟨0, Nat.zero_le _, rfl, hbl, by show ∀ x, _; simp⟩
      case round =>
        obtain ⟨k, hki, rfl, hbs, hA⟩ := hrel
        clear a0 a1 a2 a3 a4 a5 a6 a7 a8
        have Qs : Hid (NBox wr w.heap.size b) := Q0.out.kept hbs.out Q0.out.lt
        have Bs : Hid (Below w.heap.size w wr) := B0.out.trans (hbs.out.mono B0.out.size)
        obtain ⟨a0, a1, a2, a3, a4, a5, a6, a7, a8⟩ := Qs.out.fields
        by_cases hkl : k < b.lk
        · have hkz : (k : Int) < (b.lk : Int) := by omega
          have hkx : Hid (k < t.keys.length) := by show _ < _; rw [hlk.out]; omega
          have wk : IntKind.i64.wrap ((k : Int) + 1) = (k : Int) + 1 := by rw [IntKind.wrap_i64]; omega
          obtain ⟨u, hu⟩ := bool_of (¬ (t.keys[k]'hkx.out).once)
          obtain ⟨bk, ok, nk, hak, hck, kT⟩ := tw_el ih hNk.out hkx.out hu wr Bs.out
          obtain ⟨f0, f1, f2, f3, f4, f5, f6, f7, f8⟩ := elem_fields hck
          have hU : Hid (u = true ↔ ¬ (t.keys[k]'hkx.out).once) := hu
          clear hck hu
          cases u with
          | true =>
            obtain rfl : v = true := hV.out.2 (fun ho => hU.out.1 rfl (((once_eq t).1 ho).2.1 _ (List.getElem_mem hkx.out)))
            go_wp2_with (go_at_call 24; refine kT.mono ?_; rintro e w2 ⟨rfl, hb2⟩)
            go_ret
            exact ⟨rfl, Bs.out.trans (hb2.mono Bs.out.size)⟩
          | false =>
            have hA' : Hid (∀ x, x ∈ t.keys.take (k + 1) → x.once) := take_once hkx.out hA.out (Classical.byContradiction fun h => by have := hU.out.2 h; cases this)
            go_wp2_with (go_at_call 24; refine kT.mono ?_; rintro e w2 ⟨rfl, hb2⟩)
            try simp only [hak]
            go_roundw
            case rel => exact ⟨k + 1, by omega, by go_num, hbs.out.trans (hb2.mono hbs.out.size), hA'⟩
            case measure => simp [intOf]; omega
        · have hkz : ¬ (k : Int) < (b.lk : Int) := by omega
          have hKK : Hid (∀ x, x ∈ t.keys → x.once) := by
            have := hA.out
            rwa [List.take_of_length_le (by rw [hlk.out]; omega)] at this
          clear hkl hki hA
          go_wp2
          go_loopw [6] (fun s6 wr => ∃ (j : Nat), j ≤ b.li ∧ s6 = .int .i64 j ∧ Hid (Below (w.alloc (.cells b.arr 26)).heap.size (w.alloc (.cells b.arr 26)) wr) ∧ Hid (∀ x, x ∈ t.kids.take j → x.once)) (fun j _ => b.li - (intOf j).toNat)
          case atStart => exact ⟨0, Nat.zero_le _, rfl, hbs, by show ∀ x, _; simp⟩
          case round =>
            obtain ⟨j, hji, rfl, hbu, hA⟩ := hrel
            clear a0 a1 a2 a3 a4 a5 a6 a7 a8
            have Qu : Hid (NBox wr w.heap.size b) := Q0.out.kept hbu.out Q0.out.lt
            have Bu : Hid (Below w.heap.size w wr) := B0.out.trans (hbu.out.mono B0.out.size)
            obtain ⟨a0, a1, a2, a3, a4, a5, a6, a7, a8⟩ := Qu.out.fields
            by_cases hjl : j < b.li
            · have hjz : (j : Int) < (b.li : Int) := by omega
              have hjx : Hid (j < t.kids.length) := by show _ < _; rw [hli.out]; omega
              have wj : IntKind.i64.wrap ((j : Int) + 1) = (j : Int) + 1 := by rw [IntKind.wrap_i64]; omega
              obtain ⟨u, hu⟩ := bool_of (¬ (t.kids[j]'hjx.out).once)
              obtain ⟨bk, ok, nk, hak, hck, kT⟩ := tw_el ih hNi.out hjx.out hu wr Bu.out
              obtain ⟨f0, f1, f2, f3, f4, f5, f6, f7, f8⟩ := elem_fields hck
              have hU : Hid (u = true ↔ ¬ (t.kids[j]'hjx.out).once) := hu
              clear hck hu
              cases u with
              | true =>
                obtain rfl : v = true := hV.out.2 (fun ho => hU.out.1 rfl (((once_eq t).1 ho).2.2 _ (List.getElem_mem hjx.out)))
                go_wp2_with (go_at_call 24; refine kT.mono ?_; rintro e w2 ⟨rfl, hb2⟩)
                go_ret
                exact ⟨rfl, Bu.out.trans (hb2.mono Bu.out.size)⟩
              | false =>
                have hA' : Hid (∀ x, x ∈ t.kids.take (j + 1) → x.once) := take_once hjx.out hA.out (Classical.byContradiction fun h => by have := hU.out.2 h; cases this)
                go_wp2_with (go_at_call 24; refine kT.mono ?_; rintro e w2 ⟨rfl, hb2⟩)
                try simp only [hak]
                go_roundw
                case rel => exact ⟨j + 1, by omega, by go_num, hbu.out.trans (hb2.mono hbu.out.size), hA'⟩
                case measure => simp [intOf]; omega
            · have hjz : ¬ (j : Int) < (b.li : Int) := by omega
              obtain rfl : v = false := not_true hV.out (fun h => h ((once_eq t).2 ⟨hDD.out, hKK.out, by
                have := hA.out
                rwa [List.take_of_length_le (by rw [hli.out]; omega)] at this⟩))
              go_wp2
              go_ret
              exact ⟨rfl, Bu.out⟩
theorem tw_all : ∀ D, TwAt D := by
  intro D
  induction D with
  | zero => intro t b w v h; exact absurd h id
  | succ D ih => exact tw_step ih
theorem etwice_any {D : Nat} {t : Tr} {b : Nb} {w : World} {v : Bool} (hN : Nd D w b t) (hv : v = true ↔ ¬ t.All (fun u => u.keys.Nodup)) : Calls Tryz.prog 24 #[.agg b.arr] w fun e w' => e = .returned (.bool v) ∧ Below w.heap.size w w' := tw_all D t b w v hN hv
end Go.Proofs.YtmlacmoembjeoaaGreatDoor
namespace Go.Proofs.YtmlacmoembjeoaaGreatDoor
open Go.RowKit
set_option linter.unusedVariables false

def LeftAt (D : Nat) : Prop := ∀ (t : Tr) (b : Nb) (w : World) (m : Int), Nd D w b t → 0 ≤ m → m ≤ 2000 → Calls Tryz.prog 32 #[.agg b.arr, .int .i64 m] w fun e w' => e = .returned (.int .i64 (Tr.lft m t.size)) ∧ Below w.heap.size w w'
theorem lft_bd {m : Int} {s : Nat} (h0 : 0 ≤ m) (h1 : m ≤ 2000) : -1 ≤ Tr.lft m s ∧ Tr.lft m s ≤ 2000 := by unfold Tr.lft; split <;> omega

set_option maxHeartbeats 4000000 in
set_option maxRecDepth 100000 in
theorem left_step {D : Nat} (ih : LeftAt D) : LeftAt (D + 1) := by
  intro t b w m hN h0 h1
  have hal := alloc_below w (.cells b.arr 26)
  have Q0 : Hid (NBox (w.alloc (.cells b.arr 26)) w.heap.size b) := nbox_new w b
  have B0 : Hid (Below w.heap.size w (w.alloc (.cells b.arr 26))) := hal
  obtain ⟨a0, a1, a2, a3, a4, a5, a6, a7, a8⟩ := (nbox_new w b).fields
  have hNk : Hid (RowN (Nd D w) w b.ak b.lk b.ck t.keys) := hN.2.2.2.1
  have hNi : Hid (RowN (Nd D w) w b.ai b.li b.ci t.kids) := hN.2.2.2.2
  have hlk : Hid (t.keys.length = b.lk) := hN.2.2.2.1.1
  have hli : Hid (t.kids.length = b.li) := hN.2.2.2.2.1
  have mk := hN.2.2.2.1.2.1.1
  have mk' := hN.2.2.2.1.2.1.2.1
  have mi := hN.2.2.2.2.2.1.1
  have mi' := hN.2.2.2.2.2.1.2.1
  unfold maxLen at mk' mi'
  have hm : Hid (0 ≤ m ∧ m ≤ 2000) := ⟨h0, h1⟩
  have wm : IntKind.i64.wrap (m - 1) = m - 1 := by rw [IntKind.wrap_i64]; omega
  have hsz : Hid (t.size = 1 + Tr.sizes t.keys + Tr.sizes t.kids) := Tr.size_eq t
  have hst : Hid (m - 1 = Tr.lft m (1 + Tr.sizes (t.keys.take 0))) := by
    show _ = _
    rw [List.take_zero, Tr.sizes_nil]; unfold Tr.lft; split <;> omega
  clear hal hN h0 h1
  go_enter Tryz.func32, Tryz.ntmps32
  go_wp2
  go_loopw [1, 5] (fun s1 s5 wr => ∃ (i : Nat) (M : Int), i ≤ b.lk ∧ s1 = .int .i64 M ∧ s5 = .int .i64 i ∧ Hid (Below (w.alloc (.cells b.arr 26)).heap.size (w.alloc (.cells b.arr 26)) wr) ∧ Hid (M = Tr.lft m (1 + Tr.sizes (t.keys.take i)))) (fun _ i _ => b.lk - (intOf i).toNat)
  case atStart => exact ⟨0, m - 1, Nat.zero_le _, rfl, rfl, Below.refl _ _, hst⟩
  case round =>
    obtain ⟨i, M, him, rfl, rfl, hbl, hM⟩ := hrel
    clear a0 a1 a2 a3 a4 a5 a6 a7 a8
    have Qr := Q0.out.kept hbl.out Q0.out.lt
    have Br : Hid (Below w.heap.size w wr) := B0.out.trans (hbl.out.mono B0.out.size)
    obtain ⟨a0, a1, a2, a3, a4, a5, a6, a7, a8⟩ := Qr.fields
    have hMb := lft_bd (s := 1 + Tr.sizes (t.keys.take i)) hm.out.1 hm.out.2
    rw [← hM.out] at hMb
    by_cases hlt : i < b.lk
    · have hz : (i : Int) < (b.lk : Int) := by omega
      have hix : i < t.keys.length := by rw [hlk.out]; exact hlt
      by_cases hM0 : 0 ≤ M
      · have hMd : decide (0 ≤ M) = true := decide_eq_true hM0
        obtain ⟨bk, ok, nk, hak, hck, hNn, hbk⟩ := row_el hNk.out Br.out hix
        obtain ⟨f0, f1, f2, f3, f4, f5, f6, f7, f8⟩ := elem_fields hck
        have kk := ih t.keys[i] nk wr M hNn hM0 hMb.2
        have wi : IntKind.i64.wrap ((i : Int) + 1) = (i : Int) + 1 := by rw [IntKind.wrap_i64]; omega
        have hM' : Hid (Tr.lft M (t.keys[i]).size = Tr.lft m (1 + Tr.sizes (t.keys.take (i + 1)))) := by
          show _ = _
          have e := hM.out
          subst e
          rw [Tr.lft_add hM0, Tr.sizes_snoc _ hix, Nat.add_assoc]
        generalize Tr.lft M (t.keys[i]).size = M2 at *
        clear hck hNn hbk hM0
        go_wp2_with (go_at_call 32; refine kk.mono ?_; rintro e w2 ⟨rfl, hb2⟩)
        try simp only [hak]
        go_roundw
        case rel => exact ⟨i + 1, M2, by omega, rfl, by go_num, hbl.out.trans (hb2.mono hbl.out.size), hM'⟩
        case measure => simp [intOf]; omega
      · have hMd : decide (0 ≤ M) = false := decide_eq_false hM0
        have hK : Hid (M = Tr.lft m (1 + Tr.sizes t.keys)) := by
          show _ = _
          have h1 : Tr.sizes t.keys = Tr.sizes (t.keys.take i) + Tr.sizes (t.keys.drop i) := by rw [← Tr.sizes_app, List.take_append_drop]
          have h2 := Tr.lft_over (m := m) (a := 1 + Tr.sizes (t.keys.take i)) (b := Tr.sizes (t.keys.drop i)) (by rw [← hM.out]; omega) hm.out.1
          rw [hM.out, h2.2, h1, ← Nat.add_assoc, h2.1]
        clear hM hM0
        go_wp2
        go_loopw [1, 6] (fun s1 s6 wq => ∃ (j : Nat) (N : Int), j ≤ b.li ∧ s1 = .int .i64 N ∧ s6 = .int .i64 j ∧ Hid (Below (w.alloc (.cells b.arr 26)).heap.size (w.alloc (.cells b.arr 26)) wq) ∧ Hid (N = Tr.lft m (1 + Tr.sizes t.keys + Tr.sizes (t.kids.take j)))) (fun _ j _ => b.li - (intOf j).toNat)
        case atStart => exact ⟨0, M, Nat.zero_le _, rfl, rfl, hbl, by show _ = _; rw [List.take_zero, Tr.sizes_nil, Nat.add_zero]; exact hK.out⟩
        case round =>
          obtain ⟨j, N, hjm, rfl, rfl, hbq, hN'⟩ := hrel
          clear a0 a1 a2 a3 a4 a5 a6 a7 a8
          have Qq := Q0.out.kept hbq.out Q0.out.lt
          have Bq : Hid (Below w.heap.size w _) := B0.out.trans (hbq.out.mono B0.out.size)
          obtain ⟨a0, a1, a2, a3, a4, a5, a6, a7, a8⟩ := Qq.fields
          have hNb := lft_bd (s := 1 + Tr.sizes t.keys + Tr.sizes (t.kids.take j)) hm.out.1 hm.out.2
          rw [← hN'.out] at hNb
          by_cases hjt : j < b.li
          · have hjz : (j : Int) < (b.li : Int) := by omega
            have hjx : j < t.kids.length := by rw [hli.out]; exact hjt
            by_cases hN0 : 0 ≤ N
            · have hNd : decide (0 ≤ N) = true := decide_eq_true hN0
              obtain ⟨bi, oi, ni, hai, hci, hNn2, hbi⟩ := row_el hNi.out Bq.out hjx
              obtain ⟨p0, p1, p2, p3, p4, p5, p6, p7, p8⟩ := elem_fields hci
              have k2 := ih t.kids[j] ni _ N hNn2 hN0 hNb.2
              have wj : IntKind.i64.wrap ((j : Int) + 1) = (j : Int) + 1 := by rw [IntKind.wrap_i64]; omega
              have hN2 : Hid (Tr.lft N (t.kids[j]).size = Tr.lft m (1 + Tr.sizes t.keys + Tr.sizes (t.kids.take (j + 1)))) := by
                show _ = _
                have e := hN'.out
                subst e
                rw [Tr.lft_add hN0, Tr.sizes_snoc _ hjx, Nat.add_assoc (1 + Tr.sizes t.keys)]
              generalize Tr.lft N (t.kids[j]).size = N2 at *
              clear hci hNn2 hbi hN0
              go_wp2_with (go_at_call 32; refine k2.mono ?_; rintro e w3 ⟨rfl, hb3⟩)
              try simp only [hai]
              go_roundw
              case rel => exact ⟨j + 1, N2, by omega, rfl, by go_num, hbq.out.trans (hb3.mono hbq.out.size), hN2⟩
              case measure => simp [intOf]; omega
            · have hNd : decide (0 ≤ N) = false := decide_eq_false hN0
              have hfin : Hid (N = Tr.lft m t.size) := by
                show _ = _
                have h1 : Tr.sizes t.kids = Tr.sizes (t.kids.take j) + Tr.sizes (t.kids.drop j) := by rw [← Tr.sizes_app, List.take_append_drop]
                have h2 := Tr.lft_over (m := m) (a := 1 + Tr.sizes t.keys + Tr.sizes (t.kids.take j)) (b := Tr.sizes (t.kids.drop j)) (by rw [← hN'.out]; omega) hm.out.1
                rw [hN'.out, h2.2, hsz.out, h1, ← Nat.add_assoc (1 + Tr.sizes t.keys), h2.1]
              clear hN' hN0
              go_wp2
              go_ret
              exact ⟨by rw [← hfin.out]; rfl, Bq.out⟩
          · have hjz : ¬ (j : Int) < (b.li : Int) := by omega
            have hfin : Hid (N = Tr.lft m t.size) := by
              show _ = _
              rw [hN'.out, hsz.out, List.take_of_length_le (by rw [hli.out]; omega)]
            clear hN'
            go_wp2
            go_ret
            exact ⟨by rw [← hfin.out]; rfl, Bq.out⟩
    · have hz : ¬ (i : Int) < (b.lk : Int) := by omega
      have hK : Hid (M = Tr.lft m (1 + Tr.sizes t.keys)) := by
        show _ = _
        rw [hM.out, List.take_of_length_le (by rw [hlk.out]; omega)]
      clear hM
      go_wp2
      go_loopw [1, 6] (fun s1 s6 wq => ∃ (j : Nat) (N : Int), j ≤ b.li ∧ s1 = .int .i64 N ∧ s6 = .int .i64 j ∧ Hid (Below (w.alloc (.cells b.arr 26)).heap.size (w.alloc (.cells b.arr 26)) wq) ∧ Hid (N = Tr.lft m (1 + Tr.sizes t.keys + Tr.sizes (t.kids.take j)))) (fun _ j _ => b.li - (intOf j).toNat)
      case atStart => exact ⟨0, M, Nat.zero_le _, rfl, rfl, hbl, by show _ = _; rw [List.take_zero, Tr.sizes_nil, Nat.add_zero]; exact hK.out⟩
      case round =>
        obtain ⟨j, N, hjm, rfl, rfl, hbq, hN'⟩ := hrel
        clear a0 a1 a2 a3 a4 a5 a6 a7 a8
        have Qq := Q0.out.kept hbq.out Q0.out.lt
        have Bq : Hid (Below w.heap.size w _) := B0.out.trans (hbq.out.mono B0.out.size)
        obtain ⟨a0, a1, a2, a3, a4, a5, a6, a7, a8⟩ := Qq.fields
        have hNb := lft_bd (s := 1 + Tr.sizes t.keys + Tr.sizes (t.kids.take j)) hm.out.1 hm.out.2
        rw [← hN'.out] at hNb
        by_cases hjt : j < b.li
        · have hjz : (j : Int) < (b.li : Int) := by omega
          have hjx : j < t.kids.length := by rw [hli.out]; exact hjt
          by_cases hN0 : 0 ≤ N
          · have hNd : decide (0 ≤ N) = true := decide_eq_true hN0
            obtain ⟨bi, oi, ni, hai, hci, hNn2, hbi⟩ := row_el hNi.out Bq.out hjx
            obtain ⟨p0, p1, p2, p3, p4, p5, p6, p7, p8⟩ := elem_fields hci
            have k2 := ih t.kids[j] ni _ N hNn2 hN0 hNb.2
            have wj : IntKind.i64.wrap ((j : Int) + 1) = (j : Int) + 1 := by rw [IntKind.wrap_i64]; omega
            have hN2 : Hid (Tr.lft N (t.kids[j]).size = Tr.lft m (1 + Tr.sizes t.keys + Tr.sizes (t.kids.take (j + 1)))) := by
              show _ = _
              have e := hN'.out
              subst e
              rw [Tr.lft_add hN0, Tr.sizes_snoc _ hjx, Nat.add_assoc (1 + Tr.sizes t.keys)]
            generalize Tr.lft N (t.kids[j]).size = N2 at *
            clear hci hNn2 hbi hN0
            go_wp2_with (go_at_call 32; refine k2.mono ?_; rintro e w3 ⟨rfl, hb3⟩)
            try simp only [hai]
            go_roundw
            case rel => exact ⟨j + 1, N2, by omega, rfl, by go_num, hbq.out.trans (hb3.mono hbq.out.size), hN2⟩
            case measure => simp [intOf]; omega
          · have hNd : decide (0 ≤ N) = false := decide_eq_false hN0
            have hfin : Hid (N = Tr.lft m t.size) := by
              show _ = _
              have h1 : Tr.sizes t.kids = Tr.sizes (t.kids.take j) + Tr.sizes (t.kids.drop j) := by rw [← Tr.sizes_app, List.take_append_drop]
              have h2 := Tr.lft_over (m := m) (a := 1 + Tr.sizes t.keys + Tr.sizes (t.kids.take j)) (b := Tr.sizes (t.kids.drop j)) (by rw [← hN'.out]; omega) hm.out.1
              rw [hN'.out, h2.2, hsz.out, h1, ← Nat.add_assoc (1 + Tr.sizes t.keys), h2.1]
            clear hN' hN0
            go_wp2
            go_ret
            exact ⟨by rw [← hfin.out]; rfl, Bq.out⟩
        · have hjz : ¬ (j : Int) < (b.li : Int) := by omega
          have hfin : Hid (N = Tr.lft m t.size) := by
            show _ = _
            rw [hN'.out, hsz.out, List.take_of_length_le (by rw [hli.out]; omega)]
          clear hN'
          go_wp2
          go_ret
          exact ⟨by rw [← hfin.out]; rfl, Bq.out⟩
theorem left_all : ∀ D, LeftAt D := by
  intro D
  induction D with
  | zero => intro t b w m h; exact absurd h id
  | succ D ih => exact left_step ih
end Go.Proofs.YtmlacmoembjeoaaGreatDoor
