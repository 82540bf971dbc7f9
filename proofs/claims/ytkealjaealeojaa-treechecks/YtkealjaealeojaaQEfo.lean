/-
  The fault of the first node that has one, as the document's call tells it: gantlineref08.forms.
-/
import Derived.Test.YtkealjaealeojaaQEla
namespace Go.Proofs.Ytkealjaealeojaa
open Go.RowKit
set_option linter.unusedVariables false

def FormAt (D : Nat) : Prop := ∀ (t : Tr) (b : Nb) (w : World), Nd D w b t → Calls Try.prog 32 #[.agg b.arr] w fun e w' => e = .returned (.int .i64 (t.forms alF)) ∧ Below w.heap.size w w'
/-- The faults of what has been gone over. -/
def fst8 (t : Tr) (i : Nat) : List Int := if t.kind = 8 then Tr.inter ((t.keys.take i).map (Tr.forms alF)) ((t.kids.take i).map (Tr.forms alF)) else (t.kids.take i).map (Tr.forms alF)
theorem fst8_zero (t : Tr) : fst8 t 0 = [] := by unfold fst8; split <;> simp [Tr.inter]
theorem fst8_all {t : Tr} {n : Nat} (hn : t.kids.length ≤ n) (hk : t.kind = 8 → t.keys.length ≤ n) : fst8 t n = t.steps.map (Tr.forms alF) := by
  unfold fst8 Tr.steps
  split
  · rename_i h; rw [Tr.inter_map, List.take_of_length_le hn, List.take_of_length_le (hk h)]
  · rw [List.take_of_length_le hn]
theorem fst8_map {t : Tr} {i : Nat} (h8 : t.kind = 8) (hk : i < t.keys.length) (hi : i < t.kids.length) : fst8 t (i + 1) = fst8 t i ++ [(t.keys[i]).forms alF, (t.kids[i]).forms alF] := by
  unfold fst8
  rw [if_pos h8, if_pos h8, ← Tr.inter_map, ← Tr.inter_map, Tr.inter_snoc _ _ hk hi, List.map_append]
  rfl
theorem fst8_arr {t : Tr} {i : Nat} (h8 : t.kind ≠ 8) (hi : i < t.kids.length) : fst8 t (i + 1) = fst8 t i ++ [(t.kids[i]).forms alF] := by
  unfold fst8
  rw [if_neg h8, if_neg h8, List.take_succ_eq_append_getElem hi, List.map_append]
  rfl
theorem firstE_pre {l : List Int} (h : Tr.firstE l ≠ 0) (m : List Int) : Tr.firstE (l ++ m) = Tr.firstE l := by rw [Tr.firstE_app, if_neg h]
theorem firstE_suf {l : List Int} (h : Tr.firstE l = 0) (m : List Int) : Tr.firstE (l ++ m) = Tr.firstE m := by rw [Tr.firstE_app, if_pos h]
theorem fst8_pre (t : Tr) (i : Nat) : ∃ m, t.steps.map (Tr.forms alF) = fst8 t i ++ m := by
  unfold fst8 Tr.steps
  split
  · rw [← Tr.inter_map]
    have key : ∀ (l m : List Tr) (i : Nat), ∃ r, Tr.inter l m = Tr.inter (l.take i) (m.take i) ++ r := by
      intro l
      induction l with
      | nil => intro m i; exact ⟨[], by simp [Tr.inter]⟩
      | cons a l ih =>
        intro m i
        cases m with
        | nil => exact ⟨[], by cases i <;> simp [Tr.inter]⟩
        | cons b m =>
          cases i with
          | zero => exact ⟨Tr.inter (a :: l) (b :: m), by simp [Tr.inter]⟩
          | succ i =>
            obtain ⟨r, hr⟩ := ih m i
            exact ⟨r, by simp only [List.take_succ_cons, Tr.inter, hr, List.cons_append]⟩
    obtain ⟨r, hr⟩ := key t.keys t.kids i
    exact ⟨r.map (Tr.forms alF), by rw [hr, List.map_append]⟩
  · exact ⟨(t.kids.drop i).map (Tr.forms alF), by rw [← List.map_append, List.take_append_drop]⟩
theorem forms_stop {t : Tr} {i : Nat} (h0 : alF t = 0) (h : Tr.firstE (fst8 t i) ≠ 0) : t.forms alF = Tr.firstE (fst8 t i) := by
  rw [Tr.forms_eq, h0, Tr.firstE_zero]
  obtain ⟨m, hm⟩ := fst8_pre t i
  rw [hm, firstE_pre h]
theorem forms_end {t : Tr} {n : Nat} (h0 : alF t = 0) (hn : t.kids.length = n) (h : Tr.firstE (fst8 t n) = 0) : t.forms alF = 0 := by
  rw [Tr.forms_eq, h0, Tr.firstE_zero, ← fst8_all (Nat.le_of_eq hn) (fun h8 => by rw [(alF_shaped t h0).1 h8]; exact Nat.le_of_eq hn), h]
theorem forms_not {t : Tr} (h0 : alF t ≠ 0) : t.forms alF = alF t := by rw [Tr.forms_eq, Tr.firstE_not _ h0]

theorem form_el {D : Nat} (ih : FormAt D) {w : World} {a : Option Addr} {len cap : Nat} {l : List Tr} (h : RowN (Nd D w) w a len cap l) {i : Nat} (hi : i < l.length) (w2 : World) (hb : Below w.heap.size w w2) :
    ∃ (bk ok : Nat) (nk : Nb), a = some ⟨bk, ok, none⟩ ∧ (∀ j, j < 9 → w2.cell? ⟨bk, ok + (i * 9 + j), none⟩ = nk.cells[j]?) ∧ Calls Try.prog 32 #[.agg nk.arr] w2 fun e w' => e = .returned (.int .i64 ((l[i]).forms alF)) ∧ Below w2.heap.size w2 w' := by
  obtain ⟨bk, ok, nk, h1, h2, h3, _⟩ := row_el h hb hi
  exact ⟨bk, ok, nk, h1, h2, ih _ _ _ h3⟩
theorem firstE_two {l : List Int} (h : 0 = Tr.firstE l) (a b : Int) : Tr.firstE (l ++ [a, b]) = if a = 0 then b else a := by
  rw [firstE_suf h.symm]
  show (if a = 0 then (if b = 0 then (0 : Int) else b) else a) = _
  by_cases ha : a = 0
  · rw [if_pos ha, if_pos ha]; split
    · rename_i hb; rw [hb]
    · rfl
  · rw [if_neg ha, if_neg ha]
theorem firstE_one {l : List Int} (h : 0 = Tr.firstE l) (a : Int) : Tr.firstE (l ++ [a]) = a := by
  rw [firstE_suf h.symm]
  show (if a = 0 then (0 : Int) else a) = a
  split
  · rename_i hb; rw [hb]
  · rfl

set_option maxHeartbeats 4000000 in
set_option maxRecDepth 100000 in
theorem form_step {D : Nat} (ih : FormAt D) : FormAt (D + 1) := by
  intro t b w hN
  have hal := alloc_below w (.cells b.arr 26)
  have Q0 : Hid (NBox (w.alloc (.cells b.arr 26)) w.heap.size b) := nbox_new w b
  have B0 : Hid (Below w.heap.size w (w.alloc (.cells b.arr 26))) := hal
  obtain ⟨a0, a1, a2, a3, a4, a5, a6, a7, a8⟩ := (nbox_new w b).fields
  have kA := ealone_any (hN.kept hal)
  have hNk : Hid (RowN (Nd D w) w b.ak b.lk b.ck t.keys) := hN.2.2.2.1
  have hNi : Hid (RowN (Nd D w) w b.ai b.li b.ci t.kids) := hN.2.2.2.2
  have hlk : Hid (t.keys.length = b.lk) := hN.2.2.2.1.1
  have hli : Hid (t.kids.length = b.li) := hN.2.2.2.2.1
  have mk := hN.2.2.2.1.2.1.1
  have mk' := hN.2.2.2.1.2.1.2.1
  have mi := hN.2.2.2.2.2.1.1
  have mi' := hN.2.2.2.2.2.1.2.1
  unfold maxLen at mk' mi'
  have hkd : Hid (b.kind = t.kind) := hN.1.1
  clear hal hN
  by_cases hz : alF t = 0
  · have h0 : Hid (alF t = 0) := hz
    rw [hz] at kA
    have hsh : Hid (t.kind = 8 → b.lk = b.li) := fun h8 => by rw [← hlk.out, ← hli.out]; exact (alF_shaped t hz).1 h8
    clear hz
    have hF : Hid (∀ i, Tr.firstE (fst8 t i) ≠ 0 → t.forms alF = Tr.firstE (fst8 t i)) := fun i h => forms_stop h0.out h
    have hE : Hid (Tr.firstE (fst8 t b.li) = 0 → t.forms alF = 0) := fun h => forms_end h0.out hli.out h
    generalize t.forms alF = R at *
    go_enter Try.func32, Try.ntmps32
    go_wp2_with (go_at_call 50; refine kA.mono ?_; rintro e w1 ⟨rfl, hb1⟩; clear kA a0 a1 a2 a3 a4 a5 a6 a7 a8; have Q1 : Hid (NBox w1 w.heap.size b) := Q0.out.kept hb1 Q0.out.lt; have B1 : Hid (Below w.heap.size w w1) := B0.out.trans (hb1.mono B0.out.size); obtain ⟨a0, a1, a2, a3, a4, a5, a6, a7, a8⟩ := Q1.out.fields)
    go_loopw [3, 4] (fun s3 s4 wr => ∃ (i : Nat) (M : Int), i ≤ b.li ∧ s3 = .int .i64 M ∧ s4 = .int .i64 i ∧ Hid (Below w1.heap.size w1 wr) ∧ Hid (M = Tr.firstE (fst8 t i))) (fun _ i _ => b.li - (intOf i).toNat)
    case atStart => exact ⟨0, 0, Nat.zero_le _, rfl, rfl, Below.refl _ _, by show _ = _; rw [fst8_zero]; rfl⟩
    case round =>
      obtain ⟨i, M, him, rfl, rfl, hbl, hM⟩ := hrel
      clear a0 a1 a2 a3 a4 a5 a6 a7 a8
      have Qr : Hid (NBox wr w.heap.size b) := Q1.out.kept hbl.out Q1.out.lt
      have Br : Hid (Below w.heap.size w wr) := B1.out.trans (hbl.out.mono B1.out.size)
      obtain ⟨a0, a1, a2, a3, a4, a5, a6, a7, a8⟩ := Qr.out.fields
      by_cases hlt : i < b.li
      · have hz : (i : Int) < (b.li : Int) := by omega
        by_cases hM0 : M = 0
        · subst hM0
          have hix : i < t.kids.length := by rw [hli.out]; exact hlt
          have wi : IntKind.i64.wrap ((i : Int) + 1) = (i : Int) + 1 := by rw [IntKind.wrap_i64]; omega
          have hI : Hid (∀ w2, Below w.heap.size w w2 → ∃ (bk ok : Nat) (nk : Nb), b.ai = some ⟨bk, ok, none⟩ ∧ (∀ j, j < 9 → w2.cell? ⟨bk, ok + (i * 9 + j), none⟩ = nk.cells[j]?) ∧ Calls Try.prog 32 #[.agg nk.arr] w2 fun e w' => e = .returned (.int .i64 ((t.kids[i]).forms alF)) ∧ Below w2.heap.size w2 w') := fun w2 hb => form_el ih hNi.out hix w2 hb
          by_cases h8 : t.kind = 8
          · have e8 : (b.kind == 8) = true := by rw [hkd.out, h8]; decide
            have hkk : i < b.lk := by rw [hsh.out h8]; exact hlt
            have hkz : (i : Int) < (b.lk : Int) := by omega
            have hkx : i < t.keys.length := by rw [hlk.out]; exact hkk
            obtain ⟨bk, ok, nk, hak, hck, kk⟩ := form_el ih hNk.out hkx wr Br.out
            obtain ⟨f0, f1, f2, f3, f4, f5, f6, f7, f8⟩ := elem_fields hck
            have hS : Hid (Tr.firstE (fst8 t (i + 1)) = if (t.keys[i]).forms alF = 0 then (t.kids[i]).forms alF else (t.keys[i]).forms alF) := by
              show _ = _
              rw [fst8_map h8 hkx hix, firstE_two hM.out]
            generalize (t.keys[i]).forms alF = E1 at *
            generalize (t.kids[i]).forms alF = E2 at *
            clear hck h8 hix hkx hM
            by_cases hE1 : E1 = 0
            · subst hE1
              have hS' : Hid (E2 = Tr.firstE (fst8 t (i + 1))) := by
                show _ = _
                rw [hS.out, if_pos rfl]
              clear hS
              go_wp2_with (first
                | (go_at_call 32; refine kk.mono ?_; rintro e w2 ⟨rfl, hb2⟩; clear kk f0 f1 f2 f3 f4 f5 f6 f7 f8 a0 a1 a2 a3 a4 a5 a6 a7 a8; have Q2 : Hid (NBox w2 w.heap.size b) := Qr.out.kept hb2 Qr.out.lt; have B2 : Hid (Below w.heap.size w w2) := Br.out.trans (hb2.mono Br.out.size); obtain ⟨a0, a1, a2, a3, a4, a5, a6, a7, a8⟩ := Q2.out.fields; obtain ⟨bi, oi, ni, hai, hci, ki⟩ := hI.out w2 B2.out; obtain ⟨f0, f1, f2, f3, f4, f5, f6, f7, f8⟩ := elem_fields hci; clear hci)
                | (go_at_call 32; refine ki.mono ?_; rintro e w3 ⟨rfl, hb3⟩))
              try simp only [hak, hai]
              go_roundw
              case rel => exact ⟨i + 1, E2, by omega, rfl, by go_num, hbl.out.trans ((hb2.trans (hb3.mono hb2.size)).mono hbl.out.size), hS'⟩
              case measure => simp [intOf]; omega
            · have hS' : Hid (E1 = Tr.firstE (fst8 t (i + 1))) := by
                show _ = _
                rw [hS.out, if_neg hE1]
              have hE1' : (E1 == 0) = false := by simp [hE1]
              clear hS hE1 hI
              go_wp2_with (first
                | (go_at_call 32; refine kk.mono ?_; rintro e w2 ⟨rfl, hb2⟩; clear kk f0 f1 f2 f3 f4 f5 f6 f7 f8 a0 a1 a2 a3 a4 a5 a6 a7 a8))
              try simp only [hak]
              go_roundw
              case rel => exact ⟨i + 1, E1, by omega, rfl, by go_num, hbl.out.trans (hb2.mono hbl.out.size), hS'⟩
              case measure => simp [intOf]; omega
          · have e8 : (b.kind == 8) = false := by rw [hkd.out]; simp [h8]
            have hS' : Hid ((t.kids[i]).forms alF = Tr.firstE (fst8 t (i + 1))) := by
              show _ = _
              rw [fst8_arr h8 hix, firstE_one hM.out]
            obtain ⟨bi, oi, ni, hai, hci, ki⟩ := hI.out wr Br.out
            obtain ⟨f0, f1, f2, f3, f4, f5, f6, f7, f8⟩ := elem_fields hci
            generalize (t.kids[i]).forms alF = E2 at *
            clear hci h8 hix hM hI
            go_wp2_with (first
              | (go_at_call 32; refine ki.mono ?_; rintro e w3 ⟨rfl, hb3⟩))
            try simp only [hai]
            go_roundw
            case rel => exact ⟨i + 1, E2, by omega, rfl, by go_num, hbl.out.trans (hb3.mono hbl.out.size), hS'⟩
            case measure => simp [intOf]; omega
        · have hM0' : (M == 0) = false := by simp [hM0]
          obtain rfl : R = M := by rw [hF.out i (by rw [← hM.out]; exact hM0), hM.out]
          clear hM0
          go_wp2
          go_ret
          exact ⟨rfl, Br.out⟩
      · have hz : ¬ (i : Int) < (b.li : Int) := by omega
        obtain rfl : i = b.li := by omega
        have hRM : Hid (R = M) := by
          show _ = _
          by_cases hM0 : M = 0
          · rw [hM0]; exact hE.out (by rw [← hM.out]; exact hM0)
          · rw [hF.out b.li (by rw [← hM.out]; exact hM0), hM.out]
        obtain rfl : R = M := hRM.out
        clear hRM
        go_wp2
        go_ret
        exact ⟨rfl, Br.out⟩
  · rw [forms_not hz]
    have hz' : (alF t == 0) = false := by simp [hz]
    generalize alF t = M at *
    clear hz
    by_cases hlt : 0 < b.li
    · have hz : (0 : Int) < (b.li : Int) := by omega
      go_enter Try.func32, Try.ntmps32
      go_wp2_with (go_at_call 50; refine kA.mono ?_; rintro e w1 ⟨rfl, hb1⟩; clear kA a0 a1 a2 a3 a4 a5 a6 a7 a8; have Q1 : Hid (NBox w1 w.heap.size b) := Q0.out.kept hb1 Q0.out.lt; have B1 : Hid (Below w.heap.size w w1) := B0.out.trans (hb1.mono B0.out.size); obtain ⟨a0, a1, a2, a3, a4, a5, a6, a7, a8⟩ := Q1.out.fields)
      go_loopw [3, 4] (fun s3 s4 wr => s3 = .int .i64 M ∧ s4 = .int .i64 0 ∧ wr = w1) (fun _ i _ => 0)
      case atStart => exact ⟨rfl, rfl, rfl⟩
      case round =>
        obtain ⟨rfl, rfl, rfl⟩ := hrel
        go_wp2
        go_ret
        exact ⟨rfl, B1.out⟩
    · have hz : ¬ (0 : Int) < (b.li : Int) := by omega
      clear hlt
      go_enter Try.func32, Try.ntmps32
      go_wp2_with (go_at_call 50; refine kA.mono ?_; rintro e w1 ⟨rfl, hb1⟩; clear kA a0 a1 a2 a3 a4 a5 a6 a7 a8; have Q1 : Hid (NBox w1 w.heap.size b) := Q0.out.kept hb1 Q0.out.lt; have B1 : Hid (Below w.heap.size w w1) := B0.out.trans (hb1.mono B0.out.size); obtain ⟨a0, a1, a2, a3, a4, a5, a6, a7, a8⟩ := Q1.out.fields)
      go_loopw [3, 4] (fun s3 s4 wr => s3 = .int .i64 M ∧ s4 = .int .i64 0 ∧ wr = w1) (fun _ i _ => 0)
      case atStart => exact ⟨rfl, rfl, rfl⟩
      case round =>
        obtain ⟨rfl, rfl, rfl⟩ := hrel
        go_wp2
        go_ret
        exact ⟨rfl, B1.out⟩
theorem form_all : ∀ D, FormAt D := by
  intro D
  induction D with
  | zero => intro t b w h; exact absurd h id
  | succ D ih => exact form_step ih
end Go.Proofs.Ytkealjaealeojaa
