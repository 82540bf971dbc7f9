/-
  The fault of the first node that has one, as the document's call tells it: gantlineref08.forms.
  Whether two keys are the same: tree.twice, with slices.ContainsFunc and slices.IndexFunc; tree.Same.
  Whether a map has two keys that are the same, as the document's call tells it: gantlineref08.twice.
  The document's count of nodes and depth: left, deep.
  The document's depth, and when it says that trees are the same: deep, same.
  The document's Few, Size, Deep, Same, and both.
-/
import Derived.Test.YtnjbppfanmmifaaGreatDoorS20
import Derived.Test.YtnjbppfanmmifaaGreatDoorS6
import Derived.Test.YtnjbppfanmmifaaGreatDoorS2
import Derived.Test.YtnjbppfanmmifaaGreatDoorS19
import Derived.Test.YtnjbppfanmmifaaGreatDoorS3
import Derived.Deep.RegionHeld3
namespace Go.Proofs.YtnjbppfanmmifaaGreatDoor
open Go.RowKit
set_option linter.unusedVariables false

def FormAt (D : Nat) : Prop := ∀ (t : Tr) (b : Nb) (w : World), Nd D w b t → Calls Tryz.prog 38 #[.agg b.arr] w fun e w' => e = .returned (.int .i64 (t.forms alF)) ∧ Below w.heap.size w w'
/-- The faults of what has been gone over. -/
def fst8 (t : Tr) (i : Nat) : List Int := if t.kind = 8 then Tr.inter ((t.keys.take i).map (Tr.forms alF)) ((t.kids.take i).map (Tr.forms alF)) else (t.kids.take i).map (Tr.forms alF)
theorem fst8_zero (t : Tr) : fst8 t 0 = [] := by unfold fst8; split <;> simp [Tr.inter]
theorem fst8_all {t : Tr} {n : Nat} (hn : t.kids.length ≤ n) (hk : t.kind = 8 → t.keys.length ≤ n) : fst8 t n = t.steps.map (Tr.forms alF) := by
  unfold fst8 Tr.steps
  split
  · rename_i h; rw [Tr.inter_map, List.take_of_length_le hn, List.take_of_length_le (hk h)]
  · rw [List.take_of_length_le hn]
theorem fst8_map {t : Tr} {i : Nat} (h8 : t.kind = 8) (hk : i < t.keys.length) (hi : i < t.kids.length) : fst8 t (i + 1) = fst8 t i ++ [(t.keys[i]).forms alF, (t.kids[i]).forms alF] := by
  unfold fst8
  rw [if_pos h8, if_pos h8, ← Tr.inter_map, ← Tr.inter_map, Tr.inter_snoc _ _ hk hi, List.map_append]
  rfl
theorem fst8_arr {t : Tr} {i : Nat} (h8 : t.kind ≠ 8) (hi : i < t.kids.length) : fst8 t (i + 1) = fst8 t i ++ [(t.kids[i]).forms alF] := by
  unfold fst8
  rw [if_neg h8, if_neg h8, List.take_succ_eq_append_getElem hi, List.map_append]
  rfl
theorem firstE_pre {l : List Int} (h : Tr.firstE l ≠ 0) (m : List Int) : Tr.firstE (l ++ m) = Tr.firstE l := by rw [Tr.firstE_app, if_neg h]
theorem firstE_suf {l : List Int} (h : Tr.firstE l = 0) (m : List Int) : Tr.firstE (l ++ m) = Tr.firstE m := by rw [Tr.firstE_app, if_pos h]
theorem fst8_pre (t : Tr) (i : Nat) : ∃ m, t.steps.map (Tr.forms alF) = fst8 t i ++ m := by
  unfold fst8 Tr.steps
  split
  · rw [← Tr.inter_map]
    have key : ∀ (l m : List Tr) (i : Nat), ∃ r, Tr.inter l m = Tr.inter (l.take i) (m.take i) ++ r := by
      intro l
      induction l with
      | nil => intro m i; exact ⟨[], by simp [Tr.inter]⟩
      | cons a l ih =>
        intro m i
        cases m with
        | nil => exact ⟨[], by cases i <;> simp [Tr.inter]⟩
        | cons b m =>
          cases i with
          | zero => exact ⟨Tr.inter (a :: l) (b :: m), by simp [Tr.inter]⟩
          | succ i =>
            obtain ⟨r, hr⟩ := ih m i
            exact ⟨r, by simp only [List.take_succ_cons, Tr.inter, hr, List.cons_append]⟩
    obtain ⟨r, hr⟩ := key t.keys t.kids i
    exact ⟨r.map (Tr.forms alF), by rw [hr, List.map_append]⟩
  · exact ⟨(t.kids.drop i).map (Tr.forms alF), by rw [← List.map_append, List.take_append_drop]⟩
theorem forms_stop {t : Tr} {i : Nat} (h0 : alF t = 0) (h : Tr.firstE (fst8 t i) ≠ 0) : t.forms alF = Tr.firstE (fst8 t i) := by
  rw [Tr.forms_eq, h0, Tr.firstE_zero]
  obtain ⟨m, hm⟩ := fst8_pre t i
  rw [hm, firstE_pre h]
theorem forms_end {t : Tr} {n : Nat} (h0 : alF t = 0) (hn : t.kids.length = n) (h : Tr.firstE (fst8 t n) = 0) : t.forms alF = 0 := by
  rw [Tr.forms_eq, h0, Tr.firstE_zero, ← fst8_all (Nat.le_of_eq hn) (fun h8 => by rw [(alF_shaped t h0).1 h8]; exact Nat.le_of_eq hn), h]
theorem forms_not {t : Tr} (h0 : alF t ≠ 0) : t.forms alF = alF t := by rw [Tr.forms_eq, Tr.firstE_not _ h0]

theorem form_el {D : Nat} (ih : FormAt D) {w : World} {a : Option Addr} {len cap : Nat} {l : List Tr} (h : RowN (Nd D w) w a len cap l) {i : Nat} (hi : i < l.length) (w2 : World) (hb : Below w.heap.size w w2) :
    ∃ (bk ok : Nat) (nk : Nb), a = some ⟨bk, ok, none⟩ ∧ (∀ j, j < 9 → w2.cell? ⟨bk, ok + (i * 9 + j), none⟩ = nk.cells[j]?) ∧ Calls Tryz.prog 38 #[.agg nk.arr] w2 fun e w' => e = .returned (.int .i64 ((l[i]).forms alF)) ∧ Below w2.heap.size w2 w' := by
  obtain ⟨bk, ok, nk, h1, h2, h3, _⟩ := row_el h hb hi
  exact ⟨bk, ok, nk, h1, h2, ih _ _ _ h3⟩
theorem firstE_two {l : List Int} (h : 0 = Tr.firstE l) (a b : Int) : Tr.firstE (l ++ [a, b]) = if a = 0 then b else a := by
  rw [firstE_suf h.symm]
  show (if a = 0 then (if b = 0 then (0 : Int) else b) else a) = _
  by_cases ha : a = 0
  · rw [if_pos ha, if_pos ha]; split
    · rename_i hb; rw [hb]
    · rfl
  · rw [if_neg ha, if_neg ha]
theorem firstE_one {l : List Int} (h : 0 = Tr.firstE l) (a : Int) : Tr.firstE (l ++ [a]) = a := by
  rw [firstE_suf h.symm]
  show (if a = 0 then (0 : Int) else a) = a
  split
  · rename_i hb; rw [hb]
  · rfl

set_option maxHeartbeats 4000000 in
set_option maxRecDepth 100000 in
theorem form_step {D : Nat} (ih : FormAt D) : FormAt (D + 1) := by
  intro t b w hN
  have hal := alloc_below w (.cells b.arr 26)
  have Q0 : Hid (NBox (w.alloc (.cells b.arr 26)) w.heap.size b) := nbox_new w b
  have B0 : Hid (Below w.heap.size w (w.alloc (.cells b.arr 26))) := hal
  obtain ⟨a0, a1, a2, a3, a4, a5, a6, a7, a8⟩ := (nbox_new w b).fields
  have kA := ealone_any (hN.kept hal)
  have hNk : Hid (RowN (Nd D w) w b.ak b.lk b.ck t.keys) := hN.2.2.2.1
  have hNi : Hid (RowN (Nd D w) w b.ai b.li b.ci t.kids) := hN.2.2.2.2
  have hlk : Hid (t.keys.length = b.lk) := hN.2.2.2.1.1
  have hli : Hid (t.kids.length = b.li) := hN.2.2.2.2.1
  have mk := hN.2.2.2.1.2.1.1
  have mk' := hN.2.2.2.1.2.1.2.1
  have mi := hN.2.2.2.2.2.1.1
  have mi' := hN.2.2.2.2.2.1.2.1
  unfold maxLen at mk' mi'
  have hkd : Hid (b.kind = t.kind) := hN.1.1
  clear hal hN
  by_cases hz : alF t = 0
  · have h0 : Hid (alF t = 0) := hz
    rw [hz] at kA
    have hsh : Hid (t.kind = 8 → b.lk = b.li) := fun h8 => by rw [← hlk.out, ← hli.out]; exact (alF_shaped t hz).1 h8
    clear hz
    have hF : Hid (∀ i, Tr.firstE (fst8 t i) ≠ 0 → t.forms alF = Tr.firstE (fst8 t i)) := fun i h => forms_stop h0.out h
    have hE : Hid (Tr.firstE (fst8 t b.li) = 0 → t.forms alF = 0) := fun h => forms_end h0.out hli.out h
    generalize t.forms alF = R at *
    go_enter Tryz.func38, Tryz.ntmps38
    go_wp2_with (go_at_call 60; refine kA.mono ?_; rintro e w1 ⟨rfl, hb1⟩; clear kA a0 a1 a2 a3 a4 a5 a6 a7 a8; have Q1 : Hid (NBox w1 w.heap.size b) := Q0.out.kept hb1 Q0.out.lt; have B1 : Hid (Below w.heap.size w w1) := B0.out.trans (hb1.mono B0.out.size); obtain ⟨a0, a1, a2, a3, a4, a5, a6, a7, a8⟩ := Q1.out.fields)
    go_loopw [3, 4] (fun s3 s4 wr => ∃ (i : Nat) (M : Int), i ≤ b.li ∧ s3 = .int .i64 M ∧ s4 = .int .i64 i ∧ Hid (Below w1.heap.size w1 wr) ∧ Hid (M = Tr.firstE (fst8 t i))) (fun _ i _ => b.li - (intOf i).toNat)
    case atStart => exact ⟨0, 0, Nat.zero_le _, rfl, rfl, Below.refl _ _, by show _ = _; rw [fst8_zero]; rfl⟩
    case round =>
      obtain ⟨i, M, him, rfl, rfl, hbl, hM⟩ := hrel
      clear a0 a1 a2 a3 a4 a5 a6 a7 a8
      have Qr : Hid (NBox wr w.heap.size b) := Q1.out.kept hbl.out Q1.out.lt
      have Br : Hid (Below w.heap.size w wr) := B1.out.trans (hbl.out.mono B1.out.size)
      obtain ⟨a0, a1, a2, a3, a4, a5, a6, a7, a8⟩ := Qr.out.fields
      by_cases hlt : i < b.li
      · have hz : (i : Int) < (b.li : Int) := by omega
        by_cases hM0 : M = 0
        · subst hM0
          have hix : i < t.kids.length := by rw [hli.out]; exact hlt
          have wi : IntKind.i64.wrap ((i : Int) + 1) = (i : Int) + 1 := by rw [IntKind.wrap_i64]; omega
          have hI : Hid (∀ w2, Below w.heap.size w w2 → ∃ (bk ok : Nat) (nk : Nb), b.ai = some ⟨bk, ok, none⟩ ∧ (∀ j, j < 9 → w2.cell? ⟨bk, ok + (i * 9 + j), none⟩ = nk.cells[j]?) ∧ Calls Tryz.prog 38 #[.agg nk.arr] w2 fun e w' => e = .returned (.int .i64 ((t.kids[i]).forms alF)) ∧ Below w2.heap.size w2 w') := fun w2 hb => form_el ih hNi.out hix w2 hb
          by_cases h8 : t.kind = 8
          · have e8 : (b.kind == 8) = true := by rw [hkd.out, h8]; decide
            have hkk : i < b.lk := by rw [hsh.out h8]; exact hlt
            have hkz : (i : Int) < (b.lk : Int) := by omega
            have hkx : i < t.keys.length := by rw [hlk.out]; exact hkk
            obtain ⟨bk, ok, nk, hak, hck, kk⟩ := form_el ih hNk.out hkx wr Br.out
            obtain ⟨f0, f1, f2, f3, f4, f5, f6, f7, f8⟩ := elem_fields hck
            have hS : Hid (Tr.firstE (fst8 t (i + 1)) = if (t.keys[i]).forms alF = 0 then (t.kids[i]).forms alF else (t.keys[i]).forms alF) := by
              show _ = _
              rw [fst8_map h8 hkx hix, firstE_two hM.out]
            generalize (t.keys[i]).forms alF = E1 at *
            generalize (t.kids[i]).forms alF = E2 at *
            clear hck h8 hix hkx hM
            by_cases hE1 : E1 = 0
            · subst hE1
              have hS' : Hid (E2 = Tr.firstE (fst8 t (i + 1))) := by
                show _ = _
                rw [hS.out, if_pos rfl]
              clear hS
              go_wp2_with (first
                | (go_at_call 38; refine kk.mono ?_; rintro e w2 ⟨rfl, hb2⟩; clear kk f0 f1 f2 f3 f4 f5 f6 f7 f8 a0 a1 a2 a3 a4 a5 a6 a7 a8; have Q2 : Hid (NBox w2 w.heap.size b) := Qr.out.kept hb2 Qr.out.lt; have B2 : Hid (Below w.heap.size w w2) := Br.out.trans (hb2.mono Br.out.size); obtain ⟨a0, a1, a2, a3, a4, a5, a6, a7, a8⟩ := Q2.out.fields; obtain ⟨bi, oi, ni, hai, hci, ki⟩ := hI.out w2 B2.out; obtain ⟨f0, f1, f2, f3, f4, f5, f6, f7, f8⟩ := elem_fields hci; clear hci)
                | (go_at_call 38; refine ki.mono ?_; rintro e w3 ⟨rfl, hb3⟩))
              try simp only [hak, hai]
              go_roundw
              case rel => exact ⟨i + 1, E2, by omega, rfl, by go_num, hbl.out.trans ((hb2.trans (hb3.mono hb2.size)).mono hbl.out.size), hS'⟩
              case measure => simp [intOf]; omega
            · have hS' : Hid (E1 = Tr.firstE (fst8 t (i + 1))) := by
                show _ = _
                rw [hS.out, if_neg hE1]
              have hE1' : (E1 == 0) = false := by simp [hE1]
              clear hS hE1 hI
              go_wp2_with (first
                | (go_at_call 38; refine kk.mono ?_; rintro e w2 ⟨rfl, hb2⟩; clear kk f0 f1 f2 f3 f4 f5 f6 f7 f8 a0 a1 a2 a3 a4 a5 a6 a7 a8))
              try simp only [hak]
              go_roundw
              case rel => exact ⟨i + 1, E1, by omega, rfl, by go_num, hbl.out.trans (hb2.mono hbl.out.size), hS'⟩
              case measure => simp [intOf]; omega
          · have e8 : (b.kind == 8) = false := by rw [hkd.out]; simp [h8]
            have hS' : Hid ((t.kids[i]).forms alF = Tr.firstE (fst8 t (i + 1))) := by
              show _ = _
              rw [fst8_arr h8 hix, firstE_one hM.out]
            obtain ⟨bi, oi, ni, hai, hci, ki⟩ := hI.out wr Br.out
            obtain ⟨f0, f1, f2, f3, f4, f5, f6, f7, f8⟩ := elem_fields hci
            generalize (t.kids[i]).forms alF = E2 at *
            clear hci h8 hix hM hI
            go_wp2_with (first
              | (go_at_call 38; refine ki.mono ?_; rintro e w3 ⟨rfl, hb3⟩))
            try simp only [hai]
            go_roundw
            case rel => exact ⟨i + 1, E2, by omega, rfl, by go_num, hbl.out.trans (hb3.mono hbl.out.size), hS'⟩
            case measure => simp [intOf]; omega
        · have hM0' : (M == 0) = false := by simp [hM0]
          obtain rfl : R = M := by rw [hF.out i (by rw [← hM.out]; exact hM0), hM.out]
          clear hM0
          go_wp2
          go_ret
          exact ⟨rfl, Br.out⟩
      · have hz : ¬ (i : Int) < (b.li : Int) := by omega
        obtain rfl : i = b.li := by omega
        have hRM : Hid (R = M) := by
          show _ = _
          by_cases hM0 : M = 0
          · rw [hM0]; exact hE.out (by rw [← hM.out]; exact hM0)
          · rw [hF.out b.li (by rw [← hM.out]; exact hM0), hM.out]
        obtain rfl : R = M := hRM.out
        clear hRM
        go_wp2
        go_ret
        exact ⟨rfl, Br.out⟩
  · rw [forms_not hz]
    have hz' : (alF t == 0) = false := by simp [hz]
    generalize alF t = M at *
    clear hz
    by_cases hlt : 0 < b.li
    · have hz : (0 : Int) < (b.li : Int) := by omega
      go_enter Tryz.func38, Tryz.ntmps38
      go_wp2_with (go_at_call 60; refine kA.mono ?_; rintro e w1 ⟨rfl, hb1⟩; clear kA a0 a1 a2 a3 a4 a5 a6 a7 a8; have Q1 : Hid (NBox w1 w.heap.size b) := Q0.out.kept hb1 Q0.out.lt; have B1 : Hid (Below w.heap.size w w1) := B0.out.trans (hb1.mono B0.out.size); obtain ⟨a0, a1, a2, a3, a4, a5, a6, a7, a8⟩ := Q1.out.fields)
      go_loopw [3, 4] (fun s3 s4 wr => s3 = .int .i64 M ∧ s4 = .int .i64 0 ∧ wr = w1) (fun _ i _ => 0)
      case atStart => exact ⟨rfl, rfl, rfl⟩
      case round =>
        obtain ⟨rfl, rfl, rfl⟩ := hrel
        go_wp2
        go_ret
        exact ⟨rfl, B1.out⟩
    · have hz : ¬ (0 : Int) < (b.li : Int) := by omega
      clear hlt
      go_enter Tryz.func38, Tryz.ntmps38
      go_wp2_with (go_at_call 60; refine kA.mono ?_; rintro e w1 ⟨rfl, hb1⟩; clear kA a0 a1 a2 a3 a4 a5 a6 a7 a8; have Q1 : Hid (NBox w1 w.heap.size b) := Q0.out.kept hb1 Q0.out.lt; have B1 : Hid (Below w.heap.size w w1) := B0.out.trans (hb1.mono B0.out.size); obtain ⟨a0, a1, a2, a3, a4, a5, a6, a7, a8⟩ := Q1.out.fields)
      go_loopw [3, 4] (fun s3 s4 wr => s3 = .int .i64 M ∧ s4 = .int .i64 0 ∧ wr = w1) (fun _ i _ => 0)
      case atStart => exact ⟨rfl, rfl, rfl⟩
      case round =>
        obtain ⟨rfl, rfl, rfl⟩ := hrel
        go_wp2
        go_ret
        exact ⟨rfl, B1.out⟩
theorem form_all : ∀ D, FormAt D := by
  intro D
  induction D with
  | zero => intro t b w h; exact absurd h id
  | succ D ih => exact form_step ih
end Go.Proofs.YtnjbppfanmmifaaGreatDoor
namespace Go.Proofs.YtnjbppfanmmifaaGreatDoor
open Go.RowKit
set_option linter.unusedVariables false

theorem RowN.take {Q : Nb → Tr → Prop} {w : World} {a : Option Addr} {len cap : Nat} {l : List Tr} (h : RowN Q w a len cap l) {i : Nat} (hi : i ≤ len) : RowN Q w a i cap (l.take i) := by
  obtain ⟨h0, h1, h2⟩ := h
  refine ⟨by rw [List.length_take]; omega, ⟨Nat.le_trans hi h1.1, h1.2.1, h1.2.2.1, Nat.le_trans (Nat.mul_le_mul_right _ hi) h1.2.2.2⟩, ?_⟩
  rcases h2 with rfl | ⟨b, off, ha, hc⟩
  · exact .inl (by simp)
  · refine .inr ⟨b, off, ha, fun j hj => ?_⟩
    have hj' : j < l.length := by rw [List.length_take] at hj; omega
    obtain ⟨nb, hn, hQ⟩ := hc j hj'
    exact ⟨nb, hn, by rw [List.getElem_take]; exact hQ⟩

end Go.Proofs.YtnjbppfanmmifaaGreatDoor
namespace Go.Proofs.YtnjbppfanmmifaaGreatDoor
open Go.RowKit
set_option linter.unusedVariables false

/-- A node's box, and nothing else turned. -/
def Bo1 (w wx : World) (b : Nb) : Prop := NBox wx w.heap.size b ∧ Below w.heap.size w wx
theorem Bo1.on {w wx wy : World} {b : Nb} (h : Bo1 w wx b) (hb : Below wx.heap.size wx wy) : Bo1 w wy b := ⟨h.1.kept hb h.1.lt, h.2.trans (hb.mono h.2.size)⟩
theorem Bo1.drew {w wx : World} {b : Nb} (h : Bo1 w wx b) : Bo1 w wx.drew b := h.on (Below.refl _ _).drew
/-- No map in it has two keys that are the same. -/
def Tr.once (t : Tr) : Prop := t.All (fun u => u.keys.Nodup)
theorem once_eq (t : Tr) : t.once ↔ t.keys.Nodup ∧ (∀ k, k ∈ t.keys → k.once) ∧ (∀ k, k ∈ t.kids → k.once) := Tr.all_eq _ t
def TwAt (D : Nat) : Prop := ∀ (t : Tr) (b : Nb) (w : World) (v : Bool), Nd D w b t → (v = true ↔ ¬ t.once) → Calls Tryz.prog 39 #[.agg b.arr] w fun e w' => e = .returned (.bool v) ∧ Below w.heap.size w w'
theorem tw_el {D : Nat} (ih : TwAt D) {w : World} {a : Option Addr} {len cap : Nat} {l : List Tr} (h : RowN (Nd D w) w a len cap l) {i : Nat} (hi : i < l.length) {v : Bool} (hv : v = true ↔ ¬ (l[i]).once) (w2 : World) (hb : Below w.heap.size w w2) :
    ∃ (bk ok : Nat) (nk : Nb), a = some ⟨bk, ok, none⟩ ∧ (∀ j, j < 9 → w2.cell? ⟨bk, ok + (i * 9 + j), none⟩ = nk.cells[j]?) ∧ Calls Tryz.prog 39 #[.agg nk.arr] w2 fun e w' => e = .returned (.bool v) ∧ Below w2.heap.size w2 w' := by
  obtain ⟨bk, ok, nk, h1, h2, h3, _⟩ := row_el h hb hi
  exact ⟨bk, ok, nk, h1, h2, ih _ _ _ _ h3 hv⟩
theorem bool_of (p : Prop) : ∃ v : Bool, v = true ↔ p := ⟨@decide p (Classical.propDecidable _), by simp⟩
theorem take_once {l : List Tr} {i : Nat} (hi : i < l.length) (h : ∀ k, k ∈ l.take i → k.once) (h1 : (l[i]).once) : ∀ k, k ∈ l.take (i + 1) → k.once := by
  intro k hk
  rw [List.take_succ_eq_append_getElem hi] at hk
  rcases List.mem_append.1 hk with hk | hk
  · exact h k hk
  · rw [List.mem_singleton] at hk; subst hk; exact h1
/-- So far no key at a place is one of those ahead: k of those ahead of i were held against it. -/
def NotAmong (l : List Tr) (i k : Nat) : Prop := ∀ (h : i < l.length), l[i] ∉ l.take k
theorem not_among_zero (l : List Tr) (i : Nat) : NotAmong l i 0 := fun h => by simp
theorem not_among_next {l : List Tr} {i k : Nat} (hk : k < l.length) (h : NotAmong l i k) (hi : i < l.length) (hne : l[i] ≠ l[k]) : NotAmong l i (k + 1) := fun _ => by
  rw [List.take_succ_eq_append_getElem hk]
  intro hm
  rcases List.mem_append.1 hm with hm | hm
  · exact h hi hm
  · rw [List.mem_singleton] at hm; exact hne hm
theorem nodup_next {l : List Tr} {i : Nat} (hi : i < l.length) (h : (l.take i).Nodup) (hn : NotAmong l i i) : (l.take (i + 1)).Nodup := by
  rw [List.take_succ_eq_append_getElem hi]
  refine List.nodup_append.2 ⟨h, by simp, fun x hx y hy he => ?_⟩
  rw [List.mem_singleton] at hy
  subst hy he
  exact hn hi hx
theorem nodup_not {l : List Tr} {i k : Nat} (hi : i < l.length) (hk : k < i) (he : l[i] = l[k]'(by omega)) : ¬ l.Nodup := by
  intro hn
  have := (List.getElem_inj (h₀ := hi) (h₁ := by omega) hn).1 he
  omega

set_option maxHeartbeats 4000000 in
set_option maxRecDepth 100000 in
theorem tw_step {D : Nat} (ih : TwAt D) : TwAt (D + 1) := by
  intro t b w v hN hv
  have hal := alloc_below w (.cells b.arr 26)
  have Q0 : Hid (NBox (w.alloc (.cells b.arr 26)) w.heap.size b) := nbox_new w b
  have B0 : Hid (Below w.heap.size w (w.alloc (.cells b.arr 26))) := hal
  obtain ⟨a0, a1, a2, a3, a4, a5, a6, a7, a8⟩ := (nbox_new w b).fields
  have hNk : Hid (RowN (Nd D w) w b.ak b.lk b.ck t.keys) := hN.2.2.2.1
  have hNi : Hid (RowN (Nd D w) w b.ai b.li b.ci t.kids) := hN.2.2.2.2
  have hlk : Hid (t.keys.length = b.lk) := hN.2.2.2.1.1
  have hli : Hid (t.kids.length = b.li) := hN.2.2.2.2.1
  have mk := hN.2.2.2.1.2.1.1
  have mk' := hN.2.2.2.1.2.1.2.1
  have mi := hN.2.2.2.2.2.1.1
  have mi' := hN.2.2.2.2.2.1.2.1
  unfold maxLen at mk' mi'
  have hV : Hid (v = true ↔ ¬ t.once) := hv
  clear hal hN hv
  go_enter Tryz.func39, Tryz.ntmps39
  go_wp2
  go_loopw [3] (fun s3 wr => ∃ (i : Nat), i ≤ b.lk ∧ s3 = .int .i64 i ∧ Hid (Below (w.alloc (.cells b.arr 26)).heap.size (w.alloc (.cells b.arr 26)) wr) ∧ Hid ((t.keys.take i).Nodup)) (fun i _ => b.lk - (intOf i).toNat)
  case atStart => exact ⟨0, Nat.zero_le _, rfl, Below.refl _ _, by show List.Nodup _; simp⟩
  case round =>
    obtain ⟨i, him, rfl, hbl, hD⟩ := hrel
    clear a0 a1 a2 a3 a4 a5 a6 a7 a8
    have Qr : Hid (NBox wr w.heap.size b) := Q0.out.kept hbl.out Q0.out.lt
    have Br : Hid (Below w.heap.size w wr) := B0.out.trans (hbl.out.mono B0.out.size)
    obtain ⟨a0, a1, a2, a3, a4, a5, a6, a7, a8⟩ := Qr.out.fields
    by_cases hlt : i < b.lk
    · have hz : (i : Int) < (b.lk : Int) := by omega
      have hix : Hid (i < t.keys.length) := by show _ < _; rw [hlk.out]; exact hlt
      have wi : IntKind.i64.wrap ((i : Int) + 1) = (i : Int) + 1 := by rw [IntKind.wrap_i64]; omega
      go_wp2
      go_loopw [4] (fun s4 wr => ∃ (k : Nat), k ≤ i ∧ s4 = .int .i64 k ∧ Hid (Below (w.alloc (.cells b.arr 26)).heap.size (w.alloc (.cells b.arr 26)) wr) ∧ Hid (NotAmong t.keys i k)) (fun k _ => i - (intOf k).toNat)
      case atStart => exact ⟨0, Nat.zero_le _, rfl, hbl, not_among_zero _ _⟩
      case round =>
        obtain ⟨k, hki, rfl, hbs, hA⟩ := hrel
        clear a0 a1 a2 a3 a4 a5 a6 a7 a8
        have Qs : Hid (NBox wr w.heap.size b) := Q0.out.kept hbs.out Q0.out.lt
        have Bs : Hid (Below w.heap.size w wr) := B0.out.trans (hbs.out.mono B0.out.size)
        obtain ⟨a0, a1, a2, a3, a4, a5, a6, a7, a8⟩ := Qs.out.fields
        by_cases hkl : k < i
        · have hkz : (k : Int) < (i : Int) := by omega
          have hkb : (k : Int) < (b.lk : Int) := by omega
          have hkx : Hid (k < t.keys.length) := by show _ < _; rw [hlk.out]; omega
          have wk : IntKind.i64.wrap ((k : Int) + 1) = (k : Int) + 1 := by rw [IntKind.wrap_i64]; omega
          obtain ⟨bk, ok, nk, hak, hck, hNn⟩ := row_sp hNk.out Bs.out hix.out
          obtain ⟨bk', ok', nj, hak', hcj, hNj⟩ := row_sp hNk.out Bs.out hkx.out
          have hae : some (⟨bk, ok, none⟩ : Addr) = some ⟨bk', ok', none⟩ := by rw [← hak, ← hak']
          obtain ⟨rfl, rfl⟩ : bk = bk' ∧ ok = ok' := by simpa using hae
          have hT : Hid (Bo1 w wr b) := ⟨Qs.out, Bs.out⟩
          have hS : Hid (∀ wx, Bo1 w wx b → wx.cell? ⟨w.heap.size, 7, none⟩ = some (.slice (some ⟨bk, ok, none⟩) b.lk b.ck) ∧ (wx.cell? ⟨bk, ok + i * 9, none⟩ = some (.int .i64 nk.kind) ∧ wx.cell? ⟨bk, ok + i * 9 + 1, none⟩ = some (.int .u64 nk.num) ∧ wx.cell? ⟨bk, ok + i * 9 + 2, none⟩ = some (.bool nk.neg) ∧ wx.cell? ⟨bk, ok + i * 9 + 3, none⟩ = some (.string nk.dig) ∧ wx.cell? ⟨bk, ok + i * 9 + 4, none⟩ = some (.int .i64 nk.exp) ∧ wx.cell? ⟨bk, ok + i * 9 + 5, none⟩ = some (.string nk.txt) ∧ wx.cell? ⟨bk, ok + i * 9 + 6, none⟩ = some (.slice nk.ab nk.lb nk.cb) ∧ wx.cell? ⟨bk, ok + i * 9 + 7, none⟩ = some (.slice nk.ak nk.lk nk.ck) ∧ wx.cell? ⟨bk, ok + i * 9 + 8, none⟩ = some (.slice nk.ai nk.li nk.ci)) ∧ (wx.cell? ⟨bk, ok + k * 9, none⟩ = some (.int .i64 nj.kind) ∧ wx.cell? ⟨bk, ok + k * 9 + 1, none⟩ = some (.int .u64 nj.num) ∧ wx.cell? ⟨bk, ok + k * 9 + 2, none⟩ = some (.bool nj.neg) ∧ wx.cell? ⟨bk, ok + k * 9 + 3, none⟩ = some (.string nj.dig) ∧ wx.cell? ⟨bk, ok + k * 9 + 4, none⟩ = some (.int .i64 nj.exp) ∧ wx.cell? ⟨bk, ok + k * 9 + 5, none⟩ = some (.string nj.txt) ∧ wx.cell? ⟨bk, ok + k * 9 + 6, none⟩ = some (.slice nj.ab nj.lb nj.cb) ∧ wx.cell? ⟨bk, ok + k * 9 + 7, none⟩ = some (.slice nj.ak nj.lk nj.ck) ∧ wx.cell? ⟨bk, ok + k * 9 + 8, none⟩ = some (.slice nj.ai nj.li nj.ci))) := fun wx h => ⟨by rw [← hak]; exact h.1.cell 7, elem_fields (hck wx h.2), elem_fields (hcj wx h.2)⟩
          have hS0 := hS.out _ hT.out
          obtain ⟨e0, ⟨f0, f1, f2, f3, f4, f5, f6, f7, f8⟩, ⟨g0, g1, g2, g3, g4, g5, g6, g7, g8⟩⟩ := hS0
          obtain ⟨u, hu⟩ := bool_of (t.keys[i]'hix.out = t.keys[k]'hkx.out)
          have kS : ∀ w', Below w.heap.size w w' → Calls Tryz.prog 33 #[.agg nk.arr, .agg nj.arr] w' fun e w'' => e = .returned (.bool u) ∧ Below w'.heap.size w' w'' := fun w' hb => esam_any (hNn.kept hb) (hNj.kept hb) hu
          have hU : Hid (u = true ↔ t.keys[i]'hix.out = t.keys[k]'hkx.out) := hu
          clear hak' hae hcj hck hNn hNj hu
          cases u with
          | true =>
            obtain rfl : v = true := hV.out.2 (fun ho => nodup_not hix.out hkl (hU.out.1 rfl) ((once_eq t).1 ho).1)
            go_wp2
            go_region_held3 (fun wx => wx.cell? ⟨w.heap.size, 7, none⟩ = some (.slice (some ⟨bk, ok, none⟩) b.lk b.ck) ∧ (wx.cell? ⟨bk, ok + i * 9, none⟩ = some (.int .i64 nk.kind) ∧ wx.cell? ⟨bk, ok + i * 9 + 1, none⟩ = some (.int .u64 nk.num) ∧ wx.cell? ⟨bk, ok + i * 9 + 2, none⟩ = some (.bool nk.neg) ∧ wx.cell? ⟨bk, ok + i * 9 + 3, none⟩ = some (.string nk.dig) ∧ wx.cell? ⟨bk, ok + i * 9 + 4, none⟩ = some (.int .i64 nk.exp) ∧ wx.cell? ⟨bk, ok + i * 9 + 5, none⟩ = some (.string nk.txt) ∧ wx.cell? ⟨bk, ok + i * 9 + 6, none⟩ = some (.slice nk.ab nk.lb nk.cb) ∧ wx.cell? ⟨bk, ok + i * 9 + 7, none⟩ = some (.slice nk.ak nk.lk nk.ck) ∧ wx.cell? ⟨bk, ok + i * 9 + 8, none⟩ = some (.slice nk.ai nk.li nk.ci)) ∧ (wx.cell? ⟨bk, ok + k * 9, none⟩ = some (.int .i64 nj.kind) ∧ wx.cell? ⟨bk, ok + k * 9 + 1, none⟩ = some (.int .u64 nj.num) ∧ wx.cell? ⟨bk, ok + k * 9 + 2, none⟩ = some (.bool nj.neg) ∧ wx.cell? ⟨bk, ok + k * 9 + 3, none⟩ = some (.string nj.dig) ∧ wx.cell? ⟨bk, ok + k * 9 + 4, none⟩ = some (.int .i64 nj.exp) ∧ wx.cell? ⟨bk, ok + k * 9 + 5, none⟩ = some (.string nj.txt) ∧ wx.cell? ⟨bk, ok + k * 9 + 6, none⟩ = some (.slice nj.ab nj.lb nj.cb) ∧ wx.cell? ⟨bk, ok + k * 9 + 7, none⟩ = some (.slice nj.ak nj.lk nj.ck) ∧ wx.cell? ⟨bk, ok + k * 9 + 8, none⟩ = some (.slice nj.ai nj.li nj.ci))) (first | exact hS.out _ hT.out.drew | exact hS.out _ T1.out) (first
              | (go_at_call 33; refine (kS _ hT.out.drew.2).mono ?_; rintro e w1 ⟨rfl, q1⟩; have T1 : Hid (Bo1 w w1 b) := hT.out.drew.on q1; clear q1))
            go_wp2
            go_ret
            exact ⟨rfl, T1.out.2⟩
          | false =>
            have hA' : Hid (NotAmong t.keys i (k + 1)) := not_among_next hkx.out hA.out hix.out (fun h => by have := hU.out.2 h; cases this)
            go_wp2
            go_region_held3 (fun wx => wx.cell? ⟨w.heap.size, 7, none⟩ = some (.slice (some ⟨bk, ok, none⟩) b.lk b.ck) ∧ (wx.cell? ⟨bk, ok + i * 9, none⟩ = some (.int .i64 nk.kind) ∧ wx.cell? ⟨bk, ok + i * 9 + 1, none⟩ = some (.int .u64 nk.num) ∧ wx.cell? ⟨bk, ok + i * 9 + 2, none⟩ = some (.bool nk.neg) ∧ wx.cell? ⟨bk, ok + i * 9 + 3, none⟩ = some (.string nk.dig) ∧ wx.cell? ⟨bk, ok + i * 9 + 4, none⟩ = some (.int .i64 nk.exp) ∧ wx.cell? ⟨bk, ok + i * 9 + 5, none⟩ = some (.string nk.txt) ∧ wx.cell? ⟨bk, ok + i * 9 + 6, none⟩ = some (.slice nk.ab nk.lb nk.cb) ∧ wx.cell? ⟨bk, ok + i * 9 + 7, none⟩ = some (.slice nk.ak nk.lk nk.ck) ∧ wx.cell? ⟨bk, ok + i * 9 + 8, none⟩ = some (.slice nk.ai nk.li nk.ci)) ∧ (wx.cell? ⟨bk, ok + k * 9, none⟩ = some (.int .i64 nj.kind) ∧ wx.cell? ⟨bk, ok + k * 9 + 1, none⟩ = some (.int .u64 nj.num) ∧ wx.cell? ⟨bk, ok + k * 9 + 2, none⟩ = some (.bool nj.neg) ∧ wx.cell? ⟨bk, ok + k * 9 + 3, none⟩ = some (.string nj.dig) ∧ wx.cell? ⟨bk, ok + k * 9 + 4, none⟩ = some (.int .i64 nj.exp) ∧ wx.cell? ⟨bk, ok + k * 9 + 5, none⟩ = some (.string nj.txt) ∧ wx.cell? ⟨bk, ok + k * 9 + 6, none⟩ = some (.slice nj.ab nj.lb nj.cb) ∧ wx.cell? ⟨bk, ok + k * 9 + 7, none⟩ = some (.slice nj.ak nj.lk nj.ck) ∧ wx.cell? ⟨bk, ok + k * 9 + 8, none⟩ = some (.slice nj.ai nj.li nj.ci))) (first | exact hS.out _ hT.out.drew | exact hS.out _ T1.out) (first
              | (go_at_call 33; refine (kS _ hT.out.drew.2).mono ?_; rintro e w1 ⟨rfl, q1⟩; have T1 : Hid (Bo1 w w1 b) := hT.out.drew.on q1; have hbT : Hid (Below (w.alloc (.cells b.arr 26)).heap.size (w.alloc (.cells b.arr 26)) w1) := hbs.out.drew.trans (q1.mono hbs.out.drew.size); clear q1))
            go_wp2
            try simp only [hak]
            go_roundw
            case rel => exact ⟨k + 1, by omega, by go_num, hbT, hA'⟩
            case measure => simp [intOf]; omega
        · have hkz : ¬ (k : Int) < (i : Int) := by omega
          obtain rfl : k = i := by omega
          have hD' : Hid ((t.keys.take (k + 1)).Nodup) := nodup_next hix.out hD.out hA.out
          go_wp2
          go_roundw
          case rel => exact ⟨k + 1, by omega, by go_num, hbs, hD'⟩
          case measure => simp [intOf]; omega
    · have hz : ¬ (i : Int) < (b.lk : Int) := by omega
      have hDD : Hid (t.keys.Nodup) := by
        have := hD.out
        rwa [List.take_of_length_le (by rw [hlk.out]; omega)] at this
      clear hlt him hD
      go_wp2
      go_loopw [5] (fun s5 wr => ∃ (k : Nat), k ≤ b.lk ∧ s5 = .int .i64 k ∧ Hid (Below (w.alloc (.cells b.arr 26)).heap.size (w.alloc (.cells b.arr 26)) wr) ∧ Hid (∀ x, x ∈ t.keys.take k → x.once)) (fun k _ => b.lk - (intOf k).toNat)
      case atStart => exact ⟨0, Nat.zero_le _, rfl, hbl, by show ∀ x, _; simp⟩
      case round =>
        obtain ⟨k, hki, rfl, hbs, hA⟩ := hrel
        clear a0 a1 a2 a3 a4 a5 a6 a7 a8
        have Qs : Hid (NBox wr w.heap.size b) := Q0.out.kept hbs.out Q0.out.lt
        have Bs : Hid (Below w.heap.size w wr) := B0.out.trans (hbs.out.mono B0.out.size)
        obtain ⟨a0, a1, a2, a3, a4, a5, a6, a7, a8⟩ := Qs.out.fields
        by_cases hkl : k < b.lk
        · have hkz : (k : Int) < (b.lk : Int) := by omega
          have hkx : Hid (k < t.keys.length) := by show _ < _; rw [hlk.out]; omega
          have wk : IntKind.i64.wrap ((k : Int) + 1) = (k : Int) + 1 := by rw [IntKind.wrap_i64]; omega
          obtain ⟨u, hu⟩ := bool_of (¬ (t.keys[k]'hkx.out).once)
          obtain ⟨bk, ok, nk, hak, hck, kT⟩ := tw_el ih hNk.out hkx.out hu wr Bs.out
          obtain ⟨f0, f1, f2, f3, f4, f5, f6, f7, f8⟩ := elem_fields hck
          have hU : Hid (u = true ↔ ¬ (t.keys[k]'hkx.out).once) := hu
          clear hck hu
          cases u with
          | true =>
            obtain rfl : v = true := hV.out.2 (fun ho => hU.out.1 rfl (((once_eq t).1 ho).2.1 _ (List.getElem_mem hkx.out)))
            go_wp2_with (go_at_call 39; refine kT.mono ?_; rintro e w2 ⟨rfl, hb2⟩)
            go_ret
            exact ⟨rfl, Bs.out.trans (hb2.mono Bs.out.size)⟩
          | false =>
            have hA' : Hid (∀ x, x ∈ t.keys.take (k + 1) → x.once) := take_once hkx.out hA.out (Classical.byContradiction fun h => by have := hU.out.2 h; cases this)
            go_wp2_with (go_at_call 39; refine kT.mono ?_; rintro e w2 ⟨rfl, hb2⟩)
            try simp only [hak]
            go_roundw
            case rel => exact ⟨k + 1, by omega, by go_num, hbs.out.trans (hb2.mono hbs.out.size), hA'⟩
            case measure => simp [intOf]; omega
        · have hkz : ¬ (k : Int) < (b.lk : Int) := by omega
          have hKK : Hid (∀ x, x ∈ t.keys → x.once) := by
            have := hA.out
            rwa [List.take_of_length_le (by rw [hlk.out]; omega)] at this
          clear hkl hki hA
          go_wp2
          go_loopw [6] (fun s6 wr => ∃ (j : Nat), j ≤ b.li ∧ s6 = .int .i64 j ∧ Hid (Below (w.alloc (.cells b.arr 26)).heap.size (w.alloc (.cells b.arr 26)) wr) ∧ Hid (∀ x, x ∈ t.kids.take j → x.once)) (fun j _ => b.li - (intOf j).toNat)
          case atStart => exact ⟨0, Nat.zero_le _, rfl, hbs, by show ∀ x, _; simp⟩
          case round =>
            obtain ⟨j, hji, rfl, hbu, hA⟩ := hrel
            clear a0 a1 a2 a3 a4 a5 a6 a7 a8
            have Qu : Hid (NBox wr w.heap.size b) := Q0.out.kept hbu.out Q0.out.lt
            have Bu : Hid (Below w.heap.size w wr) := B0.out.trans (hbu.out.mono B0.out.size)
            obtain ⟨a0, a1, a2, a3, a4, a5, a6, a7, a8⟩ := Qu.out.fields
            by_cases hjl : j < b.li
            · have hjz : (j : Int) < (b.li : Int) := by omega
              have hjx : Hid (j < t.kids.length) := by show _ < _; rw [hli.out]; omega
              have wj : IntKind.i64.wrap ((j : Int) + 1) = (j : Int) + 1 := by rw [IntKind.wrap_i64]; omega
              obtain ⟨u, hu⟩ := bool_of (¬ (t.kids[j]'hjx.out).once)
              obtain ⟨bk, ok, nk, hak, hck, kT⟩ := tw_el ih hNi.out hjx.out hu wr Bu.out
              obtain ⟨f0, f1, f2, f3, f4, f5, f6, f7, f8⟩ := elem_fields hck
              have hU : Hid (u = true ↔ ¬ (t.kids[j]'hjx.out).once) := hu
              clear hck hu
              cases u with
              | true =>
                obtain rfl : v = true := hV.out.2 (fun ho => hU.out.1 rfl (((once_eq t).1 ho).2.2 _ (List.getElem_mem hjx.out)))
                go_wp2_with (go_at_call 39; refine kT.mono ?_; rintro e w2 ⟨rfl, hb2⟩)
                go_ret
                exact ⟨rfl, Bu.out.trans (hb2.mono Bu.out.size)⟩
              | false =>
                have hA' : Hid (∀ x, x ∈ t.kids.take (j + 1) → x.once) := take_once hjx.out hA.out (Classical.byContradiction fun h => by have := hU.out.2 h; cases this)
                go_wp2_with (go_at_call 39; refine kT.mono ?_; rintro e w2 ⟨rfl, hb2⟩)
                try simp only [hak]
                go_roundw
                case rel => exact ⟨j + 1, by omega, by go_num, hbu.out.trans (hb2.mono hbu.out.size), hA'⟩
                case measure => simp [intOf]; omega
            · have hjz : ¬ (j : Int) < (b.li : Int) := by omega
              obtain rfl : v = false := not_true hV.out (fun h => h ((once_eq t).2 ⟨hDD.out, hKK.out, by
                have := hA.out
                rwa [List.take_of_length_le (by rw [hli.out]; omega)] at this⟩))
              go_wp2
              go_ret
              exact ⟨rfl, Bu.out⟩
theorem tw_all : ∀ D, TwAt D := by
  intro D
  induction D with
  | zero => intro t b w v h; exact absurd h id
  | succ D ih => exact tw_step ih
theorem etwice_any {D : Nat} {t : Tr} {b : Nb} {w : World} {v : Bool} (hN : Nd D w b t) (hv : v = true ↔ ¬ t.All (fun u => u.keys.Nodup)) : Calls Tryz.prog 39 #[.agg b.arr] w fun e w' => e = .returned (.bool v) ∧ Below w.heap.size w w' := tw_all D t b w v hN hv
end Go.Proofs.YtnjbppfanmmifaaGreatDoor
namespace Go.Proofs.YtnjbppfanmmifaaGreatDoor
open Go.RowKit
set_option linter.unusedVariables false

def LeftAt (D : Nat) : Prop := ∀ (t : Tr) (b : Nb) (w : World) (m : Int), Nd D w b t → 0 ≤ m → m ≤ 2000 → Calls Tryz.prog 46 #[.agg b.arr, .int .i64 m] w fun e w' => e = .returned (.int .i64 (Tr.lft m t.size)) ∧ Below w.heap.size w w'
theorem lft_bd {m : Int} {s : Nat} (h0 : 0 ≤ m) (h1 : m ≤ 2000) : -1 ≤ Tr.lft m s ∧ Tr.lft m s ≤ 2000 := by unfold Tr.lft; split <;> omega

set_option maxHeartbeats 4000000 in
set_option maxRecDepth 100000 in
theorem left_step {D : Nat} (ih : LeftAt D) : LeftAt (D + 1) := by
  intro t b w m hN h0 h1
  have hal := alloc_below w (.cells b.arr 26)
  have Q0 : Hid (NBox (w.alloc (.cells b.arr 26)) w.heap.size b) := nbox_new w b
  have B0 : Hid (Below w.heap.size w (w.alloc (.cells b.arr 26))) := hal
  obtain ⟨a0, a1, a2, a3, a4, a5, a6, a7, a8⟩ := (nbox_new w b).fields
  have hNk : Hid (RowN (Nd D w) w b.ak b.lk b.ck t.keys) := hN.2.2.2.1
  have hNi : Hid (RowN (Nd D w) w b.ai b.li b.ci t.kids) := hN.2.2.2.2
  have hlk : Hid (t.keys.length = b.lk) := hN.2.2.2.1.1
  have hli : Hid (t.kids.length = b.li) := hN.2.2.2.2.1
  have mk := hN.2.2.2.1.2.1.1
  have mk' := hN.2.2.2.1.2.1.2.1
  have mi := hN.2.2.2.2.2.1.1
  have mi' := hN.2.2.2.2.2.1.2.1
  unfold maxLen at mk' mi'
  have hm : Hid (0 ≤ m ∧ m ≤ 2000) := ⟨h0, h1⟩
  have wm : IntKind.i64.wrap (m - 1) = m - 1 := by rw [IntKind.wrap_i64]; omega
  have hsz : Hid (t.size = 1 + Tr.sizes t.keys + Tr.sizes t.kids) := Tr.size_eq t
  have hst : Hid (m - 1 = Tr.lft m (1 + Tr.sizes (t.keys.take 0))) := by
    show _ = _
    rw [List.take_zero, Tr.sizes_nil]; unfold Tr.lft; split <;> omega
  clear hal hN h0 h1
  go_enter Tryz.func46, Tryz.ntmps46
  go_wp2
  go_loopw [1, 5] (fun s1 s5 wr => ∃ (i : Nat) (M : Int), i ≤ b.lk ∧ s1 = .int .i64 M ∧ s5 = .int .i64 i ∧ Hid (Below (w.alloc (.cells b.arr 26)).heap.size (w.alloc (.cells b.arr 26)) wr) ∧ Hid (M = Tr.lft m (1 + Tr.sizes (t.keys.take i)))) (fun _ i _ => b.lk - (intOf i).toNat)
  case atStart => exact ⟨0, m - 1, Nat.zero_le _, rfl, rfl, Below.refl _ _, hst⟩
  case round =>
    obtain ⟨i, M, him, rfl, rfl, hbl, hM⟩ := hrel
    clear a0 a1 a2 a3 a4 a5 a6 a7 a8
    have Qr := Q0.out.kept hbl.out Q0.out.lt
    have Br : Hid (Below w.heap.size w wr) := B0.out.trans (hbl.out.mono B0.out.size)
    obtain ⟨a0, a1, a2, a3, a4, a5, a6, a7, a8⟩ := Qr.fields
    have hMb := lft_bd (s := 1 + Tr.sizes (t.keys.take i)) hm.out.1 hm.out.2
    rw [← hM.out] at hMb
    by_cases hlt : i < b.lk
    · have hz : (i : Int) < (b.lk : Int) := by omega
      have hix : i < t.keys.length := by rw [hlk.out]; exact hlt
      by_cases hM0 : 0 ≤ M
      · have hMd : decide (0 ≤ M) = true := decide_eq_true hM0
        obtain ⟨bk, ok, nk, hak, hck, hNn, hbk⟩ := row_el hNk.out Br.out hix
        obtain ⟨f0, f1, f2, f3, f4, f5, f6, f7, f8⟩ := elem_fields hck
        have kk := ih t.keys[i] nk wr M hNn hM0 hMb.2
        have wi : IntKind.i64.wrap ((i : Int) + 1) = (i : Int) + 1 := by rw [IntKind.wrap_i64]; omega
        have hM' : Hid (Tr.lft M (t.keys[i]).size = Tr.lft m (1 + Tr.sizes (t.keys.take (i + 1)))) := by
          show _ = _
          have e := hM.out
          subst e
          rw [Tr.lft_add hM0, Tr.sizes_snoc _ hix, Nat.add_assoc]
        generalize Tr.lft M (t.keys[i]).size = M2 at *
        clear hck hNn hbk hM0
        go_wp2_with (go_at_call 46; refine kk.mono ?_; rintro e w2 ⟨rfl, hb2⟩)
        try simp only [hak]
        go_roundw
        case rel => exact ⟨i + 1, M2, by omega, rfl, by go_num, hbl.out.trans (hb2.mono hbl.out.size), hM'⟩
        case measure => simp [intOf]; omega
      · have hMd : decide (0 ≤ M) = false := decide_eq_false hM0
        have hK : Hid (M = Tr.lft m (1 + Tr.sizes t.keys)) := by
          show _ = _
          have h1 : Tr.sizes t.keys = Tr.sizes (t.keys.take i) + Tr.sizes (t.keys.drop i) := by rw [← Tr.sizes_app, List.take_append_drop]
          have h2 := Tr.lft_over (m := m) (a := 1 + Tr.sizes (t.keys.take i)) (b := Tr.sizes (t.keys.drop i)) (by rw [← hM.out]; omega) hm.out.1
          rw [hM.out, h2.2, h1, ← Nat.add_assoc, h2.1]
        clear hM hM0
        go_wp2
        go_loopw [1, 6] (fun s1 s6 wq => ∃ (j : Nat) (N : Int), j ≤ b.li ∧ s1 = .int .i64 N ∧ s6 = .int .i64 j ∧ Hid (Below (w.alloc (.cells b.arr 26)).heap.size (w.alloc (.cells b.arr 26)) wq) ∧ Hid (N = Tr.lft m (1 + Tr.sizes t.keys + Tr.sizes (t.kids.take j)))) (fun _ j _ => b.li - (intOf j).toNat)
        case atStart => exact ⟨0, M, Nat.zero_le _, rfl, rfl, hbl, by show _ = _; rw [List.take_zero, Tr.sizes_nil, Nat.add_zero]; exact hK.out⟩
        case round =>
          obtain ⟨j, N, hjm, rfl, rfl, hbq, hN'⟩ := hrel
          clear a0 a1 a2 a3 a4 a5 a6 a7 a8
          have Qq := Q0.out.kept hbq.out Q0.out.lt
          have Bq : Hid (Below w.heap.size w _) := B0.out.trans (hbq.out.mono B0.out.size)
          obtain ⟨a0, a1, a2, a3, a4, a5, a6, a7, a8⟩ := Qq.fields
          have hNb := lft_bd (s := 1 + Tr.sizes t.keys + Tr.sizes (t.kids.take j)) hm.out.1 hm.out.2
          rw [← hN'.out] at hNb
          by_cases hjt : j < b.li
          · have hjz : (j : Int) < (b.li : Int) := by omega
            have hjx : j < t.kids.length := by rw [hli.out]; exact hjt
            by_cases hN0 : 0 ≤ N
            · have hNd : decide (0 ≤ N) = true := decide_eq_true hN0
              obtain ⟨bi, oi, ni, hai, hci, hNn2, hbi⟩ := row_el hNi.out Bq.out hjx
              obtain ⟨p0, p1, p2, p3, p4, p5, p6, p7, p8⟩ := elem_fields hci
              have k2 := ih t.kids[j] ni _ N hNn2 hN0 hNb.2
              have wj : IntKind.i64.wrap ((j : Int) + 1) = (j : Int) + 1 := by rw [IntKind.wrap_i64]; omega
              have hN2 : Hid (Tr.lft N (t.kids[j]).size = Tr.lft m (1 + Tr.sizes t.keys + Tr.sizes (t.kids.take (j + 1)))) := by
                show _ = _
                have e := hN'.out
                subst e
                rw [Tr.lft_add hN0, Tr.sizes_snoc _ hjx, Nat.add_assoc (1 + Tr.sizes t.keys)]
              generalize Tr.lft N (t.kids[j]).size = N2 at *
              clear hci hNn2 hbi hN0
              go_wp2_with (go_at_call 46; refine k2.mono ?_; rintro e w3 ⟨rfl, hb3⟩)
              try simp only [hai]
              go_roundw
              case rel => exact ⟨j + 1, N2, by omega, rfl, by go_num, hbq.out.trans (hb3.mono hbq.out.size), hN2⟩
              case measure => simp [intOf]; omega
            · have hNd : decide (0 ≤ N) = false := decide_eq_false hN0
              have hfin : Hid (N = Tr.lft m t.size) := by
                show _ = _
                have h1 : Tr.sizes t.kids = Tr.sizes (t.kids.take j) + Tr.sizes (t.kids.drop j) := by rw [← Tr.sizes_app, List.take_append_drop]
                have h2 := Tr.lft_over (m := m) (a := 1 + Tr.sizes t.keys + Tr.sizes (t.kids.take j)) (b := Tr.sizes (t.kids.drop j)) (by rw [← hN'.out]; omega) hm.out.1
                rw [hN'.out, h2.2, hsz.out, h1, ← Nat.add_assoc (1 + Tr.sizes t.keys), h2.1]
              clear hN' hN0
              go_wp2
              go_ret
              exact ⟨by rw [← hfin.out]; rfl, Bq.out⟩
          · have hjz : ¬ (j : Int) < (b.li : Int) := by omega
            have hfin : Hid (N = Tr.lft m t.size) := by
              show _ = _
              rw [hN'.out, hsz.out, List.take_of_length_le (by rw [hli.out]; omega)]
            clear hN'
            go_wp2
            go_ret
            exact ⟨by rw [← hfin.out]; rfl, Bq.out⟩
    · have hz : ¬ (i : Int) < (b.lk : Int) := by omega
      have hK : Hid (M = Tr.lft m (1 + Tr.sizes t.keys)) := by
        show _ = _
        rw [hM.out, List.take_of_length_le (by rw [hlk.out]; omega)]
      clear hM
      go_wp2
      go_loopw [1, 6] (fun s1 s6 wq => ∃ (j : Nat) (N : Int), j ≤ b.li ∧ s1 = .int .i64 N ∧ s6 = .int .i64 j ∧ Hid (Below (w.alloc (.cells b.arr 26)).heap.size (w.alloc (.cells b.arr 26)) wq) ∧ Hid (N = Tr.lft m (1 + Tr.sizes t.keys + Tr.sizes (t.kids.take j)))) (fun _ j _ => b.li - (intOf j).toNat)
      case atStart => exact ⟨0, M, Nat.zero_le _, rfl, rfl, hbl, by show _ = _; rw [List.take_zero, Tr.sizes_nil, Nat.add_zero]; exact hK.out⟩
      case round =>
        obtain ⟨j, N, hjm, rfl, rfl, hbq, hN'⟩ := hrel
        clear a0 a1 a2 a3 a4 a5 a6 a7 a8
        have Qq := Q0.out.kept hbq.out Q0.out.lt
        have Bq : Hid (Below w.heap.size w _) := B0.out.trans (hbq.out.mono B0.out.size)
        obtain ⟨a0, a1, a2, a3, a4, a5, a6, a7, a8⟩ := Qq.fields
        have hNb := lft_bd (s := 1 + Tr.sizes t.keys + Tr.sizes (t.kids.take j)) hm.out.1 hm.out.2
        rw [← hN'.out] at hNb
        by_cases hjt : j < b.li
        · have hjz : (j : Int) < (b.li : Int) := by omega
          have hjx : j < t.kids.length := by rw [hli.out]; exact hjt
          by_cases hN0 : 0 ≤ N
          · have hNd : decide (0 ≤ N) = true := decide_eq_true hN0
            obtain ⟨bi, oi, ni, hai, hci, hNn2, hbi⟩ := row_el hNi.out Bq.out hjx
            obtain ⟨p0, p1, p2, p3, p4, p5, p6, p7, p8⟩ := elem_fields hci
            have k2 := ih t.kids[j] ni _ N hNn2 hN0 hNb.2
            have wj : IntKind.i64.wrap ((j : Int) + 1) = (j : Int) + 1 := by rw [IntKind.wrap_i64]; omega
            have hN2 : Hid (Tr.lft N (t.kids[j]).size = Tr.lft m (1 + Tr.sizes t.keys + Tr.sizes (t.kids.take (j + 1)))) := by
              show _ = _
              have e := hN'.out
              subst e
              rw [Tr.lft_add hN0, Tr.sizes_snoc _ hjx, Nat.add_assoc (1 + Tr.sizes t.keys)]
            generalize Tr.lft N (t.kids[j]).size = N2 at *
            clear hci hNn2 hbi hN0
            go_wp2_with (go_at_call 46; refine k2.mono ?_; rintro e w3 ⟨rfl, hb3⟩)
            try simp only [hai]
            go_roundw
            case rel => exact ⟨j + 1, N2, by omega, rfl, by go_num, hbq.out.trans (hb3.mono hbq.out.size), hN2⟩
            case measure => simp [intOf]; omega
          · have hNd : decide (0 ≤ N) = false := decide_eq_false hN0
            have hfin : Hid (N = Tr.lft m t.size) := by
              show _ = _
              have h1 : Tr.sizes t.kids = Tr.sizes (t.kids.take j) + Tr.sizes (t.kids.drop j) := by rw [← Tr.sizes_app, List.take_append_drop]
              have h2 := Tr.lft_over (m := m) (a := 1 + Tr.sizes t.keys + Tr.sizes (t.kids.take j)) (b := Tr.sizes (t.kids.drop j)) (by rw [← hN'.out]; omega) hm.out.1
              rw [hN'.out, h2.2, hsz.out, h1, ← Nat.add_assoc (1 + Tr.sizes t.keys), h2.1]
            clear hN' hN0
            go_wp2
            go_ret
            exact ⟨by rw [← hfin.out]; rfl, Bq.out⟩
        · have hjz : ¬ (j : Int) < (b.li : Int) := by omega
          have hfin : Hid (N = Tr.lft m t.size) := by
            show _ = _
            rw [hN'.out, hsz.out, List.take_of_length_le (by rw [hli.out]; omega)]
          clear hN'
          go_wp2
          go_ret
          exact ⟨by rw [← hfin.out]; rfl, Bq.out⟩
theorem left_all : ∀ D, LeftAt D := by
  intro D
  induction D with
  | zero => intro t b w m h; exact absurd h id
  | succ D ih => exact left_step ih
end Go.Proofs.YtnjbppfanmmifaaGreatDoor
namespace Go.Proofs.YtnjbppfanmmifaaGreatDoor
open Go.RowKit
set_option linter.unusedVariables false

def DeepAt (D : Nat) : Prop := ∀ (t : Tr) (b : Nb) (w : World), Nd D w b t → t.size ≤ 1000000 → Calls Tryz.prog 37 #[.agg b.arr] w fun e w' => e = .returned (.int .i64 (t.deep : Nat)) ∧ Below w.heap.size w w'
theorem deeps_le (l : List Tr) : Tr.deeps l ≤ Tr.sizes l := Tr.mx_le fun x hx => by
  obtain ⟨k, hm, rfl⟩ := List.mem_map.1 hx
  exact Nat.le_trans (Tr.deep_size k) (Tr.size_le hm)
theorem deeps_take (l : List Tr) (i : Nat) : Tr.deeps (l.take i) ≤ Tr.sizes l := Nat.le_trans (deeps_le _) (Tr.sizes_take l i)
set_option maxHeartbeats 4000000 in
set_option maxRecDepth 100000 in
theorem deep_step {D : Nat} (ih : DeepAt D) : DeepAt (D + 1) := by
  intro t b w hN hsz
  have hal := alloc_below w (.cells b.arr 26)
  have Q0 : Hid (NBox (w.alloc (.cells b.arr 26)) w.heap.size b) := nbox_new w b
  have B0 : Hid (Below w.heap.size w (w.alloc (.cells b.arr 26))) := hal
  obtain ⟨a0, a1, a2, a3, a4, a5, a6, a7, a8⟩ := (nbox_new w b).fields
  have hNk : Hid (RowN (Nd D w) w b.ak b.lk b.ck t.keys) := hN.2.2.2.1
  have hNi : Hid (RowN (Nd D w) w b.ai b.li b.ci t.kids) := hN.2.2.2.2
  have hlk : Hid (t.keys.length = b.lk) := hN.2.2.2.1.1
  have hli : Hid (t.kids.length = b.li) := hN.2.2.2.2.1
  have mk := hN.2.2.2.1.2.1.1
  have mk' := hN.2.2.2.1.2.1.2.1
  have mi := hN.2.2.2.2.2.1.1
  have mi' := hN.2.2.2.2.2.1.2.1
  unfold maxLen at mk' mi'
  have hse := Tr.size_eq t
  have hS : Hid (Tr.sizes t.keys ≤ 1000000 ∧ Tr.sizes t.kids ≤ 1000000) := ⟨by omega, by omega⟩
  have hd : Hid (t.deep = 1 + max (Tr.deeps t.keys) (Tr.deeps t.kids)) := Tr.deep_eq t
  clear hal hN hse hsz
  go_enter Tryz.func37, Tryz.ntmps37
  go_wp2
  go_loopw [3, 4] (fun s3 s4 wr => ∃ (i : Nat) (M : Nat), i ≤ b.lk ∧ s3 = .int .i64 (M : Nat) ∧ s4 = .int .i64 i ∧ Hid (Below (w.alloc (.cells b.arr 26)).heap.size (w.alloc (.cells b.arr 26)) wr) ∧ Hid (M = Tr.deeps (t.keys.take i))) (fun _ i _ => b.lk - (intOf i).toNat)
  case atStart => exact ⟨0, 0, Nat.zero_le _, rfl, rfl, Below.refl _ _, by show _ = _; rw [List.take_zero]; rfl⟩
  case round =>
    obtain ⟨i, M, him, rfl, rfl, hbl, hM⟩ := hrel
    clear a0 a1 a2 a3 a4 a5 a6 a7 a8
    have Qr := Q0.out.kept hbl.out Q0.out.lt
    have Br : Hid (Below w.heap.size w wr) := B0.out.trans (hbl.out.mono B0.out.size)
    obtain ⟨a0, a1, a2, a3, a4, a5, a6, a7, a8⟩ := Qr.fields
    have hMb : M ≤ 1000000 := by rw [hM.out]; exact Nat.le_trans (deeps_take _ _) hS.out.1
    by_cases hlt : i < b.lk
    · have hz : (i : Int) < (b.lk : Int) := by omega
      have hix : i < t.keys.length := by rw [hlk.out]; exact hlt
      obtain ⟨bk, ok, nk, hak, hck, hNn, hbk⟩ := row_el hNk.out Br.out hix
      obtain ⟨f0, f1, f2, f3, f4, f5, f6, f7, f8⟩ := elem_fields hck
      have kk := ih t.keys[i] nk wr hNn (Nat.le_trans (Tr.size_le (List.getElem_mem hix)) hS.out.1)
      have wi : IntKind.i64.wrap ((i : Int) + 1) = (i : Int) + 1 := by rw [IntKind.wrap_i64]; omega
      have hM' : Hid (max M (t.keys[i]).deep = Tr.deeps (t.keys.take (i + 1))) := by
        show _ = _
        rw [Tr.deeps_snoc _ hix, hM.out]
      generalize (t.keys[i]).deep = E at *
      clear hck hNn hbk
      by_cases hE : M < E
      · have hEz : (M : Int) < (E : Int) := by omega
        have hmx : Hid (max M E = E) := by show _ = _; omega
        clear hE
        go_wp2_with (go_at_call 37; refine kk.mono ?_; rintro e w2 ⟨rfl, hb2⟩)
        try simp only [hak]
        go_roundw
        case rel => exact ⟨i + 1, E, by omega, (by first | rfl | (congr 1; omega)), by go_num, hbl.out.trans (hb2.mono hbl.out.size), by show _ = _; rw [← hM'.out, hmx.out]⟩
        case measure => simp [intOf]; omega
      · have hEz : ¬ (M : Int) < (E : Int) := by omega
        have hmx : Hid (max M E = M) := by show _ = _; omega
        clear hE
        go_wp2_with (go_at_call 37; refine kk.mono ?_; rintro e w2 ⟨rfl, hb2⟩)
        try simp only [hak]
        go_roundw
        case rel => exact ⟨i + 1, M, by omega, (by first | rfl | (congr 1; omega)), by go_num, hbl.out.trans (hb2.mono hbl.out.size), by show _ = _; rw [← hM'.out, hmx.out]⟩
        case measure => simp [intOf]; omega
    · have hz : ¬ (i : Int) < (b.lk : Int) := by omega
      have hK : Hid (M = Tr.deeps t.keys) := by
        show _ = _
        rw [hM.out, List.take_of_length_le (by rw [hlk.out]; omega)]
      clear hM
      go_wp2
      go_loopw [3, 5] (fun s3 s5 wq => ∃ (j : Nat) (N : Nat), j ≤ b.li ∧ s3 = .int .i64 (N : Nat) ∧ s5 = .int .i64 j ∧ Hid (Below (w.alloc (.cells b.arr 26)).heap.size (w.alloc (.cells b.arr 26)) wq) ∧ Hid (N = max (Tr.deeps t.keys) (Tr.deeps (t.kids.take j)))) (fun _ j _ => b.li - (intOf j).toNat)
      case atStart => exact ⟨0, M, Nat.zero_le _, rfl, rfl, hbl, by show _ = _; rw [List.take_zero, hK.out]; exact (Nat.max_eq_left (Nat.zero_le _)).symm⟩
      case round =>
        obtain ⟨j, N, hjm, rfl, rfl, hbq, hN'⟩ := hrel
        clear a0 a1 a2 a3 a4 a5 a6 a7 a8
        have Qq := Q0.out.kept hbq.out Q0.out.lt
        have Bq : Hid (Below w.heap.size w _) := B0.out.trans (hbq.out.mono B0.out.size)
        obtain ⟨a0, a1, a2, a3, a4, a5, a6, a7, a8⟩ := Qq.fields
        have hNb : N ≤ 1000000 := by
          rw [hN'.out]
          exact Nat.max_le.2 ⟨Nat.le_trans (deeps_le _) hS.out.1, Nat.le_trans (deeps_take _ _) hS.out.2⟩
        by_cases hjt : j < b.li
        · have hjz : (j : Int) < (b.li : Int) := by omega
          have hjx : j < t.kids.length := by rw [hli.out]; exact hjt
          obtain ⟨bi, oi, ni, hai, hci, hNn2, hbi⟩ := row_el hNi.out Bq.out hjx
          obtain ⟨p0, p1, p2, p3, p4, p5, p6, p7, p8⟩ := elem_fields hci
          have k2 := ih t.kids[j] ni _ hNn2 (Nat.le_trans (Tr.size_le (List.getElem_mem hjx)) hS.out.2)
          have wj : IntKind.i64.wrap ((j : Int) + 1) = (j : Int) + 1 := by rw [IntKind.wrap_i64]; omega
          have hN2 : Hid (max N (t.kids[j]).deep = max (Tr.deeps t.keys) (Tr.deeps (t.kids.take (j + 1)))) := by
            show _ = _
            rw [Tr.deeps_snoc _ hjx, hN'.out, Nat.max_assoc]
          generalize (t.kids[j]).deep = E at *
          clear hci hNn2 hbi
          by_cases hE : N < E
          · have hEz : (N : Int) < (E : Int) := by omega
            have hmx : Hid (max N E = E) := by show _ = _; omega
            clear hE
            go_wp2_with (go_at_call 37; refine k2.mono ?_; rintro e w3 ⟨rfl, hb3⟩)
            try simp only [hai]
            go_roundw
            case rel => exact ⟨j + 1, E, by omega, (by first | rfl | (congr 1; omega)), by go_num, hbq.out.trans (hb3.mono hbq.out.size), by show _ = _; rw [← hN2.out, hmx.out]⟩
            case measure => simp [intOf]; omega
          · have hEz : ¬ (N : Int) < (E : Int) := by omega
            have hmx : Hid (max N E = N) := by show _ = _; omega
            clear hE
            go_wp2_with (go_at_call 37; refine k2.mono ?_; rintro e w3 ⟨rfl, hb3⟩)
            try simp only [hai]
            go_roundw
            case rel => exact ⟨j + 1, N, by omega, (by first | rfl | (congr 1; omega)), by go_num, hbq.out.trans (hb3.mono hbq.out.size), by show _ = _; rw [← hN2.out, hmx.out]⟩
            case measure => simp [intOf]; omega
        · have hjz : ¬ (j : Int) < (b.li : Int) := by omega
          have hfin : Hid (N + 1 = t.deep) := by
            show _ = _
            rw [hd.out, hN'.out, List.take_of_length_le (by rw [hli.out]; omega), Nat.add_comm]
          have wN : IntKind.i64.wrap ((N : Int) + 1) = (N : Int) + 1 := by rw [IntKind.wrap_i64]; omega
          clear hN'
          go_wp2
          go_ret
          exact ⟨by rw [← hfin.out]; rfl, Bq.out⟩
theorem deep_all : ∀ D, DeepAt D := by
  intro D
  induction D with
  | zero => intro t b w h; exact absurd h id
  | succ D ih => exact deep_step ih
end Go.Proofs.YtnjbppfanmmifaaGreatDoor
namespace Go.Proofs.YtnjbppfanmmifaaGreatDoor
open Go.RowKit
set_option linter.unusedVariables false
set_option maxHeartbeats 1000000 in
theorem efew_any {D : Nat} {t : Tr} {b : Nb} {w : World} (hN : Nd D w b t) : Calls Tryz.prog 32 #[.agg b.arr] w fun e w' => e = .returned (.bool (decide (t.size ≤ 1024))) ∧ Below w.heap.size w w' := by
  have hal := alloc_below w (.cells b.arr 26)
  have km := left_all D t b _ 1024 (hN.kept hal) (by omega) (by omega)
  have hB : Hid (Below w.heap.size w (w.alloc (.cells b.arr 26))) := hal
  obtain ⟨c0, c1, c2, c3, c4, c5, c6, c7, c8⟩ := (nbox_new w b).fields
  rw [← Tr.lft_few]
  generalize Tr.lft 1024 t.size = S at *
  clear hal hN
  go_enter Tryz.func32, Tryz.ntmps32
  go_wp2_with (go_at_call 46; refine km.mono ?_; rintro e w1 ⟨rfl, hb⟩)
  go_ret
  exact ⟨rfl, hB.out.trans (hb.mono hB.out.size)⟩
set_option maxHeartbeats 2000000 in
theorem esame_any {D E : Nat} {t u : Tr} {a b : Nb} {w : World} {v : Bool} (hA : Nd D w a t) (hB : Nd E w b u) (hv : v = true ↔ t.size ≤ 1024 ∧ u.size ≤ 1024 ∧ t = u) : Calls Tryz.prog 19 #[.agg a.arr, .agg b.arr] w fun e w' => e = .returned (.bool v) ∧ Below w.heap.size w w' := by
  have hal := alloc_below w (.cells a.arr 26)
  have hal2 := alloc_below (w.alloc (.cells a.arr 26)) (.cells b.arr 26)
  have hb2 : Hid (Below w.heap.size w ((w.alloc (.cells a.arr 26)).alloc (.cells b.arr 26))) := hal.trans (hal2.mono hal.size)
  have hs2 : Hid (w.heap.size ≤ ((w.alloc (.cells a.arr 26)).alloc (.cells b.arr 26)).heap.size) := Nat.le_trans hal.size hal2.size
  have boxA := (nbox_new w a).kept hal2 (by simp)
  have boxB := nbox_new (w.alloc (.cells a.arr 26)) b
  have s1 : (w.alloc (.cells a.arr 26)).heap.size = w.heap.size + 1 := by simp
  rw [s1] at boxB
  obtain ⟨a0, a1, a2, a3, a4, a5, a6, a7, a8⟩ := boxA.fields
  obtain ⟨b0, b1, b2, b3, b4, b5, b6, b7, b8⟩ := boxB.fields
  have hKa : Hid (NBox ((w.alloc (.cells a.arr 26)).alloc (.cells b.arr 26)) w.heap.size a) := boxA
  have hKb : Hid (NBox ((w.alloc (.cells a.arr 26)).alloc (.cells b.arr 26)) (w.heap.size + 1) b) := boxB
  have hsz : Hid (w.heap.size + 1 < ((w.alloc (.cells a.arr 26)).alloc (.cells b.arr 26)).heap.size) := by show _ < _; simp
  have kA : Hid (∀ w', Below w.heap.size w w' → Calls Tryz.prog 32 #[.agg a.arr] w' _) := fun w' h => efew_any (hA.kept h)
  have kB : Hid (∀ w', Below w.heap.size w w' → Calls Tryz.prog 32 #[.agg b.arr] w' _) := fun w' h => efew_any (hB.kept h)
  have k1 := kA.out _ hb2.out
  have kS : Hid (∀ (v' : Bool), (v' = true ↔ t = u) → ∀ w', Below w.heap.size w w' → Calls Tryz.prog 33 #[.agg a.arr, .agg b.arr] w' _) := fun v' h w' hb => esam_any (hA.kept hb) (hB.kept hb) h
  have hV : Hid (v = true ↔ t.size ≤ 1024 ∧ u.size ≤ 1024 ∧ t = u) := hv
  clear hal hal2 boxA boxB s1 hv hA hB
  by_cases hf : t.size ≤ 1024
  · rw [decide_eq_true hf] at k1
    by_cases hg : u.size ≤ 1024
    · rw [show decide (u.size ≤ 1024) = true from decide_eq_true hg] at kB
      have hv : v = true ↔ t = u := ⟨fun h => (hV.out.1 h).2.2, fun h => hV.out.2 ⟨hf, hg, h⟩⟩
      have kS' := kS.out v hv
      clear hf hg hv kS
      go_enter Tryz.func19, Tryz.ntmps19
      go_wp2_with (first
        | (go_at_call 32; refine k1.mono ?_; rintro e w1 ⟨rfl, hb1⟩; clear k1; have hbw := hb2.out.trans (hb1.mono hs2.out); have q2 := hKb.out.kept hb1 hsz.out; have q1 := hKa.out.kept hb1 (Nat.lt_of_le_of_lt (Nat.le_succ _) hsz.out); obtain ⟨c0, c1, c2, c3, c4, c5, c6, c7, c8⟩ := q1.fields; obtain ⟨d0, d1, d2, d3, d4, d5, d6, d7, d8⟩ := q2.fields; have k2 := kB.out w1 hbw)
        | (go_at_call 32; refine k2.mono ?_; rintro e w2 ⟨rfl, hb3⟩; clear k2; have hbw2 := hbw.trans (hb3.mono hbw.size); obtain ⟨g0, g1, g2, g3, g4, g5, g6, g7, g8⟩ := (q1.kept hb3 q1.lt).fields; obtain ⟨h0, h1, h2, h3, h4, h5, h6, h7, h8⟩ := (q2.kept hb3 q2.lt).fields; have k3 := kS' w2 hbw2)
        | (go_at_call 33; refine k3.mono ?_; rintro e w3 ⟨rfl, hb4⟩))
      go_ret
      exact ⟨rfl, hbw2.trans (hb4.mono hbw2.size)⟩
    · rw [show decide (u.size ≤ 1024) = false from decide_eq_false hg] at kB
      have hv : v = false := not_true hV.out fun h => hg h.2.1
      subst hv
      clear hf hg kS
      go_enter Tryz.func19, Tryz.ntmps19
      go_wp2_with (first
        | (go_at_call 32; refine k1.mono ?_; rintro e w1 ⟨rfl, hb1⟩; clear k1; have hbw := hb2.out.trans (hb1.mono hs2.out); have q2 := hKb.out.kept hb1 hsz.out; obtain ⟨d0, d1, d2, d3, d4, d5, d6, d7, d8⟩ := q2.fields; have k2 := kB.out w1 hbw)
        | (go_at_call 32; refine k2.mono ?_; rintro e w2 ⟨rfl, hb3⟩))
      go_ret
      exact ⟨rfl, hbw.trans (hb3.mono hbw.size)⟩
  · rw [decide_eq_false hf] at k1
    have hv : v = false := not_true hV.out fun h => hf h.1
    subst hv
    clear hf kS kB
    go_enter Tryz.func19, Tryz.ntmps19
    go_wp2_with (go_at_call 32; refine k1.mono ?_; rintro e w1 ⟨rfl, hb1⟩)
    go_ret
    exact ⟨rfl, hb2.out.trans (hb1.mono hs2.out)⟩

end Go.Proofs.YtnjbppfanmmifaaGreatDoor
