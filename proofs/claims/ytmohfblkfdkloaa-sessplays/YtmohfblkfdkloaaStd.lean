/-
  The document's goes, Close and Hear.
-/
import Derived.Test.YtmohfblkfdkloaaStc
namespace Go.Proofs.Ytmohfblkfdkloaa
open Go.RowKit
set_option linter.unusedVariables false
theorem erase_filter {L : List Se} (hn : (L.map Se.t).Nodup) {i : Nat} {s : Se} (hi : L[i]? = some s) : L.take i ++ L.drop (i + 1) = L.filter (fun x => !(x.t == s.t)) := by
  induction L generalizing i with
  | nil => simp at hi
  | cons y L ih =>
    rw [List.map_cons, List.nodup_cons] at hn
    cases i with
    | zero =>
      simp at hi
      subst hi
      have : L.filter (fun x => !(x.t == y.t)) = L := by
        rw [List.filter_eq_self]
        intro x hx
        simp
        intro e
        exact hn.1 (List.mem_map.2 ⟨x, hx, e⟩)
      simp [this]
    | succ i =>
      have hi' : L[i]? = some s := by simpa using hi
      have hy : (y.t == s.t) = false := by
        simp
        intro e
        exact hn.1 (List.mem_map.2 ⟨s, List.mem_of_getElem? hi', e.symm⟩)
      rw [List.take_succ_cons, List.drop_succ_cons, List.cons_append, ih hn.2 hi', List.filter_cons]
      simp [hy]
theorem sCs_drop (L : List Se) (k : Nat) : sCs (L.drop k) = (sCs L).drop (k * 4) := by
  induction k generalizing L with
  | zero => simp
  | succ k ih =>
    cases L with
    | nil => simp [sCs]
    | cons s L =>
      have e : sCs (s :: L) = s.cs ++ sCs L := rfl
      rw [List.drop_succ_cons, ih, e, show (k + 1) * 4 = s.cs.length + k * 4 by simp [Se.cs]; omega, List.drop_length_add_append]
theorem sCs_take (L : List Se) (k : Nat) : sCs (L.take k) = (sCs L).take (k * 4) := by
  induction k generalizing L with
  | zero => simp [sCs]
  | succ k ih =>
    cases L with
    | nil => simp [sCs]
    | cons s L =>
      have e : sCs (s :: L) = s.cs ++ sCs L := rfl
      rw [List.take_succ_cons, e, show sCs (s :: L.take k) = s.cs ++ sCs (L.take k) from rfl, ih, show (k + 1) * 4 = s.cs.length + k * 4 by simp [Se.cs]; omega, List.take_length_add_append]
theorem ownsX_len {w : World} {base n c : Nat} {a : Option Addr} {L : List Se} (h : OwnsX w base (.slice a L.length c) L) (hn : L.length = n) : OwnsX w base (.slice a n c) L := by subst hn; exact h
set_option maxHeartbeats 2000000 in
theorem xgoes_any {w : World} {E : Nat → Prop} {rb : Nat} {v u : Value} {R : Tb} {us : List Int} {i : Nat} {s : Se} (h : RTab w E rb v u R us) (hL : R.L.length ≤ 64) (hi : R.L[i]? = some s) (hE : ∀ q, w.heap.size ≤ q → E q) :
    Calls Try.prog 34 #[.pointer (some ⟨rb, 0, none⟩), .int .i64 (i : Nat)] w fun e w' => e = .returned (.tuple #[]) ∧ ∃ v2, Hid (RTab w' E rb v2 u { R with L := R.L.take i ++ R.L.drop (i + 1) } us) ∧ Hid (KS (fun k => k = rb) w w') := by
  have hil : i < R.L.length := (List.getElem?_eq_some_iff.1 hi).1
  obtain ⟨g, c, rfl, hg, hEg, hgr, hfz, hcell⟩ := h.cells hi
  obtain ⟨_, _, e9, h1, h2, _⟩ := h.form
  cases e9
  have hsr := h.src rfl
  have c3 := h.c3
  have f3 := h.blk.fz 3
  have hH : Hid (RTab w E rb (.slice (some ⟨g, 0, none⟩) R.L.length c) u R us) := h
  have hEE : Hid (∀ q, w.heap.size ≤ q → E q) := hE
  have hrl : Hid (rb < w.heap.size) := h.blk.lt
  obtain ⟨-, hsr⟩ := hsr
  have hcs : ∀ j x, (sCs R.L)[j]? = some x → w.cell? ⟨g, j, none⟩ = some x := by
    rcases hsr with ⟨h0, _⟩ | ⟨ad, e, hc⟩
    · omega
    · cases e
      intro j x hx
      have := hc j x hx
      rwa [addr_add0] at this
  have hs1 : Hid (SrcX w (some ⟨g, 0, none⟩) i c (R.L.take i)) := by
    refine ⟨by rw [List.length_take]; omega, .inr ⟨_, rfl, fun j x hx => ?_⟩⟩
    rw [addr_add0]
    rw [sCs_take, List.getElem?_take] at hx
    split at hx
    · exact hcs j x hx
    · cases hx
  have hs2 : ∀ c', Hid (SrcX w (some ⟨g, (i + 1) * 4, none⟩) (R.L.length - (i + 1)) c' (R.L.drop (i + 1))) := fun c' => by
    refine ⟨by rw [List.length_drop], .inr ⟨_, rfl, fun j x hx => ?_⟩⟩
    rw [sCs_drop, List.getElem?_drop] at hx
    have e : (⟨g, (i + 1) * 4, none⟩ : Addr).add j = ⟨g, (i + 1) * 4 + j, none⟩ := by
      unfold Addr.add
      split
      · rename_i hz; rw [hz]; rfl
      · rfl
    rw [e]
    exact hcs _ x hx
  have hs3 : ∀ a c', R.L.length - (i + 1) = 0 → Hid (SrcX w (some a) 0 c' (R.L.drop (i + 1))) := fun a c' h0 => by
    have : R.L.drop (i + 1) = [] := List.drop_eq_nil_of_le (by omega)
    rw [this]
    exact ⟨rfl, .inr ⟨_, rfl, fun j x hx => by simp [sCs] at hx⟩⟩
  have q1 : (0 : Int) ≤ (i : Int) := by omega
  have q2 : (i : Int) < ((R.L.length : Nat) : Int) := by omega
  have q3 : (i : Int) ≤ ((R.L.length : Nat) : Int) := by omega
  have q4 : (i : Int) + 1 ≤ ((R.L.length : Nat) : Int) := by omega
  have wi : IntKind.i64.wrap ((i : Int) + 1) = (i : Int) + 1 := by rw [IntKind.wrap_i64]; omega
  have hl64 : Hid (R.L.length ≤ 64) := hL
  clear h hcell hi hE hsr hcs
  have q5 : i ≤ c := by omega
  have q6 : i + 1 ≤ R.L.length := by omega
  have q7 : i ≤ R.L.length := by omega
  have q8 : (0 : Int) ≤ (i : Int) + 1 := by omega
  have q9 : (i : Int) ≤ (i : Int) + 1 := by omega
  have le1 : Hid ((R.L.take i ++ R.L.drop (i + 1)).length = i + (R.L.length - (i + 1))) := by show _ = _; rw [List.length_append, List.length_take, List.length_drop]; omega
  have le2 : Hid (R.L.length = i + 1 → (R.L.take i ++ R.L.drop (i + 1)).length = i) := fun e => by rw [List.length_append, List.length_take, List.length_drop]; omega
  have htl : Hid ((R.L.take i).length = i) := by show _ = _; rw [List.length_take]; omega
  have hln : ∀ v', OwnsX w w.heap.size v' (R.L.take i ++ R.L.drop (i + 1)) → True := fun _ _ => trivial
  have fin : Hid (∀ (w4 w5 : World) (a5 : Option Addr) (c5 : Nat), Below w.heap.size w w5 → OwnsX w5 w.heap.size (.slice a5 (R.L.take i ++ R.L.drop (i + 1)).length c5) (R.L.take i ++ R.L.drop (i + 1)) →
      RTab (w5.setCell ⟨rb, 3, none⟩ (.slice a5 (R.L.take i ++ R.L.drop (i + 1)).length c5)) E rb (.slice a5 (R.L.take i ++ R.L.drop (i + 1)).length c5) u { R with L := R.L.take i ++ R.L.drop (i + 1) } us ∧ KS (fun k => k = rb) w (w5.setCell ⟨rb, 3, none⟩ (.slice a5 (R.L.take i ++ R.L.drop (i + 1)).length c5))) := fun w4 w5 a5 c5 hB hO => by
    have h0 := hH.out.kept hB
    have hk : ∀ q, q ≠ rb → (w5.setCell ⟨rb, 3, none⟩ (.slice a5 (R.L.take i ++ R.L.drop (i + 1)).length c5)).heap[q]? = w5.heap[q]? := fun q hq => Below.heap_setCell _ _ _ _ hq
    refine ⟨⟨h0.blk.set 3 _, ?_, ?_, fun q hq => ?_, h0.ou, h0.er, h0.mem, h0.cnt⟩, (KS.of_below hB).trans (KS.set (C := fun k => k = rb) _ rb 3 rfl _)⟩
    · exact ownsRow_base (ownsRow_keep hO fun b cur h1 h2 h3 => hk b (fun e => by have := hrl.out; omega)) (Nat.zero_le _)
    · refine ownsRow_keep h0.urow fun b cur h1 h2 h3 => hk b (fun e2 => ?_)
      subst e2
      have e4 := h0.blk
      unfold Blk at e4
      rw [h3] at e4
      injection e4 with e4
      injection e4 with _ e4
      exact absurd e4 (by decide)
    · exact hEE.out q (ownsRow_lt hO q hq).1
  clear hln
  by_cases hc1 : c = i + 1
  · have hn1 : R.L.length = i + 1 := by omega
    have hs4 : Hid (SrcX w (some ⟨g, 0, none⟩) 0 0 (R.L.drop (i + 1))) := hs3 _ _ (by omega)
    clear hs2 hs3
    subst hc1
    go_enter Try.func34, Try.ntmps34
    go_wp2
    go_region_law (first
      | (refine step_app_x (by rfl) _ _ (by rfl) w.heap.size (.slice none 0 0) [] (R.L.take i) (by rfl) _ _ _ (by rfl) (ownsX_nil _ _) (hs1.out.kept (by repeat' with_reducible first | exact Below.refl _ _ | refine Below.drew ?_ | refine Below.drN ?_ _ | refine Below.al ?_ _)) (by have := hl64.out; simp; omega) (Below.size (B := w.heap.size) (w := w) (by repeat' with_reducible first | exact Below.refl _ _ | refine Below.drew ?_ | refine Below.drN ?_ _ | refine Below.al ?_ _)) ?_; intro v4 w4 hO4 hg4; rw [List.nil_append] at hO4; obtain ⟨a4, c4', rfl, _, _, _⟩ := ownsRow_form hO4; have hB4 : Hid (Below w.heap.size w w4) := (Below.grown (by repeat' with_reducible first | exact Below.refl _ _ | refine Below.drew ?_ | refine Below.drN ?_ _ | refine Below.al ?_ _) hg4 (Below.size (B := w.heap.size) (w := w) (by repeat' with_reducible first | exact Below.refl _ _ | refine Below.drew ?_ | refine Below.drN ?_ _ | refine Below.al ?_ _)) (by simp [Value.ownBlock])); have hO4' : Hid (OwnsX w4 w.heap.size (.slice a4 i c4') (R.L.take i)) := ownsX_len hO4 htl.out; have c34 : w4.cell? ⟨rb, 3, none⟩ = some (.slice (some ⟨g, 0, none⟩) R.L.length _) := (hB4.out.cell (p := ⟨rb, 3, none⟩) hrl.out).trans c3; clear hO4 hg4)
      | (refine step_app_x (by rfl) _ _ (by rfl) w.heap.size (.slice a4 i c4') (R.L.take i) (R.L.drop (i + 1)) (by rfl) _ _ _ (by rfl) hO4'.out (hs4.out.kept hB4.out) (by have := hl64.out; simp; omega) hB4.out.size ?_; intro v5 w5 hO5 hg5; obtain ⟨a5, c5, rfl, _, _, _⟩ := ownsRow_form hO5; have hB5 : Hid (Below w.heap.size w w5) := own_below hB4.out hO4'.out hg5 hB4.out.size; have hO5 : Hid (OwnsX w5 w.heap.size (.slice a5 (R.L.take i ++ R.L.drop (i + 1)).length c5) (R.L.take i ++ R.L.drop (i + 1))) := hO5; have c35 : w5.cell? ⟨rb, 3, none⟩ = some (.slice (some ⟨g, 0, none⟩) R.L.length _) := (hB5.out.cell (p := ⟨rb, 3, none⟩) hrl.out).trans c3; have f35 : w5.frozen? ⟨rb, 3, none⟩ = false := (hB5.out.frozen (p := ⟨rb, 3, none⟩) hrl.out).trans f3; clear hg5))
    all_goals (
      refine bodyPost_end (results_none rfl _ _ _) rfl ?_
      have f12 := fin.out w4 w5 a5 c5 hB5.out hO5.out
      first
        | exact ⟨rfl, _, f12.1, f12.2⟩
        | (rw [le1.out] at f12; exact ⟨rfl, _, f12.1, f12.2⟩)
        | (rw [le2.out hn1] at f12; exact ⟨rfl, _, f12.1, f12.2⟩))
  · have hc2 : ¬ ((c : Int) = (i : Int) + 1) := by omega
    have hs4 := hs2 (c - (i + 1))
    clear hs2 hs3
    go_enter Try.func34, Try.ntmps34
    go_wp2
    go_region_law (first
      | (refine step_app_x (by rfl) _ _ (by rfl) w.heap.size (.slice none 0 0) [] (R.L.take i) (by rfl) _ _ _ (by rfl) (ownsX_nil _ _) (hs1.out.kept (by repeat' with_reducible first | exact Below.refl _ _ | refine Below.drew ?_ | refine Below.drN ?_ _ | refine Below.al ?_ _)) (by have := hl64.out; simp; omega) (Below.size (B := w.heap.size) (w := w) (by repeat' with_reducible first | exact Below.refl _ _ | refine Below.drew ?_ | refine Below.drN ?_ _ | refine Below.al ?_ _)) ?_; intro v4 w4 hO4 hg4; rw [List.nil_append] at hO4; obtain ⟨a4, c4', rfl, _, _, _⟩ := ownsRow_form hO4; have hB4 : Hid (Below w.heap.size w w4) := (Below.grown (by repeat' with_reducible first | exact Below.refl _ _ | refine Below.drew ?_ | refine Below.drN ?_ _ | refine Below.al ?_ _) hg4 (Below.size (B := w.heap.size) (w := w) (by repeat' with_reducible first | exact Below.refl _ _ | refine Below.drew ?_ | refine Below.drN ?_ _ | refine Below.al ?_ _)) (by simp [Value.ownBlock])); have hO4' : Hid (OwnsX w4 w.heap.size (.slice a4 i c4') (R.L.take i)) := ownsX_len hO4 htl.out; have c34 : w4.cell? ⟨rb, 3, none⟩ = some (.slice (some ⟨g, 0, none⟩) R.L.length _) := (hB4.out.cell (p := ⟨rb, 3, none⟩) hrl.out).trans c3; clear hO4 hg4)
      | (refine step_app_x (by rfl) _ _ (by rfl) w.heap.size (.slice a4 i c4') (R.L.take i) (R.L.drop (i + 1)) (by rfl) _ _ _ (by rfl) hO4'.out (hs4.out.kept hB4.out) (by have := hl64.out; simp; omega) hB4.out.size ?_; intro v5 w5 hO5 hg5; obtain ⟨a5, c5, rfl, _, _, _⟩ := ownsRow_form hO5; have hB5 : Hid (Below w.heap.size w w5) := own_below hB4.out hO4'.out hg5 hB4.out.size; have hO5 : Hid (OwnsX w5 w.heap.size (.slice a5 (R.L.take i ++ R.L.drop (i + 1)).length c5) (R.L.take i ++ R.L.drop (i + 1))) := hO5; have c35 : w5.cell? ⟨rb, 3, none⟩ = some (.slice (some ⟨g, 0, none⟩) R.L.length _) := (hB5.out.cell (p := ⟨rb, 3, none⟩) hrl.out).trans c3; have f35 : w5.frozen? ⟨rb, 3, none⟩ = false := (hB5.out.frozen (p := ⟨rb, 3, none⟩) hrl.out).trans f3; clear hg5))
    all_goals (
      refine bodyPost_end (results_none rfl _ _ _) rfl ?_
      have f12 := fin.out w4 w5 a5 c5 hB5.out hO5.out
      first
        | exact ⟨rfl, _, f12.1, f12.2⟩
        | (rw [le1.out] at f12; exact ⟨rfl, _, f12.1, f12.2⟩)
        | (rw [le2.out hn1] at f12; exact ⟨rfl, _, f12.1, f12.2⟩))
end Go.Proofs.Ytmohfblkfdkloaa
