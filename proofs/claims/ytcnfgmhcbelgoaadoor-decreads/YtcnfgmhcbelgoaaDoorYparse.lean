/-
  The document's side: a number is read.
-/
import Derived.Test.YtcnfgmhcbelgoaaDoorYdigs
import Derived.Test.YtcnfgmhcbelgoaaDoorRsame
import Derived.Test.YtcnfgmhcbelgoaaDoorParse
import Derived.Deep.DeepCutAuto
namespace Go.Proofs.YtcnfgmhcbelgoaaDoor
open Go.RowKit

/-! ### Where the reader stands -/
theorem is_lt {l : List Int} {st : St} {c : Int} (h : isR l st c = true) : st.1 < l.length := by
  unfold isR at h
  simp at h
  exact h.2.1
theorem on_le {l : List Int} {st : St} {c : Int} (h : isR l st c = true) : (onR st).1 ≤ l.length := is_lt h
theorem may_le {l : List Int} {st : St} {c : Int} (h : st.1 ≤ l.length) : (mayR l st c).1 ≤ l.length := by
  unfold mayR
  split
  · rename_i h1; exact on_le h1
  · exact h
theorem wrong_place (l : List Int) (st : St) : (wrongR l st).1 = st.1 := by
  unfold wrongR
  split
  · split <;> rfl
  · rfl
theorem span_le {l : List Int} {st : St} (h : st.1 ≤ l.length) : st.1 + (spanR l st).length ≤ l.length := by
  unfold spanR
  split
  · have h1 := (List.takeWhile_sublist isD (l := l.drop st.1)).length_le
    rw [List.length_drop] at h1
    omega
  · simpa using h
theorem dig_le {l : List Int} {st : St} (h : st.1 ≤ l.length) : (digR l st).2.1 ≤ l.length ∧ (digR l st).1.length ≤ l.length := by
  unfold digR
  split
  · exact ⟨by show (wrongR l st).1 ≤ _; rw [wrong_place]; exact h, by simp⟩
  · have := span_le h
    exact ⟨this, by show (spanR l st).length ≤ _; omega⟩
theorem dig_digs (l : List Int) (st : St) : Digs (digR l st).1 := by
  unfold digR
  split
  · intro c hc; cases hc
  · show Digs (spanR l st)
    unfold spanR
    split
    · intro c hc
      have hall : ∀ (q : List Int) (x : Int), x ∈ q.takeWhile isD → isD x = true := by
        intro q
        induction q with
        | nil => intro x hx; cases hx
        | cons y q ih =>
          intro x hx
          by_cases hy : isD y = true
          · rw [List.takeWhile_cons_of_pos hy] at hx
            rcases List.mem_cons.1 hx with h | h
            · rw [h]; exact hy
            · exact ih x h
          · rw [List.takeWhile_cons_of_neg hy] at hx
            cases hx
      exact isD_iff.1 (hall _ _ hc)
    · intro c hc; cases hc
theorem whole_le {l : List Int} {st : St} (h : st.1 ≤ l.length) : (wholeR l st).2.1 ≤ l.length ∧ (wholeR l st).1.length ≤ l.length ∧ Digs (wholeR l st).1 := by
  unfold wholeR
  split
  · rename_i h1
    have := is_lt h1
    exact ⟨this, by show 1 ≤ _; omega, fun c hc => by simp at hc; omega⟩
  · exact ⟨(dig_le h).1, (dig_le h).2, dig_digs l st⟩
theorem part_le {l : List Int} {st : St} (h : st.1 ≤ l.length) : (partR l st).2.1 ≤ l.length ∧ (partR l st).1.length ≤ l.length ∧ Digs (partR l st).1 := by
  unfold partR
  split
  · rename_i h1
    have h2 := on_le h1
    exact ⟨(dig_le h2).1, (dig_le h2).2, dig_digs l _⟩
  · exact ⟨h, by simp, fun c hc => by cases hc⟩
theorem sign_le {l : List Int} {st : St} (h : st.1 ≤ l.length) : (signR l st).1 ≤ l.length := by
  unfold signR
  split
  · rename_i h1
    rcases h1 with h1 | h1
    · exact on_le h1
    · exact on_le h1
  · exact h
theorem exp_le {l : List Int} {st : St} (h : st.1 ≤ l.length) : (expR l st).2.1 ≤ l.length ∧ -1000000 ≤ (expR l st).1 ∧ (expR l st).1 ≤ 1000000 := by
  unfold expR
  split
  · rename_i h1
    have h2 : (onR st).1 ≤ l.length := by
      rcases h1 with h1 | h1
      · exact on_le h1
      · exact on_le h1
    have h3 := powY_le (digR l (signR l (onR st))).1
    refine ⟨(dig_le (sign_le h2)).1, ?_⟩
    dsimp only
    split <;> omega
  · exact ⟨h, by show (-1000000 : Int) ≤ 0; decide, by show (0 : Int) ≤ 1000000; decide⟩
theorem str_cat {a b : List Int} : strOfNums (a ++ b) = strOfNums a ++ strOfNums b := by
  unfold strOfNums
  rw [List.map_append]
  apply ByteArray.ext
  simp

/-- What the document's Parse has in memory: its two results, the reader. -/
def PS (w wx : World) (s : ByteArray) (st : St) : Prop := NRow wx w.heap.size false noS 0 ∧ FRow wx (w.heap.size + 1) 0 0 ∧ RAt wx (w.heap.size + 2) s st ∧ Below w.heap.size w wx
theorem PS.on {w wx w' : World} {s : ByteArray} {st st' : St} (h : PS w wx s st) (hr : RAt w' (w.heap.size + 2) s st') (hb : Below (w.heap.size + 2) wx w') : PS w w' s st' :=
  ⟨h.1.keep hb (by omega), h.2.1.keep hb (by omega), hr, h.2.2.2.trans (hb.mono (by omega))⟩
theorem PS.goes {w wx : World} {s : ByteArray} {k : Nat} {y f : Int} (h : PS w wx s (k, y, f)) (k' : Nat) : PS w (wx.setCell ⟨w.heap.size + 2, 1, none⟩ (.int .i64 ((k' : Nat) : Int))) s (k', y, f) := h.on (h.2.2.1.goes k') (bset (Below.refl _ _) 1 _)
theorem PS.drawn {w wx : World} {s : ByteArray} {st : St} (h : PS w wx s st) (q : Nat) : PS w (wx.drewN q) s st := ⟨h.1, h.2.1, h.2.2.1, bdrew h.2.2.2 q⟩
theorem ps0 (w : World) (s : ByteArray) : PS w (((w.alloc (.cells #[.bool false, .string ⟨#[]⟩, .int .i64 0] 23)).alloc (.cells #[.int .i64 0, .int .i64 0] 32)).alloc (.cells #[.string s, .int .i64 0, .int .i64 0, .int .i64 0] 57)) s st0 := by
  have a1 := alloc_below w (.cells #[.bool false, .string ⟨#[]⟩, .int .i64 0] 23)
  have h1 := row_new w false ⟨#[]⟩ 0
  generalize hw1 : w.alloc (.cells #[.bool false, .string ⟨#[]⟩, .int .i64 0] 23) = w1 at *
  have s1 : w1.heap.size = w.heap.size + 1 := by rw [← hw1]; simp
  have a2 := alloc_below w1 (.cells #[.int .i64 0, .int .i64 0] 32)
  have h2 : FRow (w1.alloc (.cells #[.int .i64 0, .int .i64 0] 32)) (w.heap.size + 1) 0 0 := by rw [← s1]; exact heap_alloc_new w1 _
  generalize hw2 : w1.alloc (.cells #[.int .i64 0, .int .i64 0] 32) = w2 at *
  have s2 : w2.heap.size = w.heap.size + 2 := by rw [← hw2]; simp; omega
  have a3 := alloc_below w2 (.cells #[.string s, .int .i64 0, .int .i64 0, .int .i64 0] 57)
  have h3 : RAt (w2.alloc (.cells #[.string s, .int .i64 0, .int .i64 0, .int .i64 0] 57)) (w.heap.size + 2) s st0 := by rw [← s2]; exact heap_alloc_new w2 _
  exact ⟨(h1.keep a2 (by omega)).keep a3 (by omega), h2.keep a3 (by omega), h3, a1.trans ((a2.mono (by omega)).trans (a3.mono (by omega)))⟩
/-! ### The methods, on what Parse has in memory -/
theorem may_ps {w wx : World} {s : ByteArray} {st : St} (h : PS w wx s st) (c : Int) (hk : st.1 ≤ (bs s).length) (hs : s.size ≤ 4096) : Calls Tryd.prog 32 #[.pointer (some ⟨w.heap.size + 2, 0, none⟩), .int .u8 c] wx fun e w' => e = .returned (.bool (isR (bs s) st c)) ∧ PS w w' s (mayR (bs s) st c) := by
  obtain ⟨k, y, f⟩ := st
  have hl := bs_len s
  have hk' : k ≤ (bs s).length := hk
  refine (ymay_any (w.heap.size + 2) s k y f c wx h.2.2.1 (by omega)).mono ?_
  rintro e w' ⟨h1, h2, h3⟩
  exact ⟨h1, h.on h2 h3⟩
theorem dig_ps {w wx : World} {s : ByteArray} {st : St} (h : PS w wx s st) (hk : st.1 ≤ (bs s).length) (hs : s.size ≤ 4096) : Calls Tryd.prog 33 #[.pointer (some ⟨w.heap.size + 2, 0, none⟩)] wx fun e w' => e = .returned (.string (strOfNums (digR (bs s) st).1)) ∧ PS w w' s (digR (bs s) st).2 := by
  obtain ⟨k, y, f⟩ := st
  have hl := bs_len s
  have hk' : k ≤ (bs s).length := hk
  refine (ydig_any (w.heap.size + 2) s k y f wx h.2.2.1 (by omega) hs).mono ?_
  rintro e w' ⟨h1, h2, h3⟩
  exact ⟨h1, h.on h2 h3⟩
theorem is_ps {w wx : World} {s : ByteArray} {st : St} (h : PS w wx s st) (c : Int) : Calls Tryd.prog 34 #[.pointer (some ⟨w.heap.size + 2, 0, none⟩), .int .u8 c] wx fun e w' => e = .returned (.bool (isR (bs s) st c)) ∧ PS w w' s st := by
  obtain ⟨k, y, f⟩ := st
  refine (yis_any (w.heap.size + 2) s k y f c wx h.2.2.1).mono ?_
  rintro e w' ⟨h1, q, hw⟩
  rw [hw]
  exact ⟨h1, h.drawn q⟩
theorem wrong_ps {w wx : World} {s : ByteArray} {st : St} (h : PS w wx s st) : Calls Tryd.prog 36 #[.pointer (some ⟨w.heap.size + 2, 0, none⟩)] wx fun e w' => (∃ u, e = .returned u) ∧ PS w w' s (wrongR (bs s) st) := by
  obtain ⟨k, y, f⟩ := st
  refine (ywrong_any (w.heap.size + 2) s k y f wx h.2.2.1).mono ?_
  rintro e w' ⟨h1, h2, h3⟩
  exact ⟨h1, h.on h2 h3⟩
theorem ok_ps {w wx : World} {s : ByteArray} {st : St} (h : PS w wx s st) : Calls Tryd.prog 37 #[.pointer (some ⟨w.heap.size + 2, 0, none⟩)] wx fun e w' => e = .returned (.bool (st.2.1 == 0)) ∧ w' = wx := yok_any _ s st wx h.2.2.1
end Go.Proofs.YtcnfgmhcbelgoaaDoor
