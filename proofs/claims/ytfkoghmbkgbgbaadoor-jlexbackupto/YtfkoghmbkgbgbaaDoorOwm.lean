/-
  Bytes of a string, laid down and appended to: rows that bear a mark behind their end.
-/
import Derived.Test.YtfkoghmbkgbgbaaDoorNum
import Derived.ArgAppend
import Derived.Lib.ConvBytes
namespace Go.Proofs.YtfkoghmbkgbgbaaDoor
open Go.RowKit

/-- Bytes in a row of the call's own, whose cells may all be written. -/
def OwnsM (w : World) (base : Nat) (v : Value) (zs : List Int) : Prop := (∀ c ∈ zs, 0 ≤ c ∧ c < 256) ∧ ∃ g cap, v = .slice (some ⟨g, 0, none⟩) zs.length cap ∧ base ≤ g ∧ g < w.heap.size ∧ zs.length ≤ cap ∧ cap ≤ maxLen ∧
  (∀ j, j < cap → (w.cell? ⟨g, j, none⟩).isSome = true ∧ w.frozen? ⟨g, j, none⟩ = false) ∧ ∀ j, j < zs.length → w.cell? ⟨g, j, none⟩ = some (.int .u8 (zs.getD j 0))
theorem OwnsM.below {w w' : World} {base : Nat} {v : Value} {zs : List Int} (h : OwnsM w base v zs) (hb : Below w.heap.size w w') : OwnsM w' base v zs := by
  obtain ⟨h0, g, cap, rfl, h1, h2, h3, h4, h5, h6⟩ := h
  have hc : ∀ j, w'.cell? ⟨g, j, none⟩ = w.cell? ⟨g, j, none⟩ := fun j => hb.cell (p := ⟨g, j, none⟩) h2
  have hf : ∀ j, w'.frozen? ⟨g, j, none⟩ = w.frozen? ⟨g, j, none⟩ := fun j => by
    unfold World.frozen?
    show (match w'.heap[g]? with | _ => _) = _
    rw [hb.block g h2]
  exact ⟨h0, g, cap, rfl, h1, Nat.lt_of_lt_of_le h2 hb.size, h3, h4, fun j hj => ⟨by rw [hc]; exact (h5 j hj).1, by rw [hf]; exact (h5 j hj).2⟩, fun j hj => by rw [hc]; exact h6 j hj⟩
theorem OwnsM.form {w : World} {base : Nat} {v : Value} {zs : List Int} (h : OwnsM w base v zs) : ∃ g n cap, v = .slice (some ⟨g, 0, none⟩) n cap ∧ Hid (zs.length = n) ∧ n ≤ cap ∧ cap ≤ 9223372036854775807 ∧ Hid (Bytes w (some ⟨g, 0, none⟩) zs) := by
  obtain ⟨h0, g, cap, rfl, h1, h2, h3, h4, h5, h6⟩ := h
  refine ⟨g, zs.length, cap, rfl, rfl, h3, by simpa [maxLen] using h4, ?_⟩
  exact ⟨h0, by omega, .inr ⟨g, 0, rfl, fun i hi => by rw [Nat.zero_add]; exact h6 i hi⟩⟩
theorem getD_cat {ys : List Int} {c : Int} {j : Nat} (h : j < ys.length + 1) : (ys ++ [c]).getD j 0 = if j < ys.length then ys.getD j 0 else c := by
  by_cases hj : j < ys.length
  · rw [if_pos hj, List.getD_eq_getElem?_getD, List.getElem?_append_left hj, ← List.getD_eq_getElem?_getD]
  · have e : j = ys.length := by omega
    subst e
    rw [if_neg hj, List.getD_eq_getElem?_getD, List.getElem?_append_right (Nat.le_refl _)]
    simp
theorem own_m {w : World} {base : Nat} {v : Value} {zs : List Int} (h : w.ownsRow base 5 1 v zs.length (zs.map (Value.int .u8))) (hz : ∀ c ∈ zs, 0 ≤ c ∧ c < 256) (h0 : 0 < zs.length) : OwnsM w base v zs := by
  obtain ⟨hl, hv⟩ := h
  rcases hv with ⟨rfl, hn⟩ | ⟨g, cap, cur, rfl, hb, hg, hnc, hcm, hcs, htk⟩
  · omega
  · refine ⟨hz, g, cap, rfl, hb, (Array.getElem?_eq_some_iff.1 hg).1, hnc, hcm, fun j hj => ⟨?_, ?_⟩, fun j hj => ?_⟩
    · rw [cell_row hg, Array.getElem?_eq_getElem (by omega)]; rfl
    · simp [World.frozen?, hg]
    · rw [cell_row hg, ← Array.getElem?_toList]
      have h1 : (cur.toList.take (zs.length * 1))[j]? = (zs.map (Value.int .u8))[j]? := by rw [htk]
      rw [List.getElem?_take, if_pos (by omega), List.getElem?_map] at h1
      rw [h1, List.getD_eq_getElem?_getD, List.getElem?_eq_getElem hj]; rfl
/-- One byte behind. -/
theorem wpList_append_m {w : World} {ops : Array Oper} {rest : List Oper} {o : Oper} {a : Act} {Q : Exit → Act → World → Prop} (hgd : o.guard = none) (s x : Operand)
    (ho : o.op = .call { callee := .builtin .append, args := #[s, x], argTypes := #[22, 22] })
    (base : Nat) (v : Value) (ys : List Int) (c : Int) (hc : 0 ≤ c ∧ c < 256) (hs : a.eval s = v) (hown : OwnsM w base v ys)
    (ad : Addr) (hx : a.eval x = .slice (some ad) 1 1) (hcell : w.cell? (ad.add 0) = some (.int .u8 c)) (hlen : ys.length + 1 ≤ 10000000) (hbase : base ≤ w.heap.size)
    (h : ∀ v' w', OwnsM w' base v' (ys ++ [c]) → Below base w w' → wpList Tryd.prog ops Q rest (a.put o.dst v') w') : wpList Tryd.prog ops Q (o :: rest) a w := by
  obtain ⟨i, hi, hz, hsz, hby⟩ := info_parts info5
  obtain ⟨h0, g, cap, rfl, h1, h2, h3, h4, h5, h6⟩ := hown
  have hzc : ∀ d ∈ ys ++ [c], 0 ≤ d ∧ d < 256 := fun d hd => by
    rcases List.mem_append.1 hd with h' | h'
    · exact h0 d h'
    · simp at h'; rw [h']; exact hc
  refine wpList_append_arg w hgd s x 22 ho 5 i (.int .u8 0) 1 1 Tryd.underlying22 hi hz hsz hby rfl (by decide) g 0 ys.length cap (ys.map (Value.int .u8)) hs (by simp) (fun j u hu => ?_) ad 1 1 [.int .u8 c] hx rfl (fun j u hu => ?_) (fun u hu => by simp at hu; rw [hu]; rfl) (fun hr j hj => ?_) (by unfold maxLen; omega) (by omega) (fun hr => ?_) (fun hg v' w' ho' hgr => ?_)
  · have hj : j < ys.length := by
      have := (List.getElem?_eq_some_iff.1 hu).1
      simpa using this
    rw [List.getElem?_map, List.getElem?_eq_getElem hj] at hu
    simp only [Option.map_some, Option.some.injEq] at hu
    rw [Nat.zero_add, h6 j hj, ← hu, List.getD_eq_getElem?_getD, List.getElem?_eq_getElem hj]; rfl
  · match j, hu with
    | 0, hu => simp at hu; rw [← hu]; exact hcell
  · have e : 0 + ys.length * 1 + j = ys.length := by simp at hj; omega
    rw [e]
    exact h5 _ (by omega)
  · have e : 0 + ys.length * 1 = ys.length := by omega
    rw [e]
    have hsome := (h5 ys.length (by omega)).1
    have hin : (w.setCells g ys.length [.int .u8 c]).cell? ⟨g, ys.length, none⟩ = some (.int .u8 c) := by
      show (w.setCell ⟨g, ys.length, none⟩ (.int .u8 c)).cell? _ = _
      exact World.cell?_setCell_same' w _ _ hsome
    have hout : ∀ j, j ≠ ys.length → (w.setCells g ys.length [.int .u8 c]).cell? ⟨g, j, none⟩ = w.cell? ⟨g, j, none⟩ := fun j hj => by
      refine World.cell?_setCells_out g _ _ _ _ (fun _ _ => ?_)
      show j < ys.length ∨ ys.length + 1 ≤ j
      omega
    refine h _ _ ⟨hzc, g, cap, by rw [List.length_append]; rfl, h1, ?_, by rw [List.length_append]; exact hr, h4, fun j hj => ⟨?_, ?_⟩, fun j hj => ?_⟩ ?_
    · show g < (w.setCell ⟨g, ys.length, none⟩ (.int .u8 c)).heap.size
      simpa [World.setCell] using h2
    · by_cases e' : j = ys.length
      · rw [e', hin]; rfl
      · rw [hout j e']; exact (h5 j hj).1
    · rw [World.frozen?_setCells]; exact (h5 j hj).2
    · rw [List.length_append] at hj
      have hj' : j < ys.length + 1 := hj
      rw [getD_cat hj']
      by_cases e' : j < ys.length
      · rw [if_pos e', hout j (by omega)]; exact h6 j e'
      · have e2 : j = ys.length := by omega
        rw [if_neg e', e2, hin]
    · show Below base w (w.setCell ⟨g, ys.length, none⟩ (.int .u8 c))
      exact (Below.refl base w).setCell (p := ⟨g, ys.length, none⟩) h1 _
  · refine h v' w' (own_m (zs := ys ++ [c]) ?_ hzc (by simp)) ((Below.refl base w).grown hgr hbase (fun k hk => by cases hk))
    have hw : w'.ownsRow w.heap.size 5 1 v' (ys ++ [c]).length ((ys ++ [c]).map (Value.int .u8)) := by
      rw [List.length_append, List.map_append]; exact ho'
    obtain ⟨hl', hv'⟩ := hw
    refine ⟨hl', ?_⟩
    rcases hv' with h' | ⟨g', cap', cur', e1, e2, e3⟩
    · exact .inl h'
    · exact .inr ⟨g', cap', cur', e1, Nat.le_trans hbase e2, e3⟩
/-- A string's bytes as they are laid down. -/
theorem own_conv (w : World) (s : ByteArray) (hs : s.size ≤ 10000000) : OwnsM (Lib.bytesWorld w 5 s) w.heap.size (.slice (some ⟨w.heap.size, 0, none⟩) s.size (grownCap w s.size 0 5)) (bs s) := by
  have hsz : (Lib.bytesCells w 5 s).size = grownCap w s.size 0 5 := by
    unfold Lib.bytesCells
    have := grownCap_ge w s.size 0 5
    simp
    show s.size + _ = _
    omega
  have hnew := Lib.bytesWorld_at_new w 5 s
  refine ⟨bs_bytes s, w.heap.size, _, by rw [bs_len], Nat.le_refl _, by rw [Lib.bytesWorld_size]; omega, by rw [bs_len]; exact grownCap_ge w _ _ _, grownCap_le_maxLen w _ _ _ (by unfold maxLen; omega), fun j hj => ⟨?_, ?_⟩, fun j hj => ?_⟩
  · have hj2 : j < (Lib.bytesCells w 5 s).size := by rw [hsz]; exact hj
    simp [World.cell?, hnew, hj2]
  · unfold World.frozen?
    show (match (Lib.bytesWorld w 5 s).heap[w.heap.size]? with | _ => _) = _
    rw [hnew]
    have hj2 : j < (Lib.bytesCells w 5 s).size := by rw [hsz]; exact hj
    generalize Lib.bytesCells w 5 s = C at *
    simp
    omega
  · rw [bs_len] at hj
    rw [Lib.bytesWorld_cell w 5 s j hj, bs_at s hj]
    congr 3
    rw [List.getD_eq_getElem?_getD, Array.getElem?_toList, Array.getElem?_eq_getElem (by exact hj)]
    rfl
end Go.Proofs.YtfkoghmbkgbgbaaDoor
