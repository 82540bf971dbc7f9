/-
  Bytes of a string, laid down and appended to: rows that bear a mark behind their end.
  A string's characters that are no whole ones: jlex.isBroken, jlex.brokenFault.
  The fault of a string where no whole character stands: jlex.brokenFault.
  What jlex.stringAt has in memory.
  A string's characters, one behind the other: jlex.stringAt.
  A number is made: dec.Make.
-/
import Derived.Test.YtmlacmoembjeoaaGreatDoorG4
import Derived.Test.YtmlacmoembjeoaaGreatDoorG9
import Derived.Test.YtmlacmoembjeoaaGreatDoorG8
import Derived.Test.YtmlacmoembjeoaaGreatDoorG5
import Derived.ArgAppend
import Derived.Lib.ConvBytes
import Derived.Shelf.Strings.Prefix
import Derived.Lib.OthersKept
namespace Go.Proofs.YtmlacmoembjeoaaGreatDoor
open Go.RowKit

/-- Bytes in a row of the call's own, whose cells may all be written. -/
def OwnsM (w : World) (base : Nat) (v : Value) (zs : List Int) : Prop := (∀ c ∈ zs, 0 ≤ c ∧ c < 256) ∧ ∃ g cap, v = .slice (some ⟨g, 0, none⟩) zs.length cap ∧ base ≤ g ∧ g < w.heap.size ∧ zs.length ≤ cap ∧ cap ≤ maxLen ∧
  (∀ j, j < cap → (w.cell? ⟨g, j, none⟩).isSome = true ∧ w.frozen? ⟨g, j, none⟩ = false) ∧ ∀ j, j < zs.length → w.cell? ⟨g, j, none⟩ = some (.int .u8 (zs.getD j 0))
theorem OwnsM.below {w w' : World} {base : Nat} {v : Value} {zs : List Int} (h : OwnsM w base v zs) (hb : Below w.heap.size w w') : OwnsM w' base v zs := by
  obtain ⟨h0, g, cap, rfl, h1, h2, h3, h4, h5, h6⟩ := h
  have hc : ∀ j, w'.cell? ⟨g, j, none⟩ = w.cell? ⟨g, j, none⟩ := fun j => hb.cell (p := ⟨g, j, none⟩) h2
  have hf : ∀ j, w'.frozen? ⟨g, j, none⟩ = w.frozen? ⟨g, j, none⟩ := fun j => by
    unfold World.frozen?
    show (match w'.heap[g]? with | _ => _) = _
    rw [hb.block g h2]
  exact ⟨h0, g, cap, rfl, h1, Nat.lt_of_lt_of_le h2 hb.size, h3, h4, fun j hj => ⟨by rw [hc]; exact (h5 j hj).1, by rw [hf]; exact (h5 j hj).2⟩, fun j hj => by rw [hc]; exact h6 j hj⟩
theorem OwnsM.form {w : World} {base : Nat} {v : Value} {zs : List Int} (h : OwnsM w base v zs) : ∃ g n cap, v = .slice (some ⟨g, 0, none⟩) n cap ∧ Hid (zs.length = n) ∧ n ≤ cap ∧ cap ≤ 9223372036854775807 ∧ Hid (Bytes w (some ⟨g, 0, none⟩) zs) := by
  obtain ⟨h0, g, cap, rfl, h1, h2, h3, h4, h5, h6⟩ := h
  refine ⟨g, zs.length, cap, rfl, rfl, h3, by simpa [maxLen] using h4, ?_⟩
  exact ⟨h0, by omega, .inr ⟨g, 0, rfl, fun i hi => by rw [Nat.zero_add]; exact h6 i hi⟩⟩
theorem getD_cat {ys : List Int} {c : Int} {j : Nat} (h : j < ys.length + 1) : (ys ++ [c]).getD j 0 = if j < ys.length then ys.getD j 0 else c := by
  by_cases hj : j < ys.length
  · rw [if_pos hj, List.getD_eq_getElem?_getD, List.getElem?_append_left hj, ← List.getD_eq_getElem?_getD]
  · have e : j = ys.length := by omega
    subst e
    rw [if_neg hj, List.getD_eq_getElem?_getD, List.getElem?_append_right (Nat.le_refl _)]
    simp
theorem own_m {w : World} {base : Nat} {v : Value} {zs : List Int} (h : w.ownsRow base 5 1 v zs.length (zs.map (Value.int .u8))) (hz : ∀ c ∈ zs, 0 ≤ c ∧ c < 256) (h0 : 0 < zs.length) : OwnsM w base v zs := by
  obtain ⟨hl, hv⟩ := h
  rcases hv with ⟨rfl, hn⟩ | ⟨g, cap, cur, rfl, hb, hg, hnc, hcm, hcs, htk⟩
  · omega
  · refine ⟨hz, g, cap, rfl, hb, (Array.getElem?_eq_some_iff.1 hg).1, hnc, hcm, fun j hj => ⟨?_, ?_⟩, fun j hj => ?_⟩
    · rw [cell_row hg, Array.getElem?_eq_getElem (by omega)]; rfl
    · simp [World.frozen?, hg]
    · rw [cell_row hg, ← Array.getElem?_toList]
      have h1 : (cur.toList.take (zs.length * 1))[j]? = (zs.map (Value.int .u8))[j]? := by rw [htk]
      rw [List.getElem?_take, if_pos (by omega), List.getElem?_map] at h1
      rw [h1, List.getD_eq_getElem?_getD, List.getElem?_eq_getElem hj]; rfl
/-- One byte behind. -/
theorem wpList_append_m {w : World} {ops : Array Oper} {rest : List Oper} {o : Oper} {a : Act} {Q : Exit → Act → World → Prop} (hgd : o.guard = none) (s x : Operand)
    (ho : o.op = .call { callee := .builtin .append, args := #[s, x], argTypes := #[22, 22] })
    (base : Nat) (v : Value) (ys : List Int) (c : Int) (hc : 0 ≤ c ∧ c < 256) (hs : a.eval s = v) (hown : OwnsM w base v ys)
    (ad : Addr) (hx : a.eval x = .slice (some ad) 1 1) (hcell : w.cell? (ad.add 0) = some (.int .u8 c)) (hlen : ys.length + 1 ≤ 10000000) (hbase : base ≤ w.heap.size)
    (h : ∀ v' w', OwnsM w' base v' (ys ++ [c]) → Below base w w' → wpList Tryz.prog ops Q rest (a.put o.dst v') w') : wpList Tryz.prog ops Q (o :: rest) a w := by
  obtain ⟨i, hi, hz, hsz, hby⟩ := info_parts info5
  obtain ⟨h0, g, cap, rfl, h1, h2, h3, h4, h5, h6⟩ := hown
  have hzc : ∀ d ∈ ys ++ [c], 0 ≤ d ∧ d < 256 := fun d hd => by
    rcases List.mem_append.1 hd with h' | h'
    · exact h0 d h'
    · simp at h'; rw [h']; exact hc
  refine wpList_append_arg w hgd s x 22 ho 5 i (.int .u8 0) 1 1 Tryz.underlying22 hi hz hsz hby rfl (by decide) g 0 ys.length cap (ys.map (Value.int .u8)) hs (by simp) (fun j u hu => ?_) ad 1 1 [.int .u8 c] hx rfl (fun j u hu => ?_) (fun u hu => by simp at hu; rw [hu]; rfl) (fun hr j hj => ?_) (by unfold maxLen; omega) (by omega) (fun hr => ?_) (fun hg v' w' ho' hgr => ?_)
  · have hj : j < ys.length := by
      have := (List.getElem?_eq_some_iff.1 hu).1
      simpa using this
    rw [List.getElem?_map, List.getElem?_eq_getElem hj] at hu
    simp only [Option.map_some, Option.some.injEq] at hu
    rw [Nat.zero_add, h6 j hj, ← hu, List.getD_eq_getElem?_getD, List.getElem?_eq_getElem hj]; rfl
  · match j, hu with
    | 0, hu => simp at hu; rw [← hu]; exact hcell
  · have e : 0 + ys.length * 1 + j = ys.length := by simp at hj; omega
    rw [e]
    exact h5 _ (by omega)
  · have e : 0 + ys.length * 1 = ys.length := by omega
    rw [e]
    have hsome := (h5 ys.length (by omega)).1
    have hin : (w.setCells g ys.length [.int .u8 c]).cell? ⟨g, ys.length, none⟩ = some (.int .u8 c) := by
      show (w.setCell ⟨g, ys.length, none⟩ (.int .u8 c)).cell? _ = _
      exact World.cell?_setCell_same' w _ _ hsome
    have hout : ∀ j, j ≠ ys.length → (w.setCells g ys.length [.int .u8 c]).cell? ⟨g, j, none⟩ = w.cell? ⟨g, j, none⟩ := fun j hj => by
      refine World.cell?_setCells_out g _ _ _ _ (fun _ _ => ?_)
      show j < ys.length ∨ ys.length + 1 ≤ j
      omega
    refine h _ _ ⟨hzc, g, cap, by rw [List.length_append]; rfl, h1, ?_, by rw [List.length_append]; exact hr, h4, fun j hj => ⟨?_, ?_⟩, fun j hj => ?_⟩ ?_
    · show g < (w.setCell ⟨g, ys.length, none⟩ (.int .u8 c)).heap.size
      simpa [World.setCell] using h2
    · by_cases e' : j = ys.length
      · rw [e', hin]; rfl
      · rw [hout j e']; exact (h5 j hj).1
    · rw [World.frozen?_setCells]; exact (h5 j hj).2
    · rw [List.length_append] at hj
      have hj' : j < ys.length + 1 := hj
      rw [getD_cat hj']
      by_cases e' : j < ys.length
      · rw [if_pos e', hout j (by omega)]; exact h6 j e'
      · have e2 : j = ys.length := by omega
        rw [if_neg e', e2, hin]
    · show Below base w (w.setCell ⟨g, ys.length, none⟩ (.int .u8 c))
      exact (Below.refl base w).setCell (p := ⟨g, ys.length, none⟩) h1 _
  · refine h v' w' (own_m (zs := ys ++ [c]) ?_ hzc (by simp)) ((Below.refl base w).grown hgr hbase (fun k hk => by cases hk))
    have hw : w'.ownsRow w.heap.size 5 1 v' (ys ++ [c]).length ((ys ++ [c]).map (Value.int .u8)) := by
      rw [List.length_append, List.map_append]; exact ho'
    obtain ⟨hl', hv'⟩ := hw
    refine ⟨hl', ?_⟩
    rcases hv' with h' | ⟨g', cap', cur', e1, e2, e3⟩
    · exact .inl h'
    · exact .inr ⟨g', cap', cur', e1, Nat.le_trans hbase e2, e3⟩
/-- A string's bytes as they are laid down. -/
theorem own_conv (w : World) (s : ByteArray) (hs : s.size ≤ 10000000) : OwnsM (Lib.bytesWorld w 5 s) w.heap.size (.slice (some ⟨w.heap.size, 0, none⟩) s.size (grownCap w s.size 0 5)) (bs s) := by
  have hsz : (Lib.bytesCells w 5 s).size = grownCap w s.size 0 5 := by
    unfold Lib.bytesCells
    have := grownCap_ge w s.size 0 5
    simp
    show s.size + _ = _
    omega
  have hnew := Lib.bytesWorld_at_new w 5 s
  refine ⟨bs_bytes s, w.heap.size, _, by rw [bs_len], Nat.le_refl _, by rw [Lib.bytesWorld_size]; omega, by rw [bs_len]; exact grownCap_ge w _ _ _, grownCap_le_maxLen w _ _ _ (by unfold maxLen; omega), fun j hj => ⟨?_, ?_⟩, fun j hj => ?_⟩
  · have hj2 : j < (Lib.bytesCells w 5 s).size := by rw [hsz]; exact hj
    simp [World.cell?, hnew, hj2]
  · unfold World.frozen?
    show (match (Lib.bytesWorld w 5 s).heap[w.heap.size]? with | _ => _) = _
    rw [hnew]
    have hj2 : j < (Lib.bytesCells w 5 s).size := by rw [hsz]; exact hj
    generalize Lib.bytesCells w 5 s = C at *
    simp
    omega
  · rw [bs_len] at hj
    rw [Lib.bytesWorld_cell w 5 s j hj, bs_at s hj]
    congr 3
    rw [List.getD_eq_getElem?_getD, Array.getElem?_toList, Array.getElem?_eq_getElem (by exact hj)]
    rfl
end Go.Proofs.YtmlacmoembjeoaaGreatDoor
namespace Go.Proofs.YtmlacmoembjeoaaGreatDoor
open Go.RowKit
set_option linter.unusedVariables false

theorem bs_ext (s : ByteArray) (a b : Nat) : bs (s.extract a b) = ((bs s).take b).drop a := by
  unfold bs
  have e : (s.extract a b).data.toList = (s.data.toList.take b).drop a := by
    rw [ByteArray.data_extract, Array.toList_extract, List.extract_eq_take_drop]
    rw [List.drop_take]
  rw [e, List.map_drop, List.map_take]
theorem bs_from (s : ByteArray) (a : Nat) : bs (s.extract a s.size) = (bs s).drop a := by
  rw [bs_ext, List.take_of_length_le (by rw [bs_len]; exact Nat.le_refl _)]
theorem ext_size {s : ByteArray} {a : Nat} (h : a ≤ s.size) : (s.extract a s.size).size = s.size - a := by
  rw [← bs_len, bs_from, List.length_drop, bs_len]
/-- strings.HasPrefix of the bytes of FFFD. -/
theorem pre_odd (b : List Int) (hz : ∀ c ∈ b, 0 ≤ c ∧ c < 256) (h0 : b ≠ []) (l : List UInt8) (hl : l.map (fun x => ((x.toNat : Nat) : Int)) = b) : Lib.hasPrefix l [239, 191, 189] = true ↔ (Good b ∧ valB b = 65533) := by
  have key : Lib.hasPrefix l [239, 191, 189] = true ↔ (3 ≤ b.length ∧ nth b 0 = 239 ∧ nth b 1 = 191 ∧ nth b 2 = 189) := by
    subst hl
    unfold Lib.hasPrefix nth
    cases l with
    | nil => simp
    | cons x l =>
      cases l with
      | nil => simp
      | cons y l =>
        cases l with
        | nil => simp
        | cons z l =>
          simp only [List.isPrefixOf_cons_cons, List.isPrefixOf_nil_left, Bool.and_true, Bool.and_eq_true, beq_iff_eq, List.map_cons, List.length_cons, List.getD_cons_zero, List.getD_cons_succ, Int.toNat_natCast]
          constructor
          · rintro ⟨rfl, rfl, rfl⟩
            exact ⟨by omega, by decide, by decide, by decide⟩
          · rintro ⟨_, h1, h2, h3⟩
            exact ⟨(UInt8.toNat_inj.1 (by rw [h1]; rfl)).symm, (UInt8.toNat_inj.1 (by rw [h2]; rfl)).symm, (UInt8.toNat_inj.1 (by rw [h3]; rfl)).symm⟩
  rw [key]
  constructor
  · intro h
    have hG : Good b := by
      unfold Good GoodN ok1 okK
      rw [h.2.1, h.2.2.1, h.2.2.2]
      refine ⟨by decide, fun _ => ⟨by omega, by decide, by decide⟩, fun _ => ⟨by omega, by decide, by decide⟩, fun h => absurd h (by decide)⟩
    exact ⟨hG, (good_odd hG).2 h⟩
  · rintro ⟨hG, hv⟩
    exact (good_odd hG).1 hv
theorem pre_any (t : ByteArray) (w : World) : Calls Tryz.prog 116 #[.string t, .string ⟨#[239, 191, 189]⟩] w fun e w' => e = .returned (.bool (Lib.hasPrefix t.data.toList [239, 191, 189])) ∧ w' = w := Any.strings_HasPrefix lays99 t ⟨#[239, 191, 189]⟩ w
/-- The character that a range tells there. -/
def runeB (b : List Int) : Nat := if goodB b = true then valB b else 65533
set_option maxHeartbeats 1000000 in
set_option maxRecDepth 100000 in
/-- jlex.isBroken. -/
theorem broken_any (t : ByteArray) (h0 : bs t ≠ []) (w : World) : Calls Tryz.prog 89 #[.string t, .int .i32 (runeB (bs t) : Nat)] w fun e w' => e = .returned (.bool (!goodB (bs t))) ∧ w' = w := by
  have kP := pre_any t w
  have hP := pre_odd (bs t) (bs_bytes t) h0 t.data.toList rfl
  by_cases hg : Good (bs t)
  · rw [goodB_yes hg]
    have hr : runeB (bs t) = valB (bs t) := by unfold runeB; rw [goodB_yes hg, if_pos rfl]
    rw [hr]
    by_cases hv : valB (bs t) = 65533
    · have : Lib.hasPrefix t.data.toList [239, 191, 189] = true := hP.2 ⟨hg, hv⟩
      rw [this] at kP
      have a1 : (((valB (bs t) : Nat) : Int) == 65533) = true := by rw [hv]; decide
      generalize valB (bs t) = V at *
      clear hP hg hr h0 this hv
      go_enter Tryz.func89, Tryz.ntmps89
      go_wp2_with (go_at_call 116; refine kP.mono ?_; rintro e w1 ⟨rfl, hw⟩; subst hw)
      go_ret
      exact ⟨rfl, rfl⟩
    · have a1 : (((valB (bs t) : Nat) : Int) == 65533) = false := by simp; omega
      generalize valB (bs t) = V at *
      clear hP hg hr h0 hv kP
      go_enter Tryz.func89, Tryz.ntmps89
      go_wp2
      go_ret
      exact ⟨rfl, rfl⟩
  · rw [goodB_no hg]
    have hr : runeB (bs t) = 65533 := by unfold runeB; rw [goodB_no hg, if_neg (by simp)]
    rw [hr]
    have : Lib.hasPrefix t.data.toList [239, 191, 189] = false := by
      cases h : Lib.hasPrefix t.data.toList [239, 191, 189] with
      | false => rfl
      | true => exact absurd (hP.1 h).1 hg
    rw [this] at kP
    clear hP hg hr h0 this
    go_enter Tryz.func89, Tryz.ntmps89
    go_wp2_with (go_at_call 116; refine kP.mono ?_; rintro e w1 ⟨rfl, hw⟩; subst hw)
    go_ret
    exact ⟨rfl, rfl⟩
end Go.Proofs.YtmlacmoembjeoaaGreatDoor
namespace Go.Proofs.YtmlacmoembjeoaaGreatDoor
open Go.RowKit
set_option linter.unusedVariables false
theorem field_at (x y : Value) (w : World) : Sem.run Tryz.prog (Instr.field 29 (.agg #[x, y]) 1) w = .ok y w := by
  have t1 := Tryz.underlying29
  simp [Instr.field, run_underlying t1, asAgg, part, go_sem, Tryz.isAgg3, Tryz.sizeOf3]
theorem convB_below (w : World) (s : ByteArray) : Below w.heap.size w (Lib.bytesWorld w 5 s) := ⟨rfl, rfl, rfl, by rw [Lib.bytesWorld_size]; omega, fun k hk => Lib.bytesWorld_at_old w 5 s k hk⟩
theorem at_bad {b : List Int} (h0 : b ≠ []) (h : ¬ Good b) : atL b = badB b := (why_some (by rw [runes_bad h0 h])).2.1
/-- utf.Check of a string's bytes. -/
theorem check_str (t : ByteArray) (w : World) (hs : t.size ≤ 10000000) : ∃ g n c W, (convert 9 22 (.string t)).run Tryz.prog w = .ok (.slice (some ⟨g, 0, none⟩) n c) W ∧ Below w.heap.size w W ∧ Calls Tryz.prog 117 #[.slice (some ⟨g, 0, none⟩) n c] W fun e w' => e = .returned (.agg #[.int .i64 (whyL (bs t) : Nat), .int .i64 (atL (bs t) : Nat)]) ∧ Below W.heap.size W w' := by
  have hcv := Lib.run_convert_string_bytes (P := Tryz.prog) w 9 22 5 t Tryz.underlying9 Tryz.underlying22 Tryz.underlying5
  obtain ⟨gC, nC, cC, hvC, hlC, hcC, hcC', hBC⟩ := (own_conv w t (by omega)).form
  have hvC' : (Value.slice (some ⟨w.heap.size, 0, none⟩) t.size (grownCap w t.size 0 5)) = Value.slice (some ⟨gC, 0, none⟩) nC cC := hvC
  rw [hvC'] at hcv
  exact ⟨gC, nC, cC, Lib.bytesWorld w 5 t, hcv, convB_below w t, check_any (some ⟨gC, 0, none⟩) nC cC (bs t) (Lib.bytesWorld w 5 t) hlC.out hBC.out hcC (by have := hlC.out; rw [bs_len] at this; omega)⟩
set_option maxHeartbeats 2000000 in
set_option maxRecDepth 100000 in
/-- jlex.brokenFault. -/
theorem brkf_any (s : ByteArray) (p : Nat) (free : Bool) (w : World) (hp : p < s.size) (hs : s.size ≤ 10000000) (hb : ¬ Good ((bs s).drop p)) :
    Calls Tryz.prog 90 #[.string s, .int .i64 (p : Int), .bool free] w fun e w' => e = .returned (.agg #[.int .i64 ((brkR ((bs s).drop p) p free).1 : Nat), .int .i64 ((brkR ((bs s).drop p) p free).2 : Nat)]) ∧ Below w.heap.size w w' := by
  have hA := alloc_below w (.cells #[.int .i64 0, .int .i64 0] 29)
  have B0 : Hid (Below w.heap.size w (w.alloc (.cells #[.int .i64 0, .int .i64 0] 29))) := hA
  have K0 : Hid (Blk (w.alloc (.cells #[.int .i64 0, .int .i64 0] 29)) w.heap.size #[.int .i64 0, .int .i64 0] 29) := blk_new w _ _
  have h0 : (bs s).drop p ≠ [] := by intro h; have := congrArg List.length h; rw [List.length_drop, bs_len] at this; simp at this; omega
  obtain ⟨gC, nC, cC, W, hcv, BC, kC⟩ := check_str (s.extract p s.size) (w.alloc (.cells #[.int .i64 0, .int .i64 0] 29)) (by rw [ext_size (by omega)]; omega)
  rw [bs_from, at_bad h0 hb] at kC
  have hz0 : (0 : Int) ≤ (p : Int) := by omega
  have hz1 : (p : Int) ≤ ((s.size : Nat) : Int) := by omega
  have hle : p + badB ((bs s).drop p) ≤ s.size := by have := bad_le h0 hb; rw [List.length_drop, bs_len] at this; omega
  have W1 : IntKind.i64.wrap ((p : Int) + ((badB ((bs s).drop p) : Nat) : Int)) = ((p + badB ((bs s).drop p) : Nat) : Int) := by rw [IntKind.wrap_i64]; omega
  have KW : Hid (Blk W w.heap.size #[.int .i64 0, .int .i64 0] 29) := K0.out.kept BC K0.out.lt
  have BW : Hid (Below w.heap.size w W) := B0.out.trans (BC.mono B0.out.size)
  have hlen : ((bs s).drop p).length = s.size - p := by rw [List.length_drop, bs_len]
  have hR : brkR ((bs s).drop p) p free = if badB ((bs s).drop p) = 0 then (6, p) else if free = false then (5, p) else if badB ((bs s).drop p) = ((bs s).drop p).length then (3, p + badB ((bs s).drop p)) else (6, p + badB ((bs s).drop p)) := rfl
  rw [hR, hlen]
  generalize whyL ((bs s).drop p) = Y at *
  generalize badB ((bs s).drop p) = D at *
  have hfw : ∀ (x y : Value) (w : World), Sem.run Tryz.prog (Instr.field 29 (.agg #[x, y]) 1) w = .ok y w := field_at
  clear hR hlen h0 hb hA BC K0 B0
  by_cases h1 : D = 0
  · have a1 : (((p + D : Nat) : Int) == (p : Int)) = true := by simp; omega
    rw [if_pos h1]
    generalize p + D = PD at *
    clear h1
    go_enter Tryz.func90, Tryz.ntmps90
    go_wp2_with (go_at_call 117; refine kC.mono ?_; rintro e w2 ⟨rfl, hb2⟩; have K2 := KW.out.kept hb2 KW.out.lt; have c0 : w2.cell? ⟨w.heap.size, 0, none⟩ = some (.int .i64 0) := K2.cell 0; have c1 : w2.cell? ⟨w.heap.size, 1, none⟩ = some (.int .i64 0) := K2.cell 1; have f0 := K2.fz 0; have f1 := K2.fz 1; have B2 : Hid (Below w.heap.size w w2) := BW.out.trans (hb2.mono BW.out.size))
    refine bodyPost_ret (v := .agg #[.int .i64 6, .int .i64 (p : Int)]) (by simp [results, Tryz.results90, go_sem, *]) rfl ⟨rfl, ?_⟩
    refine Below.setCell (Below.setCell B2.out ?_ _) ?_ _ <;> simp
  · have a1 : (((p + D : Nat) : Int) == (p : Int)) = false := by simp; omega
    rw [if_neg h1]
    cases free with
    | false =>
      rw [if_pos rfl]
      generalize p + D = PD at *
      clear h1
      go_enter Tryz.func90, Tryz.ntmps90
      go_wp2_with (go_at_call 117; refine kC.mono ?_; rintro e w2 ⟨rfl, hb2⟩; have K2 := KW.out.kept hb2 KW.out.lt; have c0 : w2.cell? ⟨w.heap.size, 0, none⟩ = some (.int .i64 0) := K2.cell 0; have c1 : w2.cell? ⟨w.heap.size, 1, none⟩ = some (.int .i64 0) := K2.cell 1; have f0 := K2.fz 0; have f1 := K2.fz 1; have B2 : Hid (Below w.heap.size w w2) := BW.out.trans (hb2.mono BW.out.size))
      refine bodyPost_ret (v := .agg #[.int .i64 5, .int .i64 (p : Int)]) (by simp [results, Tryz.results90, go_sem, *]) rfl ⟨rfl, ?_⟩
      refine Below.setCell (Below.setCell B2.out ?_ _) ?_ _ <;> simp
    | true =>
      rw [if_neg (by simp)]
      by_cases h2 : D = s.size - p
      · have a2 : (((p + D : Nat) : Int) == ((s.size : Nat) : Int)) = true := by simp; omega
        rw [if_pos h2]
        generalize p + D = PD at *
        clear h1 h2
        go_enter Tryz.func90, Tryz.ntmps90
        go_wp2_with (go_at_call 117; refine kC.mono ?_; rintro e w2 ⟨rfl, hb2⟩; have K2 := KW.out.kept hb2 KW.out.lt; have c0 : w2.cell? ⟨w.heap.size, 0, none⟩ = some (.int .i64 0) := K2.cell 0; have c1 : w2.cell? ⟨w.heap.size, 1, none⟩ = some (.int .i64 0) := K2.cell 1; have f0 := K2.fz 0; have f1 := K2.fz 1; have B2 : Hid (Below w.heap.size w w2) := BW.out.trans (hb2.mono BW.out.size))
        refine bodyPost_ret (v := .agg #[.int .i64 3, .int .i64 (PD : Nat)]) (by simp [results, Tryz.results90, go_sem, *]) rfl ⟨rfl, ?_⟩
        refine Below.setCell (Below.setCell B2.out ?_ _) ?_ _ <;> simp
      · have a2 : (((p + D : Nat) : Int) == ((s.size : Nat) : Int)) = false := by simp; omega
        rw [if_neg h2]
        generalize p + D = PD at *
        clear h1 h2
        go_enter Tryz.func90, Tryz.ntmps90
        go_wp2_with (go_at_call 117; refine kC.mono ?_; rintro e w2 ⟨rfl, hb2⟩; have K2 := KW.out.kept hb2 KW.out.lt; have c0 : w2.cell? ⟨w.heap.size, 0, none⟩ = some (.int .i64 0) := K2.cell 0; have c1 : w2.cell? ⟨w.heap.size, 1, none⟩ = some (.int .i64 0) := K2.cell 1; have f0 := K2.fz 0; have f1 := K2.fz 1; have B2 : Hid (Below w.heap.size w w2) := BW.out.trans (hb2.mono BW.out.size))
        refine bodyPost_ret (v := .agg #[.int .i64 6, .int .i64 (PD : Nat)]) (by simp [results, Tryz.results90, go_sem, *]) rfl ⟨rfl, ?_⟩
        refine Below.setCell (Below.setCell B2.out ?_ _) ?_ _ <;> simp
end Go.Proofs.YtmlacmoembjeoaaGreatDoor
namespace Go.Proofs.YtmlacmoembjeoaaGreatDoor
open Go.RowKit
set_option linter.unusedVariables false

theorem dig_txt (s : RS) (d : Nat) : (digR s d).txt.length ≤ s.txt.length + 4 := by
  unfold digR
  repeat' split
  all_goals
    dsimp only
    try rw [List.length_append]
    first | omega | (have := (enc_len (65536 + (s.fst - 55296) * 1024 + (s.num * 16 + d) - 56320)).2; omega) | (have := (enc_len (s.num * 16 + d)).2; omega)
theorem put_txt (s : RS) (r : Nat) : (putR s r).txt.length ≤ s.txt.length + 4 := by
  unfold putR
  dsimp only
  rw [List.length_append]
  have := (enc_len r).2
  omega
theorem take_txt (s : RS) (r : Nat) : (takeR s r).txt.length ≤ s.txt.length + 4 := by
  unfold takeR
  repeat' split
  all_goals first | exact dig_txt _ _ | exact put_txt _ _ | (dsimp only; omega) | omega
theorem own_heap {w w' : World} {B : Nat} {v : Value} {zs : List Int} (h : OwnsB w B v zs) (hh : ∀ j, B ≤ j → w'.heap[j]? = w.heap[j]?) : OwnsB w' B v zs := by
  obtain ⟨⟨h1, h2⟩, h3⟩ := h
  refine ⟨⟨h1, ?_⟩, h3⟩
  rcases h2 with h2 | ⟨g, cap, cur, hv, hg, hc, r⟩
  · exact .inl h2
  · exact .inr ⟨g, cap, cur, hv, hg, by rw [hh g hg]; exact hc, r⟩
/-- What stringAt has in memory: its fault, the reader, the place in the text. -/
structure SM (w wr : World) (t : ByteArray) (pos : Nat) (S : RS) : Prop where
  rd : RdS wr (w.heap.size + 1) (w.heap.size + 3) S
  flt : Blk wr w.heap.size #[.int .i64 0, .int .i64 0] 29
  itr : wr.heap[w.heap.size + 2]? = some (.stringIter t pos)
  bel : Below w.heap.size w wr
theorem SM.next {w wr : World} {t : ByteArray} {pos : Nat} {S : RS} (h : SM w wr t pos S) (pos' : Nat) : SM w (wr.iterAt (w.heap.size + 2) t pos') t pos' S := by
  obtain ⟨⟨p, v, hb⟩, hf, hi, hw⟩ := h
  refine ⟨⟨p, v, ?_⟩, ?_, Lib.iterAt_heap wr _ t pos pos' hi, Lib.below_iterAt hw (by omega) t pos'⟩
  · refine ⟨?_, hb.ptr, hb.own, hb.buf, hb.lies, own_heap hb.row (fun j hj => Lib.iterAt_other wr _ j t pos' (by omega)), hb.low, by rw [Lib.iterAt_size]; exact hb.top⟩
    exact (Lib.iterAt_other wr _ _ t pos' (by omega)).trans hb.blk
  · exact (Lib.iterAt_other wr _ _ t pos' (by omega)).trans hf
theorem SM.take {w wr w' : World} {t : ByteArray} {pos : Nat} {S S' : RS} (h : SM w wr t pos S) (hr : RdS w' (w.heap.size + 1) (w.heap.size + 3) S') (hk : Kq (w.heap.size + 1) (w.heap.size + 3) wr w') : SM w w' t pos S' :=
  ⟨hr, h.flt.kq hk (by omega) (by omega), (hk.block _ (by omega) (by omega)).trans h.itr, h.bel.trans ((hk.below (by omega)).mono (by omega))⟩
theorem SM.pos {w wr : World} {t : ByteArray} {pos : Nat} {S : RS} (h : SM w wr t pos S) : wr.iterPos (w.heap.size + 2) = pos := by
  unfold World.iterPos
  rw [h.itr]
theorem sm0 (w : World) (t : ByteArray) : SM w (((w.alloc (.cells #[.int .i64 0, .int .i64 0] 29)).alloc (.cells #[.int .i64 0, .pointer none, .slice none 0 0, .int .i32 0, .int .i64 0, .int .i32 0] 113)).iter t 0) t 0 r0 := by
  have a1 := alloc_below w (.cells #[.int .i64 0, .int .i64 0] 29)
  have h1 := blk_new w #[.int .i64 0, .int .i64 0] 29
  generalize hw1 : w.alloc (.cells #[.int .i64 0, .int .i64 0] 29) = w1 at *
  have s1 : w1.heap.size = w.heap.size + 1 := by rw [← hw1]; simp
  have a2 := alloc_below w1 (.cells #[.int .i64 0, .pointer none, .slice none 0 0, .int .i32 0, .int .i64 0, .int .i32 0] 113)
  have h2 := blk_new w1 #[.int .i64 0, .pointer none, .slice none 0 0, .int .i32 0, .int .i64 0, .int .i32 0] 113
  generalize hw2 : w1.alloc (.cells #[.int .i64 0, .pointer none, .slice none 0 0, .int .i32 0, .int .i64 0, .int .i32 0] 113) = w2 at *
  have s2 : w2.heap.size = w.heap.size + 2 := by rw [← hw2]; simp; omega
  have a3 := iter_below w2 t 0
  have s3 : (w2.iter t 0).heap.size = w.heap.size + 3 := by unfold World.iter; simp; omega
  refine ⟨⟨none, .slice none 0 0, ?_, rfl, .inl rfl, rfl, ?_, ownsB_nil _ _, by omega, by omega⟩, (h1.kept a2 (by omega)).kept a3 (by omega), ?_, a1.trans ((a2.mono (by omega)).trans (a3.mono (by omega)))⟩
  · rw [← s1]; exact h2.kept a3 (by omega)
  · have hsz : (rdc ((r0.q : Nat) : Int) none (.slice none 0 0) ((r0.num : Nat) : Int) ((r0.dig : Nat) : Int) ((r0.fst : Nat) : Int)).size = 6 := rfl
    rw [hsz]; exact lies_rd
  · rw [← s2]; exact heap_alloc_new w2 _
theorem decode_rune (t : ByteArray) (pos : Nat) : Utf8.decode t pos = (runeB ((bs t).drop pos), if goodB ((bs t).drop pos) = true then lenB ((bs t).drop pos) else 1) := by
  have hz := bs_bytes t
  conv => lhs; rw [← str_bs t]
  unfold runeB
  by_cases hg : Good ((bs t).drop pos)
  · rw [goodB_yes hg, if_pos rfl, if_pos rfl, decode_good hz hg]
  · rw [goodB_no hg, if_neg (by simp), if_neg (by simp), decode_bad hz hg]
end Go.Proofs.YtmlacmoembjeoaaGreatDoor
namespace Go.Proofs.YtmlacmoembjeoaaGreatDoor
open Go.RowKit
set_option linter.unusedVariables false

/-- What stringAt answers. -/
def strV (R : List Int × Nat × Nat × Nat) : Value := .tuple #[.string (strOfNums R.1), .int .i64 (R.2.1 : Nat), .agg #[.int .i64 (R.2.2.1 : Nat), .int .i64 (R.2.2.2 : Nat)]]
set_option maxHeartbeats 8000000 in
set_option maxRecDepth 100000 in
/-- jlex.stringAt. -/
theorem strat_any (s : ByteArray) (p : Nat) (w : World) (hp : p < s.size) (hs : s.size ≤ 10000000) :
    Calls Tryz.prog 72 #[.string s, .int .i64 (p : Int)] w fun e w' => e = .returned (strV (strL ((bs s).drop (p + 1)) (p + 1) r0)) ∧ Below w.heap.size w w' := by
  obtain ⟨A, hA⟩ : ∃ A, A = p + 1 := ⟨_, rfl⟩
  rw [← hA]
  have hAs : A ≤ s.size := by omega
  have W1 : IntKind.i64.wrap ((p : Int) + 1) = ((A : Nat) : Int) := by rw [IntKind.wrap_i64]; omega
  have z0 : (0 : Int) ≤ ((A : Nat) : Int) := by omega
  have z1 : ((A : Nat) : Int) ≤ ((s.size : Nat) : Int) := by omega
  obtain ⟨t, ht⟩ : ∃ t, s.extract A s.size = t := ⟨_, rfl⟩
  have hbt : Hid (bs t = (bs s).drop A) := by show _ = _; rw [← ht, bs_from]
  have hts : t.size = s.size - A := by rw [← ht, ext_size hAs]
  have hts' : Hid (t.size + A = s.size) := by show _ = _; omega
  obtain ⟨R, hR⟩ : ∃ R, strL ((bs s).drop A) A r0 = R := ⟨_, rfl⟩
  rw [hR]
  have hR' : Hid (strL ((bs t).drop 0) (A + 0) r0 = R) := by show _ = _; rw [List.drop_zero, hbt.out, Nat.add_zero]; exact hR
  have hM := sm0 w t
  clear hA hp hR hts
  go_enter Tryz.func72, Tryz.ntmps72
  go_wp2
  go_loopw [] (fun wr => ∃ (pos : Nat) (S : RS), pos ≤ t.size ∧ Hid (SM w wr t pos S) ∧ Hid (S.q ≤ 4 ∧ InvR S ∧ S.txt.length ≤ 4 * pos) ∧ Hid (strL ((bs t).drop pos) (A + pos) S = R)) (fun wr => t.size - wr.iterPos (w.heap.size + 2))
  case atStart => exact ⟨0, r0, Nat.zero_le _, hM, ⟨r0_q, inv_r0, by decide⟩, hR'⟩
  case round =>
    clear hM hR'
    obtain ⟨pos, S, hpos, hSM, hI, hE⟩ := hrel
    by_cases hlt : pos < t.size
    · obtain ⟨T, hT⟩ : ∃ T, T = A + pos := ⟨_, rfl⟩
      have hTs : T < s.size := by have := hts'.out; omega
      have W2 : IntKind.i64.wrap (((A : Nat) : Int) + (pos : Int)) = ((T : Nat) : Int) := by rw [IntKind.wrap_i64]; omega
      have y0 : (0 : Int) ≤ ((T : Nat) : Int) := by omega
      have y1 : ((T : Nat) : Int) ≤ ((s.size : Nat) : Int) := by omega
      have hbT : (bs t).drop pos = (bs s).drop T := by rw [hbt.out, List.drop_drop, hT]
      have h0 : (bs s).drop T ≠ [] := by intro h; have := congrArg List.length h; rw [List.length_drop, bs_len] at this; simp at this; omega
      have hnx0 := fun ty => Lib.run_next_any_at (P := Tryz.prog) wr (w.heap.size + 2) t pos ty hSM.out.itr hlt
      rw [decode_rune, hbT] at hnx0
      have kB := fun w' => broken_any (s.extract T s.size) (by rw [bs_from]; exact h0) w'
      rw [bs_from] at kB
      by_cases hg : Good ((bs s).drop T)
      · have hgl := good_ne hg h0
        have hlen : ((bs s).drop T).length = s.size - T := by rw [List.length_drop, bs_len]
        rw [goodB_yes hg, if_pos rfl] at hnx0
        rw [goodB_yes hg] at kB
        have hrv : runeB ((bs s).drop T) = valB ((bs s).drop T) := by unfold runeB; rw [goodB_yes hg, if_pos rfl]
        rw [hrv] at hnx0 kB
        have hRt := good_right hg
        have hE1 : Hid (strL ((bs s).drop T) T S = R) := by show _ = _; rw [← hE.out, hbT, hT]
        have hle : pos + lenB ((bs s).drop T) ≤ t.size := by have := hts'.out; rw [hlen] at hgl; omega
        have hdr : Hid (((bs s).drop T).drop (lenB ((bs s).drop T)) = (bs t).drop (pos + lenB ((bs s).drop T)) ∧ T + lenB ((bs s).drop T) = A + (pos + lenB ((bs s).drop T))) := ⟨by rw [← hbT, List.drop_drop], by omega⟩
        have hAll : Hid ((takeR S (valB ((bs s).drop T))).q = 5 → R = ((takeR S (valB ((bs s).drop T))).txt, T + 1, 0, 0)) := fun h5 => by rw [← hE1.out, str_all h0 hg h5]
        have hWr : Hid ((takeR S (valB ((bs s).drop T))).q = 6 → R = ([], 0, 5, T)) := fun h6 => by rw [← hE1.out, str_wrong h0 hg h6]
        have hOn : Hid ((takeR S (valB ((bs s).drop T))).q ≠ 5 → (takeR S (valB ((bs s).drop T))).q ≠ 6 → strL ((bs t).drop (pos + lenB ((bs s).drop T))) (A + (pos + lenB ((bs s).drop T))) (takeR S (valB ((bs s).drop T))) = R) := fun h5 h6 => by rw [← hdr.out.1, ← hdr.out.2, ← hE1.out, str_on h0 hg h5 h6]
        have hL1 := hgl.1
        generalize valB ((bs s).drop T) = V at *
        generalize lenB ((bs s).drop T) = L at *
        have hN := hSM.out.next (pos + L)
        have kT := take_rd (w := wr.iterAt (w.heap.size + 2) t (pos + L)) V hRt hN.rd hI.out.1 hI.out.2.1 (by have := hI.out.2.2; omega)
        have hnx : ∀ ty, (Instr.next (.pointer (some ⟨w.heap.size + 2, 0, none⟩)) true ty).run Tryz.prog wr = .ok (.tuple #[.bool true, .int .i64 pos, .int .i32 (V : Nat)]) (wr.iterAt (w.heap.size + 2) t (pos + L)) := hnx0
        have hN' : Hid (SM w (wr.iterAt (w.heap.size + 2) t (pos + L)) t (pos + L) S) := hN
        have htx : Hid ((takeR S V).txt.length ≤ 4 * (pos + L)) := by have := take_txt S V; have := hI.out.2.2; show _ ≤ _; omega
        have hin : Hid ((takeR S V).q ≠ 6 → InvR (takeR S V)) := fun h => inv_take hI.out.2.1 h
        have hq4 : Hid ((takeR S V).q ≠ 5 → (takeR S V).q ≠ 6 → (takeR S V).q ≤ 4) := fun h5 h6 => take_on hI.out.1 h5 h6
        have W3 : IntKind.i64.wrap (((T : Nat) : Int) + 1) = ((T + 1 : Nat) : Int) := by rw [IntKind.wrap_i64]; omega
        have hpo := hSM.out.pos
        simp only [Bool.not_true] at kB
        clear hnx0 hbT h0 hg hgl hlen hrv hE hE1 hdr hN hI hSM hRt hT
        generalize takeR S V = S2 at *
        generalize wr.iterAt (w.heap.size + 2) t (pos + L) = wi at *
        by_cases h5 : S2.q = 5
        · have hRR := hAll.out h5
          have a5 : ((S2.q : Nat) : Int) = 5 := by omega
          have kT' : Calls Tryz.prog 91 #[.pointer (some ⟨w.heap.size + 1, 0, none⟩), .int .i32 (V : Int)] wi fun e w' => e = .returned (.tuple #[]) ∧ SM w w' t (pos + L) S2 := kT.mono fun e w' ⟨h1, h2, h3⟩ => ⟨h1, hN'.out.take h2 h3⟩
          subst hRR
          clear kT hAll hWr hOn hq4 hin htx h5
          have a5' : Hid (((S2.q : Nat) : Int) = 5) := a5
          clear a5
          go_wp2_with (first
            | (go_at_call 89; refine (kB _).mono ?_; rintro e w1 ⟨rfl, hw1⟩; subst hw1; clear kB)
            | (go_at_call 91; refine kT'.mono ?_; rintro e w2 ⟨rfl, M2⟩; clear kT'; have d0 : w2.cell? ⟨w.heap.size + 1, 0, none⟩ = some (.int .i64 5) := (by (rw [M2.rd.c0, a5'.out])); obtain ⟨p2, v2, hb2⟩ := M2.rd; have kS := bstr_any hb2; have H2 : Hid (SM w w2 t (pos + L) S2) := M2; clear M2 hb2)
            | (go_at_call 92; refine kS.mono ?_; rintro e w3 ⟨rfl, hb3⟩; clear kS; have K := H2.out.flt.kept hb3 (by omega); have c0 : w3.cell? ⟨w.heap.size, 0, none⟩ = some (.int .i64 0) := K.cell 0; have c1 : w3.cell? ⟨w.heap.size, 1, none⟩ = some (.int .i64 0) := K.cell 1; have f0 := K.fz 0; have f1 := K.fz 1; have hB : Hid (Below w.heap.size w w3) := H2.out.bel.trans (hb3.mono (by omega))))
          refine bodyPost_ret (v := .tuple #[.string (strOfNums S2.txt), .int .i64 ((T + 1 : Nat) : Int), .agg #[.int .i64 0, .int .i64 0]]) (by simp [results, Tryz.results72, go_sem, *]) rfl ⟨rfl, ?_⟩
          refine Below.setCell (Below.setCell hB.out ?_ _) ?_ _ <;> simp
        · by_cases h6 : S2.q = 6
          · have hRR := hWr.out h6
            have a6 : ((S2.q : Nat) : Int) = 6 := by omega
            have kT' : Calls Tryz.prog 91 #[.pointer (some ⟨w.heap.size + 1, 0, none⟩), .int .i32 (V : Int)] wi fun e w' => e = .returned (.tuple #[]) ∧ SM w w' t (pos + L) S2 := kT.mono fun e w' ⟨h1, h2, h3⟩ => ⟨h1, hN'.out.take h2 h3⟩
            subst hRR
            have a6' : Hid (((S2.q : Nat) : Int) = 6) := a6
            clear kT hAll hWr hOn hq4 hin htx h5 h6 a6
            go_wp2_with (first
              | (go_at_call 89; refine (kB _).mono ?_; rintro e w1 ⟨rfl, hw1⟩; subst hw1; clear kB)
              | (go_at_call 91; refine kT'.mono ?_; rintro e w2 ⟨rfl, M2⟩; clear kT'; have d0 : w2.cell? ⟨w.heap.size + 1, 0, none⟩ = some (.int .i64 6) := (by (rw [M2.rd.c0, a6'.out])); have K := M2.flt; have c0 : w2.cell? ⟨w.heap.size, 0, none⟩ = some (.int .i64 0) := K.cell 0; have c1 : w2.cell? ⟨w.heap.size, 1, none⟩ = some (.int .i64 0) := K.cell 1; have f0 := K.fz 0; have f1 := K.fz 1; have hB : Hid (Below w.heap.size w w2) := M2.bel; clear M2 K))
            refine bodyPost_ret (v := .tuple #[.string (strOfNums []), .int .i64 0, .agg #[.int .i64 5, .int .i64 (T : Nat)]]) (by simp [results, Tryz.results72, go_sem, *]; rfl) rfl ⟨rfl, ?_⟩
            refine Below.setCell (Below.setCell hB.out ?_ _) ?_ _ <;> simp
          · have hOn' : Hid _ := hOn.out h5 h6
            have hInv : Hid (S2.q ≤ 4 ∧ InvR S2 ∧ S2.txt.length ≤ 4 * (pos + L)) := ⟨hq4.out h5 h6, hin.out h6, htx.out⟩
            have a5 : (((S2.q : Nat) : Int) == 5) = false := by simp; omega
            have a6 : (((S2.q : Nat) : Int) == 6) = false := by simp; omega
            have kT' : Calls Tryz.prog 91 #[.pointer (some ⟨w.heap.size + 1, 0, none⟩), .int .i32 (V : Int)] wi fun e w' => e = .returned (.tuple #[]) ∧ SM w w' t (pos + L) S2 := kT.mono fun e w' ⟨h1, h2, h3⟩ => ⟨h1, hN'.out.take h2 h3⟩
            clear kT hAll hWr hOn hq4 hin htx h5 h6
            go_wp2_with (first
              | (go_at_call 89; refine (kB _).mono ?_; rintro e w1 ⟨rfl, hw1⟩; subst hw1; clear kB)
              | (go_at_call 91; refine kT'.mono ?_; rintro e w2 ⟨rfl, M2⟩; clear kT'; have d0 : w2.cell? ⟨w.heap.size + 1, 0, none⟩ = some (.int .i64 (S2.q : Nat)) := M2.rd.c0; have H2 : Hid (SM w w2 t (pos + L) S2) := M2; clear M2))
            go_roundw
            case rel => exact ⟨pos + L, S2, by omega, H2, hInv, hOn'⟩
            case measure => rw [H2.out.pos, hpo]; omega
      · rw [goodB_no hg, if_neg (by simp)] at hnx0
        rw [goodB_no hg] at kB
        have hrv : runeB ((bs s).drop T) = 65533 := by unfold runeB; rw [goodB_no hg, if_neg (by simp)]
        rw [hrv] at hnx0 kB
        have hRR : R = ([], 0, brkR ((bs s).drop T) T (S.q == 0)) := by rw [← hE.out, hbT, ← hT, str_bad h0 hg]
        have hnx : ∀ ty, (Instr.next (.pointer (some ⟨w.heap.size + 2, 0, none⟩)) true ty).run Tryz.prog wr = .ok (.tuple #[.bool true, .int .i64 pos, .int .i32 65533]) (wr.iterAt (w.heap.size + 2) t (pos + 1)) := hnx0
        have hN := hSM.out.next (pos + 1)
        have kF := fun f w' => brkf_any s T f w' hTs hs hg
        have d0 : (wr.iterAt (w.heap.size + 2) t (pos + 1)).cell? ⟨w.heap.size + 1, 0, none⟩ = some (.int .i64 (S.q : Nat)) := hN.rd.c0
        have hN' : Hid (SM w (wr.iterAt (w.heap.size + 2) t (pos + 1)) t (pos + 1) S) := hN
        have a0 : (((S.q : Nat) : Int) == 0) = (S.q == 0) := by rw [Bool.eq_iff_iff]; simp
        simp only [Bool.not_false] at kB
        have kF' := kF (S.q == 0)
        clear kF
        obtain ⟨F, hF⟩ : ∃ F, brkR ((bs s).drop T) T (S.q == 0) = F := ⟨_, rfl⟩
        rw [hF] at hRR kF'
        clear hF
        subst hRR
        have kB' : ∀ (w' : World), Calls Tryz.prog 89 #[.string (s.extract T s.size), .int .i32 65533] w' fun e w'' => e = .returned (.bool true) ∧ w'' = w' := kB
        clear hnx0 hbT h0 hg hrv hE hN hI hSM hT kB
        generalize wr.iterAt (w.heap.size + 2) t (pos + 1) = wi at *
        generalize (S.q == 0) = Fq at *
        go_wp2_with (first
          | (go_at_call 89; refine (kB' _).mono ?_; rintro e w1 ⟨rfl, hw1⟩; subst hw1; clear kB')
          | (go_at_call 90; refine (kF' _).mono ?_; rintro e w2 ⟨rfl, hb2⟩; have K := hN'.out.flt.kept hb2 hN'.out.flt.lt; have c0 : w2.cell? ⟨w.heap.size, 0, none⟩ = some (.int .i64 0) := K.cell 0; have c1 : w2.cell? ⟨w.heap.size, 1, none⟩ = some (.int .i64 0) := K.cell 1; have f0 := K.fz 0; have f1 := K.fz 1; have hB : Hid (Below w.heap.size w w2) := hN'.out.bel.trans (hb2.mono hN'.out.bel.size); clear K))
        refine bodyPost_ret (v := .tuple #[.string (strOfNums []), .int .i64 0, .agg #[.int .i64 (F.1 : Nat), .int .i64 (F.2 : Nat)]]) (by simp [results, Tryz.results72, go_sem, *]; rfl) rfl ⟨rfl, ?_⟩
        refine Below.setCell (Below.setCell hB.out ?_ _) ?_ _ <;> simp
    · obtain rfl : pos = t.size := by omega
      have hnx : ∀ ty, (Instr.next (.pointer (some ⟨w.heap.size + 2, 0, none⟩)) true ty).run Tryz.prog wr = _ := fun ty => Lib.run_next_end_at wr (w.heap.size + 2) t t.size ty hSM.out.itr (by omega)
      have hRR : R = ([], 0, 3, s.size) := by
        rw [← hE.out, List.drop_of_length_le (by rw [bs_len]; omega), str_nil, Nat.add_comm, hts'.out]
      subst hRR
      have K := hSM.out.flt
      have c0 : wr.cell? ⟨w.heap.size, 0, none⟩ = some (.int .i64 0) := K.cell 0
      have c1 : wr.cell? ⟨w.heap.size, 1, none⟩ = some (.int .i64 0) := K.cell 1
      have f0 := K.fz 0
      have f1 := K.fz 1
      have hB : Hid (Below w.heap.size w wr) := hSM.out.bel
      clear hE hSM hI K
      go_wp2
      refine bodyPost_ret (v := .tuple #[.string (strOfNums []), .int .i64 0, .agg #[.int .i64 3, .int .i64 (s.size : Nat)]]) (by simp [results, Tryz.results72, go_sem, *]; rfl) rfl ⟨rfl, ?_⟩
      refine Below.setCell (Below.setCell hB.out ?_ _) ?_ _ <;> simp
end Go.Proofs.YtmlacmoembjeoaaGreatDoor
namespace Go.Proofs.YtmlacmoembjeoaaGreatDoor
open Go.RowKit

theorem allD_stop {l : List Int} {k : Nat} (hk : k < l.length) (h : isD (l.getD k 0) = false) : allD l = false := by
  cases h1 : allD l with
  | false => rfl
  | true =>
    have h2 := (allD_iff l).1 h1
    rw [List.getD_eq_getElem?_getD, List.getElem?_eq_getElem hk] at h
    have h3 := h2 _ (List.getElem_mem hk)
    rw [Option.getD_some] at h
    rw [isD_iff.2 h3] at h
    cases h
theorem alld_any (s : ByteArray) (hsz : s.size ≤ 4096) (w : World) : Calls Tryz.prog 128 #[.string s] w fun e w' => e = .returned (.bool (allD (bs s))) ∧ w' = w := by
  have kD := isdigit_any
  have hall : Hid (∀ k, k < s.size → isD ((bs s).getD k 0) = false → allD (bs s) = false) := fun k hk h => allD_stop (by rw [bs_len]; exact hk) h
  have hend : Hid ((∀ c ∈ (bs s).take s.size, 48 ≤ c ∧ c ≤ 57) → allD (bs s) = true) := fun h => by
    rw [List.take_of_length_le (by rw [bs_len]; exact Nat.le_refl _)] at h
    exact (allD_iff _).2 h
  generalize allD (bs s) = R at *
  go_enter Tryz.func128, Tryz.ntmps128
  go_wp2
  go_loop [6] (fun v => ∃ k : Nat, k ≤ s.size ∧ v = .int .i64 k ∧ Hid (∀ c ∈ (bs s).take k, 48 ≤ c ∧ c ≤ 57)) (fun v => s.size - (intOf v).toNat)
  case atStart => exact ⟨0, Nat.zero_le _, rfl, (by intro c hc; simp at hc)⟩
  case round =>
    obtain ⟨k, hk, rfl, hd⟩ := hrel
    by_cases hlt : k < s.size
    · have bk := bs_at s hlt
      have hN := hall.out k hlt
      have k1 := kD (((s[k]'hlt).toNat : Nat) : Int) w
      rw [← bk] at k1
      cases hA : isD ((bs s).getD k 0) with
      | false =>
        obtain rfl := hN hA
        rw [hA, bk] at k1
        clear bk hA hN
        go_wp2_with (go_at_call 143; refine k1.mono ?_; rintro e w1 ⟨rfl, hw⟩; obtain rfl : w = w1 := hw.symm)
        go_ret
        exact ⟨rfl, rfl⟩
      | true =>
        have hC : Hid (∀ c ∈ (bs s).take (k + 1), 48 ≤ c ∧ c ≤ 57) := take_digs hd.out (by rw [bs_len]; exact hlt) (isD_iff.1 hA)
        rw [hA, bk] at k1
        clear bk hA hN
        go_wp2_with (go_at_call 143; refine k1.mono ?_; rintro e w1 ⟨rfl, hw⟩; obtain rfl : w = w1 := hw.symm)
        go_round
        case rel => exact ⟨k + 1, by omega, by go_num, hC⟩
        case measure => simp [intOf]; omega
    · obtain rfl : k = s.size := by omega
      obtain rfl := hend.out hd.out
      go_wp2
      go_ret
      exact ⟨rfl, rfl⟩
theorem bs_nil {t : ByteArray} (h : bs t = []) : t = noS := by
  apply bs_inj
  rw [h]
  rfl
set_option maxHeartbeats 1000000 in
theorem make_any (n : Bool) (s : ByteArray) (x : Int) (w : World) : Calls Tryz.prog 109 #[.bool n, .string s, .int .i64 x] w fun e w' => e = .returned (.tuple #[.agg #[.bool (makeA n s x).1.1, .string (makeA n s x).1.2.1, .int .i64 (makeA n s x).1.2.2], .int .i64 (makeA n s x).2]) ∧ Below w.heap.size w w' := by
  by_cases h0 : s.size = 0
  · have hR : makeA n s x = (noN, 1) := by unfold makeA; rw [if_pos (.inl h0)]
    rw [hR]
    obtain rfl := empty_size h0
    clear h0 hR
    unfold noN noS
    go_enter Tryz.func109, Tryz.ntmps109
    go_wp2
    refine bodyPost_ret (v := .tuple #[.agg #[.bool false, .string ⟨#[]⟩, .int .i64 0], .int .i64 1]) (by simp [results, Tryz.results109, go_sem]) rfl ⟨rfl, ?_⟩
    exact alloc_below _ _
  have he := not_empty (s := s) (by omega)
  by_cases h1 : 4096 < s.size
  · have hR : makeA n s x = (noN, 1) := by unfold makeA; rw [if_pos (.inr (.inl h1))]
    rw [hR]
    have d1 : decide (4096 < ((s.size : Nat) : Int)) = true := by simp; omega
    clear h0 h1 hR
    unfold noN noS
    go_enter Tryz.func109, Tryz.ntmps109
    go_wp2
    refine bodyPost_ret (v := .tuple #[.agg #[.bool false, .string ⟨#[]⟩, .int .i64 0], .int .i64 1]) (by simp [results, Tryz.results109, go_sem]) rfl ⟨rfl, ?_⟩
    exact alloc_below _ _
  have d1 : decide (4096 < ((s.size : Nat) : Int)) = false := by simp; omega
  have kA := alld_any s (by omega)
  cases hA : allD (bs s) with
  | false =>
    have hR : makeA n s x = (noN, 1) := by unfold makeA; rw [if_pos (.inr (.inr hA))]
    rw [hR]
    rw [hA] at kA
    clear h0 h1 hR hA
    unfold noN noS
    go_enter Tryz.func109, Tryz.ntmps109
    go_wp2_with (go_at_call 128; refine (kA _).mono ?_; rintro e w1 ⟨rfl, hw⟩; rw [hw]; clear hw)
    refine bodyPost_ret (v := .tuple #[.agg #[.bool false, .string ⟨#[]⟩, .int .i64 0], .int .i64 1]) (by simp [results, Tryz.results109, go_sem]) rfl ⟨rfl, ?_⟩
    exact alloc_below _ _
  | true =>
    rw [hA] at kA
    have hM : makeA n s x = if longL (bs s) = [] then (zeroN, 0)
        else if 800 < (shortL (longL (bs s))).length ∨ x < -2000 - (((longL (bs s)).length - (shortL (longL (bs s))).length : Nat) : Int) ∨ 2000 - (((longL (bs s)).length - (shortL (longL (bs s))).length : Nat) : Int) < x then (noN, 11)
        else ((n, strOfNums (shortL (longL (bs s))), x + (((longL (bs s)).length - (shortL (longL (bs s))).length : Nat) : Int)), 0) := by
      unfold makeA
      rw [if_neg (by rintro (h | h | h) <;> simp_all)]
    rw [hM]
    have kL := triml_any s
    have hl := long_len (bs s)
    have hsl := short_len (longL (bs s))
    rw [bs_len] at hl
    have hd : Digs (shortL (longL (bs s))) := fun c hc => (allD_iff _).1 hA c (mem_short hc)
    clear hM hA
    obtain ⟨L, hLe⟩ : ∃ L, longL (bs s) = L := ⟨_, rfl⟩
    rw [hLe] at kL hl hsl hd ⊢
    by_cases hL : L = []
    · rw [if_pos hL]
      subst hL
      clear hLe
      have kL' : ∀ w, Calls Tryz.prog 129 #[.string s, .string zS] w fun e w' => e = .returned (.string ⟨#[]⟩) ∧ w' = w := fun w => by
        refine (kL w).mono ?_
        rintro e w' ⟨⟨t, rfl, ht⟩, hw⟩
        obtain rfl := bs_nil ht
        exact ⟨rfl, hw⟩
      have kZ := zero_any
      clear kL hl hsl hd h0 h1
      unfold zeroN zS at *
      have hr := row_new w false ⟨#[]⟩ 0
      go_enter Tryz.func109, Tryz.ntmps109
      go_wp2_with (first
        | (go_at_call 128; refine (kA _).mono ?_; rintro e w1 ⟨rfl, hw⟩; rw [hw]; clear hw)
        | (go_at_call 129; refine (kL' _).mono ?_; rintro e w1 ⟨rfl, hw⟩; rw [hw]; clear hw)
        | (go_at_call 130; refine (kZ _).mono ?_; rintro e w1 ⟨rfl, hb⟩; obtain ⟨c0, c1, c2⟩ := (hr.kept hb).at; have f0 := (hr.kept hb).fz 0; have f1 := (hr.kept hb).fz 1; have f2 := (hr.kept hb).fz 2))
      refine bodyPost_ret (v := .tuple #[.agg #[.bool false, .string ⟨#[48]⟩, .int .i64 0], .int .i64 0]) (by simp [results, Tryz.results109, go_sem, *]) rfl ⟨rfl, ?_⟩
      exact (((box_below hb).setCell (Nat.le_refl _) _).setCell (Nat.le_refl _) _).setCell (Nat.le_refl _) _
    rw [if_neg hL]
    obtain ⟨T, hT, hT0, hTl⟩ : ∃ T, bs T = L ∧ 0 < T.size ∧ T.size = L.length := by
      obtain ⟨T, hT⟩ : ∃ T, bs T = L := ⟨⟨(Lib.trimLeftB s.data.toList 48).toArray⟩, by rw [bs_trimL]; exact hLe⟩
      have h2 := bs_len T
      rw [hT] at h2
      exact ⟨T, hT, by rw [← h2]; exact List.length_pos_iff.2 hL, h2.symm⟩
    have kL' : ∀ w, Calls Tryz.prog 129 #[.string s, .string zS] w fun e w' => e = .returned (.string T) ∧ w' = w := fun w => by
      refine (kL w).mono ?_
      rintro e w' ⟨⟨t, rfl, ht⟩, hw⟩
      obtain rfl := bs_inj (ht.trans hT.symm)
      exact ⟨rfl, hw⟩
    obtain ⟨U, hU, hUl⟩ : ∃ U, bs U = shortL L ∧ U.size = (shortL L).length := by
      have h1 := bs_trimR T
      rw [hT] at h1
      have h2 := bs_len ⟨(Lib.trimRightB T.data.toList 48).toArray⟩
      rw [h1] at h2
      exact ⟨_, h1, h2.symm⟩
    have kR : ∀ w, Calls Tryz.prog 131 #[.string T, .string zS] w fun e w' => e = .returned (.string U) ∧ w' = w := fun w => by
      refine (trimr_any T w (by omega)).mono ?_
      rintro e w' ⟨⟨t, rfl, ht⟩, hw⟩
      rw [hT] at ht
      obtain rfl := bs_inj (ht.trans hU.symm)
      exact ⟨rfl, hw⟩
    have hTe := not_empty hT0
    have eU : strOfNums (shortL L) = U := by rw [← hU, str_bs]
    rw [eU, ← hTl, ← hUl]
    rw [← hTl] at hl
    rw [← hTl, ← hUl] at hsl
    have kC := clone_any U (hs := by omega)
    have w1 : IntKind.i64.wrap ((T.size : Int) - (U.size : Int)) = ((T.size - U.size : Nat) : Int) := by rw [IntKind.wrap_i64] <;> omega
    obtain ⟨G, hG⟩ : ∃ k, T.size - U.size = k := ⟨_, rfl⟩
    have hG4 : G ≤ 4096 := by omega
    rw [hG] at w1 ⊢
    have w2 : IntKind.i64.wrap (-2000 - (G : Int)) = -2000 - (G : Int) := by rw [IntKind.wrap_i64] <;> omega
    have w3 : IntKind.i64.wrap (2000 - (G : Int)) = 2000 - (G : Int) := by rw [IntKind.wrap_i64] <;> omega
    clear hG hsl hl h0 h1 hT hU eU kL hLe hL hd hTl hUl hT0
    have hr := row_new w false ⟨#[]⟩ 0
    unfold zS at *
    by_cases g1 : 800 < U.size
    · rw [if_pos (.inl g1)]
      have e1 : decide (800 < ((U.size : Nat) : Int)) = true := by simp; omega
      clear g1 hG4 w2 w3
      unfold noN noS
      go_enter Tryz.func109, Tryz.ntmps109
      go_wp2_with (first
        | (go_at_call 128; refine (kA _).mono ?_; rintro e w1 ⟨rfl, hw⟩; rw [hw]; clear hw)
        | (go_at_call 129; refine (kL' _).mono ?_; rintro e w1 ⟨rfl, hw⟩; rw [hw]; clear hw)
        | (go_at_call 131; refine (kR _).mono ?_; rintro e w1 ⟨rfl, hw⟩; rw [hw]; clear hw)
        | (go_at_call 93; refine (kC _).mono ?_; rintro e w1 ⟨rfl, hb⟩; obtain ⟨c0, c1, c2⟩ := (hr.kept hb).at; have f0 := (hr.kept hb).fz 0; have f1 := (hr.kept hb).fz 1; have f2 := (hr.kept hb).fz 2))
      refine bodyPost_ret (v := .tuple #[.agg #[.bool false, .string ⟨#[]⟩, .int .i64 0], .int .i64 11]) (by simp [results, Tryz.results109, go_sem, *]) rfl ⟨rfl, ?_⟩
      exact alloc_below _ _
    have e1 : decide (800 < ((U.size : Nat) : Int)) = false := by simp; omega
    by_cases g2 : x < -2000 - (G : Int)
    · rw [if_pos (.inr (.inl g2))]
      have e2 : decide (x < -2000 - (G : Int)) = true := by simpa using g2
      clear g1 g2 hG4
      unfold noN noS
      go_enter Tryz.func109, Tryz.ntmps109
      go_wp2_with (first
        | (go_at_call 128; refine (kA _).mono ?_; rintro e w1 ⟨rfl, hw⟩; rw [hw]; clear hw)
        | (go_at_call 129; refine (kL' _).mono ?_; rintro e w1 ⟨rfl, hw⟩; rw [hw]; clear hw)
        | (go_at_call 131; refine (kR _).mono ?_; rintro e w1 ⟨rfl, hw⟩; rw [hw]; clear hw)
        | (go_at_call 93; refine (kC _).mono ?_; rintro e w1 ⟨rfl, hb⟩; obtain ⟨c0, c1, c2⟩ := (hr.kept hb).at; have f0 := (hr.kept hb).fz 0; have f1 := (hr.kept hb).fz 1; have f2 := (hr.kept hb).fz 2))
      refine bodyPost_ret (v := .tuple #[.agg #[.bool false, .string ⟨#[]⟩, .int .i64 0], .int .i64 11]) (by simp [results, Tryz.results109, go_sem, *]) rfl ⟨rfl, ?_⟩
      exact alloc_below _ _
    have e2 : decide (x < -2000 - (G : Int)) = false := by simpa using g2
    by_cases g3 : 2000 - (G : Int) < x
    · rw [if_pos (.inr (.inr g3))]
      have e3 : decide (2000 - (G : Int) < x) = true := by simpa using g3
      clear g1 g2 g3 hG4
      unfold noN noS
      go_enter Tryz.func109, Tryz.ntmps109
      go_wp2_with (first
        | (go_at_call 128; refine (kA _).mono ?_; rintro e w1 ⟨rfl, hw⟩; rw [hw]; clear hw)
        | (go_at_call 129; refine (kL' _).mono ?_; rintro e w1 ⟨rfl, hw⟩; rw [hw]; clear hw)
        | (go_at_call 131; refine (kR _).mono ?_; rintro e w1 ⟨rfl, hw⟩; rw [hw]; clear hw)
        | (go_at_call 93; refine (kC _).mono ?_; rintro e w1 ⟨rfl, hb⟩; obtain ⟨c0, c1, c2⟩ := (hr.kept hb).at; have f0 := (hr.kept hb).fz 0; have f1 := (hr.kept hb).fz 1; have f2 := (hr.kept hb).fz 2))
      refine bodyPost_ret (v := .tuple #[.agg #[.bool false, .string ⟨#[]⟩, .int .i64 0], .int .i64 11]) (by simp [results, Tryz.results109, go_sem, *]) rfl ⟨rfl, ?_⟩
      exact alloc_below _ _
    have e3 : decide (2000 - (G : Int) < x) = false := by simpa using g3
    rw [if_neg (by rintro (h | h | h) <;> contradiction)]
    obtain ⟨Z, hZ⟩ : ∃ Z, x + (G : Int) = Z := ⟨_, rfl⟩
    have w4 : IntKind.i64.wrap (x + (G : Int)) = Z := by rw [IntKind.wrap_i64] <;> omega
    dsimp only
    rw [hZ]
    clear g1 g2 g3 hG4 hZ
    go_enter Tryz.func109, Tryz.ntmps109
    go_wp2_with (first
      | (go_at_call 128; refine (kA _).mono ?_; rintro e w1 ⟨rfl, hw⟩; rw [hw]; clear hw)
      | (go_at_call 129; refine (kL' _).mono ?_; rintro e w1 ⟨rfl, hw⟩; rw [hw]; clear hw)
      | (go_at_call 131; refine (kR _).mono ?_; rintro e w1 ⟨rfl, hw⟩; rw [hw]; clear hw)
      | (go_at_call 93; refine (kC _).mono ?_; rintro e w1 ⟨rfl, hb⟩; obtain ⟨c0, c1, c2⟩ := (hr.kept hb).at; have f0 := (hr.kept hb).fz 0; have f1 := (hr.kept hb).fz 1; have f2 := (hr.kept hb).fz 2))
    refine bodyPost_ret (v := .tuple #[.agg #[.bool n, .string U, .int .i64 Z], .int .i64 0]) (by simp [results, Tryz.results109, go_sem, *]) rfl ⟨rfl, ?_⟩
    exact (((box_below hb).setCell (Nat.le_refl _) _).setCell (Nat.le_refl _) _).setCell (Nat.le_refl _) _
end Go.Proofs.YtmlacmoembjeoaaGreatDoor
