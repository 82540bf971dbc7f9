/-
  A load is framed and found.
-/
import Derived.Test.YticlobjikpfcjabNFeed
import Derived.Test.YticlobjikpfcjabNEnc
import Derived.Test.YticlobjikpfcjabNSameL
import Derived.Lib.SlBytesConst
namespace Go.Proofs.Yticlobjikpfcjab
open Go.RowKit

theorem one_const (w : World) (n : Int) (h : 0 ≤ n ∧ n < 256) (m : Nat × Nat) : Bytes (w.alloc (.cells #[.int .u8 n] 5 m)) (some ⟨w.heap.size, 0, none⟩) [n] := by
  refine ⟨by intro c hc; simp at hc; omega, by simp [maxLen], .inr ⟨_, _, rfl, ?_⟩⟩
  intro i hi
  rw [World.cell?_alloc_mark]
  match i, hi with
  | 0, _ => rfl
theorem owns_one (w : World) (x : Int) (hx : 0 ≤ x ∧ x < 256) (base : Nat) (hb : base ≤ w.heap.size) :
    OwnsB (w.alloc (.cells #[.int .u8 x] 5)) base (.slice (some ⟨w.heap.size, 0, none⟩) 1 1) [x] := by
  refine ⟨⟨rfl, .inr ⟨w.heap.size, 1, _, rfl, hb, heap_alloc_new w _, Nat.le_refl _, by decide, rfl, rfl⟩⟩, ?_⟩
  intro c hc
  simp only [List.mem_cons, List.not_mem_nil, or_false] at hc
  subst hc
  exact hx

theorem alive_scan : scanL ([] ++ ([7] ++ frameL [97])) = ([[97]], 10) := by
  rw [List.nil_append]
  show scanL (7 :: frameL [97]) = _
  rw [scan_other 7 _ (by decide)]
  have h := scan_frame [97] [] (by decide)
  rw [List.append_nil] at h
  rw [h, scan_nil]
  rfl
theorem alive_drop : ([] ++ ([7] ++ frameL [97])).drop 10 = [] := List.drop_of_length_le (by simp [frame_len])
theorem alive_len : ([7] ++ frameL [97]).length = 10 := by simp [frame_len]

set_option maxHeartbeats 1000000 in
theorem alive_any (w : World) :
    Calls Try.prog 6 #[] w fun e w' => e = .returned (.bool true) ∧ Below w.heap.size w w' := by
  have kc := fun (w : World) (C : Array Value) (n c : Nat) => Lib.run_convert_bytes_const (P := Try.prog) w 26 5 C n c Try.underlying26 Try.underlying5
  go_enter Try.func6, Try.ntmps6
  go_wp2_with fail
  refine (encode_ok _ 1 1 [97] _ rfl (one_const w 97 (by decide) _) (by simp) (by decide)).mono ?_
  rintro e w1 ⟨v1, rfl, ho1, hb1'⟩
  have hb1 : Below w.heap.size w w1 := ((Below.refl w.heap.size w).alloc (Nat.le_refl _) _).trans (hb1'.mono (by simp))
  obtain ⟨g1, n1, c1, rfl, hR1, hl1, hc1, hm1⟩ := ho1.row (by simp [frame_len])
  obtain rfl : n1 = 9 := by rw [← hl1.out, frame_len]; rfl
  clear hb1' hl1
  have hs1 := hb1.size
  go_wp2_with fail
  refine (new_any w1).mono ?_
  rintro e w2 ⟨g2, rfl, hst2, hg2, hb2⟩
  have hR2 := (hR1.out.bytes).kept hb2
  have e0 : (frameL [97]).getD 0 0 = 165 := by rw [frame_cons]; rfl
  have c0 := hR1.out.cell 0 (by omega)
  rw [e0] at c0
  have c0' : w2.cell? ⟨g1, 0, none⟩ = some (.int .u8 165) := by rw [hb2.cell (p := ⟨g1, 0, none⟩) (hR1.out.1.lt g1 rfl).2]; exact c0
  have hb3 : Below w.heap.size w w2 := hb1.trans (hb2.mono hs1)
  have hs2 := hb3.size
  have hB2 : Hid (Bytes w2 (some ⟨g1, 0, none⟩) (frameL [97])) := hR2
  have hS2 : Hid (Stm w2 g2 [] 0) := hst2
  clear c0 e0 hR1 hb2 ho1 hR2 hst2
  go_wp2_with (first
    | (at_builtin; refine wpList_append_bytes rfl _ (.tmp 31) rfl w.heap.size (.slice (some ⟨w2.heap.size, 0, none⟩) 1 1) [7] (frameL [97]) rfl (owns_one w2 7 (by decide) _ hs2) (some ⟨g1, 0, none⟩) 9 c1 rfl (by rw [frame_len]; rfl) (by simp) (hB2.out.kept ((Below.refl _ _).alloc (Nat.le_refl _) _)) (by simp [frame_len]) (by simp; omega) ?_; intro v4 w4 ho4 hg4; have hb4' := grown_below ((Below.refl w2.heap.size w2).alloc (Nat.le_refl _) _) (owns_one w2 7 (by decide) w2.heap.size (Nat.le_refl _)) hg4 (by simp); clear hg4; obtain ⟨a4, n4, c4, rfl, hl4, hn4, hc4, hm4, hB4⟩ := ho4.form; obtain rfl : n4 = 10 := (hl4.out.symm.trans alive_len); have hS4 : Hid (Stm w4 g2 [] 0) := hS2.out.kept hb4'; have hb4 : Below w.heap.size w w4 := hb3.trans (hb4'.mono hs2)))
  refine (feed_any g2 [] 0 a4 10 c4 ([7] ++ frameL [97]) w4 hS4.out hl4.out hB4.out hn4.out (by simp) (by simp)).mono ?_
  rintro e w5 ⟨v5, rfl, ho5, hst5, hg5⟩
  rw [alive_scan] at ho5 hst5
  dsimp only at ho5 hst5
  rw [alive_drop] at hst5
  have hs4 := hb4.size
  have hb5 : Below w.heap.size w w5 := hb4.grown hg5 hs4 (fun k hk => by cases hk; omega)
  obtain ⟨a5, n5, c5, rfl, hl5, -, hc5, hm5, hL5⟩ := ho5.lists
  obtain rfl : n5 = 1 := hl5.out.symm
  obtain ⟨b, off, rfl, hcell⟩ : ∃ b off, a5 = some ⟨b, off, none⟩ ∧ ∃ a' c', w5.cell? ⟨b, off, none⟩ = some (.slice a' 1 c') ∧ Bytes w5 a' [97] := by
    rcases hL5.out.2 with h | ⟨b, off, vs, rfl, _, hvl, hc⟩
    · cases h
    · have hp0 : 0 < vs.length := by rw [hvl]; decide
      obtain ⟨h1, a', c', h2, h3, _⟩ := hc 0 vs[0] (by simp)
      exact ⟨b, off, rfl, a', c', by rw [show w5.cell? ⟨b, off, none⟩ = some vs[0] from h1, h2]; rfl, h3⟩
  obtain ⟨a6, c6, hcl6, hB6⟩ := hcell
  have k6 := conv_str hB6 1 c6 rfl
  have kl := lost_any g2 [] _ w5 hst5
  have kw := waits_any g2 [] _ w5 hst5
  have hq : (strOfNums [97]).toList = [97] := by rw [ByteArray.toList_eq, strOfNums_data]; rfl
  clear hL5 ho5 hB6 hl5 hS4 hB4 hB2 hS2 hl4 hn4 hst5
  go_wp2_with (first | (go_at_call 9; refine kl.mono ?_; rintro e w' ⟨rfl, hw⟩; obtain rfl : w5 = w' := hw.symm) | (go_at_call 8; refine kw.mono ?_; rintro e w' ⟨rfl, hw⟩; obtain rfl : w5 = w' := hw.symm))
  go_ret
  exact ⟨rfl, hb5⟩
end Go.Proofs.Yticlobjikpfcjab
