/-
  Parts of the proof.
-/
import Derived.Test.YtmlacmoembjeoaaGreatDoorV7
import Derived.Test.YtmlacmoembjeoaaGreatDoorV25
import Derived.Test.YtmlacmoembjeoaaGreatDoorV26
import Derived.Lib.SlBytesConst
namespace Go.Proofs.YtmlacmoembjeoaaGreatDoor
open Go
set_option linter.unusedVariables false
theorem gap_app (g t : List Int) (h : ∀ c ∈ g, isGap c = true) : gapN (g ++ t) = g.length + gapN t := by
  induction g with
  | nil => simp
  | cons c g ih =>
    rw [List.cons_append, gapN, if_pos (h c List.mem_cons_self), ih fun x hx => h x (List.mem_cons_of_mem _ hx), List.length_cons]
    omega
theorem lex_gaps (g t : List Int) (p : Nat) (h : ∀ c ∈ g, isGap c = true) : lexA (g ++ t) p = lexA t (p + g.length) := by
  have e1 := gap_app g t h
  have e2 : (g ++ t).drop (gapN (g ++ t)) = t.drop (gapN t) := by rw [e1, ← List.drop_drop, List.drop_left]
  have e3 : p + gapN (g ++ t) = p + g.length + gapN t := by omega
  by_cases h1 : t.drop (gapN t) = []
  · rw [lex_end (by rw [e2]; exact h1), lex_end h1]
  by_cases h2 : (tokR (t.drop (gapN t)) (p + g.length + gapN t)).2.1 = 0
  · have hb := (tok_bounds h1 (p + g.length + gapN t)).1 h2
    rw [lex_tok (by rw [e2]; exact h1) (by rw [e2, e3]; exact h2), lex_tok h1 h2, e2, e3]
    have e4 : (g ++ t).drop ((tokR (t.drop (gapN t)) (p + g.length + gapN t)).1.to - p) = t.drop ((tokR (t.drop (gapN t)) (p + g.length + gapN t)).1.to - (p + g.length)) := by
      rw [show (tokR (t.drop (gapN t)) (p + g.length + gapN t)).1.to - p = g.length + ((tokR (t.drop (gapN t)) (p + g.length + gapN t)).1.to - (p + g.length)) by omega, ← List.drop_drop, List.drop_left]
    rw [e4]
  · rw [lex_bad (by rw [e2]; exact h1) (by rw [e2, e3]; exact h2), lex_bad h1 h2, e2, e3]
end Go.Proofs.YtmlacmoembjeoaaGreatDoor
namespace Go.Proofs.YtmlacmoembjeoaaGreatDoor
open Go.RowKit
set_option linter.unusedVariables false
theorem read_ok {free : Bool} {zs : List Int} {t : Tr} {n : Nat} (h : rdW free (lexW zs).1 = .inr (t, n, [])) (hf : (lexW zs).2.1 = 0) : readA (newS free) zs = (endS' free n t, 0, (lexW zs).2.2) := by
  have hw := read_whole free (lexW zs).1
  rw [h] at hw
  unfold readA
  simp only at hw
  rw [hw, if_neg (by simp), if_neg (fun q => by have := q.2; simp [endS'] at this), hf]
  rfl
theorem read_back {free : Bool} {zs : List Int} (h : (readA (newS free) zs).2.1 = 0) : ∃ t n, rdW free (lexW zs).1 = .inr (t, n, []) ∧ (lexW zs).2.1 = 0 ∧ (readA (newS free) zs).1.root = t := by
  have hw := read_whole free (lexW zs).1
  rcases hr : rdW free (lexW zs).1 with ⟨e, _ | ⟨t, M⟩⟩ | ⟨t, n, _ | ⟨c, M⟩⟩
  · rw [hr] at hw
    simp only at hw
    exfalso
    unfold readA at h
    rw [if_neg (by rw [hw.1]; simp)] at h
    by_cases hf : (lexW zs).2.1 = 0
    · rw [if_pos ⟨hf, hw.2⟩] at h
      simp at h
    · rw [if_neg (fun q => hf q.1)] at h
      simp only at h
      omega
  · rw [hr] at hw
    simp only at hw
    exfalso
    unfold readA at h
    rw [if_pos (by rw [hw.2]; exact hw.1), hw.2] at h
    exact hw.1 h
  · rw [hr] at hw
    simp only at hw
    unfold readA at h ⊢
    rw [hw, if_neg (by simp), if_neg (fun q => by have := q.2; simp [endS'] at this)] at h ⊢
    simp only at h
    exact ⟨t, n, rfl, by omega, rfl⟩
  · rw [hr] at hw
    simp only at hw
    exfalso
    unfold readA at h
    rw [if_pos (by rw [hw]; simp), hw] at h
    simp at h
end Go.Proofs.YtmlacmoembjeoaaGreatDoor
namespace Go.Proofs.YtmlacmoembjeoaaGreatDoor
open Go.RowKit
set_option linter.unusedVariables false
def c0L : List Int := [123, 34, 97, 34, 58, 91, 49, 44, 50, 46, 53, 48, 93, 125]
def t0T : Tr := mapT [txtT ⟨#[97]⟩] [arrT [intT false ⟨#[49]⟩, decT false ⟨#[50, 53]⟩ (-1)]]
theorem par_c0 : parA c0L = (t0T, 0, 0) := by kernel_rfl
theorem par_c1 : parA [91, 49, 44, 93] = (zT, 5, 3) := by kernel_rfl
theorem val_c2 : (readA (newS true) [49]).2.1 = 0 := by kernel_rfl
end Go.Proofs.YtmlacmoembjeoaaGreatDoor
namespace Go.Proofs.YtmlacmoembjeoaaGreatDoor
open Go.RowKit
set_option linter.unusedVariables false
theorem bytes_row (w : World) (zs : List Int) (m : Nat × Nat) (hz : ∀ c ∈ zs, 0 ≤ c ∧ c < 256) (hl : zs.length ≤ maxLen) : Bytes (w.alloc (.cells (zs.map (Value.int .u8)).toArray 5 m)) (some ⟨w.heap.size, 0, none⟩) zs := by
  refine ⟨hz, hl, .inr ⟨_, _, rfl, ?_⟩⟩
  intro i hi
  rw [Nat.zero_add, World.cell?_alloc_mark]
  simp [List.getElem?_map, List.getElem?_eq_getElem hi, List.getD_eq_getElem?_getD]
structure T0At (w : World) (b : Nb) (g1 o1 g2 o2 c2 : Nat) : Prop where
  k : b.lk = 1
  i : b.li = 1
  a : b.ai = some ⟨g1, o1, none⟩
  ck : 1 ≤ b.ck ∧ b.ck ≤ maxLen
  ci : 1 ≤ b.ci ∧ b.ci ≤ maxLen
  c : 2 ≤ c2 ∧ c2 ≤ maxLen
  l1 : g1 < w.heap.size
  l2 : g2 < w.heap.size
  x1 : w.cell? ⟨g1, o1 + 8, none⟩ = some (.slice (some ⟨g2, o2, none⟩) 2 c2)
  x2 : w.cell? ⟨g2, o2 + 13, none⟩ = some (.int .i64 (-1))
theorem t0_at {D : Nat} {w : World} {b : Nb} (h : Nd D w b t0T) : ∃ g1 o1 g2 o2 c2, T0At w b g1 o1 g2 o2 c2 := by
  rcases D with _ | D
  · exact absurd h id
  obtain ⟨_, _, _, ⟨k1, k2, k3⟩, ⟨i1, i2, i3⟩⟩ := h
  have e1 : b.lk = 1 := k1.symm
  have e2 : b.li = 1 := i1.symm
  rcases i3 with i3 | ⟨g1, o1, ha, hc⟩
  · exact absurd i3 (by simp [t0T, mapT])
  obtain ⟨nb, hn, hq⟩ := hc 0 (by omega)
  have hq' : Nd D w nb (arrT [intT false ⟨#[49]⟩, decT false ⟨#[50, 53]⟩ (-1)]) := hq
  rcases D with _ | D
  · exact absurd hq' id
  obtain ⟨_, _, _, _, ⟨j1, j2, j3⟩⟩ := hq'
  have e3 : nb.li = 2 := j1.symm
  rcases j3 with j3 | ⟨g2, o2, hb, hd⟩
  · exact absurd j3 (by simp [arrT])
  obtain ⟨mb, hm, hr⟩ := hd 1 (by omega)
  have hr' : Nd D w mb (decT false ⟨#[50, 53]⟩ (-1)) := hr
  rcases D with _ | D
  · exact absurd hr' id
  have e4 : mb.exp = -1 := hr'.1.2.2.2.2.1
  have x1 := hn 8 (by omega)
  have x2 := hm 4 (by omega)
  rw [show nb.cells[8]? = some (.slice nb.ai nb.li nb.ci) from rfl, hb, e3] at x1
  rw [show mb.cells[4]? = some (.int .i64 mb.exp) from rfl, e4] at x2
  exact ⟨g1, o1, g2, o2, nb.ci, e1, e2, ha, ⟨by have := k2.1; omega, k2.2.1⟩, ⟨by have := i2.1; omega, i2.2.1⟩, ⟨by have := j2.1; omega, j2.2.1⟩, some_block x1, some_block x2, by simpa using x1, by simpa using x2⟩
theorem T0At.kept {w w' : World} {b : Nb} {g1 o1 g2 o2 c2 : Nat} (h : T0At w b g1 o1 g2 o2 c2) (hb : Below w.heap.size w w') : T0At w' b g1 o1 g2 o2 c2 := ⟨h.k, h.i, h.a, h.ck, h.ci, h.c, Nat.lt_of_lt_of_le h.l1 hb.size, Nat.lt_of_lt_of_le h.l2 hb.size, (hb.cell (p := ⟨g1, o1 + 8, none⟩) h.l1).trans h.x1, (hb.cell (p := ⟨g2, o2 + 13, none⟩) h.l2).trans h.x2⟩
set_option maxHeartbeats 1000000 in
set_option maxRecDepth 100000 in
theorem alive_any (w : World) : Calls Tryz.prog 12 #[] w fun e w' => e = .returned (.bool true) ∧ Below w.heap.size w w' := by
  have kc := fun (w : World) (C : Array Value) (n c : Nat) => Lib.run_convert_bytes_const (P := Tryz.prog) w 22 5 C n c Tryz.underlying22 Tryz.underlying5
  have kP : Calls Tryz.prog 9 #[.slice (some ⟨w.heap.size, 0, none⟩) 14 14] (w.alloc (.cells #[.int .u8 123, .int .u8 34, .int .u8 97, .int .u8 34, .int .u8 58, .int .u8 91, .int .u8 49, .int .u8 44, .int .u8 50, .int .u8 46, .int .u8 53, .int .u8 48, .int .u8 93, .int .u8 125] 5 (14, 15))) fun e w' => ∃ b g1 o1 g2 o2 c2, e = .returned (.tuple #[.agg b.arr, .agg #[.int .i64 0, .int .i64 0]]) ∧ Hid (T0At w' b g1 o1 g2 o2 c2) ∧ Hid (Below w.heap.size w w') := by
    have hA := alloc_below w (.cells (c0L.map (Value.int .u8)).toArray 5 (14, 15))
    have := rparse_any (some ⟨w.heap.size, 0, none⟩) 14 14 c0L (w.alloc (.cells (c0L.map (Value.int .u8)).toArray 5 (14, 15))) rfl (bytes_row w c0L (14, 15) (by decide) (by decide)) (Nat.le_refl _) (by decide)
    rw [par_c0] at this
    refine this.mono ?_
    rintro e w' ⟨D, b, h1, h2, h3⟩
    obtain ⟨g1, o1, g2, o2, c2, h4⟩ := t0_at h2
    exact ⟨b, g1, o1, g2, o2, c2, h1, h4, hA.trans (h3.mono hA.size)⟩
  have kQ : Hid (∀ w, Calls Tryz.prog 9 #[.slice (some ⟨w.heap.size, 0, none⟩) 4 4] (w.alloc (.cells #[.int .u8 91, .int .u8 49, .int .u8 44, .int .u8 93] 5 (4, 5))) fun e w' => ∃ b : Nb, e = .returned (.tuple #[.agg b.arr, .agg #[.int .i64 5, .int .i64 3]]) ∧ Hid (Below w.heap.size w w')) := fun w => by
    have hA := alloc_below w (.cells (([91, 49, 44, 93] : List Int).map (Value.int .u8)).toArray 5 (4, 5))
    have := rparse_any (some ⟨w.heap.size, 0, none⟩) 4 4 [91, 49, 44, 93] (w.alloc (.cells (([91, 49, 44, 93] : List Int).map (Value.int .u8)).toArray 5 (4, 5))) rfl (bytes_row w [91, 49, 44, 93] (4, 5) (by decide) (by decide)) (Nat.le_refl _) (by decide)
    rw [par_c1] at this
    refine this.mono ?_
    rintro e w' ⟨D, b, h1, h2, h3⟩
    exact ⟨b, h1, hA.trans (h3.mono hA.size)⟩
  have kV : Hid (∀ w, Calls Tryz.prog 13 #[.slice (some ⟨w.heap.size, 0, none⟩) 1 1] (w.alloc (.cells #[.int .u8 49] 5 (1, 2))) fun e w' => e = .returned (.bool true) ∧ Hid (Below w.heap.size w w')) := fun w => by
    have hA := alloc_below w (.cells (([49] : List Int).map (Value.int .u8)).toArray 5 (1, 2))
    have := rvalid_any (some ⟨w.heap.size, 0, none⟩) 1 1 [49] (w.alloc (.cells (([49] : List Int).map (Value.int .u8)).toArray 5 (1, 2))) rfl (bytes_row w [49] (1, 2) (by decide) (by decide)) (Nat.le_refl _) (by decide)
    rw [val_c2] at this
    refine this.mono ?_
    rintro e w' ⟨h1, h3⟩
    exact ⟨h1, hA.trans (h3.mono hA.size)⟩
  go_enter Tryz.func12, Tryz.ntmps12
  go_wp2_with (go_at_call 9; refine kP.mono ?_; rintro e w1 ⟨b, g1, o1, g2, o2, c2, he, hT, hB⟩; rw [Nb.arr] at he; subst he; clear kP; have hs : ((w1.alloc (.cells #[.int .i64 b.kind, .int .u64 b.num, .bool b.neg, .string b.dig, .int .i64 b.exp, .string b.txt, .slice b.ab b.lb b.cb, .slice b.ak b.lk b.ck, .slice b.ai b.li b.ci] 26)).alloc (.cells #[.int .i64 0, .int .i64 0] 29)).heap.size = w1.heap.size + 1 + 1 := (by simp); have kc1 := kc ((w1.alloc (.cells #[.int .i64 b.kind, .int .u64 b.num, .bool b.neg, .string b.dig, .int .i64 b.exp, .string b.txt, .slice b.ab b.lb b.cb, .slice b.ak b.lk b.ck, .slice b.ai b.li b.ci] 26)).alloc (.cells #[.int .i64 0, .int .i64 0] 29)) #[.int .u8 91, .int .u8 49, .int .u8 44, .int .u8 93] 4 4; rw [hs] at kc1; have kQ1 := kQ.out ((w1.alloc (.cells #[.int .i64 b.kind, .int .u64 b.num, .bool b.neg, .string b.dig, .int .i64 b.exp, .string b.txt, .slice b.ab b.lb b.cb, .slice b.ak b.lk b.ck, .slice b.ai b.li b.ci] 26)).alloc (.cells #[.int .i64 0, .int .i64 0] 29)); rw [hs] at kQ1; clear kQ; have A1 := (alloc_below w1 (.cells #[.int .i64 b.kind, .int .u64 b.num, .bool b.neg, .string b.dig, .int .i64 b.exp, .string b.txt, .slice b.ab b.lb b.cb, .slice b.ak b.lk b.ck, .slice b.ai b.li b.ci] 26)); have A2 := alloc_below (w1.alloc (.cells #[.int .i64 b.kind, .int .u64 b.num, .bool b.neg, .string b.dig, .int .i64 b.exp, .string b.txt, .slice b.ab b.lb b.cb, .slice b.ak b.lk b.ck, .slice b.ai b.li b.ci] 26)) (.cells #[.int .i64 0, .int .i64 0] 29); have A3 : Hid (Below w1.heap.size w1 ((w1.alloc (.cells #[.int .i64 b.kind, .int .u64 b.num, .bool b.neg, .string b.dig, .int .i64 b.exp, .string b.txt, .slice b.ab b.lb b.cb, .slice b.ak b.lk b.ck, .slice b.ai b.li b.ci] 26)).alloc (.cells #[.int .i64 0, .int .i64 0] 29))) := A1.trans (A2.mono (by simp)); have X0 : Hid (NBox ((w1.alloc (.cells #[.int .i64 b.kind, .int .u64 b.num, .bool b.neg, .string b.dig, .int .i64 b.exp, .string b.txt, .slice b.ab b.lb b.cb, .slice b.ak b.lk b.ck, .slice b.ai b.li b.ci] 26)).alloc (.cells #[.int .i64 0, .int .i64 0] 29)) w1.heap.size b ∧ Blk ((w1.alloc (.cells #[.int .i64 b.kind, .int .u64 b.num, .bool b.neg, .string b.dig, .int .i64 b.exp, .string b.txt, .slice b.ab b.lb b.cb, .slice b.ak b.lk b.ck, .slice b.ai b.li b.ci] 26)).alloc (.cells #[.int .i64 0, .int .i64 0] 29)) (w1.heap.size + 1) #[.int .i64 0, .int .i64 0] 29) := ⟨(nbox_new w1 b).kept A2 (by simp), by have := blk_new (w1.alloc (.cells #[.int .i64 b.kind, .int .u64 b.num, .bool b.neg, .string b.dig, .int .i64 b.exp, .string b.txt, .slice b.ab b.lb b.cb, .slice b.ak b.lk b.ck, .slice b.ai b.li b.ci] 26)) #[.int .i64 0, .int .i64 0] 29; simpa using this⟩; have hs' : Hid (((w1.alloc (.cells #[.int .i64 b.kind, .int .u64 b.num, .bool b.neg, .string b.dig, .int .i64 b.exp, .string b.txt, .slice b.ab b.lb b.cb, .slice b.ak b.lk b.ck, .slice b.ai b.li b.ci] 26)).alloc (.cells #[.int .i64 0, .int .i64 0] 29)).heap.size = w1.heap.size + 1 + 1) := hs; clear A1 A2 hs)
  refine kQ1.mono ?_
  rintro e w2 ⟨b2, he, hB2⟩
  rw [Nb.arr] at he; subst he; clear kQ1 kc1
  have hs2 : ((w2.alloc (.cells #[.int .i64 b2.kind, .int .u64 b2.num, .bool b2.neg, .string b2.dig, .int .i64 b2.exp, .string b2.txt, .slice b2.ab b2.lb b2.cb, .slice b2.ak b2.lk b2.ck, .slice b2.ai b2.li b2.ci] 26)).alloc (.cells #[.int .i64 5, .int .i64 3] 29)).heap.size = w2.heap.size + 1 + 1 := by simp
  have kc2 := kc ((w2.alloc (.cells #[.int .i64 b2.kind, .int .u64 b2.num, .bool b2.neg, .string b2.dig, .int .i64 b2.exp, .string b2.txt, .slice b2.ab b2.lb b2.cb, .slice b2.ak b2.lk b2.ck, .slice b2.ai b2.li b2.ci] 26)).alloc (.cells #[.int .i64 5, .int .i64 3] 29)) #[.int .u8 49] 1 1; rw [hs2] at kc2; have kV2 := kV.out ((w2.alloc (.cells #[.int .i64 b2.kind, .int .u64 b2.num, .bool b2.neg, .string b2.dig, .int .i64 b2.exp, .string b2.txt, .slice b2.ab b2.lb b2.cb, .slice b2.ak b2.lk b2.ck, .slice b2.ai b2.li b2.ci] 26)).alloc (.cells #[.int .i64 5, .int .i64 3] 29)); rw [hs2] at kV2; clear kV
  have D1 := (alloc_below w2 (.cells #[.int .i64 b2.kind, .int .u64 b2.num, .bool b2.neg, .string b2.dig, .int .i64 b2.exp, .string b2.txt, .slice b2.ab b2.lb b2.cb, .slice b2.ak b2.lk b2.ck, .slice b2.ai b2.li b2.ci] 26)); have D2 := alloc_below (w2.alloc (.cells #[.int .i64 b2.kind, .int .u64 b2.num, .bool b2.neg, .string b2.dig, .int .i64 b2.exp, .string b2.txt, .slice b2.ab b2.lb b2.cb, .slice b2.ak b2.lk b2.ck, .slice b2.ai b2.li b2.ci] 26)) (.cells #[.int .i64 5, .int .i64 3] 29)
  have D3 : Hid (Below w2.heap.size w2 ((w2.alloc (.cells #[.int .i64 b2.kind, .int .u64 b2.num, .bool b2.neg, .string b2.dig, .int .i64 b2.exp, .string b2.txt, .slice b2.ab b2.lb b2.cb, .slice b2.ak b2.lk b2.ck, .slice b2.ai b2.li b2.ci] 26)).alloc (.cells #[.int .i64 5, .int .i64 3] 29))) := D1.trans (D2.mono (by simp))
  have Y0 : Blk ((w2.alloc (.cells #[.int .i64 b2.kind, .int .u64 b2.num, .bool b2.neg, .string b2.dig, .int .i64 b2.exp, .string b2.txt, .slice b2.ab b2.lb b2.cb, .slice b2.ak b2.lk b2.ck, .slice b2.ai b2.li b2.ci] 26)).alloc (.cells #[.int .i64 5, .int .i64 3] 29)) (w2.heap.size + 1) #[.int .i64 5, .int .i64 3] 29 := by have := blk_new (w2.alloc (.cells #[.int .i64 b2.kind, .int .u64 b2.num, .bool b2.neg, .string b2.dig, .int .i64 b2.exp, .string b2.txt, .slice b2.ab b2.lb b2.cb, .slice b2.ak b2.lk b2.ck, .slice b2.ai b2.li b2.ci] 26)) #[.int .i64 5, .int .i64 3] 29; simpa using this
  have E1 : Hid (Below w1.heap.size w1 ((w2.alloc (.cells #[.int .i64 b2.kind, .int .u64 b2.num, .bool b2.neg, .string b2.dig, .int .i64 b2.exp, .string b2.txt, .slice b2.ab b2.lb b2.cb, .slice b2.ak b2.lk b2.ck, .slice b2.ai b2.li b2.ci] 26)).alloc (.cells #[.int .i64 5, .int .i64 3] 29))) := A3.out.trans ((hB2.out.mono (by omega)).trans (D3.out.mono (by have := hB2.out.size; rw [hs'.out] at this; omega)))
  have T2 := hT.out.kept E1.out
  have E2 : Below (w1.heap.size + 1 + 1) ((w1.alloc (.cells #[.int .i64 b.kind, .int .u64 b.num, .bool b.neg, .string b.dig, .int .i64 b.exp, .string b.txt, .slice b.ab b.lb b.cb, .slice b.ak b.lk b.ck, .slice b.ai b.li b.ci] 26)).alloc (.cells #[.int .i64 0, .int .i64 0] 29)) ((w2.alloc (.cells #[.int .i64 b2.kind, .int .u64 b2.num, .bool b2.neg, .string b2.dig, .int .i64 b2.exp, .string b2.txt, .slice b2.ab b2.lb b2.cb, .slice b2.ak b2.lk b2.ck, .slice b2.ai b2.li b2.ci] 26)).alloc (.cells #[.int .i64 5, .int .i64 3] 29)) := by have h1 := hB2.out; exact h1.trans (D3.out.mono (by have := hB2.out.size; rw [hs'.out] at this; omega))
  have X2 := X0.out.1.kept E2 (by omega)
  have Z2 : Blk ((w2.alloc (.cells #[.int .i64 b2.kind, .int .u64 b2.num, .bool b2.neg, .string b2.dig, .int .i64 b2.exp, .string b2.txt, .slice b2.ab b2.lb b2.cb, .slice b2.ak b2.lk b2.ck, .slice b2.ai b2.li b2.ci] 26)).alloc (.cells #[.int .i64 5, .int .i64 3] 29)) (w1.heap.size + 1) #[.int .i64 0, .int .i64 0] 29 := (E2.block _ (by omega)).trans X0.out.2
  obtain ⟨n0, n1, n2, n3, n4, n5, n6, n7, n8⟩ := X2.fields
  have y0 := Y0.cell 0; have y1 := Y0.cell 1; have z0 := Z2.cell 0; have z1 := Z2.cell 1
  obtain ⟨k1, k2, k3, k4, k5, k6, k7, k8, k9, k10⟩ := T2
  rw [k1] at n7; rw [k2, k3] at n8
  have E3 : Hid (Below w.heap.size w ((w2.alloc (.cells #[.int .i64 b2.kind, .int .u64 b2.num, .bool b2.neg, .string b2.dig, .int .i64 b2.exp, .string b2.txt, .slice b2.ab b2.lb b2.cb, .slice b2.ak b2.lk b2.ck, .slice b2.ai b2.li b2.ci] 26)).alloc (.cells #[.int .i64 5, .int .i64 3] 29))) := hB.out.trans (E1.out.mono hB.out.size)
  clear hs2 D1 D2 Y0 Z2 X2 E2 X0 hT hB hs' A3 D3 hB2
  go_wp2_with (go_at_call 13; refine kV2.mono ?_; rintro e w3 ⟨rfl, hB3⟩; clear kV2)
  go_ret
  exact ⟨rfl, E3.out.trans (hB3.out.mono (by have := E3.out.size; simpa using this))⟩
end Go.Proofs.YtmlacmoembjeoaaGreatDoor
