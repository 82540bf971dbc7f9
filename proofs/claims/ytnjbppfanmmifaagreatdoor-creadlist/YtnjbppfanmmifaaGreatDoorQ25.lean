/-
  The program's reader of CBOR: the tags 2 and 3 of Bytes.
  The program's reader of CBOR: the tag 4 of two Int.
  The program's reader of CBOR: the tag 4 of two Int; every tag.
  The program's reader of CBOR: a tag and its item.
-/
import Derived.Test.YtnjbppfanmmifaaGreatDoorQ24
namespace Go.Proofs.YtnjbppfanmmifaaGreatDoor
open Go.RowKit
set_option linter.unusedVariables false
theorem frb_size {z : List Int} (h : (frbA z).2 = 0) : (frbA z).1.size ≤ 800 := by
  unfold frbA at h ⊢
  split at h
  · rename_i c
    rw [if_pos c]
    unfold shortA at h ⊢
    split at h
    · rename_i c2; rw [if_pos c2]; exact (rt_size (rt_txt c2)).2
    · exact absurd h (by decide)
  · exact absurd h (by decide)
theorem bel_size {d : ByteArray} (h : (belA d).2 = 0) : (addA d oneS).1.size ≤ 800 := by
  unfold belA addA at h
  unfold addA
  simp only at h
  split at h
  · rename_i c
    rw [if_pos c]
    unfold shortA at h ⊢
    split at h
    · rename_i c2; rw [if_pos c2]; exact (rt_size (rt_txt c2)).2
    · exact absurd h (by decide)
  · exact absurd h (by decide)
/-- Two boxes of tagged: what it was called with, and its result. -/
theorem tbox {w : World} (b : Nb) (w3 : World) (hb : Below ((w.alloc (.cells b.arr 26)).alloc (.cells zN.arr 26)).heap.size ((w.alloc (.cells b.arr 26)).alloc (.cells zN.arr 26)) w3) : NBox w3 w.heap.size b ∧ NBox w3 (w.heap.size + 1) zN ∧ Below w.heap.size w w3 := by
  have s1 : (w.alloc (.cells b.arr 26)).heap.size = w.heap.size + 1 := by simp
  have n1 := (nbox_new w b).kept (alloc_below (w.alloc (.cells b.arr 26)) (.cells zN.arr 26)) (by omega)
  have n2 := nbox_new (w.alloc (.cells b.arr 26)) zN
  rw [s1] at n2
  exact ⟨n1.kept hb n1.lt, n2.kept hb n2.lt, (bal2 w _ _).trans (hb.mono (bal2 w _ _).size)⟩
set_option maxHeartbeats 4000000 in
set_option maxRecDepth 100000 in
theorem ctagged_b2 {S : Nat → Prop} {D : Nat} {w : World} {b : Nb} {t : Tr} (h : NdW S (D + 1) w b t) (h6 : t.kind = 6) : Calls Tryz.prog 169 #[.int .u64 2, .agg b.arr] w fun x w' => TgIs S w w' (D + 1) x (tagA 2 t) := by
  have e : tagA 2 t = (intT false (frbA t.bytes).1, (frbA t.bytes).2) := by unfold tagA; rw [if_pos ⟨rfl, h6⟩]
  rw [e]
  have hk6 : b.kind = 6 := by rw [show b.kind = t.kind from h.1.1]; exact h6
  have hby := h.2.2.1
  have kF : Hid (∀ wx, Below w.heap.size w wx → Calls Tryz.prog 197 #[.slice b.ab b.lb b.cb] wx fun e w' => e = .returned (.tuple #[.string (frbA t.bytes).1, .int .i64 (frbA t.bytes).2]) ∧ Below wx.heap.size wx w') := fun wx hx => frb_any b.ab b.lb b.cb t.bytes wx hby.1 (hby.2.2.kept hx)
  have hL : Hid (∀ X, (frbA t.bytes).2 = 0 → NdW (SU S w X) (D + 1 + 1) X ⟨2, 0, false, (frbA t.bytes).1, 0, ⟨#[]⟩, none, 0, 0, none, 0, 0, none, 0, 0⟩ (intT false (frbA t.bytes).1)) := fun X h0 => ndw_leaf _ _ X (t := intT false (frbA t.bytes).1) rfl ⟨rfl, rfl⟩ rfl rfl rfl (Nat.le_trans (frb_size h0) (by omega)) (by show (0 : Nat) ≤ _; omega)
  have hX : Hid (∀ w3, Below ((w.alloc (.cells b.arr 26)).alloc (.cells zN.arr 26)).heap.size ((w.alloc (.cells b.arr 26)).alloc (.cells zN.arr 26)) w3 → NBox w3 w.heap.size b ∧ NBox w3 (w.heap.size + 1) zN ∧ Below w.heap.size w w3) := fun w3 hb => tbox b w3 hb
  obtain ⟨a0, a1, a2, a3, a4, a5, a6, a7, a8⟩ := (nbox_new w b).fields
  unfold TgIs
  simp only
  unfold zN Nb.arr at *
  rw [hk6] at a0 a1 a2 a3 a4 a5 a6 a7 a8 hX ⊢
  generalize (frbA t.bytes).1 = s at *
  generalize (frbA t.bytes).2 = y at *
  clear e h h6 hk6 hby
  go_enter Tryz.func169, Tryz.ntmps169
  go_wp2_with (go_at_call 197; refine (kF.out _ (bal2 w _ _)).mono ?_; rintro e w3 ⟨rfl, hb3⟩; obtain ⟨hN3, hZ3, hW3⟩ := hX.out _ hb3; obtain ⟨⟨f0, f1, f2, f3, f4, f5, f6, f7, f8⟩, z0, z1, z2, z3, z4, z5, z6, z7, z8⟩ := zbox hZ3; have hW4 : Hid (Below w.heap.size w w3) := hW3; clear hb3 hN3 hZ3 hW3)
  refine bodyPost_ret (v := .tuple #[.agg #[.int .i64 2, .int .u64 0, .bool false, .string s, .int .i64 0, .string ⟨#[]⟩, .slice none 0 0, .slice none 0 0, .slice none 0 0], .int .i64 y]) (by simp [results, Tryz.results169, go_sem, *]) rfl ⟨⟨⟨2, 0, false, s, 0, ⟨#[]⟩, none, 0, 0, none, 0, 0, none, 0, 0⟩, rfl, fun h0 => hL.out _ h0⟩, ?_⟩
  repeat (first | with_reducible exact hW4.out | with_reducible refine bset ?_ (by omega))
set_option maxHeartbeats 4000000 in
set_option maxRecDepth 100000 in
theorem ctagged_b3 {S : Nat → Prop} {D : Nat} {w : World} {b : Nb} {t : Tr} (h : NdW S (D + 1) w b t) (h6 : t.kind = 6) : Calls Tryz.prog 169 #[.int .u64 3, .agg b.arr] w fun x w' => TgIs S w w' (D + 1) x (tagA 3 t) := by
  have e : tagA 3 t = if (frbA t.bytes).2 ≠ 0 then (zT, (frbA t.bytes).2) else belA (frbA t.bytes).1 := by unfold tagA; rw [if_neg (by simp), if_pos ⟨rfl, h6⟩]
  rw [e]
  have hk6 : b.kind = 6 := by rw [show b.kind = t.kind from h.1.1]; exact h6
  have hby := h.2.2.1
  have kF : Hid (∀ wx, Below w.heap.size w wx → Calls Tryz.prog 197 #[.slice b.ab b.lb b.cb] wx fun e w' => e = .returned (.tuple #[.string (frbA t.bytes).1, .int .i64 (frbA t.bytes).2]) ∧ Below wx.heap.size wx w') := fun wx hx => frb_any b.ab b.lb b.cb t.bytes wx hby.1 (hby.2.2.kept hx)
  have hX : Hid (∀ w3, Below ((w.alloc (.cells b.arr 26)).alloc (.cells zN.arr 26)).heap.size ((w.alloc (.cells b.arr 26)).alloc (.cells zN.arr 26)) w3 → NBox w3 w.heap.size b ∧ NBox w3 (w.heap.size + 1) zN ∧ Below w.heap.size w w3) := fun w3 hb => tbox b w3 hb
  obtain ⟨a0, a1, a2, a3, a4, a5, a6, a7, a8⟩ := (nbox_new w b).fields
  have kB : Hid (∀ (d : ByteArray) (wx : World), Calls Tryz.prog 125 #[.string d] wx fun e w' => e = .returned (.tuple #[.agg (nbL (belA d).1).arr, .int .i64 (belA d).2]) ∧ Below wx.heap.size wx w') := fun d wx => cbelow_any d wx
  have hLb : Hid (∀ (d : ByteArray) (X : World), (belA d).2 = 0 → NdW (SU S w X) (D + 1 + 1) X ⟨2, 0, true, (addA d oneS).1, 0, ⟨#[]⟩, none, 0, 0, none, 0, 0, none, 0, 0⟩ (belA d).1) := fun d X h0 => ndw_leaf _ _ X (t := (belA d).1) rfl ⟨rfl, rfl⟩ rfl rfl rfl (Nat.le_trans (bel_size h0) (by omega)) (by show (0 : Nat) ≤ _; omega)
  unfold zN Nb.arr at *
  rw [hk6] at a0 a1 a2 a3 a4 a5 a6 a7 a8 hX ⊢
  generalize (frbA t.bytes).1 = s at *
  generalize (frbA t.bytes).2 = y at *
  clear e h h6 hk6 hby
  by_cases hy : y = 0
  · subst hy
    rw [if_neg (by simp)]
    have kB2 := kB.out s
    have hL2 := hLb.out s
    unfold TgIs
    unfold belA nbL intT at kB2
    unfold belA intT at hL2 ⊢
    simp only at kB2 hL2 ⊢
    generalize (addA s oneS).1 = u at *
    generalize (addA s oneS).2 = v at *
    have kB3 : Hid (∀ wx, Calls Tryz.prog 125 #[.string s] wx fun e w' => e = .returned (.tuple #[.agg #[.int .i64 2, .int .u64 0, .bool true, .string u, .int .i64 0, .string ⟨#[]⟩, .slice none 0 0, .slice none 0 0, .slice none 0 0], .int .i64 v]) ∧ Below wx.heap.size wx w') := kB2
    have hL3 : Hid (∀ X : World, v = 0 → NdW (SU S w X) (D + 1 + 1) X ⟨2, 0, true, u, 0, ⟨#[]⟩, none, 0, 0, none, 0, 0, none, 0, 0⟩ ⟨2, 0, true, u, 0, ⟨#[]⟩, [], [], []⟩) := hL2
    clear kB kB2 hL2 hLb
    go_enter Tryz.func169, Tryz.ntmps169
    go_wp2_with (first
      | (go_at_call 197; refine (kF.out _ (bal2 w _ _)).mono ?_; rintro e w3 ⟨rfl, hb3⟩; obtain ⟨hN3, hZ3, hW3⟩ := hX.out _ hb3; have hZ4 : Hid (NBox w3 (w.heap.size + 1) zN) := hZ3; have hW4 : Hid (Below w.heap.size w w3) := hW3; clear hb3 hN3 hZ3 hW3)
      | (go_at_call 125; refine (kB3.out _).mono ?_; rintro e w5 ⟨rfl, hb5⟩; obtain ⟨⟨f0, f1, f2, f3, f4, f5, f6, f7, f8⟩, z0, z1, z2, z3, z4, z5, z6, z7, z8⟩ := zbox (hZ4.out.kept hb5 hZ4.out.lt); have hW5 : Hid (Below w.heap.size w w5) := hW4.out.trans (hb5.mono hW4.out.size); clear hb5))
    refine bodyPost_ret (v := .tuple #[.agg #[.int .i64 2, .int .u64 0, .bool true, .string u, .int .i64 0, .string ⟨#[]⟩, .slice none 0 0, .slice none 0 0, .slice none 0 0], .int .i64 v]) (by simp [results, Tryz.results169, go_sem, *]) rfl ⟨⟨⟨2, 0, true, u, 0, ⟨#[]⟩, none, 0, 0, none, 0, 0, none, 0, 0⟩, rfl, fun h0 => hL3.out _ h0⟩, ?_⟩
    repeat (first | with_reducible exact hW5.out | with_reducible refine bset ?_ (by omega))
  · rw [if_pos hy]
    have gy : (y != 0) = true := by simpa using hy
    have hy' : Hid (¬ y = 0) := hy
    unfold TgIs
    simp only
    clear hy kB hLb
    go_enter Tryz.func169, Tryz.ntmps169
    go_wp2_with (go_at_call 197; refine (kF.out _ (bal2 w _ _)).mono ?_; rintro e w3 ⟨rfl, hb3⟩; obtain ⟨hN3, hZ3, hW3⟩ := hX.out _ hb3; obtain ⟨⟨f0, f1, f2, f3, f4, f5, f6, f7, f8⟩, z0, z1, z2, z3, z4, z5, z6, z7, z8⟩ := zbox hZ3; have hW4 : Hid (Below w.heap.size w w3) := hW3; clear hb3 hN3 hZ3 hW3)
    refine bodyPost_ret (v := .tuple #[.agg #[.int .i64 0, .int .u64 0, .bool false, .string ⟨#[]⟩, .int .i64 0, .string ⟨#[]⟩, .slice none 0 0, .slice none 0 0, .slice none 0 0], .int .i64 y]) (by simp [results, Tryz.results169, go_sem, *]) rfl ⟨⟨zN, rfl, fun h0 => absurd h0 hy'.out⟩, ?_⟩
    repeat (first | with_reducible exact hW4.out | with_reducible refine bset ?_ (by omega))
end Go.Proofs.YtnjbppfanmmifaaGreatDoor
namespace Go.Proofs.YtnjbppfanmmifaaGreatDoor
open Go.RowKit
set_option linter.unusedVariables false
theorem tow_nn (s : ByteArray) : 0 ≤ (towA s).1 := by unfold towA; split <;> simp
/-- A decimal number, whatever it is. -/
theorem cdecimal_any (a b : Nb) (ta tb : Tr) (w : World) {B : Nat} (hLv : Lw B w) (hBw : B ≤ w.heap.size) (h0 : a.dig = ta.dig) (h1 : a.neg = ta.neg) (h2 : b.dig = tb.dig) (h3 : b.neg = tb.neg) : Calls Tryz.prog 199 #[.agg a.arr, .agg b.arr] w fun e w' => (∃ nb : Nb, e = .returned (.tuple #[.agg nb.arr, .int .i64 (dcmA ta tb).2]) ∧ ((dcmA ta tb).2 = 0 → nb = nbL (dcmA ta tb).1)) ∧ Below w.heap.size w w' := by
  unfold dcmA
  rw [← h0, ← h1, ← h2, ← h3]
  by_cases hf : (towA a.dig).2 = false ∨ 1000000 < (towA a.dig).1
  · rw [if_pos hf]
    exact (cdecimal_far a b w hLv hBw hf).mono fun e w' ⟨⟨nb, he⟩, hb⟩ => ⟨⟨nb, he, fun z => absurd z (by decide)⟩, hb⟩
  · rw [if_neg hf]
    have ok : (towA a.dig).2 = true := by
      cases hx : (towA a.dig).2 with
      | true => rfl
      | false => exact absurd (.inl hx) hf
    have near : (towA a.dig).1 ≤ 1000000 := by have := fun z => hf (.inr z); omega
    by_cases hm : (makeA b.neg b.dig (sgn a.neg (towA a.dig).1)).2 = 0
    · rw [if_neg (by simpa using hm)]
      exact (cdecimal_near a b w hLv hBw ok (tow_nn _) near (nbL (dcm (makeA b.neg b.dig (sgn a.neg (towA a.dig).1)).1)) 0 (fun z => absurd hm z) (fun _ => ⟨rfl, rfl⟩)).mono fun e w' ⟨he, hb⟩ => ⟨⟨_, he, fun _ => rfl⟩, hb⟩
    · rw [if_pos hm]
      exact (cdecimal_near a b w hLv hBw ok (tow_nn _) near zN _ (fun _ => ⟨rfl, rfl⟩) (fun z => absurd z hm)).mono fun e w' ⟨he, hb⟩ => ⟨⟨_, he, fun z => absurd z hm⟩, hb⟩
theorem pr_some {t ta tb : Tr} (h : prT t = some (ta, tb)) : t.kind = 7 ∧ t.kids = [ta, tb] := by
  unfold prT at h
  split at h
  · rename_i a b hk
    split at h
    · rename_i hc; simp at h; obtain ⟨rfl, rfl⟩ := h; exact ⟨hc.1, hk⟩
    · simp at h
  · simp at h
theorem dcm_leaf {ta tb : Tr} (h : (dcmA ta tb).2 = 0) : (dcmA ta tb).1.bytes = [] ∧ Lf (dcmA ta tb).1 ∧ (Lit.int .i64 (dcmA ta tb).1.kind).wf = true ∧ (Lit.int .u64 (dcmA ta tb).1.num).wf = true ∧ (Lit.int .i64 (dcmA ta tb).1.exp).wf = true ∧ (dcmA ta tb).1.dig.size ≤ 140737488351232 ∧ (dcmA ta tb).1.txt.size ≤ 140737488351232 := by
  unfold dcmA at h ⊢
  split at h
  · exact absurd h (by decide)
  rename_i c1
  rw [if_neg c1]
  split at h
  · rename_i c2; exact absurd h c2
  · rename_i c2
    rw [if_neg c2]
    have hm : (makeA tb.neg tb.dig (sgn ta.neg (towA ta.dig).1)).2 = 0 := by simpa using c2
    have hr := make_right (m := (makeA tb.neg tb.dig (sgn ta.neg (towA ta.dig).1)).1) (by rw [← hm])
    generalize (makeA tb.neg tb.dig (sgn ta.neg (towA ta.dig).1)).1 = r at *
    have hsz := (rt_size (rtN_rt hr)).2
    have hex := rtN_exp hr
    show (dcm r).bytes = [] ∧ Lf (dcm r) ∧ _
    unfold dcm
    split
    · refine ⟨rfl, ⟨rfl, rfl⟩, rfl, rfl, rfl, ?_, by show (0 : Nat) ≤ _; omega⟩
      show (wholeA r.1 r.2.1 r.2.2).1.size ≤ _
      unfold wholeA
      split
      · rename_i q; show (padW _ _).size ≤ _; rw [padW_size]; omega
      · show (0 : Nat) ≤ _; omega
    · refine ⟨rfl, ⟨rfl, rfl⟩, rfl, rfl, ?_, by show r.2.1.size ≤ _; omega, by show (0 : Nat) ≤ _; omega⟩
      show (Lit.int .i64 r.2.2).wf = true
      simp [Lit.wf, show IntKind.i64.min = -9223372036854775808 from by decide, show IntKind.i64.max = 9223372036854775807 from by decide]
      omega
end Go.Proofs.YtnjbppfanmmifaaGreatDoor
namespace Go.Proofs.YtnjbppfanmmifaaGreatDoor
open Go.RowKit
set_option linter.unusedVariables false
set_option maxHeartbeats 4000000 in
set_option maxRecDepth 100000 in
theorem ctagged_d4 {S : Nat → Prop} {D L : Nat} {w : World} {b : Nb} {t ta tb : Tr} (h : NdW S (D + 1) w b t) (hp : prT t = some (ta, tb)) (hLv : Lw L w) (hLw : L ≤ w.heap.size) : Calls Tryz.prog 169 #[.int .u64 4, .agg b.arr] w fun x w' => TgIs S w w' (D + 1) x (tagA 4 t) := by
  have e : tagA 4 t = dcmA ta tb := by unfold tagA; rw [if_neg (by simp), if_neg (by simp), if_pos rfl, hp]
  rw [e]
  obtain ⟨h7, hkk⟩ := pr_some hp
  have kP : Hid (∀ wx, Below w.heap.size w wx → Calls Tryz.prog 198 #[.agg b.arr] wx fun e w' => e = .returned (.bool true) ∧ Below wx.heap.size wx w') := fun wx hx => by have := cispair_any (h.nd.kept hx); rw [hp] at this; exact this
  have hRow := h.nd.2.2.2.2
  have hlen : t.kids.length = b.li := hRow.1
  have hl2 : b.li = 2 := by rw [← hlen, hkk]; rfl
  rcases hRow.2.2 with hz | ⟨bk, off, ha, hc⟩
  · rw [hkk] at hz; cases hz
  obtain ⟨n0, hc0, hq0⟩ := hc 0 (by rw [hkk]; simp)
  obtain ⟨n1, hc1, hq1⟩ := hc 1 (by rw [hkk]; simp)
  have q0 : n0.dig = ta.dig ∧ n0.neg = ta.neg := by
    have e0 : t.kids[0]'(by rw [hkk]; simp) = ta := by simp [hkk]
    rw [e0] at hq0
    match D, hq0 with
    | D + 1, hq0 => exact ⟨hq0.1.2.2.2.1, hq0.1.2.2.1⟩
  have q1 : n1.dig = tb.dig ∧ n1.neg = tb.neg := by
    have e0 : t.kids[1]'(by rw [hkk]; simp) = tb := by simp [hkk]
    rw [e0] at hq1
    match D, hq1 with
    | D + 1, hq1 => exact ⟨hq1.1.2.2.2.1, hq1.1.2.2.1⟩
  have g0 := hc0 0 (by omega)
  have hbk : bk < w.heap.size := some_block (g0.trans (List.getElem?_eq_getElem (by simp [Nb.cells])))
  have kD : Hid (∀ wx, Below w.heap.size w wx → Calls Tryz.prog 199 #[.agg n0.arr, .agg n1.arr] wx fun e w' => (∃ nb : Nb, e = .returned (.tuple #[.agg nb.arr, .int .i64 (dcmA ta tb).2]) ∧ ((dcmA ta tb).2 = 0 → nb = nbL (dcmA ta tb).1)) ∧ Below wx.heap.size wx w') := fun wx hx => cdecimal_any n0 n1 ta tb wx (hLv.on (hx.mono hLw)) (Nat.le_trans hLw hx.size) q0.1 q0.2 q1.1 q1.2
  have hL : Hid (∀ (X : World) (nb : Nb), (dcmA ta tb).2 = 0 → nb = nbL (dcmA ta tb).1 → NdW (SU S w X) (D + 1 + 1) X nb (dcmA ta tb).1) := fun X nb hz hn => by
    obtain ⟨l1, l2, l3, l4, l5, l6, l7⟩ := dcm_leaf hz
    rw [hn]
    exact ndw_leaf _ _ X l1 l2 l3 l4 l5 l6 l7
  have hX : Hid (∀ w3, Below ((w.alloc (.cells b.arr 26)).alloc (.cells zN.arr 26)).heap.size ((w.alloc (.cells b.arr 26)).alloc (.cells zN.arr 26)) w3 → NBox w3 w.heap.size b ∧ NBox w3 (w.heap.size + 1) zN ∧ Below w.heap.size w w3) := fun w3 hb => tbox b w3 hb
  have hEl : Hid (∀ wx, Below w.heap.size w wx → (∀ j, j < 9 → wx.cell? ⟨bk, off + (0 * 9 + j), none⟩ = n0.cells[j]?) ∧ (∀ j, j < 9 → wx.cell? ⟨bk, off + (1 * 9 + j), none⟩ = n1.cells[j]?)) := fun wx hx => ⟨fun j hj => by rw [hx.cell (p := ⟨bk, off + (0 * 9 + j), none⟩) hbk]; exact hc0 j hj, fun j hj => by rw [hx.cell (p := ⟨bk, off + (1 * 9 + j), none⟩) hbk]; exact hc1 j hj⟩
  obtain ⟨a0, a1, a2, a3, a4, a5, a6, a7, a8⟩ := (nbox_new w b).fields
  have hcap := hRow.2.1.1
  rw [hl2] at hcap
  unfold TgIs
  unfold zN Nb.arr at *
  obtain ⟨cc, hcc⟩ : ∃ cc, b.ci = cc := ⟨_, rfl⟩
  rw [hl2, ha, hcc] at a8 hX kP ⊢
  rw [hl2, ha, hcc] at a0 a1 a2 a3 a4 a5 a6 a7
  rw [hcc] at hcap
  have hcc2 : (2 : Nat) ≤ cc := hcap
  generalize dcmA ta tb = DR at *
  obtain ⟨dt, y⟩ := DR
  simp only at *
  have hA8 : Hid (b.ai = some ⟨bk, off, none⟩ ∧ b.li = 2 ∧ b.ci = cc) := ⟨ha, hl2, hcc⟩
  clear e h hp h7 hkk hRow hlen hl2 hc hc0 hc1 hq0 hq1 q0 q1 g0 hLv hLw hcc ha hcap
  go_enter Tryz.func169, Tryz.ntmps169
  go_upto_region 10 with (go_at_call 198; refine (kP.out _ (bal2 w _ _)).mono ?_; rintro e w3 ⟨rfl, hb3⟩; obtain ⟨hN3, hZ3, hW3⟩ := hX.out _ hb3; have hN4 : Hid (NBox w3 w.heap.size b) := hN3; have hZ4 : Hid (NBox w3 (w.heap.size + 1) zN) := hZ3; have hW4 : Hid (Below w.heap.size w w3) := hW3; clear hb3 hN3 hZ3 hW3)
  have SK : Hid (∀ wx, Below (w.heap.size + 1) w3 wx → wx.cell? ⟨w.heap.size, 8, none⟩ = some (.slice (some ⟨bk, off, none⟩) 2 cc) ∧ wx.cell? ⟨bk, off, none⟩ = some (.int .i64 n0.kind) ∧ wx.cell? ⟨bk, off + 1, none⟩ = some (.int .u64 n0.num) ∧ wx.cell? ⟨bk, off + 2, none⟩ = some (.bool n0.neg) ∧ wx.cell? ⟨bk, off + 3, none⟩ = some (.string n0.dig) ∧ wx.cell? ⟨bk, off + 4, none⟩ = some (.int .i64 n0.exp) ∧ wx.cell? ⟨bk, off + 5, none⟩ = some (.string n0.txt) ∧ wx.cell? ⟨bk, off + 6, none⟩ = some (.slice n0.ab n0.lb n0.cb) ∧ wx.cell? ⟨bk, off + 7, none⟩ = some (.slice n0.ak n0.lk n0.ck) ∧ wx.cell? ⟨bk, off + 8, none⟩ = some (.slice n0.ai n0.li n0.ci) ∧ wx.cell? ⟨bk, off + 9, none⟩ = some (.int .i64 n1.kind) ∧ wx.cell? ⟨bk, off + 10, none⟩ = some (.int .u64 n1.num) ∧ wx.cell? ⟨bk, off + 11, none⟩ = some (.bool n1.neg) ∧ wx.cell? ⟨bk, off + 12, none⟩ = some (.string n1.dig) ∧ wx.cell? ⟨bk, off + 13, none⟩ = some (.int .i64 n1.exp) ∧ wx.cell? ⟨bk, off + 14, none⟩ = some (.string n1.txt) ∧ wx.cell? ⟨bk, off + 15, none⟩ = some (.slice n1.ab n1.lb n1.cb) ∧ wx.cell? ⟨bk, off + 16, none⟩ = some (.slice n1.ak n1.lk n1.ck) ∧ wx.cell? ⟨bk, off + 17, none⟩ = some (.slice n1.ai n1.li n1.ci)) := fun wx hx => by
    have hN := hN4.out.kept (hx.mono (Nat.le_refl _)) (Nat.lt_succ_self _)
    have d8 := hN.fields.2.2.2.2.2.2.2.2
    rw [hA8.out.1, hA8.out.2.1, hA8.out.2.2] at d8
    have hb : Below w.heap.size w wx := hW4.out.trans (hx.mono (Nat.le_succ _))
    obtain ⟨u, v⟩ := hEl.out _ hb
    obtain ⟨u0, u1, u2, u3, u4, u5, u6, u7, u8⟩ := elem_fields (i := 0) u
    obtain ⟨v0, v1, v2, v3, v4, v5, v6, v7, v8⟩ := elem_fields (i := 1) v
    simp only [Nat.zero_mul, Nat.add_zero, Nat.one_mul] at u0 u1 u2 u3 u4 u5 u6 u7 u8 v0 v1 v2 v3 v4 v5 v6 v7 v8
    exact ⟨d8, u0, u1, u2, u3, u4, u5, u6, u7, u8, v0, v1, v2, v3, v4, v5, v6, v7, v8⟩
  have hlw : Hid (w.heap.size + 1 ≤ w3.heap.size) := Nat.le_of_lt hZ4.out.lt
  clear a0 a1 a2 a3 a4 a5 a6 a7 a8 hX kP hEl
  go_region_held3 (fun wx => wx.cell? ⟨w.heap.size, 8, none⟩ = some (.slice (some ⟨bk, off, none⟩) 2 cc) ∧ wx.cell? ⟨bk, off, none⟩ = some (.int .i64 n0.kind) ∧ wx.cell? ⟨bk, off + 1, none⟩ = some (.int .u64 n0.num) ∧ wx.cell? ⟨bk, off + 2, none⟩ = some (.bool n0.neg) ∧ wx.cell? ⟨bk, off + 3, none⟩ = some (.string n0.dig) ∧ wx.cell? ⟨bk, off + 4, none⟩ = some (.int .i64 n0.exp) ∧ wx.cell? ⟨bk, off + 5, none⟩ = some (.string n0.txt) ∧ wx.cell? ⟨bk, off + 6, none⟩ = some (.slice n0.ab n0.lb n0.cb) ∧ wx.cell? ⟨bk, off + 7, none⟩ = some (.slice n0.ak n0.lk n0.ck) ∧ wx.cell? ⟨bk, off + 8, none⟩ = some (.slice n0.ai n0.li n0.ci) ∧ wx.cell? ⟨bk, off + 9, none⟩ = some (.int .i64 n1.kind) ∧ wx.cell? ⟨bk, off + 10, none⟩ = some (.int .u64 n1.num) ∧ wx.cell? ⟨bk, off + 11, none⟩ = some (.bool n1.neg) ∧ wx.cell? ⟨bk, off + 12, none⟩ = some (.string n1.dig) ∧ wx.cell? ⟨bk, off + 13, none⟩ = some (.int .i64 n1.exp) ∧ wx.cell? ⟨bk, off + 14, none⟩ = some (.string n1.txt) ∧ wx.cell? ⟨bk, off + 15, none⟩ = some (.slice n1.ab n1.lb n1.cb) ∧ wx.cell? ⟨bk, off + 16, none⟩ = some (.slice n1.ak n1.lk n1.ck) ∧ wx.cell? ⟨bk, off + 17, none⟩ = some (.slice n1.ai n1.li n1.ci)) (((with_reducible refine SK.out _ ?_); (repeat' with_reducible first | exact Below.refl _ _ | exact b5.out | refine Below.drew ?_ | refine bset ?_ ?_); (all_goals exact Nat.le_refl _))) (first | (go_at_call 199; refine (kD.out _ (Below.drew hW4.out)).mono ?_; rintro e w5 ⟨⟨nb, he5, hn5⟩, hb5⟩; subst he5; have b5 : Hid (Below (w.heap.size + 1) w3 w5) := Below.mono ⟨hb5.os, hb5.tape, hb5.output, hb5.size, hb5.block⟩ hlw.out; have hN5 : Hid (y = 0 → nb = nbL dt) := hn5; have W5 : Hid (Below w.heap.size w w5) := hW4.out.trans (b5.out.mono (Nat.le_succ _)); have Z5 : Hid (NBox w5 (w.heap.size + 1) zN) := hZ4.out.same (hb5.block _ hZ4.out.lt); obtain ⟨⟨f0, f1, f2, f3, f4, f5, f6, f7, f8⟩, z0, z1, z2, z3, z4, z5, z6, z7, z8⟩ := zbox Z5.out; clear hb5 hn5))
  all_goals
    go_wp2_with fail
    refine bodyPost_ret (v := .tuple #[.agg nb.arr, .int .i64 y]) (by rw [Nb.arr]; simp [results, Tryz.results169, go_sem, *]) rfl ⟨⟨nb, rfl, fun z => hL.out _ _ z (hN5.out z)⟩, ?_⟩
    repeat (first | with_reducible exact W5.out | with_reducible refine bset ?_ (by omega))
end Go.Proofs.YtnjbppfanmmifaaGreatDoor
namespace Go.Proofs.YtnjbppfanmmifaaGreatDoor
open Go.RowKit
set_option linter.unusedVariables false
/-- Every tag. -/
theorem ctagged_any {S : Nat → Prop} {D L : Nat} {w : World} {b : Nb} {t : Tr} (n : Nat) (hn : n < 18446744073709551616) (h : NdW S (D + 1) w b t) (hE : ∀ k, S k → k < w.heap.size) (hLv : Lw L w) (hL : L ≤ w.heap.size) : Calls Tryz.prog 169 #[.int .u64 (n : Nat), .agg b.arr] w fun x w' => TgIs S w w' (D + 1) x (tagA n t) := by
  by_cases h2 : n = 2
  · subst h2
    by_cases h6 : t.kind = 6
    · exact ctagged_b2 h h6
    · exact ctagged_two h hE h6
  by_cases h3 : n = 3
  · subst h3
    by_cases h6 : t.kind = 6
    · exact ctagged_b3 h h6
    · exact ctagged_three h hE h6
  by_cases h4 : n = 4
  · subst h4
    cases hp : prT t with
    | none => exact ctagged_four h hE hp
    | some ab =>
      obtain ⟨ta, tb⟩ := ab
      exact ctagged_d4 h hp hLv hL
  · exact ctagged_plain n hn h hE h2 h3 h4
/-- What comes of a tag, by what comes of its item. -/
def tagR (hd : Hd) (R : Sum (Int × Nat) (Tr × Nat × Nat)) : Sum (Int × Nat) (Tr × Nat × Nat) := match R with
  | .inl e => .inl e
  | .inr (t, r, n) => if (tagA hd.n t).2 ≠ 0 then .inl (11, hd.pl) else .inr ((tagA hd.n t).1, r, n)
/-- A tag. -/
def TagAt (C : CX) (k : Nat) : Prop := ∀ (w : World) (hd : Hd) (d q m : Nat), RSt C w q m → hd.n < 18446744073709551616 → m ≤ 1024 → d ≤ 24 → q ≤ C.zs.length → 2 * (C.zs.length - q) + 1 ≤ k → Calls Tryz.prog 129 #[.pointer (some ⟨C.g, 0, none⟩), .agg hd.arr, .int .i64 (d : Nat)] w fun x w' => ItmIs C w w' (27 - d) x (tagR hd (rcF k C.zs 0 (d + 1) q m none [] []))
/-- The reader behind an item and its tag: the boxes, the node that is answered. -/
def TD (C : CX) (w X : World) (hd : Hd) (r o D : Nat) (nb : Nb) (R : Tr × Int) (S : Nat → Prop) : Prop := RK C w X r o ∧ Blk X w.heap.size hd.arr 94 ∧ NBox X (w.heap.size + 1) zN ∧ (R.2 = 0 → NdW S (D + 1) X nb R.1) ∧ (∀ k, S k → w.heap.size + 2 ≤ k ∧ k < X.heap.size) ∧ w.heap.size + 2 ≤ X.heap.size
/-- The same, the node in a box. -/
def TC (C : CX) (w X : World) (hd : Hd) (r o D g : Nat) (nb : Nb) (R : Tr × Int) : Prop := RK C w X r o ∧ Blk X w.heap.size hd.arr 94 ∧ NBox X (w.heap.size + 1) zN ∧ NBox X g nb ∧ (R.2 = 0 → NdW (Rg (w.heap.size + 2) X.heap.size) (D + 1) X nb R.1)
theorem tc_c {C : CX} {w X : World} {hd : Hd} {r o D : Nat} {nb : Nb} {R : Tr × Int} {S : Nat → Prop} (h : TD C w X hd r o D nb R S) : TC C w (X.alloc (.cells nb.arr 26)) hd r o D X.heap.size nb R := by
  obtain ⟨h1, h2, h3, h4, h5, h6⟩ := h
  have A := alloc_below X (.cells nb.arr 26)
  refine ⟨h1.alloc _, Blk.kept h2 A h2.lt, h3.kept A h3.lt, nbox_new X nb, fun z => ((h4 z).stays fun k hk => A.block k (h5 k hk).2).mono fun k hk => ⟨(h5 k hk).1, Nat.lt_of_lt_of_le (h5 k hk).2 A.size⟩⟩
theorem nine_put {X : World} {g : Nat} {nb : Nb} (h : NBox X g zN) : NBox (((((((((X.setCell ⟨g, 0, none⟩ (.int .i64 nb.kind)).setCell ⟨g, 1, none⟩ (.int .u64 nb.num)).setCell ⟨g, 2, none⟩ (.bool nb.neg)).setCell ⟨g, 3, none⟩ (.string nb.dig)).setCell ⟨g, 4, none⟩ (.int .i64 nb.exp)).setCell ⟨g, 5, none⟩ (.string nb.txt)).setCell ⟨g, 6, none⟩ (.slice nb.ab nb.lb nb.cb)).setCell ⟨g, 7, none⟩ (.slice nb.ak nb.lk nb.ck)).setCell ⟨g, 8, none⟩ (.slice nb.ai nb.li nb.ci)) g nb := by
  have h0 : X.heap[g]? = some (.cells #[.int .i64 0, .int .u64 0, .bool false, .string ⟨#[]⟩, .int .i64 0, .string ⟨#[]⟩, .slice none 0 0, .slice none 0 0, .slice none 0 0] 26 (0, 0)) := h
  have h1 : (X.setCell ⟨g, 0, none⟩ (.int .i64 nb.kind)).heap[g]? = some (.cells #[.int .i64 nb.kind, .int .u64 0, .bool false, .string ⟨#[]⟩, .int .i64 0, .string ⟨#[]⟩, .slice none 0 0, .slice none 0 0, .slice none 0 0] 26 (0, 0)) := (heap_setCell_same _ g 0 _ 26 _ h0).trans rfl
  have h2 : ((X.setCell ⟨g, 0, none⟩ (.int .i64 nb.kind)).setCell ⟨g, 1, none⟩ (.int .u64 nb.num)).heap[g]? = some (.cells #[.int .i64 nb.kind, .int .u64 nb.num, .bool false, .string ⟨#[]⟩, .int .i64 0, .string ⟨#[]⟩, .slice none 0 0, .slice none 0 0, .slice none 0 0] 26 (0, 0)) := (heap_setCell_same _ g 1 _ 26 _ h1).trans rfl
  have h3 : (((X.setCell ⟨g, 0, none⟩ (.int .i64 nb.kind)).setCell ⟨g, 1, none⟩ (.int .u64 nb.num)).setCell ⟨g, 2, none⟩ (.bool nb.neg)).heap[g]? = some (.cells #[.int .i64 nb.kind, .int .u64 nb.num, .bool nb.neg, .string ⟨#[]⟩, .int .i64 0, .string ⟨#[]⟩, .slice none 0 0, .slice none 0 0, .slice none 0 0] 26 (0, 0)) := (heap_setCell_same _ g 2 _ 26 _ h2).trans rfl
  have h4 : ((((X.setCell ⟨g, 0, none⟩ (.int .i64 nb.kind)).setCell ⟨g, 1, none⟩ (.int .u64 nb.num)).setCell ⟨g, 2, none⟩ (.bool nb.neg)).setCell ⟨g, 3, none⟩ (.string nb.dig)).heap[g]? = some (.cells #[.int .i64 nb.kind, .int .u64 nb.num, .bool nb.neg, .string nb.dig, .int .i64 0, .string ⟨#[]⟩, .slice none 0 0, .slice none 0 0, .slice none 0 0] 26 (0, 0)) := (heap_setCell_same _ g 3 _ 26 _ h3).trans rfl
  have h5 : (((((X.setCell ⟨g, 0, none⟩ (.int .i64 nb.kind)).setCell ⟨g, 1, none⟩ (.int .u64 nb.num)).setCell ⟨g, 2, none⟩ (.bool nb.neg)).setCell ⟨g, 3, none⟩ (.string nb.dig)).setCell ⟨g, 4, none⟩ (.int .i64 nb.exp)).heap[g]? = some (.cells #[.int .i64 nb.kind, .int .u64 nb.num, .bool nb.neg, .string nb.dig, .int .i64 nb.exp, .string ⟨#[]⟩, .slice none 0 0, .slice none 0 0, .slice none 0 0] 26 (0, 0)) := (heap_setCell_same _ g 4 _ 26 _ h4).trans rfl
  have h6 : ((((((X.setCell ⟨g, 0, none⟩ (.int .i64 nb.kind)).setCell ⟨g, 1, none⟩ (.int .u64 nb.num)).setCell ⟨g, 2, none⟩ (.bool nb.neg)).setCell ⟨g, 3, none⟩ (.string nb.dig)).setCell ⟨g, 4, none⟩ (.int .i64 nb.exp)).setCell ⟨g, 5, none⟩ (.string nb.txt)).heap[g]? = some (.cells #[.int .i64 nb.kind, .int .u64 nb.num, .bool nb.neg, .string nb.dig, .int .i64 nb.exp, .string nb.txt, .slice none 0 0, .slice none 0 0, .slice none 0 0] 26 (0, 0)) := (heap_setCell_same _ g 5 _ 26 _ h5).trans rfl
  have h7 : (((((((X.setCell ⟨g, 0, none⟩ (.int .i64 nb.kind)).setCell ⟨g, 1, none⟩ (.int .u64 nb.num)).setCell ⟨g, 2, none⟩ (.bool nb.neg)).setCell ⟨g, 3, none⟩ (.string nb.dig)).setCell ⟨g, 4, none⟩ (.int .i64 nb.exp)).setCell ⟨g, 5, none⟩ (.string nb.txt)).setCell ⟨g, 6, none⟩ (.slice nb.ab nb.lb nb.cb)).heap[g]? = some (.cells #[.int .i64 nb.kind, .int .u64 nb.num, .bool nb.neg, .string nb.dig, .int .i64 nb.exp, .string nb.txt, .slice nb.ab nb.lb nb.cb, .slice none 0 0, .slice none 0 0] 26 (0, 0)) := (heap_setCell_same _ g 6 _ 26 _ h6).trans rfl
  have h8 : ((((((((X.setCell ⟨g, 0, none⟩ (.int .i64 nb.kind)).setCell ⟨g, 1, none⟩ (.int .u64 nb.num)).setCell ⟨g, 2, none⟩ (.bool nb.neg)).setCell ⟨g, 3, none⟩ (.string nb.dig)).setCell ⟨g, 4, none⟩ (.int .i64 nb.exp)).setCell ⟨g, 5, none⟩ (.string nb.txt)).setCell ⟨g, 6, none⟩ (.slice nb.ab nb.lb nb.cb)).setCell ⟨g, 7, none⟩ (.slice nb.ak nb.lk nb.ck)).heap[g]? = some (.cells #[.int .i64 nb.kind, .int .u64 nb.num, .bool nb.neg, .string nb.dig, .int .i64 nb.exp, .string nb.txt, .slice nb.ab nb.lb nb.cb, .slice nb.ak nb.lk nb.ck, .slice none 0 0] 26 (0, 0)) := (heap_setCell_same _ g 7 _ 26 _ h7).trans rfl
  have h9 : (((((((((X.setCell ⟨g, 0, none⟩ (.int .i64 nb.kind)).setCell ⟨g, 1, none⟩ (.int .u64 nb.num)).setCell ⟨g, 2, none⟩ (.bool nb.neg)).setCell ⟨g, 3, none⟩ (.string nb.dig)).setCell ⟨g, 4, none⟩ (.int .i64 nb.exp)).setCell ⟨g, 5, none⟩ (.string nb.txt)).setCell ⟨g, 6, none⟩ (.slice nb.ab nb.lb nb.cb)).setCell ⟨g, 7, none⟩ (.slice nb.ak nb.lk nb.ck)).setCell ⟨g, 8, none⟩ (.slice nb.ai nb.li nb.ci)).heap[g]? = some (.cells #[.int .i64 nb.kind, .int .u64 nb.num, .bool nb.neg, .string nb.dig, .int .i64 nb.exp, .string nb.txt, .slice nb.ab nb.lb nb.cb, .slice nb.ak nb.lk nb.ck, .slice nb.ai nb.li nb.ci] 26 (0, 0)) := (heap_setCell_same _ g 8 _ 26 _ h8).trans rfl
  exact h9
theorem TD.set {C : CX} {w X : World} {hd : Hd} {r o D g j : Nat} {nb : Nb} {R : Tr × Int} {S : Nat → Prop} {v : Value} (h : TD C w X hd r o D nb R S) (hg : w.heap.size + 2 ≤ g) (hS : ¬ S g) : TD C w (X.setCell ⟨g, j, none⟩ v) hd r o D nb R S := by
  obtain ⟨h1, h2, h3, h4, h5, h6⟩ := h
  exact ⟨h1.set (by omega), (setk (by omega) v).trans h2, h3.same (setk (by omega) v), fun z => (h4 z).stays fun k hk => setk (by intro e; subst e; exact hS hk) v, fun k hk => ⟨(h5 k hk).1, by rw [set_size]; exact (h5 k hk).2⟩, by rw [set_size]; exact h6⟩
theorem tc_ab {C : CX} {w X : World} {hd : Hd} {r o D g : Nat} {nb : Nb} {R : Tr × Int} {S : Nat → Prop} (h : TD C w X hd r o D nb R S) (hN : NBox X g zN) (hg : w.heap.size + 2 ≤ g) (hS : ¬ S g) : TC C w (((((((((X.setCell ⟨g, 0, none⟩ (.int .i64 nb.kind)).setCell ⟨g, 1, none⟩ (.int .u64 nb.num)).setCell ⟨g, 2, none⟩ (.bool nb.neg)).setCell ⟨g, 3, none⟩ (.string nb.dig)).setCell ⟨g, 4, none⟩ (.int .i64 nb.exp)).setCell ⟨g, 5, none⟩ (.string nb.txt)).setCell ⟨g, 6, none⟩ (.slice nb.ab nb.lb nb.cb)).setCell ⟨g, 7, none⟩ (.slice nb.ak nb.lk nb.ck)).setCell ⟨g, 8, none⟩ (.slice nb.ai nb.li nb.ci)) hd r o D g nb R := by
  have T := ((((((((h.set (j := 0) (v := .int .i64 nb.kind) hg hS).set (j := 1) (v := .int .u64 nb.num) hg hS).set (j := 2) (v := .bool nb.neg) hg hS).set (j := 3) (v := .string nb.dig) hg hS).set (j := 4) (v := .int .i64 nb.exp) hg hS).set (j := 5) (v := .string nb.txt) hg hS).set (j := 6) (v := .slice nb.ab nb.lb nb.cb) hg hS).set (j := 7) (v := .slice nb.ak nb.lk nb.ck) hg hS).set (j := 8) (v := .slice nb.ai nb.li nb.ci) hg hS
  exact ⟨T.1, T.2.1, T.2.2.1, nine_put hN, fun z => (T.2.2.2.1 z).mono T.2.2.2.2.1⟩
theorem kz_set {g B k j : Nat} {w X : World} {v : Value} (h : Kq g B w X) (hk : B ≤ k) : Kq g B w (X.setCell ⟨k, j, none⟩ v) := by
  have hb : Below B X (X.setCell ⟨k, j, none⟩ v) := (Below.refl B X).setCell (p := ⟨k, j, none⟩) hk v
  exact h.trans (Kq.of hb)
theorem kz_alloc {g B : Nat} {w X : World} (h : Kq g B w X) (hB : B ≤ w.heap.size) (o : Obj) : Kq g B w (X.alloc o) := h.trans (Kq.of ((alloc_below X o).mono (Nat.le_trans hB h.size)))
end Go.Proofs.YtnjbppfanmmifaaGreatDoor
