/-
  A builder's writes leave a text's walk alone.
-/
import Derived.Test.YtfkoghmbkgbgbaaDoorJbe
namespace Go.Proofs.YtfkoghmbkgbgbaaDoor
open Go.RowKit
set_option linter.unusedVariables false

/-- Every walk over a text stands where it stood. -/
def Its (w w' : World) : Prop := ∀ (k : Nat) (t : ByteArray) (p : Nat), w.heap[k]? = some (Obj.stringIter t p) → w'.heap[k]? = some (Obj.stringIter t p)
theorem Its.refl (w : World) : Its w w := fun _ _ _ h => h
theorem Its.trans {a b c : World} (h : Its a b) (k : Its b c) : Its a c := fun i t p hi => k i t p (h i t p hi)
theorem Its.of {w w' : World} (h : Below w.heap.size w w') : Its w w' := fun k t p hk => (h.block k (Array.getElem?_eq_some_iff.1 hk).1).trans hk
theorem Its.set {w : World} {g : Nat} {cs : Array Value} {T : TypeId} (h : Blk w g cs T) (j : Nat) (v : Value) : Its w (w.setCell ⟨g, j, none⟩ v) := fun k t p hk => by
  have hne : k ≠ g := by
    intro e
    subst e
    unfold Blk at h
    rw [h] at hk
    cases hk
  exact ((Kq.set g (k + 1) w j v).block k (Nat.lt_succ_self _) hne).trans hk
theorem Its.grown {w w' : World} {B : Nat} {v : Value} {zs : List Int} (h : OwnsB w B v zs) (hg : w.grownBy w' v.ownBlock) : Its w w' := fun k t p hk => by
  refine (hg.block k (Array.getElem?_eq_some_iff.1 hk).1 ?_).trans hk
  rcases h.1.2 with ⟨rfl, _⟩ | ⟨g2, cap, cur, rfl, _, hc, _⟩
  · simp [Value.ownBlock]
  · intro e
    have e2 : k = g2 := by simpa [Value.ownBlock] using e
    subst e2
    rw [hc] at hk
    cases hk
theorem cc_its {w : World} {g o B : Nat} {cs : Array Value} {T : TypeId} {p : Option Addr} {v : Value} {zs : List Int} (h : Bdr w g o B cs T p v zs) :
    Calls Tryd.prog 45 #[.pointer (some ⟨g, o, none⟩)] w fun e w' => e = .returned (.tuple #[]) ∧ Bdr w' g o B (cs.setIfInBounds o (.pointer (some ⟨g, o, none⟩))) T (some ⟨g, o, none⟩) v zs ∧ Kq g B w w' ∧ Its w w' := by
  have ho : o < cs.size := by
    have := h.ptr
    rcases Nat.lt_or_ge o cs.size with h1 | h1
    · exact h1
    · rw [Array.getElem?_eq_none h1] at this; cases this
  rcases h.own with hp | hp
  · have h0 := h.blk.cell o
    rw [h.ptr, hp] at h0
    refine (cc_fresh g o w T cs.size h0 (h.blk.fz o) h.blk.shape ho h.lies).mono ?_
    rintro e w' ⟨rfl, rfl⟩
    refine ⟨rfl, ⟨h.blk.set o _, ?_, .inr rfl, ?_, ?_, ⟨ownsRow_setCell_below h.row.1 (a := ⟨g, o, none⟩) h.low _, h.row.2⟩, h.low, Nat.le_trans h.top (Kq.set g B w o _).size⟩, Kq.set g B w o _, Its.set h.blk o _⟩
    · rw [Array.getElem?_setIfInBounds_self_of_lt ho]
    · rw [Array.getElem?_setIfInBounds_ne (by omega)]; exact h.buf
    · rw [Array.size_setIfInBounds]; exact h.lies
  · have h0 := h.blk.cell o
    rw [h.ptr, hp] at h0
    refine (cc_used g o w h0).mono ?_
    rintro e w' ⟨rfl, rfl⟩
    have e1 : cs.setIfInBounds o (.pointer (some ⟨g, o, none⟩)) = cs := set_same (by rw [h.ptr, hp])
    rw [e1]
    exact ⟨rfl, ⟨h.blk, by rw [h.ptr, hp], .inr rfl, h.buf, h.lies, h.row, h.low, h.top⟩, Kq.refl _ _ _, Its.refl _⟩
theorem app_its (B : Nat) (v : Value) (zs : List Int) (r : Nat) (hr : Right r) (w : World) (hO : OwnsB w B v zs) (hlen : zs.length + 4 ≤ 140737488355328) (hB : B ≤ w.heap.size) :
    Calls Tryd.prog 70 #[v, .int .i32 (r : Int)] w fun e w' => ∃ v', e = .returned v' ∧ OwnsB w' B v' (zs ++ encL r) ∧ Below B w w' ∧ Its w w' := by
  have hb : r ≤ 1114111 := hr.1
  have k : Calls Tryd.prog 70 #[v, .int .i32 (r : Int)] w _ := Any.utf8_AppendRune_plain lays242 (by kernel_rfl) B v zs.length (zs.map (Value.int .u8)) (r : Int) (by omega) (by omega) w hO.1 hlen hB
  refine k.mono ?_
  rintro e w' ⟨v', rfl, hO', o, hg⟩
  rw [rune_cells hr, ← List.map_append, List.length_map, ← List.length_append] at hO'
  refine ⟨v', rfl, ⟨hO', fun c hc => ?_⟩, ((Below.refl B w).alloc hB o).grown hg (by simp; omega) (fun k hk => (hO.1.lt k hk).1), (Its.of ((Below.refl _ w).alloc (Nat.le_refl _) o)).trans (Its.grown (hO.alloc o) hg)⟩
  rcases List.mem_append.1 hc with hc | hc
  · exact hO.2 c hc
  · exact enc_bytes hr c hc

set_option maxHeartbeats 2000000 in
set_option maxRecDepth 100000 in
/-- (*strings.Builder).WriteByte. -/
theorem wbyte_its {w : World} {g o B : Nat} {cs : Array Value} {T : TypeId} {p : Option Addr} {v : Value} {zs : List Int} (c : Int) (hc0 : 0 ≤ c) (hc1 : c < 256) (h : Bdr w g o B cs T p v zs) (hlen : zs.length + 4 ≤ 140737488355328) :
    Calls Tryd.prog 28 #[.pointer (some ⟨g, o, none⟩), .int .u8 c] w fun e w' => e = .returned .nilIface ∧ (∃ v', Bdr w' g o B (wrt cs g o v') T (some ⟨g, o, none⟩) v' (zs ++ [c])) ∧ Kq g B w w' ∧ Its w w' := by
  have kC := cc_its h
  have hl' : Hid (zs.length + 4 ≤ 140737488355328) := hlen
  have hc : Hid (0 ≤ c ∧ c < 256) := ⟨hc0, hc1⟩
  clear h hlen hc0 hc1
  go_enter Tryd.func28, Tryd.ntmps28
  go_wp2_with (first
    | (go_at_call 45; refine kC.mono ?_; rintro e w1 ⟨rfl, h1, hk1, ht1⟩; clear kC; obtain ⟨a1, n1, cap1, hv, hn1, hcc1, hle1, hm1, hb1⟩ := h1.row.form; subst hv; have c1 := h1.blk.cell (o + 1); rw [h1.buf] at c1; have H1 : Hid (Bdr w1 g o B (cs.setIfInBounds o (.pointer (some ⟨g, o, none⟩))) T (some ⟨g, o, none⟩) (.slice a1 n1 cap1) zs) := h1; clear h1 hn1 hb1 hcc1)
    | (at_builtin; refine wpList_append_bytes rfl _ _ rfl B (.slice a1 n1 cap1) zs [c] rfl (H1.out.row.alloc _) (some ⟨w1.heap.size, 0, none⟩) 1 1 rfl rfl (by simp) (one_byte w1 c hc.out.1 hc.out.2) (by have := hl'.out; simp; omega) (by have := H1.out.top; simp; omega) ?_; intro v2 w2 hO2 hg2; have hb2 : Below B w1 w2 := grown_below ((Below.refl B w1).alloc H1.out.top _) (H1.out.row.alloc _) hg2 (by have := H1.out.top; simp; omega); have ht2 : Its w1 w2 := (Its.of ((Below.refl _ w1).alloc (Nat.le_refl _) _)).trans (Its.grown (H1.out.row.alloc _) hg2); obtain ⟨a2, n2, cap2, hv2, hn2, hc2, hle2, hm2, hB2⟩ := hO2.form; subst hv2; have K2 := H1.out.blk.kept hb2 H1.out.low; have d1 := K2.cell (o + 1); rw [H1.out.buf] at d1; have f1 := K2.fz (o + 1); clear c1 hn2 hB2 hc2))
  go_ret
  exact ⟨rfl, ⟨.slice a2 n2 cap2, H1.out.put (p := p) hb2 hO2⟩, (hk1.trans (Kq.of hb2)).trans (Kq.set g B w2 (o + 1) _), (ht1.trans ht2).trans (Its.set K2 (o + 1) _)⟩

set_option maxHeartbeats 2000000 in
set_option maxRecDepth 100000 in
/-- (*strings.Builder).WriteString. -/
theorem wstr_its {w : World} {g o B : Nat} {cs : Array Value} {T : TypeId} {p : Option Addr} {v : Value} {zs : List Int} (t : ByteArray) (h : Bdr w g o B cs T p v zs) (hlen : zs.length + t.size ≤ 140737488355328) :
    Calls Tryd.prog 47 #[.pointer (some ⟨g, o, none⟩), .string t] w fun e w' => (∃ n, e = .returned (.tuple #[.int .i64 n, .nilIface])) ∧ (∃ v', Bdr w' g o B (wrt cs g o v') T (some ⟨g, o, none⟩) v' (zs ++ bs t)) ∧ Kq g B w w' ∧ Its w w' := by
  have kC := cc_its h
  have hl' : Hid (zs.length + t.size ≤ 140737488355328) := hlen
  clear h hlen
  go_enter Tryd.func47, Tryd.ntmps47
  go_wp2_with (first
    | (go_at_call 45; refine kC.mono ?_; rintro e w1 ⟨rfl, h1, hk1, ht1⟩; clear kC; obtain ⟨a1, n1, cap1, hv, hn1, hcc1, hle1, hm1, hb1⟩ := h1.row.form; subst hv; have c1 := h1.blk.cell (o + 1); rw [h1.buf] at c1; have H1 : Hid (Bdr w1 g o B (cs.setIfInBounds o (.pointer (some ⟨g, o, none⟩))) T (some ⟨g, o, none⟩) (.slice a1 n1 cap1) zs) := h1; clear h1 hn1 hb1 hcc1)
    | (at_builtin; refine wpList_append_text rfl _ _ rfl B (.slice a1 n1 cap1) zs rfl H1.out.row t rfl hl'.out H1.out.top ?_; intro v2 w2 hO2 hg2; have hb2 : Below B w1 w2 := grown_below (Below.refl B w1) H1.out.row hg2 H1.out.top; have ht2 : Its w1 w2 := Its.grown H1.out.row hg2; obtain ⟨a2, n2, cap2, hv2, hn2, hc2, hle2, hm2, hB2⟩ := hO2.form; subst hv2; have K2 := H1.out.blk.kept hb2 H1.out.low; have d1 := K2.cell (o + 1); rw [H1.out.buf] at d1; have f1 := K2.fz (o + 1); clear c1 hn2 hB2 hc2))
  go_ret2
  exact ⟨⟨_, rfl⟩, ⟨.slice a2 n2 cap2, H1.out.put (p := p) hb2 hO2⟩, (hk1.trans (Kq.of hb2)).trans (Kq.set g B w2 (o + 1) _), (ht1.trans ht2).trans (Its.set K2 (o + 1) _)⟩

set_option maxHeartbeats 2000000 in
set_option maxRecDepth 100000 in
/-- (*strings.Builder).WriteRune. -/
theorem wrune_its {w : World} {g o B : Nat} {cs : Array Value} {T : TypeId} {p : Option Addr} {v : Value} {zs : List Int} (r : Nat) (hr : Right r) (h : Bdr w g o B cs T p v zs) (hlen : zs.length + 4 ≤ 140737488355328) :
    Calls Tryd.prog 48 #[.pointer (some ⟨g, o, none⟩), .int .i32 (r : Int)] w fun e w' => (∃ n, e = .returned (.tuple #[.int .i64 n, .nilIface])) ∧ (∃ v', Bdr w' g o B (wrt cs g o v') T (some ⟨g, o, none⟩) v' (zs ++ encL r)) ∧ Kq g B w w' ∧ Its w w' := by
  have kC := cc_its h
  have hr' : Hid (Right r) := hr
  have hl' : Hid (zs.length + 4 ≤ 140737488355328) := hlen
  clear h hr hlen
  go_enter Tryd.func48, Tryd.ntmps48
  go_wp2_with (first
    | (go_at_call 45; refine kC.mono ?_; rintro e w1 ⟨rfl, h1, hk1, ht1⟩; clear kC; obtain ⟨a1, n1, cap1, hv, hn1, hc1, hle1, hm1, hb1⟩ := h1.row.form; subst hv; have c1 := h1.blk.cell (o + 1); rw [h1.buf] at c1; have kA := app_its B (.slice a1 n1 cap1) zs r hr'.out w1 h1.row hl'.out h1.top; have H1 : Hid (Bdr w1 g o B (cs.setIfInBounds o (.pointer (some ⟨g, o, none⟩))) T (some ⟨g, o, none⟩) (.slice a1 n1 cap1) zs) := h1; clear h1 hn1 hb1 hc1)
    | (go_at_call 70; refine kA.mono ?_; rintro e w2 ⟨v2, rfl, hO2, hb2, ht2⟩; obtain ⟨a2, n2, cap2, hv2, hn2, hc2, hle2, hm2, hB2⟩ := hO2.form; subst hv2; have K2 := H1.out.blk.kept hb2 H1.out.low; have d1 := K2.cell (o + 1); rw [H1.out.buf] at d1; have f1 := K2.fz (o + 1); clear kA c1 hn2 hB2 hc2))
  go_ret2
  exact ⟨⟨_, rfl⟩, ⟨.slice a2 n2 cap2, H1.out.put (p := p) hb2 hO2⟩, (hk1.trans (Kq.of hb2)).trans (Kq.set g B w2 (o + 1) _), (ht1.trans ht2).trans (Its.set K2 (o + 1) _)⟩
end Go.Proofs.YtfkoghmbkgbgbaaDoor
