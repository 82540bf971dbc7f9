/-
  strings.Builder: a byte, a string that is written to it; the string that it is.
-/
import Derived.Test.YtfkoghmbkgbgbaaDoorJbd
import Derived.Lib.AppendStr
namespace Go.Proofs.YtfkoghmbkgbgbaaDoor
open Go.RowKit
set_option linter.unusedVariables false

theorem cells_bs (t : ByteArray) : Lib.strCells t = (bs t).map (Value.int .u8) := by
  unfold Lib.strCells bs
  rw [List.map_map]
  rfl
/-- 'append(v, t...)', v the call's own bytes, t a string. -/
theorem wpList_append_text {w : World} {ops : Array Oper} {rest : List Oper} {o : Oper} {a : Act} {Q : Exit → Act → World → Prop} (hgd : o.guard = none) (s x : Operand)
    (ho : o.op = .call { callee := .builtin .append, args := #[s, x], argTypes := #[22, 9] })
    (base : Nat) (v : Value) (ys : List Int) (hs : a.eval s = v) (hown : OwnsB w base v ys)
    (t : ByteArray) (hx : a.eval x = .string t) (hbytes : ys.length + t.size ≤ 140737488355328) (hbase : base ≤ w.heap.size)
    (h : ∀ v' w', OwnsB w' base v' (ys ++ bs t) → w.grownBy w' v.ownBlock → wpList Tryd.prog ops Q rest (a.put o.dst v') w') : wpList Tryd.prog ops Q (o :: rest) a w := by
  obtain ⟨i, hi, hz, hsz, hby⟩ := info_parts info5
  refine Lib.wpList_append_own_string w hgd s x 22 9 ho base 5 i Tryd.underlying22 Tryd.underlying9 hi hz hsz hby v ys.length _ hs hown.1 t hx (by unfold maxLen; omega) hbytes hbase ?_
  intro v' w' ho' hg _
  refine h v' w' ⟨?_, fun c hc => ?_⟩ hg
  · rw [List.length_append, List.map_append, bs_len, ← cells_bs]
    exact ho'
  · rcases List.mem_append.1 hc with h1 | h1
    · exact hown.2 c h1
    · exact bs_bytes t c h1
/-- The builder behind a write of any bytes. -/
theorem Bdr.put {w w2 : World} {g o B : Nat} {cs : Array Value} {T : TypeId} {p : Option Addr} {v v2 : Value} {zs ys : List Int} (h : Bdr w g o B (cs.setIfInBounds o (.pointer (some ⟨g, o, none⟩))) T (some ⟨g, o, none⟩) v zs) (hb : Below B w w2) (hO : OwnsB w2 B v2 ys) :
    Bdr (w2.setCell ⟨g, o + 1, none⟩ v2) g o B (wrt cs g o v2) T (some ⟨g, o, none⟩) v2 ys := by
  have K2 := h.blk.kept hb h.low
  refine ⟨K2.set (o + 1) _, ?_, .inr rfl, ?_, ?_, ⟨ownsRow_setCell_below hO.1 (a := ⟨g, o + 1, none⟩) h.low _, hO.2⟩, h.low, ?_⟩
  · unfold wrt; rw [Array.getElem?_setIfInBounds_ne (by omega)]; exact h.ptr
  · unfold wrt
    have := h.buf
    rw [Array.getElem?_setIfInBounds_self_of_lt]
    rcases Nat.lt_or_ge (o + 1) (cs.setIfInBounds o (.pointer (some ⟨g, o, none⟩))).size with h1 | h1
    · exact h1
    · rw [Array.getElem?_eq_none h1] at this; cases this
  · unfold wrt; rw [Array.size_setIfInBounds]; exact h.lies
  · exact Nat.le_trans h.top (Nat.le_trans hb.size (Kq.set g B w2 (o + 1) _).size)

set_option maxHeartbeats 2000000 in
set_option maxRecDepth 100000 in
/-- (*strings.Builder).WriteByte. -/
theorem wbyte_any {w : World} {g o B : Nat} {cs : Array Value} {T : TypeId} {p : Option Addr} {v : Value} {zs : List Int} (c : Int) (hc0 : 0 ≤ c) (hc1 : c < 256) (h : Bdr w g o B cs T p v zs) (hlen : zs.length + 4 ≤ 140737488355328) :
    Calls Tryd.prog 28 #[.pointer (some ⟨g, o, none⟩), .int .u8 c] w fun e w' => e = .returned .nilIface ∧ (∃ v', Bdr w' g o B (wrt cs g o v') T (some ⟨g, o, none⟩) v' (zs ++ [c])) ∧ Kq g B w w' := by
  have kC := cc_any h
  have hl' : Hid (zs.length + 4 ≤ 140737488355328) := hlen
  have hc : Hid (0 ≤ c ∧ c < 256) := ⟨hc0, hc1⟩
  clear h hlen hc0 hc1
  go_enter Tryd.func28, Tryd.ntmps28
  go_wp2_with (first
    | (go_at_call 45; refine kC.mono ?_; rintro e w1 ⟨rfl, h1, hk1⟩; clear kC; obtain ⟨a1, n1, cap1, hv, hn1, hcc1, hle1, hm1, hb1⟩ := h1.row.form; subst hv; have c1 := h1.blk.cell (o + 1); rw [h1.buf] at c1; have H1 : Hid (Bdr w1 g o B (cs.setIfInBounds o (.pointer (some ⟨g, o, none⟩))) T (some ⟨g, o, none⟩) (.slice a1 n1 cap1) zs) := h1; clear h1 hn1 hb1 hcc1)
    | (at_builtin; refine wpList_append_bytes rfl _ _ rfl B (.slice a1 n1 cap1) zs [c] rfl (H1.out.row.alloc _) (some ⟨w1.heap.size, 0, none⟩) 1 1 rfl rfl (by simp) (one_byte w1 c hc.out.1 hc.out.2) (by have := hl'.out; simp; omega) (by have := H1.out.top; simp; omega) ?_; intro v2 w2 hO2 hg2; have hb2 : Below B w1 w2 := grown_below ((Below.refl B w1).alloc H1.out.top _) (H1.out.row.alloc _) hg2 (by have := H1.out.top; simp; omega); obtain ⟨a2, n2, cap2, hv2, hn2, hc2, hle2, hm2, hB2⟩ := hO2.form; subst hv2; have K2 := H1.out.blk.kept hb2 H1.out.low; have d1 := K2.cell (o + 1); rw [H1.out.buf] at d1; have f1 := K2.fz (o + 1); clear c1 hn2 hB2 hc2))
  go_ret
  exact ⟨rfl, ⟨.slice a2 n2 cap2, H1.out.put (p := p) hb2 hO2⟩, (hk1.trans (Kq.of hb2)).trans (Kq.set g B w2 (o + 1) _)⟩

set_option maxHeartbeats 2000000 in
set_option maxRecDepth 100000 in
/-- (*strings.Builder).WriteString. -/
theorem wstr_any {w : World} {g o B : Nat} {cs : Array Value} {T : TypeId} {p : Option Addr} {v : Value} {zs : List Int} (t : ByteArray) (h : Bdr w g o B cs T p v zs) (hlen : zs.length + t.size ≤ 140737488355328) :
    Calls Tryd.prog 47 #[.pointer (some ⟨g, o, none⟩), .string t] w fun e w' => (∃ n, e = .returned (.tuple #[.int .i64 n, .nilIface])) ∧ (∃ v', Bdr w' g o B (wrt cs g o v') T (some ⟨g, o, none⟩) v' (zs ++ bs t)) ∧ Kq g B w w' := by
  have kC := cc_any h
  have hl' : Hid (zs.length + t.size ≤ 140737488355328) := hlen
  clear h hlen
  go_enter Tryd.func47, Tryd.ntmps47
  go_wp2_with (first
    | (go_at_call 45; refine kC.mono ?_; rintro e w1 ⟨rfl, h1, hk1⟩; clear kC; obtain ⟨a1, n1, cap1, hv, hn1, hcc1, hle1, hm1, hb1⟩ := h1.row.form; subst hv; have c1 := h1.blk.cell (o + 1); rw [h1.buf] at c1; have H1 : Hid (Bdr w1 g o B (cs.setIfInBounds o (.pointer (some ⟨g, o, none⟩))) T (some ⟨g, o, none⟩) (.slice a1 n1 cap1) zs) := h1; clear h1 hn1 hb1 hcc1)
    | (at_builtin; refine wpList_append_text rfl _ _ rfl B (.slice a1 n1 cap1) zs rfl H1.out.row t rfl hl'.out H1.out.top ?_; intro v2 w2 hO2 hg2; have hb2 : Below B w1 w2 := grown_below (Below.refl B w1) H1.out.row hg2 H1.out.top; obtain ⟨a2, n2, cap2, hv2, hn2, hc2, hle2, hm2, hB2⟩ := hO2.form; subst hv2; have K2 := H1.out.blk.kept hb2 H1.out.low; have d1 := K2.cell (o + 1); rw [H1.out.buf] at d1; have f1 := K2.fz (o + 1); clear c1 hn2 hB2 hc2))
  go_ret2
  exact ⟨⟨_, rfl⟩, ⟨.slice a2 n2 cap2, H1.out.put (p := p) hb2 hO2⟩, (hk1.trans (Kq.of hb2)).trans (Kq.set g B w2 (o + 1) _)⟩

/-! ### String -/
theorem cells_byte : Tryd.prog.cellsOf 5 = 1 := by kernel_rfl
def u8s (zs : List Int) : List UInt8 := zs.map fun c => c.toNat.toUInt8
theorem u8s_str {zs : List Int} : (⟨(u8s zs).toArray⟩ : ByteArray) = strOfNums zs := by
  unfold strOfNums u8s
  rfl
theorem str_none (W : World) (q : Option Addr) : (Builtin.unsafeString_ #[83, 3] 9 #[.pointer q, .int .i64 0]).run Tryd.prog W = .ok (.string ⟨#[]⟩) W := Any.unsafeString_none lays169 Extra_169 W q
set_option maxHeartbeats 2000000 in
set_option maxRecDepth 100000 in
/-- (*strings.Builder).String. -/
theorem bstr_any {w : World} {g o B : Nat} {cs : Array Value} {T : TypeId} {p : Option Addr} {v : Value} {zs : List Int} (h : Bdr w g o B cs T p v zs) :
    Calls Tryd.prog 30 #[.pointer (some ⟨g, o, none⟩)] w fun e w' => e = .returned (.string (strOfNums zs)) ∧ Below B w w' := by
  have c1 : w.drew.cell? ⟨g, o + 1, none⟩ = some v := by
    have := h.blk.cell (o + 1)
    rw [h.buf] at this
    exact this
  rcases h.row.1.2 with ⟨hv, hz⟩ | ⟨g2, cap, cur, hv, hbg, hg, hnc, hcm, hcs, htk⟩
  · subst hv
    have hzs : zs = [] := List.eq_nil_of_length_eq_zero hz
    subst hzs
    have hUS := str_none w.drew none
    have hSD : (Builtin.unsafeSliceData_ #[22] 83 #[.slice none 0 0]).run Tryd.prog w.drew = .ok (.pointer none) w.drew := rfl
    have hB : Hid (Below B w w.drew) := (Below.refl B w).drew
    clear h
    go_enter Tryd.func30, Tryd.ntmps30
    go_wp2
    go_region
    all_goals (go_wp2; go_ret; exact ⟨rfl, hB.out⟩)
  · subst hv
    by_cases hzs : zs = []
    · subst hzs
      have c0 : w.cell? ⟨g, o + 1, none⟩ = some (.slice (some ⟨g2, 0, none⟩) 0 cap) := c1
      by_cases hc0 : cap = 0
      · subst hc0
        have hUS := str_none
        have hSD : (Builtin.unsafeSliceData_ #[22] 83 #[.slice (some ⟨g2, 0, none⟩) 0 0]).run Tryd.prog w.drew = .ok (.pointer (some ⟨w.drew.heap.size, 0, none⟩)) (w.drew.alloc (.view ⟨g2, 0, none⟩ 5)) :=
          Lib.run_unsafeSliceData_zero w.drew _ _ 5 Tryd.underlying83 ⟨g2, 0, none⟩ 0 (5, cur.size) (by have hg' : w.drew.heap[g2]? = some (.cells cur 5 (0, 0)) := hg; simp [World.shape?, hg'])
        have hlt := h.blk.lt
        have c2 : (w.drew.alloc (.view ⟨g2, 0, none⟩ 5)).cell? ⟨g, o + 1, none⟩ = some (.slice (some ⟨g2, 0, none⟩) 0 0) := by
          rw [((Below.refl w.heap.size w.drew).alloc (Nat.le_refl _) (.view ⟨g2, 0, none⟩ 5)).cell (p := ⟨g, o + 1, none⟩) hlt]
          exact c1
        have c3 : (w.alloc (.view ⟨g2, 0, none⟩ 5)).drew.cell? ⟨g, o + 1, none⟩ = some (.slice (some ⟨g2, 0, none⟩) 0 0) := c2
        have hB : Hid (Below B w (w.drew.alloc (.view ⟨g2, 0, none⟩ 5))) := (Below.drew (Below.refl B w)).alloc h.top _
        clear h
        go_enter Tryd.func30, Tryd.ntmps30
        go_wp2
        go_region
        all_goals (go_wp2; go_ret; exact ⟨rfl, hB.out⟩)
      · have hUS := str_none
        have hSD : (Builtin.unsafeSliceData_ #[22] 83 #[.slice (some ⟨g2, 0, none⟩) 0 cap]).run Tryd.prog w.drew = .ok (.pointer (some ⟨g2, 0, none⟩)) w.drew := Lib.run_unsafeSliceData_row _ _ _ _ _ _ hc0
        have hB : Hid (Below B w w.drew) := (Below.refl B w).drew
        clear h hc0
        go_enter Tryd.func30, Tryd.ntmps30
        go_wp2
        go_region
        all_goals (go_wp2; go_ret; exact ⟨rfl, hB.out⟩)
    · have hl0 : zs.length ≠ 0 := by simpa using hzs
      have hSD : (Builtin.unsafeSliceData_ #[22] 83 #[.slice (some ⟨g2, 0, none⟩) zs.length cap]).run Tryd.prog w.drew = .ok (.pointer (some ⟨g2, 0, none⟩)) w.drew := Lib.run_unsafeSliceData_row _ _ _ _ _ _ (by omega)
      have hlen : (u8s zs).length = zs.length := by unfold u8s; simp
      have hUS : (Builtin.unsafeString_ #[83, 3] 9 #[.pointer (some ⟨g2, 0, none⟩), .int .i64 zs.length]).run Tryd.prog w.drew = .ok (.string (strOfNums zs)) (w.drew.freeze ⟨g2, 0, none⟩ zs.length) := by
        have := Lib.run_unsafeString_row (P := Tryd.prog) w.drew 83 3 9 5 Tryd.underlying83 cells_byte g2 cur.size (by have hg' : w.drew.heap[g2]? = some (.cells cur 5 (0, 0)) := hg; simp [World.shape?, hg']) (u8s zs) (fun e => hl0 (by rw [← hlen, e]; rfl)) (by omega) (by unfold maxLen at hcm; omega) (fun j x hx => ?_)
        · rwa [u8s_str, hlen] at this
        · obtain ⟨a', cap', hv', _, _, hby, _⟩ := h.row.shape
          cases hv'
          rcases hby.2.2 with e | ⟨b', off', ha', hcell⟩
          · exact absurd e hzs
          · cases ha'
            have hj : j < zs.length := by rw [← hlen]; exact (List.getElem?_eq_some_iff.1 hx).1
            have hc := hcell j hj
            have hx' : x = (zs.getD j 0).toNat.toUInt8 := by
              unfold u8s at hx
              rw [List.getElem?_map, List.getElem?_eq_getElem hj] at hx
              simp only [Option.map_some, Option.some.injEq] at hx
              rw [List.getD_eq_getElem?_getD, List.getElem?_eq_getElem hj]
              exact hx.symm
            have hb := hby.1 (zs.getD j 0) (by rw [List.getD_eq_getElem?_getD, List.getElem?_eq_getElem hj]; exact List.getElem_mem hj)
            have e : ((x.toNat : Nat) : Int) = zs.getD j 0 := by
              rw [hx']
              have : (zs.getD j 0).toNat.toUInt8.toNat = (zs.getD j 0).toNat := by
                rw [Nat.toUInt8, UInt8.toNat_ofNat', Nat.mod_eq_of_lt (by omega)]
              rw [this]; omega
            show w.cell? _ = _
            rw [e, ← hc]
            congr 1
            simp [Addr.add]
            exact fun h => h.symm
      have hB : Hid (Below B w (w.drew.freeze ⟨g2, 0, none⟩ zs.length)) := Lib.below_freeze (Below.drew (Below.refl B w)) (p := ⟨g2, 0, none⟩) hbg _
      clear h
      go_enter Tryd.func30, Tryd.ntmps30
      go_wp2
      go_region
      all_goals (go_wp2; go_ret; exact ⟨rfl, hB.out⟩)
end Go.Proofs.YtfkoghmbkgbgbaaDoor
