/-
  strings.Builder: a byte, a string that is written to it; the string that it is.
  A builder's writes leave a text's walk alone.
  Where the whole characters end, and how far a character is begun, in the program.
  Tokens of JSON texts as plain data: how a string's characters are read, where a number and a word end, the tokens one behind the other; that a fault hangs on the bytes up to it alone. No program is named here.
-/
import Derived.Test.YtelabgonpmafpaaGreatDoorP5
import Derived.Test.YtelabgonpmafpaaGreatDoorP3
import Derived.Test.YtelabgonpmafpaaGreatDoorP4
import Derived.Lib.AppendStr
import Derived.Laws.RangeAny
import Derived.LoopTactic
namespace Go.Proofs.YtelabgonpmafpaaGreatDoor
open Go.RowKit
set_option linter.unusedVariables false

theorem cells_bs (t : ByteArray) : Lib.strCells t = (bs t).map (Value.int .u8) := by
  unfold Lib.strCells bs
  rw [List.map_map]
  rfl
/-- 'append(v, t...)', v the call's own bytes, t a string. -/
theorem wpList_append_text {w : World} {ops : Array Oper} {rest : List Oper} {o : Oper} {a : Act} {Q : Exit → Act → World → Prop} (hgd : o.guard = none) (s x : Operand)
    (ho : o.op = .call { callee := .builtin .append, args := #[s, x], argTypes := #[23, 9] })
    (base : Nat) (v : Value) (ys : List Int) (hs : a.eval s = v) (hown : OwnsB w base v ys)
    (t : ByteArray) (hx : a.eval x = .string t) (hbytes : ys.length + t.size ≤ 140737488355328) (hbase : base ≤ w.heap.size)
    (h : ∀ v' w', OwnsB w' base v' (ys ++ bs t) → w.grownBy w' v.ownBlock → wpList Tryz.prog ops Q rest (a.put o.dst v') w') : wpList Tryz.prog ops Q (o :: rest) a w := by
  obtain ⟨i, hi, hz, hsz, hby⟩ := info_parts info5
  refine Lib.wpList_append_own_string w hgd s x 23 9 ho base 5 i Tryz.underlying23 Tryz.underlying9 hi hz hsz hby v ys.length _ hs hown.1 t hx (by unfold maxLen; omega) hbytes hbase ?_
  intro v' w' ho' hg _
  refine h v' w' ⟨?_, fun c hc => ?_⟩ hg
  · rw [List.length_append, List.map_append, bs_len, ← cells_bs]
    exact ho'
  · rcases List.mem_append.1 hc with h1 | h1
    · exact hown.2 c h1
    · exact bs_bytes t c h1
/-- The builder behind a write of any bytes. -/
theorem Bdr.put {w w2 : World} {g o B : Nat} {cs : Array Value} {T : TypeId} {p : Option Addr} {v v2 : Value} {zs ys : List Int} (h : Bdr w g o B (cs.setIfInBounds o (.pointer (some ⟨g, o, none⟩))) T (some ⟨g, o, none⟩) v zs) (hb : Below B w w2) (hO : OwnsB w2 B v2 ys) :
    Bdr (w2.setCell ⟨g, o + 1, none⟩ v2) g o B (wrt cs g o v2) T (some ⟨g, o, none⟩) v2 ys := by
  have K2 := h.blk.kept hb h.low
  refine ⟨K2.set (o + 1) _, ?_, .inr rfl, ?_, ?_, ⟨ownsRow_setCell_below hO.1 (a := ⟨g, o + 1, none⟩) h.low _, hO.2⟩, h.low, ?_⟩
  · unfold wrt; rw [Array.getElem?_setIfInBounds_ne (by omega)]; exact h.ptr
  · unfold wrt
    have := h.buf
    rw [Array.getElem?_setIfInBounds_self_of_lt]
    rcases Nat.lt_or_ge (o + 1) (cs.setIfInBounds o (.pointer (some ⟨g, o, none⟩))).size with h1 | h1
    · exact h1
    · rw [Array.getElem?_eq_none h1] at this; cases this
  · unfold wrt; rw [Array.size_setIfInBounds]; exact h.lies
  · exact Nat.le_trans h.top (Nat.le_trans hb.size (Kq.set g B w2 (o + 1) _).size)

/-! ### String -/
theorem cells_byte : Tryz.prog.cellsOf 5 = 1 := by kernel_rfl
def u8s (zs : List Int) : List UInt8 := zs.map fun c => c.toNat.toUInt8
theorem u8s_str {zs : List Int} : (⟨(u8s zs).toArray⟩ : ByteArray) = strOfNums zs := by
  unfold strOfNums u8s
  rfl
theorem str_none (W : World) (q : Option Addr) : (Builtin.unsafeString_ #[131, 3] 9 #[.pointer q, .int .i64 0]).run Tryz.prog W = .ok (.string ⟨#[]⟩) W := Any.unsafeString_none lays169 Extra_169 W q
set_option maxHeartbeats 2000000 in
set_option maxRecDepth 100000 in
/-- (*strings.Builder).String. -/
theorem bstr_any {w : World} {g o B : Nat} {cs : Array Value} {T : TypeId} {p : Option Addr} {v : Value} {zs : List Int} (h : Bdr w g o B cs T p v zs) :
    Calls Tryz.prog 78 #[.pointer (some ⟨g, o, none⟩)] w fun e w' => e = .returned (.string (strOfNums zs)) ∧ Below B w w' := by
  have c1 : w.drew.cell? ⟨g, o + 1, none⟩ = some v := by
    have := h.blk.cell (o + 1)
    rw [h.buf] at this
    exact this
  rcases h.row.1.2 with ⟨hv, hz⟩ | ⟨g2, cap, cur, hv, hbg, hg, hnc, hcm, hcs, htk⟩
  · subst hv
    have hzs : zs = [] := List.eq_nil_of_length_eq_zero hz
    subst hzs
    have hUS := str_none w.drew none
    have hSD : (Builtin.unsafeSliceData_ #[23] 131 #[.slice none 0 0]).run Tryz.prog w.drew = .ok (.pointer none) w.drew := rfl
    have hB : Hid (Below B w w.drew) := (Below.refl B w).drew
    clear h
    go_enter Tryz.func78, Tryz.ntmps78
    go_wp2
    go_region
    all_goals (go_wp2; go_ret; exact ⟨rfl, hB.out⟩)
  · subst hv
    by_cases hzs : zs = []
    · subst hzs
      have c0 : w.cell? ⟨g, o + 1, none⟩ = some (.slice (some ⟨g2, 0, none⟩) 0 cap) := c1
      by_cases hc0 : cap = 0
      · subst hc0
        have hUS := str_none
        have hSD : (Builtin.unsafeSliceData_ #[23] 131 #[.slice (some ⟨g2, 0, none⟩) 0 0]).run Tryz.prog w.drew = .ok (.pointer (some ⟨w.drew.heap.size, 0, none⟩)) (w.drew.alloc (.view ⟨g2, 0, none⟩ 5)) :=
          Lib.run_unsafeSliceData_zero w.drew _ _ 5 Tryz.underlying131 ⟨g2, 0, none⟩ 0 (5, cur.size) (by have hg' : w.drew.heap[g2]? = some (.cells cur 5 (0, 0)) := hg; simp [World.shape?, hg'])
        have hlt := h.blk.lt
        have c2 : (w.drew.alloc (.view ⟨g2, 0, none⟩ 5)).cell? ⟨g, o + 1, none⟩ = some (.slice (some ⟨g2, 0, none⟩) 0 0) := by
          rw [((Below.refl w.heap.size w.drew).alloc (Nat.le_refl _) (.view ⟨g2, 0, none⟩ 5)).cell (p := ⟨g, o + 1, none⟩) hlt]
          exact c1
        have c3 : (w.alloc (.view ⟨g2, 0, none⟩ 5)).drew.cell? ⟨g, o + 1, none⟩ = some (.slice (some ⟨g2, 0, none⟩) 0 0) := c2
        have hB : Hid (Below B w (w.drew.alloc (.view ⟨g2, 0, none⟩ 5))) := (Below.drew (Below.refl B w)).alloc h.top _
        clear h
        go_enter Tryz.func78, Tryz.ntmps78
        go_wp2
        go_region
        all_goals (go_wp2; go_ret; exact ⟨rfl, hB.out⟩)
      · have hUS := str_none
        have hSD : (Builtin.unsafeSliceData_ #[23] 131 #[.slice (some ⟨g2, 0, none⟩) 0 cap]).run Tryz.prog w.drew = .ok (.pointer (some ⟨g2, 0, none⟩)) w.drew := Lib.run_unsafeSliceData_row _ _ _ _ _ _ hc0
        have hB : Hid (Below B w w.drew) := (Below.refl B w).drew
        clear h hc0
        go_enter Tryz.func78, Tryz.ntmps78
        go_wp2
        go_region
        all_goals (go_wp2; go_ret; exact ⟨rfl, hB.out⟩)
    · have hl0 : zs.length ≠ 0 := by simpa using hzs
      have hSD : (Builtin.unsafeSliceData_ #[23] 131 #[.slice (some ⟨g2, 0, none⟩) zs.length cap]).run Tryz.prog w.drew = .ok (.pointer (some ⟨g2, 0, none⟩)) w.drew := Lib.run_unsafeSliceData_row _ _ _ _ _ _ (by omega)
      have hlen : (u8s zs).length = zs.length := by unfold u8s; simp
      have hUS : (Builtin.unsafeString_ #[131, 3] 9 #[.pointer (some ⟨g2, 0, none⟩), .int .i64 zs.length]).run Tryz.prog w.drew = .ok (.string (strOfNums zs)) (w.drew.freeze ⟨g2, 0, none⟩ zs.length) := by
        have := Lib.run_unsafeString_row (P := Tryz.prog) w.drew 131 3 9 5 Tryz.underlying131 cells_byte g2 cur.size (by have hg' : w.drew.heap[g2]? = some (.cells cur 5 (0, 0)) := hg; simp [World.shape?, hg']) (u8s zs) (fun e => hl0 (by rw [← hlen, e]; rfl)) (by omega) (by unfold maxLen at hcm; omega) (fun j x hx => ?_)
        · rwa [u8s_str, hlen] at this
        · obtain ⟨a', cap', hv', _, _, hby, _⟩ := h.row.shape
          cases hv'
          rcases hby.2.2 with e | ⟨b', off', ha', hcell⟩
          · exact absurd e hzs
          · cases ha'
            have hj : j < zs.length := by rw [← hlen]; exact (List.getElem?_eq_some_iff.1 hx).1
            have hc := hcell j hj
            have hx' : x = (zs.getD j 0).toNat.toUInt8 := by
              unfold u8s at hx
              rw [List.getElem?_map, List.getElem?_eq_getElem hj] at hx
              simp only [Option.map_some, Option.some.injEq] at hx
              rw [List.getD_eq_getElem?_getD, List.getElem?_eq_getElem hj]
              exact hx.symm
            have hb := hby.1 (zs.getD j 0) (by rw [List.getD_eq_getElem?_getD, List.getElem?_eq_getElem hj]; exact List.getElem_mem hj)
            have e : ((x.toNat : Nat) : Int) = zs.getD j 0 := by
              rw [hx']
              have : (zs.getD j 0).toNat.toUInt8.toNat = (zs.getD j 0).toNat := by
                rw [Nat.toUInt8, UInt8.toNat_ofNat', Nat.mod_eq_of_lt (by omega)]
              rw [this]; omega
            show w.cell? _ = _
            rw [e, ← hc]
            congr 1
            simp [Addr.add]
            exact fun h => h.symm
      have hB : Hid (Below B w (w.drew.freeze ⟨g2, 0, none⟩ zs.length)) := Lib.below_freeze (Below.drew (Below.refl B w)) (p := ⟨g2, 0, none⟩) hbg _
      clear h
      go_enter Tryz.func78, Tryz.ntmps78
      go_wp2
      go_region
      all_goals (go_wp2; go_ret; exact ⟨rfl, hB.out⟩)
end Go.Proofs.YtelabgonpmafpaaGreatDoor
namespace Go.Proofs.YtelabgonpmafpaaGreatDoor
open Go.RowKit
set_option linter.unusedVariables false

/-- Every walk over a text stands where it stood. -/
def Its (w w' : World) : Prop := ∀ (k : Nat) (t : ByteArray) (p : Nat), w.heap[k]? = some (Obj.stringIter t p) → w'.heap[k]? = some (Obj.stringIter t p)
theorem Its.refl (w : World) : Its w w := fun _ _ _ h => h
theorem Its.trans {a b c : World} (h : Its a b) (k : Its b c) : Its a c := fun i t p hi => k i t p (h i t p hi)
theorem Its.of {w w' : World} (h : Below w.heap.size w w') : Its w w' := fun k t p hk => (h.block k (Array.getElem?_eq_some_iff.1 hk).1).trans hk
theorem Its.set {w : World} {g : Nat} {cs : Array Value} {T : TypeId} (h : Blk w g cs T) (j : Nat) (v : Value) : Its w (w.setCell ⟨g, j, none⟩ v) := fun k t p hk => by
  have hne : k ≠ g := by
    intro e
    subst e
    unfold Blk at h
    rw [h] at hk
    cases hk
  exact ((Kq.set g (k + 1) w j v).block k (Nat.lt_succ_self _) hne).trans hk
theorem Its.grown {w w' : World} {B : Nat} {v : Value} {zs : List Int} (h : OwnsB w B v zs) (hg : w.grownBy w' v.ownBlock) : Its w w' := fun k t p hk => by
  refine (hg.block k (Array.getElem?_eq_some_iff.1 hk).1 ?_).trans hk
  rcases h.1.2 with ⟨rfl, _⟩ | ⟨g2, cap, cur, rfl, _, hc, _⟩
  · simp [Value.ownBlock]
  · intro e
    have e2 : k = g2 := by simpa [Value.ownBlock] using e
    subst e2
    rw [hc] at hk
    cases hk
theorem cc_its {w : World} {g o B : Nat} {cs : Array Value} {T : TypeId} {p : Option Addr} {v : Value} {zs : List Int} (h : Bdr w g o B cs T p v zs) :
    Calls Tryz.prog 113 #[.pointer (some ⟨g, o, none⟩)] w fun e w' => e = .returned (.tuple #[]) ∧ Bdr w' g o B (cs.setIfInBounds o (.pointer (some ⟨g, o, none⟩))) T (some ⟨g, o, none⟩) v zs ∧ Kq g B w w' ∧ Its w w' := by
  have ho : o < cs.size := by
    have := h.ptr
    rcases Nat.lt_or_ge o cs.size with h1 | h1
    · exact h1
    · rw [Array.getElem?_eq_none h1] at this; cases this
  rcases h.own with hp | hp
  · have h0 := h.blk.cell o
    rw [h.ptr, hp] at h0
    refine (cc_fresh g o w T cs.size h0 (h.blk.fz o) h.blk.shape ho h.lies).mono ?_
    rintro e w' ⟨rfl, rfl⟩
    refine ⟨rfl, ⟨h.blk.set o _, ?_, .inr rfl, ?_, ?_, ⟨ownsRow_setCell_below h.row.1 (a := ⟨g, o, none⟩) h.low _, h.row.2⟩, h.low, Nat.le_trans h.top (Kq.set g B w o _).size⟩, Kq.set g B w o _, Its.set h.blk o _⟩
    · rw [Array.getElem?_setIfInBounds_self_of_lt ho]
    · rw [Array.getElem?_setIfInBounds_ne (by omega)]; exact h.buf
    · rw [Array.size_setIfInBounds]; exact h.lies
  · have h0 := h.blk.cell o
    rw [h.ptr, hp] at h0
    refine (cc_used g o w h0).mono ?_
    rintro e w' ⟨rfl, rfl⟩
    have e1 : cs.setIfInBounds o (.pointer (some ⟨g, o, none⟩)) = cs := set_same (by rw [h.ptr, hp])
    rw [e1]
    exact ⟨rfl, ⟨h.blk, by rw [h.ptr, hp], .inr rfl, h.buf, h.lies, h.row, h.low, h.top⟩, Kq.refl _ _ _, Its.refl _⟩
theorem app_its (B : Nat) (v : Value) (zs : List Int) (r : Nat) (hr : Right r) (w : World) (hO : OwnsB w B v zs) (hlen : zs.length + 4 ≤ 140737488355328) (hB : B ≤ w.heap.size) :
    Calls Tryz.prog 155 #[v, .int .i32 (r : Int)] w fun e w' => ∃ v', e = .returned v' ∧ OwnsB w' B v' (zs ++ encL r) ∧ Below B w w' ∧ Its w w' := by
  have hb : r ≤ 1114111 := hr.1
  have k : Calls Tryz.prog 155 #[v, .int .i32 (r : Int)] w _ := Any.utf8_AppendRune_plain lays242 (by kernel_rfl) B v zs.length (zs.map (Value.int .u8)) (r : Int) (by omega) (by omega) w hO.1 hlen hB
  refine k.mono ?_
  rintro e w' ⟨v', rfl, hO', o, hg⟩
  rw [rune_cells hr, ← List.map_append, List.length_map, ← List.length_append] at hO'
  refine ⟨v', rfl, ⟨hO', fun c hc => ?_⟩, ((Below.refl B w).alloc hB o).grown hg (by simp; omega) (fun k hk => (hO.1.lt k hk).1), (Its.of ((Below.refl _ w).alloc (Nat.le_refl _) o)).trans (Its.grown (hO.alloc o) hg)⟩
  rcases List.mem_append.1 hc with hc | hc
  · exact hO.2 c hc
  · exact enc_bytes hr c hc

set_option maxHeartbeats 2000000 in
set_option maxRecDepth 100000 in
/-- (*strings.Builder).WriteByte. -/
theorem wbyte_its {w : World} {g o B : Nat} {cs : Array Value} {T : TypeId} {p : Option Addr} {v : Value} {zs : List Int} (c : Int) (hc0 : 0 ≤ c) (hc1 : c < 256) (h : Bdr w g o B cs T p v zs) (hlen : zs.length + 4 ≤ 140737488355328) :
    Calls Tryz.prog 81 #[.pointer (some ⟨g, o, none⟩), .int .u8 c] w fun e w' => e = .returned .nilIface ∧ (∃ v', Bdr w' g o B (wrt cs g o v') T (some ⟨g, o, none⟩) v' (zs ++ [c])) ∧ Kq g B w w' ∧ Its w w' := by
  have kC := cc_its h
  have hl' : Hid (zs.length + 4 ≤ 140737488355328) := hlen
  have hc : Hid (0 ≤ c ∧ c < 256) := ⟨hc0, hc1⟩
  clear h hlen hc0 hc1
  go_enter Tryz.func81, Tryz.ntmps81
  go_wp2_with (first
    | (go_at_call 113; refine kC.mono ?_; rintro e w1 ⟨rfl, h1, hk1, ht1⟩; clear kC; obtain ⟨a1, n1, cap1, hv, hn1, hcc1, hle1, hm1, hb1⟩ := h1.row.form; subst hv; have c1 := h1.blk.cell (o + 1); rw [h1.buf] at c1; have H1 : Hid (Bdr w1 g o B (cs.setIfInBounds o (.pointer (some ⟨g, o, none⟩))) T (some ⟨g, o, none⟩) (.slice a1 n1 cap1) zs) := h1; clear h1 hn1 hb1 hcc1)
    | (at_builtin; refine wpList_append_bytes rfl _ _ rfl B (.slice a1 n1 cap1) zs [c] rfl (H1.out.row.alloc _) (some ⟨w1.heap.size, 0, none⟩) 1 1 rfl rfl (by simp) (one_byte w1 c hc.out.1 hc.out.2) (by have := hl'.out; simp; omega) (by have := H1.out.top; simp; omega) ?_; intro v2 w2 hO2 hg2; have hb2 : Below B w1 w2 := grown_below ((Below.refl B w1).alloc H1.out.top _) (H1.out.row.alloc _) hg2 (by have := H1.out.top; simp; omega); have ht2 : Its w1 w2 := (Its.of ((Below.refl _ w1).alloc (Nat.le_refl _) _)).trans (Its.grown (H1.out.row.alloc _) hg2); obtain ⟨a2, n2, cap2, hv2, hn2, hc2, hle2, hm2, hB2⟩ := hO2.form; subst hv2; have K2 := H1.out.blk.kept hb2 H1.out.low; have d1 := K2.cell (o + 1); rw [H1.out.buf] at d1; have f1 := K2.fz (o + 1); clear c1 hn2 hB2 hc2))
  go_ret
  exact ⟨rfl, ⟨.slice a2 n2 cap2, H1.out.put (p := p) hb2 hO2⟩, (hk1.trans (Kq.of hb2)).trans (Kq.set g B w2 (o + 1) _), (ht1.trans ht2).trans (Its.set K2 (o + 1) _)⟩

set_option maxHeartbeats 2000000 in
set_option maxRecDepth 100000 in
/-- (*strings.Builder).WriteString. -/
theorem wstr_its {w : World} {g o B : Nat} {cs : Array Value} {T : TypeId} {p : Option Addr} {v : Value} {zs : List Int} (t : ByteArray) (h : Bdr w g o B cs T p v zs) (hlen : zs.length + t.size ≤ 140737488355328) :
    Calls Tryz.prog 77 #[.pointer (some ⟨g, o, none⟩), .string t] w fun e w' => (∃ n, e = .returned (.tuple #[.int .i64 n, .nilIface])) ∧ (∃ v', Bdr w' g o B (wrt cs g o v') T (some ⟨g, o, none⟩) v' (zs ++ bs t)) ∧ Kq g B w w' ∧ Its w w' := by
  have kC := cc_its h
  have hl' : Hid (zs.length + t.size ≤ 140737488355328) := hlen
  clear h hlen
  go_enter Tryz.func77, Tryz.ntmps77
  go_wp2_with (first
    | (go_at_call 113; refine kC.mono ?_; rintro e w1 ⟨rfl, h1, hk1, ht1⟩; clear kC; obtain ⟨a1, n1, cap1, hv, hn1, hcc1, hle1, hm1, hb1⟩ := h1.row.form; subst hv; have c1 := h1.blk.cell (o + 1); rw [h1.buf] at c1; have H1 : Hid (Bdr w1 g o B (cs.setIfInBounds o (.pointer (some ⟨g, o, none⟩))) T (some ⟨g, o, none⟩) (.slice a1 n1 cap1) zs) := h1; clear h1 hn1 hb1 hcc1)
    | (at_builtin; refine wpList_append_text rfl _ _ rfl B (.slice a1 n1 cap1) zs rfl H1.out.row t rfl hl'.out H1.out.top ?_; intro v2 w2 hO2 hg2; have hb2 : Below B w1 w2 := grown_below (Below.refl B w1) H1.out.row hg2 H1.out.top; have ht2 : Its w1 w2 := Its.grown H1.out.row hg2; obtain ⟨a2, n2, cap2, hv2, hn2, hc2, hle2, hm2, hB2⟩ := hO2.form; subst hv2; have K2 := H1.out.blk.kept hb2 H1.out.low; have d1 := K2.cell (o + 1); rw [H1.out.buf] at d1; have f1 := K2.fz (o + 1); clear c1 hn2 hB2 hc2))
  go_ret2
  exact ⟨⟨_, rfl⟩, ⟨.slice a2 n2 cap2, H1.out.put (p := p) hb2 hO2⟩, (hk1.trans (Kq.of hb2)).trans (Kq.set g B w2 (o + 1) _), (ht1.trans ht2).trans (Its.set K2 (o + 1) _)⟩

set_option maxHeartbeats 2000000 in
set_option maxRecDepth 100000 in
/-- (*strings.Builder).WriteRune. -/
theorem wrune_its {w : World} {g o B : Nat} {cs : Array Value} {T : TypeId} {p : Option Addr} {v : Value} {zs : List Int} (r : Nat) (hr : Right r) (h : Bdr w g o B cs T p v zs) (hlen : zs.length + 4 ≤ 140737488355328) :
    Calls Tryz.prog 118 #[.pointer (some ⟨g, o, none⟩), .int .i32 (r : Int)] w fun e w' => (∃ n, e = .returned (.tuple #[.int .i64 n, .nilIface])) ∧ (∃ v', Bdr w' g o B (wrt cs g o v') T (some ⟨g, o, none⟩) v' (zs ++ encL r)) ∧ Kq g B w w' ∧ Its w w' := by
  have kC := cc_its h
  have hr' : Hid (Right r) := hr
  have hl' : Hid (zs.length + 4 ≤ 140737488355328) := hlen
  clear h hr hlen
  go_enter Tryz.func118, Tryz.ntmps118
  go_wp2_with (first
    | (go_at_call 113; refine kC.mono ?_; rintro e w1 ⟨rfl, h1, hk1, ht1⟩; clear kC; obtain ⟨a1, n1, cap1, hv, hn1, hc1, hle1, hm1, hb1⟩ := h1.row.form; subst hv; have c1 := h1.blk.cell (o + 1); rw [h1.buf] at c1; have kA := app_its B (.slice a1 n1 cap1) zs r hr'.out w1 h1.row hl'.out h1.top; have H1 : Hid (Bdr w1 g o B (cs.setIfInBounds o (.pointer (some ⟨g, o, none⟩))) T (some ⟨g, o, none⟩) (.slice a1 n1 cap1) zs) := h1; clear h1 hn1 hb1 hc1)
    | (go_at_call 155; refine kA.mono ?_; rintro e w2 ⟨v2, rfl, hO2, hb2, ht2⟩; obtain ⟨a2, n2, cap2, hv2, hn2, hc2, hle2, hm2, hB2⟩ := hO2.form; subst hv2; have K2 := H1.out.blk.kept hb2 H1.out.low; have d1 := K2.cell (o + 1); rw [H1.out.buf] at d1; have f1 := K2.fz (o + 1); clear kA c1 hn2 hB2 hc2))
  go_ret2
  exact ⟨⟨_, rfl⟩, ⟨.slice a2 n2 cap2, H1.out.put (p := p) hb2 hO2⟩, (hk1.trans (Kq.of hb2)).trans (Kq.set g B w2 (o + 1) _), (ht1.trans ht2).trans (Its.set K2 (o + 1) _)⟩
end Go.Proofs.YtelabgonpmafpaaGreatDoor
namespace Go.Proofs.YtelabgonpmafpaaGreatDoor
open Go.RowKit

/-- A byte's cell, as a natural number. -/
theorem Bytes.nat {w : World} {b off : Nat} {zs : List Int} (hb : Bytes w (some ⟨b, off, none⟩) zs) {i : Nat} (hi : i < zs.length) : w.cell? ⟨b, off + i, none⟩ = some (.int .u8 (nth zs i : Nat)) := by
  rcases hb.2.2 with h | ⟨b', off', h, hc⟩
  · subst h; simp at hi
  · cases h
    rw [hc i hi]
    have h1 : 0 ≤ zs.getD i 0 := by
      rw [List.getD_eq_getElem?_getD, List.getElem?_eq_getElem hi]
      exact (hb.1 _ (List.getElem_mem hi)).1
    unfold nth
    rw [Int.toNat_of_nonneg h1]

theorem rlen_any (r : Nat) (w : World) (h : Right r) :
    Calls Tryz.prog 146 #[.int .i32 (r : Nat)] w fun e w' => e = .returned (.int .i64 (lenR r : Nat)) ∧ w' = w := by
  unfold Right at h
  go_enter Tryz.func146, Tryz.ntmps146
  go_wp2
  all_goals
    go_ret
    refine ⟨?_, rfl⟩
    first
    | (have e : lenR r = 1 := by (unfold lenR; repeat' split) <;> omega
       rw [e]; rfl)
    | (have e : lenR r = 2 := by (unfold lenR; repeat' split) <;> omega
       rw [e]; rfl)
    | (have e : lenR r = 3 := by (unfold lenR; repeat' split) <;> omega
       rw [e]; rfl)
    | (have e : lenR r = 4 := by (unfold lenR; repeat' split) <;> omega
       rw [e]; rfl)

theorem iter_below (w : World) (s : ByteArray) (p : Nat) : Below w.heap.size w (w.iter s p) := (Below.refl _ _).alloc (Nat.le_refl _) _

set_option maxHeartbeats 1000000 in
theorem uwhole_any (a : Option Addr) (n cap : Nat) (zs : List Int) (w : World) (hl : zs.length = n) (hb : Bytes w a zs) (hn : n ≤ 4611686018427387904) :
    Calls Tryz.prog 106 #[.slice a n cap] w fun e w' => e = .returned (.int .i64 (endL zs : Nat)) ∧ Below w.heap.size w w' := by
  have hZ : Hid (∀ c ∈ zs, 0 ≤ c ∧ c < 256) := hb.1
  have hL : Hid (zs.length = n) := hl
  obtain ⟨s, hS, ks, hsz⟩ : ∃ s, Hid (s = strOfNums zs) ∧ (convert 23 9 (.slice a n cap)).run Tryz.prog w = .ok (.string s) w ∧ s.size = n := ⟨_, rfl, conv_str hb n cap hl, by rw [strOfNums_size, hl]⟩
  clear hb hl
  go_enter Tryz.func106, Tryz.ntmps106
  go_wp2
  go_loopw [3, 4] (fun f e wr => (∃ pos fr : Nat, wr = w.iter s pos ∧ f = .int .i64 fr ∧ e = .int .i64 pos ∧ pos ≤ n ∧ Hid (endL zs = pos + endL (zs.drop pos))) ∨ (∃ p q fr : Nat, wr = w.iter s p ∧ f = .int .i64 fr ∧ e = .int .i64 q ∧ p ≤ n ∧ Hid (p = fr + 1) ∧ Hid (q = fr + 3) ∧ Hid (endL zs = fr))) (fun _ _ wr => n - wr.iterPos w.heap.size)
  case atStart => exact .inl ⟨0, 0, rfl, rfl, rfl, Nat.zero_le _, (by show _ = _; simp)⟩
  case round =>
    rcases hrel with ⟨pos, fr, rfl, rfl, rfl, hp, hE⟩ | ⟨p, q, fr, rfl, rfl, rfl, hp, hP, hQ, hE⟩
    · by_cases hlt : pos < n
      · have h0 : zs.drop pos ≠ [] := by intro h; have := congrArg List.length h; rw [List.length_drop, hL.out] at this; simp at this; omega
        by_cases hg : Good (zs.drop pos)
        · have hd := decode_good hZ.out hg
          have hne := good_ne hg h0
          rw [List.length_drop, hL.out] at hne
          have hR := good_right hg
          have hlr := val_lenR hg
          have hE2 : Hid (endL zs = (pos + lenB (zs.drop pos)) + endL (zs.drop (pos + lenB (zs.drop pos)))) := by
            show _ = _
            rw [hE.out, end_good h0 hg, List.drop_drop]
            omega
          have hnx : ∀ ty, (Instr.next (.pointer (some ⟨w.heap.size, 0, none⟩)) true ty).run Tryz.prog (w.iter s pos) = .ok (.tuple #[.bool true, .int .i64 pos, .int .i32 (valB (zs.drop pos) : Nat)]) (w.iter s (pos + lenB (zs.drop pos))) := fun ty => by
            rw [run_next_any w s pos ty (by omega), hS.out, hd]
          clear hd hE h0 hg
          generalize valB (zs.drop pos) = V at *
          generalize lenB (zs.drop pos) = L at *
          have hlr' : Hid (lenR V = L) := hlr
          clear hlr
          have k := fun w' => rlen_any V w' hR
          rw [hlr'.out] at k
          go_wp2_with (go_at_call 146; refine (k _).mono ?_; rintro e w' ⟨rfl, rfl⟩)
          go_roundw
          case rel => exact .inl ⟨pos + L, pos, rfl, rfl, by go_num, by omega, hE2⟩
          case measure => simp; omega
        · have hd := decode_bad hZ.out hg
          have hE2 : Hid (endL zs = pos) := by
            show _ = _
            rw [hE.out, end_bad hg, Nat.add_zero]
          have hnx : ∀ ty, (Instr.next (.pointer (some ⟨w.heap.size, 0, none⟩)) true ty).run Tryz.prog (w.iter s pos) = .ok (.tuple #[.bool true, .int .i64 pos, .int .i32 (65533 : Nat)]) (w.iter s (pos + 1)) := fun ty => by
            rw [run_next_any w s pos ty (by omega), hS.out, hd]
          clear hd hE h0 hg
          have k := fun w' => rlen_any 65533 w' (by unfold Right; omega)
          rw [show lenR 65533 = 3 from rfl] at k
          go_wp2_with (go_at_call 146; refine (k _).mono ?_; rintro e w' ⟨rfl, rfl⟩)
          go_roundw
          case rel => exact .inr ⟨pos + 1, pos + 3, pos, rfl, rfl, by go_num, by omega, rfl, rfl, hE2⟩
          case measure => simp; omega
      · obtain rfl : pos = n := by omega
        have hE2 : Hid (endL zs = pos) := by
          show _ = _
          rw [hE.out, List.drop_of_length_le (by rw [hL.out]; omega), end_nil]
          rfl
        have hnx : ∀ ty, (Instr.next (.pointer (some ⟨w.heap.size, 0, none⟩)) true ty).run Tryz.prog (w.iter s pos) = _ := fun ty => run_next_end w s pos ty (by omega)
        clear hE
        go_wp2
        go_ret
        rw [hE2.out]
        exact ⟨rfl, iter_below _ _ _⟩
    · have hne : ((p : Int) != (q : Int)) = true := by have := hP.out; have := hQ.out; simp; omega
      by_cases hlt : p < n
      · have hnx : ∀ ty, (Instr.next (.pointer (some ⟨w.heap.size, 0, none⟩)) true ty).run Tryz.prog (w.iter s p) = _ := fun ty => run_next_any w s p ty (by omega)
        go_wp2
        go_ret
        rw [hE.out]
        exact ⟨rfl, iter_below _ _ _⟩
      · obtain rfl : p = n := by omega
        have hnx : ∀ ty, (Instr.next (.pointer (some ⟨w.heap.size, 0, none⟩)) true ty).run Tryz.prog (w.iter s p) = _ := fun ty => run_next_end w s p ty (by omega)
        have hne2 : ((q : Int) != (p : Int)) = true := by have := hP.out; have := hQ.out; simp; omega
        go_wp2
        go_ret
        rw [hE.out]
        exact ⟨rfl, iter_below _ _ _⟩
end Go.Proofs.YtelabgonpmafpaaGreatDoor
namespace Go.Proofs.YtelabgonpmafpaaGreatDoor
open Go
set_option linter.unusedVariables false

/-! ### A string's characters -/

/-- What was read of a string: its state (0 a character, 1 a backslash, 2 digits, 3 a first half, 4 a backslash behind it, 5 all, 6 wrong), the number of the digits, how many they are, a first half, the bytes that it means. -/
structure RS where
  q : Nat
  num : Nat
  dig : Nat
  fst : Nat
  txt : List Int
/-- Nothing was read yet. -/
def r0 : RS := ⟨0, 0, 0, 0, []⟩
end Go.Proofs.YtelabgonpmafpaaGreatDoor
