/-
  The program's reader of CBOR: an item.
  The program's reader of CBOR: an Array's items, one more.
-/
import Derived.Test.YtnjbppfanmmifaaGreatDoorQ21
import Derived.Deep.RegionLaw
namespace Go.Proofs.YtnjbppfanmmifaaGreatDoor
open Go.RowKit
set_option linter.unusedVariables false
/-- What is read behind an item's first bytes. -/
def BodyAt (C : CX) (k d : Nat) : Prop := ∀ (w : World) (hd : Hd) (p q m : Nat), RSt C w q m → hdA C.zs p = some (hd, q) → hd.cut = false → mayA hd = true → (isR hd = true → hd.n ≤ 4096) → m ≤ 1024 → d ≤ 24 → 2 * (C.zs.length - p) ≤ k → Calls Tryz.prog 86 #[.pointer (some ⟨C.g, 0, none⟩), .agg hd.arr, .int .i64 (d : Nat)] w fun x w' => ItmIs C w w' (27 - d) x (bodA C.zs hd q m (fun j lim => rcF k C.zs j (d + 1) q m lim [] []))
/-- An item. -/
def ItmAt (C : CX) (k : Nat) : Prop := ∀ (w : World) (d p m : Nat), RSt C w p m → m ≤ 1024 → d ≤ 25 → p ≤ C.zs.length → 2 * (C.zs.length - p) + 1 ≤ k → Calls Tryz.prog 48 #[.pointer (some ⟨C.g, 0, none⟩), .int .i64 (d : Nat)] w fun x w' => ItmIs C w w' (27 - d) x (rcF k C.zs 0 d p m none [] [])
/-- The reader, and a tree that was read, behind the result's own box. -/
def IR (C : CX) (w X : World) (r n D : Nat) (nb : Nb) (t : Tr) : Prop := RK C w X r n ∧ NdW (Rg (w.heap.size + 1) X.heap.size) D X nb t
theorem IR.set {C : CX} {w X : World} {r n D j : Nat} {nb : Nb} {t : Tr} {v : Value} (h : IR C w X r n D nb t) : IR C w (X.setCell ⟨w.heap.size, j, none⟩ v) r n D nb t :=
  ⟨h.1.set (Nat.le_refl _), by rw [set_size]; exact h.2.stays fun k hk => setk (by have := hk.1; omega) v⟩
theorem IR.out {C : CX} {w X : World} {r n D : Nat} {nb : Nb} {t : Tr} (h : IR C w X r n D nb t) : (∃ nb' : Nb, Ending.returned (.agg nb.arr) = .returned (.agg nb'.arr) ∧ NdW (Rg w.heap.size X.heap.size) D X nb' t) ∧ RK C w X r n := ⟨⟨nb, rfl, h.2.mono fun k hk => ⟨by have := hk.1; omega, hk.2⟩⟩, h.1⟩
theorem IR.drew {C : CX} {w X : World} {r n D : Nat} {nb : Nb} {t : Tr} (h : IR C w X r n D nb t) : IR C w X.drew r n D nb t := ⟨h.1.drew, h.2.stays fun k hk => rfl⟩
set_option maxHeartbeats 8000000 in
set_option maxRecDepth 100000 in
theorem item_step {C : CX} {k : Nat} (ih : ∀ d, BodyAt C k d) : ItmAt C (k + 1) := by
  intro w d p m h hm hd hp hk
  cases hh : hdA C.zs p with
  | none =>
    have e1 : rcF (k + 1) C.zs 0 d p m none [] [] = .inl (3, C.zs.length) := by rw [rc0_eq, hh]
    rw [e1]
    have kD : Hid (∀ wx, RSt C wx p m → Calls Tryz.prog 82 #[.pointer (some ⟨C.g, 0, none⟩)] wx fun e w' => e = .panicked [{ v := .iface 61 (.agg #[.int .i64 3, .int .i64 (C.zs.length : Nat)]), recovered := false }] ∧ Kq C.g wx.heap.size wx w') := fun wx hx => chead_none hx (hd_none.1 hh)
    have hW : Hid (Below w.heap.size w (w.alloc (.cells #[.int .i64 0, .int .u64 0, .bool false, .string ⟨#[]⟩, .int .i64 0, .string ⟨#[]⟩, .slice none 0 0, .slice none 0 0, .slice none 0 0] 26))) := alloc_below w _
    have hR : Hid (∀ wx, Below w.heap.size w wx → RK C w wx p m) := fun wx hx => h.rk.below hx
    have hg0 := h.lt
    have hZ : Hid (∀ w2, Kq C.g (w.alloc (.cells #[.int .i64 0, .int .u64 0, .bool false, .string ⟨#[]⟩, .int .i64 0, .string ⟨#[]⟩, .slice none 0 0, .slice none 0 0, .slice none 0 0] 26)).heap.size (w.alloc (.cells #[.int .i64 0, .int .u64 0, .bool false, .string ⟨#[]⟩, .int .i64 0, .string ⟨#[]⟩, .slice none 0 0, .slice none 0 0, .slice none 0 0] 26)) w2 → NBox w2 w.heap.size zN) := fun w2 hq => (nbox_new w zN).same (hq.block _ (by simp) (by omega))
    have kN := cneeds_yes C
    unfold ItmIs
    simp only
    clear e1 hh h hm hd hp hk ih
    go_enter Tryz.func48, Tryz.ntmps48
    go_wp2_with (go_at_call 82; refine (kD.out _ (hR.out _ hW.out).1).mono ?_; rintro e w2 ⟨rfl, hk2⟩)
    exact ⟨rfl, rfl, (hR.out _ hW.out).2.1.next hk2⟩
  | some hq =>
    obtain ⟨⟨pl, mj, lo, n, cut⟩, q⟩ := hq
    obtain ⟨i0, i1, i2, i3, i4⟩ := hd_inv hh
    clear i4
    simp only at i1 i2 i3
    have kD : Hid (∀ wx, RSt C wx p m → Calls Tryz.prog 82 #[.pointer (some ⟨C.g, 0, none⟩)] wx fun e w' => e = .returned (.agg #[.int .i64 (pl : Nat), .int .u8 mj, .int .u8 lo, .int .u64 (n : Nat), .bool cut]) ∧ RK C wx w' q m) := fun wx hx => (chead_any hx).mono fun e w' hy => by
      rcases hy with ⟨hy, _⟩ | ⟨hd', q', hy, he, hk⟩
      · rw [hh] at hy; cases hy
      · rw [hh] at hy; cases hy; exact ⟨he, hk⟩
    have hF : Hid (rcF (k + 1) C.zs 0 d p m none [] [] = if mayA ⟨pl, mj, lo, n, cut⟩ = false then .inl (5, p) else if 1024 < m + 1 ∨ (isR ⟨pl, mj, lo, n, cut⟩ = true ∧ 4096 < n) then .inl (8, p) else if 24 < d then .inl (7, p) else if cut = true then .inl (3, C.zs.length) else bodA C.zs ⟨pl, mj, lo, n, cut⟩ q (m + 1) fun j lim => rcF k C.zs j (d + 1) q (m + 1) lim [] []) := by show _ = _; rw [rc0_eq, hh]
    have kB : Hid (∀ wx, Calls Tryz.prog 83 #[.agg #[.int .i64 (pl : Nat), .int .u8 mj, .int .u8 lo, .int .u64 (n : Nat), .bool cut]] wx fun e w' => e = .returned (.bool (mayA ⟨pl, mj, lo, n, cut⟩)) ∧ Below wx.heap.size wx w') := fun wx => cmayb_any ⟨pl, mj, lo, n, cut⟩ wx
    have kI : Hid (∀ wx, Calls Tryz.prog 84 #[.agg #[.int .i64 (pl : Nat), .int .u8 mj, .int .u8 lo, .int .u64 (n : Nat), .bool cut]] wx fun e w' => e = .returned (.bool (isR ⟨pl, mj, lo, n, cut⟩)) ∧ Below wx.heap.size wx w') := fun wx => cisrun_any ⟨pl, mj, lo, n, cut⟩ wx
    have hW : Hid (Below w.heap.size w (w.alloc (.cells #[.int .i64 0, .int .u64 0, .bool false, .string ⟨#[]⟩, .int .i64 0, .string ⟨#[]⟩, .slice none 0 0, .slice none 0 0, .slice none 0 0] 26))) := alloc_below w _
    have hR : Hid (∀ wx, Below w.heap.size w wx → RK C w wx p m) := fun wx hx => h.rk.below hx
    have hg0 := h.lt
    have hZ : Hid (∀ w2, Kq C.g (w.alloc (.cells #[.int .i64 0, .int .u64 0, .bool false, .string ⟨#[]⟩, .int .i64 0, .string ⟨#[]⟩, .slice none 0 0, .slice none 0 0, .slice none 0 0] 26)).heap.size (w.alloc (.cells #[.int .i64 0, .int .u64 0, .bool false, .string ⟨#[]⟩, .int .i64 0, .string ⟨#[]⟩, .slice none 0 0, .slice none 0 0, .slice none 0 0] 26)) w2 → NBox w2 w.heap.size zN) := fun w2 hq => (nbox_new w zN).same (hq.block _ (by simp) (by omega))
    have kN := cneeds_yes C
    have hNo : Hid (∀ wx, RK C w wx q m → RK C w (wx.setCell ⟨C.g, 2, none⟩ (.int .i64 ((m : Int) + 1))) q (m + 1)) := fun wx hx => by have := hx.no_ (m + 1); rw [show (((m + 1 : Nat) : Nat) : Int) = (m : Int) + 1 by omega] at this; exact this
    have wm : IntKind.i64.wrap ((m : Int) + 1) = (m : Int) + 1 := by rw [IntKind.wrap_i64]; omega
    have hpl : Hid (pl = p) := i1
    by_cases hmay : mayA ⟨pl, mj, lo, n, cut⟩ = false
    · have hR3 : rcF (k + 1) C.zs 0 d p m none [] [] = .inl (5, p) := by rw [hF.out, if_pos hmay]
      rw [hR3, ← hpl.out]
      rw [hmay] at kB
      unfold ItmIs
      simp only
      clear hR3 hF hh h hm hd hp hk ih hmay i0 i1 i2 i3 kI
      go_enter Tryz.func48, Tryz.ntmps48
      go_wp2_with (go_at_call 82; refine (kD.out _ (hR.out _ hW.out).1).mono ?_; rintro e w2 ⟨rfl, hk2⟩; have K2 : Hid (RK C w w2 q m) := (hR.out _ hW.out).next hk2; have Z2 : Hid (NBox w2 w.heap.size zN) := hZ.out _ hk2.2.1; have hl2 : w.heap.size < w2.heap.size := Z2.out.lt; obtain ⟨x0, x1, x2, x3, x4⟩ := hbox w2 pl n mj lo cut; clear hk2)
      go_wp2_with (go_at_call 83; refine (kB.out _).mono ?_; rintro e w3 ⟨rfl, hb3⟩; have K3 : Hid (RK C w w3 q m) := (K2.out.alloc _).below hb3; have Z3 : Hid (NBox w3 w.heap.size zN) := (Z2.out.kept (alloc_below w2 (.cells #[.int .i64 (pl : Nat), .int .u8 mj, .int .u8 lo, .int .u64 (n : Nat), .bool cut] 94)) hl2).kept hb3 (Nat.lt_trans hl2 (alloc_lt w2 _)); have B3' := Blk.kept (blk_new w2 #[.int .i64 (pl : Nat), .int .u8 mj, .int .u8 lo, .int .u64 (n : Nat), .bool cut] 94) hb3 (by simp); have B3 : Hid (Blk w3 w2.heap.size #[.int .i64 (pl : Nat), .int .u8 mj, .int .u8 lo, .int .u64 (n : Nat), .bool cut] 94) := B3'; have b0 := B3.out.cell 0; have b1 := B3.out.cell 1; have b2 := B3.out.cell 2; have b3 := B3.out.cell 3; have b4 := B3.out.cell 4; simp at b0 b1 b2 b3 b4; have m2 : w3.cell? ⟨C.g, 2, none⟩ = some (.int .i64 (m : Nat)) := K3.out.1.1.cell 2; have mf : w3.frozen? ⟨C.g, 2, none⟩ = false := K3.out.1.1.fz 2; have hgl : C.g < w.heap.size := K3.out.2.2; have ng : ¬ C.g = w2.heap.size := (by omega); have ng2 : ¬ w2.heap.size = C.g := (by omega); clear hb3 B3')
      exact ⟨rfl, rfl, K3.out.2.1⟩
    have hmay' : mayA ⟨pl, mj, lo, n, cut⟩ = true := by simpa using hmay
    rw [hmay'] at kB
    by_cases hmany : 1024 < m + 1
    · have hR3 : rcF (k + 1) C.zs 0 d p m none [] [] = .inl (8, p) := by rw [hF.out, if_neg hmay, if_pos (.inl hmany)]
      rw [hR3, ← hpl.out]
      have gm : decide ((1024 : Int) < (m : Int) + 1) = true := by simp; omega
      unfold ItmIs
      simp only
      clear hR3 hF hh h hm hd hp hk ih hmay hmay' i0 i1 i2 i3 kI hmany
      go_enter Tryz.func48, Tryz.ntmps48
      go_wp2_with (go_at_call 82; refine (kD.out _ (hR.out _ hW.out).1).mono ?_; rintro e w2 ⟨rfl, hk2⟩; have K2 : Hid (RK C w w2 q m) := (hR.out _ hW.out).next hk2; have Z2 : Hid (NBox w2 w.heap.size zN) := hZ.out _ hk2.2.1; have hl2 : w.heap.size < w2.heap.size := Z2.out.lt; obtain ⟨x0, x1, x2, x3, x4⟩ := hbox w2 pl n mj lo cut; clear hk2)
      go_wp2_with (go_at_call 83; refine (kB.out _).mono ?_; rintro e w3 ⟨rfl, hb3⟩; have K3 : Hid (RK C w w3 q m) := (K2.out.alloc _).below hb3; have Z3 : Hid (NBox w3 w.heap.size zN) := (Z2.out.kept (alloc_below w2 (.cells #[.int .i64 (pl : Nat), .int .u8 mj, .int .u8 lo, .int .u64 (n : Nat), .bool cut] 94)) hl2).kept hb3 (Nat.lt_trans hl2 (alloc_lt w2 _)); have B3' := Blk.kept (blk_new w2 #[.int .i64 (pl : Nat), .int .u8 mj, .int .u8 lo, .int .u64 (n : Nat), .bool cut] 94) hb3 (by simp); have B3 : Hid (Blk w3 w2.heap.size #[.int .i64 (pl : Nat), .int .u8 mj, .int .u8 lo, .int .u64 (n : Nat), .bool cut] 94) := B3'; have b0 := B3.out.cell 0; have b1 := B3.out.cell 1; have b2 := B3.out.cell 2; have b3 := B3.out.cell 3; have b4 := B3.out.cell 4; simp at b0 b1 b2 b3 b4; have m2 : w3.cell? ⟨C.g, 2, none⟩ = some (.int .i64 (m : Nat)) := K3.out.1.1.cell 2; have mf : w3.frozen? ⟨C.g, 2, none⟩ = false := K3.out.1.1.fz 2; have hgl : C.g < w.heap.size := K3.out.2.2; have ng : ¬ C.g = w2.heap.size := (by omega); have ng2 : ¬ w2.heap.size = C.g := (by omega); clear hb3 B3')
      exact ⟨rfl, rfl, (hNo.out _ K3.out).2.1⟩
    have gm : decide ((1024 : Int) < (m : Int) + 1) = false := by simp; omega
    by_cases hbig : isR ⟨pl, mj, lo, n, cut⟩ = true ∧ 4096 < n
    · have hR3 : rcF (k + 1) C.zs 0 d p m none [] [] = .inl (8, p) := by rw [hF.out, if_neg hmay, if_pos (.inr hbig)]
      rw [hR3, ← hpl.out]
      rw [hbig.1] at kI
      have gn : decide ((4096 : Int) < (n : Int)) = true := by simp; omega
      have gn' : decide (4096 < n) = true := by simp; omega
      unfold ItmIs
      simp only
      clear hR3 hF hh h hm hd hp hk ih hmay hmay' i0 i1 i2 i3 hmany hbig
      go_enter Tryz.func48, Tryz.ntmps48
      go_wp2_with (go_at_call 82; refine (kD.out _ (hR.out _ hW.out).1).mono ?_; rintro e w2 ⟨rfl, hk2⟩; have K2 : Hid (RK C w w2 q m) := (hR.out _ hW.out).next hk2; have Z2 : Hid (NBox w2 w.heap.size zN) := hZ.out _ hk2.2.1; have hl2 : w.heap.size < w2.heap.size := Z2.out.lt; obtain ⟨x0, x1, x2, x3, x4⟩ := hbox w2 pl n mj lo cut; clear hk2)
      go_wp2_with (first | (go_at_call 83; refine (kB.out _).mono ?_; rintro e w3 ⟨rfl, hb3⟩; have K3 : Hid (RK C w w3 q m) := (K2.out.alloc _).below hb3; have Z3 : Hid (NBox w3 w.heap.size zN) := (Z2.out.kept (alloc_below w2 (.cells #[.int .i64 (pl : Nat), .int .u8 mj, .int .u8 lo, .int .u64 (n : Nat), .bool cut] 94)) hl2).kept hb3 (Nat.lt_trans hl2 (alloc_lt w2 _)); have B3' := Blk.kept (blk_new w2 #[.int .i64 (pl : Nat), .int .u8 mj, .int .u8 lo, .int .u64 (n : Nat), .bool cut] 94) hb3 (by simp); have B3 : Hid (Blk w3 w2.heap.size #[.int .i64 (pl : Nat), .int .u8 mj, .int .u8 lo, .int .u64 (n : Nat), .bool cut] 94) := B3'; have b0 := B3.out.cell 0; have b1 := B3.out.cell 1; have b2 := B3.out.cell 2; have b3 := B3.out.cell 3; have b4 := B3.out.cell 4; simp at b0 b1 b2 b3 b4; have m2 : w3.cell? ⟨C.g, 2, none⟩ = some (.int .i64 (m : Nat)) := K3.out.1.1.cell 2; have mf : w3.frozen? ⟨C.g, 2, none⟩ = false := K3.out.1.1.fz 2; have hgl : C.g < w.heap.size := K3.out.2.2; have ng : ¬ C.g = w2.heap.size := (by omega); have ng2 : ¬ w2.heap.size = C.g := (by omega); clear hb3 B3') | (go_at_call 84; refine (kI.out _).mono ?_; rintro e w4 ⟨rfl, hb4⟩; have K4 : Hid (RK C w w4 q (m + 1)) := (hNo.out _ K3.out).below hb4; have Z4 : Hid (NBox w4 w.heap.size zN) := (Z3.out.same (setk (by omega) _)).kept hb4 (by rw [set_size]; exact Z3.out.lt); have B4 : Hid (Blk w4 w2.heap.size #[.int .i64 (pl : Nat), .int .u8 mj, .int .u8 lo, .int .u64 (n : Nat), .bool cut] 94) := Blk.kept (Blk.kq B3.out (Kq.set C.g w3.heap.size w3 2 (.int .i64 ((m : Int) + 1))) B3.out.lt (by omega)) hb4 (by rw [set_size]; exact B3.out.lt); have d0 := B4.out.cell 0; have d1 := B4.out.cell 1; have d2 := B4.out.cell 2; have d3 := B4.out.cell 3; have d4 := B4.out.cell 4; simp at d0 d1 d2 d3 d4; clear hb4))
      exact ⟨rfl, rfl, K4.out.2.1⟩
    have hF2 : rcF (k + 1) C.zs 0 d p m none [] [] = if 24 < d then .inl (7, p) else if cut = true then .inl (3, C.zs.length) else bodA C.zs ⟨pl, mj, lo, n, cut⟩ q (m + 1) fun j lim => rcF k C.zs j (d + 1) q (m + 1) lim [] [] := by rw [hF.out, if_neg hmay, if_neg (by rintro (z | z); exact hmany z; exact hbig z)]
    clear hF
    have hF : Hid True := trivial
    generalize hbR : isR ⟨pl, mj, lo, n, cut⟩ = bR at kI hbig
    cases bR with
    | true =>
      have hRn : Hid (isR ⟨pl, mj, lo, n, cut⟩ = true → n ≤ 4096) := fun z => by rw [hbR] at z; exact Nat.le_of_not_lt fun y => hbig ⟨rfl, y⟩
      by_cases hdp : 24 < d
      · have hR3 : rcF (k + 1) C.zs 0 d p m none [] [] = .inl (7, p) := by rw [hF2, if_pos hdp]
        rw [hR3, ← hpl.out]
        have gd : decide ((24 : Int) < (d : Int)) = true := by simp; omega
        have gd' : decide (24 < d) = true := by simp; omega
        have gn : decide ((4096 : Int) < (n : Int)) = false := by have : ¬ 4096 < n := fun z => hbig ⟨rfl, z⟩; simp; omega
        have gn' : decide (4096 < n) = false := by have : ¬ 4096 < n := fun z => hbig ⟨rfl, z⟩; simp; omega
        unfold ItmIs
        simp only
        clear hR3 hF hF2 hh h hm hd hp hk ih hmay hmay' i0 i1 i2 i3 hmany hbig hdp hbR hRn
        go_enter Tryz.func48, Tryz.ntmps48
        go_wp2_with (go_at_call 82; refine (kD.out _ (hR.out _ hW.out).1).mono ?_; rintro e w2 ⟨rfl, hk2⟩; have K2 : Hid (RK C w w2 q m) := (hR.out _ hW.out).next hk2; have Z2 : Hid (NBox w2 w.heap.size zN) := hZ.out _ hk2.2.1; have hl2 : w.heap.size < w2.heap.size := Z2.out.lt; obtain ⟨x0, x1, x2, x3, x4⟩ := hbox w2 pl n mj lo cut; clear hk2)
        go_wp2_with (first | (go_at_call 83; refine (kB.out _).mono ?_; rintro e w3 ⟨rfl, hb3⟩; have K3 : Hid (RK C w w3 q m) := (K2.out.alloc _).below hb3; have Z3 : Hid (NBox w3 w.heap.size zN) := (Z2.out.kept (alloc_below w2 (.cells #[.int .i64 (pl : Nat), .int .u8 mj, .int .u8 lo, .int .u64 (n : Nat), .bool cut] 94)) hl2).kept hb3 (Nat.lt_trans hl2 (alloc_lt w2 _)); have B3' := Blk.kept (blk_new w2 #[.int .i64 (pl : Nat), .int .u8 mj, .int .u8 lo, .int .u64 (n : Nat), .bool cut] 94) hb3 (by simp); have B3 : Hid (Blk w3 w2.heap.size #[.int .i64 (pl : Nat), .int .u8 mj, .int .u8 lo, .int .u64 (n : Nat), .bool cut] 94) := B3'; have b0 := B3.out.cell 0; have b1 := B3.out.cell 1; have b2 := B3.out.cell 2; have b3 := B3.out.cell 3; have b4 := B3.out.cell 4; simp at b0 b1 b2 b3 b4; have m2 : w3.cell? ⟨C.g, 2, none⟩ = some (.int .i64 (m : Nat)) := K3.out.1.1.cell 2; have mf : w3.frozen? ⟨C.g, 2, none⟩ = false := K3.out.1.1.fz 2; have hgl : C.g < w.heap.size := K3.out.2.2; have ng : ¬ C.g = w2.heap.size := (by omega); have ng2 : ¬ w2.heap.size = C.g := (by omega); clear hb3 B3') | (go_at_call 84; refine (kI.out _).mono ?_; rintro e w4 ⟨rfl, hb4⟩; have K4 : Hid (RK C w w4 q (m + 1)) := (hNo.out _ K3.out).below hb4; have Z4 : Hid (NBox w4 w.heap.size zN) := (Z3.out.same (setk (by omega) _)).kept hb4 (by rw [set_size]; exact Z3.out.lt); have B4 : Hid (Blk w4 w2.heap.size #[.int .i64 (pl : Nat), .int .u8 mj, .int .u8 lo, .int .u64 (n : Nat), .bool cut] 94) := Blk.kept (Blk.kq B3.out (Kq.set C.g w3.heap.size w3 2 (.int .i64 ((m : Int) + 1))) B3.out.lt (by omega)) hb4 (by rw [set_size]; exact B3.out.lt); have d0 := B4.out.cell 0; have d1 := B4.out.cell 1; have d2 := B4.out.cell 2; have d3 := B4.out.cell 3; have d4 := B4.out.cell 4; simp at d0 d1 d2 d3 d4; clear hb4))
        exact ⟨rfl, rfl, K4.out.2.1⟩
      have gd : decide ((24 : Int) < (d : Int)) = false := by simp; omega
      have gd' : decide (24 < d) = false := by simp; omega
      cases cut with
      | true =>
        have hR3 : rcF (k + 1) C.zs 0 d p m none [] [] = .inl (3, C.zs.length) := by rw [hF2, if_neg hdp, if_pos rfl]
        rw [hR3]
        have gn : decide ((4096 : Int) < (n : Int)) = false := by have : ¬ 4096 < n := fun z => hbig ⟨rfl, z⟩; simp; omega
        have gn' : decide (4096 < n) = false := by have : ¬ 4096 < n := fun z => hbig ⟨rfl, z⟩; simp; omega
        have kNo : Hid (∀ wx, RSt C wx q (m + 1) → Calls Tryz.prog 85 #[.pointer (some ⟨C.g, 0, none⟩), .bool false] wx fun e w' => e = .panicked [{ v := .iface 61 (.agg #[.int .i64 3, .int .i64 (C.zs.length : Nat)]), recovered := false }] ∧ w' = wx) := fun wx hx => cneeds_no hx
        unfold ItmIs
        simp only
        clear hR3 hF hF2 hh h hm hd hp hk ih hmay hmay' i0 i1 i2 i3 hmany hbig hdp hbR hRn
        go_enter Tryz.func48, Tryz.ntmps48
        go_wp2_with (go_at_call 82; refine (kD.out _ (hR.out _ hW.out).1).mono ?_; rintro e w2 ⟨rfl, hk2⟩; have K2 : Hid (RK C w w2 q m) := (hR.out _ hW.out).next hk2; have Z2 : Hid (NBox w2 w.heap.size zN) := hZ.out _ hk2.2.1; have hl2 : w.heap.size < w2.heap.size := Z2.out.lt; obtain ⟨x0, x1, x2, x3, x4⟩ := hbox w2 pl n mj lo true; clear hk2)
        go_wp2_with (first | (go_at_call 83; refine (kB.out _).mono ?_; rintro e w3 ⟨rfl, hb3⟩; have K3 : Hid (RK C w w3 q m) := (K2.out.alloc _).below hb3; have Z3 : Hid (NBox w3 w.heap.size zN) := (Z2.out.kept (alloc_below w2 (.cells #[.int .i64 (pl : Nat), .int .u8 mj, .int .u8 lo, .int .u64 (n : Nat), .bool true] 94)) hl2).kept hb3 (Nat.lt_trans hl2 (alloc_lt w2 _)); have B3' := Blk.kept (blk_new w2 #[.int .i64 (pl : Nat), .int .u8 mj, .int .u8 lo, .int .u64 (n : Nat), .bool true] 94) hb3 (by simp); have B3 : Hid (Blk w3 w2.heap.size #[.int .i64 (pl : Nat), .int .u8 mj, .int .u8 lo, .int .u64 (n : Nat), .bool true] 94) := B3'; have b0 := B3.out.cell 0; have b1 := B3.out.cell 1; have b2 := B3.out.cell 2; have b3 := B3.out.cell 3; have b4 := B3.out.cell 4; simp at b0 b1 b2 b3 b4; have m2 : w3.cell? ⟨C.g, 2, none⟩ = some (.int .i64 (m : Nat)) := K3.out.1.1.cell 2; have mf : w3.frozen? ⟨C.g, 2, none⟩ = false := K3.out.1.1.fz 2; have hgl : C.g < w.heap.size := K3.out.2.2; have ng : ¬ C.g = w2.heap.size := (by omega); have ng2 : ¬ w2.heap.size = C.g := (by omega); clear hb3 B3') | (go_at_call 84; refine (kI.out _).mono ?_; rintro e w4 ⟨rfl, hb4⟩; have K4 : Hid (RK C w w4 q (m + 1)) := (hNo.out _ K3.out).below hb4; have Z4 : Hid (NBox w4 w.heap.size zN) := (Z3.out.same (setk (by omega) _)).kept hb4 (by rw [set_size]; exact Z3.out.lt); have B4 : Hid (Blk w4 w2.heap.size #[.int .i64 (pl : Nat), .int .u8 mj, .int .u8 lo, .int .u64 (n : Nat), .bool true] 94) := Blk.kept (Blk.kq B3.out (Kq.set C.g w3.heap.size w3 2 (.int .i64 ((m : Int) + 1))) B3.out.lt (by omega)) hb4 (by rw [set_size]; exact B3.out.lt); have d0 := B4.out.cell 0; have d1 := B4.out.cell 1; have d2 := B4.out.cell 2; have d3 := B4.out.cell 3; have d4 := B4.out.cell 4; simp at d0 d1 d2 d3 d4; clear hb4) | (go_at_call 85; refine (kNo.out _ K4.out.1).mono ?_; rintro e w5 ⟨rfl, rfl⟩))
        exact ⟨rfl, rfl, K4.out.2.1⟩
      | false =>
        have hR3 : rcF (k + 1) C.zs 0 d p m none [] [] = bodA C.zs ⟨pl, mj, lo, n, false⟩ q (m + 1) fun j lim => rcF k C.zs j (d + 1) q (m + 1) lim [] [] := by rw [hF2, if_neg hdp, if_neg (by simp)]
        rw [hR3]
        have gn : decide ((4096 : Int) < (n : Int)) = false := by have : ¬ 4096 < n := fun z => hbig ⟨rfl, z⟩; simp; omega
        have gn' : decide (4096 < n) = false := by have : ¬ 4096 < n := fun z => hbig ⟨rfl, z⟩; simp; omega
        have kY : Hid (∀ wx, RSt C wx q (m + 1) → Calls Tryz.prog 86 #[.pointer (some ⟨C.g, 0, none⟩), .agg #[.int .i64 (pl : Nat), .int .u8 mj, .int .u8 lo, .int .u64 (n : Nat), .bool false], .int .i64 (d : Nat)] wx fun x w' => ItmIs C wx w' (27 - d) x (bodA C.zs ⟨pl, mj, lo, n, false⟩ q (m + 1) fun j lim => rcF k C.zs j (d + 1) q (m + 1) lim [] [])) := fun wx hx => ih d wx ⟨pl, mj, lo, n, false⟩ p q (m + 1) hx hh rfl hmay' hRn.out (by omega) (by omega) (by omega)
        generalize bodA C.zs ⟨pl, mj, lo, n, false⟩ q (m + 1) (fun j lim => rcF k C.zs j (d + 1) q (m + 1) lim [] []) = BR at *
        clear hR3 hF hF2 hh h hm hd hp hk ih hmay hmay' i0 i1 i2 i3 hmany hbig hdp hbR hRn
        cases BR with
        | inl f =>
          unfold ItmIs at kY ⊢
          simp only at kY ⊢
          rw [pn_eq] at kY
          go_enter Tryz.func48, Tryz.ntmps48
          go_wp2_with (go_at_call 82; refine (kD.out _ (hR.out _ hW.out).1).mono ?_; rintro e w2 ⟨rfl, hk2⟩; have K2 : Hid (RK C w w2 q m) := (hR.out _ hW.out).next hk2; have Z2 : Hid (NBox w2 w.heap.size zN) := hZ.out _ hk2.2.1; have hl2 : w.heap.size < w2.heap.size := Z2.out.lt; obtain ⟨x0, x1, x2, x3, x4⟩ := hbox w2 pl n mj lo false; clear hk2)
          go_wp2_with (first | (go_at_call 83; refine (kB.out _).mono ?_; rintro e w3 ⟨rfl, hb3⟩; have K3 : Hid (RK C w w3 q m) := (K2.out.alloc _).below hb3; have Z3 : Hid (NBox w3 w.heap.size zN) := (Z2.out.kept (alloc_below w2 (.cells #[.int .i64 (pl : Nat), .int .u8 mj, .int .u8 lo, .int .u64 (n : Nat), .bool false] 94)) hl2).kept hb3 (Nat.lt_trans hl2 (alloc_lt w2 _)); have B3' := Blk.kept (blk_new w2 #[.int .i64 (pl : Nat), .int .u8 mj, .int .u8 lo, .int .u64 (n : Nat), .bool false] 94) hb3 (by simp); have B3 : Hid (Blk w3 w2.heap.size #[.int .i64 (pl : Nat), .int .u8 mj, .int .u8 lo, .int .u64 (n : Nat), .bool false] 94) := B3'; have b0 := B3.out.cell 0; have b1 := B3.out.cell 1; have b2 := B3.out.cell 2; have b3 := B3.out.cell 3; have b4 := B3.out.cell 4; simp at b0 b1 b2 b3 b4; have m2 : w3.cell? ⟨C.g, 2, none⟩ = some (.int .i64 (m : Nat)) := K3.out.1.1.cell 2; have mf : w3.frozen? ⟨C.g, 2, none⟩ = false := K3.out.1.1.fz 2; have hgl : C.g < w.heap.size := K3.out.2.2; have ng : ¬ C.g = w2.heap.size := (by omega); have ng2 : ¬ w2.heap.size = C.g := (by omega); clear hb3 B3') | (go_at_call 84; refine (kI.out _).mono ?_; rintro e w4 ⟨rfl, hb4⟩; have K4 : Hid (RK C w w4 q (m + 1)) := (hNo.out _ K3.out).below hb4; have Z4 : Hid (NBox w4 w.heap.size zN) := (Z3.out.same (setk (by omega) _)).kept hb4 (by rw [set_size]; exact Z3.out.lt); have B4 : Hid (Blk w4 w2.heap.size #[.int .i64 (pl : Nat), .int .u8 mj, .int .u8 lo, .int .u64 (n : Nat), .bool false] 94) := Blk.kept (Blk.kq B3.out (Kq.set C.g w3.heap.size w3 2 (.int .i64 ((m : Int) + 1))) B3.out.lt (by omega)) hb4 (by rw [set_size]; exact B3.out.lt); have d0 := B4.out.cell 0; have d1 := B4.out.cell 1; have d2 := B4.out.cell 2; have d3 := B4.out.cell 3; have d4 := B4.out.cell 4; simp at d0 d1 d2 d3 d4; clear hb4) | (go_at_call 85; refine (kN _).mono ?_; rintro e w5 ⟨rfl, hw5⟩; obtain rfl := hw5.symm) | (go_at_call 86; refine (kY.out _ K4.out.1).mono ?_; rintro e w6 ⟨rfl, hk6⟩))
          exact ⟨rfl, rfl, K4.out.2.1.next hk6⟩
        | inr trn =>
          obtain ⟨t, r, o⟩ := trn
          unfold ItmIs at kY ⊢
          simp only at kY ⊢
          go_enter Tryz.func48, Tryz.ntmps48
          go_wp2_with (go_at_call 82; refine (kD.out _ (hR.out _ hW.out).1).mono ?_; rintro e w2 ⟨rfl, hk2⟩; have K2 : Hid (RK C w w2 q m) := (hR.out _ hW.out).next hk2; have Z2 : Hid (NBox w2 w.heap.size zN) := hZ.out _ hk2.2.1; have hl2 : w.heap.size < w2.heap.size := Z2.out.lt; obtain ⟨x0, x1, x2, x3, x4⟩ := hbox w2 pl n mj lo false; clear hk2)
          go_wp2_with (first | (go_at_call 83; refine (kB.out _).mono ?_; rintro e w3 ⟨rfl, hb3⟩; have K3 : Hid (RK C w w3 q m) := (K2.out.alloc _).below hb3; have Z3 : Hid (NBox w3 w.heap.size zN) := (Z2.out.kept (alloc_below w2 (.cells #[.int .i64 (pl : Nat), .int .u8 mj, .int .u8 lo, .int .u64 (n : Nat), .bool false] 94)) hl2).kept hb3 (Nat.lt_trans hl2 (alloc_lt w2 _)); have B3' := Blk.kept (blk_new w2 #[.int .i64 (pl : Nat), .int .u8 mj, .int .u8 lo, .int .u64 (n : Nat), .bool false] 94) hb3 (by simp); have B3 : Hid (Blk w3 w2.heap.size #[.int .i64 (pl : Nat), .int .u8 mj, .int .u8 lo, .int .u64 (n : Nat), .bool false] 94) := B3'; have b0 := B3.out.cell 0; have b1 := B3.out.cell 1; have b2 := B3.out.cell 2; have b3 := B3.out.cell 3; have b4 := B3.out.cell 4; simp at b0 b1 b2 b3 b4; have m2 : w3.cell? ⟨C.g, 2, none⟩ = some (.int .i64 (m : Nat)) := K3.out.1.1.cell 2; have mf : w3.frozen? ⟨C.g, 2, none⟩ = false := K3.out.1.1.fz 2; have hgl : C.g < w.heap.size := K3.out.2.2; have ng : ¬ C.g = w2.heap.size := (by omega); have ng2 : ¬ w2.heap.size = C.g := (by omega); clear hb3 B3') | (go_at_call 84; refine (kI.out _).mono ?_; rintro e w4 ⟨rfl, hb4⟩; have K4 : Hid (RK C w w4 q (m + 1)) := (hNo.out _ K3.out).below hb4; have Z4 : Hid (NBox w4 w.heap.size zN) := (Z3.out.same (setk (by omega) _)).kept hb4 (by rw [set_size]; exact Z3.out.lt); have B4 : Hid (Blk w4 w2.heap.size #[.int .i64 (pl : Nat), .int .u8 mj, .int .u8 lo, .int .u64 (n : Nat), .bool false] 94) := Blk.kept (Blk.kq B3.out (Kq.set C.g w3.heap.size w3 2 (.int .i64 ((m : Int) + 1))) B3.out.lt (by omega)) hb4 (by rw [set_size]; exact B3.out.lt); have d0 := B4.out.cell 0; have d1 := B4.out.cell 1; have d2 := B4.out.cell 2; have d3 := B4.out.cell 3; have d4 := B4.out.cell 4; simp at d0 d1 d2 d3 d4; clear hb4) | (go_at_call 85; refine (kN _).mono ?_; rintro e w5 ⟨rfl, hw5⟩; obtain rfl := hw5.symm) | (go_at_call 86; refine (kY.out _ K4.out.1).mono ?_; rintro e w6 ⟨⟨nb, he6, hn6⟩, hk6⟩; rw [Nb.arr] at he6; subst he6; have R6 : Hid (IR C w w6 r o (27 - d) nb t) := ⟨K4.out.next hk6, hn6.mono fun k hk => ⟨Nat.le_trans (Nat.succ_le_of_lt Z4.out.lt) hk.1, hk.2⟩⟩; have Z6 := Z4.out.same (hk6.2.1.block _ Z4.out.lt (by have := K4.out.2.2; omega)); obtain ⟨⟨f0, f1, f2, f3, f4, f5, f6, f7, f8⟩, z0, z1, z2, z3, z4, z5, z6, z7, z8⟩ := zbox Z6; clear hk6 hn6 Z6))
          refine bodyPost_ret (v := .agg nb.arr) (by rw [Nb.arr]; simp [results, Tryz.results48, go_sem, *]) rfl ?_
          refine IR.out (nb := nb) ?_
          repeat (first | with_reducible exact R6.out | with_reducible refine IR.set ?_)
    | false =>
      have hRn : Hid (isR ⟨pl, mj, lo, n, cut⟩ = true → n ≤ 4096) := fun z => by rw [hbR] at z; cases z
      by_cases hdp : 24 < d
      · have hR3 : rcF (k + 1) C.zs 0 d p m none [] [] = .inl (7, p) := by rw [hF2, if_pos hdp]
        rw [hR3, ← hpl.out]
        have gd : decide ((24 : Int) < (d : Int)) = true := by simp; omega
        have gd' : decide (24 < d) = true := by simp; omega
        unfold ItmIs
        simp only
        clear hR3 hF hF2 hh h hm hd hp hk ih hmay hmay' i0 i1 i2 i3 hmany hbig hdp hbR hRn
        go_enter Tryz.func48, Tryz.ntmps48
        go_wp2_with (go_at_call 82; refine (kD.out _ (hR.out _ hW.out).1).mono ?_; rintro e w2 ⟨rfl, hk2⟩; have K2 : Hid (RK C w w2 q m) := (hR.out _ hW.out).next hk2; have Z2 : Hid (NBox w2 w.heap.size zN) := hZ.out _ hk2.2.1; have hl2 : w.heap.size < w2.heap.size := Z2.out.lt; obtain ⟨x0, x1, x2, x3, x4⟩ := hbox w2 pl n mj lo cut; clear hk2)
        go_wp2_with (first | (go_at_call 83; refine (kB.out _).mono ?_; rintro e w3 ⟨rfl, hb3⟩; have K3 : Hid (RK C w w3 q m) := (K2.out.alloc _).below hb3; have Z3 : Hid (NBox w3 w.heap.size zN) := (Z2.out.kept (alloc_below w2 (.cells #[.int .i64 (pl : Nat), .int .u8 mj, .int .u8 lo, .int .u64 (n : Nat), .bool cut] 94)) hl2).kept hb3 (Nat.lt_trans hl2 (alloc_lt w2 _)); have B3' := Blk.kept (blk_new w2 #[.int .i64 (pl : Nat), .int .u8 mj, .int .u8 lo, .int .u64 (n : Nat), .bool cut] 94) hb3 (by simp); have B3 : Hid (Blk w3 w2.heap.size #[.int .i64 (pl : Nat), .int .u8 mj, .int .u8 lo, .int .u64 (n : Nat), .bool cut] 94) := B3'; have b0 := B3.out.cell 0; have b1 := B3.out.cell 1; have b2 := B3.out.cell 2; have b3 := B3.out.cell 3; have b4 := B3.out.cell 4; simp at b0 b1 b2 b3 b4; have m2 : w3.cell? ⟨C.g, 2, none⟩ = some (.int .i64 (m : Nat)) := K3.out.1.1.cell 2; have mf : w3.frozen? ⟨C.g, 2, none⟩ = false := K3.out.1.1.fz 2; have hgl : C.g < w.heap.size := K3.out.2.2; have ng : ¬ C.g = w2.heap.size := (by omega); have ng2 : ¬ w2.heap.size = C.g := (by omega); clear hb3 B3') | (go_at_call 84; refine (kI.out _).mono ?_; rintro e w4 ⟨rfl, hb4⟩; have K4 : Hid (RK C w w4 q (m + 1)) := (hNo.out _ K3.out).below hb4; have Z4 : Hid (NBox w4 w.heap.size zN) := (Z3.out.same (setk (by omega) _)).kept hb4 (by rw [set_size]; exact Z3.out.lt); have B4 : Hid (Blk w4 w2.heap.size #[.int .i64 (pl : Nat), .int .u8 mj, .int .u8 lo, .int .u64 (n : Nat), .bool cut] 94) := Blk.kept (Blk.kq B3.out (Kq.set C.g w3.heap.size w3 2 (.int .i64 ((m : Int) + 1))) B3.out.lt (by omega)) hb4 (by rw [set_size]; exact B3.out.lt); have d0 := B4.out.cell 0; have d1 := B4.out.cell 1; have d2 := B4.out.cell 2; have d3 := B4.out.cell 3; have d4 := B4.out.cell 4; simp at d0 d1 d2 d3 d4; clear hb4))
        exact ⟨rfl, rfl, K4.out.2.1⟩
      have gd : decide ((24 : Int) < (d : Int)) = false := by simp; omega
      have gd' : decide (24 < d) = false := by simp; omega
      cases cut with
      | true =>
        have hR3 : rcF (k + 1) C.zs 0 d p m none [] [] = .inl (3, C.zs.length) := by rw [hF2, if_neg hdp, if_pos rfl]
        rw [hR3]
        have kNo : Hid (∀ wx, RSt C wx q (m + 1) → Calls Tryz.prog 85 #[.pointer (some ⟨C.g, 0, none⟩), .bool false] wx fun e w' => e = .panicked [{ v := .iface 61 (.agg #[.int .i64 3, .int .i64 (C.zs.length : Nat)]), recovered := false }] ∧ w' = wx) := fun wx hx => cneeds_no hx
        unfold ItmIs
        simp only
        clear hR3 hF hF2 hh h hm hd hp hk ih hmay hmay' i0 i1 i2 i3 hmany hbig hdp hbR hRn
        go_enter Tryz.func48, Tryz.ntmps48
        go_wp2_with (go_at_call 82; refine (kD.out _ (hR.out _ hW.out).1).mono ?_; rintro e w2 ⟨rfl, hk2⟩; have K2 : Hid (RK C w w2 q m) := (hR.out _ hW.out).next hk2; have Z2 : Hid (NBox w2 w.heap.size zN) := hZ.out _ hk2.2.1; have hl2 : w.heap.size < w2.heap.size := Z2.out.lt; obtain ⟨x0, x1, x2, x3, x4⟩ := hbox w2 pl n mj lo true; clear hk2)
        go_wp2_with (first | (go_at_call 83; refine (kB.out _).mono ?_; rintro e w3 ⟨rfl, hb3⟩; have K3 : Hid (RK C w w3 q m) := (K2.out.alloc _).below hb3; have Z3 : Hid (NBox w3 w.heap.size zN) := (Z2.out.kept (alloc_below w2 (.cells #[.int .i64 (pl : Nat), .int .u8 mj, .int .u8 lo, .int .u64 (n : Nat), .bool true] 94)) hl2).kept hb3 (Nat.lt_trans hl2 (alloc_lt w2 _)); have B3' := Blk.kept (blk_new w2 #[.int .i64 (pl : Nat), .int .u8 mj, .int .u8 lo, .int .u64 (n : Nat), .bool true] 94) hb3 (by simp); have B3 : Hid (Blk w3 w2.heap.size #[.int .i64 (pl : Nat), .int .u8 mj, .int .u8 lo, .int .u64 (n : Nat), .bool true] 94) := B3'; have b0 := B3.out.cell 0; have b1 := B3.out.cell 1; have b2 := B3.out.cell 2; have b3 := B3.out.cell 3; have b4 := B3.out.cell 4; simp at b0 b1 b2 b3 b4; have m2 : w3.cell? ⟨C.g, 2, none⟩ = some (.int .i64 (m : Nat)) := K3.out.1.1.cell 2; have mf : w3.frozen? ⟨C.g, 2, none⟩ = false := K3.out.1.1.fz 2; have hgl : C.g < w.heap.size := K3.out.2.2; have ng : ¬ C.g = w2.heap.size := (by omega); have ng2 : ¬ w2.heap.size = C.g := (by omega); clear hb3 B3') | (go_at_call 84; refine (kI.out _).mono ?_; rintro e w4 ⟨rfl, hb4⟩; have K4 : Hid (RK C w w4 q (m + 1)) := (hNo.out _ K3.out).below hb4; have Z4 : Hid (NBox w4 w.heap.size zN) := (Z3.out.same (setk (by omega) _)).kept hb4 (by rw [set_size]; exact Z3.out.lt); have B4 : Hid (Blk w4 w2.heap.size #[.int .i64 (pl : Nat), .int .u8 mj, .int .u8 lo, .int .u64 (n : Nat), .bool true] 94) := Blk.kept (Blk.kq B3.out (Kq.set C.g w3.heap.size w3 2 (.int .i64 ((m : Int) + 1))) B3.out.lt (by omega)) hb4 (by rw [set_size]; exact B3.out.lt); have d0 := B4.out.cell 0; have d1 := B4.out.cell 1; have d2 := B4.out.cell 2; have d3 := B4.out.cell 3; have d4 := B4.out.cell 4; simp at d0 d1 d2 d3 d4; clear hb4) | (go_at_call 85; refine (kNo.out _ K4.out.1).mono ?_; rintro e w5 ⟨rfl, rfl⟩))
        exact ⟨rfl, rfl, K4.out.2.1⟩
      | false =>
        have hR3 : rcF (k + 1) C.zs 0 d p m none [] [] = bodA C.zs ⟨pl, mj, lo, n, false⟩ q (m + 1) fun j lim => rcF k C.zs j (d + 1) q (m + 1) lim [] [] := by rw [hF2, if_neg hdp, if_neg (by simp)]
        rw [hR3]
        have kY : Hid (∀ wx, RSt C wx q (m + 1) → Calls Tryz.prog 86 #[.pointer (some ⟨C.g, 0, none⟩), .agg #[.int .i64 (pl : Nat), .int .u8 mj, .int .u8 lo, .int .u64 (n : Nat), .bool false], .int .i64 (d : Nat)] wx fun x w' => ItmIs C wx w' (27 - d) x (bodA C.zs ⟨pl, mj, lo, n, false⟩ q (m + 1) fun j lim => rcF k C.zs j (d + 1) q (m + 1) lim [] [])) := fun wx hx => ih d wx ⟨pl, mj, lo, n, false⟩ p q (m + 1) hx hh rfl hmay' hRn.out (by omega) (by omega) (by omega)
        generalize bodA C.zs ⟨pl, mj, lo, n, false⟩ q (m + 1) (fun j lim => rcF k C.zs j (d + 1) q (m + 1) lim [] []) = BR at *
        clear hR3 hF hF2 hh h hm hd hp hk ih hmay hmay' i0 i1 i2 i3 hmany hbig hdp hbR hRn
        cases BR with
        | inl f =>
          unfold ItmIs at kY ⊢
          simp only at kY ⊢
          rw [pn_eq] at kY
          go_enter Tryz.func48, Tryz.ntmps48
          go_wp2_with (go_at_call 82; refine (kD.out _ (hR.out _ hW.out).1).mono ?_; rintro e w2 ⟨rfl, hk2⟩; have K2 : Hid (RK C w w2 q m) := (hR.out _ hW.out).next hk2; have Z2 : Hid (NBox w2 w.heap.size zN) := hZ.out _ hk2.2.1; have hl2 : w.heap.size < w2.heap.size := Z2.out.lt; obtain ⟨x0, x1, x2, x3, x4⟩ := hbox w2 pl n mj lo false; clear hk2)
          go_wp2_with (first | (go_at_call 83; refine (kB.out _).mono ?_; rintro e w3 ⟨rfl, hb3⟩; have K3 : Hid (RK C w w3 q m) := (K2.out.alloc _).below hb3; have Z3 : Hid (NBox w3 w.heap.size zN) := (Z2.out.kept (alloc_below w2 (.cells #[.int .i64 (pl : Nat), .int .u8 mj, .int .u8 lo, .int .u64 (n : Nat), .bool false] 94)) hl2).kept hb3 (Nat.lt_trans hl2 (alloc_lt w2 _)); have B3' := Blk.kept (blk_new w2 #[.int .i64 (pl : Nat), .int .u8 mj, .int .u8 lo, .int .u64 (n : Nat), .bool false] 94) hb3 (by simp); have B3 : Hid (Blk w3 w2.heap.size #[.int .i64 (pl : Nat), .int .u8 mj, .int .u8 lo, .int .u64 (n : Nat), .bool false] 94) := B3'; have b0 := B3.out.cell 0; have b1 := B3.out.cell 1; have b2 := B3.out.cell 2; have b3 := B3.out.cell 3; have b4 := B3.out.cell 4; simp at b0 b1 b2 b3 b4; have m2 : w3.cell? ⟨C.g, 2, none⟩ = some (.int .i64 (m : Nat)) := K3.out.1.1.cell 2; have mf : w3.frozen? ⟨C.g, 2, none⟩ = false := K3.out.1.1.fz 2; have hgl : C.g < w.heap.size := K3.out.2.2; have ng : ¬ C.g = w2.heap.size := (by omega); have ng2 : ¬ w2.heap.size = C.g := (by omega); clear hb3 B3') | (go_at_call 84; refine (kI.out _).mono ?_; rintro e w4 ⟨rfl, hb4⟩; have K4 : Hid (RK C w w4 q (m + 1)) := (hNo.out _ K3.out).below hb4; have Z4 : Hid (NBox w4 w.heap.size zN) := (Z3.out.same (setk (by omega) _)).kept hb4 (by rw [set_size]; exact Z3.out.lt); have B4 : Hid (Blk w4 w2.heap.size #[.int .i64 (pl : Nat), .int .u8 mj, .int .u8 lo, .int .u64 (n : Nat), .bool false] 94) := Blk.kept (Blk.kq B3.out (Kq.set C.g w3.heap.size w3 2 (.int .i64 ((m : Int) + 1))) B3.out.lt (by omega)) hb4 (by rw [set_size]; exact B3.out.lt); have d0 := B4.out.cell 0; have d1 := B4.out.cell 1; have d2 := B4.out.cell 2; have d3 := B4.out.cell 3; have d4 := B4.out.cell 4; simp at d0 d1 d2 d3 d4; clear hb4) | (go_at_call 85; refine (kN _).mono ?_; rintro e w5 ⟨rfl, hw5⟩; obtain rfl := hw5.symm) | (go_at_call 86; refine (kY.out _ K4.out.1).mono ?_; rintro e w6 ⟨rfl, hk6⟩))
          exact ⟨rfl, rfl, K4.out.2.1.next hk6⟩
        | inr trn =>
          obtain ⟨t, r, o⟩ := trn
          unfold ItmIs at kY ⊢
          simp only at kY ⊢
          go_enter Tryz.func48, Tryz.ntmps48
          go_wp2_with (go_at_call 82; refine (kD.out _ (hR.out _ hW.out).1).mono ?_; rintro e w2 ⟨rfl, hk2⟩; have K2 : Hid (RK C w w2 q m) := (hR.out _ hW.out).next hk2; have Z2 : Hid (NBox w2 w.heap.size zN) := hZ.out _ hk2.2.1; have hl2 : w.heap.size < w2.heap.size := Z2.out.lt; obtain ⟨x0, x1, x2, x3, x4⟩ := hbox w2 pl n mj lo false; clear hk2)
          go_wp2_with (first | (go_at_call 83; refine (kB.out _).mono ?_; rintro e w3 ⟨rfl, hb3⟩; have K3 : Hid (RK C w w3 q m) := (K2.out.alloc _).below hb3; have Z3 : Hid (NBox w3 w.heap.size zN) := (Z2.out.kept (alloc_below w2 (.cells #[.int .i64 (pl : Nat), .int .u8 mj, .int .u8 lo, .int .u64 (n : Nat), .bool false] 94)) hl2).kept hb3 (Nat.lt_trans hl2 (alloc_lt w2 _)); have B3' := Blk.kept (blk_new w2 #[.int .i64 (pl : Nat), .int .u8 mj, .int .u8 lo, .int .u64 (n : Nat), .bool false] 94) hb3 (by simp); have B3 : Hid (Blk w3 w2.heap.size #[.int .i64 (pl : Nat), .int .u8 mj, .int .u8 lo, .int .u64 (n : Nat), .bool false] 94) := B3'; have b0 := B3.out.cell 0; have b1 := B3.out.cell 1; have b2 := B3.out.cell 2; have b3 := B3.out.cell 3; have b4 := B3.out.cell 4; simp at b0 b1 b2 b3 b4; have m2 : w3.cell? ⟨C.g, 2, none⟩ = some (.int .i64 (m : Nat)) := K3.out.1.1.cell 2; have mf : w3.frozen? ⟨C.g, 2, none⟩ = false := K3.out.1.1.fz 2; have hgl : C.g < w.heap.size := K3.out.2.2; have ng : ¬ C.g = w2.heap.size := (by omega); have ng2 : ¬ w2.heap.size = C.g := (by omega); clear hb3 B3') | (go_at_call 84; refine (kI.out _).mono ?_; rintro e w4 ⟨rfl, hb4⟩; have K4 : Hid (RK C w w4 q (m + 1)) := (hNo.out _ K3.out).below hb4; have Z4 : Hid (NBox w4 w.heap.size zN) := (Z3.out.same (setk (by omega) _)).kept hb4 (by rw [set_size]; exact Z3.out.lt); have B4 : Hid (Blk w4 w2.heap.size #[.int .i64 (pl : Nat), .int .u8 mj, .int .u8 lo, .int .u64 (n : Nat), .bool false] 94) := Blk.kept (Blk.kq B3.out (Kq.set C.g w3.heap.size w3 2 (.int .i64 ((m : Int) + 1))) B3.out.lt (by omega)) hb4 (by rw [set_size]; exact B3.out.lt); have d0 := B4.out.cell 0; have d1 := B4.out.cell 1; have d2 := B4.out.cell 2; have d3 := B4.out.cell 3; have d4 := B4.out.cell 4; simp at d0 d1 d2 d3 d4; clear hb4) | (go_at_call 85; refine (kN _).mono ?_; rintro e w5 ⟨rfl, hw5⟩; obtain rfl := hw5.symm) | (go_at_call 86; refine (kY.out _ K4.out.1).mono ?_; rintro e w6 ⟨⟨nb, he6, hn6⟩, hk6⟩; rw [Nb.arr] at he6; subst he6; have R6 : Hid (IR C w w6 r o (27 - d) nb t) := ⟨K4.out.next hk6, hn6.mono fun k hk => ⟨Nat.le_trans (Nat.succ_le_of_lt Z4.out.lt) hk.1, hk.2⟩⟩; have Z6 := Z4.out.same (hk6.2.1.block _ Z4.out.lt (by have := K4.out.2.2; omega)); obtain ⟨⟨f0, f1, f2, f3, f4, f5, f6, f7, f8⟩, z0, z1, z2, z3, z4, z5, z6, z7, z8⟩ := zbox Z6; clear hk6 hn6 Z6))
          refine bodyPost_ret (v := .agg nb.arr) (by rw [Nb.arr]; simp [results, Tryz.results48, go_sem, *]) rfl ?_
          refine IR.out (nb := nb) ?_
          repeat (first | with_reducible exact R6.out | with_reducible refine IR.set ?_)
end Go.Proofs.YtnjbppfanmmifaaGreatDoor
namespace Go.Proofs.YtnjbppfanmmifaaGreatDoor
open Go.RowKit
set_option linter.unusedVariables false
theorem step_append_node {w : World} {ops : Array Oper} {o : Oper} {a : Act} {K : Act → World → Prop} {Q : Exit → Act → World → Prop} {E : Prop} (hgd : o.guard = none) (s x : Operand)
    (ho : o.op = .call { callee := .builtin .append, args := #[s, x], argTypes := #[24, 24] })
    (base : Nat) (v : Value) (ys zs : List Nb) (hs : a.eval s = v) (hown : OwnsN 26 w base v ys)
    (ad : Addr) (m c : Nat) (hx : a.eval x = .slice (some ad) m c) (hm : zs.length = m) (hm0 : 0 < m) (hb : Nine w (some ad) zs)
    (hbytes : ys.length + zs.length ≤ 1000000000) (hbase : base ≤ w.heap.size)
    (h : ∀ v' w', OwnsN 26 w' base v' (ys ++ zs) → w.grownBy w' v.ownBlock → (∀ g, v'.ownBlock = some g → v.ownBlock = some g ∨ w.heap.size ≤ g) → K (a.put o.dst v') w') :
    if Region.wanted o (yielded ops a.tmps) = true then Oper.wp Tryz.prog o a w K Q else E := by
  have hw : Region.wanted o (yielded ops a.tmps) = true := by simp [Region.wanted, hgd]
  rw [if_pos hw]
  subst hm
  obtain ⟨i, hi, hz, hsz, hby⟩ := info_parts infoN
  have hk : Tryz.prog.underlying 24 = some (.slice 26) := Tryz.underlying24
  obtain ⟨v', w', hr, h2, h3, _⟩ := run_append_own_wide (P := Tryz.prog) w base 24 o.type 26 i _ 9 136 hk hi hz hsz hby rfl (by decide) v ys.length _ hown ad zs.length c (Cs zs) (cs_len zs) hb.news (cs_one zs) (by unfold maxLen; omega) (by omega) hbase
  have hnew : ∀ g, v'.ownBlock = some g → v.ownBlock = some g ∨ w.heap.size ≤ g := by
    have hl : (Cs zs).length = zs.length * i.size := by rw [hsz]; exact cs_len zs
    rcases hown.2 with ⟨rfl, hn⟩ | ⟨g, cap, cur, rfl, hbg, hg, hnc, hcm, hcs, htake⟩
    · have hr2 := run_append_nil (P := Tryz.prog) w 24 o.type 26 i _ hk hi hz ad zs.length c (Cs zs) hl hb.news hm0 (by omega) (by rw [hby]; omega)
      have e := ok_inj (hr.symm.trans hr2)
      subst e
      intro g hg
      simp [Value.ownBlock] at hg
      exact .inr (by omega)
    · by_cases hroom : ys.length + zs.length ≤ cap
      · have hr2 := run_append_room (P := Tryz.prog) w 24 o.type 26 i hk hi g ys.length cap cur hg ad zs.length c (Cs zs) hl hb.news (cs_one zs) hroom (by rw [hl, hsz, hcs, ← Nat.add_mul]; exact Nat.mul_le_mul_right _ hroom)
        have e := ok_inj (hr.symm.trans hr2)
        subst e
        intro g' hg'
        exact .inl hg'
      · have hr2 := run_append_grow (P := Tryz.prog) w 24 o.type 26 i _ hk hi hz ⟨g, 0, none⟩ ys.length cap (Cs ys) (by rw [hsz]; exact cs_len ys) (World.ownsRow.cells hown (g := g) rfl) ad zs.length c (Cs zs) hl hb.news (by omega) (by omega) (by rw [hby]; exact growslice_fits_wide (by omega) (by omega))
        have e := ok_inj (hr.symm.trans hr2)
        subst e
        intro g' hg'
        simp [Value.ownBlock] at hg'
        exact .inr (by omega)
  unfold Oper.wp
  simp [execOp, ho, resolve, invoke, builtin, hs, hx, hr, Result.andThen]
  refine h v' w' ?_ h3 hnew
  unfold OwnsN
  rw [List.length_append, cs_app]
  exact h2
theorem step_call2 {f : FuncId} {v1 v2 : Value} {w : World} {ops : Array Oper} {o : Oper} {a : Act} {K : Act → World → Prop} {Q : Exit → Act → World → Prop} {E : Prop} {R : Value → World → Prop} (hgd : o.guard = none) (n1 n2 : Nat) (T1 T2 : TypeId)
    (ho : o.op = .call { callee := .value (.func f), args := #[.tmp n1, .tmp n2], argTypes := #[T1, T2] }) (hx1 : a.eval (.tmp n1) = v1) (hx2 : a.eval (.tmp n2) = v2) (hcf : ∀ args w, (callFunc f args).run Tryz.prog w = .ok (.enter f args) w)
    (k : Calls Tryz.prog f #[v1, v2] w fun e w' => ∃ r, e = .returned r ∧ R r w') (h : ∀ r w', R r w' → K (a.put o.dst r) w') :
    if Region.wanted o (yielded ops a.tmps) = true then Oper.wp Tryz.prog o a w K Q else E := by
  have hw : Region.wanted o (yielded ops a.tmps) = true := by simp [Region.wanted, hgd]
  rw [if_pos hw]
  unfold Oper.wp
  simp [Act.eval] at hx1 hx2
  simp [execOp, ho, resolve, invoke, hcf, hx1, hx2, go_sem]
  refine Calls.mono (R := fun e w' => ∃ r, e = .returned r ∧ R r w') k ?_
  rintro e w' ⟨r, he, hr⟩
  subst he
  exact h r w' hr
/-- An Array's node, its items so far. -/
def nbA (a : Option Addr) (n c : Nat) : Nb := ⟨7, 0, false, ⟨#[]⟩, 0, ⟨#[]⟩, none, 0, 0, none, 0, 0, a, n, c⟩
/-- WHERE THE READING OF AN ARRAY STANDS. -/
def AS (C : CX) (w wr : World) (hd : Hd) (D : Nat) (l : List Tr) (a : Option Addr) (n c p m : Nat) : Prop := RK C w wr p m ∧ Blk wr w.heap.size hd.arr 94 ∧ NBox wr (w.heap.size + 1) zN ∧ NBox wr (w.heap.size + 2) (nbA a n c) ∧ ∃ bi S, R2 (w.heap.size + 3) D wr (.slice none 0 0) (.slice a n c) [] l [] bi S
theorem AS.len {C : CX} {w wr : World} {hd : Hd} {D : Nat} {l : List Tr} {a : Option Addr} {n c p m : Nat} (h : AS C w wr hd D l a n c p m) : n = l.length := by
  obtain ⟨_, _, _, _, bi, S, h1, h2, h3, h4, _⟩ := h
  obtain ⟨a', c', hv, _⟩ := h2.shape
  simp at hv
  omega
theorem nbox_put {w : World} {g : Nat} {a a' : Option Addr} {n n' c c' : Nat} (h : NBox w g (nbA a n c)) : NBox (w.setCell ⟨g, 8, none⟩ (.slice a' n' c')) g (nbA a' n' c') := (heap_setCell_same w g 8 (nbA a n c).arr 26 (.slice a' n' c') h).trans rfl
/-- One item more. -/
theorem arr_put {C : CX} {w wr w5 w6 : World} {hd : Hd} {D : Nat} {l : List Tr} {a : Option Addr} {n c p m r o : Nat} {b' : Nb} {t : Tr} {bi : List Nb} {S : Nat → Prop} {v' : Value} (hA : RK C w wr p m) (hB : Blk wr w.heap.size hd.arr 94) (hZ : NBox wr (w.heap.size + 1) zN) (hN : NBox wr (w.heap.size + 2) (nbA a n c)) (hR : R2 (w.heap.size + 3) D wr (.slice none 0 0) (.slice a n c) [] l [] bi S)
    (hk : RK C wr w5 r o) (hn5 : NdW (Rg wr.heap.size w5.heap.size) D w5 b' t) (ho : OwnsN 26 w6 (w.heap.size + 3) v' (bi ++ [b'])) (hg : (w5.alloc (.cells b'.arr 26)).grownBy w6 (Value.slice a n c).ownBlock) (hnew : ∀ g, v'.ownBlock = some g → (Value.slice a n c).ownBlock = some g ∨ (w5.alloc (.cells b'.arr 26)).heap.size ≤ g) :
    ∃ a' c', v' = .slice a' (l.length + 1) c' ∧ w6.cell? ⟨w.heap.size + 2, 8, none⟩ = some (.slice a n c) ∧ w6.frozen? ⟨w.heap.size + 2, 8, none⟩ = false ∧ AS C w (w6.setCell ⟨w.heap.size + 2, 8, none⟩ (.slice a' (l.length + 1) c')) hd D (l ++ [t]) a' (l.length + 1) c' r o := by
  have hG := hA.2.2
  have hw3 : w.heap.size + 3 ≤ wr.heap.size := hN.lt
  have hlt := hR.lt
  have hAl := alloc_below w5 (.cells b'.arr 26)
  have R5 := hR.kq hk.2.1 (by omega)
  have R6 := R5.kid hn5 hw3 (Nat.le_refl _) (fun k hk => (hlt k hk).2) hAl ho hg hnew
  obtain ⟨a', c', hv, _⟩ := ho.shape
  have hbl : bi.length = l.length := hR.2.2.2.1
  rw [List.length_append, List.length_singleton, hbl] at hv
  subst hv
  have s5 : wr.heap.size ≤ w5.heap.size := hk.2.1.size
  have old : ∀ k, k < w.heap.size + 3 → k ≠ C.g → w6.heap[k]? = wr.heap[k]? := fun k h1 h2 => by
    rw [hg.block k (by have := hAl.size; omega) (fun e => by have := (hlt k (.inr e.symm)).1; omega), hAl.block k (by omega), hk.2.1.block k (by omega) h2]
  have N6 : NBox w6 (w.heap.size + 2) (nbA a n c) := hN.same (old _ (by omega) (by omega))
  refine ⟨a', c', rfl, N6.cell 8, N6.fz 8, ?_, ?_, ?_, nbox_put N6, bi ++ [b'], _, R6.keep (by rw [set_size]; exact Nat.le_refl _) fun k h1 _ => setk (by omega) _⟩
  · exact (((hA.next hk).alloc _).grown hg (fun k e => by have := (hlt k (.inr e)).1; omega)).set (by omega)
  · exact (setk (by omega) _).trans ((old _ (by omega) (by omega)).trans hB)
  · exact ((hZ.same (old _ (by omega) (by omega))).same (setk (by omega) _))
/-- The Array, whole. -/
theorem AS.fin {C : CX} {w wr : World} {hd : Hd} {D : Nat} {l : List Tr} {a : Option Addr} {n c p m : Nat} (h : AS C w wr hd D l a n c p m) (hl : l.length ≤ 1024) : IR C w wr p m (D + 1) (nbA a n c) (arrT l) := by
  obtain ⟨h1, h2, h3, h4, bi, S, r1, r2, r3, r4, r5, r6, r7, r8⟩ := h
  obtain ⟨f1, f2, f3⟩ := rown_fin r2 r4 r6 (fun k hk => ⟨(r7 k hk).1, (r7 k hk).2.1⟩) (by omega)
  have r0 : ∀ k, Room k none 0 0 := fun k => ⟨Nat.le_refl _, Nat.zero_le _, fun _ => rfl, by omega⟩
  have up : ∀ k, Rg (w.heap.size + 3) wr.heap.size k → Rg (w.heap.size + 1) wr.heap.size k := fun k hk => ⟨by have := hk.1; omega, hk.2⟩
  refine ⟨h1, ⟨rfl, rfl, rfl, rfl, rfl, rfl⟩, ⟨rfl, rfl, rfl, by show (0 : Nat) ≤ _; omega, by show (0 : Nat) ≤ _; omega⟩, ⟨rfl, r0 1, ⟨by simp [arrT], by simp [arrT], .inl rfl⟩⟩, ⟨wn_zero _ _ _ _, wn_zero _ _ _ _, f3.mono up⟩, ⟨rfl, r0 136, .inl rfl⟩, f2.mono fun b t _ q => q.mono up⟩
end Go.Proofs.YtnjbppfanmmifaaGreatDoor
