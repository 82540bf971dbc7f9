/-
  CBOR out of trees: an item, by its kind, those of one call.
  CBOR out of trees: an item, by its kind, those of several calls.
-/
import Derived.Test.YtnjbppfanmmifaaGreatDoorH26
import Derived.Deep.RegionLaw
namespace Go.Proofs.YtnjbppfanmmifaaGreatDoor
open Go.RowKit
set_option linter.unusedVariables false
theorem nd_num {D : Nat} {w : World} {b : Nb} {t : Tr} (hN : Nd (D + 1) w b t) : b.num = ((t.num.toNat : Nat) : Int) ∧ t.num.toNat < 18446744073709551616 := by
  have h := hN.2.1.2.1
  rw [hN.1.2.1]
  simp [Lit.wf, show IntKind.u64.min = 0 from by decide, show IntKind.u64.max = 18446744073709551615 from by decide] at h
  omega
theorem nd_exp {D : Nat} {w : World} {b : Nb} {t : Tr} (hN : Nd (D + 1) w b t) : -9223372036854775808 ≤ t.exp ∧ t.exp ≤ 9223372036854775807 := by
  have h := hN.2.1.2.2.1
  simp [Lit.wf, show IntKind.i64.min = -9223372036854775808 from by decide, show IntKind.i64.max = 9223372036854775807 from by decide] at h
  omega
set_option maxHeartbeats 8000000 in
set_option maxRecDepth 100000 in
theorem sitem_k1 {L k D : Nat} {t : Tr} {b : Nb} {w : World} (hN : Nd (D + 1) w b t) (hK : t.kind = 1) (hg : EG t) (hC : Cv L w) (hL : L ≤ w.heap.size) : Calls Tryz.prog 41 #[.agg b.arr] w fun e w' => BytIs w w' e (encF (k + 1) t) := by
  have hk : b.kind = 1 := hN.1.1.trans hK
  have hE : encF (k + 1) t = hdB 7 (20 + t.num.toNat) := by rw [encF]; simp [hK]
  have hCx : ∀ x, Below w.heap.size w x → Cv L x ∧ L ≤ x.heap.size := fun x hx => ⟨hC.on (hx.mono hL), Nat.le_trans hL hx.size⟩
  have B0 : Hid (Below w.heap.size w (w.alloc (.cells b.arr 26))) := alloc_below w _
  obtain ⟨a0, a1, a2, a3, a4, a5, a6, a7, a8⟩ := (nbox_new w b).fields
  obtain ⟨hnum, hn64⟩ := nd_num hN
  have hx := nd_exp hN
  have hneg : b.neg = t.neg := hN.1.2.2.1
  have hdig : b.dig = t.dig := hN.1.2.2.2.1
  have htxt : b.txt = t.txt := hN.1.2.2.2.2.2
  have wu : IntKind.u64.wrap (20 + b.num) = 20 + b.num := by rw [IntKind.wrap_u64]; have := hg.2.2.1 hK; omega
  have kX : Hid (∀ x, Below w.heap.size w x → Calls Tryz.prog 44 #[.int .i64 7, .int .u64 (20 + b.num)] x fun e w' => BytIs w w' e (hdB 7 (20 + t.num.toNat))) := fun x hx' => by
    have := shead_any 7 (20 + t.num.toNat) (by omega) (by have := hg.2.2.1 hK; omega) (hCx x hx').1.2 (hCx x hx').2
    rw [show (20 + b.num : Int) = (((20 + t.num.toNat : Nat) : Nat) : Int) by rw [hnum]; omega]
    exact this.mono fun e w' h => h.up hx'
  rw [hE]
  have e1 : (b.kind == 1) = true := by rw [hk]; decide
  generalize hdB 7 (20 + t.num.toNat) = X at *
  unfold BytIs at kX ⊢
  clear hN hK hg hC hL hE hCx hnum hn64 hx hneg hdig htxt hk
  go_enter Tryz.func41, Tryz.ntmps41
  go_wp2_with (go_at_call 44; refine (kX.out _ (by exact B0.out)).mono ?_; rintro e x1 ⟨⟨v1, rfl, hO1⟩, hb1⟩)
  go_ret
  exact ⟨⟨_, rfl, hO1⟩, hb1⟩
set_option maxHeartbeats 8000000 in
set_option maxRecDepth 100000 in
theorem sitem_k2 {L k D : Nat} {t : Tr} {b : Nb} {w : World} (hN : Nd (D + 1) w b t) (hK : t.kind = 2) (hg : EG t) (hC : Cv L w) (hL : L ≤ w.heap.size) : Calls Tryz.prog 41 #[.agg b.arr] w fun e w' => BytIs w w' e (encF (k + 1) t) := by
  have hk : b.kind = 2 := hN.1.1.trans hK
  have hE : encF (k + 1) t = whlB t.neg t.dig := by rw [encF]; simp [hK]
  have hCx : ∀ x, Below w.heap.size w x → Cv L x ∧ L ≤ x.heap.size := fun x hx => ⟨hC.on (hx.mono hL), Nat.le_trans hL hx.size⟩
  have B0 : Hid (Below w.heap.size w (w.alloc (.cells b.arr 26))) := alloc_below w _
  obtain ⟨a0, a1, a2, a3, a4, a5, a6, a7, a8⟩ := (nbox_new w b).fields
  obtain ⟨hnum, hn64⟩ := nd_num hN
  have hx := nd_exp hN
  have hneg : b.neg = t.neg := hN.1.2.2.1
  have hdig : b.dig = t.dig := hN.1.2.2.2.1
  have htxt : b.txt = t.txt := hN.1.2.2.2.2.2
  have kX : Hid (∀ x, Below w.heap.size w x → Calls Tryz.prog 67 #[.bool b.neg, .string b.dig] x fun e w' => BytIs w w' e (whlB t.neg t.dig)) := fun x hx' => by
    rw [hneg, hdig]
    exact (swhole_any t.neg t.dig (hCx x hx').1 (hCx x hx').2).mono fun e w' h => h.up hx'
  rw [hE]
  have e1 : (b.kind == 1) = false := by rw [hk]; decide
  have e2 : (b.kind == 2) = true := by rw [hk]; decide
  generalize whlB t.neg t.dig = X at *
  unfold BytIs at kX ⊢
  clear hN hK hg hC hL hE hCx hnum hn64 hx hneg hdig htxt hk
  go_enter Tryz.func41, Tryz.ntmps41
  go_wp2_with (go_at_call 67; refine (kX.out _ (by exact B0.out)).mono ?_; rintro e x1 ⟨⟨v1, rfl, hO1⟩, hb1⟩)
  go_ret
  exact ⟨⟨_, rfl, hO1⟩, hb1⟩
set_option maxHeartbeats 8000000 in
set_option maxRecDepth 100000 in
theorem sitem_k4 {L k D : Nat} {t : Tr} {b : Nb} {w : World} (hN : Nd (D + 1) w b t) (hK : t.kind = 4) (hg : EG t) (hC : Cv L w) (hL : L ≤ w.heap.size) : Calls Tryz.prog 41 #[.agg b.arr] w fun e w' => BytIs w w' e (encF (k + 1) t) := by
  have hk : b.kind = 4 := hN.1.1.trans hK
  have hE : encF (k + 1) t = fltB t.num := by rw [encF]; simp [hK]
  have hCx : ∀ x, Below w.heap.size w x → Cv L x ∧ L ≤ x.heap.size := fun x hx => ⟨hC.on (hx.mono hL), Nat.le_trans hL hx.size⟩
  have B0 : Hid (Below w.heap.size w (w.alloc (.cells b.arr 26))) := alloc_below w _
  obtain ⟨a0, a1, a2, a3, a4, a5, a6, a7, a8⟩ := (nbox_new w b).fields
  obtain ⟨hnum, hn64⟩ := nd_num hN
  have hx := nd_exp hN
  have hneg : b.neg = t.neg := hN.1.2.2.1
  have hdig : b.dig = t.dig := hN.1.2.2.2.1
  have htxt : b.txt = t.txt := hN.1.2.2.2.2.2
  have kX : Hid (∀ x, Below w.heap.size w x → Calls Tryz.prog 70 #[.int .u64 b.num] x fun e w' => BytIs w w' e (fltB t.num)) := fun x hx' => by
    rw [hN.1.2.1]
    exact (sflt_any t.num (by have := hN.1.2.1; omega) (hCx x hx').1.2 (hCx x hx').2).mono fun e w' h => h.up hx'
  rw [hE]
  have e1 : (b.kind == 1) = false := by rw [hk]; decide
  have e2 : (b.kind == 2) = false := by rw [hk]; decide
  have e3 : (b.kind == 3) = false := by rw [hk]; decide
  have e4 : (b.kind == 4) = true := by rw [hk]; decide
  generalize fltB t.num = X at *
  unfold BytIs at kX ⊢
  clear hN hK hg hC hL hE hCx hnum hn64 hx hneg hdig htxt hk
  go_enter Tryz.func41, Tryz.ntmps41
  go_wp2_with (go_at_call 70; refine (kX.out _ (by exact B0.out)).mono ?_; rintro e x1 ⟨⟨v1, rfl, hO1⟩, hb1⟩)
  go_ret
  exact ⟨⟨_, rfl, hO1⟩, hb1⟩
set_option maxHeartbeats 8000000 in
set_option maxRecDepth 100000 in
theorem sitem_k6 {L k D : Nat} {t : Tr} {b : Nb} {w : World} (hN : Nd (D + 1) w b t) (hK : t.kind = 6) (hg : EG t) (hC : Cv L w) (hL : L ≤ w.heap.size) : Calls Tryz.prog 41 #[.agg b.arr] w fun e w' => BytIs w w' e (encF (k + 1) t) := by
  have hk : b.kind = 6 := hN.1.1.trans hK
  have hE : encF (k + 1) t = runB 2 t.bytes := by rw [encF]; simp [hK]
  have hCx : ∀ x, Below w.heap.size w x → Cv L x ∧ L ≤ x.heap.size := fun x hx => ⟨hC.on (hx.mono hL), Nat.le_trans hL hx.size⟩
  have B0 : Hid (Below w.heap.size w (w.alloc (.cells b.arr 26))) := alloc_below w _
  obtain ⟨a0, a1, a2, a3, a4, a5, a6, a7, a8⟩ := (nbox_new w b).fields
  obtain ⟨hnum, hn64⟩ := nd_num hN
  have hx := nd_exp hN
  have hneg : b.neg = t.neg := hN.1.2.2.1
  have hdig : b.dig = t.dig := hN.1.2.2.2.1
  have htxt : b.txt = t.txt := hN.1.2.2.2.2.2
  have kX : Hid (∀ x, Below w.heap.size w x → Calls Tryz.prog 71 #[.int .i64 2, .slice b.ab b.lb b.cb] x fun e w' => BytIs w w' e (runB 2 t.bytes)) := fun x hx' => by
    have hB := hN.2.2.1
    exact (srun_any 2 (by omega) b.ab b.lb b.cb t.bytes hB.1 (hB.2.2.kept hx') ⟨hB.2.1.1, hB.2.1.2.1, hB.2.1.2.2.1⟩ (Nat.le_trans (hg.2.1 hK) (by omega)) (hCx x hx').1.2 (hCx x hx').2).mono fun e w' h => h.up hx'
  rw [hE]
  have e1 : (b.kind == 1) = false := by rw [hk]; decide
  have e2 : (b.kind == 2) = false := by rw [hk]; decide
  have e3 : (b.kind == 3) = false := by rw [hk]; decide
  have e4 : (b.kind == 4) = false := by rw [hk]; decide
  have e5 : (b.kind == 5) = false := by rw [hk]; decide
  have e6 : (b.kind == 6) = true := by rw [hk]; decide
  generalize runB 2 t.bytes = X at *
  unfold BytIs at kX ⊢
  clear hN hK hg hC hL hE hCx hnum hn64 hx hneg hdig htxt hk
  go_enter Tryz.func41, Tryz.ntmps41
  go_wp2_with (go_at_call 71; refine (kX.out _ (by exact B0.out)).mono ?_; rintro e x1 ⟨⟨v1, rfl, hO1⟩, hb1⟩)
  go_ret
  exact ⟨⟨_, rfl, hO1⟩, hb1⟩
set_option maxHeartbeats 8000000 in
set_option maxRecDepth 100000 in
theorem sitem_k10 {L k D : Nat} {t : Tr} {b : Nb} {w : World} (hN : Nd (D + 1) w b t) (hK : t.kind = 10) (hg : EG t) (hC : Cv L w) (hL : L ≤ w.heap.size) : Calls Tryz.prog 41 #[.agg b.arr] w fun e w' => BytIs w w' e (encF (k + 1) t) := by
  have hk : b.kind = 10 := hN.1.1.trans hK
  have hE : encF (k + 1) t = hdB 7 t.num.toNat := by rw [encF]; simp [hK]
  have hCx : ∀ x, Below w.heap.size w x → Cv L x ∧ L ≤ x.heap.size := fun x hx => ⟨hC.on (hx.mono hL), Nat.le_trans hL hx.size⟩
  have B0 : Hid (Below w.heap.size w (w.alloc (.cells b.arr 26))) := alloc_below w _
  obtain ⟨a0, a1, a2, a3, a4, a5, a6, a7, a8⟩ := (nbox_new w b).fields
  obtain ⟨hnum, hn64⟩ := nd_num hN
  have hx := nd_exp hN
  have hneg : b.neg = t.neg := hN.1.2.2.1
  have hdig : b.dig = t.dig := hN.1.2.2.2.1
  have htxt : b.txt = t.txt := hN.1.2.2.2.2.2
  have kX : Hid (∀ x, Below w.heap.size w x → Calls Tryz.prog 44 #[.int .i64 7, .int .u64 b.num] x fun e w' => BytIs w w' e (hdB 7 t.num.toNat)) := fun x hx' => by
    rw [hnum]
    exact (shead_any 7 t.num.toNat (by omega) hn64 (hCx x hx').1.2 (hCx x hx').2).mono fun e w' h => h.up hx'
  rw [hE]
  have e1 : (b.kind == 1) = false := by rw [hk]; decide
  have e2 : (b.kind == 2) = false := by rw [hk]; decide
  have e3 : (b.kind == 3) = false := by rw [hk]; decide
  have e4 : (b.kind == 4) = false := by rw [hk]; decide
  have e5 : (b.kind == 5) = false := by rw [hk]; decide
  have e6 : (b.kind == 6) = false := by rw [hk]; decide
  have e7 : (b.kind == 7) = false := by rw [hk]; decide
  have e8 : (b.kind == 8) = false := by rw [hk]; decide
  have e9 : (b.kind == 9) = false := by rw [hk]; decide
  have e10 : (b.kind == 10) = true := by rw [hk]; decide
  generalize hdB 7 t.num.toNat = X at *
  unfold BytIs at kX ⊢
  clear hN hK hg hC hL hE hCx hnum hn64 hx hneg hdig htxt hk
  go_enter Tryz.func41, Tryz.ntmps41
  go_wp2_with (go_at_call 44; refine (kX.out _ (by exact B0.out)).mono ?_; rintro e x1 ⟨⟨v1, rfl, hO1⟩, hb1⟩)
  go_ret
  exact ⟨⟨_, rfl, hO1⟩, hb1⟩
set_option maxHeartbeats 8000000 in
set_option maxRecDepth 100000 in
theorem sitem_k0 {L k D : Nat} {t : Tr} {b : Nb} {w : World} (hN : Nd (D + 1) w b t) (hK : ∀ j : Int, 1 ≤ j → j ≤ 10 → t.kind ≠ j) (hC : Cv L w) (hL : L ≤ w.heap.size) : Calls Tryz.prog 41 #[.agg b.arr] w fun e w' => BytIs w w' e (encF (k + 1) t) := by
  have hk : b.kind = t.kind := hN.1.1
  have n1 := hK 1 (by omega) (by omega)
  have n2 := hK 2 (by omega) (by omega)
  have n3 := hK 3 (by omega) (by omega)
  have n4 := hK 4 (by omega) (by omega)
  have n5 := hK 5 (by omega) (by omega)
  have n6 := hK 6 (by omega) (by omega)
  have n7 := hK 7 (by omega) (by omega)
  have n8 := hK 8 (by omega) (by omega)
  have n9 := hK 9 (by omega) (by omega)
  have n10 := hK 10 (by omega) (by omega)
  have hE : encF (k + 1) t = hdB 7 22 := by rw [encF]; simp [n1, n2, n3, n4, n5, n6, n7, n8, n9, n10]
  have e1 : (b.kind == 1) = false := by rw [hk]; simpa using n1
  have e2 : (b.kind == 2) = false := by rw [hk]; simpa using n2
  have e3 : (b.kind == 3) = false := by rw [hk]; simpa using n3
  have e4 : (b.kind == 4) = false := by rw [hk]; simpa using n4
  have e5 : (b.kind == 5) = false := by rw [hk]; simpa using n5
  have e6 : (b.kind == 6) = false := by rw [hk]; simpa using n6
  have e7 : (b.kind == 7) = false := by rw [hk]; simpa using n7
  have e8 : (b.kind == 8) = false := by rw [hk]; simpa using n8
  have e9 : (b.kind == 9) = false := by rw [hk]; simpa using n9
  have e10 : (b.kind == 10) = false := by rw [hk]; simpa using n10
  have B0 : Hid (Below w.heap.size w (w.alloc (.cells b.arr 26))) := alloc_below w _
  obtain ⟨a0, a1, a2, a3, a4, a5, a6, a7, a8⟩ := (nbox_new w b).fields
  have kX : Hid (∀ x, Below w.heap.size w x → Calls Tryz.prog 44 #[.int .i64 7, .int .u64 22] x fun e w' => BytIs w w' e (hdB 7 22)) := fun x hx' => (shead_any 7 22 (by omega) (by omega) (hC.on (hx'.mono hL)).2 (Nat.le_trans hL hx'.size)).mono fun e w' h => h.up hx'
  rw [hE]
  generalize hdB 7 22 = X at *
  unfold BytIs at kX ⊢
  clear hN hK hC hL hE hk n1 n2 n3 n4 n5 n6 n7 n8 n9 n10
  go_enter Tryz.func41, Tryz.ntmps41
  go_wp2_with (go_at_call 44; refine (kX.out _ (by exact B0.out)).mono ?_; rintro e x1 ⟨⟨v1, rfl, hO1⟩, hb1⟩)
  go_ret
  exact ⟨⟨_, rfl, hO1⟩, hb1⟩
set_option maxHeartbeats 8000000 in
set_option maxRecDepth 100000 in
theorem sitem_k5 {L k D : Nat} {t : Tr} {b : Nb} {w : World} (hN : Nd (D + 1) w b t) (hK : t.kind = 5) (hg : EG t) (hC : Cv L w) (hL : L ≤ w.heap.size) : Calls Tryz.prog 41 #[.agg b.arr] w fun e w' => BytIs w w' e (encF (k + 1) t) := by
  have hk : b.kind = 5 := hN.1.1.trans hK
  have hE : encF (k + 1) t = runB 3 (bs t.txt) := by rw [encF]; simp [hK]
  have hal := alloc_below w (.cells b.arr 26)
  have htxt : b.txt = t.txt := hN.1.2.2.2.2.2
  have hsz : b.txt.size ≤ 4096 := by rw [htxt]; exact hg.1 hK
  obtain ⟨a0, a1, a2, a3, a4, a5, a6, a7, a8⟩ := (nbox_new w b).fields
  have hcv := Lib.run_convert_string_bytes (P := Tryz.prog) (w.alloc (.cells b.arr 26)) 9 22 5 b.txt Tryz.underlying9 Tryz.underlying22 Tryz.underlying5
  have BC : Below (w.alloc (.cells b.arr 26)).heap.size (w.alloc (.cells b.arr 26)) (Lib.bytesWorld (w.alloc (.cells b.arr 26)) 5 b.txt) := conv_below _ _
  have B1 : Below w.heap.size w (Lib.bytesWorld (w.alloc (.cells b.arr 26)) 5 b.txt) := hal.trans (BC.mono hal.size)
  obtain ⟨gC, nC, cC, hvC, hlC, hcC, hcC', hBC⟩ := (own_conv (w.alloc (.cells b.arr 26)) b.txt (by omega)).form
  have hvC' : (Value.slice (some ⟨(w.alloc (.cells b.arr 26)).heap.size, 0, none⟩) b.txt.size (grownCap (w.alloc (.cells b.arr 26)) b.txt.size 0 5)) = Value.slice (some ⟨gC, 0, none⟩) nC cC := hvC
  rw [hvC'] at hcv
  have kX := (srun_any 3 (by omega) (some ⟨gC, 0, none⟩) nC cC (bs b.txt) (w := Lib.bytesWorld (w.alloc (.cells b.arr 26)) 5 b.txt) hlC.out hBC.out ⟨hcC, by have := hcC'; unfold maxLen; omega, fun h => by cases h⟩ (by rw [bs_len]; omega) (hC.on (B1.mono hL)).2 (Nat.le_trans hL B1.size)).mono fun e w' h => BytIs.up h B1
  rw [hE, ← htxt]
  have e1 : (b.kind == 1) = false := by rw [hk]; decide
  have e2 : (b.kind == 2) = false := by rw [hk]; decide
  have e3 : (b.kind == 3) = false := by rw [hk]; decide
  have e4 : (b.kind == 4) = false := by rw [hk]; decide
  have e5 : (b.kind == 5) = true := by rw [hk]; decide
  generalize runB 3 (bs b.txt) = X at *
  generalize Lib.bytesWorld (w.alloc (.cells b.arr 26)) 5 b.txt = W1 at *
  unfold BytIs at kX ⊢
  clear hN hK hg hC hL hE htxt hk hvC hvC' hlC hBC BC B1 hal hsz
  go_enter Tryz.func41, Tryz.ntmps41
  go_wp2_with (go_at_call 71; refine kX.mono ?_; rintro e x1 ⟨⟨v1, rfl, hO1⟩, hb1⟩)
  go_ret
  exact ⟨⟨_, rfl, hO1⟩, hb1⟩
end Go.Proofs.YtnjbppfanmmifaaGreatDoor
namespace Go.Proofs.YtnjbppfanmmifaaGreatDoor
open Go.RowKit
set_option linter.unusedVariables false
theorem sjoin2 {x : World} {v1 v2 : Value} {l1 l2 : List Int} (h1 : Load x x.heap.size v1 l1) (h2 : Load x x.heap.size v2 l2) (m1 : l1.length ≤ 500000) (m2 : l2.length ≤ 500000) : Calls Tryz.prog 68 #[.slice (some ⟨x.heap.size, 0, none⟩) 2 2] (x.alloc (.cells #[v1, v2] 22)) fun e w' => BytIs x w' e (jnB [l1, l2] []) := by
  have hLs := lists_lit (w := x) [v1, v2] [l1, l2] rfl (by simp [maxLen]) (two_at _ (P := fun i u => Load x x.heap.size u ([l1, l2].getD i [])) rfl h1 h2)
  have := sjoin_any (some ⟨x.heap.size, 0, none⟩) 2 2 [l1, l2] 500000 (x.alloc (.cells #[v1, v2] 22)) rfl hLs (Nat.le_refl _) (by omega) (by omega) (two_len m1 m2)
  exact this.mono fun e w' h => h.up (alloc_below x _)
theorem four_at (us : List Value) {P : Nat → Value → Prop} {u0 u1 u2 u3 : Value} (e : us = [u0, u1, u2, u3]) (h0 : P 0 u0) (h1 : P 1 u1) (h2 : P 2 u2) (h3 : P 3 u3) : ∀ i u, us[i]? = some u → P i u := by
  subst e
  intro i u hi
  match i, hi with
  | 0, hi => cases hi; exact h0
  | 1, hi => cases hi; exact h1
  | 2, hi => cases hi; exact h2
  | 3, hi => cases hi; exact h3
  | _ + 4, hi => simp at hi
theorem sjoin4 {x : World} {v1 v2 v3 v4 : Value} {l1 l2 l3 l4 : List Int} (h1 : Load x x.heap.size v1 l1) (h2 : Load x x.heap.size v2 l2) (h3 : Load x x.heap.size v3 l3) (h4 : Load x x.heap.size v4 l4) (m1 : l1.length ≤ 500000) (m2 : l2.length ≤ 500000) (m3 : l3.length ≤ 500000) (m4 : l4.length ≤ 500000) : Calls Tryz.prog 68 #[.slice (some ⟨x.heap.size, 0, none⟩) 4 4] (x.alloc (.cells #[v1, v2, v3, v4] 22)) fun e w' => BytIs x w' e (jnB [l1, l2, l3, l4] []) := by
  have hLs := lists_lit (w := x) [v1, v2, v3, v4] [l1, l2, l3, l4] rfl (by simp [maxLen]) (four_at _ (P := fun i u => Load x x.heap.size u ([l1, l2, l3, l4].getD i [])) rfl h1 h2 h3 h4)
  have := sjoin_any (some ⟨x.heap.size, 0, none⟩) 4 4 [l1, l2, l3, l4] 500000 (x.alloc (.cells #[v1, v2, v3, v4] 22)) rfl hLs (Nat.le_refl _) (by omega) (by omega) (fun l hm => by
    rcases List.mem_cons.1 hm with q | q
    · rw [q]; exact m1
    rcases List.mem_cons.1 q with q | q
    · rw [q]; exact m2
    rcases List.mem_cons.1 q with q | q
    · rw [q]; exact m3
    · rw [List.mem_singleton.1 q]; exact m4)
  exact this.mono fun e w' h => h.up (alloc_below x _)
set_option maxHeartbeats 8000000 in
set_option maxRecDepth 100000 in
theorem sitem_k3 {L k D : Nat} {t : Tr} {b : Nb} {w : World} (hN : Nd (D + 1) w b t) (hK : t.kind = 3) (hg : EG t) (hC : Cv L w) (hL : L ≤ w.heap.size) : Calls Tryz.prog 41 #[.agg b.arr] w fun e w' => BytIs w w' e (encF (k + 1) t) := by
  have hk : b.kind = 3 := hN.1.1.trans hK
  have hE : encF (k + 1) t = jnB [hdB 6 4, hdB 4 2, powB t.exp, whlB t.neg t.dig] [] := by rw [encF]; simp [hK]
  have hCx : ∀ x, Below w.heap.size w x → Cv L x ∧ L ≤ x.heap.size := fun x hx => ⟨hC.on (hx.mono hL), Nat.le_trans hL hx.size⟩
  have B0 : Hid (Below w.heap.size w (w.alloc (.cells b.arr 26))) := alloc_below w _
  have HW : Hid (w.heap.size ≤ (w.alloc (.cells b.arr 26)).heap.size) := B0.out.size
  have SK : Hid (∀ x, Below (w.alloc (.cells b.arr 26)).heap.size (w.alloc (.cells b.arr 26)) x → x.cell? ⟨w.heap.size, 2, none⟩ = some (.bool b.neg) ∧ x.cell? ⟨w.heap.size, 3, none⟩ = some (.string b.dig) ∧ x.cell? ⟨w.heap.size, 4, none⟩ = some (.int .i64 b.exp)) := fun x hx => by
    obtain ⟨a0, a1, a2, a3, a4, a5, a6, a7, a8⟩ := ((nbox_new w b).kept hx (alloc_lt _ _)).fields
    exact ⟨a2, a3, a4⟩
  obtain ⟨a0, a1, a2, a3, a4, a5, a6, a7, a8⟩ := (nbox_new w b).fields
  obtain ⟨hnum, hn64⟩ := nd_num hN
  have hx := nd_exp hN
  have hneg : b.neg = t.neg := hN.1.2.2.1
  have hdig : b.dig = t.dig := hN.1.2.2.2.1
  have hexp : b.exp = t.exp := hN.1.2.2.2.2.1
  have k1 : Hid (∀ x, Below w.heap.size w x → Calls Tryz.prog 44 #[.int .i64 6, .int .u64 4] x fun e w' => BytIs x w' e (hdB 6 4)) := fun x hx' => by
    exact shead_any 6 4 (by omega) (by omega) (hCx x hx').1.2 (hCx x hx').2
  have k2 : Hid (∀ x, Below w.heap.size w x → Calls Tryz.prog 44 #[.int .i64 4, .int .u64 2] x fun e w' => BytIs x w' e (hdB 4 2)) := fun x hx' => by
    exact shead_any 4 2 (by omega) (by omega) (hCx x hx').1.2 (hCx x hx').2
  have k3 : Hid (∀ x, Below w.heap.size w x → Calls Tryz.prog 69 #[.int .i64 b.exp] x fun e w' => BytIs x w' e (powB t.exp)) := fun x hx' => by
    rw [hexp]
    exact spow_any t.exp hx.1 hx.2 (hCx x hx').1.2 (hCx x hx').2
  have k4 : Hid (∀ x, Below w.heap.size w x → Calls Tryz.prog 67 #[.bool b.neg, .string b.dig] x fun e w' => BytIs x w' e (whlB t.neg t.dig)) := fun x hx' => by
    rw [hneg, hdig]
    exact swhole_any t.neg t.dig (hCx x hx').1 (hCx x hx').2
  have kJ : Hid (∀ x v1 v2 v3 v4, Below w.heap.size w x → Load x x.heap.size v1 (hdB 6 4) → Load x x.heap.size v2 (hdB 4 2) → Load x x.heap.size v3 (powB t.exp) → Load x x.heap.size v4 (whlB t.neg t.dig) → Calls Tryz.prog 68 #[.slice (some ⟨x.heap.size, 0, none⟩) 4 4] (x.alloc (.cells #[v1, v2, v3, v4] 22)) fun e w' => BytIs x w' e (jnB [hdB 6 4, hdB 4 2, powB t.exp, whlB t.neg t.dig] [])) := fun x v1 v2 v3 v4 hx' h1 h2 h3 h4 => sjoin4 h1 h2 h3 h4 (Nat.le_trans (hdB_len 6 4) (by omega)) (Nat.le_trans (hdB_len 4 2) (by omega)) (Nat.le_trans (powB_len t.exp) (by omega)) (Nat.le_trans (whlB_len t.neg t.dig) (by omega))
  rw [hE]
  have e1 : (b.kind == 1) = false := by rw [hk]; decide
  have e2 : (b.kind == 2) = false := by rw [hk]; decide
  have e3 : (b.kind == 3) = true := by rw [hk]; decide
  generalize jnB [hdB 6 4, hdB 4 2, powB t.exp, whlB t.neg t.dig] [] = X at *
  generalize hdB 6 4 = Y1 at *
  generalize hdB 4 2 = Y2 at *
  generalize powB t.exp = Y3 at *
  generalize whlB t.neg t.dig = Y4 at *
  unfold BytIs at kJ k1 k2 k3 k4 ⊢
  clear hN hK hg hC hL hE hCx hnum hn64 hx hneg hdig hexp hk
  go_enter Tryz.func41, Tryz.ntmps41
  go_upto_region 7 with fail
  generalize w.alloc (.cells b.arr 26) = W at *
  have bd : Hid (Below W.heap.size W W.drew) := (Below.refl _ _).drew
  have up : Hid (∀ x, Below W.heap.size W x → Below w.heap.size w x) := fun x hx => B0.out.trans (hx.mono HW.out)
  go_region_held3 (fun x => x.cell? ⟨w.heap.size, 2, none⟩ = some (.bool b.neg) ∧ x.cell? ⟨w.heap.size, 3, none⟩ = some (.string b.dig) ∧ x.cell? ⟨w.heap.size, 4, none⟩ = some (.int .i64 b.exp)) (((with_reducible refine SK.out _ ?_); (all_goals first | with_reducible exact bd.out | with_reducible exact Below.refl _ _ | with_reducible exact b1.out | with_reducible exact b2.out | with_reducible exact b3.out | with_reducible exact b4.out | with_reducible exact bA.out | with_reducible exact bZ.out | fail))) (first
    | (go_at_call 44; refine (k1.out _ (up.out _ (by first | with_reducible exact bd.out | with_reducible exact Below.refl _ _))).mono ?_; rintro e x1 ⟨⟨v1, rfl, hO1⟩, hb1⟩; obtain ⟨a_1, n1, c1, rfl, -, -, -, -, -⟩ := hO1.form; have b1 : Hid (Below W.heap.size W x1) := (by first | with_reducible exact hb1 | exact bd.out.trans hb1); have L1_1 : Hid (Load x1 x1.heap.size (.slice a_1 n1 c1) Y1) := load_of_owns hO1; clear hO1 hb1 k1)
    | (go_at_call 44; refine (k2.out _ (up.out _ b1.out)).mono ?_; rintro e x2 ⟨⟨v2, rfl, hO2⟩, hb2⟩; obtain ⟨a_2, n2, c2, rfl, -, -, -, -, -⟩ := hO2.form; have b2 : Hid (Below W.heap.size W x2) := b1.out.trans (hb2.mono b1.out.size); have L1_2 : Hid (Load x2 x2.heap.size (.slice a_1 n1 c1) Y1) := (L1_1.out.mono hb2.size).keep (keep5_below hb2 _); have L2_2 : Hid (Load x2 x2.heap.size (.slice a_2 n2 c2) Y2) := load_of_owns hO2; clear hO2 hb2 k2)
    | (go_at_call 69; refine (k3.out _ (up.out _ b2.out)).mono ?_; rintro e x3 ⟨⟨v3, rfl, hO3⟩, hb3⟩; obtain ⟨a_3, n3, c3, rfl, -, -, -, -, -⟩ := hO3.form; have b3 : Hid (Below W.heap.size W x3) := b2.out.trans (hb3.mono b2.out.size); have L1_3 : Hid (Load x3 x3.heap.size (.slice a_1 n1 c1) Y1) := (L1_2.out.mono hb3.size).keep (keep5_below hb3 _); have L2_3 : Hid (Load x3 x3.heap.size (.slice a_2 n2 c2) Y2) := (L2_2.out.mono hb3.size).keep (keep5_below hb3 _); have L3_3 : Hid (Load x3 x3.heap.size (.slice a_3 n3 c3) Y3) := load_of_owns hO3; clear hO3 hb3 k3)
    | (go_at_call 67; refine (k4.out _ (up.out _ b3.out)).mono ?_; rintro e x4 ⟨⟨v4, rfl, hO4⟩, hb4⟩; obtain ⟨a_4, n4, c4, rfl, -, -, -, -, -⟩ := hO4.form; have b4 : Hid (Below W.heap.size W x4) := b3.out.trans (hb4.mono b3.out.size); have L1_4 : Hid (Load x4 x4.heap.size (.slice a_1 n1 c1) Y1) := (L1_3.out.mono hb4.size).keep (keep5_below hb4 _); have L2_4 : Hid (Load x4 x4.heap.size (.slice a_2 n2 c2) Y2) := (L2_3.out.mono hb4.size).keep (keep5_below hb4 _); have L3_4 : Hid (Load x4 x4.heap.size (.slice a_3 n3 c3) Y3) := (L3_3.out.mono hb4.size).keep (keep5_below hb4 _); have L4_4 : Hid (Load x4 x4.heap.size (.slice a_4 n4 c4) Y4) := load_of_owns hO4; have bA : Hid (Below W.heap.size W (x4.alloc (.cells #[.slice a_1 n1 c1, .slice a_2 n2 c2, .slice a_3 n3 c3, .slice a_4 n4 c4] 22))) := b4.out.trans ((alloc_below x4 _).mono b4.out.size); clear hO4 hb4 k4)
    | (go_at_call 68; refine (kJ.out _ _ _ _ _ (up.out _ b4.out) L1_4.out L2_4.out L3_4.out L4_4.out).mono ?_; rintro e xz ⟨⟨vz, rfl, hOz⟩, hbz⟩; have OZ : Hid (OwnsB xz w.heap.size vz X) := hOz.base (up.out _ b4.out).size; have bZ : Hid (Below W.heap.size W xz) := b4.out.trans (hbz.mono b4.out.size); have BZ : Hid (Below w.heap.size w xz) := up.out _ bZ.out; clear hOz hbz))
  all_goals
    go_wp2_with fail
    go_ret
    exact ⟨⟨_, rfl, OZ.out⟩, BZ.out⟩
set_option maxHeartbeats 8000000 in
set_option maxRecDepth 100000 in
theorem sitem_k7 {L k D : Nat} {t : Tr} {b : Nb} {w : World} (ih : SIt L k) (hk30 : k ≤ 30) (hd : t.deep ≤ k + 1) (hA : t.All EG) (hN : Nd (D + 1) w b t) (hK : t.kind = 7) (hg : EG t) (hC : Cv L w) (hL : L ≤ w.heap.size) : Calls Tryz.prog 41 #[.agg b.arr] w fun e w' => BytIs w w' e (encF (k + 1) t) := by
  have hk : b.kind = 7 := hN.1.1.trans hK
  have hE : encF (k + 1) t = jnB [hdB 4 t.kids.length, jnB (t.kids.map (encF k)) []] [] := by rw [encF]; simp [hK]
  have hCx : ∀ x, Below w.heap.size w x → Cv L x ∧ L ≤ x.heap.size := fun x hx => ⟨hC.on (hx.mono hL), Nat.le_trans hL hx.size⟩
  have B0 : Hid (Below w.heap.size w (w.alloc (.cells b.arr 26))) := alloc_below w _
  have HW : Hid (w.heap.size ≤ (w.alloc (.cells b.arr 26)).heap.size) := B0.out.size
  have SK : Hid (∀ x, Below (w.alloc (.cells b.arr 26)).heap.size (w.alloc (.cells b.arr 26)) x → x.cell? ⟨w.heap.size, 8, none⟩ = some (.slice b.ai b.li b.ci)) := fun x hx => by
    obtain ⟨a0, a1, a2, a3, a4, a5, a6, a7, a8⟩ := ((nbox_new w b).kept hx (alloc_lt _ _)).fields
    exact a8
  obtain ⟨a0, a1, a2, a3, a4, a5, a6, a7, a8⟩ := (nbox_new w b).fields
  obtain ⟨hnum, hn64⟩ := nd_num hN
  have hx := nd_exp hN
  have hneg : b.neg = t.neg := hN.1.2.2.1
  have hdig : b.dig = t.dig := hN.1.2.2.2.1
  have hexp : b.exp = t.exp := hN.1.2.2.2.2.1
  obtain ⟨_, gk, gi⟩ := (Tr.all_eq EG t).1 hA
  have hkd : ∀ u ∈ t.kids, u.deep ≤ k ∧ u.All EG := fun u hu => ⟨by have := Tr.kid_deep hu; omega, gi u hu⟩
  have hyd : ∀ u ∈ t.keys, u.deep ≤ k ∧ u.All EG := fun u hu => ⟨by have := Tr.key_deep hu; omega, gk u hu⟩
  have hRk := hN.2.2.2.1
  have hRi := hN.2.2.2.2
  have hli : t.kids.length = b.li := hRi.1
  have mli : b.li * 136 ≤ 140737488351232 := hRi.2.1.2.2.2
  have mlk : b.lk * 136 ≤ 140737488351232 := hRk.2.1.2.2.2
  have mci : b.ci ≤ 9223372036854775807 := by have := hRi.2.1.2.1; unfold maxLen at this; omega
  have mc : b.li ≤ b.ci := hRi.2.1.1
  have wl : IntKind.u64.wrap (b.li : Int) = (b.li : Int) := by rw [IntKind.wrap_u64]; omega
  have LI : ∀ x ∈ t.kids.map (encF k), x.length ≤ 400000 := fun x hx => by
    obtain ⟨u, hu, rfl⟩ := List.mem_map.1 hx
    exact Nat.le_trans (encF_len k u (hkd u hu).2) (by omega)
  have LP : ∀ x ∈ prB (encF k) t.keys t.kids, x.length ≤ 400000 := prB_mem _ (fun x => x.length ≤ 400000) _ _ (fun u hu => Nat.le_trans (encF_len k u (hyd u hu).2) (by omega)) (fun u hu => Nat.le_trans (encF_len k u (hkd u hu).2) (by omega))
  have k1 : Hid (∀ x, Below w.heap.size w x → Calls Tryz.prog 44 #[.int .i64 4, .int .u64 b.li] x fun e w' => BytIs x w' e (hdB 4 t.kids.length)) := fun x hx' => by
    rw [← hli]
    exact shead_any 4 t.kids.length (by omega) (by omega) (hCx x hx').1.2 (hCx x hx').2
  have k2 : Hid (∀ x, Below w.heap.size w x → Calls Tryz.prog 72 #[.slice b.ai b.li b.ci] x fun e w' => BytIs x w' e (jnB (t.kids.map (encF k)) [])) := fun x hx' => by
    exact sitems_any ih hk30 b.ai b.li b.ci t.kids x (hN.kept hx').2.2.2.2 hkd (hCx x hx').1 (hCx x hx').2 (by omega)
  have kJ : Hid (∀ x v1 v2, Below w.heap.size w x → Load x x.heap.size v1 (hdB 4 t.kids.length) → Load x x.heap.size v2 (jnB (t.kids.map (encF k)) []) → Calls Tryz.prog 68 #[.slice (some ⟨x.heap.size, 0, none⟩) 2 2] (x.alloc (.cells #[v1, v2] 22)) fun e w' => BytIs x w' e (jnB [hdB 4 t.kids.length, jnB (t.kids.map (encF k)) []] [])) := fun x v1 v2 hx' h1 h2 => sjoin2 h1 h2 (Nat.le_trans (hdB_len 4 t.kids.length) (by omega)) (Nat.le_trans (jnB_len 400000 _ [] LI (by simp)) (by omega))
  rw [hE]
  have e1 : (b.kind == 1) = false := by rw [hk]; decide
  have e2 : (b.kind == 2) = false := by rw [hk]; decide
  have e3 : (b.kind == 3) = false := by rw [hk]; decide
  have e4 : (b.kind == 4) = false := by rw [hk]; decide
  have e5 : (b.kind == 5) = false := by rw [hk]; decide
  have e6 : (b.kind == 6) = false := by rw [hk]; decide
  have e7 : (b.kind == 7) = true := by rw [hk]; decide
  generalize jnB [hdB 4 t.kids.length, jnB (t.kids.map (encF k)) []] [] = X at *
  generalize hdB 4 t.kids.length = Y1 at *
  generalize jnB (t.kids.map (encF k)) [] = Y2 at *
  unfold BytIs at kJ k1 k2 ⊢
  clear hN hK hg hC hL hE hCx hnum hn64 hx hneg hdig hexp hk hkd hyd hRk hRi hli mli mlk LI LP gk gi hA hd ih hk30
  go_enter Tryz.func41, Tryz.ntmps41
  go_upto_region 15 with fail
  generalize w.alloc (.cells b.arr 26) = W at *
  have bd : Hid (Below W.heap.size W W.drew) := (Below.refl _ _).drew
  have up : Hid (∀ x, Below W.heap.size W x → Below w.heap.size w x) := fun x hx => B0.out.trans (hx.mono HW.out)
  go_region_held3 (fun x => x.cell? ⟨w.heap.size, 8, none⟩ = some (.slice b.ai b.li b.ci)) (((with_reducible refine SK.out _ ?_); (all_goals first | with_reducible exact bd.out | with_reducible exact Below.refl _ _ | with_reducible exact b1.out | with_reducible exact b2.out | with_reducible exact b3.out | with_reducible exact b4.out | with_reducible exact bA.out | with_reducible exact bZ.out | fail))) (first
    | (go_at_call 44; refine (k1.out _ (up.out _ (by first | with_reducible exact bd.out | with_reducible exact Below.refl _ _))).mono ?_; rintro e x1 ⟨⟨v1, rfl, hO1⟩, hb1⟩; obtain ⟨a_1, n1, c1, rfl, -, -, -, -, -⟩ := hO1.form; have b1 : Hid (Below W.heap.size W x1) := (by first | with_reducible exact hb1 | exact bd.out.trans hb1); have L1_1 : Hid (Load x1 x1.heap.size (.slice a_1 n1 c1) Y1) := load_of_owns hO1; clear hO1 hb1 k1)
    | (go_at_call 72; refine (k2.out _ (up.out _ b1.out)).mono ?_; rintro e x2 ⟨⟨v2, rfl, hO2⟩, hb2⟩; obtain ⟨a_2, n2, c2, rfl, -, -, -, -, -⟩ := hO2.form; have b2 : Hid (Below W.heap.size W x2) := b1.out.trans (hb2.mono b1.out.size); have L1_2 : Hid (Load x2 x2.heap.size (.slice a_1 n1 c1) Y1) := (L1_1.out.mono hb2.size).keep (keep5_below hb2 _); have L2_2 : Hid (Load x2 x2.heap.size (.slice a_2 n2 c2) Y2) := load_of_owns hO2; have bA : Hid (Below W.heap.size W (x2.alloc (.cells #[.slice a_1 n1 c1, .slice a_2 n2 c2] 22))) := b2.out.trans ((alloc_below x2 _).mono b2.out.size); clear hO2 hb2 k2)
    | (go_at_call 68; refine (kJ.out _ _ _ (up.out _ b2.out) L1_2.out L2_2.out).mono ?_; rintro e xz ⟨⟨vz, rfl, hOz⟩, hbz⟩; have OZ : Hid (OwnsB xz w.heap.size vz X) := hOz.base (up.out _ b2.out).size; have bZ : Hid (Below W.heap.size W xz) := b2.out.trans (hbz.mono b2.out.size); have BZ : Hid (Below w.heap.size w xz) := up.out _ bZ.out; clear hOz hbz))
  all_goals
    go_wp2_with fail
    go_ret
    exact ⟨⟨_, rfl, OZ.out⟩, BZ.out⟩
set_option maxHeartbeats 8000000 in
set_option maxRecDepth 100000 in
theorem sitem_k8 {L k D : Nat} {t : Tr} {b : Nb} {w : World} (ih : SIt L k) (hk30 : k ≤ 30) (hd : t.deep ≤ k + 1) (hA : t.All EG) (hN : Nd (D + 1) w b t) (hK : t.kind = 8) (hg : EG t) (hC : Cv L w) (hL : L ≤ w.heap.size) : Calls Tryz.prog 41 #[.agg b.arr] w fun e w' => BytIs w w' e (encF (k + 1) t) := by
  have hk : b.kind = 8 := hN.1.1.trans hK
  have hE : encF (k + 1) t = jnB [hdB 5 t.kids.length, jnB (prB (encF k) t.keys t.kids) []] [] := by rw [encF]; simp [hK]
  have hCx : ∀ x, Below w.heap.size w x → Cv L x ∧ L ≤ x.heap.size := fun x hx => ⟨hC.on (hx.mono hL), Nat.le_trans hL hx.size⟩
  have B0 : Hid (Below w.heap.size w (w.alloc (.cells b.arr 26))) := alloc_below w _
  have HW : Hid (w.heap.size ≤ (w.alloc (.cells b.arr 26)).heap.size) := B0.out.size
  have SK : Hid (∀ x, Below (w.alloc (.cells b.arr 26)).heap.size (w.alloc (.cells b.arr 26)) x → x.cell? ⟨w.heap.size, 7, none⟩ = some (.slice b.ak b.lk b.ck) ∧ x.cell? ⟨w.heap.size, 8, none⟩ = some (.slice b.ai b.li b.ci)) := fun x hx => by
    obtain ⟨a0, a1, a2, a3, a4, a5, a6, a7, a8⟩ := ((nbox_new w b).kept hx (alloc_lt _ _)).fields
    exact ⟨a7, a8⟩
  obtain ⟨a0, a1, a2, a3, a4, a5, a6, a7, a8⟩ := (nbox_new w b).fields
  obtain ⟨hnum, hn64⟩ := nd_num hN
  have hx := nd_exp hN
  have hneg : b.neg = t.neg := hN.1.2.2.1
  have hdig : b.dig = t.dig := hN.1.2.2.2.1
  have hexp : b.exp = t.exp := hN.1.2.2.2.2.1
  obtain ⟨_, gk, gi⟩ := (Tr.all_eq EG t).1 hA
  have hkd : ∀ u ∈ t.kids, u.deep ≤ k ∧ u.All EG := fun u hu => ⟨by have := Tr.kid_deep hu; omega, gi u hu⟩
  have hyd : ∀ u ∈ t.keys, u.deep ≤ k ∧ u.All EG := fun u hu => ⟨by have := Tr.key_deep hu; omega, gk u hu⟩
  have hRk := hN.2.2.2.1
  have hRi := hN.2.2.2.2
  have hli : t.kids.length = b.li := hRi.1
  have mli : b.li * 136 ≤ 140737488351232 := hRi.2.1.2.2.2
  have mlk : b.lk * 136 ≤ 140737488351232 := hRk.2.1.2.2.2
  have mci : b.ci ≤ 9223372036854775807 := by have := hRi.2.1.2.1; unfold maxLen at this; omega
  have mc : b.li ≤ b.ci := hRi.2.1.1
  have wl : IntKind.u64.wrap (b.li : Int) = (b.li : Int) := by rw [IntKind.wrap_u64]; omega
  have LI : ∀ x ∈ t.kids.map (encF k), x.length ≤ 400000 := fun x hx => by
    obtain ⟨u, hu, rfl⟩ := List.mem_map.1 hx
    exact Nat.le_trans (encF_len k u (hkd u hu).2) (by omega)
  have LP : ∀ x ∈ prB (encF k) t.keys t.kids, x.length ≤ 400000 := prB_mem _ (fun x => x.length ≤ 400000) _ _ (fun u hu => Nat.le_trans (encF_len k u (hyd u hu).2) (by omega)) (fun u hu => Nat.le_trans (encF_len k u (hkd u hu).2) (by omega))
  have k1 : Hid (∀ x, Below w.heap.size w x → Calls Tryz.prog 44 #[.int .i64 5, .int .u64 b.li] x fun e w' => BytIs x w' e (hdB 5 t.kids.length)) := fun x hx' => by
    rw [← hli]
    exact shead_any 5 t.kids.length (by omega) (by omega) (hCx x hx').1.2 (hCx x hx').2
  have k2 : Hid (∀ x, Below w.heap.size w x → Calls Tryz.prog 73 #[.slice b.ak b.lk b.ck, .slice b.ai b.li b.ci] x fun e w' => BytIs x w' e (jnB (prB (encF k) t.keys t.kids) [])) := fun x hx' => by
    exact spairs_any ih hk30 b.ak b.lk b.ck t.keys b.ai b.li b.ci t.kids x (hN.kept hx').2.2.2.1 (hN.kept hx').2.2.2.2 (hg.2.2.2 hK) hyd hkd (hCx x hx').1 (hCx x hx').2 (by omega)
  have kJ : Hid (∀ x v1 v2, Below w.heap.size w x → Load x x.heap.size v1 (hdB 5 t.kids.length) → Load x x.heap.size v2 (jnB (prB (encF k) t.keys t.kids) []) → Calls Tryz.prog 68 #[.slice (some ⟨x.heap.size, 0, none⟩) 2 2] (x.alloc (.cells #[v1, v2] 22)) fun e w' => BytIs x w' e (jnB [hdB 5 t.kids.length, jnB (prB (encF k) t.keys t.kids) []] [])) := fun x v1 v2 hx' h1 h2 => sjoin2 h1 h2 (Nat.le_trans (hdB_len 5 t.kids.length) (by omega)) (Nat.le_trans (jnB_len 400000 _ [] LP (by simp)) (by omega))
  rw [hE]
  have e1 : (b.kind == 1) = false := by rw [hk]; decide
  have e2 : (b.kind == 2) = false := by rw [hk]; decide
  have e3 : (b.kind == 3) = false := by rw [hk]; decide
  have e4 : (b.kind == 4) = false := by rw [hk]; decide
  have e5 : (b.kind == 5) = false := by rw [hk]; decide
  have e6 : (b.kind == 6) = false := by rw [hk]; decide
  have e7 : (b.kind == 7) = false := by rw [hk]; decide
  have e8 : (b.kind == 8) = true := by rw [hk]; decide
  generalize jnB [hdB 5 t.kids.length, jnB (prB (encF k) t.keys t.kids) []] [] = X at *
  generalize hdB 5 t.kids.length = Y1 at *
  generalize jnB (prB (encF k) t.keys t.kids) [] = Y2 at *
  unfold BytIs at kJ k1 k2 ⊢
  clear hN hK hg hC hL hE hCx hnum hn64 hx hneg hdig hexp hk hkd hyd hRk hRi hli mli mlk LI LP gk gi hA hd ih hk30
  go_enter Tryz.func41, Tryz.ntmps41
  go_upto_region 17 with fail
  generalize w.alloc (.cells b.arr 26) = W at *
  have bd : Hid (Below W.heap.size W W.drew) := (Below.refl _ _).drew
  have up : Hid (∀ x, Below W.heap.size W x → Below w.heap.size w x) := fun x hx => B0.out.trans (hx.mono HW.out)
  go_region_held3 (fun x => x.cell? ⟨w.heap.size, 7, none⟩ = some (.slice b.ak b.lk b.ck) ∧ x.cell? ⟨w.heap.size, 8, none⟩ = some (.slice b.ai b.li b.ci)) (((with_reducible refine SK.out _ ?_); (all_goals first | with_reducible exact bd.out | with_reducible exact Below.refl _ _ | with_reducible exact b1.out | with_reducible exact b2.out | with_reducible exact b3.out | with_reducible exact b4.out | with_reducible exact bA.out | with_reducible exact bZ.out | fail))) (first
    | (go_at_call 44; refine (k1.out _ (up.out _ (by first | with_reducible exact bd.out | with_reducible exact Below.refl _ _))).mono ?_; rintro e x1 ⟨⟨v1, rfl, hO1⟩, hb1⟩; obtain ⟨a_1, n1, c1, rfl, -, -, -, -, -⟩ := hO1.form; have b1 : Hid (Below W.heap.size W x1) := (by first | with_reducible exact hb1 | exact bd.out.trans hb1); have L1_1 : Hid (Load x1 x1.heap.size (.slice a_1 n1 c1) Y1) := load_of_owns hO1; clear hO1 hb1 k1)
    | (go_at_call 73; refine (k2.out _ (up.out _ b1.out)).mono ?_; rintro e x2 ⟨⟨v2, rfl, hO2⟩, hb2⟩; obtain ⟨a_2, n2, c2, rfl, -, -, -, -, -⟩ := hO2.form; have b2 : Hid (Below W.heap.size W x2) := b1.out.trans (hb2.mono b1.out.size); have L1_2 : Hid (Load x2 x2.heap.size (.slice a_1 n1 c1) Y1) := (L1_1.out.mono hb2.size).keep (keep5_below hb2 _); have L2_2 : Hid (Load x2 x2.heap.size (.slice a_2 n2 c2) Y2) := load_of_owns hO2; have bA : Hid (Below W.heap.size W (x2.alloc (.cells #[.slice a_1 n1 c1, .slice a_2 n2 c2] 22))) := b2.out.trans ((alloc_below x2 _).mono b2.out.size); clear hO2 hb2 k2)
    | (go_at_call 68; refine (kJ.out _ _ _ (up.out _ b2.out) L1_2.out L2_2.out).mono ?_; rintro e xz ⟨⟨vz, rfl, hOz⟩, hbz⟩; have OZ : Hid (OwnsB xz w.heap.size vz X) := hOz.base (up.out _ b2.out).size; have bZ : Hid (Below W.heap.size W xz) := b2.out.trans (hbz.mono b2.out.size); have BZ : Hid (Below w.heap.size w xz) := up.out _ bZ.out; clear hOz hbz))
  all_goals
    go_wp2_with fail
    go_ret
    exact ⟨⟨_, rfl, OZ.out⟩, BZ.out⟩
set_option maxHeartbeats 8000000 in
set_option maxRecDepth 100000 in
theorem sitem_k9 {L k D : Nat} {t : Tr} {b : Nb} {w : World} (ih : SIt L k) (hk30 : k ≤ 30) (hd : t.deep ≤ k + 1) (hA : t.All EG) (hN : Nd (D + 1) w b t) (hK : t.kind = 9) (hg : EG t) (hC : Cv L w) (hL : L ≤ w.heap.size) : Calls Tryz.prog 41 #[.agg b.arr] w fun e w' => BytIs w w' e (encF (k + 1) t) := by
  have hk : b.kind = 9 := hN.1.1.trans hK
  have hE : encF (k + 1) t = jnB [hdB 6 t.num.toNat, jnB (t.kids.map (encF k)) []] [] := by rw [encF]; simp [hK]
  have hCx : ∀ x, Below w.heap.size w x → Cv L x ∧ L ≤ x.heap.size := fun x hx => ⟨hC.on (hx.mono hL), Nat.le_trans hL hx.size⟩
  have B0 : Hid (Below w.heap.size w (w.alloc (.cells b.arr 26))) := alloc_below w _
  have HW : Hid (w.heap.size ≤ (w.alloc (.cells b.arr 26)).heap.size) := B0.out.size
  have SK : Hid (∀ x, Below (w.alloc (.cells b.arr 26)).heap.size (w.alloc (.cells b.arr 26)) x → x.cell? ⟨w.heap.size, 1, none⟩ = some (.int .u64 b.num) ∧ x.cell? ⟨w.heap.size, 8, none⟩ = some (.slice b.ai b.li b.ci)) := fun x hx => by
    obtain ⟨a0, a1, a2, a3, a4, a5, a6, a7, a8⟩ := ((nbox_new w b).kept hx (alloc_lt _ _)).fields
    exact ⟨a1, a8⟩
  obtain ⟨a0, a1, a2, a3, a4, a5, a6, a7, a8⟩ := (nbox_new w b).fields
  obtain ⟨hnum, hn64⟩ := nd_num hN
  have hx := nd_exp hN
  have hneg : b.neg = t.neg := hN.1.2.2.1
  have hdig : b.dig = t.dig := hN.1.2.2.2.1
  have hexp : b.exp = t.exp := hN.1.2.2.2.2.1
  obtain ⟨_, gk, gi⟩ := (Tr.all_eq EG t).1 hA
  have hkd : ∀ u ∈ t.kids, u.deep ≤ k ∧ u.All EG := fun u hu => ⟨by have := Tr.kid_deep hu; omega, gi u hu⟩
  have hyd : ∀ u ∈ t.keys, u.deep ≤ k ∧ u.All EG := fun u hu => ⟨by have := Tr.key_deep hu; omega, gk u hu⟩
  have hRk := hN.2.2.2.1
  have hRi := hN.2.2.2.2
  have hli : t.kids.length = b.li := hRi.1
  have mli : b.li * 136 ≤ 140737488351232 := hRi.2.1.2.2.2
  have mlk : b.lk * 136 ≤ 140737488351232 := hRk.2.1.2.2.2
  have mci : b.ci ≤ 9223372036854775807 := by have := hRi.2.1.2.1; unfold maxLen at this; omega
  have mc : b.li ≤ b.ci := hRi.2.1.1
  have wl : IntKind.u64.wrap (b.li : Int) = (b.li : Int) := by rw [IntKind.wrap_u64]; omega
  have LI : ∀ x ∈ t.kids.map (encF k), x.length ≤ 400000 := fun x hx => by
    obtain ⟨u, hu, rfl⟩ := List.mem_map.1 hx
    exact Nat.le_trans (encF_len k u (hkd u hu).2) (by omega)
  have LP : ∀ x ∈ prB (encF k) t.keys t.kids, x.length ≤ 400000 := prB_mem _ (fun x => x.length ≤ 400000) _ _ (fun u hu => Nat.le_trans (encF_len k u (hyd u hu).2) (by omega)) (fun u hu => Nat.le_trans (encF_len k u (hkd u hu).2) (by omega))
  have k1 : Hid (∀ x, Below w.heap.size w x → Calls Tryz.prog 44 #[.int .i64 6, .int .u64 b.num] x fun e w' => BytIs x w' e (hdB 6 t.num.toNat)) := fun x hx' => by
    rw [hnum]
    exact shead_any 6 t.num.toNat (by omega) hn64 (hCx x hx').1.2 (hCx x hx').2
  have k2 : Hid (∀ x, Below w.heap.size w x → Calls Tryz.prog 72 #[.slice b.ai b.li b.ci] x fun e w' => BytIs x w' e (jnB (t.kids.map (encF k)) [])) := fun x hx' => by
    exact sitems_any ih hk30 b.ai b.li b.ci t.kids x (hN.kept hx').2.2.2.2 hkd (hCx x hx').1 (hCx x hx').2 (by omega)
  have kJ : Hid (∀ x v1 v2, Below w.heap.size w x → Load x x.heap.size v1 (hdB 6 t.num.toNat) → Load x x.heap.size v2 (jnB (t.kids.map (encF k)) []) → Calls Tryz.prog 68 #[.slice (some ⟨x.heap.size, 0, none⟩) 2 2] (x.alloc (.cells #[v1, v2] 22)) fun e w' => BytIs x w' e (jnB [hdB 6 t.num.toNat, jnB (t.kids.map (encF k)) []] [])) := fun x v1 v2 hx' h1 h2 => sjoin2 h1 h2 (Nat.le_trans (hdB_len 6 t.num.toNat) (by omega)) (Nat.le_trans (jnB_len 400000 _ [] LI (by simp)) (by omega))
  rw [hE]
  have e1 : (b.kind == 1) = false := by rw [hk]; decide
  have e2 : (b.kind == 2) = false := by rw [hk]; decide
  have e3 : (b.kind == 3) = false := by rw [hk]; decide
  have e4 : (b.kind == 4) = false := by rw [hk]; decide
  have e5 : (b.kind == 5) = false := by rw [hk]; decide
  have e6 : (b.kind == 6) = false := by rw [hk]; decide
  have e7 : (b.kind == 7) = false := by rw [hk]; decide
  have e8 : (b.kind == 8) = false := by rw [hk]; decide
  have e9 : (b.kind == 9) = true := by rw [hk]; decide
  generalize jnB [hdB 6 t.num.toNat, jnB (t.kids.map (encF k)) []] [] = X at *
  generalize hdB 6 t.num.toNat = Y1 at *
  generalize jnB (t.kids.map (encF k)) [] = Y2 at *
  unfold BytIs at kJ k1 k2 ⊢
  clear hN hK hg hC hL hE hCx hnum hn64 hx hneg hdig hexp hk hkd hyd hRk hRi hli mli mlk LI LP gk gi hA hd ih hk30
  go_enter Tryz.func41, Tryz.ntmps41
  go_upto_region 19 with fail
  generalize w.alloc (.cells b.arr 26) = W at *
  have bd : Hid (Below W.heap.size W W.drew) := (Below.refl _ _).drew
  have up : Hid (∀ x, Below W.heap.size W x → Below w.heap.size w x) := fun x hx => B0.out.trans (hx.mono HW.out)
  go_region_held3 (fun x => x.cell? ⟨w.heap.size, 1, none⟩ = some (.int .u64 b.num) ∧ x.cell? ⟨w.heap.size, 8, none⟩ = some (.slice b.ai b.li b.ci)) (((with_reducible refine SK.out _ ?_); (all_goals first | with_reducible exact bd.out | with_reducible exact Below.refl _ _ | with_reducible exact b1.out | with_reducible exact b2.out | with_reducible exact b3.out | with_reducible exact b4.out | with_reducible exact bA.out | with_reducible exact bZ.out | fail))) (first
    | (go_at_call 44; refine (k1.out _ (up.out _ (by first | with_reducible exact bd.out | with_reducible exact Below.refl _ _))).mono ?_; rintro e x1 ⟨⟨v1, rfl, hO1⟩, hb1⟩; obtain ⟨a_1, n1, c1, rfl, -, -, -, -, -⟩ := hO1.form; have b1 : Hid (Below W.heap.size W x1) := (by first | with_reducible exact hb1 | exact bd.out.trans hb1); have L1_1 : Hid (Load x1 x1.heap.size (.slice a_1 n1 c1) Y1) := load_of_owns hO1; clear hO1 hb1 k1)
    | (go_at_call 72; refine (k2.out _ (up.out _ b1.out)).mono ?_; rintro e x2 ⟨⟨v2, rfl, hO2⟩, hb2⟩; obtain ⟨a_2, n2, c2, rfl, -, -, -, -, -⟩ := hO2.form; have b2 : Hid (Below W.heap.size W x2) := b1.out.trans (hb2.mono b1.out.size); have L1_2 : Hid (Load x2 x2.heap.size (.slice a_1 n1 c1) Y1) := (L1_1.out.mono hb2.size).keep (keep5_below hb2 _); have L2_2 : Hid (Load x2 x2.heap.size (.slice a_2 n2 c2) Y2) := load_of_owns hO2; have bA : Hid (Below W.heap.size W (x2.alloc (.cells #[.slice a_1 n1 c1, .slice a_2 n2 c2] 22))) := b2.out.trans ((alloc_below x2 _).mono b2.out.size); clear hO2 hb2 k2)
    | (go_at_call 68; refine (kJ.out _ _ _ (up.out _ b2.out) L1_2.out L2_2.out).mono ?_; rintro e xz ⟨⟨vz, rfl, hOz⟩, hbz⟩; have OZ : Hid (OwnsB xz w.heap.size vz X) := hOz.base (up.out _ b2.out).size; have bZ : Hid (Below W.heap.size W xz) := b2.out.trans (hbz.mono b2.out.size); have BZ : Hid (Below w.heap.size w xz) := up.out _ bZ.out; clear hOz hbz))
  all_goals
    go_wp2_with fail
    go_ret
    exact ⟨⟨_, rfl, OZ.out⟩, BZ.out⟩
/-- EVERY ITEM IS WRITTEN. -/
theorem sitem_any (L : Nat) : ∀ k, k ≤ 30 → SIt L k
  | 0, _ => fun D t b w hN hd _ _ _ => by rw [Tr.deep_eq] at hd; omega
  | k + 1, hk => fun D t b w hN hd hA hC hL => by
    have ih := sitem_any L k (by omega)
    have hg : EG t := ((Tr.all_eq EG t).1 hA).1
    cases D with
    | zero => exact hN.elim
    | succ D =>
      by_cases h1 : t.kind = 1
      · exact sitem_k1 hN h1 hg hC hL
      by_cases h2 : t.kind = 2
      · exact sitem_k2 hN h2 hg hC hL
      by_cases h3 : t.kind = 3
      · exact sitem_k3 hN h3 hg hC hL
      by_cases h4 : t.kind = 4
      · exact sitem_k4 hN h4 hg hC hL
      by_cases h5 : t.kind = 5
      · exact sitem_k5 hN h5 hg hC hL
      by_cases h6 : t.kind = 6
      · exact sitem_k6 hN h6 hg hC hL
      by_cases h7 : t.kind = 7
      · exact sitem_k7 ih (by omega) hd hA hN h7 hg hC hL
      by_cases h8 : t.kind = 8
      · exact sitem_k8 ih (by omega) hd hA hN h8 hg hC hL
      by_cases h9 : t.kind = 9
      · exact sitem_k9 ih (by omega) hd hA hN h9 hg hC hL
      by_cases h10 : t.kind = 10
      · exact sitem_k10 hN h10 hg hC hL
      · exact sitem_k0 hN (fun j hj1 hj2 e => by omega) hC hL
end Go.Proofs.YtnjbppfanmmifaaGreatDoor
