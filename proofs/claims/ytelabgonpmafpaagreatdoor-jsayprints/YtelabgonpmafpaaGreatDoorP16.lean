/-
  What is wrong with a node itself: tree.fault, of every other Kind.
  Whether two keys are the same: tree.twice, with slices.ContainsFunc and slices.IndexFunc; tree.Same.
  What is wrong with a tree: tree.Check.
  What the reader of strings makes of an escaped text: the text itself. No program is named here.
  Trees as JSON texts, as plain data: parts one behind the other as far as they are not too long, rows with commas, a tree's text.
-/
import Derived.Test.YtelabgonpmafpaaGreatDoorP12
import Derived.Test.YtelabgonpmafpaaGreatDoorP2
import Derived.Test.YtelabgonpmafpaaGreatDoorP13
import Derived.Test.YtelabgonpmafpaaGreatDoorP14
import Derived.Test.YtelabgonpmafpaaGreatDoorP15
import Derived.Test.YtelabgonpmafpaaGreatDoorP10
namespace Go.Proofs.YtelabgonpmafpaaGreatDoor
open Go.RowKit
set_option linter.unusedVariables false

set_option maxHeartbeats 8000000 in
set_option maxRecDepth 100000 in
theorem fault_ko {D : Nat} {t : Tr} {b : Nb} {w : World} (hN : Nd (D + 1) w b t) (h2 : b.kind ≠ 2) (h3 : b.kind ≠ 3) (h5 : b.kind ≠ 5) (h6 : b.kind ≠ 6) : Calls Tryz.prog 43 #[.agg b.arr] w fun e w' => e = .returned (.int .i64 (alF t)) ∧ Below w.heap.size w w' := by
  have hal := alloc_below w (.cells b.arr 26)
  have B0 : Hid (Below w.heap.size w (w.alloc (.cells b.arr 26))) := hal
  have Q0 : Hid (NBox (w.alloc (.cells b.arr 26)) w.heap.size b) := nbox_new w b
  obtain ⟨a0, a1, a2, a3, a4, a5, a6, a7, a8⟩ := (nbox_new w b).fields
  have hodd := odd_eq hN
  have rk := hN.2.2.2.1.2.1
  have ri := hN.2.2.2.2.2.1
  have kM := fun w' => maybe_any b w' ⟨rk.1, rk.2.1, ri.1, ri.2.1⟩
  have kR := fun w' => rest_any b w'
  have kS : Hid (∀ w', Below w.heap.size w w' → Calls Tryz.prog 72 #[.agg (rst b).arr, .agg #[.int .i64 0, .int .u64 0, .bool false, .string ⟨#[]⟩, .int .i64 0, .string ⟨#[]⟩, .slice none 0 0, .slice none 0 0, .slice none 0 0]] w' fun e w'' => e = .returned (.bool t.clean) ∧ Below w'.heap.size w' w'') := fun w' hb => sam_any (b := zN) (nd_rst (hN.kept hb)) (nd_zero 0 w') (rst_clean t).symm
  have hk : b.kind = t.kind := hN.1.1
  have hneg : b.neg = t.neg := hN.1.2.2.1
  have hdig : b.dig = t.dig := hN.1.2.2.2.1
  have hexp : b.exp = t.exp := hN.1.2.2.2.2.1
  have htxt : b.txt = t.txt := hN.1.2.2.2.2.2
  have hlb : t.bytes.length = b.lb := hN.2.2.1.1
  have mb1 := hN.2.2.1.2.1.1
  have mb2 := hN.2.2.1.2.1.2.1
  unfold maxLen at mb2
  have mt : b.txt.size ≤ 140737488351232 := by rw [htxt]; exact hN.2.1.2.2.2.2
  have hA : alF t = if (b.kind = 5 ∧ 4096 < b.txt.size) ∨ (b.kind = 6 ∧ 4096 < b.lb) then 8
    else if b.kind = 5 ∧ gtx b.txt = false then 6
    else if b.kind = 2 ∧ (rt b.dig = false ∨ (b.neg = true ∧ b.dig = ⟨#[48]⟩)) then 11
    else if b.kind = 3 ∧ rdN b.neg b.dig b.exp = false then 11
    else if t.odd = true then 12 else 0 := by
    rw [hk, hneg, hdig, hexp, htxt, ← hlb]; rfl
  clear hneg hdig hexp htxt hlb hN hk hal rk ri
  rw [if_neg (by omega), if_neg (by omega), if_neg (by omega), if_neg (by omega)] at hA
  have e2 : (b.kind == 2) = false := by simp [h2]
  have e3 : (b.kind == 3) = false := by simp [h3]
  have e5 : (b.kind == 5) = false := by simp [h5]
  have e6 : (b.kind == 6) = false := by simp [h6]
  clear h2 h3 h5 h6
  rcases Nat.lt_or_ge 4096 b.txt.size with hT | hT
  · have dT : decide ((4096 : Int) < ((b.txt.size : Nat) : Int)) = true := by simp; omega
    clear hT
    rcases Nat.lt_or_ge 4096 b.lb with hL | hL
    · have dL : decide ((4096 : Int) < ((b.lb : Nat) : Int)) = true := by simp; omega
      clear hL
      cases hm : mayB b with
      | false =>
        have hO : t.odd = true := by rw [hodd, hm]; rfl
        rw [hO, if_pos rfl] at hA
        rw [hA]
        rw [hm] at kM
        clear hO hA hodd hm
        go_enter Tryz.func43, Tryz.ntmps43
        go_wp2_with (first
          | (go_at_call 71; refine (kM _).mono ?_; rintro e wM ⟨rfl, hwM⟩; clear a0 a1 a2 a3 a4 a5 a6 a7 a8; have QwM : Hid (NBox wM w.heap.size b) := Q0.out.kept hwM Q0.out.lt; have BwM : Hid (Below w.heap.size w wM) := B0.out.trans (hwM.mono B0.out.size); obtain ⟨a0, a1, a2, a3, a4, a5, a6, a7, a8⟩ := QwM.out.fields))
        go_ret
        exact ⟨rfl, BwM.out⟩
      | true =>
        rw [hm] at kM
        cases hc : t.clean with
        | false =>
          have hO : t.odd = true := by rw [hodd, hm, hc]; rfl
          rw [hO, if_pos rfl] at hA
          rw [hA]
          rw [hc] at kS
          clear hO hA hodd hm hc
          go_enter Tryz.func43, Tryz.ntmps43
          go_wp2_with (first
            | (go_at_call 71; refine (kM _).mono ?_; rintro e wM ⟨rfl, hwM⟩; clear a0 a1 a2 a3 a4 a5 a6 a7 a8; have QwM : Hid (NBox wM w.heap.size b) := Q0.out.kept hwM Q0.out.lt; have BwM : Hid (Below w.heap.size w wM) := B0.out.trans (hwM.mono B0.out.size); obtain ⟨a0, a1, a2, a3, a4, a5, a6, a7, a8⟩ := QwM.out.fields)
            | (go_at_call 73; refine (kR _).mono ?_; rintro e wR ⟨rfl, hwR⟩; have BwR : Hid (Below w.heap.size w wR) := BwM.out.trans (hwR.mono BwM.out.size); have kS' := kS.out wR BwR.out)
            | (go_at_call 72; refine kS'.mono ?_; rintro e wS ⟨rfl, hwS⟩))
          go_ret
          exact ⟨rfl, BwR.out.trans (hwS.mono BwR.out.size)⟩
        | true =>
          have hO : t.odd = false := by rw [hodd, hm, hc]; rfl
          rw [hO, if_neg (by simp)] at hA
          rw [hA]
          rw [hc] at kS
          clear hO hA hodd hm hc
          go_enter Tryz.func43, Tryz.ntmps43
          go_wp2_with (first
            | (go_at_call 71; refine (kM _).mono ?_; rintro e wM ⟨rfl, hwM⟩; clear a0 a1 a2 a3 a4 a5 a6 a7 a8; have QwM : Hid (NBox wM w.heap.size b) := Q0.out.kept hwM Q0.out.lt; have BwM : Hid (Below w.heap.size w wM) := B0.out.trans (hwM.mono B0.out.size); obtain ⟨a0, a1, a2, a3, a4, a5, a6, a7, a8⟩ := QwM.out.fields)
            | (go_at_call 73; refine (kR _).mono ?_; rintro e wR ⟨rfl, hwR⟩; have BwR : Hid (Below w.heap.size w wR) := BwM.out.trans (hwR.mono BwM.out.size); have kS' := kS.out wR BwR.out)
            | (go_at_call 72; refine kS'.mono ?_; rintro e wS ⟨rfl, hwS⟩))
          go_ret
          exact ⟨rfl, BwR.out.trans (hwS.mono BwR.out.size)⟩
    · have dL : decide ((4096 : Int) < ((b.lb : Nat) : Int)) = false := by simp; omega
      clear hL
      cases hm : mayB b with
      | false =>
        have hO : t.odd = true := by rw [hodd, hm]; rfl
        rw [hO, if_pos rfl] at hA
        rw [hA]
        rw [hm] at kM
        clear hO hA hodd hm
        go_enter Tryz.func43, Tryz.ntmps43
        go_wp2_with (first
          | (go_at_call 71; refine (kM _).mono ?_; rintro e wM ⟨rfl, hwM⟩; clear a0 a1 a2 a3 a4 a5 a6 a7 a8; have QwM : Hid (NBox wM w.heap.size b) := Q0.out.kept hwM Q0.out.lt; have BwM : Hid (Below w.heap.size w wM) := B0.out.trans (hwM.mono B0.out.size); obtain ⟨a0, a1, a2, a3, a4, a5, a6, a7, a8⟩ := QwM.out.fields))
        go_ret
        exact ⟨rfl, BwM.out⟩
      | true =>
        rw [hm] at kM
        cases hc : t.clean with
        | false =>
          have hO : t.odd = true := by rw [hodd, hm, hc]; rfl
          rw [hO, if_pos rfl] at hA
          rw [hA]
          rw [hc] at kS
          clear hO hA hodd hm hc
          go_enter Tryz.func43, Tryz.ntmps43
          go_wp2_with (first
            | (go_at_call 71; refine (kM _).mono ?_; rintro e wM ⟨rfl, hwM⟩; clear a0 a1 a2 a3 a4 a5 a6 a7 a8; have QwM : Hid (NBox wM w.heap.size b) := Q0.out.kept hwM Q0.out.lt; have BwM : Hid (Below w.heap.size w wM) := B0.out.trans (hwM.mono B0.out.size); obtain ⟨a0, a1, a2, a3, a4, a5, a6, a7, a8⟩ := QwM.out.fields)
            | (go_at_call 73; refine (kR _).mono ?_; rintro e wR ⟨rfl, hwR⟩; have BwR : Hid (Below w.heap.size w wR) := BwM.out.trans (hwR.mono BwM.out.size); have kS' := kS.out wR BwR.out)
            | (go_at_call 72; refine kS'.mono ?_; rintro e wS ⟨rfl, hwS⟩))
          go_ret
          exact ⟨rfl, BwR.out.trans (hwS.mono BwR.out.size)⟩
        | true =>
          have hO : t.odd = false := by rw [hodd, hm, hc]; rfl
          rw [hO, if_neg (by simp)] at hA
          rw [hA]
          rw [hc] at kS
          clear hO hA hodd hm hc
          go_enter Tryz.func43, Tryz.ntmps43
          go_wp2_with (first
            | (go_at_call 71; refine (kM _).mono ?_; rintro e wM ⟨rfl, hwM⟩; clear a0 a1 a2 a3 a4 a5 a6 a7 a8; have QwM : Hid (NBox wM w.heap.size b) := Q0.out.kept hwM Q0.out.lt; have BwM : Hid (Below w.heap.size w wM) := B0.out.trans (hwM.mono B0.out.size); obtain ⟨a0, a1, a2, a3, a4, a5, a6, a7, a8⟩ := QwM.out.fields)
            | (go_at_call 73; refine (kR _).mono ?_; rintro e wR ⟨rfl, hwR⟩; have BwR : Hid (Below w.heap.size w wR) := BwM.out.trans (hwR.mono BwM.out.size); have kS' := kS.out wR BwR.out)
            | (go_at_call 72; refine kS'.mono ?_; rintro e wS ⟨rfl, hwS⟩))
          go_ret
          exact ⟨rfl, BwR.out.trans (hwS.mono BwR.out.size)⟩
  · have dT : decide ((4096 : Int) < ((b.txt.size : Nat) : Int)) = false := by simp; omega
    clear hT
    rcases Nat.lt_or_ge 4096 b.lb with hL | hL
    · have dL : decide ((4096 : Int) < ((b.lb : Nat) : Int)) = true := by simp; omega
      clear hL
      cases hm : mayB b with
      | false =>
        have hO : t.odd = true := by rw [hodd, hm]; rfl
        rw [hO, if_pos rfl] at hA
        rw [hA]
        rw [hm] at kM
        clear hO hA hodd hm
        go_enter Tryz.func43, Tryz.ntmps43
        go_wp2_with (first
          | (go_at_call 71; refine (kM _).mono ?_; rintro e wM ⟨rfl, hwM⟩; clear a0 a1 a2 a3 a4 a5 a6 a7 a8; have QwM : Hid (NBox wM w.heap.size b) := Q0.out.kept hwM Q0.out.lt; have BwM : Hid (Below w.heap.size w wM) := B0.out.trans (hwM.mono B0.out.size); obtain ⟨a0, a1, a2, a3, a4, a5, a6, a7, a8⟩ := QwM.out.fields))
        go_ret
        exact ⟨rfl, BwM.out⟩
      | true =>
        rw [hm] at kM
        cases hc : t.clean with
        | false =>
          have hO : t.odd = true := by rw [hodd, hm, hc]; rfl
          rw [hO, if_pos rfl] at hA
          rw [hA]
          rw [hc] at kS
          clear hO hA hodd hm hc
          go_enter Tryz.func43, Tryz.ntmps43
          go_wp2_with (first
            | (go_at_call 71; refine (kM _).mono ?_; rintro e wM ⟨rfl, hwM⟩; clear a0 a1 a2 a3 a4 a5 a6 a7 a8; have QwM : Hid (NBox wM w.heap.size b) := Q0.out.kept hwM Q0.out.lt; have BwM : Hid (Below w.heap.size w wM) := B0.out.trans (hwM.mono B0.out.size); obtain ⟨a0, a1, a2, a3, a4, a5, a6, a7, a8⟩ := QwM.out.fields)
            | (go_at_call 73; refine (kR _).mono ?_; rintro e wR ⟨rfl, hwR⟩; have BwR : Hid (Below w.heap.size w wR) := BwM.out.trans (hwR.mono BwM.out.size); have kS' := kS.out wR BwR.out)
            | (go_at_call 72; refine kS'.mono ?_; rintro e wS ⟨rfl, hwS⟩))
          go_ret
          exact ⟨rfl, BwR.out.trans (hwS.mono BwR.out.size)⟩
        | true =>
          have hO : t.odd = false := by rw [hodd, hm, hc]; rfl
          rw [hO, if_neg (by simp)] at hA
          rw [hA]
          rw [hc] at kS
          clear hO hA hodd hm hc
          go_enter Tryz.func43, Tryz.ntmps43
          go_wp2_with (first
            | (go_at_call 71; refine (kM _).mono ?_; rintro e wM ⟨rfl, hwM⟩; clear a0 a1 a2 a3 a4 a5 a6 a7 a8; have QwM : Hid (NBox wM w.heap.size b) := Q0.out.kept hwM Q0.out.lt; have BwM : Hid (Below w.heap.size w wM) := B0.out.trans (hwM.mono B0.out.size); obtain ⟨a0, a1, a2, a3, a4, a5, a6, a7, a8⟩ := QwM.out.fields)
            | (go_at_call 73; refine (kR _).mono ?_; rintro e wR ⟨rfl, hwR⟩; have BwR : Hid (Below w.heap.size w wR) := BwM.out.trans (hwR.mono BwM.out.size); have kS' := kS.out wR BwR.out)
            | (go_at_call 72; refine kS'.mono ?_; rintro e wS ⟨rfl, hwS⟩))
          go_ret
          exact ⟨rfl, BwR.out.trans (hwS.mono BwR.out.size)⟩
    · have dL : decide ((4096 : Int) < ((b.lb : Nat) : Int)) = false := by simp; omega
      clear hL
      cases hm : mayB b with
      | false =>
        have hO : t.odd = true := by rw [hodd, hm]; rfl
        rw [hO, if_pos rfl] at hA
        rw [hA]
        rw [hm] at kM
        clear hO hA hodd hm
        go_enter Tryz.func43, Tryz.ntmps43
        go_wp2_with (first
          | (go_at_call 71; refine (kM _).mono ?_; rintro e wM ⟨rfl, hwM⟩; clear a0 a1 a2 a3 a4 a5 a6 a7 a8; have QwM : Hid (NBox wM w.heap.size b) := Q0.out.kept hwM Q0.out.lt; have BwM : Hid (Below w.heap.size w wM) := B0.out.trans (hwM.mono B0.out.size); obtain ⟨a0, a1, a2, a3, a4, a5, a6, a7, a8⟩ := QwM.out.fields))
        go_ret
        exact ⟨rfl, BwM.out⟩
      | true =>
        rw [hm] at kM
        cases hc : t.clean with
        | false =>
          have hO : t.odd = true := by rw [hodd, hm, hc]; rfl
          rw [hO, if_pos rfl] at hA
          rw [hA]
          rw [hc] at kS
          clear hO hA hodd hm hc
          go_enter Tryz.func43, Tryz.ntmps43
          go_wp2_with (first
            | (go_at_call 71; refine (kM _).mono ?_; rintro e wM ⟨rfl, hwM⟩; clear a0 a1 a2 a3 a4 a5 a6 a7 a8; have QwM : Hid (NBox wM w.heap.size b) := Q0.out.kept hwM Q0.out.lt; have BwM : Hid (Below w.heap.size w wM) := B0.out.trans (hwM.mono B0.out.size); obtain ⟨a0, a1, a2, a3, a4, a5, a6, a7, a8⟩ := QwM.out.fields)
            | (go_at_call 73; refine (kR _).mono ?_; rintro e wR ⟨rfl, hwR⟩; have BwR : Hid (Below w.heap.size w wR) := BwM.out.trans (hwR.mono BwM.out.size); have kS' := kS.out wR BwR.out)
            | (go_at_call 72; refine kS'.mono ?_; rintro e wS ⟨rfl, hwS⟩))
          go_ret
          exact ⟨rfl, BwR.out.trans (hwS.mono BwR.out.size)⟩
        | true =>
          have hO : t.odd = false := by rw [hodd, hm, hc]; rfl
          rw [hO, if_neg (by simp)] at hA
          rw [hA]
          rw [hc] at kS
          clear hO hA hodd hm hc
          go_enter Tryz.func43, Tryz.ntmps43
          go_wp2_with (first
            | (go_at_call 71; refine (kM _).mono ?_; rintro e wM ⟨rfl, hwM⟩; clear a0 a1 a2 a3 a4 a5 a6 a7 a8; have QwM : Hid (NBox wM w.heap.size b) := Q0.out.kept hwM Q0.out.lt; have BwM : Hid (Below w.heap.size w wM) := B0.out.trans (hwM.mono B0.out.size); obtain ⟨a0, a1, a2, a3, a4, a5, a6, a7, a8⟩ := QwM.out.fields)
            | (go_at_call 73; refine (kR _).mono ?_; rintro e wR ⟨rfl, hwR⟩; have BwR : Hid (Below w.heap.size w wR) := BwM.out.trans (hwR.mono BwM.out.size); have kS' := kS.out wR BwR.out)
            | (go_at_call 72; refine kS'.mono ?_; rintro e wS ⟨rfl, hwS⟩))
          go_ret
          exact ⟨rfl, BwR.out.trans (hwS.mono BwR.out.size)⟩
end Go.Proofs.YtelabgonpmafpaaGreatDoor
namespace Go.Proofs.YtelabgonpmafpaaGreatDoor
open Go.RowKit
set_option linter.unusedVariables false

theorem RowN.take {Q : Nb → Tr → Prop} {w : World} {a : Option Addr} {len cap : Nat} {l : List Tr} (h : RowN Q w a len cap l) {i : Nat} (hi : i ≤ len) : RowN Q w a i cap (l.take i) := by
  obtain ⟨h0, h1, h2⟩ := h
  refine ⟨by rw [List.length_take]; omega, ⟨Nat.le_trans hi h1.1, h1.2.1, h1.2.2.1, Nat.le_trans (Nat.mul_le_mul_right _ hi) h1.2.2.2⟩, ?_⟩
  rcases h2 with rfl | ⟨b, off, ha, hc⟩
  · exact .inl (by simp)
  · refine .inr ⟨b, off, ha, fun j hj => ?_⟩
    have hj' : j < l.length := by rw [List.length_take] at hj; omega
    obtain ⟨nb, hn, hQ⟩ := hc j hj'
    exact ⟨nb, hn, by rw [List.getElem_take]; exact hQ⟩

set_option maxHeartbeats 1000000 in
/-- The closure: is a node the key in the box gk? -/
theorem twcc_any {D : Nat} (gk : Nat) (kb nb : Nb) (u x : Tr) (w : World) (hk : NBox w gk kb) (hu : Nd D w kb u) (hx : Nd D w nb x) (v : Bool) (hv : v = true ↔ x = u) :
    Calls Tryz.prog 75 (#[.agg nb.arr] ++ #[.pointer (some ⟨gk, 0, none⟩)]) w fun e w' => e = .returned (.bool v) ∧ Below w.heap.size w w' := by
  show Calls Tryz.prog 75 #[.agg nb.arr, .pointer (some ⟨gk, 0, none⟩)] w _
  have hal := alloc_below w (.cells nb.arr 26)
  have ks := sam_any (hx.kept hal) (hu.kept hal) hv
  obtain ⟨a0, a1, a2, a3, a4, a5, a6, a7, a8⟩ := (nbox_new w nb).fields
  obtain ⟨b0, b1, b2, b3, b4, b5, b6, b7, b8⟩ := (hk.kept hal hk.lt).fields
  have hB : Hid (Below w.heap.size w (w.alloc (.cells nb.arr 26))) := hal
  clear hal hk hu hx hv
  go_enter Tryz.func75, Tryz.ntmps75
  go_wp2_with (go_at_call 72; refine ks.mono ?_; rintro e w1 ⟨rfl, hb⟩)
  go_ret
  exact ⟨rfl, hB.out.trans (hb.mono hB.out.size)⟩

set_option maxHeartbeats 4000000 in
set_option maxRecDepth 100000 in
theorem indf_any {D : Nat} (a : Option Addr) (n c : Nat) (l : List Tr) (gk : Nat) (kb : Nb) (u : Tr) (w : World) (hk : NBox w gk kb) (hu : Nd D w kb u) (hl : RowN (Nd D w) w a n c l) :
    Calls Tryz.prog 112 #[.slice a n c, .func (.func 75) #[] #[.pointer (some ⟨gk, 0, none⟩)]] w fun e w' => (∃ r : Int, e = .returned (.int .i64 r) ∧ (0 ≤ r ↔ u ∈ l)) ∧ Below w.heap.size w w' := by
  have e49 : ∀ args w, (callFunc 75 args).run Tryz.prog w = .ok (.enter 75 args) w := enters_of Tryz.func75 (by kernel_rfl) rfl
  have hx : Hid (l.length = n) := hl.1
  have mk := hl.2.1.1
  have mk' := hl.2.1.2.1
  unfold maxLen at mk'
  have hA : Hid (RowN (Nd D w) w a n c l) := hl
  have hK : Hid (NBox w gk kb ∧ Nd D w kb u) := ⟨hk, hu⟩
  clear hl hk hu
  go_enter Tryz.func112, Tryz.ntmps112
  go_wp2
  go_loopw [5, 8] (fun _ s8 wr => ∃ (i : Nat), i ≤ n ∧ s8 = .int .i64 i ∧ Hid (Below w.heap.size w wr) ∧ Hid (u ∉ l.take i)) (fun _ i _ => n - (intOf i).toNat)
  case atStart => exact ⟨0, Nat.zero_le _, rfl, Below.refl _ _, by show ¬ _; simp⟩
  case round =>
    obtain ⟨i, him, rfl, hbl, hT⟩ := hrel
    by_cases hlt : i < n
    · have hz : (i : Int) < (n : Int) := by omega
      have hix : i < l.length := by rw [hx.out]; exact hlt
      obtain ⟨bk, ok, nk, rfl, hck, hNk, hbk⟩ := row_el hA.out hbl.out hix
      obtain ⟨f0, f1, f2, f3, f4, f5, f6, f7, f8⟩ := elem_fields hck
      have kk := fun (v : Bool) (h : v = true ↔ l[i] = u) => twcc_any gk kb nk u l[i] wr (hK.out.1.kept hbl.out hK.out.1.lt) (hK.out.2.kept hbl.out) hNk v h
      have wi : IntKind.i64.wrap ((i : Int) + 1) = (i : Int) + 1 := by rw [IntKind.wrap_i64]; omega
      by_cases hE : l[i] = u
      · have k1 := kk true (by simp [hE])
        have hm : Hid (u ∈ l) := by show u ∈ l; rw [← hE]; exact List.getElem_mem hix
        clear hck hNk kk hE hbk
        go_wp2_with (go_at_fn 75; refine k1.mono ?_; rintro e w1 ⟨rfl, hb1⟩)
        go_ret
        exact ⟨⟨_, rfl, by simp [hm.out]⟩, hbl.out.trans (hb1.mono hbl.out.size)⟩
      · have k1 := kk false (by simp [hE])
        have hT' : Hid (u ∉ l.take (i + 1)) := by
          show ¬ _
          rw [List.take_succ_eq_append_getElem hix, List.mem_append]
          rintro (h | h)
          · exact hT.out h
          · exact hE (List.mem_singleton.1 h).symm
        clear hck hNk kk hE hbk
        go_wp2_with (go_at_fn 75; refine k1.mono ?_; rintro e w1 ⟨rfl, hb1⟩)
        go_roundw
        case rel => exact ⟨i + 1, by omega, by go_num, hbl.out.trans (hb1.mono hbl.out.size), hT'⟩
        case measure => simp [intOf]; omega
    · have hz : ¬ (i : Int) < (n : Int) := by omega
      have hm : Hid (u ∉ l) := by
        show ¬ _
        have := hT.out
        rwa [List.take_of_length_le (by rw [hx.out]; omega)] at this
      go_wp2
      go_ret
      exact ⟨⟨-1, rfl, by simp [hm.out]⟩, hbl.out⟩

set_option maxHeartbeats 1000000 in
theorem contf_any {D : Nat} (a : Option Addr) (n c : Nat) (l : List Tr) (gk : Nat) (kb : Nb) (u : Tr) (w : World) (hk : NBox w gk kb) (hu : Nd D w kb u) (hl : RowN (Nd D w) w a n c l) (v : Bool) (hv : v = true ↔ u ∈ l) :
    Calls Tryz.prog 74 #[.slice a n c, .func (.func 75) #[] #[.pointer (some ⟨gk, 0, none⟩)]] w fun e w' => e = .returned (.bool v) ∧ Below w.heap.size w w' := by
  have ki := indf_any a n c l gk kb u w hk hu hl
  have hd : Hid (∀ r : Int, (0 ≤ r ↔ u ∈ l) → decide (0 ≤ r) = v) := fun r hr => by rw [Bool.eq_iff_iff, hv, decide_eq_true_iff]; exact hr
  clear hk hu hl hv
  go_enter Tryz.func74, Tryz.ntmps74
  go_wp2_with (go_at_call 112; refine ki.mono ?_; rintro e w1 ⟨⟨r, rfl, hr⟩, hb⟩; have hd' := hd.out r hr; clear hr hd)
  go_ret
  exact ⟨rfl, hb⟩

set_option maxHeartbeats 4000000 in
set_option maxRecDepth 100000 in
/-- tree.twice. -/
theorem gtwice_any {D : Nat} (a : Option Addr) (n c : Nat) (l : List Tr) (w : World) (hl : RowN (Nd D w) w a n c l) (v : Bool) (hv : v = true ↔ ¬ l.Nodup) :
    Calls Tryz.prog 45 #[.slice a n c] w fun e w' => e = .returned (.bool v) ∧ Below w.heap.size w w' := by
  have hx : Hid (l.length = n) := hl.1
  have mk := hl.2.1.1
  have mk' := hl.2.1.2.1
  unfold maxLen at mk'
  have hA : Hid (RowN (Nd D w) w a n c l) := hl
  have hV : Hid (v = true ↔ ¬ l.Nodup) := hv
  clear hl hv
  go_enter Tryz.func45, Tryz.ntmps45
  go_wp2
  go_loopw [3, 4, 7] (fun _ _ s7 wr => ∃ (i : Nat), i ≤ n ∧ s7 = .int .i64 i ∧ Hid (Below w.heap.size w wr) ∧ Hid ((l.take i).Nodup)) (fun _ _ i _ => n - (intOf i).toNat)
  case atStart => exact ⟨0, Nat.zero_le _, rfl, Below.refl _ _, by show List.Nodup _; simp⟩
  case round =>
    obtain ⟨i, him, rfl, hbl, hT⟩ := hrel
    by_cases hlt : i < n
    · have hz : (i : Int) < (n : Int) := by omega
      have hix : i < l.length := by rw [hx.out]; exact hlt
      obtain ⟨bk, ok, nk, rfl, hck, hNk, hbk⟩ := row_el hA.out hbl.out hix
      obtain ⟨f0, f1, f2, f3, f4, f5, f6, f7, f8⟩ := elem_fields hck
      have hal := alloc_below wr (.cells nk.arr 26)
      have hB : Hid (Below w.heap.size w (wr.alloc (.cells nk.arr 26))) := hbl.out.trans (hal.mono hbl.out.size)
      have kk := fun (v : Bool) (h : v = true ↔ l[i] ∈ l.take i) => contf_any (some ⟨bk, ok, none⟩) i c (l.take i) wr.heap.size nk l[i] (wr.alloc (.cells nk.arr 26)) (nbox_new wr nk) (hNk.kept hal) ((hA.out.kept (R := Nd D (wr.alloc (.cells nk.arr 26))) hB.out fun _ _ _ q => q.kept hB.out).take him) v h
      have wi : IntKind.i64.wrap ((i : Int) + 1) = (i : Int) + 1 := by rw [IntKind.wrap_i64]; omega
      have hic : i ≤ c := by omega
      by_cases hE : l[i] ∈ l.take i
      · have k1 := kk true (by simp [hE])
        have hv : v = true := hV.out.2 (fun hn => by
          have h1 : (l.take (i + 1)).Nodup := hn.sublist (List.take_sublist _ _)
          rw [List.take_succ_eq_append_getElem hix] at h1
          exact (List.nodup_append.1 h1).2.2 _ hE _ (List.mem_singleton.2 rfl) rfl)
        subst hv
        clear hck hNk kk hE hbk hal
        go_wp2_with (go_at_call 74; refine k1.mono ?_; rintro e w1 ⟨rfl, hb1⟩)
        go_ret
        exact ⟨rfl, hB.out.trans (hb1.mono hB.out.size)⟩
      · have k1 := kk false (by simp [hE])
        have hT' : Hid ((l.take (i + 1)).Nodup) := by
          show List.Nodup _
          rw [List.take_succ_eq_append_getElem hix]
          refine List.nodup_append.2 ⟨hT.out, by simp, fun x hx' y hy he => ?_⟩
          rw [List.mem_singleton] at hy
          subst hy he
          exact hE hx'
        clear hck hNk kk hE hbk hal
        go_wp2_with (go_at_call 74; refine k1.mono ?_; rintro e w1 ⟨rfl, hb1⟩)
        go_roundw
        case rel => exact ⟨i + 1, by omega, by go_num, hB.out.trans (hb1.mono hB.out.size), hT'⟩
        case measure => simp [intOf]; omega
    · have hz : ¬ (i : Int) < (n : Int) := by omega
      have hv : v = false := not_true hV.out (fun h => h (by
        have := hT.out
        rwa [List.take_of_length_le (by rw [hx.out]; omega)] at this))
      subst hv
      go_wp2
      go_ret
      exact ⟨rfl, hbl.out⟩
end Go.Proofs.YtelabgonpmafpaaGreatDoor
namespace Go.Proofs.YtelabgonpmafpaaGreatDoor
open Go.RowKit
set_option linter.unusedVariables false

/-- tree.fault. -/
theorem fault_any {D : Nat} {t : Tr} {b : Nb} {w : World} (hN : Nd D w b t) : Calls Tryz.prog 43 #[.agg b.arr] w fun e w' => e = .returned (.int .i64 (alF t)) ∧ Below w.heap.size w w' := by
  cases D with
  | zero => exact absurd hN id
  | succ D =>
    by_cases h2 : b.kind = 2
    · exact fault_k2 hN h2
    by_cases h3 : b.kind = 3
    · exact fault_k3 hN h3
    by_cases h5 : b.kind = 5
    · exact fault_k5 hN h5
    by_cases h6 : b.kind = 6
    · exact fault_k6 hN h6
    exact fault_ko hN h2 h3 h5 h6

/-- A fault's number in a box. -/
def IC (B gw : Nat) (s : Int) (w : World) : Prop := w.heap[gw]? = some (.cells #[.int .i64 s] 27 (0, 0)) ∧ B ≤ w.heap.size
set_option maxHeartbeats 2000000 in
theorem chkc_any (B gw : Nat) (hB : B ≤ gw) (s : Int) (w : World) (b : Nb) (t : Tr) (d D : Nat) (hI : IC B gw s w) (hN : NdS (· < B) D w b t) :
    Calls Tryz.prog 42 (#[.agg b.arr, .int .i64 d] ++ #[.pointer (some ⟨gw, 0, none⟩)]) w fun e w' => e = .returned (.bool (Tr.flt alF t d s).1) ∧ IC B gw (Tr.flt alF t d s).2 w' ∧ Kp (fun k => k = gw) w w' := by
  show Calls Tryz.prog 42 #[.agg b.arr, .int .i64 d, .pointer (some ⟨gw, 0, none⟩)] w _
  have hal := alloc_below w (.cells b.arr 26)
  obtain ⟨a0, a1, a2, a3, a4, a5, a6, a7, a8⟩ := (nbox_new w b).fields
  have kF := fault_any (hN.nd.kept hal)
  have hI' : Hid (IC B gw s w) := hI
  have hal' : Hid (Below w.heap.size w (w.alloc (.cells b.arr 26))) := hal
  have hlt : Hid (gw < w.heap.size) := block_lt hI.1
  have hR1 : Hid ((Tr.flt alF t d s).1 = decide (alF t = 0)) := rfl
  have hR2 : Hid ((Tr.flt alF t d s).2 = alF t) := rfl
  generalize (Tr.flt alF t d s).1 = R1 at *
  generalize (Tr.flt alF t d s).2 = R2 at *
  generalize alF t = A at *
  clear hal hI hN
  by_cases hz : A = 0
  · subst hz
    obtain rfl : R1 = true := by rw [hR1.out]; rfl
    obtain rfl : R2 = 0 := hR2.out
    go_enter Tryz.func42, Tryz.ntmps42
    go_wp2_with (go_at_call 43; refine kF.mono ?_; rintro e w2 ⟨rfl, hb2⟩; have H2 := (hb2.block gw (Nat.lt_of_lt_of_le hlt.out hal'.out.size)).trans ((hal'.out.block gw hlt.out).trans hI'.out.1); have c2 := cell_of_one H2; have z2 := free_of_one H2; have H3 := one_setCell (u := .int .i64 0) H2; have c3 := cell_of_one H3; have hbw := hal'.out.trans (hb2.mono hal'.out.size))
    go_ret
    exact ⟨rfl, ⟨H3, Nat.le_trans hI'.out.2 (Nat.le_trans hbw.size (by simp [World.setCell]))⟩, (Kp.of hbw).trans (kp_set (C := fun k => k = gw) rfl _)⟩
  · obtain rfl : R1 = false := by rw [hR1.out]; exact decide_eq_false hz
    have hz' : (A == 0) = false := by simp [hz]
    obtain rfl : R2 = A := hR2.out
    clear hz
    go_enter Tryz.func42, Tryz.ntmps42
    go_wp2_with (go_at_call 43; refine kF.mono ?_; rintro e w2 ⟨rfl, hb2⟩; have H2 := (hb2.block gw (Nat.lt_of_lt_of_le hlt.out hal'.out.size)).trans ((hal'.out.block gw hlt.out).trans hI'.out.1); have c2 := cell_of_one H2; have z2 := free_of_one H2; have H3 := one_setCell (u := .int .i64 R2) H2; have c3 := cell_of_one H3; have hbw := hal'.out.trans (hb2.mono hal'.out.size))
    go_ret
    exact ⟨rfl, ⟨H3, Nat.le_trans hI'.out.2 (Nat.le_trans hbw.size (by simp [World.setCell]))⟩, (Kp.of hbw).trans (kp_set (C := fun k => k = gw) rfl _)⟩
theorem takes_flt {B gw : Nat} (hB : B ≤ gw) : Takes 42 #[.pointer (some ⟨gw, 0, none⟩)] Int (Tr.flt alF) (IC B gw) (fun _ d t => d + t.deep ≤ 100) (fun k => k = gw) B where
  call := fun s w b t d D hI hJ hN => chkc_any B gw hB s w b t d D hI hN
  enter := enters_of Tryz.func42 (by kernel_rfl) rfl
  keeps := fun s w w' hI hb => ⟨(hb.block gw (block_lt hI.1)).trans hI.1, Nat.le_trans hI.2 hb.size⟩
  room := fun s w hI => ⟨hI.2, fun k hk => by subst hk; exact ⟨hB, block_lt hI.1⟩⟩
  first := fun s d t u hJ hu _ => by
    have : u.deep < t.deep := by
      rcases hu with hu | hu
      · exact Tr.key_deep hu
      · exact Tr.kid_deep hu
    exact ⟨by omega, by omega⟩
  more := fun s d u t' d' hJ _ => hJ
set_option maxHeartbeats 2000000 in
theorem chkd_any (p : Tr → Bool) (hp : ∀ t : Tr, p t = true ↔ t.keys.Nodup) (B : Nat) (w : World) (b : Nb) (t : Tr) (d D : Nat) (hN : NdS (· < B) D w b t) :
    Calls Tryz.prog 44 (#[.agg b.arr, .int .i64 d] ++ #[]) w fun e w' => e = .returned (.bool (p t)) ∧ Below w.heap.size w w' := by
  show Calls Tryz.prog 44 #[.agg b.arr, .int .i64 d] w _
  cases D with
  | zero => exact absurd hN id
  | succ D =>
    have hal := alloc_below w (.cells b.arr 26)
    obtain ⟨a0, a1, a2, a3, a4, a5, a6, a7, a8⟩ := (nbox_new w b).fields
    have kT := gtwice_any b.ak b.lk b.ck t.keys (w.alloc (.cells b.arr 26)) ((hN.nd.kept hal).2.2.2.1) (!p t) (by rw [← hp t]; simp)
    have hal' : Hid (Below w.heap.size w (w.alloc (.cells b.arr 26))) := hal
    generalize p t = v at *
    clear hal hN hp
    cases v with
    | false =>
      go_enter Tryz.func44, Tryz.ntmps44
      go_wp2_with (go_at_call 45; refine kT.mono ?_; rintro e w2 ⟨rfl, hb2⟩)
      go_ret
      exact ⟨rfl, hal'.out.trans (hb2.mono hal'.out.size)⟩
    | true =>
      go_enter Tryz.func44, Tryz.ntmps44
      go_wp2_with (go_at_call 45; refine kT.mono ?_; rintro e w2 ⟨rfl, hb2⟩)
      go_ret
      exact ⟨rfl, hal'.out.trans (hb2.mono hal'.out.size)⟩
theorem takes_twc (p : Tr → Bool) (hp : ∀ t : Tr, p t = true ↔ t.keys.Nodup) (B : Nat) : Takes 44 #[] Unit (Tr.twc p) (fun _ w => B ≤ w.heap.size) (fun _ d t => d + t.deep ≤ 100) (fun _ => False) B where
  call := fun s w b t d D hI hJ hN => (chkd_any p hp B w b t d D hN).mono fun e w' ⟨h1, h2⟩ => ⟨h1, Nat.le_trans hI h2.size, Kp.of h2⟩
  enter := enters_of Tryz.func44 (by kernel_rfl) rfl
  keeps := fun s w w' hI hb => Nat.le_trans hI hb.size
  room := fun s w hI => ⟨hI, fun k hk => hk.elim⟩
  first := fun s d t u hJ hu _ => by
    have : u.deep < t.deep := by
      rcases hu with hu | hu
      · exact Tr.key_deep hu
      · exact Tr.kid_deep hu
    exact ⟨by omega, by omega⟩
  more := fun s d u t' d' hJ _ => hJ

set_option maxHeartbeats 4000000 in
set_option maxRecDepth 100000 in
/-- tree.Check. -/
theorem gcheck_any {D : Nat} {t : Tr} {b : Nb} {w : World} (hN : Nd D w b t) : Calls Tryz.prog 25 #[.agg b.arr] w fun e w' => (∃ er, e = .returned (.int .i64 er) ∧ Tr.ChkIs alF t er) ∧ Below w.heap.size w w' := by
  have hal := alloc_below w (.cells b.arr 26)
  have Q0 : Hid (NBox (w.alloc (.cells b.arr 26)) w.heap.size b) := nbox_new w b
  have B0 : Hid (Below w.heap.size w (w.alloc (.cells b.arr 26))) := hal
  obtain ⟨a0, a1, a2, a3, a4, a5, a6, a7, a8⟩ := (nbox_new w b).fields
  have kM := meas_any (hN.kept hal)
  have hN' : Hid (Nd D w b t) := hN
  clear hal hN
  by_cases hs : t.size ≤ 1024
  · have hm : t.mes = (t.size, t.deep) := if_pos hs
    rw [hm] at kM
    have hs1 : decide ((1024 : Int) < ((t.size : Nat) : Int)) = false := by simp; omega
    have hs' : Hid (t.size ≤ 1024) := hs
    clear hm hs
    by_cases hd : t.deep ≤ 24
    · have hd1 : decide ((24 : Int) < ((t.deep : Nat) : Int)) = false := by simp; omega
      have hd' : Hid (t.deep ≤ 24) := hd
      clear hd
      obtain ⟨p, hp⟩ : ∃ p : Tr → Bool, ∀ t : Tr, p t = true ↔ t.keys.Nodup := ⟨fun t => @decide t.keys.Nodup (Classical.propDecidable _), fun t => by simp⟩
      have kE : Hid (∀ w2, Below w.heap.size w w2 → Calls Tryz.prog 41 #[.agg b.arr, .int .i64 1, .func (.func 42) #[] #[.pointer (some ⟨w2.heap.size, 0, none⟩)]] (w2.alloc (.cells #[.int .i64 0] 27)) fun e w' => e = .returned (.bool (Tr.go (Tr.flt alF) (t.seq 1) 0).1) ∧ w'.heap[w2.heap.size]? = some (.cells #[.int .i64 (t.forms alF)] 27 (0, 0)) ∧ Below w2.heap.size (w2.alloc (.cells #[.int .i64 0] 27)) w') := fun w2 hb => by
        have hb2 := alloc_below w2 (.cells #[.int .i64 0] 27)
        have h := each_any (takes_flt (B := w2.heap.size) (gw := w2.heap.size) (Nat.le_refl _)) D t 1 b 0 (w2.alloc (.cells #[.int .i64 0] 27)) ((hN'.out.kept hb).all.below hb2 fun k hk => hk) ⟨heap_alloc_new w2 _, hb2.size⟩ (by have := hd'.out; omega)
        refine h.mono fun e w' ⟨h1, h2, h3⟩ => ⟨h1, ?_, h3.below hb2.size (fun k hk => Nat.le_of_eq hk.symm)⟩
        rw [Tr.flt_all alF_shaped] at h2
        exact h2.1
      have kT : Hid (∀ w2, Below w.heap.size w w2 → Calls Tryz.prog 41 #[.agg b.arr, .int .i64 1, .func (.func 44) #[] #[]] w2 fun e w' => e = .returned (.bool (Tr.go (Tr.twc p) (t.seq 1) ()).1) ∧ Below w2.heap.size w2 w') := fun w2 hb => by
        have h := each_any (takes_twc p hp w2.heap.size) D t 1 b () w2 (hN'.out.kept hb).all (Nat.le_refl _) (by have := hd'.out; omega)
        exact h.mono fun e w' ⟨h1, h2, h3⟩ => ⟨h1, h3.none⟩
      have hT : Hid ((Tr.go (Tr.twc p) (t.seq 1) ()).1 = true ↔ t.All (fun u => u.keys.Nodup)) := by
        show _ ↔ _
        rw [Tr.twc_all]
        have : (fun u : Tr => p u = true) = fun u => u.keys.Nodup := funext fun u => propext (hp u)
        rw [this]
      generalize (Tr.go (Tr.flt alF) (t.seq 1) 0).1 = R0 at *
      generalize (Tr.go (Tr.twc p) (t.seq 1) ()).1 = R1 at *
      have hF : Hid (∃ A, t.forms alF = A) := ⟨_, rfl⟩
      obtain ⟨A, hA⟩ := hF.out
      rw [hA] at kE
      have hA' : Hid (t.forms alF = A) := hA
      clear hF hA hp
      generalize t.size = S at kM hs1
      generalize t.deep = E at kM hd1
      by_cases hz : A = 0
      · subst hz
        cases R1 with
        | true =>
          go_enter Tryz.func25, Tryz.ntmps25
          go_wp2_with (first
            | (go_at_call 40; refine kM.mono ?_; rintro e w2 ⟨rfl, hb2⟩; clear a0 a1 a2 a3 a4 a5 a6 a7 a8; have Q2 := Q0.out.kept hb2 Q0.out.lt; have Q3 := Q2.kept (alloc_below w2 (.cells #[.int .i64 0] 27)) Q2.lt; obtain ⟨a0, a1, a2, a3, a4, a5, a6, a7, a8⟩ := Q3.fields; have B2 := B0.out.trans (hb2.mono B0.out.size); have k2 := kE.out w2 B2)
            | (go_at_call 41; refine k2.mono ?_; rintro e w4 ⟨rfl, hw4, hb4⟩; clear k2 a0 a1 a2 a3 a4 a5 a6 a7 a8; have c4 := cell_of_one hw4; have Q4 := Q3.kept hb4 Q2.lt; obtain ⟨a0, a1, a2, a3, a4, a5, a6, a7, a8⟩ := Q4.fields; have B4 := B2.trans (((alloc_below w2 (.cells #[.int .i64 0] 27)).trans hb4).mono B2.size); have k3 := kT.out w4 B4)
            | (go_at_call 41; refine k3.mono ?_; rintro e w5 ⟨rfl, hb5⟩))
          go_ret
          exact ⟨⟨0, rfl, .inr (.inr (.inr (.inr ⟨hs'.out, hd'.out, hA'.out, (by simpa using hT.out), rfl⟩)))⟩, B4.trans (hb5.mono B4.size)⟩
        | false =>
          go_enter Tryz.func25, Tryz.ntmps25
          go_wp2_with (first
            | (go_at_call 40; refine kM.mono ?_; rintro e w2 ⟨rfl, hb2⟩; clear a0 a1 a2 a3 a4 a5 a6 a7 a8; have Q2 := Q0.out.kept hb2 Q0.out.lt; have Q3 := Q2.kept (alloc_below w2 (.cells #[.int .i64 0] 27)) Q2.lt; obtain ⟨a0, a1, a2, a3, a4, a5, a6, a7, a8⟩ := Q3.fields; have B2 := B0.out.trans (hb2.mono B0.out.size); have k2 := kE.out w2 B2)
            | (go_at_call 41; refine k2.mono ?_; rintro e w4 ⟨rfl, hw4, hb4⟩; clear k2 a0 a1 a2 a3 a4 a5 a6 a7 a8; have c4 := cell_of_one hw4; have Q4 := Q3.kept hb4 Q2.lt; obtain ⟨a0, a1, a2, a3, a4, a5, a6, a7, a8⟩ := Q4.fields; have B4 := B2.trans (((alloc_below w2 (.cells #[.int .i64 0] 27)).trans hb4).mono B2.size); have k3 := kT.out w4 B4)
            | (go_at_call 41; refine k3.mono ?_; rintro e w5 ⟨rfl, hb5⟩))
          go_ret
          exact ⟨⟨9, rfl, .inr (.inr (.inr (.inl ⟨hs'.out, hd'.out, hA'.out, (by simpa using hT.out), rfl⟩)))⟩, B4.trans (hb5.mono B4.size)⟩
      · have hz1 : (A != 0) = true := by simp [hz]
        have hz2 : (A == 0) = false := by simp [hz]
        have hz' : Hid (A ≠ 0) := hz
        clear hz
        go_enter Tryz.func25, Tryz.ntmps25
        go_wp2_with (first
          | (go_at_call 40; refine kM.mono ?_; rintro e w2 ⟨rfl, hb2⟩; clear a0 a1 a2 a3 a4 a5 a6 a7 a8; have Q2 := Q0.out.kept hb2 Q0.out.lt; have Q3 := Q2.kept (alloc_below w2 (.cells #[.int .i64 0] 27)) Q2.lt; obtain ⟨a0, a1, a2, a3, a4, a5, a6, a7, a8⟩ := Q3.fields; have B2 := B0.out.trans (hb2.mono B0.out.size); have k2 := kE.out w2 B2)
          | (go_at_call 41; refine k2.mono ?_; rintro e w4 ⟨rfl, hw4, hb4⟩; clear k2 a0 a1 a2 a3 a4 a5 a6 a7 a8; have c4 := cell_of_one hw4; have B4 := B2.trans (((alloc_below w2 (.cells #[.int .i64 0] 27)).trans hb4).mono B2.size)))
        go_ret
        exact ⟨⟨A, rfl, .inr (.inr (.inl ⟨hs'.out, hd'.out, by rw [hA'.out]; exact hz'.out, hA'.out.symm⟩))⟩, B4⟩
    · have hd1 : decide ((24 : Int) < ((t.deep : Nat) : Int)) = true := by simp; omega
      have hd' : Hid (24 < t.deep) := by show _ < _; omega
      clear hd
      generalize t.size = S at kM hs1
      generalize t.deep = E at kM hd1
      go_enter Tryz.func25, Tryz.ntmps25
      go_wp2_with (go_at_call 40; refine kM.mono ?_; rintro e w2 ⟨rfl, hb2⟩)
      go_ret
      exact ⟨⟨7, rfl, .inr (.inl ⟨hs'.out, hd'.out, rfl⟩)⟩, B0.out.trans (hb2.mono B0.out.size)⟩
  · have hm : t.mes = (1025, 1025) := if_neg hs
    rw [hm] at kM
    have hs' : Hid (1024 < t.size) := by show _ < _; omega
    clear hm hs
    go_enter Tryz.func25, Tryz.ntmps25
    go_wp2_with (go_at_call 40; refine kM.mono ?_; rintro e w2 ⟨rfl, hb2⟩)
    go_ret
    exact ⟨⟨8, rfl, .inl ⟨hs'.out, rfl⟩⟩, B0.out.trans (hb2.mono B0.out.size)⟩
end Go.Proofs.YtelabgonpmafpaaGreatDoor
namespace Go.Proofs.YtelabgonpmafpaaGreatDoor
open Go.RowKit
set_option linter.unusedVariables false

theorem escAll_len (l : List Nat) : (escAll l).length ≤ 6 * l.length := by
  induction l with
  | nil => simp [escAll]
  | cons r l ih => rw [escAll_cons, List.length_append, List.length_cons]; have := escR_len r; omega
theorem escA_len (b : List Int) : (escA b).length ≤ 6 * b.length + 2 := by
  by_cases hn : (runesL b).2 = none
  · have e : escA b = [34] ++ escAll (runesL b).1 ++ [34] := by unfold escA; rw [if_pos hn]
    rw [e]
    have := escAll_len (runesL b).1
    have := runes_many b
    simp
    omega
  · have e : escA b = [] := by unfold escA; rw [if_neg hn]
    rw [e]; simp
end Go.Proofs.YtelabgonpmafpaaGreatDoor
namespace Go.Proofs.YtelabgonpmafpaaGreatDoor
open Go.RowKit
set_option linter.unusedVariables false
/-- Parts one behind the other; it ends with the part that makes them too long. -/
def jn : List ByteArray → List Int → List Int
  | [], acc => acc
  | x :: l, acc => if 4096 < acc.length then acc else jn l (acc ++ bs x)
def jnB (l : List ByteArray) : ByteArray := strOfNums (jn l [])
theorem jn_stop {acc : List Int} (l : List ByteArray) (h : 4096 < acc.length) : jn l acc = acc := by
  cases l with
  | nil => rfl
  | cons x l => rw [jn, if_pos h]
theorem jn_on {acc : List Int} (x : ByteArray) (l : List ByteArray) (h : acc.length ≤ 4096) : jn (x :: l) acc = jn l (acc ++ bs x) := by rw [jn, if_neg (by omega)]
theorem jn_len (l : List ByteArray) (M : Nat) (hM : ∀ x ∈ l, x.size ≤ M) : ∀ acc, (jn l acc).length ≤ max acc.length (4096 + M) := by
  induction l with
  | nil => intro acc; rw [jn]; omega
  | cons x l ih =>
    intro acc
    rw [jn]
    split
    · omega
    · have h1 := ih (fun y hy => hM y (List.mem_cons_of_mem _ hy)) (acc ++ bs x)
      have h2 := hM x List.mem_cons_self
      rw [List.length_append, bs_len] at h1
      omega
/-- Texts with commas between. -/
def rowP : List ByteArray → List ByteArray
  | [] => []
  | x :: l => x :: (l.map fun y => [⟨#[44]⟩, y]).flatten
def optAll : List (Option ByteArray) → Option (List ByteArray)
  | [] => some []
  | none :: _ => none
  | some x :: l => (optAll l).map (x :: ·)
def sNull : ByteArray := ⟨#[110, 117, 108, 108]⟩
def sTrue : ByteArray := ⟨#[116, 114, 117, 101]⟩
def sFalse : ByteArray := ⟨#[102, 97, 108, 115, 101]⟩
def sign (n : Bool) : ByteArray := if n = true then ⟨#[45]⟩ else ⟨#[]⟩
def memF (f : Tr → Option ByteArray) (k u : Tr) : Option ByteArray := if k.kind = 5 then (f u).map fun x => jnB [strOfNums (escA (bs k.txt)), ⟨#[58]⟩, x] else none
/-- A TREE's TEXT; none, where it has none. -/
def txT : Nat → Tr → Option ByteArray
  | 0, _ => none
  | d + 1, t =>
    if t.kind = 0 then some sNull
    else if t.kind = 1 then some (if t.num = 1 then sTrue else sFalse)
    else if t.kind = 2 then some (jnB [sign t.neg, t.dig])
    else if t.kind = 3 then some (textA t.neg t.dig t.exp)
    else if t.kind = 5 then some (strOfNums (escA (bs t.txt)))
    else if t.kind = 7 then (optAll (t.kids.map (txT d))).map fun l => jnB [⟨#[91]⟩, jnB (rowP l), ⟨#[93]⟩]
    else if t.kind = 8 then (optAll (List.zipWith (memF (txT d)) t.keys t.kids)).map fun l => jnB [⟨#[123]⟩, jnB (rowP l), ⟨#[125]⟩]
    else none
theorem opt_mem {l : List (Option ByteArray)} {m : List ByteArray} (h : optAll l = some m) : l = m.map some := by
  induction l generalizing m with
  | nil => cases h; rfl
  | cons x l ih =>
    cases x with
    | none => cases h
    | some x =>
      rw [optAll] at h
      cases ho : optAll l with
      | none => rw [ho] at h; cases h
      | some n => rw [ho] at h; cases h; rw [ih ho]; rfl
theorem opt_some (m : List ByteArray) : optAll (m.map some) = some m := by
  induction m with
  | nil => rfl
  | cons x m ih => rw [List.map_cons, optAll, ih]; rfl
theorem opt_none {l : List (Option ByteArray)} (i : Nat) (h : l[i]? = some none) : optAll l = none := by
  cases ho : optAll l with
  | none => rfl
  | some m =>
    rw [opt_mem ho, List.getElem?_map] at h
    cases hm : m[i]? with
    | none => rw [hm] at h; cases h
    | some x => rw [hm] at h; cases h
theorem str_size (l : List Int) : (strOfNums l).size = l.length := by
  have := bs_len (strOfNums l)
  unfold strOfNums
  simp [ByteArray.size]
theorem rowP_mem {l : List ByteArray} {x : ByteArray} (h : x ∈ rowP l) : x ∈ l ∨ x = ⟨#[44]⟩ := by
  cases l with
  | nil => cases h
  | cons y l =>
    rw [rowP, List.mem_cons] at h
    rcases h with rfl | h
    · exact .inl List.mem_cons_self
    · obtain ⟨z, hz, hx⟩ := List.mem_flatten.1 h
      obtain ⟨u, hu, rfl⟩ := List.mem_map.1 hz
      simp at hx
      rcases hx with rfl | rfl
      · exact .inr rfl
      · exact .inl (List.mem_cons_of_mem _ hu)
theorem jnB_size (l : List ByteArray) (M : Nat) (hM : ∀ x ∈ l, x.size ≤ M) : (jnB l).size ≤ 4096 + M := by
  unfold jnB
  rw [str_size]
  have := jn_len l M hM []
  simp at this
  omega
theorem num_short (n : Nat) : (numL n).length ≤ n + 1 := by
  induction n using Nat.strongRecOn with
  | _ n ih =>
    by_cases h : n < 10
    · rw [num_small h]; simp
    · have := ih (n / 10) (by omega)
      rw [num_big (by omega), List.length_append, List.length_singleton]
      omega
theorem text_size (n : Bool) (s : ByteArray) (x : Int) : (textA n s x).size ≤ 5000 := by
  unfold textA
  by_cases h : rtN n s x = true
  · rw [if_pos h, str_size]
    unfold rtN at h
    have h8 : (bs s).length ≤ 800 ∧ -2000 ≤ x ∧ x ≤ 2000 := by
      by_cases h0 : bs s = [48]
      · rw [if_pos h0] at h
        simp at h
        rw [h0]
        simp [h.2]
      · rw [if_neg h0] at h
        simp only [Bool.and_eq_true, decide_eq_true_eq] at h
        have hr := h.1
        unfold rt rightT at hr
        simp only [Bool.and_eq_true, decide_eq_true_eq] at hr
        exact ⟨hr.2.1, h.2.2.1, h.2.2.2⟩
    have h1 : (itoaL x).length ≤ 2100 := by
      unfold itoaL
      split
      · have := num_short x.natAbs; rw [List.length_cons]; omega
      · have := num_short x.toNat; omega
    unfold textL
    rw [List.length_append, List.length_append]
    have h2 : (if n = true then [(45 : Int)] else []).length ≤ 1 := by split <;> simp
    have h3 : (if x = 0 then [] else 101 :: itoaL x).length ≤ 2101 := by
      split
      · simp
      · rw [List.length_cons]; omega
    omega
  · rw [if_neg h]; simp [noS, ByteArray.size]
theorem al_txt {t : Tr} (h : alF t = 0) (hk : t.kind = 5) : t.txt.size ≤ 4096 ∧ gtx t.txt = true := by
  unfold alF Tr.alo at h
  by_cases h1 : (t.kind = 5 ∧ 4096 < t.txt.size) ∨ (t.kind = 6 ∧ 4096 < t.bytes.length)
  · rw [if_pos h1] at h; cases h
  rw [if_neg h1] at h
  by_cases h2 : t.kind = 5 ∧ gtx t.txt = false
  · rw [if_pos h2] at h; cases h
  exact ⟨by rcases Nat.lt_or_ge 4096 t.txt.size with q | q; exact absurd (.inl ⟨hk, q⟩) h1; exact q, by cases hg : gtx t.txt with | true => rfl | false => exact absurd ⟨hk, hg⟩ h2⟩
theorem al_dig {t : Tr} (h : alF t = 0) (hk : t.kind = 2) : t.dig.size ≤ 800 ∧ rt t.dig = true := by
  unfold alF Tr.alo at h
  rw [if_neg (by omega), if_neg (by omega)] at h
  by_cases h2 : t.kind = 2 ∧ (rt t.dig = false ∨ (t.neg = true ∧ t.dig = ⟨#[48]⟩))
  · rw [if_pos h2] at h; cases h
  have hr : rt t.dig = true := by
    cases hg : rt t.dig with
    | true => rfl
    | false => exact absurd ⟨hk, .inl hg⟩ h2
  refine ⟨?_, hr⟩
  unfold rt rightT at hr
  simp only [Bool.and_eq_true, decide_eq_true_eq] at hr
  rw [← bs_len]
  exact hr.2.1
theorem al_map {t : Tr} (h : alF t = 0) (hk : t.kind = 8) : t.keys.length = t.kids.length := (alF_shaped t h).1 hk
theorem sign_size (n : Bool) : (sign n).size ≤ 1 := by unfold sign; split <;> decide
theorem esc_size (s : ByteArray) : (strOfNums (escA (bs s))).size ≤ 6 * s.size + 2 := by rw [str_size]; have := escA_len (bs s); rw [bs_len] at this; exact this
theorem zip_mem {f : Tr → Tr → Option ByteArray} {z : Option ByteArray} : ∀ {k l : List Tr}, z ∈ List.zipWith f k l → ∃ a b, a ∈ k ∧ b ∈ l ∧ f a b = z := by
  intro k
  induction k with
  | nil => intro l h; simp at h
  | cons a k ih =>
    intro l h
    cases l with
    | nil => simp at h
    | cons b l =>
      rw [List.zipWith_cons_cons, List.mem_cons] at h
      rcases h with h | h
      · exact ⟨a, b, List.mem_cons_self, List.mem_cons_self, h.symm⟩
      · obtain ⟨x, y, hx, hy, e⟩ := ih h
        exact ⟨x, y, List.mem_cons_of_mem _ hx, List.mem_cons_of_mem _ hy, e⟩
/-- HOW LONG A TEXT MAY BE. -/
theorem txT_size : ∀ (d : Nat) (t : Tr) (s : ByteArray), t.All (fun u => alF u = 0) → txT d t = some s → s.size ≤ 40000 + 20000 * t.deep := by
  intro d
  induction d with
  | zero => intro t s _ h; cases h
  | succ d ih =>
    intro t s ha h
    obtain ⟨h0, hk, hi⟩ := (Tr.all_eq _ t).1 ha
    rw [txT] at h
    by_cases k0 : t.kind = 0
    · rw [if_pos k0] at h; cases h; have : sNull.size = 4 := rfl; omega
    rw [if_neg k0] at h
    by_cases k1 : t.kind = 1
    · rw [if_pos k1] at h; cases h; split
      · have : sTrue.size = 4 := rfl; omega
      · have : sFalse.size = 5 := rfl; omega
    rw [if_neg k1] at h
    by_cases k2 : t.kind = 2
    · rw [if_pos k2] at h; cases h
      have := jnB_size [sign t.neg, t.dig] 800 (fun x hx => by
        simp at hx
        rcases hx with rfl | rfl
        · have := sign_size t.neg; omega
        · exact (al_dig h0 k2).1)
      omega
    rw [if_neg k2] at h
    by_cases k3 : t.kind = 3
    · rw [if_pos k3] at h; cases h; have := text_size t.neg t.dig t.exp; omega
    rw [if_neg k3] at h
    by_cases k5 : t.kind = 5
    · rw [if_pos k5] at h; cases h; have := esc_size t.txt; have := (al_txt h0 k5).1; omega
    rw [if_neg k5] at h
    have key : ∀ (a b : UInt8) (l : List ByteArray) (K : Nat), (∀ x ∈ l, x.size ≤ K) → 1 ≤ K → (jnB [⟨#[a]⟩, jnB (rowP l), ⟨#[b]⟩]).size ≤ 4096 + (4096 + K) := by
      intro a b l K hl hK
      refine jnB_size _ _ (fun x hx => ?_)
      simp at hx
      rcases hx with rfl | rfl | rfl
      · show 1 ≤ _; omega
      · refine jnB_size _ _ (fun x hx => ?_)
        rcases rowP_mem hx with h | rfl
        · exact hl x h
        · exact hK
      · show 1 ≤ _; omega
    by_cases k7 : t.kind = 7
    · rw [if_pos k7] at h
      cases ho : optAll (t.kids.map (txT d)) with
      | none => rw [ho] at h; cases h
      | some l =>
        rw [ho] at h; simp only [Option.map_some, Option.some.injEq] at h; subst h
        have hm := opt_mem ho
        by_cases hl : l = []
        · subst hl; have := key 91 93 [] 1 (by simp) (by omega); omega
        have hD : ∀ u ∈ t.kids, u.deep + 1 ≤ t.deep := fun u hu => Tr.kid_deep hu
        have hpos : 1 ≤ t.deep := by
          cases hkk : t.kids with
          | nil => rw [hkk] at hm; simp at hm; exact absurd hm.symm (by simpa using hl)
          | cons u r => have := hD u (by rw [hkk]; simp); omega
        have := key 91 93 l (40000 + 20000 * (t.deep - 1)) (fun x hx => by
          have hx' : some x ∈ t.kids.map (txT d) := by rw [hm]; exact List.mem_map_of_mem hx
          obtain ⟨u, hu, hx'⟩ := List.mem_map.1 hx'
          have h1 := ih u x (hi u hu) hx'
          have h2 := hD u hu
          omega) (by omega)
        omega
    rw [if_neg k7] at h
    by_cases k8 : t.kind = 8
    · rw [if_pos k8] at h
      cases ho : optAll (List.zipWith (memF (txT d)) t.keys t.kids) with
      | none => rw [ho] at h; cases h
      | some l =>
        rw [ho] at h; simp only [Option.map_some, Option.some.injEq] at h; subst h
        have hm := opt_mem ho
        by_cases hl : l = []
        · subst hl; have := key 123 125 [] 1 (by simp) (by omega); omega
        have hD : ∀ u ∈ t.kids, u.deep + 1 ≤ t.deep := fun u hu => Tr.kid_deep hu
        have hpos : 1 ≤ t.deep := by
          cases hkk : t.kids with
          | nil => rw [hkk] at hm; simp at hm; exact absurd hm.symm (by simpa using hl)
          | cons u r => have := hD u (by rw [hkk]; simp); omega
        have := key 123 125 l (4096 + (40000 + 20000 * (t.deep - 1))) (fun x hx => by
          have hx' : some x ∈ List.zipWith (memF (txT d)) t.keys t.kids := by rw [hm]; exact List.mem_map_of_mem hx
          obtain ⟨k, u, hu1, hu2, hx'⟩ := zip_mem hx'
          have hu' : k ∈ t.keys ∧ u ∈ t.kids := ⟨hu1, hu2⟩
          simp only [memF] at hx'
          by_cases k5 : k.kind = 5
          · rw [if_pos k5] at hx'
            cases hxu : txT d u with
            | none => rw [hxu] at hx'; cases hx'
            | some y =>
              rw [hxu] at hx'; simp only [Option.map_some, Option.some.injEq] at hx'; subst hx'
              have h1 := ih u y (hi u hu'.2) hxu
              have h2 := hD u hu'.2
              have hk0 := ((Tr.all_eq _ k).1 (hk k hu'.1)).1
              have h3 := (al_txt hk0 k5).1
              have h4 := esc_size k.txt
              refine jnB_size _ _ (fun z hz => ?_)
              simp at hz
              rcases hz with rfl | rfl | rfl
              · omega
              · show 1 ≤ _; omega
              · omega
          · rw [if_neg k5] at hx'; cases hx') (by omega)
        omega
    rw [if_neg k8] at h
    cases h
end Go.Proofs.YtelabgonpmafpaaGreatDoor
