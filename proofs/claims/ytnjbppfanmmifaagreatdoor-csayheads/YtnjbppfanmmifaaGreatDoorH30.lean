/-
  What is wrong with a node itself: tree.fault, of every other Kind.
  Whether two keys are the same: tree.twice, with slices.ContainsFunc and slices.IndexFunc; tree.Same.
-/
import Derived.Test.YtnjbppfanmmifaaGreatDoorH7
import Derived.Test.YtnjbppfanmmifaaGreatDoorH28
import Derived.Test.YtnjbppfanmmifaaGreatDoorH6
import Derived.Test.YtnjbppfanmmifaaGreatDoorH2
namespace Go.Proofs.YtnjbppfanmmifaaGreatDoor
open Go.RowKit
set_option linter.unusedVariables false

set_option maxHeartbeats 8000000 in
set_option maxRecDepth 100000 in
theorem fault_ko {D : Nat} {t : Tr} {b : Nb} {w : World} (hN : Nd (D + 1) w b t) (h2 : b.kind ≠ 2) (h3 : b.kind ≠ 3) (h5 : b.kind ≠ 5) (h6 : b.kind ≠ 6) : Calls Tryz.prog 64 #[.agg b.arr] w fun e w' => e = .returned (.int .i64 (alF t)) ∧ Below w.heap.size w w' := by
  have hal := alloc_below w (.cells b.arr 26)
  have B0 : Hid (Below w.heap.size w (w.alloc (.cells b.arr 26))) := hal
  have Q0 : Hid (NBox (w.alloc (.cells b.arr 26)) w.heap.size b) := nbox_new w b
  obtain ⟨a0, a1, a2, a3, a4, a5, a6, a7, a8⟩ := (nbox_new w b).fields
  have hodd := odd_eq hN
  have rk := hN.2.2.2.1.2.1
  have ri := hN.2.2.2.2.2.1
  have kM := fun w' => maybe_any b w' ⟨rk.1, rk.2.1, ri.1, ri.2.1⟩
  have kR := fun w' => rest_any b w'
  have kS : Hid (∀ w', Below w.heap.size w w' → Calls Tryz.prog 75 #[.agg (rst b).arr, .agg #[.int .i64 0, .int .u64 0, .bool false, .string ⟨#[]⟩, .int .i64 0, .string ⟨#[]⟩, .slice none 0 0, .slice none 0 0, .slice none 0 0]] w' fun e w'' => e = .returned (.bool t.clean) ∧ Below w'.heap.size w' w'') := fun w' hb => sam_any (b := zN) (nd_rst (hN.kept hb)) (nd_zero 0 w') (rst_clean t).symm
  have hk : b.kind = t.kind := hN.1.1
  have hneg : b.neg = t.neg := hN.1.2.2.1
  have hdig : b.dig = t.dig := hN.1.2.2.2.1
  have hexp : b.exp = t.exp := hN.1.2.2.2.2.1
  have htxt : b.txt = t.txt := hN.1.2.2.2.2.2
  have hlb : t.bytes.length = b.lb := hN.2.2.1.1
  have mb1 := hN.2.2.1.2.1.1
  have mb2 := hN.2.2.1.2.1.2.1
  unfold maxLen at mb2
  have mt : b.txt.size ≤ 140737488351232 := by rw [htxt]; exact hN.2.1.2.2.2.2
  have hA : alF t = if (b.kind = 5 ∧ 4096 < b.txt.size) ∨ (b.kind = 6 ∧ 4096 < b.lb) then 8
    else if b.kind = 5 ∧ gtx b.txt = false then 6
    else if b.kind = 2 ∧ (rt b.dig = false ∨ (b.neg = true ∧ b.dig = ⟨#[48]⟩)) then 11
    else if b.kind = 3 ∧ rdN b.neg b.dig b.exp = false then 11
    else if t.odd = true then 12 else 0 := by
    rw [hk, hneg, hdig, hexp, htxt, ← hlb]; rfl
  clear hneg hdig hexp htxt hlb hN hk hal rk ri
  rw [if_neg (by omega), if_neg (by omega), if_neg (by omega), if_neg (by omega)] at hA
  have e2 : (b.kind == 2) = false := by simp [h2]
  have e3 : (b.kind == 3) = false := by simp [h3]
  have e5 : (b.kind == 5) = false := by simp [h5]
  have e6 : (b.kind == 6) = false := by simp [h6]
  clear h2 h3 h5 h6
  rcases Nat.lt_or_ge 4096 b.txt.size with hT | hT
  · have dT : decide ((4096 : Int) < ((b.txt.size : Nat) : Int)) = true := by simp; omega
    clear hT
    rcases Nat.lt_or_ge 4096 b.lb with hL | hL
    · have dL : decide ((4096 : Int) < ((b.lb : Nat) : Int)) = true := by simp; omega
      clear hL
      cases hm : mayB b with
      | false =>
        have hO : t.odd = true := by rw [hodd, hm]; rfl
        rw [hO, if_pos rfl] at hA
        rw [hA]
        rw [hm] at kM
        clear hO hA hodd hm
        go_enter Tryz.func64, Tryz.ntmps64
        go_wp2_with (first
          | (go_at_call 106; refine (kM _).mono ?_; rintro e wM ⟨rfl, hwM⟩; clear a0 a1 a2 a3 a4 a5 a6 a7 a8; have QwM : Hid (NBox wM w.heap.size b) := Q0.out.kept hwM Q0.out.lt; have BwM : Hid (Below w.heap.size w wM) := B0.out.trans (hwM.mono B0.out.size); obtain ⟨a0, a1, a2, a3, a4, a5, a6, a7, a8⟩ := QwM.out.fields))
        go_ret
        exact ⟨rfl, BwM.out⟩
      | true =>
        rw [hm] at kM
        cases hc : t.clean with
        | false =>
          have hO : t.odd = true := by rw [hodd, hm, hc]; rfl
          rw [hO, if_pos rfl] at hA
          rw [hA]
          rw [hc] at kS
          clear hO hA hodd hm hc
          go_enter Tryz.func64, Tryz.ntmps64
          go_wp2_with (first
            | (go_at_call 106; refine (kM _).mono ?_; rintro e wM ⟨rfl, hwM⟩; clear a0 a1 a2 a3 a4 a5 a6 a7 a8; have QwM : Hid (NBox wM w.heap.size b) := Q0.out.kept hwM Q0.out.lt; have BwM : Hid (Below w.heap.size w wM) := B0.out.trans (hwM.mono B0.out.size); obtain ⟨a0, a1, a2, a3, a4, a5, a6, a7, a8⟩ := QwM.out.fields)
            | (go_at_call 107; refine (kR _).mono ?_; rintro e wR ⟨rfl, hwR⟩; have BwR : Hid (Below w.heap.size w wR) := BwM.out.trans (hwR.mono BwM.out.size); have kS' := kS.out wR BwR.out)
            | (go_at_call 75; refine kS'.mono ?_; rintro e wS ⟨rfl, hwS⟩))
          go_ret
          exact ⟨rfl, BwR.out.trans (hwS.mono BwR.out.size)⟩
        | true =>
          have hO : t.odd = false := by rw [hodd, hm, hc]; rfl
          rw [hO, if_neg (by simp)] at hA
          rw [hA]
          rw [hc] at kS
          clear hO hA hodd hm hc
          go_enter Tryz.func64, Tryz.ntmps64
          go_wp2_with (first
            | (go_at_call 106; refine (kM _).mono ?_; rintro e wM ⟨rfl, hwM⟩; clear a0 a1 a2 a3 a4 a5 a6 a7 a8; have QwM : Hid (NBox wM w.heap.size b) := Q0.out.kept hwM Q0.out.lt; have BwM : Hid (Below w.heap.size w wM) := B0.out.trans (hwM.mono B0.out.size); obtain ⟨a0, a1, a2, a3, a4, a5, a6, a7, a8⟩ := QwM.out.fields)
            | (go_at_call 107; refine (kR _).mono ?_; rintro e wR ⟨rfl, hwR⟩; have BwR : Hid (Below w.heap.size w wR) := BwM.out.trans (hwR.mono BwM.out.size); have kS' := kS.out wR BwR.out)
            | (go_at_call 75; refine kS'.mono ?_; rintro e wS ⟨rfl, hwS⟩))
          go_ret
          exact ⟨rfl, BwR.out.trans (hwS.mono BwR.out.size)⟩
    · have dL : decide ((4096 : Int) < ((b.lb : Nat) : Int)) = false := by simp; omega
      clear hL
      cases hm : mayB b with
      | false =>
        have hO : t.odd = true := by rw [hodd, hm]; rfl
        rw [hO, if_pos rfl] at hA
        rw [hA]
        rw [hm] at kM
        clear hO hA hodd hm
        go_enter Tryz.func64, Tryz.ntmps64
        go_wp2_with (first
          | (go_at_call 106; refine (kM _).mono ?_; rintro e wM ⟨rfl, hwM⟩; clear a0 a1 a2 a3 a4 a5 a6 a7 a8; have QwM : Hid (NBox wM w.heap.size b) := Q0.out.kept hwM Q0.out.lt; have BwM : Hid (Below w.heap.size w wM) := B0.out.trans (hwM.mono B0.out.size); obtain ⟨a0, a1, a2, a3, a4, a5, a6, a7, a8⟩ := QwM.out.fields))
        go_ret
        exact ⟨rfl, BwM.out⟩
      | true =>
        rw [hm] at kM
        cases hc : t.clean with
        | false =>
          have hO : t.odd = true := by rw [hodd, hm, hc]; rfl
          rw [hO, if_pos rfl] at hA
          rw [hA]
          rw [hc] at kS
          clear hO hA hodd hm hc
          go_enter Tryz.func64, Tryz.ntmps64
          go_wp2_with (first
            | (go_at_call 106; refine (kM _).mono ?_; rintro e wM ⟨rfl, hwM⟩; clear a0 a1 a2 a3 a4 a5 a6 a7 a8; have QwM : Hid (NBox wM w.heap.size b) := Q0.out.kept hwM Q0.out.lt; have BwM : Hid (Below w.heap.size w wM) := B0.out.trans (hwM.mono B0.out.size); obtain ⟨a0, a1, a2, a3, a4, a5, a6, a7, a8⟩ := QwM.out.fields)
            | (go_at_call 107; refine (kR _).mono ?_; rintro e wR ⟨rfl, hwR⟩; have BwR : Hid (Below w.heap.size w wR) := BwM.out.trans (hwR.mono BwM.out.size); have kS' := kS.out wR BwR.out)
            | (go_at_call 75; refine kS'.mono ?_; rintro e wS ⟨rfl, hwS⟩))
          go_ret
          exact ⟨rfl, BwR.out.trans (hwS.mono BwR.out.size)⟩
        | true =>
          have hO : t.odd = false := by rw [hodd, hm, hc]; rfl
          rw [hO, if_neg (by simp)] at hA
          rw [hA]
          rw [hc] at kS
          clear hO hA hodd hm hc
          go_enter Tryz.func64, Tryz.ntmps64
          go_wp2_with (first
            | (go_at_call 106; refine (kM _).mono ?_; rintro e wM ⟨rfl, hwM⟩; clear a0 a1 a2 a3 a4 a5 a6 a7 a8; have QwM : Hid (NBox wM w.heap.size b) := Q0.out.kept hwM Q0.out.lt; have BwM : Hid (Below w.heap.size w wM) := B0.out.trans (hwM.mono B0.out.size); obtain ⟨a0, a1, a2, a3, a4, a5, a6, a7, a8⟩ := QwM.out.fields)
            | (go_at_call 107; refine (kR _).mono ?_; rintro e wR ⟨rfl, hwR⟩; have BwR : Hid (Below w.heap.size w wR) := BwM.out.trans (hwR.mono BwM.out.size); have kS' := kS.out wR BwR.out)
            | (go_at_call 75; refine kS'.mono ?_; rintro e wS ⟨rfl, hwS⟩))
          go_ret
          exact ⟨rfl, BwR.out.trans (hwS.mono BwR.out.size)⟩
  · have dT : decide ((4096 : Int) < ((b.txt.size : Nat) : Int)) = false := by simp; omega
    clear hT
    rcases Nat.lt_or_ge 4096 b.lb with hL | hL
    · have dL : decide ((4096 : Int) < ((b.lb : Nat) : Int)) = true := by simp; omega
      clear hL
      cases hm : mayB b with
      | false =>
        have hO : t.odd = true := by rw [hodd, hm]; rfl
        rw [hO, if_pos rfl] at hA
        rw [hA]
        rw [hm] at kM
        clear hO hA hodd hm
        go_enter Tryz.func64, Tryz.ntmps64
        go_wp2_with (first
          | (go_at_call 106; refine (kM _).mono ?_; rintro e wM ⟨rfl, hwM⟩; clear a0 a1 a2 a3 a4 a5 a6 a7 a8; have QwM : Hid (NBox wM w.heap.size b) := Q0.out.kept hwM Q0.out.lt; have BwM : Hid (Below w.heap.size w wM) := B0.out.trans (hwM.mono B0.out.size); obtain ⟨a0, a1, a2, a3, a4, a5, a6, a7, a8⟩ := QwM.out.fields))
        go_ret
        exact ⟨rfl, BwM.out⟩
      | true =>
        rw [hm] at kM
        cases hc : t.clean with
        | false =>
          have hO : t.odd = true := by rw [hodd, hm, hc]; rfl
          rw [hO, if_pos rfl] at hA
          rw [hA]
          rw [hc] at kS
          clear hO hA hodd hm hc
          go_enter Tryz.func64, Tryz.ntmps64
          go_wp2_with (first
            | (go_at_call 106; refine (kM _).mono ?_; rintro e wM ⟨rfl, hwM⟩; clear a0 a1 a2 a3 a4 a5 a6 a7 a8; have QwM : Hid (NBox wM w.heap.size b) := Q0.out.kept hwM Q0.out.lt; have BwM : Hid (Below w.heap.size w wM) := B0.out.trans (hwM.mono B0.out.size); obtain ⟨a0, a1, a2, a3, a4, a5, a6, a7, a8⟩ := QwM.out.fields)
            | (go_at_call 107; refine (kR _).mono ?_; rintro e wR ⟨rfl, hwR⟩; have BwR : Hid (Below w.heap.size w wR) := BwM.out.trans (hwR.mono BwM.out.size); have kS' := kS.out wR BwR.out)
            | (go_at_call 75; refine kS'.mono ?_; rintro e wS ⟨rfl, hwS⟩))
          go_ret
          exact ⟨rfl, BwR.out.trans (hwS.mono BwR.out.size)⟩
        | true =>
          have hO : t.odd = false := by rw [hodd, hm, hc]; rfl
          rw [hO, if_neg (by simp)] at hA
          rw [hA]
          rw [hc] at kS
          clear hO hA hodd hm hc
          go_enter Tryz.func64, Tryz.ntmps64
          go_wp2_with (first
            | (go_at_call 106; refine (kM _).mono ?_; rintro e wM ⟨rfl, hwM⟩; clear a0 a1 a2 a3 a4 a5 a6 a7 a8; have QwM : Hid (NBox wM w.heap.size b) := Q0.out.kept hwM Q0.out.lt; have BwM : Hid (Below w.heap.size w wM) := B0.out.trans (hwM.mono B0.out.size); obtain ⟨a0, a1, a2, a3, a4, a5, a6, a7, a8⟩ := QwM.out.fields)
            | (go_at_call 107; refine (kR _).mono ?_; rintro e wR ⟨rfl, hwR⟩; have BwR : Hid (Below w.heap.size w wR) := BwM.out.trans (hwR.mono BwM.out.size); have kS' := kS.out wR BwR.out)
            | (go_at_call 75; refine kS'.mono ?_; rintro e wS ⟨rfl, hwS⟩))
          go_ret
          exact ⟨rfl, BwR.out.trans (hwS.mono BwR.out.size)⟩
    · have dL : decide ((4096 : Int) < ((b.lb : Nat) : Int)) = false := by simp; omega
      clear hL
      cases hm : mayB b with
      | false =>
        have hO : t.odd = true := by rw [hodd, hm]; rfl
        rw [hO, if_pos rfl] at hA
        rw [hA]
        rw [hm] at kM
        clear hO hA hodd hm
        go_enter Tryz.func64, Tryz.ntmps64
        go_wp2_with (first
          | (go_at_call 106; refine (kM _).mono ?_; rintro e wM ⟨rfl, hwM⟩; clear a0 a1 a2 a3 a4 a5 a6 a7 a8; have QwM : Hid (NBox wM w.heap.size b) := Q0.out.kept hwM Q0.out.lt; have BwM : Hid (Below w.heap.size w wM) := B0.out.trans (hwM.mono B0.out.size); obtain ⟨a0, a1, a2, a3, a4, a5, a6, a7, a8⟩ := QwM.out.fields))
        go_ret
        exact ⟨rfl, BwM.out⟩
      | true =>
        rw [hm] at kM
        cases hc : t.clean with
        | false =>
          have hO : t.odd = true := by rw [hodd, hm, hc]; rfl
          rw [hO, if_pos rfl] at hA
          rw [hA]
          rw [hc] at kS
          clear hO hA hodd hm hc
          go_enter Tryz.func64, Tryz.ntmps64
          go_wp2_with (first
            | (go_at_call 106; refine (kM _).mono ?_; rintro e wM ⟨rfl, hwM⟩; clear a0 a1 a2 a3 a4 a5 a6 a7 a8; have QwM : Hid (NBox wM w.heap.size b) := Q0.out.kept hwM Q0.out.lt; have BwM : Hid (Below w.heap.size w wM) := B0.out.trans (hwM.mono B0.out.size); obtain ⟨a0, a1, a2, a3, a4, a5, a6, a7, a8⟩ := QwM.out.fields)
            | (go_at_call 107; refine (kR _).mono ?_; rintro e wR ⟨rfl, hwR⟩; have BwR : Hid (Below w.heap.size w wR) := BwM.out.trans (hwR.mono BwM.out.size); have kS' := kS.out wR BwR.out)
            | (go_at_call 75; refine kS'.mono ?_; rintro e wS ⟨rfl, hwS⟩))
          go_ret
          exact ⟨rfl, BwR.out.trans (hwS.mono BwR.out.size)⟩
        | true =>
          have hO : t.odd = false := by rw [hodd, hm, hc]; rfl
          rw [hO, if_neg (by simp)] at hA
          rw [hA]
          rw [hc] at kS
          clear hO hA hodd hm hc
          go_enter Tryz.func64, Tryz.ntmps64
          go_wp2_with (first
            | (go_at_call 106; refine (kM _).mono ?_; rintro e wM ⟨rfl, hwM⟩; clear a0 a1 a2 a3 a4 a5 a6 a7 a8; have QwM : Hid (NBox wM w.heap.size b) := Q0.out.kept hwM Q0.out.lt; have BwM : Hid (Below w.heap.size w wM) := B0.out.trans (hwM.mono B0.out.size); obtain ⟨a0, a1, a2, a3, a4, a5, a6, a7, a8⟩ := QwM.out.fields)
            | (go_at_call 107; refine (kR _).mono ?_; rintro e wR ⟨rfl, hwR⟩; have BwR : Hid (Below w.heap.size w wR) := BwM.out.trans (hwR.mono BwM.out.size); have kS' := kS.out wR BwR.out)
            | (go_at_call 75; refine kS'.mono ?_; rintro e wS ⟨rfl, hwS⟩))
          go_ret
          exact ⟨rfl, BwR.out.trans (hwS.mono BwR.out.size)⟩
end Go.Proofs.YtnjbppfanmmifaaGreatDoor
namespace Go.Proofs.YtnjbppfanmmifaaGreatDoor
open Go.RowKit
set_option linter.unusedVariables false

theorem RowN.take {Q : Nb → Tr → Prop} {w : World} {a : Option Addr} {len cap : Nat} {l : List Tr} (h : RowN Q w a len cap l) {i : Nat} (hi : i ≤ len) : RowN Q w a i cap (l.take i) := by
  obtain ⟨h0, h1, h2⟩ := h
  refine ⟨by rw [List.length_take]; omega, ⟨Nat.le_trans hi h1.1, h1.2.1, h1.2.2.1, Nat.le_trans (Nat.mul_le_mul_right _ hi) h1.2.2.2⟩, ?_⟩
  rcases h2 with rfl | ⟨b, off, ha, hc⟩
  · exact .inl (by simp)
  · refine .inr ⟨b, off, ha, fun j hj => ?_⟩
    have hj' : j < l.length := by rw [List.length_take] at hj; omega
    obtain ⟨nb, hn, hQ⟩ := hc j hj'
    exact ⟨nb, hn, by rw [List.getElem_take]; exact hQ⟩

set_option maxHeartbeats 1000000 in
/-- The closure: is a node the key in the box gk? -/
theorem twcc_any {D : Nat} (gk : Nat) (kb nb : Nb) (u x : Tr) (w : World) (hk : NBox w gk kb) (hu : Nd D w kb u) (hx : Nd D w nb x) (v : Bool) (hv : v = true ↔ x = u) :
    Calls Tryz.prog 109 (#[.agg nb.arr] ++ #[.pointer (some ⟨gk, 0, none⟩)]) w fun e w' => e = .returned (.bool v) ∧ Below w.heap.size w w' := by
  show Calls Tryz.prog 109 #[.agg nb.arr, .pointer (some ⟨gk, 0, none⟩)] w _
  have hal := alloc_below w (.cells nb.arr 26)
  have ks := sam_any (hx.kept hal) (hu.kept hal) hv
  obtain ⟨a0, a1, a2, a3, a4, a5, a6, a7, a8⟩ := (nbox_new w nb).fields
  obtain ⟨b0, b1, b2, b3, b4, b5, b6, b7, b8⟩ := (hk.kept hal hk.lt).fields
  have hB : Hid (Below w.heap.size w (w.alloc (.cells nb.arr 26))) := hal
  clear hal hk hu hx hv
  go_enter Tryz.func109, Tryz.ntmps109
  go_wp2_with (go_at_call 75; refine ks.mono ?_; rintro e w1 ⟨rfl, hb⟩)
  go_ret
  exact ⟨rfl, hB.out.trans (hb.mono hB.out.size)⟩

set_option maxHeartbeats 4000000 in
set_option maxRecDepth 100000 in
theorem indf_any {D : Nat} (a : Option Addr) (n c : Nat) (l : List Tr) (gk : Nat) (kb : Nb) (u : Tr) (w : World) (hk : NBox w gk kb) (hu : Nd D w kb u) (hl : RowN (Nd D w) w a n c l) :
    Calls Tryz.prog 145 #[.slice a n c, .func (.func 109) #[] #[.pointer (some ⟨gk, 0, none⟩)]] w fun e w' => (∃ r : Int, e = .returned (.int .i64 r) ∧ (0 ≤ r ↔ u ∈ l)) ∧ Below w.heap.size w w' := by
  have e49 : ∀ args w, (callFunc 109 args).run Tryz.prog w = .ok (.enter 109 args) w := enters_of Tryz.func109 (by kernel_rfl) rfl
  have hx : Hid (l.length = n) := hl.1
  have mk := hl.2.1.1
  have mk' := hl.2.1.2.1
  unfold maxLen at mk'
  have hA : Hid (RowN (Nd D w) w a n c l) := hl
  have hK : Hid (NBox w gk kb ∧ Nd D w kb u) := ⟨hk, hu⟩
  clear hl hk hu
  go_enter Tryz.func145, Tryz.ntmps145
  go_wp2
  go_loopw [5, 8] (fun _ s8 wr => ∃ (i : Nat), i ≤ n ∧ s8 = .int .i64 i ∧ Hid (Below w.heap.size w wr) ∧ Hid (u ∉ l.take i)) (fun _ i _ => n - (intOf i).toNat)
  case atStart => exact ⟨0, Nat.zero_le _, rfl, Below.refl _ _, by show ¬ _; simp⟩
  case round =>
    obtain ⟨i, him, rfl, hbl, hT⟩ := hrel
    by_cases hlt : i < n
    · have hz : (i : Int) < (n : Int) := by omega
      have hix : i < l.length := by rw [hx.out]; exact hlt
      obtain ⟨bk, ok, nk, rfl, hck, hNk, hbk⟩ := row_el hA.out hbl.out hix
      obtain ⟨f0, f1, f2, f3, f4, f5, f6, f7, f8⟩ := elem_fields hck
      have kk := fun (v : Bool) (h : v = true ↔ l[i] = u) => twcc_any gk kb nk u l[i] wr (hK.out.1.kept hbl.out hK.out.1.lt) (hK.out.2.kept hbl.out) hNk v h
      have wi : IntKind.i64.wrap ((i : Int) + 1) = (i : Int) + 1 := by rw [IntKind.wrap_i64]; omega
      by_cases hE : l[i] = u
      · have k1 := kk true (by simp [hE])
        have hm : Hid (u ∈ l) := by show u ∈ l; rw [← hE]; exact List.getElem_mem hix
        clear hck hNk kk hE hbk
        go_wp2_with (go_at_fn 109; refine k1.mono ?_; rintro e w1 ⟨rfl, hb1⟩)
        go_ret
        exact ⟨⟨_, rfl, by simp [hm.out]⟩, hbl.out.trans (hb1.mono hbl.out.size)⟩
      · have k1 := kk false (by simp [hE])
        have hT' : Hid (u ∉ l.take (i + 1)) := by
          show ¬ _
          rw [List.take_succ_eq_append_getElem hix, List.mem_append]
          rintro (h | h)
          · exact hT.out h
          · exact hE (List.mem_singleton.1 h).symm
        clear hck hNk kk hE hbk
        go_wp2_with (go_at_fn 109; refine k1.mono ?_; rintro e w1 ⟨rfl, hb1⟩)
        go_roundw
        case rel => exact ⟨i + 1, by omega, by go_num, hbl.out.trans (hb1.mono hbl.out.size), hT'⟩
        case measure => simp [intOf]; omega
    · have hz : ¬ (i : Int) < (n : Int) := by omega
      have hm : Hid (u ∉ l) := by
        show ¬ _
        have := hT.out
        rwa [List.take_of_length_le (by rw [hx.out]; omega)] at this
      go_wp2
      go_ret
      exact ⟨⟨-1, rfl, by simp [hm.out]⟩, hbl.out⟩

set_option maxHeartbeats 1000000 in
theorem contf_any {D : Nat} (a : Option Addr) (n c : Nat) (l : List Tr) (gk : Nat) (kb : Nb) (u : Tr) (w : World) (hk : NBox w gk kb) (hu : Nd D w kb u) (hl : RowN (Nd D w) w a n c l) (v : Bool) (hv : v = true ↔ u ∈ l) :
    Calls Tryz.prog 108 #[.slice a n c, .func (.func 109) #[] #[.pointer (some ⟨gk, 0, none⟩)]] w fun e w' => e = .returned (.bool v) ∧ Below w.heap.size w w' := by
  have ki := indf_any a n c l gk kb u w hk hu hl
  have hd : Hid (∀ r : Int, (0 ≤ r ↔ u ∈ l) → decide (0 ≤ r) = v) := fun r hr => by rw [Bool.eq_iff_iff, hv, decide_eq_true_iff]; exact hr
  clear hk hu hl hv
  go_enter Tryz.func108, Tryz.ntmps108
  go_wp2_with (go_at_call 145; refine ki.mono ?_; rintro e w1 ⟨⟨r, rfl, hr⟩, hb⟩; have hd' := hd.out r hr; clear hr hd)
  go_ret
  exact ⟨rfl, hb⟩

set_option maxHeartbeats 4000000 in
set_option maxRecDepth 100000 in
/-- tree.twice. -/
theorem gtwice_any {D : Nat} (a : Option Addr) (n c : Nat) (l : List Tr) (w : World) (hl : RowN (Nd D w) w a n c l) (v : Bool) (hv : v = true ↔ ¬ l.Nodup) :
    Calls Tryz.prog 66 #[.slice a n c] w fun e w' => e = .returned (.bool v) ∧ Below w.heap.size w w' := by
  have hx : Hid (l.length = n) := hl.1
  have mk := hl.2.1.1
  have mk' := hl.2.1.2.1
  unfold maxLen at mk'
  have hA : Hid (RowN (Nd D w) w a n c l) := hl
  have hV : Hid (v = true ↔ ¬ l.Nodup) := hv
  clear hl hv
  go_enter Tryz.func66, Tryz.ntmps66
  go_wp2
  go_loopw [3, 4, 7] (fun _ _ s7 wr => ∃ (i : Nat), i ≤ n ∧ s7 = .int .i64 i ∧ Hid (Below w.heap.size w wr) ∧ Hid ((l.take i).Nodup)) (fun _ _ i _ => n - (intOf i).toNat)
  case atStart => exact ⟨0, Nat.zero_le _, rfl, Below.refl _ _, by show List.Nodup _; simp⟩
  case round =>
    obtain ⟨i, him, rfl, hbl, hT⟩ := hrel
    by_cases hlt : i < n
    · have hz : (i : Int) < (n : Int) := by omega
      have hix : i < l.length := by rw [hx.out]; exact hlt
      obtain ⟨bk, ok, nk, rfl, hck, hNk, hbk⟩ := row_el hA.out hbl.out hix
      obtain ⟨f0, f1, f2, f3, f4, f5, f6, f7, f8⟩ := elem_fields hck
      have hal := alloc_below wr (.cells nk.arr 26)
      have hB : Hid (Below w.heap.size w (wr.alloc (.cells nk.arr 26))) := hbl.out.trans (hal.mono hbl.out.size)
      have kk := fun (v : Bool) (h : v = true ↔ l[i] ∈ l.take i) => contf_any (some ⟨bk, ok, none⟩) i c (l.take i) wr.heap.size nk l[i] (wr.alloc (.cells nk.arr 26)) (nbox_new wr nk) (hNk.kept hal) ((hA.out.kept (R := Nd D (wr.alloc (.cells nk.arr 26))) hB.out fun _ _ _ q => q.kept hB.out).take him) v h
      have wi : IntKind.i64.wrap ((i : Int) + 1) = (i : Int) + 1 := by rw [IntKind.wrap_i64]; omega
      have hic : i ≤ c := by omega
      by_cases hE : l[i] ∈ l.take i
      · have k1 := kk true (by simp [hE])
        have hv : v = true := hV.out.2 (fun hn => by
          have h1 : (l.take (i + 1)).Nodup := hn.sublist (List.take_sublist _ _)
          rw [List.take_succ_eq_append_getElem hix] at h1
          exact (List.nodup_append.1 h1).2.2 _ hE _ (List.mem_singleton.2 rfl) rfl)
        subst hv
        clear hck hNk kk hE hbk hal
        go_wp2_with (go_at_call 108; refine k1.mono ?_; rintro e w1 ⟨rfl, hb1⟩)
        go_ret
        exact ⟨rfl, hB.out.trans (hb1.mono hB.out.size)⟩
      · have k1 := kk false (by simp [hE])
        have hT' : Hid ((l.take (i + 1)).Nodup) := by
          show List.Nodup _
          rw [List.take_succ_eq_append_getElem hix]
          refine List.nodup_append.2 ⟨hT.out, by simp, fun x hx' y hy he => ?_⟩
          rw [List.mem_singleton] at hy
          subst hy he
          exact hE hx'
        clear hck hNk kk hE hbk hal
        go_wp2_with (go_at_call 108; refine k1.mono ?_; rintro e w1 ⟨rfl, hb1⟩)
        go_roundw
        case rel => exact ⟨i + 1, by omega, by go_num, hB.out.trans (hb1.mono hB.out.size), hT'⟩
        case measure => simp [intOf]; omega
    · have hz : ¬ (i : Int) < (n : Int) := by omega
      have hv : v = false := not_true hV.out (fun h => h (by
        have := hT.out
        rwa [List.take_of_length_le (by rw [hx.out]; omega)] at this))
      subst hv
      go_wp2
      go_ret
      exact ⟨rfl, hbl.out⟩
end Go.Proofs.YtnjbppfanmmifaaGreatDoor
