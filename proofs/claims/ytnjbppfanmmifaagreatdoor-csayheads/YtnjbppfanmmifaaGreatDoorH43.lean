/-
  What is wrong with a node itself: tree.fault, of every other Kind.
  Whether two keys are the same: tree.twice, with slices.ContainsFunc and slices.IndexFunc; tree.Same.
  What is wrong with a tree: tree.Check.
-/
import Derived.Test.YtnjbppfanmmifaaGreatDoorH8
import Derived.Test.YtnjbppfanmmifaaGreatDoorH39
import Derived.Test.YtnjbppfanmmifaaGreatDoorH6
import Derived.Test.YtnjbppfanmmifaaGreatDoorH2
import Derived.Test.YtnjbppfanmmifaaGreatDoorH40
import Derived.Test.YtnjbppfanmmifaaGreatDoorH41
import Derived.Test.YtnjbppfanmmifaaGreatDoorH42
namespace Go.Proofs.YtnjbppfanmmifaaGreatDoor
open Go.RowKit
set_option linter.unusedVariables false

set_option maxHeartbeats 8000000 in
set_option maxRecDepth 100000 in
theorem fault_ko {D : Nat} {t : Tr} {b : Nb} {w : World} (hN : Nd (D + 1) w b t) (h2 : b.kind ≠ 2) (h3 : b.kind ≠ 3) (h5 : b.kind ≠ 5) (h6 : b.kind ≠ 6) : Calls Tryz.prog 64 #[.agg b.arr] w fun e w' => e = .returned (.int .i64 (alF t)) ∧ Below w.heap.size w w' := by
  have hal := alloc_below w (.cells b.arr 26)
  have B0 : Hid (Below w.heap.size w (w.alloc (.cells b.arr 26))) := hal
  have Q0 : Hid (NBox (w.alloc (.cells b.arr 26)) w.heap.size b) := nbox_new w b
  obtain ⟨a0, a1, a2, a3, a4, a5, a6, a7, a8⟩ := (nbox_new w b).fields
  have hodd := odd_eq hN
  have rk := hN.2.2.2.1.2.1
  have ri := hN.2.2.2.2.2.1
  have kM := fun w' => maybe_any b w' ⟨rk.1, rk.2.1, ri.1, ri.2.1⟩
  have kR := fun w' => rest_any b w'
  have kS : Hid (∀ w', Below w.heap.size w w' → Calls Tryz.prog 75 #[.agg (rst b).arr, .agg #[.int .i64 0, .int .u64 0, .bool false, .string ⟨#[]⟩, .int .i64 0, .string ⟨#[]⟩, .slice none 0 0, .slice none 0 0, .slice none 0 0]] w' fun e w'' => e = .returned (.bool t.clean) ∧ Below w'.heap.size w' w'') := fun w' hb => sam_any (b := zN) (nd_rst (hN.kept hb)) (nd_zero 0 w') (rst_clean t).symm
  have hk : b.kind = t.kind := hN.1.1
  have hneg : b.neg = t.neg := hN.1.2.2.1
  have hdig : b.dig = t.dig := hN.1.2.2.2.1
  have hexp : b.exp = t.exp := hN.1.2.2.2.2.1
  have htxt : b.txt = t.txt := hN.1.2.2.2.2.2
  have hlb : t.bytes.length = b.lb := hN.2.2.1.1
  have mb1 := hN.2.2.1.2.1.1
  have mb2 := hN.2.2.1.2.1.2.1
  unfold maxLen at mb2
  have mt : b.txt.size ≤ 140737488351232 := by rw [htxt]; exact hN.2.1.2.2.2.2
  have hA : alF t = if (b.kind = 5 ∧ 4096 < b.txt.size) ∨ (b.kind = 6 ∧ 4096 < b.lb) then 8
    else if b.kind = 5 ∧ gtx b.txt = false then 6
    else if b.kind = 2 ∧ (rt b.dig = false ∨ (b.neg = true ∧ b.dig = ⟨#[48]⟩)) then 11
    else if b.kind = 3 ∧ rdN b.neg b.dig b.exp = false then 11
    else if t.odd = true then 12 else 0 := by
    rw [hk, hneg, hdig, hexp, htxt, ← hlb]; rfl
  clear hneg hdig hexp htxt hlb hN hk hal rk ri
  rw [if_neg (by omega), if_neg (by omega), if_neg (by omega), if_neg (by omega)] at hA
  have e2 : (b.kind == 2) = false := by simp [h2]
  have e3 : (b.kind == 3) = false := by simp [h3]
  have e5 : (b.kind == 5) = false := by simp [h5]
  have e6 : (b.kind == 6) = false := by simp [h6]
  clear h2 h3 h5 h6
  rcases Nat.lt_or_ge 4096 b.txt.size with hT | hT
  · have dT : decide ((4096 : Int) < ((b.txt.size : Nat) : Int)) = true := by simp; omega
    clear hT
    rcases Nat.lt_or_ge 4096 b.lb with hL | hL
    · have dL : decide ((4096 : Int) < ((b.lb : Nat) : Int)) = true := by simp; omega
      clear hL
      cases hm : mayB b with
      | false =>
        have hO : t.odd = true := by rw [hodd, hm]; rfl
        rw [hO, if_pos rfl] at hA
        rw [hA]
        rw [hm] at kM
        clear hO hA hodd hm
        go_enter Tryz.func64, Tryz.ntmps64
        go_wp2_with (first
          | (go_at_call 106; refine (kM _).mono ?_; rintro e wM ⟨rfl, hwM⟩; clear a0 a1 a2 a3 a4 a5 a6 a7 a8; have QwM : Hid (NBox wM w.heap.size b) := Q0.out.kept hwM Q0.out.lt; have BwM : Hid (Below w.heap.size w wM) := B0.out.trans (hwM.mono B0.out.size); obtain ⟨a0, a1, a2, a3, a4, a5, a6, a7, a8⟩ := QwM.out.fields))
        go_ret
        exact ⟨rfl, BwM.out⟩
      | true =>
        rw [hm] at kM
        cases hc : t.clean with
        | false =>
          have hO : t.odd = true := by rw [hodd, hm, hc]; rfl
          rw [hO, if_pos rfl] at hA
          rw [hA]
          rw [hc] at kS
          clear hO hA hodd hm hc
          go_enter Tryz.func64, Tryz.ntmps64
          go_wp2_with (first
            | (go_at_call 106; refine (kM _).mono ?_; rintro e wM ⟨rfl, hwM⟩; clear a0 a1 a2 a3 a4 a5 a6 a7 a8; have QwM : Hid (NBox wM w.heap.size b) := Q0.out.kept hwM Q0.out.lt; have BwM : Hid (Below w.heap.size w wM) := B0.out.trans (hwM.mono B0.out.size); obtain ⟨a0, a1, a2, a3, a4, a5, a6, a7, a8⟩ := QwM.out.fields)
            | (go_at_call 107; refine (kR _).mono ?_; rintro e wR ⟨rfl, hwR⟩; have BwR : Hid (Below w.heap.size w wR) := BwM.out.trans (hwR.mono BwM.out.size); have kS' := kS.out wR BwR.out)
            | (go_at_call 75; refine kS'.mono ?_; rintro e wS ⟨rfl, hwS⟩))
          go_ret
          exact ⟨rfl, BwR.out.trans (hwS.mono BwR.out.size)⟩
        | true =>
          have hO : t.odd = false := by rw [hodd, hm, hc]; rfl
          rw [hO, if_neg (by simp)] at hA
          rw [hA]
          rw [hc] at kS
          clear hO hA hodd hm hc
          go_enter Tryz.func64, Tryz.ntmps64
          go_wp2_with (first
            | (go_at_call 106; refine (kM _).mono ?_; rintro e wM ⟨rfl, hwM⟩; clear a0 a1 a2 a3 a4 a5 a6 a7 a8; have QwM : Hid (NBox wM w.heap.size b) := Q0.out.kept hwM Q0.out.lt; have BwM : Hid (Below w.heap.size w wM) := B0.out.trans (hwM.mono B0.out.size); obtain ⟨a0, a1, a2, a3, a4, a5, a6, a7, a8⟩ := QwM.out.fields)
            | (go_at_call 107; refine (kR _).mono ?_; rintro e wR ⟨rfl, hwR⟩; have BwR : Hid (Below w.heap.size w wR) := BwM.out.trans (hwR.mono BwM.out.size); have kS' := kS.out wR BwR.out)
            | (go_at_call 75; refine kS'.mono ?_; rintro e wS ⟨rfl, hwS⟩))
          go_ret
          exact ⟨rfl, BwR.out.trans (hwS.mono BwR.out.size)⟩
    · have dL : decide ((4096 : Int) < ((b.lb : Nat) : Int)) = false := by simp; omega
      clear hL
      cases hm : mayB b with
      | false =>
        have hO : t.odd = true := by rw [hodd, hm]; rfl
        rw [hO, if_pos rfl] at hA
        rw [hA]
        rw [hm] at kM
        clear hO hA hodd hm
        go_enter Tryz.func64, Tryz.ntmps64
        go_wp2_with (first
          | (go_at_call 106; refine (kM _).mono ?_; rintro e wM ⟨rfl, hwM⟩; clear a0 a1 a2 a3 a4 a5 a6 a7 a8; have QwM : Hid (NBox wM w.heap.size b) := Q0.out.kept hwM Q0.out.lt; have BwM : Hid (Below w.heap.size w wM) := B0.out.trans (hwM.mono B0.out.size); obtain ⟨a0, a1, a2, a3, a4, a5, a6, a7, a8⟩ := QwM.out.fields))
        go_ret
        exact ⟨rfl, BwM.out⟩
      | true =>
        rw [hm] at kM
        cases hc : t.clean with
        | false =>
          have hO : t.odd = true := by rw [hodd, hm, hc]; rfl
          rw [hO, if_pos rfl] at hA
          rw [hA]
          rw [hc] at kS
          clear hO hA hodd hm hc
          go_enter Tryz.func64, Tryz.ntmps64
          go_wp2_with (first
            | (go_at_call 106; refine (kM _).mono ?_; rintro e wM ⟨rfl, hwM⟩; clear a0 a1 a2 a3 a4 a5 a6 a7 a8; have QwM : Hid (NBox wM w.heap.size b) := Q0.out.kept hwM Q0.out.lt; have BwM : Hid (Below w.heap.size w wM) := B0.out.trans (hwM.mono B0.out.size); obtain ⟨a0, a1, a2, a3, a4, a5, a6, a7, a8⟩ := QwM.out.fields)
            | (go_at_call 107; refine (kR _).mono ?_; rintro e wR ⟨rfl, hwR⟩; have BwR : Hid (Below w.heap.size w wR) := BwM.out.trans (hwR.mono BwM.out.size); have kS' := kS.out wR BwR.out)
            | (go_at_call 75; refine kS'.mono ?_; rintro e wS ⟨rfl, hwS⟩))
          go_ret
          exact ⟨rfl, BwR.out.trans (hwS.mono BwR.out.size)⟩
        | true =>
          have hO : t.odd = false := by rw [hodd, hm, hc]; rfl
          rw [hO, if_neg (by simp)] at hA
          rw [hA]
          rw [hc] at kS
          clear hO hA hodd hm hc
          go_enter Tryz.func64, Tryz.ntmps64
          go_wp2_with (first
            | (go_at_call 106; refine (kM _).mono ?_; rintro e wM ⟨rfl, hwM⟩; clear a0 a1 a2 a3 a4 a5 a6 a7 a8; have QwM : Hid (NBox wM w.heap.size b) := Q0.out.kept hwM Q0.out.lt; have BwM : Hid (Below w.heap.size w wM) := B0.out.trans (hwM.mono B0.out.size); obtain ⟨a0, a1, a2, a3, a4, a5, a6, a7, a8⟩ := QwM.out.fields)
            | (go_at_call 107; refine (kR _).mono ?_; rintro e wR ⟨rfl, hwR⟩; have BwR : Hid (Below w.heap.size w wR) := BwM.out.trans (hwR.mono BwM.out.size); have kS' := kS.out wR BwR.out)
            | (go_at_call 75; refine kS'.mono ?_; rintro e wS ⟨rfl, hwS⟩))
          go_ret
          exact ⟨rfl, BwR.out.trans (hwS.mono BwR.out.size)⟩
  · have dT : decide ((4096 : Int) < ((b.txt.size : Nat) : Int)) = false := by simp; omega
    clear hT
    rcases Nat.lt_or_ge 4096 b.lb with hL | hL
    · have dL : decide ((4096 : Int) < ((b.lb : Nat) : Int)) = true := by simp; omega
      clear hL
      cases hm : mayB b with
      | false =>
        have hO : t.odd = true := by rw [hodd, hm]; rfl
        rw [hO, if_pos rfl] at hA
        rw [hA]
        rw [hm] at kM
        clear hO hA hodd hm
        go_enter Tryz.func64, Tryz.ntmps64
        go_wp2_with (first
          | (go_at_call 106; refine (kM _).mono ?_; rintro e wM ⟨rfl, hwM⟩; clear a0 a1 a2 a3 a4 a5 a6 a7 a8; have QwM : Hid (NBox wM w.heap.size b) := Q0.out.kept hwM Q0.out.lt; have BwM : Hid (Below w.heap.size w wM) := B0.out.trans (hwM.mono B0.out.size); obtain ⟨a0, a1, a2, a3, a4, a5, a6, a7, a8⟩ := QwM.out.fields))
        go_ret
        exact ⟨rfl, BwM.out⟩
      | true =>
        rw [hm] at kM
        cases hc : t.clean with
        | false =>
          have hO : t.odd = true := by rw [hodd, hm, hc]; rfl
          rw [hO, if_pos rfl] at hA
          rw [hA]
          rw [hc] at kS
          clear hO hA hodd hm hc
          go_enter Tryz.func64, Tryz.ntmps64
          go_wp2_with (first
            | (go_at_call 106; refine (kM _).mono ?_; rintro e wM ⟨rfl, hwM⟩; clear a0 a1 a2 a3 a4 a5 a6 a7 a8; have QwM : Hid (NBox wM w.heap.size b) := Q0.out.kept hwM Q0.out.lt; have BwM : Hid (Below w.heap.size w wM) := B0.out.trans (hwM.mono B0.out.size); obtain ⟨a0, a1, a2, a3, a4, a5, a6, a7, a8⟩ := QwM.out.fields)
            | (go_at_call 107; refine (kR _).mono ?_; rintro e wR ⟨rfl, hwR⟩; have BwR : Hid (Below w.heap.size w wR) := BwM.out.trans (hwR.mono BwM.out.size); have kS' := kS.out wR BwR.out)
            | (go_at_call 75; refine kS'.mono ?_; rintro e wS ⟨rfl, hwS⟩))
          go_ret
          exact ⟨rfl, BwR.out.trans (hwS.mono BwR.out.size)⟩
        | true =>
          have hO : t.odd = false := by rw [hodd, hm, hc]; rfl
          rw [hO, if_neg (by simp)] at hA
          rw [hA]
          rw [hc] at kS
          clear hO hA hodd hm hc
          go_enter Tryz.func64, Tryz.ntmps64
          go_wp2_with (first
            | (go_at_call 106; refine (kM _).mono ?_; rintro e wM ⟨rfl, hwM⟩; clear a0 a1 a2 a3 a4 a5 a6 a7 a8; have QwM : Hid (NBox wM w.heap.size b) := Q0.out.kept hwM Q0.out.lt; have BwM : Hid (Below w.heap.size w wM) := B0.out.trans (hwM.mono B0.out.size); obtain ⟨a0, a1, a2, a3, a4, a5, a6, a7, a8⟩ := QwM.out.fields)
            | (go_at_call 107; refine (kR _).mono ?_; rintro e wR ⟨rfl, hwR⟩; have BwR : Hid (Below w.heap.size w wR) := BwM.out.trans (hwR.mono BwM.out.size); have kS' := kS.out wR BwR.out)
            | (go_at_call 75; refine kS'.mono ?_; rintro e wS ⟨rfl, hwS⟩))
          go_ret
          exact ⟨rfl, BwR.out.trans (hwS.mono BwR.out.size)⟩
    · have dL : decide ((4096 : Int) < ((b.lb : Nat) : Int)) = false := by simp; omega
      clear hL
      cases hm : mayB b with
      | false =>
        have hO : t.odd = true := by rw [hodd, hm]; rfl
        rw [hO, if_pos rfl] at hA
        rw [hA]
        rw [hm] at kM
        clear hO hA hodd hm
        go_enter Tryz.func64, Tryz.ntmps64
        go_wp2_with (first
          | (go_at_call 106; refine (kM _).mono ?_; rintro e wM ⟨rfl, hwM⟩; clear a0 a1 a2 a3 a4 a5 a6 a7 a8; have QwM : Hid (NBox wM w.heap.size b) := Q0.out.kept hwM Q0.out.lt; have BwM : Hid (Below w.heap.size w wM) := B0.out.trans (hwM.mono B0.out.size); obtain ⟨a0, a1, a2, a3, a4, a5, a6, a7, a8⟩ := QwM.out.fields))
        go_ret
        exact ⟨rfl, BwM.out⟩
      | true =>
        rw [hm] at kM
        cases hc : t.clean with
        | false =>
          have hO : t.odd = true := by rw [hodd, hm, hc]; rfl
          rw [hO, if_pos rfl] at hA
          rw [hA]
          rw [hc] at kS
          clear hO hA hodd hm hc
          go_enter Tryz.func64, Tryz.ntmps64
          go_wp2_with (first
            | (go_at_call 106; refine (kM _).mono ?_; rintro e wM ⟨rfl, hwM⟩; clear a0 a1 a2 a3 a4 a5 a6 a7 a8; have QwM : Hid (NBox wM w.heap.size b) := Q0.out.kept hwM Q0.out.lt; have BwM : Hid (Below w.heap.size w wM) := B0.out.trans (hwM.mono B0.out.size); obtain ⟨a0, a1, a2, a3, a4, a5, a6, a7, a8⟩ := QwM.out.fields)
            | (go_at_call 107; refine (kR _).mono ?_; rintro e wR ⟨rfl, hwR⟩; have BwR : Hid (Below w.heap.size w wR) := BwM.out.trans (hwR.mono BwM.out.size); have kS' := kS.out wR BwR.out)
            | (go_at_call 75; refine kS'.mono ?_; rintro e wS ⟨rfl, hwS⟩))
          go_ret
          exact ⟨rfl, BwR.out.trans (hwS.mono BwR.out.size)⟩
        | true =>
          have hO : t.odd = false := by rw [hodd, hm, hc]; rfl
          rw [hO, if_neg (by simp)] at hA
          rw [hA]
          rw [hc] at kS
          clear hO hA hodd hm hc
          go_enter Tryz.func64, Tryz.ntmps64
          go_wp2_with (first
            | (go_at_call 106; refine (kM _).mono ?_; rintro e wM ⟨rfl, hwM⟩; clear a0 a1 a2 a3 a4 a5 a6 a7 a8; have QwM : Hid (NBox wM w.heap.size b) := Q0.out.kept hwM Q0.out.lt; have BwM : Hid (Below w.heap.size w wM) := B0.out.trans (hwM.mono B0.out.size); obtain ⟨a0, a1, a2, a3, a4, a5, a6, a7, a8⟩ := QwM.out.fields)
            | (go_at_call 107; refine (kR _).mono ?_; rintro e wR ⟨rfl, hwR⟩; have BwR : Hid (Below w.heap.size w wR) := BwM.out.trans (hwR.mono BwM.out.size); have kS' := kS.out wR BwR.out)
            | (go_at_call 75; refine kS'.mono ?_; rintro e wS ⟨rfl, hwS⟩))
          go_ret
          exact ⟨rfl, BwR.out.trans (hwS.mono BwR.out.size)⟩
end Go.Proofs.YtnjbppfanmmifaaGreatDoor
namespace Go.Proofs.YtnjbppfanmmifaaGreatDoor
open Go.RowKit
set_option linter.unusedVariables false

theorem RowN.take {Q : Nb → Tr → Prop} {w : World} {a : Option Addr} {len cap : Nat} {l : List Tr} (h : RowN Q w a len cap l) {i : Nat} (hi : i ≤ len) : RowN Q w a i cap (l.take i) := by
  obtain ⟨h0, h1, h2⟩ := h
  refine ⟨by rw [List.length_take]; omega, ⟨Nat.le_trans hi h1.1, h1.2.1, h1.2.2.1, Nat.le_trans (Nat.mul_le_mul_right _ hi) h1.2.2.2⟩, ?_⟩
  rcases h2 with rfl | ⟨b, off, ha, hc⟩
  · exact .inl (by simp)
  · refine .inr ⟨b, off, ha, fun j hj => ?_⟩
    have hj' : j < l.length := by rw [List.length_take] at hj; omega
    obtain ⟨nb, hn, hQ⟩ := hc j hj'
    exact ⟨nb, hn, by rw [List.getElem_take]; exact hQ⟩

set_option maxHeartbeats 1000000 in
/-- The closure: is a node the key in the box gk? -/
theorem twcc_any {D : Nat} (gk : Nat) (kb nb : Nb) (u x : Tr) (w : World) (hk : NBox w gk kb) (hu : Nd D w kb u) (hx : Nd D w nb x) (v : Bool) (hv : v = true ↔ x = u) :
    Calls Tryz.prog 109 (#[.agg nb.arr] ++ #[.pointer (some ⟨gk, 0, none⟩)]) w fun e w' => e = .returned (.bool v) ∧ Below w.heap.size w w' := by
  show Calls Tryz.prog 109 #[.agg nb.arr, .pointer (some ⟨gk, 0, none⟩)] w _
  have hal := alloc_below w (.cells nb.arr 26)
  have ks := sam_any (hx.kept hal) (hu.kept hal) hv
  obtain ⟨a0, a1, a2, a3, a4, a5, a6, a7, a8⟩ := (nbox_new w nb).fields
  obtain ⟨b0, b1, b2, b3, b4, b5, b6, b7, b8⟩ := (hk.kept hal hk.lt).fields
  have hB : Hid (Below w.heap.size w (w.alloc (.cells nb.arr 26))) := hal
  clear hal hk hu hx hv
  go_enter Tryz.func109, Tryz.ntmps109
  go_wp2_with (go_at_call 75; refine ks.mono ?_; rintro e w1 ⟨rfl, hb⟩)
  go_ret
  exact ⟨rfl, hB.out.trans (hb.mono hB.out.size)⟩

set_option maxHeartbeats 4000000 in
set_option maxRecDepth 100000 in
theorem indf_any {D : Nat} (a : Option Addr) (n c : Nat) (l : List Tr) (gk : Nat) (kb : Nb) (u : Tr) (w : World) (hk : NBox w gk kb) (hu : Nd D w kb u) (hl : RowN (Nd D w) w a n c l) :
    Calls Tryz.prog 145 #[.slice a n c, .func (.func 109) #[] #[.pointer (some ⟨gk, 0, none⟩)]] w fun e w' => (∃ r : Int, e = .returned (.int .i64 r) ∧ (0 ≤ r ↔ u ∈ l)) ∧ Below w.heap.size w w' := by
  have e49 : ∀ args w, (callFunc 109 args).run Tryz.prog w = .ok (.enter 109 args) w := enters_of Tryz.func109 (by kernel_rfl) rfl
  have hx : Hid (l.length = n) := hl.1
  have mk := hl.2.1.1
  have mk' := hl.2.1.2.1
  unfold maxLen at mk'
  have hA : Hid (RowN (Nd D w) w a n c l) := hl
  have hK : Hid (NBox w gk kb ∧ Nd D w kb u) := ⟨hk, hu⟩
  clear hl hk hu
  go_enter Tryz.func145, Tryz.ntmps145
  go_wp2
  go_loopw [5, 8] (fun _ s8 wr => ∃ (i : Nat), i ≤ n ∧ s8 = .int .i64 i ∧ Hid (Below w.heap.size w wr) ∧ Hid (u ∉ l.take i)) (fun _ i _ => n - (intOf i).toNat)
  case atStart => exact ⟨0, Nat.zero_le _, rfl, Below.refl _ _, by show ¬ _; simp⟩
  case round =>
    obtain ⟨i, him, rfl, hbl, hT⟩ := hrel
    by_cases hlt : i < n
    · have hz : (i : Int) < (n : Int) := by omega
      have hix : i < l.length := by rw [hx.out]; exact hlt
      obtain ⟨bk, ok, nk, rfl, hck, hNk, hbk⟩ := row_el hA.out hbl.out hix
      obtain ⟨f0, f1, f2, f3, f4, f5, f6, f7, f8⟩ := elem_fields hck
      have kk := fun (v : Bool) (h : v = true ↔ l[i] = u) => twcc_any gk kb nk u l[i] wr (hK.out.1.kept hbl.out hK.out.1.lt) (hK.out.2.kept hbl.out) hNk v h
      have wi : IntKind.i64.wrap ((i : Int) + 1) = (i : Int) + 1 := by rw [IntKind.wrap_i64]; omega
      by_cases hE : l[i] = u
      · have k1 := kk true (by simp [hE])
        have hm : Hid (u ∈ l) := by show u ∈ l; rw [← hE]; exact List.getElem_mem hix
        clear hck hNk kk hE hbk
        go_wp2_with (go_at_fn 109; refine k1.mono ?_; rintro e w1 ⟨rfl, hb1⟩)
        go_ret
        exact ⟨⟨_, rfl, by simp [hm.out]⟩, hbl.out.trans (hb1.mono hbl.out.size)⟩
      · have k1 := kk false (by simp [hE])
        have hT' : Hid (u ∉ l.take (i + 1)) := by
          show ¬ _
          rw [List.take_succ_eq_append_getElem hix, List.mem_append]
          rintro (h | h)
          · exact hT.out h
          · exact hE (List.mem_singleton.1 h).symm
        clear hck hNk kk hE hbk
        go_wp2_with (go_at_fn 109; refine k1.mono ?_; rintro e w1 ⟨rfl, hb1⟩)
        go_roundw
        case rel => exact ⟨i + 1, by omega, by go_num, hbl.out.trans (hb1.mono hbl.out.size), hT'⟩
        case measure => simp [intOf]; omega
    · have hz : ¬ (i : Int) < (n : Int) := by omega
      have hm : Hid (u ∉ l) := by
        show ¬ _
        have := hT.out
        rwa [List.take_of_length_le (by rw [hx.out]; omega)] at this
      go_wp2
      go_ret
      exact ⟨⟨-1, rfl, by simp [hm.out]⟩, hbl.out⟩

set_option maxHeartbeats 1000000 in
theorem contf_any {D : Nat} (a : Option Addr) (n c : Nat) (l : List Tr) (gk : Nat) (kb : Nb) (u : Tr) (w : World) (hk : NBox w gk kb) (hu : Nd D w kb u) (hl : RowN (Nd D w) w a n c l) (v : Bool) (hv : v = true ↔ u ∈ l) :
    Calls Tryz.prog 108 #[.slice a n c, .func (.func 109) #[] #[.pointer (some ⟨gk, 0, none⟩)]] w fun e w' => e = .returned (.bool v) ∧ Below w.heap.size w w' := by
  have ki := indf_any a n c l gk kb u w hk hu hl
  have hd : Hid (∀ r : Int, (0 ≤ r ↔ u ∈ l) → decide (0 ≤ r) = v) := fun r hr => by rw [Bool.eq_iff_iff, hv, decide_eq_true_iff]; exact hr
  clear hk hu hl hv
  go_enter Tryz.func108, Tryz.ntmps108
  go_wp2_with (go_at_call 145; refine ki.mono ?_; rintro e w1 ⟨⟨r, rfl, hr⟩, hb⟩; have hd' := hd.out r hr; clear hr hd)
  go_ret
  exact ⟨rfl, hb⟩

set_option maxHeartbeats 4000000 in
set_option maxRecDepth 100000 in
/-- tree.twice. -/
theorem gtwice_any {D : Nat} (a : Option Addr) (n c : Nat) (l : List Tr) (w : World) (hl : RowN (Nd D w) w a n c l) (v : Bool) (hv : v = true ↔ ¬ l.Nodup) :
    Calls Tryz.prog 66 #[.slice a n c] w fun e w' => e = .returned (.bool v) ∧ Below w.heap.size w w' := by
  have hx : Hid (l.length = n) := hl.1
  have mk := hl.2.1.1
  have mk' := hl.2.1.2.1
  unfold maxLen at mk'
  have hA : Hid (RowN (Nd D w) w a n c l) := hl
  have hV : Hid (v = true ↔ ¬ l.Nodup) := hv
  clear hl hv
  go_enter Tryz.func66, Tryz.ntmps66
  go_wp2
  go_loopw [3, 4, 7] (fun _ _ s7 wr => ∃ (i : Nat), i ≤ n ∧ s7 = .int .i64 i ∧ Hid (Below w.heap.size w wr) ∧ Hid ((l.take i).Nodup)) (fun _ _ i _ => n - (intOf i).toNat)
  case atStart => exact ⟨0, Nat.zero_le _, rfl, Below.refl _ _, by show List.Nodup _; simp⟩
  case round =>
    obtain ⟨i, him, rfl, hbl, hT⟩ := hrel
    by_cases hlt : i < n
    · have hz : (i : Int) < (n : Int) := by omega
      have hix : i < l.length := by rw [hx.out]; exact hlt
      obtain ⟨bk, ok, nk, rfl, hck, hNk, hbk⟩ := row_el hA.out hbl.out hix
      obtain ⟨f0, f1, f2, f3, f4, f5, f6, f7, f8⟩ := elem_fields hck
      have hal := alloc_below wr (.cells nk.arr 26)
      have hB : Hid (Below w.heap.size w (wr.alloc (.cells nk.arr 26))) := hbl.out.trans (hal.mono hbl.out.size)
      have kk := fun (v : Bool) (h : v = true ↔ l[i] ∈ l.take i) => contf_any (some ⟨bk, ok, none⟩) i c (l.take i) wr.heap.size nk l[i] (wr.alloc (.cells nk.arr 26)) (nbox_new wr nk) (hNk.kept hal) ((hA.out.kept (R := Nd D (wr.alloc (.cells nk.arr 26))) hB.out fun _ _ _ q => q.kept hB.out).take him) v h
      have wi : IntKind.i64.wrap ((i : Int) + 1) = (i : Int) + 1 := by rw [IntKind.wrap_i64]; omega
      have hic : i ≤ c := by omega
      by_cases hE : l[i] ∈ l.take i
      · have k1 := kk true (by simp [hE])
        have hv : v = true := hV.out.2 (fun hn => by
          have h1 : (l.take (i + 1)).Nodup := hn.sublist (List.take_sublist _ _)
          rw [List.take_succ_eq_append_getElem hix] at h1
          exact (List.nodup_append.1 h1).2.2 _ hE _ (List.mem_singleton.2 rfl) rfl)
        subst hv
        clear hck hNk kk hE hbk hal
        go_wp2_with (go_at_call 108; refine k1.mono ?_; rintro e w1 ⟨rfl, hb1⟩)
        go_ret
        exact ⟨rfl, hB.out.trans (hb1.mono hB.out.size)⟩
      · have k1 := kk false (by simp [hE])
        have hT' : Hid ((l.take (i + 1)).Nodup) := by
          show List.Nodup _
          rw [List.take_succ_eq_append_getElem hix]
          refine List.nodup_append.2 ⟨hT.out, by simp, fun x hx' y hy he => ?_⟩
          rw [List.mem_singleton] at hy
          subst hy he
          exact hE hx'
        clear hck hNk kk hE hbk hal
        go_wp2_with (go_at_call 108; refine k1.mono ?_; rintro e w1 ⟨rfl, hb1⟩)
        go_roundw
        case rel => exact ⟨i + 1, by omega, by go_num, hB.out.trans (hb1.mono hB.out.size), hT'⟩
        case measure => simp [intOf]; omega
    · have hz : ¬ (i : Int) < (n : Int) := by omega
      have hv : v = false := not_true hV.out (fun h => h (by
        have := hT.out
        rwa [List.take_of_length_le (by rw [hx.out]; omega)] at this))
      subst hv
      go_wp2
      go_ret
      exact ⟨rfl, hbl.out⟩
end Go.Proofs.YtnjbppfanmmifaaGreatDoor
namespace Go.Proofs.YtnjbppfanmmifaaGreatDoor
open Go.RowKit
set_option linter.unusedVariables false

/-- tree.fault. -/
theorem fault_any {D : Nat} {t : Tr} {b : Nb} {w : World} (hN : Nd D w b t) : Calls Tryz.prog 64 #[.agg b.arr] w fun e w' => e = .returned (.int .i64 (alF t)) ∧ Below w.heap.size w w' := by
  cases D with
  | zero => exact absurd hN id
  | succ D =>
    by_cases h2 : b.kind = 2
    · exact fault_k2 hN h2
    by_cases h3 : b.kind = 3
    · exact fault_k3 hN h3
    by_cases h5 : b.kind = 5
    · exact fault_k5 hN h5
    by_cases h6 : b.kind = 6
    · exact fault_k6 hN h6
    exact fault_ko hN h2 h3 h5 h6

/-- A fault's number in a box. -/
def IC (B gw : Nat) (s : Int) (w : World) : Prop := w.heap[gw]? = some (.cells #[.int .i64 s] 27 (0, 0)) ∧ B ≤ w.heap.size
set_option maxHeartbeats 2000000 in
theorem chkc_any (B gw : Nat) (hB : B ≤ gw) (s : Int) (w : World) (b : Nb) (t : Tr) (d D : Nat) (hI : IC B gw s w) (hN : NdS (· < B) D w b t) :
    Calls Tryz.prog 63 (#[.agg b.arr, .int .i64 d] ++ #[.pointer (some ⟨gw, 0, none⟩)]) w fun e w' => e = .returned (.bool (Tr.flt alF t d s).1) ∧ IC B gw (Tr.flt alF t d s).2 w' ∧ Kp (fun k => k = gw) w w' := by
  show Calls Tryz.prog 63 #[.agg b.arr, .int .i64 d, .pointer (some ⟨gw, 0, none⟩)] w _
  have hal := alloc_below w (.cells b.arr 26)
  obtain ⟨a0, a1, a2, a3, a4, a5, a6, a7, a8⟩ := (nbox_new w b).fields
  have kF := fault_any (hN.nd.kept hal)
  have hI' : Hid (IC B gw s w) := hI
  have hal' : Hid (Below w.heap.size w (w.alloc (.cells b.arr 26))) := hal
  have hlt : Hid (gw < w.heap.size) := block_lt hI.1
  have hR1 : Hid ((Tr.flt alF t d s).1 = decide (alF t = 0)) := rfl
  have hR2 : Hid ((Tr.flt alF t d s).2 = alF t) := rfl
  generalize (Tr.flt alF t d s).1 = R1 at *
  generalize (Tr.flt alF t d s).2 = R2 at *
  generalize alF t = A at *
  clear hal hI hN
  by_cases hz : A = 0
  · subst hz
    obtain rfl : R1 = true := by rw [hR1.out]; rfl
    obtain rfl : R2 = 0 := hR2.out
    go_enter Tryz.func63, Tryz.ntmps63
    go_wp2_with (go_at_call 64; refine kF.mono ?_; rintro e w2 ⟨rfl, hb2⟩; have H2 := (hb2.block gw (Nat.lt_of_lt_of_le hlt.out hal'.out.size)).trans ((hal'.out.block gw hlt.out).trans hI'.out.1); have c2 := cell_of_one H2; have z2 := free_of_one H2; have H3 := one_setCell (u := .int .i64 0) H2; have c3 := cell_of_one H3; have hbw := hal'.out.trans (hb2.mono hal'.out.size))
    go_ret
    exact ⟨rfl, ⟨H3, Nat.le_trans hI'.out.2 (Nat.le_trans hbw.size (by simp [World.setCell]))⟩, (Kp.of hbw).trans (kp_set (C := fun k => k = gw) rfl _)⟩
  · obtain rfl : R1 = false := by rw [hR1.out]; exact decide_eq_false hz
    have hz' : (A == 0) = false := by simp [hz]
    obtain rfl : R2 = A := hR2.out
    clear hz
    go_enter Tryz.func63, Tryz.ntmps63
    go_wp2_with (go_at_call 64; refine kF.mono ?_; rintro e w2 ⟨rfl, hb2⟩; have H2 := (hb2.block gw (Nat.lt_of_lt_of_le hlt.out hal'.out.size)).trans ((hal'.out.block gw hlt.out).trans hI'.out.1); have c2 := cell_of_one H2; have z2 := free_of_one H2; have H3 := one_setCell (u := .int .i64 R2) H2; have c3 := cell_of_one H3; have hbw := hal'.out.trans (hb2.mono hal'.out.size))
    go_ret
    exact ⟨rfl, ⟨H3, Nat.le_trans hI'.out.2 (Nat.le_trans hbw.size (by simp [World.setCell]))⟩, (Kp.of hbw).trans (kp_set (C := fun k => k = gw) rfl _)⟩
theorem takes_flt {B gw : Nat} (hB : B ≤ gw) : Takes 63 #[.pointer (some ⟨gw, 0, none⟩)] Int (Tr.flt alF) (IC B gw) (fun _ d t => d + t.deep ≤ 100) (fun k => k = gw) B where
  call := fun s w b t d D hI hJ hN => chkc_any B gw hB s w b t d D hI hN
  enter := enters_of Tryz.func63 (by kernel_rfl) rfl
  keeps := fun s w w' hI hb => ⟨(hb.block gw (block_lt hI.1)).trans hI.1, Nat.le_trans hI.2 hb.size⟩
  room := fun s w hI => ⟨hI.2, fun k hk => by subst hk; exact ⟨hB, block_lt hI.1⟩⟩
  first := fun s d t u hJ hu _ => by
    have : u.deep < t.deep := by
      rcases hu with hu | hu
      · exact Tr.key_deep hu
      · exact Tr.kid_deep hu
    exact ⟨by omega, by omega⟩
  more := fun s d u t' d' hJ _ => hJ
set_option maxHeartbeats 2000000 in
theorem chkd_any (p : Tr → Bool) (hp : ∀ t : Tr, p t = true ↔ t.keys.Nodup) (B : Nat) (w : World) (b : Nb) (t : Tr) (d D : Nat) (hN : NdS (· < B) D w b t) :
    Calls Tryz.prog 65 (#[.agg b.arr, .int .i64 d] ++ #[]) w fun e w' => e = .returned (.bool (p t)) ∧ Below w.heap.size w w' := by
  show Calls Tryz.prog 65 #[.agg b.arr, .int .i64 d] w _
  cases D with
  | zero => exact absurd hN id
  | succ D =>
    have hal := alloc_below w (.cells b.arr 26)
    obtain ⟨a0, a1, a2, a3, a4, a5, a6, a7, a8⟩ := (nbox_new w b).fields
    have kT := gtwice_any b.ak b.lk b.ck t.keys (w.alloc (.cells b.arr 26)) ((hN.nd.kept hal).2.2.2.1) (!p t) (by rw [← hp t]; simp)
    have hal' : Hid (Below w.heap.size w (w.alloc (.cells b.arr 26))) := hal
    generalize p t = v at *
    clear hal hN hp
    cases v with
    | false =>
      go_enter Tryz.func65, Tryz.ntmps65
      go_wp2_with (go_at_call 66; refine kT.mono ?_; rintro e w2 ⟨rfl, hb2⟩)
      go_ret
      exact ⟨rfl, hal'.out.trans (hb2.mono hal'.out.size)⟩
    | true =>
      go_enter Tryz.func65, Tryz.ntmps65
      go_wp2_with (go_at_call 66; refine kT.mono ?_; rintro e w2 ⟨rfl, hb2⟩)
      go_ret
      exact ⟨rfl, hal'.out.trans (hb2.mono hal'.out.size)⟩
theorem takes_twc (p : Tr → Bool) (hp : ∀ t : Tr, p t = true ↔ t.keys.Nodup) (B : Nat) : Takes 65 #[] Unit (Tr.twc p) (fun _ w => B ≤ w.heap.size) (fun _ d t => d + t.deep ≤ 100) (fun _ => False) B where
  call := fun s w b t d D hI hJ hN => (chkd_any p hp B w b t d D hN).mono fun e w' ⟨h1, h2⟩ => ⟨h1, Nat.le_trans hI h2.size, Kp.of h2⟩
  enter := enters_of Tryz.func65 (by kernel_rfl) rfl
  keeps := fun s w w' hI hb => Nat.le_trans hI hb.size
  room := fun s w hI => ⟨hI, fun k hk => hk.elim⟩
  first := fun s d t u hJ hu _ => by
    have : u.deep < t.deep := by
      rcases hu with hu | hu
      · exact Tr.key_deep hu
      · exact Tr.kid_deep hu
    exact ⟨by omega, by omega⟩
  more := fun s d u t' d' hJ _ => hJ

set_option maxHeartbeats 4000000 in
set_option maxRecDepth 100000 in
/-- tree.Check. -/
theorem gcheck_any {D : Nat} {t : Tr} {b : Nb} {w : World} (hN : Nd D w b t) : Calls Tryz.prog 40 #[.agg b.arr] w fun e w' => (∃ er, e = .returned (.int .i64 er) ∧ Tr.ChkIs alF t er) ∧ Below w.heap.size w w' := by
  have hal := alloc_below w (.cells b.arr 26)
  have Q0 : Hid (NBox (w.alloc (.cells b.arr 26)) w.heap.size b) := nbox_new w b
  have B0 : Hid (Below w.heap.size w (w.alloc (.cells b.arr 26))) := hal
  obtain ⟨a0, a1, a2, a3, a4, a5, a6, a7, a8⟩ := (nbox_new w b).fields
  have kM := meas_any (hN.kept hal)
  have hN' : Hid (Nd D w b t) := hN
  clear hal hN
  by_cases hs : t.size ≤ 1024
  · have hm : t.mes = (t.size, t.deep) := if_pos hs
    rw [hm] at kM
    have hs1 : decide ((1024 : Int) < ((t.size : Nat) : Int)) = false := by simp; omega
    have hs' : Hid (t.size ≤ 1024) := hs
    clear hm hs
    by_cases hd : t.deep ≤ 24
    · have hd1 : decide ((24 : Int) < ((t.deep : Nat) : Int)) = false := by simp; omega
      have hd' : Hid (t.deep ≤ 24) := hd
      clear hd
      obtain ⟨p, hp⟩ : ∃ p : Tr → Bool, ∀ t : Tr, p t = true ↔ t.keys.Nodup := ⟨fun t => @decide t.keys.Nodup (Classical.propDecidable _), fun t => by simp⟩
      have kE : Hid (∀ w2, Below w.heap.size w w2 → Calls Tryz.prog 62 #[.agg b.arr, .int .i64 1, .func (.func 63) #[] #[.pointer (some ⟨w2.heap.size, 0, none⟩)]] (w2.alloc (.cells #[.int .i64 0] 27)) fun e w' => e = .returned (.bool (Tr.go (Tr.flt alF) (t.seq 1) 0).1) ∧ w'.heap[w2.heap.size]? = some (.cells #[.int .i64 (t.forms alF)] 27 (0, 0)) ∧ Below w2.heap.size (w2.alloc (.cells #[.int .i64 0] 27)) w') := fun w2 hb => by
        have hb2 := alloc_below w2 (.cells #[.int .i64 0] 27)
        have h := each_any (takes_flt (B := w2.heap.size) (gw := w2.heap.size) (Nat.le_refl _)) D t 1 b 0 (w2.alloc (.cells #[.int .i64 0] 27)) ((hN'.out.kept hb).all.below hb2 fun k hk => hk) ⟨heap_alloc_new w2 _, hb2.size⟩ (by have := hd'.out; omega)
        refine h.mono fun e w' ⟨h1, h2, h3⟩ => ⟨h1, ?_, h3.below hb2.size (fun k hk => Nat.le_of_eq hk.symm)⟩
        rw [Tr.flt_all alF_shaped] at h2
        exact h2.1
      have kT : Hid (∀ w2, Below w.heap.size w w2 → Calls Tryz.prog 62 #[.agg b.arr, .int .i64 1, .func (.func 65) #[] #[]] w2 fun e w' => e = .returned (.bool (Tr.go (Tr.twc p) (t.seq 1) ()).1) ∧ Below w2.heap.size w2 w') := fun w2 hb => by
        have h := each_any (takes_twc p hp w2.heap.size) D t 1 b () w2 (hN'.out.kept hb).all (Nat.le_refl _) (by have := hd'.out; omega)
        exact h.mono fun e w' ⟨h1, h2, h3⟩ => ⟨h1, h3.none⟩
      have hT : Hid ((Tr.go (Tr.twc p) (t.seq 1) ()).1 = true ↔ t.All (fun u => u.keys.Nodup)) := by
        show _ ↔ _
        rw [Tr.twc_all]
        have : (fun u : Tr => p u = true) = fun u => u.keys.Nodup := funext fun u => propext (hp u)
        rw [this]
      generalize (Tr.go (Tr.flt alF) (t.seq 1) 0).1 = R0 at *
      generalize (Tr.go (Tr.twc p) (t.seq 1) ()).1 = R1 at *
      have hF : Hid (∃ A, t.forms alF = A) := ⟨_, rfl⟩
      obtain ⟨A, hA⟩ := hF.out
      rw [hA] at kE
      have hA' : Hid (t.forms alF = A) := hA
      clear hF hA hp
      generalize t.size = S at kM hs1
      generalize t.deep = E at kM hd1
      by_cases hz : A = 0
      · subst hz
        cases R1 with
        | true =>
          go_enter Tryz.func40, Tryz.ntmps40
          go_wp2_with (first
            | (go_at_call 61; refine kM.mono ?_; rintro e w2 ⟨rfl, hb2⟩; clear a0 a1 a2 a3 a4 a5 a6 a7 a8; have Q2 := Q0.out.kept hb2 Q0.out.lt; have Q3 := Q2.kept (alloc_below w2 (.cells #[.int .i64 0] 27)) Q2.lt; obtain ⟨a0, a1, a2, a3, a4, a5, a6, a7, a8⟩ := Q3.fields; have B2 := B0.out.trans (hb2.mono B0.out.size); have k2 := kE.out w2 B2)
            | (go_at_call 62; refine k2.mono ?_; rintro e w4 ⟨rfl, hw4, hb4⟩; clear k2 a0 a1 a2 a3 a4 a5 a6 a7 a8; have c4 := cell_of_one hw4; have Q4 := Q3.kept hb4 Q2.lt; obtain ⟨a0, a1, a2, a3, a4, a5, a6, a7, a8⟩ := Q4.fields; have B4 := B2.trans (((alloc_below w2 (.cells #[.int .i64 0] 27)).trans hb4).mono B2.size); have k3 := kT.out w4 B4)
            | (go_at_call 62; refine k3.mono ?_; rintro e w5 ⟨rfl, hb5⟩))
          go_ret
          exact ⟨⟨0, rfl, .inr (.inr (.inr (.inr ⟨hs'.out, hd'.out, hA'.out, (by simpa using hT.out), rfl⟩)))⟩, B4.trans (hb5.mono B4.size)⟩
        | false =>
          go_enter Tryz.func40, Tryz.ntmps40
          go_wp2_with (first
            | (go_at_call 61; refine kM.mono ?_; rintro e w2 ⟨rfl, hb2⟩; clear a0 a1 a2 a3 a4 a5 a6 a7 a8; have Q2 := Q0.out.kept hb2 Q0.out.lt; have Q3 := Q2.kept (alloc_below w2 (.cells #[.int .i64 0] 27)) Q2.lt; obtain ⟨a0, a1, a2, a3, a4, a5, a6, a7, a8⟩ := Q3.fields; have B2 := B0.out.trans (hb2.mono B0.out.size); have k2 := kE.out w2 B2)
            | (go_at_call 62; refine k2.mono ?_; rintro e w4 ⟨rfl, hw4, hb4⟩; clear k2 a0 a1 a2 a3 a4 a5 a6 a7 a8; have c4 := cell_of_one hw4; have Q4 := Q3.kept hb4 Q2.lt; obtain ⟨a0, a1, a2, a3, a4, a5, a6, a7, a8⟩ := Q4.fields; have B4 := B2.trans (((alloc_below w2 (.cells #[.int .i64 0] 27)).trans hb4).mono B2.size); have k3 := kT.out w4 B4)
            | (go_at_call 62; refine k3.mono ?_; rintro e w5 ⟨rfl, hb5⟩))
          go_ret
          exact ⟨⟨9, rfl, .inr (.inr (.inr (.inl ⟨hs'.out, hd'.out, hA'.out, (by simpa using hT.out), rfl⟩)))⟩, B4.trans (hb5.mono B4.size)⟩
      · have hz1 : (A != 0) = true := by simp [hz]
        have hz2 : (A == 0) = false := by simp [hz]
        have hz' : Hid (A ≠ 0) := hz
        clear hz
        go_enter Tryz.func40, Tryz.ntmps40
        go_wp2_with (first
          | (go_at_call 61; refine kM.mono ?_; rintro e w2 ⟨rfl, hb2⟩; clear a0 a1 a2 a3 a4 a5 a6 a7 a8; have Q2 := Q0.out.kept hb2 Q0.out.lt; have Q3 := Q2.kept (alloc_below w2 (.cells #[.int .i64 0] 27)) Q2.lt; obtain ⟨a0, a1, a2, a3, a4, a5, a6, a7, a8⟩ := Q3.fields; have B2 := B0.out.trans (hb2.mono B0.out.size); have k2 := kE.out w2 B2)
          | (go_at_call 62; refine k2.mono ?_; rintro e w4 ⟨rfl, hw4, hb4⟩; clear k2 a0 a1 a2 a3 a4 a5 a6 a7 a8; have c4 := cell_of_one hw4; have B4 := B2.trans (((alloc_below w2 (.cells #[.int .i64 0] 27)).trans hb4).mono B2.size)))
        go_ret
        exact ⟨⟨A, rfl, .inr (.inr (.inl ⟨hs'.out, hd'.out, by rw [hA'.out]; exact hz'.out, hA'.out.symm⟩))⟩, B4⟩
    · have hd1 : decide ((24 : Int) < ((t.deep : Nat) : Int)) = true := by simp; omega
      have hd' : Hid (24 < t.deep) := by show _ < _; omega
      clear hd
      generalize t.size = S at kM hs1
      generalize t.deep = E at kM hd1
      go_enter Tryz.func40, Tryz.ntmps40
      go_wp2_with (go_at_call 61; refine kM.mono ?_; rintro e w2 ⟨rfl, hb2⟩)
      go_ret
      exact ⟨⟨7, rfl, .inr (.inl ⟨hs'.out, hd'.out, rfl⟩)⟩, B0.out.trans (hb2.mono B0.out.size)⟩
  · have hm : t.mes = (1025, 1025) := if_neg hs
    rw [hm] at kM
    have hs' : Hid (1024 < t.size) := by show _ < _; omega
    clear hm hs
    go_enter Tryz.func40, Tryz.ntmps40
    go_wp2_with (go_at_call 61; refine kM.mono ?_; rintro e w2 ⟨rfl, hb2⟩)
    go_ret
    exact ⟨⟨8, rfl, .inl ⟨hs'.out, rfl⟩⟩, B0.out.trans (hb2.mono B0.out.size)⟩
end Go.Proofs.YtnjbppfanmmifaaGreatDoor
