/-
  Groups gone over from the last one on: slices.Backward.
-/
import Derived.Test.YtjdceigndleadaaGreatDoorPutv
namespace Go.Proofs.YtjdceigndleadaaGreatDoor
open Go.RowKit Go.Shelf
attribute [local go_sem] Oper.semAt_some

/-- A place, and what lies there. -/
abbrev Bk (len : Nat) (P : Int → Prop) := { x : Nat × Int // x.1 < len ∧ P x.2 }
/-- What has come: the places, from the last one on; each with what may lie there. -/
def Desc (len : Nat) (P : Int → Prop) (Z : Nat → Int → Prop) (ys : List (Bk len P)) (k : Nat) : Prop := (ys.map fun x => x.1.1) = upto (fun j => len - 1 - j) k ∧ ∀ x ∈ ys, Z x.1.1 x.1.2
theorem desc_nil (len : Nat) (P : Int → Prop) (Z : Nat → Int → Prop) : Desc len P Z [] 0 := ⟨rfl, fun _ h => by cases h⟩
theorem Desc.snoc {len : Nat} {P : Int → Prop} {Z : Nat → Int → Prop} {ys : List (Bk len P)} {k m : Nat} (h : Desc len P Z ys k) (hm : m + 1 + k = len) {z : Int} (hz : Z m z) (hP : P z) : Desc len P Z (ys ++ [⟨(m, z), by omega, hP⟩]) (k + 1) := by
  refine ⟨?_, fun x hx => ?_⟩
  · rw [List.map_append, h.1, upto_succ]
    congr 1
    simp only [List.map_cons, List.map_nil, List.cons.injEq, and_true]
    omega
  · rcases List.mem_append.1 hx with h1 | h1
    · exact h.2 x h1
    · simp only [List.mem_cons, List.not_mem_nil, or_false] at h1
      rw [h1]; exact hz
theorem Desc.len {len : Nat} {P : Int → Prop} {Z : Nat → Int → Prop} {ys : List (Bk len P)} {k : Nat} (h : Desc len P Z ys k) : ys.length = k := by
  have := congrArg List.length h.1
  rwa [List.length_map, upto_length] at this
/-- The row holds what it may. -/
def GoodZ (g len : Nat) (Z : Nat → Int → Prop) (W : World) : Prop := ∀ j, j < len → ∃ z, W.cell? ⟨g, j, none⟩ = some (.int .i64 z) ∧ Z j z
def KpZ (B g len : Nat) (Z : Nat → Int → Prop) (W W' : World) : Prop := KpB B W W' ∧ (GoodZ g len Z W → GoodZ g len Z W')
theorem kpZ_t {B g len : Nat} {Z : Nat → Int → Prop} {X Y V : World} (h : KpZ B g len Z X Y) (k : KpZ B g len Z Y V) : KpZ B g len Z X V := ⟨kpB_t h.1 k.1, fun x => k.2 (h.2 x)⟩
theorem kpZ_b {B g len : Nat} {Z : Nat → Int → Prop} {w : World} (hB : B < w.heap.size) (hg : g < w.heap.size) (W : World) (l : Nat) (o o' : Obj) (hl : w.heap.size ≤ l) (h1 : W.heap[l]? = some o) (h2 : o.isCells = false) (h3 : o.isWalk = false) : KpZ B g len Z W (W.putObj l o') := by
  refine ⟨kpB_b hB W l o o' hl h1 h2 h3, fun h j hj => ?_⟩
  obtain ⟨z, hz, hZ⟩ := h j hj
  refine ⟨z, ?_, hZ⟩
  rw [← hz]
  unfold World.cell?
  rw [World.putObj_heap_other (by show g ≠ l; omega)]

set_option maxRecDepth 100000 in
set_option maxHeartbeats 2000000 in
theorem back1_in (F : Fence) (n : Nat) (h7 : F.fn 76) (hro : F.round = none) (hn : 1 ≤ n) (l Bs g len cap : Nat) (a : Option Addr) (ha : 0 < len → a = some ⟨g, 0, none⟩) (hlen : len ≤ 9223372036854775807) (P : Int → Prop) (Z : Nat → Int → Prop) (hZP : ∀ j z, Z j z → P z) (J Jx : List (Bk len P) → World → Prop)
    (hY : ∀ pre x W, J pre W → pre.length < len → YieldAt F (n - 1) Tryz.prog l #[.int .i64 (x.1.1 : Nat), .int .i64 x.1.2] W fun e W' =>
      (e = .returned (.bool true) ∧ J (pre ++ [x]) W' ∧ KpZ Bs g len Z W W') ∨ (e = .returned (.bool false) ∧ Jx (pre ++ [x]) W'))
    (W : World) (hBs : W.cell? ⟨Bs, 0, none⟩ = some (.slice a len cap)) (hG : GoodZ g len Z W) (h0 : J [] W) :
    CallsIn F n Tryz.prog 76 #[.func (.yield l) #[] #[], .pointer (some ⟨Bs, 0, none⟩)] W fun e W' => (∃ v, e = .returned v) ∧
      ((∃ ys, Desc len P Z ys len ∧ J ys W') ∨ (∃ pre, True ∧ Jx pre W')) := by
  have w0 : IntKind.i64.wrap ((len : Int) - 1) = (len : Int) - 1 := wrap_fit (by omega) (by omega)
  refine callsIn_of_wp Tryz.func76 rfl h7 ?_ hro
  simp only [Tryz.ntmps76, List.size_toArray, List.length_cons, List.length_nil, Nat.reduceAdd, Nat.reduceSub, Array.replicate_succ, Array.replicate_zero, List.push_toArray, List.append_toArray, List.nil_append, List.cons_append]
  gi_wp2
  gi_loopw [3] (fun i wr => ∃ (j : Nat) (ys : List (Bk len P)), j ≤ len ∧ i = .int .i64 ((j : Int) - 1) ∧ J ys wr ∧ Hid (Desc len P Z ys (len - j)) ∧ wr.cell? ⟨Bs, 0, none⟩ = some (.slice a len cap) ∧ Hid (GoodZ g len Z wr))
    (fun i _ => (intOf i + 1).toNat)
  case atStart => exact ⟨len, [], Nat.le_refl _, rfl, h0, (by show Desc _ _ _ _ _; rw [Nat.sub_self]; exact desc_nil _ _ _), hBs, hG⟩
  case round =>
    obtain ⟨j, ys, hj, rfl, hJs, hD, hcx, hGr⟩ := hrel
    clear hBs hG w0
    cases j with
    | zero =>
      have hD' : Hid (Desc len P Z ys len) := hD
      clear hD
      gi_wp2
      go_end0
      exact ⟨⟨_, rfl⟩, .inl ⟨_, hD'.out, hJs⟩⟩
    | succ m =>
      obtain rfl := ha (by omega)
      obtain ⟨z, hz, hZ⟩ := hGr.out m (by omega)
      have e1 : ((m + 1 : Nat) : Int) - 1 = (m : Int) := by omega
      rw [e1]
      have e2 : IntKind.i64.wrap ((m : Int) - 1) = (m : Int) - 1 := wrap_fit (by omega) (by omega)
      have hlt : (m : Int) < (len : Int) := by omega
      obtain ⟨fn, tmps, assign, body, hy, hR⟩ := hY _ ⟨(m, z), by omega, hZP _ _ hZ⟩ wr hJs (by rw [hD.out.len]; omega)
      dsimp only at hy
      have hD2 : Hid _ := hD.out.snoc (m := m) (z := z) (by omega) hZ (hZP _ _ hZ)
      clear e1
      gi_wp2
      refine hR.mono ?_
      rintro e W3 (⟨rfl, hJ3, hk3⟩ | ⟨rfl, hJx3⟩)
      · have hc3 := hk3.1.trans hcx
        have hG3 := hk3.2 hGr.out
        gi_wp2
        go_roundw
        case rel => exact ⟨m, _, by omega, rfl, hJ3, (by have := hD2.out; rwa [show len - (m + 1) + 1 = len - m from by omega] at this), hc3, hG3⟩
        case measure => simp [intOf]
      · gi_wp2
        refine bodyPost_ret (results_none rfl _ _ _) rfl ?_
        exact ⟨⟨_, rfl⟩, .inr ⟨_, trivial, hJx3⟩⟩

set_option maxHeartbeats 1000000 in
theorem back_in (F : Fence) (n : Nat) (h5 : F.fn 68) (hro : F.round = none) (a : Option Addr) (len cap : Nat) (w : World) :
    CallsIn F n Tryz.prog 68 #[.slice a len cap] w fun e w' => e = .returned (.func (.func 76) #[] #[.pointer (some ⟨w.heap.size, 0, none⟩)]) ∧ w' = w.alloc (.cells #[.slice a len cap] 78) := by
  refine callsIn_of_wp Tryz.func68 rfl h5 ?_ hro
  simp only [Tryz.ntmps68, List.size_toArray, List.length_cons, List.length_nil, Nat.reduceAdd, Nat.reduceSub, Array.replicate_succ, Array.replicate_zero, List.push_toArray, List.append_toArray, List.nil_append, List.cons_append]
  gi_wp2
  go_ret
  exact ⟨rfl, rfl⟩

theorem back_stops (F : Fence) (n : Nat) (h7 : F.fn 76) (hro : F.round = none) (hn : 1 ≤ n) (Bs g len cap : Nat) (a : Option Addr) (ha : 0 < len → a = some ⟨g, 0, none⟩) (hlen : len ≤ 9223372036854775807) (P : Int → Prop) (Z : Nat → Int → Prop) (hZP : ∀ j z, Z j z → P z) (w : World) (hBs : Bs < w.heap.size) (hg : g < w.heap.size) (hc : w.cell? ⟨Bs, 0, none⟩ = some (.slice a len cap)) (hG : GoodZ g len Z w) :
    SeqStopsK F n Tryz.prog 76 #[.pointer (some ⟨Bs, 0, none⟩)] (fun x : Bk len P => #[.int .i64 (x.1.1 : Nat), .int .i64 x.1.2]) (KpZ Bs g len Z) (fun ys => Desc len P Z ys len) (fun _ => True) len w := fun l J Jx W hW _ _ hY h0 =>
  back1_in F n h7 hro hn l Bs g len cap a ha hlen P Z hZP J Jx hY W ((hW.cell (p := ⟨Bs, 0, none⟩) hBs).trans hc) (fun j hj => by
    obtain ⟨z, hz, hZ⟩ := hG j hj
    exact ⟨z, (hW.cell (p := ⟨g, j, none⟩) hg).trans hz, hZ⟩) h0
end Go.Proofs.YtjdceigndleadaaGreatDoor
