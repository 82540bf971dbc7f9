/-
  The document's Hello: a row put in.
-/
import Derived.Test.YtmohfblkfdkloaaStf
namespace Go.Proofs.Ytmohfblkfdkloaa
open Go.RowKit
set_option linter.unusedVariables false
theorem ownsW_len {w : World} {base n c : Nat} {a : Option Addr} {L : List Int} (h : OwnsW w base (.slice a L.length c) L) (hn : L.length = n) : OwnsW w base (.slice a n c) L := by subst hn; exact h
theorem RTab.row3 {w : World} {E : Nat → Prop} {rb base : Nat} {v u v' : Value} {R : Tb} {us : List Int} {L' : List Se} (h : RTab w E rb v u R us) (hO : OwnsX w base v' L') (hb : rb < base) (hE : ∀ q, base ≤ q → E q) : RTab (w.setCell ⟨rb, 3, none⟩ v') E rb v' u { R with L := L' } us := by
  have hk : ∀ q, q ≠ rb → (w.setCell ⟨rb, 3, none⟩ v').heap[q]? = w.heap[q]? := fun q hq => Below.heap_setCell _ _ _ _ hq
  refine ⟨h.blk.set 3 _, ?_, ?_, fun q hq => ?_, h.ou, h.er, h.mem, h.cnt⟩
  · exact ownsRow_base (ownsRow_keep hO fun b cur h1 h2 h3 => hk b (fun e => by omega)) (Nat.zero_le _)
  · refine ownsRow_keep h.urow fun b cur h1 h2 h3 => hk b (fun e2 => ?_)
    subst e2
    have e4 := h.blk
    unfold Blk at e4
    rw [h3] at e4
    injection e4 with e4
    injection e4 with _ e4
    exact absurd e4 (by decide)
  · exact hE q (ownsRow_lt hO q hq).1
theorem RTab.row4 {w : World} {E : Nat → Prop} {rb base : Nat} {v u u' : Value} {R : Tb} {us : List Int} {d : Int} (h : RTab w E rb v u R us) (hO : OwnsW w base u' (us ++ [d])) (hb : rb < base) (hE : ∀ q, base ≤ q → E q) : RTab (w.setCell ⟨rb, 4, none⟩ u') E rb v u' { R with U := fun x => if x = d then true else R.U x, n := R.n + 1 } (us ++ [d]) := by
  have hk : ∀ q, q ≠ rb → (w.setCell ⟨rb, 4, none⟩ u').heap[q]? = w.heap[q]? := fun q hq => Below.heap_setCell _ _ _ _ hq
  refine ⟨h.blk.set 4 _, ?_, ?_, h.ov, fun q hq => ?_, h.er, fun z => ?_, ?_⟩
  · refine ownsRow_keep h.row fun b cur h1 h2 h3 => hk b (fun e2 => ?_)
    subst e2
    have e4 := h.blk
    unfold Blk at e4
    rw [h3] at e4
    injection e4 with e4
    injection e4 with _ e4
    exact absurd e4 (by decide)
  · exact ownsRow_base (ownsRow_keep hO fun b cur h1 h2 h3 => hk b (fun e => by omega)) (Nat.zero_le _)
  · exact hE q (ownsRow_lt hO q hq).1
  · show (if z = d then true else R.U z) = true ↔ _
    rw [List.mem_append, List.mem_singleton]
    by_cases hz : z = d
    · simp [hz]
    · simp [hz, h.mem z]
  · show _ = R.n + 1
    rw [List.length_append, h.cnt]
    rfl
/-- A session put in. -/
def addT (T : Tb) (d f : Int) : Tb := { T with L := T.L ++ [⟨d, 1, f, T.time⟩], U := fun x => if x = d then true else T.U x, n := T.n + 1 }
end Go.Proofs.Ytmohfblkfdkloaa
