/-
  Losses held against losses, by the document's own comparison.
-/
import Derived.Test.YtgfnohgpmmaocaaDoorLbb
import Derived.Deep.QuietTactic
import Derived.BigQuiet
namespace Go.Proofs.YtgfnohgpmmaocaaDoor
open Go.RowKit
set_option linter.unusedVariables false
set_option linter.unusedSimpArgs false

set_option maxHeartbeats 4000000 in
theorem samel_yes (a b : Option Addr) (n m ca cb : Nat) (L : List Ls) (w : World) (hn : L.length = n) (hm : L.length = m) (ha : Lss w a L) (hb : Lss w b L) (h1 : n ≤ ca) (h2 : ca ≤ 9223372036854775807) (h3 : m ≤ cb) (h4 : cb ≤ 9223372036854775807) :
    Calls Tryd.prog 15 #[.slice a n ca, .slice b m cb] w fun e w' => e = .returned (.bool true) ∧ Hid (Below w.heap.size w w') := by
  subst hn
  subst hm
  have hA : Hid (Lss w a L) := ha
  have hB : Hid (Lss w b L) := hb
  have hL : Hid (L.length ≤ maxLen) := ha.1
  clear ha hb
  go_enter Tryd.func15, Tryd.ntmps15
  go_wp2_with fail
  go_loopw [5] (fun i wr => ∃ I : Nat, i = .int .i64 I ∧ I ≤ L.length ∧ Hid (Below w.heap.size w wr)) (fun i _ => L.length - (intOf i).toNat)
  case atStart => exact ⟨0, rfl, Nat.zero_le _, Below.refl _ _⟩
  case round =>
    obtain ⟨I, rfl, hI, hW⟩ := hrel
    obtain ⟨wo, hwo⟩ : ∃ wo, wo = wr := ⟨wr, rfl⟩
    subst hwo
    by_cases hlt : I < L.length
    · obtain ⟨ba, oa, rfl, hca⟩ : ∃ b off, a = some ⟨b, off, none⟩ ∧ ∀ i x, L[i]? = some x → LsAt wo b (off + i * 3) x := by
        rcases (hA.out.kept hW.out).2 with h0 | h0
        · rw [h0] at hlt; simp at hlt
        · exact h0
      obtain ⟨bb, ob, rfl, hcb⟩ : ∃ b' off, b = some ⟨b', off, none⟩ ∧ ∀ i x, L[i]? = some x → LsAt wo b' (off + i * 3) x := by
        rcases (hB.out.kept hW.out).2 with h0 | h0
        · rw [h0] at hlt; simp at hlt
        · exact h0
      obtain ⟨pa, pc, ⟨a0, a1, a2⟩, aI, _, ap1, ap2, _⟩ := hca I L[I] (List.getElem?_eq_getElem hlt)
      obtain ⟨qa, qc, ⟨b0, b1, b2⟩, bI, _, bp1, bp2, _⟩ := hcb I L[I] (List.getElem?_eq_getElem hlt)
      clear hca hcb
      generalize L[I] = x at *
      have aI' : Hid (Ints wo pa x.path) := aI
      have bI' : Hid (Ints wo qa x.path) := bI
      clear aI bI
      have hF : Hid (∀ wk, Below wo.heap.size wo wk → wk.cell? ⟨ba, oa + I * 3, none⟩ = some (.slice pa x.path.length pc) ∧ wk.cell? ⟨bb, ob + I * 3, none⟩ = some (.slice qa x.path.length qc) ∧ Ints wk pa x.path ∧ Ints wk qa x.path) := fun wk hk =>
        ⟨by rw [hk.cell (p := ⟨ba, oa + I * 3, none⟩) (World.block_lt_of_cell? wo _ a0)]; exact a0, by rw [hk.cell (p := ⟨bb, ob + I * 3, none⟩) (World.block_lt_of_cell? wo _ b0)]; exact b0, aI'.out.kept hk, bI'.out.kept hk⟩
      clear aI' bI'
      go_wp2_with fail
      go_quiet (fail)
      have hK0 : Hid (Below wo.heap.size wo (wo.drewN nq)) := below_drewN (Below.refl _ _) nq
      clear a0 a1 a2 b0 b1 b2
      generalize wo.drewN nq = w2 at *
      clear nq
      go_wp2_with fail
      go_loopw [6] (fun k wk => ∃ K : Nat, k = .int .i64 K ∧ K ≤ x.path.length ∧ Hid (Below wo.heap.size wo wk)) (fun k _ => x.path.length - (intOf k).toNat)
      case atStart => exact ⟨0, rfl, Nat.zero_le _, hK0⟩
      case round =>
        obtain ⟨K, rfl, hKl, hK⟩ := hrel
        obtain ⟨a0, b0, aI, bI⟩ := hF.out _ hK.out
        by_cases hlk : K < x.path.length
        · obtain ⟨pb, po, rfl⟩ := ints_some aI (by omega)
          obtain ⟨qb, qo, rfl⟩ := ints_some bI (by omega)
          have ha := aI.cell hlk
          have hb := bI.cell hlk
          generalize x.path.getD K 0 = z at *
          clear aI bI hK0
          go_wp2_with fail
          go_quiet (fail)
          have hK2 : Hid (Below wo.heap.size wo (wr.drewN nq)) := below_drewN hK.out nq
          clear a0 b0 ha hb hK
          generalize wr.drewN nq = w3 at *
          go_wp2
          go_roundw
          case rel => exact ⟨K + 1, by go_num, by omega, hK2⟩
          case measure => simp [intOf]; omega
        · have e : K = x.path.length := by omega
          have hW' : Hid (Below w.heap.size w wr) := hW.out.trans (hK.out.mono hW.out.size)
          clear aI bI hK0
          go_wp2
          go_roundw
          case rel => exact ⟨I + 1, by go_num, by omega, hW'⟩
          case measure => simp [intOf]; omega
    · have e : I = L.length := by omega
      subst e
      go_wp2
      go_ret
      exact ⟨rfl, hW⟩
end Go.Proofs.YtgfnohgpmmaocaaDoor
