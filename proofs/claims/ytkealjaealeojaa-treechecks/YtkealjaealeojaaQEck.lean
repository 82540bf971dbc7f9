/-
  What is wrong with a tree, as the document's call tells it: gantlineref08.Check.
-/
import Derived.Test.YtkealjaealeojaaQEfo
import Derived.Test.YtkealjaealeojaaQEtw
import Derived.Test.YtkealjaealeojaaQEpb
import Derived.Test.YtkealjaealeojaaQChc
namespace Go.Proofs.Ytkealjaealeojaa
open Go.RowKit
set_option linter.unusedVariables false

set_option maxHeartbeats 4000000 in
set_option maxRecDepth 100000 in
theorem echeck_any {D : Nat} {t : Tr} {b : Nb} {w : World} (hN : Nd D w b t) : Calls Try.prog 10 #[.agg b.arr] w fun e w' => (∃ er, e = .returned (.int .i64 er) ∧ Tr.ChkIs alF t er) ∧ Below w.heap.size w w' := by
  have hal := alloc_below w (.cells b.arr 26)
  have Q0 : Hid (NBox (w.alloc (.cells b.arr 26)) w.heap.size b) := nbox_new w b
  have B0 : Hid (Below w.heap.size w (w.alloc (.cells b.arr 26))) := hal
  obtain ⟨a0, a1, a2, a3, a4, a5, a6, a7, a8⟩ := (nbox_new w b).fields
  have kF := efew_any (hN.kept hal)
  have hN' : Hid (Nd D w b t) := hN
  clear hal hN
  by_cases hs : t.size ≤ 1024
  · rw [decide_eq_true hs] at kF
    have hs' : Hid (t.size ≤ 1024) := hs
    have kD : Hid (∀ w2, Below w.heap.size w w2 → Calls Try.prog 31 #[.agg b.arr] w2 fun e w' => e = .returned (.int .i64 (t.deep : Nat)) ∧ Below w2.heap.size w2 w') := fun w2 hb => deep_all D t b w2 (hN'.out.kept hb) (by have := hs'.out; omega)
    have kO : Hid (∀ w2, Below w.heap.size w w2 → Calls Try.prog 32 #[.agg b.arr] w2 fun e w' => e = .returned (.int .i64 (t.forms alF)) ∧ Below w2.heap.size w2 w') := fun w2 hb => form_all D t b w2 (hN'.out.kept hb)
    obtain ⟨v, hv⟩ := bool_of (¬ t.All (fun u => u.keys.Nodup))
    have kT : Hid (∀ w2, Below w.heap.size w w2 → Calls Try.prog 33 #[.agg b.arr] w2 fun e w' => e = .returned (.bool v) ∧ Below w2.heap.size w2 w') := fun w2 hb => etwice_any (hN'.out.kept hb) hv
    have hV : Hid (v = true ↔ ¬ t.All (fun u => u.keys.Nodup)) := hv
    have hF' : Hid (t.forms alF = t.forms alF) := rfl
    have hFx : ∃ A, t.forms alF = A := ⟨_, rfl⟩
    obtain ⟨A, hA⟩ := hFx
    rw [hA] at kO
    have hA' : Hid (t.forms alF = A) := hA
    clear hs hv hF' hA
    by_cases hd : t.deep ≤ 24
    · have hd1 : decide ((24 : Int) < ((t.deep : Nat) : Int)) = false := by simp; omega
      have hd' : Hid (t.deep ≤ 24) := hd
      clear hd
      generalize t.deep = E at kD hd1
      by_cases hz : A = 0
      · subst hz
        cases v with
        | true =>
          go_enter Try.func10, Try.ntmps10
          go_wp2_with (first
            | (go_at_call 13; refine kF.mono ?_; rintro e w2 ⟨rfl, hb2⟩; clear kF a0 a1 a2 a3 a4 a5 a6 a7 a8; have Q2 : Hid (NBox w2 w.heap.size b) := Q0.out.kept hb2 Q0.out.lt; have B2 : Hid (Below w.heap.size w w2) := B0.out.trans (hb2.mono B0.out.size); obtain ⟨a0, a1, a2, a3, a4, a5, a6, a7, a8⟩ := Q2.out.fields; have kD2 := kD.out w2 B2.out)
            | (go_at_call 31; refine kD2.mono ?_; rintro e w3 ⟨rfl, hb3⟩; clear kD2 a0 a1 a2 a3 a4 a5 a6 a7 a8; have Q3 : Hid (NBox w3 w.heap.size b) := Q2.out.kept hb3 Q2.out.lt; have B3 : Hid (Below w.heap.size w w3) := B2.out.trans (hb3.mono B2.out.size); obtain ⟨a0, a1, a2, a3, a4, a5, a6, a7, a8⟩ := Q3.out.fields; have kO3 := kO.out w3 B3.out)
            | (go_at_call 32; refine kO3.mono ?_; rintro e w4 ⟨rfl, hb4⟩; clear kO3 a0 a1 a2 a3 a4 a5 a6 a7 a8; have Q4 : Hid (NBox w4 w.heap.size b) := Q3.out.kept hb4 Q3.out.lt; have B4 : Hid (Below w.heap.size w w4) := B3.out.trans (hb4.mono B3.out.size); obtain ⟨a0, a1, a2, a3, a4, a5, a6, a7, a8⟩ := Q4.out.fields; have kT4 := kT.out w4 B4.out)
            | (go_at_call 33; refine kT4.mono ?_; rintro e w5 ⟨rfl, hb5⟩))
          go_ret
          exact ⟨⟨9, rfl, .inr (.inr (.inr (.inl ⟨hs'.out, hd'.out, hA'.out, (by simpa using hV.out), rfl⟩)))⟩, B4.out.trans (hb5.mono B4.out.size)⟩
        | false =>
          go_enter Try.func10, Try.ntmps10
          go_wp2_with (first
            | (go_at_call 13; refine kF.mono ?_; rintro e w2 ⟨rfl, hb2⟩; clear kF a0 a1 a2 a3 a4 a5 a6 a7 a8; have Q2 : Hid (NBox w2 w.heap.size b) := Q0.out.kept hb2 Q0.out.lt; have B2 : Hid (Below w.heap.size w w2) := B0.out.trans (hb2.mono B0.out.size); obtain ⟨a0, a1, a2, a3, a4, a5, a6, a7, a8⟩ := Q2.out.fields; have kD2 := kD.out w2 B2.out)
            | (go_at_call 31; refine kD2.mono ?_; rintro e w3 ⟨rfl, hb3⟩; clear kD2 a0 a1 a2 a3 a4 a5 a6 a7 a8; have Q3 : Hid (NBox w3 w.heap.size b) := Q2.out.kept hb3 Q2.out.lt; have B3 : Hid (Below w.heap.size w w3) := B2.out.trans (hb3.mono B2.out.size); obtain ⟨a0, a1, a2, a3, a4, a5, a6, a7, a8⟩ := Q3.out.fields; have kO3 := kO.out w3 B3.out)
            | (go_at_call 32; refine kO3.mono ?_; rintro e w4 ⟨rfl, hb4⟩; clear kO3 a0 a1 a2 a3 a4 a5 a6 a7 a8; have Q4 : Hid (NBox w4 w.heap.size b) := Q3.out.kept hb4 Q3.out.lt; have B4 : Hid (Below w.heap.size w w4) := B3.out.trans (hb4.mono B3.out.size); obtain ⟨a0, a1, a2, a3, a4, a5, a6, a7, a8⟩ := Q4.out.fields; have kT4 := kT.out w4 B4.out)
            | (go_at_call 33; refine kT4.mono ?_; rintro e w5 ⟨rfl, hb5⟩))
          go_ret
          exact ⟨⟨0, rfl, .inr (.inr (.inr (.inr ⟨hs'.out, hd'.out, hA'.out, (by simpa using hV.out), rfl⟩)))⟩, B4.out.trans (hb5.mono B4.out.size)⟩
      · have hz2 : (A == 0) = false := by simp [hz]
        have hz' : Hid (A ≠ 0) := hz
        clear hz kT
        go_enter Try.func10, Try.ntmps10
        go_wp2_with (first
          | (go_at_call 13; refine kF.mono ?_; rintro e w2 ⟨rfl, hb2⟩; clear kF a0 a1 a2 a3 a4 a5 a6 a7 a8; have Q2 : Hid (NBox w2 w.heap.size b) := Q0.out.kept hb2 Q0.out.lt; have B2 : Hid (Below w.heap.size w w2) := B0.out.trans (hb2.mono B0.out.size); obtain ⟨a0, a1, a2, a3, a4, a5, a6, a7, a8⟩ := Q2.out.fields; have kD2 := kD.out w2 B2.out)
          | (go_at_call 31; refine kD2.mono ?_; rintro e w3 ⟨rfl, hb3⟩; clear kD2 a0 a1 a2 a3 a4 a5 a6 a7 a8; have Q3 : Hid (NBox w3 w.heap.size b) := Q2.out.kept hb3 Q2.out.lt; have B3 : Hid (Below w.heap.size w w3) := B2.out.trans (hb3.mono B2.out.size); obtain ⟨a0, a1, a2, a3, a4, a5, a6, a7, a8⟩ := Q3.out.fields; have kO3 := kO.out w3 B3.out)
          | (go_at_call 32; refine kO3.mono ?_; rintro e w4 ⟨rfl, hb4⟩; clear kO3 a0 a1 a2 a3 a4 a5 a6 a7 a8))
        go_ret
        exact ⟨⟨A, rfl, .inr (.inr (.inl ⟨hs'.out, hd'.out, by rw [hA'.out]; exact hz'.out, hA'.out.symm⟩))⟩, B3.out.trans (hb4.mono B3.out.size)⟩
    · have hd1 : decide ((24 : Int) < ((t.deep : Nat) : Int)) = true := by simp; omega
      have hd' : Hid (24 < t.deep) := by show _ < _; omega
      clear hd kT kO
      generalize t.deep = E at kD hd1
      go_enter Try.func10, Try.ntmps10
      go_wp2_with (first
        | (go_at_call 13; refine kF.mono ?_; rintro e w2 ⟨rfl, hb2⟩; clear kF a0 a1 a2 a3 a4 a5 a6 a7 a8; have Q2 : Hid (NBox w2 w.heap.size b) := Q0.out.kept hb2 Q0.out.lt; have B2 : Hid (Below w.heap.size w w2) := B0.out.trans (hb2.mono B0.out.size); obtain ⟨a0, a1, a2, a3, a4, a5, a6, a7, a8⟩ := Q2.out.fields; have kD2 := kD.out w2 B2.out)
        | (go_at_call 31; refine kD2.mono ?_; rintro e w3 ⟨rfl, hb3⟩; clear kD2))
      go_ret
      exact ⟨⟨7, rfl, .inr (.inl ⟨hs'.out, hd'.out, rfl⟩)⟩, B2.out.trans (hb3.mono B2.out.size)⟩
  · rw [decide_eq_false hs] at kF
    have hs' : Hid (1024 < t.size) := by show _ < _; omega
    clear hs
    go_enter Try.func10, Try.ntmps10
    go_wp2_with (go_at_call 13; refine kF.mono ?_; rintro e w2 ⟨rfl, hb2⟩)
    go_ret
    exact ⟨⟨8, rfl, .inl ⟨hs'.out, rfl⟩⟩, B0.out.trans (hb2.mono B0.out.size)⟩
end Go.Proofs.Ytkealjaealeojaa
