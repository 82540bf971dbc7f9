/-
  The load of a frame; a cursor's short numbers, whatever its fault.
-/
import Derived.Test.YtfipdldoklkciaaLkc
import Derived.Test.YtfipdldoklkciaaGae
namespace Go.Proofs.Ytfipdldoklkciaa
open Go.RowKit
set_option linter.unusedVariables false
theorem clt {w : World} {a : Addr} {v : Value} (h : w.cell? a = some v) : a.block < w.heap.size := by
  by_cases hb : a.block < w.heap.size
  · exact hb
  · rw [World.cell?, Array.getElem?_eq_none (by omega)] at h
    cases h
theorem scan_short {zs l : List Int} (h : l ∈ (scanL zs).1) : l.length ≤ 1200 := by
  obtain ⟨p, h1, h2⟩ := scan_in zs l h
  have := load_len h1.2.1
  rw [← h2] at this
  rw [this]
  exact h1.1.2
set_option maxHeartbeats 1000000 in
set_option maxRecDepth 100000 in
theorem loadof_small (a : Option Addr) (n cap : Nat) (zs : List Int) (w : World) (hl : zs.length = n) (hb : Bytes w a zs) (hc : n ≤ cap) (hcm : cap ≤ 9223372036854775807) (hn : n ≤ 1208) :
    Calls Try.prog 42 #[.slice a n cap] w fun e w' => (wfB zs = true → ∃ a' n' c', e = .returned (.tuple #[.slice a' n' c', .bool true]) ∧ Hid (Bytes w' a' (loadAt zs) ∧ (loadAt zs).length = n' ∧ (a' = none → c' = 0) ∧ n' ≤ 1200)) ∧ (wfB zs = false → ∃ v, e = .returned (.tuple #[v, .bool false])) ∧ Hid (Below w.heap.size w w') := by
  have d0 : decide ((n : Int) > 1208) = false := by simp; omega
  have hB : Hid (Bytes w a zs) := hb
  have hL : Hid (zs.length = n) := hl
  have k0 := scan_any a n cap zs w hl hb hc hcm (by omega)
  clear hl hb hc hcm hn
  go_enter Try.func42, Try.ntmps42
  go_wp2_with fail
  refine k0.mono ?_
  rintro e w1 ⟨v1, rfl, hO, hb1⟩
  clear k0
  obtain ⟨a1, n1, c1, rfl, hn1, h01, hl1, hm1, hLs⟩ := hO.lists
  have hB1 : Hid (Below w.heap.size w w1) := hb1
  clear hb1 hO
  have hz1 : Hid (Bytes w1 a zs) := hB.out.kept hB1.out
  by_cases h0 : (scanL zs).1 = []
  · have e0 : n1 = 0 := by rw [← hn1.out, h0]; rfl
    have hw : wfB zs = false := by
      cases hw : wfB zs with
      | false => rfl
      | true =>
        have h1 := congrArg Prod.fst (scan_whole (wfB_iff.1 hw).1)
        rw [h0] at h1
        cases h1
    subst e0
    clear hLs h0
    go_wp2
    refine bodyPost_ret (v := .tuple #[.slice none 0 0, .bool false]) (by simp [results, Try.results42, go_sem]) rfl ⟨fun h => ?_, fun _ => ⟨_, rfl⟩, hB1⟩
    rw [hw] at h
    cases h
  · obtain ⟨l0, Lr, hcons⟩ : ∃ l0 Lr, (scanL zs).1 = l0 :: Lr := by
      cases hx : (scanL zs).1 with
      | nil => exact absurd hx h0
      | cons x y => exact ⟨x, y, rfl⟩
    have e0 : ((n1 : Int) == 0) = false := by
      have : n1 ≠ 0 := by rw [← hn1.out, hcons]; simp
      simp; exact this
    have hn1p : 0 < n1 := by rw [← hn1.out, hcons]; simp
    have hs0 : Hid (l0.length ≤ 1200) := scan_short (zs := zs) (by rw [hcons]; simp)
    obtain ⟨b, off, vs, rfl, hsafe, hvl, hcel⟩ : ∃ (b off : Nat) (vs : List Value), a1 = some ⟨b, off, none⟩ ∧ Safe w1 0 23 b ∧ vs.length = (scanL zs).1.length ∧ ∀ i u, vs[i]? = some u → w1.cell? ⟨b, off + i, none⟩ = some u ∧ Load w1 0 u ((scanL zs).1.getD i []) := by
      rcases hLs.out.2 with h | ⟨b, off, vs, h1, h2, h3, h4⟩
      · exact absurd h h0
      · exact ⟨b, off, vs, h1, h2, h3, h4⟩
    obtain ⟨l, al, nl, cl, q0, q1, q2, q3, q4, q5, q6, q7, q8⟩ := next_load hvl hcel (k := 0) (by rw [hcons]; simp)
    rw [Nat.add_zero] at q0
    obtain rfl : l = l0 := by
      have := q8.out
      rw [hcons] at this
      simpa using this.symm
    have k1 := encode_ok al nl cl l w1 q1.out q2.out q3.out (by have := q1.out; have := hs0.out; omega)
    have hE : Hid ((wfB zs = true → l = loadAt zs) ∧ decide (frameL l = zs) = wfB zs) := by
      constructor
      · intro hw
        have h1 := congrArg Prod.fst (scan_whole (wfB_iff.1 hw).1)
        rw [hcons] at h1
        simp at h1
        exact h1.1
      · cases hw : wfB zs with
        | true =>
          have h2 := congrArg Prod.fst (scan_whole (wfB_iff.1 hw).1)
          rw [hcons] at h2
          simp at h2
          have h3 := (wf_frame hB.out.1 hw).1
          rw [← h2.1] at h3
          simpa using h3.symm
        | false =>
          have hne : frameL l ≠ zs := fun h => by
            have := (frame_wf hs0.out).1
            rw [h, hw] at this
            cases this
          simpa using hne
    clear hcel hvl hsafe hLs hcons h0 q6 q7 q8
    go_wp2_with (go_at_call 38; refine k1.mono ?_; rintro e w2 ⟨v2, rfl, hO2, hb2⟩; clear k1)
    have hB2 : Hid (Below w.heap.size w w2) := hB1.out.trans (hb2.mono hB1.out.size)
    have hz2 : Hid (Bytes w2 a zs) := hz1.out.kept hb2
    have hlt : b < w1.heap.size := clt q0
    have q02 : w2.cell? ⟨b, off, none⟩ = some (.slice al nl cl) := (hb2.cell (p := ⟨b, off, none⟩) hlt).trans q0
    have q22 : Hid (Bytes w2 al l) := q2.out.kept hb2
    obtain ⟨a2, n2, c2, rfl, hn2, h02, hl2, hm2, hby2⟩ := hO2.form
    have k2 := fun m => equal_any a2 a n2 n c2 cap (frameL l) zs (w2.drewN m) (hby2.out.drewN m) (hz2.out.drewN m) hn2.out hL.out
    rw [hE.out.2] at k2
    clear q0 hO2 hb2 hl2 hm2 hby2 hB1 hz1
    go_wp2
    go_quiet ((go_at_call 82; exact Calls.quiet_of_same (k2 _)))
    go_wp2
    refine bodyPost_ret (v := .tuple #[.slice al nl cl, .bool (wfB zs)]) (by simp [results, Try.results42, go_sem]) rfl ⟨fun h => ?_, fun h => ?_, ?_⟩
    · refine ⟨al, nl, cl, by rw [h], ?_⟩
      have e := hE.out.1 h
      rw [← e]
      exact ⟨q22.out.drewN _, q1.out, q3.out, by have := q1.out; have := hs0.out; omega⟩
    · exact ⟨_, by rw [h]⟩
    · exact ⟨hB2.out.os, hB2.out.tape, hB2.out.output, hB2.out.size, hB2.out.block⟩
theorem loadof_big (a : Option Addr) (n cap : Nat) (zs : List Int) (w : World) (hl : zs.length = n) (hn : ¬ n ≤ 1208) :
    Calls Try.prog 42 #[.slice a n cap] w fun e w' => wfB zs = false ∧ e = .returned (.tuple #[.slice none 0 0, .bool false]) ∧ w' = w := by
  have d0 : decide ((n : Int) > 1208) = true := by simp; omega
  have hw : Hid (wfB zs = false) := by
    show _ = _
    cases hw : wfB zs with
    | false => rfl
    | true =>
      obtain ⟨h1, h2⟩ := wfB_iff.1 hw
      have := h1.1.2
      omega
  clear hl hn
  go_enter Try.func42, Try.ntmps42
  go_wp2
  go_ret2
  exact ⟨hw.out, rfl, rfl⟩
def LoR (w' : World) (zs : List Int) (e : Ending) : Prop := (wfB zs = true → ∃ a' n' c', e = .returned (.tuple #[.slice a' n' c', .bool true]) ∧ Hid (Bytes w' a' (loadAt zs) ∧ (loadAt zs).length = n' ∧ (a' = none → c' = 0) ∧ n' ≤ 1200)) ∧ (wfB zs = false → ∃ v, e = .returned (.tuple #[v, .bool false]))
theorem loadof_any (a : Option Addr) (n cap : Nat) (zs : List Int) (w : World) (hl : zs.length = n) (hb : Bytes w a zs) (hc : n ≤ cap) (hcm : cap ≤ 9223372036854775807) :
    Calls Try.prog 42 #[.slice a n cap] w fun e w' => Hid (LoR w' zs e) ∧ Hid (Below w.heap.size w w') := by
  by_cases hn : n ≤ 1208
  · refine (loadof_small a n cap zs w hl hb hc hcm hn).mono ?_
    rintro e w' ⟨h1, h2, h3⟩
    exact ⟨⟨h1, h2⟩, h3⟩
  · refine (loadof_big a n cap zs w hl hn).mono ?_
    rintro e w' ⟨h1, rfl, rfl⟩
    exact ⟨⟨fun h => (by rw [h1] at h; cases h), fun _ => ⟨_, rfl⟩⟩, Below.refl _ _⟩
theorem short_y (base g p y f n : Nat) (a : Option Addr) (zs : List Int) (w : World) (h : Cur w base g a n zs p y f) :
    Calls Try.prog 44 #[.pointer (some ⟨g, 0, none⟩)] w fun e w' => e = .returned (.int .u64 ((sS zs p y f).1 : Nat)) ∧ Cur w' base g a n zs (sS zs p y f).2.1 (sS zs p y f).2.2.1 (sS zs p y f).2.2.2 ∧ w.grownBy w' (some g) := by
  by_cases hy : y = 0
  · subst hy
    exact short_go base g p f n a zs w h
  · have e : sS zs p y f = (0, p, y, f) := by unfold sS; rw [if_pos hy]
    rw [e]
    exact short_stop base g p y f n a zs w h hy
end Go.Proofs.Ytfipdldoklkciaa
