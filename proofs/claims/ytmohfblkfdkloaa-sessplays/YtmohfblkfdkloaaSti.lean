/-
  The document's Hello wholly, its New; lists compared.
-/
import Derived.Test.YtmohfblkfdkloaaStg
import Derived.Test.YtmohfblkfdkloaaStk
import Derived.Test.YtmohfblkfdkloaaSth
import Derived.Test.YtmohfblkfdkloaaSsn
namespace Go.Proofs.Ytmohfblkfdkloaa
open Go.RowKit
set_option linter.unusedVariables false
theorem xhello_beg {w : World} {E : Nat → Prop} {rb k : Nat} {v u : Value} {R : Tb} {us : List Int} (m : Mg) (d now : Int) (h : RTab w E rb v u R us) (hO : Ok k R) (hk : k ≤ 5000000000000) (hE : ∀ q, w.heap.size ≤ q → E q) (hb : (m.k != 3) = false ∧ ((m.f != 1) = false ∨ ((m.f != 1) = true ∧ (m.f != 2) = false))) (ht : m.t = 0) (he : begE (goA R now) d = 0) :
    Calls Try.prog 13 #[.pointer (some ⟨rb, 0, none⟩), .agg #[.int .i64 m.k, .int .u64 m.t, .int .i64 m.e, .int .i64 m.s, .int .i64 m.a, .int .u64 m.b, .int .i64 m.c, .int .i64 m.f, .slice m.la m.ln m.lc], .int .u64 d, .int .i64 now] w fun e w' => e = .returned (.tuple #[.agg #[.int .i64 4, .int .u64 d, .int .i64 1, .int .i64 0, .int .i64 0, .int .u64 0, .int .i64 0, .int .i64 m.f, .slice none 0 0], .int .i64 0]) ∧ ∃ v2 u2, Hid (RTab w' E rb v2 u2 (addT (goA R now) d m.f) (us ++ [d])) ∧ Hid (KS E w w') :=
  hb.2.elim (fun h2 => xhello_beg1 m d now h hO hk hE ⟨hb.1, h2⟩ ht he) (fun h2 => xhello_beg2 m d now h hO hk hE ⟨hb.1, h2.1, h2.2⟩ ht he)
theorem xhello_any {w : World} {E : Nat → Prop} {rb k : Nat} {v u : Value} {R : Tb} {us : List Int} (m : Mg) (d now : Int) (h : RTab w E rb v u R us) (hO : Ok k R) (hk : k ≤ 5000000000000) (hE : ∀ q, w.heap.size ≤ q → E q) :
    Calls Try.prog 13 #[.pointer (some ⟨rb, 0, none⟩), m.val, .int .u64 d, .int .i64 now] w fun e w' => e = .returned (.tuple #[(helM (goA R now) m d).val, .int .i64 (greE (goA R now) m d)]) ∧ ∃ v2 u2 us2, Hid (RTab w' E rb v2 u2 (greA (goA R now) m d) us2) ∧ Hid (KS E w w') := by
  cases hb : badB m with
  | true =>
    have e1 : greE (goA R now) m d = 12 := by unfold greE; rw [if_pos hb]
    have e2 : greA (goA R now) m d = goA R now := gre_same (by rw [e1]; decide)
    have e3 : helM (goA R now) m d = ⟨5, m.t, 0, 0, 0, 0, 0, 0, none, 0, 0⟩ := by unfold helM; rw [if_neg (by rw [e1]; decide)]
    rw [e1, e2, e3]
    refine (xhello_bad m d now h hO hk hE ?_).mono ?_
    · unfold badB at hb
      cases h1 : (m.k != 3)
      · rw [h1] at hb; simp only [Bool.false_or, Bool.and_eq_true] at hb; exact .inr ⟨rfl, hb⟩
      · exact .inl rfl
    · rintro e w' ⟨rfl, v2, u2, h1, h2⟩
      exact ⟨rfl, v2, u2, us, h1, h2⟩
  | false =>
    have hg : (m.k != 3) = false ∧ ((m.f != 1) = false ∨ ((m.f != 1) = true ∧ (m.f != 2) = false)) := by
      unfold badB at hb
      rw [Bool.or_eq_false_iff, Bool.and_eq_false_iff] at hb
      refine ⟨hb.1, ?_⟩
      cases h1 : (m.f != 1)
      · exact .inl rfl
      · rw [h1] at hb
        exact .inr ⟨rfl, by rcases hb.2 with h | h; cases h; exact h⟩
    have hb' : ¬ (badB m = true) := by rw [hb]; decide
    by_cases ht : m.t = 0
    · have e0 : greE (goA R now) m d = begE (goA R now) d := by unfold greE; rw [if_neg hb', if_pos ht]
      have ea : greA (goA R now) m d = begA (goA R now) d m.f := by unfold greA; rw [if_neg hb', if_pos ht]
      by_cases he : begE (goA R now) d = 0
      · have e1 : greE (goA R now) m d = 0 := by rw [e0, he]
        have e3 : helM (goA R now) m d = ⟨4, d, 1, 0, 0, 0, 0, m.f, none, 0, 0⟩ := by
          have es : greS (goA R now) m d = ⟨d, 1, m.f, (goA R now).time⟩ := by unfold greS; rw [if_neg hb', if_pos ht]; unfold begS; rw [if_pos he]
          unfold helM; rw [if_pos e1, es]
        rw [e1, ea, e3]
        refine (xhello_beg m d now h hO hk hE hg ht he).mono ?_
        rintro e w' ⟨rfl, v2, u2, h1, h2⟩
        refine ⟨rfl, v2, u2, us ++ [d], ?_, h2⟩
        unfold begA
        rw [if_pos he]
        exact h1
      · have e3 : helM (goA R now) m d = ⟨5, m.t, 0, 0, 0, 0, 0, 0, none, 0, 0⟩ := by unfold helM; rw [if_neg (by rw [e0]; exact he)]
        have e2 : greA (goA R now) m d = goA R now := gre_same (by rw [e0]; exact he)
        rw [e2, e0, e3]
        refine (xhello_err m d now h hO hk hE hg ht he).mono ?_
        rintro e w' ⟨rfl, v2, u2, h1, h2⟩
        exact ⟨rfl, v2, u2, us, h1, h2⟩
    · cases hf : fiA (goA R now).L m.t with
      | none =>
        have e1 : greE (goA R now) m d = 15 := by unfold greE; rw [if_neg hb', if_neg ht, hf]; rfl
        have e2 : greA (goA R now) m d = goA R now := gre_same (by rw [e1]; decide)
        have e3 : helM (goA R now) m d = ⟨5, m.t, 0, 0, 0, 0, 0, 0, none, 0, 0⟩ := by unfold helM; rw [if_neg (by rw [e1]; decide)]
        rw [e1, e2, e3]
        refine (xhello_none m d now h hO hk hE hg ht hf).mono ?_
        rintro e w' ⟨rfl, v2, u2, h1, h2⟩
        exact ⟨rfl, v2, u2, us, h1, h2⟩
      | some i =>
        obtain ⟨s, hs, hst, -⟩ := fiA_some hf
        have e1 : greE (goA R now) m d = 0 := by unfold greE; rw [if_neg hb', if_neg ht, hf]; rfl
        have hgd : (goA R now).L.getD i zS = s := by rw [List.getD_eq_getElem?_getD, hs]; rfl
        have e2 : greA (goA R now) m d = { goA R now with L := (goA R now).L.set i (bumpS (goA R now) m s) } := by unfold greA; rw [if_neg hb', if_neg ht, hf]; simp only [hgd]
        have e3 : helM (goA R now) m d = ⟨4, m.t, s.e + 1, 0, 0, 0, 0, m.f, none, 0, 0⟩ := by
          have es : greS (goA R now) m d = bumpS (goA R now) m s := by unfold greS; rw [if_neg hb', if_neg ht, hf]; simp only [hgd]
          unfold helM; rw [if_pos e1, es]
          unfold bumpS
          rw [hst]
        rw [e1, e2, e3]
        refine (xhello_bump m d now h hO hk hE hg ht hf hs).mono ?_
        rintro e w' ⟨rfl, v2, u2, h1, h2⟩
        exact ⟨rfl, v2, u2, us, h1, h2⟩
theorem xnew_yes (most idle : Int) (w : World) (h1 : 1 ≤ most) (h2 : most ≤ 64) (h3 : 1 ≤ idle) (h4 : idle ≤ 1048576) :
    Calls Try.prog 10 #[.int .i64 most, .int .i64 idle] w fun e w' => e = .returned (.tuple #[.agg #[.int .i64 most, .int .i64 idle, .int .i64 0, .slice none 0 0, .slice none 0 0], .int .i64 0]) ∧ Hid (Below w.heap.size w w') := by
  have d0 : decide (most < 1) = false := by simp; omega
  have d1 : decide (most > 64) = false := by simp; omega
  have d2 : decide (idle < 1) = false := by simp; omega
  have d3 : decide (idle > 1048576) = false := by simp; omega
  clear h1 h2 h3 h4
  go_enter Try.func10, Try.ntmps10
  go_wp2
  refine bodyPost_ret (v := .tuple #[.agg #[.int .i64 most, .int .i64 idle, .int .i64 0, .slice none 0 0, .slice none 0 0], .int .i64 0]) (by simp [results, Try.results10, go_sem]) rfl ⟨rfl, ?_⟩
  show Below _ _ _
  repeat (refine Below.setCell ?_ (by first | exact Nat.le_refl _ | simp) _)
  exact (Below.refl w.heap.size w).alloc (Nat.le_refl _) _
theorem xnew_no (most idle : Int) (w : World) (h : most < 1 ∨ 64 < most ∨ idle < 1 ∨ 1048576 < idle) :
    Calls Try.prog 10 #[.int .i64 most, .int .i64 idle] w fun e w' => e = .returned (.tuple #[.agg #[.int .i64 0, .int .i64 0, .int .i64 0, .slice none 0 0, .slice none 0 0], .int .i64 1]) ∧ Hid (Below w.heap.size w w') := by
  by_cases h0 : most < 1
  · have d0 : decide (most < 1) = true := by simp; omega
    clear h h0
    go_enter Try.func10, Try.ntmps10
    go_wp2
    refine bodyPost_ret (v := .tuple #[.agg #[.int .i64 0, .int .i64 0, .int .i64 0, .slice none 0 0, .slice none 0 0], .int .i64 1]) (by simp [results, Try.results10, go_sem]) rfl ⟨rfl, ?_⟩
    show Below _ _ _
    repeat (refine Below.setCell ?_ (by first | exact Nat.le_refl _ | simp) _)
    exact (Below.refl w.heap.size w).alloc (Nat.le_refl _) _
  · have d0 : decide (most < 1) = false := by simp; omega
    have hq : decide (most > 64) = true ∨ (decide (most > 64) = false ∧ (decide (idle < 1) = true ∨ (decide (idle < 1) = false ∧ decide (idle > 1048576) = true))) := by
      by_cases h1 : 64 < most
      · exact .inl (by simp; omega)
      · refine .inr ⟨by simp; omega, ?_⟩
        by_cases h2 : idle < 1
        · exact .inl (by simp; omega)
        · exact .inr ⟨by simp; omega, by simp; omega⟩
    clear h h0
    rcases hq with q1 | ⟨q1, q2 | ⟨q2, q3⟩⟩
    all_goals (
      go_enter Try.func10, Try.ntmps10
      go_wp2
      refine bodyPost_ret (v := .tuple #[.agg #[.int .i64 0, .int .i64 0, .int .i64 0, .slice none 0 0, .slice none 0 0], .int .i64 1]) (by simp [results, Try.results10, go_sem]) rfl ⟨rfl, ?_⟩
      show Below _ _ _
      repeat (refine Below.setCell ?_ (by first | exact Nat.le_refl _ | simp) _)
      exact (Below.refl w.heap.size w).alloc (Nat.le_refl _) _)
theorem ownsW_cell {w : World} {base : Nat} {a : Option Addr} {n c : Nat} {L : List Int} (h : OwnsW w base (.slice a n c) L) {i : Nat} {z : Int} (hi : L[i]? = some z) : ∃ g, a = some ⟨g, 0, none⟩ ∧ w.cell? ⟨g, i, none⟩ = some (.int .u64 z) ∧ g < w.heap.size := by
  have hlt : i < L.length := (List.getElem?_eq_some_iff.1 hi).1
  rcases h.2 with ⟨hv, hn⟩ | ⟨g, cap, cur, hv, hg, hc, hnc, hcm, hcs, htk⟩
  · omega
  · cases hv
    refine ⟨g, rfl, ?_, (Array.getElem?_eq_some_iff.1 hc).1⟩
    rw [cell_row hc, ← Array.getElem?_toList]
    have h1 : (cur.toList.take (L.length * 1))[i]? = (L.map (Value.int .u64))[i]? := by rw [htk]
    rw [List.getElem?_take, if_pos (by omega)] at h1
    rw [h1, List.getElem?_map, hi]
    rfl
set_option maxHeartbeats 1000000 in
theorem words_any (a1 a2 : Option Addr) (n c1 c2 b1 b2 : Nat) (L : List Int) (w : World) (h1 : OwnsW w b1 (.slice a1 n c1) L) (h2 : OwnsW w b2 (.slice a2 n c2) L) (hn : L.length = n) (hl : n ≤ 64) (hc1 : n ≤ c1) (hc2 : n ≤ c2) :
    Calls Try.prog 19 #[.slice a1 n c1, .slice a2 n c2] w fun e w' => e = .returned (.bool true) ∧ Below w.heap.size w w' := by
  have g1 : Hid (OwnsW w b1 (.slice a1 n c1) L) := h1
  have g2 : Hid (OwnsW w b2 (.slice a2 n c2) L) := h2
  have hn' : Hid (L.length = n) := hn
  clear h1 h2 hn
  go_enter Try.func19, Try.ntmps19
  go_wp2
  go_loopw [4, 5, 13] (fun _ _ s13 wr => ∃ (i : Nat), i ≤ n ∧ s13 = .int .i64 i ∧ Hid (Below w.heap.size w wr)) (fun _ _ i _ => n - (intOf i).toNat)
  case atStart => exact ⟨0, Nat.zero_le _, rfl, Below.refl _ _⟩
  case round =>
    obtain ⟨i, him, rfl, hB⟩ := hrel
    by_cases hlt : i < n
    · have hz : (i : Int) < (n : Int) := by omega
      have hix : i < L.length := by rw [hn'.out]; exact hlt
      have hi : L[i]? = some L[i] := List.getElem?_eq_getElem hix
      obtain ⟨p1, rfl, e1, l1⟩ := ownsW_cell g1.out hi
      obtain ⟨p2, rfl, e2, l2⟩ := ownsW_cell g2.out hi
      generalize L[i] = z at *
      have f1 : wr.cell? ⟨p1, i, none⟩ = some (.int .u64 z) := (hB.out.cell (p := ⟨p1, i, none⟩) l1).trans e1
      have f2 : wr.cell? ⟨p2, i, none⟩ = some (.int .u64 z) := (hB.out.cell (p := ⟨p2, i, none⟩) l2).trans e2
      have wi : IntKind.i64.wrap ((i : Int) + 1) = (i : Int) + 1 := by rw [IntKind.wrap_i64]; omega
      have q1 : (0 : Int) ≤ (i : Int) := by omega
      clear hi e1 e2
      go_wp2
      go_region
      go_wp2
      go_roundw
      case rel => exact ⟨i + 1, by omega, by go_num, hB.out.drew⟩
      case measure => simp [intOf]; omega
    · have hz : ¬ (i : Int) < (n : Int) := by omega
      go_wp2
      go_ret
      exact ⟨rfl, hB.out⟩
end Go.Proofs.Ytmohfblkfdkloaa
