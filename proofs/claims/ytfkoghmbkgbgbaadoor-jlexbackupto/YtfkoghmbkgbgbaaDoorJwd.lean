/-
  The word that begins at a place: jlex.wordOf, jlex.wordAt.
-/
import Derived.Test.YtfkoghmbkgbgbaaDoorJnm
namespace Go.Proofs.YtfkoghmbkgbgbaaDoor
open Go.RowKit
set_option linter.unusedVariables false

theorem wrd_step {v b : List Int} {i : Nat} (hv : i < v.length) (hb : i < b.length) (k : Nat) : wrdF (v.drop i) (b.drop i) k = if b.getD i 0 = v.getD i 0 then wrdF (v.drop (i + 1)) (b.drop (i + 1)) (k + 1) else (5, k) := by
  rw [List.drop_eq_getElem_cons hv, List.drop_eq_getElem_cons hb, wrdF, List.getD_eq_getElem?_getD, List.getD_eq_getElem?_getD, List.getElem?_eq_getElem hv, List.getElem?_eq_getElem hb]
  rfl
theorem wrd_short {v b : List Int} {i : Nat} (hv : i < v.length) (hb : b.length ≤ i) (k : Nat) : wrdF (v.drop i) (b.drop i) k = (3, k) := by
  rw [List.drop_eq_getElem_cons hv, List.drop_of_length_le hb, wrdF]
theorem wrd_done {v b : List Int} {i : Nat} (hv : v.length ≤ i) (k : Nat) : wrdF (v.drop i) (b.drop i) k = (0, k) := by
  rw [List.drop_of_length_le hv, wrdF]
set_option maxHeartbeats 8000000 in
set_option maxRecDepth 100000 in
theorem wordat_word (s : ByteArray) (p : Nat) (w : World) (hp : p < s.size) (hs : s.size ≤ 4096) (kind : Nat) (v : ByteArray) (hv0 : 0 < v.size) (hv1 : v.size ≤ 10)
    (kO : ∀ w', Calls Tryd.prog 55 #[.int .u8 (((s[p]'hp).toNat : Nat) : Int)] w' fun e w'' => e = .returned (.tuple #[.int .i64 (kind : Nat), .string v]) ∧ w'' = w') :
    Calls Tryd.prog 35 #[.string s, .int .i64 (p : Int)] w fun e w' => e = .returned (tokV (wrdT kind (bs v) ((bs s).drop p) p)) ∧ Below w.heap.size w w' := by
  have T0 : Hid (TB w ((w.alloc (.cells #[.int .i64 0, .int .i64 0, .int .i64 0, .string ⟨#[]⟩] 41)).alloc (.cells #[.int .i64 0, .int .i64 0] 26))) := tb_new w
  have ne := not_empty hv0
  obtain ⟨PV, hPV⟩ : ∃ PV, p + v.size = PV := ⟨_, rfl⟩
  have hbl : Hid (((bs s).drop p).length = s.size - p) := by show _ = _; rw [List.length_drop, bs_len]
  obtain ⟨R, hR⟩ : ∃ R, wrdF (bs v) ((bs s).drop p) 0 = R := ⟨_, rfl⟩
  have hU : wrdT kind (bs v) ((bs s).drop p) p = if R.1 = 0 then (⟨kind, p, PV, []⟩, 0, 0) else (z0, R.1, p + R.2) := by unfold wrdT; rw [hR, bs_len, hPV]
  rw [hU]
  have hVf : Hid (∀ y a : Nat, tokV (z0, y, a) = .tuple #[.agg #[.int .i64 0, .int .i64 0, .int .i64 0, .string ⟨#[]⟩], .agg #[.int .i64 (y : Int), .int .i64 (a : Int)]]) := fun y a => rfl
  have hVk : Hid (tokV (⟨kind, p, PV, []⟩, 0, 0) = .tuple #[.agg #[.int .i64 (kind : Nat), .int .i64 (p : Int), .int .i64 (PV : Nat), .string ⟨#[]⟩], .agg #[.int .i64 0, .int .i64 0]]) := rfl
  obtain ⟨V, hV⟩ : ∃ V, tokV (if R.1 = 0 then (⟨kind, p, PV, []⟩, 0, 0) else (z0, R.1, p + R.2)) = V := ⟨_, rfl⟩
  rw [hV]
  have hV' : Hid (tokV (if R.1 = 0 then (⟨kind, p, PV, []⟩, 0, 0) else (z0, R.1, p + R.2)) = V) := hV
  have hR' : Hid (wrdF ((bs v).drop 0) (((bs s).drop p).drop 0) 0 = R) := hR
  have wS : IntKind.i64.wrap ((p : Int) + ((v.size : Nat) : Int)) = ((PV : Nat) : Int) := by rw [IntKind.wrap_i64]; omega
  clear hU hR hV hv0 hPV
  go_enter Tryd.func35, Tryd.ntmps35
  go_wp2_with (go_at_call 55; refine (kO _).mono ?_; rintro e w1 ⟨rfl, hw1⟩; subst hw1; clear kO)
  go_loopw [23, 8] (fun u _ wr => ∃ i : Nat, i ≤ v.size ∧ u = .int .i64 i ∧ Hid (p + i ≤ s.size) ∧ Hid (TB w wr) ∧ Hid (wrdF ((bs v).drop i) (((bs s).drop p).drop i) i = R)) (fun u _ _ => v.size - (intOf u).toNat)
  case atStart => exact ⟨0, Nat.zero_le _, rfl, Nat.le_of_lt hp, T0, hR'⟩
  case round =>
    clear hR'
    obtain ⟨i, hi, rfl, hpi, hT, hE⟩ := hrel
    obtain ⟨c0, c1, c2, c3, c4, c5⟩ := hT.out.cells
    obtain ⟨f0, f1, f2, f3, f4, f5⟩ := hT.out.fz
    by_cases hlt : i < v.size
    · have hz : (i : Int) < ((v.size : Nat) : Int) := by omega
      have hvl : i < (bs v).length := by rw [bs_len]; exact hlt
      obtain ⟨T, hTT⟩ : ∃ T, T = p + i := ⟨_, rfl⟩
      have wT : IntKind.i64.wrap ((p : Int) + (i : Int)) = ((T : Nat) : Int) := by rw [IntKind.wrap_i64]; omega
      have wi : IntKind.i64.wrap ((i : Int) + 1) = ((i + 1 : Nat) : Int) := by rw [IntKind.wrap_i64]; omega
      by_cases hend : T = s.size
      · have hRR : R = (3, i) := by rw [← hE.out, wrd_short hvl (by rw [hbl.out]; omega)]
        have aE : (((T : Nat) : Int) == ((s.size : Nat) : Int)) = true := by simp; omega
        have hVV : V = .tuple #[.agg #[.int .i64 0, .int .i64 0, .int .i64 0, .string ⟨#[]⟩], .agg #[.int .i64 3, .int .i64 (s.size : Nat)]] := by
          rw [← hV'.out, hRR, if_neg (by simp), hVf.out, ← hend, hTT]; rfl
        clear hV' hE hRR hTT hend hvl
        subst hVV
        have hB : Hid (Below w.heap.size w wr) := hT.out.bel
        go_wp2
        refine bodyPost_ret (v := .tuple #[.agg #[.int .i64 0, .int .i64 0, .int .i64 0, .string ⟨#[]⟩], .agg #[.int .i64 3, .int .i64 (s.size : Nat)]]) (by simp [results, Tryd.results35, go_sem, *]) rfl ⟨rfl, ?_⟩
        refine Below.setCell (Below.setCell (Below.setCell (Below.setCell (Below.setCell (Below.setCell hB.out ?_ _) ?_ _) ?_ _) ?_ _) ?_ _) ?_ _ <;> simp
      · have aE : (((T : Nat) : Int) == ((s.size : Nat) : Int)) = false := by simp; omega
        have hsT : T < s.size := by have := hpi.out; omega
        have hble : i < ((bs s).drop p).length := by rw [hbl.out]; omega
        have hst := wrd_step hvl hble i
        rw [getD_drop, ← hTT, bs_at s hsT, bs_at v hlt, hE.out] at hst
        by_cases heq : (((s[T]'hsT).toNat : Nat) : Int) = (((v[i]'hlt).toNat : Nat) : Int)
        · have aN : ((((s[T]'hsT).toNat : Nat) : Int) != (((v[i]'hlt).toNat : Nat) : Int)) = false := by simp [heq]
          rw [if_pos heq] at hst
          have hE' : Hid (wrdF ((bs v).drop (i + 1)) (((bs s).drop p).drop (i + 1)) (i + 1) = R) := hst.symm
          have hpi' : Hid (p + (i + 1) ≤ s.size) := by show _ ≤ _; omega
          clear hst heq hE hTT hend hvl hble
          go_wp2
          go_quiet (fail)
          go_wp2
          go_roundw
          case rel => exact ⟨i + 1, by omega, by go_num, hpi', hT.out.on ⟨rfl, rfl, rfl, Nat.le_refl _, fun _ _ => rfl⟩, hE'⟩
          case measure => simp [intOf]; omega
        · have aN : ((((s[T]'hsT).toNat : Nat) : Int) != (((v[i]'hlt).toNat : Nat) : Int)) = true := by simp; omega
          rw [if_neg heq] at hst
          have hVV : V = .tuple #[.agg #[.int .i64 0, .int .i64 0, .int .i64 0, .string ⟨#[]⟩], .agg #[.int .i64 5, .int .i64 (T : Nat)]] := by
            rw [← hV'.out, hst, if_neg (by simp), hVf.out, ← hTT]; rfl
          clear hV' hE hst hTT hend hvl hble heq
          subst hVV
          have hB : Hid (Below w.heap.size w wr) := hT.out.bel
          go_wp2
          go_quiet (fail)
          go_wp2
          refine bodyPost_ret (v := .tuple #[.agg #[.int .i64 0, .int .i64 0, .int .i64 0, .string ⟨#[]⟩], .agg #[.int .i64 5, .int .i64 (T : Nat)]]) (by simp [results, Tryd.results35, go_sem, *]) rfl ⟨rfl, ?_⟩
          have hBd := fun n => (⟨hB.out.os, hB.out.tape, hB.out.output, hB.out.size, hB.out.block⟩ : Below w.heap.size w (wr.drewN n))
          first
          | (refine Below.setCell (Below.setCell (Below.setCell (Below.setCell (Below.setCell (Below.setCell (hBd _) ?_ _) ?_ _) ?_ _) ?_ _) ?_ _) ?_ _ <;> simp)
          | (refine below_drewN (Below.setCell (Below.setCell (Below.setCell (Below.setCell (Below.setCell (Below.setCell hB.out ?_ _) ?_ _) ?_ _) ?_ _) ?_ _) ?_ _) _ <;> simp)
          | (refine Below.drew (Below.setCell (Below.setCell (Below.setCell (Below.setCell (Below.setCell (Below.setCell hB.out ?_ _) ?_ _) ?_ _) ?_ _) ?_ _) ?_ _) <;> simp)
    · have hz : ¬ (i : Int) < ((v.size : Nat) : Int) := by omega
      obtain rfl : i = v.size := by omega
      have hRR : R = (0, v.size) := by rw [← hE.out, wrd_done (by rw [bs_len]; exact Nat.le_refl _)]
      have hVV : V = .tuple #[.agg #[.int .i64 (kind : Nat), .int .i64 (p : Int), .int .i64 (PV : Nat), .string ⟨#[]⟩], .agg #[.int .i64 0, .int .i64 0]] := by
        rw [← hV'.out, hRR, if_pos rfl, hVk.out]
      clear hV' hE hRR
      subst hVV
      have hB : Hid (Below w.heap.size w wr) := hT.out.bel
      go_wp2
      refine bodyPost_ret (v := .tuple #[.agg #[.int .i64 (kind : Nat), .int .i64 (p : Int), .int .i64 (PV : Nat), .string ⟨#[]⟩], .agg #[.int .i64 0, .int .i64 0]]) (by simp [results, Tryd.results35, go_sem, *]) rfl ⟨rfl, ?_⟩
      refine Below.setCell (Below.setCell (Below.setCell (Below.setCell (Below.setCell (Below.setCell hB.out ?_ _) ?_ _) ?_ _) ?_ _) ?_ _) ?_ _ <;> simp
set_option maxHeartbeats 1000000 in
/-- jlex.wordOf. -/
theorem wof_any (c : Nat) (w : World) : Calls Tryd.prog 55 #[.int .u8 (c : Int)] w fun e w' => e = .returned (if c = 116 then .tuple #[.int .i64 9, .string ⟨#[116, 114, 117, 101]⟩] else if c = 102 then .tuple #[.int .i64 10, .string ⟨#[102, 97, 108, 115, 101]⟩] else if c = 110 then .tuple #[.int .i64 11, .string ⟨#[110, 117, 108, 108]⟩] else .tuple #[.int .i64 0, .string ⟨#[]⟩]) ∧ w' = w := by
  by_cases h1 : c = 116
  · rw [if_pos h1]
    have a1 : ((c : Int) == 116) = true := by simp; omega
    clear h1
    go_enter Tryd.func55, Tryd.ntmps55
    go_wp2
    go_ret2
    exact ⟨rfl, rfl⟩
  rw [if_neg h1]
  have a1 : ((c : Int) == 116) = false := by simp; omega
  by_cases h2 : c = 102
  · rw [if_pos h2]
    have a2 : ((c : Int) == 102) = true := by simp; omega
    clear h1 h2
    go_enter Tryd.func55, Tryd.ntmps55
    go_wp2
    go_ret2
    exact ⟨rfl, rfl⟩
  rw [if_neg h2]
  have a2 : ((c : Int) == 102) = false := by simp; omega
  by_cases h3 : c = 110
  · rw [if_pos h3]
    have a3 : ((c : Int) == 110) = true := by simp; omega
    clear h1 h2 h3
    go_enter Tryd.func55, Tryd.ntmps55
    go_wp2
    go_ret2
    exact ⟨rfl, rfl⟩
  rw [if_neg h3]
  have a3 : ((c : Int) == 110) = false := by simp; omega
  clear h1 h2 h3
  go_enter Tryd.func55, Tryd.ntmps55
  go_wp2
  go_ret2
  exact ⟨rfl, rfl⟩
/-- What wordAt tells. -/
def wdR (c : Int) (b : List Int) (p : Nat) : Tk × Nat × Nat := if c = 116 then wrdT 9 [116, 114, 117, 101] b p else if c = 102 then wrdT 10 [102, 97, 108, 115, 101] b p else if c = 110 then wrdT 11 [110, 117, 108, 108] b p else (z0, 5, p)
set_option maxHeartbeats 2000000 in
set_option maxRecDepth 100000 in
/-- jlex.wordAt. -/
theorem wordat_any (s : ByteArray) (p : Nat) (w : World) (hp : p < s.size) (hs : s.size ≤ 4096) :
    Calls Tryd.prog 35 #[.string s, .int .i64 (p : Int)] w fun e w' => e = .returned (tokV (wdR (((s[p]'hp).toNat : Nat) : Int) ((bs s).drop p) p)) ∧ Below w.heap.size w w' := by
  have kO := fun w' => wof_any (s[p]'hp).toNat w'
  unfold wdR
  by_cases h1 : (s[p]'hp).toNat = 116
  · rw [if_pos (by omega)]
    rw [if_pos h1] at kO
    exact wordat_word s p w hp hs 9 ⟨#[116, 114, 117, 101]⟩ (by decide) (by decide) kO
  rw [if_neg (by omega)]
  rw [if_neg h1] at kO
  by_cases h2 : (s[p]'hp).toNat = 102
  · rw [if_pos (by omega)]
    rw [if_pos h2] at kO
    exact wordat_word s p w hp hs 10 ⟨#[102, 97, 108, 115, 101]⟩ (by decide) (by decide) kO
  rw [if_neg (by omega)]
  rw [if_neg h2] at kO
  by_cases h3 : (s[p]'hp).toNat = 110
  · rw [if_pos (by omega)]
    rw [if_pos h3] at kO
    exact wordat_word s p w hp hs 11 ⟨#[110, 117, 108, 108]⟩ (by decide) (by decide) kO
  rw [if_neg (by omega)]
  rw [if_neg h3] at kO
  have T0 : Hid (TB w ((w.alloc (.cells #[.int .i64 0, .int .i64 0, .int .i64 0, .string ⟨#[]⟩] 41)).alloc (.cells #[.int .i64 0, .int .i64 0] 26))) := tb_new w
  have hVf : tokV (z0, 5, p) = .tuple #[.agg #[.int .i64 0, .int .i64 0, .int .i64 0, .string ⟨#[]⟩], .agg #[.int .i64 5, .int .i64 (p : Int)]] := rfl
  rw [hVf]
  clear hVf h1 h2 h3
  go_enter Tryd.func35, Tryd.ntmps35
  go_wp2_with (go_at_call 55; refine (kO _).mono ?_; rintro e w1 ⟨rfl, hw1⟩; subst hw1; clear kO; obtain ⟨c0, c1, c2, c3, c4, c5⟩ := T0.out.cells; obtain ⟨f0, f1, f2, f3, f4, f5⟩ := T0.out.fz)
  refine bodyPost_ret (v := .tuple #[.agg #[.int .i64 0, .int .i64 0, .int .i64 0, .string ⟨#[]⟩], .agg #[.int .i64 5, .int .i64 (p : Int)]]) (by simp [results, Tryd.results35, go_sem, *]) rfl ⟨rfl, ?_⟩
  first
  | exact T0.out.bel
  | exact (alloc_below w _).trans ((alloc_below _ _).mono (Nat.le_of_lt (alloc_lt _ _)))
  | (refine Below.setCell (Below.setCell (Below.setCell (Below.setCell (Below.setCell (Below.setCell T0.out.bel ?_ _) ?_ _) ?_ _) ?_ _) ?_ _) ?_ _ <;> simp)
end Go.Proofs.YtfkoghmbkgbgbaaDoor
