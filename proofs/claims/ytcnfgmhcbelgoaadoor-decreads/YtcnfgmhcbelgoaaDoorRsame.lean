/-
  The document's reader and the row of states read the same.
-/
import Derived.Test.YtcnfgmhcbelgoaaDoorRplain
namespace Go.Proofs.YtcnfgmhcbelgoaaDoor
open Go
set_option linter.unusedVariables false

theorem after8 {c : Int} (h : isD c = false) : afterS 8 c = 9 := by simp [afterS, h]
theorem after4n {c : Int} (h : isD c = false) : afterS 4 c = 9 := by simp [afterS, h]
theorem after4d {c : Int} (h : isD c = true) : afterS 4 c = 5 := by simp [afterS, h]
theorem after2 {c : Int} (h : c ≠ 46) : afterS 2 c = afPart c := by simp [afterS, afWhole, h]
theorem after3 {c : Int} (h : c ≠ 46) (g : isD c = false) : afterS 3 c = afPart c := by simp [afterS, afWhole, h, g]
theorem after5 {c : Int} (g : isD c = false) : afterS 5 c = afPart c := by simp [afterS, g]
theorem pow_both : ∀ (d : List Int) (a b : Nat), a = min b 10000 → d.foldl (fun n c => min (n * 10 + (c - 48).toNat) 10000) a = min (d.foldl (fun n c => min (n * 10 + (c - 48).toNat) 1000000) b) 10000
  | [], _, _, h => h
  | c :: d, a, b, h => by
    rw [List.foldl_cons, List.foldl_cons]
    apply pow_both d
    omega
theorem pow_same (d : List Int) : powS 0 d = min (powY d) 10000 := pow_both d 0 0 (by decide)
theorem make_both {n : Bool} {D : ByteArray} {a b : Int} {k : Nat} (hk : k ≤ 4096) (h : a = b ∨ (10000 ≤ a ∧ 10000 ≤ b) ∨ (a ≤ -10000 ∧ b ≤ -10000)) : makeA n D (a - (k : Int)) = makeA n D (b - (k : Int)) := by
  rcases h with rfl | h
  · rfl
  · have h1 := long_len (bs D)
    rw [bs_len] at h1
    unfold makeA
    by_cases g1 : D.size = 0 ∨ 4096 < D.size ∨ allD (bs D) = false
    · rw [if_pos g1, if_pos g1]
    · rw [if_neg g1, if_neg g1]
      by_cases g2 : longL (bs D) = []
      · rw [if_pos g2, if_pos g2]
      · rw [if_neg g2, if_neg g2, if_pos (by omega), if_pos (by omega)]
theorem fin_ok {n : Bool} {wh pt : List Int} {x : Int} {k : Nat} (h0 : wh ++ pt ≠ []) (hd : Digs (wh ++ pt)) (hl : (wh ++ pt).length ≤ 4096) :
    finR n wh pt x (k, 0, 0) = ((makeA n (strOfNums (wh ++ pt)) (x - ((pt.length : Nat) : Int))).1, (makeA n (strOfNums (wh ++ pt)) (x - ((pt.length : Nat) : Int))).2, 0) := by
  have hne : makeA n (strOfNums (wh ++ pt)) (x - ((pt.length : Nat) : Int)) ≠ (noN, 1) := by
    have e : bs (strOfNums (wh ++ pt)) = wh ++ pt := bs_str (digs_bytes hd)
    have hs : (strOfNums (wh ++ pt)).size = (wh ++ pt).length := strOfNums_size _
    have hp := List.length_pos_iff.2 h0
    unfold makeA
    rw [if_neg (by rw [hs, e, (allD_iff _).2 hd]; rintro (h | h | h) <;> first | omega | cases h)]
    split
    · intro h; exact absurd (show (0 : Int) = 1 from congrArg Prod.snd h) (by decide)
    · split
      · intro h; exact absurd (show (11 : Int) = 1 from congrArg Prod.snd h) (by decide)
      · intro h; exact absurd (show (0 : Int) = 1 from congrArg Prod.snd h) (by decide)
  unfold finR
  rw [if_neg (by simp)]
  rcases make_errs n (strOfNums (wh ++ pt)) (x - ((pt.length : Nat) : Int)) with h | h | h
  · rw [if_neg (by rw [h]; simp), h]
  · exact absurd h hne
  · rw [h]; rfl
theorem done_end (m q : Nat) (p : Pd) (h : endS q = true) : doneA m (none, q, p) = ((makeA p.1 (strOfNums p.2.1) (expS p)).1, (makeA p.1 (strOfNums p.2.1) (expS p)).2, 0) := by
  show (if endS q = true then _ else _) = _
  rw [if_pos h]
theorem last_end {l : List Int} {k : Nat} (h : ¬ k < l.length) : lastR l (k, 0, 0) = (k, 0, 0) := by unfold lastR; rw [if_neg h]
theorem last_more {l : List Int} {k : Nat} (h : k < l.length) : lastR l (k, 0, 0) = wrongR l (k, 0, 0) := by unfold lastR; rw [if_pos h]
theorem fault_at {l : List Int} {k : Nat} (h : k < l.length) : faultR l k = (noN, 5, ((k : Nat) : Int)) := by unfold faultR; rw [if_neg (by omega)]
/-- The power's digits. -/
theorem read_power {l : List Int} {k q : Nat} (hl : l.length ≤ 4096) (hq : q = 6 ∨ q = 7) (hs : q = 6 → k < l.length → l.getD k 0 ≠ 43 ∧ l.getD k 0 ≠ 45) {n : Bool} {wh pt : List Int} {low : Bool} (h0 : wh ++ pt ≠ []) (hd : Digs (wh ++ pt)) (hll : (wh ++ pt).length ≤ 4096) (hpt : pt.length ≤ 4096) :
    doneA l.length (runS (l.drop k) k q (n, wh ++ pt, pt.length, low, 0)) = finR n wh pt (if low = true then -((powY (digR l (k, 0, 0)).1 : Nat) : Int) else ((powY (digR l (k, 0, 0)).1 : Nat) : Int)) (lastR l (digR l (k, 0, 0)).2) := by
  have aft : ∀ c, (q = 6 → c ≠ 43 ∧ c ≠ 45) → afterS q c = if isD c = true then 8 else 9 := fun c hc => by
    rcases hq with rfl | rfl
    · have := hc rfl
      simp [afterS, this.1, this.2]
    · simp [afterS]
  rw [dig_at]
  by_cases hsp : (l.drop k).takeWhile isD = []
  · rw [if_pos hsp]
    have hnd := span_none.1 hsp
    rw [run_fault (by rcases hq with rfl | rfl <;> rfl) (fun hk => by rw [aft _ (fun h => hs h hk), hnd hk]; rfl), last_bad (wrong_is rfl), fin_bad]
  · rw [if_neg hsp]
    have hk : k < l.length := by
      rcases Nat.lt_or_ge k l.length with h | h
      · exact h
      · exact absurd (by rw [drop_end (by omega)]; rfl) hsp
    have hc : isD (l.getD k 0) = true := by
      cases hc : isD (l.getD k 0) with
      | true => rfl
      | false => exact absurd (span_none.2 (fun _ => hc)) hsp
    have hfirst := span_first hk hc
    have e8 : afterS q (l.getD k 0) = 8 := by rw [aft _ (fun h => hs h hk), hc]; rfl
    have hrun : runS (l.drop k) k q (n, wh ++ pt, pt.length, low, 0) = runS (l.drop (k + ((l.drop k).takeWhile isD).length)) (k + ((l.drop k).takeWhile isD).length) 8 (n, wh ++ pt, pt.length, low, powS 0 ((l.drop k).takeWhile isD)) := by
      rw [← drop_span, hfirst, drop_at hk, run_cons', e8, if_neg (by decide), run_digs (.inr (.inr rfl)), fold_pow, List.dropWhile_cons_of_pos hc]
      simp [takeS, powS]
      congr 1
      omega
    rw [hrun]
    have hstop := span_stop l k
    generalize (l.drop k).takeWhile isD = d at *
    generalize hK : k + d.length = K at *
    by_cases hm : K < l.length
    · rw [last_more hm, fin_bad, fault_at hm, drop_at hm, run_cons']
      have e9 : afterS 8 (l.getD K 0) = 9 := after8 (hstop hm)
      rw [if_pos e9]
      rfl
    · rw [last_end hm, fin_ok h0 hd hll, drop_end hm]
      show doneA l.length (none, 8, _) = _
      rw [done_end _ _ _ rfl]
      have hE : makeA n (strOfNums (wh ++ pt)) (expS (n, wh ++ pt, pt.length, low, powS 0 d)) = makeA n (strOfNums (wh ++ pt)) ((if low = true then -((powY d : Nat) : Int) else ((powY d : Nat) : Int)) - ((pt.length : Nat) : Int)) := by
        unfold expS
        dsimp only
        have hp := pow_same d
        cases low with
        | true =>
          rw [if_pos rfl, if_pos rfl]
          exact make_both hpt (by omega)
        | false =>
          rw [if_neg (by simp), if_neg (by simp)]
          exact make_both hpt (by omega)
      simp only [hE]
/-- The mark, and what follows. -/
theorem read_mark {l : List Int} {k : Nat} (hl : l.length ≤ 4096) {n : Bool} {wh pt : List Int} (h0 : wh ++ pt ≠ []) (hd : Digs (wh ++ pt)) (hll : (wh ++ pt).length ≤ 4096) (hpt : pt.length ≤ 4096) :
    doneA l.length (runS (l.drop k) k 6 (n, wh ++ pt, pt.length, false, 0)) = finR n wh pt (if isR l (k, 0, 0) 45 = true then -((powY (digR l (signR l (k, 0, 0))).1 : Nat) : Int) else ((powY (digR l (signR l (k, 0, 0))).1 : Nat) : Int)) (lastR l (digR l (signR l (k, 0, 0))).2) := by
  by_cases h45 : isR l (k, 0, 0) 45 = true
  · obtain ⟨hk, hc⟩ := is_at.1 h45
    have e1 : signR l (k, 0, 0) = (k + 1, 0, 0) := by unfold signR; rw [if_pos (.inl h45)]; rfl
    rw [if_pos h45, e1, drop_at hk, run_cons', hc]
    have e7 : afterS 6 45 = 7 := by decide
    have e8 : takeS (n, wh ++ pt, pt.length, false, 0) 7 45 = (n, wh ++ pt, pt.length, true, 0) := by simp [takeS]
    rw [e7, if_neg (by decide), e8, read_power hl (.inr rfl) (fun h => by cases h) h0 hd hll hpt, if_pos rfl]
  · rw [if_neg h45]
    by_cases h43 : isR l (k, 0, 0) 43 = true
    · obtain ⟨hk, hc⟩ := is_at.1 h43
      have e1 : signR l (k, 0, 0) = (k + 1, 0, 0) := by unfold signR; rw [if_pos (.inr h43)]; rfl
      rw [e1, drop_at hk, run_cons', hc]
      have e7 : afterS 6 43 = 7 := by decide
      have e8 : takeS (n, wh ++ pt, pt.length, false, 0) 7 43 = (n, wh ++ pt, pt.length, false, 0) := by simp [takeS]
      rw [e7, if_neg (by decide), e8, read_power hl (.inr rfl) (fun h => by cases h) h0 hd hll hpt, if_neg (by simp)]
    · have e1 : signR l (k, 0, 0) = (k, 0, 0) := by unfold signR; rw [if_neg (fun h => h.elim h45 h43)]
      rw [e1, read_power hl (.inl rfl) (fun _ hk => ⟨fun h => h43 (is_at.2 ⟨hk, h⟩), fun h => h45 (is_at.2 ⟨hk, h⟩)⟩) h0 hd hll hpt, if_neg (by simp)]
/-- Behind all digits but the power's. -/
theorem read_tail {l : List Int} {k q : Nat} (hl : l.length ≤ 4096) (hq : q = 2 ∨ q = 3 ∨ q = 5) (hp : q ≠ 5 → k < l.length → l.getD k 0 ≠ 46) (hg : q ≠ 2 → k < l.length → isD (l.getD k 0) = false) {n : Bool} {wh pt : List Int} (h0 : wh ++ pt ≠ []) (hd : Digs (wh ++ pt)) (hll : (wh ++ pt).length ≤ 4096) (hpt : pt.length ≤ 4096) :
    doneA l.length (runS (l.drop k) k q (n, wh ++ pt, pt.length, false, 0)) = finR n wh pt (expR l (k, 0, 0)).1 (lastR l (expR l (k, 0, 0)).2) := by
  by_cases hk : k < l.length
  · have aft : afterS q (l.getD k 0) = afPart (l.getD k 0) := by
      rcases hq with rfl | rfl | rfl
      · exact after2 (hp (by decide) hk)
      · exact after3 (hp (by decide) hk) (hg (by decide) hk)
      · exact after5 (hg (by decide) hk)
    by_cases he : isR l (k, 0, 0) 101 = true ∨ isR l (k, 0, 0) 69 = true
    · have hc : l.getD k 0 = 101 ∨ l.getD k 0 = 69 := he.elim (fun h => .inl (is_at.1 h).2) (fun h => .inr (is_at.1 h).2)
      have e6 : afterS q (l.getD k 0) = 6 := by rw [aft]; unfold afPart; rw [if_pos hc]
      have eX : expR l (k, 0, 0) = ((if isR l (k + 1, 0, 0) 45 = true then -((powY (digR l (signR l (k + 1, 0, 0))).1 : Nat) : Int) else ((powY (digR l (signR l (k + 1, 0, 0))).1 : Nat) : Int)), (digR l (signR l (k + 1, 0, 0))).2) := by
        unfold expR
        rw [if_pos he]
        rfl
      have et : takeS (n, wh ++ pt, pt.length, false, 0) 6 (l.getD k 0) = (n, wh ++ pt, pt.length, false, 0) := by simp [takeS]
      rw [eX, drop_at hk, run_cons', e6, if_neg (by decide), et]
      exact read_mark hl h0 hd hll hpt
    · have eX : expR l (k, 0, 0) = (0, (k, 0, 0)) := by unfold expR; rw [if_neg he]
      have e9 : afterS q (l.getD k 0) = 9 := by
        rw [aft]
        unfold afPart
        rw [if_neg (fun h => he (h.elim (fun h => .inl (is_at.2 ⟨hk, h⟩)) (fun h => .inr (is_at.2 ⟨hk, h⟩))))]
      rw [eX, last_more hk, fin_bad, fault_at hk, drop_at hk, run_cons', if_pos e9]
      rfl
  · have eX : expR l (k, 0, 0) = (0, (k, 0, 0)) := by
      unfold expR
      rw [if_neg (fun h => h.elim (fun h => hk (is_at.1 h).1) (fun h => hk (is_at.1 h).1))]
    rw [eX, last_end hk, fin_ok h0 hd hll, drop_end hk]
    show doneA l.length (none, q, _) = _
    rw [done_end _ _ _ (by rcases hq with rfl | rfl | rfl <;> rfl)]
    have hE : expS (n, wh ++ pt, pt.length, false, 0) = 0 - ((pt.length : Nat) : Int) := by simp [expS]
    rw [hE]
theorem while_digs : ∀ l : List Int, Digs (l.takeWhile isD)
  | [] => fun c hc => by cases hc
  | x :: l => by
    by_cases h : isD x = true
    · rw [List.takeWhile_cons_of_pos h]
      intro c hc
      rcases List.mem_cons.1 hc with h1 | h1
      · rw [h1]; exact isD_iff.1 h
      · exact while_digs l c h1
    · rw [List.takeWhile_cons_of_neg h]
      intro c hc
      cases hc
theorem span_all (l : List Int) (k : Nat) : Digs ((l.drop k).takeWhile isD) := while_digs _
theorem span_len (l : List Int) (k : Nat) : ((l.drop k).takeWhile isD).length ≤ l.length - k := by
  have h := (List.takeWhile_sublist isD (l := l.drop k)).length_le
  rwa [List.length_drop] at h
/-- Behind the whole digits. -/
theorem read_part {l : List Int} {k q : Nat} (hl : l.length ≤ 4096) (hq : q = 2 ∨ q = 3) (hg : q = 3 → k < l.length → isD (l.getD k 0) = false) {n : Bool} {wh : List Int} (h0 : wh ≠ []) (hd : Digs wh) (hw : wh.length ≤ k) (hk4 : k ≤ l.length) :
    doneA l.length (runS (l.drop k) k q (n, wh, 0, false, 0)) = finR n wh (partR l (k, 0, 0)).1 (expR l (partR l (k, 0, 0)).2).1 (lastR l (expR l (partR l (k, 0, 0)).2).2) := by
  by_cases h46 : isR l (k, 0, 0) 46 = true
  · obtain ⟨hk, hc⟩ := is_at.1 h46
    have eP : partR l (k, 0, 0) = digR l (k + 1, 0, 0) := by unfold partR; rw [if_pos h46]; rfl
    have e4 : afterS q 46 = 4 := by rcases hq with rfl | rfl <;> decide
    have et : takeS (n, wh, 0, false, 0) 4 46 = (n, wh, 0, false, 0) := by simp [takeS]
    rw [eP, dig_at, drop_at hk, run_cons', hc, e4, if_neg (by decide), et]
    by_cases hsp : (l.drop (k + 1)).takeWhile isD = []
    · rw [if_pos hsp]
      have hnd := span_none.1 hsp
      rw [run_fault rfl (fun hk => after4n (hnd hk)), exp_bad (wrong_is rfl), last_bad (wrong_is rfl), fin_bad]
    · rw [if_neg hsp]
      have hk1 : k + 1 < l.length := by
        rcases Nat.lt_or_ge (k + 1) l.length with h | h
        · exact h
        · exact absurd (by rw [drop_end (by omega)]; rfl) hsp
      have hc1 : isD (l.getD (k + 1) 0) = true := by
        cases hc : isD (l.getD (k + 1) 0) with
        | true => rfl
        | false => exact absurd (span_none.2 (fun _ => hc)) hsp
      have hfirst := span_first hk1 hc1
      have e5 : afterS 4 (l.getD (k + 1) 0) = 5 := after4d hc1
      have hrun : runS (l.drop (k + 1)) (k + 1) 4 (n, wh, 0, false, 0) = runS (l.drop (k + 1 + ((l.drop (k + 1)).takeWhile isD).length)) (k + 1 + ((l.drop (k + 1)).takeWhile isD).length) 5 (n, wh ++ (l.drop (k + 1)).takeWhile isD, ((l.drop (k + 1)).takeWhile isD).length, false, 0) := by
        rw [← drop_span, hfirst, drop_at hk1, run_cons', e5, if_neg (by decide), run_digs (.inr (.inl rfl)), fold_part, List.dropWhile_cons_of_pos hc1]
        simp [takeS]
        congr 1
        · omega
        · congr 3
          omega
      rw [hrun]
      have hds := span_all l (k + 1)
      have hln := span_len l (k + 1)
      have hstop := span_stop l (k + 1)
      generalize (l.drop (k + 1)).takeWhile isD = d at *
      exact read_tail hl (.inr (.inr rfl)) (fun h => absurd rfl h) (fun _ hm => hstop hm) (fun h => h0 (List.append_eq_nil_iff.1 h).1) (digs_append hd hds) (by rw [List.length_append]; omega) (by omega)
  · have eP : partR l (k, 0, 0) = ([], (k, 0, 0)) := by unfold partR; rw [if_neg h46]
    rw [eP]
    have h := read_tail (l := l) (k := k) (q := q) hl (by rcases hq with h | h <;> simp [h]) (fun _ hk h => h46 (is_at.2 ⟨hk, h⟩)) (fun h2 hk => hg (by omega) hk) (n := n) (wh := wh) (pt := []) (by rw [List.append_nil]; exact h0) (by rw [List.append_nil]; exact hd) (by rw [List.append_nil]; omega) (by simp)
    rw [List.append_nil] at h
    exact h
/-- From the first digit on. -/
theorem read_whole {l : List Int} {k q : Nat} (hl : l.length ≤ 4096) (hq : q = 0 ∨ q = 1) (hk4 : k ≤ l.length) (hm : q = 0 → k < l.length → l.getD k 0 ≠ 45) {n : Bool} :
    doneA l.length (runS (l.drop k) k q (n, [], 0, false, 0)) = finR n (wholeR l (k, 0, 0)).1 (partR l (wholeR l (k, 0, 0)).2).1 (expR l (partR l (wholeR l (k, 0, 0)).2).2).1 (lastR l (expR l (partR l (wholeR l (k, 0, 0)).2).2).2) := by
  have aft : ∀ c, (q = 0 → c ≠ 45) → afterS q c = afMinus c := fun c hc => by
    rcases hq with rfl | rfl
    · simp [afterS, hc rfl]
    · simp [afterS]
  by_cases h48 : isR l (k, 0, 0) 48 = true
  · obtain ⟨hk, hc⟩ := is_at.1 h48
    have eW : wholeR l (k, 0, 0) = ([48], (k + 1, 0, 0)) := by unfold wholeR; rw [if_pos h48]; rfl
    have e2 : afterS q 48 = 2 := by rcases hq with rfl | rfl <;> decide
    have et : takeS (n, [], 0, false, 0) 2 48 = (n, [48], 0, false, 0) := by simp [takeS]
    rw [eW, drop_at hk, run_cons', hc, e2, if_neg (by decide), et]
    exact read_part hl (.inl rfl) (fun h => by cases h) (by simp) (fun c hc => by simp at hc; omega) (by simp) hk
  · have eW : wholeR l (k, 0, 0) = digR l (k, 0, 0) := by unfold wholeR; rw [if_neg h48]
    rw [eW, dig_at]
    by_cases hsp : (l.drop k).takeWhile isD = []
    · rw [if_pos hsp]
      have hnd := span_none.1 hsp
      rw [run_fault (by rcases hq with rfl | rfl <;> rfl) (fun hk => by
        rw [aft _ (fun h => hm h hk)]
        unfold afMinus
        rw [if_neg (fun h => h48 (is_at.2 ⟨hk, h⟩)), hnd hk]
        rfl), part_bad (wrong_is rfl), exp_bad (wrong_is rfl), last_bad (wrong_is rfl), fin_bad]
    · rw [if_neg hsp]
      have hk1 : k < l.length := by
        rcases Nat.lt_or_ge k l.length with h | h
        · exact h
        · exact absurd (by rw [drop_end (by omega)]; rfl) hsp
      have hc1 : isD (l.getD k 0) = true := by
        cases hc : isD (l.getD k 0) with
        | true => rfl
        | false => exact absurd (span_none.2 (fun _ => hc)) hsp
      have hfirst := span_first hk1 hc1
      have e3 : afterS q (l.getD k 0) = 3 := by
        rw [aft _ (fun h => hm h hk1)]
        unfold afMinus
        rw [if_neg (fun h => h48 (is_at.2 ⟨hk1, h⟩)), if_pos hc1]
      have hrun : runS (l.drop k) k q (n, [], 0, false, 0) = runS (l.drop (k + ((l.drop k).takeWhile isD).length)) (k + ((l.drop k).takeWhile isD).length) 3 (n, (l.drop k).takeWhile isD, 0, false, 0) := by
        rw [← drop_span, hfirst, drop_at hk1, run_cons', e3, if_neg (by decide), run_digs (.inl rfl), fold_whole, List.dropWhile_cons_of_pos hc1]
        simp [takeS]
        congr 1
        omega
      rw [hrun]
      have hds := span_all l k
      have hln := span_len l k
      have hstop := span_stop l k
      generalize (l.drop k).takeWhile isD = d at *
      exact read_part hl (.inr rfl) (fun _ hm => hstop hm) hsp hds (by omega) (by omega)
/-- THE SAME. -/
theorem read_same {l : List Int} (hl : l.length ≤ 4096) : readR l = doneA l.length (runS l 0 0 p0) := by
  unfold readR
  by_cases h45 : isR l st0 45 = true
  · obtain ⟨hk, hc⟩ := is_at.1 h45
    have e1 : mayR l st0 45 = (1, 0, 0) := by unfold mayR; rw [if_pos h45]; rfl
    have hd : l = 45 :: l.drop 1 := by
      have := drop_at hk
      rw [List.drop_zero, hc] at this
      exact this
    have hrun : runS l 0 0 p0 = runS (l.drop 1) 1 1 (true, [], 0, false, 0) := by
      conv => lhs; rw [hd]
      rw [run_cons']
      have e2 : afterS 0 45 = 1 := by decide
      rw [e2, if_neg (by decide)]
      rfl
    rw [e1, h45, hrun, read_whole hl (.inr rfl) (by omega) (fun h => by cases h)]
  · have e1 : mayR l st0 45 = (0, 0, 0) := by unfold mayR; rw [if_neg h45]; rfl
    have hb : isR l st0 45 = false := by simpa using h45
    have h := read_whole (l := l) (k := 0) (q := 0) hl (.inl rfl) (by omega) (fun _ hk h => h45 (is_at.2 ⟨hk, h⟩)) (n := false)
    rw [List.drop_zero] at h
    rw [e1, hb]
    exact h.symm
end Go.Proofs.YtcnfgmhcbelgoaaDoor
