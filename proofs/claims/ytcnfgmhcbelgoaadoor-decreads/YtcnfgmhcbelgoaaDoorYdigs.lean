/-
  The document's reader: digits, and a power's number.
-/
import Derived.Test.YtcnfgmhcbelgoaaDoorReader
namespace Go.Proofs.YtcnfgmhcbelgoaaDoor
open Go.RowKit

theorem take_span (l : List Int) (k : Nat) : midL l k (k + ((l.drop k).takeWhile isD).length) = (l.drop k).takeWhile isD := by
  unfold midL
  rw [Nat.add_sub_cancel_left]
  have h := List.takeWhile_append_dropWhile (p := isD) (l := l.drop k)
  conv => lhs; arg 2; rw [← h]
  rw [List.take_left]
theorem span_str (s : ByteArray) (k : Nat) : strOfNums (((bs s).drop k).takeWhile isD) = s.extract k (k + (((bs s).drop k).takeWhile isD).length) := by
  rw [← str_bs (s.extract k _), bs_extract, take_span]
/-- Each byte of the digits is one. -/
theorem span_each (l : List Int) (k m : Nat) (h : m < ((l.drop k).takeWhile isD).length) : k + m < l.length ∧ isD (l.getD (k + m) 0) = true := by
  have h1 := (List.takeWhile_sublist isD (l := l.drop k)).length_le
  rw [List.length_drop] at h1
  refine ⟨by omega, ?_⟩
  have e : ((l.drop k).takeWhile isD)[m]'h = l.getD (k + m) 0 := by
    have h2 := List.takeWhile_append_dropWhile (p := isD) (l := l.drop k)
    have h3 : (l.drop k)[m]? = some (((l.drop k).takeWhile isD)[m]'h) := by
      conv => lhs; arg 1; rw [← h2]
      rw [List.getElem?_append_left h, List.getElem?_eq_getElem h]
    rw [List.getElem?_drop] at h3
    rw [List.getD_eq_getElem?_getD, h3]
    rfl
  rw [← e]
  have hm : ((l.drop k).takeWhile isD)[m]'h ∈ (l.drop k).takeWhile isD := List.getElem_mem h
  revert hm
  generalize ((l.drop k).takeWhile isD)[m]'h = c
  intro hm
  have hall : ∀ (q : List Int) (x : Int), x ∈ q.takeWhile isD → isD x = true := by
    intro q
    induction q with
    | nil => intro x hx; cases hx
    | cons y q ih =>
      intro x hx
      by_cases hy : isD y = true
      · rw [List.takeWhile_cons_of_pos hy] at hx
        rcases List.mem_cons.1 hx with h | h
        · rw [h]; exact hy
        · exact ih x h
      · rw [List.takeWhile_cons_of_neg hy] at hx
        cases hx
  exact hall _ _ hm
/-- Where a reader stands, off the memory. -/
def placeAt (w : World) (g : Nat) : Nat := match w.cell? ⟨g, 1, none⟩ with | some (.int _ z) => z.toNat | _ => 0
theorem place_is {w : World} {g : Nat} {s : ByteArray} {k : Nat} {y f : Int} (h : RAt w g s (k, y, f)) : placeAt w g = k := by
  unfold placeAt
  rw [h.c1]
  simp
set_option maxRecDepth 100000 in
set_option maxHeartbeats 2000000 in
theorem ydig_any (g : Nat) (s : ByteArray) (k : Nat) (y f : Int) (w : World) (h : RAt w g s (k, y, f)) (hk : k ≤ s.size) (hsz : s.size ≤ 4096) :
    Calls Tryd.prog 33 #[.pointer (some ⟨g, 0, none⟩)] w fun e w' => e = .returned (.string (strOfNums (digR (bs s) (k, y, f)).1)) ∧ RAt w' g s (digR (bs s) (k, y, f)).2 ∧ Below g w w' := by
  have hlen := bs_len s
  have kD := ydigit_any
  have c1 := h.c1
  dsimp only at c1
  have hH : Hid (RAt w g s (k, y, f)) := h
  clear h
  obtain ⟨N, hN⟩ : ∃ N, (spanR (bs s) (k, y, f)).length = N := ⟨_, rfl⟩
  have hKs : k + N ≤ s.size := by
    rw [← hN]
    unfold spanR
    dsimp only
    split
    · have h1 := (List.takeWhile_sublist isD (l := (bs s).drop k)).length_le
      rw [List.length_drop, hlen] at h1
      omega
    · simp; exact hk
  have hyes : Hid (∀ m, m < N → y = 0 ∧ k + m < s.size ∧ isD ((bs s).getD (k + m) 0) = true) := fun m hm => by
    rw [← hN] at hm
    unfold spanR at hm
    dsimp only at hm
    split at hm
    · rename_i hy
      have := span_each (bs s) k m hm
      rw [hlen] at this
      exact ⟨hy, this⟩
    · simp at hm
  have hno : Hid (y ≠ 0 ∨ (y = 0 ∧ ¬ k + N < s.size) ∨ (y = 0 ∧ k + N < s.size ∧ isD ((bs s).getD (k + N) 0) = false)) := by
    show _ ∨ _
    by_cases hy : y = 0
    · refine .inr ?_
      by_cases hm : k + N < s.size
      · refine .inr ⟨hy, hm, ?_⟩
        have h2 := span_stop (bs s) k
        unfold spanR at hN
        dsimp only at hN
        rw [if_pos hy] at hN
        rw [hN, hlen] at h2
        exact h2 hm
      · exact .inl ⟨hy, hm⟩
    · exact .inl hy
  have hdig : Hid (digR (bs s) (k, y, f) = if N = 0 then ([], wrongR (bs s) (k, y, f)) else (spanR (bs s) (k, y, f), (k + N, y, f))) := by
    show _ = _
    unfold digR
    dsimp only
    rw [hN]
    by_cases h0 : N = 0
    · rw [if_pos h0, if_pos (List.eq_nil_of_length_eq_zero (by rw [hN]; exact h0))]
    · rw [if_neg h0, if_neg (fun h => h0 (by rw [← hN, h]; rfl))]
  have hstr : Hid (N ≠ 0 → strOfNums (spanR (bs s) (k, y, f)) = s.extract k (k + N)) := fun h0 => by
    have hy : y = 0 := (hyes.out 0 (by omega)).1
    have e : spanR (bs s) (k, y, f) = ((bs s).drop k).takeWhile isD := by unfold spanR; rw [if_pos hy]
    rw [e] at hN
    rw [e, span_str, hN]
  generalize digR (bs s) (k, y, f) = DD at *
  clear hN
  go_enter Tryd.func33, Tryd.ntmps33
  go_wp2
  go_loopw [] (fun wr => ∃ m : Nat, m ≤ N ∧ Hid (RAt wr g s (k + m, y, f)) ∧ Hid (Below g w wr)) (fun wr => s.size - placeAt wr g)
  case atStart => exact ⟨0, Nat.zero_le _, hH, Below.refl _ _⟩
  case round =>
    obtain ⟨m, hm, hR, hB⟩ := hrel
    have hO : Hid (∀ q, Calls Tryd.prog 37 #[.pointer (some ⟨g, 0, none⟩)] (wr.drewN q) fun e w' => e = .returned (.bool (y == 0)) ∧ w' = wr.drewN q) := fun q => yok_any g s (k + m, y, f) (wr.drewN q) hR.out
    have d0 := hR.out.c0
    have d1 := hR.out.c1
    have z1 := hR.out.fz 1
    dsimp only at d1
    clear c1
    by_cases hmN : m < N
    · obtain ⟨hy, hlt, hd⟩ := hyes.out m hmN
      subst hy
      have bk := bs_at s hlt
      have k1 := kD (((s[k + m]'hlt).toNat : Nat) : Int)
      rw [← bk, hd, bk] at k1
      have hO' : Hid (∀ q, Calls Tryd.prog 37 #[.pointer (some ⟨g, 0, none⟩)] (wr.drewN q) fun e w' => e = .returned (.bool true) ∧ w' = wr.drewN q) := hO.out
      have hlt' : ((k + m : Nat) : Int) < ((s.size : Nat) : Int) := by omega
      have wk : IntKind.i64.wrap (((k + m : Nat) : Int) + 1) = ((k + (m + 1) : Nat) : Int) := by rw [IntKind.wrap_i64] <;> omega
      have hm1 : Hid (m + 1 ≤ N ∧ k + m < k + (m + 1) ∧ k + m < s.size) := ⟨by omega, by omega, hlt⟩
      have hpl : Hid (placeAt wr g = k + m) := place_is hR.out
      clear hO bk hd hyes hno hdig hstr kD hKs
      generalize hA : k + m = A at *
      generalize hA1 : k + (m + 1) = A1 at *
      go_wp2
      go_quiet (first | (go_at_call 37; exact Calls.quiet_of_same (hO'.out _)) | (go_at_call 27; exact Calls.quiet_of_same (k1 _)))
      go_wp2
      go_roundw
      case rel => exact ⟨m + 1, hm1.out.1, (by show RAt _ _ _ _; rw [hA1]; exact RAt.goes (w := wr.drewN nq) hR.out A1), (by show Below _ _ _; exact bset (bdrew hB.out nq) 1 _)⟩
      case measure =>
        rw [place_is (RAt.goes (w := wr.drewN nq) hR.out A1), hpl.out]
        have := hm1.out
        omega
    · obtain rfl : m = N := by omega
      rcases hno.out with hy | ⟨hy, hlt⟩ | ⟨hy, hlt, hd⟩
      · have hy' : (y == 0) = false := by simpa using hy
        rw [hy'] at hO
        have hO' : Hid (∀ q, Calls Tryd.prog 37 #[.pointer (some ⟨g, 0, none⟩)] (wr.drewN q) fun e w' => e = .returned (.bool false) ∧ w' = wr.drewN q) := hO.out
        obtain rfl : m = 0 := by
          rcases Nat.eq_zero_or_pos m with h | h
          · exact h
          · exact absurd (hyes.out 0 h).1 hy
        rw [Nat.add_zero] at hR d1
        clear hO kD hmN hy
        have hDD := hdig.out
        rw [if_pos rfl] at hDD
        subst hDD
        have kW := fun q => ywrong_any g s k y f (wr.drewN q) hR.out
        have hB0 : Hid (Below g w wr) := hB
        clear hdig hstr hyes hno hKs hB
        go_wp2
        go_quiet (first | (go_at_call 37; exact Calls.quiet_of_same (hO'.out _)))
        go_wp2_with fail
        refine (kW _).mono ?_
        rintro e w5 ⟨⟨u, rfl⟩, hR5, hB5⟩
        go_wp2
        go_ret
        exact ⟨rfl, hR5, hB0.out.trans (Below.trans (bdrew (Below.refl g wr) _) hB5)⟩
      · subst hy
        have hO' : Hid (∀ q, Calls Tryd.prog 37 #[.pointer (some ⟨g, 0, none⟩)] (wr.drewN q) fun e w' => e = .returned (.bool true) ∧ w' = wr.drewN q) := by
          exact hO.out
        have hlt' : ¬ ((k + m : Nat) : Int) < ((s.size : Nat) : Int) := by omega
        by_cases h0 : m = 0
        · subst h0
          rw [Nat.add_zero] at hR d1 hlt hlt'
          clear hO kD hmN
          have hDD := hdig.out
          rw [if_pos rfl] at hDD
          subst hDD
          have kW := fun q => ywrong_any g s k 0 f (wr.drewN q) hR.out
          have hB0 : Hid (Below g w wr) := hB
          clear hdig hstr hyes hno hKs hB
          go_wp2
          go_quiet (first | (go_at_call 37; exact Calls.quiet_of_same (hO'.out _)))
          go_wp2_with fail
          refine (kW _).mono ?_
          rintro e w5 ⟨⟨u, rfl⟩, hR5, hB5⟩
          go_wp2
          go_ret
          exact ⟨rfl, hR5, hB0.out.trans (Below.trans (bdrew (Below.refl g wr) _) hB5)⟩
        · clear hO kD hmN
          have hDD := hdig.out
          rw [if_neg h0] at hDD
          subst hDD
          have hE : Hid (strOfNums (spanR (bs s) (k, 0, f)) = s.extract k (k + m)) := hstr.out h0
          have eNe : (((k + m : Nat) : Int) == ((k : Nat) : Int)) = false := by simp; omega
          have i1 : ((k : Nat) : Int) ≤ ((k + m : Nat) : Int) := by omega
          have i2 : ((k + m : Nat) : Int) ≤ ((s.size : Nat) : Int) := by omega
          clear hdig hstr hyes hno
          generalize hA : k + m = A at *
          go_wp2
          go_quiet (first | (go_at_call 37; exact Calls.quiet_of_same (hO'.out _)))
          go_wp2
          go_quiet (fail)
          go_wp2
          go_ret
          exact ⟨by show _ = Ending.returned (.string (strOfNums (spanR (bs s) (k, 0, f)))); rw [hE.out]; rfl, hR.out, bdrew hB.out _⟩
      · subst hy
        have hO' : Hid (∀ q, Calls Tryd.prog 37 #[.pointer (some ⟨g, 0, none⟩)] (wr.drewN q) fun e w' => e = .returned (.bool true) ∧ w' = wr.drewN q) := by
          exact hO.out
        have hlt' : ((k + m : Nat) : Int) < ((s.size : Nat) : Int) := by omega
        have bk := bs_at s hlt
        have k1 := kD (((s[k + m]'hlt).toNat : Nat) : Int)
        rw [← bk, hd, bk] at k1
        by_cases h0 : m = 0
        · subst h0
          simp only [Nat.add_zero] at hR d1 hlt hlt' k1
          clear hO kD hmN bk hd
          have hDD := hdig.out
          rw [if_pos rfl] at hDD
          subst hDD
          have kW := fun q => ywrong_any g s k 0 f (wr.drewN q) hR.out
          have hB0 : Hid (Below g w wr) := hB
          clear hdig hstr hyes hno hKs hB
          go_wp2
          go_quiet (first | (go_at_call 37; exact Calls.quiet_of_same (hO'.out _)) | (go_at_call 27; exact Calls.quiet_of_same (k1 _)))
          go_wp2_with fail
          refine (kW _).mono ?_
          rintro e w5 ⟨⟨u, rfl⟩, hR5, hB5⟩
          go_wp2
          go_ret
          exact ⟨rfl, hR5, hB0.out.trans (Below.trans (bdrew (Below.refl g wr) _) hB5)⟩
        · clear hO kD hmN bk hd
          have hDD := hdig.out
          rw [if_neg h0] at hDD
          subst hDD
          have hE : Hid (strOfNums (spanR (bs s) (k, 0, f)) = s.extract k (k + m)) := hstr.out h0
          have eNe : (((k + m : Nat) : Int) == ((k : Nat) : Int)) = false := by simp; omega
          have i1 : ((k : Nat) : Int) ≤ ((k + m : Nat) : Int) := by omega
          have i2 : ((k + m : Nat) : Int) ≤ ((s.size : Nat) : Int) := by omega
          clear hdig hstr hyes hno
          generalize hA : k + m = A at *
          go_wp2
          go_quiet (first | (go_at_call 37; exact Calls.quiet_of_same (hO'.out _)) | (go_at_call 27; exact Calls.quiet_of_same (k1 _)))
          go_wp2
          go_quiet (fail)
          go_wp2
          go_ret
          exact ⟨by show _ = Ending.returned (.string (strOfNums (spanR (bs s) (k, 0, f)))); rw [hE.out]; rfl, hR.out, bdrew hB.out _⟩
theorem powY_snoc (d : List Int) (c : Int) : powY (d ++ [c]) = min (powY d * 10 + (c - 48).toNat) 1000000 := by
  unfold powY
  rw [List.foldl_append]
  rfl
theorem powY_le (d : List Int) : powY d ≤ 1000000 := by
  rcases List.eq_nil_or_concat d with rfl | ⟨t, c, rfl⟩
  · decide
  · rw [List.concat_eq_append, powY_snoc]; omega
set_option maxHeartbeats 1000000 in
theorem yexp_any (t : ByteArray) (w : World) (hd : Digs (bs t)) (hl : t.size ≤ 4096) : Calls Tryd.prog 35 #[.string t] w fun e w' => e = .returned (.int .i64 ((powY (bs t) : Nat) : Int)) ∧ w' = w := by
  have hlen := bs_len t
  have hend : Hid (powY ((bs t).take t.size) = powY (bs t)) := by show _ = _; rw [List.take_of_length_le (by rw [hlen]; exact Nat.le_refl _)]
  generalize powY (bs t) = R at *
  go_enter Tryd.func35, Tryd.ntmps35
  go_wp2
  go_loop [3, 4] (fun v u => ∃ i : Nat, i ≤ t.size ∧ u = .int .i64 i ∧ v = .int .i64 ((powY ((bs t).take i) : Nat) : Int)) (fun _ u => t.size - (intOf u).toNat)
  case atStart => exact ⟨0, Nat.zero_le _, rfl, rfl⟩
  case round =>
    obtain ⟨i, hi, rfl, rfl⟩ := hrel
    by_cases hlt : i < t.size
    · have bk := bs_at t hlt
      have hc := hd _ (by rw [List.getD_eq_getElem?_getD, List.getElem?_eq_getElem (by rw [hlen]; exact hlt)]; exact List.getElem_mem (l := bs t) (n := i) (by rw [hlen]; exact hlt) : (bs t).getD i 0 ∈ bs t)
      have hle := powY_le ((bs t).take i)
      have hnext : powY ((bs t).take (i + 1)) = min (powY ((bs t).take i) * 10 + ((bs t).getD i 0 - 48).toNat) 1000000 := by
        rw [List.take_succ_eq_append_getElem (by rw [hlen]; exact hlt), powY_snoc, List.getD_eq_getElem?_getD, List.getElem?_eq_getElem (by rw [hlen]; exact hlt)]
        rfl
      rw [bk] at hnext hc
      obtain ⟨d, hdd⟩ : ∃ d : Nat, (((t[i]'hlt).toNat : Nat) : Int) = ((48 + d : Nat) : Int) := ⟨(t[i]'hlt).toNat - 48, by omega⟩
      rw [hdd] at hnext
      have e0 : (((48 + d : Nat) : Int) - 48).toNat = d := by omega
      rw [e0] at hnext
      have hd9 : d ≤ 9 := by omega
      have w1 : IntKind.u8.wrap ((((t[i]'hlt).toNat : Nat) : Int) - 48) = ((d : Nat) : Int) := by
        rw [hdd]; simp [IntKind.wrap, IntKind.bits, IntKind.signed]; omega
      have w2 : IntKind.i64.wrap ((d : Nat) : Int) = ((d : Nat) : Int) := by rw [IntKind.wrap_i64] <;> omega
      have hP : Hid (powY ((bs t).take (i + 1)) = min (powY ((bs t).take i) * 10 + d) 1000000) := hnext
      generalize powY ((bs t).take i) = A at *
      have w3 : IntKind.i64.wrap (((A : Nat) : Int) * 10) = ((A * 10 : Nat) : Int) := by rw [IntKind.wrap_i64] <;> omega
      have w4 : IntKind.i64.wrap (((A * 10 : Nat) : Int) + ((d : Nat) : Int)) = ((A * 10 + d : Nat) : Int) := by rw [IntKind.wrap_i64] <;> omega
      have w5 : min ((A * 10 + d : Nat) : Int) 1000000 = ((min (A * 10 + d) 1000000 : Nat) : Int) := by omega
      generalize hM : min (A * 10 + d) 1000000 = M at *
      clear bk hc hle hnext hdd e0 hd9 hM
      generalize ((A * 10 + d : Nat) : Int) = X at *
      generalize ((A * 10 : Nat) : Int) = Y at *
      go_wp2
      go_round
      case rel => exact ⟨i + 1, by omega, by go_num, by rw [hP.out]⟩
      case measure => simp [intOf]; omega
    · obtain rfl : i = t.size := by omega
      rw [hend.out]
      go_wp2
      go_ret
      exact ⟨rfl, rfl⟩
end Go.Proofs.YtcnfgmhcbelgoaaDoor
