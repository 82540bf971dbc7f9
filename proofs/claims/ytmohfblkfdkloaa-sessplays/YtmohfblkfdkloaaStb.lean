/-
  The document's small calls: place, used, begins, Find; its time that goes on; lists compared.
-/
import Derived.Test.YtmohfblkfdkloaaSta
namespace Go.Proofs.Ytmohfblkfdkloaa
open Go.RowKit
set_option linter.unusedVariables false
def plA (L : List Se) (t : Int) : Int := match fiA L t with
  | none => -1
  | some i => (i : Int)
set_option maxHeartbeats 1000000 in
theorem place_any {w : World} {E : Nat → Prop} {rb : Nat} {v u : Value} {R : Tb} {us : List Int} (t : Int) (h : RTab w E rb v u R us) (hL : R.L.length ≤ 64) :
    Calls Try.prog 28 #[.pointer (some ⟨rb, 0, none⟩), .int .u64 t] w fun e w' => e = .returned (.int .i64 (plA R.L t)) ∧ w' = w := by
  obtain ⟨a, c, rfl, h1, h2, _⟩ := h.form
  have c3 := h.c3
  have hH : Hid (RTab w E rb (.slice a R.L.length c) u R us) := h
  have hn : Hid (∃ n, n = R.L.length) := ⟨_, rfl⟩
  obtain ⟨n, hn⟩ := hn
  rw [← hn] at c3 h1 hL
  have hn' : Hid (n = R.L.length) := hn
  clear h hn
  go_enter Try.func28, Try.ntmps28
  go_wp2
  go_loopw [4, 5] (fun _ s5 wr => ∃ (i : Nat), i ≤ n ∧ s5 = .int .i64 i ∧ wr = w ∧ Hid (∀ s ∈ R.L.take i, s.t ≠ t)) (fun _ i _ => n - (intOf i).toNat)
  case atStart => exact ⟨0, Nat.zero_le _, rfl, rfl, by show ∀ s ∈ _, _; simp⟩
  case round =>
    obtain ⟨i, him, rfl, rfl, hT⟩ := hrel
    by_cases hlt : i < n
    · have hz : (i : Int) < (n : Int) := by omega
      have hix : i < R.L.length := by rw [← hn'.out]; exact hlt
      have hi : R.L[i]? = some R.L[i] := List.getElem?_eq_getElem hix
      obtain ⟨g, c', hv, hg, hC, hgr, _, hcell⟩ := hH.out.cells hi
      simp only [Value.slice.injEq] at hv
      obtain ⟨rfl, -, rfl⟩ := hv
      have f0 : wr.cell? ⟨g, i * 4, none⟩ = some (.int .u64 R.L[i].t) := hcell 0 (by decide)
      have wi : IntKind.i64.wrap ((i : Int) + 1) = (i : Int) + 1 := by rw [IntKind.wrap_i64]; omega
      by_cases hE : R.L[i].t = t
      · have hd : (R.L[i].t == t) = true := by simp [hE]
        have hfi : Hid (plA R.L t = (i : Int)) := by
          have : fiA R.L t = some i := by
            unfold fiA
            rw [List.findIdx?_eq_some_iff_getElem]
            refine ⟨hix, by simpa using hE, fun j hj => ?_⟩
            have := hT.out R.L[j] (by rw [List.mem_take_iff_getElem]; exact ⟨j, by omega, rfl⟩)
            simpa using this
          show _ = _
          unfold plA
          rw [this]
        clear hE hcell hi hC
        go_wp2
        go_ret
        exact ⟨by rw [hfi.out]; rfl, rfl⟩
      · have hd : (R.L[i].t == t) = false := by simp [hE]
        have hT' : Hid (∀ s ∈ R.L.take (i + 1), s.t ≠ t) := by
          show ∀ s ∈ _, _
          rw [List.take_succ_eq_append_getElem hix]
          intro s hs
          rcases List.mem_append.1 hs with hs | hs
          · exact hT.out s hs
          · simp at hs; rw [hs]; exact hE
        clear hE hcell hi hC
        go_wp2
        go_roundw
        case rel => exact ⟨i + 1, by omega, by go_num, trivial, hT'⟩
        case measure => simp [intOf]; omega
    · have hz : ¬ (i : Int) < (n : Int) := by omega
      have hfi : Hid (plA R.L t = -1) := by
        have : fiA R.L t = none := by
          rw [fiA_none]
          have := hT.out
          rwa [List.take_of_length_le (by rw [← hn'.out]; omega)] at this
        show _ = _
        unfold plA
        rw [this]
      go_wp2
      go_ret
      exact ⟨by rw [hfi.out]; rfl, rfl⟩
set_option maxHeartbeats 1000000 in
theorem used_any {w : World} {E : Nat → Prop} {rb : Nat} {v u : Value} {R : Tb} {us : List Int} (t : Int) (h : RTab w E rb v u R us) (hk : us.length ≤ 1000000000000000) :
    Calls Try.prog 37 #[.pointer (some ⟨rb, 0, none⟩), .int .u64 t] w fun e w' => e = .returned (.bool (R.U t)) ∧ w' = w := by
  obtain ⟨a, c, rfl, h1, h2, _⟩ := h.uform
  have c4 := h.c4
  have hH : Hid (RTab w E rb v (.slice a us.length c) R us) := h
  have hn : Hid (∃ n, n = us.length) := ⟨_, rfl⟩
  obtain ⟨n, hn⟩ := hn
  rw [← hn] at c4 h1 hk
  have hn' : Hid (n = us.length) := hn
  clear h hn
  go_enter Try.func37, Try.ntmps37
  go_wp2
  go_loopw [4, 5] (fun _ s5 wr => ∃ (i : Nat), i ≤ n ∧ s5 = .int .i64 i ∧ wr = w ∧ Hid (t ∉ us.take i)) (fun _ i _ => n - (intOf i).toNat)
  case atStart => exact ⟨0, Nat.zero_le _, rfl, rfl, by show ¬ _; simp⟩
  case round =>
    obtain ⟨i, him, rfl, rfl, hT⟩ := hrel
    by_cases hlt : i < n
    · have hz : (i : Int) < (n : Int) := by omega
      have hix : i < us.length := by rw [← hn'.out]; exact hlt
      have hi : us[i]? = some us[i] := List.getElem?_eq_getElem hix
      obtain ⟨g, c', hv, hg, f0⟩ := hH.out.ucell hi
      simp only [Value.slice.injEq] at hv
      obtain ⟨rfl, -, rfl⟩ := hv
      have wi : IntKind.i64.wrap ((i : Int) + 1) = (i : Int) + 1 := by rw [IntKind.wrap_i64]; omega
      by_cases hE : us[i] = t
      · have hd : (us[i] == t) = true := by simp [hE]
        have hfi : Hid (R.U t = true) := (hH.out.mem t).2 (by rw [← hE]; exact List.getElem_mem hix)
        clear hE hi
        go_wp2
        go_ret
        exact ⟨by rw [hfi.out]; rfl, rfl⟩
      · have hd : (us[i] == t) = false := by simp [hE]
        have hT' : Hid (t ∉ us.take (i + 1)) := by
          show ¬ _
          rw [List.take_succ_eq_append_getElem hix, List.mem_append]
          rintro (h | h)
          · exact hT.out h
          · exact hE (List.mem_singleton.1 h).symm
        clear hE hi
        go_wp2
        go_roundw
        case rel => exact ⟨i + 1, by omega, by go_num, trivial, hT'⟩
        case measure => simp [intOf]; omega
    · have hz : ¬ (i : Int) < (n : Int) := by omega
      have hfi : Hid (R.U t = false) := by
        have h0 : t ∉ us := by
          have := hT.out
          rwa [List.take_of_length_le (by rw [← hn'.out]; omega)] at this
        show _ = _
        cases hu : R.U t with
        | false => rfl
        | true => exact absurd ((hH.out.mem t).1 hu) h0
      go_wp2
      go_ret
      exact ⟨by rw [hfi.out]; rfl, rfl⟩
set_option maxHeartbeats 1000000 in
theorem begins_any {w : World} {E : Nat → Prop} {rb k : Nat} {v u : Value} {R : Tb} {us : List Int} (d : Int) (h : RTab w E rb v u R us) (hO : Ok k R) (hk : k ≤ 1000000000000000) :
    Calls Try.prog 27 #[.pointer (some ⟨rb, 0, none⟩), .int .u64 d] w fun e w' => e = .returned (.int .i64 (begE R d)) ∧ Below w.heap.size w w' := by
  have ku := used_any d h (by rw [h.cnt]; exact Nat.le_trans hO.cnt hk)
  obtain ⟨a, c, rfl, h1, h2, _⟩ := h.form
  have c3 := h.c3
  have c0 := h.c0
  have hO' : Hid (Ok k R) := hO
  by_cases h0 : d = 0
  · have e : begE R d = 1 := by unfold begE; rw [if_pos h0]
    rw [e]
    subst h0
    clear h hO ku
    go_enter Try.func27, Try.ntmps27
    go_wp2
    go_ret
    exact ⟨rfl, Below.refl _ _⟩
  · have q0 : (d == 0) = false := by simpa using h0
    cases hu : R.U d with
    | true =>
      have e : begE R d = 9 := by unfold begE; rw [if_neg h0, if_pos hu]
      rw [e]
      rw [hu] at ku
      clear h hO hu
      go_enter Try.func27, Try.ntmps27
      go_wp2_with (go_at_call 37; refine ku.mono ?_; rintro e w1 ⟨rfl, hw1⟩; obtain rfl := hw1.symm)
      go_ret
      exact ⟨rfl, Below.refl _ _⟩
    | false =>
      rw [hu] at ku
      have hf := hO.few
      by_cases hm : (R.L.length : Int) = R.most
      · have e : begE R d = 14 := by unfold begE; rw [if_neg h0, hu, if_neg (by decide), if_pos hm]
        rw [e]
        have q1 : decide (((R.L.length : Nat) : Int) ≥ R.most) = true := by simp; omega
        generalize R.L.length = n at *
        clear h hO hu hf hm hO'
        go_enter Try.func27, Try.ntmps27
        go_wp2_with (go_at_call 37; refine ku.mono ?_; rintro e w1 ⟨rfl, hw1⟩; obtain rfl := hw1.symm)
        go_region
        go_wp2
        go_ret
        exact ⟨rfl, (Below.refl _ _).drew⟩
      · have e : begE R d = 0 := by unfold begE; rw [if_neg h0, hu, if_neg (by decide), if_neg hm]
        rw [e]
        have q1 : decide (((R.L.length : Nat) : Int) ≥ R.most) = false := by simp; omega
        generalize R.L.length = n at *
        clear h hO hu hf hm hO'
        go_enter Try.func27, Try.ntmps27
        go_wp2_with (go_at_call 37; refine ku.mono ?_; rintro e w1 ⟨rfl, hw1⟩; obtain rfl := hw1.symm)
        go_region
        go_wp2
        go_ret
        exact ⟨rfl, (Below.refl _ _).drew⟩
set_option maxHeartbeats 1000000 in
theorem xfind_any {w : World} {E : Nat → Prop} {rb : Nat} {v u : Value} {R : Tb} {us : List Int} (t : Int) (h : RTab w E rb v u R us) (hL : R.L.length ≤ 64) :
    Calls Try.prog 23 #[.pointer (some ⟨rb, 0, none⟩), .int .u64 t] w fun e w' => e = .returned (.tuple #[.int .i64 (findA R.L t).1, .int .i64 (findA R.L t).2.1, .bool (findA R.L t).2.2]) ∧ Below w.heap.size w w' := by
  have k2 := place_any t h hL
  cases hf : fiA R.L t with
  | none =>
    have e : plA R.L t = -1 := by unfold plA; rw [hf]
    have ef := findA_none hf
    rw [e] at k2
    rw [ef]
    clear h hf
    go_enter Try.func23, Try.ntmps23
    go_wp2_with (go_at_call 28; refine k2.mono ?_; rintro e w1 ⟨rfl, hw1⟩; obtain rfl := hw1.symm)
    refine bodyPost_ret (v := .tuple #[.int .i64 0, .int .i64 0, .bool false]) (by simp [results, Try.results23, go_sem]) rfl ⟨rfl, Below.refl _ _⟩
  | some i =>
    obtain ⟨s, hs, -, hil⟩ := fiA_some hf
    have e : plA R.L t = (i : Int) := by unfold plA; rw [hf]
    have ef := findA_some hf hs
    rw [e] at k2
    rw [ef]
    obtain ⟨g, c, rfl, hg, -, -, -, hcell⟩ := h.cells hs
    have f1 : w.cell? ⟨g, i * 4 + 1, none⟩ = some (.int .i64 s.e) := hcell 1 (by decide)
    have f2 : w.cell? ⟨g, i * 4 + 2, none⟩ = some (.int .i64 s.f) := hcell 2 (by decide)
    have c3 := h.c3
    have q1 : (0 : Int) ≤ (i : Int) := by omega
    have q2 : (i : Int) < ((R.L.length : Nat) : Int) := by omega
    have q3 : decide ((i : Int) < 0) = false := by simp
    obtain ⟨_, _, e9, h9, h10, _⟩ := h.form
    cases e9
    generalize R.L.length = n at *
    clear h hcell hs hf
    go_enter Try.func23, Try.ntmps23
    go_wp2_with (go_at_call 28; refine k2.mono ?_; rintro e w1 ⟨rfl, hw1⟩; obtain rfl := hw1.symm)
    go_region
    go_wp2
    (try simp only [Exit.inBlock, Exit.then])
    refine bodyPost_ret (results_tmp3 rfl _ _ _) rfl ?_
    exact ⟨rfl, (Below.refl _ _).drew⟩
theorem ytime_any (now : Int) (w : World) : Calls Try.prog 35 #[.int .i64 now] w fun e w' => e = .returned (.bool (decide (0 ≤ now) && decide (now ≤ 1099511627776))) ∧ w' = w := by
  by_cases h0 : 0 ≤ now
  · have d0 : decide (now ≥ 0) = true := by simp; omega
    have d0' : decide (0 ≤ now) = true := by simp; omega
    by_cases h1 : now ≤ 1099511627776
    · have d1 : decide (now ≤ 1099511627776) = true := by simp; omega
      rw [d0', d1]
      clear h0 h1 d0'
      go_enter Try.func35, Try.ntmps35
      go_wp2
      go_ret
      all_goals simp_all
    · have d1 : decide (now ≤ 1099511627776) = false := by simp; omega
      rw [d0', d1]
      clear h0 h1 d0'
      go_enter Try.func35, Try.ntmps35
      go_wp2
      go_ret
      all_goals simp_all
  · have d0 : decide (now ≥ 0) = false := by simp; omega
    have d0' : decide (0 ≤ now) = false := by simp; omega
    rw [d0']
    clear h0 d0'
    go_enter Try.func35, Try.ntmps35
    go_wp2
    go_ret
    all_goals simp_all
end Go.Proofs.Ytmohfblkfdkloaa
