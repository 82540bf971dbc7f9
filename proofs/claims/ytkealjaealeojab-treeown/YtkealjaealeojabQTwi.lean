/-
  Whether two keys are the same: tree.twice, with slices.ContainsFunc and slices.IndexFunc; tree.Same.
-/
import Derived.Test.YtkealjaealeojabQSmt
import Derived.Test.YtkealjaealeojabQMea
namespace Go.Proofs.Ytkealjaealeojab
open Go.RowKit
set_option linter.unusedVariables false

theorem RowN.take {Q : Nb → Tr → Prop} {w : World} {a : Option Addr} {len cap : Nat} {l : List Tr} (h : RowN Q w a len cap l) {i : Nat} (hi : i ≤ len) : RowN Q w a i cap (l.take i) := by
  obtain ⟨h0, h1, h2⟩ := h
  refine ⟨by rw [List.length_take]; omega, ⟨Nat.le_trans hi h1.1, h1.2.1, h1.2.2.1, Nat.le_trans (Nat.mul_le_mul_right _ hi) h1.2.2.2⟩, ?_⟩
  rcases h2 with rfl | ⟨b, off, ha, hc⟩
  · exact .inl (by simp)
  · refine .inr ⟨b, off, ha, fun j hj => ?_⟩
    have hj' : j < l.length := by rw [List.length_take] at hj; omega
    obtain ⟨nb, hn, hQ⟩ := hc j hj'
    exact ⟨nb, hn, by rw [List.getElem_take]; exact hQ⟩

set_option maxHeartbeats 1000000 in
/-- The closure: is a node the key in the box gk? -/
theorem twcc_any {D : Nat} (gk : Nat) (kb nb : Nb) (u x : Tr) (w : World) (hk : NBox w gk kb) (hu : Nd D w kb u) (hx : Nd D w nb x) (v : Bool) (hv : v = true ↔ x = u) :
    Calls Try.prog 41 (#[.agg nb.arr] ++ #[.pointer (some ⟨gk, 0, none⟩)]) w fun e w' => e = .returned (.bool v) ∧ Below w.heap.size w w' := by
  show Calls Try.prog 41 #[.agg nb.arr, .pointer (some ⟨gk, 0, none⟩)] w _
  have hal := alloc_below w (.cells nb.arr 26)
  have ks := sam_any (hx.kept hal) (hu.kept hal) hv
  obtain ⟨a0, a1, a2, a3, a4, a5, a6, a7, a8⟩ := (nbox_new w nb).fields
  obtain ⟨b0, b1, b2, b3, b4, b5, b6, b7, b8⟩ := (hk.kept hal hk.lt).fields
  have hB : Hid (Below w.heap.size w (w.alloc (.cells nb.arr 26))) := hal
  clear hal hk hu hx hv
  go_enter Try.func41, Try.ntmps41
  go_wp2_with (go_at_call 38; refine ks.mono ?_; rintro e w1 ⟨rfl, hb⟩)
  go_ret
  exact ⟨rfl, hB.out.trans (hb.mono hB.out.size)⟩

set_option maxHeartbeats 4000000 in
set_option maxRecDepth 100000 in
theorem indf_any {D : Nat} (a : Option Addr) (n c : Nat) (l : List Tr) (gk : Nat) (kb : Nb) (u : Tr) (w : World) (hk : NBox w gk kb) (hu : Nd D w kb u) (hl : RowN (Nd D w) w a n c l) :
    Calls Try.prog 52 #[.slice a n c, .func (.func 41) #[] #[.pointer (some ⟨gk, 0, none⟩)]] w fun e w' => (∃ r : Int, e = .returned (.int .i64 r) ∧ (0 ≤ r ↔ u ∈ l)) ∧ Below w.heap.size w w' := by
  have e49 : ∀ args w, (callFunc 41 args).run Try.prog w = .ok (.enter 41 args) w := enters_of Try.func41 (by kernel_rfl) rfl
  have hx : Hid (l.length = n) := hl.1
  have mk := hl.2.1.1
  have mk' := hl.2.1.2.1
  unfold maxLen at mk'
  have hA : Hid (RowN (Nd D w) w a n c l) := hl
  have hK : Hid (NBox w gk kb ∧ Nd D w kb u) := ⟨hk, hu⟩
  clear hl hk hu
  go_enter Try.func52, Try.ntmps52
  go_wp2
  go_loopw [5, 8] (fun _ s8 wr => ∃ (i : Nat), i ≤ n ∧ s8 = .int .i64 i ∧ Hid (Below w.heap.size w wr) ∧ Hid (u ∉ l.take i)) (fun _ i _ => n - (intOf i).toNat)
  case atStart => exact ⟨0, Nat.zero_le _, rfl, Below.refl _ _, by show ¬ _; simp⟩
  case round =>
    obtain ⟨i, him, rfl, hbl, hT⟩ := hrel
    by_cases hlt : i < n
    · have hz : (i : Int) < (n : Int) := by omega
      have hix : i < l.length := by rw [hx.out]; exact hlt
      obtain ⟨bk, ok, nk, rfl, hck, hNk, hbk⟩ := row_el hA.out hbl.out hix
      obtain ⟨f0, f1, f2, f3, f4, f5, f6, f7, f8⟩ := elem_fields hck
      have kk := fun (v : Bool) (h : v = true ↔ l[i] = u) => twcc_any gk kb nk u l[i] wr (hK.out.1.kept hbl.out hK.out.1.lt) (hK.out.2.kept hbl.out) hNk v h
      have wi : IntKind.i64.wrap ((i : Int) + 1) = (i : Int) + 1 := by rw [IntKind.wrap_i64]; omega
      by_cases hE : l[i] = u
      · have k1 := kk true (by simp [hE])
        have hm : Hid (u ∈ l) := by show u ∈ l; rw [← hE]; exact List.getElem_mem hix
        clear hck hNk kk hE hbk
        go_wp2_with (go_at_fn 41; refine k1.mono ?_; rintro e w1 ⟨rfl, hb1⟩)
        go_ret
        exact ⟨⟨_, rfl, by simp [hm.out]⟩, hbl.out.trans (hb1.mono hbl.out.size)⟩
      · have k1 := kk false (by simp [hE])
        have hT' : Hid (u ∉ l.take (i + 1)) := by
          show ¬ _
          rw [List.take_succ_eq_append_getElem hix, List.mem_append]
          rintro (h | h)
          · exact hT.out h
          · exact hE (List.mem_singleton.1 h).symm
        clear hck hNk kk hE hbk
        go_wp2_with (go_at_fn 41; refine k1.mono ?_; rintro e w1 ⟨rfl, hb1⟩)
        go_roundw
        case rel => exact ⟨i + 1, by omega, by go_num, hbl.out.trans (hb1.mono hbl.out.size), hT'⟩
        case measure => simp [intOf]; omega
    · have hz : ¬ (i : Int) < (n : Int) := by omega
      have hm : Hid (u ∉ l) := by
        show ¬ _
        have := hT.out
        rwa [List.take_of_length_le (by rw [hx.out]; omega)] at this
      go_wp2
      go_ret
      exact ⟨⟨-1, rfl, by simp [hm.out]⟩, hbl.out⟩

set_option maxHeartbeats 1000000 in
theorem contf_any {D : Nat} (a : Option Addr) (n c : Nat) (l : List Tr) (gk : Nat) (kb : Nb) (u : Tr) (w : World) (hk : NBox w gk kb) (hu : Nd D w kb u) (hl : RowN (Nd D w) w a n c l) (v : Bool) (hv : v = true ↔ u ∈ l) :
    Calls Try.prog 40 #[.slice a n c, .func (.func 41) #[] #[.pointer (some ⟨gk, 0, none⟩)]] w fun e w' => e = .returned (.bool v) ∧ Below w.heap.size w w' := by
  have ki := indf_any a n c l gk kb u w hk hu hl
  have hd : Hid (∀ r : Int, (0 ≤ r ↔ u ∈ l) → decide (0 ≤ r) = v) := fun r hr => by rw [Bool.eq_iff_iff, hv, decide_eq_true_iff]; exact hr
  clear hk hu hl hv
  go_enter Try.func40, Try.ntmps40
  go_wp2_with (go_at_call 52; refine ki.mono ?_; rintro e w1 ⟨⟨r, rfl, hr⟩, hb⟩; have hd' := hd.out r hr; clear hr hd)
  go_ret
  exact ⟨rfl, hb⟩

set_option maxHeartbeats 4000000 in
set_option maxRecDepth 100000 in
/-- tree.twice. -/
theorem gtwice_any {D : Nat} (a : Option Addr) (n c : Nat) (l : List Tr) (w : World) (hl : RowN (Nd D w) w a n c l) (v : Bool) (hv : v = true ↔ ¬ l.Nodup) :
    Calls Try.prog 24 #[.slice a n c] w fun e w' => e = .returned (.bool v) ∧ Below w.heap.size w w' := by
  have hx : Hid (l.length = n) := hl.1
  have mk := hl.2.1.1
  have mk' := hl.2.1.2.1
  unfold maxLen at mk'
  have hA : Hid (RowN (Nd D w) w a n c l) := hl
  have hV : Hid (v = true ↔ ¬ l.Nodup) := hv
  clear hl hv
  go_enter Try.func24, Try.ntmps24
  go_wp2
  go_loopw [3, 4, 7] (fun _ _ s7 wr => ∃ (i : Nat), i ≤ n ∧ s7 = .int .i64 i ∧ Hid (Below w.heap.size w wr) ∧ Hid ((l.take i).Nodup)) (fun _ _ i _ => n - (intOf i).toNat)
  case atStart => exact ⟨0, Nat.zero_le _, rfl, Below.refl _ _, by show List.Nodup _; simp⟩
  case round =>
    obtain ⟨i, him, rfl, hbl, hT⟩ := hrel
    by_cases hlt : i < n
    · have hz : (i : Int) < (n : Int) := by omega
      have hix : i < l.length := by rw [hx.out]; exact hlt
      obtain ⟨bk, ok, nk, rfl, hck, hNk, hbk⟩ := row_el hA.out hbl.out hix
      obtain ⟨f0, f1, f2, f3, f4, f5, f6, f7, f8⟩ := elem_fields hck
      have hal := alloc_below wr (.cells nk.arr 26)
      have hB : Hid (Below w.heap.size w (wr.alloc (.cells nk.arr 26))) := hbl.out.trans (hal.mono hbl.out.size)
      have kk := fun (v : Bool) (h : v = true ↔ l[i] ∈ l.take i) => contf_any (some ⟨bk, ok, none⟩) i c (l.take i) wr.heap.size nk l[i] (wr.alloc (.cells nk.arr 26)) (nbox_new wr nk) (hNk.kept hal) ((hA.out.kept (R := Nd D (wr.alloc (.cells nk.arr 26))) hB.out fun _ _ _ q => q.kept hB.out).take him) v h
      have wi : IntKind.i64.wrap ((i : Int) + 1) = (i : Int) + 1 := by rw [IntKind.wrap_i64]; omega
      have hic : i ≤ c := by omega
      by_cases hE : l[i] ∈ l.take i
      · have k1 := kk true (by simp [hE])
        have hv : v = true := hV.out.2 (fun hn => by
          have h1 : (l.take (i + 1)).Nodup := hn.sublist (List.take_sublist _ _)
          rw [List.take_succ_eq_append_getElem hix] at h1
          exact (List.nodup_append.1 h1).2.2 _ hE _ (List.mem_singleton.2 rfl) rfl)
        subst hv
        clear hck hNk kk hE hbk hal
        go_wp2_with (go_at_call 40; refine k1.mono ?_; rintro e w1 ⟨rfl, hb1⟩)
        go_ret
        exact ⟨rfl, hB.out.trans (hb1.mono hB.out.size)⟩
      · have k1 := kk false (by simp [hE])
        have hT' : Hid ((l.take (i + 1)).Nodup) := by
          show List.Nodup _
          rw [List.take_succ_eq_append_getElem hix]
          refine List.nodup_append.2 ⟨hT.out, by simp, fun x hx' y hy he => ?_⟩
          rw [List.mem_singleton] at hy
          subst hy he
          exact hE hx'
        clear hck hNk kk hE hbk hal
        go_wp2_with (go_at_call 40; refine k1.mono ?_; rintro e w1 ⟨rfl, hb1⟩)
        go_roundw
        case rel => exact ⟨i + 1, by omega, by go_num, hB.out.trans (hb1.mono hB.out.size), hT'⟩
        case measure => simp [intOf]; omega
    · have hz : ¬ (i : Int) < (n : Int) := by omega
      have hv : v = false := not_true hV.out (fun h => h (by
        have := hT.out
        rwa [List.take_of_length_le (by rw [hx.out]; omega)] at this))
      subst hv
      go_wp2
      go_ret
      exact ⟨rfl, hbl.out⟩
end Go.Proofs.Ytkealjaealeojab
