/-
  Time that goes on; a session that is removed.
-/
import Derived.Test.YtmohfblkfdkloaaSsc
namespace Go.Proofs.Ytmohfblkfdkloaa
open Go.RowKit
set_option linter.unusedVariables false
def tmA (T : Tb) (now : Int) : Int := if T.time < now ∧ now ≤ 1099511627776 then now else T.time
/-- Does a session end at a time? -/
def old (idle time : Int) (s : Se) : Bool := decide (time - s.h > idle)
def goA (T : Tb) (now : Int) : Tb := { T with time := tmA T now, L := T.L.filter (fun s => !old T.idle (tmA T now) s) }
def endA (T : Tb) (now : Int) : List Int := wordsA (T.L.filter (old T.idle (tmA T now)))
def remA (T : Tb) (t : Int) : Tb := { T with L := T.L.filter (fun s => !(s.t == t)) }
theorem nodup_filter {L : List Se} (h : (L.map Se.t).Nodup) (p : Se → Bool) : ((L.filter p).map Se.t).Nodup := h.sublist ((List.filter_sublist).map _)
theorem tm_le {k : Nat} {T : Tb} (h : Ok k T) (now : Int) : T.time ≤ tmA T now ∧ tmA T now ≤ 1099511627776 := by
  unfold tmA
  have := h.t2
  split <;> omega
theorem go_ok {k : Nat} {T : Tb} (h : Ok k T) (now : Int) : Ok k (goA T now) := by
  have ht := tm_le h now
  refine ⟨h.m1, h.m2, h.i1, h.i2, ?_, ht.2, ?_, fun s hs => ?_, nodup_filter h.one _, h.cnt⟩
  · show 0 ≤ tmA T now
    have := h.t1; omega
  · show ((T.L.filter _).length : Int) ≤ T.most
    have := List.length_filter_le (fun s => !old T.idle (tmA T now) s) T.L
    have := h.few; omega
  · obtain ⟨a, b, c, d, e, f, g⟩ := h.ent s (List.mem_filter.1 hs).1
    exact ⟨a, b, c, d, e, (by show s.h ≤ tmA T now; omega), g⟩
theorem rem_ok {k : Nat} {T : Tb} (h : Ok k T) (t : Int) : Ok k (remA T t) := by
  refine ⟨h.m1, h.m2, h.i1, h.i2, h.t1, h.t2, ?_, fun s hs => h.ent s (List.mem_filter.1 hs).1, nodup_filter h.one _, h.cnt⟩
  show ((T.L.filter _).length : Int) ≤ T.most
  have := List.length_filter_le (fun s => !(s.t == t)) T.L
  have := h.few; omega
theorem Ok.mono {k k' : Nat} {T : Tb} (h : Ok k T) (hk : k ≤ k') : Ok k' T :=
  ⟨h.m1, h.m2, h.i1, h.i2, h.t1, h.t2, h.few, fun s hs => by obtain ⟨a, b, c, d, e⟩ := h.ent s hs; exact ⟨a, b, c, by omega, e⟩, h.one, Nat.le_trans h.cnt hk⟩
theorem e_goonc : ∀ args w, (callFunc 39 args).run Try.prog w = .ok (.enter 39 args) w := enters_of Try.func39 (by kernel_rfl) rfl
theorem e_removec : ∀ args w, (callFunc 40 args).run Try.prog w = .ok (.enter 40 args) w := enters_of Try.func40 (by kernel_rfl) rfl
set_option maxHeartbeats 1000000 in
theorem goonc_any (tb gk : Nat) (s : Se) (time idle : Int) (w : World) (c0 : w.cell? ⟨gk, 0, none⟩ = some (.pointer (some ⟨tb, 0, none⟩))) (c2 : w.cell? ⟨tb, 2, none⟩ = some (.int .i64 idle)) (c3 : w.cell? ⟨tb, 3, none⟩ = some (.int .i64 time)) (hlt : gk < w.heap.size) (hlt2 : tb < w.heap.size)
    (hr : 0 ≤ time ∧ time ≤ 1099511627776 ∧ 0 ≤ s.h ∧ s.h ≤ time) :
    Calls Try.prog 39 #[.agg #[.int .u64 s.t, .int .i64 s.e, .int .i64 s.f, .int .i64 s.h], .pointer (some ⟨gk, 0, none⟩)] w fun e w' => e = .returned (.bool (old idle time s)) ∧ Below w.heap.size w w' := by
  have hal : Hid (Below w.heap.size w (w.alloc (.cells #[.int .u64 s.t, .int .i64 s.e, .int .i64 s.f, .int .i64 s.h] 67))) := (Below.refl _ _).alloc (Nat.le_refl _) _
  have d0 := (hal.out.cell (p := ⟨gk, 0, none⟩) hlt).trans c0
  have d2 := (hal.out.cell (p := ⟨tb, 2, none⟩) hlt2).trans c2
  have d3 := (hal.out.cell (p := ⟨tb, 3, none⟩) hlt2).trans c3
  have e3 := (blk_new w #[.int .u64 s.t, .int .i64 s.e, .int .i64 s.f, .int .i64 s.h] 67).cell 3
  have wr : IntKind.i64.wrap (time - s.h) = time - s.h := by rw [IntKind.wrap_i64]; omega
  clear c0 c2 c3 hlt hlt2 hr
  unfold old
  go_enter Try.func39, Try.ntmps39
  go_wp2
  go_region
  go_wp2
  go_ret
  exact ⟨rfl, hal.out.drew⟩
set_option maxHeartbeats 1000000 in
theorem removec_any (gk : Nat) (s : Se) (t : Int) (w : World) (c0 : w.cell? ⟨gk, 0, none⟩ = some (.int .u64 t)) (hlt : gk < w.heap.size) :
    Calls Try.prog 40 #[.agg #[.int .u64 s.t, .int .i64 s.e, .int .i64 s.f, .int .i64 s.h], .pointer (some ⟨gk, 0, none⟩)] w fun e w' => e = .returned (.bool (s.t == t)) ∧ Below w.heap.size w w' := by
  have hal : Hid (Below w.heap.size w (w.alloc (.cells #[.int .u64 s.t, .int .i64 s.e, .int .i64 s.f, .int .i64 s.h] 67))) := (Below.refl _ _).alloc (Nat.le_refl _) _
  have d0 := (hal.out.cell (p := ⟨gk, 0, none⟩) hlt).trans c0
  have e3 := (blk_new w #[.int .u64 s.t, .int .i64 s.e, .int .i64 s.f, .int .i64 s.h] 67).cell 0
  clear c0 hlt
  go_enter Try.func40, Try.ntmps40
  go_wp2
  go_ret
  exact ⟨rfl, hal⟩
/-- The box of the receiver is below, what it tells stays. -/
theorem Tab.time {w : World} {C : Nat → Prop} {tb mb : Nat} {v : Value} {T : Tb} (h : Tab w C tb mb v T) (now : Int) : Tab (w.setCell ⟨tb, 3, none⟩ (.int .i64 now)) C tb mb v { T with time := now } := by
  refine ⟨h.blk.set 3 _, ownsRow_keep h.row fun b cur _ _ h2 => Below.heap_setCell _ _ _ _ (fun e1 => ?_), h.own, h.ct, h.cm, h.mp.set (h.mp.ne h.blk) 3 _⟩
  have e2 : b = tb := e1
  subst e2
  have h3 := h.blk
  unfold Blk at h3
  rw [h2] at h3
  injection h3 with h3
  injection h3 with _ h3
  exact absurd h3 (by decide)
set_option maxHeartbeats 2000000 in
theorem goon_any {w : World} {C : Nat → Prop} {tb mb k : Nat} {v : Value} {T : Tb} (now : Int) (h : Tab w C tb mb v T) (hO : Ok k T) (hC : ∀ k, w.heap.size ≤ k → C k) :
    Calls Try.prog 31 #[.pointer (some ⟨tb, 0, none⟩), .int .i64 now] w fun e w' => ∃ v1 v2, e = .returned v1 ∧ Hid (OwnsW w' w.heap.size v1 (endA T now)) ∧ Hid (Tab w' C tb mb v2 (goA T now)) ∧ Hid (KS (fun k => k = tb) w w') := by
  have hB0 : Below w.heap.size w (w.alloc (.cells #[.pointer (some ⟨tb, 0, none⟩)] 23)) := (Below.refl _ _).alloc (Nat.le_refl _) _
  have hbt := h.blk.lt
  have hb0 := (blk_new w #[.pointer (some ⟨tb, 0, none⟩)] 23)
  have d0 := hb0.cell 0
  have H0 : Hid (Tab (w.alloc (.cells #[.pointer (some ⟨tb, 0, none⟩)] 23)) C tb mb v T) := h.alloc _
  have c3 := H0.out.c3
  have f3 := H0.out.blk.fz 3
  have htm := tm_le hO now
  have h64 : T.L.length ≤ 64 := by have := hO.few; have := hO.m2; omega
  have key : ∀ (wa : World) (tm : Int), tm = tmA T now → Tab wa C tb mb v { T with time := tm } → wa.cell? ⟨w.heap.size, 0, none⟩ = some (.pointer (some ⟨tb, 0, none⟩)) → w.heap.size < wa.heap.size → KS (fun k => k = tb) w wa →
      Calls Try.prog 38 #[.pointer (some ⟨tb, 0, none⟩), .func (.func 39) #[] #[.pointer (some ⟨w.heap.size, 0, none⟩)]] wa fun e w' => ∃ v1 v2, e = .returned v1 ∧ Hid (OwnsW w' w.heap.size v1 (endA T now)) ∧ Hid (Tab w' C tb mb v2 (goA T now)) ∧ Hid (KS (fun k => k = tb) w w') := by
    intro wa tm htme hT hc hlt hK
    subst htme
    refine (take_any hT (fun k hk => hC k (by omega)) h64 39 (.pointer (some ⟨w.heap.size, 0, none⟩)) (old T.idle (tmA T now)) e_goonc (fun s hs wr hb => ?_)).mono ?_
    · have hs' := hO.ent s hs
      have hT' := hT.kept hb
      exact goonc_any tb w.heap.size s (tmA T now) T.idle wr ((hb.cell (p := ⟨w.heap.size, 0, none⟩) hlt).trans hc) hT'.c2 hT'.c3 (Nat.lt_of_lt_of_le hlt hb.size) hT'.blk.lt ⟨by have := hO.t1; omega, htm.2, hs'.2.2.2.2.1, by omega⟩
    · rintro e w' ⟨v1, v2, rfl, hW, hT2, hK2⟩
      exact ⟨v1, v2, rfl, ownsRow_base hW.out (by omega), hT2, hK.trans hK2.out⟩
  by_cases hn : T.time < now
  · have q1 : decide (now > T.time) = true := by simp; omega
    by_cases hm : now ≤ 1099511627776
    · have q2 : decide (now ≤ 1099511627776) = true := by simp; omega
      have k1 := key ((w.alloc (.cells #[.pointer (some ⟨tb, 0, none⟩)] 23)).setCell ⟨tb, 3, none⟩ (.int .i64 now)) now (by unfold tmA; rw [if_pos ⟨hn, hm⟩]) (H0.out.time now) ((Below.heap_setCell _ _ _ _ (by show w.heap.size ≠ tb; omega) |> fun e => World.cell?_of_block (a := ⟨w.heap.size, 0, none⟩) e).trans d0) (by simp [World.setCell]) ((KS.of_below hB0).trans (KS.set (C := fun k => k = tb) _ tb 3 rfl _))
      clear h hO hC hB0 hbt hb0 htm h64 key hn hm
      go_enter Try.func31, Try.ntmps31
      go_wp2_with (go_at_call 38; refine k1.mono ?_; rintro e w1 ⟨v1, v2, rfl, hW, hT, hK⟩)
      go_ret
      exact ⟨_, v2, rfl, hW, hT, hK⟩
    · have q2 : decide (now ≤ 1099511627776) = false := by simp; omega
      have k1 := key (w.alloc (.cells #[.pointer (some ⟨tb, 0, none⟩)] 23)) T.time (by unfold tmA; rw [if_neg (by omega)]) H0.out d0 (by simp) (KS.of_below hB0)
      clear h hO hC hB0 hbt hb0 htm h64 key hn hm
      go_enter Try.func31, Try.ntmps31
      go_wp2_with (go_at_call 38; refine k1.mono ?_; rintro e w1 ⟨v1, v2, rfl, hW, hT, hK⟩)
      go_ret
      exact ⟨_, v2, rfl, hW, hT, hK⟩
  · have q1 : decide (now > T.time) = false := by simp; omega
    have k1 := key (w.alloc (.cells #[.pointer (some ⟨tb, 0, none⟩)] 23)) T.time (by unfold tmA; rw [if_neg (by omega)]) H0.out d0 (by simp) (KS.of_below hB0)
    clear h hO hC hB0 hbt hb0 htm h64 key hn
    go_enter Try.func31, Try.ntmps31
    go_wp2_with (go_at_call 38; refine k1.mono ?_; rintro e w1 ⟨v1, v2, rfl, hW, hT, hK⟩)
    go_ret
    exact ⟨_, v2, rfl, hW, hT, hK⟩
set_option maxHeartbeats 2000000 in
theorem remove_any {w : World} {C : Nat → Prop} {tb mb k : Nat} {v : Value} {T : Tb} (t : Int) (h : Tab w C tb mb v T) (hO : Ok k T) (hC : ∀ k, w.heap.size ≤ k → C k) :
    Calls Try.prog 33 #[.pointer (some ⟨tb, 0, none⟩), .int .u64 t] w fun e w' => ∃ v2, e = .returned (.bool (fiA T.L t).isSome) ∧ Hid (Tab w' C tb mb v2 (remA T t)) ∧ Hid (KS (fun k => k = tb) w w') := by
  have hB0 : Below w.heap.size w (w.alloc (.cells #[.int .u64 t] 34)) := (Below.refl _ _).alloc (Nat.le_refl _) _
  have hb0 := (blk_new w #[.int .u64 t] 34)
  have h64 : T.L.length ≤ 64 := by have := hO.few; have := hO.m2; omega
  have k1 := take_any (h.alloc (.cells #[.int .u64 t] 34)) (fun k hk => hC k (by simp at hk; omega)) h64 40 (.pointer (some ⟨w.heap.size, 0, none⟩)) (fun s => s.t == t) e_removec (fun s hs wr hb => removec_any w.heap.size s t wr ((hb.cell (p := ⟨w.heap.size, 0, none⟩) (by simp)).trans (hb0.cell 0)) (Nat.lt_of_lt_of_le (by simp) hb.size))
  have hlen : Hid (decide (0 < (wordsA (T.L.filter (fun s => s.t == t))).length) = (fiA T.L t).isSome) := by
    show _ = _
    rw [Bool.eq_iff_iff, decide_eq_true_iff]
    unfold wordsA
    rw [List.length_map]
    cases hf : fiA T.L t with
    | none =>
      rw [fiA_none] at hf
      have : T.L.filter (fun s => s.t == t) = [] := by rw [List.filter_eq_nil_iff]; intro s hs; simpa using hf s hs
      simp [this]
    | some i =>
      obtain ⟨s, hs, ht, _⟩ := fiA_some hf
      have : s ∈ T.L.filter (fun s => s.t == t) := by rw [List.mem_filter]; exact ⟨List.mem_of_getElem? hs, by simpa using ht⟩
      have h5 := List.length_pos_of_mem this
      simp only [Option.isSome_some, iff_true]
      exact h5
  have hBB : Hid (KS (fun k => k = tb) w (w.alloc (.cells #[.int .u64 t] 34))) := KS.of_below hB0
  clear h hO hC hB0 hb0 h64
  go_enter Try.func33, Try.ntmps33
  go_wp2_with (go_at_call 38; refine k1.mono ?_; rintro e w1 ⟨v1, v2, rfl, hW, hT, hK⟩; obtain ⟨a1, c1, rfl, _, _, _⟩ := ownsRow_form hW.out; clear k1)
  go_ret
  exact ⟨v2, by rw [← hlen.out]; rfl, hT, hBB.out.trans hK.out⟩
end Go.Proofs.Ytmohfblkfdkloaa
