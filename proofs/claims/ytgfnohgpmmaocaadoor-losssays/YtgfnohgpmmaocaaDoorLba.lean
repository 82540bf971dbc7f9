/-
  Losses built: one number put, a loss that may be told, a loss put.
-/
import Derived.Test.YtgfnohgpmmaocaaDoorLpa
import Derived.Test.YtgfnohgpmmaocaaDoorInts
namespace Go.Proofs.YtgfnohgpmmaocaaDoor
open Go.RowKit
set_option linter.unusedVariables false
set_option linter.unusedSimpArgs false

set_option maxHeartbeats 1000000 in
theorem put_any (base m : Nat) (v : Value) (zs : List Int) (w : World) (ho : OwnsB w base v zs) (hB : base ≤ w.heap.size) (hM : m < 18446744073709551616) (hx : zs.length + 10 ≤ 140737488355328) :
    Calls Tryd.prog 18 #[v, .int .u64 (m : Nat)] w fun e w' => ∃ v', e = .returned v' ∧ Hid (OwnsB w' base v' (zs ++ shortL m)) ∧ Hid (w.grownBy w' v.ownBlock) := by
  have k1 := putShort_any none 0 0 m [] w hM rfl ⟨by simp, by simp, .inl rfl⟩ (fun _ => rfl) (by decide)
  obtain ⟨a, n, cap, rfl, hl, hn, hc, hm, hB1⟩ := ho.form
  have hO : Hid (OwnsB w base (.slice a n cap) zs) := ho
  have hsl : Hid ((shortL m).length ≤ 10) := by show _ ≤ _; rw [shortL_length]; exact cg_le m hM
  clear ho hB1
  go_enter Tryd.func18, Tryd.ntmps18
  go_wp2_with (first
    | (go_at_call 33; go_loud (refine k1.mono ?_; rintro e w1 ⟨v1, rfl, ho1, hb1⟩; obtain ⟨a1, n1, c1, rfl, hl1, hn1, hc1, hm1, hB1⟩ := ho1.form; clear k1; have hO1 : Hid (OwnsB w1 base (.slice a n cap) zs) := hO.out.below hb1; simp only [List.nil_append] at hl1 hB1))
    | (at_builtin; go_loud (refine wpList_append_bytes rfl _ _ rfl base _ zs (shortL m) rfl hO1.out a1 n1 c1 rfl hl1.out hn1.out hB1.out (by have := hsl.out; omega) (Nat.le_trans hB hb1.size) ?_; intro v2 w2 ho2 hg2; have hb2 : w.grownBy w2 (Value.slice a n cap).ownBlock := (Below.but hb1 _).trans hg2)))
  go_ret
  exact ⟨_, rfl, ho2, hb2⟩

set_option maxHeartbeats 1000000 in
theorem canTell_any (pa : Option Addr) (pc : Nat) (x : Ls) (w : World) (hI : Ints w pa x.path) (hc : x.path.length ≤ pc) (hm : pc ≤ 9223372036854775807) :
    Calls Tryd.prog 19 #[.agg #[.slice pa x.path.length pc, .int .i64 x.kind, .int .u64 (x.n : Nat)]] w fun e w' => e = .returned (.bool (mayB x)) ∧ Hid (Below w.heap.size w w') := by
  obtain ⟨p, k, n⟩ := x
  simp only at hI hc ⊢
  have hal : Below w.heap.size w (w.alloc (.cells #[.slice pa p.length pc, .int .i64 k, .int .u64 (n : Nat)] 41)) := (Below.refl _ _).alloc (Nat.le_refl _) _
  have hB : Hid (Below w.heap.size w (w.alloc (.cells #[.slice pa p.length pc, .int .i64 k, .int .u64 (n : Nat)] 41))) := hal
  have hI1 : Hid (Ints (w.alloc (.cells #[.slice pa p.length pc, .int .i64 k, .int .u64 (n : Nat)] 41)) pa p) := hI.kept hal
  clear hI hal
  by_cases h1 : k < 1
  · have hm : mayB ⟨p, k, n⟩ = false := mayB_no (by unfold mayL; simp only; intro h; omega)
    go_enter Tryd.func19, Tryd.ntmps19
    go_wp2
    go_ret
    exact ⟨by simp [hm], hB⟩
  by_cases h2 : 6 < k
  · have hm : mayB ⟨p, k, n⟩ = false := mayB_no (by unfold mayL; simp only; intro h; omega)
    go_enter Tryd.func19, Tryd.ntmps19
    go_wp2
    go_ret
    exact ⟨by simp [hm], hB⟩
  by_cases h3 : 64 < p.length
  · have hm : mayB ⟨p, k, n⟩ = false := mayB_no (by unfold mayL; simp only; intro h; omega)
    go_enter Tryd.func19, Tryd.ntmps19
    go_wp2
    go_ret
    exact ⟨by simp [hm], hB⟩
  have hM : Hid (mayL ⟨p, k, n⟩ ↔ ∀ s ∈ p, 0 ≤ s ∧ s ≤ 4095) := by
    show _ ↔ _
    simp only [mayL]
    exact ⟨fun h => h.2, fun h => ⟨⟨by omega, by omega, by omega⟩, h⟩⟩
  go_enter Tryd.func19, Tryd.ntmps19
  go_wp2_with fail
  go_loopw [22] (fun i wr => ∃ I : Nat, i = .int .i64 I ∧ I ≤ p.length ∧ Hid (∀ c ∈ p.take I, 0 ≤ c ∧ c ≤ 4095) ∧ Hid (wr = w.alloc (.cells #[.slice pa p.length pc, .int .i64 k, .int .u64 (n : Nat)] 41))) (fun i _ => p.length - (intOf i).toNat)
  case atStart => exact ⟨0, rfl, Nat.zero_le _, by show ∀ c ∈ p.take 0, _; simp, rfl⟩
  case round =>
    obtain ⟨I, rfl, hI, hT, hw⟩ := hrel
    have hw' := hw.out
    subst hw'
    by_cases hlt : I < p.length
    · obtain ⟨b, off, rfl⟩ := ints_some hI1.out (by omega)
      have hcell := hI1.out.cell hlt
      have hg : Hid (p.take (I + 1) = p.take I ++ [p.getD I 0] ∧ p.getD I 0 ∈ p) := by
        show _ ∧ _
        rw [List.take_succ_eq_append_getElem hlt, List.getD_eq_getElem?_getD, List.getElem?_eq_getElem hlt]
        exact ⟨rfl, List.getElem_mem hlt⟩
      generalize p.getD I 0 = x at *
      by_cases hx1 : x < 0
      · have hF : Hid (mayB ⟨p, k, n⟩ = false) := by
          show _ = _
          refine mayB_no ?_
          rw [hM.out]
          intro h; have := h x hg.out.2; omega
        clear hM
        go_wp2
        go_ret
        exact ⟨by rw [hF.out]; rfl, hB⟩
      · by_cases hx2 : 4095 < x
        · have hF : Hid (mayB ⟨p, k, n⟩ = false) := by
            show _ = _
            refine mayB_no ?_
            rw [hM.out]
            intro h; have := h x hg.out.2; omega
          clear hM
          go_wp2
          go_ret
          exact ⟨by rw [hF.out]; rfl, hB⟩
        · go_wp2
          go_roundw
          case rel =>
            refine ⟨I + 1, by go_num, by omega, ?_, by first | exact rfl | exact trivial⟩
            show ∀ c ∈ p.take (I + 1), _
            rw [hg.out.1]
            intro c hc
            rcases List.mem_append.1 hc with hc | hc
            · exact hT.out c hc
            · simp at hc; omega
          case measure => simp [intOf]; omega
    · have e : I = p.length := by omega
      have hF : Hid (mayB ⟨p, k, n⟩ = true) := by
        show _ = _
        rw [mayB_iff, hM.out]
        have := hT.out
        rw [e, List.take_length] at this
        exact this
      clear hM
      go_wp2
      go_ret
      exact ⟨by rw [hF.out]; rfl, hB⟩

theorem pathB_snoc (p : List Int) (x : Int) : pathB (p ++ [x]) = pathB p ++ shortL x.toNat := by simp [pathB]
theorem pathB_len (p : List Int) (h : ∀ c ∈ p, 0 ≤ c ∧ c ≤ 4095) : (pathB p).length ≤ p.length * 10 := by
  induction p with
  | nil => simp [pathB]
  | cons c p ih =>
    have h1 : pathB (c :: p) = shortL c.toNat ++ pathB p := by simp [pathB]
    have h2 := ih (fun x hx => h x (by simp [hx]))
    have h3 := cg_le c.toNat (by have := h c (by simp); omega)
    rw [h1, List.length_append, List.length_cons, shortL_length]
    omega

theorem Ints.low {w w' : World} {a : Option Addr} {l : List Int} {base : Nat} (h : Ints w a l) (ha : ∀ y, a = some y → l ≠ [] → y.block < base) (hb : Below base w w') : Ints w' a l := by
  refine ⟨h.1, ?_⟩
  rcases h.2 with h0 | ⟨b, off, rfl, hc⟩
  · exact .inl h0
  · by_cases h0 : l = []
    · exact .inl h0
    · refine .inr ⟨b, off, rfl, fun i hi => ?_⟩
      rw [hb.cell (p := ⟨b, off + i, none⟩) (ha ⟨b, off, none⟩ rfl h0)]
      exact hc i hi
/-- A block's cells. -/
def Blc (w : World) (g : Nat) (cs : Array Value) (T : TypeId) : Prop := w.heap[g]? = some (.cells cs T (0, 0))
theorem Blc.cell {w : World} {g : Nat} {cs : Array Value} {T : TypeId} (h : Blc w g cs T) (j : Nat) : w.cell? ⟨g, j, none⟩ = cs[j]? := cell_row h j
/-- What bytes have been put, and what stayed: all below base, and a box. -/
def PS (w wr : World) (base B : Nat) (cs : Array Value) (v : Value) (zs : List Int) : Prop := OwnsB wr base v zs ∧ Below base w wr ∧ Blc wr B cs 41 ∧ base ≤ wr.heap.size
theorem PS.put {w wr w2 : World} {base B : Nat} {cs : Array Value} {v v2 : Value} {zs ys : List Int} (h : PS w wr base B cs v zs) (ho : OwnsB w2 base v2 ys) (hg : wr.grownBy w2 v.ownBlock) : PS w w2 base B cs v2 ys := by
  obtain ⟨h1, h2, h3, h4⟩ := h
  refine ⟨ho, grown_below h2 h1 hg h4, ?_, Nat.le_trans h4 hg.size⟩
  unfold Blc at *
  rw [hg.block B (Array.getElem?_eq_some_iff.1 h3).1 (fun e => by
    rcases h1.1.2 with ⟨rfl, _⟩ | ⟨g', cap', cur', rfl, _, hc', _⟩
    · simp [Value.ownBlock] at e
    · simp [Value.ownBlock] at e
      subst e
      rw [h3] at hc'
      cases hc')]
  exact h3
theorem PS.step {w wr : World} {base B : Nat} {cs : Array Value} {v : Value} {zs : List Int} (h : Hid (PS w wr base B cs v zs)) (m : Nat) (hm : m < 18446744073709551616) (hx : zs.length + 10 ≤ 140737488355328) :
    Calls Tryd.prog 18 #[v, .int .u64 (m : Nat)] wr fun e w' => ∃ v', e = .returned v' ∧ Hid (PS w w' base B cs v' (zs ++ shortL m)) := by
  refine (put_any base m v zs wr h.out.1 h.out.2.2.2 hm hx).mono ?_
  rintro e w' ⟨v', rfl, h1, h2⟩
  exact ⟨v', rfl, h.out.put h1.out h2.out⟩

set_option maxHeartbeats 4000000 in
theorem putLoss_any (base : Nat) (v : Value) (zs : List Int) (pa : Option Addr) (pc : Nat) (x : Ls) (w : World) (ho : OwnsB w base v zs) (hB : base ≤ w.heap.size) (hI : Ints w pa x.path) (hpb : ∀ y, pa = some y → x.path ≠ [] → y.block < base) (hc : x.path.length ≤ pc) (hm : pc ≤ 9223372036854775807) (hn : x.n < 18446744073709551616) (hmay : mayL x) (hx : zs.length + 1000 ≤ 140737488355328) :
    Calls Tryd.prog 20 #[v, .agg #[.slice pa x.path.length pc, .int .i64 x.kind, .int .u64 (x.n : Nat)]] w fun e w' => ∃ v', e = .returned v' ∧ Hid (OwnsB w' base v' (zs ++ oneB x)) ∧ Hid (Below base w w') := by
  obtain ⟨p, k, n⟩ := x
  obtain ⟨⟨hk1, hk2, hpl⟩, hst⟩ := hmay
  simp only at hI hc hk1 hk2 hpl hst hn hpb ⊢
  obtain ⟨kn, rfl⟩ : ∃ kn : Nat, k = (kn : Int) := ⟨k.toNat, by omega⟩
  have hE : Hid (zs ++ oneB ⟨p, (kn : Int), n⟩ = zs ++ shortL kn ++ shortL n ++ shortL p.length ++ pathB p) := by show _ = _; simp [oneB]
  have hS : Hid (∀ m, m < 18446744073709551616 → (shortL m).length ≤ 10) := fun m h => by rw [shortL_length]; exact cg_le m h
  have hP : Hid (∀ c ∈ p, 0 ≤ c ∧ c ≤ 4095) := hst
  have hI0 : Hid (∀ wr, Below base w wr → Ints wr pa p) := fun wr h => hI.low hpb h
  have h1 : Hid (PS w (w.alloc (.cells #[.slice pa p.length pc, .int .i64 (kn : Nat), .int .u64 (n : Nat)] 41)) base w.heap.size #[.slice pa p.length pc, .int .i64 (kn : Nat), .int .u64 (n : Nat)] v zs) := ⟨ho.alloc _, (Below.refl _ _).alloc hB _, heap_alloc_new _ _, by simp; omega⟩
  have hz1 := hS.out kn (by omega)
  have hz2 := hS.out n hn
  have hz3 := hS.out p.length (by omega)
  have wk : IntKind.u64.wrap (kn : Int) = (kn : Int) := by rw [IntKind.wrap_u64]; omega
  have wp : IntKind.u64.wrap (p.length : Int) = (p.length : Int) := by rw [IntKind.wrap_u64]; omega
  rw [hE.out]
  clear ho hI hpb hst hE
  go_enter Tryd.func20, Tryd.ntmps20
  go_wp2_with fail
  refine (PS.step h1 kn (by omega) (by omega)).mono ?_
  rintro e w2 ⟨v2, rfl, h2⟩
  have c2 := h2.out.2.2.1.cell 2
  clear h1
  go_wp2_with fail
  refine (PS.step h2 n hn (by rw [List.length_append]; omega)).mono ?_
  rintro e w3 ⟨v3, rfl, h3⟩
  have c0 := h3.out.2.2.1.cell 0
  clear h2 c2
  go_wp2_with fail
  refine (PS.step h3 p.length (by omega) (by rw [List.length_append, List.length_append]; omega)).mono ?_
  rintro e w4 ⟨v4, rfl, h4⟩
  have d0 := h4.out.2.2.1.cell 0
  have hL : Hid ((zs ++ shortL kn ++ shortL n ++ shortL p.length).length + 900 ≤ 140737488355328) := by show _ ≤ _; simp only [List.length_append]; omega
  obtain ⟨ys, hY⟩ : ∃ ys, Hid (zs ++ shortL kn ++ shortL n ++ shortL p.length = ys) := ⟨_, rfl⟩
  rw [hY.out] at h4 hL
  clear h3 c0 wk wp hz1 hz2 hz3
  go_wp2_with fail
  go_loopw [0, 25] (fun vv i wr => ∃ I : Nat, i = .int .i64 I ∧ I ≤ p.length ∧ Hid (PS w wr base w.heap.size #[.slice pa p.length pc, .int .i64 (kn : Nat), .int .u64 (n : Nat)] vv (ys ++ pathB (p.take I)))) (fun _ i _ => p.length - (intOf i).toNat)
  case atStart => exact ⟨0, rfl, Nat.zero_le _, by show PS _ _ _ _ _ _ _; simpa [pathB] using h4.out⟩
  case round =>
    obtain ⟨I, rfl, hIl, hR⟩ := hrel
    clear h4 d0
    by_cases hlt : I < p.length
    · have hIr : Hid (Ints wr pa p) := hI0.out wr hR.out.2.1
      obtain ⟨b, off, rfl⟩ := ints_some hIr.out (by omega)
      have hcell := hIr.out.cell hlt
      have hg : Hid (p.take (I + 1) = p.take I ++ [p.getD I 0] ∧ p.getD I 0 ∈ p) := by
        show _ ∧ _
        rw [List.take_succ_eq_append_getElem hlt, List.getD_eq_getElem?_getD, List.getElem?_eq_getElem hlt]
        exact ⟨rfl, List.getElem_mem hlt⟩
      have hlen : Hid ((ys ++ pathB (p.take I)).length + 10 ≤ 140737488355328) := by
        show _ ≤ _
        have h1 := pathB_len (p.take I) (fun c hc => hP.out c (List.mem_of_mem_take hc))
        have h2 := hL.out
        rw [List.length_take] at h1
        rw [List.length_append]
        omega
      generalize p.getD I 0 = x at *
      have hx0 := hP.out x hg.out.2
      obtain ⟨m, rfl⟩ : ∃ m : Nat, x = (m : Int) := ⟨x.toNat, by omega⟩
      have wk : IntKind.u64.wrap (m : Int) = (m : Int) := by rw [IntKind.wrap_u64]; omega
      have k5 := PS.step hR m (by omega) hlen.out
      go_wp2_with fail
      refine k5.mono ?_
      rintro e w5 ⟨v5, rfl, h5⟩
      clear k5 hcell hR hIr
      go_wp2
      go_roundw
      case rel =>
        refine ⟨I + 1, by go_num, by omega, ?_⟩
        show PS _ _ _ _ _ _ _
        rw [hg.out.1, pathB_snoc, Int.toNat_natCast, ← List.append_assoc]
        exact h5.out
      case measure => simp [intOf]; omega
    · have e : I = p.length := by omega
      subst e
      have hR' : Hid (PS w wr base w.heap.size #[.slice pa p.length pc, .int .i64 (kn : Nat), .int .u64 (n : Nat)] u0 (ys ++ pathB p)) := by have := hR.out; rw [List.take_length] at this; exact this
      clear hR
      go_wp2
      go_ret
      rw [hY.out]
      exact ⟨_, rfl, hR'.out.1, hR'.out.2.1⟩
end Go.Proofs.YtgfnohgpmmaocaaDoor
