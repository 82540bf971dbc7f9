/-
  Losses built by the document's own answer.
-/
import Derived.Test.YtgfnohgpmmaocaaDoorLbb
import Derived.Test.YtgfnohgpmmaocaaDoorQrp
import Derived.Deep.QuietTactic
import Derived.BigQuiet
import Derived.Deep.RegionHeld3
namespace Go.Proofs.YtgfnohgpmmaocaaDoor
open Go.RowKit
set_option linter.unusedVariables false
set_option linter.unusedSimpArgs false

set_option maxHeartbeats 4000000 in
theorem may_any (pa : Option Addr) (pc : Nat) (x : Ls) (w : World) (hI : Ints w pa x.path) (hc : x.path.length ≤ pc) (hm : pc ≤ 9223372036854775807) :
    Calls Tryd.prog 22 #[.agg #[.slice pa x.path.length pc, .int .i64 x.kind, .int .u64 (x.n : Nat)]] w fun e w' => e = .returned (.bool (mayB x)) ∧ Hid (Below w.heap.size w w') := by
  obtain ⟨p, k, n⟩ := x
  simp only at hI hc ⊢
  have hal : Below w.heap.size w (w.alloc (.cells #[.slice pa p.length pc, .int .i64 k, .int .u64 (n : Nat)] 41)) := (Below.refl _ _).alloc (Nat.le_refl _) _
  have hB : Hid (Below w.heap.size w (w.alloc (.cells #[.slice pa p.length pc, .int .i64 k, .int .u64 (n : Nat)] 41))) := hal
  have hI1 : Hid (Ints (w.alloc (.cells #[.slice pa p.length pc, .int .i64 k, .int .u64 (n : Nat)] 41)) pa p) := hI.kept hal
  clear hI hal
  by_cases h1 : k < 1
  · have hm : mayB ⟨p, k, n⟩ = false := mayB_no (by unfold mayL; simp only; intro h; omega)
    go_enter Tryd.func22, Tryd.ntmps22
    go_wp2
    go_ret
    exact ⟨by simp [hm], hB⟩
  by_cases h2 : 6 < k
  · have hm : mayB ⟨p, k, n⟩ = false := mayB_no (by unfold mayL; simp only; intro h; omega)
    go_enter Tryd.func22, Tryd.ntmps22
    go_wp2
    go_ret
    exact ⟨by simp [hm], hB⟩
  by_cases h3 : 64 < p.length
  · have hm : mayB ⟨p, k, n⟩ = false := mayB_no (by unfold mayL; simp only; intro h; omega)
    go_enter Tryd.func22, Tryd.ntmps22
    go_wp2
    go_ret
    exact ⟨by simp [hm], hB⟩
  have hM : Hid (mayL ⟨p, k, n⟩ ↔ ∀ s ∈ p, 0 ≤ s ∧ s ≤ 4095) := by
    show _ ↔ _
    simp only [mayL]
    exact ⟨fun h => h.2, fun h => ⟨⟨by omega, by omega, by omega⟩, h⟩⟩
  go_enter Tryd.func22, Tryd.ntmps22
  go_wp2_with fail
  go_loopw [3] (fun i wr => ∃ I : Nat, i = .int .i64 I ∧ I ≤ p.length ∧ Hid (∀ c ∈ p.take I, 0 ≤ c ∧ c ≤ 4095) ∧ Hid (wr = w.alloc (.cells #[.slice pa p.length pc, .int .i64 k, .int .u64 (n : Nat)] 41))) (fun i _ => p.length - (intOf i).toNat)
  case atStart => exact ⟨0, rfl, Nat.zero_le _, by show ∀ c ∈ p.take 0, _; simp, rfl⟩
  case round =>
    obtain ⟨I, rfl, hI, hT, hw⟩ := hrel
    have hw' := hw.out
    subst hw'
    by_cases hlt : I < p.length
    · obtain ⟨b, off, rfl⟩ := ints_some hI1.out (by omega)
      have hcell := hI1.out.cell hlt
      have hg : Hid (p.take (I + 1) = p.take I ++ [p.getD I 0] ∧ p.getD I 0 ∈ p) := by
        show _ ∧ _
        rw [List.take_succ_eq_append_getElem hlt, List.getD_eq_getElem?_getD, List.getElem?_eq_getElem hlt]
        exact ⟨rfl, List.getElem_mem hlt⟩
      generalize p.getD I 0 = x at *
      by_cases hx1 : x < 0
      · have hF : Hid (mayB ⟨p, k, n⟩ = false) := by
          show _ = _
          refine mayB_no ?_
          rw [hM.out]
          intro h; have := h x hg.out.2; omega
        clear hM
        go_wp2
        go_ret
        exact ⟨by rw [hF.out]; rfl, hB⟩
      · by_cases hx2 : 4095 < x
        · have hF : Hid (mayB ⟨p, k, n⟩ = false) := by
            show _ = _
            refine mayB_no ?_
            rw [hM.out]
            intro h; have := h x hg.out.2; omega
          clear hM
          go_wp2
          go_ret
          exact ⟨by rw [hF.out]; rfl, hB⟩
        · go_wp2
          go_roundw
          case rel =>
            refine ⟨I + 1, by go_num, by omega, ?_, by first | exact rfl | exact trivial⟩
            show ∀ c ∈ p.take (I + 1), _
            rw [hg.out.1]
            intro c hc
            rcases List.mem_append.1 hc with hc | hc
            · exact hT.out c hc
            · simp at hc; omega
          case measure => simp [intOf]; omega
    · have e : I = p.length := by omega
      have hF : Hid (mayB ⟨p, k, n⟩ = true) := by
        show _ = _
        rw [mayB_iff, hM.out]
        have := hT.out
        rw [e, List.take_length] at this
        exact this
      clear hM
      go_wp2
      go_ret
      exact ⟨by rw [hF.out]; rfl, hB⟩

theorem ownsB_base {w : World} {base base' : Nat} {v : Value} {zs : List Int} (h : OwnsB w base v zs) (hb : base' ≤ base) : OwnsB w base' v zs := by
  obtain ⟨⟨h1, h2⟩, h3⟩ := h
  refine ⟨⟨h1, ?_⟩, h3⟩
  rcases h2 with h2 | ⟨g, cap, cur, hv, hg, hc, r⟩
  · exact .inl h2
  · exact .inr ⟨g, cap, cur, hv, by omega, hc, r⟩
/-- The document's short number behind bytes that are its own. -/
theorem rput_any {base : Nat} {v : Value} {zs : List Int} {w : World} (m : Nat) (ho : OwnsB w base v zs) (hB : base ≤ w.heap.size) (hm : m < 18446744073709551616) (hx : zs.length + 10 ≤ 140737488355328) :
    Calls Tryd.prog 21 #[v, .int .u64 (m : Nat)] w fun e w' => ∃ v', e = .returned v' ∧ Hid (OwnsB w' base v' (zs ++ shortL m)) ∧ Hid (Below w.heap.size w w') := by
  obtain ⟨a, n, cap, rfl, hl, hn, hc, hcm, hb⟩ := ho.form
  refine (refPutShort_any a n cap m zs w hm hl.out hb.out hn.out (by have := hl.out; omega)).mono ?_
  rintro e w' ⟨v', rfl, ho', hb'⟩
  exact ⟨v', rfl, ownsB_base ho' hB, hb'⟩

set_option maxHeartbeats 4000000 in
theorem rbuild_any (a : Option Addr) (n cap : Nat) (L : List Ls) (w : World) (hl : L.length = n) (hL : Lss w a L) (hn : a = none → cap = 0) (hnc : n ≤ cap) (hcm : cap ≤ 9223372036854775807) :
    Calls Tryd.prog 10 #[.slice a n cap] w fun e w' => ∃ v, e = .returned (.tuple #[v, .int .i64 ((bldA L).2 : Nat)]) ∧ Hid (OwnsB w' w.heap.size v (bldA L).1) ∧ Hid (Below w.heap.size w w') := by
  subst hl
  by_cases h1 : 2048 < L.length
  · have hb : bldA L = ([], 8) := by unfold bldA; rw [if_pos h1]
    rw [hb]
    go_enter Tryd.func10, Tryd.ntmps10
    go_wp2
    go_ret2
    exact ⟨_, rfl, ownsB_nil _ _, Below.refl _ _⟩
  have hb : Hid (bldA L = if L.all mayB = true then (shortL L.length ++ lossB L, 0) else ([], 1)) := by show _ = _; unfold bldA; rw [if_neg h1]
  obtain ⟨R, hRR⟩ : ∃ R, Hid (bldA L = R) := ⟨_, rfl⟩
  rw [hRR.out]
  have hL0 : Hid (Lss w a L) := hL
  have k1 := refPutShort_any none 0 0 L.length [] w (by omega) rfl ⟨by simp, by simp, .inl rfl⟩ (fun _ => rfl) (by decide)
  have wl : IntKind.u64.wrap (L.length : Int) = (L.length : Int) := by rw [IntKind.wrap_u64]; omega
  clear hL hn
  go_enter Tryd.func10, Tryd.ntmps10
  go_wp2_with fail
  refine k1.mono ?_
  rintro e w1 ⟨v1, rfl, ho1, hB1⟩
  clear k1
  have hn64 : Hid (∀ x ∈ L, x.n < 18446744073709551616) := by
    show ∀ x ∈ L, _
    intro x hx
    rcases hL0.out.2 with h0 | ⟨b, off, rfl, hc⟩
    · rw [h0] at hx; simp at hx
    · obtain ⟨i, hi⟩ := List.mem_iff_getElem?.1 hx
      obtain ⟨_, _, _, _, _, _, _, h⟩ := hc i x hi
      exact h
  have hB1' : Hid (Below w.heap.size w w1) := hB1
  have ho1' : Hid (OwnsB w1 w.heap.size v1 ([] ++ shortL L.length)) := ho1
  clear hB1 ho1
  go_wp2_with fail
  go_loopw [4, 5] (fun vv i wr => ∃ I : Nat, i = .int .i64 I ∧ I ≤ L.length ∧ Hid (OwnsB wr w.heap.size vv (shortL L.length ++ lossB (L.take I))) ∧ Hid (Below w.heap.size w wr) ∧ Hid (∀ x ∈ L.take I, mayL x)) (fun _ i _ => L.length - (intOf i).toNat)
  case atStart => exact ⟨0, rfl, Nat.zero_le _, by show OwnsB _ _ _ _; simpa [lossB] using ho1'.out, hB1', by show ∀ x ∈ L.take 0, _; simp⟩
  case round =>
    obtain ⟨I, rfl, hI, hO, hB, hM⟩ := hrel
    obtain ⟨wo, hwo⟩ : ∃ wo, wo = wr := ⟨wr, rfl⟩
    subst hwo
    clear ho1' hB1'
    by_cases hlt : I < L.length
    · have hLr : Hid (Lss wo a L) := hL0.out.kept hB.out
      obtain ⟨b, off, rfl, hcs⟩ : ∃ b off, a = some ⟨b, off, none⟩ ∧ ∀ i x, L[i]? = some x → LsAt wo b (off + i * 3) x := by
        rcases hLr.out.2 with h0 | h0
        · rw [h0] at hlt; simp at hlt
        · exact h0
      have hg : Hid (L.take (I + 1) = L.take I ++ [L[I]] ∧ L[I] ∈ L) := ⟨List.take_succ_eq_append_getElem hlt, List.getElem_mem hlt⟩
      obtain ⟨pa, pc, ⟨c0, c1, c2⟩, hIn, hpb, hp1, hp2, hp3⟩ := hcs I L[I] (List.getElem?_eq_getElem hlt)
      have hlen : Hid ((shortL L.length ++ lossB (L.take I)).length + 1000 ≤ 140737488355328) := by
        show _ ≤ _
        have h2 := lossB_len (L.take I) (fun x hx => ⟨hM.out x hx, hn64.out x (List.mem_of_mem_take hx)⟩)
        have h3 := cg_le L.length (by omega)
        rw [List.length_take] at h2
        rw [List.length_append, shortL_length]
        omega
      generalize L[I] = x at *
      have hIn0 : Hid (Ints wo pa x.path) := hIn
      clear hIn hcs hLr hpb
      obtain ⟨W1, hW1⟩ : ∃ W1, Hid (W1 = wo.alloc (.cells #[.slice pa x.path.length pc, .int .i64 x.kind, .int .u64 (x.n : Nat)] 41)) := ⟨_, rfl⟩
      have hal : Hid (Below wo.heap.size wo W1) := by show Below _ _ _; rw [hW1.out]; exact (Below.refl _ _).alloc (Nat.le_refl _) _
      have hX1 : Hid (Blc W1 wo.heap.size #[.slice pa x.path.length pc, .int .i64 x.kind, .int .u64 (x.n : Nat)] 41) := by show Blc _ _ _ _; rw [hW1.out]; exact heap_alloc_new _ _
      have k2 := may_any pa pc x W1 (hIn0.out.kept hal.out) hp1 hp2
      rw [hW1.out] at k2
      go_wp2_with fail
      refine k2.mono ?_
      rintro e w2 ⟨rfl, hb2⟩
      rw [← hW1.out] at hb2
      clear k2 c0 c1 c2
      have hX2 : Hid (Blc w2 wo.heap.size #[.slice pa x.path.length pc, .int .i64 x.kind, .int .u64 (x.n : Nat)] 41) := (hb2.out.block _ (Array.getElem?_eq_some_iff.1 hX1.out).1).trans hX1.out
      have hO2 : Hid (OwnsB w2 w.heap.size u4 (shortL L.length ++ lossB (L.take I))) := (hO.out.below hal.out).below hb2.out
      have hBo : Hid (Below wo.heap.size wo w2) := hal.out.trans (hb2.out.mono hal.out.size)
      have hB2 : Hid (Below w.heap.size w w2) := hB.out.trans (hBo.out.mono hB.out.size)
      have hI2 : Hid (Ints w2 pa x.path) := hIn0.out.kept hBo.out
      clear hX1 hO hB hIn0 hb2 hal hW1 hBo
      by_cases hx : mayL x
      · rw [(mayB_iff x).2 hx]
        obtain ⟨p, k, m⟩ := x
        obtain ⟨⟨hk1, hk2, hpl⟩, hst⟩ := id hx
        simp only at hp1 hp3 hk1 hk2 hpl hst hX2 hI2 ⊢
        obtain ⟨kn, rfl⟩ : ∃ kn : Nat, k = (kn : Int) := ⟨k.toNat, by omega⟩
        have hS : Hid (∀ m, m < 18446744073709551616 → (shortL m).length ≤ 10) := fun m h => by rw [shortL_length]; exact cg_le m h
        have wk : IntKind.u64.wrap (kn : Int) = (kn : Int) := by rw [IntKind.wrap_u64]; omega
        have wp : IntKind.u64.wrap (p.length : Int) = (p.length : Int) := by rw [IntKind.wrap_u64]; omega
        have SK : Hid (∀ y, Below w2.heap.size w2 y → y.cell? ⟨wo.heap.size, 0, none⟩ = some (.slice pa p.length pc) ∧ y.cell? ⟨wo.heap.size, 1, none⟩ = some (.int .i64 (kn : Int)) ∧ y.cell? ⟨wo.heap.size, 2, none⟩ = some (.int .u64 (m : Nat))) := fun y hy => by
          have hb : Blc y wo.heap.size #[.slice pa p.length pc, .int .i64 (kn : Int), .int .u64 (m : Nat)] 41 := (hy.block _ (Array.getElem?_eq_some_iff.1 hX2.out).1).trans hX2.out
          exact ⟨hb.cell 0, hb.cell 1, hb.cell 2⟩
        have k1 : Hid (∀ y, Below w2.heap.size w2 y → Calls Tryd.prog 21 #[.slice none 0 0, .int .u64 (kn : Nat)] y fun e w' => ∃ v', e = .returned v' ∧ Hid (OwnsB w' w2.heap.size v' ([] ++ shortL kn)) ∧ Hid (Below y.heap.size y w')) := fun y hy => rput_any kn (ownsB_nil _ _) hy.size (by omega) (by decide)
        have bd : Hid (Below w2.heap.size w2 w2.drew) := (Below.refl _ _).drew
        have hz1 := hS.out kn (by omega)
        have hz2 := hS.out m hp3
        have hz3 := hS.out p.length (by omega)
        have hmay : Hid (mayL ⟨p, (kn : Int), m⟩) := hx
        have hst0 : Hid (∀ s ∈ p, 0 ≤ s ∧ s ≤ 4095) := hst
        clear hx hst
        go_upto_region 11 with fail
        go_region_held3 (fun y => y.cell? ⟨wo.heap.size, 0, none⟩ = some (.slice pa p.length pc) ∧ y.cell? ⟨wo.heap.size, 1, none⟩ = some (.int .i64 (kn : Int)) ∧ y.cell? ⟨wo.heap.size, 2, none⟩ = some (.int .u64 (m : Nat))) (((with_reducible refine SK.out _ ?_); (all_goals first | with_reducible exact bd.out | with_reducible exact Below.refl _ _ | with_reducible exact b1.out | with_reducible exact b2.out | with_reducible exact b3.out | fail))) (first
          | (go_at_call 21; refine (k1.out _ (by first | with_reducible exact bd.out | with_reducible exact Below.refl _ _)).mono ?_; rintro e x1 ⟨v1, rfl, hO1, hb1⟩; have b1 : Hid (Below w2.heap.size w2 x1) := (by first | with_reducible exact hb1.out | exact bd.out.trans hb1.out); clear k1 hb1)
          | (go_at_call 21; refine (rput_any m hO1.out b1.out.size hp3 (by rw [List.length_append]; simp; omega)).mono ?_; rintro e x2 ⟨v2', rfl, hO2', hb2⟩; have b2 : Hid (Below w2.heap.size w2 x2) := b1.out.trans (hb2.out.mono b1.out.size); clear hO1 hb2)
          | (go_at_call 21; refine (rput_any p.length hO2'.out b2.out.size (by omega) (by rw [List.length_append, List.length_append]; simp; omega)).mono ?_; rintro e x3 ⟨v3, rfl, hO3, hb3⟩; have b3 : Hid (Below w2.heap.size w2 x3) := b2.out.trans (hb3.out.mono b2.out.size); clear hO2' hb3))
        have hE3 : Hid (OwnsB x3 w2.heap.size v3 (shortL kn ++ shortL m ++ shortL p.length)) := by have := hO3.out; rw [List.nil_append] at this; exact this
        obtain ⟨ys, hY⟩ : ∃ ys, Hid (shortL kn ++ shortL m ++ shortL p.length = ys) := ⟨_, rfl⟩
        have hYl : Hid (ys.length ≤ 30) := by show _ ≤ _; rw [← hY.out]; simp only [List.length_append]; omega
        rw [hY.out] at hE3
        have hone : Hid (oneB ⟨p, (kn : Int), m⟩ = ys ++ pathB p) := by show _ = _; rw [← hY.out]; simp [oneB]
        have hI0 : Hid (∀ y, Below w2.heap.size w2 y → Ints y pa p) := fun y hy => hI2.out.kept hy
        clear hO3 bd hI2 hz1 hz2 hz3 wk wp hY
        go_wp2_with fail
        go_loopw [7, 8] (fun vb j wk => ∃ J : Nat, j = .int .i64 J ∧ J ≤ p.length ∧ Hid (OwnsB wk w2.heap.size vb (ys ++ pathB (p.take J))) ∧ Hid (Below w2.heap.size w2 wk)) (fun _ j _ => p.length - (intOf j).toNat)
        case atStart => exact ⟨0, rfl, Nat.zero_le _, by show OwnsB _ _ _ _; simpa [pathB] using hE3.out, b3⟩
        case round =>
          obtain ⟨J, rfl, hJ, hOb, hBk⟩ := hrel
          obtain ⟨d0, d1, d2⟩ := SK.out _ hBk.out
          by_cases hlj : J < p.length
          · have hIr : Hid (Ints wr pa p) := hI0.out wr hBk.out
            obtain ⟨pb, po, rfl⟩ := ints_some hIr.out (by omega)
            have hcell := hIr.out.cell hlj
            have hg2 : Hid (p.take (J + 1) = p.take J ++ [p.getD J 0] ∧ p.getD J 0 ∈ p) := by
              show _ ∧ _
              rw [List.take_succ_eq_append_getElem hlj, List.getD_eq_getElem?_getD, List.getElem?_eq_getElem hlj]
              exact ⟨rfl, List.getElem_mem hlj⟩
            have hlen2 : Hid ((ys ++ pathB (p.take J)).length + 10 ≤ 140737488355328) := by
              show _ ≤ _
              have h1 := pathB_len (p.take J) (fun c hc => hst0.out c (List.mem_of_mem_take hc))
              have h2 := hYl.out
              rw [List.length_take] at h1
              rw [List.length_append]
              omega
            generalize p.getD J 0 = z at *
            have hz0 := hst0.out z hg2.out.2
            obtain ⟨q, rfl⟩ : ∃ q : Nat, z = (q : Int) := ⟨z.toNat, by omega⟩
            have wq : IntKind.u64.wrap (q : Int) = (q : Int) := by rw [IntKind.wrap_u64]; omega
            have k5 := rput_any q hOb.out hBk.out.size (by omega) hlen2.out
            clear hIr
            go_wp2_with fail
            refine k5.mono ?_
            rintro e w5 ⟨v5, rfl, h5, hb5⟩
            clear k5 hcell hOb d0 d1 d2
            have hB5 : Hid (Below w2.heap.size w2 w5) := hBk.out.trans (hb5.out.mono hBk.out.size)
            go_wp2
            go_roundw
            case rel =>
              refine ⟨J + 1, by go_num, by omega, ?_, hB5⟩
              show OwnsB _ _ _ _
              rw [hg2.out.1, pathB_snoc, Int.toNat_natCast, ← List.append_assoc]
              exact h5.out
            case measure => simp [intOf]; omega
          · have e : J = p.length := by omega
            subst e
            have hOb' : Hid (OwnsB wr w2.heap.size u7 (oneB ⟨p, (kn : Int), m⟩)) := by have := hOb.out; rw [List.take_length, ← hone.out] at this; exact this
            have hOl : Hid ((oneB ⟨p, (kn : Int), m⟩).length ≤ 700) := oneB_len _ hmay.out hp3
            have hOo : Hid (OwnsB wr w.heap.size u4 (shortL L.length ++ lossB (L.take I))) := hO2.out.below hBk.out
            have hBw : Hid (Below w.heap.size w wr) := hB2.out.trans (hBk.out.mono hB2.out.size)
            obtain ⟨a7, n7, c7, rfl, hl7, hn7, hc7, hm7, hb7⟩ := hOb'.out.form
            clear hOb hOb' hone hE3 b3
            go_wp2_with (at_builtin; go_loud (refine wpList_append_bytes rfl _ _ rfl w.heap.size u4 _ (oneB ⟨p, (kn : Int), m⟩) rfl hOo.out a7 n7 c7 rfl hl7.out hn7.out hb7.out (by have := hOl.out; have := hlen.out; omega) hBw.out.size ?_; intro v8 w8 hO8 hg8; have hB8 : Hid (Below w.heap.size w w8) := grown_below hBw.out hOo.out hg8 hBw.out.size; have hO8' : Hid (OwnsB w8 w.heap.size v8 (shortL L.length ++ lossB (L.take I) ++ oneB ⟨p, (kn : Int), m⟩)) := hO8; clear hO8 hg8))
            clear hOo hb7 d0 d1 d2 hO2 hB2
            go_roundw
            case rel =>
              refine ⟨I + 1, by go_num, by omega, ?_, hB8, ?_⟩
              · show OwnsB _ _ _ _
                rw [hg.out.1, lossB_snoc, ← List.append_assoc]
                exact hO8'.out
              · show ∀ y ∈ L.take (I + 1), _
                rw [hg.out.1]
                intro y hy
                rcases List.mem_append.1 hy with hy | hy
                · exact hM.out y hy
                · simp at hy; rw [hy]; exact hmay.out
            case measure => simp [intOf]; omega
      · rw [mayB_no hx]
        have hF : Hid (R = ([], 1)) := by
          show _ = _
          rw [← hRR.out, hb.out, if_neg (fun h => hx ((all_may L).1 h x hg.out.2))]
        go_wp2
        go_ret2
        rw [hF.out]
        exact ⟨_, rfl, ownsB_nil _ _, hB2⟩
    · have e : I = L.length := by omega
      subst e
      have hF : Hid (R = (shortL L.length ++ lossB L, 0)) := by
        show _ = _
        have := hM.out
        rw [List.take_length] at this
        rw [← hRR.out, hb.out, if_pos ((all_may L).2 this)]
      have hO' : Hid (OwnsB wo w.heap.size u4 (shortL L.length ++ lossB L)) := by have := hO.out; rw [List.take_length] at this; exact this
      clear hO hM hRR hb
      go_wp2
      go_ret2
      rw [hF.out]
      exact ⟨_, rfl, hO', hB⟩
end Go.Proofs.YtgfnohgpmmaocaaDoor
