/-
  The document's side: how two numbers stand.
-/
import Derived.Test.YtjdceigndleadaaDoorYright
import Derived.Test.YtjdceigndleadaaDoorDlex
import Derived.Test.YtjdceigndleadaaDoorDord
import Derived.Sort.Walk0
import Derived.Lib.MinMax
import Derived.BigQuiet
namespace Go.Proofs.YtjdceigndleadaaDoor
open Go.RowKit

theorem less_cmp : ∀ a b : List UInt8, Lib.compareBytes a b = -1 ↔ a < b
  | [], [] => by simp [Lib.compareBytes]
  | [], y :: b => by simp [Lib.compareBytes]
  | x :: a, [] => by simp [Lib.compareBytes]
  | x :: a, y :: b => by
    unfold Lib.compareBytes
    rw [List.cons_lt_cons_iff, ← less_cmp a b]
    by_cases h1 : x < y
    · simp [h1]
    · rw [if_neg h1]
      by_cases h2 : y < x
      · rw [if_pos h2]
        have : x ≠ y := fun h => by subst h; exact h1 h2
        simp [h1, this]
      · rw [if_neg h2]
        have e : x = y := UInt8.toNat_inj.1 (by have h1' : ¬ x.toNat < y.toNat := h1; have h2' : ¬ y.toNat < x.toNat := h2; omega)
        simp [e]
theorem differ {a b : ByteArray} (h : ¬ a = b) : (a.toList == b.toList) = false := by
  rw [beq_eq_false_iff_ne, Lib.toList_data, Lib.toList_data]
  intro h1
  apply h
  obtain ⟨⟨a⟩⟩ := a
  obtain ⟨⟨b⟩⟩ := b
  simp at h1
  rw [h1]
/-- Digits with 0 behind. -/
def padS (s : ByteArray) (k : Nat) : ByteArray := strOfNums (bs s ++ zerosL k)
theorem bs_pad (s : ByteArray) (k : Nat) : bs (padS s k) = bs s ++ zerosL k := bs_str (fun c hc => by
  rcases List.mem_append.1 hc with h | h
  · exact bs_bytes s c h
  · rw [(List.mem_replicate.1 h).2]; decide)
theorem pad_size (s : ByteArray) (k : Nat) : (padS s k).size = s.size + k := by rw [← bs_len, bs_pad, List.length_append, bs_len]; unfold zerosL; rw [List.length_replicate]
theorem pad_zero (s : ByteArray) : padS s 0 = s := by apply bs_inj; rw [bs_pad]; exact List.append_nil _
theorem bs_cat (s t : ByteArray) : bs (s ++ t) = bs s ++ bs t := by
  unfold bs
  rw [ByteArray.data_append, Array.toList_append, List.map_append]
theorem pad_succ (s : ByteArray) (k : Nat) : padS s k ++ ⟨#[48]⟩ = padS s (k + 1) := by
  apply bs_inj
  rw [bs_cat, bs_pad, bs_pad, List.append_assoc]
  congr 1
  show zerosL k ++ [48] = zerosL (k + 1)
  unfold zerosL
  rw [List.replicate_succ']
/-- What is held against one another: no digits of 0. -/
def cutS (s : ByteArray) (k : Nat) : ByteArray := if s = zS then noS else padS s k
theorem cut_digs {n : Bool} {s : ByteArray} {x : Int} (h : FormD n (bs s) x) (k : Nat) : Digs (bs (cutS s k)) := by
  unfold cutS
  split
  · intro c hc; cases hc
  · rw [bs_pad]; exact digs_append h.1.1.2.1 (zeros_digs k)
theorem cut_key {n : Bool} {s : ByteArray} {x low : Int} (h : FormD n (bs s) x) (h1 : -2000 ≤ low) (h2 : low ≤ x) : valS (bs (cutS s (x - low).toNat)) * 10 ^ (low + 2000).toNat = key (bs s) x := by
  unfold cutS
  split
  · rename_i hz
    have hk := (form_key h).2 ((z_iff s).2 hz)
    rw [hk]
    show 0 * _ = 0
    omega
  · rw [bs_pad]
    exact key_pad (bs s) h1 h2
theorem cut_canon {n : Bool} {s : ByteArray} {x : Int} (h : FormD n (bs s) x) (k : Nat) : bs (cutS s k) = [] ∨ (Canon (bs (cutS s k)) ∧ valS (bs (cutS s k)) ≠ 0) := by
  unfold cutS
  by_cases hz : s = zS
  · rw [if_pos hz]; exact .inl rfl
  · rw [if_neg hz, bs_pad]
    have h48 : bs s ≠ [48] := fun h1 => hz ((z_iff s).1 h1)
    have hv : valS (bs s) ≠ 0 := fun h1 => h48 ((form_zero h).1 h1)
    refine .inr ⟨⟨fun h1 => h.1.1.1 (List.append_eq_nil_iff.1 h1).1, digs_append h.1.1.2.1 (zeros_digs k), fun h1 => ?_⟩, ?_⟩
    · exfalso
      rcases hx : bs s with _ | ⟨c, t⟩
      · exact h.1.1.1 hx
      · rw [hx] at h1
        have hc : c = 48 := h1
        have h3 := h.1.1.2.2 (by rw [hx]; exact hc)
        rw [hx] at h3
        have ht : t = [] := List.eq_nil_of_length_eq_zero (by simpa using h3)
        exact h48 (by rw [hx, ht, hc])
    · rw [val_pad]
      exact Nat.mul_ne_zero hv (Nat.pos_iff_ne_zero.1 (Nat.pow_pos (by decide)))
/-- How two rows stand that are no digits or a number that is not 0. -/
theorem cut_cmp {a b : ByteArray} (ha : bs a = [] ∨ (Canon (bs a) ∧ valS (bs a) ≠ 0)) (hb : bs b = [] ∨ (Canon (bs b) ∧ valS (bs b) ≠ 0)) :
    (a.size < b.size → valS (bs a) < valS (bs b)) ∧ (a.size = b.size → Lib.compareBytes a.data.toList b.data.toList = cmpN (valS (bs a)) (valS (bs b))) ∧ (a = b ↔ valS (bs a) = valS (bs b)) := by
  have da : Digs (bs a) := by rcases ha with h | h; · rw [h]; intro c hc; cases hc
                              · exact h.1.2.1
  have db : Digs (bs b) := by rcases hb with h | h; · rw [h]; intro c hc; cases hc
                              · exact h.1.2.1
  refine ⟨fun h => ?_, fun h => cmp_digs a.data.toList b.data.toList (by rw [Array.length_toList, Array.length_toList]; exact h) da db, fun h => by rw [h], fun h => ?_⟩
  · rw [← bs_len, ← bs_len] at h
    rcases hb with h1 | h1
    · rw [h1] at h; simp at h
    · rcases ha with h2 | h2
      · rw [h2]; show 0 < _; omega
      · exact len_lt h2.1.1 da h1.1 h
  · apply bs_inj
    rcases ha with h1 | h1 <;> rcases hb with h2 | h2
    · rw [h1, h2]
    · rw [h1] at h; exact absurd h.symm h2.2
    · rw [h2] at h; exact absurd h h1.2
    · exact canon_inj h1.1 h2.1 h
set_option maxRecDepth 100000 in
set_option maxHeartbeats 2000000 in
theorem ysize_any (n : Bool) (s : ByteArray) (x : Int) (m : Bool) (t : ByteArray) (y : Int) (w : World) (hs : rtN n s x = true) (ht : rtN m t y = true) :
    Calls Tryd.prog 30 #[.agg #[.bool n, .string s, .int .i64 x], .agg #[.bool m, .string t, .int .i64 y]] w fun e w' => e = .returned (.int .i64 (cmpN (key (bs s) x) (key (bs t) y))) ∧ Below w.heap.size w w' := by
  have fs := (rtN_iff n s x).1 hs
  have ft := (rtN_iff m t y).1 ht
  have hx := rtN_exp hs
  have hy := rtN_exp ht
  have sz := (rt_size (rtN_rt hs)).2
  have tz := (rt_size (rtN_rt ht)).2
  have sz0 := (rt_size (rtN_rt hs)).1
  have tz0 := (rt_size (rtN_rt ht)).1
  obtain ⟨L, hL⟩ : ∃ L, min x y = L := ⟨_, rfl⟩
  have hLx : L ≤ x := by omega
  have hLy : L ≤ y := by omega
  have hL2 : -2000 ≤ L := by omega
  have k1 := cut_key fs hL2 hLx
  have k2 := cut_key ft hL2 hLy
  have hR : cmpN (key (bs s) x) (key (bs t) y) = cmpN (valS (bs (cutS s (x - L).toNat))) (valS (bs (cutS t (y - L).toNat))) := by
    rw [← k1, ← k2]
    exact cmpN_scale (Nat.pow_pos (by decide))
  rw [hR]
  have hC := cut_cmp (cut_canon fs (x - L).toNat) (cut_canon ft (y - L).toNat)
  have zs : (s.toList == [48]) = decide (s = zS) := eq_size s
  have zt : (t.toList == [48]) = decide (t = zS) := eq_size t
  obtain ⟨⟨a0, a1, a2⟩, ⟨b0, b1, b2⟩⟩ := two_new w n s x m t y
  have hb := two_below w (.cells #[.bool n, .string s, .int .i64 x] 36) (.cells #[.bool m, .string t, .int .i64 y] 36)
  have cs := cut_canon fs (x - L).toNat
  have ct := cut_canon ft (y - L).toNat
  have hCh : Hid _ := hC
  have hD : Hid ((cutS t (y - L).toNat).size < (cutS s (x - L).toNat).size → valS (bs (cutS t (y - L).toNat)) < valS (bs (cutS s (x - L).toNat))) := (cut_cmp ct cs).1
  have hbq0 : Hid (Below w.heap.size w ((w.alloc (.cells #[.bool n, .string s, .int .i64 x] 36)).alloc (.cells #[.bool m, .string t, .int .i64 y] 36))) := hb
  clear hR k1 k2 fs ft hs ht hC hb
  have hcs : Hid _ := cs
  have hct : Hid _ := ct
  clear cs ct
  generalize hVV : cmpN (valS (bs (cutS s (x - L).toNat))) (valS (bs (cutS t (y - L).toNat))) = VV
  have hV : Hid (cmpN (valS (bs (cutS s (x - L).toNat))) (valS (bs (cutS t (y - L).toNat))) = VV) := hVV
  clear hVV
  go_enter Tryd.func30, Tryd.ntmps30
  go_wp2
  go_quiet (fail)
  have hTq : Hid (Two w (((w.alloc (.cells #[.bool n, .string s, .int .i64 x] 36)).alloc (.cells #[.bool m, .string t, .int .i64 y] 36)).drewN nq) n s x m t y) := two_new w n s x m t y
  have hbq : Hid (Below w.heap.size w (((w.alloc (.cells #[.bool n, .string s, .int .i64 x] 36)).alloc (.cells #[.bool m, .string t, .int .i64 y] 36)).drewN nq)) := hbq0.out.trans ⟨rfl, rfl, rfl, Nat.le_refl _, fun _ _ => rfl⟩
  clear a0 a1 a2 b0 b1 b2 hbq0
  generalize ((w.alloc (.cells #[.bool n, .string s, .int .i64 x] 36)).alloc (.cells #[.bool m, .string t, .int .i64 y] 36)).drewN nq = wq at *
  obtain ⟨⟨a0, a1, a2⟩, ⟨b0, b1, b2⟩⟩ := hTq.out
  go_wp2
  go_loop [6, 8] (fun v i => ∃ k : Nat, L + (k : Int) ≤ x ∧ v = .string (padS s k) ∧ i = .int .i64 (L + (k : Int))) (fun _ i => (x - intOf i).toNat)
  case atStart => exact ⟨0, by omega, by rw [pad_zero], by simp⟩
  case round =>
    obtain ⟨k, hk, rfl, rfl⟩ := hrel
    by_cases hlt : L + (k : Int) < x
    · have hp := pad_succ s k
      have hw : IntKind.i64.wrap (L + (k : Int) + 1) = L + ((k + 1 : Nat) : Int) := by rw [IntKind.wrap_i64] <;> omega
      have hd : decide (L + (k : Int) < x) = true := by simpa using hlt
      have hfit : ¬ 9223372036854775807 < (padS s k).size + 1 := by rw [pad_size]; omega
      have hk1 : Hid (L + ((k + 1 : Nat) : Int) ≤ x) := by show _ ≤ _; omega
      have hms : Hid ((x - (L + ((k + 1 : Nat) : Int))).toNat < (x - (L + (k : Int))).toNat) := by show _ < _; omega
      clear hlt hk
      generalize hKK : L + ((k + 1 : Nat) : Int) = KK at *
      generalize hPP : padS s (k + 1) = PP at *
      go_wp2
      go_round
      case rel => exact ⟨k + 1, by rw [hKK]; exact hk1.out, by rw [hPP], by rw [hKK]⟩
      case measure => simp only [intOf]; exact hms.out
    · have hd : decide (L + (k : Int) < x) = false := by simpa using hlt
      have hkx : k = (x - L).toNat := by omega
      rw [← hkx] at hV hCh hcs hD
      clear hkx hk hlt
      go_wp2
      go_loop [7, 9] (fun v i => ∃ j : Nat, L + (j : Int) ≤ y ∧ v = .string (padS t j) ∧ i = .int .i64 (L + (j : Int))) (fun _ i => (y - intOf i).toNat)
      case atStart => exact ⟨0, by omega, by rw [pad_zero], by simp⟩
      case round =>
        obtain ⟨j, hj, rfl, rfl⟩ := hrel
        by_cases hlt : L + (j : Int) < y
        · have hp := pad_succ t j
          have hw : IntKind.i64.wrap (L + (j : Int) + 1) = L + ((j + 1 : Nat) : Int) := by rw [IntKind.wrap_i64] <;> omega
          have hd2 : decide (L + (j : Int) < y) = true := by simpa using hlt
          have hfit : ¬ 9223372036854775807 < (padS t j).size + 1 := by rw [pad_size]; omega
          have hk1 : Hid (L + ((j + 1 : Nat) : Int) ≤ y) := by show _ ≤ _; omega
          have hms : Hid ((y - (L + ((j + 1 : Nat) : Int))).toNat < (y - (L + (j : Int))).toNat) := by show _ < _; omega
          clear hlt hj
          generalize hKK : L + ((j + 1 : Nat) : Int) = KK at *
          generalize hPP : padS t (j + 1) = PP at *
          go_wp2
          go_round
          case rel => exact ⟨j + 1, by rw [hKK]; exact hk1.out, by rw [hPP], by rw [hKK]⟩
          case measure => simp only [intOf]; exact hms.out
        · have hd2 : decide (L + (j : Int) < y) = false := by simpa using hlt
          have hkx : j = (y - L).toNat := by omega
          rw [← hkx] at hV hCh hct hD
          clear hkx hj hlt
          have hV1 := hV.out
          have hC1 := hCh.out
          have hD1 := hD.out
          have hs1 := hcs.out
          have ht1 := hct.out
          clear hV hCh hcs hct hD
          by_cases zs1 : s = zS
          · rw [decide_eq_true zs1] at zs
            have eU : cutS s k = noS := by unfold cutS; rw [if_pos zs1]
            rw [eU] at hV1 hC1
            have e0 : valS (bs noS) = 0 := rfl
            rw [e0] at hV1
            by_cases zt1 : t = zS
            · rw [decide_eq_true zt1] at zt
              have eW : cutS t j = noS := by unfold cutS; rw [if_pos zt1]
              rw [eW, e0] at hV1
              have hV2 : (0 : Int) = VV := hV1
              subst hV2
              clear hV1 hC1 hD1 hs1 ht1 eU eW zs1 zt1
              go_wp2
              go_ret
              exact ⟨rfl, hbq.out⟩
            · rw [decide_eq_false zt1] at zt
              have eW : cutS t j = padS t j := by unfold cutS; rw [if_neg zt1]
              rw [eW] at hV1 ht1
              have hne : bs (padS t j) ≠ [] := by
                rw [bs_pad]
                intro h
                have h1 := (List.append_eq_nil_iff.1 h).1
                have h2 := bs_len t
                rw [h1] at h2
                have := tz0
                simp at h2
                omega
              have hpos : valS (bs (padS t j)) ≠ 0 := by
                rcases ht1 with h | h
                · exact absurd h hne
                · exact h.2
              have hV2 : VV = -1 := by
                rw [← hV1]
                unfold cmpN
                rw [if_pos (by omega)]
              subst hV2
              have hsz : 0 < (padS t j).size := by rw [← bs_len]; exact List.length_pos_iff.2 hne
              clear hV1 hC1 hD1 hs1 ht1 eU eW zs1 zt1 hne hpos
              generalize padS t j = W1 at *
              go_wp2
              go_ret
              exact ⟨rfl, hbq.out⟩
          · rw [decide_eq_false zs1] at zs
            have eU : cutS s k = padS s k := by unfold cutS; rw [if_neg zs1]
            rw [eU] at hV1 hC1 hs1 hD1
            have hneS : bs (padS s k) ≠ [] := by
              rw [bs_pad]
              intro h
              have h1 := (List.append_eq_nil_iff.1 h).1
              have h2 := bs_len s
              rw [h1] at h2
              simp at h2
              omega
            have hszS : 0 < (padS s k).size := by rw [← bs_len]; exact List.length_pos_iff.2 hneS
            by_cases zt1 : t = zS
            · rw [decide_eq_true zt1] at zt
              have eW : cutS t j = noS := by unfold cutS; rw [if_pos zt1]
              have e0 : valS (bs noS) = 0 := rfl
              rw [eW, e0] at hV1
              have hpos : valS (bs (padS s k)) ≠ 0 := by
                rcases hs1 with h | h
                · exact absurd h hneS
                · exact h.2
              have hV2 : VV = 1 := by
                rw [← hV1]
                unfold cmpN
                rw [if_neg (by omega), if_pos (by omega)]
              subst hV2
              have he := not_empty hszS
              have he2 : ¬ padS s k = ByteArray.empty := fun h => by rw [h] at hszS; exact absurd hszS (by decide)
              have he3 : ((padS s k).toList == []) = false := by rw [beq_eq_false_iff_ne]; intro h; rw [h] at he; cases he
              have he0 : (((padS s k).size : Nat) : Int) ≠ 0 := by omega
              have he1 : ¬ (((padS s k).size : Nat) : Int) < 0 := by omega
              clear hV1 hC1 hD1 hs1 ht1 eU eW zs1 zt1 hneS hpos
              generalize padS s k = U1 at *
              go_wp2
              go_ret
              exact ⟨rfl, hbq.out⟩
            · rw [decide_eq_false zt1] at zt
              have eW : cutS t j = padS t j := by unfold cutS; rw [if_neg zt1]
              rw [eW] at hV1 hC1 hD1
              clear eU eW zs1 zt1 hneS hs1 ht1
              generalize padS s k = U1 at *
              generalize padS t j = W1 at *
              obtain ⟨g1, g2, g3⟩ := hC1
              have hbl : U1.size = W1.size → Op.bytesLess U1.toList W1.toList = decide (valS (bs U1) < valS (bs W1)) := fun h => by
                have h2 := less_cmp U1.data.toList W1.data.toList
                rw [Proofs.bytesLess_eq, Lib.toList_data, Lib.toList_data]
                rw [g2 h] at h2
                have h3 : cmpN (valS (bs U1)) (valS (bs W1)) = -1 ↔ valS (bs U1) < valS (bs W1) := by
                  unfold cmpN
                  by_cases h4 : valS (bs U1) < valS (bs W1)
                  · simp [h4]
                  · rw [if_neg h4]
                    by_cases h5 : valS (bs W1) < valS (bs U1)
                    · simp [h4, h5]
                    · simp [h4, h5]
                rw [h3] at h2
                exact decide_eq_decide.2 h2.symm
              clear g2
              rcases Nat.lt_trichotomy U1.size W1.size with h1 | h1 | h1
              · have hV2 : VV = -1 := by rw [← hV1]; unfold cmpN; rw [if_pos (g1 h1)]
                subst hV2
                clear hV1 g1 g3 hbl hD1
                go_wp2
                go_ret
                exact ⟨rfl, hbq.out⟩
              · have hq' : (U1.size : Int) = (W1.size : Int) := by omega
                have hl := hbl h1
                have hs' : ¬ (U1.size : Int) < (W1.size : Int) := by omega
                by_cases h2 : valS (bs U1) < valS (bs W1)
                · rw [decide_eq_true h2] at hl
                  have hV2 : VV = -1 := by rw [← hV1]; unfold cmpN; rw [if_pos h2]
                  subst hV2
                  clear hV1 g1 g3 hbl hD1 h2
                  go_wp2
                  go_ret
                  exact ⟨rfl, hbq.out⟩
                · rw [decide_eq_false h2] at hl
                  by_cases h3 : U1 = W1
                  · have hV2 : VV = 0 := by rw [← hV1, h3]; unfold cmpN; rw [if_neg (Nat.lt_irrefl _), if_neg (Nat.lt_irrefl _)]
                    subst hV2
                    clear hV1 g1 g3 hbl hD1 h2
                    subst h3
                    go_wp2
                    go_ret
                    exact ⟨rfl, hbq.out⟩
                  · have hne : valS (bs U1) ≠ valS (bs W1) := fun h => h3 (g3.2 h)
                    have hV2 : VV = 1 := by rw [← hV1]; unfold cmpN; rw [if_neg h2, if_pos (by omega)]
                    subst hV2
                    have hd3 := differ h3
                    clear hV1 g1 g3 hbl hD1 h2 h3 hne
                    go_wp2
                    go_ret
                    exact ⟨rfl, hbq.out⟩
              · have hlt := hD1 h1
                have hV2 : VV = 1 := by rw [← hV1]; unfold cmpN; rw [if_neg (by omega), if_pos hlt]
                subst hV2
                have hs' : ¬ (U1.size : Int) < (W1.size : Int) := by omega
                have hq' : ¬ (U1.size : Int) = (W1.size : Int) := by omega
                have hd3 : (U1.toList == W1.toList) = false := differ (fun h => by rw [h] at h1; omega)
                clear hV1 g1 g3 hbl hD1 hlt
                go_wp2
                go_ret
                exact ⟨rfl, hbq.out⟩
set_option maxHeartbeats 1000000 in
theorem yorder_any (n : Bool) (s : ByteArray) (x : Int) (m : Bool) (t : ByteArray) (y : Int) (w : World) :
    Calls Tryd.prog 15 #[.agg #[.bool n, .string s, .int .i64 x], .agg #[.bool m, .string t, .int .i64 y]] w fun e w' => e = .returned (.tuple #[.int .i64 (orderA (n, s, x) (m, t, y)).1, .int .i64 (orderA (n, s, x) (m, t, y)).2]) ∧ Below w.heap.size w w' := by
  have hT := two_new w n s x m t y
  obtain ⟨⟨a0, a1, a2⟩, ⟨b0, b1, b2⟩⟩ := id hT
  have hT' : Hid (Two w ((w.alloc (.cells #[.bool n, .string s, .int .i64 x] 36)).alloc (.cells #[.bool m, .string t, .int .i64 y] 36)) n s x m t y) := hT
  have hb' : Hid (Below w.heap.size w ((w.alloc (.cells #[.bool n, .string s, .int .i64 x] 36)).alloc (.cells #[.bool m, .string t, .int .i64 y] 36))) := two_below _ _ _
  have hs' : Hid (((w.alloc (.cells #[.bool n, .string s, .int .i64 x] 36)).alloc (.cells #[.bool m, .string t, .int .i64 y] 36)).heap.size = w.heap.size + 2) := two_size _ _ _
  have k1 := yright_any n s x
  have k2 := yright_any m t y
  clear hT
  cases hr : rtN n s x with
  | false =>
    have hR : orderA (n, s, x) (m, t, y) = (0, 1) := by unfold orderA; rw [if_neg (by rw [hr]; simp)]
    rw [hR]
    rw [hr] at k1
    clear hR hr k2
    go_enter Tryd.func15, Tryd.ntmps15
    go_wp2_with (go_at_call 29; refine (k1 _).mono ?_; rintro e w3 ⟨rfl, b3⟩)
    go_ret2
    exact ⟨rfl, hb'.out.trans (b3.mono (by have := hs'.out; omega))⟩
  | true =>
  rw [hr] at k1
  cases hq : rtN m t y with
  | false =>
    have hR : orderA (n, s, x) (m, t, y) = (0, 1) := by unfold orderA; rw [if_neg (by rw [hq]; simp)]
    rw [hR]
    rw [hq] at k2
    clear hR hr hq
    go_enter Tryd.func15, Tryd.ntmps15
    go_wp2_with fail
    refine (k1 _).mono ?_
    rintro e w3 ⟨rfl, b3⟩
    obtain ⟨⟨c0, c1, c2⟩, ⟨d0, d1, d2⟩⟩ := hT'.out.on b3 (by have := hs'.out; omega)
    go_wp2_with fail
    refine (k2 _).mono ?_
    rintro e w4 ⟨rfl, b4⟩
    have b34 := b3.trans (b4.mono b3.size)
    go_wp2
    go_ret2
    exact ⟨rfl, hb'.out.trans (b34.mono (by have := hs'.out; omega))⟩
  | true =>
  rw [hq] at k2
  have hR : orderA (n, s, x) (m, t, y) = (cmpI (skey n (bs s) x) (skey m (bs t) y), 0) := by unfold orderA; rw [if_pos ⟨hr, hq⟩]
  rw [hR]
  clear hR
  have kS := fun w => ysize_any n s x m t y w hr hq
  have kS' := fun w => ysize_any m t y n s x w hq hr
  have c1 := sign_cases hr
  have c2 := sign_cases hq
  have hV : cmpI (skey n (bs s) x) (skey m (bs t) y) = if n = true then (if m = true then cmpN (key (bs t) y) (key (bs s) x) else -1) else (if m = true then 1 else cmpN (key (bs s) x) (key (bs t) y)) := by
    unfold skey
    cases n <;> cases m
    · simp [cmpN_int]
    · simp
      have h2 : 0 < key (bs t) y := by rcases c2 with ⟨_, h, _⟩ | ⟨_, _, _, h⟩ | ⟨_, h, _⟩ <;> first | exact h | cases h
      unfold cmpI
      rw [if_neg (by omega), if_pos (by omega)]
    · simp
      have h2 : 0 < key (bs s) x := by rcases c1 with ⟨_, h, _⟩ | ⟨_, _, _, h⟩ | ⟨_, h, _⟩ <;> first | exact h | cases h
      unfold cmpI
      rw [if_pos (by omega)]
    · simp [cmpN_int, cmpI_neg, ← cmpI_turn]
  rw [hV]
  clear hV c1 c2 hr hq
  generalize cmpN (key (bs s) x) (key (bs t) y) = V1 at *
  generalize cmpN (key (bs t) y) (key (bs s) x) = V2 at *
  cases n <;> cases m
  · simp only [Bool.false_eq_true, if_false]
    go_enter Tryd.func15, Tryd.ntmps15
    go_wp2_with fail
    refine (k1 _).mono ?_
    rintro e w3 ⟨rfl, b3⟩
    have hT3 := hT'.out.on b3 (by have := hs'.out; omega)
    obtain ⟨⟨c0, c1, c2⟩, ⟨d0, d1, d2⟩⟩ := id hT3
    go_wp2_with fail
    refine (k2 _).mono ?_
    rintro e w4 ⟨rfl, b4⟩
    have s3 : w.heap.size + 2 ≤ w3.heap.size := by have := hs'.out; have := b3.size; omega
    obtain ⟨⟨f0, f1, f2⟩, ⟨g0, g1, g2⟩⟩ := hT3.on b4 s3
    have b4' : Hid (Below w.heap.size w w4) := hb'.out.trans ((b3.mono (by have := hs'.out; omega)).trans (b4.mono (by omega)))
    clear b3 b4 hT3 hT' hb' hs'
    go_wp2_with (go_at_call 30; refine (kS _).mono ?_; rintro e w5 ⟨rfl, b5⟩)
    go_ret2
    exact ⟨rfl, b4'.out.trans (b5.mono b4'.out.size)⟩
  · simp only [Bool.false_eq_true, if_false, if_true]
    go_enter Tryd.func15, Tryd.ntmps15
    go_wp2_with fail
    refine (k1 _).mono ?_
    rintro e w3 ⟨rfl, b3⟩
    have hT3 := hT'.out.on b3 (by have := hs'.out; omega)
    obtain ⟨⟨c0, c1, c2⟩, ⟨d0, d1, d2⟩⟩ := id hT3
    go_wp2_with fail
    refine (k2 _).mono ?_
    rintro e w4 ⟨rfl, b4⟩
    have s3 : w.heap.size + 2 ≤ w3.heap.size := by have := hs'.out; have := b3.size; omega
    obtain ⟨⟨f0, f1, f2⟩, ⟨g0, g1, g2⟩⟩ := hT3.on b4 s3
    have b4' : Hid (Below w.heap.size w w4) := hb'.out.trans ((b3.mono (by have := hs'.out; omega)).trans (b4.mono (by omega)))
    clear b3 b4 hT3 hT' hb' hs'
    go_wp2
    go_ret2
    exact ⟨rfl, b4'.out⟩
  · simp only [Bool.false_eq_true, if_false, if_true]
    go_enter Tryd.func15, Tryd.ntmps15
    go_wp2_with fail
    refine (k1 _).mono ?_
    rintro e w3 ⟨rfl, b3⟩
    have hT3 := hT'.out.on b3 (by have := hs'.out; omega)
    obtain ⟨⟨c0, c1, c2⟩, ⟨d0, d1, d2⟩⟩ := id hT3
    go_wp2_with fail
    refine (k2 _).mono ?_
    rintro e w4 ⟨rfl, b4⟩
    have s3 : w.heap.size + 2 ≤ w3.heap.size := by have := hs'.out; have := b3.size; omega
    obtain ⟨⟨f0, f1, f2⟩, ⟨g0, g1, g2⟩⟩ := hT3.on b4 s3
    have b4' : Hid (Below w.heap.size w w4) := hb'.out.trans ((b3.mono (by have := hs'.out; omega)).trans (b4.mono (by omega)))
    clear b3 b4 hT3 hT' hb' hs'
    go_wp2
    go_ret2
    exact ⟨rfl, b4'.out⟩
  · simp only [if_true]
    go_enter Tryd.func15, Tryd.ntmps15
    go_wp2_with fail
    refine (k1 _).mono ?_
    rintro e w3 ⟨rfl, b3⟩
    have hT3 := hT'.out.on b3 (by have := hs'.out; omega)
    obtain ⟨⟨c0, c1, c2⟩, ⟨d0, d1, d2⟩⟩ := id hT3
    go_wp2_with fail
    refine (k2 _).mono ?_
    rintro e w4 ⟨rfl, b4⟩
    have s3 : w.heap.size + 2 ≤ w3.heap.size := by have := hs'.out; have := b3.size; omega
    obtain ⟨⟨f0, f1, f2⟩, ⟨g0, g1, g2⟩⟩ := hT3.on b4 s3
    have b4' : Hid (Below w.heap.size w w4) := hb'.out.trans ((b3.mono (by have := hs'.out; omega)).trans (b4.mono (by omega)))
    clear b3 b4 hT3 hT' hb' hs'
    go_wp2_with (go_at_call 30; refine (kS' _).mono ?_; rintro e w5 ⟨rfl, b5⟩)
    go_ret2
    exact ⟨rfl, b4'.out.trans (b5.mono b4'.out.size)⟩
end Go.Proofs.YtjdceigndleadaaDoor
