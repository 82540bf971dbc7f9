/-
  In whatever order loads come, what is taken in the end is the same.
-/
import Derived.Test.YtajidkgmifcoaaaRcp
import Derived.Lib.MinMax
namespace Go.Proofs.Ytajidkgmifcoaaa
open Go.RowKit
set_option linter.unusedVariables false
/-- WHAT IS HELD ARE LOADS OF THE LIST. -/
structure AI (s : Rc) (L : List Bl) (m : Nat) : Prop where
  win : s.win = 32
  only : ∀ z l, s.L z = some l → 1 ≤ z ∧ z ≤ (m : Int) ∧ ∃ x, L[(z - 1).toNat]? = some x ∧ x.zs = l
theorem AI.new (L : List Bl) (m : Nat) : AI (r0 32) L m := ⟨rfl, fun z l h => by cases h⟩
theorem AI.data {s : Rc} {L : List Bl} {m n : Nat} {x : Bl} (h : AI s L m) (hx : L[n]? = some x) (hn : n < m) : AI (dataS s ((n : Int) + 1) x.zs) L m := by
  refine ⟨by rw [dataS_win]; exact h.win, fun z l hl => ?_⟩
  unfold dataS at hl
  split at hl
  · have hl : (if z = (n : Int) + 1 then some x.zs else s.L z) = some l := hl
    by_cases e : z = (n : Int) + 1
    · rw [if_pos e] at hl
      cases hl
      subst e
      exact ⟨by omega, by omega, x, by rw [show ((n : Int) + 1 - 1).toNat = n by omega]; exact hx, rfl⟩
    · rw [if_neg e] at hl
      exact h.only z l hl
  · exact h.only z l hl
theorem AI.take {s : Rc} {L : List Bl} {m : Nat} (h : AI s L m) : AI (takeA s) L m := by
  refine ⟨h.win, fun z l hl => ?_⟩
  have hl : (if z = s.tk + 1 then none else s.L z) = some l := hl
  by_cases e : z = s.tk + 1
  · rw [if_pos e] at hl; cases hl
  · rw [if_neg e] at hl; exact h.only z l hl
/-- All short loads below i are held. -/
def Full (s : Rc) (L : List Bl) (lo i : Nat) : Prop := ∀ k x, lo ≤ k → k < i → L[k]? = some x → x.zs.length ≤ 1200 → s.L ((k : Int) + 1) = some x.zs
theorem full_data {s : Rc} {L : List Bl} {m i : Nat} {x : Bl} (h : AI s L m) (ht : s.tk = 0) (hf : Full s L 0 i) (hx : L[i]? = some x) (hi : i < m) (hm : m ≤ 32) : Full (dataS s ((i : Int) + 1) x.zs) L 0 (i + 1) := by
  intro k y h0 hk hy hs
  unfold dataS
  by_cases e : k = i
  · subst e
    rw [hx] at hy
    cases hy
    by_cases he : dataE s ((k : Int) + 1) x.zs.length = 0
    · rw [if_pos he]
      show (if (k : Int) + 1 = (k : Int) + 1 then some x.zs else _) = some x.zs
      rw [if_pos rfl]
    · rw [if_neg he]
      unfold dataE at he
      rw [if_neg (by omega), if_neg (by omega)] at he
      cases hL : s.L ((k : Int) + 1) with
      | none =>
        rw [if_neg (by rw [hL, ht]; intro q; rcases q with q | q; omega; cases q), if_neg (by have := h.win; omega)] at he
        exact absurd rfl he
      | some l =>
        obtain ⟨_, _, y, hy2, rfl⟩ := h.only _ _ hL
        rw [show ((k : Int) + 1 - 1).toNat = k by omega, hx] at hy2
        cases hy2
        rfl
  · have h1 := hf k y h0 (by omega) hy hs
    split
    · show (if (k : Int) + 1 = (i : Int) + 1 then some x.zs else s.L ((k : Int) + 1)) = some y.zs
      rw [if_neg (by omega)]
      exact h1
    · exact h1
theorem full_take {s : Rc} {L : List Bl} {i m : Nat} (hf : Full s L i m) (ht : s.tk = (i : Int)) : Full (takeA s) L (i + 1) m := by
  intro k x h0 hk hx hs
  show (if (k : Int) + 1 = s.tk + 1 then none else s.L ((k : Int) + 1)) = some x.zs
  rw [if_neg (by omega)]
  exact hf k x (by omega) hk hx hs
set_option maxRecDepth 100000 in
set_option maxHeartbeats 2000000 in
theorem wanyhow (a : Option Addr) (len cap : Nat) (L : List Bl) (oa : Option Addr) (olen ocap : Nat) (oz : List Int) (w : World) (hA : BlArg w a len cap L) (hz0 : IsRow .u8 w oa olen ocap oz) (hcap : ocap ≤ 140737488351232) :
    Calls Try.prog 6 #[.slice a len cap, .slice oa olen ocap] w fun e w' => e = .returned (.bool true) ∧ Below w.heap.size w w' := by
  obtain ⟨hlen, hlc, hcm, hnil, hAc⟩ := hA
  obtain ⟨hlen0, hby0⟩ := bytes_of_row hz0
  have hle0 := (row_le hz0).1
  obtain ⟨ol, hl⟩ : ∃ l, l = oz.take olen := ⟨_, rfl⟩
  rw [← hl] at hlen0 hby0
  have holen : Hid (ol.length = olen) := hlen0
  have hoby : Hid (Bytes w oa ol) := hby0
  have hocm : ocap ≤ 9223372036854775807 := by omega
  have hAc' : Hid (Bls w a L) := hAc
  have hlen' : Hid (L.length = len) := hlen
  have hnil' : Hid (a = none → cap = 0) := hnil
  obtain ⟨m, hm⟩ : ∃ m : Nat, min (len : Int) 32 = (m : Int) ∧ m ≤ 32 ∧ m ≤ len := by
    by_cases h : len ≤ 32
    · exact ⟨len, by omega, h, Nat.le_refl _⟩
    · exact ⟨32, by omega, Nat.le_refl _, by omega⟩
  obtain ⟨hmin, hm32, hml⟩ := hm
  have hm32' : Hid (m ≤ 32) := hm32
  have hml' : Hid (m ≤ len) := hml
  have hmc : m ≤ cap := by omega
  clear hAc hlen hz0 hlen0 hby0 hl hnil hm32
  go_enter Try.func6, Try.ntmps6
  go_wp2_with fail
  refine (new_yes 32 w (by decide) (by decide)).mono ?_
  rintro e w1 ⟨rfl, hS1, hB1⟩
  generalize hrb : w.heap.size = rb at *
  have hN : Hid (w.heap.size = rb) := hrb
  clear hrb
  have hA1 : Hid (At w w1 rb (r0 32)) := ⟨hS1.out, hB1.out, by have := hB1.out.size; rw [hN.out] at this; exact this⟩
  clear hS1 hB1
  go_wp2_with (go_at_call 11; refine (alive_any w1).mono ?_; rintro e w2 ⟨rfl, hb2⟩; have hA2 : Hid (At w w2 rb (r0 32)) := hA1.out.step hb2.out; clear hA1 hb2)
  go_loopw [39] (fun s39 wr => ∃ (i : Nat) (s : Rc), i ≤ olen ∧ s39 = .int .i64 (i : Nat) ∧ Hid (At w wr rb s) ∧ Hid (AI s L m) ∧ Hid (s.tk = 0)) (fun j _ => olen - (intOf j).toNat)
  case atStart => exact ⟨0, r0 32, Nat.zero_le _, rfl, hA2, AI.new L m, rfl⟩
  case round =>
    obtain ⟨i, s, hi, rfl, hA, hI, ht⟩ := hrel
    clear hA2
    have hBw : Hid (Below w.heap.size w wr) := by rw [hN.out]; exact hA.out.bel
    by_cases hlt : i < olen
    · have hd : decide ((i : Int) < (olen : Int)) = true := by simp; omega
      have hby := hoby.out.kept hBw.out
      obtain ⟨b, off, rfl⟩ := bytes_some hby (by have := holen.out; omega)
      have hcell : ∃ c : Int, wr.cell? ⟨b, off + i, none⟩ = some (.int .u8 c) ∧ 0 ≤ c ∧ c < 256 := by
        rcases hby.2.2 with h0 | ⟨b', off', e, hc⟩
        · have := holen.out; rw [h0] at this; simp at this; omega
        · cases e
          obtain ⟨c, h1, h2, h3, _⟩ := next_byte hby.1 hc (k := i) (by have := holen.out; omega)
          exact ⟨c, h1, h2, h3⟩
      obtain ⟨c, hc, hc0, hc1⟩ := hcell
      obtain ⟨n, hn⟩ : ∃ n : Nat, c % 32 = (n : Int) := ⟨(c % 32).toNat, by omega⟩
      have hn32 : n < 32 := by omega
      have q1 : IntKind.i64.wrap c = c := by rw [IntKind.wrap_i64]; omega
      have q2 : Int.tmod c 32 = (n : Int) := by rw [Int.tmod_eq_emod_of_nonneg hc0]; exact hn
      have q3 : IntKind.i64.wrap (n : Int) = (n : Int) := by rw [IntKind.wrap_i64]; omega
      have q4 : IntKind.i64.wrap ((n : Int) + 1) = (n : Int) + 1 := by rw [IntKind.wrap_i64]; omega
      clear hby hn hc0 hc1
      by_cases hnm : n < m
      · have hdn : decide ((n : Int) < (m : Int)) = true := by simp; omega
        have hi0 : decide ((0 : Int) ≤ (n : Int)) = true := by simp
        obtain ⟨x, hx⟩ : ∃ x, L[n]? = some x := ⟨L[n]'(by have := hlen'.out; have := hml'.out; omega), List.getElem?_eq_getElem _⟩
        obtain ⟨lb, loff, rfl, hlb, hlc2, hV⟩ := bls_at hAc'.out hx
        have d0 : wr.cell? ⟨lb, loff + n, none⟩ = some (.slice x.a x.zs.length x.cap) := by rw [hBw.out.cell (p := ⟨lb, loff + n, none⟩) hlb]; exact hlc2
        have hV2 := hV.kept hBw.out
        have k := data_step ((n : Int) + 1) x.a x.zs.length x.cap x.zs hA.out.rv rfl hV2.2.2.2 hV2.1
        have hI2 : Hid (AI (dataS s ((n : Int) + 1) x.zs) L m) := hI.out.data hx hnm
        have ht2 : Hid ((dataS s ((n : Int) + 1) x.zs).tk = 0) := by show _ = _; rw [dataS_tk]; exact ht.out
        generalize dataS s ((n : Int) + 1) x.zs = s' at *
        generalize dataE s ((n : Int) + 1) x.zs.length = E1 at *
        clear hx hlb hlc2 hV hV2
        go_wp2_with (go_at_call 15; refine k.mono ?_; rintro e w3 ⟨rfl, hS3, hK3⟩; clear k)
        have hA3 : Hid (At w w3 rb s') := hA.out.turn hS3.out hK3.out
        exact ⟨⟨i + 1, s', by omega, by simp, hA3, hI2, ht2⟩, by simp [intOf]; omega⟩
      · have hdn : decide ((n : Int) < (m : Int)) = false := by simp; omega
        go_wp2_with fail
        exact ⟨⟨i + 1, s, by omega, by simp, hA, hI, ht⟩, by simp [intOf]; omega⟩
    · have hd : decide ((i : Int) < (olen : Int)) = false := by simp; omega
      go_wp2_with fail
      go_loopw [61] (fun s61 wr => ∃ (i : Nat) (s : Rc), i ≤ m ∧ s61 = .int .i64 (i : Nat) ∧ Hid (At w wr rb s) ∧ Hid (AI s L m) ∧ Hid (s.tk = 0) ∧ Hid (Full s L 0 i)) (fun j _ => m - (intOf j).toNat)
      case atStart => exact ⟨0, s, Nat.zero_le _, rfl, hA, hI, ht, fun k x h0 hk => by omega⟩
      case round =>
        obtain ⟨j, s, hj, rfl, hA, hI, ht, hF⟩ := hrel
        have hBw : Hid (Below w.heap.size w wr) := by rw [hN.out]; exact hA.out.bel
        by_cases hlt : j < m
        · have hd : decide ((j : Int) < (m : Int)) = true := by simp; omega
          have q4 : IntKind.i64.wrap ((j : Int) + 1) = (j : Int) + 1 := by have := hm32'.out; rw [IntKind.wrap_i64]; omega
          obtain ⟨x, hx⟩ : ∃ x, L[j]? = some x := ⟨L[j]'(by have := hlen'.out; have := hml'.out; omega), List.getElem?_eq_getElem _⟩
          obtain ⟨lb, loff, rfl, hlb, hlc2, hV⟩ := bls_at hAc'.out hx
          have d0 : wr.cell? ⟨lb, loff + j, none⟩ = some (.slice x.a x.zs.length x.cap) := by rw [hBw.out.cell (p := ⟨lb, loff + j, none⟩) hlb]; exact hlc2
          have hV2 := hV.kept hBw.out
          have k := data_step ((j : Int) + 1) x.a x.zs.length x.cap x.zs hA.out.rv rfl hV2.2.2.2 hV2.1
          have hI2 : Hid (AI (dataS s ((j : Int) + 1) x.zs) L m) := hI.out.data hx hlt
          have ht2 : Hid ((dataS s ((j : Int) + 1) x.zs).tk = 0) := by show _ = _; rw [dataS_tk]; exact ht.out
          have hF2 : Hid (Full (dataS s ((j : Int) + 1) x.zs) L 0 (j + 1)) := full_data hI.out ht.out hF.out hx hlt hm32'.out
          generalize dataS s ((j : Int) + 1) x.zs = s' at *
          generalize dataE s ((j : Int) + 1) x.zs.length = E1 at *
          clear hx hlb hlc2 hV hV2
          go_wp2_with (go_at_call 15; refine k.mono ?_; rintro e w3 ⟨rfl, hS3, hK3⟩; clear k)
          have hA3 : Hid (At w w3 rb s') := hA.out.turn hS3.out hK3.out
          exact ⟨⟨j + 1, s', by omega, by simp, hA3, hI2, ht2, hF2⟩, by simp [intOf]; omega⟩
        · have hd : decide ((j : Int) < (m : Int)) = false := by simp; omega
          obtain rfl : j = m := by omega
          go_wp2_with fail
          go_loopw [74] (fun s74 wr => ∃ (i : Nat) (s : Rc), i ≤ j ∧ s74 = .int .i64 (i : Nat) ∧ Hid (At w wr rb s) ∧ Hid (AI s L j) ∧ Hid (s.tk = (i : Int)) ∧ Hid (Full s L i j)) (fun q _ => j - (intOf q).toNat)
          case atStart => exact ⟨0, s, Nat.zero_le _, rfl, hA, hI, ht, hF⟩
          case round =>
            obtain ⟨q, s, hq, rfl, hA, hI, ht, hF⟩ := hrel
            have hBw : Hid (Below w.heap.size w wr) := by rw [hN.out]; exact hA.out.bel
            by_cases hlt : q < j
            · have hd : decide ((q : Int) < (j : Int)) = true := by simp; omega
              obtain ⟨x, hx⟩ : ∃ x, L[q]? = some x := ⟨L[q]'(by have := hlen'.out; have := hml'.out; omega), List.getElem?_eq_getElem _⟩
              obtain ⟨lb, loff, rfl, hlb, hlc2, hV⟩ := bls_at hAc'.out hx
              have d0 : wr.cell? ⟨lb, loff + q, none⟩ = some (.slice x.a x.zs.length x.cap) := by rw [hBw.out.cell (p := ⟨lb, loff + q, none⟩) hlb]; exact hlc2
              have hx' : Hid (L[q]? = some x) := hx
              have hV' : Hid (BlV w x) := hV
              clear hx hlb hlc2 hV
              by_cases hsh : x.zs.length ≤ 1200
              · have hds : decide ((x.zs.length : Int) > 1200) = false := by simp; omega
                have hLs := hF.out q x (Nat.le_refl _) hlt hx'.out hsh
                rw [← ht.out] at hLs
                have k := take_yes x.zs hA.out.rv (by rw [ht.out]; have := hm32'.out; omega) hLs
                clear hLs hsh
                go_wp2_with fail
                refine k.mono ?_
                rintro e w3 ⟨g3, n3, c3, rfl, hS3, hR3, hK3⟩
                have hA3 : Hid (At w w3 rb (takeA s)) := hA.out.turn hR3.out hK3.out
                have hI3 : Hid (AI (takeA s) L j) := hI.out.take
                have ht3 : Hid ((takeA s).tk = ((q + 1 : Nat) : Int)) := by show s.tk + 1 = _; rw [ht.out]; simp
                have hF3 : Hid (Full (takeA s) L (q + 1) j) := full_take hF.out ht.out
                have kS := same_any (some ⟨g3, 0, none⟩) x.a n3 x.zs.length c3 x.cap x.zs x.zs w3 hS3.out.by_ (hV'.out.1.kept (by rw [hN.out]; exact hA3.out.bel)) hS3.out.len rfl
                rw [show decide (x.zs = x.zs) = true by simp] at kS
                have hle := hS3.out.le
                have hmx := hS3.out.mx
                clear hA hI ht hF hS3 hR3 hK3 k
                go_wp2_with (go_at_call 14; refine kS.mono ?_; rintro e wn ⟨rfl, hbn⟩; obtain rfl := hbn.symm; clear hbn kS)
                exact ⟨⟨q + 1, takeA s, by omega, by simp, hA3, hI3, ht3, hF3⟩, by simp [intOf]; omega⟩
              · have hds : decide ((x.zs.length : Int) > 1200) = true := by simp; omega
                have hLn : s.L (s.tk + 1) = none := by
                  cases hL : s.L (s.tk + 1) with
                  | none => rfl
                  | some l =>
                    obtain ⟨_, _, y, hy, hyl⟩ := hI.out.only _ _ hL
                    rw [ht.out, show ((q : Int) + 1 - 1).toNat = q by omega, hx'.out] at hy
                    cases hy
                    have := (hA.out.rv.ok.few _ _ hL).1
                    rw [← hyl] at this
                    exact absurd this hsh
                have k := take_k hA.out.rv hLn
                clear hLn hsh
                go_wp2_with (go_at_call 12; refine k.mono ?_; rintro e w3 ⟨rfl, hb3⟩; clear k)
                go_ret
                exact ⟨rfl, by rw [hN.out]; exact (hA.out.step hb3.out).bel⟩
            · have hd : decide ((q : Int) < (j : Int)) = false := by simp; omega
              obtain rfl : q = j := by omega
              have hLn : s.L (s.tk + 1) = none := by
                cases hL : s.L (s.tk + 1) with
                | none => rfl
                | some l =>
                  have := (hI.out.only _ _ hL).2.1
                  have := ht.out
                  omega
              have k := take_k hA.out.rv hLn
              clear hLn
              go_wp2_with (go_at_call 12; refine k.mono ?_; rintro e w3 ⟨rfl, hb3⟩; clear k)
              go_ret
              exact ⟨rfl, by rw [hN.out]; exact (hA.out.step hb3.out).bel⟩
end Go.Proofs.Ytajidkgmifcoaaa
