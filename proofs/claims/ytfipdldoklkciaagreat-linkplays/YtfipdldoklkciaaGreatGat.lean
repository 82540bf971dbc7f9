/-
  Texts Lrj, Lrk, Lrl, Lrh.
-/
import Derived.Test.YtfipdldoklkciaaGreatGas
import Derived.Test.YtfipdldoklkciaaGreatGal
import Derived.Deep.RegionHeld3
import Derived.Test.YtfipdldoklkciaaGreatGai
import Derived.Laws.OwnMore
namespace Go.Proofs.YtfipdldoklkciaaGreat
open Go.RowKit
set_option linter.unusedVariables false
theorem DmX.is {w : World} {lb : Nat} {E : Nat → Prop} {X : Nat → Value} {g n c : Nat} {L : List Cm} {s : Rc} (h : DmX w lb E X g n c L s) {k : Nat} (hk : k < n) : w.cell? ⟨g, k * 2, none⟩ = some (.bool (has s k)) := by
  have hx : L[k]? = some (L[k]'(by rw [h.len]; exact hk)) := List.getElem?_eq_getElem _
  rw [(h.own.own.cell hx).1, (h.rel k _ hx).1]
theorem has_of {s : Rc} (h : Rok s) {k : Nat} (hk : s.win ≤ (k : Int)) : has s k = false := by
  unfold has
  rw [h.none (by omega)]
  rfl
theorem mready_any {w : World} {lb : Nat} {E : Nat → Prop} {X : Nat → Value} {s : Rc} (h : Dx w lb E X s) :
    Calls Tryz.prog 98 #[.pointer (some ⟨lb, 7, none⟩)] w fun e w' => e = .returned (.int .i64 (rdy s)) ∧ w' = w := by
  obtain ⟨g, n, c, L, hF, hnc, hcm⟩ := h.open_
  have hF' : Hid (DmX w lb E X g n c L s) := hF
  have c2 := hF.blk.c9
  have hn32 : n ≤ 32 := by have := hF.ok.w2; have := hF.nw; omega
  clear h hF
  go_enter Tryz.func98, Tryz.ntmps98
  go_wp2_with fail
  go_loopw [3] (fun s3 wr => ∃ k : Nat, k ≤ n ∧ s3 = .int .i64 (k : Int) ∧ Hid (∀ j, j < k → has s j = true) ∧ wr = w) (fun v _ => 33 - (intOf v).toNat)
  case atStart => exact ⟨0, Nat.zero_le _, rfl, fun _ h => by omega, rfl⟩
  case round =>
    obtain ⟨k, hk, rfl, hj, hw⟩ := hrel
    obtain rfl := hw.symm
    clear hw
    by_cases hlt : k < n
    · have hd : decide ((k : Int) < (n : Int)) = true := by simp; omega
      have hc := hF'.out.is hlt
      cases hs : has s k with
      | true =>
        rw [hs] at hc
        have hs' : Hid (has s k = true) := hs
        clear hs
        go_wp2_with fail
        refine ⟨⟨k + 1, by omega, by simp, fun j hj2 => ?_, by trivial⟩, by simp [intOf]; omega⟩
        by_cases e : j = k
        · rw [e]; exact hs'.out
        · exact hj.out j (by omega)
      | false =>
        rw [hs] at hc
        have hr : Hid (rdy s = k) := rdy_of hF'.out.ok hj.out (by
          unfold has at hs
          cases hL : s.L (s.tk + 1 + (k : Int)) with
          | none => rfl
          | some l => rw [hL] at hs; cases hs)
        clear hs
        go_wp2_with fail
        go_ret
        exact ⟨by rw [hr.out]; rfl, rfl⟩
    · have hd : decide ((k : Int) < (n : Int)) = false := by simp; omega
      have hr : Hid (rdy s = k) := rdy_of hF'.out.ok hj.out (by
        have hs : has s k = false := has_of hF'.out.ok (by have := hF'.out.nw; omega)
        unfold has at hs
        cases hL : s.L (s.tk + 1 + (k : Int)) with
        | none => rfl
        | some l => rw [hL] at hs; cases hs)
      go_wp2_with fail
      go_ret
      exact ⟨by rw [hr.out]; rfl, rfl⟩
theorem mheld_any {w : World} {lb : Nat} {E : Nat → Prop} {X : Nat → Value} {s : Rc} (h : Dx w lb E X s) :
    Calls Tryz.prog 15 #[.pointer (some ⟨lb, 7, none⟩)] w fun e w' => e = .returned (.int .i64 (hld s)) ∧ w' = w := by
  obtain ⟨g, n, c, L, hF, hnc, hcm⟩ := h.open_
  have hF' : Hid (DmX w lb E X g n c L s) := hF
  have c2 := hF.blk.c9
  have hn32 : n ≤ 32 := by have := hF.ok.w2; have := hF.nw; omega
  have hH : Hid (cnt (has s) n = hld s) := by
    have e := cnt_add (has s) n (32 - n)
    rw [show n + (32 - n) = 32 by omega, cnt_none (g := fun i => has s (n + i)) _ (fun j hj => has_of hF.ok (by have := hF.nw; omega))] at e
    show _ = cnt (has s) 32
    omega
  have hle : Hid (∀ k, cnt (has s) k ≤ k) := cnt_le _
  have hN : Hid (∀ k, cnt (has s) (k + 1) = if has s k = true then cnt (has s) k + 1 else cnt (has s) k) := fun k => rfl
  clear h hF
  generalize cnt (has s) = C at *
  go_enter Tryz.func15, Tryz.ntmps15
  go_wp2_with fail
  go_loopw [3, 4] (fun s3 s4 wr => ∃ k : Nat, k ≤ n ∧ s3 = .int .i64 (C k : Int) ∧ s4 = .int .i64 (k : Int) ∧ wr = w) (fun _ v _ => 33 - (intOf v).toNat)
  case atStart => exact ⟨0, Nat.zero_le _, by have := hle.out 0; rw [show C 0 = 0 by omega]; rfl, rfl, rfl⟩
  case round =>
    obtain ⟨k, hk, rfl, rfl, hw⟩ := hrel
    obtain rfl := hw.symm
    clear hw
    by_cases hlt : k < n
    · have hd : decide ((k : Int) < (n : Int)) = true := by simp; omega
      have hc := hF'.out.is hlt
      have hn := hN.out k
      have hl := hle.out k
      cases hs : has s k with
      | true =>
        rw [hs] at hc hn
        rw [if_pos rfl] at hn
        clear hs
        go_wp2_with fail
        exact ⟨⟨k + 1, by omega, by rw [hn]; simp, by simp, by trivial⟩, by simp [intOf]; omega⟩
      | false =>
        rw [hs] at hc hn
        rw [if_neg (by decide)] at hn
        clear hs
        go_wp2_with fail
        exact ⟨⟨k + 1, by omega, by rw [hn], by simp, by trivial⟩, by simp [intOf]; omega⟩
    · have hd : decide ((k : Int) < (n : Int)) = false := by simp; omega
      obtain rfl : k = n := by omega
      have hx := hH.out
      go_wp2_with fail
      go_ret
      exact ⟨by rw [hx]; rfl, rfl⟩
theorem ackF_has (s : Rc) (j : Nat) : ackF s j = has s (rdy s + 1 + j) := by
  unfold ackF has ackN
  congr 2
  omega
set_option maxHeartbeats 1000000 in
theorem mack_any {w : World} {lb : Nat} {E : Nat → Prop} {X : Nat → Value} {s : Rc} (h : Dx w lb E X s) :
    Calls Tryz.prog 68 #[.pointer (some ⟨lb, 7, none⟩)] w fun e w' => e = .returned (.tuple #[.int .i64 (ackN s), .int .u64 (ackB s), .int .i64 (s.tk + s.win)]) ∧ Hid (Below w.heap.size w w') := by
  obtain ⟨g, n, c, L, hF, hnc, hcm⟩ := h.open_
  have k1 := mready_any h
  have hF' : Hid (DmX w lb E X g n c L s) := hF
  have c0 := hF.blk.c7
  have c1 := hF.blk.c8
  have c2 := hF.blk.c9
  have hn32 : n ≤ 32 := by have := hF.ok.w2; have := hF.nw; omega
  have hrn : rdy s ≤ n := by have := rdy_le hF.ok; have := hF.nw; omega
  have ht1 := hF.ok.t1
  have ht2 := hF.ok.t2
  have hw1 := hF.ok.w1
  have hw2 := hF.ok.w2
  have hwa : IntKind.i64.wrap (s.tk + (rdy s : Int)) = ackN s := by unfold ackN; rw [IntKind.wrap_i64]; omega
  have hwb : IntKind.i64.wrap (s.tk + s.win) = s.tk + s.win := by rw [IntKind.wrap_i64]; omega
  have hAF : Hid (∀ j, ackF s j = has s (rdy s + 1 + j)) := ackF_has s
  have hwr : IntKind.i64.wrap ((rdy s : Int) + 1) = ((rdy s + 1 : Nat) : Int) := by rw [IntKind.wrap_i64]; omega
  have hAB : Hid (∀ j, j ≤ 64 → n ≤ rdy s + 1 + j → bF (ackF s) j = ackB s) := fun j hj hnj => by
    unfold ackB
    rw [show (64 : Nat) = j + (64 - j) by omega, bF_stop (64 - j) (fun i h1 h2 => by rw [ackF_has]; exact has_of hF.ok (by have := hF.nw; omega))]
  clear h hF
  generalize hr : rdy s = r at *
  clear hr
  generalize ackN s = A at *
  generalize ackB s = B at *
  go_enter Tryz.func68, Tryz.ntmps68
  go_wp2_with (go_at_call 98; refine k1.mono ?_; rintro e w1 ⟨rfl, hw1⟩; obtain rfl := hw1.symm; clear hw1 k1)
  go_loopw [6, 7] (fun s6 s7 wr => ∃ j i : Nat, Hid (i = r + 1 + j) ∧ Hid (i ≤ n ∨ j = 0) ∧ s6 = .int .u64 (bF (ackF s) j) ∧ s7 = .int .i64 (i : Int) ∧ wr = w) (fun _ v _ => 33 - (intOf v).toNat)
  case atStart => exact ⟨0, r + 1, rfl, .inr rfl, rfl, rfl, rfl⟩
  case round =>
    obtain ⟨j, i, hij, hin, rfl, rfl, hw⟩ := hrel
    obtain rfl := hw.symm
    clear hw
    by_cases hlt : i < n
    · have hd : decide ((i : Int) < (n : Int)) = true := by simp; omega
      have hc := hF'.out.is hlt
      have q1 : IntKind.i64.wrap ((i : Int) - (r : Int)) = (i : Int) - (r : Int) := by have := hij.out; rw [IntKind.wrap_i64]; omega
      have q2 : IntKind.i64.wrap ((i : Int) - (r : Int) - 1) = (j : Int) := by have := hij.out; rw [IntKind.wrap_i64]; omega
      have q3 : IntKind.i64.wrap ((i : Int) + 1) = ((i + 1 : Nat) : Int) := by rw [IntKind.wrap_i64]; omega
      have hj64 : j < 64 := by have := hij.out; omega
      have hsh := wrap_two hj64
      have hor := bF_or (ackF s) j hj64
      have hNN : bF (ackF s) (j + 1) = if ackF s j = true then bF (ackF s) j + 2 ^ j else bF (ackF s) j := rfl
      have hFj := hAF.out j
      rw [← hij.out] at hFj
      cases hs : has s i with
      | true =>
        rw [hs] at hc hFj
        rw [hFj, if_pos rfl] at hNN
        rw [← hNN] at hor
        clear hs hFj
        generalize hb1 : bF (ackF s) (j + 1) = b1 at *
        clear hNN
        generalize bF (ackF s) j = b at *
        go_wp2_with fail
        exact ⟨⟨j + 1, i + 1, by have := hij.out; show i + 1 = _; omega, .inl (by omega), by rw [hb1], rfl, by trivial⟩, by simp [intOf]; omega⟩
      | false =>
        rw [hs] at hc hFj
        rw [hFj, if_neg (by decide)] at hNN
        clear hs hFj
        go_wp2_with fail
        exact ⟨⟨j + 1, i + 1, by have := hij.out; show i + 1 = _; omega, .inl (by omega), by rw [hNN], rfl, by trivial⟩, by simp [intOf]; omega⟩
    · have hd : decide ((i : Int) < (n : Int)) = false := by simp; omega
      have hB : bF (ackF s) j = B := hAB.out j (by have := hij.out; have := hin.out; rcases this with h | h <;> omega) (by have := hij.out; omega)
      rw [hB]
      clear hB
      go_wp2_with fail
      go_quiet (fail)
      go_wp2
      refine bodyPost_ret (v := .tuple #[.int .i64 A, .int .u64 B, .int .i64 (s.tk + s.win)]) (by simp [results, Tryz.results68, go_sem]) rfl ?_
      exact ⟨rfl, dn_b w _⟩
end Go.Proofs.YtfipdldoklkciaaGreat
namespace Go.Proofs.YtfipdldoklkciaaGreat
open Go.RowKit
set_option linter.unusedVariables false
theorem mdata_bad {w : World} {lb : Nat} {E : Nat → Prop} {X : Nat → Value} {s : Rc} (z : Int) (a : Option Addr) (len cap : Nat) (h : Dx w lb E X s) (he : dataE s z len ≠ 0) (hl : (len : Int) ≤ 9223372036854775807) (hz : z ≤ 9223372036854775807) :
    Calls Tryz.prog 72 #[.pointer (some ⟨lb, 7, none⟩), .int .i64 z, .slice a len cap] w fun e w' => e = .returned (.int .i64 (dataE s z len)) ∧ w' = w := by
  obtain ⟨g, n, c, L, hF, hnc, hcm⟩ := h.open_
  have c0 := hF.blk.c7
  have c1 := hF.blk.c8
  have c2 := hF.blk.c9
  have ht1 := hF.ok.t1
  have ht2 := hF.ok.t2
  by_cases h1 : z < 1
  · have d1 : decide (z < 1) = true := by simp; omega
    have e : dataE s z len = 1 := by unfold dataE; rw [if_pos h1]
    rw [e]
    clear he h h1 e hF hl
    go_enter Tryz.func72, Tryz.ntmps72
    go_wp2_with fail
    go_ret
    exact ⟨rfl, rfl⟩
  have d1 : decide (z < 1) = false := by simp; omega
  by_cases h2 : 1200 < len
  · have d2 : decide ((len : Int) > 1200) = true := by simp; omega
    have e : dataE s z len = 8 := by unfold dataE; rw [if_neg h1, if_pos h2]
    rw [e]
    clear he h h1 h2 e hF hl
    go_enter Tryz.func72, Tryz.ntmps72
    go_wp2_with fail
    go_ret
    exact ⟨rfl, rfl⟩
  have d2 : decide ((len : Int) > 1200) = false := by simp; omega
  by_cases h3 : z ≤ s.tk
  · have d3 : decide (z ≤ s.tk) = true := by simp; omega
    have e : dataE s z len = 17 := by unfold dataE; rw [if_neg h1, if_neg h2, if_pos (.inl h3)]
    rw [e]
    clear he h h1 h2 h3 e hF hl
    go_enter Tryz.func72, Tryz.ntmps72
    go_wp2_with fail
    go_ret
    exact ⟨rfl, rfl⟩
  have d3 : decide (z ≤ s.tk) = false := by simp; omega
  have q1 : IntKind.i64.wrap (z - s.tk) = z - s.tk := by rw [IntKind.wrap_i64]; omega
  obtain ⟨k, hk⟩ : ∃ k : Nat, z - s.tk - 1 = (k : Int) := ⟨(z - s.tk - 1).toNat, by omega⟩
  have q2 : IntKind.i64.wrap (z - s.tk - 1) = (k : Int) := by rw [IntKind.wrap_i64]; omega
  by_cases h4 : s.tk + s.win < z
  · have d4 : decide ((k : Int) ≥ s.win) = true := by simp; omega
    have hL : ¬ (s.L z).isSome = true := fun q => by have := hF.ok.inn z q; omega
    have e : dataE s z len = 13 := by unfold dataE; rw [if_neg h1, if_neg h2, if_neg (fun q => by rcases q with q | q; exact h3 q; exact hL q), if_pos h4]
    rw [e]
    clear he h h1 h2 h3 h4 e hF hl hk hL
    go_enter Tryz.func72, Tryz.ntmps72
    go_wp2_with fail
    go_ret
    exact ⟨rfl, rfl⟩
  · have d4 : decide ((k : Int) ≥ s.win) = false := by simp; omega
    have hkn : k < n := by have := hF.nw; omega
    have hc := hF.is hkn
    have hh : has s k = (s.L z).isSome := by unfold has; rw [show s.tk + 1 + (k : Int) = z by omega]
    rw [hh] at hc
    have d5 : decide ((k : Int) < (n : Int)) = true := by simp; omega
    have d6 : decide ((0 : Int) ≤ (k : Int)) = true := by simp
    cases hL : (s.L z).isSome with
    | true =>
      have e : dataE s z len = 17 := by unfold dataE; rw [if_neg h1, if_neg h2, if_pos (.inr hL)]
      rw [e]
      rw [hL] at hc
      clear he h h1 h2 h3 h4 e hF hl hk hL hh
      go_enter Tryz.func72, Tryz.ntmps72
      go_wp2_with fail
      go_ret
      exact ⟨rfl, rfl⟩
    | false => exact absurd (by unfold dataE; rw [if_neg h1, if_neg h2, if_neg (fun q => by rcases q with q | q; exact h3 q; rw [hL] at q; cases q), if_neg h4]) he
/-- Bytes copied behind nothing. -/
theorem run_copy (w : World) (ty : TypeId) (a : Option Addr) (n c : Nat) (zs : List Int) (hn : zs.length = n) (h0 : a = none → c = 0) (hb : Bytes w a zs) (hl : n ≤ 1200) :
    ∃ v w', (Builtin.append_ #[42, 42] ty #[.slice none 0 0, .slice a n c]).run Tryz.prog w = .ok v w' ∧ OwnsB w' w.heap.size v zs ∧ Below w.heap.size w w' := by
  subst hn
  obtain ⟨i, hi, hz, hsz, hby⟩ := info_parts info5
  cases a with
  | none =>
    have hz0 : zs = [] := by
      rcases hb.2.2 with h | ⟨_, _, h, _⟩
      · exact h
      · cases h
    subst hz0
    rw [h0 rfl]
    exact ⟨_, _, run_append_owned_none (P := Tryz.prog) w w.heap.size 42 ty 5 i 1 Tryz.underlying42 hi (.slice none 0 0) 0 [] (World.ownsRow_nil w _ 5 1), ownsB_nil _ _, Below.refl _ _⟩
  | some ad =>
    obtain ⟨v', w', hr, ho, hg, _⟩ := run_append_own (P := Tryz.prog) w w.heap.size 42 ty 5 i (.int .u8 0) 1 1 Tryz.underlying42 hi hz hsz hby rfl (by decide) (.slice none 0 0) 0 [] (World.ownsRow_nil w _ 5 1) ad zs.length c (zs.map (Value.int .u8)) (by simp) (bytes_news hb) (bytes_one zs) (by unfold maxLen; omega) (by omega) (Nat.le_refl _)
    refine ⟨v', w', hr, ⟨?_, hb.1⟩, (Below.refl _ _).grown hg (Nat.le_refl _) (fun k hk => by simp [Value.ownBlock] at hk)⟩
    rw [Nat.zero_add, List.nil_append] at ho
    exact ho
theorem step_copy {w w2 : World} {ops : Array Oper} {o : Oper} {a : Act} {K : Act → World → Prop} {Q : Exit → Act → World → Prop} {E : Prop} (hgd : o.guard = none) (s x : Operand)
    (ho : o.op = .call { callee := .builtin .append, args := #[s, x], argTypes := #[42, 42] }) (vs vx v2 : Value) (hs : a.eval s = vs) (hx : a.eval x = vx)
    (hr : (Builtin.append_ #[42, 42] o.type #[vs, vx]).run Tryz.prog w = .ok v2 w2) (h : K (a.put o.dst v2) w2) :
    if Region.wanted o (yielded ops a.tmps) = true then Oper.wp Tryz.prog o a w K Q else E := by
  have hw : Region.wanted o (yielded ops a.tmps) = true := by simp [Region.wanted, hgd]
  rw [if_pos hw]
  unfold Oper.wp execOp
  simp only [ho, resolve, invoke, builtin, Sem.run_bind, Sem.run_pure, Result.andThen_ok, List.map_toArray, List.map_cons, List.map_nil, hs, hx, hr]
  exact h
theorem has_put {s : Rc} {z : Int} {zs : List Int} {k : Nat} (hk : z - s.tk - 1 = (k : Int)) (j : Nat) : has (putA s z zs) j = if j = k then true else has s j := by
  show (if s.tk + 1 + (j : Int) = z then some zs else s.L (s.tk + 1 + (j : Int))).isSome = _
  by_cases e : j = k
  · rw [if_pos e, if_pos (by omega)]; rfl
  · rw [if_neg e, if_neg (by omega)]; rfl
theorem dmf_put {w : World} {lb : Nat} {E : Nat → Prop} {X : Nat → Value} {g n c : Nat} {L : List Cm} {s : Rc} {z : Int} {zs : List Int} (h : DmX w lb E X g n c L s) (hs : Rok (putA s z zs)) {k : Nat} (hk : z - s.tk - 1 = (k : Int)) (hkn : k < n) {v : Value} (hv : OwnsB w 0 v zs) :
    DmX ((w.setCell ⟨g, k * 2, none⟩ (.bool true)).setCell ⟨g, k * 2 + 1, none⟩ v) lb E X g n c (L.set k (true, v, zs)) (putA s z zs) := by
  have hne : lb ≠ g := fun e => by
    obtain ⟨_, cs, hc⟩ := h.own.own.blk
    have := h.blk.blk
    unfold Blk at this hc
    rw [e, hc] at this
    cases this
  refine ⟨hs, ?_, h.own.put (by rw [h.len]; exact hkn) (true, v, zs) hv, h.nw, by rw [List.length_set]; exact h.len, fun j p hj => ?_⟩
  · unfold XRk Blk
    rw [Below.heap_setCell _ _ _ _ (by simpa using hne), Below.heap_setCell _ _ _ _ (by simpa using hne)]
    exact h.blk
  · rw [has_put hk]
    by_cases e : j = k
    · subst e
      rw [List.getElem?_set_self (by rw [h.len]; exact hkn)] at hj
      cases hj
      rw [if_pos rfl]
      refine ⟨rfl, fun _ => ?_⟩
      show (if s.tk + 1 + (j : Int) = z then some zs else _) = some zs
      rw [if_pos (by omega)]
    · rw [List.getElem?_set_ne (by omega)] at hj
      rw [if_neg e]
      refine ⟨(h.rel j p hj).1, fun hp => ?_⟩
      show (if s.tk + 1 + (j : Int) = z then some zs else s.L (s.tk + 1 + (j : Int))) = _
      rw [if_neg (by omega)]
      exact (h.rel j p hj).2 hp
set_option maxHeartbeats 1000000 in
theorem mdata_ok {w : World} {lb : Nat} {E : Nat → Prop} {X : Nat → Value} {s : Rc} (z : Int) (a : Option Addr) (len cap : Nat) (zs : List Int) (h : Dx w lb E X s) (he : dataE s z len = 0) (hz : z ≤ 9223372036854775807) (hn : zs.length = len) (h0 : a = none → cap = 0) (hb : Bytes w a zs) (hE : ∀ q, w.heap.size ≤ q → E q) :
    Calls Tryz.prog 72 #[.pointer (some ⟨lb, 7, none⟩), .int .i64 z, .slice a len cap] w fun e w' => e = .returned (.int .i64 0) ∧ Hid (Dx w' lb E X (putA s z zs)) ∧ Hid (KS E w w') := by
  obtain ⟨g, n, c, L, hF, hnc, hcm⟩ := h.open_
  obtain ⟨e1, e2, e3, e4, e5⟩ := dataE_ok he
  have c0 := hF.blk.c7
  have c1 := hF.blk.c8
  have c2 := hF.blk.c9
  have ht1 := hF.ok.t1
  have ht2 := hF.ok.t2
  have d1 : decide (z < 1) = false := by simp; omega
  have d2 : decide ((len : Int) > 1200) = false := by simp; omega
  have d3 : decide (z ≤ s.tk) = false := by simp; omega
  have q1 : IntKind.i64.wrap (z - s.tk) = z - s.tk := by rw [IntKind.wrap_i64]; omega
  obtain ⟨k, hk⟩ : ∃ k : Nat, z - s.tk - 1 = (k : Int) := ⟨(z - s.tk - 1).toNat, by omega⟩
  have q2 : IntKind.i64.wrap (z - s.tk - 1) = (k : Int) := by rw [IntKind.wrap_i64]; omega
  have d4 : decide ((k : Int) ≥ s.win) = false := by simp; omega
  have hkn : k < n := by have := hF.nw; omega
  have hc := hF.is hkn
  have hh : has s k = (s.L z).isSome := by unfold has; rw [show s.tk + 1 + (k : Int) = z by omega]
  rw [hh, e5] at hc
  have d5 : decide ((k : Int) < (n : Int)) = true := by simp; omega
  have d6 : decide ((0 : Int) ≤ (k : Int)) = true := by simp
  obtain ⟨v2, w2, hr, hO, hB⟩ := run_copy w.drew 42 a len cap zs hn h0 hb e2
  have hB' : Hid (Below w.heap.size w w2) := (Below.refl _ _).drew.trans hB
  have hF2 : Hid (DmX w2 lb E X g n c L s) := hF.kept hB'.out
  have hO2 : Hid (OwnsB w2 0 v2 zs) := hO.low (Nat.zero_le _)
  have hs2 : Hid (Rok (putA s z zs)) := put_ok hF.ok e3 e4 (by omega) hb.1
  have hkk : Hid (z - s.tk - 1 = (k : Int)) := hk
  have hEg : Hid (E g) := hF.own.at_ g rfl
  obtain ⟨va, vn, vc, rfl, hvn, hv0, hvle, hvmx, hvb⟩ := hO.form
  have hr' : Hid ((Builtin.append_ #[42, 42] 42 #[.slice none 0 0, .slice a len cap]).run Tryz.prog w.drew = .ok (.slice va vn vc) w2) := hr
  clear hr
  have hr := hr'
  clear hr'
  have y0 := hF2.out.is hkn
  obtain ⟨u, y1⟩ : ∃ u, w2.cell? ⟨g, k * 2 + 1, none⟩ = some u := by
    have hx : L[k]? = some (L[k]'(by rw [hF.len]; exact hkn)) := List.getElem?_eq_getElem _
    exact ⟨_, (hF2.out.own.own.cell hx).2⟩
  have y2 := hF2.out.own.own.fz (k * 2)
  have y3 := hF2.out.own.own.fz (k * 2 + 1)
  have c2' : w2.cell? ⟨lb, 9, none⟩ = some (.slice (some ⟨g, 0, none⟩) n c) := hF2.out.blk.c9
  have hkn' : Hid (k < n) := hkn
  clear h he hF hk e1 e2 e3 e4 e5 hh hB hO hb h0 hn hvn hv0 hvb
  go_enter Tryz.func72, Tryz.ntmps72
  go_wp2_with fail
  go_region_law (refine step_copy (by rfl) _ _ (by rfl) (.slice none 0 0) (.slice a len cap) (.slice va vn vc) (by rfl) (by rfl) hr.out ?_)
  all_goals
    have hFin : Hid (Dx ((w2.setCell ⟨g, k * 2, none⟩ (.bool true)).setCell ⟨g, k * 2 + 1, none⟩ (.slice va vn vc)) lb E X (putA s z zs)) := (dmf_put hF2.out hs2.out hkk.out hkn'.out hO2.out).shut hnc hcm
    have hBel : Hid (KS E w ((w2.setCell ⟨g, k * 2, none⟩ (.bool true)).setCell ⟨g, k * 2 + 1, none⟩ (.slice va vn vc))) := (KS.of_below hB'.out).trans ((KS.set w2 g _ hEg.out _).trans (KS.set _ g _ hEg.out _))
    clear hF2 hO2 hs2 hB'
    go_wp2_with fail
    go_ret
    exact ⟨rfl, hFin, hBel⟩
end Go.Proofs.YtfipdldoklkciaaGreat
namespace Go.Proofs.YtfipdldoklkciaaGreat
open Go.RowKit
set_option linter.unusedVariables false
def RowC (w : World) (base : Nat) (v : Value) (L : List Cm) : Prop := ∃ cs, w.ownsRow base 86 2 v L.length cs ∧ RowW cs L
theorem rowC_nil (w : World) (base : Nat) : RowC w base (.slice none 0 0) [] := ⟨[], World.ownsRow_nil w base 86 2, rfl, fun k p h => by simp at h⟩
theorem RowW.app {c1 c2 : List Value} {L1 L2 : List Cm} (h1 : RowW c1 L1) (h2 : RowW c2 L2) : RowW (c1 ++ c2) (L1 ++ L2) := by
  have e1 := h1.1
  refine ⟨by rw [List.length_append, List.length_append, h1.1, h2.1]; omega, fun k p hk => ?_⟩
  by_cases hlt : k < L1.length
  · rw [List.getElem?_append_left hlt] at hk
    have := h1.2 k p hk
    exact ⟨by rw [List.getElem?_append_left (by omega)]; exact this.1, by rw [List.getElem?_append_left (by omega)]; exact this.2⟩
  · rw [List.getElem?_append_right (by omega)] at hk
    have := h2.2 _ p hk
    exact ⟨by rw [List.getElem?_append_right (by omega), show k * 2 - c1.length = (k - L1.length) * 2 by omega]; exact this.1, by rw [List.getElem?_append_right (by omega), show k * 2 + 1 - c1.length = (k - L1.length) * 2 + 1 by omega]; exact this.2⟩
theorem RowW.one {cs : List Value} {L : List Cm} (h : RowW cs L) (hL : ∀ p ∈ L, p.2.1.oneCell' = true) : ∀ u ∈ cs, u.oneCell' = true := by
  intro u hu
  obtain ⟨j, hj⟩ := List.getElem?_of_mem hu
  have hlt : j < cs.length := (List.getElem?_eq_some_iff.1 hj).1
  have hl := h.1
  have hx : L[j / 2]? = some (L[j / 2]'(by omega)) := List.getElem?_eq_getElem _
  have e := h.2 _ _ hx
  by_cases h2 : j % 2 = 0
  · rw [show j / 2 * 2 = j by omega, hj] at e
    have := Option.some.inj e.1
    rw [this]
    rfl
  · rw [show j / 2 * 2 + 1 = j by omega, hj] at e
    have := Option.some.inj e.2
    rw [this]
    exact hL _ (List.getElem_mem _)
theorem wpl_came {w : World} {ops : Array Oper} {rest : List Oper} {o : Oper} {a : Act} {Q : Exit → Act → World → Prop} (hgd : o.guard = none) (s x : Operand)
    (ho : o.op = .call { callee := .builtin .append, args := #[s, x], argTypes := #[31, 31] })
    (base : Nat) (v : Value) (L1 L2 : List Cm) (news : List Value) (hs : a.eval s = v) (hown : RowC w base v L1) (hrow : RowW news L2) (h1 : ∀ p ∈ L2, p.2.1.oneCell' = true)
    (ad : Addr) (m c : Nat) (hx : a.eval x = .slice (some ad) m c) (hm : L2.length = m) (hnews : ∀ j u, news[j]? = some u → w.cell? (ad.add j) = some u)
    (hlen : L1.length + L2.length ≤ 100000) (hbase : base ≤ w.heap.size)
    (h : ∀ v' w', RowC w' base v' (L1 ++ L2) → w.grownBy w' v.ownBlock → wpList Tryz.prog ops Q rest (a.put o.dst v') w') : wpList Tryz.prog ops Q (o :: rest) a w := by
  subst hm
  obtain ⟨i, hi, hz, hsz, hby⟩ := info_parts infoC
  obtain ⟨cs, hcs, hr⟩ := hown
  refine wpList_append_own_wide w hgd s x 31 ho base 86 i _ 2 32 Tryz.underlying31 hi hz hsz hby rfl (by decide) v L1.length cs hs hcs ad L2.length c news hx hrow.1 hnews (hrow.one h1) (by unfold maxLen; omega) (by omega) hbase ?_
  intro v' w' k1 k2 _
  exact h v' w' ⟨_, by rw [List.length_append]; exact k1, hr.app hrow⟩ k2
theorem RowC.kept {w w' : World} {base : Nat} {v : Value} {L : List Cm} (h : RowC w base v L) (hb : Below w.heap.size w w') : RowC w' base v L := by
  obtain ⟨cs, h1, h2⟩ := h
  exact ⟨cs, ownsRow_keep h1 (fun b cur _ k2 => hb.block b (Array.getElem?_eq_some_iff.1 k2).1), h2⟩
theorem RowC.own {w : World} {base : Nat} {v : Value} {L : List Cm} (h : RowC w base v L) : ∀ k, v.ownBlock = some k → base ≤ k := by
  intro k hk
  obtain ⟨cs, h1, h2⟩ := h
  rcases h1.2 with ⟨rfl, _⟩ | ⟨g, cap, cur, rfl, hg, _⟩
  · simp [Value.ownBlock] at hk
  · simp [Value.ownBlock] at hk
    omega
theorem RowC.form {w : World} {base : Nat} {v : Value} {L : List Cm} (h : RowC w base v L) (hL : 0 < L.length) : ∃ g n c, v = .slice (some ⟨g, 0, none⟩) n c ∧ Hid (n = L.length) ∧ n ≤ c ∧ c ≤ 9223372036854775807 := by
  obtain ⟨cs, h1, h2⟩ := h
  rcases h1.2 with ⟨_, h0⟩ | ⟨g, cap, cur, hv, hg, hc, hnc, hcm, _⟩
  · omega
  · exact ⟨g, L.length, cap, hv, rfl, hnc, by unfold maxLen at hcm; exact hcm⟩
theorem row_one : RowW [.bool false, .slice none 0 0] [((false, .slice none 0 0, []) : Cm)] := by
  refine ⟨rfl, fun k p hk => ?_⟩
  have hk0 : k = 0 := by have := (List.getElem?_eq_some_iff.1 hk).1; simp at this; omega
  subst hk0
  cases hk
  exact ⟨rfl, rfl⟩
theorem one_new (w : World) : ∀ j u, ([.bool false, .slice none 0 0] : List Value)[j]? = some u → (w.alloc (.cells #[.bool false, .slice none 0 0] 86)).cell? ((⟨w.heap.size, 0, none⟩ : Addr).add j) = some u := by
  intro j u hu
  have e : (⟨w.heap.size, 0, none⟩ : Addr).add j = ⟨w.heap.size, j, none⟩ := by by_cases h0 : j = 0; (subst h0; rfl); simp [Addr.add, h0]
  rw [e, (blk_new w _ _).cell j]
  simpa using hu
theorem OwnsC.row {w : World} {b : Nat} {v : Value} {L : List Cm} (h : OwnsC w b v L) : RowC w b v L := h.1
theorem RowW.tail {cs : List Value} {p : Cm} {L : List Cm} (h : RowW cs (p :: L)) : RowW (cs.drop 2) L := by
  have hl := h.1
  rw [List.length_cons] at hl
  refine ⟨by rw [List.length_drop]; omega, fun k q hk => ?_⟩
  have := h.2 (k + 1) q (by simpa using hk)
  exact ⟨by rw [List.getElem?_drop, show 2 + k * 2 = (k + 1) * 2 by omega]; exact this.1, by rw [List.getElem?_drop, show 2 + (k * 2 + 1) = (k + 1) * 2 + 1 by omega]; exact this.2⟩
theorem mtake_no {w : World} {lb : Nat} {E : Nat → Prop} {X : Nat → Value} {s : Rc} (h : Dx w lb E X s) (hL : s.L (s.tk + 1) = none) :
    Calls Tryz.prog 65 #[.pointer (some ⟨lb, 7, none⟩)] w fun e w' => e = .returned (.tuple #[.slice none 0 0, .bool false]) ∧ w' = w := by
  obtain ⟨g, n, c, L, hF, hnc, hcm⟩ := h.open_
  have c2 := hF.blk.c9
  have hn0 : 0 < n := by have := hF.ok.w1; have := hF.nw; omega
  have hc := hF.is hn0
  have hh : has s 0 = false := by unfold has; rw [Int.natCast_zero, Int.add_zero, hL]; rfl
  rw [hh] at hc
  have d0 : decide ((0 : Int) < (n : Int)) = true := by simp; omega
  clear h hF hh hL
  go_enter Tryz.func65, Tryz.ntmps65
  go_wp2_with fail
  go_ret2
  exact ⟨rfl, rfl⟩
theorem dmf_take {w w' : World} {lb : Nat} {E : Nat → Prop} {X : Nat → Value} {g n c g' n' c' : Nat} {p : Cm} {L : List Cm} {s : Rc} (h : DmX w lb E X g n c (p :: L) s) (hs : Rok (takeA s)) (hb : XRk w' lb X s.win (s.tk + 1) (.slice (some ⟨g', 0, none⟩) n' c'))
    (ho : RowR w' E (.slice (some ⟨g', 0, none⟩) n' c') (L ++ [(false, .slice none 0 0, [])])) : DmX w' lb E X g' n' c' (L ++ [(false, .slice none 0 0, [])]) (takeA s) := by
  have hn : n' = n := by have := ho.own.len; have := h.len; simp at *; omega
  have hl : L.length + 1 = n := by have := h.len; simpa using this
  refine ⟨hs, hb, ho, by rw [hn]; exact h.nw, by rw [hn]; simp; omega, fun k q hk => ?_⟩
  have hhas : has (takeA s) k = has s (k + 1) := by
    show (if s.tk + 1 + 1 + (k : Int) = s.tk + 1 then none else s.L (s.tk + 1 + 1 + (k : Int))).isSome = (s.L (s.tk + 1 + ((k + 1 : Nat) : Int))).isSome
    rw [if_neg (by omega), show s.tk + 1 + ((k + 1 : Nat) : Int) = s.tk + 1 + 1 + (k : Int) by omega]
  rw [hhas]
  by_cases hlt : k < L.length
  · rw [List.getElem?_append_left hlt] at hk
    have := h.rel (k + 1) q (by simpa using hk)
    refine ⟨this.1, fun hq => ?_⟩
    have e := this.2 hq
    show (if s.tk + 1 + 1 + (k : Int) = s.tk + 1 then none else s.L (s.tk + 1 + 1 + (k : Int))) = _
    rw [if_neg (by omega), ← e]
    congr 1
    omega
  · rw [List.getElem?_append_right (by omega)] at hk
    have hk0 : k - L.length = 0 := by have := (List.getElem?_eq_some_iff.1 hk).1; simp at this; omega
    rw [hk0] at hk
    cases hk
    refine ⟨?_, fun h => by cases h⟩
    rw [has_of h.ok (by have := h.nw; omega)]
theorem xtake_end {w w3 : World} {lb : Nat} {E : Nat → Prop} {X : Nat → Value} {g n c g3 n3 c3 : Nat} {p : Cm} {L : List Cm} {s : Rc} {pa : Option Addr} {ln pc : Nat} {l : List Int} (hF : DmX w lb E X g n c (p :: L) s) (hs : Rok (takeA s)) (hblk : XRk w lb X s.win s.tk (.slice (some ⟨g, 0, none⟩) n c)) (hB3 : Below w.heap.size w w3) (hv3 : RowC w3 w.heap.size (.slice (some ⟨g3, 0, none⟩) n3 c3) (L ++ [(false, .slice none 0 0, [])])) (hnc3 : n3 ≤ c3) (hcm3 : c3 ≤ 9223372036854775807) (hO0 : OwnsB w 0 (.slice pa ln pc) l) (hLB : E lb) (hEE : ∀ q, w.heap.size ≤ q → E q) :
    Hid (Dx ((w3.setCell ⟨lb, 9, none⟩ (.slice (some ⟨g3, 0, none⟩) n3 c3)).setCell ⟨lb, 8, none⟩ (.int .i64 (s.tk + 1))) lb E X (takeA s)) ∧ Hid (OwnsB ((w3.setCell ⟨lb, 9, none⟩ (.slice (some ⟨g3, 0, none⟩) n3 c3)).setCell ⟨lb, 8, none⟩ (.int .i64 (s.tk + 1))) 0 (.slice pa ln pc) l) ∧ Hid (KS E w ((w3.setCell ⟨lb, 9, none⟩ (.slice (some ⟨g3, 0, none⟩) n3 c3)).setCell ⟨lb, 8, none⟩ (.int .i64 (s.tk + 1)))) := by
  have hoff : ∀ (b : Nat) (cur : Array Value) (e : TypeId), w3.heap[b]? = some (Obj.cells cur e (0, 0)) → e = 86 ∨ e = 5 → ((w3.setCell ⟨lb, 9, none⟩ (.slice (some ⟨g3, 0, none⟩) n3 c3)).setCell ⟨lb, 8, none⟩ (.int .i64 (s.tk + 1))).heap[b]? = w3.heap[b]? := fun b cur e h1 h2 => by
    have hne : b ≠ lb := fun q => by
      subst q
      have := hblk.blk.kept hB3
      unfold Blk at this
      rw [this] at h1
      cases h1
      rcases h2 with h2 | h2 <;> cases h2
    rw [Below.heap_setCell _ _ _ _ (by simpa using hne), Below.heap_setCell _ _ _ _ (by simpa using hne)]
  have hown : RowR ((w3.setCell ⟨lb, 9, none⟩ (.slice (some ⟨g3, 0, none⟩) n3 c3)).setCell ⟨lb, 8, none⟩ (.int .i64 (s.tk + 1))) E (.slice (some ⟨g3, 0, none⟩) n3 c3) (L ++ [(false, .slice none 0 0, [])]) := by
    refine RowR.keep (w := w3) ⟨⟨?_, fun p hp => ?_⟩, fun g hg => hEE g ?_⟩ (fun b cur e h1 h2 => hoff b cur e h1 (h2.imp And.left id))
    · obtain ⟨cs3, k1, k2⟩ := hv3
      exact ⟨cs3, ownsRow_low k1 (Nat.zero_le _), k2⟩
    · rcases List.mem_append.1 hp with hp | hp
      · exact (hF.own.kept hB3).own.2 p (List.mem_cons_of_mem _ hp)
      · simp at hp
        subst hp
        exact ownsB_nil _ _
    · exact hv3.own g hg
  have hbk : XRk ((w3.setCell ⟨lb, 9, none⟩ (.slice (some ⟨g3, 0, none⟩) n3 c3)).setCell ⟨lb, 8, none⟩ (.int .i64 (s.tk + 1))) lb X s.win (s.tk + 1) (.slice (some ⟨g3, 0, none⟩) n3 c3) := ((hblk.blk.kept hB3).set 9 _).set 8 _
  refine ⟨(dmf_take hF hs hbk hown).shut hnc3 hcm3, ?_, (KS.of_below hB3).trans ((KS.set _ lb _ hLB _).trans (KS.set _ lb _ hLB _))⟩
  have h1 : OwnsB ((w3.setCell ⟨lb, 9, none⟩ (.slice (some ⟨g3, 0, none⟩) n3 c3)).setCell ⟨lb, 8, none⟩ (.int .i64 (s.tk + 1))) 0 (.slice pa ln pc) l := by
    have h2 : OwnsB w3 0 (.slice pa ln pc) l := ⟨ownsRow_keep hO0.1 (fun b cur _ h1 => hB3.block b (Array.getElem?_eq_some_iff.1 h1).1), hO0.2⟩
    exact ⟨ownsRow_keep h2.1 (fun b cur _ h1 => hoff b cur 5 h1 (.inr rfl)), h2.2⟩
  exact h1
set_option maxHeartbeats 1000000 in
theorem mtake_yes {w : World} {lb : Nat} {E : Nat → Prop} {X : Nat → Value} {s : Rc} (l : List Int) (h : Dx w lb E X s) (ht : s.tk < 4611686018427387904) (hL : s.L (s.tk + 1) = some l) (hlb : E lb) (hE : ∀ q, w.heap.size ≤ q → E q) :
    Calls Tryz.prog 65 #[.pointer (some ⟨lb, 7, none⟩)] w fun e w' => ∃ a n c, e = .returned (.tuple #[.slice a n c, .bool true]) ∧ Hid (OwnsB w' 0 (.slice a n c) l) ∧ Hid (l.length = n) ∧ n ≤ c ∧ c ≤ 9223372036854775807 ∧ Hid (Dx w' lb E X (takeA s)) ∧ Hid (KS E w w') := by
  obtain ⟨g, n, c, LL, hF, hnc, hcm⟩ := h.open_
  have hn0 : 0 < n := by have := hF.ok.w1; have := hF.nw; omega
  obtain ⟨p, L, rfl⟩ : ∃ p L, LL = p :: L := by
    cases LL with
    | nil => have := hF.len; simp at this; omega
    | cons p L => exact ⟨p, L, rfl⟩
  have c1 := hF.blk.c8
  have c2 := hF.blk.c9
  have hp := hF.own.own.cell (k := 0) (p := p) rfl
  have hrel := hF.rel 0 p rfl
  have hh : has s 0 = true := by unfold has; rw [Int.natCast_zero, Int.add_zero, hL]; rfl
  rw [hh] at hrel
  obtain ⟨is, pv, pz⟩ := p
  obtain ⟨rfl, hpz⟩ := hrel
  have hpz2 := hpz rfl
  rw [Int.natCast_zero, Int.add_zero, hL] at hpz2
  obtain rfl : l = pz := Option.some.inj hpz2
  clear hpz2
  have hLB : Hid (E lb) := hlb
  have hEE : Hid (∀ q, w.heap.size ≤ q → E q) := hE
  have hO0 : OwnsB w 0 pv l := hF.own.own.2 _ (List.mem_cons_self)
  obtain ⟨pa, pc, rfl, hpn, ⟨hple, hpmx⟩, hpb, _⟩ := hO0.shape
  have y0 := hp.1
  have y1 := hp.2
  simp only [Nat.zero_mul, Nat.zero_add] at y0 y1
  have d0 : decide ((0 : Int) < (n : Int)) = true := by simp; omega
  have hw1 : IntKind.i64.wrap (s.tk + 1) = s.tk + 1 := by have := hF.ok.t1; rw [IntKind.wrap_i64]; omega
  have hpmx' : pc ≤ 9223372036854775807 := by unfold maxLen at hpmx; exact hpmx
  have hF' : Hid (DmX w lb E X g n c ((true, .slice pa l.length pc, l) :: L) s) := hF
  have hs' : Hid (Rok (takeA s)) := rtake_ok hF.ok ht
  have hO0' : Hid (OwnsB w 0 (.slice pa l.length pc) l) := hO0
  have hll : Hid (L.length + 1 = n) := by have := hF.len; rw [List.length_cons] at this; exact this
  generalize hln : l.length = ln at *
  have hln' : Hid (l.length = ln) := hln
  clear h hF hp hh hlb hE hL hpz hO0 hpn hpb hpmx hln
  by_cases hc1 : c = 1
  · subst hc1
    obtain rfl : n = 1 := by omega
    have hL0 : L = [] := List.eq_nil_of_length_eq_zero (by have := hll.out; omega)
    obtain ⟨cs, hcs, hcr⟩ := hF'.out.own.own.row
    have hcs' : Hid (w.ownsRow 0 86 2 (.slice (some ⟨g, 0, none⟩) 1 1) ((true, Value.slice pa ln pc, l) :: L).length cs) := hcs
    have hcr' : Hid (RowW (cs.drop 2) L) := hcr.tail
    have hone : Hid (∀ p ∈ L, p.2.1.oneCell' = true) := fun p hp => by
      obtain ⟨a', c', e, _⟩ := (hF'.out.own.own.2 p (List.mem_cons_of_mem _ hp)).shape
      rw [e]
      rfl
    have hnews : Hid (∀ j u, (cs.drop 2)[j]? = some u → w.cell? ((⟨g, 0, none⟩ : Addr).add j) = some u) := by
      intro j u hu
      have hx := hcr'.out.1
      rw [hL0] at hx
      have := List.length_eq_zero_iff.1 hx
      rw [this] at hu
      simp at hu
    have hl32 : Hid (L.length ≤ 32) := by have := hll.out; have := hF'.out.nw; have := hF'.out.ok.w2; show _ ≤ _; omega
    have hblk : Hid (XRk w lb X s.win s.tk (.slice (some ⟨g, 0, none⟩) 1 1)) := hF'.out.blk
    clear hcs hcr
    go_enter Tryz.func65, Tryz.ntmps65
    go_wp2_with (first
      | (at_builtin; refine wpl_came rfl (.const (.slice none 0 0)) (.tmp 25) rfl w.heap.size (.slice none 0 0) [] L (cs.drop 2) rfl (rowC_nil _ _) hcr'.out hone.out ⟨g, 0, none⟩ 0 0 rfl (by rw [hL0]; rfl) hnews.out (by have := hl32.out; simp; omega) (Nat.le_refl _) ?_; intro v1 w1 hv1 hg1; have hB1 : Hid (Below w.heap.size w w1) := (Below.refl _ _).grown hg1 (Nat.le_refl _) (fun k hk => by simp [Value.ownBlock] at hk); have hv1' : Hid (RowC w1 w.heap.size v1 L) := (by have := hv1; rw [List.nil_append] at this; exact this); clear hv1 hg1)
      | (at_builtin; refine wpl_came rfl (.tmp 26) (.tmp 28) rfl w.heap.size v1 L [(false, .slice none 0 0, [])] [.bool false, .slice none 0 0] rfl (hv1'.out.kept ((Below.refl _ _).alloc (Nat.le_refl _) _)) row_one (by intro p hp; simp at hp; subst hp; rfl) ⟨w1.heap.size, 0, none⟩ 1 1 rfl rfl (one_new w1) (by have := hl32.out; simp; omega) (by have := hB1.out.size; simp; omega) ?_; intro v3 w3 hv3 hg3; have hB3 : Hid (Below w.heap.size w w3) := (hB1.out.alloc hB1.out.size _).grown hg3 (by have := hB1.out.size; simp; omega) (hv1'.out.own); have hv3' : Hid (RowC w3 w.heap.size v3 (L ++ [(false, .slice none 0 0, [])])) := hv3; obtain ⟨g3, n3, c3, rfl, hn3, hnc3, hcm3⟩ := hv3'.out.form (by simp); have z0 := (hblk.out.blk.kept hB3.out).cell 8; have z1 := (hblk.out.blk.kept hB3.out).cell 9; have z2 := (hblk.out.blk.kept hB3.out).fz 8; have z3 := (hblk.out.blk.kept hB3.out).fz 9; clear hv3 hg3))
    have hb4 : Below w.heap.size w w3 := hB3.out
    have hfin : Hid (Dx ((w3.setCell ⟨lb, 9, none⟩ (.slice (some ⟨g3, 0, none⟩) n3 c3)).setCell ⟨lb, 8, none⟩ (.int .i64 (s.tk + 1))) lb E X (takeA s)) ∧ Hid (OwnsB ((w3.setCell ⟨lb, 9, none⟩ (.slice (some ⟨g3, 0, none⟩) n3 c3)).setCell ⟨lb, 8, none⟩ (.int .i64 (s.tk + 1))) 0 (.slice pa ln pc) l) ∧ Hid (KS E w ((w3.setCell ⟨lb, 9, none⟩ (.slice (some ⟨g3, 0, none⟩) n3 c3)).setCell ⟨lb, 8, none⟩ (.int .i64 (s.tk + 1)))) := xtake_end hF'.out hs'.out hblk.out hB3.out hv3'.out hnc3 hcm3 hO0'.out hLB.out hEE.out
    obtain ⟨hfin, hbys, hb5'⟩ := hfin
    clear hb4
    go_wp2_with fail
    go_ret2
    exact ⟨_, _, _, rfl, hbys, rfl, hple, hpmx', hfin, hb5'⟩
  · have f1 : (c = 1) = False := by simp [hc1]
    clear hc1
    obtain ⟨cs, hcs, hcr⟩ := hF'.out.own.own.row
    have hcs' : Hid (w.ownsRow 0 86 2 (.slice (some ⟨g, 0, none⟩) n c) ((true, Value.slice pa ln pc, l) :: L).length cs) := hcs
    have hcr' : Hid (RowW (cs.drop 2) L) := hcr.tail
    have hone : Hid (∀ p ∈ L, p.2.1.oneCell' = true) := fun p hp => by
      obtain ⟨a', c', e, _⟩ := (hF'.out.own.own.2 p (List.mem_cons_of_mem _ hp)).shape
      rw [e]
      rfl
    have hnews : Hid (∀ j u, (cs.drop 2)[j]? = some u → w.cell? ((⟨g, 2, none⟩ : Addr).add j) = some u) := by
      intro j u hu
      rw [List.getElem?_drop] at hu
      have hx : ((true, Value.slice pa ln pc, l) :: L).length = n := hF'.out.len
      rw [hx] at hcs
      have hj : 2 + j < cs.length := (List.getElem?_eq_some_iff.1 hu).1
      have hcl := hcs.1
      have e : (⟨g, 2, none⟩ : Addr).add j = ⟨g, 2 + j, none⟩ := by by_cases h0 : j = 0; (subst h0; rfl); simp [Addr.add, h0]
      rw [e, hcs.cellAt (2 + j) (by omega)]
      exact hu
    have hl32 : Hid (L.length ≤ 32) := by have := hll.out; have := hF'.out.nw; have := hF'.out.ok.w2; show _ ≤ _; omega
    have hblk : Hid (XRk w lb X s.win s.tk (.slice (some ⟨g, 0, none⟩) n c)) := hF'.out.blk
    clear hcs hcr
    go_enter Tryz.func65, Tryz.ntmps65
    go_wp2_with (first
      | (at_builtin; refine wpl_came rfl (.const (.slice none 0 0)) (.tmp 25) rfl w.heap.size (.slice none 0 0) [] L (cs.drop 2) rfl (rowC_nil _ _) hcr'.out hone.out ⟨g, 2, none⟩ (n - 1) (c - 1) rfl (by have := hll.out; omega) hnews.out (by have := hl32.out; simp; omega) (Nat.le_refl _) ?_; intro v1 w1 hv1 hg1; have hB1 : Hid (Below w.heap.size w w1) := (Below.refl _ _).grown hg1 (Nat.le_refl _) (fun k hk => by simp [Value.ownBlock] at hk); have hv1' : Hid (RowC w1 w.heap.size v1 L) := (by have := hv1; rw [List.nil_append] at this; exact this); clear hv1 hg1)
      | (at_builtin; refine wpl_came rfl (.tmp 26) (.tmp 28) rfl w.heap.size v1 L [(false, .slice none 0 0, [])] [.bool false, .slice none 0 0] rfl (hv1'.out.kept ((Below.refl _ _).alloc (Nat.le_refl _) _)) row_one (by intro p hp; simp at hp; subst hp; rfl) ⟨w1.heap.size, 0, none⟩ 1 1 rfl rfl (one_new w1) (by have := hl32.out; simp; omega) (by have := hB1.out.size; simp; omega) ?_; intro v3 w3 hv3 hg3; have hB3 : Hid (Below w.heap.size w w3) := (hB1.out.alloc hB1.out.size _).grown hg3 (by have := hB1.out.size; simp; omega) (hv1'.out.own); have hv3' : Hid (RowC w3 w.heap.size v3 (L ++ [(false, .slice none 0 0, [])])) := hv3; obtain ⟨g3, n3, c3, rfl, hn3, hnc3, hcm3⟩ := hv3'.out.form (by simp); have z0 := (hblk.out.blk.kept hB3.out).cell 8; have z1 := (hblk.out.blk.kept hB3.out).cell 9; have z2 := (hblk.out.blk.kept hB3.out).fz 8; have z3 := (hblk.out.blk.kept hB3.out).fz 9; clear hv3 hg3))
    have hb4 : Below w.heap.size w w3 := hB3.out
    have hfin : Hid (Dx ((w3.setCell ⟨lb, 9, none⟩ (.slice (some ⟨g3, 0, none⟩) n3 c3)).setCell ⟨lb, 8, none⟩ (.int .i64 (s.tk + 1))) lb E X (takeA s)) ∧ Hid (OwnsB ((w3.setCell ⟨lb, 9, none⟩ (.slice (some ⟨g3, 0, none⟩) n3 c3)).setCell ⟨lb, 8, none⟩ (.int .i64 (s.tk + 1))) 0 (.slice pa ln pc) l) ∧ Hid (KS E w ((w3.setCell ⟨lb, 9, none⟩ (.slice (some ⟨g3, 0, none⟩) n3 c3)).setCell ⟨lb, 8, none⟩ (.int .i64 (s.tk + 1)))) := xtake_end hF'.out hs'.out hblk.out hB3.out hv3'.out hnc3 hcm3 hO0'.out hLB.out hEE.out
    obtain ⟨hfin, hbys, hb5'⟩ := hfin
    clear hb4
    go_wp2_with fail
    go_ret2
    exact ⟨_, _, _, rfl, hbys, rfl, hple, hpmx', hfin, hb5'⟩
end Go.Proofs.YtfipdldoklkciaaGreat
namespace Go.Proofs.YtfipdldoklkciaaGreat
open Go.RowKit
set_option linter.unusedVariables false
theorem run_app_msg {w : World} (ty : TypeId) (base : Nat) (v : Value) (L : List (Int × Value × List Int)) (t : Int × Value × List Int) (hown : OwnsT w base v L) (ht : OwnsB w base t.2.1 t.2.2) (g : Nat) (hb : ∀ j, j < 9 → w.cell? ⟨g, j, none⟩ = (msC t)[j]?) (hlen : L.length ≤ 100000) (hbase : base ≤ w.heap.size) :
    ∃ v' w', (Builtin.append_ #[103, 103] ty #[v, .slice (some ⟨g, 0, none⟩) 1 1]).run Tryz.prog w = .ok v' w' ∧ OwnsT w' base v' (L ++ [t]) ∧ w.grownBy w' v.ownBlock := by
  obtain ⟨i, hi, hz, hsz, hby⟩ := info_parts infoM
  obtain ⟨v', w', e, h1, h2, _⟩ := run_append_own_wide (P := Tryz.prog) w base 103 ty 100 i _ 9 88 Tryz.underlying103 hi hz hsz hby rfl (by decide) v L.length _ hown.1 ⟨g, 0, none⟩ 1 1 (msC t) rfl (by
    intro j u hu
    have hj : j < 9 := (List.getElem?_eq_some_iff.1 hu).1
    rw [addr_add0, hb j hj]; exact hu) (by
    intro u hu
    obtain ⟨pa, pc, e, _⟩ := ht.shape
    simp [msC, e] at hu
    rcases hu with rfl | rfl | rfl | rfl | rfl | rfl | rfl | rfl | rfl <;> rfl) (by unfold maxLen; omega) (by omega) hbase
  refine ⟨v', w', e, ⟨?_, fun p hp => ?_⟩, h2⟩
  · rw [List.length_append, msCs_snoc]
    exact h1
  · have hk : ∀ p : Int × Value × List Int, OwnsB w base p.2.1 p.2.2 → OwnsB w' base p.2.1 p.2.2 := fun p hp => ⟨ownsRow_keep hp.1 (fun b cur h3 h4 => h2.block b (Array.getElem?_eq_some_iff.1 h4).1 (fun e => by
      rcases hown.1.2 with ⟨rfl, _⟩ | ⟨g', cap', cur', rfl, _, hc', _⟩
      · simp [Value.ownBlock] at e
      · simp [Value.ownBlock] at e
        subst e
        rw [h4] at hc'
        cases hc')), hp.2⟩
    rcases List.mem_append.1 hp with hp | hp
    · exact hk p (hown.2 p hp)
    · simp at hp
      subst hp
      exact hk _ ht
theorem step_run_b {w w' : World} {v' : Value} {ops : Array Oper} {o : Oper} {a : Act} {K : Act → World → Prop} {Q : Exit → Act → World → Prop} {E : Prop} (hgd : o.guard = none) (s x : Operand) (t : TypeId)
    (ho : o.op = .call { callee := .builtin .append, args := #[s, x], argTypes := #[t, t] }) (vs vx : Value) (hs : a.eval s = vs) (hx : a.eval x = vx)
    (hr : (Builtin.append_ #[t, t] o.type #[vs, vx]).run Tryz.prog w = .ok v' w') (h : K (a.put o.dst v') w') :
    if Region.wanted o (yielded ops a.tmps) = true then Oper.wp Tryz.prog o a w K Q else E := by
  have hw : Region.wanted o (yielded ops a.tmps) = true := by simp [Region.wanted, hgd]
  rw [if_pos hw]
  unfold Oper.wp execOp
  simp only [ho, resolve, invoke, builtin, Sem.run_bind, Sem.run_pure, Result.andThen_ok, List.map_toArray, List.map_cons, List.map_nil, hs, hx, hr]
  exact h
def dueM (d : Ds) (now : Int) : Nat → List (Int × List Int)
  | 0 => []
  | k + 1 => dueM d now k ++ (match d.L[k]? with | some e => if (!e.there && decide (e.time ≤ now)) = true then [(d.base + (k : Int), e.zs)] else [] | none => [])
theorem dueM_len (d : Ds) (now : Int) : ∀ k, (dueM d now k).length ≤ k
  | 0 => by simp [dueM]
  | k + 1 => by
    have := dueM_len d now k
    unfold dueM
    rw [List.length_append]
    split
    · split <;> simp <;> omega
    · simp; omega
theorem due_same {s : St} {d : Ds} (h : Dr s d) (now : Int) : ∀ k, k ≤ d.L.length → dueL s now k = dueM d now k
  | 0, _ => rfl
  | k + 1, hk => by
    have ih := due_same h now k (by omega)
    have hx : d.L[k]? = some d.L[k] := List.getElem?_eq_getElem _
    obtain ⟨p, hp, h1, h2, h3, h4⟩ := h.at' k _ hx
    unfold dueL dueM
    rw [ih, h.base, hp, hx]
    show _ ++ (if tellB now p = true then _ else _) = _ ++ (if _ then _ else _)
    unfold tellB
    rw [h2, h3, h1]
theorem dueD_no {now : Int} {e : De} (h : (!e.there && decide (e.time ≤ now)) = false) : dueD now e = e := by unfold dueD; rw [if_neg (by rw [h]; decide)]
theorem dueD_yes {now : Int} {e : De} (h : (!e.there && decide (e.time ≤ now)) = true) : dueD now e = { e with time := now + e.wait, wait := min (2 * e.wait) 64 } := by unfold dueD; rw [if_pos h]
theorem dok_due {d : Ds} {now : Int} (h : Dok d) (ht : timeB now = true) : Dok { d with L := d.L.map (dueD now) } := by
  have hT : 0 ≤ now ∧ now ≤ 1099511627776 := by unfold timeB at ht; simpa using ht
  have e : (d.L.mapIdx fun i e => (fun (_ : Int) => dueD now) (d.base + (i : Int)) e) = d.L.map (dueD now) := by apply List.ext_getElem?; intro i; rw [List.getElem?_mapIdx, List.getElem?_map]
  have := dok_map2 h (fun _ => dueD now) fun z e he => by
    obtain ⟨a1, a2, a3, a4, a5, a6⟩ := he
    unfold dueD
    split
    · exact ⟨a1, a2, by show 0 ≤ now + e.wait; omega, by show now + e.wait ≤ _; omega, by show 1 ≤ min (2 * e.wait) 64; omega, by show min (2 * e.wait) 64 ≤ 64; omega⟩
    · exact ⟨a1, a2, a3, a4, a5, a6⟩
  rw [e] at this
  exact this
/-- One row's time and wait are stored. -/
theorem due_put {w : World} {lb : Nat} {E : Nat → Prop} {x : Nat → Value} {d : Ds} {now : Int} {i g off c : Nat} {e : De} (hX : XLk w lb x { d with L := mkL d (fun _ => dueD now) i } (.slice (some ⟨g, off, none⟩) d.L.length c)) (hR : RowD w E (.slice (some ⟨g, off, none⟩) d.L.length c) (mkL d (fun _ => dueD now) i)) (hi : d.L[i]? = some e) (hy : (!e.there && decide (e.time ≤ now)) = true) (hE : E g) (hbg : ∃ cs, Blk w g cs 147) :
    Hid (XLk ((w.setCell ⟨g, off + i * 4 + 2, none⟩ (.int .i64 (now + e.wait))).setCell ⟨g, off + i * 4 + 3, none⟩ (.int .i64 (min (2 * e.wait) 64))) lb x { d with L := mkL d (fun _ => dueD now) (i + 1) } (.slice (some ⟨g, off, none⟩) d.L.length c)) ∧ Hid (RowD ((w.setCell ⟨g, off + i * 4 + 2, none⟩ (.int .i64 (now + e.wait))).setCell ⟨g, off + i * 4 + 3, none⟩ (.int .i64 (min (2 * e.wait) 64))) E (.slice (some ⟨g, off, none⟩) d.L.length c) (mkL d (fun _ => dueD now) (i + 1))) ∧ Hid (KS E w ((w.setCell ⟨g, off + i * 4 + 2, none⟩ (.int .i64 (now + e.wait))).setCell ⟨g, off + i * 4 + 3, none⟩ (.int .i64 (min (2 * e.wait) 64)))) := by
  obtain ⟨cg, hbg⟩ := hbg
  have hlt := (List.getElem?_eq_some_iff.1 hi).1
  refine ⟨((hX.off hbg _).off (Blk.set hbg _ _) _).other rfl rfl rfl, ?_, (KS.set _ g _ hE _).trans (KS.set _ g _ hE _)⟩
  have h1 := hR.put rfl (mkL_at hi) (j := 2) (e' := ⟨e.a, e.n, e.c, e.zs, e.there, now + e.wait, e.wait⟩) (x := .int .i64 (now + e.wait)) (by decide) rfl ⟨rfl, rfl, rfl, rfl⟩
  have h2 := h1.put rfl (i := i) (e := ⟨e.a, e.n, e.c, e.zs, e.there, now + e.wait, e.wait⟩) (by rw [List.getElem?_set, if_pos rfl, if_pos (by rw [mkL_len]; exact hlt)]) (j := 3) (e' := ⟨e.a, e.n, e.c, e.zs, e.there, now + e.wait, min (2 * e.wait) 64⟩) (x := .int .i64 (min (2 * e.wait) 64)) (by decide) rfl ⟨rfl, rfl, rfl, rfl⟩
  rw [List.set_set] at h2
  have h3 := mkL_step (f := fun _ => dueD now) hi
  rw [dueD_yes hy] at h3
  rw [h3] at h2
  exact h2
set_option maxHeartbeats 4000000 in
set_option maxRecDepth 100000 in
theorem ydue_any {w : World} {lb : Nat} {E : Nat → Prop} {x : Nat → Value} {d : Ds} {v : Value} (now : Int) (h : XLk w lb x d v) (hr : RowD w E v d.L) (hO : Dok d) (hlb : E lb) (ht : timeB now = true) :
    Calls Tryz.prog 66 #[.pointer (some ⟨lb, 3, none⟩), .int .i64 now] w fun e w' => ∃ (v1 : Value) (M : List (Int × Value × List Int)), e = .returned v1 ∧ Hid (OwnsT w' w.heap.size v1 M) ∧ Hid (plainT M = dueM d now d.L.length) ∧ Hid (XLk w' lb x { d with L := d.L.map (dueD now) } v) ∧ Hid (RowD w' E v (d.L.map (dueD now))) ∧ Hid (KS E w w') := by
  have k0 : ∀ wx, _ := fun wx => ytime_any now wx
  rw [ht] at k0
  have hX : Hid (XLk w lb x d v) := h
  have hR : Hid (RowD w E v d.L) := hr
  have hD : Hid (Dok d) := hO
  have hLB : Hid (E lb) := hlb
  have hT0 : Hid (0 ≤ now ∧ now ≤ 1099511627776) := by show _ ∧ _; unfold timeB at ht; simpa using ht
  have hX1 : Hid (XLk w lb x { d with L := mkL d (fun _ => dueD now) 0 } v) := hX.out
  have hR1 : Hid (RowD w E v (mkL d (fun _ => dueD now) 0)) := by show RowD _ _ _ _; rw [mkL_zero]; exact hR.out
  have hFew : Hid (d.L.length ≤ 32) := by have := hO.few; have := hO.w2; show _ ≤ 32; omega
  have hlast : Hid (mkL d (fun _ => dueD now) d.L.length = d.L.map (dueD now)) := by
    show _ = _
    rw [mkL_all]
    apply List.ext_getElem?; intro i; rw [List.getElem?_mapIdx, List.getElem?_map]
  clear h hr hO hlb ht
  go_enter Tryz.func66, Tryz.ntmps66
  go_wp2
  go_loopw [5, 6, 7] (fun s5 s6 _ wr => ∃ (i : Nat) (M : List (Int × Value × List Int)), s6 = .int .i64 (i : Nat) ∧ i ≤ d.L.length ∧ Hid (OwnsT wr w.heap.size s5 M) ∧ Hid (plainT M = dueM d now i) ∧ Hid (XLk wr lb x { d with L := mkL d (fun _ => dueD now) i } v) ∧ Hid (RowD wr E v (mkL d (fun _ => dueD now) i)) ∧ Hid (KS E w wr)) (fun _ i _ _ => d.L.length - (intOf i).toNat)
  case atStart => exact ⟨0, [], rfl, Nat.zero_le _, ownsT_nil _ _, rfl, hX1, hR1, KS.refl _ _⟩
  case round =>
    obtain ⟨i, M, rfl, hi, hT, hM, hX2, hR2, hK2⟩ := hrel
    clear hX1 hR1
    by_cases hlt : i < d.L.length
    · have hi0 : d.L[i]? = some d.L[i] := List.getElem?_eq_getElem hlt
      generalize d.L[i] = e at hi0
      obtain ⟨g, off, c, hv, hEg, hgl, hcs, hfz, hle, hbg⟩ := hR2.out.cells (mkL_at hi0)
      rw [mkL_len] at hv hle
      subst hv
      have c4 : wr.cell? ⟨lb, 4, none⟩ = some (.int .i64 d.base) := hX2.out.cell 4
      have c6 : wr.cell? ⟨lb, 6, none⟩ = some (.slice (some ⟨g, off, none⟩) d.L.length c) := hX2.out.cell 6
      have hd : decide ((i : Int) < (d.L.length : Int)) = true := by simp; omega
      have q1 : (0 : Int) ≤ (i : Int) := by omega
      have e0 : wr.cell? ⟨g, off + i * 4, none⟩ = some (.slice e.a e.n e.c) := hcs 0 (by decide)
      have e1 : wr.cell? ⟨g, off + i * 4 + 1, none⟩ = some (.bool e.there) := hcs 1 (by decide)
      have e2 : wr.cell? ⟨g, off + i * 4 + 2, none⟩ = some (.int .i64 e.time) := hcs 2 (by decide)
      have e3 : wr.cell? ⟨g, off + i * 4 + 3, none⟩ = some (.int .i64 e.wait) := hcs 3 (by decide)
      have wi : IntKind.i64.wrap ((i : Int) + 1) = ((i + 1 : Nat) : Int) := by have := hFew.out; rw [IntKind.wrap_i64]; omega
      have hent := hD.out.ent e (List.mem_of_getElem? hi0)
      have hM1 : dueM d now (i + 1) = dueM d now i ++ (if (!e.there && decide (e.time ≤ now)) = true then [(d.base + (i : Int), e.zs)] else []) := by rw [dueM, hi0]
      cases hy : (!e.there && decide (e.time ≤ now)) with
      | false =>
        have hms : mkL d (fun _ => dueD now) (i + 1) = mkL d (fun _ => dueD now) i := mkL_skip hi0 (dueD_no hy)
        rw [if_neg (by rw [hy]; decide), List.append_nil] at hM1
        have hend : Hid ((∃ (i' : Nat) (M : List (Int × Value × List Int)), Value.int .i64 ((i + 1 : Nat) : Int) = .int .i64 (i' : Nat) ∧ i' ≤ d.L.length ∧ Hid (OwnsT wr w.heap.size u5 M) ∧ Hid (plainT M = dueM d now i') ∧ Hid (XLk wr lb x { d with L := mkL d (fun _ => dueD now) i' } (.slice (some ⟨g, off, none⟩) d.L.length c)) ∧ Hid (RowD wr E (.slice (some ⟨g, off, none⟩) d.L.length c) (mkL d (fun _ => dueD now) i')) ∧ Hid (KS E w wr)) ∧ d.L.length - (i + 1) < d.L.length - i) :=
          ⟨⟨i + 1, M, rfl, by omega, hT, (by show _ = _; rw [hM1]; exact hM.out), (by rw [hms]; exact hX2), (by rw [hms]; exact hR2), hK2⟩, by omega⟩
        cases hth : e.there with
        | true =>
          rw [hth] at e1
          clear hent hM1 hi0 hms hy hth hbg hcs hfz
          go_wp2_with (go_at_call 95; refine (k0 _).mono ?_; rintro e w1 ⟨rfl, hw1⟩; obtain rfl := hw1.symm; clear hw1)
          exact hend.out
        | false =>
          have hdt : decide (e.time > now) = true := by rw [hth] at hy; simp at hy; simp; omega
          rw [hth] at e1
          clear hent hM1 hi0 hms hy hth hbg hcs hfz
          go_wp2_with (go_at_call 95; refine (k0 _).mono ?_; rintro e w1 ⟨rfl, hw1⟩; obtain rfl := hw1.symm; clear hw1)
          exact hend.out
      | true =>
        have hth : e.there = false := by simp at hy; exact hy.1
        have hdt : decide (e.time > now) = false := by simp at hy; simp; omega
        rw [if_pos hy] at hM1
        rw [hth] at e1
        -- the worlds of the statement that appends
        obtain ⟨hob, hbb⟩ := hR2.out.ent e (List.mem_of_getElem? (mkL_at hi0))
        obtain ⟨oa, on, oc, hov, hol, hon, hoc, hom, hoB⟩ := OwnsB.form ⟨hob, hbb⟩
        cases hov
        have hwf : wr.drew.heap.size = wr.heap.size := rfl
        obtain ⟨v2, w2, hrA, hO2, hB2⟩ := run_copy wr.drew 42 e.a e.n e.c e.zs hent.1 hon (hoB.out.kept (Below.refl _ _).drew) hent.2.1
        have hB2' : Below wr.heap.size wr w2 := (Below.refl _ _).drew.trans hB2
        obtain ⟨a2, n2, c2', rfl, -⟩ := hO2.form
        have hsz := hK2.out.size
        have hT2 : OwnsT w2 w.heap.size u5 M := hT.out.kept hB2'
        have hO2' : OwnsB w2 w.heap.size (.slice a2 n2 c2') e.zs := hO2.base (by rw [hwf]; exact hsz)
        have hMl : M.length ≤ 100000 := by
          have h1 : (plainT M).length = M.length := by simp [plainT]
          rw [hM.out] at h1
          have := dueM_len d now i
          have := hFew.out
          omega
        have hq : Hid (1 ≤ d.base + (i : Int) ∧ d.base + (i : Int) ≤ 4611686018427387904) := by have h1 := hD.out.b1; have h2 := hD.out.l1; have h3 := hD.out.l2; show _ ∧ _; omega
        have wq : IntKind.i64.wrap (d.base + (i : Int)) = d.base + (i : Int) := by have := hq.out; rw [IntKind.wrap_i64]; omega
        obtain ⟨v4, w4, hrB, hT4, hG4⟩ := run_app_msg (w := w2.alloc (.cells #[.int .i64 1, .int .u64 0, .int .i64 0, .int .i64 (d.base + (i : Int)), .int .i64 0, .int .u64 0, .int .i64 0, .int .i64 0, .slice a2 n2 c2'] 100)) 103 w.heap.size u5 M (d.base + (i : Int), .slice a2 n2 c2', e.zs) (hT2.alloc _) (hO2'.alloc _) w2.heap.size (fun j _ => ((blk_new w2 _ _).cell j).trans Array.getElem?_toList.symm) hMl (by have := hB2'.size; simp; omega)
        have hA3 : Below wr.heap.size wr (w2.alloc (.cells #[.int .i64 1, .int .u64 0, .int .i64 0, .int .i64 (d.base + (i : Int)), .int .i64 0, .int .u64 0, .int .i64 0, .int .i64 0, .slice a2 n2 c2'] 100)) := hB2'.alloc hB2'.size _
        have hold : ∀ q, u5.ownBlock = some q → w.heap.size ≤ q ∧ q < wr.heap.size := fun q hq => ⟨(own_at hT.out.1 q hq).1, hT.out.own_lt q hq⟩
        have hty : ∀ q, u5.ownBlock = some q → q ≠ g ∧ q ≠ lb := fun q hq => by
          rcases hT.out.1.2 with ⟨hv0, _⟩ | ⟨g', cap, cur, hv0, _, hc0, _⟩
          · rw [hv0] at hq; cases hq
          · rw [hv0] at hq
            have e9 : g' = q := by injection hq
            subst e9
            refine ⟨fun e8 => ?_, fun e8 => ?_⟩
            · obtain ⟨cs8, h8⟩ := hbg
              rw [← e8] at h8
              have h8 : wr.heap[g']? = _ := h8
              rw [hc0] at h8
              injection h8 with h8
              injection h8 with _ h8
              exact absurd h8 (by decide)
            · have h8 := hX2.out
              rw [← e8] at h8
              have h8 : wr.heap[g']? = _ := h8
              rw [hc0] at h8
              injection h8 with h8
              injection h8 with _ h8
              exact absurd h8 (by decide)
        have hrow : ∀ b, b < wr.heap.size → u5.ownBlock ≠ some b → w4.heap[b]? = wr.heap[b]? := fun b hb hne => (hG4.block b (Nat.lt_of_lt_of_le hb hA3.size) hne.symm).trans (hA3.block b hb)
        have hX4 : Hid (XLk w4 lb x { d with L := mkL d (fun _ => dueD now) i } (.slice (some ⟨g, off, none⟩) d.L.length c)) := (hrow lb (Blk.lt (show Blk wr lb _ 37 from hX2.out)) (fun e9 => (hty lb e9).2 rfl)).trans (show Blk wr lb _ 37 from hX2.out)
        have hR4 : Hid (RowD w4 E (.slice (some ⟨g, off, none⟩) d.L.length c) (mkL d (fun _ => dueD now) i)) := hR2.out.keep fun b hb _ ⟨cur, e9, h9, h9'⟩ => hrow b hb fun e8 => by
          rcases hT.out.1.2 with ⟨hv0, _⟩ | ⟨g', cap, cur0, hv0, _, hc0, _⟩
          · rw [hv0] at e8; cases e8
          · rw [hv0] at e8
            have e7 : g' = b := by injection e8
            subst e7
            rw [h9] at hc0
            injection hc0 with hc0
            injection hc0 with _ hc0
            rcases h9' with rfl | rfl
            · exact absurd hc0 (by decide)
            · exact absurd hc0 (by decide)
        have hK4 : Hid (KS E w w4) := ⟨(hG4.os.trans hA3.os).trans hK2.out.os, (hG4.tape.trans hA3.tape).trans hK2.out.tape, (hG4.output.trans hA3.output).trans hK2.out.output, Nat.le_trans hsz (Nat.le_trans hA3.size hG4.size), fun q hq hE => (hrow q (Nat.lt_of_lt_of_le hq hsz) fun e9 => by have := (hold q e9).1; omega).trans (hK2.out.block q hq hE)⟩
        have hb4 : ∃ cs, Blk w4 g cs 147 := hbg.imp fun cs hc => (hrow g hgl fun e9 => (hty g e9).1 rfl).trans hc
        obtain ⟨hX5, hR5, hK5⟩ := due_put hX4.out hR4.out hi0 hy hEg hb4
        have hT5 : Hid (OwnsT ((w4.setCell ⟨g, off + i * 4 + 2, none⟩ (.int .i64 (now + e.wait))).setCell ⟨g, off + i * 4 + 3, none⟩ (.int .i64 (min (2 * e.wait) 64))) w.heap.size v4 (M ++ [(d.base + (i : Int), .slice a2 n2 c2', e.zs)])) := by
          obtain ⟨cs9, hb9⟩ := hb4
          exact (hT4.set hb9 (by decide) (by decide) _ _).set (hb9.set _ _) (by decide) (by decide) _ _
        have hM5 : Hid (plainT (M ++ [(d.base + (i : Int), .slice a2 n2 c2', e.zs)]) = dueM d now (i + 1)) := by show _ = _; rw [hM1, ← hM.out]; simp [plainT]
        obtain ⟨g', off', c', hv, -, -, hcs4, hfz4, -, -⟩ := hR4.out.cells (mkL_at hi0)
        simp only [Value.slice.injEq, Option.some.injEq, Addr.mk.injEq, and_true] at hv
        obtain ⟨⟨rfl, rfl⟩, -, rfl⟩ := hv
        have f2 : w4.cell? ⟨g, off + i * 4 + 2, none⟩ = some (.int .i64 e.time) := hcs4 2 (by decide)
        have f3 : w4.cell? ⟨g, off + i * 4 + 3, none⟩ = some (.int .i64 e.wait) := hcs4 3 (by decide)
        have z2 := hfz4 (off + i * 4 + 2)
        have z3 := hfz4 (off + i * 4 + 3)
        have y4 : w2.cell? ⟨lb, 4, none⟩ = some (.int .i64 d.base) := Blk.cell (Blk.kept (show Blk wr lb _ 37 from hX2.out) hB2') 4
        have hwt : IntKind.i64.wrap (now + e.wait) = now + e.wait := by have := hT0.out; rw [IntKind.wrap_i64]; omega
        have hw2 : IntKind.i64.wrap (2 * e.wait) = 2 * e.wait := by rw [IntKind.wrap_i64]; omega
        have hrA' : Hid ((Builtin.append_ #[42, 42] 42 #[.slice none 0 0, .slice e.a e.n e.c]).run Tryz.prog wr.drew = .ok (.slice a2 n2 c2') w2) := hrA
        have hrB' : Hid ((Builtin.append_ #[103, 103] 103 #[u5, .slice (some ⟨w2.heap.size, 0, none⟩) 1 1]).run Tryz.prog (w2.alloc (.cells #[.int .i64 1, .int .u64 0, .int .i64 0, .int .i64 (d.base + (i : Int)), .int .i64 0, .int .u64 0, .int .i64 0, .int .i64 0, .slice a2 n2 c2'] 100)) = .ok v4 w4) := hrB
        clear hrA hrB hent hM1 hi0 hy hth hbg hb4 hcs4 hfz4 hrow hty hold hA3 hG4 hT4 hMl hO2' hT2 hB2' hB2 hO2 hob hbb hol hon hoc hom hoB hcs hfz hwf
        go_wp2_with (go_at_call 95; refine (k0 _).mono ?_; rintro e w1 ⟨rfl, hw1⟩; obtain rfl := hw1.symm; clear hw1)
        go_region_law (first
          | (refine step_run_b (by rfl) _ _ 42 (by rfl) _ _ (by rfl) (by rfl) (by exact hrA'.out) ?_)
          | (refine step_run_b (by rfl) _ _ 103 (by rfl) _ _ (by rfl) (by rfl) (by exact hrB'.out) ?_))
        all_goals (
          go_wp2
          exact ⟨⟨i + 1, _, rfl, by omega, hT5, hM5, hX5, hR5, hK4.out.trans hK5.out⟩, by simp [intOf]; omega⟩)
    · obtain rfl : i = d.L.length := by omega
      have hd : decide ((d.L.length : Int) < (d.L.length : Int)) = false := by simp
      obtain ⟨a, c, hv, -⟩ := hR2.out.form
      rw [mkL_len] at hv
      subst hv
      have c6 : wr.cell? ⟨lb, 6, none⟩ = some (.slice a d.L.length c) := hX2.out.cell 6
      have hX3 : Hid (XLk wr lb x { d with L := d.L.map (dueD now) } (.slice a d.L.length c)) := hX2.out.other rfl rfl rfl
      have hR3 : Hid (RowD wr E (.slice a d.L.length c) (d.L.map (dueD now))) := by
        have := hR2.out
        rw [hlast.out] at this
        exact this
      clear hX2 hR2
      go_wp2
      go_ret
      exact ⟨_, M, rfl, hT, hM, hX3, hR3, hK2⟩
end Go.Proofs.YtfipdldoklkciaaGreat
