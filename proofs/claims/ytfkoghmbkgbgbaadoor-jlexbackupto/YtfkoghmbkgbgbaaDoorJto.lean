/-
  The token that begins at a place: jlex.tokenAt.
-/
import Derived.Test.YtfkoghmbkgbgbaaDoorJnu
import Derived.Test.YtfkoghmbkgbgbaaDoorJwd
namespace Go.Proofs.YtfkoghmbkgbgbaaDoor
open Go.RowKit
set_option linter.unusedVariables false

set_option maxRecDepth 100000 in
theorem sign_ix : ∀ c : Nat, c < 256 → Lib.indexByte [123, 125, 91, 93, 58, 44] ((c : Int).toNat.toUInt8) = ((signN (c : Int) : Nat) : Int) - 1 := by decide
theorem sign_any (c : Nat) (hc : c < 256) (w : World) : Calls Tryd.prog 33 #[.string ⟨#[123, 125, 91, 93, 58, 44]⟩, .int .u8 (c : Int)] w fun e w' => e = .returned (.int .i64 (((signN (c : Int) : Nat) : Int) - 1)) ∧ w' = w := by
  have k := ib_any ⟨#[123, 125, 91, 93, 58, 44]⟩ (c : Int) w
  have e : (⟨#[123, 125, 91, 93, 58, 44]⟩ : ByteArray).data.toList = [123, 125, 91, 93, 58, 44] := rfl
  rw [e, sign_ix c hc] at k
  exact k
theorem tok_head (s : ByteArray) (p : Nat) (hp : p < s.size) : ((bs s).drop p).getD 0 0 = (((s[p]'hp).toNat : Nat) : Int) := by rw [getD_drop, Nat.add_zero, bs_at s hp]
theorem tok_lit (K F T : Nat) (X : List Int) (Y A : Nat) : tokV (⟨K, F, T, X⟩, Y, A) = .tuple #[.agg #[.int .i64 (K : Nat), .int .i64 (F : Nat), .int .i64 (T : Nat), .string (strOfNums X)], .agg #[.int .i64 (Y : Nat), .int .i64 (A : Nat)]] := rfl
set_option maxHeartbeats 8000000 in
set_option maxRecDepth 100000 in
/-- jlex.tokenAt. -/
theorem tokat_any (s : ByteArray) (p : Nat) (w : World) (hp : p < s.size) (hs : s.size ≤ 4096) :
    Calls Tryd.prog 20 #[.string s, .int .i64 (p : Int)] w fun e w' => e = .returned (tokV (tokR ((bs s).drop p) p)) ∧ Below w.heap.size w w' := by
  have T0 : Hid (TB w ((w.alloc (.cells #[.int .i64 0, .int .i64 0, .int .i64 0, .string ⟨#[]⟩] 41)).alloc (.cells #[.int .i64 0, .int .i64 0] 26))) := tb_new w
  obtain ⟨c0, c1, c2, c3, c4, c5⟩ := T0.out.cells
  obtain ⟨f0, f1, f2, f3, f4, f5⟩ := T0.out.fz
  have hc := UInt8.toNat_lt (s[p]'hp)
  have kI := fun w' => sign_any (s[p]'hp).toNat hc w'
  have hh := tok_head s p hp
  obtain ⟨⟨⟨K, F, T, X⟩, Y, A⟩, hR⟩ : ∃ R, tokR ((bs s).drop p) p = R := ⟨_, rfl⟩
  have hRR := hR
  unfold tokR at hRR
  rw [hh] at hRR
  rw [hR, tok_lit]
  clear hR
  by_cases h1 : signN (((s[p]'hp).toNat : Nat) : Int) ≠ 0
  · rw [if_pos h1] at hRR
    have hle := sign_le (((s[p]'hp).toNat : Nat) : Int)
    generalize signN (((s[p]'hp).toNat : Nat) : Int) = G at *
    simp only [Prod.mk.injEq, Tk.mk.injEq] at hRR
    obtain ⟨⟨rfl, rfl, rfl, rfl⟩, rfl, rfl⟩ := hRR
    obtain ⟨Z, hZ⟩ : ∃ Z, ((G : Nat) : Int) - 1 = Z := ⟨_, rfl⟩
    rw [hZ] at kI
    have a1 : decide ((0 : Int) ≤ Z) = true := by simp; omega
    have W1 : IntKind.i64.wrap (1 + Z) = ((G : Nat) : Int) := by rw [IntKind.wrap_i64]; omega
    clear hZ
    have W2 : IntKind.i64.wrap ((p : Int) + 1) = ((p + 1 : Nat) : Int) := by rw [IntKind.wrap_i64]; omega
    have hB : Hid (Below w.heap.size w ((w.alloc (.cells #[.int .i64 0, .int .i64 0, .int .i64 0, .string ⟨#[]⟩] 41)).alloc (.cells #[.int .i64 0, .int .i64 0] 26))) := T0.out.bel
    generalize p + 1 = P1 at *
    clear h1 hle hh hc
    show Calls _ _ _ _ (fun e w' => e = .returned (.tuple #[.agg #[.int .i64 (G : Nat), .int .i64 (p : Nat), .int .i64 (P1 : Nat), .string ⟨#[]⟩], .agg #[.int .i64 0, .int .i64 0]]) ∧ Below w.heap.size w w')
    go_enter Tryd.func20, Tryd.ntmps20
    go_wp2_with (go_at_call 33; refine (kI _).mono ?_; rintro e w1 ⟨rfl, hw1⟩; subst hw1)
    refine bodyPost_ret (v := .tuple #[.agg #[.int .i64 (G : Nat), .int .i64 (p : Nat), .int .i64 (P1 : Nat), .string ⟨#[]⟩], .agg #[.int .i64 0, .int .i64 0]]) (by simp [results, Tryd.results20, go_sem, *]) rfl ⟨rfl, ?_⟩
    first
    | exact hB.out
    | exact (alloc_below w _).trans ((alloc_below _ _).mono (Nat.le_of_lt (alloc_lt _ _)))
  · rw [if_neg h1] at hRR
    have hG0 : signN (((s[p]'hp).toNat : Nat) : Int) = 0 := by omega
    rw [hG0] at kI
    have kI' : ∀ w', Calls Tryd.prog 33 #[.string ⟨#[123, 125, 91, 93, 58, 44]⟩, .int .u8 (((s[p]'hp).toNat : Nat) : Int)] w' fun e w'' => e = .returned (.int .i64 (-1)) ∧ w'' = w' := kI
    clear kI hG0 h1
    by_cases h2 : (((s[p]'hp).toNat : Nat) : Int) = 34
    · rw [if_pos h2] at hRR
      have a2 : ((((s[p]'hp).toNat : Nat) : Int) == 34) = true := by simp [h2]
      have kS := strat_any s p ((w.alloc (.cells #[.int .i64 0, .int .i64 0, .int .i64 0, .string ⟨#[]⟩] 41)).alloc (.cells #[.int .i64 0, .int .i64 0] 26)) hp (by omega)
      rw [List.drop_drop] at hRR
      have hRR' := hRR
      obtain ⟨⟨x, to, y, a⟩, hS⟩ : ∃ S, strL ((bs s).drop (p + 1)) (p + 1) r0 = S := ⟨_, rfl⟩
      rw [hS] at hRR kS
      simp only [Prod.mk.injEq, Tk.mk.injEq] at hRR
      obtain ⟨⟨rfl, rfl, rfl, rfl⟩, rfl, rfl⟩ := hRR
      unfold strV at kS
      dsimp only at kS
      clear hS hRR' hh hc h2
      go_enter Tryd.func20, Tryd.ntmps20
      go_wp2_with (first
        | (go_at_call 33; refine (kI' _).mono ?_; rintro e w1 ⟨rfl, hw1⟩; subst hw1; clear kI')
        | (go_at_call 22; refine kS.mono ?_; rintro e w2 ⟨rfl, hb2⟩; clear kS c0 c1 c2 c3 c4 c5 f0 f1 f2 f3 f4 f5; have T2 : Hid (TB w w2) := T0.out.on hb2; have T3 : Hid (TB w (w2.alloc (.cells #[.int .i64 (y : Nat), .int .i64 (a : Nat)] 26))) := T2.out.on (alloc_below w2 _); obtain ⟨c0, c1, c2, c3, c4, c5⟩ := T2.out.cells; obtain ⟨f0, f1, f2, f3, f4, f5⟩ := T2.out.fz; have N0 : w.heap.size < w2.heap.size := T2.out.tok.lt; have N1 : w.heap.size + 1 < w2.heap.size := T2.out.flt.lt))
      go_region
      all_goals
        go_wp2
        refine bodyPost_ret (v := .tuple #[.agg #[.int .i64 7, .int .i64 (p : Nat), .int .i64 (to : Nat), .string (strOfNums x)], .agg #[.int .i64 (y : Nat), .int .i64 (a : Nat)]]) (by simp [results, Tryd.results20, go_sem, *]) rfl ⟨rfl, ?_⟩
        have h6 : Below w.heap.size w ((((((w2.setCell ⟨w.heap.size, 0, none⟩ (.int .i64 7)).setCell ⟨w.heap.size, 1, none⟩ (.int .i64 (p : Nat))).setCell ⟨w.heap.size, 2, none⟩ (.int .i64 (to : Nat))).setCell ⟨w.heap.size, 3, none⟩ (.string (strOfNums x))).setCell ⟨w.heap.size + 1, 0, none⟩ (.int .i64 (y : Nat))).setCell ⟨w.heap.size + 1, 1, none⟩ (.int .i64 (a : Nat))) := by
          refine Below.setCell (Below.setCell (Below.setCell (Below.setCell (Below.setCell (Below.setCell T2.out.bel ?_ _) ?_ _) ?_ _) ?_ _) ?_ _) ?_ _ <;> simp
        exact (h6.alloc h6.size _).drew
    · rw [if_neg h2] at hRR
      have a2 : ((((s[p]'hp).toNat : Nat) : Int) == 34) = false := by simp [h2]
      have kN := numat_any s p ((w.alloc (.cells #[.int .i64 0, .int .i64 0, .int .i64 0, .string ⟨#[]⟩] 41)).alloc (.cells #[.int .i64 0, .int .i64 0] 26)) hp hs
      have kW := wordat_any s p ((w.alloc (.cells #[.int .i64 0, .int .i64 0, .int .i64 0, .string ⟨#[]⟩] 41)).alloc (.cells #[.int .i64 0, .int .i64 0] 26)) hp hs
      have fin : ∀ w2, TB w w2 → Below w.heap.size w ((((((w2.setCell ⟨w.heap.size, 0, none⟩ (.int .i64 (K : Nat))).setCell ⟨w.heap.size, 1, none⟩ (.int .i64 (F : Nat))).setCell ⟨w.heap.size, 2, none⟩ (.int .i64 (T : Nat))).setCell ⟨w.heap.size, 3, none⟩ (.string (strOfNums X))).setCell ⟨w.heap.size + 1, 0, none⟩ (.int .i64 (Y : Nat))).setCell ⟨w.heap.size + 1, 1, none⟩ (.int .i64 (A : Nat))) := fun w2 h2 => by
        refine Below.setCell (Below.setCell (Below.setCell (Below.setCell (Below.setCell (Below.setCell h2.bel ?_ _) ?_ _) ?_ _) ?_ _) ?_ _) ?_ _ <;> simp
      by_cases h3 : (((s[p]'hp).toNat : Nat) : Int) = 45 ∨ isD (((s[p]'hp).toNat : Nat) : Int) = true
      · rw [if_pos h3] at hRR
        rw [hRR, tok_lit] at kN
        clear kW hRR hh h2 hc
        by_cases h45 : (((s[p]'hp).toNat : Nat) : Int) = 45
        · have a3 : ((((s[p]'hp).toNat : Nat) : Int) == 45) = true := by simp [h45]
          clear h3 h45
          go_enter Tryd.func20, Tryd.ntmps20
          go_wp2_with (first
            | (go_at_call 33; refine (kI' _).mono ?_; rintro e w1 ⟨rfl, hw1⟩; subst hw1; clear kI')
            | (go_at_call 34; refine kN.mono ?_; rintro e w2 ⟨rfl, hb2⟩; clear kN c0 c1 c2 c3 c4 c5 f0 f1 f2 f3 f4 f5; have T2 : Hid (TB w w2) := T0.out.on hb2; obtain ⟨c0, c1, c2, c3, c4, c5⟩ := T2.out.cells; obtain ⟨f0, f1, f2, f3, f4, f5⟩ := T2.out.fz))
          refine bodyPost_ret (v := .tuple #[.agg #[.int .i64 (K : Nat), .int .i64 (F : Nat), .int .i64 (T : Nat), .string (strOfNums X)], .agg #[.int .i64 (Y : Nat), .int .i64 (A : Nat)]]) (by simp [results, Tryd.results20, go_sem, *]) rfl ⟨rfl, fin w2 T2.out⟩
        · have h3' : isD (((s[p]'hp).toNat : Nat) : Int) = true := by
            rcases h3 with h | h
            · exact absurd h h45
            · exact h
          have hd := isD_iff.1 h3'
          have a3 : ((((s[p]'hp).toNat : Nat) : Int) == 45) = false := by simp [h45]
          have a4 : decide ((48 : Int) ≤ (((s[p]'hp).toNat : Nat) : Int)) = true := by simp; omega
          have a5 : decide ((((s[p]'hp).toNat : Nat) : Int) ≤ 57) = true := by simp; omega
          clear h3 h45 h3' hd
          go_enter Tryd.func20, Tryd.ntmps20
          go_wp2_with (first
            | (go_at_call 33; refine (kI' _).mono ?_; rintro e w1 ⟨rfl, hw1⟩; subst hw1; clear kI')
            | (go_at_call 34; refine kN.mono ?_; rintro e w2 ⟨rfl, hb2⟩; clear kN c0 c1 c2 c3 c4 c5 f0 f1 f2 f3 f4 f5; have T2 : Hid (TB w w2) := T0.out.on hb2; obtain ⟨c0, c1, c2, c3, c4, c5⟩ := T2.out.cells; obtain ⟨f0, f1, f2, f3, f4, f5⟩ := T2.out.fz))
          refine bodyPost_ret (v := .tuple #[.agg #[.int .i64 (K : Nat), .int .i64 (F : Nat), .int .i64 (T : Nat), .string (strOfNums X)], .agg #[.int .i64 (Y : Nat), .int .i64 (A : Nat)]]) (by simp [results, Tryd.results20, go_sem, *]) rfl ⟨rfl, fin w2 T2.out⟩
      · rw [if_neg h3] at hRR
        have hWW : wdR (((s[p]'hp).toNat : Nat) : Int) ((bs s).drop p) p = (⟨K, F, T, X⟩, Y, A) := by rw [← hRR]; rfl
        rw [hWW, tok_lit] at kW
        have h45 : ¬ (((s[p]'hp).toNat : Nat) : Int) = 45 := fun h => h3 (.inl h)
        have hnd : ¬ (48 ≤ (((s[p]'hp).toNat : Nat) : Int) ∧ (((s[p]'hp).toNat : Nat) : Int) ≤ 57) := fun h => h3 (.inr (isD_iff.2 h))
        have a3 : ((((s[p]'hp).toNat : Nat) : Int) == 45) = false := by simp [h45]
        clear kN hRR hWW h3 h45 hh h2 hc
        by_cases h48 : (48 : Int) ≤ (((s[p]'hp).toNat : Nat) : Int)
        · have a4 : decide ((48 : Int) ≤ (((s[p]'hp).toNat : Nat) : Int)) = true := decide_eq_true h48
          have a5 : decide ((((s[p]'hp).toNat : Nat) : Int) ≤ 57) = false := decide_eq_false (fun h => hnd ⟨h48, h⟩)
          clear h48 hnd
          go_enter Tryd.func20, Tryd.ntmps20
          go_wp2_with (first
            | (go_at_call 33; refine (kI' _).mono ?_; rintro e w1 ⟨rfl, hw1⟩; subst hw1; clear kI')
            | (go_at_call 35; refine kW.mono ?_; rintro e w2 ⟨rfl, hb2⟩; clear kW c0 c1 c2 c3 c4 c5 f0 f1 f2 f3 f4 f5; have T2 : Hid (TB w w2) := T0.out.on hb2; obtain ⟨c0, c1, c2, c3, c4, c5⟩ := T2.out.cells; obtain ⟨f0, f1, f2, f3, f4, f5⟩ := T2.out.fz))
          refine bodyPost_ret (v := .tuple #[.agg #[.int .i64 (K : Nat), .int .i64 (F : Nat), .int .i64 (T : Nat), .string (strOfNums X)], .agg #[.int .i64 (Y : Nat), .int .i64 (A : Nat)]]) (by simp [results, Tryd.results20, go_sem, *]) rfl ⟨rfl, fin w2 T2.out⟩
        · have a4 : decide ((48 : Int) ≤ (((s[p]'hp).toNat : Nat) : Int)) = false := decide_eq_false h48
          clear h48 hnd
          go_enter Tryd.func20, Tryd.ntmps20
          go_wp2_with (first
            | (go_at_call 33; refine (kI' _).mono ?_; rintro e w1 ⟨rfl, hw1⟩; subst hw1; clear kI')
            | (go_at_call 35; refine kW.mono ?_; rintro e w2 ⟨rfl, hb2⟩; clear kW c0 c1 c2 c3 c4 c5 f0 f1 f2 f3 f4 f5; have T2 : Hid (TB w w2) := T0.out.on hb2; obtain ⟨c0, c1, c2, c3, c4, c5⟩ := T2.out.cells; obtain ⟨f0, f1, f2, f3, f4, f5⟩ := T2.out.fz))
          refine bodyPost_ret (v := .tuple #[.agg #[.int .i64 (K : Nat), .int .i64 (F : Nat), .int .i64 (T : Nat), .string (strOfNums X)], .agg #[.int .i64 (Y : Nat), .int .i64 (A : Nat)]]) (by simp [results, Tryd.results20, go_sem, *]) rfl ⟨rfl, fin w2 T2.out⟩
end Go.Proofs.YtfkoghmbkgbgbaaDoor
