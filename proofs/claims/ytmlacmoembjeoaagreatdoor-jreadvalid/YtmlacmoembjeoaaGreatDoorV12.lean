/-
  The token that begins at a place: jlex.tokenAt.
  A text's tokens: jlex.Lex.
  A reader of tokens in memory: its cells, the stack of what is open, and which block belongs to what.
  A node appended to a row of the reader's own, in a region that draws its order; the innermost of what is open.
  The innermost of what is open: where it lies.
  A whole value put into the innermost of what is open: the memory behind it.
-/
import Derived.Test.YtmlacmoembjeoaaGreatDoorV11
import Derived.Test.YtmlacmoembjeoaaGreatDoorV2
import Derived.Deep.DeepAppendWide
import Derived.Deep.RegionLaw
import Derived.Deep.RegionHeld3
namespace Go.Proofs.YtmlacmoembjeoaaGreatDoor
open Go.RowKit
set_option linter.unusedVariables false

set_option maxRecDepth 100000 in
theorem sign_ix : ∀ c : Nat, c < 256 → Lib.indexByte [123, 125, 91, 93, 58, 44] ((c : Int).toNat.toUInt8) = ((signN (c : Int) : Nat) : Int) - 1 := by decide
theorem sign_any (c : Nat) (hc : c < 256) (w : World) : Calls Tryz.prog 71 #[.string ⟨#[123, 125, 91, 93, 58, 44]⟩, .int .u8 (c : Int)] w fun e w' => e = .returned (.int .i64 (((signN (c : Int) : Nat) : Int) - 1)) ∧ w' = w := by
  have k := ib_any ⟨#[123, 125, 91, 93, 58, 44]⟩ (c : Int) w
  have e : (⟨#[123, 125, 91, 93, 58, 44]⟩ : ByteArray).data.toList = [123, 125, 91, 93, 58, 44] := rfl
  rw [e, sign_ix c hc] at k
  exact k
theorem tok_head (s : ByteArray) (p : Nat) (hp : p < s.size) : ((bs s).drop p).getD 0 0 = (((s[p]'hp).toNat : Nat) : Int) := by rw [getD_drop, Nat.add_zero, bs_at s hp]
theorem tok_lit (K F T : Nat) (X : List Int) (Y A : Nat) : tokV (⟨K, F, T, X⟩, Y, A) = .tuple #[.agg #[.int .i64 (K : Nat), .int .i64 (F : Nat), .int .i64 (T : Nat), .string (strOfNums X)], .agg #[.int .i64 (Y : Nat), .int .i64 (A : Nat)]] := rfl
set_option maxHeartbeats 8000000 in
set_option maxRecDepth 100000 in
/-- jlex.tokenAt. -/
theorem tokat_any (s : ByteArray) (p : Nat) (w : World) (hp : p < s.size) (hs : s.size ≤ 4096) :
    Calls Tryz.prog 45 #[.string s, .int .i64 (p : Int)] w fun e w' => e = .returned (tokV (tokR ((bs s).drop p) p)) ∧ Below w.heap.size w w' := by
  have T0 : Hid (TB w ((w.alloc (.cells #[.int .i64 0, .int .i64 0, .int .i64 0, .string ⟨#[]⟩] 40)).alloc (.cells #[.int .i64 0, .int .i64 0] 29))) := tb_new w
  obtain ⟨c0, c1, c2, c3, c4, c5⟩ := T0.out.cells
  obtain ⟨f0, f1, f2, f3, f4, f5⟩ := T0.out.fz
  have hc := UInt8.toNat_lt (s[p]'hp)
  have kI := fun w' => sign_any (s[p]'hp).toNat hc w'
  have hh := tok_head s p hp
  obtain ⟨⟨⟨K, F, T, X⟩, Y, A⟩, hR⟩ : ∃ R, tokR ((bs s).drop p) p = R := ⟨_, rfl⟩
  have hRR := hR
  unfold tokR at hRR
  rw [hh] at hRR
  rw [hR, tok_lit]
  clear hR
  by_cases h1 : signN (((s[p]'hp).toNat : Nat) : Int) ≠ 0
  · rw [if_pos h1] at hRR
    have hle := sign_le (((s[p]'hp).toNat : Nat) : Int)
    generalize signN (((s[p]'hp).toNat : Nat) : Int) = G at *
    simp only [Prod.mk.injEq, Tk.mk.injEq] at hRR
    obtain ⟨⟨rfl, rfl, rfl, rfl⟩, rfl, rfl⟩ := hRR
    obtain ⟨Z, hZ⟩ : ∃ Z, ((G : Nat) : Int) - 1 = Z := ⟨_, rfl⟩
    rw [hZ] at kI
    have a1 : decide ((0 : Int) ≤ Z) = true := by simp; omega
    have W1 : IntKind.i64.wrap (1 + Z) = ((G : Nat) : Int) := by rw [IntKind.wrap_i64]; omega
    clear hZ
    have W2 : IntKind.i64.wrap ((p : Int) + 1) = ((p + 1 : Nat) : Int) := by rw [IntKind.wrap_i64]; omega
    have hB : Hid (Below w.heap.size w ((w.alloc (.cells #[.int .i64 0, .int .i64 0, .int .i64 0, .string ⟨#[]⟩] 40)).alloc (.cells #[.int .i64 0, .int .i64 0] 29))) := T0.out.bel
    generalize p + 1 = P1 at *
    clear h1 hle hh hc
    show Calls _ _ _ _ (fun e w' => e = .returned (.tuple #[.agg #[.int .i64 (G : Nat), .int .i64 (p : Nat), .int .i64 (P1 : Nat), .string ⟨#[]⟩], .agg #[.int .i64 0, .int .i64 0]]) ∧ Below w.heap.size w w')
    go_enter Tryz.func45, Tryz.ntmps45
    go_wp2_with (go_at_call 71; refine (kI _).mono ?_; rintro e w1 ⟨rfl, hw1⟩; subst hw1)
    refine bodyPost_ret (v := .tuple #[.agg #[.int .i64 (G : Nat), .int .i64 (p : Nat), .int .i64 (P1 : Nat), .string ⟨#[]⟩], .agg #[.int .i64 0, .int .i64 0]]) (by simp [results, Tryz.results45, go_sem, *]) rfl ⟨rfl, ?_⟩
    first
    | exact hB.out
    | exact (alloc_below w _).trans ((alloc_below _ _).mono (Nat.le_of_lt (alloc_lt _ _)))
  · rw [if_neg h1] at hRR
    have hG0 : signN (((s[p]'hp).toNat : Nat) : Int) = 0 := by omega
    rw [hG0] at kI
    have kI' : ∀ w', Calls Tryz.prog 71 #[.string ⟨#[123, 125, 91, 93, 58, 44]⟩, .int .u8 (((s[p]'hp).toNat : Nat) : Int)] w' fun e w'' => e = .returned (.int .i64 (-1)) ∧ w'' = w' := kI
    clear kI hG0 h1
    by_cases h2 : (((s[p]'hp).toNat : Nat) : Int) = 34
    · rw [if_pos h2] at hRR
      have a2 : ((((s[p]'hp).toNat : Nat) : Int) == 34) = true := by simp [h2]
      have kS := strat_any s p ((w.alloc (.cells #[.int .i64 0, .int .i64 0, .int .i64 0, .string ⟨#[]⟩] 40)).alloc (.cells #[.int .i64 0, .int .i64 0] 29)) hp (by omega)
      rw [List.drop_drop] at hRR
      have hRR' := hRR
      obtain ⟨⟨x, to, y, a⟩, hS⟩ : ∃ S, strL ((bs s).drop (p + 1)) (p + 1) r0 = S := ⟨_, rfl⟩
      rw [hS] at hRR kS
      simp only [Prod.mk.injEq, Tk.mk.injEq] at hRR
      obtain ⟨⟨rfl, rfl, rfl, rfl⟩, rfl, rfl⟩ := hRR
      unfold strV at kS
      dsimp only at kS
      clear hS hRR' hh hc h2
      go_enter Tryz.func45, Tryz.ntmps45
      go_wp2_with (first
        | (go_at_call 71; refine (kI' _).mono ?_; rintro e w1 ⟨rfl, hw1⟩; subst hw1; clear kI')
        | (go_at_call 72; refine kS.mono ?_; rintro e w2 ⟨rfl, hb2⟩; clear kS c0 c1 c2 c3 c4 c5 f0 f1 f2 f3 f4 f5; have T2 : Hid (TB w w2) := T0.out.on hb2; have T3 : Hid (TB w (w2.alloc (.cells #[.int .i64 (y : Nat), .int .i64 (a : Nat)] 29))) := T2.out.on (alloc_below w2 _); obtain ⟨c0, c1, c2, c3, c4, c5⟩ := T2.out.cells; obtain ⟨f0, f1, f2, f3, f4, f5⟩ := T2.out.fz; have N0 : w.heap.size < w2.heap.size := T2.out.tok.lt; have N1 : w.heap.size + 1 < w2.heap.size := T2.out.flt.lt))
      go_region
      all_goals
        go_wp2
        refine bodyPost_ret (v := .tuple #[.agg #[.int .i64 7, .int .i64 (p : Nat), .int .i64 (to : Nat), .string (strOfNums x)], .agg #[.int .i64 (y : Nat), .int .i64 (a : Nat)]]) (by simp [results, Tryz.results45, go_sem, *]) rfl ⟨rfl, ?_⟩
        have h6 : Below w.heap.size w ((((((w2.setCell ⟨w.heap.size, 0, none⟩ (.int .i64 7)).setCell ⟨w.heap.size, 1, none⟩ (.int .i64 (p : Nat))).setCell ⟨w.heap.size, 2, none⟩ (.int .i64 (to : Nat))).setCell ⟨w.heap.size, 3, none⟩ (.string (strOfNums x))).setCell ⟨w.heap.size + 1, 0, none⟩ (.int .i64 (y : Nat))).setCell ⟨w.heap.size + 1, 1, none⟩ (.int .i64 (a : Nat))) := by
          refine Below.setCell (Below.setCell (Below.setCell (Below.setCell (Below.setCell (Below.setCell T2.out.bel ?_ _) ?_ _) ?_ _) ?_ _) ?_ _) ?_ _ <;> simp
        exact (h6.alloc h6.size _).drew
    · rw [if_neg h2] at hRR
      have a2 : ((((s[p]'hp).toNat : Nat) : Int) == 34) = false := by simp [h2]
      have kN := numat_any s p ((w.alloc (.cells #[.int .i64 0, .int .i64 0, .int .i64 0, .string ⟨#[]⟩] 40)).alloc (.cells #[.int .i64 0, .int .i64 0] 29)) hp hs
      have kW := wordat_any s p ((w.alloc (.cells #[.int .i64 0, .int .i64 0, .int .i64 0, .string ⟨#[]⟩] 40)).alloc (.cells #[.int .i64 0, .int .i64 0] 29)) hp hs
      have fin : ∀ w2, TB w w2 → Below w.heap.size w ((((((w2.setCell ⟨w.heap.size, 0, none⟩ (.int .i64 (K : Nat))).setCell ⟨w.heap.size, 1, none⟩ (.int .i64 (F : Nat))).setCell ⟨w.heap.size, 2, none⟩ (.int .i64 (T : Nat))).setCell ⟨w.heap.size, 3, none⟩ (.string (strOfNums X))).setCell ⟨w.heap.size + 1, 0, none⟩ (.int .i64 (Y : Nat))).setCell ⟨w.heap.size + 1, 1, none⟩ (.int .i64 (A : Nat))) := fun w2 h2 => by
        refine Below.setCell (Below.setCell (Below.setCell (Below.setCell (Below.setCell (Below.setCell h2.bel ?_ _) ?_ _) ?_ _) ?_ _) ?_ _) ?_ _ <;> simp
      by_cases h3 : (((s[p]'hp).toNat : Nat) : Int) = 45 ∨ isD (((s[p]'hp).toNat : Nat) : Int) = true
      · rw [if_pos h3] at hRR
        rw [hRR, tok_lit] at kN
        clear kW hRR hh h2 hc
        by_cases h45 : (((s[p]'hp).toNat : Nat) : Int) = 45
        · have a3 : ((((s[p]'hp).toNat : Nat) : Int) == 45) = true := by simp [h45]
          clear h3 h45
          go_enter Tryz.func45, Tryz.ntmps45
          go_wp2_with (first
            | (go_at_call 71; refine (kI' _).mono ?_; rintro e w1 ⟨rfl, hw1⟩; subst hw1; clear kI')
            | (go_at_call 73; refine kN.mono ?_; rintro e w2 ⟨rfl, hb2⟩; clear kN c0 c1 c2 c3 c4 c5 f0 f1 f2 f3 f4 f5; have T2 : Hid (TB w w2) := T0.out.on hb2; obtain ⟨c0, c1, c2, c3, c4, c5⟩ := T2.out.cells; obtain ⟨f0, f1, f2, f3, f4, f5⟩ := T2.out.fz))
          refine bodyPost_ret (v := .tuple #[.agg #[.int .i64 (K : Nat), .int .i64 (F : Nat), .int .i64 (T : Nat), .string (strOfNums X)], .agg #[.int .i64 (Y : Nat), .int .i64 (A : Nat)]]) (by simp [results, Tryz.results45, go_sem, *]) rfl ⟨rfl, fin w2 T2.out⟩
        · have h3' : isD (((s[p]'hp).toNat : Nat) : Int) = true := by
            rcases h3 with h | h
            · exact absurd h h45
            · exact h
          have hd := isD_iff.1 h3'
          have a3 : ((((s[p]'hp).toNat : Nat) : Int) == 45) = false := by simp [h45]
          have a4 : decide ((48 : Int) ≤ (((s[p]'hp).toNat : Nat) : Int)) = true := by simp; omega
          have a5 : decide ((((s[p]'hp).toNat : Nat) : Int) ≤ 57) = true := by simp; omega
          clear h3 h45 h3' hd
          go_enter Tryz.func45, Tryz.ntmps45
          go_wp2_with (first
            | (go_at_call 71; refine (kI' _).mono ?_; rintro e w1 ⟨rfl, hw1⟩; subst hw1; clear kI')
            | (go_at_call 73; refine kN.mono ?_; rintro e w2 ⟨rfl, hb2⟩; clear kN c0 c1 c2 c3 c4 c5 f0 f1 f2 f3 f4 f5; have T2 : Hid (TB w w2) := T0.out.on hb2; obtain ⟨c0, c1, c2, c3, c4, c5⟩ := T2.out.cells; obtain ⟨f0, f1, f2, f3, f4, f5⟩ := T2.out.fz))
          refine bodyPost_ret (v := .tuple #[.agg #[.int .i64 (K : Nat), .int .i64 (F : Nat), .int .i64 (T : Nat), .string (strOfNums X)], .agg #[.int .i64 (Y : Nat), .int .i64 (A : Nat)]]) (by simp [results, Tryz.results45, go_sem, *]) rfl ⟨rfl, fin w2 T2.out⟩
      · rw [if_neg h3] at hRR
        have hWW : wdR (((s[p]'hp).toNat : Nat) : Int) ((bs s).drop p) p = (⟨K, F, T, X⟩, Y, A) := by rw [← hRR]; rfl
        rw [hWW, tok_lit] at kW
        have h45 : ¬ (((s[p]'hp).toNat : Nat) : Int) = 45 := fun h => h3 (.inl h)
        have hnd : ¬ (48 ≤ (((s[p]'hp).toNat : Nat) : Int) ∧ (((s[p]'hp).toNat : Nat) : Int) ≤ 57) := fun h => h3 (.inr (isD_iff.2 h))
        have a3 : ((((s[p]'hp).toNat : Nat) : Int) == 45) = false := by simp [h45]
        clear kN hRR hWW h3 h45 hh h2 hc
        by_cases h48 : (48 : Int) ≤ (((s[p]'hp).toNat : Nat) : Int)
        · have a4 : decide ((48 : Int) ≤ (((s[p]'hp).toNat : Nat) : Int)) = true := decide_eq_true h48
          have a5 : decide ((((s[p]'hp).toNat : Nat) : Int) ≤ 57) = false := decide_eq_false (fun h => hnd ⟨h48, h⟩)
          clear h48 hnd
          go_enter Tryz.func45, Tryz.ntmps45
          go_wp2_with (first
            | (go_at_call 71; refine (kI' _).mono ?_; rintro e w1 ⟨rfl, hw1⟩; subst hw1; clear kI')
            | (go_at_call 74; refine kW.mono ?_; rintro e w2 ⟨rfl, hb2⟩; clear kW c0 c1 c2 c3 c4 c5 f0 f1 f2 f3 f4 f5; have T2 : Hid (TB w w2) := T0.out.on hb2; obtain ⟨c0, c1, c2, c3, c4, c5⟩ := T2.out.cells; obtain ⟨f0, f1, f2, f3, f4, f5⟩ := T2.out.fz))
          refine bodyPost_ret (v := .tuple #[.agg #[.int .i64 (K : Nat), .int .i64 (F : Nat), .int .i64 (T : Nat), .string (strOfNums X)], .agg #[.int .i64 (Y : Nat), .int .i64 (A : Nat)]]) (by simp [results, Tryz.results45, go_sem, *]) rfl ⟨rfl, fin w2 T2.out⟩
        · have a4 : decide ((48 : Int) ≤ (((s[p]'hp).toNat : Nat) : Int)) = false := decide_eq_false h48
          clear h48 hnd
          go_enter Tryz.func45, Tryz.ntmps45
          go_wp2_with (first
            | (go_at_call 71; refine (kI' _).mono ?_; rintro e w1 ⟨rfl, hw1⟩; subst hw1; clear kI')
            | (go_at_call 74; refine kW.mono ?_; rintro e w2 ⟨rfl, hb2⟩; clear kW c0 c1 c2 c3 c4 c5 f0 f1 f2 f3 f4 f5; have T2 : Hid (TB w w2) := T0.out.on hb2; obtain ⟨c0, c1, c2, c3, c4, c5⟩ := T2.out.cells; obtain ⟨f0, f1, f2, f3, f4, f5⟩ := T2.out.fz))
          refine bodyPost_ret (v := .tuple #[.agg #[.int .i64 (K : Nat), .int .i64 (F : Nat), .int .i64 (T : Nat), .string (strOfNums X)], .agg #[.int .i64 (Y : Nat), .int .i64 (A : Nat)]]) (by simp [results, Tryz.results45, go_sem, *]) rfl ⟨rfl, fin w2 T2.out⟩
end Go.Proofs.YtmlacmoembjeoaaGreatDoor
namespace Go.Proofs.YtmlacmoembjeoaaGreatDoor
open Go.RowKit
set_option linter.unusedVariables false

/-! ### Tokens that a call has made -/
def tkC (t : Tk) : List Value := [.int .i64 (t.kind : Nat), .int .i64 (t.frm : Nat), .int .i64 (t.to : Nat), .string (strOfNums t.txt)]
def tkCs (L : List Tk) : List Value := (L.map tkC).flatten
theorem tkCs_snoc (L : List Tk) (t : Tk) : tkCs (L ++ [t]) = tkCs L ++ tkC t := by simp [tkCs]
/-- The slice v holds these tokens, in new memory. -/
def OwnsT (w : World) (base : Nat) (v : Value) (L : List Tk) : Prop := w.ownsRow base 40 4 v L.length (tkCs L)
theorem ownsT_nil (w : World) (base : Nat) : OwnsT w base (.slice none 0 0) [] := World.ownsRow_nil w base 40 4
theorem info41 : (Tryz.prog.info? 40).map (fun i => (i.zero, i.size, i.bytes)) = some (some (.agg #[.int .i64 0, .int .i64 0, .int .i64 0, .string ⟨#[]⟩]), 4, 40) := by kernel_rfl
theorem OwnsT.kept {w w' : World} {base : Nat} {v : Value} {L : List Tk} (h : OwnsT w base v L) (hb : Below w.heap.size w w') : OwnsT w' base v L := by
  obtain ⟨h1, h2⟩ := h
  refine ⟨h1, ?_⟩
  rcases h2 with h2 | ⟨g, cap, cur, hv, hg, hc, r⟩
  · exact .inl h2
  · exact .inr ⟨g, cap, cur, hv, hg, by rw [hb.block g (Array.getElem?_eq_some_iff.1 hc).1]; exact hc, r⟩
theorem OwnsT.form {w : World} {base : Nat} {v : Value} {L : List Tk} (h : OwnsT w base v L) : ∃ a n cap, v = .slice a n cap ∧ Hid (L.length = n) ∧ n ≤ cap ∧ cap ≤ 9223372036854775807 := by
  rcases h.2 with ⟨hv, hn⟩ | ⟨g, cap, cur, hv, hg, hc, hnc, hcm, r⟩
  · exact ⟨none, 0, 0, hv, hn, by omega, by omega⟩
  · exact ⟨some ⟨g, 0, none⟩, L.length, cap, hv, rfl, hnc, by unfold maxLen at hcm; omega⟩
theorem addr_add0 (g j : Nat) : (⟨g, 0, none⟩ : Addr).add j = ⟨g, j, none⟩ := by simp [Addr.add]; exact fun h => h.symm
theorem OwnsT.move {w w' : World} {base : Nat} {v : Value} {L : List Tk} (h : OwnsT w base v L) (hh : ∀ j, base ≤ j → j < w.heap.size → w'.heap[j]? = w.heap[j]?) : OwnsT w' base v L := by
  obtain ⟨h1, h2⟩ := h
  refine ⟨h1, ?_⟩
  rcases h2 with h2 | ⟨g, cap, cur, hv, hg, hc, r⟩
  · exact .inl h2
  · exact .inr ⟨g, cap, cur, hv, hg, by rw [hh g hg (Array.getElem?_eq_some_iff.1 hc).1]; exact hc, r⟩
/-- What an append to tokens leaves. -/
theorem OwnsT.out {w w3 w4 : World} {base : Nat} {v : Value} {L : List Tk} (h : OwnsT w base v L) (hg : w3.grownBy w4 v.ownBlock) {j : Nat} (hj : j < w3.heap.size) (ho : j < base ∨ w.heap.size ≤ j) : w4.heap[j]? = w3.heap[j]? := by
  refine hg.block j hj ?_
  rcases h.2 with ⟨rfl, _⟩ | ⟨g, cap, cur, rfl, hg', hc, _⟩
  · simp [Value.ownBlock]
  · have := (Array.getElem?_eq_some_iff.1 hc).1
    intro e
    simp [Value.ownBlock] at e
    omega
/-- 'append(v, t)'. -/
theorem wpList_append_tok {w : World} {ops : Array Oper} {rest : List Oper} {o : Oper} {a : Act} {Q : Exit → Act → World → Prop} (hgd : o.guard = none) (s x : Operand)
    (ho : o.op = .call { callee := .builtin .append, args := #[s, x], argTypes := #[36, 36] })
    (base : Nat) (v : Value) (L : List Tk) (t : Tk) (hs : a.eval s = v) (hown : OwnsT w base v L)
    (g : Nat) (hx : a.eval x = .slice (some ⟨g, 0, none⟩) 1 1) (hb : ∀ j, j < 4 → w.cell? ⟨g, j, none⟩ = (tkC t)[j]?)
    (hlen : L.length ≤ 100000) (hbase : base ≤ w.heap.size)
    (h : ∀ v' w', OwnsT w' base v' (L ++ [t]) → w.grownBy w' v.ownBlock → wpList Tryz.prog ops Q rest (a.put o.dst v') w') : wpList Tryz.prog ops Q (o :: rest) a w := by
  obtain ⟨i, hi, hz, hsz, hby⟩ := info_parts info41
  refine wpList_append_own_wide w hgd s x 36 ho base 40 i _ 4 40 Tryz.underlying36 hi hz hsz hby rfl (by decide) v L.length _ hs hown ⟨g, 0, none⟩ 1 1 (tkC t) hx rfl ?_ ?_ (by unfold maxLen; omega) (by omega) hbase ?_
  · intro j u hu
    have hj : j < 4 := (List.getElem?_eq_some_iff.1 hu).1
    rw [addr_add0, hb j hj]; exact hu
  · intro u hu
    simp [tkC] at hu
    rcases hu with rfl | rfl | rfl | rfl <;> rfl
  · intro v' w' h1 h2 _
    refine h v' w' ?_ h2
    unfold OwnsT
    rw [List.length_append, tkCs_snoc]
    exact h1
/-- The worlds of an appended token. -/
theorem tok_append {w2 w4 : World} {B : Nat} {v : Value} {L : List Tk} {C D : Array Value} (O2 : OwnsT w2 (B + 1) v L) (S2 : B + 1 ≤ w2.heap.size)
    (hg : (((w2.alloc (.cells C 40)).alloc (.cells D 29)).alloc (.cells C 40)).grownBy w4 v.ownBlock) :
    Blk w4 w2.heap.size C 40 ∧ (∀ cs T, Blk w2 B cs T → Blk w4 B cs T) ∧ (∀ w, Below B w w2 → Below B w w4) ∧ B + 1 ≤ w4.heap.size := by
  have b1 := alloc_below w2 (.cells C 40)
  have b2 := alloc_below (w2.alloc (.cells C 40)) (.cells D 29)
  have b3 := alloc_below ((w2.alloc (.cells C 40)).alloc (.cells D 29)) (.cells C 40)
  have z1 : (w2.alloc (.cells C 40)).heap.size = w2.heap.size + 1 := by simp
  have z2 : ((w2.alloc (.cells C 40)).alloc (.cells D 29)).heap.size = w2.heap.size + 1 + 1 := by simp
  have z3 : (((w2.alloc (.cells C 40)).alloc (.cells D 29)).alloc (.cells C 40)).heap.size = w2.heap.size + 1 + 1 + 1 := by simp
  have old : ∀ j, j < B + 1 → w4.heap[j]? = w2.heap[j]? := fun j hj => by
    rw [O2.out hg (by omega) (.inl hj), b3.block j (by omega), b2.block j (by omega), b1.block j (by omega)]
  refine ⟨?_, fun cs T h => ?_, fun w h => ⟨hg.os.trans h.os, hg.tape.trans h.tape, hg.output.trans h.output, ?_, fun k hk => ?_⟩, ?_⟩
  · show w4.heap[w2.heap.size]? = _
    rw [O2.out hg (by omega) (.inr (Nat.le_refl _)), b3.block _ (by omega), b2.block _ (by omega)]
    exact blk_new w2 _ _
  · exact (old B (by omega)).trans h
  · have := hg.size; have := h.size; omega
  · exact (old k (by omega)).trans (h.block k hk)
  · have := hg.size; omega
theorem tok_cells (w2 : World) (C D : Array Value) (j : Nat) : (((w2.alloc (.cells C 40)).alloc (.cells D 29)).alloc (.cells C 40)).cell? ⟨w2.heap.size + 1 + 1, j, none⟩ = C[j]? := by
  have h : Blk (((w2.alloc (.cells C 40)).alloc (.cells D 29)).alloc (.cells C 40)) ((w2.alloc (.cells C 40)).alloc (.cells D 29)).heap.size C 40 := blk_new _ _ _
  have z2 : ((w2.alloc (.cells C 40)).alloc (.cells D 29)).heap.size = w2.heap.size + 1 + 1 := by simp
  rw [z2] at h
  exact h.cell j
theorem OwnsT.thrice {w2 : World} {B : Nat} {v : Value} {L : List Tk} {C D : Array Value} (h : OwnsT w2 B v L) : OwnsT (((w2.alloc (.cells C 40)).alloc (.cells D 29)).alloc (.cells C 40)) B v L := ((h.kept (alloc_below _ _)).kept (alloc_below _ _)).kept (alloc_below _ _)
/-- What Lex answers. -/
theorem lex_next {zs : List Int} {p k : Nat} (hk : k = p + gapN (zs.drop p)) (hlt : k < zs.length) : (zs.drop p).drop (gapN (zs.drop p)) = zs.drop k ∧ zs.drop k ≠ [] := by
  refine ⟨by rw [List.drop_drop, hk], ?_⟩
  intro h
  have := congrArg List.length h
  rw [List.length_drop, List.length_nil] at this
  omega
set_option maxHeartbeats 8000000 in
set_option maxRecDepth 100000 in
/-- jlex.Lex. -/
theorem lex_any (a : Option Addr) (n cap : Nat) (zs : List Int) (w : World) (hl : zs.length = n) (hb : Bytes w a zs) (hc : n ≤ cap) (hn : n ≤ 4096) :
    Calls Tryz.prog 28 #[.slice a n cap] w fun e w' => ∃ v, e = .returned (.tuple #[v, .agg #[.int .i64 ((lexA zs 0).2.1 : Nat), .int .i64 ((lexA zs 0).2.2 : Nat)]]) ∧ OwnsT w' (w.heap.size + 1) v (lexA zs 0).1 ∧ Below w.heap.size w w' := by
  have hA := alloc_below w (.cells #[.int .i64 0, .int .i64 0] 29)
  have K0 : Hid (Blk (w.alloc (.cells #[.int .i64 0, .int .i64 0] 29)) w.heap.size #[.int .i64 0, .int .i64 0] 29) := blk_new w _ _
  have B0 : Hid (Below w.heap.size w (w.alloc (.cells #[.int .i64 0, .int .i64 0] 29))) := hA
  have hcv := conv_str (hb.kept hA) n cap hl
  have hz := hb.1
  obtain ⟨s, hs⟩ : ∃ s, strOfNums zs = s := ⟨_, rfl⟩
  rw [hs] at hcv
  have hbs : Hid (bs s = zs) := by show _ = _; rw [← hs, bs_str hz]
  have hss : s.size = n := by rw [← bs_len, hbs.out, hl]
  obtain ⟨⟨LR, YR, AR⟩, hR⟩ : ∃ R, lexA zs 0 = R := ⟨_, rfl⟩
  rw [hR]
  have hR' : Hid (([] : List Tk) ++ (lexA (zs.drop 0) 0).1 = LR ∧ (lexA (zs.drop 0) 0).2 = (YR, AR)) := by
    rw [List.drop_zero, hR]; exact ⟨rfl, rfl⟩
  have kG := fun (p : Nat) (hp : p ≤ s.size) (w' : World) => gaps_any s p w' hp (by omega)
  rw [hbs.out] at kG
  have kG0 : ∀ w', Calls Tryz.prog 44 #[.string s, .int .i64 0] w' fun e w'' => e = .returned (.int .i64 ((0 + gapN (zs.drop 0) : Nat) : Int)) ∧ w'' = w' := fun w' => kG 0 (Nat.zero_le _) w'
  have hg0 : 0 + gapN (zs.drop 0) ≤ s.size := by have := gap_le (zs.drop 0); rw [List.length_drop] at this; omega
  obtain ⟨k0, hk0⟩ : ∃ k0, 0 + gapN (zs.drop 0) = k0 := ⟨_, rfl⟩
  rw [hk0] at kG0 hg0
  have hk0' : Hid (k0 = 0 + gapN (zs.drop 0)) := hk0.symm
  have hlz : Hid (zs.length = s.size) := by show _ = _; omega
  have a1 : decide ((4096 : Int) < (n : Int)) = false := by simp; omega
  have S1 : (w.alloc (.cells #[.int .i64 0, .int .i64 0] 29)).heap.size = w.heap.size + 1 := by simp
  have S1' : Hid (w.heap.size + 1 ≤ (w.alloc (.cells #[.int .i64 0, .int .i64 0] 29)).heap.size) := by show _ ≤ _; omega
  have hs96 : s.size ≤ 4096 := by omega
  clear hs hl hb hA hR hk0 hss hn hz S1
  go_enter Tryz.func28, Tryz.ntmps28
  go_wp2_with (go_at_call 44; refine (kG0 _).mono ?_; rintro e w1 ⟨rfl, hw1⟩; subst hw1; clear kG0)
  go_loopw [5, 6] (fun v u wr => ∃ (k p : Nat) (L : List Tk), k ≤ s.size ∧ u = .int .i64 k ∧ Hid (k = p + gapN (zs.drop p)) ∧ Hid (L.length ≤ k) ∧ Hid (OwnsT wr (w.heap.size + 1) v L) ∧ Hid (Blk wr w.heap.size #[.int .i64 0, .int .i64 0] 29) ∧ Hid (Below w.heap.size w wr) ∧ Hid (w.heap.size + 1 ≤ wr.heap.size) ∧ Hid (L ++ (lexA (zs.drop p) p).1 = LR ∧ (lexA (zs.drop p) p).2 = (YR, AR))) (fun _ u _ => s.size - (intOf u).toNat)
  case atStart => exact ⟨k0, 0, [], hg0, rfl, hk0', Nat.zero_le _, ownsT_nil _ _, K0, B0, S1', hR'⟩
  case round =>
    clear hR' hk0' hg0
    obtain ⟨k, p, L, hk, rfl, hkp, hLk, hO, hK, hB, hS, hE⟩ := hrel
    by_cases hlt : k < s.size
    · have hzl : (k : Int) < ((s.size : Nat) : Int) := by omega
      have kT := tokat_any s k wr hlt hs96
      rw [hbs.out] at kT
      obtain ⟨e1, e2⟩ := lex_next hkp.out (by rw [hlz.out]; exact hlt)
      have hbd := tok_bounds e2 k
      have hlx1 := lex_bad (b := zs.drop p) (p := p) (by rw [e1]; exact e2)
      have hlx2 := lex_tok (b := zs.drop p) (p := p) (by rw [e1]; exact e2)
      rw [e1, ← hkp.out] at hlx1 hlx2
      obtain ⟨⟨⟨K, F, T, X⟩, Y, A⟩, hTK⟩ : ∃ R, tokR (zs.drop k) k = R := ⟨_, rfl⟩
      rw [hTK] at kT hbd hlx1 hlx2
      rw [tok_lit] at kT
      have N0 : Hid (∀ w2, Below wr.heap.size wr w2 → w.heap.size < w2.heap.size) := fun w2 h2 => by have := hS.out; have := h2.size; omega
      by_cases hY : Y = 0
      · have hlx := hlx2 hY
        obtain ⟨q1, q2, q3, q4, q5⟩ := hbd.1 hY
        simp only at q1 q2 q3 hlx
        rw [List.length_drop, hlz.out] at q3
        have hT : T ≤ s.size := by omega
        have hkT : k < T := q2
        have hRR := hE.out
        rw [hlx, List.drop_drop] at hRR
        have eT : p + (T - p) = T := by have := hkp.out; omega
        rw [eT] at hRR
        have hRR' : Hid ((L ++ [⟨K, F, T, X⟩]) ++ (lexA (zs.drop T) T).1 = LR ∧ (lexA (zs.drop T) T).2 = (YR, AR)) := ⟨by rw [← hRR.1]; simp, hRR.2⟩
        have kG1 := kG T hT
        have hgT : T + gapN (zs.drop T) ≤ s.size := by have := gap_le (zs.drop T); rw [List.length_drop, hlz.out] at this; omega
        obtain ⟨k', hk'⟩ : ∃ k', T + gapN (zs.drop T) = k' := ⟨_, rfl⟩
        rw [hk'] at kG1 hgT
        have hk2 : Hid (k' = T + gapN (zs.drop T)) := hk'.symm
        have hTk' : Hid (T ≤ k') := by show _ ≤ _; omega
        have hdec : Hid (s.size - k' < s.size - k) := by show _ < _; have := hTk'.out; omega
        have hL' : Hid ((L ++ [(⟨K, F, T, X⟩ : Tk)]).length ≤ k') := by show _ ≤ _; have := hLk.out; have := hTk'.out; simp; omega
        have hL9 : Hid (L.length ≤ 100000) := by show _ ≤ _; have := hLk.out; omega
        have aY : (((Y : Nat) : Int) != 0) = false := by simp; omega
        obtain ⟨av, nv, cv, rfl, hnv, hcv1, hcv2⟩ := hO.out.form
        have T64 : (T : Int) ≤ 9223372036854775807 := by omega
        clear hRR eT hlx hlx1 hlx2 hE hTK hbd e1 e2 hkp hY kG q1 q2 q3 q4 q5 hk' hkT
        go_wp2_with (first
          | (go_at_call 45; refine kT.mono ?_; rintro e w2 ⟨rfl, hb2⟩; clear kT; have O2 : Hid (OwnsT w2 (w.heap.size + 1) (.slice av nv cv) L) := hO.out.kept hb2; have B2 : Hid (Below w.heap.size w w2) := hB.out.trans (hb2.mono hB.out.size); have S2 : Hid (w.heap.size + 1 ≤ w2.heap.size) := Nat.le_trans hS.out hb2.size; have K2 : Hid (Blk w2 w.heap.size #[.int .i64 0, .int .i64 0] 29) := hK.out.kept hb2 hK.out.lt)
          | (at_builtin; go_loud (refine wpList_append_tok rfl _ _ rfl (w.heap.size + 1) (.slice av nv cv) L ⟨K, F, T, X⟩ rfl O2.out.thrice (w2.heap.size + 1 + 1) rfl (fun j _ => (tok_cells w2 _ _ j).trans Array.getElem?_toList.symm) hL9.out (by have := S2.out; simp; omega) ?_; intro v4 w4 hO4 hg4; obtain ⟨bk4, ks4, bl4, sz4⟩ := tok_append O2.out S2.out hg4; have O4 : Hid (OwnsT w4 (w.heap.size + 1) v4 (L ++ [⟨K, F, T, X⟩])) := hO4; have B4 : Hid (Below w.heap.size w w4) := bl4 w B2.out; have K4 : Hid (Blk w4 w.heap.size #[.int .i64 0, .int .i64 0] 29) := ks4 _ _ K2.out; have S4 : Hid (w.heap.size + 1 ≤ w4.heap.size) := sz4; have d2 : w4.cell? ⟨w2.heap.size, 2, none⟩ = some (.int .i64 (T : Nat)) := bk4.cell 2; have e2 := bk4.fz 2; clear bk4 ks4 bl4 sz4 hO4 hg4))
          | (go_at_call 44; refine (kG1 _).mono ?_; rintro e w5 ⟨rfl, hw5⟩; subst hw5; clear kG1))
        go_roundw
        case rel => exact ⟨k', T, L ++ [⟨K, F, T, X⟩], hgT, rfl, hk2, hL', O4, K4, B4, S4, hRR'⟩
        case measure => simp [intOf]; exact hdec.out
      · have hlx := hlx1 hY
        have hRR := hE.out
        rw [hlx] at hRR
        have aY : (((Y : Nat) : Int) != 0) = true := by simp; omega
        obtain ⟨hL1, hL2⟩ := hRR
        rw [List.append_nil] at hL1
        simp only [Prod.mk.injEq] at hL2
        obtain ⟨rfl, rfl⟩ := hL2
        subst hL1
        obtain ⟨av, nv, cv, rfl, hnv, hcv1, hcv2⟩ := hO.out.form
        clear hlx hlx1 hlx2 hE hTK hbd e1 e2 hkp hY kG
        go_wp2_with (go_at_call 45; refine kT.mono ?_; rintro e w2 ⟨rfl, hb2⟩; clear kT; have K2 := hK.out.kept hb2 hK.out.lt; have c0 : w2.cell? ⟨w.heap.size, 0, none⟩ = some (.int .i64 0) := K2.cell 0; have c1 : w2.cell? ⟨w.heap.size, 1, none⟩ = some (.int .i64 0) := K2.cell 1; have f0 := K2.fz 0; have f1 := K2.fz 1; have N2 := N0.out w2 hb2; have O2 : Hid (OwnsT w2 (w.heap.size + 1) (.slice av nv cv) L) := hO.out.kept hb2; have B2 : Hid (Below w.heap.size w w2) := hB.out.trans (hb2.mono hB.out.size); clear K2)
        go_region
        all_goals
          go_wp2
          have h4 : Below w.heap.size w ((w2.setCell ⟨w.heap.size, 0, none⟩ (.int .i64 (Y : Nat))).setCell ⟨w.heap.size, 1, none⟩ (.int .i64 (A : Nat))) := by
            refine Below.setCell (Below.setCell B2.out ?_ _) ?_ _ <;> simp
          have hh : ∀ j, w.heap.size + 1 ≤ j → ((w2.setCell ⟨w.heap.size, 0, none⟩ (.int .i64 (Y : Nat))).setCell ⟨w.heap.size, 1, none⟩ (.int .i64 (A : Nat))).heap[j]? = w2.heap[j]? := fun j hj => ((Kq.set w.heap.size (j + 1) _ 1 _).block j (by omega) (by omega)).trans ((Kq.set w.heap.size (j + 1) _ 0 _).block j (by omega) (by omega))
          have h5 := (O2.out.move fun j hj _ => hh j hj)
          have h6 := (alloc_below ((w2.setCell ⟨w.heap.size, 0, none⟩ (.int .i64 (Y : Nat))).setCell ⟨w.heap.size, 1, none⟩ (.int .i64 (A : Nat))) (.cells #[.int .i64 (K : Nat), .int .i64 (F : Nat), .int .i64 (T : Nat), .string (strOfNums X)] 40))
          have h7 := alloc_below (((w2.setCell ⟨w.heap.size, 0, none⟩ (.int .i64 (Y : Nat))).setCell ⟨w.heap.size, 1, none⟩ (.int .i64 (A : Nat))).alloc (.cells #[.int .i64 (K : Nat), .int .i64 (F : Nat), .int .i64 (T : Nat), .string (strOfNums X)] 40)) (.cells #[.int .i64 (Y : Nat), .int .i64 (A : Nat)] 29)
          refine bodyPost_ret (v := .tuple #[.slice av nv cv, .agg #[.int .i64 (Y : Nat), .int .i64 (A : Nat)]]) (by simp [results, Tryz.results28, go_sem, *]) rfl ⟨.slice av nv cv, rfl, ?_, ?_⟩
          · exact (((h5.kept h6).kept h7) : OwnsT ((((w2.setCell ⟨w.heap.size, 0, none⟩ (.int .i64 (Y : Nat))).setCell ⟨w.heap.size, 1, none⟩ (.int .i64 (A : Nat))).alloc (.cells #[.int .i64 (K : Nat), .int .i64 (F : Nat), .int .i64 (T : Nat), .string (strOfNums X)] 40)).alloc (.cells #[.int .i64 (Y : Nat), .int .i64 (A : Nat)] 29)) _ _ _).move fun j _ _ => rfl
          · exact (((h4.alloc h4.size _).alloc (h4.alloc h4.size _).size _)).drew
    · have hzl : ¬ (k : Int) < ((s.size : Nat) : Int) := by omega
      have hend : (zs.drop p).drop (gapN (zs.drop p)) = [] := by rw [List.drop_drop, ← hkp.out]; exact List.drop_of_length_le (by rw [hlz.out]; omega)
      have hRR := hE.out
      rw [lex_end hend] at hRR
      obtain ⟨hL1, hL2⟩ := hRR
      rw [List.append_nil] at hL1
      simp only [Prod.mk.injEq] at hL2
      obtain ⟨rfl, rfl⟩ := hL2
      subst hL1
      obtain ⟨av, nv, cv, rfl, hnv, hcv1, hcv2⟩ := hO.out.form
      have c0 : wr.cell? ⟨w.heap.size, 0, none⟩ = some (.int .i64 0) := hK.out.cell 0
      have c1 : wr.cell? ⟨w.heap.size, 1, none⟩ = some (.int .i64 0) := hK.out.cell 1
      have f0 := hK.out.fz 0
      have f1 := hK.out.fz 1
      clear hE hend hkp kG
      go_wp2
      refine bodyPost_ret (v := .tuple #[.slice av nv cv, .agg #[.int .i64 0, .int .i64 0]]) (by simp [results, Tryz.results28, go_sem, *]) rfl ⟨.slice av nv cv, rfl, ?_, ?_⟩
      · have hh : ∀ j, w.heap.size + 1 ≤ j → ((wr.setCell ⟨w.heap.size, 0, none⟩ (.int .i64 0)).setCell ⟨w.heap.size, 1, none⟩ (.int .i64 0)).heap[j]? = wr.heap[j]? := fun j hj => ((Kq.set w.heap.size (j + 1) _ 1 _).block j (by omega) (by omega)).trans ((Kq.set w.heap.size (j + 1) _ 0 _).block j (by omega) (by omega))
        exact hO.out.move fun j hj _ => hh j hj
      · refine Below.setCell (Below.setCell hB.out ?_ _) ?_ _ <;> simp
end Go.Proofs.YtmlacmoembjeoaaGreatDoor
namespace Go.Proofs.YtmlacmoembjeoaaGreatDoor
open Go.RowKit
set_option linter.unusedVariables false

/-- A node of which all is zero. -/
def zN : Nb := ⟨0, 0, false, ⟨#[]⟩, 0, ⟨#[]⟩, none, 0, 0, none, 0, 0, none, 0, 0⟩
def zT : Tr := ⟨0, 0, false, ⟨#[]⟩, 0, ⟨#[]⟩, [], [], []⟩
/-- A node without bytes, keys and kids. -/
def leafN (t : Tr) : Nb := ⟨t.kind, t.num, t.neg, t.dig, t.exp, t.txt, none, 0, 0, none, 0, 0, none, 0, 0⟩
def Leaf (t : Tr) : Prop := t.bytes = [] ∧ t.keys = [] ∧ t.kids = [] ∧ (Lit.int .i64 t.kind).wf = true ∧ (Lit.int .u64 t.num).wf = true ∧ (Lit.int .i64 t.exp).wf = true ∧ t.dig.size ≤ 140737488351232 ∧ t.txt.size ≤ 140737488351232
theorem leaf_nd {t : Tr} (h : Leaf t) (S : Nat → Prop) (D : Nat) (w : World) : NdS S (D + 1) w (leafN t) t := by
  obtain ⟨h1, h2, h3, h4, h5, h6, h7, h8⟩ := h
  refine ⟨⟨rfl, rfl, rfl, rfl, rfl, rfl⟩, ⟨h4, h5, h6, h7, h8⟩, ⟨by rw [h1]; rfl, ⟨Nat.le_refl _, Nat.zero_le _, fun _ => rfl, by simp [leafN]⟩, by rw [h1]; simp [Bytes]⟩, ⟨(fun h => by simp [leafN] at h), (fun h => by simp [leafN] at h), (fun h => by simp [leafN] at h)⟩, ⟨by rw [h2]; rfl, ⟨Nat.le_refl _, Nat.zero_le _, fun _ => rfl, by simp [leafN]⟩, .inl h2⟩, ⟨by rw [h3]; rfl, ⟨Nat.le_refl _, Nat.zero_le _, fun _ => rfl, by simp [leafN]⟩, .inl h3⟩⟩
/-- A reader's cells. -/
def rArr (free : Bool) (nx g : Nat) (ao : Option Addr) (no co : Nat) (nodes : Int) (r : Nb) (ended : Bool) : Array Value :=
  #[.bool free, .func (.func nx) #[.pointer (some ⟨g, 0, none⟩)] #[], .slice ao no co, .int .i64 nodes, .int .i64 r.kind, .int .u64 r.num, .bool r.neg, .string r.dig, .int .i64 r.exp, .string r.txt, .slice r.ab r.lb r.cb, .slice r.ak r.lk r.ck, .slice r.ai r.li r.ci, .bool ended]
def RBox (w : World) (g : Nat) (free : Bool) (nx : Nat) (ao : Option Addr) (no co : Nat) (nodes : Int) (r : Nb) (ended : Bool) : Prop := w.heap[g]? = some (.cells (rArr free nx g ao no co nodes r ended) 48 (0, 0))
section
variable {w w' : World} {g : Nat} {free : Bool} {nx : Nat} {ao : Option Addr} {no co : Nat} {nodes : Int} {r : Nb} {ended : Bool}
theorem RBox.lt (h : RBox w g free nx ao no co nodes r ended) : g < w.heap.size := (Array.getElem?_eq_some_iff.1 h).1
theorem RBox.same (h : RBox w g free nx ao no co nodes r ended) (hb : w'.heap[g]? = w.heap[g]?) : RBox w' g free nx ao no co nodes r ended := by unfold RBox; rw [hb]; exact h
theorem RBox.cell (h : RBox w g free nx ao no co nodes r ended) (j : Nat) : w.cell? ⟨g, j, none⟩ = (rArr free nx g ao no co nodes r ended)[j]? := cell_row h j
theorem RBox.fz (h : RBox w g free nx ao no co nodes r ended) (j : Nat) : w.frozen? ⟨g, j, none⟩ = false := by unfold RBox at h; simp [World.frozen?, h]
theorem RBox.fields (h : RBox w g free nx ao no co nodes r ended) : w.cell? ⟨g, 0, none⟩ = some (.bool free) ∧ w.cell? ⟨g, 1, none⟩ = some (.func (.func nx) #[.pointer (some ⟨g, 0, none⟩)] #[]) ∧ w.cell? ⟨g, 2, none⟩ = some (.slice ao no co) ∧ w.cell? ⟨g, 3, none⟩ = some (.int .i64 nodes) ∧ w.cell? ⟨g, 13, none⟩ = some (.bool ended) := ⟨h.cell 0, h.cell 1, h.cell 2, h.cell 3, h.cell 13⟩
theorem RBox.root (h : RBox w g free nx ao no co nodes r ended) : w.cell? ⟨g, 4, none⟩ = some (.int .i64 r.kind) ∧ w.cell? ⟨g, 5, none⟩ = some (.int .u64 r.num) ∧ w.cell? ⟨g, 6, none⟩ = some (.bool r.neg) ∧ w.cell? ⟨g, 7, none⟩ = some (.string r.dig) ∧ w.cell? ⟨g, 8, none⟩ = some (.int .i64 r.exp) ∧ w.cell? ⟨g, 9, none⟩ = some (.string r.txt) ∧ w.cell? ⟨g, 10, none⟩ = some (.slice r.ab r.lb r.cb) ∧ w.cell? ⟨g, 11, none⟩ = some (.slice r.ak r.lk r.ck) ∧ w.cell? ⟨g, 12, none⟩ = some (.slice r.ai r.li r.ci) := ⟨h.cell 4, h.cell 5, h.cell 6, h.cell 7, h.cell 8, h.cell 9, h.cell 10, h.cell 11, h.cell 12⟩
theorem RBox.set {free' : Bool} {nx' : Nat} {ao' : Option Addr} {no' co' : Nat} {nodes' : Int} {r' : Nb} {ended' : Bool} (h : RBox w g free nx ao no co nodes r ended) (j : Nat) (v : Value) (hv : rArr free' nx' g ao' no' co' nodes' r' ended' = (rArr free nx g ao no co nodes r ended).setIfInBounds j v) : RBox (w.setCell ⟨g, j, none⟩ v) g free' nx' ao' no' co' nodes' r' ended' := by
  unfold RBox
  rw [heap_setCell_same w g j _ 48 v h, hv]
end
theorem setk {w : World} {g j k : Nat} (h : k ≠ g) (v : Value) : (w.setCell ⟨g, j, none⟩ v).heap[k]? = w.heap[k]? := Below.heap_setCell w ⟨g, j, none⟩ v k h
theorem set_size (w : World) (g j : Nat) (v : Value) : (w.setCell ⟨g, j, none⟩ v).heap.size = w.heap.size := by simp [World.setCell]
/-- What was read so far. -/
structure JS where
  free : Bool
  nx : Nat
  opn : List Tr
  nodes : Nat
  root : Tr
  ended : Bool
/-- A NODE THAT HAS NOT ENDED, the i-th: its keys and kids lie in rows of its own. Blocks with the mark 0 are written to no more. -/
structure OpN (B D : Nat) (lab : Nat → Nat) (w : World) (nb : Nb) (t : Tr) (i : Nat) : Prop where
  fl : nb = ⟨t.kind, 0, false, ⟨#[]⟩, 0, ⟨#[]⟩, none, 0, 0, nb.ak, nb.lk, nb.ck, nb.ai, nb.li, nb.ci⟩
  tf : t = ⟨t.kind, 0, false, ⟨#[]⟩, 0, ⟨#[]⟩, [], t.keys, t.kids⟩
  kd : t.kind = 7 ∨ t.kind = 8
  ks : ∃ bk : List Nb, OwnsN 26 w B (.slice nb.ak nb.lk nb.ck) bk ∧ bk.length = t.keys.length ∧ ∀ j (h : j < bk.length) (h2 : j < t.keys.length), bk[j] = leafN t.keys[j] ∧ Leaf t.keys[j]
  kl : ∀ k, (Value.slice nb.ak nb.lk nb.ck).ownBlock = some k → lab k = 3 + 2 * i
  is : ∃ bi : List Nb, OwnsN 26 w B (.slice nb.ai nb.li nb.ci) bi ∧ bi.length = t.kids.length ∧ ∀ j (h : j < bi.length) (h2 : j < t.kids.length), NdS (fun k => lab k = 0 ∧ B ≤ k ∧ k < w.heap.size) D w bi[j] t.kids[j]
  il : ∀ k, (Value.slice nb.ai nb.li nb.ci).ownBlock = some k → lab k = 4 + 2 * i
/-- A READER IN MEMORY. -/
structure JM (B D : Nat) (lab : Nat → Nat) (w : World) (g : Nat) (s : JS) (nbs : List Nb) (ao : Option Addr) (co : Nat) (r : Nb) : Prop where
  lo : ∀ k, k < B → lab k = 0
  hi : ∀ k, w.heap.size ≤ k → lab k = 0
  gl : lab g = 1
  box : RBox w g s.free s.nx ao nbs.length co s.nodes r s.ended
  opn : OwnsN 26 w B (.slice ao nbs.length co) nbs
  ol : ∀ k, (Value.slice ao nbs.length co).ownBlock = some k → lab k = 2
  len : nbs.length = s.opn.length
  nd : ∀ i (h : i < nbs.length) (h2 : i < s.opn.length), OpN B D lab w nbs[i] s.opn[i] i
  rt : NdS (fun k => lab k = 0 ∧ B ≤ k ∧ k < w.heap.size) D w r s.root
  few : s.opn.length ≤ 5000
/-- Only blocks with the mark L have turned. -/
structure Ch (lab : Nat → Nat) (L : Nat) (w w' : World) : Prop where
  os : w'.os = w.os
  tape : w'.tape = w.tape
  output : w'.output = w.output
  size : w.heap.size ≤ w'.heap.size
  block : ∀ k, k < w.heap.size → lab k ≠ L → w'.heap[k]? = w.heap[k]?
theorem Ch.of {lab : Nat → Nat} {L : Nat} {w w' : World} (h : Below w.heap.size w w') : Ch lab L w w' := ⟨h.os, h.tape, h.output, h.size, fun k hk _ => h.block k hk⟩
theorem Ch.trans {lab : Nat → Nat} {L : Nat} {a b c : World} (h : Ch lab L a b) (k : Ch lab L b c) : Ch lab L a c := ⟨k.os.trans h.os, k.tape.trans h.tape, k.output.trans h.output, Nat.le_trans h.size k.size, fun i hi hc => (k.block i (Nat.lt_of_lt_of_le hi h.size) hc).trans (h.block i hi hc)⟩
theorem Ch.set {lab : Nat → Nat} {L : Nat} {w : World} {g j : Nat} {v : Value} (h : lab g = L) : Ch lab L w (w.setCell ⟨g, j, none⟩ v) := ⟨rfl, rfl, rfl, by simp [World.setCell], fun k _ hk => setk (fun e => hk (by rw [e]; exact h)) v⟩
theorem Ch.below {lab : Nat → Nat} {L B : Nat} {w w' : World} (h : Ch lab L w w') (hL : L ≠ 0) (hB : B ≤ w.heap.size) (hlo : ∀ k, k < B → lab k = 0) : Below B w w' := ⟨h.os, h.tape, h.output, h.size, fun k hk => h.block k (by omega) (by rw [hlo k hk]; exact Ne.symm hL)⟩
theorem OwnsN.ch {lab : Nat → Nat} {L B : Nat} {w w' : World} {v : Value} {bs : List Nb} (h : OwnsN 26 w B v bs) (hc : Ch lab L w w') (hl : ∀ k, v.ownBlock = some k → lab k ≠ L) : OwnsN 26 w' B v bs := by
  obtain ⟨h1, h2⟩ := h
  refine ⟨h1, ?_⟩
  rcases h2 with h2 | ⟨g, cap, cur, rfl, hb, hg, hr⟩
  · exact .inl h2
  · exact .inr ⟨g, cap, cur, rfl, hb, by rw [hc.block g (Array.getElem?_eq_some_iff.1 hg).1 (hl g rfl)]; exact hg, hr⟩
theorem nds_ch {lab : Nat → Nat} {L B D : Nat} {w w' : World} {b : Nb} {t : Tr} (h : NdS (fun k => lab k = 0 ∧ B ≤ k ∧ k < w.heap.size) D w b t) (hc : Ch lab L w w') (hL : L ≠ 0) : NdS (fun k => lab k = 0 ∧ B ≤ k ∧ k < w'.heap.size) D w' b t :=
  (h.stays fun k hk => hc.block k hk.2.2 (by rw [hk.1]; exact Ne.symm hL)).mono fun k hk => ⟨hk.1, hk.2.1, Nat.lt_of_lt_of_le hk.2.2 hc.size⟩
theorem OpN.ch {lab : Nat → Nat} {L B D i : Nat} {w w' : World} {nb : Nb} {t : Tr} (h : OpN B D lab w nb t i) (hc : Ch lab L w w') (hL : L ≠ 0) (h3 : L ≠ 3 + 2 * i) (h4 : L ≠ 4 + 2 * i) : OpN B D lab w' nb t i := by
  obtain ⟨bk, k1, k2, k3⟩ := h.ks
  obtain ⟨bi, i1, i2, i3⟩ := h.is
  exact ⟨h.fl, h.tf, h.kd, ⟨bk, k1.ch hc fun k hk => by rw [h.kl k hk]; exact Ne.symm h3, k2, k3⟩, h.kl, ⟨bi, i1.ch hc fun k hk => by rw [h.il k hk]; exact Ne.symm h4, i2, fun j hj hj2 => nds_ch (i3 j hj hj2) hc hL⟩, h.il⟩
/-- The marks with a new block. -/
def mark (lab : Nat → Nat) (v : Value) (L : Nat) : Nat → Nat := fun k => if v.ownBlock = some k then L else lab k
theorem mark_other {lab : Nat → Nat} {v : Value} {L k : Nat} (h : v.ownBlock ≠ some k) : mark lab v L k = lab k := if_neg h
theorem mark_own {lab : Nat → Nat} {v : Value} {L k : Nat} (h : v.ownBlock = some k) : mark lab v L k = L := if_pos h
end Go.Proofs.YtmlacmoembjeoaaGreatDoor
namespace Go.Proofs.YtmlacmoembjeoaaGreatDoor
open Go.RowKit
set_option linter.unusedVariables false
theorem step_append_node {w : World} {ops : Array Oper} {o : Oper} {a : Act} {K : Act → World → Prop} {Q : Exit → Act → World → Prop} {E : Prop} (hgd : o.guard = none) (s x : Operand)
    (ho : o.op = .call { callee := .builtin .append, args := #[s, x], argTypes := #[24, 24] })
    (base : Nat) (v : Value) (ys zs : List Nb) (hs : a.eval s = v) (hown : OwnsN 26 w base v ys)
    (ad : Addr) (m c : Nat) (hx : a.eval x = .slice (some ad) m c) (hm : zs.length = m) (hm0 : 0 < m) (hb : Nine w (some ad) zs)
    (hbytes : ys.length + zs.length ≤ 1000000000) (hbase : base ≤ w.heap.size)
    (h : ∀ v' w', OwnsN 26 w' base v' (ys ++ zs) → w.grownBy w' v.ownBlock → (∀ g, v'.ownBlock = some g → v.ownBlock = some g ∨ w.heap.size ≤ g) → K (a.put o.dst v') w') :
    if Region.wanted o (yielded ops a.tmps) = true then Oper.wp Tryz.prog o a w K Q else E := by
  have hw : Region.wanted o (yielded ops a.tmps) = true := by simp [Region.wanted, hgd]
  rw [if_pos hw]
  subst hm
  obtain ⟨i, hi, hz, hsz, hby⟩ := info_parts infoN
  have hk : Tryz.prog.underlying 24 = some (.slice 26) := Tryz.underlying24
  obtain ⟨v', w', hr, h2, h3, _⟩ := run_append_own_wide (P := Tryz.prog) w base 24 o.type 26 i _ 9 136 hk hi hz hsz hby rfl (by decide) v ys.length _ hown ad zs.length c (Cs zs) (cs_len zs) hb.news (cs_one zs) (by unfold maxLen; omega) (by omega) hbase
  have hnew : ∀ g, v'.ownBlock = some g → v.ownBlock = some g ∨ w.heap.size ≤ g := by
    have hl : (Cs zs).length = zs.length * i.size := by rw [hsz]; exact cs_len zs
    rcases hown.2 with ⟨rfl, hn⟩ | ⟨g, cap, cur, rfl, hbg, hg, hnc, hcm, hcs, htake⟩
    · have hr2 := run_append_nil (P := Tryz.prog) w 24 o.type 26 i _ hk hi hz ad zs.length c (Cs zs) hl hb.news hm0 (by omega) (by rw [hby]; omega)
      have e := ok_inj (hr.symm.trans hr2)
      subst e
      intro g hg
      simp [Value.ownBlock] at hg
      exact .inr (by omega)
    · by_cases hroom : ys.length + zs.length ≤ cap
      · have hr2 := run_append_room (P := Tryz.prog) w 24 o.type 26 i hk hi g ys.length cap cur hg ad zs.length c (Cs zs) hl hb.news (cs_one zs) hroom (by rw [hl, hsz, hcs, ← Nat.add_mul]; exact Nat.mul_le_mul_right _ hroom)
        have e := ok_inj (hr.symm.trans hr2)
        subst e
        intro g' hg'
        exact .inl hg'
      · have hr2 := run_append_grow (P := Tryz.prog) w 24 o.type 26 i _ hk hi hz ⟨g, 0, none⟩ ys.length cap (Cs ys) (by rw [hsz]; exact cs_len ys) (World.ownsRow.cells hown (g := g) rfl) ad zs.length c (Cs zs) hl hb.news (by omega) (by omega) (by rw [hby]; exact growslice_fits_wide (by omega) (by omega))
        have e := ok_inj (hr.symm.trans hr2)
        subst e
        intro g' hg'
        simp [Value.ownBlock] at hg'
        exact .inr (by omega)
  unfold Oper.wp
  simp [execOp, ho, resolve, invoke, builtin, hs, hx, hr, Result.andThen]
  refine h v' w' ?_ h3 hnew
  unfold OwnsN
  rw [List.length_append, cs_app]
  exact h2
/-- What a row is that has a node more. -/
theorem OwnsN.last {w : World} {B : Nat} {v : Value} {bs : List Nb} {z : Nb} (h : OwnsN 26 w B v (bs ++ [z])) : ∃ g cap cur, v = .slice (some ⟨g, 0, none⟩) (bs.length + 1) cap ∧ B ≤ g ∧ w.heap[g]? = some (.cells cur 26 (0, 0)) ∧ bs.length + 1 ≤ cap ∧ cap ≤ 9223372036854775807 ∧ bs.length * 9 + 9 ≤ cur.size ∧ ∀ j, j < 9 → w.cell? ⟨g, bs.length * 9 + j, none⟩ = z.cells[j]? := by
  obtain ⟨h1, h2⟩ := h
  rcases h2 with ⟨_, hn⟩ | ⟨g, cap, cur, hv, hb, hg, hnc, hcm, hcs, htk⟩
  · simp at hn
  · rw [List.length_append, List.length_singleton] at hv hnc
    unfold maxLen at hcm
    refine ⟨g, cap, cur, hv, hb, hg, hnc, hcm, by rw [hcs]; omega, fun j hj => ?_⟩
    have e := cs_get (bs ++ [z]) (i := bs.length) (j := j) (by simp) hj
    rw [List.getElem_append_right (Nat.le_refl _)] at e
    simp only [Nat.sub_self, List.getElem_cons_zero] at e
    rw [cell_row hg, ← e, ← htk, List.getElem?_take, if_pos (by simp; omega), Array.getElem?_toList]
end Go.Proofs.YtmlacmoembjeoaaGreatDoor
namespace Go.Proofs.YtmlacmoembjeoaaGreatDoor
open Go.RowKit
set_option linter.unusedVariables false
set_option maxHeartbeats 1000000 in
set_option maxRecDepth 100000 in
theorem inn_any {w : World} {g go n co : Nat} {free : Bool} {nx : Nat} {nodes : Int} {r : Nb} {ended : Bool} (h : RBox w g free nx (some ⟨go, 0, none⟩) (n + 1) co nodes r ended) (hn : n ≤ 100000) :
    Calls Tryz.prog 68 #[.pointer (some ⟨g, 0, none⟩)] w fun e w' => e = .returned (.pointer (some ⟨go, n * 9, none⟩)) ∧ Below w.heap.size w w' ∧ w'.heap = w.heap := by
  obtain ⟨a0, a1, a2, a3, a4⟩ := h.fields
  have W1 : IntKind.i64.wrap (((n + 1 : Nat) : Int) - 1) = (n : Int) := by rw [IntKind.wrap_i64]; omega
  have z0 : (0 : Int) ≤ (n : Int) := by omega
  have z1 : (n : Int) < ((n + 1 : Nat) : Int) := by omega
  clear h
  generalize n + 1 = m at *
  go_enter Tryz.func68, Tryz.ntmps68
  go_wp2
  go_region
  all_goals go_wp2
  all_goals go_ret
  all_goals exact ⟨rfl, (Below.refl _ _).drew, rfl⟩
end Go.Proofs.YtmlacmoembjeoaaGreatDoor
namespace Go.Proofs.YtmlacmoembjeoaaGreatDoor
open Go.RowKit
set_option linter.unusedVariables false
/-- A node written over the last one of a row. -/
theorem OwnsN.put {w w' : World} {B g cap : Nat} {bs : List Nb} {z x : Nb} (h : OwnsN 26 w B (.slice (some ⟨g, 0, none⟩) (bs.length + 1) cap) (bs ++ [z])) (hw : ∃ cur', w'.heap[g]? = some (.cells cur' 26 (0, 0)) ∧ (∀ cur, w.heap[g]? = some (.cells cur 26 (0, 0)) → cur'.size = cur.size ∧ (∀ j, j < 9 → cur'[bs.length * 9 + j]? = x.cells[j]?) ∧ ∀ i, i < bs.length * 9 → cur'[i]? = cur[i]?)) : OwnsN 26 w' B (.slice (some ⟨g, 0, none⟩) (bs.length + 1) cap) (bs ++ [x]) := by
  obtain ⟨h1, h2⟩ := h
  rcases h2 with ⟨h0, _⟩ | ⟨g', cap', cur, hv, hb, hg, hnc, hcm, hcs, htk⟩
  · cases h0
  · rw [List.length_append, List.length_singleton] at hv hnc htk
    cases hv
    obtain ⟨cur', hg', hc⟩ := hw
    obtain ⟨e1, e2, e3⟩ := hc cur hg
    refine ⟨by rw [cs_len], .inr ⟨g, cap, cur', by rw [List.length_append, List.length_singleton], hb, hg', by rw [List.length_append, List.length_singleton]; exact hnc, hcm, by rw [e1]; exact hcs, ?_⟩⟩
    rw [List.length_append, List.length_singleton]
    have hz : (bs.length + 1) * 9 ≤ cur.size := by rw [hcs]; exact Nat.mul_le_mul_right _ hnc
    have t0 : cur.toList.take (bs.length * 9) = Cs bs := by
      have := congrArg (List.take (bs.length * 9)) htk
      rw [List.take_take, Nat.min_eq_left (by omega), cs_app, List.take_append_of_le_length (by rw [cs_len]; exact Nat.le_refl _)] at this
      rw [this, List.take_of_length_le (by rw [cs_len]; exact Nat.le_refl _)]
    refine List.ext_getElem? fun i => ?_
    rw [cs_app]
    by_cases hi : i < bs.length * 9
    · rw [List.getElem?_take, if_pos (by omega), Array.getElem?_toList, e3 i hi, List.getElem?_append_left (by rw [cs_len]; exact hi), ← t0, List.getElem?_take, if_pos hi, Array.getElem?_toList]
    · by_cases hj : i < bs.length * 9 + 9
      · have e := e2 (i - bs.length * 9) (by omega)
        rw [show bs.length * 9 + (i - bs.length * 9) = i by omega] at e
        rw [List.getElem?_take, if_pos (by omega), Array.getElem?_toList, e, List.getElem?_append_right (by rw [cs_len]; omega), cs_len]
        show _ = (Cs [x])[_]?
        rw [cs_cons, cs_nil, List.append_nil]
      · rw [List.getElem?_eq_none (Nat.le_trans (List.length_take_le _ _) (by omega)), List.getElem?_eq_none (by rw [List.length_append, cs_len, cs_len]; simp; omega)]
/-- Nine cells written in a row: the world behind it. -/
theorem nine9 {w : World} {g o : Nat} {cur : Array Value} (x : Nb) (hg : w.heap[g]? = some (.cells cur 26 (0, 0))) (ho : o + 9 ≤ cur.size) : ∃ cur', (((((((((w.setCell ⟨g, o, none⟩ (.int .i64 x.kind)).setCell ⟨g, o + 1, none⟩ (.int .u64 x.num)).setCell ⟨g, o + 2, none⟩ (.bool x.neg)).setCell ⟨g, o + 3, none⟩ (.string x.dig)).setCell ⟨g, o + 4, none⟩ (.int .i64 x.exp)).setCell ⟨g, o + 5, none⟩ (.string x.txt)).setCell ⟨g, o + 6, none⟩ (.slice x.ab x.lb x.cb)).setCell ⟨g, o + 7, none⟩ (.slice x.ak x.lk x.ck)).setCell ⟨g, o + 8, none⟩ (.slice x.ai x.li x.ci)).heap[g]? = some (.cells cur' 26 (0, 0)) ∧ cur'.size = cur.size ∧ (∀ j, j < 9 → cur'[o + j]? = x.cells[j]?) ∧ (∀ i, (i < o ∨ o + 9 ≤ i) → cur'[i]? = cur[i]?) ∧ ∀ k, k ≠ g → (((((((((w.setCell ⟨g, o, none⟩ (.int .i64 x.kind)).setCell ⟨g, o + 1, none⟩ (.int .u64 x.num)).setCell ⟨g, o + 2, none⟩ (.bool x.neg)).setCell ⟨g, o + 3, none⟩ (.string x.dig)).setCell ⟨g, o + 4, none⟩ (.int .i64 x.exp)).setCell ⟨g, o + 5, none⟩ (.string x.txt)).setCell ⟨g, o + 6, none⟩ (.slice x.ab x.lb x.cb)).setCell ⟨g, o + 7, none⟩ (.slice x.ak x.lk x.ck)).setCell ⟨g, o + 8, none⟩ (.slice x.ai x.li x.ci)).heap[k]? = w.heap[k]? := by
  have e := fun (w : World) (cs : Array Value) (j : Nat) (v : Value) (h : w.heap[g]? = some (.cells cs 26 (0, 0))) => heap_setCell_same w g j cs 26 v h
  have h1 := e _ _ o (.int .i64 x.kind) hg
  have h2 := e _ _ (o + 1) (.int .u64 x.num) h1
  have h3 := e _ _ (o + 2) (.bool x.neg) h2
  have h4 := e _ _ (o + 3) (.string x.dig) h3
  have h5 := e _ _ (o + 4) (.int .i64 x.exp) h4
  have h6 := e _ _ (o + 5) (.string x.txt) h5
  have h7 := e _ _ (o + 6) (.slice x.ab x.lb x.cb) h6
  have h8 := e _ _ (o + 7) (.slice x.ak x.lk x.ck) h7
  have h9 := e _ _ (o + 8) (.slice x.ai x.li x.ci) h8
  refine ⟨_, h9, by simp, fun j hj => ?_, fun i hi => ?_, fun k hk => ?_⟩
  · have : j = 0 ∨ j = 1 ∨ j = 2 ∨ j = 3 ∨ j = 4 ∨ j = 5 ∨ j = 6 ∨ j = 7 ∨ j = 8 := by omega
    rcases this with rfl | rfl | rfl | rfl | rfl | rfl | rfl | rfl | rfl <;> simp [Array.getElem?_setIfInBounds, Nb.cells] <;> omega
  · simp only [Array.getElem?_setIfInBounds]
    repeat rw [if_neg (by omega)]
  · simp only [setk hk]
/-- What a put leaves: the row, the header's cell, all else. -/
structure PutE (B : Nat) (w w' : World) (g gh oh li : Nat) (v0 : Value) (bi : List Nb) (x : Nb) : Prop where
  own : ∃ g4 cap4, OwnsN 26 w' B (.slice (some ⟨g4, 0, none⟩) (li + 1) cap4) (bi ++ [x]) ∧ (v0.ownBlock = some g4 ∨ w.heap.size ≤ g4) ∧ (∀ cs T, w.heap[gh]? = some (.cells cs T (0, 0)) → w'.heap[gh]? = some (.cells (cs.setIfInBounds oh (.slice (some ⟨g4, 0, none⟩) (li + 1) cap4)) T (0, 0)))
  os : w'.os = w.os
  tape : w'.tape = w.tape
  output : w'.output = w.output
  size : w.heap.size ≤ w'.heap.size
  rest : ∀ k, k < w.heap.size → k ≠ gh → v0.ownBlock ≠ some k → w'.heap[k]? = w.heap[k]?
theorem putE_of {B : Nat} {w wb w4 : World} {g gh oh li g4 cap4 : Nat} {v0 : Value} {bi : List Nb} {x z : Nb} (hb : Below w.heap.size w wb) (hl : bi.length = li) (hgh : gh < w.heap.size) (hv0 : v0.ownBlock ≠ some gh) (hO : OwnsN 26 w B v0 bi)
    (ho : OwnsN 26 w4 B (.slice (some ⟨g4, 0, none⟩) (li + 1) cap4) (bi ++ [z])) (hg : wb.grownBy w4 v0.ownBlock) (hn : v0.ownBlock = some g4 ∨ wb.heap.size ≤ g4) :
    PutE B w ((((((((((w4.setCell ⟨g4, li * 9, none⟩ (.int .i64 x.kind)).setCell ⟨g4, li * 9 + 1, none⟩ (.int .u64 x.num)).setCell ⟨g4, li * 9 + 2, none⟩ (.bool x.neg)).setCell ⟨g4, li * 9 + 3, none⟩ (.string x.dig)).setCell ⟨g4, li * 9 + 4, none⟩ (.int .i64 x.exp)).setCell ⟨g4, li * 9 + 5, none⟩ (.string x.txt)).setCell ⟨g4, li * 9 + 6, none⟩ (.slice x.ab x.lb x.cb)).setCell ⟨g4, li * 9 + 7, none⟩ (.slice x.ak x.lk x.ck)).setCell ⟨g4, li * 9 + 8, none⟩ (.slice x.ai x.li x.ci)).setCell ⟨gh, oh, none⟩ (.slice (some ⟨g4, 0, none⟩) (li + 1) cap4)) g gh oh li v0 bi x := by
  subst hl
  have hne : g4 ≠ gh := by
    rcases hn with h | h
    · intro e; exact hv0 (e ▸ h)
    · have := hb.size; omega
  obtain ⟨g', cap', cur, hv, hB, hc, h1, h2, h3, h4⟩ := ho.last
  cases hv
  obtain ⟨cur', e1, e2, e3, e4, e5⟩ := nine9 (w := w4) (g := g4) (o := bi.length * 9) (cur := cur) x hc h3
  have hv4 : ∀ k, k < w.heap.size → v0.ownBlock ≠ some k → k ≠ g4 ∧ w4.heap[k]? = w.heap[k]? := fun k hk hv => by
    have hk4 : k ≠ g4 := fun e => by
      rcases hn with h | h
      · exact hv (e ▸ h)
      · have := hb.size; omega
    exact ⟨hk4, by rw [hg.block k (Nat.lt_of_lt_of_le hk hb.size) (fun e => hv e.symm), hb.block k hk]⟩
  generalize hW5 : (((((((((w4.setCell ⟨g4, bi.length * 9, none⟩ (.int .i64 x.kind)).setCell ⟨g4, bi.length * 9 + 1, none⟩ (.int .u64 x.num)).setCell ⟨g4, bi.length * 9 + 2, none⟩ (.bool x.neg)).setCell ⟨g4, bi.length * 9 + 3, none⟩ (.string x.dig)).setCell ⟨g4, bi.length * 9 + 4, none⟩ (.int .i64 x.exp)).setCell ⟨g4, bi.length * 9 + 5, none⟩ (.string x.txt)).setCell ⟨g4, bi.length * 9 + 6, none⟩ (.slice x.ab x.lb x.cb)).setCell ⟨g4, bi.length * 9 + 7, none⟩ (.slice x.ak x.lk x.ck)).setCell ⟨g4, bi.length * 9 + 8, none⟩ (.slice x.ai x.li x.ci)) = w5 at *
  have hos : w5.os = w4.os ∧ w5.tape = w4.tape ∧ w5.output = w4.output ∧ w5.heap.size = w4.heap.size := by rw [← hW5]; simp [World.setCell]
  refine ⟨⟨g4, cap4, ?_, ?_, fun cs T hcs => ?_⟩, ?_, ?_, ?_, ?_, fun k hk hkh hkv => ?_⟩
  · refine ho.put (x := x) ⟨cur', ?_, fun c hc' => ?_⟩
    · rw [setk hne]; exact e1
    · rw [hc] at hc'; cases hc'; exact ⟨e2, e3, fun i hi => e4 i (.inl hi)⟩
  · rcases hn with h | h
    · exact .inl h
    · exact .inr (Nat.le_trans hb.size h)
  · have := hv4 gh hgh hv0
    exact heap_setCell_same w5 gh oh cs T _ (by rw [e5 gh (Ne.symm hne), this.2]; exact hcs)
  · exact hos.1.trans (hg.os.trans hb.os)
  · exact hos.2.1.trans (hg.tape.trans hb.tape)
  · exact hos.2.2.1.trans (hg.output.trans hb.output)
  · rw [set_size, hos.2.2.2]; exact Nat.le_trans hb.size hg.size
  · have := hv4 k hk hkv
    rw [setk hkh, e5 k this.1, this.2]
theorem putE_of2 {B : Nat} {w wb w4 : World} {g gh oh li g4 cap4 : Nat} {v0 : Value} {bi : List Nb} {x z : Nb} (hb : Below w.heap.size w wb) (hl : bi.length = li) (hgh : gh < w.heap.size) (hv0 : v0.ownBlock ≠ some gh) (hO : OwnsN 26 w B v0 bi)
    (ho : OwnsN 26 w4 B (.slice (some ⟨g4, 0, none⟩) (li + 1) cap4) (bi ++ [z])) (hg : wb.grownBy w4 v0.ownBlock) (hn : v0.ownBlock = some g4 ∨ wb.heap.size ≤ g4) :
    PutE B w ((((((((((w4.setCell ⟨gh, oh, none⟩ (.slice (some ⟨g4, 0, none⟩) (li + 1) cap4)).setCell ⟨g4, li * 9, none⟩ (.int .i64 x.kind)).setCell ⟨g4, li * 9 + 1, none⟩ (.int .u64 x.num)).setCell ⟨g4, li * 9 + 2, none⟩ (.bool x.neg)).setCell ⟨g4, li * 9 + 3, none⟩ (.string x.dig)).setCell ⟨g4, li * 9 + 4, none⟩ (.int .i64 x.exp)).setCell ⟨g4, li * 9 + 5, none⟩ (.string x.txt)).setCell ⟨g4, li * 9 + 6, none⟩ (.slice x.ab x.lb x.cb)).setCell ⟨g4, li * 9 + 7, none⟩ (.slice x.ak x.lk x.ck)).setCell ⟨g4, li * 9 + 8, none⟩ (.slice x.ai x.li x.ci)) g gh oh li v0 bi x := by
  subst hl
  have hne : g4 ≠ gh := by
    rcases hn with h | h
    · intro e; exact hv0 (e ▸ h)
    · have := hb.size; omega
  obtain ⟨g', cap', cur, hv, hB, hc, h1, h2, h3, h4⟩ := ho.last
  cases hv
  have hc5 : (w4.setCell ⟨gh, oh, none⟩ (.slice (some ⟨g4, 0, none⟩) (bi.length + 1) cap4)).heap[g4]? = some (.cells cur 26 (0, 0)) := (setk hne _).trans hc
  obtain ⟨cur', e1, e2, e3, e4, e5⟩ := nine9 (w := w4.setCell ⟨gh, oh, none⟩ (.slice (some ⟨g4, 0, none⟩) (bi.length + 1) cap4)) (g := g4) (o := bi.length * 9) (cur := cur) x hc5 h3
  have hv4 : ∀ k, k < w.heap.size → v0.ownBlock ≠ some k → k ≠ g4 ∧ w4.heap[k]? = w.heap[k]? := fun k hk hv => by
    have hk4 : k ≠ g4 := fun e => by
      rcases hn with h | h
      · exact hv (e ▸ h)
      · have := hb.size; omega
    exact ⟨hk4, by rw [hg.block k (Nat.lt_of_lt_of_le hk hb.size) (fun e => hv e.symm), hb.block k hk]⟩
  have hos : ((((((((((w4.setCell ⟨gh, oh, none⟩ (.slice (some ⟨g4, 0, none⟩) (bi.length + 1) cap4)).setCell ⟨g4, bi.length * 9, none⟩ (.int .i64 x.kind)).setCell ⟨g4, bi.length * 9 + 1, none⟩ (.int .u64 x.num)).setCell ⟨g4, bi.length * 9 + 2, none⟩ (.bool x.neg)).setCell ⟨g4, bi.length * 9 + 3, none⟩ (.string x.dig)).setCell ⟨g4, bi.length * 9 + 4, none⟩ (.int .i64 x.exp)).setCell ⟨g4, bi.length * 9 + 5, none⟩ (.string x.txt)).setCell ⟨g4, bi.length * 9 + 6, none⟩ (.slice x.ab x.lb x.cb)).setCell ⟨g4, bi.length * 9 + 7, none⟩ (.slice x.ak x.lk x.ck)).setCell ⟨g4, bi.length * 9 + 8, none⟩ (.slice x.ai x.li x.ci)).os = w4.os ∧ ((((((((((w4.setCell ⟨gh, oh, none⟩ (.slice (some ⟨g4, 0, none⟩) (bi.length + 1) cap4)).setCell ⟨g4, bi.length * 9, none⟩ (.int .i64 x.kind)).setCell ⟨g4, bi.length * 9 + 1, none⟩ (.int .u64 x.num)).setCell ⟨g4, bi.length * 9 + 2, none⟩ (.bool x.neg)).setCell ⟨g4, bi.length * 9 + 3, none⟩ (.string x.dig)).setCell ⟨g4, bi.length * 9 + 4, none⟩ (.int .i64 x.exp)).setCell ⟨g4, bi.length * 9 + 5, none⟩ (.string x.txt)).setCell ⟨g4, bi.length * 9 + 6, none⟩ (.slice x.ab x.lb x.cb)).setCell ⟨g4, bi.length * 9 + 7, none⟩ (.slice x.ak x.lk x.ck)).setCell ⟨g4, bi.length * 9 + 8, none⟩ (.slice x.ai x.li x.ci)).tape = w4.tape ∧ ((((((((((w4.setCell ⟨gh, oh, none⟩ (.slice (some ⟨g4, 0, none⟩) (bi.length + 1) cap4)).setCell ⟨g4, bi.length * 9, none⟩ (.int .i64 x.kind)).setCell ⟨g4, bi.length * 9 + 1, none⟩ (.int .u64 x.num)).setCell ⟨g4, bi.length * 9 + 2, none⟩ (.bool x.neg)).setCell ⟨g4, bi.length * 9 + 3, none⟩ (.string x.dig)).setCell ⟨g4, bi.length * 9 + 4, none⟩ (.int .i64 x.exp)).setCell ⟨g4, bi.length * 9 + 5, none⟩ (.string x.txt)).setCell ⟨g4, bi.length * 9 + 6, none⟩ (.slice x.ab x.lb x.cb)).setCell ⟨g4, bi.length * 9 + 7, none⟩ (.slice x.ak x.lk x.ck)).setCell ⟨g4, bi.length * 9 + 8, none⟩ (.slice x.ai x.li x.ci)).output = w4.output ∧ ((((((((((w4.setCell ⟨gh, oh, none⟩ (.slice (some ⟨g4, 0, none⟩) (bi.length + 1) cap4)).setCell ⟨g4, bi.length * 9, none⟩ (.int .i64 x.kind)).setCell ⟨g4, bi.length * 9 + 1, none⟩ (.int .u64 x.num)).setCell ⟨g4, bi.length * 9 + 2, none⟩ (.bool x.neg)).setCell ⟨g4, bi.length * 9 + 3, none⟩ (.string x.dig)).setCell ⟨g4, bi.length * 9 + 4, none⟩ (.int .i64 x.exp)).setCell ⟨g4, bi.length * 9 + 5, none⟩ (.string x.txt)).setCell ⟨g4, bi.length * 9 + 6, none⟩ (.slice x.ab x.lb x.cb)).setCell ⟨g4, bi.length * 9 + 7, none⟩ (.slice x.ak x.lk x.ck)).setCell ⟨g4, bi.length * 9 + 8, none⟩ (.slice x.ai x.li x.ci)).heap.size = w4.heap.size := by simp [World.setCell]
  refine ⟨⟨g4, cap4, ?_, ?_, fun cs T hcs => ?_⟩, hos.1.trans (hg.os.trans hb.os), hos.2.1.trans (hg.tape.trans hb.tape), hos.2.2.1.trans (hg.output.trans hb.output), ?_, fun k hk hkh hkv => ?_⟩
  · refine ho.put (x := x) ⟨cur', e1, fun c hc' => ?_⟩
    rw [hc] at hc'; cases hc'; exact ⟨e2, e3, fun i hi => e4 i (.inl hi)⟩
  · rcases hn with h | h
    · exact .inl h
    · exact .inr (Nat.le_trans hb.size h)
  · have := hv4 gh hgh hv0
    rw [e5 gh (Ne.symm hne)]
    exact heap_setCell_same w4 gh oh cs T _ (this.2.trans hcs)
  · rw [hos.2.2.2]; exact Nat.le_trans hb.size hg.size
  · have := hv4 k hk hkv
    rw [e5 k this.1, setk hkh, this.2]
end Go.Proofs.YtmlacmoembjeoaaGreatDoor
