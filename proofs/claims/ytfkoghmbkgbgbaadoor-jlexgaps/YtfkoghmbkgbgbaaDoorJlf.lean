/-
  The fault hangs on the bytes up to it alone: the walk.
-/
import Derived.Test.YtfkoghmbkgbgbaaDoorJal
namespace Go.Proofs.YtfkoghmbkgbgbaaDoor
open Go.RowKit
set_option linter.unusedVariables false

/-- What Lex answers for any bytes. -/
def lexW (zs : List Int) : List Tk × Nat × Nat := if zs.length ≤ 4096 then lexA zs 0 else ([], 8, 0)
set_option maxHeartbeats 2000000 in
set_option maxRecDepth 100000 in
theorem lex_many (a : Option Addr) (n cap : Nat) (w : World) (hn : 4096 < n) :
    Calls Tryd.prog 9 #[.slice a n cap] w fun e w' => e = .returned (.tuple #[.slice none 0 0, .agg #[.int .i64 8, .int .i64 0]]) ∧ Below w.heap.size w w' := by
  have a1 : decide ((4096 : Int) < (n : Int)) = true := by simp; omega
  have hA : Hid (Below w.heap.size w (w.alloc (.cells #[.int .i64 8, .int .i64 0] 26))) := alloc_below w _
  clear hn
  go_enter Tryd.func9, Tryd.ntmps9
  go_wp2
  refine bodyPost_ret (v := .tuple #[.slice none 0 0, .agg #[.int .i64 8, .int .i64 0]]) (by simp [results, Tryd.results9, go_sem, *]) rfl ⟨rfl, hA.out⟩
theorem lex_full (a : Option Addr) (n cap : Nat) (zs : List Int) (w : World) (hl : zs.length = n) (hb : Bytes w a zs) (hc : n ≤ cap) :
    Calls Tryd.prog 9 #[.slice a n cap] w fun e w' => ∃ v, e = .returned (.tuple #[v, .agg #[.int .i64 ((lexW zs).2.1 : Nat), .int .i64 ((lexW zs).2.2 : Nat)]]) ∧ OwnsT w' (w.heap.size + 1) v (lexW zs).1 ∧ Below w.heap.size w w' := by
  unfold lexW
  by_cases h : n ≤ 4096
  · rw [if_pos (by omega)]; exact lex_any a n cap zs w hl hb hc h
  · rw [if_neg (by omega)]
    exact (lex_many a n cap w (by omega)).mono fun e w' ⟨h1, h2⟩ => ⟨_, h1, ownsT_nil _ _, h2⟩
theorem lexW_local (zs t : List Int) (hY : (lexW zs).2.1 ≠ 0) (h8 : (lexW zs).2.1 ≠ 8) (hA : (lexW zs).2.2 < zs.length) (hm : (lexW zs).2.2 + 1 + t.length ≤ 4096) : (lexW (zs.take ((lexW zs).2.2 + 1) ++ t)).2 = (lexW zs).2 := by
  by_cases h : zs.length ≤ 4096
  · have e : lexW zs = lexA zs 0 := by unfold lexW; rw [if_pos h]
    rw [e] at hY h8 hA hm ⊢
    have e2 : lexW (zs.take ((lexA zs 0).2.2 + 1) ++ t) = lexA (zs.take ((lexA zs 0).2.2 + 1) ++ t) 0 := by
      unfold lexW
      rw [if_pos]
      rw [List.length_append, List.length_take]; omega
    rw [e2]
    exact lex_local t zs 0 _ hY (by omega) (by omega)
  · have e : lexW zs = ([], 8, 0) := by unfold lexW; rw [if_neg h]
    rw [e] at h8
    exact absurd rfl h8
theorem lexW_zero (zs : List Int) (h : (lexW zs).2.1 = 0) : (lexW zs).2.2 = 0 := by
  unfold lexW at h ⊢
  by_cases hl : zs.length ≤ 4096
  · rw [if_pos hl] at h ⊢
    exact (((lex_order zs zs 0 rfl (Nat.zero_le _)).2.1) h).1
  · rw [if_neg hl] at h; cases h
set_option maxHeartbeats 8000000 in
set_option maxRecDepth 100000 in
theorem first_any (a0 : Option Addr) (n0 c0 : Nat) (zs : List Int) (a1 : Option Addr) (n1 c1 : Nat) (ts : List Int) (w : World) (hl0 : zs.length = n0) (hb0 : Bytes w a0 zs) (hc0 : n0 ≤ c0) (hm0 : c0 ≤ 140737488351232)
    (hl1 : ts.length = n1) (hb1 : Bytes w a1 ts) (hc1 : n1 ≤ c1) (hm1 : c1 ≤ 140737488351232) (hn1 : a1 = none → c1 = 0) :
    Calls Tryd.prog 8 #[.slice a0 n0 c0, .slice a1 n1 c1] w fun e w' => e = .returned (.bool true) ∧ Below w.heap.size w w' := by
  have kL := lex_full a0 n0 c0 zs w hl0 hb0 hc0
  have kA : Hid (∀ w', Calls Tryd.prog 12 #[] w' fun e w'' => e = .returned (.bool true) ∧ Below w'.heap.size w' w'') := alive_any
  have hloc := lexW_local zs ts
  have hzero := lexW_zero zs
  obtain ⟨⟨LL, Y, A⟩, hR⟩ : ∃ R, lexW zs = R := ⟨_, rfl⟩
  rw [hR] at kL hloc hzero
  simp only at kL hloc hzero
  by_cases hY : Y = 0
  · obtain rfl := hzero hY
    subst hY
    have kL' : Calls Tryd.prog 9 #[.slice a0 n0 c0] w fun e w' => ∃ v, e = .returned (.tuple #[v, .agg #[.int .i64 0, .int .i64 0]]) ∧ Below w.heap.size w w' := kL.mono fun e w' ⟨v, h1, _, h2⟩ => ⟨v, h1, h2⟩
    clear kL hloc hzero hR hb0 hb1 hl0 hl1
    go_enter Tryd.func8, Tryd.ntmps8
    go_wp2_with (first
      | (go_at_call 9; refine kL'.mono ?_; rintro e w1 ⟨v, rfl, hb⟩; clear kL'; have b1 : Hid (Below w.heap.size w w1) := hb; clear hb)
      | (go_at_call 12; refine (kA.out _).mono ?_; rintro e w2 ⟨rfl, b2⟩))
    go_ret
    have h1 := b1.out.trans ((alloc_below w1 (.cells #[.int .i64 0, .int .i64 0] 26)).mono b1.out.size)
    exact ⟨rfl, h1.trans (b2.mono h1.size)⟩
  · have y0 : (((Y : Nat) : Int) == 0) = false := by simp; omega
    have kL' : Calls Tryd.prog 9 #[.slice a0 n0 c0] w fun e w' => ∃ v, e = .returned (.tuple #[v, .agg #[.int .i64 (Y : Nat), .int .i64 (A : Nat)]]) ∧ Below w.heap.size w w' := kL.mono fun e w' ⟨v, h1, _, h2⟩ => ⟨v, h1, h2⟩
    clear kL
    by_cases h8 : Y = 8
    · subst h8
      clear hloc hzero hR hb0 hb1 hl0 hl1 hY y0
      go_enter Tryd.func8, Tryd.ntmps8
      go_wp2_with (first
        | (go_at_call 9; refine kL'.mono ?_; rintro e w1 ⟨v, rfl, hb⟩; clear kL'; have b1 : Hid (Below w.heap.size w w1) := hb; clear hb)
        | (go_at_call 12; refine (kA.out _).mono ?_; rintro e w2 ⟨rfl, b2⟩))
      go_ret
      have h1 := b1.out.trans ((alloc_below w1 (.cells #[.int .i64 8, .int .i64 (A : Nat)] 26)).mono b1.out.size)
      exact ⟨rfl, h1.trans (b2.mono h1.size)⟩
    · have y8 : (((Y : Nat) : Int) == 8) = false := by simp; omega
      have y9 : decide (((A : Nat) : Int) < 0) = false := by simp
      by_cases hlt : A < n0
      · have y10 : decide (n0 ≤ A) = false := by simp; omega
        have W1 : IntKind.i64.wrap (((A : Nat) : Int) + 1) = (A : Int) + 1 := by rw [IntKind.wrap_i64]; omega
        have W2 : IntKind.i64.wrap ((A : Int) + 1 + ((n1 : Nat) : Int)) = (A : Int) + 1 + (n1 : Int) := by rw [IntKind.wrap_i64]; omega
        by_cases hm : A + 1 + n1 ≤ 4096
        · have y11 : decide ((4096 : Int) < (A : Int) + 1 + (n1 : Int)) = false := by simp; omega
          have hlc := hloc hY h8 (by omega) (by omega)
          obtain ⟨hz0, _, hrow⟩ := hb0
          obtain ⟨x, off, rfl, hcell⟩ : ∃ x off, a0 = some ⟨x, off, none⟩ ∧ ∀ i, i < zs.length → w.cell? ⟨x, off + i, none⟩ = some (.int .u8 (zs.getD i 0)) := by
            rcases hrow with rfl | h
            · simp at hl0; omega
            · exact h
          have hBt : Hid (Bytes w (some ⟨x, off, none⟩) (zs.take (A + 1))) := Bytes.take (w := w) (zs := zs) ⟨hz0, ‹_›, .inr ⟨x, off, rfl, hcell⟩⟩ (A + 1)
          have hlt' : Hid ((zs.take (A + 1)).length = A + 1) := by show _ = _; rw [List.length_take]; omega
          have hB1 : Hid (Bytes w a1 ts) := hb1
          have hl1' : Hid (ts.length = n1) := hl1
          have hn1' : Hid (a1 = none → c1 = 0) := hn1
          have hsm : Hid (A + 1 + n1 ≤ 4096) := hm
          have kM : Hid (∀ (a2 : Option Addr) (n2 c2 : Nat) (wx : World), (zs.take (A + 1) ++ ts).length = n2 → Bytes wx a2 (zs.take (A + 1) ++ ts) → n2 ≤ c2 → Calls Tryd.prog 9 #[.slice a2 n2 c2] wx fun e w' => ∃ v, e = .returned (.tuple #[v, .agg #[.int .i64 (Y : Nat), .int .i64 (A : Nat)]]) ∧ Below wx.heap.size wx w') := fun a2 n2 c2 wx h1 h2 h3 => by
            have h := lex_full a2 n2 c2 _ wx h1 h2 h3
            rw [hlc] at h
            exact h.mono fun e w' ⟨v, h1, _, h2⟩ => ⟨v, h1, h2⟩
          have i0 : (0 : Int) ≤ (A : Int) + 1 := by omega
          have i1 : (A : Int) + 1 ≤ (c0 : Int) := by omega
          clear hloc hzero hR hb1 hl0 hl1 hz0 hrow hcell hlc hm hn1
          generalize zs.take (A + 1) = us at *
          go_enter Tryd.func8, Tryd.ntmps8
          go_wp2_with (first
            | (go_at_call 9; refine kL'.mono ?_; rintro e w1 ⟨v, rfl, hb⟩; clear kL'; have b1 : Hid (Below w.heap.size w (w1.alloc (.cells #[.int .i64 (Y : Nat), .int .i64 (A : Nat)] 26))) := hb.trans ((alloc_below w1 _).mono hb.size); have K1 : Hid (Blk (w1.alloc (.cells #[.int .i64 (Y : Nat), .int .i64 (A : Nat)] 26)) w1.heap.size #[.int .i64 (Y : Nat), .int .i64 (A : Nat)] 26) := blk_new w1 _ _; clear hb)
            | (at_builtin; guard_hyp K1; refine wpList_append_bytes rfl _ _ rfl (w1.alloc (.cells #[.int .i64 (Y : Nat), .int .i64 (A : Nat)] 26)).heap.size (.slice none 0 0) [] us rfl (ownsB_nil _ _) (some ⟨x, off, none⟩) (A + 1) c0 rfl hlt'.out (by simp) (hBt.out.kept b1.out) (by have := hlt'.out; have := hsm.out; simp; omega) (Nat.le_refl _) ?_; intro v3 w3 hO3 hg3; have b3 : Hid (Below (w1.alloc (.cells #[.int .i64 (Y : Nat), .int .i64 (A : Nat)] 26)).heap.size (w1.alloc (.cells #[.int .i64 (Y : Nat), .int .i64 (A : Nat)] 26)) w3) := grown_below (Below.refl _ _) (ownsB_nil _ _) hg3 (Nat.le_refl _); have O3 : Hid (OwnsB w3 (w1.alloc (.cells #[.int .i64 (Y : Nat), .int .i64 (A : Nat)] 26)).heap.size v3 us) := hO3; have K3 : Hid (Blk w3 w1.heap.size #[.int .i64 (Y : Nat), .int .i64 (A : Nat)] 26) := K1.out.kept b3.out K1.out.lt; clear hO3 hg3 K1)
            | (at_builtin; guard_hyp K3; refine wpList_append_bytes rfl _ _ rfl (w1.alloc (.cells #[.int .i64 (Y : Nat), .int .i64 (A : Nat)] 26)).heap.size v3 us ts rfl O3.out a1 n1 c1 rfl hl1'.out hn1'.out (hB1.out.kept (b1.out.trans (b3.out.mono b1.out.size))) (by have := hlt'.out; have := hsm.out; have := hl1'.out; omega) b3.out.size ?_; intro v4 w4 hO4 hg4; have b4 : Hid (Below (w1.alloc (.cells #[.int .i64 (Y : Nat), .int .i64 (A : Nat)] 26)).heap.size (w1.alloc (.cells #[.int .i64 (Y : Nat), .int .i64 (A : Nat)] 26)) w4) := grown_below b3.out O3.out hg4 b3.out.size; obtain ⟨a2, n2, c2, rfl, hl2, _, hc2, hm2, hB2⟩ := hO4.form; have K4 : Hid (Blk w4 w1.heap.size #[.int .i64 (Y : Nat), .int .i64 (A : Nat)] 26) := ((b4.out.block _ (by simp)).trans (blk_new w1 _ _)); have kX := kM.out a2 n2 c2 w4 hl2.out hB2.out hc2; clear hO4 hg4 K3 hl2 hB2)
            | (go_at_call 9; refine kX.mono ?_; rintro e w5 ⟨v5, rfl, hb5⟩; clear kX; have K5 : Hid (Blk (w5.alloc (.cells #[.int .i64 (Y : Nat), .int .i64 (A : Nat)] 26)) w1.heap.size #[.int .i64 (Y : Nat), .int .i64 (A : Nat)] 26) := (K4.out.kept hb5 K4.out.lt).kept (alloc_below w5 _) (K4.out.kept hb5 K4.out.lt).lt; have d0 : (w5.alloc (.cells #[.int .i64 (Y : Nat), .int .i64 (A : Nat)] 26)).cell? ⟨w1.heap.size, 0, none⟩ = some (.int .i64 (Y : Nat)) := K5.out.cell 0; have d1 : (w5.alloc (.cells #[.int .i64 (Y : Nat), .int .i64 (A : Nat)] 26)).cell? ⟨w1.heap.size, 1, none⟩ = some (.int .i64 (A : Nat)) := K5.out.cell 1; have b4' := b1.out.trans (b4.out.mono b1.out.size); have b5' := b4'.trans (hb5.mono b4'.size); have b5 : Hid (Below w.heap.size w (w5.alloc (.cells #[.int .i64 (Y : Nat), .int .i64 (A : Nat)] 26))) := b5'.trans ((alloc_below w5 _).mono b5'.size); clear hb5 b4' b5')
            | (go_at_call 12; refine (kA.out _).mono ?_; rintro e w6 ⟨rfl, b6⟩))
          go_ret
          exact ⟨rfl, b5.out.trans (b6.mono b5.out.size)⟩
        · have y11 : decide ((4096 : Int) < (A : Int) + 1 + (n1 : Int)) = true := by simp; omega
          clear hloc hzero hR hb0 hb1 hl0 hl1 hY hm
          go_enter Tryd.func8, Tryd.ntmps8
          go_wp2_with (first
            | (go_at_call 9; refine kL'.mono ?_; rintro e w1 ⟨v, rfl, hb⟩; clear kL'; have b1 : Hid (Below w.heap.size w w1) := hb; clear hb)
            | (go_at_call 12; refine (kA.out _).mono ?_; rintro e w2 ⟨rfl, b2⟩))
          go_ret
          have h1 := b1.out.trans ((alloc_below w1 (.cells #[.int .i64 (Y : Nat), .int .i64 (A : Nat)] 26)).mono b1.out.size)
          exact ⟨rfl, h1.trans (b2.mono h1.size)⟩
      · have y10 : decide (n0 ≤ A) = true := by simp; omega
        clear hloc hzero hR hb0 hb1 hl0 hl1 hY hlt
        go_enter Tryd.func8, Tryd.ntmps8
        go_wp2_with (first
          | (go_at_call 9; refine kL'.mono ?_; rintro e w1 ⟨v, rfl, hb⟩; clear kL'; have b1 : Hid (Below w.heap.size w w1) := hb; clear hb)
          | (go_at_call 12; refine (kA.out _).mono ?_; rintro e w2 ⟨rfl, b2⟩))
        go_ret
        have h1 := b1.out.trans ((alloc_below w1 (.cells #[.int .i64 (Y : Nat), .int .i64 (A : Nat)] 26)).mono b1.out.size)
        exact ⟨rfl, h1.trans (b2.mono h1.size)⟩
end Go.Proofs.YtfkoghmbkgbgbaaDoor
