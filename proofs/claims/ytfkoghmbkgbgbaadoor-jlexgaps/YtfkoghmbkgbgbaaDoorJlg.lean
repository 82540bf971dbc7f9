/-
  Tokens stand in order, and between them only gaps: the walk.
-/
import Derived.Test.YtfkoghmbkgbgbaaDoorJlf
namespace Go.Proofs.YtfkoghmbkgbgbaaDoor
open Go.RowKit
set_option linter.unusedVariables false

theorem gap_cases {c : Int} (h : isGap c = true) : c = 32 ∨ c = 9 ∨ c = 10 ∨ c = 13 := by
  unfold isGap at h
  simp at h
  exact h
set_option maxHeartbeats 1000000 in
set_option maxRecDepth 100000 in
theorem vgap_any {c : Int} (h : isGap c = true) (w : World) : Calls Tryd.prog 18 #[.int .u8 c] w fun e w' => e = .returned (.bool true) ∧ w' = w := by
  rcases gap_cases h with rfl | rfl | rfl | rfl
  all_goals
    clear h
    go_enter Tryd.func18, Tryd.ntmps18
    go_wp2
    go_ret
    exact ⟨rfl, rfl⟩
/-- What Lex answers for any bytes, told for the statement. -/
structure LexOk (zs : List Int) (L : List Tk) (Y A : Nat) : Prop where
  ord : Ordr zs 0 L
  all : Y = 0 → A = 0 ∧ ∀ i, lastTo 0 L ≤ i → i < zs.length → isGap (zs.getD i 0) = true
  bad : Y ≠ 0 → Y = 8 ∨ (lastTo 0 L ≤ A ∧ A ≤ zs.length)
theorem lexW_ok (zs : List Int) : LexOk zs (lexW zs).1 (lexW zs).2.1 (lexW zs).2.2 := by
  unfold lexW
  by_cases h : zs.length ≤ 4096
  · rw [if_pos h]
    obtain ⟨h1, h2, h3⟩ := lex_order zs zs 0 rfl (Nat.zero_le _)
    exact ⟨h1, h2, fun e => .inr (h3 e)⟩
  · rw [if_neg h]
    exact ⟨trivial, fun e => absurd e (by decide), fun _ => .inl rfl⟩
theorem ordr_drop {zs : List Int} {at_ : Nat} {L : List Tk} {i : Nat} (h : Ordr zs at_ (L.drop i)) (hi : i < L.length) :
    at_ ≤ (L[i]'hi).frm ∧ (L[i]'hi).frm < (L[i]'hi).to ∧ (L[i]'hi).to ≤ zs.length ∧ 1 ≤ (L[i]'hi).kind ∧ (L[i]'hi).kind ≤ 11 ∧ (∀ j, at_ ≤ j → j < (L[i]'hi).frm → isGap (zs.getD j 0) = true) ∧ Ordr zs (L[i]'hi).to (L.drop (i + 1)) := by
  rw [List.drop_eq_getElem_cons hi] at h
  exact h
theorem last_drop {at_ : Nat} {L : List Tk} {i : Nat} (hi : i < L.length) : lastTo at_ (L.drop i) = lastTo (L[i]'hi).to (L.drop (i + 1)) := by
  rw [List.drop_eq_getElem_cons hi]; rfl
theorem tkCs_get (L : List Tk) (i j : Nat) (hi : i < L.length) (hj : j < 4) : (tkCs L)[i * 4 + j]? = (tkC (L[i]'hi))[j]? := by
  induction L generalizing i with
  | nil => simp at hi
  | cons t L ih =>
    have e : tkCs (t :: L) = tkC t ++ tkCs L := rfl
    have hl : (tkC t).length = 4 := rfl
    rw [e]
    cases i with
    | zero => rw [List.getElem?_append_left (by omega)]; simp
    | succ i =>
      rw [List.getElem?_append_right (by omega), hl, show (i + 1) * 4 + j - 4 = i * 4 + j by omega, ih i (by simpa using hi)]
      rfl
/-- Where the tokens lie. -/
def TokAt (w : World) (av : Option Addr) (L : List Tk) : Prop := L ≠ [] → ∃ g, av = some ⟨g, 0, none⟩ ∧ g < w.heap.size ∧ ∀ j, j < L.length * 4 → w.cell? ⟨g, j, none⟩ = (tkCs L)[j]?
theorem TokAt.kept {w w' : World} {av : Option Addr} {L : List Tk} (h : TokAt w av L) (hb : Below w.heap.size w w') : TokAt w' av L := fun h0 => by
  obtain ⟨g, h1, h2, h3⟩ := h h0
  exact ⟨g, h1, Nat.lt_of_lt_of_le h2 hb.size, fun j hj => (hb.cell (p := ⟨g, j, none⟩) h2).trans (h3 j hj)⟩
theorem OwnsT.at {w : World} {base : Nat} {v : Value} {L : List Tk} (h : OwnsT w base v L) : ∃ av cv, v = .slice av L.length cv ∧ L.length ≤ cv ∧ cv ≤ 9223372036854775807 ∧ TokAt w av L := by
  by_cases h0 : L = []
  · obtain ⟨av, n, cv, hv, hn, h1, h2⟩ := h.form
    exact ⟨av, cv, by rw [hv, hn.out], by rw [hn.out]; exact h1, h2, fun h => absurd h0 h⟩
  · obtain ⟨g, cap, hv, hg, hgl, h5, hc, hcs⟩ := h.cells h0
    exact ⟨_, cap, hv, h5, hc, fun _ => ⟨g, rfl, hgl, hcs⟩⟩
set_option maxHeartbeats 8000000 in
set_option maxRecDepth 100000 in
theorem gapsl_any (a0 : Option Addr) (n0 c0 : Nat) (zs : List Int) (w : World) (hl0 : zs.length = n0) (hb0 : Bytes w a0 zs) (hc0 : n0 ≤ c0) (hm0 : c0 ≤ 140737488351232) (hn0 : a0 = none → c0 = 0) :
    Calls Tryd.prog 7 #[.slice a0 n0 c0] w fun e w' => e = .returned (.bool true) ∧ Below w.heap.size w w' := by
  have kL := lex_full a0 n0 c0 zs w hl0 hb0 hc0
  have kA : Hid (∀ w', Calls Tryd.prog 12 #[] w' fun e w'' => e = .returned (.bool true) ∧ Below w'.heap.size w' w'') := alive_any
  have hok := lexW_ok zs
  obtain ⟨⟨LL, Y, A⟩, hR⟩ : ∃ R, lexW zs = R := ⟨_, rfl⟩
  rw [hR] at kL hok
  have hok' : Hid (LexOk zs LL Y A) := hok
  have kL' : Calls Tryd.prog 9 #[.slice a0 n0 c0] w fun e w' => ∃ av cv, e = .returned (.tuple #[.slice av LL.length cv, .agg #[.int .i64 (Y : Nat), .int .i64 (A : Nat)]]) ∧ LL.length ≤ cv ∧ cv ≤ 9223372036854775807 ∧ TokAt w' av LL ∧ Below w.heap.size w w' := kL.mono fun e w' ⟨v, h1, h2, h3⟩ => by
    obtain ⟨av, cv, rfl, h4, h5, h6⟩ := h2.at
    exact ⟨av, cv, h1, h4, h5, h6, h3⟩
  have hlz : Hid (zs.length = n0) := hl0
  have hB0 : Hid (Bytes w a0 zs) := hb0
  obtain ⟨m, hm⟩ : ∃ m, LL.length = m := ⟨_, rfl⟩
  rw [hm] at kL'
  have hm' : Hid (LL.length = m) := hm
  clear kL hok hR hl0 hb0 hm
  go_enter Tryd.func7, Tryd.ntmps7
  go_wp2_with (go_at_call 9; refine kL'.mono ?_; rintro e w1 ⟨av, cv, rfl, hcv1, hcv2, hT, hb⟩; clear kL'; have b1 : Hid (Below w.heap.size w (w1.alloc (.cells #[.int .i64 (Y : Nat), .int .i64 (A : Nat)] 26))) := hb.trans ((alloc_below w1 _).mono hb.size); have K1 : Hid (Blk (w1.alloc (.cells #[.int .i64 (Y : Nat), .int .i64 (A : Nat)] 26)) w1.heap.size #[.int .i64 (Y : Nat), .int .i64 (A : Nat)] 26) := blk_new w1 _ _; have T1 : Hid (TokAt (w1.alloc (.cells #[.int .i64 (Y : Nat), .int .i64 (A : Nat)] 26)) av LL) := hT.kept (alloc_below w1 _); clear hb hT)
  go_loopw [5, 19] (fun v u wr => ∃ (at_ i : Nat), i ≤ m ∧ at_ ≤ n0 ∧ v = .int .i64 at_ ∧ u = .int .i64 i ∧ Hid (Ordr zs at_ (LL.drop i)) ∧ Hid (lastTo at_ (LL.drop i) = lastTo 0 LL) ∧ Hid (Below (w1.alloc (.cells #[.int .i64 (Y : Nat), .int .i64 (A : Nat)] 26)).heap.size (w1.alloc (.cells #[.int .i64 (Y : Nat), .int .i64 (A : Nat)] 26)) wr)) (fun _ u _ => m - (intOf u).toNat)
  case atStart => exact ⟨0, 0, Nat.zero_le _, Nat.zero_le _, rfl, rfl, hok'.out.ord, rfl, Below.refl _ _⟩
  case round =>
    obtain ⟨at_, i, hi, hat, rfl, rfl, hO, hLt, hW⟩ := hrel
    by_cases hlt : i < m
    · have hil : i < LL.length := by rw [hm'.out]; exact hlt
      obtain ⟨o1, o2, o3, o4, o5, o6, o7⟩ := ordr_drop hO.out hil
      have hl1 := last_drop (at_ := at_) hil
      have hcs := tkCs_get LL i
      obtain ⟨g, hav, hg, hcell⟩ := (T1.out.kept hW.out) (by rintro rfl; simp at hil)
      subst hav
      generalize hTk : LL[i]'hil = tk at *
      obtain ⟨K, F, T, X⟩ := tk
      simp only at o1 o2 o3 o4 o5 o6 o7 hl1
      rw [hlz.out] at o3
      have q0 : wr.cell? ⟨g, i * 4, none⟩ = some (.int .i64 (K : Nat)) := by
        have := hcell (i * 4) (by omega)
        rw [this, show i * 4 = i * 4 + 0 by omega, hcs 0 hil (by omega), hTk]; rfl
      have q1 : wr.cell? ⟨g, i * 4 + 1, none⟩ = some (.int .i64 (F : Nat)) := by rw [hcell _ (by omega), hcs 1 hil (by omega), hTk]; rfl
      have q2 : wr.cell? ⟨g, i * 4 + 2, none⟩ = some (.int .i64 (T : Nat)) := by rw [hcell _ (by omega), hcs 2 hil (by omega), hTk]; rfl
      have q3 : wr.cell? ⟨g, i * 4 + 3, none⟩ = some (.string (strOfNums X)) := by rw [hcell _ (by omega), hcs 3 hil (by omega), hTk]; rfl
      have e1 : decide (F < at_) = false := by simp; omega
      have e2 : decide (T ≤ F) = false := by simp; omega
      have e3 : decide (n0 < T) = false := by simp; omega
      have e4 : decide ((K : Int) < 1) = false := by simp; omega
      have e5 : decide ((11 : Int) < (K : Int)) = false := by simp; omega
      have s0 : (at_ : Int) ≤ (F : Int) := by omega
      have s1 : (F : Int) ≤ (c0 : Int) := by omega
      obtain ⟨hz0, hzm, hrow⟩ := hB0.out
      obtain ⟨x, off, hax, hbc⟩ : ∃ x off, a0 = some ⟨x, off, none⟩ ∧ ∀ i, i < zs.length → w.cell? ⟨x, off + i, none⟩ = some (.int .u8 (zs.getD i 0)) := by
        rcases hrow with h | h
        · have := hlz.out; rw [h] at this; simp at this; omega
        · exact h
      subst hax
      have hzF : Hid (at_ ≤ F ∧ F ≤ n0) := ⟨o1, by omega⟩
      have hgp : Hid (∀ j, at_ ≤ j → j < F → isGap (zs.getD j 0) = true) := o6
      have hbw : Hid (Below w.heap.size w (wr.alloc (.cells #[.int .i64 (K : Nat), .int .i64 (F : Nat), .int .i64 (T : Nat), .string (strOfNums X)] 41))) := by
        have h1 := b1.out.trans (hW.out.mono b1.out.size)
        exact h1.alloc h1.size _
      have hW2 : Hid (Below (w1.alloc (.cells #[.int .i64 (Y : Nat), .int .i64 (A : Nat)] 26)).heap.size (w1.alloc (.cells #[.int .i64 (Y : Nat), .int .i64 (A : Nat)] 26)) (wr.alloc (.cells #[.int .i64 (K : Nat), .int .i64 (F : Nat), .int .i64 (T : Nat), .string (strOfNums X)] 41))) := hW.out.alloc hW.out.size _
      have hby : Hid (Bytes (wr.alloc (.cells #[.int .i64 (K : Nat), .int .i64 (F : Nat), .int .i64 (T : Nat), .string (strOfNums X)] 41)) (some ⟨x, off, none⟩) zs) := hB0.out.kept hbw.out
      have hnx : Hid (Ordr zs T (LL.drop (i + 1)) ∧ lastTo T (LL.drop (i + 1)) = lastTo 0 LL) := ⟨o7, by rw [← hl1]; exact hLt.out⟩
      have hTn : T ≤ n0 := o3
      have hne : ¬ c0 = at_ := by omega
      have hi1 : i + 1 ≤ m := hlt
      have kb := blk_new wr #[.int .i64 (K : Nat), .int .i64 (F : Nat), .int .i64 (T : Nat), .string (strOfNums X)] 41
      have d2 : (wr.alloc (.cells #[.int .i64 (K : Nat), .int .i64 (F : Nat), .int .i64 (T : Nat), .string (strOfNums X)] 41)).cell? ⟨wr.heap.size, 2, none⟩ = some (.int .i64 (T : Nat)) := kb.cell 2
      clear hcs hcell hO hTk hbc hrow hz0 hzm o1 o2 o3 o4 o5 o6 o7 hl1 hLt hil kb
      go_wp2
      generalize wr.alloc (.cells #[.int .i64 (K : Nat), .int .i64 (F : Nat), .int .i64 (T : Nat), .string (strOfNums X)] 41) = wa at *
      go_loopw [57] (fun u wi => ∃ k : Nat, k ≤ F - at_ ∧ u = .int .i64 k ∧ wi = wa) (fun u _ => F - at_ - (intOf u).toNat)
      case atStart => exact ⟨0, Nat.zero_le _, rfl, rfl⟩
      case round =>
        obtain ⟨k, hk, rfl, rfl⟩ := hrel
        by_cases hk2 : k < F - at_
        · have hin : at_ + k < zs.length := by have := hzF.out; have := hlz.out; omega
          have qc : wr.cell? ⟨x, off + at_ + k, none⟩ = some (.int .u8 (zs.getD (at_ + k) 0)) := by
            rcases hby.out.2.2 with h | ⟨x', off', h1, h2⟩
            · rw [h] at hin; simp at hin
            · cases h1
              rw [Nat.add_assoc]; exact h2 _ hin
          have kV := fun w' => vgap_any (hgp.out (at_ + k) (by omega) (by omega)) w'
          generalize zs.getD (at_ + k) 0 = C at *
          have v1 : (k : Int) < ((F - at_ : Nat) : Int) := by omega
          have v2 : (k : Int) < (F : Int) - (at_ : Int) := by omega
          go_wp2_with (go_at_call 18; refine (kV _).mono ?_; rintro e w5 ⟨rfl, hw5⟩; subst hw5; clear kV)
          go_roundw
          case rel => exact ⟨k + 1, by omega, by go_num, trivial⟩
          case measure => simp [intOf]; omega
        · have v1 : ¬ (k : Int) < ((F - at_ : Nat) : Int) := by omega
          go_wp2
          go_roundw
          case rel => exact ⟨T, i + 1, hi1, hTn, rfl, by go_num, hnx.out.1, hnx.out.2, hW2⟩
          case measure => simp [intOf]; omega
    · obtain rfl : i = m := by omega
      have hat2 : at_ = lastTo 0 LL := by
        have := hLt.out
        rw [List.drop_of_length_le (by have := hm'.out; omega)] at this
        exact this
      have hwB : Hid (Below w.heap.size w wr) := b1.out.trans (hW.out.mono b1.out.size)
      have hKf := K1.out.kept hW.out K1.out.lt
      have c0' : wr.cell? ⟨w1.heap.size, 0, none⟩ = some (.int .i64 (Y : Nat)) := hKf.cell 0
      have c1' : wr.cell? ⟨w1.heap.size, 1, none⟩ = some (.int .i64 (A : Nat)) := hKf.cell 1
      clear hKf
      by_cases hY : Y = 0
      · obtain ⟨hA0, hgp0⟩ := hok'.out.all hY
        have yz : (((Y : Nat) : Int) == 0) = true := by simp; exact hY
        have az : (((A : Nat) : Int) == 0) = true := by simp; exact hA0
        rw [← hat2] at hgp0
        clear hY hA0
        have hgp : Hid (∀ j, at_ ≤ j → j < zs.length → isGap (zs.getD j 0) = true) := hgp0
        have s0 : (at_ : Int) ≤ (n0 : Int) := by omega
        have hby : Hid (Bytes wr a0 zs) := hB0.out.kept hwB.out
        clear hgp0 hO hLt hW hok' T1 K1 b1 hB0 hat2
        by_cases hz : at_ = n0
        · subst hz
          rcases a0 with _ | ad
          · obtain rfl := hn0 rfl
            obtain rfl : at_ = 0 := by omega
            go_wp2
            obtain ⟨wq, hwq⟩ : ∃ wq, wr = wq := ⟨_, rfl⟩
            rw [hwq] at hwB ⊢
            go_loopw [94] (fun u wi => u = .int .i64 0 ∧ wi = wq) (fun _ _ => 0)
            case atStart => exact ⟨rfl, rfl⟩
            case round =>
              obtain ⟨rfl, rfl⟩ := hrel
              go_wp2_with (go_at_call 12; refine (kA.out _).mono ?_; rintro e w6 ⟨rfl, b6⟩)
              go_ret
              exact ⟨rfl, hwB.out.trans (b6.mono hwB.out.size)⟩
          · by_cases hca : c0 = at_
            · subst hca
              go_wp2
              obtain ⟨wq, hwq⟩ : ∃ wq, wr = wq := ⟨_, rfl⟩
              rw [hwq] at hwB ⊢
              go_loopw [94] (fun u wi => u = .int .i64 0 ∧ wi = wq) (fun _ _ => 0)
              case atStart => exact ⟨rfl, rfl⟩
              case round =>
                obtain ⟨rfl, rfl⟩ := hrel
                go_wp2_with (go_at_call 12; refine (kA.out _).mono ?_; rintro e w6 ⟨rfl, b6⟩)
                go_ret
                exact ⟨rfl, hwB.out.trans (b6.mono hwB.out.size)⟩
            · go_wp2
              obtain ⟨wq, hwq⟩ : ∃ wq, wr = wq := ⟨_, rfl⟩
              rw [hwq] at hwB ⊢
              go_loopw [94] (fun u wi => u = .int .i64 0 ∧ wi = wq) (fun _ _ => 0)
              case atStart => exact ⟨rfl, rfl⟩
              case round =>
                obtain ⟨rfl, rfl⟩ := hrel
                go_wp2_with (go_at_call 12; refine (kA.out _).mono ?_; rintro e w6 ⟨rfl, b6⟩)
                go_ret
                exact ⟨rfl, hwB.out.trans (b6.mono hwB.out.size)⟩
        · have hnb : at_ < n0 := by omega
          obtain ⟨x, off, hax, hbc⟩ : ∃ x off, a0 = some ⟨x, off, none⟩ ∧ ∀ i, i < zs.length → wr.cell? ⟨x, off + i, none⟩ = some (.int .u8 (zs.getD i 0)) := by
            rcases hby.out.2.2 with h | h
            · have := hlz.out; rw [h] at this; simp at this; omega
            · exact h
          subst hax
          have hbc' : Hid (∀ i, i < zs.length → wr.cell? ⟨x, off + i, none⟩ = some (.int .u8 (zs.getD i 0))) := hbc
          have hne : ¬ c0 = at_ := by omega
          clear hbc hby
          go_wp2
          obtain ⟨wq, hwq⟩ : ∃ wq, wr = wq := ⟨_, rfl⟩
          rw [hwq] at hbc' hwB ⊢
          clear c0' c1' hwq
          go_loopw [94] (fun u wi => ∃ k : Nat, k ≤ n0 - at_ ∧ u = .int .i64 k ∧ wi = wq) (fun u _ => n0 - at_ - (intOf u).toNat)
          case atStart => exact ⟨0, Nat.zero_le _, rfl, rfl⟩
          case round =>
            obtain ⟨k, hk, rfl, rfl⟩ := hrel
            by_cases hk2 : k < n0 - at_
            · have hin : at_ + k < zs.length := by have := hlz.out; omega
              have qc : wr.cell? ⟨x, off + at_ + k, none⟩ = some (.int .u8 (zs.getD (at_ + k) 0)) := by rw [Nat.add_assoc]; exact hbc'.out _ hin
              have kV := fun w' => vgap_any (hgp.out (at_ + k) (by omega) hin) w'
              generalize zs.getD (at_ + k) 0 = C at *
              have v1 : (k : Int) < ((n0 - at_ : Nat) : Int) := by omega
              have v2 : (k : Int) < (n0 : Int) - (at_ : Int) := by omega
              go_wp2_with (go_at_call 18; refine (kV _).mono ?_; rintro e w5 ⟨rfl, hw5⟩; subst hw5; clear kV)
              go_roundw
              case rel => exact ⟨k + 1, by omega, by go_num, trivial⟩
              case measure => simp [intOf]; omega
            · have v1 : ¬ (k : Int) < ((n0 - at_ : Nat) : Int) := by omega
              go_wp2_with (go_at_call 12; refine (kA.out _).mono ?_; rintro e w6 ⟨rfl, b6⟩)
              go_ret
              exact ⟨rfl, hwB.out.trans (b6.mono hwB.out.size)⟩
      · rcases hok'.out.bad hY with h8 | ⟨h1, h2⟩
        · subst h8
          clear hY
          go_wp2_with (go_at_call 12; refine (kA.out _).mono ?_; rintro e w6 ⟨rfl, b6⟩)
          go_ret
          exact ⟨rfl, hwB.out.trans (b6.mono hwB.out.size)⟩
        · have y0 : (((Y : Nat) : Int) == 0) = false := by simp; omega
          have z1 : decide (at_ ≤ A) = true := by simp; omega
          have z2 : decide (A ≤ n0) = true := by have := hlz.out; simp; omega
          by_cases h8 : Y = 8
          · subst h8
            go_wp2_with (go_at_call 12; refine (kA.out _).mono ?_; rintro e w6 ⟨rfl, b6⟩)
            go_ret
            exact ⟨rfl, hwB.out.trans (b6.mono hwB.out.size)⟩
          · have y8 : (((Y : Nat) : Int) == 8) = false := by simp; omega
            go_wp2_with (go_at_call 12; refine (kA.out _).mono ?_; rintro e w6 ⟨rfl, b6⟩)
            go_ret
            exact ⟨rfl, hwB.out.trans (b6.mono hwB.out.size)⟩
end Go.Proofs.YtfkoghmbkgbgbaaDoor
