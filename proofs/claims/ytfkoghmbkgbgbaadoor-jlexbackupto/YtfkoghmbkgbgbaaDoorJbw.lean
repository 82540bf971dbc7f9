/-
  An escaped text is a string that means the text: jlex.String, and the walk of the statement.
-/
import Derived.Test.YtfkoghmbkgbgbaaDoorJbk
import Derived.Test.YtfkoghmbkgbgbaaDoorJal
import Derived.Test.YtfkoghmbkgbgbaaDoorUrr
namespace Go.Proofs.YtfkoghmbkgbgbaaDoor
open Go.RowKit
set_option linter.unusedVariables false

theorem tl_loop (b : ByteArray) : ∀ (k i : Nat) (r : List UInt8), b.size - i = k → r.length ≤ (ByteArray.toList.loop b i r).length ∧ (i < b.size → 0 < (ByteArray.toList.loop b i r).length) := by
  intro k
  induction k with
  | zero =>
    intro i r h
    unfold ByteArray.toList.loop
    rw [if_neg (by omega)]
    exact ⟨by rw [List.length_reverse]; exact Nat.le_refl _, fun h => by omega⟩
  | succ k ih =>
    intro i r h
    unfold ByteArray.toList.loop
    rw [if_pos (by omega)]
    have := ih (i + 1) (b.get! i :: r) (by omega)
    rw [List.length_cons] at this
    exact ⟨by omega, fun _ => by omega⟩
theorem tl_some {b : ByteArray} (h : 0 < b.size) : b.toList.isEmpty = false := by
  rw [List.isEmpty_eq_false_iff]
  intro e
  have := (tl_loop b _ 0 [] rfl).2 h
  unfold ByteArray.toList at e
  rw [e] at this
  simp at this
set_option maxHeartbeats 2000000 in
set_option maxRecDepth 100000 in
/-- jlex.String, where a string may begin. -/
theorem string_any {g n c : Nat} {zs : List Int} {w : World} (hl : zs.length = n) (hb : Bytes w (some ⟨g, 0, none⟩) zs) (hc : n ≤ c) (hcm : c ≤ 9223372036854775807) (h0 : 0 < n) (h34 : nth zs 0 = 34) (hn : n ≤ 10000000) {x : List Int} {p : Nat} (hR : strL (zs.drop 1) 1 r0 = (x, p, 0, 0)) :
    Calls Tryd.prog 13 #[.slice (some ⟨g, 0, none⟩) n c, .int .i64 0] w fun e w' => e = .returned (.tuple #[.string (strOfNums x), .int .i64 (p : Nat), .agg #[.int .i64 0, .int .i64 0]]) ∧ Below w.heap.size w w' := by
  have hA := alloc_below w (.cells #[.int .i64 0, .int .i64 0] 26)
  have K0 : Hid (Blk (w.alloc (.cells #[.int .i64 0, .int .i64 0] 26)) w.heap.size #[.int .i64 0, .int .i64 0] 26) := blk_new w _ _
  have B0 : Hid (Below w.heap.size w (w.alloc (.cells #[.int .i64 0, .int .i64 0] 26))) := hA
  have hcv := conv_str (hb.kept hA) n c hl
  have hz := hb.1
  obtain ⟨s, hs⟩ : ∃ s, strOfNums zs = s := ⟨_, rfl⟩
  rw [hs] at hcv
  have hbs : bs s = zs := by rw [← hs, bs_str hz]
  have hss : s.size = n := by rw [← bs_len, hbs, hl]
  have c0 : (w.alloc (.cells #[.int .i64 0, .int .i64 0] 26)).cell? ⟨g, 0, none⟩ = some (.int .u8 34) := by
    have := (hb.kept hA).nat (i := 0) (by omega)
    rw [h34] at this
    exact this
  have kS := fun (w' : World) => strat_any s 0 w' (by omega) (by omega)
  rw [hbs] at kS
  have kS' : Hid (∀ w', Calls Tryd.prog 22 #[.string s, .int .i64 0] w' fun e w'' => e = .returned (.tuple #[.string (strOfNums x), .int .i64 (p : Nat), .agg #[.int .i64 0, .int .i64 0]]) ∧ Below w'.heap.size w' w'') := fun w' => by
    have := kS w'
    have e : strL (zs.drop (0 + 1)) (0 + 1) r0 = (x, p, 0, 0) := hR
    rw [e] at this
    exact this
  have a1 : decide ((n : Int) ≤ 0) = false := by simp; omega
  have a2 : (0 : Int) < (n : Int) := by omega
  clear hs hbs hz hss kS hl hb hA hR h34
  go_enter Tryd.func13, Tryd.ntmps13
  go_wp2_with (go_at_call 22; refine (kS'.out _).mono ?_; rintro e w2 ⟨rfl, hb2⟩; have K2 := K0.out.kept hb2 K0.out.lt; have d0 : w2.cell? ⟨w.heap.size, 0, none⟩ = some (.int .i64 0) := K2.cell 0; have d1 : w2.cell? ⟨w.heap.size, 1, none⟩ = some (.int .i64 0) := K2.cell 1; have f0 := K2.fz 0; have f1 := K2.fz 1; have B2 : Hid (Below w.heap.size w w2) := B0.out.trans (hb2.mono B0.out.size))
  refine bodyPost_ret (v := .tuple #[.string (strOfNums x), .int .i64 (p : Nat), .agg #[.int .i64 0, .int .i64 0]]) (by simp [results, Tryd.results13, go_sem, *]) rfl ⟨rfl, ?_⟩
  refine Below.setCell (Below.setCell B2.out ?_ _) ?_ _ <;> simp
set_option maxHeartbeats 2000000 in
set_option maxRecDepth 100000 in
/-- THE WALK. -/
theorem back_any (s : ByteArray) (w : World) (hs : s.size ≤ 1048576) :
    Calls Tryd.prog 6 #[.string s] w fun e w' => e = .returned (.bool true) ∧ Below w.heap.size w w' := by
  have kE := escape_any s w (by omega)
  have kA : Hid (∀ w', Calls Tryd.prog 12 #[] w' fun e w'' => e = .returned (.bool true) ∧ Below w'.heap.size w' w'') := fun w' => alive_any w'
  by_cases hn : (runesL (bs s)).2 = none
  · have hR := esc_read (bs s) (bs_bytes s) hn
    have hz := escA_bytes (bs s) (bs_bytes s)
    have hL := escA_len (bs s)
    rw [bs_len] at hL
    have hE : escA (bs s) = [34] ++ escAll (runesL (bs s)).1 ++ [34] := by unfold escA; rw [if_pos hn]
    have h34 : nth (escA (bs s)) 0 = 34 := by rw [hE]; rfl
    have h0 : 0 < (escA (bs s)).length := by rw [hE]; simp
    obtain ⟨x, hx⟩ : ∃ x, strOfNums (escA (bs s)) = x := ⟨_, rfl⟩
    have hbx : bs x = escA (bs s) := by rw [← hx, bs_str hz]
    have hxs : x.size = (escA (bs s)).length := by rw [← bs_len, hbx]
    rw [hx] at kE
    have hne : x.toList.isEmpty = false := tl_some (by omega)
    have kS : Hid (∀ w1 : World, ∃ g n c W, (convert 9 22 (.string x)).run Tryd.prog w1 = .ok (.slice (some ⟨g, 0, none⟩) n c) W ∧ Below w1.heap.size w1 W ∧ Calls Tryd.prog 13 #[.slice (some ⟨g, 0, none⟩) n c, .int .i64 0] W fun e w' => e = .returned (.tuple #[.string s, .int .i64 (x.size : Nat), .agg #[.int .i64 0, .int .i64 0]]) ∧ Below W.heap.size W w') := fun w1 => by
      have hcv := Lib.run_convert_string_bytes (P := Tryd.prog) w1 9 22 5 x Tryd.underlying9 Tryd.underlying22 Tryd.underlying5
      obtain ⟨gC, nC, cC, hvC, hlC, hcC, hcC', hBC⟩ := (own_conv w1 x (by omega)).form
      have hvC' : (Value.slice (some ⟨w1.heap.size, 0, none⟩) x.size (grownCap w1 x.size 0 5)) = Value.slice (some ⟨gC, 0, none⟩) nC cC := hvC
      rw [hvC'] at hcv
      have hl := hlC.out
      rw [hbx] at hl
      refine ⟨gC, nC, cC, _, hcv, convB_below w1 x, ?_⟩
      have := string_any (x := bs s) (p := (escA (bs s)).length) (zs := escA (bs s)) hl (by rw [← hbx]; exact hBC.out) hcC hcC' (by omega) h34 (by omega) hR
      rw [str_bs] at this
      rw [hxs]
      exact this
    clear hR hz hL hE h34 h0 hx hbx hxs hn hs
    go_enter Tryd.func6, Tryd.ntmps6
    go_wp2_with (first
      | (go_at_call 15; refine kE.mono ?_; rintro e w1 ⟨rfl, hb1⟩; clear kE; have b1 : Hid (Below w.heap.size w w1) := hb1; obtain ⟨g, n, c, W, hcv, BW, kW⟩ := kS.out w1; have bW : Hid (Below w.heap.size w W) := b1.out.trans (BW.mono b1.out.size); clear hb1 BW)
      | (go_at_call 13; refine kW.mono ?_; rintro e w2 ⟨rfl, hb2⟩; clear kW; have b2 : Hid (Below w.heap.size w w2) := bW.out.trans (hb2.mono bW.out.size); clear hb2)
      | (go_at_call 12; refine (kA.out _).mono ?_; rintro e w3 ⟨rfl, hb3⟩))
    go_ret
    have h1 := b2.out.trans ((alloc_below w2 (.cells #[.int .i64 0, .int .i64 0] 26)).mono b2.out.size)
    exact ⟨rfl, h1.trans (hb3.mono h1.size)⟩
  · obtain ⟨p, hp⟩ := Option.ne_none_iff_exists'.1 hn
    have hE : escA (bs s) = [] := by unfold escA; rw [if_neg hn]
    have hx : strOfNums (escA (bs s)) = (⟨#[]⟩ : ByteArray) := by rw [hE]; rfl
    rw [hx] at kE
    have hw := (why_some hp).1
    have kU : Hid (∀ w1 : World, ∃ g n c W, (convert 9 22 (.string s)).run Tryd.prog w1 = .ok (.slice (some ⟨g, 0, none⟩) n c) W ∧ Below w1.heap.size w1 W ∧ Calls Tryd.prog 17 #[.slice (some ⟨g, 0, none⟩) n c] W fun e w' => ∃ v AT, e = .returned (.tuple #[v, .agg #[.int .i64 6, .int .i64 AT]]) ∧ Below W.heap.size W w') := fun w1 => by
      have hcv := Lib.run_convert_string_bytes (P := Tryd.prog) w1 9 22 5 s Tryd.underlying9 Tryd.underlying22 Tryd.underlying5
      obtain ⟨gC, nC, cC, hvC, hlC, hcC, hcC', hBC⟩ := (own_conv w1 s (by omega)).form
      have hvC' : (Value.slice (some ⟨w1.heap.size, 0, none⟩) s.size (grownCap w1 s.size 0 5)) = Value.slice (some ⟨gC, 0, none⟩) nC cC := hvC
      rw [hvC'] at hcv
      have hl := hlC.out
      refine ⟨gC, nC, cC, _, hcv, convB_below w1 s, ?_⟩
      refine (xrunes_any (some ⟨gC, 0, none⟩) nC cC (bs s) _ hl hBC.out hcC (by rw [bs_len] at hl; omega)).mono ?_
      rintro e w' ⟨v, rfl, _, h2⟩
      rw [hw]
      exact ⟨v, _, rfl, h2⟩
    clear hE hx hw hn hp hs
    go_enter Tryd.func6, Tryd.ntmps6
    go_wp2_with (first
      | (go_at_call 15; refine kE.mono ?_; rintro e w1 ⟨rfl, hb1⟩; clear kE; have b1 : Hid (Below w.heap.size w w1) := hb1; obtain ⟨g, n, c, W, hcv, BW, kW⟩ := kU.out w1; have bW : Hid (Below w.heap.size w W) := b1.out.trans (BW.mono b1.out.size); clear hb1 BW)
      | (go_at_call 17; refine kW.mono ?_; rintro e w2 ⟨v, AT, rfl, hb2⟩; clear kW; have b2 : Hid (Below w.heap.size w w2) := bW.out.trans (hb2.mono bW.out.size); clear hb2)
      | (go_at_call 12; refine (kA.out _).mono ?_; rintro e w3 ⟨rfl, hb3⟩))
    go_ret
    have h1 := b2.out.trans ((alloc_below w2 (.cells #[.int .i64 6, .int .i64 AT] 26)).mono b2.out.size)
    exact ⟨rfl, h1.trans (hb3.mono h1.size)⟩
end Go.Proofs.YtfkoghmbkgbgbaaDoor
