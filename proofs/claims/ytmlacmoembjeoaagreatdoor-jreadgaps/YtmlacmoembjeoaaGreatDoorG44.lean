/-
  A token: gantlineref09.token.
-/
import Derived.Test.YtmlacmoembjeoaaGreatDoorG43
namespace Go.Proofs.YtmlacmoembjeoaaGreatDoor
open Go.RowKit
set_option linter.unusedVariables false
/-- What token answers. -/
def TAns (R : Tk × Nat × Nat) (K F T : Int) (X : ByteArray) (Y A : Int) : Prop := (R.2.1 = 0 ∧ K = (R.1.kind : Nat) ∧ F = (R.1.frm : Nat) ∧ T = (R.1.to : Nat) ∧ X = strOfNums R.1.txt ∧ Y = 0 ∧ A = 0) ∨ (R.2.1 ≠ 0 ∧ Y ≠ 0)
def sx (C : Nat) : Nat := if signN (C : Int) = 0 then 6 else signN (C : Int) - 1
/-- Where the results lie. -/
structure TFr (w wr : World) : Prop where
  bel : Below w.heap.size w wr
  tk : Blk wr w.heap.size #[.int .i64 0, .int .i64 0, .int .i64 0, .string ⟨#[]⟩] 40
  ft : Blk wr (w.heap.size + 1) #[.int .i64 0, .int .i64 0] 29
  big : w.heap.size + 2 ≤ wr.heap.size
theorem TFr.on {w wr w' : World} (h : TFr w wr) (hb : Below wr.heap.size wr w') : TFr w w' :=
  ⟨h.bel.trans (hb.mono (by have := h.big; omega)), h.tk.kept hb h.tk.lt, h.ft.kept hb h.ft.lt, Nat.le_trans h.big hb.size⟩
theorem tfr_new (w : World) : TFr w ((w.alloc (.cells #[.int .i64 0, .int .i64 0, .int .i64 0, .string ⟨#[]⟩] 40)).alloc (.cells #[.int .i64 0, .int .i64 0] 29)) := by
  have h1 := alloc_below w (.cells #[.int .i64 0, .int .i64 0, .int .i64 0, .string ⟨#[]⟩] 40)
  have h2 := alloc_below (w.alloc (.cells #[.int .i64 0, .int .i64 0, .int .i64 0, .string ⟨#[]⟩] 40)) (.cells #[.int .i64 0, .int .i64 0] 29)
  have k1 := blk_new w #[.int .i64 0, .int .i64 0, .int .i64 0, .string ⟨#[]⟩] 40
  have k2 := blk_new (w.alloc (.cells #[.int .i64 0, .int .i64 0, .int .i64 0, .string ⟨#[]⟩] 40)) #[.int .i64 0, .int .i64 0] 29
  have s1 : (w.alloc (.cells #[.int .i64 0, .int .i64 0, .int .i64 0, .string ⟨#[]⟩] 40)).heap.size = w.heap.size + 1 := by simp
  rw [s1] at k2
  exact ⟨h1.trans (h2.mono (by omega)), k1.kept h2 k1.lt, k2, k2.lt⟩
theorem TFr.put {w W : World} (h : TFr w W) (K F T : Int) (X : ByteArray) (Y A : Int) :
    ((((((W.setCell ⟨w.heap.size, 0, none⟩ (.int .i64 K)).setCell ⟨w.heap.size, 1, none⟩ (.int .i64 F)).setCell ⟨w.heap.size, 2, none⟩ (.int .i64 T)).setCell ⟨w.heap.size, 3, none⟩ (.string X)).setCell ⟨w.heap.size + 1, 0, none⟩ (.int .i64 Y)).setCell ⟨w.heap.size + 1, 1, none⟩ (.int .i64 A)).cell? ⟨w.heap.size, 0, none⟩ = some (.int .i64 K) ∧ ((((((W.setCell ⟨w.heap.size, 0, none⟩ (.int .i64 K)).setCell ⟨w.heap.size, 1, none⟩ (.int .i64 F)).setCell ⟨w.heap.size, 2, none⟩ (.int .i64 T)).setCell ⟨w.heap.size, 3, none⟩ (.string X)).setCell ⟨w.heap.size + 1, 0, none⟩ (.int .i64 Y)).setCell ⟨w.heap.size + 1, 1, none⟩ (.int .i64 A)).cell? ⟨w.heap.size, 1, none⟩ = some (.int .i64 F) ∧ ((((((W.setCell ⟨w.heap.size, 0, none⟩ (.int .i64 K)).setCell ⟨w.heap.size, 1, none⟩ (.int .i64 F)).setCell ⟨w.heap.size, 2, none⟩ (.int .i64 T)).setCell ⟨w.heap.size, 3, none⟩ (.string X)).setCell ⟨w.heap.size + 1, 0, none⟩ (.int .i64 Y)).setCell ⟨w.heap.size + 1, 1, none⟩ (.int .i64 A)).cell? ⟨w.heap.size, 2, none⟩ = some (.int .i64 T) ∧ ((((((W.setCell ⟨w.heap.size, 0, none⟩ (.int .i64 K)).setCell ⟨w.heap.size, 1, none⟩ (.int .i64 F)).setCell ⟨w.heap.size, 2, none⟩ (.int .i64 T)).setCell ⟨w.heap.size, 3, none⟩ (.string X)).setCell ⟨w.heap.size + 1, 0, none⟩ (.int .i64 Y)).setCell ⟨w.heap.size + 1, 1, none⟩ (.int .i64 A)).cell? ⟨w.heap.size, 3, none⟩ = some (.string X) ∧ ((((((W.setCell ⟨w.heap.size, 0, none⟩ (.int .i64 K)).setCell ⟨w.heap.size, 1, none⟩ (.int .i64 F)).setCell ⟨w.heap.size, 2, none⟩ (.int .i64 T)).setCell ⟨w.heap.size, 3, none⟩ (.string X)).setCell ⟨w.heap.size + 1, 0, none⟩ (.int .i64 Y)).setCell ⟨w.heap.size + 1, 1, none⟩ (.int .i64 A)).cell? ⟨w.heap.size + 1, 0, none⟩ = some (.int .i64 Y) ∧ ((((((W.setCell ⟨w.heap.size, 0, none⟩ (.int .i64 K)).setCell ⟨w.heap.size, 1, none⟩ (.int .i64 F)).setCell ⟨w.heap.size, 2, none⟩ (.int .i64 T)).setCell ⟨w.heap.size, 3, none⟩ (.string X)).setCell ⟨w.heap.size + 1, 0, none⟩ (.int .i64 Y)).setCell ⟨w.heap.size + 1, 1, none⟩ (.int .i64 A)).cell? ⟨w.heap.size + 1, 1, none⟩ = some (.int .i64 A) ∧
    ((((W.setCell ⟨w.heap.size, 0, none⟩ (.int .i64 K)).setCell ⟨w.heap.size, 1, none⟩ (.int .i64 F)).setCell ⟨w.heap.size, 2, none⟩ (.int .i64 T)).setCell ⟨w.heap.size, 3, none⟩ (.string X)).cell? ⟨w.heap.size + 1, 0, none⟩ = some (.int .i64 0) ∧ ((((W.setCell ⟨w.heap.size, 0, none⟩ (.int .i64 K)).setCell ⟨w.heap.size, 1, none⟩ (.int .i64 F)).setCell ⟨w.heap.size, 2, none⟩ (.int .i64 T)).setCell ⟨w.heap.size, 3, none⟩ (.string X)).cell? ⟨w.heap.size + 1, 1, none⟩ = some (.int .i64 0) ∧ ((((W.setCell ⟨w.heap.size, 0, none⟩ (.int .i64 K)).setCell ⟨w.heap.size, 1, none⟩ (.int .i64 F)).setCell ⟨w.heap.size, 2, none⟩ (.int .i64 T)).setCell ⟨w.heap.size, 3, none⟩ (.string X)).frozen? ⟨w.heap.size + 1, 0, none⟩ = false ∧ ((((W.setCell ⟨w.heap.size, 0, none⟩ (.int .i64 K)).setCell ⟨w.heap.size, 1, none⟩ (.int .i64 F)).setCell ⟨w.heap.size, 2, none⟩ (.int .i64 T)).setCell ⟨w.heap.size, 3, none⟩ (.string X)).frozen? ⟨w.heap.size + 1, 1, none⟩ = false ∧ Below w.heap.size w ((((((W.setCell ⟨w.heap.size, 0, none⟩ (.int .i64 K)).setCell ⟨w.heap.size, 1, none⟩ (.int .i64 F)).setCell ⟨w.heap.size, 2, none⟩ (.int .i64 T)).setCell ⟨w.heap.size, 3, none⟩ (.string X)).setCell ⟨w.heap.size + 1, 0, none⟩ (.int .i64 Y)).setCell ⟨w.heap.size + 1, 1, none⟩ (.int .i64 A)) := by
  have b1 := (((h.tk.set 0 (.int .i64 K)).set 1 (.int .i64 F)).set 2 (.int .i64 T)).set 3 (.string X)
  have hg : w.heap.size + 1 ≠ w.heap.size := by omega
  have b2 : Blk ((((W.setCell ⟨w.heap.size, 0, none⟩ (.int .i64 K)).setCell ⟨w.heap.size, 1, none⟩ (.int .i64 F)).setCell ⟨w.heap.size, 2, none⟩ (.int .i64 T)).setCell ⟨w.heap.size, 3, none⟩ (.string X)) (w.heap.size + 1) #[.int .i64 0, .int .i64 0] 29 := by
    unfold Blk
    rw [setk hg, setk hg, setk hg, setk hg]
    exact h.ft
  have b3 := (b2.set 0 (.int .i64 Y)).set 1 (.int .i64 A)
  have b4 : Blk ((((((W.setCell ⟨w.heap.size, 0, none⟩ (.int .i64 K)).setCell ⟨w.heap.size, 1, none⟩ (.int .i64 F)).setCell ⟨w.heap.size, 2, none⟩ (.int .i64 T)).setCell ⟨w.heap.size, 3, none⟩ (.string X)).setCell ⟨w.heap.size + 1, 0, none⟩ (.int .i64 Y)).setCell ⟨w.heap.size + 1, 1, none⟩ (.int .i64 A)) w.heap.size #[.int .i64 K, .int .i64 F, .int .i64 T, .string X] 40 := by
    unfold Blk
    rw [setk (by omega), setk (by omega)]
    exact b1
  refine ⟨b4.cell 0, b4.cell 1, b4.cell 2, b4.cell 3, b3.cell 0, b3.cell 1, b2.cell 0, b2.cell 1, b2.fz 0, b2.fz 1, ?_⟩
  exact (((((h.bel.setCell (p := ⟨w.heap.size, 0, none⟩) (Nat.le_refl _) _).setCell (p := ⟨w.heap.size, 1, none⟩) (Nat.le_refl _) _).setCell (p := ⟨w.heap.size, 2, none⟩) (Nat.le_refl _) _).setCell (p := ⟨w.heap.size, 3, none⟩) (Nat.le_refl _) _).setCell (p := ⟨w.heap.size + 1, 0, none⟩) (Nat.le_succ _) _).setCell (p := ⟨w.heap.size + 1, 1, none⟩) (Nat.le_succ _) _
theorem nu_shift (l : List Int) : ∀ k d q, nuF l (k + d) q = ((nuF l k q).1 + d, (nuF l k q).2) := by
  induction l with
  | nil => intro k d q; rfl
  | cons c l ih =>
    intro k d q
    rw [nuF, nuF]
    split
    · rfl
    · rw [← ih (k + 1) d]
      congr 1
      omega
theorem num_tok (zs : List Int) (p : Nat) : numV zs p = if endS (nuF (zs.drop p) 0 0).2 = true then (p + (nuF (zs.drop p) 0 0).1, -1) else (0, ((p + (nuF (zs.drop p) 0 0).1 : Nat) : Int)) := by
  rw [num_eq]
  unfold ansN NS
  have h := nu_shift (zs.drop p) 0 p 0
  rw [Nat.zero_add] at h
  rw [h]
  simp only [Nat.add_comm]
theorem sx_no : ∀ C k : Nat, (hk : k < (⟨#[123, 125, 91, 93, 58, 44]⟩ : ByteArray).size) → k < sx C → C ≠ ((⟨#[123, 125, 91, 93, 58, 44]⟩ : ByteArray)[k]'hk).toNat := by
  intro C k hk h e
  have hk' : k < 6 := hk
  subst e
  rcases (by omega : k = 0 ∨ k = 1 ∨ k = 2 ∨ k = 3 ∨ k = 4 ∨ k = 5) with rfl | rfl | rfl | rfl | rfl | rfl
  · exact absurd (show 0 < sx 123 from h) (by decide)
  · exact absurd (show 1 < sx 125 from h) (by decide)
  · exact absurd (show 2 < sx 91 from h) (by decide)
  · exact absurd (show 3 < sx 93 from h) (by decide)
  · exact absurd (show 4 < sx 58 from h) (by decide)
  · exact absurd (show 5 < sx 44 from h) (by decide)
theorem sx_yes : ∀ C k : Nat, (hk : k < (⟨#[123, 125, 91, 93, 58, 44]⟩ : ByteArray).size) → k = sx C → ((⟨#[123, 125, 91, 93, 58, 44]⟩ : ByteArray)[k]'hk).toNat = C ∧ signN (C : Int) = k + 1 := by
  intro C k hk h
  have hk' : k < 6 := hk
  unfold sx at h
  have hs : signN (C : Int) = k + 1 := by
    by_cases h0 : signN (C : Int) = 0
    · rw [if_pos h0] at h; omega
    · rw [if_neg h0] at h; omega
  refine ⟨?_, hs⟩
  clear h
  unfold signN at hs
  rcases (by omega : k = 0 ∨ k = 1 ∨ k = 2 ∨ k = 3 ∨ k = 4 ∨ k = 5) with rfl | rfl | rfl | rfl | rfl | rfl
  all_goals
    repeat' split at hs
    all_goals first | omega | (rename_i hh; have hh' : C = _ := Int.ofNat.inj hh; rw [hh']; rfl)
theorem sx_le (C : Nat) : sx C ≤ 6 := by
  have := sign_le (C : Int)
  unfold sx
  split <;> omega
theorem sx_out {C : Nat} (h : sx C = 6) : signN (C : Int) = 0 := by
  have := sign_le (C : Int)
  unfold sx at h
  split at h
  · assumption
  · omega
set_option maxHeartbeats 2000000 in
set_option maxRecDepth 100000 in
theorem vtoken_any (a : Option Addr) (n cap : Nat) (zs : List Int) (p : Nat) (w : World) (hl : zs.length = n) (hb : Bytes w a zs) (hc : n ≤ cap) (hm : cap ≤ 140737488351232) (hn4 : n ≤ 4096) (hp : p < n) :
    Calls Tryz.prog 26 #[.slice a n cap, .int .i64 (p : Nat)] w fun e w' => (∃ K F T X Y A, e = .returned (.tuple #[.agg #[.int .i64 K, .int .i64 F, .int .i64 T, .string X], .agg #[.int .i64 Y, .int .i64 A]]) ∧ Hid (TAns (tokR (zs.drop p) p) K F T X Y A)) ∧ Below w.heap.size w w' := by
  obtain ⟨hz, _, hrow⟩ := id hb
  have HZ : Hid (∀ c ∈ zs, 0 ≤ c ∧ c < 256) := hz
  obtain ⟨x0, off, rfl, c0, hz0, hz1⟩ := byte_at hb (p := p) (by omega)
  obtain ⟨C, hC⟩ : ∃ C : Nat, zs.getD p 0 = (C : Int) := ⟨(zs.getD p 0).toNat, by omega⟩
  rw [hC] at c0
  have hC8 : C < 256 := by omega
  have HB : Hid (Bytes w (some ⟨x0, off, none⟩) zs) := hb
  have HL : Hid (zs.length = n) := hl
  have EC : Hid ((zs.drop p).getD 0 0 = (C : Int)) := by
    show _ = _
    rw [dr_cons (by omega), ← hC]
    rfl
  have z1 : ¬ (p : Int) < 0 := by omega
  have z2 : ¬ (n : Int) ≤ (p : Int) := by omega
  have z3 : (p : Int) < (n : Int) := by omega
  have wp : IntKind.i64.wrap ((p : Int) + 1) = (p : Int) + 1 := by rw [IntKind.wrap_i64]; omega
  obtain ⟨RA, hRA⟩ : ∃ RA, tokR (zs.drop p) p = RA := ⟨_, rfl⟩
  rw [hRA]
  have HR : Hid (tokR (zs.drop p) p = RA) := hRA
  have T0 : Hid (TFr w ((w.alloc (.cells #[.int .i64 0, .int .i64 0, .int .i64 0, .string ⟨#[]⟩] 40)).alloc (.cells #[.int .i64 0, .int .i64 0] 29))) := tfr_new w
  have c1 : ((w.alloc (.cells #[.int .i64 0, .int .i64 0, .int .i64 0, .string ⟨#[]⟩] 40)).alloc (.cells #[.int .i64 0, .int .i64 0] 29)).cell? ⟨x0, off + p, none⟩ = some (.int .u8 (C : Int)) := by rw [T0.out.bel.cell (p := ⟨x0, off + p, none⟩) (some_block c0)]; exact c0
  have hsx := sx_le C
  have HC : Hid (zs.getD p 0 = (C : Int)) := hC
  clear hRA hb hl hz hrow hC hz0 hz1
  go_enter Tryz.func26, Tryz.ntmps26
  go_wp2
  go_loopw [8] (fun u wi => ∃ k : Nat, k ≤ sx C ∧ u = .int .i64 k ∧ Hid (TFr w wi)) (fun u _ => sx C - (intOf u).toNat)
  case atStart => exact ⟨0, Nat.zero_le _, rfl, T0⟩
  case round =>
    obtain ⟨k, hk, rfl, hT⟩ := hrel
    by_cases hk2 : k < sx C
    · have v1 : (k : Int) < 6 := by omega
      have hks : k < (⟨#[123, 125, 91, 93, 58, 44]⟩ : ByteArray).size := by show k < 6; omega
      have hne := sx_no C k hks hk2
      have v2 : ((C : Int) == ((((⟨#[123, 125, 91, 93, 58, 44]⟩ : ByteArray)[k]'hks).toNat : Nat) : Int)) = false := by
        simp only [beq_eq_false_iff_ne, ne_eq]
        intro h
        exact hne (Int.ofNat.inj h)
      clear hne
      go_wp2
      go_roundw
      case rel => exact ⟨k + 1, by omega, by go_num, hT⟩
      case measure => simp [intOf]; omega
    · by_cases h6 : k < 6
      · have v1 : (k : Int) < 6 := by omega
        have hks : k < (⟨#[123, 125, 91, 93, 58, 44]⟩ : ByteArray).size := h6
        obtain ⟨e1, e2⟩ := sx_yes C k hks (by omega)
        have v2 : ((C : Int) == ((((⟨#[123, 125, 91, 93, 58, 44]⟩ : ByteArray)[k]'hks).toNat : Nat) : Int)) = true := by rw [e1]; simp
        have E : Hid (RA = (⟨k + 1, p, p + 1, []⟩, 0, 0)) := by
          show _ = _
          rw [← HR.out]
          unfold tokR
          rw [EC.out, e2, if_pos (by omega)]
        have wk : IntKind.i64.wrap ((k : Int) + 1) = (k : Int) + 1 := by rw [IntKind.wrap_i64]; omega
        clear e1 e2 hk hk2 h6 HR
        obtain ⟨r0, r1, r2, r3, r4, r5, y4, y5, f4, f5, BB'⟩ := hT.out.put ((k : Int) + 1) (p : Int) ((p : Int) + 1) ⟨#[]⟩ 0 0
        have BB : Hid _ := BB'
        have y0 := hT.out.tk.cell 0
        have y1 := hT.out.tk.cell 1
        have y2 := hT.out.tk.cell 2
        have y3 := hT.out.tk.cell 3
        have f0 := hT.out.tk.fz 0
        have f1 := hT.out.tk.fz 1
        have f2 := hT.out.tk.fz 2
        have f3 := hT.out.tk.fz 3
        clear BB'
        go_wp2
        refine bodyPost_ret (v := .tuple #[.agg #[.int .i64 ((k : Int) + 1), .int .i64 (p : Int), .int .i64 ((p : Int) + 1), .string ⟨#[]⟩], .agg #[.int .i64 0, .int .i64 0]]) (by simp [results, Tryz.results26, go_sem, *]) rfl ⟨⟨((k : Int) + 1), (p : Int), ((p : Int) + 1), ⟨#[]⟩, 0, 0, rfl, .inl ⟨by rw [E.out], by rw [E.out]; rfl, by rw [E.out], by rw [E.out]; rfl, by rw [E.out]; rfl, rfl, rfl⟩⟩, BB.out⟩
      · obtain rfl : k = 6 := by omega
        have h0 := sx_out (C := C) (by omega)
        clear hk hk2 h6
        by_cases h34 : C = 34
        · subst h34
          have ks := vstring_any (some ⟨x0, off, none⟩) n cap zs p wr HL.out (HB.out.kept hT.out.bel) hc hm hn4 hp HC.out
          have E : Hid (RA = (⟨7, p, (strL (zs.drop (p + 1)) (p + 1) r0).2.1, (strL (zs.drop (p + 1)) (p + 1) r0).1⟩, (strL (zs.drop (p + 1)) (p + 1) r0).2.2)) := by
            show _ = _
            rw [← HR.out]
            unfold tokR
            rw [EC.out, if_neg (by decide), if_pos (by decide), List.drop_drop]
          clear HR h0
          generalize strL (zs.drop (p + 1)) (p + 1) r0 = SR at *
          go_wp2_with fail
          refine ks.mono ?_
          rintro e w5 ⟨⟨S, T, F, A, rfl, hA⟩, hb5⟩
          have A5 := alloc_below w5 (.cells #[.int .i64 F, .int .i64 A] 29)
          have T5 : Hid (TFr w (w5.alloc (.cells #[.int .i64 F, .int .i64 A] 29))) := (hT.out.on hb5).on A5
          have K6 : Blk (w5.alloc (.cells #[.int .i64 F, .int .i64 A] 29)) w5.heap.size #[.int .i64 F, .int .i64 A] 29 := blk_new w5 _ _
          have m0 := K6.cell 0
          have m1 := K6.cell 1
          have hne : w.heap.size + 2 ≤ w5.heap.size := (hT.out.on hb5).big
          have d1 : ¬ w5.heap.size = w.heap.size := by omega
          have d2 : ¬ w.heap.size = w5.heap.size := by omega
          have d3 : ¬ w5.heap.size = w.heap.size + 1 := by omega
          have d4 : ¬ w.heap.size + 1 = w5.heap.size := by omega
          clear hne ks A5 hb5 K6
          rcases hA.out with ⟨q1, rfl, rfl, rfl, rfl⟩ | ⟨q1, q2⟩
          · clear hA
            obtain ⟨r0, r1, r2, r3, r4, r5, y4, y5, f4, f5, BB'⟩ := T5.out.put 7 (p : Int) (SR.2.1 : Int) (strOfNums SR.1) 0 0
            have BB : Hid _ := BB'
            have y0 := T5.out.tk.cell 0
            have y1 := T5.out.tk.cell 1
            have y2 := T5.out.tk.cell 2
            have y3 := T5.out.tk.cell 3
            have f0 := T5.out.tk.fz 0
            have f1 := T5.out.tk.fz 1
            have f2 := T5.out.tk.fz 2
            have f3 := T5.out.tk.fz 3
            clear BB'
            go_wp2
            refine bodyPost_ret (v := .tuple #[.agg #[.int .i64 7, .int .i64 (p : Int), .int .i64 (SR.2.1 : Int), .string (strOfNums SR.1)], .agg #[.int .i64 0, .int .i64 0]]) (by simp [results, Tryz.results26, go_sem, *]) rfl ⟨⟨7, (p : Int), (SR.2.1 : Int), (strOfNums SR.1), 0, 0, rfl, .inl ⟨by rw [E.out]; exact q1, by rw [E.out]; rfl, by rw [E.out], by rw [E.out], by rw [E.out], rfl, rfl⟩⟩, BB.out⟩
          · have NE : Hid (RA.2.1 ≠ 0 ∧ F ≠ 0) := ⟨by rw [E.out]; exact q1, q2⟩
            have g0 : (F == 0) = false := by simp; exact q2
            clear hA q1 q2 E
            go_wp2_with fail
            generalize w5.alloc (.cells #[.int .i64 F, .int .i64 A] 29) = W5 at *
            generalize w5.heap.size = g5 at *
            obtain ⟨r0, r1, r2, r3, r4, r5, y4, y5, f4, f5, BB'⟩ := T5.out.put 0 0 0 ⟨#[]⟩ F A
            have BB : Hid _ := BB'
            have y0 := T5.out.tk.cell 0
            have y1 := T5.out.tk.cell 1
            have y2 := T5.out.tk.cell 2
            have y3 := T5.out.tk.cell 3
            have f0 := T5.out.tk.fz 0
            have f1 := T5.out.tk.fz 1
            have f2 := T5.out.tk.fz 2
            have f3 := T5.out.tk.fz 3
            clear BB'
            clear T5
            go_region
            all_goals
              go_wp2_with fail
              refine bodyPost_ret (v := .tuple #[.agg #[.int .i64 0, .int .i64 0, .int .i64 0, .string ⟨#[]⟩], .agg #[.int .i64 F, .int .i64 A]]) (by simp [results, Tryz.results26, go_sem, *]) rfl ⟨⟨0, 0, 0, ⟨#[]⟩, F, A, rfl, .inr NE.out⟩, BB.out.drew⟩
        by_cases h45 : C = 45
        · subst h45
          have hnum : ((45 : Nat) : Int) = 45 ∨ isD ((45 : Nat) : Int) = true := .inl rfl
          have kn := vnum_any (some ⟨x0, off, none⟩) n cap zs p wr HL.out (HB.out.kept hT.out.bel) hc hm (by omega)
          rw [num_tok] at kn
          have nb := nu_bounds (zs.drop p) 0 0
          have LD : Hid ((zs.drop p).length = n - p) := by show _ = _; rw [List.length_drop, HL.out]
          rw [LD.out] at nb
          have E : Hid (nuT (zs.drop p) p = RA) := by
            show _ = _
            rw [← HR.out]
            unfold tokR
            rw [EC.out, if_neg (by rw [h0]; decide), if_neg (by omega), if_pos hnum]
          have BD : Hid (Bytes wr (some ⟨x0, off + p, none⟩) ((zs.drop p).take (nuF (zs.drop p) 0 0).1)) := ((HB.out.kept hT.out.bel).drop p).take _
          have BL : Hid (((zs.drop p).take (nuF (zs.drop p) 0 0).1).length = (nuF (zs.drop p) 0 0).1) := by show _ = _; rw [List.length_take, LD.out]; omega
          have i1 : (cap = p) = False := by simp; omega
          clear HR h0 hnum
          by_cases hE : endS (nuF (zs.drop p) 0 0).2 = true
          · rw [if_pos hE] at kn
            have E2 : Hid (RA = (⟨8, p, p + (nuF (zs.drop p) 0 0).1, (zs.drop p).take (nuF (zs.drop p) 0 0).1⟩, 0, 0)) := by
              show _ = _
              rw [← E.out]
              unfold nuT
              rw [if_pos hE]
            clear hE E LD
            generalize (nuF (zs.drop p) 0 0).1 = M at *
            generalize (zs.drop p).take M = y at *
            have BL2 : Hid (y.length = p + M - p) := by show _ = _; rw [BL.out]; omega
            have i2' : p ≤ p + M := by omega
            have i3' : p + M ≤ n := by omega
            clear BL nb
            generalize p + M = TT at *
            have i2 : (p : Int) ≤ (TT : Int) := by omega
            have i3 : (TT : Int) ≤ (n : Int) := by omega
            have cv := conv_str BD.out (TT - p) (cap - p) BL2.out
            obtain ⟨r0, r1, r2, r3, r4, r5, y4, y5, f4, f5, BB'⟩ := hT.out.put 8 (p : Int) (TT : Int) (strOfNums y) 0 0
            have BB : Hid _ := BB'
            have y0 := hT.out.tk.cell 0
            have y1 := hT.out.tk.cell 1
            have y2 := hT.out.tk.cell 2
            have y3 := hT.out.tk.cell 3
            have f0 := hT.out.tk.fz 0
            have f1 := hT.out.tk.fz 1
            have f2 := hT.out.tk.fz 2
            have f3 := hT.out.tk.fz 3
            clear BB'
            go_wp2_with (go_at_call 35; refine kn.mono ?_; rintro e w5 ⟨rfl, hw5⟩; subst hw5; clear kn)
            refine bodyPost_ret (v := .tuple #[.agg #[.int .i64 8, .int .i64 (p : Int), .int .i64 (TT : Int), .string (strOfNums y)], .agg #[.int .i64 0, .int .i64 0]]) (by simp [results, Tryz.results26, go_sem, *]) rfl ⟨⟨8, (p : Int), (TT : Int), (strOfNums y), 0, 0, rfl, .inl ⟨by rw [E2.out], by rw [E2.out]; rfl, by rw [E2.out], by rw [E2.out], by rw [E2.out], rfl, rfl⟩⟩, BB.out⟩
          · rw [if_neg hE] at kn
            have NE : Hid (RA.2.1 ≠ 0) := by
              show _ ≠ _
              rw [← E.out]
              exact fun e => hE ((nuT_why _ _).1 e)
            clear hE E LD BD BL
            clear nb
            generalize p + (nuF (zs.drop p) 0 0).1 = TT at *
            have gM : decide ((0 : Int) ≤ (TT : Int)) = true := by simp
            have kf := vfault_any (some ⟨x0, off, none⟩) n cap (TT : Int) wr
            go_wp2_with (first
              | (go_at_call 35; refine kn.mono ?_; rintro e w5 ⟨rfl, hw5⟩; subst hw5; clear kn)
              | (go_at_call 36; refine kf.mono ?_; rintro e w6 ⟨⟨F, A, rfl, hF⟩, hb6⟩; clear kf; have T6 : Hid (TFr w w6) := hT.out.on hb6; clear hb6
                 obtain ⟨r0, r1, r2, r3, r4, r5, y4, y5, f4, f5, BB'⟩ := T6.out.put 0 0 0 ⟨#[]⟩ F A; have BB : Hid _ := BB'; have y0 := T6.out.tk.cell 0; have y1 := T6.out.tk.cell 1; have y2 := T6.out.tk.cell 2; have y3 := T6.out.tk.cell 3; have f0 := T6.out.tk.fz 0; have f1 := T6.out.tk.fz 1; have f2 := T6.out.tk.fz 2; have f3 := T6.out.tk.fz 3; clear BB'))
            refine bodyPost_ret (v := .tuple #[.agg #[.int .i64 0, .int .i64 0, .int .i64 0, .string ⟨#[]⟩], .agg #[.int .i64 F, .int .i64 A]]) (by simp [results, Tryz.results26, go_sem, *]) rfl ⟨⟨0, 0, 0, ⟨#[]⟩, F, A, rfl, .inr ⟨NE.out, hF.out⟩⟩, BB.out⟩
        by_cases hD : 48 ≤ C ∧ C ≤ 57
        · obtain ⟨D1, D2⟩ := hD
          have hnum : (C : Int) = 45 ∨ isD (C : Int) = true := .inr (isD_iff.2 ⟨by omega, by omega⟩)
          have g34 : ((C : Int) == 34) = false := by simp; omega
          have g45 : ((C : Int) == 45) = false := by simp; omega
          have g48 : decide ((48 : Int) ≤ (C : Int)) = true := by simp; omega
          have g57 : decide ((C : Int) ≤ 57) = true := by simp; omega
          have kn := vnum_any (some ⟨x0, off, none⟩) n cap zs p wr HL.out (HB.out.kept hT.out.bel) hc hm (by omega)
          rw [num_tok] at kn
          have nb := nu_bounds (zs.drop p) 0 0
          have LD : Hid ((zs.drop p).length = n - p) := by show _ = _; rw [List.length_drop, HL.out]
          rw [LD.out] at nb
          have E : Hid (nuT (zs.drop p) p = RA) := by
            show _ = _
            rw [← HR.out]
            unfold tokR
            rw [EC.out, if_neg (by rw [h0]; decide), if_neg (by omega), if_pos hnum]
          have BD : Hid (Bytes wr (some ⟨x0, off + p, none⟩) ((zs.drop p).take (nuF (zs.drop p) 0 0).1)) := ((HB.out.kept hT.out.bel).drop p).take _
          have BL : Hid (((zs.drop p).take (nuF (zs.drop p) 0 0).1).length = (nuF (zs.drop p) 0 0).1) := by show _ = _; rw [List.length_take, LD.out]; omega
          have i1 : (cap = p) = False := by simp; omega
          clear HR h0 hnum h34 h45
          by_cases hE : endS (nuF (zs.drop p) 0 0).2 = true
          · rw [if_pos hE] at kn
            have E2 : Hid (RA = (⟨8, p, p + (nuF (zs.drop p) 0 0).1, (zs.drop p).take (nuF (zs.drop p) 0 0).1⟩, 0, 0)) := by
              show _ = _
              rw [← E.out]
              unfold nuT
              rw [if_pos hE]
            clear hE E LD
            generalize (nuF (zs.drop p) 0 0).1 = M at *
            generalize (zs.drop p).take M = y at *
            have BL2 : Hid (y.length = p + M - p) := by show _ = _; rw [BL.out]; omega
            have i2' : p ≤ p + M := by omega
            have i3' : p + M ≤ n := by omega
            clear BL nb
            generalize p + M = TT at *
            have i2 : (p : Int) ≤ (TT : Int) := by omega
            have i3 : (TT : Int) ≤ (n : Int) := by omega
            have cv := conv_str BD.out (TT - p) (cap - p) BL2.out
            obtain ⟨r0, r1, r2, r3, r4, r5, y4, y5, f4, f5, BB'⟩ := hT.out.put 8 (p : Int) (TT : Int) (strOfNums y) 0 0
            have BB : Hid _ := BB'
            have y0 := hT.out.tk.cell 0
            have y1 := hT.out.tk.cell 1
            have y2 := hT.out.tk.cell 2
            have y3 := hT.out.tk.cell 3
            have f0 := hT.out.tk.fz 0
            have f1 := hT.out.tk.fz 1
            have f2 := hT.out.tk.fz 2
            have f3 := hT.out.tk.fz 3
            clear BB'
            go_wp2_with (go_at_call 35; refine kn.mono ?_; rintro e w5 ⟨rfl, hw5⟩; subst hw5; clear kn)
            refine bodyPost_ret (v := .tuple #[.agg #[.int .i64 8, .int .i64 (p : Int), .int .i64 (TT : Int), .string (strOfNums y)], .agg #[.int .i64 0, .int .i64 0]]) (by simp [results, Tryz.results26, go_sem, *]) rfl ⟨⟨8, (p : Int), (TT : Int), (strOfNums y), 0, 0, rfl, .inl ⟨by rw [E2.out], by rw [E2.out]; rfl, by rw [E2.out], by rw [E2.out], by rw [E2.out], rfl, rfl⟩⟩, BB.out⟩
          · rw [if_neg hE] at kn
            have NE : Hid (RA.2.1 ≠ 0) := by
              show _ ≠ _
              rw [← E.out]
              exact fun e => hE ((nuT_why _ _).1 e)
            clear hE E LD BD BL
            clear nb
            generalize p + (nuF (zs.drop p) 0 0).1 = TT at *
            have gM : decide ((0 : Int) ≤ (TT : Int)) = true := by simp
            have kf := vfault_any (some ⟨x0, off, none⟩) n cap (TT : Int) wr
            go_wp2_with (first
              | (go_at_call 35; refine kn.mono ?_; rintro e w5 ⟨rfl, hw5⟩; subst hw5; clear kn)
              | (go_at_call 36; refine kf.mono ?_; rintro e w6 ⟨⟨F, A, rfl, hF⟩, hb6⟩; clear kf; have T6 : Hid (TFr w w6) := hT.out.on hb6; clear hb6
                 obtain ⟨r0, r1, r2, r3, r4, r5, y4, y5, f4, f5, BB'⟩ := T6.out.put 0 0 0 ⟨#[]⟩ F A; have BB : Hid _ := BB'; have y0 := T6.out.tk.cell 0; have y1 := T6.out.tk.cell 1; have y2 := T6.out.tk.cell 2; have y3 := T6.out.tk.cell 3; have f0 := T6.out.tk.fz 0; have f1 := T6.out.tk.fz 1; have f2 := T6.out.tk.fz 2; have f3 := T6.out.tk.fz 3; clear BB'))
            refine bodyPost_ret (v := .tuple #[.agg #[.int .i64 0, .int .i64 0, .int .i64 0, .string ⟨#[]⟩], .agg #[.int .i64 F, .int .i64 A]]) (by simp [results, Tryz.results26, go_sem, *]) rfl ⟨⟨0, 0, 0, ⟨#[]⟩, F, A, rfl, .inr ⟨NE.out, hF.out⟩⟩, BB.out⟩
        by_cases h116 : C = 116
        · subst h116
          have E : Hid (wrdT 9 [116, 114, 117, 101] (zs.drop p) p = RA) := by
            show _ = _
            rw [← HR.out]
            unfold tokR
            rw [EC.out, if_neg (by decide), if_neg (by decide), if_neg (by decide), if_pos (by decide)]
          have kw : Hid (∀ w' : World, Below w.heap.size w w' → Calls Tryz.prog 37 #[.slice (some ⟨x0, off, none⟩) n cap, .int .i64 (p : Nat), .string ⟨#[116, 114, 117, 101]⟩] w' fun e w'' => (∃ T B : Int, e = .returned (.tuple #[.int .i64 T, .int .i64 B]) ∧ Hid (WAns (wrdF [116, 114, 117, 101] (zs.drop p) 0) p 4 T B)) ∧ Below w'.heap.size w' w'') := fun w' h => vword_any _ n cap zs p ⟨#[116, 114, 117, 101]⟩ w' HL.out (HB.out.kept h) hc hm (by omega) (by decide)
          clear HR h0 h34 h45 hD 
          have A1 := alloc_below wr (.cells #[.string ⟨#[116, 114, 117, 101]⟩, .string ⟨#[102, 97, 108, 115, 101]⟩, .string ⟨#[110, 117, 108, 108]⟩] 9)
          have T1 : Hid (TFr w (wr.alloc (.cells #[.string ⟨#[116, 114, 117, 101]⟩, .string ⟨#[102, 97, 108, 115, 101]⟩, .string ⟨#[110, 117, 108, 108]⟩] 9))) := hT.out.on A1
          have K1 := blk_new wr #[.string ⟨#[116, 114, 117, 101]⟩, .string ⟨#[102, 97, 108, 115, 101]⟩, .string ⟨#[110, 117, 108, 108]⟩] 9
          have m0 := K1.cell 0
          have m1 := K1.cell 1
          have m2 := K1.cell 2
          clear K1 A1
          go_wp2
          generalize wr.alloc (.cells #[.string ⟨#[116, 114, 117, 101]⟩, .string ⟨#[102, 97, 108, 115, 101]⟩, .string ⟨#[110, 117, 108, 108]⟩] 9) = W1 at *
          generalize wr.heap.size = g1 at *
          go_loopw [15] (fun u wi => ∃ k : Nat, k ≤ 0 ∧ u = .int .i64 k ∧ wi = W1) (fun u _ => 0 + 1 - (intOf u).toNat)
          case atStart => exact ⟨0, Nat.zero_le _, rfl, rfl⟩
          case round =>
            obtain ⟨k, hk, rfl, rfl⟩ := hrel
            obtain rfl : k = 0 := by omega
            clear hk
            go_wp2_with fail
            refine (kw.out _ T1.out.bel).mono ?_
            rintro e w6 ⟨⟨T, B, rfl, hA⟩, hb6⟩
            have T6 : Hid (TFr w w6) := T1.out.on hb6
            clear kw hb6 T1 m0 m1 m2
            rcases hA.out with ⟨q1, rfl, rfl⟩ | ⟨q1, q2⟩
            · have E2 : Hid (RA = (⟨9, p, p + 4, []⟩, 0, 0)) := by
                show _ = _
                rw [← E.out]
                unfold wrdT
                rw [if_pos q1]
                rfl
              clear hA q1 E
              generalize p + 4 = TT at *
              obtain ⟨r0, r1, r2, r3, r4, r5, y4, y5, f4, f5, BB'⟩ := T6.out.put 9 (p : Int) (TT : Int) ⟨#[]⟩ 0 0
              have BB : Hid _ := BB'
              have y0 := T6.out.tk.cell 0
              have y1 := T6.out.tk.cell 1
              have y2 := T6.out.tk.cell 2
              have y3 := T6.out.tk.cell 3
              have f0 := T6.out.tk.fz 0
              have f1 := T6.out.tk.fz 1
              have f2 := T6.out.tk.fz 2
              have f3 := T6.out.tk.fz 3
              clear BB'
              go_wp2
              refine bodyPost_ret (v := .tuple #[.agg #[.int .i64 9, .int .i64 (p : Int), .int .i64 (TT : Int), .string ⟨#[]⟩], .agg #[.int .i64 0, .int .i64 0]]) (by simp [results, Tryz.results26, go_sem, *]) rfl ⟨⟨9, (p : Int), (TT : Int), ⟨#[]⟩, 0, 0, rfl, .inl ⟨by rw [E2.out], by rw [E2.out]; rfl, by rw [E2.out], by rw [E2.out], by rw [E2.out]; rfl, rfl, rfl⟩⟩, BB.out⟩
            · have NE : Hid (RA.2.1 ≠ 0) := by
                show _ ≠ _
                rw [← E.out]
                unfold wrdT
                rw [if_neg q1]
                exact q1
              have gM : decide ((0 : Int) ≤ B) = true := by simp; exact q2
              have kf := vfault_any (some ⟨x0, off, none⟩) n cap B w6
              clear hA q1 q2 E
              go_wp2_with (go_at_call 36; refine kf.mono ?_; rintro e w7 ⟨⟨F, A, rfl, hF⟩, hb7⟩; clear kf; have T7 : Hid (TFr w w7) := T6.out.on hb7; clear hb7; obtain ⟨r0, r1, r2, r3, r4, r5, y4, y5, f4, f5, BB'⟩ := T7.out.put 0 0 0 ⟨#[]⟩ F A; have BB : Hid _ := BB'; have y0 := T7.out.tk.cell 0; have y1 := T7.out.tk.cell 1; have y2 := T7.out.tk.cell 2; have y3 := T7.out.tk.cell 3; have f0 := T7.out.tk.fz 0; have f1 := T7.out.tk.fz 1; have f2 := T7.out.tk.fz 2; have f3 := T7.out.tk.fz 3; clear BB')
              refine bodyPost_ret (v := .tuple #[.agg #[.int .i64 0, .int .i64 0, .int .i64 0, .string ⟨#[]⟩], .agg #[.int .i64 F, .int .i64 A]]) (by simp [results, Tryz.results26, go_sem, *]) rfl ⟨⟨0, 0, 0, ⟨#[]⟩, F, A, rfl, .inr ⟨NE.out, hF.out⟩⟩, BB.out⟩
        by_cases h102 : C = 102
        · subst h102
          have E : Hid (wrdT 10 [102, 97, 108, 115, 101] (zs.drop p) p = RA) := by
            show _ = _
            rw [← HR.out]
            unfold tokR
            rw [EC.out, if_neg (by decide), if_neg (by decide), if_neg (by decide), if_neg (by decide), if_pos (by decide)]
          have kw : Hid (∀ w' : World, Below w.heap.size w w' → Calls Tryz.prog 37 #[.slice (some ⟨x0, off, none⟩) n cap, .int .i64 (p : Nat), .string ⟨#[102, 97, 108, 115, 101]⟩] w' fun e w'' => (∃ T B : Int, e = .returned (.tuple #[.int .i64 T, .int .i64 B]) ∧ Hid (WAns (wrdF [102, 97, 108, 115, 101] (zs.drop p) 0) p 5 T B)) ∧ Below w'.heap.size w' w'') := fun w' h => vword_any _ n cap zs p ⟨#[102, 97, 108, 115, 101]⟩ w' HL.out (HB.out.kept h) hc hm (by omega) (by decide)
          clear HR h0 h34 h45 hD h116
          have A1 := alloc_below wr (.cells #[.string ⟨#[116, 114, 117, 101]⟩, .string ⟨#[102, 97, 108, 115, 101]⟩, .string ⟨#[110, 117, 108, 108]⟩] 9)
          have T1 : Hid (TFr w (wr.alloc (.cells #[.string ⟨#[116, 114, 117, 101]⟩, .string ⟨#[102, 97, 108, 115, 101]⟩, .string ⟨#[110, 117, 108, 108]⟩] 9))) := hT.out.on A1
          have K1 := blk_new wr #[.string ⟨#[116, 114, 117, 101]⟩, .string ⟨#[102, 97, 108, 115, 101]⟩, .string ⟨#[110, 117, 108, 108]⟩] 9
          have m0 := K1.cell 0
          have m1 := K1.cell 1
          have m2 := K1.cell 2
          clear K1 A1
          go_wp2
          generalize wr.alloc (.cells #[.string ⟨#[116, 114, 117, 101]⟩, .string ⟨#[102, 97, 108, 115, 101]⟩, .string ⟨#[110, 117, 108, 108]⟩] 9) = W1 at *
          generalize wr.heap.size = g1 at *
          go_loopw [15] (fun u wi => ∃ k : Nat, k ≤ 1 ∧ u = .int .i64 k ∧ wi = W1) (fun u _ => 1 + 1 - (intOf u).toNat)
          case atStart => exact ⟨0, Nat.zero_le _, rfl, rfl⟩
          case round =>
            obtain ⟨k, hk, rfl, rfl⟩ := hrel
            rcases (by omega : k = 0 ∨ k = 1) with rfl | rfl
            · clear hk
              go_wp2
              go_roundw
              case rel => exact ⟨0 + 1, by omega, by go_num, (by first | rfl | trivial)⟩
              case measure => simp [intOf]
            · go_wp2_with fail
              refine (kw.out _ T1.out.bel).mono ?_
              rintro e w6 ⟨⟨T, B, rfl, hA⟩, hb6⟩
              have T6 : Hid (TFr w w6) := T1.out.on hb6
              clear kw hb6 T1 m0 m1 m2
              rcases hA.out with ⟨q1, rfl, rfl⟩ | ⟨q1, q2⟩
              · have E2 : Hid (RA = (⟨10, p, p + 5, []⟩, 0, 0)) := by
                  show _ = _
                  rw [← E.out]
                  unfold wrdT
                  rw [if_pos q1]
                  rfl
                clear hA q1 E
                generalize p + 5 = TT at *
                obtain ⟨r0, r1, r2, r3, r4, r5, y4, y5, f4, f5, BB'⟩ := T6.out.put 10 (p : Int) (TT : Int) ⟨#[]⟩ 0 0
                have BB : Hid _ := BB'
                have y0 := T6.out.tk.cell 0
                have y1 := T6.out.tk.cell 1
                have y2 := T6.out.tk.cell 2
                have y3 := T6.out.tk.cell 3
                have f0 := T6.out.tk.fz 0
                have f1 := T6.out.tk.fz 1
                have f2 := T6.out.tk.fz 2
                have f3 := T6.out.tk.fz 3
                clear BB'
                go_wp2
                refine bodyPost_ret (v := .tuple #[.agg #[.int .i64 10, .int .i64 (p : Int), .int .i64 (TT : Int), .string ⟨#[]⟩], .agg #[.int .i64 0, .int .i64 0]]) (by simp [results, Tryz.results26, go_sem, *]) rfl ⟨⟨10, (p : Int), (TT : Int), ⟨#[]⟩, 0, 0, rfl, .inl ⟨by rw [E2.out], by rw [E2.out]; rfl, by rw [E2.out], by rw [E2.out], by rw [E2.out]; rfl, rfl, rfl⟩⟩, BB.out⟩
              · have NE : Hid (RA.2.1 ≠ 0) := by
                  show _ ≠ _
                  rw [← E.out]
                  unfold wrdT
                  rw [if_neg q1]
                  exact q1
                have gM : decide ((0 : Int) ≤ B) = true := by simp; exact q2
                have kf := vfault_any (some ⟨x0, off, none⟩) n cap B w6
                clear hA q1 q2 E
                go_wp2_with (go_at_call 36; refine kf.mono ?_; rintro e w7 ⟨⟨F, A, rfl, hF⟩, hb7⟩; clear kf; have T7 : Hid (TFr w w7) := T6.out.on hb7; clear hb7; obtain ⟨r0, r1, r2, r3, r4, r5, y4, y5, f4, f5, BB'⟩ := T7.out.put 0 0 0 ⟨#[]⟩ F A; have BB : Hid _ := BB'; have y0 := T7.out.tk.cell 0; have y1 := T7.out.tk.cell 1; have y2 := T7.out.tk.cell 2; have y3 := T7.out.tk.cell 3; have f0 := T7.out.tk.fz 0; have f1 := T7.out.tk.fz 1; have f2 := T7.out.tk.fz 2; have f3 := T7.out.tk.fz 3; clear BB')
                refine bodyPost_ret (v := .tuple #[.agg #[.int .i64 0, .int .i64 0, .int .i64 0, .string ⟨#[]⟩], .agg #[.int .i64 F, .int .i64 A]]) (by simp [results, Tryz.results26, go_sem, *]) rfl ⟨⟨0, 0, 0, ⟨#[]⟩, F, A, rfl, .inr ⟨NE.out, hF.out⟩⟩, BB.out⟩
        by_cases h110 : C = 110
        · subst h110
          have E : Hid (wrdT 11 [110, 117, 108, 108] (zs.drop p) p = RA) := by
            show _ = _
            rw [← HR.out]
            unfold tokR
            rw [EC.out, if_neg (by decide), if_neg (by decide), if_neg (by decide), if_neg (by decide), if_neg (by decide), if_pos (by decide)]
          have kw : Hid (∀ w' : World, Below w.heap.size w w' → Calls Tryz.prog 37 #[.slice (some ⟨x0, off, none⟩) n cap, .int .i64 (p : Nat), .string ⟨#[110, 117, 108, 108]⟩] w' fun e w'' => (∃ T B : Int, e = .returned (.tuple #[.int .i64 T, .int .i64 B]) ∧ Hid (WAns (wrdF [110, 117, 108, 108] (zs.drop p) 0) p 4 T B)) ∧ Below w'.heap.size w' w'') := fun w' h => vword_any _ n cap zs p ⟨#[110, 117, 108, 108]⟩ w' HL.out (HB.out.kept h) hc hm (by omega) (by decide)
          clear HR h0 h34 h45 hD h116 h102
          have A1 := alloc_below wr (.cells #[.string ⟨#[116, 114, 117, 101]⟩, .string ⟨#[102, 97, 108, 115, 101]⟩, .string ⟨#[110, 117, 108, 108]⟩] 9)
          have T1 : Hid (TFr w (wr.alloc (.cells #[.string ⟨#[116, 114, 117, 101]⟩, .string ⟨#[102, 97, 108, 115, 101]⟩, .string ⟨#[110, 117, 108, 108]⟩] 9))) := hT.out.on A1
          have K1 := blk_new wr #[.string ⟨#[116, 114, 117, 101]⟩, .string ⟨#[102, 97, 108, 115, 101]⟩, .string ⟨#[110, 117, 108, 108]⟩] 9
          have m0 := K1.cell 0
          have m1 := K1.cell 1
          have m2 := K1.cell 2
          clear K1 A1
          go_wp2
          generalize wr.alloc (.cells #[.string ⟨#[116, 114, 117, 101]⟩, .string ⟨#[102, 97, 108, 115, 101]⟩, .string ⟨#[110, 117, 108, 108]⟩] 9) = W1 at *
          generalize wr.heap.size = g1 at *
          go_loopw [15] (fun u wi => ∃ k : Nat, k ≤ 2 ∧ u = .int .i64 k ∧ wi = W1) (fun u _ => 2 + 1 - (intOf u).toNat)
          case atStart => exact ⟨0, Nat.zero_le _, rfl, rfl⟩
          case round =>
            obtain ⟨k, hk, rfl, rfl⟩ := hrel
            rcases (by omega : k = 0 ∨ k = 1 ∨ k = 2) with rfl | rfl | rfl
            · clear hk
              go_wp2
              go_roundw
              case rel => exact ⟨0 + 1, by omega, by go_num, (by first | rfl | trivial)⟩
              case measure => simp [intOf]
            · clear hk
              go_wp2
              go_roundw
              case rel => exact ⟨1 + 1, by omega, by go_num, (by first | rfl | trivial)⟩
              case measure => simp [intOf]
            · go_wp2_with fail
              refine (kw.out _ T1.out.bel).mono ?_
              rintro e w6 ⟨⟨T, B, rfl, hA⟩, hb6⟩
              have T6 : Hid (TFr w w6) := T1.out.on hb6
              clear kw hb6 T1 m0 m1 m2
              rcases hA.out with ⟨q1, rfl, rfl⟩ | ⟨q1, q2⟩
              · have E2 : Hid (RA = (⟨11, p, p + 4, []⟩, 0, 0)) := by
                  show _ = _
                  rw [← E.out]
                  unfold wrdT
                  rw [if_pos q1]
                  rfl
                clear hA q1 E
                generalize p + 4 = TT at *
                obtain ⟨r0, r1, r2, r3, r4, r5, y4, y5, f4, f5, BB'⟩ := T6.out.put 11 (p : Int) (TT : Int) ⟨#[]⟩ 0 0
                have BB : Hid _ := BB'
                have y0 := T6.out.tk.cell 0
                have y1 := T6.out.tk.cell 1
                have y2 := T6.out.tk.cell 2
                have y3 := T6.out.tk.cell 3
                have f0 := T6.out.tk.fz 0
                have f1 := T6.out.tk.fz 1
                have f2 := T6.out.tk.fz 2
                have f3 := T6.out.tk.fz 3
                clear BB'
                go_wp2
                refine bodyPost_ret (v := .tuple #[.agg #[.int .i64 11, .int .i64 (p : Int), .int .i64 (TT : Int), .string ⟨#[]⟩], .agg #[.int .i64 0, .int .i64 0]]) (by simp [results, Tryz.results26, go_sem, *]) rfl ⟨⟨11, (p : Int), (TT : Int), ⟨#[]⟩, 0, 0, rfl, .inl ⟨by rw [E2.out], by rw [E2.out]; rfl, by rw [E2.out], by rw [E2.out], by rw [E2.out]; rfl, rfl, rfl⟩⟩, BB.out⟩
              · have NE : Hid (RA.2.1 ≠ 0) := by
                  show _ ≠ _
                  rw [← E.out]
                  unfold wrdT
                  rw [if_neg q1]
                  exact q1
                have gM : decide ((0 : Int) ≤ B) = true := by simp; exact q2
                have kf := vfault_any (some ⟨x0, off, none⟩) n cap B w6
                clear hA q1 q2 E
                go_wp2_with (go_at_call 36; refine kf.mono ?_; rintro e w7 ⟨⟨F, A, rfl, hF⟩, hb7⟩; clear kf; have T7 : Hid (TFr w w7) := T6.out.on hb7; clear hb7; obtain ⟨r0, r1, r2, r3, r4, r5, y4, y5, f4, f5, BB'⟩ := T7.out.put 0 0 0 ⟨#[]⟩ F A; have BB : Hid _ := BB'; have y0 := T7.out.tk.cell 0; have y1 := T7.out.tk.cell 1; have y2 := T7.out.tk.cell 2; have y3 := T7.out.tk.cell 3; have f0 := T7.out.tk.fz 0; have f1 := T7.out.tk.fz 1; have f2 := T7.out.tk.fz 2; have f3 := T7.out.tk.fz 3; clear BB')
                refine bodyPost_ret (v := .tuple #[.agg #[.int .i64 0, .int .i64 0, .int .i64 0, .string ⟨#[]⟩], .agg #[.int .i64 F, .int .i64 A]]) (by simp [results, Tryz.results26, go_sem, *]) rfl ⟨⟨0, 0, 0, ⟨#[]⟩, F, A, rfl, .inr ⟨NE.out, hF.out⟩⟩, BB.out⟩
        have E : Hid (RA.2.1 ≠ 0) := by
          show _ ≠ _
          rw [← HR.out]
          unfold tokR
          rw [EC.out, if_neg (by rw [h0]; decide), if_neg (by omega), if_neg (by rw [isD_iff]; omega), if_neg (by omega), if_neg (by omega), if_neg (by omega)]
          exact (by decide : (5 : Nat) ≠ 0)
        have g34 : ((C : Int) == 34) = false := by simp; omega
        have g45 : ((C : Int) == 45) = false := by simp; omega
        have g116 : ((C : Int) == 116) = false := by simp; omega
        have g102 : ((C : Int) == 102) = false := by simp; omega
        have g110 : ((C : Int) == 110) = false := by simp; omega
        have va116 : ((C : Int) == ((((⟨#[116, 114, 117, 101]⟩ : ByteArray)[0]'(by decide)).toNat : Nat) : Int)) = false := g116
        have vb116 : ((C : Int) == (((116 : UInt8).toNat : Nat) : Int)) = false := g116
        have vc116 : ¬ (C : Int) = 116 := by omega
        have va102 : ((C : Int) == ((((⟨#[102, 97, 108, 115, 101]⟩ : ByteArray)[0]'(by decide)).toNat : Nat) : Int)) = false := g102
        have vb102 : ((C : Int) == (((102 : UInt8).toNat : Nat) : Int)) = false := g102
        have vc102 : ¬ (C : Int) = 102 := by omega
        have va110 : ((C : Int) == ((((⟨#[110, 117, 108, 108]⟩ : ByteArray)[0]'(by decide)).toNat : Nat) : Int)) = false := g110
        have vb110 : ((C : Int) == (((110 : UInt8).toNat : Nat) : Int)) = false := g110
        have vc110 : ¬ (C : Int) = 110 := by omega
        by_cases h48 : C < 48
        · have g48 : decide ((48 : Int) ≤ (C : Int)) = false := by simp; omega
          clear HR h0 h34 h45 hD h116 h102 h110 h48
          have A1 := alloc_below wr (.cells #[.string ⟨#[116, 114, 117, 101]⟩, .string ⟨#[102, 97, 108, 115, 101]⟩, .string ⟨#[110, 117, 108, 108]⟩] 9)
          have T1 : Hid (TFr w (wr.alloc (.cells #[.string ⟨#[116, 114, 117, 101]⟩, .string ⟨#[102, 97, 108, 115, 101]⟩, .string ⟨#[110, 117, 108, 108]⟩] 9))) := hT.out.on A1
          have K1 := blk_new wr #[.string ⟨#[116, 114, 117, 101]⟩, .string ⟨#[102, 97, 108, 115, 101]⟩, .string ⟨#[110, 117, 108, 108]⟩] 9
          have m0 := K1.cell 0
          have m1 := K1.cell 1
          have m2 := K1.cell 2
          clear K1 A1
          go_wp2
          generalize wr.alloc (.cells #[.string ⟨#[116, 114, 117, 101]⟩, .string ⟨#[102, 97, 108, 115, 101]⟩, .string ⟨#[110, 117, 108, 108]⟩] 9) = W1 at *
          generalize wr.heap.size = g1 at *
          go_loopw [15] (fun u wi => ∃ k : Nat, k ≤ 3 ∧ u = .int .i64 k ∧ wi = W1) (fun u _ => 3 + 1 - (intOf u).toNat)
          case atStart => exact ⟨0, Nat.zero_le _, rfl, rfl⟩
          case round =>
            obtain ⟨k, hk, rfl, rfl⟩ := hrel
            rcases (by omega : k = 0 ∨ k = 1 ∨ k = 2 ∨ k = 3) with rfl | rfl | rfl | rfl
            · clear hk
              go_wp2
              go_roundw
              case rel => exact ⟨0 + 1, by omega, by go_num, (by first | rfl | trivial)⟩
              case measure => simp [intOf]
            · clear hk
              go_wp2
              go_roundw
              case rel => exact ⟨1 + 1, by omega, by go_num, (by first | rfl | trivial)⟩
              case measure => simp [intOf]
            · clear hk
              go_wp2
              go_roundw
              case rel => exact ⟨2 + 1, by omega, by go_num, (by first | rfl | trivial)⟩
              case measure => simp [intOf]
            · clear hk
              have kf := vfault_any (some ⟨x0, off, none⟩) n cap (p : Int) wr
              go_wp2_with (go_at_call 36; refine kf.mono ?_; rintro e w7 ⟨⟨F, A, rfl, hF⟩, hb7⟩; clear kf; have T7 : Hid (TFr w w7) := T1.out.on hb7; clear hb7; obtain ⟨r0, r1, r2, r3, r4, r5, y4, y5, f4, f5, BB'⟩ := T7.out.put 0 0 0 ⟨#[]⟩ F A; have BB : Hid _ := BB'; have y0 := T7.out.tk.cell 0; have y1 := T7.out.tk.cell 1; have y2 := T7.out.tk.cell 2; have y3 := T7.out.tk.cell 3; have f0 := T7.out.tk.fz 0; have f1 := T7.out.tk.fz 1; have f2 := T7.out.tk.fz 2; have f3 := T7.out.tk.fz 3; clear BB')
              refine bodyPost_ret (v := .tuple #[.agg #[.int .i64 0, .int .i64 0, .int .i64 0, .string ⟨#[]⟩], .agg #[.int .i64 F, .int .i64 A]]) (by simp [results, Tryz.results26, go_sem, *]) rfl ⟨⟨0, 0, 0, ⟨#[]⟩, F, A, rfl, .inr ⟨E.out, hF.out⟩⟩, BB.out⟩
        · have g48 : decide ((48 : Int) ≤ (C : Int)) = true := by simp; omega
          have g57 : decide ((C : Int) ≤ 57) = false := by simp; omega
          clear HR h0 h34 h45 hD h116 h102 h110 h48
          have A1 := alloc_below wr (.cells #[.string ⟨#[116, 114, 117, 101]⟩, .string ⟨#[102, 97, 108, 115, 101]⟩, .string ⟨#[110, 117, 108, 108]⟩] 9)
          have T1 : Hid (TFr w (wr.alloc (.cells #[.string ⟨#[116, 114, 117, 101]⟩, .string ⟨#[102, 97, 108, 115, 101]⟩, .string ⟨#[110, 117, 108, 108]⟩] 9))) := hT.out.on A1
          have K1 := blk_new wr #[.string ⟨#[116, 114, 117, 101]⟩, .string ⟨#[102, 97, 108, 115, 101]⟩, .string ⟨#[110, 117, 108, 108]⟩] 9
          have m0 := K1.cell 0
          have m1 := K1.cell 1
          have m2 := K1.cell 2
          clear K1 A1
          go_wp2
          generalize wr.alloc (.cells #[.string ⟨#[116, 114, 117, 101]⟩, .string ⟨#[102, 97, 108, 115, 101]⟩, .string ⟨#[110, 117, 108, 108]⟩] 9) = W1 at *
          generalize wr.heap.size = g1 at *
          go_loopw [15] (fun u wi => ∃ k : Nat, k ≤ 3 ∧ u = .int .i64 k ∧ wi = W1) (fun u _ => 3 + 1 - (intOf u).toNat)
          case atStart => exact ⟨0, Nat.zero_le _, rfl, rfl⟩
          case round =>
            obtain ⟨k, hk, rfl, rfl⟩ := hrel
            rcases (by omega : k = 0 ∨ k = 1 ∨ k = 2 ∨ k = 3) with rfl | rfl | rfl | rfl
            · clear hk
              go_wp2
              go_roundw
              case rel => exact ⟨0 + 1, by omega, by go_num, (by first | rfl | trivial)⟩
              case measure => simp [intOf]
            · clear hk
              go_wp2
              go_roundw
              case rel => exact ⟨1 + 1, by omega, by go_num, (by first | rfl | trivial)⟩
              case measure => simp [intOf]
            · clear hk
              go_wp2
              go_roundw
              case rel => exact ⟨2 + 1, by omega, by go_num, (by first | rfl | trivial)⟩
              case measure => simp [intOf]
            · clear hk
              have kf := vfault_any (some ⟨x0, off, none⟩) n cap (p : Int) wr
              go_wp2_with (go_at_call 36; refine kf.mono ?_; rintro e w7 ⟨⟨F, A, rfl, hF⟩, hb7⟩; clear kf; have T7 : Hid (TFr w w7) := T1.out.on hb7; clear hb7; obtain ⟨r0, r1, r2, r3, r4, r5, y4, y5, f4, f5, BB'⟩ := T7.out.put 0 0 0 ⟨#[]⟩ F A; have BB : Hid _ := BB'; have y0 := T7.out.tk.cell 0; have y1 := T7.out.tk.cell 1; have y2 := T7.out.tk.cell 2; have y3 := T7.out.tk.cell 3; have f0 := T7.out.tk.fz 0; have f1 := T7.out.tk.fz 1; have f2 := T7.out.tk.fz 2; have f3 := T7.out.tk.fz 3; clear BB')
              refine bodyPost_ret (v := .tuple #[.agg #[.int .i64 0, .int .i64 0, .int .i64 0, .string ⟨#[]⟩], .agg #[.int .i64 F, .int .i64 A]]) (by simp [results, Tryz.results26, go_sem, *]) rfl ⟨⟨0, 0, 0, ⟨#[]⟩, F, A, rfl, .inr ⟨E.out, hF.out⟩⟩, BB.out⟩
end Go.Proofs.YtmlacmoembjeoaaGreatDoor
