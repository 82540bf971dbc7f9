/-
  The two streams side by side, the program's and the document's: fed the same parts, and flushed once, they find the same loads, have lost as many bytes and keep as many.
-/
import Derived.Test.YticlobjikpfcjaaAmong
import Derived.Test.YticlobjikpfcjaaRFlush
import Derived.Deep.RegionHeld3
import Derived.Deep.RegionWith
import Derived.Deep.CutRange
namespace Go.Proofs.Yticlobjikpfcjaa
open Go.RowKit
set_option linter.unusedVariables false

theorem sameL_yes (ba bb : Nat) (a b : Option Addr) (n m ca cb : Nat) (La : List (List Int)) (w : World) (hla : La.length = n) (hlb : La.length = m) (ha : Lists w ba a La) (hb : Lists w bb b La) :
    Calls Try.prog 15 #[.slice a n ca, .slice b m cb] w fun e w' => e = .returned (.bool true) ∧ Below w.heap.size w w' := by
  have h := sameL_any ba bb a b n m ca cb La La w hla hlb ha hb
  rwa [decide_eq_true rfl] at h
theorem waits_at (g : Nat) (q : List Int) (lost n : Nat) (hl : q.length = n) (w : World) (h : Stm w g q lost) :
    Calls Try.prog 20 #[.pointer (some ⟨g, 0, none⟩)] w fun e w' => e = .returned (.int .i64 (n : Nat)) ∧ w' = w := by
  subst hl
  exact waits_any g q lost w h

set_option maxHeartbeats 8000000 in
theorem feeds_walk (a0 : Option Addr) (len0 cap0 : Nat) (L0 : List (List Int)) (a1 : Int) (w : World) (w0 : IsRows w a0 len0 cap0 L0) (w1 : (Lit.int .i64 a1).wf = true) (small : (tot L0 + len0) ≤ 1048576) :
    Calls Try.prog 5 #[.slice a0 len0 cap0, .int .i64 a1] w fun e w' => e = .returned (.bool true) ∧ Below w.heap.size w w' := by
  obtain ⟨hl0, hlc0, hcm0, hn0, hI0⟩ := w0
  have hA : Hid (Lists w w.heap.size a0 L0) := hI0
  have hLA : Hid (L0.length = len0) := hl0
  have hS0 : Hid (tot L0 + len0 ≤ 1048576) := small
  have hm0 : len0 ≤ 1048576 := by omega
  simp [Lit.wf, show IntKind.i64.min = -9223372036854775808 from by decide, show IntKind.i64.max = 9223372036854775807 from by decide] at w1
  clear hI0 hl0 small hcm0 hn0
  go_enter Try.func5, Try.ntmps5
  go_wp2_with fail
  refine (new_any w).mono ?_
  rintro e x1 ⟨g, rfl, hs1, hgs, hb1⟩
  have hz1 := hb1.size
  go_wp2_with (go_at_call 12; refine (alive_any _).mono ?_; rintro e x2 ⟨rfl, hb2⟩)
  have hal : Below x1.heap.size x1 (x1.alloc (.cells #[.slice none 0 0, .int .i64 0] 38)) := (Below.refl _ _).alloc (Nat.le_refl _) _
  have hs2 : Hid (Stm x2 g [] 0) := (hs1.kept hal).kept hb2
  have hR0 : RStm (x1.alloc (.cells #[.slice none 0 0, .int .i64 0] 38)) x1.heap.size [] 0 := ⟨none, 0, heap_alloc_new _ _, ⟨none, 0, rfl, ⟨by simp, by simp, .inl rfl⟩, fun _ => rfl, Nat.le_refl _, Nat.zero_le _, fun x hx _ => by cases hx⟩, fun x hx => by cases hx⟩
  have hr2 : Hid (RStm x2 x1.heap.size [] 0) := hR0.kept hb2
  have hgl := hs1.lt
  have hbx2 : Below w.heap.size w x2 := (hb1.trans (hal.mono hz1)).trans (hb2.mono (by simp; omega))
  have hne : Hid (g ≠ x1.heap.size) := by show _ ≠ _; omega
  have hrw : w.heap.size ≤ x1.heap.size := hz1
  clear hs1 hb1 hb2 hal hR0 hgl hz1
  generalize x1.heap.size = r at *
  go_loopw [18] (fun j wr => ∃ (k lo : Nat) (q : List Int), k ≤ len0 ∧ j = .int .i64 k ∧ Hid (Stm wr g q lo) ∧ Hid (RStm wr r q lo) ∧ Hid (q.length + lo ≤ tot (L0.take k)) ∧ Below w.heap.size w wr) (fun j _ => len0 - (intOf j).toNat)
  case atStart => exact ⟨0, 0, [], Nat.zero_le _, rfl, hs2, hr2, (by show _ ≤ _; simp), hbx2⟩
  case round =>
    obtain ⟨k, lo, q, hk, rfl, hstm, hrst, hbd, hbr⟩ := hrel
    have hzr := hbr.size
    by_cases hlt : k < len0
    · obtain ⟨l, b, off, a2, n2, c2, rfl, hcell, hl2, hB2, hn2, hc2, hm2, -, ht2, -⟩ := old_load hA.out hbr (k := k) (by rw [hLA.out]; exact hlt)
      have hT2 : Hid (tot (L0.take (k + 1)) = tot (L0.take k) + n2) := by show _ = _; rw [tot_next ht2.out, hl2.out]
      have hqb : q.length + n2 + lo ≤ 1048576 := by
        have h1 := hT2.out
        have h2 := tot_take L0 (k + 1)
        have h3 := hS0.out
        have h4 := hbd.out
        omega
      have j1 : (k : Int) < (len0 : Int) := by omega
      have hBl : Hid (Bytes wr a2 l) := hB2.out.kept hbr
      have hsc := scan_le (q ++ l)
      have kf : Hid (∀ W, Stm W g q lo → Bytes W a2 l → Calls Try.prog 17 #[.pointer (some ⟨g, 0, none⟩), .slice a2 n2 c2] W fun e w' => ∃ v, e = .returned v ∧ OwnsL w' W.heap.size 0 v (scanL (q ++ l)).1 ∧ Stm w' g ((q ++ l).drop (scanL (q ++ l)).2) (lo + ((scanL (q ++ l)).2 - sz (scanL (q ++ l)).1)) ∧ W.grownBy w' (some g)) := fun W h1 h2 => feed_any g q lo a2 n2 c2 l W h1 hl2.out h2 hn2.out (by omega) (by omega)
      have kr : Hid (∀ W, RStm W r q lo → Bytes W a2 l → Calls Try.prog 18 #[.pointer (some ⟨r, 0, none⟩), .slice a2 n2 c2] W fun e w' => ∃ v, e = .returned v ∧ OwnsL w' W.heap.size 0 v (scanL (q ++ l)).1 ∧ RStm w' r ((q ++ l).drop (scanL (q ++ l)).2) (lo + ((scanL (q ++ l)).2 - sz (scanL (q ++ l)).1)) ∧ W.grownBy w' (some r)) := fun W h1 h2 => rfeed_any r q lo a2 n2 c2 l W h1 hl2.out h2 hn2.out (by omega) (by omega)
      have hbd2 : Hid (((q ++ l).drop (scanL (q ++ l)).2).length + (lo + ((scanL (q ++ l)).2 - sz (scanL (q ++ l)).1)) ≤ tot (L0.take (k + 1))) := by
        show _ ≤ _
        have h1 := hT2.out
        have h4 := hbd.out
        rw [List.length_drop]
        rw [List.length_append, hl2.out] at *
        omega
      have hbd3 : ((q ++ l).drop (scanL (q ++ l)).2).length + (lo + ((scanL (q ++ l)).2 - sz (scanL (q ++ l)).1)) ≤ 1048576 := by
        have h1 := hbd2.out
        have h2 := tot_take L0 (k + 1)
        have h3 := hS0.out
        omega
      clear hsc hT2 hbd hB2
      generalize (q ++ l).drop (scanL (q ++ l)).2 = q' at *
      generalize lo + ((scanL (q ++ l)).2 - sz (scanL (q ++ l)).1) = lo' at *
      generalize (scanL (q ++ l)).1 = LL at *
      go_wp2
      go_cut [18, 44] from 18 to 67 (fun j t wx => j = .int .i64 k ∧ t = .bool false ∧ Hid (Stm wx g q' lo') ∧ Hid (RStm wx r q' lo') ∧ Below w.heap.size w wx)
      case first =>
        go_region_with (first
          | (go_at_call 17; refine (kf.out _ (by exact hstm.out) (by exact hBl.out)).mono ?_; rintro e y1 ⟨v1, rfl, ho1, hst1, hg1'⟩; have hg1 : wr.grownBy y1 (some g) := ⟨hg1'.os, hg1'.tape, hg1'.output, hg1'.size, hg1'.block⟩; obtain ⟨cur1, hcur1⟩ := hstm.out.block; have hr1 : Hid (RStm y1 r q lo) := hrst.out.other hg1 hne.out hcur1 (by decide); have hB1 : Hid (Bytes y1 a2 l) := hBl.out.stm hstm.out hg1; have hS1 : Hid (Stm y1 g q' lo') := hst1; have hby1 : Below w.heap.size w y1 := hbr.grown hg1 hzr (fun k hk => by cases hk; omega); have hO1 : Hid (OwnsL y1 wr.heap.size 0 v1 LL) := ho1; clear kf hcur1 hst1 hg1' ho1 hstm hrst hBl)
          | (go_at_call 18; refine (kr.out _ (by exact hr1.out) (by exact hB1.out)).mono ?_; rintro e y2 ⟨v2, rfl, ho2, hrt2, hg2'⟩; have hg2 : y1.grownBy y2 (some r) := ⟨hg2'.os, hg2'.tape, hg2'.output, hg2'.size, hg2'.block⟩; obtain ⟨cur2, hcur2⟩ := hr1.out.block; have hS2 : Hid (Stm y2 g q' lo') := hS1.out.other hg2 (Ne.symm hne.out) hcur2 (by decide); have hO2 := hO1.out.but hg2 (Nat.zero_le _) hcur2 (by decide) (by decide); obtain ⟨a3, n3, c3, rfl, hl3, -, -, -, hL3⟩ := hO2.lists; obtain ⟨a4, n4, c4, rfl, hl4, -, -, -, hL4⟩ := ho2.lists; have hR2 : Hid (RStm y2 r q' lo') := hrt2; have hby2 : Below w.heap.size w y2 := hby1.grown hg2 hby1.size (fun k hk => by cases hk; omega); clear kr hcur2 hrt2 hg2' ho2 hO1 hS1 hr1 hB1 hO2)
          | (go_at_call 15; refine (sameL_yes 0 0 a3 a4 n3 n4 c3 c4 LL _ hl3.out hl4.out (by exact hL3.out) (by exact hL4.out)).mono ?_; rintro e y3 ⟨rfl, hb3'⟩; have hb3 : Below y2.heap.size y2 y3 := ⟨hb3'.os, hb3'.tape, hb3'.output, hb3'.size, hb3'.block⟩; have hS3 : Hid (Stm y3 g q' lo') := hS2.out.kept hb3; have hR3 : Hid (RStm y3 r q' lo') := hR2.out.kept hb3; have hby3 : Below w.heap.size w y3 := hby2.trans (hb3.mono hby2.size); obtain ⟨a5, n5, c5, hrs5, hl5, -, -, -, -, -, -⟩ := hR3.out.form; have e0 := hrs5.c0; have e1 := hrs5.c1; have kw := waits_at g q' lo' n5 hl5.out; clear hL3 hL4 hS2 hR2 hb3' hb3 hrs5)
          | (go_at_call 19; refine (lost_any g q' lo' _ (by exact hS3.out)).mono ?_; rintro e y4 ⟨rfl, hw4⟩; subst hw4)
          | (go_at_call 20; refine (kw _ (by exact hS3.out)).mono ?_; rintro e y5 ⟨rfl, hw5⟩; subst hw5))
        all_goals
          go_wp2_with fail
          go_meet
          exact ⟨rfl, rfl, hS3, hR3, hby3⟩
      case rest =>
        obtain ⟨rfl, rfl, hS4, hR4, hby4⟩ := hcut
        have hz4 := hby4.size
        clear kf kr hstm hrst hBl hbr hcell hzr
        by_cases hf : (k : Int) = a1
        · obtain rfl : a1 = (k : Int) := hf.symm
          have hfle := flush_le q'
          have kfl : Hid (∀ W, Stm W g q' lo' → Calls Try.prog 21 #[.pointer (some ⟨g, 0, none⟩)] W fun e w' => ∃ v, e = .returned v ∧ OwnsL w' W.heap.size 0 v (flushL q') ∧ Stm w' g [] (lo' + (q'.length - sz (flushL q'))) ∧ W.grownBy w' (some g)) := fun W h1 => flush_any g q' lo' W h1 (by omega) (by omega)
          have krf : Hid (∀ W, RStm W r q' lo' → Calls Try.prog 22 #[.pointer (some ⟨r, 0, none⟩)] W fun e w' => ∃ v, e = .returned v ∧ OwnsL w' W.heap.size 0 v (flushL q') ∧ RStm w' r [] (lo' + (q'.length - sz (flushL q'))) ∧ W.grownBy w' (some r)) := fun W h1 => rflush_any r q' lo' W h1 (by omega) (by omega)
          have hbd5 : Hid (([] : List Int).length + (lo' + (q'.length - sz (flushL q'))) ≤ tot (L0.take (k + 1))) := by
            show _ ≤ _
            have h1 := hbd2.out
            rw [List.length_nil]
            omega
          have hbd6 : lo' + (q'.length - sz (flushL q')) ≤ 1048576 := by omega
          clear hfle hbd2 hbd3
          generalize lo' + (q'.length - sz (flushL q')) = lo2 at *
          generalize flushL q' = FL at *
          go_wp2
          go_region_with (first
            | (go_at_call 21; refine (kfl.out _ (by exact hS4.out)).mono ?_; rintro e y1 ⟨v1, rfl, ho1, hst1, hg1'⟩; have hg1 : wc.grownBy y1 (some g) := ⟨hg1'.os, hg1'.tape, hg1'.output, hg1'.size, hg1'.block⟩; obtain ⟨cur1, hcur1⟩ := hS4.out.block; have hr1 : Hid (RStm y1 r q' lo') := hR4.out.other hg1 hne.out hcur1 (by decide); have hS1 : Hid (Stm y1 g [] lo2) := hst1; have hby1 : Below w.heap.size w y1 := hby4.grown hg1 hz4 (fun k hk => by cases hk; omega); have hO1 : Hid (OwnsL y1 wc.heap.size 0 v1 FL) := ho1; clear kfl hcur1 hst1 hg1' ho1 hS4 hR4)
            | (go_at_call 22; refine (krf.out _ (by exact hr1.out)).mono ?_; rintro e y2 ⟨v2, rfl, ho2, hrt2, hg2'⟩; have hg2 : y1.grownBy y2 (some r) := ⟨hg2'.os, hg2'.tape, hg2'.output, hg2'.size, hg2'.block⟩; obtain ⟨cur2, hcur2⟩ := hr1.out.block; have hS2 : Hid (Stm y2 g [] lo2) := hS1.out.other hg2 (Ne.symm hne.out) hcur2 (by decide); have hO2 := hO1.out.but hg2 (Nat.zero_le _) hcur2 (by decide) (by decide); obtain ⟨a3, n3, c3, rfl, hl3, -, -, -, hL3⟩ := hO2.lists; obtain ⟨a4, n4, c4, rfl, hl4, -, -, -, hL4⟩ := ho2.lists; have hR2 : Hid (RStm y2 r [] lo2) := hrt2; have hby2 : Below w.heap.size w y2 := hby1.grown hg2 hby1.size (fun k hk => by cases hk; omega); clear krf hcur2 hrt2 hg2' ho2 hO1 hS1 hr1 hO2)
            | (go_at_call 15; refine (sameL_yes 0 0 a3 a4 n3 n4 c3 c4 FL _ hl3.out hl4.out (by exact hL3.out) (by exact hL4.out)).mono ?_; rintro e y3 ⟨rfl, hb3'⟩; have hb3 : Below y2.heap.size y2 y3 := ⟨hb3'.os, hb3'.tape, hb3'.output, hb3'.size, hb3'.block⟩; have hS3 : Hid (Stm y3 g [] lo2) := hS2.out.kept hb3; have hR3 : Hid (RStm y3 r [] lo2) := hR2.out.kept hb3; have hby3 : Below w.heap.size w y3 := hby2.trans (hb3.mono hby2.size); obtain ⟨a5, n5, c5, hrs5, -, -, -, -, -, -, -⟩ := hR3.out.form; have e1 := hrs5.c1; clear hL3 hL4 hS2 hR2 hb3' hb3 hrs5)
            | (go_at_call 19; refine (lost_any g [] lo2 _ (by exact hS3.out)).mono ?_; rintro e y4 ⟨rfl, hw4⟩; subst hw4)
            | (go_at_call 20; refine (waits_at g [] lo2 0 rfl _ (by exact hS3.out)).mono ?_; rintro e y5 ⟨rfl, hw5⟩; subst hw5))
          all_goals
            go_wp2
            go_roundw
            case rel => exact ⟨k + 1, lo2, [], by omega, by go_num, hS3, hR3, hbd5, hby3⟩
            case measure => simp [intOf]; omega
        · have hfb : ((k : Int) == a1) = false := by rw [beq_eq_false_iff_ne]; exact hf
          go_wp2
          go_quiet (fail)
          go_wp2
          go_roundw
          case rel => exact ⟨k + 1, lo', q', by omega, by go_num, hS4, hR4, hbd2, below_drewN hby4 nq⟩
          case measure => simp [intOf]; omega
    · have j1 : ¬ (k : Int) < (len0 : Int) := by omega
      go_wp2
      go_ret
      exact ⟨rfl, hbr⟩
end Go.Proofs.Yticlobjikpfcjaa
