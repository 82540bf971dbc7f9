/-
  A tree written over: the walk of 'spoil'.
-/
import Derived.Test.YtkealjaealeojabQTsp
namespace Go.Proofs.Ytkealjaealeojab
open Go.RowKit
set_option linter.unusedVariables false
set_option maxHeartbeats 8000000 in
set_option maxRecDepth 100000 in
theorem spoil_step {D : Nat} (ih : SpAt D) : SpAt (D + 1) := by
  intro b w f hF hnd hl
  obtain ⟨f0, f1, f2, rfl, hc, h0, h1, h2⟩ := hF
  have O6 : Hid (Sps w (w.alloc (.cells b.arr 26)) b D (f0 ++ (f1 ++ f2)) f0 f1 f2 0 0 0) := sps_new h0 h1 h2 hl
  have hNd : Hid (f0 ++ (f1 ++ f2)).Nodup := hnd
  have hlf : Hid (∀ k ∈ f0 ++ (f1 ++ f2), k < w.heap.size) := hl
  have hcc := hc
  unfold maxLen at hcc
  have mb : Hid (b.lb ≤ b.cb ∧ b.cb ≤ 9223372036854775807) := ⟨hcc.1, hcc.2.2.2.1⟩
  have mk : Hid (b.lk ≤ b.ck ∧ b.ck ≤ 9223372036854775807) := ⟨hcc.2.1, hcc.2.2.2.2.1⟩
  have mi : Hid (b.li ≤ b.ci ∧ b.ci ≤ 9223372036854775807) := ⟨hcc.2.2.1, hcc.2.2.2.2.2⟩
  clear hcc hc h0 h1 h2 hnd hl
  obtain ⟨a0, a1, a2, a3, a4, a5, a6, a7, a8⟩ := O6.out.box.fields
  go_enter Try.func14, Try.ntmps14
  go_wp2
  generalize w.alloc (.cells #[.int .i64 b.kind, .int .u64 b.num, .bool b.neg, .string b.dig, .int .i64 b.exp, .string b.txt, .slice b.ab b.lb b.cb, .slice b.ak b.lk b.ck, .slice b.ai b.li b.ci] 26) = w7 at *
  go_loopw [2, 8] (fun _ s8 wr => ∃ i : Nat, i ≤ b.lb ∧ s8 = .int .i64 i ∧ Hid (Sps w wr b D (f0 ++ (f1 ++ f2)) f0 f1 f2 i 0 0)) (fun _ i _ => b.lb - (intOf i).toNat)
  case atStart => exact ⟨0, Nat.zero_le _, rfl, O6⟩
  case round =>
    clear O6 a0 a1 a2 a3 a4 a5 a6 a7 a8
    obtain ⟨i, hi, rfl, hO⟩ := hrel
    by_cases hlt : i < b.lb
    · have hz : (i : Int) < (b.lb : Int) := by omega
      have hz0 : (0 : Int) ≤ (i : Int) := by omega
      obtain ⟨g, o, c, ho', ha, hc, hcr, hfz, hgo⟩ := hO.out.el0 hlt hNd.out hlf.out
      have hgo' : Hid (∀ v : Value, Sps w (wr.setCell ⟨g, o + i, none⟩ v) b D (f0 ++ (f1 ++ f2)) f0 f1 f2 (i + 1) 0 0) := hgo
      obtain ⟨a0, a1, a2, a3, a4, a5, a6, a7, a8⟩ := hO.out.box.fields
      have hbf : wr.cell? ⟨w.heap.size, 6, none⟩ = some (.slice (some ⟨g, o, none⟩) b.lb b.cb) := by rw [← ha]; exact a6
      have wi : IntKind.i64.wrap ((i : Int) + 1) = (i : Int) + 1 := by have := mb.out; rw [IntKind.wrap_i64]; omega
      have hm := mb.out
      clear a0 a1 a2 a3 a4 a5 a6 a7 a8 hO ha ho' hgo
      go_wp2
      go_roundw
      case rel => exact ⟨i + 1, by omega, by go_num, hgo'.out _⟩
      case measure => simp [intOf]; omega
    · have hz : ¬ (i : Int) < (b.lb : Int) := by omega
      obtain rfl : i = b.lb := by omega
      have O7 : Hid (Sps w wr b D (f0 ++ (f1 ++ f2)) f0 f1 f2 b.lb 0 0) := hO
      obtain ⟨a0, a1, a2, a3, a4, a5, a6, a7, a8⟩ := hO.out.box.fields
      clear hO
      go_wp2
      go_loopw [3, 22] (fun _ s22 wr => ∃ i : Nat, i ≤ b.lk ∧ s22 = .int .i64 i ∧ Hid (Sps w wr b D (f0 ++ (f1 ++ f2)) f0 f1 f2 b.lb i 0)) (fun _ i _ => b.lk - (intOf i).toNat)
      case atStart => exact ⟨0, Nat.zero_le _, rfl, O7⟩
      case round =>
        clear O7
        obtain ⟨i, hi, rfl, hO⟩ := hrel
        by_cases hlt : i < b.lk
        · have hz : (i : Int) < (b.lk : Int) := by omega
          have hz0 : (0 : Int) ≤ (i : Int) := by omega
          obtain ⟨g, o, nk, fi, ho', ha, hP⟩ := hO.out.el1 hlt hNd.out hlf.out
          have hP' : Hid (SpE w wr b D (f0 ++ (f1 ++ f2)) f0 f1 f2 b.lb (i + 1) 0 g (o + i * 9) nk fi) := hP
          clear hP
          have kk := ih nk wr fi hP'.out.fr hP'.out.nd hP'.out.lt
          obtain ⟨c0, c1, c2, c3, c4, c5, c6, c7, c8⟩ := hP'.out.sp.fields
          obtain ⟨a0, a1, a2, a3, a4, a5, a6, a7, a8⟩ := hO.out.box.fields
          have hbf : wr.cell? ⟨w.heap.size, 7, none⟩ = some (.slice (some ⟨g, o, none⟩) b.lk b.ck) := by rw [← ha]; exact a7
          have wi : IntKind.i64.wrap ((i : Int) + 1) = (i : Int) + 1 := by have := mk.out; rw [IntKind.wrap_i64]; omega
          have hm := mk.out
          clear a0 a1 a2 a3 a4 a5 a6 a7 a8 hO ha ho'
          go_wp2_with (go_at_call 14; refine kk.mono ?_; rintro e w2 ⟨rfl, hk2⟩; have K2 : Hid (Kp (· ∈ fi) wr w2) := hk2; have hbg : w2.cell? ⟨w.heap.size, 7, none⟩ = some (.slice (some ⟨g, o, none⟩) b.lk b.ck) := (hP'.out.boxcell hk2).trans hbf; have y0 := hP'.out.fz hk2 0; have y1 := hP'.out.fz hk2 1; have y2 := hP'.out.fz hk2 2; have y3 := hP'.out.fz hk2 3; have y4 := hP'.out.fz hk2 4; have y5 := hP'.out.fz hk2 5; have y6 := hP'.out.fz hk2 6; have y7 := hP'.out.fz hk2 7; have y8 := hP'.out.fz hk2 8; rw [Nat.add_zero] at y0; obtain ⟨v0, v1, v2, v3, v4, v5, v6, v7, v8⟩ := (hP'.out.spk hk2).fields; clear hk2 kk)
          have R9 : Sps w (((((((((w2.setCell ⟨g, o + i * 9, none⟩ (.int .i64 (-1))).setCell ⟨g, o + i * 9 + 1, none⟩ (.int .u64 0)).setCell ⟨g, o + i * 9 + 2, none⟩ (.bool false)).setCell ⟨g, o + i * 9 + 3, none⟩ (.string ⟨#[]⟩)).setCell ⟨g, o + i * 9 + 4, none⟩ (.int .i64 0)).setCell ⟨g, o + i * 9 + 5, none⟩ (.string ⟨#[]⟩)).setCell ⟨g, o + i * 9 + 6, none⟩ (.slice none 0 0)).setCell ⟨g, o + i * 9 + 7, none⟩ (.slice none 0 0)).setCell ⟨g, o + i * 9 + 8, none⟩ (.slice none 0 0)) b D (f0 ++ (f1 ++ f2)) f0 f1 f2 b.lb (i + 1) 0 := hP'.out.next mN K2.out
          generalize hw3 : (((((((((w2.setCell ⟨g, o + i * 9, none⟩ (.int .i64 (-1))).setCell ⟨g, o + i * 9 + 1, none⟩ (.int .u64 0)).setCell ⟨g, o + i * 9 + 2, none⟩ (.bool false)).setCell ⟨g, o + i * 9 + 3, none⟩ (.string ⟨#[]⟩)).setCell ⟨g, o + i * 9 + 4, none⟩ (.int .i64 0)).setCell ⟨g, o + i * 9 + 5, none⟩ (.string ⟨#[]⟩)).setCell ⟨g, o + i * 9 + 6, none⟩ (.slice none 0 0)).setCell ⟨g, o + i * 9 + 7, none⟩ (.slice none 0 0)).setCell ⟨g, o + i * 9 + 8, none⟩ (.slice none 0 0)) = w3 at R9 ⊢
          clear hw3
          have R9' : Hid (Sps w w3 b D (f0 ++ (f1 ++ f2)) f0 f1 f2 b.lb (i + 1) 0) := R9
          clear R9 c0 c1 c2 c3 c4 c5 c6 c7 c8 v0 v1 v2 v3 v4 v5 v6 v7 v8 y0 y1 y2 y3 y4 y5 y6 y7 y8 hbf hbg
          go_wp2
          go_roundw
          case rel => exact ⟨i + 1, by omega, by go_num, R9'⟩
          case measure => simp [intOf]; omega
        · have hz : ¬ (i : Int) < (b.lk : Int) := by omega
          obtain rfl : i = b.lk := by omega
          have O8 : Hid (Sps w wr b D (f0 ++ (f1 ++ f2)) f0 f1 f2 b.lb b.lk 0) := hO
          obtain ⟨a0, a1, a2, a3, a4, a5, a6, a7, a8⟩ := hO.out.box.fields
          clear hO
          go_wp2
          go_loopw [4, 40] (fun _ s40 wr => ∃ i : Nat, i ≤ b.li ∧ s40 = .int .i64 i ∧ Hid (Sps w wr b D (f0 ++ (f1 ++ f2)) f0 f1 f2 b.lb b.lk i)) (fun _ i _ => b.li - (intOf i).toNat)
          case atStart => exact ⟨0, Nat.zero_le _, rfl, O8⟩
          case round =>
            clear O8
            obtain ⟨i, hi, rfl, hO⟩ := hrel
            by_cases hlt : i < b.li
            · have hz : (i : Int) < (b.li : Int) := by omega
              have hz0 : (0 : Int) ≤ (i : Int) := by omega
              obtain ⟨g, o, nk, fi, ho', ha, hP⟩ := hO.out.el2 hlt hNd.out hlf.out
              have hP' : Hid (SpE w wr b D (f0 ++ (f1 ++ f2)) f0 f1 f2 b.lb b.lk (i + 1) g (o + i * 9) nk fi) := hP
              clear hP
              have kk := ih nk wr fi hP'.out.fr hP'.out.nd hP'.out.lt
              obtain ⟨c0, c1, c2, c3, c4, c5, c6, c7, c8⟩ := hP'.out.sp.fields
              obtain ⟨a0, a1, a2, a3, a4, a5, a6, a7, a8⟩ := hO.out.box.fields
              have hbf : wr.cell? ⟨w.heap.size, 8, none⟩ = some (.slice (some ⟨g, o, none⟩) b.li b.ci) := by rw [← ha]; exact a8
              have wi : IntKind.i64.wrap ((i : Int) + 1) = (i : Int) + 1 := by have := mi.out; rw [IntKind.wrap_i64]; omega
              have hm := mi.out
              clear a0 a1 a2 a3 a4 a5 a6 a7 a8 hO ha ho'
              go_wp2_with (go_at_call 14; refine kk.mono ?_; rintro e w2 ⟨rfl, hk2⟩; have K2 : Hid (Kp (· ∈ fi) wr w2) := hk2; have hbg : w2.cell? ⟨w.heap.size, 8, none⟩ = some (.slice (some ⟨g, o, none⟩) b.li b.ci) := (hP'.out.boxcell hk2).trans hbf; have y0 := hP'.out.fz hk2 0; have y1 := hP'.out.fz hk2 1; have y2 := hP'.out.fz hk2 2; have y3 := hP'.out.fz hk2 3; have y4 := hP'.out.fz hk2 4; have y5 := hP'.out.fz hk2 5; have y6 := hP'.out.fz hk2 6; have y7 := hP'.out.fz hk2 7; have y8 := hP'.out.fz hk2 8; rw [Nat.add_zero] at y0; obtain ⟨v0, v1, v2, v3, v4, v5, v6, v7, v8⟩ := (hP'.out.spk hk2).fields; clear hk2 kk)
              have R9 : Sps w (((((((((w2.setCell ⟨g, o + i * 9, none⟩ (.int .i64 (-1))).setCell ⟨g, o + i * 9 + 1, none⟩ (.int .u64 0)).setCell ⟨g, o + i * 9 + 2, none⟩ (.bool false)).setCell ⟨g, o + i * 9 + 3, none⟩ (.string ⟨#[]⟩)).setCell ⟨g, o + i * 9 + 4, none⟩ (.int .i64 0)).setCell ⟨g, o + i * 9 + 5, none⟩ (.string ⟨#[]⟩)).setCell ⟨g, o + i * 9 + 6, none⟩ (.slice none 0 0)).setCell ⟨g, o + i * 9 + 7, none⟩ (.slice none 0 0)).setCell ⟨g, o + i * 9 + 8, none⟩ (.slice none 0 0)) b D (f0 ++ (f1 ++ f2)) f0 f1 f2 b.lb b.lk (i + 1) := hP'.out.next mN K2.out
              generalize hw3 : (((((((((w2.setCell ⟨g, o + i * 9, none⟩ (.int .i64 (-1))).setCell ⟨g, o + i * 9 + 1, none⟩ (.int .u64 0)).setCell ⟨g, o + i * 9 + 2, none⟩ (.bool false)).setCell ⟨g, o + i * 9 + 3, none⟩ (.string ⟨#[]⟩)).setCell ⟨g, o + i * 9 + 4, none⟩ (.int .i64 0)).setCell ⟨g, o + i * 9 + 5, none⟩ (.string ⟨#[]⟩)).setCell ⟨g, o + i * 9 + 6, none⟩ (.slice none 0 0)).setCell ⟨g, o + i * 9 + 7, none⟩ (.slice none 0 0)).setCell ⟨g, o + i * 9 + 8, none⟩ (.slice none 0 0)) = w3 at R9 ⊢
              clear hw3
              have R9' : Hid (Sps w w3 b D (f0 ++ (f1 ++ f2)) f0 f1 f2 b.lb b.lk (i + 1)) := R9
              clear R9 c0 c1 c2 c3 c4 c5 c6 c7 c8 v0 v1 v2 v3 v4 v5 v6 v7 v8 y0 y1 y2 y3 y4 y5 y6 y7 y8 hbf hbg
              go_wp2
              go_roundw
              case rel => exact ⟨i + 1, by omega, by go_num, R9'⟩
              case measure => simp [intOf]; omega
            · have hz : ¬ (i : Int) < (b.li : Int) := by omega
              obtain rfl : i = b.li := by omega
              have O9 : Hid (Sps w wr b D (f0 ++ (f1 ++ f2)) f0 f1 f2 b.lb b.lk b.li) := hO
              obtain ⟨a0, a1, a2, a3, a4, a5, a6, a7, a8⟩ := hO.out.box.fields
              clear hO
              go_wp2
              refine bodyPost_end (results_none rfl _ _ _) rfl ⟨rfl, O9.out.kp.iff2 fun k hk => by simpa using hk⟩
theorem spoil_all : ∀ D, SpAt D := by
  intro D
  induction D with
  | zero => intro b w f h; exact absurd h id
  | succ D ih => exact spoil_step ih
end Go.Proofs.Ytkealjaealeojab
