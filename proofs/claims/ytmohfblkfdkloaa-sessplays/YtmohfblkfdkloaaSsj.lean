/-
  Hear, Close, Tick, New.
-/
import Derived.Test.YtmohfblkfdkloaaSsi
namespace Go.Proofs.Ytmohfblkfdkloaa
open Go.RowKit
set_option linter.unusedVariables false
/-- WHAT HELLO ANSWERS. -/
def helM (T : Tb) (m : Mg) (d : Int) : Mg := if greE T m d = 0 then ⟨4, (greS T m d).t, (greS T m d).e, 0, 0, 0, 0, (greS T m d).f, none, 0, 0⟩ else ⟨5, m.t, 0, 0, 0, 0, 0, 0, none, 0, 0⟩
def Mg.val (m : Mg) : Value := .agg #[.int .i64 m.k, .int .u64 m.t, .int .i64 m.e, .int .i64 m.s, .int .i64 m.a, .int .u64 m.b, .int .i64 m.c, .int .i64 m.f, .slice m.la m.ln m.lc]
theorem hello_any {w : World} {C : Nat → Prop} {tb mb k : Nat} {v : Value} {T : Tb} (m : Mg) (d now : Int) (h : Tab w C tb mb v T) (hO : Ok k T) (hk : k < 70368744177664) (hC : ∀ k, w.heap.size ≤ k → C k) (hd : 0 ≤ d ∧ d < 18446744073709551616) :
    Calls Try.prog 12 #[.pointer (some ⟨tb, 0, none⟩), m.val, .int .u64 d, .int .i64 now] w fun e w' => e = .returned (.tuple #[(helM (goA T now) m d).val, .int .i64 (greE (goA T now) m d)]) ∧ ∃ v2, Hid (Tab w' C tb mb v2 (greA (goA T now) m d)) ∧ Hid (KS C w w') := by
  by_cases he : greE (goA T now) m d = 0
  · unfold helM
    rw [if_pos he]
    refine (hello_good m d now h hO hk hC hd he).mono ?_
    rintro e w' ⟨rfl, r⟩
    exact ⟨by rw [he]; rfl, r⟩
  · unfold helM
    rw [if_neg he]
    exact hello_bad m d now h hO hk hC hd he
theorem new_yes (most idle : Int) (w : World) (h1 : 1 ≤ most) (h2 : most ≤ 64) (h3 : 1 ≤ idle) (h4 : idle ≤ 1048576) :
    Calls Try.prog 9 #[.int .i64 most, .int .i64 idle] w fun e w' => e = .returned (.tuple #[.pointer (some ⟨w.heap.size + 1, 0, none⟩), .int .i64 0]) ∧ Hid (Tab w' (fun q => w.heap.size ≤ q) (w.heap.size + 1) w.heap.size (.slice none 0 0) ⟨most, idle, 0, [], fun _ => false, 0⟩) ∧ Hid (Below w.heap.size w w') := by
  have d0 : decide (most < 1) = false := by simp; omega
  have d1 : decide (most > 64) = false := by simp; omega
  have d2 : decide (idle < 1) = false := by simp; omega
  have d3 : decide (idle > 1048576) = false := by simp; omega
  have hmk := run_makeMap (P := Try.prog) 61 w
  clear h1 h2 h3 h4
  go_enter Try.func9, Try.ntmps9
  go_wp2
  go_ret2
  refine ⟨rfl, ?_, ?_⟩
  · refine ⟨?_, World.ownsRow_nil _ _ 67 4, (fun g hg => by simp [Value.ownBlock] at hg), (by omega), (by omega), ?_⟩
    · have e := blk_new (w.alloc (.map #[] 0)) #[.bool true, .int .i64 most, .int .i64 idle, .int .i64 0, .slice none 0 0, .map (some w.heap.size)] 63
      rw [show (w.alloc (.map #[] 0)).heap.size = w.heap.size + 1 by simp] at e
      exact e
    · exact (mapU_new w).kept ((Below.refl _ _).alloc (Nat.le_refl _) _)
  · exact ((Below.refl _ _).alloc (Nat.le_refl _) _).alloc (by simp) _
theorem new_ok {most idle : Int} (h1 : 1 ≤ most) (h2 : most ≤ 64) (h3 : 1 ≤ idle) (h4 : idle ≤ 1048576) : Ok 0 ⟨most, idle, 0, [], fun _ => false, 0⟩ :=
  ⟨h1, h2, h3, h4, Int.le_refl _, by show (0 : Int) ≤ _; omega, by show (0 : Int) ≤ most; omega, (fun s hs => by cases hs), List.nodup_nil, Nat.le_refl _⟩
theorem new_no (most idle : Int) (w : World) (h : most < 1 ∨ 64 < most ∨ idle < 1 ∨ 1048576 < idle) :
    Calls Try.prog 9 #[.int .i64 most, .int .i64 idle] w fun e w' => e = .returned (.tuple #[.pointer none, .int .i64 1]) ∧ w' = w := by
  by_cases h0 : most < 1
  · have d0 : decide (most < 1) = true := by simp; omega
    clear h h0
    go_enter Try.func9, Try.ntmps9
    go_wp2
    go_ret2
    all_goals simp_all
  · have d0 : decide (most < 1) = false := by simp; omega
    by_cases h1 : 64 < most
    · have d1 : decide (most > 64) = true := by simp; omega
      clear h h0 h1
      go_enter Try.func9, Try.ntmps9
      go_wp2
      go_ret2
      all_goals simp_all
    · have d1 : decide (most > 64) = false := by simp; omega
      by_cases h2 : idle < 1
      · have d2 : decide (idle < 1) = true := by simp; omega
        clear h h0 h1 h2
        go_enter Try.func9, Try.ntmps9
        go_wp2
        go_ret2
        all_goals simp_all
      · have d2 : decide (idle < 1) = false := by simp; omega
        have d3 : decide (idle > 1048576) = true := by simp; omega
        clear h h0 h1 h2
        go_enter Try.func9, Try.ntmps9
        go_wp2
        go_ret2
        all_goals simp_all
set_option maxHeartbeats 1000000 in
theorem tick_any {w : World} {C : Nat → Prop} {tb mb k : Nat} {v : Value} {T : Tb} (now : Int) (h : Tab w C tb mb v T) (hO : Ok k T) (hC : ∀ k, w.heap.size ≤ k → C k) :
    Calls Try.prog 20 #[.pointer (some ⟨tb, 0, none⟩), .int .i64 now] w fun e w' => ∃ v1, e = .returned v1 ∧ Hid (OwnsW w' w.heap.size v1 (endA T now)) ∧ ∃ v2, Hid (Tab w' C tb mb v2 (goA T now)) ∧ Hid (KS C w w') := by
  have k0 := made_yes tb _ h.c0
  have k1 := goon_any now h hO hC
  have hct : Hid (C tb) := h.ct
  clear h hO hC
  go_enter Try.func20, Try.ntmps20
  go_wp2_with (first | (go_at_call 30; refine k0.mono ?_; rintro e w0 ⟨rfl, hw0⟩; obtain rfl := hw0.symm; clear k0) | (go_at_call 31; refine k1.mono ?_; rintro e w1 ⟨v1, v2, rfl, hW, hT, hK⟩; clear k1))
  go_ret
  exact ⟨v1, rfl, hW, v2, hT, hK.out.mono (fun q _ e => by rw [e]; exact hct.out)⟩
theorem tick_nil (now : Int) (w : World) : Calls Try.prog 20 #[.pointer none, .int .i64 now] w fun e w' => e = .returned (.slice none 0 0) ∧ w' = w := by
  have k0 := made_nil w
  go_enter Try.func20, Try.ntmps20
  go_wp2_with (go_at_call 30; refine k0.mono ?_; rintro e w0 ⟨rfl, hw0⟩; obtain rfl := hw0.symm)
  go_ret
  all_goals simp_all
theorem close_nil (t now : Int) (w : World) : Calls Try.prog 17 #[.pointer none, .int .u64 t, .int .i64 now] w fun e w' => e = .returned (.int .i64 2) ∧ w' = w := by
  have k0 := made_nil w
  go_enter Try.func17, Try.ntmps17
  go_wp2_with (go_at_call 30; refine k0.mono ?_; rintro e w0 ⟨rfl, hw0⟩; obtain rfl := hw0.symm)
  go_ret
  all_goals simp_all
theorem tick_no (tb : Nat) (now : Int) (w : World) (h : w.cell? ⟨tb, 0, none⟩ = some (.bool false)) : Calls Try.prog 20 #[.pointer (some ⟨tb, 0, none⟩), .int .i64 now] w fun e w' => e = .returned (.slice none 0 0) ∧ w' = w := by
  have k0 := made_no tb w h
  go_enter Try.func20, Try.ntmps20
  go_wp2_with (go_at_call 30; refine k0.mono ?_; rintro e w0 ⟨rfl, hw0⟩; obtain rfl := hw0.symm)
  go_ret
  all_goals simp_all
theorem close_no (tb : Nat) (t now : Int) (w : World) (h : w.cell? ⟨tb, 0, none⟩ = some (.bool false)) : Calls Try.prog 17 #[.pointer (some ⟨tb, 0, none⟩), .int .u64 t, .int .i64 now] w fun e w' => e = .returned (.int .i64 2) ∧ w' = w := by
  have k0 := made_no tb w h
  go_enter Try.func17, Try.ntmps17
  go_wp2_with (go_at_call 30; refine k0.mono ?_; rintro e w0 ⟨rfl, hw0⟩; obtain rfl := hw0.symm)
  go_ret
  all_goals simp_all
def cloE (T : Tb) (t : Int) : Int := if (fiA T.L t).isSome then 0 else 15
set_option maxHeartbeats 1000000 in
theorem close_any {w : World} {C : Nat → Prop} {tb mb k : Nat} {v : Value} {T : Tb} (t now : Int) (h : Tab w C tb mb v T) (hO : Ok k T) (hC : ∀ k, w.heap.size ≤ k → C k) :
    Calls Try.prog 17 #[.pointer (some ⟨tb, 0, none⟩), .int .u64 t, .int .i64 now] w fun e w' => e = .returned (.int .i64 (cloE (goA T now) t)) ∧ ∃ v2, Hid (Tab w' C tb mb v2 (remA (goA T now) t)) ∧ Hid (KS C w w') := by
  have k0 := made_yes tb _ h.c0
  have k1 := goon_any now h hO hC
  have hct : Hid (C tb) := h.ct
  have hO1 : Hid (Ok k (goA T now)) := go_ok hO now
  have hCC : Hid (∀ k, w.heap.size ≤ k → C k) := hC
  clear h hO hC
  cases hf : (fiA (goA T now).L t).isSome with
  | true =>
    have e1 : cloE (goA T now) t = 0 := by unfold cloE; rw [hf]; rfl
    rw [e1]
    go_enter Try.func17, Try.ntmps17
    go_wp2_with (first | (go_at_call 30; refine k0.mono ?_; rintro e w0 ⟨rfl, hw0⟩; obtain rfl := hw0.symm; clear k0) | (go_at_call 31; refine k1.mono ?_; rintro e w1 ⟨v1, v2, rfl, hW, hT, hK⟩; clear k1 hW) | (go_at_call 33; refine (remove_any t hT.out hO1.out (fun q hq => hCC.out q (Nat.le_trans hK.out.size hq))).mono ?_; rintro e w2 ⟨v3, rfl, hT2, hK2⟩; rw [hf]))
    go_ret
    exact ⟨rfl, v3, hT2, (hK.out.trans hK2.out).mono (fun q _ e => by rw [e]; exact hct.out)⟩
  | false =>
    have e1 : cloE (goA T now) t = 15 := by unfold cloE; rw [hf]; rfl
    rw [e1]
    go_enter Try.func17, Try.ntmps17
    go_wp2_with (first | (go_at_call 30; refine k0.mono ?_; rintro e w0 ⟨rfl, hw0⟩; obtain rfl := hw0.symm; clear k0) | (go_at_call 31; refine k1.mono ?_; rintro e w1 ⟨v1, v2, rfl, hW, hT, hK⟩; clear k1 hW) | (go_at_call 33; refine (remove_any t hT.out hO1.out (fun q hq => hCC.out q (Nat.le_trans hK.out.size hq))).mono ?_; rintro e w2 ⟨v3, rfl, hT2, hK2⟩; rw [hf]))
    go_ret
    exact ⟨rfl, v3, hT2, (hK.out.trans hK2.out).mono (fun q _ e => by rw [e]; exact hct.out)⟩
end Go.Proofs.Ytmohfblkfdkloaa
