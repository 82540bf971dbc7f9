/-
  A small tree: small; and that the program is alive at it: alive.
  The small tree, made: small.
-/
import Derived.Test.YtkealjaealeojabQChc
import Derived.Test.YtkealjaealeojabQGd
import Derived.Test.YtkealjaealeojabQGsa
namespace Go.Proofs.Ytkealjaealeojab
open Go.RowKit
set_option linter.unusedVariables false

def oneT : Tr := ⟨2, 0, false, ⟨#[49]⟩, 0, ⟨#[]⟩, [], [], []⟩
def keyT : Tr := ⟨5, 0, false, ⟨#[]⟩, 0, ⟨#[97]⟩, [], [], []⟩
def arrT : Tr := ⟨7, 0, false, ⟨#[]⟩, 0, ⟨#[]⟩, [], [], [oneT]⟩
/-- A map with an array in it. -/
def smT : Tr := ⟨8, 0, false, ⟨#[]⟩, 0, ⟨#[]⟩, [], [keyT], [arrT]⟩
theorem sm_size : smT.size = 4 := by simp [smT, arrT, keyT, oneT, Tr.size_eq, Tr.sizes]
theorem sm_deep : smT.deep = 3 := by simp [smT, arrT, keyT, oneT, Tr.deep_eq, Tr.deeps, Tr.mx]
theorem sm_find : smT.find [1, 0] = some oneT := by
  rw [Tr.find_some (t := smT) (u := arrT) (i := 0) (b := false) (by decide) rfl, Tr.find_some (t := arrT) (u := oneT) (i := 0) (b := false) (by decide) rfl]
  rfl
theorem al_one : alF oneT = 0 := by decide
theorem al_key : alF keyT = 0 := by decide
theorem al_arr : alF arrT = 0 := by decide
theorem al_sm : alF smT = 0 := by decide
theorem sm_forms : smT.forms alF = 0 := by
  have h1 : oneT.forms alF = 0 := by rw [Tr.forms_eq, al_one]; rfl
  have h2 : keyT.forms alF = 0 := by rw [Tr.forms_eq, al_key]; rfl
  have h3 : arrT.forms alF = 0 := by rw [Tr.forms_eq, al_arr]; show Tr.firstE [0, oneT.forms alF] = 0; rw [h1]; rfl
  rw [Tr.forms_eq, al_sm]
  show Tr.firstE [0, keyT.forms alF, arrT.forms alF] = 0
  rw [h2, h3]
  rfl
theorem sm_all : smT.All (fun u => u.keys.Nodup) := by
  have h1 : oneT.All (fun u => u.keys.Nodup) := (Tr.all_eq _ _).2 ⟨by simp [oneT], by simp [oneT], by simp [oneT]⟩
  have h2 : keyT.All (fun u => u.keys.Nodup) := (Tr.all_eq _ _).2 ⟨by simp [keyT], by simp [keyT], by simp [keyT]⟩
  have h3 : arrT.All (fun u => u.keys.Nodup) := (Tr.all_eq _ _).2 ⟨by simp [arrT], by simp [arrT], by intro k hk; rw [List.mem_singleton.1 hk]; exact h1⟩
  exact (Tr.all_eq _ _).2 ⟨by simp [smT], by intro k hk; rw [List.mem_singleton.1 hk]; exact h2, by intro k hk; rw [List.mem_singleton.1 hk]; exact h3⟩
theorem sm_chk {er : Int} (h : Tr.ChkIs alF smT er) : er = 0 :=
  Tr.chk_one h (.inr (.inr (.inr (.inr ⟨by rw [sm_size]; decide, by rw [sm_deep]; decide, sm_forms, sm_all, rfl⟩))))
end Go.Proofs.Ytkealjaealeojab
namespace Go.Proofs.Ytkealjaealeojab
open Go.RowKit
set_option linter.unusedVariables false

theorem row_one {Q : Nb → Tr → Prop} {w : World} {g : Nat} {nb : Nb} {t : Tr} (h : NBox w g nb) (hq : Q nb t) : RowN Q w (some ⟨g, 0, none⟩) 1 1 [t] := by
  refine ⟨rfl, ⟨Nat.le_refl _, by decide, (fun h => by cases h), by decide⟩, .inr ⟨g, 0, rfl, fun i hi => ⟨nb, fun j hj => ?_, ?_⟩⟩⟩
  · have e : i = 0 := by simp at hi; omega
    subst e
    rw [Nat.zero_add, Nat.zero_mul, Nat.zero_add]
    exact h.cell j
  · have e : i = 0 := by simp at hi; omega
    subst e
    exact hq
def oneB : Nb := ⟨2, 0, false, ⟨#[49]⟩, 0, ⟨#[]⟩, none, 0, 0, none, 0, 0, none, 0, 0⟩
def keyB : Nb := ⟨5, 0, false, ⟨#[]⟩, 0, ⟨#[97]⟩, none, 0, 0, none, 0, 0, none, 0, 0⟩
def arrB (g : Nat) : Nb := ⟨7, 0, false, ⟨#[]⟩, 0, ⟨#[]⟩, none, 0, 0, none, 0, 0, some ⟨g, 0, none⟩, 1, 1⟩
def smB (g h : Nat) : Nb := ⟨8, 0, false, ⟨#[]⟩, 0, ⟨#[]⟩, none, 0, 0, some ⟨g, 0, none⟩, 1, 1, some ⟨h, 0, none⟩, 1, 1⟩
theorem sm_nd {w : World} {g1 g2 g3 : Nat} (h1 : NBox w g1 keyB) (h2 : NBox w g2 oneB) (h3 : NBox w g3 (arrB g2)) : Nd 3 w (smB g1 g3) smT := by
  have n1 : Nd 1 w oneB oneT := ⟨⟨rfl, rfl, rfl, rfl, rfl, rfl⟩, ⟨by decide, by decide, by decide, by decide, by decide⟩, ⟨rfl, room_nil _, bytes_nil w⟩, rowN_nil _ _, rowN_nil _ _⟩
  have n2 : Nd 1 w keyB keyT := ⟨⟨rfl, rfl, rfl, rfl, rfl, rfl⟩, ⟨by decide, by decide, by decide, by decide, by decide⟩, ⟨rfl, room_nil _, bytes_nil w⟩, rowN_nil _ _, rowN_nil _ _⟩
  have n3 : Nd 2 w (arrB g2) arrT := ⟨⟨rfl, rfl, rfl, rfl, rfl, rfl⟩, ⟨by decide, by decide, by decide, by decide, by decide⟩, ⟨rfl, room_nil _, bytes_nil w⟩, rowN_nil _ _, row_one h2 n1⟩
  exact ⟨⟨rfl, rfl, rfl, rfl, rfl, rfl⟩, ⟨by decide, by decide, by decide, by decide, by decide⟩, ⟨rfl, room_nil _, bytes_nil w⟩, row_one h1 (n2.le (show 1 ≤ 2 by omega)), row_one h3 n3⟩
set_option maxHeartbeats 1000000 in
theorem small_any (w : World) : Calls Try.prog 25 #[] w fun e w' => (∃ b, e = .returned (.agg b.arr) ∧ Nd 3 w' b smT) ∧ Below w.heap.size w w' := by
  go_enter Try.func25, Try.ntmps25
  go_wp2
  have z1 : (w.alloc (.cells (smB (w.heap.size + 1 + 1) (w.heap.size + 1 + 1 + 1 + 1)).arr 26)).heap.size = w.heap.size + 1 := by simp
  have z2 : ((w.alloc (.cells (smB (w.heap.size + 1 + 1) (w.heap.size + 1 + 1 + 1 + 1)).arr 26)).alloc (.cells oneB.arr 26)).heap.size = w.heap.size + 1 + 1 := by simp
  have z3 : (((w.alloc (.cells (smB (w.heap.size + 1 + 1) (w.heap.size + 1 + 1 + 1 + 1)).arr 26)).alloc (.cells oneB.arr 26)).alloc (.cells keyB.arr 26)).heap.size = w.heap.size + 1 + 1 + 1 := by simp
  have z4 : ((((w.alloc (.cells (smB (w.heap.size + 1 + 1) (w.heap.size + 1 + 1 + 1 + 1)).arr 26)).alloc (.cells oneB.arr 26)).alloc (.cells keyB.arr 26)).alloc (.cells oneB.arr 26)).heap.size = w.heap.size + 1 + 1 + 1 + 1 := by simp
  have n3 := nbox_new ((w.alloc (.cells (smB (w.heap.size + 1 + 1) (w.heap.size + 1 + 1 + 1 + 1)).arr 26)).alloc (.cells oneB.arr 26)) keyB
  have n4 := nbox_new (((w.alloc (.cells (smB (w.heap.size + 1 + 1) (w.heap.size + 1 + 1 + 1 + 1)).arr 26)).alloc (.cells oneB.arr 26)).alloc (.cells keyB.arr 26)) oneB
  have n5 := nbox_new ((((w.alloc (.cells (smB (w.heap.size + 1 + 1) (w.heap.size + 1 + 1 + 1 + 1)).arr 26)).alloc (.cells oneB.arr 26)).alloc (.cells keyB.arr 26)).alloc (.cells oneB.arr 26)) (arrB (w.heap.size + 1 + 1 + 1))
  have b1 := alloc_below w (.cells (smB (w.heap.size + 1 + 1) (w.heap.size + 1 + 1 + 1 + 1)).arr 26)
  have b2 := alloc_below (w.alloc (.cells (smB (w.heap.size + 1 + 1) (w.heap.size + 1 + 1 + 1 + 1)).arr 26)) (.cells oneB.arr 26)
  have b3 := alloc_below ((w.alloc (.cells (smB (w.heap.size + 1 + 1) (w.heap.size + 1 + 1 + 1 + 1)).arr 26)).alloc (.cells oneB.arr 26)) (.cells keyB.arr 26)
  have b4 := alloc_below (((w.alloc (.cells (smB (w.heap.size + 1 + 1) (w.heap.size + 1 + 1 + 1 + 1)).arr 26)).alloc (.cells oneB.arr 26)).alloc (.cells keyB.arr 26)) (.cells oneB.arr 26)
  have b5 := alloc_below ((((w.alloc (.cells (smB (w.heap.size + 1 + 1) (w.heap.size + 1 + 1 + 1 + 1)).arr 26)).alloc (.cells oneB.arr 26)).alloc (.cells keyB.arr 26)).alloc (.cells oneB.arr 26)) (.cells (arrB (w.heap.size + 1 + 1 + 1)).arr 26)
  rw [z2] at n3
  rw [z3] at n4
  rw [z4] at n5
  have hN := sm_nd ((n3.kept b4 (by omega)).kept b5 (by omega)) (n4.kept b5 (by omega)) n5
  refine bodyPost_ret (v := .agg #[.int .i64 8, .int .u64 0, .bool false, .string ⟨#[]⟩, .int .i64 0, .string ⟨#[]⟩, .slice none 0 0, .slice (some ⟨w.heap.size + 1 + 1, 0, none⟩) 1 1, .slice (some ⟨w.heap.size + 1 + 1 + 1 + 1, 0, none⟩) 1 1]) (by simp [results, Try.results25, go_sem]) rfl ⟨⟨smB (w.heap.size + 1 + 1) (w.heap.size + 1 + 1 + 1 + 1), rfl, hN⟩, ?_⟩
  exact (((b1.trans (b2.mono (by omega))).trans (b3.mono (by omega))).trans (b4.mono (by omega))).trans (b5.mono (by omega))

theorem two_ints (w : World) : PathOk (w.alloc (.cells #[.int .i64 1, .int .i64 0] 3)) (some ⟨w.heap.size, 0, none⟩) 2 2 [1, 0] := by
  refine ⟨rfl, ⟨by decide, .inr ⟨w.heap.size, 0, rfl, fun i hi => ?_⟩⟩, Nat.le_refl _, fun k hk => ?_, by omega⟩
  · rw [Nat.zero_add, World.cell?_alloc_mark]
    match i, hi with
    | 0, _ => rfl
    | 1, _ => rfl
  · rcases List.mem_cons.1 hk with rfl | hk
    · omega
    · rw [List.mem_singleton.1 hk]; omega
theorem str_one : ((⟨#[49]⟩ : ByteArray).toList == [49]) = true := by rw [ByteArray.toList_eq]; rfl

theorem dig_one {s : ByteArray} (h : s = ⟨#[49]⟩) : (s.toList == [49]) = true := by rw [h]; exact str_one
set_option maxHeartbeats 4000000 in
set_option maxRecDepth 100000 in
/-- THE PROGRAM IS ALIVE. -/
theorem alive_any (w : World) : Calls Try.prog 9 #[] w fun e w' => e = .returned (.bool true) ∧ Below w.heap.size w w' := by
  have k0 := small_any w
  have kS : Hid (∀ w', Calls Try.prog 25 #[] w' _) := fun w' => small_any w'
  have kA : Hid (∀ (w1 : World) (b : Nb), Nd 3 w1 b smT → Calls Try.prog 5 #[.agg b.arr, .slice (some ⟨w1.heap.size, 0, none⟩) 2 2] (w1.alloc (.cells #[.int .i64 1, .int .i64 0] 3)) fun e w' => (∃ b' : Nb, e = .returned (.tuple #[.agg b'.arr, .int .i64 0]) ∧ b'.dig = ⟨#[49]⟩) ∧ Below (w1.alloc (.cells #[.int .i64 1, .int .i64 0] 3)).heap.size (w1.alloc (.cells #[.int .i64 1, .int .i64 0] 3)) w') := fun w1 b hN => by
    refine (gat_any (hN.kept (alloc_below w1 _)) (two_ints w1)).mono ?_
    rintro e w' ⟨⟨b', er, he, hA⟩, hb⟩
    refine ⟨?_, hb⟩
    rcases hA with ⟨h, _⟩ | ⟨_, h, _⟩ | ⟨_, rfl, u, f, hu, hF⟩
    · rw [sm_size] at h; omega
    · rw [sm_find] at h; cases h
    · rw [sm_find] at hu
      cases hu
      exact ⟨b', he, hF.1.1.2.2.2.1⟩
  have kC : Hid (∀ (w1 : World) (b : Nb), Nd 3 w1 b smT → Calls Try.prog 6 #[.agg b.arr] w1 fun e w' => e = .returned (.int .i64 0) ∧ Below w1.heap.size w1 w') := fun w1 b hN => (gcheck_any hN).mono fun e w' ⟨⟨er, he, hC⟩, hb⟩ => ⟨by rw [he, sm_chk hC], hb⟩
  have hm : smT.mes = (4, 3) := by unfold Tr.mes; rw [sm_size, sm_deep]; rfl
  have kZ : Hid (∀ (w1 : World) (b : Nb), Nd 3 w1 b smT → Calls Try.prog 7 #[.agg b.arr] w1 fun e w' => e = .returned (.int .i64 4) ∧ Below w1.heap.size w1 w') := fun w1 b hN => by have := size_any hN; rw [hm] at this; exact this
  have kD : Hid (∀ (w1 : World) (b : Nb), Nd 3 w1 b smT → Calls Try.prog 8 #[.agg b.arr] w1 fun e w' => e = .returned (.int .i64 3) ∧ Below w1.heap.size w1 w') := fun w1 b hN => by have := gdeep_any hN; rw [hm] at this; exact this
  have kE : Hid (∀ (w1 : World) (b c : Nb), Nd 3 w1 b smT → Nd 3 w1 c smT → Calls Try.prog 26 #[.agg b.arr, .agg c.arr] w1 fun e w' => e = .returned (.bool true) ∧ Below w1.heap.size w1 w') := fun w1 b c hN hM => gsame_any hN hM (by rw [sm_size]; simp)
  clear hm
  go_enter Try.func9, Try.ntmps9
  go_wp2_with (first
    | (go_at_call 25; refine k0.mono ?_; rintro e w1 ⟨⟨b1, he, hN1⟩, hb1⟩; subst he; clear k0; have k1 := kA.out w1 b1 hN1; have Bw : Hid (Below w.heap.size w (w1.alloc (.cells #[.int .i64 1, .int .i64 0] 3))) := hb1.trans ((alloc_below w1 _).mono hb1.size))
    | (go_at_call 5; refine k1.mono ?_; rintro e w2 ⟨⟨b2, he, hd2⟩, hb2⟩; rw [Nb.arr] at he; subst he; clear k1; have B2 : Hid (Below w.heap.size w (w2.alloc (.cells b2.arr 26))) := (Bw.out.trans (hb2.mono Bw.out.size)).trans ((alloc_below w2 _).mono (Nat.le_trans Bw.out.size hb2.size)); have k2 := kS.out (w2.alloc (.cells b2.arr 26)); have hs2 := dig_one hd2; clear hd2; obtain ⟨a0, a1, a2, a3, a4, a5, a6, a7, a8⟩ := (nbox_new w2 b2).fields)
    | (go_at_call 25; refine k2.mono ?_; rintro e w3 ⟨⟨b3, he, hN3⟩, hb3⟩; subst he; clear k2; have B3 : Hid (Below w.heap.size w w3) := B2.out.trans (hb3.mono B2.out.size); have k3 := kC.out w3 b3 hN3)
    | (go_at_call 6; refine k3.mono ?_; rintro e w4 ⟨rfl, hb4⟩; clear k3; have B4 : Hid (Below w.heap.size w w4) := B3.out.trans (hb4.mono B3.out.size); have k4 := kS.out w4)
    | (go_at_call 25; refine k4.mono ?_; rintro e w5 ⟨⟨b5, he, hN5⟩, hb5⟩; subst he; clear k4; have B5 : Hid (Below w.heap.size w w5) := B4.out.trans (hb5.mono B4.out.size); have k5 := kZ.out w5 b5 hN5)
    | (go_at_call 7; refine k5.mono ?_; rintro e w6 ⟨rfl, hb6⟩; clear k5; have B6 : Hid (Below w.heap.size w w6) := B5.out.trans (hb6.mono B5.out.size); have k6 := kS.out w6)
    | (go_at_call 25; refine k6.mono ?_; rintro e w7 ⟨⟨b7, he, hN7⟩, hb7⟩; subst he; clear k6; have B7 : Hid (Below w.heap.size w w7) := B6.out.trans (hb7.mono B6.out.size); have k7 := kD.out w7 b7 hN7)
    | (go_at_call 8; refine k7.mono ?_; rintro e w8 ⟨rfl, hb8⟩; clear k7; have B8 : Hid (Below w.heap.size w w8) := B7.out.trans (hb8.mono B7.out.size); have k8 := kS.out w8)
    | (go_at_call 25; refine k8.mono ?_; rintro e w9 ⟨⟨b9, he, hN9⟩, hb9⟩; subst he; clear k8; have B9 : Hid (Below w.heap.size w w9) := B8.out.trans (hb9.mono B8.out.size); have k9 := kS.out w9)
    | (go_at_call 25; refine k9.mono ?_; rintro e w10 ⟨⟨b10, he, hN10⟩, hb10⟩; subst he; clear k9; have B10 : Hid (Below w.heap.size w w10) := B9.out.trans (hb10.mono B9.out.size); have k10 := kE.out w10 b9 b10 (hN9.kept hb10) hN10)
    | (go_at_call 26; refine k10.mono ?_; rintro e w11 ⟨rfl, hb11⟩))
  go_ret
  exact ⟨rfl, B10.out.trans (hb11.mono B10.out.size)⟩
end Go.Proofs.Ytkealjaealeojab
