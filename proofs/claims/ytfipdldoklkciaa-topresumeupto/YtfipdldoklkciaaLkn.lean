/-
  A load polled; a link begun anew.
-/
import Derived.Test.YtfipdldoklkciaaLkk
import Derived.Test.YtfipdldoklkciaaLkm
namespace Go.Proofs.Ytfipdldoklkciaa
open Go.RowKit
set_option linter.unusedVariables false
def PlR (w w' : World) (L : Lk) (e : Ending) : Prop := ∃ a n c, e = .returned (.tuple #[.slice a n c, .bool (L.r.L (L.r.tk + 1)).isSome]) ∧ Hid (Sl w' w.heap.size a n c ((L.r.L (L.r.tk + 1)).getD []))
theorem poll_any {w : World} {B : Nat} {q : Qb} {L : Lk} (h : Lm w B q L) (ht : L.r.tk < 4611686018427387904) :
    Calls Try.prog 29 #[.pointer (some ⟨q.lb, 0, none⟩)] w fun e w' => Hid (PlR w w' L e) ∧ Hid (Lm w' B q { L with r := takeS L.r }) ∧ Hid (K4 q w w') := by
  have k0 := kmade h
  have c5 := h.cell.2.2.2.2.2
  have hL : Hid (Lm w B q L) := h
  cases hx : L.r.L (L.r.tk + 1) with
  | none =>
    have k1 := take_k h.rv hx
    have e1 : Hid (takeS L.r = L.r) := by show _ = _; unfold takeS; rw [hx]; rfl
    have e2 : Hid (L.r.L (L.r.tk + 1) = none) := hx
    clear h hx ht
    go_enter Try.func29, Try.ntmps29
    go_wp2_with (first | (go_at_call 58; refine k0.mono ?_; rintro e w1 ⟨rfl, hw1⟩; obtain rfl := hw1.symm; clear hw1) | (go_at_call 70; refine k1.mono ?_; rintro e w1 ⟨rfl, hb1⟩))
    refine bodyPost_ret (v := .tuple #[.slice none 0 0, .bool false]) (by simp [results, Try.results29, go_sem]) rfl ⟨⟨none, 0, 0, by rw [e2.out]; rfl, ?_⟩, ?_, K4.of_below hb1.out⟩
    · rw [e2.out]
      exact ⟨⟨by simp, by simp, .inl rfl⟩, rfl, Nat.le_refl _, by decide, fun _ => rfl, fun x hx => by cases hx⟩
    · rw [e1.out]
      exact hL.out.kept hb1.out
  | some l =>
    have k1 := take_yes l h.rv ht hx
    have e1 : Hid (takeS L.r = takeA L.r) := by show _ = _; unfold takeS; rw [hx]; rfl
    have e2 : Hid (L.r.L (L.r.tk + 1) = some l) := hx
    clear h hx ht
    go_enter Try.func29, Try.ntmps29
    go_wp2_with (first | (go_at_call 58; refine k0.mono ?_; rintro e w1 ⟨rfl, hw1⟩; obtain rfl := hw1.symm; clear hw1) | (go_at_call 70; refine k1.mono ?_; rintro e w1 ⟨g, n, c, rfl, hS, hR, hK⟩))
    refine bodyPost_ret (v := .tuple #[.slice (some ⟨g, 0, none⟩) n c, .bool true]) (by simp [results, Try.results29, go_sem]) rfl ⟨⟨some ⟨g, 0, none⟩, n, c, by rw [e2.out]; rfl, ?_⟩, ?_, K4.of_r hK.out⟩
    · rw [e2.out]
      exact hS
    · rw [e1.out]
      exact hL.out.turnR hR.out hK.out
theorem lkc_ep {cs : Array Value} {q : Qb} {L : Lk} (h : LkC cs q L) (x : Int) : LkC (cs.setIfInBounds 3 (.int .i64 x)) q { L with ep := x } := by
  have g : ∀ j, j ≠ 3 → (cs.setIfInBounds 3 (.int .i64 x))[j]? = cs[j]? := fun j hj => Array.getElem?_setIfInBounds_ne (by omega)
  have z := h.sz
  exact ⟨by simpa using h.sz, (g 0 (by omega)).trans h.c0, (g 1 (by omega)).trans h.c1, (g 2 (by omega)).trans h.c2, by rw [Array.getElem?_setIfInBounds_self_of_lt (by omega)], (g 4 (by omega)).trans h.c4, (g 5 (by omega)).trans h.c5, (g _ (by omega)).trans h.k0, (g _ (by omega)).trans h.e0, (g _ (by omega)).trans h.k1, (g _ (by omega)).trans h.e1, h.n0.same (by simp) (fun j h1 _ => g j (by omega)), h.n1.same (by simp) (fun j h1 _ => g j (by omega))⟩
theorem lkc_now {cs : Array Value} {q : Qb} {L : Lk} (h : LkC cs q L) (x : Int) : LkC (cs.setIfInBounds 2 (.int .i64 x)) q { L with now := x } := by
  have g : ∀ j, j ≠ 2 → (cs.setIfInBounds 2 (.int .i64 x))[j]? = cs[j]? := fun j hj => Array.getElem?_setIfInBounds_ne (by omega)
  have z := h.sz
  exact ⟨by simpa using h.sz, (g 0 (by omega)).trans h.c0, (g 1 (by omega)).trans h.c1, by rw [Array.getElem?_setIfInBounds_self_of_lt (by omega)], (g 3 (by omega)).trans h.c3, (g 4 (by omega)).trans h.c4, (g 5 (by omega)).trans h.c5, (g _ (by omega)).trans h.k0, (g _ (by omega)).trans h.e0, (g _ (by omega)).trans h.k1, (g _ (by omega)).trans h.e1, h.n0.same (by simp) (fun j h1 _ => g j (by omega)), h.n1.same (by simp) (fun j h1 _ => g j (by omega))⟩
theorem Lm.setEp {w : World} {B : Nat} {q : Qb} {L : Lk} (h : Lm w B q L) (x : Int) (hx : 1 ≤ x) : Lm (w.setCell ⟨q.lb, 3, none⟩ (.int .i64 x)) B q { L with ep := x } := by
  obtain ⟨cs, hb, hc⟩ := h.lk
  exact h.turnL (hb.set 3 _) (lkc_ep hc x) (K2.set w 3 _) rfl rfl ⟨h.ok.t1, h.ok.t2, h.ok.n1, h.ok.n2, hx, h.ok.few⟩ (fun g hg => .inl hg)
theorem Lm.setNow {w : World} {B : Nat} {q : Qb} {L : Lk} (h : Lm w B q L) (x : Int) (h0 : 0 ≤ x) (h1 : x ≤ 1099511627776) : Lm (w.setCell ⟨q.lb, 2, none⟩ (.int .i64 x)) B q { L with now := x } := by
  obtain ⟨cs, hb, hc⟩ := h.lk
  exact h.turnL (hb.set 2 _) (lkc_now hc x) (K2.set w 2 _) rfl rfl ⟨h.ok.t1, h.ok.t2, h0, h1, h.ok.e1, h.ok.few⟩ (fun g hg => .inl hg)
def recS (L : Lk) : St := if (timeB L.now && mayB L.s (ackN L.r) (L.r.tk + L.r.win)) = true then resA L.s (ackN L.r) (L.r.tk + L.r.win) L.now else L.s
theorem sub_rec (L : Lk) : Sub (recS L) L.s := by
  unfold recS
  split
  · exact sub_res _ _ _ _
  · exact Sub.refl _
theorem res_step2 {B sb mb : Nat} {s : St} {w : World} (ack credit now : Int) (h : Sd w B sb mb s) :
    Calls Try.prog 75 #[.pointer (some ⟨sb, 0, none⟩), .int .i64 ack, .int .i64 credit, .int .i64 now] w fun e w' => (∃ v, e = .returned v) ∧ Hid (Sd w' B sb mb (if (timeB now && mayB s ack credit) = true then resA s ack credit now else s)) ∧ Hid (K2 sb mb w w') := by
  by_cases hE : (timeB now && mayB s ack credit) = true
  · rw [if_pos hE]
    refine (res_ok ack credit now h hE).mono ?_
    rintro e w' ⟨rfl, h1, h2⟩
    exact ⟨⟨_, rfl⟩, h1, h2⟩
  · rw [if_neg hE]
    refine (res_bad ack credit now h (by simpa using hE)).mono ?_
    rintro e w' ⟨rfl, rfl⟩
    exact ⟨⟨_, rfl⟩, h, K2.refl _ _ _⟩
theorem rec_any {w : World} {B : Nat} {q : Qb} {L : Lk} (h : Lm w B q L) (hep : L.ep < 4611686018427387904) :
    Calls Try.prog 34 #[.pointer (some ⟨q.lb, 0, none⟩)] w fun e w' => e = .returned (.tuple #[]) ∧ Hid (Lm w' B q { L with ep := L.ep + 1, s := recS L }) ∧ Hid (K4 q w w') := by
  have k0 := kmade h
  have c3 := h.cell.2.2.2.1
  have f3 := h.fz 3
  have hw : IntKind.i64.wrap (L.ep + 1) = L.ep + 1 := by have := h.ok.e1; rw [IntKind.wrap_i64]; omega
  have hL1 : Hid (Lm (w.setCell ⟨q.lb, 3, none⟩ (.int .i64 (L.ep + 1))) B q { L with ep := L.ep + 1 }) := h.setEp _ (by have := h.ok.e1; omega)
  have hK1 : Hid (K4 q w (w.setCell ⟨q.lb, 3, none⟩ (.int .i64 (L.ep + 1)))) := K4.of_l (K2.set w 3 _)
  clear h hep
  go_enter Try.func34, Try.ntmps34
  go_wp2_with fail
  refine k0.mono ?_
  rintro e w1 ⟨rfl, hw1⟩
  obtain rfl := hw1.symm
  clear hw1 k0
  generalize hL1g : ({ L with ep := L.ep + 1 } : Lk) = L1 at *
  have eqs : Hid (L1.s = L.s ∧ L1.r = L.r ∧ L1.now = L.now) := by rw [← hL1g]; exact ⟨rfl, rfl, rfl⟩
  have hL1' : Hid (({ L with ep := L.ep + 1 } : Lk) = L1) := hL1g
  clear hL1g
  have d5 := hL1.out.cell.2.2.2.2.2
  have d4 := hL1.out.cell.2.2.2.2.1
  have d2 := hL1.out.cell.2.2.1
  go_wp2_with fail
  generalize (w.setCell ⟨q.lb, 3, none⟩ (.int .i64 (L.ep + 1))) = W1 at *
  clear c3 f3 d5 d4 d2
  refine (ack_k hL1.out.rv).mono ?_
  rintro e w2 ⟨rfl, hb2⟩
  have hL2 : Hid (Lm w2 B q L1) := hL1.out.kept hb2.out
  have hK2 : Hid (K4 q w w2) := hK1.out.trans (K4.of_below hb2.out)
  have d4 := hL2.out.cell.2.2.2.2.1
  have d2 := hL2.out.cell.2.2.1
  have k3 : Hid (∀ x, Below w2.heap.size w2 x → Calls Try.prog 75 #[.pointer (some ⟨q.sb, 0, none⟩), .int .i64 (ackN L1.r), .int .i64 (L1.r.tk + L1.r.win), .int .i64 L1.now] x fun e w' => (∃ v, e = .returned v) ∧ Hid (Lm w' B q { L1 with s := recS L1 }) ∧ Hid (K4 q w w')) := fun x hx =>
    (res_step2 _ _ _ (hL2.out.kept hx).sd).mono (by
      rintro e w' ⟨he, h1, h2⟩
      exact ⟨he, (hL2.out.kept hx).turnS h1.out h2.out ((sub_rec L1).few hL2.out.ok.few), (hK2.out.trans (K4.of_below hx)).trans (K4.of_s h2.out)⟩)
  have hE : Hid (({ L with ep := L.ep + 1, s := recS L } : Lk) = { L1 with s := recS L1 }) := by rw [← hL1'.out]; rfl
  clear hL1 hK1 hb2 hL1' eqs
  go_wp2
  go_region_with (go_at_call 75; refine (k3.out _ (Below.refl _ _).drew).mono ?_; rintro e w3 ⟨⟨v, rfl⟩, hL3, hK3⟩)
  all_goals go_wp2
  all_goals refine bodyPost_end (results_none rfl _ _ _) rfl ?_
  all_goals exact ⟨rfl, by rw [hE.out]; exact hL3, hK3⟩
end Go.Proofs.Ytfipdldoklkciaa
