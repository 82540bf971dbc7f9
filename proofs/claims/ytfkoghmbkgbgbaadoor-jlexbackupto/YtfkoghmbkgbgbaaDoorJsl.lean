/-
  What reads a string's characters: behind a backslash; one more character: (*jlex.reader).take.
-/
import Derived.Test.YtfkoghmbkgbgbaaDoorJre
import Derived.Test.YtfkoghmbkgbgbaaDoorJix
namespace Go.Proofs.YtfkoghmbkgbgbaaDoor
open Go.RowKit
set_option linter.unusedVariables false

theorem Rdr.top {w : World} {g B q num dig fst : Nat} {zs : List Int} (h : Rdr w g B q num dig fst zs) : B ≤ w.heap.size := by obtain ⟨p, v, h⟩ := h; exact h.top
theorem Rdr.kq {w w' : World} {g B q num dig fst : Nat} {zs : List Int} (h : Rdr w g B q num dig fst zs) (hb : Below w.heap.size w w') : Kq g B w w' := Kq.of (hb.mono h.top)
/-- What is read of a sign behind a backslash. -/
def aslR (r : Nat) (zs : List Int) : Nat × List Int := if r = 117 then (2, zs) else if r = 47 then (0, zs ++ encL 47) else match shortM r with | some m => (0, zs ++ encL m) | none => (6, zs)
theorem put_int {w : World} {g B q num dig fst : Nat} {zs : List Int} (c : Int) (r : Nat) (hc : (r : Int) = c) (hr : Right r) (h : Rdr w g B q num dig fst zs) (hlen : zs.length + 4 ≤ 140737488355328) :
    Calls Tryd.prog 79 #[.pointer (some ⟨g, 0, none⟩), .int .i32 c] w fun e w' => e = .returned (.int .i64 0) ∧ Rdr w' g B q num dig fst (zs ++ encL r) ∧ Kq g B w w' := by
  subst hc
  exact put_any r hr h hlen
theorem sgn_int (r : Nat) (i : Int) (hr : Right r) (hi : sgnI r = i) (w : World) : Calls Tryd.prog 46 #[.string ⟨#[34, 92, 98, 102, 110, 114, 116]⟩, .int .i32 (r : Int)] w fun e w' => e = .returned (.int .i64 i) ∧ Below w.heap.size w w' := by
  subst hi
  exact sgn_any r hr w
set_option maxHeartbeats 1000000 in
set_option maxRecDepth 100000 in
theorem asl_34 {w : World} {g B q num dig fst : Nat} {zs ys : List Int} (r : Nat) (hr : r = 34) (hy : zs ++ encL 34 = ys) (h : Rdr w g B q num dig fst zs) (hlen : zs.length + 4 ≤ 140737488355328) :
    Calls Tryd.prog 60 #[.pointer (some ⟨g, 0, none⟩), .int .i32 (r : Int)] w fun e w' => e = .returned (.int .i64 0) ∧ Rdr w' g B q num dig fst ys ∧ Kq g B w w' := by
  have kS := sgn_int r 0 (by rw [hr]; exact ⟨by omega, by omega⟩) (by rw [hr]; rfl) w
  have kP : Hid (∀ w1, Below w.heap.size w w1 → Calls Tryd.prog 79 #[.pointer (some ⟨g, 0, none⟩), .int .i32 34] w1 fun e w' => e = .returned (.int .i64 0) ∧ Rdr w' g B q num dig fst ys ∧ Kq g B w1 w') := fun w1 hb => by
    rw [← hy]
    exact put_int 34 34 rfl ⟨by omega, by omega⟩ (h.below hb) hlen
  have H : Hid (Rdr w g B q num dig fst zs) := h
  have a1 : ((r : Int) == 117) = false := by simp; omega
  have a2 : ((r : Int) == 47) = false := by simp; omega
  have hw : IntKind.i32.wrap ((((⟨#[34, 92, 8, 12, 10, 13, 9]⟩ : ByteArray)[0]'(by decide)).toNat : Nat) : Int) = 34 := by decide
  clear h hlen hy hr
  go_enter Tryd.func60, Tryd.ntmps60
  go_wp2_with (first
    | (go_at_call 46; refine kS.mono ?_; rintro e w1 ⟨rfl, hb1⟩; clear kS; have k2 := kP.out w1 hb1)
    | (go_at_call 79; refine k2.mono ?_; rintro e w2 ⟨rfl, h2, q2⟩))
  go_ret
  exact ⟨rfl, h2, (H.out.kq hb1).trans q2⟩
set_option maxHeartbeats 1000000 in
set_option maxRecDepth 100000 in
theorem asl_92 {w : World} {g B q num dig fst : Nat} {zs ys : List Int} (r : Nat) (hr : r = 92) (hy : zs ++ encL 92 = ys) (h : Rdr w g B q num dig fst zs) (hlen : zs.length + 4 ≤ 140737488355328) :
    Calls Tryd.prog 60 #[.pointer (some ⟨g, 0, none⟩), .int .i32 (r : Int)] w fun e w' => e = .returned (.int .i64 0) ∧ Rdr w' g B q num dig fst ys ∧ Kq g B w w' := by
  have kS := sgn_int r 1 (by rw [hr]; exact ⟨by omega, by omega⟩) (by rw [hr]; rfl) w
  have kP : Hid (∀ w1, Below w.heap.size w w1 → Calls Tryd.prog 79 #[.pointer (some ⟨g, 0, none⟩), .int .i32 92] w1 fun e w' => e = .returned (.int .i64 0) ∧ Rdr w' g B q num dig fst ys ∧ Kq g B w1 w') := fun w1 hb => by
    rw [← hy]
    exact put_int 92 92 rfl ⟨by omega, by omega⟩ (h.below hb) hlen
  have H : Hid (Rdr w g B q num dig fst zs) := h
  have a1 : ((r : Int) == 117) = false := by simp; omega
  have a2 : ((r : Int) == 47) = false := by simp; omega
  have hw : IntKind.i32.wrap ((((⟨#[34, 92, 8, 12, 10, 13, 9]⟩ : ByteArray)[1]'(by decide)).toNat : Nat) : Int) = 92 := by decide
  clear h hlen hy hr
  go_enter Tryd.func60, Tryd.ntmps60
  go_wp2_with (first
    | (go_at_call 46; refine kS.mono ?_; rintro e w1 ⟨rfl, hb1⟩; clear kS; have k2 := kP.out w1 hb1)
    | (go_at_call 79; refine k2.mono ?_; rintro e w2 ⟨rfl, h2, q2⟩))
  go_ret
  exact ⟨rfl, h2, (H.out.kq hb1).trans q2⟩
set_option maxHeartbeats 1000000 in
set_option maxRecDepth 100000 in
theorem asl_98 {w : World} {g B q num dig fst : Nat} {zs ys : List Int} (r : Nat) (hr : r = 98) (hy : zs ++ encL 8 = ys) (h : Rdr w g B q num dig fst zs) (hlen : zs.length + 4 ≤ 140737488355328) :
    Calls Tryd.prog 60 #[.pointer (some ⟨g, 0, none⟩), .int .i32 (r : Int)] w fun e w' => e = .returned (.int .i64 0) ∧ Rdr w' g B q num dig fst ys ∧ Kq g B w w' := by
  have kS := sgn_int r 2 (by rw [hr]; exact ⟨by omega, by omega⟩) (by rw [hr]; rfl) w
  have kP : Hid (∀ w1, Below w.heap.size w w1 → Calls Tryd.prog 79 #[.pointer (some ⟨g, 0, none⟩), .int .i32 8] w1 fun e w' => e = .returned (.int .i64 0) ∧ Rdr w' g B q num dig fst ys ∧ Kq g B w1 w') := fun w1 hb => by
    rw [← hy]
    exact put_int 8 8 rfl ⟨by omega, by omega⟩ (h.below hb) hlen
  have H : Hid (Rdr w g B q num dig fst zs) := h
  have a1 : ((r : Int) == 117) = false := by simp; omega
  have a2 : ((r : Int) == 47) = false := by simp; omega
  have hw : IntKind.i32.wrap ((((⟨#[34, 92, 8, 12, 10, 13, 9]⟩ : ByteArray)[2]'(by decide)).toNat : Nat) : Int) = 8 := by decide
  clear h hlen hy hr
  go_enter Tryd.func60, Tryd.ntmps60
  go_wp2_with (first
    | (go_at_call 46; refine kS.mono ?_; rintro e w1 ⟨rfl, hb1⟩; clear kS; have k2 := kP.out w1 hb1)
    | (go_at_call 79; refine k2.mono ?_; rintro e w2 ⟨rfl, h2, q2⟩))
  go_ret
  exact ⟨rfl, h2, (H.out.kq hb1).trans q2⟩
set_option maxHeartbeats 1000000 in
set_option maxRecDepth 100000 in
theorem asl_102 {w : World} {g B q num dig fst : Nat} {zs ys : List Int} (r : Nat) (hr : r = 102) (hy : zs ++ encL 12 = ys) (h : Rdr w g B q num dig fst zs) (hlen : zs.length + 4 ≤ 140737488355328) :
    Calls Tryd.prog 60 #[.pointer (some ⟨g, 0, none⟩), .int .i32 (r : Int)] w fun e w' => e = .returned (.int .i64 0) ∧ Rdr w' g B q num dig fst ys ∧ Kq g B w w' := by
  have kS := sgn_int r 3 (by rw [hr]; exact ⟨by omega, by omega⟩) (by rw [hr]; rfl) w
  have kP : Hid (∀ w1, Below w.heap.size w w1 → Calls Tryd.prog 79 #[.pointer (some ⟨g, 0, none⟩), .int .i32 12] w1 fun e w' => e = .returned (.int .i64 0) ∧ Rdr w' g B q num dig fst ys ∧ Kq g B w1 w') := fun w1 hb => by
    rw [← hy]
    exact put_int 12 12 rfl ⟨by omega, by omega⟩ (h.below hb) hlen
  have H : Hid (Rdr w g B q num dig fst zs) := h
  have a1 : ((r : Int) == 117) = false := by simp; omega
  have a2 : ((r : Int) == 47) = false := by simp; omega
  have hw : IntKind.i32.wrap ((((⟨#[34, 92, 8, 12, 10, 13, 9]⟩ : ByteArray)[3]'(by decide)).toNat : Nat) : Int) = 12 := by decide
  clear h hlen hy hr
  go_enter Tryd.func60, Tryd.ntmps60
  go_wp2_with (first
    | (go_at_call 46; refine kS.mono ?_; rintro e w1 ⟨rfl, hb1⟩; clear kS; have k2 := kP.out w1 hb1)
    | (go_at_call 79; refine k2.mono ?_; rintro e w2 ⟨rfl, h2, q2⟩))
  go_ret
  exact ⟨rfl, h2, (H.out.kq hb1).trans q2⟩
set_option maxHeartbeats 1000000 in
set_option maxRecDepth 100000 in
theorem asl_110 {w : World} {g B q num dig fst : Nat} {zs ys : List Int} (r : Nat) (hr : r = 110) (hy : zs ++ encL 10 = ys) (h : Rdr w g B q num dig fst zs) (hlen : zs.length + 4 ≤ 140737488355328) :
    Calls Tryd.prog 60 #[.pointer (some ⟨g, 0, none⟩), .int .i32 (r : Int)] w fun e w' => e = .returned (.int .i64 0) ∧ Rdr w' g B q num dig fst ys ∧ Kq g B w w' := by
  have kS := sgn_int r 4 (by rw [hr]; exact ⟨by omega, by omega⟩) (by rw [hr]; rfl) w
  have kP : Hid (∀ w1, Below w.heap.size w w1 → Calls Tryd.prog 79 #[.pointer (some ⟨g, 0, none⟩), .int .i32 10] w1 fun e w' => e = .returned (.int .i64 0) ∧ Rdr w' g B q num dig fst ys ∧ Kq g B w1 w') := fun w1 hb => by
    rw [← hy]
    exact put_int 10 10 rfl ⟨by omega, by omega⟩ (h.below hb) hlen
  have H : Hid (Rdr w g B q num dig fst zs) := h
  have a1 : ((r : Int) == 117) = false := by simp; omega
  have a2 : ((r : Int) == 47) = false := by simp; omega
  have hw : IntKind.i32.wrap ((((⟨#[34, 92, 8, 12, 10, 13, 9]⟩ : ByteArray)[4]'(by decide)).toNat : Nat) : Int) = 10 := by decide
  clear h hlen hy hr
  go_enter Tryd.func60, Tryd.ntmps60
  go_wp2_with (first
    | (go_at_call 46; refine kS.mono ?_; rintro e w1 ⟨rfl, hb1⟩; clear kS; have k2 := kP.out w1 hb1)
    | (go_at_call 79; refine k2.mono ?_; rintro e w2 ⟨rfl, h2, q2⟩))
  go_ret
  exact ⟨rfl, h2, (H.out.kq hb1).trans q2⟩
set_option maxHeartbeats 1000000 in
set_option maxRecDepth 100000 in
theorem asl_114 {w : World} {g B q num dig fst : Nat} {zs ys : List Int} (r : Nat) (hr : r = 114) (hy : zs ++ encL 13 = ys) (h : Rdr w g B q num dig fst zs) (hlen : zs.length + 4 ≤ 140737488355328) :
    Calls Tryd.prog 60 #[.pointer (some ⟨g, 0, none⟩), .int .i32 (r : Int)] w fun e w' => e = .returned (.int .i64 0) ∧ Rdr w' g B q num dig fst ys ∧ Kq g B w w' := by
  have kS := sgn_int r 5 (by rw [hr]; exact ⟨by omega, by omega⟩) (by rw [hr]; rfl) w
  have kP : Hid (∀ w1, Below w.heap.size w w1 → Calls Tryd.prog 79 #[.pointer (some ⟨g, 0, none⟩), .int .i32 13] w1 fun e w' => e = .returned (.int .i64 0) ∧ Rdr w' g B q num dig fst ys ∧ Kq g B w1 w') := fun w1 hb => by
    rw [← hy]
    exact put_int 13 13 rfl ⟨by omega, by omega⟩ (h.below hb) hlen
  have H : Hid (Rdr w g B q num dig fst zs) := h
  have a1 : ((r : Int) == 117) = false := by simp; omega
  have a2 : ((r : Int) == 47) = false := by simp; omega
  have hw : IntKind.i32.wrap ((((⟨#[34, 92, 8, 12, 10, 13, 9]⟩ : ByteArray)[5]'(by decide)).toNat : Nat) : Int) = 13 := by decide
  clear h hlen hy hr
  go_enter Tryd.func60, Tryd.ntmps60
  go_wp2_with (first
    | (go_at_call 46; refine kS.mono ?_; rintro e w1 ⟨rfl, hb1⟩; clear kS; have k2 := kP.out w1 hb1)
    | (go_at_call 79; refine k2.mono ?_; rintro e w2 ⟨rfl, h2, q2⟩))
  go_ret
  exact ⟨rfl, h2, (H.out.kq hb1).trans q2⟩
set_option maxHeartbeats 1000000 in
set_option maxRecDepth 100000 in
theorem asl_116 {w : World} {g B q num dig fst : Nat} {zs ys : List Int} (r : Nat) (hr : r = 116) (hy : zs ++ encL 9 = ys) (h : Rdr w g B q num dig fst zs) (hlen : zs.length + 4 ≤ 140737488355328) :
    Calls Tryd.prog 60 #[.pointer (some ⟨g, 0, none⟩), .int .i32 (r : Int)] w fun e w' => e = .returned (.int .i64 0) ∧ Rdr w' g B q num dig fst ys ∧ Kq g B w w' := by
  have kS := sgn_int r 6 (by rw [hr]; exact ⟨by omega, by omega⟩) (by rw [hr]; rfl) w
  have kP : Hid (∀ w1, Below w.heap.size w w1 → Calls Tryd.prog 79 #[.pointer (some ⟨g, 0, none⟩), .int .i32 9] w1 fun e w' => e = .returned (.int .i64 0) ∧ Rdr w' g B q num dig fst ys ∧ Kq g B w1 w') := fun w1 hb => by
    rw [← hy]
    exact put_int 9 9 rfl ⟨by omega, by omega⟩ (h.below hb) hlen
  have H : Hid (Rdr w g B q num dig fst zs) := h
  have a1 : ((r : Int) == 117) = false := by simp; omega
  have a2 : ((r : Int) == 47) = false := by simp; omega
  have hw : IntKind.i32.wrap ((((⟨#[34, 92, 8, 12, 10, 13, 9]⟩ : ByteArray)[6]'(by decide)).toNat : Nat) : Int) = 9 := by decide
  clear h hlen hy hr
  go_enter Tryd.func60, Tryd.ntmps60
  go_wp2_with (first
    | (go_at_call 46; refine kS.mono ?_; rintro e w1 ⟨rfl, hb1⟩; clear kS; have k2 := kP.out w1 hb1)
    | (go_at_call 79; refine k2.mono ?_; rintro e w2 ⟨rfl, h2, q2⟩))
  go_ret
  exact ⟨rfl, h2, (H.out.kq hb1).trans q2⟩
set_option maxHeartbeats 2000000 in
set_option maxRecDepth 100000 in
/-- (*jlex.reader).afterSlash. -/
theorem asl_any {w : World} {g B q num dig fst : Nat} {zs : List Int} (r : Nat) (hr : Right r) (h : Rdr w g B q num dig fst zs) (hlen : zs.length + 4 ≤ 140737488355328) :
    Calls Tryd.prog 60 #[.pointer (some ⟨g, 0, none⟩), .int .i32 (r : Int)] w fun e w' => e = .returned (.int .i64 ((aslR r zs).1 : Nat)) ∧ Rdr w' g B q num dig fst (aslR r zs).2 ∧ Kq g B w w' := by
  have H : Hid (Rdr w g B q num dig fst zs) := h
  by_cases h34 : r = 34
  · have hR : aslR r zs = (0, zs ++ encL 34) := by unfold aslR shortM; simp [h34]
    rw [hR]
    exact asl_34 r h34 rfl h hlen
  by_cases h92 : r = 92
  · have hR : aslR r zs = (0, zs ++ encL 92) := by unfold aslR shortM; simp [h92]
    rw [hR]
    exact asl_92 r h92 rfl h hlen
  by_cases h98 : r = 98
  · have hR : aslR r zs = (0, zs ++ encL 8) := by unfold aslR shortM; simp [h98]
    rw [hR]
    exact asl_98 r h98 rfl h hlen
  by_cases h102 : r = 102
  · have hR : aslR r zs = (0, zs ++ encL 12) := by unfold aslR shortM; simp [h102]
    rw [hR]
    exact asl_102 r h102 rfl h hlen
  by_cases h110 : r = 110
  · have hR : aslR r zs = (0, zs ++ encL 10) := by unfold aslR shortM; simp [h110]
    rw [hR]
    exact asl_110 r h110 rfl h hlen
  by_cases h114 : r = 114
  · have hR : aslR r zs = (0, zs ++ encL 13) := by unfold aslR shortM; simp [h114]
    rw [hR]
    exact asl_114 r h114 rfl h hlen
  by_cases h116 : r = 116
  · have hR : aslR r zs = (0, zs ++ encL 9) := by unfold aslR shortM; simp [h116]
    rw [hR]
    exact asl_116 r h116 rfl h hlen
  by_cases h117 : r = 117
  · have hR : aslR r zs = (2, zs) := by unfold aslR; rw [if_pos h117]
    rw [hR]
    have a1 : ((r : Int) == 117) = true := by simp; omega
    clear hR hr h hlen h34 h92 h98 h102 h110 h114 h116 h117
    go_enter Tryd.func60, Tryd.ntmps60
    go_wp2
    go_ret
    exact ⟨rfl, H.out, Kq.refl _ _ _⟩
  have a1 : ((r : Int) == 117) = false := by simp; omega
  by_cases h47 : r = 47
  · have hR : aslR r zs = (0, zs ++ encL r) := by unfold aslR; rw [if_neg h117, if_pos h47, h47]
    rw [hR]
    have a2 : ((r : Int) == 47) = true := by simp; omega
    have kP := put_any r hr h hlen
    clear hR hr h hlen h34 h92 h98 h102 h110 h114 h116 h117 h47
    go_enter Tryd.func60, Tryd.ntmps60
    go_wp2_with (go_at_call 79; refine kP.mono ?_; rintro e w2 ⟨rfl, h2, q2⟩)
    go_ret
    exact ⟨rfl, h2, q2⟩
  have a2 : ((r : Int) == 47) = false := by simp; omega
  have hs : shortM r = none := by unfold shortM; rw [if_neg h34, if_neg h92, if_neg h98, if_neg h102, if_neg h110, if_neg h114, if_neg h116]
  have hR : aslR r zs = (6, zs) := by unfold aslR; rw [if_neg h117, if_neg h47, hs]
  rw [hR]
  have kS := sgn_any r hr w
  have hI : sgnI r = -1 := by unfold sgnI; rw [if_neg h34, if_neg h92, if_neg h98, if_neg h102, if_neg h110, if_neg h114, if_neg h116]
  rw [hI] at kS
  clear hI hs hR hr h hlen h34 h92 h98 h102 h110 h114 h116 h117 h47
  go_enter Tryd.func60, Tryd.ntmps60
  go_wp2_with (go_at_call 46; refine kS.mono ?_; rintro e w1 ⟨rfl, hb1⟩; clear kS)
  go_ret
  exact ⟨rfl, H.out.below hb1, H.out.kq hb1⟩

end Go.Proofs.YtfkoghmbkgbgbaaDoor
