/-
  A load that is taken.
-/
import Derived.Test.YtfipdldoklkciaaRcb
import Derived.Lib.ConvBytes
namespace Go.Proofs.Ytfipdldoklkciaa
open Go.RowKit
set_option linter.unusedVariables false
/-- THE FIRST LOAD IS TAKEN. -/
def takeA (s : Rc) : Rc := { s with tk := s.tk + 1, L := fun x => if x = s.tk + 1 then none else s.L x }
theorem rtake_ok {s : Rc} (h : Rok s) (ht : s.tk < 4611686018427387904) : Rok (takeA s) := by
  refine ⟨h.w1, h.w2, by show 0 ≤ s.tk + 1; have := h.t1; omega, by show s.tk + 1 ≤ _; omega, fun x hx => ?_, fun x m hm => ?_⟩
  · have hx : (if x = s.tk + 1 then none else s.L x).isSome = true := hx
    show s.tk + 1 < x ∧ x ≤ s.tk + 1 + s.win
    by_cases e : x = s.tk + 1
    · rw [if_pos e] at hx; cases hx
    · rw [if_neg e] at hx
      have := h.inn x hx
      omega
  · have hm : (if x = s.tk + 1 then none else s.L x) = some m := hm
    by_cases e : x = s.tk + 1
    · rw [if_pos e] at hm; cases hm
    · rw [if_neg e] at hm; exact h.few x m hm
theorem take_at {s : Rc} (h : Rok s) (p : Nat) (hp : p < 32) : (takeA s).at p = if (p : Int) = (s.tk + 1) % 32 then none else s.at p := by
  show (if s.tk + 1 + 1 + ((p : Int) - (s.tk + 1 + 1)) % 32 = s.tk + 1 then none else s.L (s.tk + 1 + 1 + ((p : Int) - (s.tk + 1 + 1)) % 32)) = if (p : Int) = (s.tk + 1) % 32 then none else s.L (s.tk + 1 + ((p : Int) - (s.tk + 1)) % 32)
  rw [if_neg (by omega)]
  by_cases e : (p : Int) = (s.tk + 1) % 32
  · rw [if_pos e]
    exact h.none (by have := h.w2; omega)
  · rw [if_neg e]
    congr 1
    omega
theorem rv_take {w : World} {rb : Nat} {s : Rc} (h : Rv w rb s) (ht : s.tk < 4611686018427387904) (p : Nat) (hp : p < 32) (hpe : (s.tk + 1) % 32 = (p : Int)) :
    Rv (((w.setCell ⟨rb, 3 + p * 2, none⟩ (.bool false)).setCell ⟨rb, 3 + p * 2 + 1, none⟩ (.string (strOfNums []))).setCell ⟨rb, 2, none⟩ (.int .i64 (s.tk + 1))) rb (takeA s) := by
  have hat := take_at h.ok
  have hok := rtake_ok h.ok ht
  obtain ⟨h1, cs, h2, h3, h4, h5, h6, h7⟩ := h
  refine ⟨hok, _, ((h2.set (3 + p * 2) _).set (3 + p * 2 + 1) _).set 2 _, by simp [h3], ?_, ?_, ?_, fun q hq => ?_⟩
  · rw [Array.getElem?_setIfInBounds_ne (by omega), Array.getElem?_setIfInBounds_ne (by omega), Array.getElem?_setIfInBounds_ne (by omega)]; exact h4
  · rw [Array.getElem?_setIfInBounds_ne (by omega), Array.getElem?_setIfInBounds_ne (by omega), Array.getElem?_setIfInBounds_ne (by omega)]; exact h5
  · rw [Array.getElem?_setIfInBounds_self_of_lt (by simp [h3])]; rfl
  · rw [hat q hq, hpe]
    by_cases e : q = p
    · subst e
      rw [if_pos rfl]
      constructor
      · rw [Array.getElem?_setIfInBounds_ne (by omega), Array.getElem?_setIfInBounds_ne (by omega), Array.getElem?_setIfInBounds_self_of_lt (by omega)]; rfl
      · rw [Array.getElem?_setIfInBounds_ne (by omega), Array.getElem?_setIfInBounds_self_of_lt (by simp [h3]; omega)]; rfl
    · rw [if_neg (by omega)]
      rw [Array.getElem?_setIfInBounds_ne (by omega), Array.getElem?_setIfInBounds_ne (by omega), Array.getElem?_setIfInBounds_ne (by omega), Array.getElem?_setIfInBounds_ne (by omega), Array.getElem?_setIfInBounds_ne (by omega), Array.getElem?_setIfInBounds_ne (by omega)]
      exact h7 q hq
/-- A SLICE OF BYTES THAT A CALL ANSWERED: all from B on. -/
structure Sl (w : World) (B : Nat) (a : Option Addr) (n c : Nat) (zs : List Int) : Prop where
  by_ : Bytes w a zs
  len : zs.length = n
  le : n ≤ c
  mx : c ≤ 9223372036854775807
  nil : a = none → c = 0
  at_ : ∀ x, a = some x → B ≤ x.block ∧ x.block < w.heap.size
theorem strOfNums_size (zs : List Int) : (strOfNums zs).size = zs.length := by
  rw [ByteArray.size, ← Array.length_toList, strOfNums_data]
  simp
theorem bytesWorld_bytes (w : World) (zs : List Int) (hz : ∀ c ∈ zs, 0 ≤ c ∧ c < 256) (hm : zs.length ≤ maxLen) : Bytes (Lib.bytesWorld w 5 (strOfNums zs)) (some ⟨w.heap.size, 0, none⟩) zs := by
  refine ⟨hz, hm, .inr ⟨_, _, rfl, fun i hi => ?_⟩⟩
  rw [Nat.zero_add, Lib.bytesWorld_cell w 5 _ i (by rw [strOfNums_size]; exact hi), strOfNums_data, List.getD_eq_getElem?_getD, List.getElem?_map, List.getElem?_eq_getElem hi, List.getD_eq_getElem?_getD, List.getElem?_eq_getElem hi]
  have := hz _ (List.getElem_mem hi)
  simp only [Option.map_some, Option.getD_some, UInt8.toNat_ofNat']
  congr 2
  rw [Nat.mod_eq_of_lt (by omega)]
  omega
theorem take_no {rb : Nat} {s : Rc} {w : World} (h : Rv w rb s) (hL : s.L (s.tk + 1) = none) :
    Calls Try.prog 70 #[.pointer (some ⟨rb, 0, none⟩)] w fun e w' => e = .returned (.tuple #[.slice none 0 0, .bool false]) ∧ ∃ m, w' = w.drewN m := by
  have k0 := rmade_yes rb w h.c0
  have c2 := h.c2
  have k1 := holds_any (s.tk + 1) h
  rw [hL] at k1
  have hw : IntKind.i64.wrap (s.tk + 1) = s.tk + 1 := by
    have := h.ok.t1; have := h.ok.t2
    rw [IntKind.wrap_i64]; omega
  clear h hL
  go_enter Try.func70, Try.ntmps70
  go_wp2_with (first | (go_at_call 94; refine k0.mono ?_; rintro e w1 ⟨rfl, hw1⟩; obtain rfl := hw1.symm; clear k0 hw1) | (go_at_call 99; refine k1.mono ?_; rintro e w1 ⟨rfl, m1, rfl⟩; clear k1))
  go_ret2
  exact ⟨rfl, _, rfl⟩
set_option maxHeartbeats 1000000 in
theorem take_yes {rb : Nat} {s : Rc} {w : World} (l : List Int) (h : Rv w rb s) (ht : s.tk < 4611686018427387904) (hL : s.L (s.tk + 1) = some l) :
    Calls Try.prog 70 #[.pointer (some ⟨rb, 0, none⟩)] w fun e w' => ∃ g n c, e = .returned (.tuple #[.slice (some ⟨g, 0, none⟩) n c, .bool true]) ∧ Hid (Sl w' w.heap.size (some ⟨g, 0, none⟩) n c l) ∧ Hid (Rv w' rb (takeA s)) ∧ Hid (K2 rb rb w w') := by
  have k0 := rmade_yes rb w h.c0
  have c2 := h.c2
  have k1 := holds_any (s.tk + 1) h
  rw [hL] at k1
  have hw : IntKind.i64.wrap (s.tk + 1) = s.tk + 1 := by
    have := h.ok.t1; have := h.ok.t2
    rw [IntKind.wrap_i64]; omega
  have k3 := fun x => place_any (s.tk + 1) x (by have := h.ok.t1; omega)
  obtain ⟨p, hp⟩ : ∃ p : Nat, (s.tk + 1) % 32 = (p : Int) := ⟨((s.tk + 1) % 32).toNat, by omega⟩
  have hp3 : p < 32 := by omega
  have hi : decide ((p : Int) < 32) = true := by simp; omega
  have hi0 : decide ((0 : Int) ≤ (p : Int)) = true := by simp
  rw [hp] at k3
  have q1 := h.cA hp3
  have q2 := h.cB hp3
  have eat : s.at p = some l := by rw [← hL, ← Rc.at_of (s := s) (z := s.tk + 1) (by omega) (by omega), hp]; rfl
  rw [eat] at q1 q2
  simp only [Option.getD_some, Option.isSome_some] at q1 q2
  have hcv := fun x => Lib.run_convert_string_bytes (P := Try.prog) x 9 23 5 (strOfNums l) Try.underlying9 Try.underlying23 Try.underlying5
  have f1 := h.fz (3 + p * 2)
  have f2 := h.fz (3 + p * 2 + 1)
  have hlt := h.lt
  have hR : Hid (Rv w rb s) := h
  have hP : Hid ((s.tk + 1) % 32 = (p : Int)) := hp
  have hl := h.ok.few _ _ hL
  have hl' : Hid (l.length ≤ 1200 ∧ ∀ c ∈ l, 0 ≤ c ∧ c < 256) := hl
  clear hp eat hL h hl
  go_enter Try.func70, Try.ntmps70
  go_wp2_with (first | (go_at_call 94; refine k0.mono ?_; rintro e w1 ⟨rfl, hw1⟩; obtain rfl := hw1.symm; clear k0 hw1) | (go_at_call 99; refine k1.mono ?_; rintro e w1 ⟨rfl, m1, rfl⟩; clear k1))
  go_region_with (first | (go_at_call 101; refine (k3 _).mono ?_; rintro e w1 ⟨rfl, hw1⟩; obtain rfl := hw1.symm; clear hw1))
  have hB : Hid (Below w.heap.size w (Lib.bytesWorld (w.drewN (m1 + 1)) 5 (strOfNums l))) := ⟨rfl, rfl, rfl, by rw [Lib.bytesWorld_size]; show w.heap.size ≤ w.heap.size + 1; omega, fun k hk => Lib.bytesWorld_at_old (w.drewN (m1 + 1)) 5 _ k hk⟩
  have hS : Hid (Sl (Lib.bytesWorld (w.drewN (m1 + 1)) 5 (strOfNums l)) w.heap.size (some ⟨w.heap.size, 0, none⟩) (strOfNums l).size (grownCap (w.drewN (m1 + 1)) (strOfNums l).size 0 5) l) := by
    have hsz := strOfNums_size l
    refine ⟨bytesWorld_bytes (w.drewN (m1 + 1)) l hl'.out.2 (by have := hl'.out.1; unfold maxLen; omega), hsz.symm, grownCap_ge _ _ _ _, ?_, (fun h => by cases h), ?_⟩
    · have := grownCap_le_maxLen (w.drewN (m1 + 1)) (strOfNums l).size 0 5 (by have := hl'.out.1; unfold maxLen; omega)
      simpa [maxLen] using this
    · intro x hx
      cases hx
      rw [Lib.bytesWorld_size]
      exact ⟨Nat.le_refl _, by show w.heap.size < w.heap.size + 1; omega⟩
  clear hcv
  generalize Lib.bytesWorld (w.drewN (m1 + 1)) 5 (strOfNums l) = W at *
  generalize (strOfNums l).size = n at *
  generalize grownCap (w.drewN (m1 + 1)) n 0 5 = c at *
  have hRW := hR.out.kept hB.out
  have f1 := hRW.fz (3 + p * 2)
  have f2 := hRW.fz (3 + p * 2 + 1)
  have f3 := hRW.fz 2
  have g1 := hRW.cA hp3
  have g2 := hRW.cB hp3
  have g3 := hRW.c2
  have k : K2 rb rb W ((((W.setCell ⟨rb, 3 + p * 2, none⟩ (.bool false)).setCell ⟨rb, 3 + p * 2 + 1, none⟩ (.string ⟨#[]⟩)).setCell ⟨rb, 2, none⟩ (.int .i64 (s.tk + 1))).drew) := ((K2.set W _ _).trans ((K2.set _ _ _).trans (K2.set _ _ _))).drew
  have hF : Hid (Rv ((((W.setCell ⟨rb, 3 + p * 2, none⟩ (.bool false)).setCell ⟨rb, 3 + p * 2 + 1, none⟩ (.string ⟨#[]⟩)).setCell ⟨rb, 2, none⟩ (.int .i64 (s.tk + 1))).drew) rb (takeA s)) := (rv_take hRW ht p hp3 hP.out).drew
  have hK : Hid (K2 rb rb w ((((W.setCell ⟨rb, 3 + p * 2, none⟩ (.bool false)).setCell ⟨rb, 3 + p * 2 + 1, none⟩ (.string ⟨#[]⟩)).setCell ⟨rb, 2, none⟩ (.int .i64 (s.tk + 1))).drew)) := (K2.of_below hB.out).trans k
  have hT : Hid (Sl ((((W.setCell ⟨rb, 3 + p * 2, none⟩ (.bool false)).setCell ⟨rb, 3 + p * 2 + 1, none⟩ (.string ⟨#[]⟩)).setCell ⟨rb, 2, none⟩ (.int .i64 (s.tk + 1))).drew) w.heap.size (some ⟨w.heap.size, 0, none⟩) n c l) := by
    obtain ⟨t1, t2, t3, t4, t5, t6⟩ := hS.out
    refine ⟨t1.k2 k (fun x hx => ?_), t2, t3, t4, t5, fun x hx => ⟨(t6 x hx).1, Nat.lt_of_lt_of_le (t6 x hx).2 k.size⟩⟩
    have := (t6 x hx).1
    omega
  clear hRW hB hS hR hlt k
  go_wp2_with fail
  go_region_with (first | (go_at_call 101; refine (k3 _).mono ?_; rintro e w1 ⟨rfl, hw1⟩; obtain rfl := hw1.symm; clear hw1))
  go_wp2
  go_ret2
  exact ⟨_, _, _, rfl, hT, hF, hK⟩
end Go.Proofs.Ytfipdldoklkciaa
