/-
  A new link.
-/
import Derived.Test.YtfipdldoklkciaaLki
namespace Go.Proofs.Ytfipdldoklkciaa
open Go.RowKit
set_option linter.unusedVariables false
def rowN : Nat → List Value
  | 0 => []
  | n + 1 => .slice none 0 0 :: .bool false :: rowN n
def wayZ : List Value := rowN 256 ++ [.int .i64 0, .int .i64 0, .nilFunc]
def zl : Array Value := (.bool false :: .int .u64 0 :: .int .i64 0 :: .int .i64 0 :: .pointer none :: .pointer none :: (wayZ ++ wayZ)).toArray
theorem zero_lk (w : World) : (zeroValue 66).run Try.prog w = .ok (.agg zl) w := by kernel_rfl
theorem zl_size : zl.size = 1036 := by kernel_rfl
theorem zl_ne : (zl = #[]) = False := by
  rw [eq_iff_iff]
  exact ⟨fun h => absurd (congrArg Array.size h) (by rw [zl_size]; decide), False.elim⟩
theorem zl2 : zl[2]? = some (.int .i64 0) := by kernel_rfl
theorem zl518 : zl[518]? = some (.int .i64 0) := by kernel_rfl
theorem zl1033 : zl[1033]? = some (.int .i64 0) := by kernel_rfl
/-- A link's cells at first. -/
def nl1 (tok : Int) (sb rb : Nat) : Array Value := ((((zl.setIfInBounds 0 (.bool true)).setIfInBounds 1 (.int .u64 tok)).setIfInBounds 3 (.int .i64 1)).setIfInBounds 4 (.pointer (some ⟨sb, 0, none⟩))).setIfInBounds 5 (.pointer (some ⟨rb, 0, none⟩))
theorem nl1_size (tok : Int) (sb rb : Nat) : (nl1 tok sb rb).size = 1036 := by simp [nl1, zl_size]
theorem nl1_get (tok : Int) (sb rb : Nat) (j : Nat) (h : 6 ≤ j) : (nl1 tok sb rb)[j]? = zl[j]? := by
  unfold nl1
  rw [Array.getElem?_setIfInBounds_ne (by omega), Array.getElem?_setIfInBounds_ne (by omega), Array.getElem?_setIfInBounds_ne (by omega), Array.getElem?_setIfInBounds_ne (by omega), Array.getElem?_setIfInBounds_ne (by omega)]
def l0 (tok win : Int) : Lk := ⟨tok, 0, 1, s0 win win, r0 win, [], []⟩
def fn0 (lb : Nat) : Value := .func (.func 56) #[.pointer (some ⟨lb, 0, none⟩)] #[]
def fn1 (lb : Nat) : Value := .func (.func 57) #[.pointer (some ⟨lb, 0, none⟩)] #[]
theorem nl_cells (tok win : Int) (q : Qb) : LkC (((((nl1 tok q.sb q.rb).setIfInBounds 519 (.int .i64 1)).setIfInBounds 520 (fn0 q.lb)).setIfInBounds 1034 (.int .i64 2)).setIfInBounds 1035 (fn1 q.lb)) q (l0 tok win) := by
  have hs := nl1_size tok q.sb q.rb
  have hg := nl1_get tok q.sb q.rb
  have lo : ∀ j, j < 6 → (((((nl1 tok q.sb q.rb).setIfInBounds 519 (.int .i64 1)).setIfInBounds 520 (fn0 q.lb)).setIfInBounds 1034 (.int .i64 2)).setIfInBounds 1035 (fn1 q.lb))[j]? = (nl1 tok q.sb q.rb)[j]? := fun j hj => by
    rw [Array.getElem?_setIfInBounds_ne (by omega), Array.getElem?_setIfInBounds_ne (by omega), Array.getElem?_setIfInBounds_ne (by omega), Array.getElem?_setIfInBounds_ne (by omega)]
  have z := zl_size
  refine ⟨by simp [hs], ?_, ?_, ?_, ?_, ?_, ?_, ?_, ?_, ?_, ?_, ⟨by simp [l0], ?_, by simp [l0], by simp [hs]⟩, ⟨by simp [l0], ?_, by simp [l0], by simp [hs]⟩⟩
  · rw [lo 0 (by omega)]; unfold nl1
    rw [Array.getElem?_setIfInBounds_ne (by omega), Array.getElem?_setIfInBounds_ne (by omega), Array.getElem?_setIfInBounds_ne (by omega), Array.getElem?_setIfInBounds_ne (by omega), Array.getElem?_setIfInBounds_self_of_lt (by omega)]
  · rw [lo 1 (by omega)]; unfold nl1
    rw [Array.getElem?_setIfInBounds_ne (by omega), Array.getElem?_setIfInBounds_ne (by omega), Array.getElem?_setIfInBounds_ne (by omega), Array.getElem?_setIfInBounds_self_of_lt (by simp [z])]
    rfl
  · rw [lo 2 (by omega)]; unfold nl1
    rw [Array.getElem?_setIfInBounds_ne (by omega), Array.getElem?_setIfInBounds_ne (by omega), Array.getElem?_setIfInBounds_ne (by omega), Array.getElem?_setIfInBounds_ne (by omega), Array.getElem?_setIfInBounds_ne (by omega)]
    exact zl2
  · rw [lo 3 (by omega)]; unfold nl1
    rw [Array.getElem?_setIfInBounds_ne (by omega), Array.getElem?_setIfInBounds_ne (by omega), Array.getElem?_setIfInBounds_self_of_lt (by simp [z])]
    rfl
  · rw [lo 4 (by omega)]; unfold nl1
    rw [Array.getElem?_setIfInBounds_ne (by omega), Array.getElem?_setIfInBounds_self_of_lt (by simp [z])]
  · rw [lo 5 (by omega)]; unfold nl1
    rw [Array.getElem?_setIfInBounds_self_of_lt (by simp [z])]
  · rw [Array.getElem?_setIfInBounds_ne (by omega), Array.getElem?_setIfInBounds_ne (by omega), Array.getElem?_setIfInBounds_ne (by omega), Array.getElem?_setIfInBounds_self_of_lt (by omega)]
  · rw [Array.getElem?_setIfInBounds_ne (by omega), Array.getElem?_setIfInBounds_ne (by omega), Array.getElem?_setIfInBounds_self_of_lt (by simp [hs])]
    rfl
  · rw [Array.getElem?_setIfInBounds_ne (by omega), Array.getElem?_setIfInBounds_self_of_lt (by simp [hs])]
  · rw [Array.getElem?_setIfInBounds_self_of_lt (by simp [hs])]
    rfl
  · rw [Array.getElem?_setIfInBounds_ne (by omega), Array.getElem?_setIfInBounds_ne (by omega), Array.getElem?_setIfInBounds_ne (by omega), Array.getElem?_setIfInBounds_ne (by omega), hg 518 (by omega)]
    exact zl518
  · rw [Array.getElem?_setIfInBounds_ne (by omega), Array.getElem?_setIfInBounds_ne (by omega), Array.getElem?_setIfInBounds_ne (by omega), Array.getElem?_setIfInBounds_ne (by omega), hg 1033 (by omega)]
    exact zl1033
theorem knew_no (win tok : Int) (w : World) (h : win < 1 ∨ 32 < win) :
    Calls Try.prog 18 #[.int .i64 win, .int .u64 tok] w fun e w' => e = .returned (.tuple #[.pointer none, .int .i64 1]) ∧ w' = w := by
  have k0 := rnew_no win w h
  clear h
  go_enter Try.func18, Try.ntmps18
  go_wp2_with (go_at_call 53; refine k0.mono ?_; rintro e w1 ⟨rfl, hw1⟩; obtain rfl := hw1.symm; clear hw1)
  go_ret2
  exact ⟨rfl, rfl⟩
set_option maxHeartbeats 1000000 in
set_option maxRecDepth 100000 in
theorem knew_yes (win tok : Int) (w : World) (h1 : 1 ≤ win) (h2 : win ≤ 32) (t1 : 0 ≤ tok) (t2 : tok < 18446744073709551616) :
    Calls Try.prog 18 #[.int .i64 win, .int .u64 tok] w fun e w' => ∃ q : Qb, e = .returned (.tuple #[.pointer (some ⟨q.lb, 0, none⟩), .int .i64 0]) ∧ Hid (Lm w' w.heap.size q (l0 tok win)) ∧ Hid (Below w.heap.size w w') := by
  have hw : Hid (1 ≤ win ∧ win ≤ 32 ∧ 0 ≤ tok ∧ tok < 18446744073709551616) := ⟨h1, h2, t1, t2⟩
  have hz := zero_lk
  have hz1 := zl_ne
  have hz2 := zl_size
  clear h1 h2 t1 t2
  go_enter Try.func18, Try.ntmps18
  go_wp2_with fail
  refine (rnew_yes win w hw.out.1 hw.out.2.1).mono ?_
  rintro e w1 ⟨rfl, hR1, hB1⟩
  generalize hrb : w.heap.size = rb at *
  have hN : Hid (w.heap.size = rb) := hrb
  clear hrb
  go_wp2_with fail
  refine (new_yes win w1 hw.out.1 hw.out.2.1).mono ?_
  rintro e w2 ⟨rfl, hS2, hB2⟩
  have hs2 : Hid (Sd w2 w1.heap.size (w1.heap.size + 1) w1.heap.size (s0 win 0)) := hS2
  have hR2 : Hid (Rv w2 rb (r0 win)) := hR1.out.kept hB2.out
  have hz12 : Hid (rb ≤ w1.heap.size) := by have := hB1.out.size; rw [hN.out] at this; exact this
  have hBB2 : Hid (Below rb w w2) := hB1.out.trans (hB2.out.mono hz12.out)
  have hrl : Hid (rb < w1.heap.size) := hR1.out.lt
  clear hS2 hR1 hB1 hB2
  generalize hsb : w1.heap.size + 1 = sb at *
  have hsb' : Hid (w1.heap.size + 1 = sb) := hsb
  clear hsb
  generalize w1.heap.size = mb at *
  go_wp2_with fail
  have k3 := ack_ok 0 0 win hs2.out (may_s0 (by have := hw.out; omega) (by have := hw.out; omega))
  rw [ack_s0 hw.out.1 hw.out.2.1 (by have := hw.out; omega)] at k3
  refine k3.mono ?_
  rintro e w3 ⟨rfl, hS3, hK3⟩
  have hR3 : Hid (Rv w3 rb (r0 win)) := hR2.out.k2 hK3.out (by have := hrl.out; have := hsb'.out; omega) (by have := hrl.out; omega)
  have hB3 : Hid (Below rb w w3) := hK3.out.below hBB2.out (by have := hBB2.out.size; rw [hN.out] at this; exact this) (by have := hsb'.out; have := hz12.out; omega) hz12.out
  have hS3' : Hid (Sd w3 rb sb mb (s0 win win)) := ⟨hS3.out.ok, by have := hsb'.out; have := hz12.out; omega, hz12.out, hS3.out.blk, hS3.out.mp, fun z e he => by cases he⟩
  clear k3 hS3 hK3 hs2 hR2 hBB2
  go_wp2
  have e5 : ((((zl.setIfInBounds 0 (.bool true)).setIfInBounds 1 (.int .u64 tok)).setIfInBounds 3 (.int .i64 1)).setIfInBounds 4 (.pointer (some ⟨sb, 0, none⟩))).setIfInBounds 5 (.pointer (some ⟨rb, 0, none⟩)) = nl1 tok sb rb := rfl
  rw [e5]
  have hbk : Hid (Blk (w3.alloc (.cells (nl1 tok sb rb) 66)) w3.heap.size (nl1 tok sb rb) 66) := blk_new w3 _ _
  have hB4 : Hid (Below w3.heap.size w3 (w3.alloc (.cells (nl1 tok sb rb) 66))) := (Below.refl _ _).alloc (Nat.le_refl _) _
  have hC := nl_cells tok win ⟨w3.heap.size, sb, mb, rb⟩
  have hC' : Hid (LkC (((((nl1 tok sb rb).setIfInBounds 519 (.int .i64 1)).setIfInBounds 520 (fn0 w3.heap.size)).setIfInBounds 1034 (.int .i64 2)).setIfInBounds 1035 (fn1 w3.heap.size)) ⟨w3.heap.size, sb, mb, rb⟩ (l0 tok win)) := hC
  have hns := nl1_size tok sb rb
  have hns' : Hid ((nl1 tok sb rb).size = 1036) := hns
  clear hz hz1 hz2 hC e5
  generalize nl1 tok sb rb = cs at *
  have u1 : (w3.alloc (.cells cs 66)).cell? ⟨w3.heap.size, 519, none⟩ = some (cs[519]'(by omega)) := (hbk.out.cell 519).trans (Array.getElem?_eq_getElem _)
  have u2 : (w3.alloc (.cells cs 66)).cell? ⟨w3.heap.size, 520, none⟩ = some (cs[520]'(by omega)) := (hbk.out.cell 520).trans (Array.getElem?_eq_getElem _)
  have u3 : (w3.alloc (.cells cs 66)).cell? ⟨w3.heap.size, 1034, none⟩ = some (cs[1034]'(by omega)) := (hbk.out.cell 1034).trans (Array.getElem?_eq_getElem _)
  have u4 : (w3.alloc (.cells cs 66)).cell? ⟨w3.heap.size, 1035, none⟩ = some (cs[1035]'(by omega)) := (hbk.out.cell 1035).trans (Array.getElem?_eq_getElem _)
  have ff := hbk.out.fz
  generalize (cs[519]'(by omega)) = v1 at *
  generalize (cs[520]'(by omega)) = v2 at *
  generalize (cs[1034]'(by omega)) = v3 at *
  generalize (cs[1035]'(by omega)) = v4 at *
  have hlb : Hid (rb ≤ w3.heap.size) := by have := hB3.out.size; rw [hN.out] at this; exact this
  generalize hlbg : w3.heap.size = lb at *
  have hlb' : Hid (w3.heap.size = lb) := hlbg
  clear hlbg hns
  generalize (w3.alloc (.cells cs 66)) = W at *
  have hst : ∀ (X : World) (a : Addr) (f : Fn) (b c : Array Value), (store a (.func f b c)).run Try.prog X = _ := fun X a f b c => run_store Try.prog X a (.func f b c) .plain rfl
  go_region
  go_wp2
  go_region
  go_wp2
  refine bodyPost_ret (v := .tuple #[.pointer (some ⟨lb, 0, none⟩), .int .i64 0]) (by simp [results, Try.results18, go_sem]) rfl ⟨⟨lb, sb, mb, rb⟩, rfl, ?_, ?_⟩
  · have hK : K2 lb lb W ((((W.setCell ⟨lb, 519, none⟩ (.int .i64 1)).setCell ⟨lb, 520, none⟩ (fn0 lb)).setCell ⟨lb, 1034, none⟩ (.int .i64 2)).setCell ⟨lb, 1035, none⟩ (fn1 lb)).drew.drew := ((((K2.set W _ _).trans (K2.set _ _ _)).trans (K2.set _ _ _)).trans (K2.set _ _ _)).drew.drew
    have hb4 : Blk ((((W.setCell ⟨lb, 519, none⟩ (.int .i64 1)).setCell ⟨lb, 520, none⟩ (fn0 lb)).setCell ⟨lb, 1034, none⟩ (.int .i64 2)).setCell ⟨lb, 1035, none⟩ (fn1 lb)).drew.drew lb _ 66 := (((hbk.out.set 519 _).set 520 _).set 1034 _).set 1035 _
    have hB4' : Below w3.heap.size w3 W := by rw [hlb'.out]; exact hB4.out
    have hSW := hS3'.out.kept hB4'
    have hRW := hR3.out.kept hB4'
    have n1 : ∀ c, ¬ Blk W lb c 5 := fun c k => absurd (hbk.out.ty k) (by decide)
    have p1 := hS3'.out.blk.lt
    have p2 := hS3'.out.mp.lt
    have p3 := hR3.out.lt
    have p4 := hlb'.out
    have p5 := hw.out
    show Lm _ w.heap.size _ _
    rw [hN.out]
    exact ⟨⟨p5.2.2.1, p5.2.2.2, Int.le_refl _, by show (0 : Int) ≤ _; decide, Int.le_refl _, (fun z e he => by cases he)⟩, hSW.but hK ⟨by omega, by omega⟩ ⟨by omega, by omega⟩ n1 n1, hRW.k2 hK (by omega) (by omega), ⟨_, hb4, hC'.out⟩, (fun g hg => by rcases hg with h | h <;> cases h), hlb.out, Nat.le_refl _⟩
  · have hK : K2 lb lb W ((((W.setCell ⟨lb, 519, none⟩ (.int .i64 1)).setCell ⟨lb, 520, none⟩ (fn0 lb)).setCell ⟨lb, 1034, none⟩ (.int .i64 2)).setCell ⟨lb, 1035, none⟩ (fn1 lb)).drew.drew := ((((K2.set W _ _).trans (K2.set _ _ _)).trans (K2.set _ _ _)).trans (K2.set _ _ _)).drew.drew
    have hB4' : Below w3.heap.size w3 W := by rw [hlb'.out]; exact hB4.out
    have hz : rb ≤ w3.heap.size := by have := hlb.out; have := hlb'.out; omega
    show Below w.heap.size w _
    rw [hN.out]
    exact hK.below (hB3.out.trans (hB4'.mono hz)) (by have := hB4'.size; omega) hlb.out hlb.out
end Go.Proofs.Ytfipdldoklkciaa
