/-
  A net: datagrams on their way, in a row of a link's block; one more comes in; one goes.
-/
import Derived.Test.YtfipdldoklkciaaGac
import Derived.Deep.RegionWith
namespace Go.Proofs.Ytfipdldoklkciaa
open Go.RowKit
set_option linter.unusedVariables false
/-- A datagram on its way. -/
structure Gr where
  a : Option Addr
  n : Nat
  c : Nat
  zs : List Int
  sp : Bool
def Gr.val (g : Gr) : Value := .agg #[.slice g.a g.n g.c, .bool g.sp]
/-- THE NET IN A BLOCK's CELLS, FROM o ON. -/
structure Net (cs : Array Value) (o : Nat) (G : List Gr) : Prop where
  few : G.length ≤ 256
  cnt : cs[o + 512]? = some (.int .i64 (G.length : Nat))
  row : ∀ i g, G[i]? = some g → cs[o + i * 2]? = some (.slice g.a g.n g.c) ∧ cs[o + i * 2 + 1]? = some (.bool g.sp)
  big : o + 515 ≤ cs.size
theorem net_put {cs : Array Value} {o : Nat} {G : List Gr} (h : Net cs o G) (hr : G.length < 256) (g : Gr) :
    Net (((cs.setIfInBounds (o + G.length * 2) (.slice g.a g.n g.c)).setIfInBounds (o + G.length * 2 + 1) (.bool g.sp)).setIfInBounds (o + 512) (.int .i64 ((G.length : Nat) + 1))) o (G ++ [g]) := by
  obtain ⟨h1, h2, h3, h4⟩ := h
  refine ⟨by simp; omega, ?_, fun i x hx => ?_, by simpa using h4⟩
  · rw [Array.getElem?_setIfInBounds_self_of_lt (by simp; omega), List.length_append]
    simp
  · rcases Nat.lt_trichotomy i G.length with hi | hi | hi
    · rw [List.getElem?_append_left hi] at hx
      rw [Array.getElem?_setIfInBounds_ne (by omega), Array.getElem?_setIfInBounds_ne (by omega), Array.getElem?_setIfInBounds_ne (by omega), Array.getElem?_setIfInBounds_ne (by omega), Array.getElem?_setIfInBounds_ne (by omega), Array.getElem?_setIfInBounds_ne (by omega)]
      exact h3 i x hx
    · subst hi
      rw [List.getElem?_append_right (Nat.le_refl _), Nat.sub_self] at hx
      obtain rfl : g = x := by simpa using hx
      rw [Array.getElem?_setIfInBounds_ne (by omega), Array.getElem?_setIfInBounds_ne (by omega), Array.getElem?_setIfInBounds_self_of_lt (by omega), Array.getElem?_setIfInBounds_ne (by omega), Array.getElem?_setIfInBounds_self_of_lt (by simp; omega)]
      exact ⟨rfl, rfl⟩
    · rw [List.getElem?_eq_none (by simp; omega)] at hx
      cases hx
/-- What stands elsewhere in the block. -/
def Apart (cs cs' : Array Value) (o : Nat) : Prop := cs'.size = cs.size ∧ ∀ j, j < o ∨ o + 513 ≤ j → cs'[j]? = cs[j]?
theorem put_room {w : World} {lb o : Nat} {cs : Array Value} {T : TypeId} {G : List Gr} (g : Gr) (hb : Blk w lb cs T) (hN : Net cs o G) (hr : G.length < 256) :
    Calls Try.prog 72 #[.pointer (some ⟨lb, o, none⟩), g.val] w fun e w' => e = .returned (.tuple #[]) ∧ ∃ cs', Hid (Blk w' lb cs' T) ∧ Hid (Net cs' o (G ++ [g])) ∧ Hid (Apart cs cs' o) ∧ Hid (K2 lb lb w w') := by
  have c0 : w.cell? ⟨lb, o + 512, none⟩ = some (.int .i64 (G.length : Nat)) := (hb.cell _).trans hN.cnt
  have hlt := hb.lt
  have d0 : decide (((G.length : Nat) : Int) < 256) = true := by simp; omega
  have d1 : decide ((0 : Int) ≤ ((G.length : Nat) : Int)) = true := by simp
  have f0 := hb.fz (o + 512)
  have f1 := hb.fz (o + G.length * 2)
  have f2 := hb.fz (o + G.length * 2 + 1)
  have hbig := hN.big
  have c1 : w.cell? ⟨lb, o + G.length * 2, none⟩ = some (cs[o + G.length * 2]'(by omega)) := (hb.cell _).trans (Array.getElem?_eq_getElem _)
  have c2 : w.cell? ⟨lb, o + G.length * 2 + 1, none⟩ = some (cs[o + G.length * 2 + 1]'(by omega)) := (hb.cell _).trans (Array.getElem?_eq_getElem _)
  have hw : IntKind.i64.wrap (((G.length : Nat) : Int) + 1) = ((G.length : Nat) : Int) + 1 := by rw [IntKind.wrap_i64]; omega
  have hNN := net_put hN hr g
  have hb' : Hid (Blk w lb cs T) := hb
  have hN' : Hid (Net (((cs.setIfInBounds (o + G.length * 2) (.slice g.a g.n g.c)).setIfInBounds (o + G.length * 2 + 1) (.bool g.sp)).setIfInBounds (o + 512) (.int .i64 ((G.length : Nat) + 1))) o (G ++ [g])) := hNN
  have hA : Hid (Apart cs (((cs.setIfInBounds (o + G.length * 2) (.slice g.a g.n g.c)).setIfInBounds (o + G.length * 2 + 1) (.bool g.sp)).setIfInBounds (o + 512) (.int .i64 ((G.length : Nat) + 1))) o) := by
    refine ⟨by simp, fun j hj => ?_⟩
    rw [Array.getElem?_setIfInBounds_ne (by omega), Array.getElem?_setIfInBounds_ne (by omega), Array.getElem?_setIfInBounds_ne (by omega)]
  generalize (cs[o + G.length * 2]'(by omega)) = u1 at *
  generalize (cs[o + G.length * 2 + 1]'(by omega)) = u2 at *
  have hr' : G.length < 256 := hr
  clear hb hN hNN hbig hr
  unfold Gr.val
  generalize G.length = k at *
  go_enter Try.func72, Try.ntmps72
  go_wp2
  go_region
  go_wp2
  refine bodyPost_end (results_none rfl _ _ _) rfl ?_
  refine ⟨rfl, _, (((hb'.out.set _ _).set _ _).set _ _).kept (((Below.refl _ _).alloc (Nat.le_refl _) _).drew), hN', hA, ?_⟩
  exact ((K2.set w _ _).trans ((K2.set _ _ _).trans (K2.set _ _ _))).trans (K2.of_below (((Below.refl _ _).alloc (Nat.le_refl _) _).drew))
theorem put_full {w : World} {lb o : Nat} {cs : Array Value} {T : TypeId} {G : List Gr} (g : Gr) (hb : Blk w lb cs T) (hN : Net cs o G) (hr : G.length = 256) :
    Calls Try.prog 72 #[.pointer (some ⟨lb, o, none⟩), g.val] w fun e w' => e = .returned (.tuple #[]) ∧ Hid (Below w.heap.size w w') := by
  have c0 : w.cell? ⟨lb, o + 512, none⟩ = some (.int .i64 (G.length : Nat)) := (hb.cell _).trans hN.cnt
  have hlt := hb.lt
  rw [hr] at c0
  clear hb hN hr
  unfold Gr.val
  go_enter Try.func72, Try.ntmps72
  go_wp2
  refine bodyPost_end (results_none rfl _ _ _) rfl ?_
  exact ⟨rfl, (Below.refl _ _).alloc (Nat.le_refl _) _⟩
def putG (G : List Gr) (g : Gr) : List Gr := if G.length < 256 then G ++ [g] else G
theorem put_any {w : World} {lb o : Nat} {cs : Array Value} {T : TypeId} {G : List Gr} (g : Gr) (hb : Blk w lb cs T) (hN : Net cs o G) :
    Calls Try.prog 72 #[.pointer (some ⟨lb, o, none⟩), g.val] w fun e w' => e = .returned (.tuple #[]) ∧ ∃ cs', Hid (Blk w' lb cs' T) ∧ Hid (Net cs' o (putG G g)) ∧ Hid (Apart cs cs' o) ∧ Hid (K2 lb lb w w') := by
  by_cases h : G.length < 256
  · unfold putG
    rw [if_pos h]
    exact put_room g hb hN h
  · unfold putG
    rw [if_neg h]
    refine (put_full g hb hN (by have := hN.few; omega)).mono ?_
    rintro e w' ⟨rfl, hB⟩
    exact ⟨rfl, cs, hb.kept hB.out, hN, ⟨rfl, fun _ _ => rfl⟩, K2.of_below hB.out⟩

/-! ### a datagram goes -/
theorem run_copy_two (w : World) (ty : TypeId) (g o dLen dCap : Nat) (a : Addr) (sLen sCap : Nat) (cur : Array Value) (t : TypeId) (cs : List Value)
    (hg : w.heap[g]? = some (.cells cur t (0, 0))) (hn : cs.length = 2 * Nat.min sLen dLen)
    (hsrc : ∀ j v, cs[j]? = some v → w.cell? (a.add j) = some v) (hfit : o + cs.length ≤ cur.size) (h1 : ∀ v ∈ cs, v.oneCell' = true) :
    (Builtin.copy_ #[147, 147] ty #[.slice (some ⟨g, o, none⟩) dLen dCap, .slice (some a) sLen sCap]).run Try.prog w =
      .ok (goInt (Nat.min sLen dLen)) (w.setRow g (cur.toList.take o ++ cs ++ cur.toList.drop (o + cs.length)).toArray) := by
  have hl := run_loadCells_list (P := Try.prog) w a cs hsrc
  have hst := run_storeCells_at Try.prog g o t cs 0 cur w hg (by simpa using hfit) h1
  have hs : (Try.prog.info? 59).map (·.size) = some 2 := by kernel_rfl
  have hu := Try.underlying147
  cases hq : Try.prog.info? 59 with
  | none => simp [hq] at hs
  | some i =>
    have hi : i.size = 2 := by simpa [hq] using hs
    have e2 : Nat.min sLen dLen * 2 = cs.length := by omega
    simp [Builtin.copy_, run_underlying hu, Builtin.lenOf, Builtin.firstCells, sizeOf, typeInfo, hq, hi, e2, hl, hst]
theorem run_copy_zero (w : World) (ty : TypeId) (d a : Option Addr) (dLen dCap sLen sCap : Nat) (hn : Nat.min sLen dLen = 0) :
    (Builtin.copy_ #[147, 147] ty #[.slice d dLen dCap, .slice a sLen sCap]).run Try.prog w = .ok (goInt 0) w := by
  have hs : (Try.prog.info? 59).map (·.size) = some 2 := by kernel_rfl
  have hu := Try.underlying147
  cases hq : Try.prog.info? 59 with
  | none => simp [hq] at hs
  | some i =>
    have hl : ∀ (x : Addr), (loadCells x 0).run Try.prog w = .ok #[] w := fun x => by simpa using run_loadCells_list (P := Try.prog) w x [] (by simp)
    cases d <;> cases a <;> simp [Builtin.copy_, run_underlying hu, Builtin.lenOf, Builtin.firstCells, sizeOf, typeInfo, hq, hn, storeCells, hl]
theorem step_cpy {w w2 : World} {ops : Array Oper} {o : Oper} {a : Act} {K : Act → World → Prop} {Q : Exit → Act → World → Prop} {E : Prop} (hgd : o.guard = none) (s x : Operand)
    (ho : o.op = .call { callee := .builtin .copy, args := #[s, x], argTypes := #[147, 147] }) (vs vx v2 : Value) (hs : a.eval s = vs) (hx : a.eval x = vx)
    (hr : (Builtin.copy_ #[147, 147] o.type #[vs, vx]).run Try.prog w = .ok v2 w2) (h : K (a.put o.dst v2) w2) :
    if Region.wanted o (yielded ops a.tmps) = true then Oper.wp Try.prog o a w K Q else E := by
  have hw : Region.wanted o (yielded ops a.tmps) = true := by simp [Region.wanted, hgd]
  rw [if_pos hw]
  unfold Oper.wp execOp
  simp only [ho, resolve, invoke, builtin, Sem.run_bind, Sem.run_pure, Result.andThen_ok, List.map_toArray, List.map_cons, List.map_nil, hs, hx, hr]
  exact h
end Go.Proofs.Ytfipdldoklkciaa
