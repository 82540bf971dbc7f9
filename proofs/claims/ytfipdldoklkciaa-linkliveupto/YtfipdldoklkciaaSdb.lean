/-
  A sender as plain data and in memory; the small calls.
-/
import Derived.Test.YtfipdldoklkciaaSda
import Derived.Lib.MinMax
namespace Go.Proofs.Ytfipdldoklkciaa
open Go.RowKit
set_option linter.unusedVariables false

/-- A load that is not done: its slice, its bytes, its time and wait. -/
structure Ent where
  a : Option Addr
  n : Nat
  c : Nat
  zs : List Int
  time : Int
  wait : Int
  there : Bool
def Ent.val (e : Ent) : Value := .agg #[.slice e.a e.n e.c, .int .i64 e.time, .int .i64 e.wait, .bool e.there]
/-- A sender as plain data. -/
structure St where
  win : Int
  lim : Int
  base : Int
  nxt : Int
  L : Int → Option Ent
def St.f (s : St) : Int → Option Value := fun z => (s.L z).map Ent.val
/-- WHAT ALWAYS HOLDS OF IT. -/
structure Ok (s : St) : Prop where
  w1 : 1 ≤ s.win
  w2 : s.win ≤ 32
  b1 : 1 ≤ s.base
  b2 : s.base ≤ s.nxt
  few : s.nxt - s.base ≤ s.win
  l1 : s.nxt - 1 ≤ s.lim
  l2 : s.lim ≤ 4611686018427387904
  inn : ∀ z, (s.L z).isSome = true ↔ s.base ≤ z ∧ z < s.nxt
  ent : ∀ z e, s.L z = some e → e.zs.length = e.n ∧ e.n ≤ 1200 ∧ 0 ≤ e.time ∧ e.time ≤ 1099511627840 ∧ 1 ≤ e.wait ∧ e.wait ≤ 64
/-- A load's slice, apart from two blocks. -/
structure Ld (w : World) (B sb mb : Nat) (e : Ent) : Prop where
  by_ : Bytes w e.a e.zs
  nil : e.a = none → e.c = 0
  le : e.n ≤ e.c
  mx : e.c ≤ 9223372036854775807
  at_ : ∀ x, e.a = some x → B ≤ x.block ∧ x.block < w.heap.size ∧ x.block ≠ sb ∧ x.block ≠ mb
  ty : ∀ x, e.a = some x → ∃ cs, Blk w x.block cs 5
/-- A SENDER IN MEMORY: its block sb, its map mb, the loads in blocks of their own, all from B on. -/
structure Sd (w : World) (B sb mb : Nat) (s : St) : Prop where
  ok : Ok s
  hs : B ≤ sb
  hm : B ≤ mb
  blk : Blk w sb #[.bool true, .int .i64 s.win, .int .i64 s.lim, .int .i64 s.base, .int .i64 s.nxt, .map (some mb)] 141
  mp : MapI w mb s.f (s.nxt - s.base).toNat
  ld : ∀ z e, s.L z = some e → Ld w B sb mb e
theorem Ld.kept {w w' : World} {B sb mb : Nat} {e : Ent} (h : Ld w B sb mb e) (hb : Below w.heap.size w w') : Ld w' B sb mb e :=
  ⟨h.by_.kept hb, h.nil, h.le, h.mx, fun x hx => ⟨(h.at_ x hx).1, Nat.lt_of_lt_of_le (h.at_ x hx).2.1 hb.size, (h.at_ x hx).2.2⟩, fun x hx => (h.ty x hx).imp fun cs hc => hc.kept hb⟩
theorem Ld.k2 {w w' : World} {B sb mb : Nat} {e : Ent} (h : Ld w B sb mb e) (k : K2 sb mb w w') : Ld w' B sb mb e :=
  ⟨h.by_.k2 k (fun x hx => (h.at_ x hx).2.2), h.nil, h.le, h.mx, fun x hx => ⟨(h.at_ x hx).1, Nat.lt_of_lt_of_le (h.at_ x hx).2.1 k.size, (h.at_ x hx).2.2⟩, fun x hx => (h.ty x hx).imp fun cs hc => (k.block x.block (h.at_ x hx).2.1 (h.at_ x hx).2.2.1 (h.at_ x hx).2.2.2).trans hc⟩
theorem Sd.kept {w w' : World} {B sb mb : Nat} {s : St} (h : Sd w B sb mb s) (hb : Below w.heap.size w w') : Sd w' B sb mb s :=
  ⟨h.ok, h.hs, h.hm, h.blk.kept hb, h.mp.kept hb, fun z e he => (h.ld z e he).kept hb⟩
theorem Sd.drew {w : World} {B sb mb : Nat} {s : St} (h : Sd w B sb mb s) : Sd w.drew B sb mb s := h.kept (Below.refl _ _).drew
theorem Sd.alloc {w : World} {B sb mb : Nat} {s : St} (h : Sd w B sb mb s) (o : Obj) : Sd (w.alloc o) B sb mb s := h.kept ((Below.refl _ _).alloc (Nat.le_refl _) o)
theorem Sd.ne {w : World} {B sb mb : Nat} {s : St} (h : Sd w B sb mb s) : mb ≠ sb := by
  intro e
  obtain ⟨D, ⟨es, clock, h1, _⟩, _⟩ := h.mp
  have h2 := h.blk
  unfold Blk at h2
  rw [← e, h1] at h2
  cases h2
theorem Sd.c0 {w : World} {B sb mb : Nat} {s : St} (h : Sd w B sb mb s) : w.cell? ⟨sb, 0, none⟩ = some (.bool true) := h.blk.cell 0
theorem Sd.c1 {w : World} {B sb mb : Nat} {s : St} (h : Sd w B sb mb s) : w.cell? ⟨sb, 1, none⟩ = some (.int .i64 s.win) := h.blk.cell 1
theorem Sd.c2 {w : World} {B sb mb : Nat} {s : St} (h : Sd w B sb mb s) : w.cell? ⟨sb, 2, none⟩ = some (.int .i64 s.lim) := h.blk.cell 2
theorem Sd.c3 {w : World} {B sb mb : Nat} {s : St} (h : Sd w B sb mb s) : w.cell? ⟨sb, 3, none⟩ = some (.int .i64 s.base) := h.blk.cell 3
theorem Sd.c4 {w : World} {B sb mb : Nat} {s : St} (h : Sd w B sb mb s) : w.cell? ⟨sb, 4, none⟩ = some (.int .i64 s.nxt) := h.blk.cell 4
theorem Sd.c5 {w : World} {B sb mb : Nat} {s : St} (h : Sd w B sb mb s) : w.cell? ⟨sb, 5, none⟩ = some (.map (some mb)) := h.blk.cell 5

/-! ### the small calls -/
theorem made_yes (sb : Nat) (w : World) (h : w.cell? ⟨sb, 0, none⟩ = some (.bool true)) : Calls Try.prog 89 #[.pointer (some ⟨sb, 0, none⟩)] w fun e w' => e = .returned (.bool true) ∧ w' = w := by
  go_enter Try.func89, Try.ntmps89
  go_wp2
  go_ret
  all_goals simp_all
theorem made_nil (w : World) : Calls Try.prog 89 #[.pointer none] w fun e w' => e = .returned (.bool false) ∧ w' = w := by
  go_enter Try.func89, Try.ntmps89
  go_wp2
  go_ret
  all_goals simp_all
theorem made_no (sb : Nat) (w : World) (h : w.cell? ⟨sb, 0, none⟩ = some (.bool false)) : Calls Try.prog 89 #[.pointer (some ⟨sb, 0, none⟩)] w fun e w' => e = .returned (.bool false) ∧ w' = w := by
  go_enter Try.func89, Try.ntmps89
  go_wp2
  go_ret
  all_goals simp_all
def timeB (now : Int) : Bool := decide (0 ≤ now) && decide (now ≤ 1099511627776)
theorem time_any (now : Int) (w : World) : Calls Try.prog 95 #[.int .i64 now] w fun e w' => e = .returned (.bool (timeB now)) ∧ w' = w := by
  by_cases h0 : 0 ≤ now
  · have d0 : decide (now ≥ 0) = true := by simp; omega
    by_cases h1 : now ≤ 1099511627776
    · have d1 : decide (now ≤ 1099511627776) = true := by simp; omega
      have e : timeB now = true := by simp [timeB]; omega
      rw [e]
      clear h0 h1 e
      go_enter Try.func95, Try.ntmps95
      go_wp2
      go_ret
      all_goals simp_all
    · have d1 : decide (now ≤ 1099511627776) = false := by simp; omega
      have e : timeB now = false := by simp [timeB]; omega
      rw [e]
      clear h0 h1 e
      go_enter Try.func95, Try.ntmps95
      go_wp2
      go_ret
      all_goals simp_all
  · have d0 : decide (now ≥ 0) = false := by simp; omega
    have e : timeB now = false := by simp [timeB]; omega
    rw [e]
    clear h0 e
    go_enter Try.func95, Try.ntmps95
    go_wp2
    go_ret
    all_goals simp_all
theorem copy_any (a : Option Addr) (n c : Nat) (zs : List Int) (w : World) (hn : zs.length = n) (h0 : a = none → c = 0) (hb : Bytes w a zs) (hl : n ≤ 1200) :
    Calls Try.prog 97 #[.slice a n c] w fun e w' => ∃ v, e = .returned v ∧ OwnsB w' w.heap.size v zs ∧ Below w.heap.size w w' := by
  go_enter Try.func97, Try.ntmps97
  go_wp2_with (first | (at_builtin; refine wpList_append_bytes rfl _ _ rfl w.heap.size (.slice none 0 0) [] zs rfl (ownsB_nil _ _) _ _ _ rfl hn h0 hb (by simp; omega) (Nat.le_refl _) ?_; intro v' w' h1 h2))
  go_ret
  refine ⟨_, rfl, h1, (Below.refl _ _).grown h2 (Nat.le_refl _) (by simp [Value.ownBlock])⟩
end Go.Proofs.Ytfipdldoklkciaa
