/-
  Texts Qrc, Qrs.
-/
import Derived.Test.YtfipdldoklkciaaGreatGad
import Derived.Deep.RegionHeld3
namespace Go.Proofs.YtfipdldoklkciaaGreat
open Go.RowKit

/-- THE DOCUMENT's CURSOR, IN BLOCK r: its bytes v, its place p, its fault (y, f). -/
def RAt (w : World) (r : Nat) (v : Value) (p y f : Nat) : Prop :=
  w.heap[r]? = some (.cells #[v, .int .i64 p, .int .i64 y, .int .i64 f] 154 (0, 0))

theorem RAt.lt {w : World} {r : Nat} {v : Value} {p y f : Nat} (h : RAt w r v p y f) : r < w.heap.size := (Array.getElem?_eq_some_iff.1 h).1
theorem RAt.c0 {w : World} {r : Nat} {v : Value} {p y f : Nat} (h : RAt w r v p y f) : w.cell? ⟨r, 0, none⟩ = some v := cell_row h 0
theorem RAt.c1 {w : World} {r : Nat} {v : Value} {p y f : Nat} (h : RAt w r v p y f) : w.cell? ⟨r, 1, none⟩ = some (.int .i64 p) := cell_row h 1
theorem RAt.c2 {w : World} {r : Nat} {v : Value} {p y f : Nat} (h : RAt w r v p y f) : w.cell? ⟨r, 2, none⟩ = some (.int .i64 y) := cell_row h 2
theorem RAt.c3 {w : World} {r : Nat} {v : Value} {p y f : Nat} (h : RAt w r v p y f) : w.cell? ⟨r, 3, none⟩ = some (.int .i64 f) := cell_row h 3
theorem RAt.fz {w : World} {r : Nat} {v : Value} {p y f : Nat} (h : RAt w r v p y f) (j : Nat) : w.frozen? ⟨r, j, none⟩ = false := by
  unfold RAt at h
  simp [World.frozen?, h]
theorem RAt.kept {w w' : World} {r : Nat} {v : Value} {p y f : Nat} (h : RAt w r v p y f) (hb : Below w.heap.size w w') : RAt w' r v p y f := by
  unfold RAt
  rw [hb.block r h.lt]
  exact h
theorem RAt.but {w w' : World} {r g : Nat} {v : Value} {p y f : Nat} (h : RAt w r v p y f) (hg : w.grownBy w' (some g)) (hr : r ≠ g) : RAt w' r v p y f := by
  unfold RAt
  rw [hg.block r h.lt (fun e => hr (Option.some.inj e))]
  exact h
theorem RAt.fails {w : World} {r : Nat} {v : Value} {p y f : Nat} (h : RAt w r v p y f) (y' f' : Nat) : RAt ((w.setCell ⟨r, 2, none⟩ (.int .i64 y')).setCell ⟨r, 3, none⟩ (.int .i64 f')) r v p y' f' := by
  unfold RAt at *
  rw [heap_setCell_same _ r 3 _ 154 _ (heap_setCell_same _ r 2 _ 154 _ h)]
  rfl
theorem RAt.goes {w : World} {r : Nat} {v : Value} {p y f : Nat} (h : RAt w r v p y f) (p' : Nat) : RAt (w.setCell ⟨r, 1, none⟩ (.int .i64 p')) r v p' y f := by
  unfold RAt at *
  rw [heap_setCell_same _ r 1 _ 154 _ h]
  rfl

set_option maxHeartbeats 400000 in
theorem fails_any (r p f : Nat) (y' f' : Nat) (v : Value) (w : World) (h : RAt w r v p 0 f) :
    Calls Tryz.prog 119 #[.pointer (some ⟨r, 0, none⟩), .int .i64 y', .int .i64 f'] w fun e w' => (∃ u, e = .returned u) ∧ RAt w' r v p y' f' ∧ w.grownBy w' (some r) := by
  have c2 := h.c2
  have c3 := h.c3
  have z2 := h.fz 2
  have z3 := h.fz 3
  go_enter Tryz.func119, Tryz.ntmps119
  go_wp2
  refine bodyPost_end (results_none rfl _ _ _) rfl ?_
  exact ⟨⟨_, rfl⟩, h.fails y' f', but_setCell (but_setCell (World.grownBy.refl _ _) 2 _) 3 _⟩

/-- 'append([]byte(nil), x...)' as a step of a region that draws its order. -/
theorem step_append_nil {w : World} {ops : Array Oper} {o : Oper} {a : Act} {K : Act → World → Prop} {Q : Exit → Act → World → Prop} {E : Prop} (hgd : o.guard = none) (s x : Operand)
    (ho : o.op = .call { callee := .builtin .append, args := #[s, x], argTypes := #[42, 42] })
    (base : Nat) (zs : List Int) (hs : a.eval s = .slice none 0 0)
    (ad : Option Addr) (m c : Nat) (hx : a.eval x = .slice ad m c) (hm : zs.length = m) (hn : ad = none → c = 0) (hb : Bytes w ad zs)
    (hbytes : m ≤ 140737488355328) (hbase : base ≤ w.heap.size)
    (h : ∀ v' w', OwnsB w' base v' zs → w.grownBy w' none → K (a.put o.dst v') w') :
    if Region.wanted o (yielded ops a.tmps) = true then Oper.wp Tryz.prog o a w K Q else E := by
  have hw : Region.wanted o (yielded ops a.tmps) = true := by simp [Region.wanted, hgd]
  rw [if_pos hw]
  subst hm
  obtain ⟨i, hi, hz, hsz, hby⟩ := info_parts info5
  cases ad with
  | none =>
    have h0 : zs = [] := by
      rcases hb.2.2 with h0 | ⟨_, _, h0, _⟩
      · exact h0
      · cases h0
    subst h0
    rw [hn rfl] at hx
    have hrun := run_append_owned_none (P := Tryz.prog) (w := w) base 42 o.type 5 i 1 Tryz.underlying42 hi _ 0 _ (ownsB_nil w base).1
    unfold Oper.wp
    simp only [List.length_nil] at hx
    simp [execOp, ho, resolve, invoke, builtin, hs, hx, hrun, Result.andThen]
    exact h _ w (ownsB_nil w base) (World.grownBy.refl _ _)
  | some ad =>
    refine wp_append_own w s x 42 ho base 5 i (.int .u8 0) 1 1 Tryz.underlying42 hi hz hsz hby rfl (by decide) (.slice none 0 0) 0 [] hs (ownsB_nil w base).1 ad zs.length c (zs.map (Value.int .u8)) hx (by simp) (bytes_news hb) (bytes_one zs) ?_ (by omega) hbase ?_
    · unfold maxLen; omega
    · intro v' w' ho' hg _
      refine h v' w' ⟨?_, hb.1⟩ hg
      rw [Nat.zero_add, List.nil_append] at ho'
      exact ho'

/-- THE WHOLE OF THE DOCUMENT's CURSOR: in block r, over the bytes 'zs' (at a, n of them), at the place p, with the fault (y, f). -/
def RCur (w : World) (r : Nat) (a : Option Addr) (n cap : Nat) (zs : List Int) (p y f : Nat) : Prop :=
  RAt w r (.slice a n cap) p y f ∧ Bytes w a zs ∧ zs.length = n ∧ p ≤ n ∧ n ≤ 140737488355328 ∧ n ≤ cap ∧ cap ≤ 9223372036854775807 ∧ (a = none → cap = 0) ∧ (∀ x, a = some x → zs ≠ [] → x.block ≠ r) ∧ (∀ x, a = some x → 0 < cap → x.spot = none)

theorem RCur.kept {w w' : World} {r : Nat} {a : Option Addr} {n cap : Nat} {zs : List Int} {p y f : Nat} (h : RCur w r a n cap zs p y f) (hb : Below w.heap.size w w') : RCur w' r a n cap zs p y f := by
  obtain ⟨h1, h2, h3⟩ := h
  exact ⟨h1.kept hb, h2.kept hb, h3⟩

theorem no_bytes (w : World) (a : Option Addr) : Bytes w a [] := ⟨by simp, by simp, .inl rfl⟩
theorem Bytes.but' {w w' : World} {g : Nat} {a : Option Addr} {zs : List Int} (h : Bytes w a zs) (hg : w.grownBy w' (some g)) (ha : ∀ x, a = some x → zs ≠ [] → x.block ≠ g) : Bytes w' a zs := by
  by_cases h0 : zs = []
  · subst h0
    exact no_bytes _ _
  · exact h.but hg (fun x hx => ha x hx h0)

theorem RCur.turned {w w' : World} {r : Nat} {a : Option Addr} {n cap : Nat} {zs : List Int} {p y f p' y' f' : Nat} (h : RCur w r a n cap zs p y f) (hg : w.grownBy w' (some r)) (hc : RAt w' r (.slice a n cap) p' y' f') (hp : p' ≤ n) : RCur w' r a n cap zs p' y' f' := by
  obtain ⟨h1, h2, h3, h4, h5, h6, h7, h8, h9, h10⟩ := h
  exact ⟨hc, h2.but' hg h9, h3, hp, h5, h6, h7, h8, h9, h10⟩

theorem RCur.other {w w' : World} {r g : Nat} {a : Option Addr} {n cap : Nat} {zs : List Int} {p y f : Nat} (h : RCur w r a n cap zs p y f) (hg : w.grownBy w' (some g)) (hr : r ≠ g) (ha : ∀ x, a = some x → zs ≠ [] → x.block ≠ g) : RCur w' r a n cap zs p y f := by
  obtain ⟨h1, h2, h3⟩ := h
  exact ⟨h1.but hg hr, h2.but' hg ha, h3⟩

set_option maxHeartbeats 400000 in
theorem rtake_stop (r p y f n cap : Nat) (a : Option Addr) (zs : List Int) (k : Int) (w : World) (h : RCur w r a n cap zs p y f) (hy : y ≠ 0) :
    Calls Tryz.prog 102 #[.pointer (some ⟨r, 0, none⟩), .int .i64 k] w fun e w' => e = .returned (.slice none 0 0) ∧ w' = w := by
  have c2 := h.1.c2
  have hyb : ((y : Int) != 0) = true := by rw [bne_iff_ne]; omega
  go_enter Tryz.func102, Tryz.ntmps102
  go_wp2
  go_ret
  exact ⟨rfl, rfl⟩

set_option maxHeartbeats 400000 in
theorem rtake_arg (r p f n cap : Nat) (a : Option Addr) (zs : List Int) (k : Int) (w : World) (h : RCur w r a n cap zs p 0 f) (hk : k < 0) :
    Calls Tryz.prog 102 #[.pointer (some ⟨r, 0, none⟩), .int .i64 k] w fun e w' => e = .returned (.slice none 0 0) ∧ RCur w' r a n cap zs p 1 p ∧ w.grownBy w' (some r) := by
  have c1 := h.1.c1
  have c2 := h.1.c2
  have hp : p ≤ n := h.2.2.2.1
  go_enter Tryz.func102, Tryz.ntmps102
  go_wp2_with fail
  refine (fails_any r p f 1 p _ w h.1).mono ?_
  rintro e w1 ⟨⟨u, rfl⟩, hc1, hg1⟩
  go_wp2
  go_ret
  exact ⟨rfl, h.turned hg1 hc1 hp, hg1⟩

set_option maxHeartbeats 400000 in
theorem rtake_end (r p f n cap : Nat) (a : Option Addr) (zs : List Int) (k : Int) (w : World) (h : RCur w r a n cap zs p 0 f) (hk0 : 0 ≤ k) (hk : ((n - p : Nat) : Int) < k) :
    Calls Tryz.prog 102 #[.pointer (some ⟨r, 0, none⟩), .int .i64 k] w fun e w' => e = .returned (.slice none 0 0) ∧ RCur w' r a n cap zs p 3 n ∧ w.grownBy w' (some r) := by
  have c0 := h.1.c0
  have c1 := h.1.c1
  have c2 := h.1.c2
  have hp : p ≤ n := h.2.2.2.1
  have hn : n ≤ 140737488355328 := h.2.2.2.2.1
  have hs : ((n : Int) - (p : Int)) = ((n - p : Nat) : Int) := by omega
  have hd : decide (((n - p : Nat) : Int) < k) = true := by simpa using hk
  have hd' : ((n - p : Nat) : Int) < k := hk
  have hd2 : ((n : Int) - (p : Int)) < k := by omega
  go_enter Tryz.func102, Tryz.ntmps102
  go_wp2
  go_quiet (fail)
  go_wp2_with fail
  refine (fails_any r p f 3 n _ _ (by exact h.1)).mono ?_
  rintro e w1 ⟨⟨u, rfl⟩, hc1, hg1'⟩
  have hg1 : w.grownBy w1 (some r) := ⟨hg1'.os, hg1'.tape, hg1'.output, hg1'.size, hg1'.block⟩
  go_wp2
  go_ret
  exact ⟨rfl, h.turned hg1 hc1 hp, hg1⟩

theorem OwnsB.but {w w' : World} {base r : Nat} {v : Value} {zs : List Int} (h : OwnsB w base v zs) (hg : w.grownBy w' (some r)) (hr : r < base) : OwnsB w' base v zs :=
  ⟨h.1.kept hg (.inr fun e => by have := (h.1.lt r e).1; omega), h.2⟩

set_option maxHeartbeats 1000000 in
theorem rtake_mid (r p f n cap k b off : Nat) (zs : List Int) (w : World) (h : RCur w r (some ⟨b, off, none⟩) n cap zs p 0 f) (hk : p + k ≤ n) (hpc : p < cap) :
    Calls Tryz.prog 102 #[.pointer (some ⟨r, 0, none⟩), .int .i64 k] w fun e w' => ∃ v, e = .returned v ∧ OwnsB w' w.heap.size v ((zs.drop p).take k) ∧ RCur w' r (some ⟨b, off, none⟩) n cap zs (p + k) 0 f ∧ w.grownBy w' (some r) := by
  have c0 := h.1.c0
  have c1 := h.1.c1
  have c2 := h.1.c2
  have hp : p ≤ n := h.2.2.2.1
  have hn : n ≤ 140737488355328 := h.2.2.2.2.1
  have hcap : n ≤ cap := h.2.2.2.2.2.1
  have hcm : cap ≤ 9223372036854775807 := h.2.2.2.2.2.2.1
  have hs : ((n : Int) - (p : Int)) = ((n - p : Nat) : Int) := by omega
  have hd : decide (((n - p : Nat) : Int) < (k : Int)) = false := by simp; omega
  have e1 : (cap = p) = False := by simp; omega
  have e2 : p + k - p = k := by omega
  have e3 : (p : Int) + (k : Int) ≤ (cap : Int) := by omega
  have e4 : IntKind.i64.wrap ((p : Int) + (k : Int)) = (p : Int) + (k : Int) := by rw [IntKind.wrap_i64]; omega
  have e5 : (p : Int) ≤ (p : Int) + (k : Int) := by omega
  have e6 : (0 : Int) ≤ (p : Int) + (k : Int) := by omega
  have e7 : (0 : Int) ≤ (p : Int) := by omega
  have hB : Hid (Bytes w (some ⟨b, off + p, none⟩) ((zs.drop p).take k)) := (h.2.1.drop p).take k
  have hL : Hid (((zs.drop p).take k).length = k) := by
    show _ = _
    have := h.2.2.1
    rw [List.length_take, List.length_drop]
    omega
  have hH : Hid (RCur w r (some ⟨b, off, none⟩) n cap zs p 0 f) := h
  clear h
  go_enter Tryz.func102, Tryz.ntmps102
  go_wp2
  go_quiet (fail)
  clear hd hs c2
  go_wp2_with fail
  go_region_held3 (fun w' => w'.cell? ⟨r, 0, none⟩ = some (.slice (some ⟨b, off, none⟩) n cap) ∧ w'.cell? ⟨r, 1, none⟩ = some (.int .i64 p)) (first | exact ⟨hH.out.1.c0, hH.out.1.c1⟩ | exact ⟨hc3.out.1.c0, hc3.out.1.c1⟩) ((refine step_append_nil (by rfl) _ _ (by rfl) w.heap.size ((zs.drop p).take k) (by rfl) (some ⟨b, off + p, none⟩) _ _ (by rfl) (by rw [hL.out]; try exact e2.symm) (by simp) (by exact hB.out) (by omega) (by exact Nat.le_refl _) ?_; intro v3 w3 ho3 hg3'; have hg3 : w.grownBy w3 none := ⟨hg3'.os, hg3'.tape, hg3'.output, hg3'.size, hg3'.block⟩; have hb3 : Below w.heap.size w w3 := (Below.refl _ _).grown hg3 (Nat.le_refl _) (by simp); have hc3 : Hid (RCur w3 r (some ⟨b, off, none⟩) n cap zs p 0 f) := hH.out.kept hb3; clear hg3'))
  all_goals
    have d1 := hc3.out.1.c1
    have z1 := hc3.out.1.fz 1
    go_wp2
    go_ret
    have hg4 := but_setCell (World.grownBy.refl w3 (some r)) 1 (.int .i64 ((p + k : Nat) : Int))
    exact ⟨v3, rfl, ho3.but hg4 hH.out.1.lt, hc3.out.turned hg4 (hc3.out.1.goes (p + k)) hk, (Below.but hb3 _).trans hg4⟩

set_option maxHeartbeats 1000000 in
theorem rtake_none (r f : Nat) (zs : List Int) (w : World) (h : RCur w r none 0 0 zs 0 0 f) :
    Calls Tryz.prog 102 #[.pointer (some ⟨r, 0, none⟩), .int .i64 0] w fun e w' => ∃ v, e = .returned v ∧ OwnsB w' w.heap.size v [] ∧ RCur w' r none 0 0 zs 0 0 f ∧ w.grownBy w' (some r) := by
  have c0 := h.1.c0
  have c1 := h.1.c1
  have c2 := h.1.c2
  have e4 : IntKind.i64.wrap 0 = 0 := by decide
  have hH : Hid (RCur w r none 0 0 zs 0 0 f) := h
  clear h
  go_enter Tryz.func102, Tryz.ntmps102
  go_wp2
  go_quiet (fail)
  clear c2
  go_wp2_with fail
  go_region_held3 (fun w' => w'.cell? ⟨r, 0, none⟩ = some (.slice none 0 0) ∧ w'.cell? ⟨r, 1, none⟩ = some (.int .i64 0)) (first | exact ⟨hH.out.1.c0, hH.out.1.c1⟩ | exact ⟨hc3.out.1.c0, hc3.out.1.c1⟩) ((refine step_append_nil (by rfl) _ _ (by rfl) w.heap.size [] (by rfl) none 0 0 (by rfl) rfl (by simp) (no_bytes _ _) (by omega) (by exact Nat.le_refl _) ?_; intro v3 w3 ho3 hg3'; have hg3 : w.grownBy w3 none := ⟨hg3'.os, hg3'.tape, hg3'.output, hg3'.size, hg3'.block⟩; have hb3 : Below w.heap.size w w3 := (Below.refl _ _).grown hg3 (Nat.le_refl _) (by simp); have hc3 : Hid (RCur w3 r none 0 0 zs 0 0 f) := hH.out.kept hb3; clear hg3'))
  all_goals
    have d1 := hc3.out.1.c1
    have z1 := hc3.out.1.fz 1
    go_wp2
    go_ret
    have hg4 := but_setCell (World.grownBy.refl w3 (some r)) 1 (.int .i64 ((0 : Nat) : Int))
    exact ⟨v3, rfl, ho3.but hg4 hH.out.1.lt, hc3.out.turned hg4 (hc3.out.1.goes 0) (Nat.le_refl _), (Below.but hb3 _).trans hg4⟩

set_option maxHeartbeats 1000000 in
theorem rtake_last (r f n : Nat) (x : Addr) (zs : List Int) (w : World) (h : RCur w r (some x) n n zs n 0 f) :
    Calls Tryz.prog 102 #[.pointer (some ⟨r, 0, none⟩), .int .i64 0] w fun e w' => ∃ v, e = .returned v ∧ OwnsB w' w.heap.size v [] ∧ RCur w' r (some x) n n zs n 0 f ∧ w.grownBy w' (some r) := by
  have c0 := h.1.c0
  have c1 := h.1.c1
  have c2 := h.1.c2
  have hn : n ≤ 140737488355328 := h.2.2.2.2.1
  have e4 : IntKind.i64.wrap (n : Int) = (n : Int) := by rw [IntKind.wrap_i64]; omega
  have e8 : (n : Int) ≤ (n : Int) := by omega
  have e5 : (0 : Int) ≤ (n : Int) := by omega
  have e6 : (n : Int) - (n : Int) = 0 := by omega
  have e7 : (n : Int) + 0 = (n : Int) := by omega
  have hH : Hid (RCur w r (some x) n n zs n 0 f) := h
  clear h
  go_enter Tryz.func102, Tryz.ntmps102
  go_wp2
  go_quiet (fail)
  clear c2
  go_wp2_with fail
  go_region_held3 (fun w' => w'.cell? ⟨r, 0, none⟩ = some (.slice (some x) n n) ∧ w'.cell? ⟨r, 1, none⟩ = some (.int .i64 n)) (first | exact ⟨hH.out.1.c0, hH.out.1.c1⟩ | exact ⟨hc3.out.1.c0, hc3.out.1.c1⟩) ((refine step_append_nil (by rfl) _ _ (by rfl) w.heap.size [] (by rfl) (some x) 0 0 (by rfl) rfl (by simp) (no_bytes _ _) (by omega) (by exact Nat.le_refl _) ?_; intro v3 w3 ho3 hg3'; have hg3 : w.grownBy w3 none := ⟨hg3'.os, hg3'.tape, hg3'.output, hg3'.size, hg3'.block⟩; have hb3 : Below w.heap.size w w3 := (Below.refl _ _).grown hg3 (Nat.le_refl _) (by simp); have hc3 : Hid (RCur w3 r (some x) n n zs n 0 f) := hH.out.kept hb3; clear hg3'))
  all_goals
    have d1 := hc3.out.1.c1
    have z1 := hc3.out.1.fz 1
    go_wp2
    go_ret
    have hg4 := but_setCell (World.grownBy.refl w3 (some r)) 1 (.int .i64 ((n : Nat) : Int))
    exact ⟨v3, rfl, ho3.but hg4 hH.out.1.lt, hc3.out.turned hg4 (hc3.out.1.goes n) (Nat.le_refl _), (Below.but hb3 _).trans hg4⟩
end Go.Proofs.YtfipdldoklkciaaGreat
namespace Go.Proofs.YtfipdldoklkciaaGreat
open Go.RowKit
theorem fails_at (r p f : Nat) (y' f' : Nat) (Y F : Int) (v : Value) (w : World) (h : RAt w r v p 0 f) (hY : Y = (y' : Int)) (hF : F = (f' : Int)) :
    Calls Tryz.prog 119 #[.pointer (some ⟨r, 0, none⟩), .int .i64 Y, .int .i64 F] w fun e w' => (∃ u, e = .returned u) ∧ RAt w' r v p y' f' ∧ w.grownBy w' (some r) := by
  subst hY
  subst hF
  exact fails_any r p f y' f' v w h


set_option maxHeartbeats 400000 in
theorem rshort_stop (r p y f n cap : Nat) (a : Option Addr) (zs : List Int) (w : World) (h : RCur w r a n cap zs p y f) (hy : y ≠ 0) :
    Calls Tryz.prog 101 #[.pointer (some ⟨r, 0, none⟩)] w fun e w' => e = .returned (.int .u64 0) ∧ w' = w := by
  have c2 := h.1.c2
  have hyb : ((y : Int) != 0) = true := by rw [bne_iff_ne]; omega
  go_enter Tryz.func101, Tryz.ntmps101
  go_wp2
  go_ret
  exact ⟨rfl, rfl⟩

set_option maxRecDepth 100000 in
set_option maxHeartbeats 4000000 in
theorem rshort_go (r p f n cap : Nat) (a : Option Addr) (zs : List Int) (w : World) (h : RCur w r a n cap zs p 0 f) :
    Calls Tryz.prog 101 #[.pointer (some ⟨r, 0, none⟩)] w fun e w' => e = .returned (.int .u64 ((sS zs p 0 f).1 : Nat)) ∧ RCur w' r a n cap zs (sS zs p 0 f).2.1 (sS zs p 0 f).2.2.1 (sS zs p 0 f).2.2.2 ∧ w.grownBy w' (some r) := by
  have hn : n ≤ 140737488355328 := h.2.2.2.2.1
  have hcap : n ≤ cap := h.2.2.2.2.2.1
  have hl : Hid (zs.length = n) := h.2.2.1
  have hz : Hid (∀ c ∈ zs, 0 ≤ c ∧ c < 256) := h.2.1.1
  have c2 := h.1.c2
  go_enter Tryz.func101, Tryz.ntmps101
  go_wp2_with fail
  go_loopw [3, 4] (fun t i wr => ∃ I A : Nat, I ≤ 9 ∧ p + I ≤ n ∧ t = .int .u64 A ∧ i = .int .i64 I ∧ Hid (A < 128 ^ I) ∧ Hid (rdS (zs.drop p) 0 0 = rdS (zs.drop (p + I)) I A) ∧ Hid (RCur wr r a n cap zs p 0 f) ∧ w.grownBy wr (some r)) (fun _ i _ => 9 - (intOf i).toNat)
  case atStart => exact ⟨0, 0, by omega, h.2.2.2.1, rfl, rfl, by show _ < _; simp, rfl, h, World.grownBy.refl _ _⟩
  case round =>
    obtain ⟨I, A, hI, hpI, rfl, rfl, hA, hrd, hcur, hgr⟩ := hrel
    have hp : p ≤ n := by omega
    clear h c2
    have c0 := hcur.out.1.c0
    have c1 := hcur.out.1.c1
    by_cases hlt : p + I < n
    · obtain ⟨x, hx⟩ : ∃ x, zs[p + I]? = some x := ⟨_, List.getElem?_eq_getElem (by rw [hl.out]; exact hlt)⟩
      have hx' : Hid (zs.drop (p + I) = x :: zs.drop (p + I + 1)) := by
        obtain ⟨hx1, hx2⟩ := List.getElem?_eq_some_iff.1 hx
        show _ = _
        rw [List.drop_eq_getElem_cons hx1, hx2]
      have hx0 : 0 ≤ x ∧ x < 256 := hz.out x (List.mem_of_getElem? hx)
      obtain ⟨hx1, hx2⟩ := hx0
      obtain ⟨b, off, rfl⟩ := bytes_some hcur.out.2.1 (by rw [hl.out]; omega)
      have hcell : wr.cell? ⟨b, off + (p + I), none⟩ = some (.int .u8 x) := by
        obtain ⟨_, _, h0 | ⟨b', off', h1, hcell⟩⟩ := hcur.out.2.1
        · have := hl.out
          rw [h0] at this
          simp at this
          omega
        · cases h1
          rw [hcell (p + I) (by rw [hl.out]; exact hlt), List.getD_eq_getElem?_getD, hx]
          rfl
      clear hx
      go_wp2_with fail
      go_quiet (fail)
      have hc2 : Hid (RCur (wr.drewN nq) r (some ⟨b, off, none⟩) n cap zs p 0 f) := hcur.out.kept (below_drewN (Below.refl _ _) nq)
      have hg2 : w.grownBy (wr.drewN nq) (some r) := but_drewN hgr nq
      have hcell2 : (wr.drewN nq).cell? ⟨b, off + (p + I), none⟩ = some (.int .u8 x) := hcell
      clear hcur hgr hcell c0 c1
      generalize wr.drewN nq = w2 at *
      have c0 := hc2.out.1.c0
      have c1 := hc2.out.1.c1
      clear nq
      go_wp2_with fail
      go_quiet (fail)
      have hc3 : Hid (RCur (w2.drewN nq) r (some ⟨b, off, none⟩) n cap zs p 0 f) := hc2.out.kept (below_drewN (Below.refl _ _) nq)
      have hg3 : w.grownBy (w2.drewN nq) (some r) := but_drewN hg2 nq
      clear hc2 hg2 hcell2 c0 c1
      generalize w2.drewN nq = w3 at *
      by_cases hi : I = 0
      · by_cases hq : x = 128
        · have hb1 : ((I : Int) == 0) = true := by rw [beq_iff_eq]; omega
          have hb2 : (x == 128) = true := by rw [beq_iff_eq]; omega
          have hcase : Hid (((I = 0 ∧ x = 128) ∨ (I = 9 ∧ (128 ≤ x ∨ 144115188075855872 ≤ A)))) := by show ((I = 0 ∧ x = 128) ∨ (I = 9 ∧ (128 ≤ x ∨ 144115188075855872 ≤ A))); omega
          clear hi hq
          have hr : Hid (rdS (zs.drop p) 0 0 = (5, 0, I)) := by
            show _ = _
            rw [hrd.out, hx'.out, rdS, if_pos hcase.out]
          have d1 := hc3.out.1.c1
          clear hrd hx' hA hcase
          go_wp2_with fail
          refine (fails_at r p f 5 (p + I) 5 ((p : Int) + (I : Int)) _ _ hc3.out.1 rfl (by omega)).mono ?_
          rintro e w4 ⟨⟨u4, rfl⟩, hc4, hg4⟩
          go_wp2
          go_ret
          have hs : sS zs p 0 f = (0, p, 5, p + I) := by simp [sS, hr.out]
          rw [hs]
          exact ⟨rfl, hc3.out.turned hg4 hc4 hp, hg3.trans hg4⟩
        · have h00 : A < 1 := by have := hA.out; rw [hi] at this; simpa using this
          have hb1 : ((I : Int) == 0) = true := by rw [beq_iff_eq]; omega
          have hb2 : (x == 128) = false := by rw [beq_eq_false_iff_ne]; omega
          have hb3 : ((I : Int) == 9) = false := by rw [beq_eq_false_iff_ne]; omega
          have hb5 : ((A : Int) / 144115188075855872 != 0) = false := by rw [bne_eq_false_iff_eq]; omega
          have hcase : Hid (¬ ((I = 0 ∧ x = 128) ∨ (I = 9 ∧ (128 ≤ x ∨ 144115188075855872 ≤ A)))) := by show ¬ ((I = 0 ∧ x = 128) ∨ (I = 9 ∧ (128 ≤ x ∨ 144115188075855872 ≤ A))); omega
          have hA57 : Hid (A < 144115188075855872) := by show _ < _; omega
          clear hi hq h00
          have hmask := mask_in x hx1 hx2
          have hor := join7 A (x % 128) hA57.out (by omega) (by omega)
          obtain ⟨B, hB0⟩ : ∃ B : Nat, Hid (B = A * 128 + (x % 128).toNat) := ⟨_, rfl⟩
          rw [← hB0.out] at hor
          have hA57' : A < 144115188075855872 := hA57.out
          by_cases hx8 : x < 128
          · have hr : Hid (rdS (zs.drop p) 0 0 = (0, B, I + 1)) := by
              show _ = _
              rw [hrd.out, hx'.out, rdS, if_neg hcase.out, if_pos hx8, hB0.out]
              simp only [Prod.mk.injEq, true_and, and_true]
              omega
            have hx8' : decide (x < 128) = true := by simpa using hx8
            have d1 := hc3.out.1.c1
            have z1 := hc3.out.1.fz 1
            clear hrd hx' hA hcase
            go_wp2
            go_ret
            have hg4 := but_setCell (World.grownBy.refl w3 (some r)) 1 (.int .i64 ((p + (I + 1) : Nat) : Int))
            have hs : sS zs p 0 f = (B, p + (I + 1), 0, f) := by simp [sS, hr.out]
            rw [hs]
            exact ⟨rfl, hc3.out.turned hg4 (hc3.out.1.goes (p + (I + 1))) (show p + (I + 1) ≤ n by omega), hg3.trans hg4⟩
          · have hI8 : I + 1 ≤ 9 := by have := hcase.out; omega
            have hr : Hid (rdS (zs.drop p) 0 0 = rdS (zs.drop (p + (I + 1))) (I + 1) B) := by
              show _ = _
              rw [hrd.out, hx'.out, rdS, if_neg hcase.out, if_neg hx8, hB0.out, show A * 128 + (x - 128).toNat = A * 128 + (x % 128).toNat from by omega]
              rfl
            have hA' : Hid (B < 128 ^ (I + 1)) := by
              show _ < _
              have h2 := hA.out
              rw [hB0.out, Nat.pow_succ]
              omega
            have hx8' : decide (x < 128) = false := by simpa using hx8
            clear hrd hx' hA hcase
            go_wp2
            go_roundw
            case rel => exact ⟨I + 1, B, hI8, by omega, rfl, by go_num, hA', hr, hc3, hg3⟩
            case measure => simp [intOf]; omega
      · by_cases h9 : I = 9
        · by_cases hq : 128 ≤ x
          · have hb1 : ((I : Int) == 0) = false := by rw [beq_eq_false_iff_ne]; omega
            have hb3 : ((I : Int) == 9) = true := by rw [beq_iff_eq]; omega
            have hb4 : decide (128 ≤ x) = true := by simp; omega
            have hcase : Hid (((I = 0 ∧ x = 128) ∨ (I = 9 ∧ (128 ≤ x ∨ 144115188075855872 ≤ A)))) := by show ((I = 0 ∧ x = 128) ∨ (I = 9 ∧ (128 ≤ x ∨ 144115188075855872 ≤ A))); omega
            clear hi h9 hq
            have hr : Hid (rdS (zs.drop p) 0 0 = (5, 0, I)) := by
              show _ = _
              rw [hrd.out, hx'.out, rdS, if_pos hcase.out]
            have d1 := hc3.out.1.c1
            clear hrd hx' hA hcase
            go_wp2_with fail
            refine (fails_at r p f 5 (p + I) 5 ((p : Int) + (I : Int)) _ _ hc3.out.1 rfl (by omega)).mono ?_
            rintro e w4 ⟨⟨u4, rfl⟩, hc4, hg4⟩
            go_wp2
            go_ret
            have hs : sS zs p 0 f = (0, p, 5, p + I) := by simp [sS, hr.out]
            rw [hs]
            exact ⟨rfl, hc3.out.turned hg4 hc4 hp, hg3.trans hg4⟩
          · by_cases hv : 144115188075855872 ≤ A
            · have hAb : A < 18446744073709551616 := by have := hA.out; rw [h9] at this; omega
              have hb1 : ((I : Int) == 0) = false := by rw [beq_eq_false_iff_ne]; omega
              have hb3 : ((I : Int) == 9) = true := by rw [beq_iff_eq]; omega
              have hb4 : decide (128 ≤ x) = false := by simp; omega
              have hb5 : ((A : Int) / 144115188075855872 != 0) = true := by rw [bne_iff_ne]; omega
              have hcase : Hid (((I = 0 ∧ x = 128) ∨ (I = 9 ∧ (128 ≤ x ∨ 144115188075855872 ≤ A)))) := by show ((I = 0 ∧ x = 128) ∨ (I = 9 ∧ (128 ≤ x ∨ 144115188075855872 ≤ A))); omega
              clear hi h9 hq hv
              have hr : Hid (rdS (zs.drop p) 0 0 = (5, 0, I)) := by
                show _ = _
                rw [hrd.out, hx'.out, rdS, if_pos hcase.out]
              have d1 := hc3.out.1.c1
              clear hrd hx' hA hcase
              go_wp2_with fail
              refine (fails_at r p f 5 (p + I) 5 ((p : Int) + (I : Int)) _ _ hc3.out.1 rfl (by omega)).mono ?_
              rintro e w4 ⟨⟨u4, rfl⟩, hc4, hg4⟩
              go_wp2
              go_ret
              have hs : sS zs p 0 f = (0, p, 5, p + I) := by simp [sS, hr.out]
              rw [hs]
              exact ⟨rfl, hc3.out.turned hg4 hc4 hp, hg3.trans hg4⟩
            · have hb1 : ((I : Int) == 0) = false := by rw [beq_eq_false_iff_ne]; omega
              have hb3 : ((I : Int) == 9) = true := by rw [beq_iff_eq]; omega
              have hb4 : decide (128 ≤ x) = false := by simp; omega
              have hb5 : ((A : Int) / 144115188075855872 != 0) = false := by rw [bne_eq_false_iff_eq]; omega
              have hcase : Hid (¬ ((I = 0 ∧ x = 128) ∨ (I = 9 ∧ (128 ≤ x ∨ 144115188075855872 ≤ A)))) := by show ¬ ((I = 0 ∧ x = 128) ∨ (I = 9 ∧ (128 ≤ x ∨ 144115188075855872 ≤ A))); omega
              have hA57 : Hid (A < 144115188075855872) := by show _ < _; omega
              clear hi h9 hq hv
              have hmask := mask_in x hx1 hx2
              have hor := join7 A (x % 128) hA57.out (by omega) (by omega)
              obtain ⟨B, hB0⟩ : ∃ B : Nat, Hid (B = A * 128 + (x % 128).toNat) := ⟨_, rfl⟩
              rw [← hB0.out] at hor
              have hA57' : A < 144115188075855872 := hA57.out
              by_cases hx8 : x < 128
              · have hr : Hid (rdS (zs.drop p) 0 0 = (0, B, I + 1)) := by
                  show _ = _
                  rw [hrd.out, hx'.out, rdS, if_neg hcase.out, if_pos hx8, hB0.out]
                  simp only [Prod.mk.injEq, true_and, and_true]
                  omega
                have hx8' : decide (x < 128) = true := by simpa using hx8
                have d1 := hc3.out.1.c1
                have z1 := hc3.out.1.fz 1
                clear hrd hx' hA hcase
                go_wp2
                go_ret
                have hg4 := but_setCell (World.grownBy.refl w3 (some r)) 1 (.int .i64 ((p + (I + 1) : Nat) : Int))
                have hs : sS zs p 0 f = (B, p + (I + 1), 0, f) := by simp [sS, hr.out]
                rw [hs]
                exact ⟨rfl, hc3.out.turned hg4 (hc3.out.1.goes (p + (I + 1))) (show p + (I + 1) ≤ n by omega), hg3.trans hg4⟩
              · have hI8 : I + 1 ≤ 9 := by have := hcase.out; omega
                have hr : Hid (rdS (zs.drop p) 0 0 = rdS (zs.drop (p + (I + 1))) (I + 1) B) := by
                  show _ = _
                  rw [hrd.out, hx'.out, rdS, if_neg hcase.out, if_neg hx8, hB0.out, show A * 128 + (x - 128).toNat = A * 128 + (x % 128).toNat from by omega]
                  rfl
                have hA' : Hid (B < 128 ^ (I + 1)) := by
                  show _ < _
                  have h2 := hA.out
                  rw [hB0.out, Nat.pow_succ]
                  omega
                have hx8' : decide (x < 128) = false := by simpa using hx8
                clear hrd hx' hA hcase
                go_wp2
                go_roundw
                case rel => exact ⟨I + 1, B, hI8, by omega, rfl, by go_num, hA', hr, hc3, hg3⟩
                case measure => simp [intOf]; omega
        · have hA8 : A < 72057594037927936 := by
            have h1 : 128 ^ I ≤ 128 ^ 8 := Nat.pow_le_pow_right (by decide) (by omega)
            have h2 := hA.out
            omega
          have hb1 : ((I : Int) == 0) = false := by rw [beq_eq_false_iff_ne]; omega
          have hb3 : ((I : Int) == 9) = false := by rw [beq_eq_false_iff_ne]; omega
          have hb5 : ((A : Int) / 144115188075855872 != 0) = false := by rw [bne_eq_false_iff_eq]; omega
          have hcase : Hid (¬ ((I = 0 ∧ x = 128) ∨ (I = 9 ∧ (128 ≤ x ∨ 144115188075855872 ≤ A)))) := by show ¬ ((I = 0 ∧ x = 128) ∨ (I = 9 ∧ (128 ≤ x ∨ 144115188075855872 ≤ A))); omega
          have hA57 : Hid (A < 144115188075855872) := by show _ < _; omega
          clear hi h9 hA8
          have hmask := mask_in x hx1 hx2
          have hor := join7 A (x % 128) hA57.out (by omega) (by omega)
          obtain ⟨B, hB0⟩ : ∃ B : Nat, Hid (B = A * 128 + (x % 128).toNat) := ⟨_, rfl⟩
          rw [← hB0.out] at hor
          have hA57' : A < 144115188075855872 := hA57.out
          by_cases hx8 : x < 128
          · have hr : Hid (rdS (zs.drop p) 0 0 = (0, B, I + 1)) := by
              show _ = _
              rw [hrd.out, hx'.out, rdS, if_neg hcase.out, if_pos hx8, hB0.out]
              simp only [Prod.mk.injEq, true_and, and_true]
              omega
            have hx8' : decide (x < 128) = true := by simpa using hx8
            have d1 := hc3.out.1.c1
            have z1 := hc3.out.1.fz 1
            clear hrd hx' hA hcase
            go_wp2
            go_ret
            have hg4 := but_setCell (World.grownBy.refl w3 (some r)) 1 (.int .i64 ((p + (I + 1) : Nat) : Int))
            have hs : sS zs p 0 f = (B, p + (I + 1), 0, f) := by simp [sS, hr.out]
            rw [hs]
            exact ⟨rfl, hc3.out.turned hg4 (hc3.out.1.goes (p + (I + 1))) (show p + (I + 1) ≤ n by omega), hg3.trans hg4⟩
          · have hI8 : I + 1 ≤ 9 := by have := hcase.out; omega
            have hr : Hid (rdS (zs.drop p) 0 0 = rdS (zs.drop (p + (I + 1))) (I + 1) B) := by
              show _ = _
              rw [hrd.out, hx'.out, rdS, if_neg hcase.out, if_neg hx8, hB0.out, show A * 128 + (x - 128).toNat = A * 128 + (x % 128).toNat from by omega]
              rfl
            have hA' : Hid (B < 128 ^ (I + 1)) := by
              show _ < _
              have h2 := hA.out
              rw [hB0.out, Nat.pow_succ]
              omega
            have hx8' : decide (x < 128) = false := by simpa using hx8
            clear hrd hx' hA hcase
            go_wp2
            go_roundw
            case rel => exact ⟨I + 1, B, hI8, by omega, rfl, by go_num, hA', hr, hc3, hg3⟩
            case measure => simp [intOf]; omega
    · have hr : Hid (rdS (zs.drop p) 0 0 = (3, 0, I)) := by
        show _ = _
        rw [hrd.out, List.drop_eq_nil_of_le (by rw [hl.out]; omega), rdS]
      clear hrd hA
      go_wp2_with fail
      go_quiet (fail)
      go_wp2_with fail
      refine (fails_at r p f 3 n _ _ _ _ (by exact hcur.out.1) rfl rfl).mono ?_
      rintro e w4 ⟨⟨u4, rfl⟩, hc4, hg4'⟩
      have hg4 : wr.grownBy w4 (some r) := ⟨hg4'.os, hg4'.tape, hg4'.output, hg4'.size, hg4'.block⟩
      go_wp2
      go_ret
      have hs : sS zs p 0 f = (0, p, 3, n) := by simp [sS, hr.out, hl.out]
      rw [hs]
      exact ⟨rfl, hcur.out.turned hg4 hc4 hp, hgr.trans hg4⟩
end Go.Proofs.YtfipdldoklkciaaGreat
