/-
  A session begun.
-/
import Derived.Test.YtmohfblkfdkloaaSsd
import Derived.Deep.RegionLaw
namespace Go.Proofs.Ytmohfblkfdkloaa
open Go.RowKit
set_option linter.unusedVariables false
def zS : Se := ⟨0, 0, 0, 0⟩
/-- WHAT BEGIN ANSWERS. -/
def begE (T : Tb) (d : Int) : Int := if d = 0 then 1 else if T.U d then 9 else if (T.L.length : Int) = T.most then 14 else 0
def begS (T : Tb) (d f : Int) : Se := if begE T d = 0 then ⟨d, 1, f, T.time⟩ else zS
def begA (T : Tb) (d f : Int) : Tb := if begE T d = 0 then { T with L := T.L ++ [⟨d, 1, f, T.time⟩], U := fun x => if x = d then true else T.U x, n := T.n + 1 } else T
theorem beg_ok {k : Nat} {T : Tb} (h : Ok k T) {d f : Int} (hd : 0 ≤ d ∧ d < 18446744073709551616) (hf : f = 1 ∨ f = 2) : Ok (k + 1) (begA T d f) := by
  unfold begA
  split
  · rename_i he
    have h0 : d ≠ 0 ∧ T.U d = false ∧ (T.L.length : Int) ≠ T.most := by
      unfold begE at he
      split at he
      · omega
      · split at he
        · omega
        · split at he
          · omega
          · simp_all
    obtain ⟨h1, h2, h3⟩ := h0
    refine ⟨h.m1, h.m2, h.i1, h.i2, h.t1, h.t2, ?_, fun s hs => ?_, ?_, by show T.n + 1 ≤ k + 1; have := h.cnt; omega⟩
    · show ((T.L ++ [_]).length : Int) ≤ T.most
      have := h.few
      simp
      omega
    · rcases List.mem_append.1 hs with hs | hs
      · obtain ⟨a, b, c, d1, e, f1, g, u⟩ := h.ent s hs
        refine ⟨a, b, c, by omega, e, f1, g, ?_⟩
        show (if s.t = d then true else T.U s.t) = true
        split
        · rfl
        · exact u
      · simp at hs
        subst hs
        refine ⟨by show 0 < d; omega, hd.2, by show (1 : Int) ≤ 1; omega, by show (1 : Int) ≤ ((k + 1 : Nat) : Int); omega, h.t1, by show T.time ≤ T.time; omega, hf, ?_⟩
        show (if d = d then true else T.U d) = true
        rw [if_pos rfl]
    · show ((T.L ++ [_]).map Se.t).Nodup
      rw [List.map_append, List.nodup_append]
      refine ⟨h.one, by simp, fun a ha b hb => ?_⟩
      simp at hb
      subst hb
      rintro rfl
      obtain ⟨s, hs, rfl⟩ := List.mem_map.1 ha
      have := (h.ent s hs).2.2.2.2.2.2.2
      rw [h2] at this
      cases this
  · exact h.mono (by omega)
/-- AN APPEND ONTO A ROW: where it lies then. -/
theorem append_C (X : World) (ty : TypeId) (v : Value) (L : List Se) (z : Se) (hrow : X.ownsRow 0 67 4 v L.length (sCs L))
    (g : Nat) (hb : ∀ j, j < 4 → X.cell? ⟨g, j, none⟩ = z.cs[j]?) (hlen : L.length ≤ 100000) :
    ∃ v' X', (Builtin.append_ #[60, 60] ty #[v, .slice (some ⟨g, 0, none⟩) 1 1]).run Try.prog X = .ok v' X' ∧ X'.ownsRow 0 67 4 v' (L.length + 1) (sCs (L ++ [z])) ∧ X.grownBy X' v.ownBlock ∧ (∀ g, v'.ownBlock = some g → v.ownBlock = some g ∨ X.heap.size ≤ g) := by
  obtain ⟨i, hi, hz, hsz, hby⟩ := info_parts infoS
  have hnews : ∀ j u, z.cs[j]? = some u → X.cell? ((⟨g, 0, none⟩ : Addr).add j) = some u := by
    intro j u hu
    have hj : j < 4 := (List.getElem?_eq_some_iff.1 hu).1
    rw [addr_add0, hb j hj]; exact hu
  have h1c : ∀ u ∈ z.cs, u.oneCell' = true := by
    intro u hu
    simp [Se.cs] at hu
    rcases hu with rfl | rfl | rfl | rfl <;> rfl
  have key : ∀ (base : Nat), base ≤ X.heap.size → X.ownsRow base 67 4 v L.length (sCs L) → ∃ v' X', (Builtin.append_ #[60, 60] ty #[v, .slice (some ⟨g, 0, none⟩) 1 1]).run Try.prog X = .ok v' X' ∧ X'.ownsRow base 67 4 v' (L.length + 1) (sCs (L ++ [z])) ∧ X.grownBy X' v.ownBlock := by
    intro base hB hr
    obtain ⟨v', w', e, h2, h3, _⟩ := run_append_own_wide (P := Try.prog) X base 60 ty 67 i _ 4 32 Try.underlying60 hi hz hsz hby rfl (by decide) v L.length _ hr ⟨g, 0, none⟩ 1 1 z.cs rfl hnews h1c (by unfold maxLen; omega) (by omega) hB
    exact ⟨v', w', e, by rw [sCs_snoc]; exact h2, h3⟩
  obtain ⟨v', X', hr, h2, h3⟩ := key 0 (Nat.zero_le _) hrow
  refine ⟨v', X', hr, h2, h3, fun q hq => ?_⟩
  rcases hrow.2 with ⟨rfl, hn⟩ | ⟨g0, cap, cur, rfl, hg0, hc, hnc, hcm, hcs, htk⟩
  · have hL : L = [] := List.eq_nil_of_length_eq_zero hn
    subst hL
    obtain ⟨v2, X2, hr2, h4, _⟩ := key X.heap.size (Nat.le_refl _) (World.ownsRow_nil X _ 67 4)
    rw [hr] at hr2
    injection hr2 with e1 e2
    subst e1 e2
    exact .inr (ownsRow_lt h4 q hq).1
  · by_cases hroom : L.length + 1 ≤ cap
    · have hr2 := run_append_room (P := Try.prog) X 60 ty 67 i Try.underlying60 hi g0 L.length cap cur hc ⟨g, 0, none⟩ 1 1 z.cs (by rw [hsz]; rfl) hnews h1c hroom (by rw [hsz, hcs]; simp [Se.cs]; omega)
      rw [hr] at hr2
      injection hr2 with e1 e2
      subst e1
      simp [Value.ownBlock] at hq
      subst hq
      exact .inl rfl
    · have hr2 := run_append_grow (P := Try.prog) X 60 ty 67 i _ Try.underlying60 hi hz ⟨g0, 0, none⟩ L.length cap (sCs L) (by rw [hsz]; exact hrow.1) (hrow.cells (g := g0) rfl) ⟨g, 0, none⟩ 1 1 z.cs (by rw [hsz]; rfl) hnews (by omega) (by omega) (by rw [hby]; exact growslice_fits_wide (by omega) (by omega))
      rw [hr] at hr2
      injection hr2 with e1 e2
      subst e1
      simp [Value.ownBlock] at hq
      subst hq
      exact .inr (Nat.le_refl _)
/-- An append whose run is known, as a step of a region. -/
theorem step_append_run {w w' : World} {v' : Value} {ops : Array Oper} {o : Oper} {a : Act} {K : Act → World → Prop} {Q : Exit → Act → World → Prop} {E : Prop} (hgd : o.guard = none) (s x : Operand) (t : TypeId)
    (ho : o.op = .call { callee := .builtin .append, args := #[s, x], argTypes := #[t, t] }) (vs vx : Value) (hs : a.eval s = vs) (hx : a.eval x = vx)
    (hr : (Builtin.append_ #[t, t] o.type #[vs, vx]).run Try.prog w = .ok v' w') (h : K (a.put o.dst v') w') :
    if Region.wanted o (yielded ops a.tmps) = true then Oper.wp Try.prog o a w K Q else E := by
  have hw : Region.wanted o (yielded ops a.tmps) = true := by simp [Region.wanted, hgd]
  rw [if_pos hw]
  unfold Oper.wp execOp
  simp only [ho, resolve, invoke, builtin, Sem.run_bind, Sem.run_pure, Result.andThen_ok, List.map_toArray, List.map_cons, List.map_nil, hs, hx, hr]
  exact h
set_option maxHeartbeats 1000000 in
theorem beg_zero {w : World} (tb : Nat) (f : Int) :
    Calls Try.prog 36 #[.pointer (some ⟨tb, 0, none⟩), .int .u64 0, .int .i64 f] w fun e w' => e = .returned (.tuple #[.agg #[.int .u64 0, .int .i64 0, .int .i64 0, .int .i64 0], .int .i64 1]) ∧ Hid (Below w.heap.size w w') := by
  go_enter Try.func36, Try.ntmps36
  go_wp2
  refine bodyPost_ret (v := .tuple #[.agg #[.int .u64 0, .int .i64 0, .int .i64 0, .int .i64 0], .int .i64 1]) (by simp [results, Try.results36, go_sem]) rfl ⟨rfl, ?_⟩
  exact (Below.refl _ _).alloc (Nat.le_refl _) _
set_option maxHeartbeats 1000000 in
theorem beg_twice {w : World} {C : Nat → Prop} {tb mb : Nat} {v : Value} {T : Tb} (d f : Int) (h : Tab w C tb mb v T) (hd : 0 ≤ d ∧ d < 18446744073709551616) (h0 : d ≠ 0) (hu : T.U d = true) :
    Calls Try.prog 36 #[.pointer (some ⟨tb, 0, none⟩), .int .u64 d, .int .i64 f] w fun e w' => e = .returned (.tuple #[.agg #[.int .u64 0, .int .i64 0, .int .i64 0, .int .i64 0], .int .i64 9]) ∧ Hid (Below w.heap.size w w') := by
  have q0 : (d == 0) = false := by simpa using h0
  have H1 := (h.alloc (.cells #[.int .u64 0, .int .i64 0, .int .i64 0, .int .i64 0] 67))
  have c5 := H1.c5
  have hl := H1.mp.look2 Try.underlying61 (zero_u _) hd
  rw [uf_get, uf_some, hu] at hl
  have hsc : ∀ (a : Addr) (w : World), (storeCells a []).run Try.prog w = .ok () w := fun _ _ => rfl
  clear h H1 hu h0
  go_enter Try.func36, Try.ntmps36
  go_wp2
  refine bodyPost_ret (v := .tuple #[.agg #[.int .u64 0, .int .i64 0, .int .i64 0, .int .i64 0], .int .i64 9]) (by simp [results, Try.results36, go_sem]) rfl ⟨rfl, ?_⟩
  exact ((Below.refl _ _).alloc (Nat.le_refl _) _).alloc (by simp) _
set_option maxHeartbeats 1000000 in
theorem beg_full {w : World} {C : Nat → Prop} {tb mb : Nat} {v : Value} {T : Tb} (d f : Int) (h : Tab w C tb mb v T) (hd : 0 ≤ d ∧ d < 18446744073709551616) (h0 : d ≠ 0) (hu : T.U d = false) (hm : (T.L.length : Int) = T.most) :
    Calls Try.prog 36 #[.pointer (some ⟨tb, 0, none⟩), .int .u64 d, .int .i64 f] w fun e w' => e = .returned (.tuple #[.agg #[.int .u64 0, .int .i64 0, .int .i64 0, .int .i64 0], .int .i64 14]) ∧ Hid (Below w.heap.size w w') := by
  have q0 : (d == 0) = false := by simpa using h0
  have q1 : (((T.L.length : Nat) : Int) == T.most) = true := by simpa using hm
  have H1 := (h.alloc (.cells #[.int .u64 0, .int .i64 0, .int .i64 0, .int .i64 0] 67))
  have c5 := H1.c5
  obtain ⟨a, c, rfl, h1, h2⟩ := H1.form
  have c4 := H1.c4
  have c1 := H1.c1
  have hl := H1.mp.look2 Try.underlying61 (zero_u _) hd
  rw [uf_get, uf_some, hu] at hl
  have hsc : ∀ (a : Addr) (w : World), (storeCells a []).run Try.prog w = .ok () w := fun _ _ => rfl
  have H2 := H1.alloc (.cells #[] 83)
  have c41 := H2.c4
  have c11 := H2.c1
  generalize T.L.length = n at *
  clear h H1 H2 hu h0 hm
  go_enter Try.func36, Try.ntmps36
  go_wp2
  go_region
  go_wp2
  refine bodyPost_ret (v := .tuple #[.agg #[.int .u64 0, .int .i64 0, .int .i64 0, .int .i64 0], .int .i64 14]) (by simp [results, Try.results36, go_sem]) rfl ⟨rfl, ?_⟩
  exact (((Below.refl _ _).alloc (Nat.le_refl _) _).alloc (by simp) _).drew
theorem Tab.else_ {w : World} {C : Nat → Prop} {tb mb : Nat} {v : Value} {T : Tb} (h : Tab w C tb mb v T) (q j : Nat) (u : Value) (h1 : tb ≠ q) (h2 : mb ≠ q) (h3 : v.ownBlock ≠ some q) : Tab (w.setCell ⟨q, j, none⟩ u) C tb mb v T :=
  ⟨(Below.heap_setCell w ⟨q, j, none⟩ u tb h1).trans h.blk, ownsRow_keep h.row fun b cur _ e _ => Below.heap_setCell _ _ _ _ (fun e1 => h3 (by rw [e]; exact congrArg some e1)), h.own, h.ct, h.cm, h.mp.set h2 j u⟩
set_option maxHeartbeats 1000000 in
theorem beg_new {w : World} {C : Nat → Prop} {tb mb k : Nat} {v : Value} {T : Tb} (d f : Int) (h : Tab w C tb mb v T) (hO : Ok k T) (hk : k < 70368744177664) (hC : ∀ k, w.heap.size ≤ k → C k) (hd : 0 ≤ d ∧ d < 18446744073709551616) (h0 : d ≠ 0) (hu : T.U d = false) (hm : (T.L.length : Int) ≠ T.most) :
    Calls Try.prog 36 #[.pointer (some ⟨tb, 0, none⟩), .int .u64 d, .int .i64 f] w fun e w' => e = .returned (.tuple #[.agg #[.int .u64 d, .int .i64 1, .int .i64 f, .int .i64 T.time], .int .i64 0]) ∧ ∃ v2, Hid (Tab w' C tb mb v2 { T with L := T.L ++ [⟨d, 1, f, T.time⟩], U := fun x => if x = d then true else T.U x, n := T.n + 1 }) ∧ Hid (KS C w w') := by
  have q0 : (d == 0) = false := by simpa using h0
  have q1 : (((T.L.length : Nat) : Int) == T.most) = false := by simpa using hm
  have H1 := (h.alloc (.cells #[.int .u64 0, .int .i64 0, .int .i64 0, .int .i64 0] 67))
  have c5 := H1.c5
  obtain ⟨a, c, rfl, h1, h2⟩ := H1.form
  have c4 := H1.c4
  have c1 := H1.c1
  have hl := H1.mp.look2 Try.underlying61 (zero_u _) hd
  rw [uf_get, uf_some, hu] at hl
  have hsc : ∀ (a : Addr) (w : World), (storeCells a []).run Try.prog w = .ok () w := fun _ _ => rfl
  have H2 := H1.alloc (.cells #[] 83)
  have c41 := H2.c4
  have c11 := H2.c1
  have c31 := H2.c3
  have H0 : Hid (Tab w C tb mb (.slice a T.L.length c) T) := h
  have hCC : Hid (∀ k, w.heap.size ≤ k → C k) := hC
  have hOO : Hid (Ok k T) := hO
  have hdd : Hid (0 ≤ d ∧ d < 18446744073709551616) := hd
  have huu : Hid (T.U d = false) := hu
  generalize hn : T.L.length = n at c4 c41 q1 h1
  clear h H1 H2 hu h0 hm hO hC
  go_enter Try.func36, Try.ntmps36
  go_wp2
  go_region
  go_wp2
  have HB : Below w.heap.size w (((w.alloc (.cells #[.int .u64 0, .int .i64 0, .int .i64 0, .int .i64 0] 67)).alloc (.cells #[] 83)).alloc (.cells #[.int .u64 d, .int .i64 1, .int .i64 f, .int .i64 T.time] 67)).drew := ((((Below.refl _ _).alloc (Nat.le_refl _) _).alloc (by simp) _).alloc (by simp; omega) _).drew
  have hbx : Blk (((w.alloc (.cells #[.int .u64 0, .int .i64 0, .int .i64 0, .int .i64 0] 67)).alloc (.cells #[] 83)).alloc (.cells #[.int .u64 d, .int .i64 1, .int .i64 f, .int .i64 T.time] 67)).drew (w.heap.size + 1 + 1) #[.int .u64 d, .int .i64 1, .int .i64 f, .int .i64 T.time] 67 := by
    have := blk_new ((w.alloc (.cells #[.int .u64 0, .int .i64 0, .int .i64 0, .int .i64 0] 67)).alloc (.cells #[] 83)) #[.int .u64 d, .int .i64 1, .int .i64 f, .int .i64 T.time] 67
    rw [show ((w.alloc (.cells #[.int .u64 0, .int .i64 0, .int .i64 0, .int .i64 0] 67)).alloc (.cells #[] 83)).heap.size = w.heap.size + 1 + 1 by simp] at this
    exact this
  have hrz : Blk (((w.alloc (.cells #[.int .u64 0, .int .i64 0, .int .i64 0, .int .i64 0] 67)).alloc (.cells #[] 83)).alloc (.cells #[.int .u64 d, .int .i64 1, .int .i64 f, .int .i64 T.time] 67)).drew w.heap.size #[.int .u64 0, .int .i64 0, .int .i64 0, .int .i64 0] 67 := ((blk_new w #[.int .u64 0, .int .i64 0, .int .i64 0, .int .i64 0] 67).kept ((((Below.refl _ _).alloc (Nat.le_refl _) _).alloc (by simp) _).drew))
  generalize (((w.alloc (.cells #[.int .u64 0, .int .i64 0, .int .i64 0, .int .i64 0] 67)).alloc (.cells #[] 83)).alloc (.cells #[.int .u64 d, .int .i64 1, .int .i64 f, .int .i64 T.time] 67)).drew = wa at *
  clear c5 c4 c1 hl hsc c41 c11 c31
  have T1 : Hid (Tab wa C tb mb (.slice a T.L.length c) T) := H0.out.kept HB
  have hrz' : Hid (Blk wa w.heap.size #[.int .u64 0, .int .i64 0, .int .i64 0, .int .i64 0] 67) := hrz
  have HB' : Hid (Below w.heap.size w wa) := HB
  have c4 : wa.cell? ⟨tb, 4, none⟩ = some (.slice a n c) := by rw [← hn]; exact T1.out.c4
  have e0 := hbx.cell 0
  have e1 := hbx.cell 1
  have e2 := hbx.cell 2
  have e3 := hbx.cell 3
  have hlen : T.L.length ≤ 100000 := by have := hOO.out.few; have := hOO.out.m2; omega
  have hX : Hid (Below wa.heap.size wa ((wa.alloc (.cells #[.int .u64 d, .int .i64 1, .int .i64 f, .int .i64 T.time] 67)).drew)) := ((Below.refl _ _).alloc (Nat.le_refl _) _).drew
  have TX : Hid (Tab ((wa.alloc (.cells #[.int .u64 d, .int .i64 1, .int .i64 f, .int .i64 T.time] 67)).drew) C tb mb (.slice a T.L.length c) T) := T1.out.kept hX.out
  obtain ⟨v4, w4, hr, ho4, hg4, hD4⟩ := append_C ((wa.alloc (.cells #[.int .u64 d, .int .i64 1, .int .i64 f, .int .i64 T.time] 67)).drew) 60 (.slice a T.L.length c) T.L ⟨d, 1, f, T.time⟩ TX.out.row wa.heap.size (fun j _ => ((blk_new wa _ _).cell j).trans Array.getElem?_toList.symm) hlen
  rw [hn] at hr
  have cX4 : (wa.alloc (.cells #[.int .u64 d, .int .i64 1, .int .i64 f, .int .i64 T.time] 67)).cell? ⟨tb, 4, none⟩ = some (.slice a n c) := by rw [← hn]; exact (T1.out.alloc _).c4
  obtain ⟨a4, c4', rfl, _, _, _⟩ := ownsRow_form ho4
  have hC4 : ∀ q, (Value.slice a4 (T.L.length + 1) c4').ownBlock = some q → C q := fun q hq => (hD4 q hq).elim (fun h => TX.out.own q h) (fun h => hCC.out q (by have := HB.size; simp at h; omega))
  have hne4 : ∀ (q : Nat) (cs : Array Value) (T' : TypeId), T' ≠ 67 → (wa.alloc (.cells #[.int .u64 d, .int .i64 1, .int .i64 f, .int .i64 T.time] 67)).drew.heap[q]? = some (Obj.cells cs T' (0, 0)) → w4.heap[q]? = some (Obj.cells cs T' (0, 0)) := fun q cs T' hT hq => (hg4.block q (Array.getElem?_eq_some_iff.1 hq).1 (fun e => by
    obtain ⟨_, _, cur, h3⟩ := ownsRow_lt TX.out.row q e.symm
    rw [hq] at h3
    injection h3 with h3
    injection h3 with _ h3
    exact hT h3)).trans hq
  have hbt4 : Hid (Blk w4 tb _ 63) := hne4 tb _ 63 (by decide) TX.out.blk
  have d4 := hbt4.out.cell 4
  have d5 := hbt4.out.cell 5
  have g4 := hbt4.out.fz 4
  have hm4 : MapU zU w4 mb (uf T.U) T.n := TX.out.mp.eq (hg4.block mb TX.out.mp.lt (fun e => by
    obtain ⟨_, _, cur, h3⟩ := ownsRow_lt TX.out.row mb e.symm
    exact TX.out.mp.ne h3 rfl))
  obtain ⟨w6, hr6, hm6, hg6⟩ := (hm4.set (hm4.ne hbt4.out) 4 (.slice a4 (T.L.length + 1) c4')).store Try.underlying61 (by have := hOO.out.cnt; omega) hdd.out zU
  have hT6 : Hid (Tab w6 C tb mb (.slice a4 (T.L.length + 1) c4') { T with L := T.L ++ [⟨d, 1, f, T.time⟩], U := fun x => if x = d then true else T.U x, n := T.n + 1 }) := by
    have hk5 : ∀ q, q ≠ mb → q < w4.heap.size → w6.heap[q]? = (w4.setCell ⟨tb, 4, none⟩ (.slice a4 (T.L.length + 1) c4')).heap[q]? := fun q hq hl => hg6.block q (by simpa [World.setCell] using hl) (fun e => hq (Option.some.inj e))
    have hne := hm4.ne hbt4.out
    refine ⟨(hk5 tb (Ne.symm hne) hbt4.out.lt).trans (hbt4.out.set 4 _), ?_, hC4, TX.out.ct, TX.out.cm, ?_⟩
    · rw [show ({ T with L := T.L ++ [⟨d, 1, f, T.time⟩], U := fun x => if x = d then true else T.U x, n := T.n + 1 } : Tb).L.length = T.L.length + 1 by simp]
      refine ownsRow_keep ho4 fun q cur _ h1 h2 => ?_
      rw [hk5 q (fun e => hm4.ne h2 e.symm) (Array.getElem?_eq_some_iff.1 h2).1]
      refine Below.heap_setCell _ _ _ _ (fun e => ?_)
      have e2 : q = tb := e
      subst e2
      have h3 := hbt4.out
      unfold Blk at h3
      rw [h2] at h3
      injection h3 with h3
      injection h3 with _ h3
      exact absurd h3 (by decide)
    · rw [uf_some, huu.out] at hm6
      have e : put (uf T.U) d (some zU) = uf (fun x => if x = d then true else T.U x) := by
        funext x
        unfold put uf
        by_cases hx : x = d
        · simp [hx]
        · simp [hx]
      rw [e] at hm6
      exact hm6
  have hK6 : Hid (KS C w w6) := (KS.of_below HB).trans ((KS.of_below hX.out).trans ((KS.of_g hg4 TX.out.own).trans ((KS.set w4 tb 4 TX.out.ct _).trans (KS.of_g hg6 (fun q hq => by obtain rfl := Option.some.inj hq; exact TX.out.cm)))))
  have hold : ∀ q, (Value.slice a T.L.length c).ownBlock = some q → q < w.heap.size := fun q hq => (ownsRow_lt H0.out.row q hq).2.1
  have hbtl := H0.out.blk.lt
  have hmbl := H0.out.mp.lt
  have hk6 : ∀ q, w.heap.size ≤ q → q < wa.heap.size → w6.heap[q]? = wa.heap[q]? := fun q h1 h2 => by
    have hsz := hg4.size
    rw [hg6.block q (by simp [World.setCell]; simp at hsz; omega) (fun e => by have := Option.some.inj e; omega), Below.heap_setCell _ _ _ _ (by show q ≠ tb; omega), hg4.block q (by simp; omega) (fun e => by have := hold q e.symm; omega)]
    exact hX.out.block q h2
  have hb6 : Hid (Blk w6 (w.heap.size + 1 + 1) #[.int .u64 d, .int .i64 1, .int .i64 f, .int .i64 T.time] 67) := (hk6 _ (by omega) hbx.lt).trans hbx
  have hz6 : Hid (Blk w6 w.heap.size #[.int .u64 0, .int .i64 0, .int .i64 0, .int .i64 0] 67) := (hk6 _ (by omega) hrz.lt).trans hrz
  have p0 := hb6.out.cell 0
  have p1 := hb6.out.cell 1
  have p2 := hb6.out.cell 2
  have p3 := hb6.out.cell 3
  have r0 := hz6.out.cell 0
  have r1 := hz6.out.cell 1
  have r2 := hz6.out.cell 2
  have r3 := hz6.out.cell 3
  have s0 := hz6.out.fz 0
  have s1 := hz6.out.fz 1
  have s2 := hz6.out.fz 2
  have s3 := hz6.out.fz 3
  have hnz : Hid (∀ q, q < w.heap.size → q ≠ w.heap.size) := fun q h => by omega
  have hv4 : Hid ((Value.slice a4 (T.L.length + 1) c4').ownBlock ≠ some w.heap.size) := fun e => (hD4 _ e).elim (fun h => by have := hold _ h; omega) (fun h => by have := HB.size; have := hrz.lt; simp at h; omega)
  have hT7 : Hid (Tab ((((w6.setCell ⟨w.heap.size, 0, none⟩ (.int .u64 d)).setCell ⟨w.heap.size, 1, none⟩ (.int .i64 1)).setCell ⟨w.heap.size, 2, none⟩ (.int .i64 f)).setCell ⟨w.heap.size, 3, none⟩ (.int .i64 T.time)) C tb mb (.slice a4 (T.L.length + 1) c4') { T with L := T.L ++ [⟨d, 1, f, T.time⟩], U := fun x => if x = d then true else T.U x, n := T.n + 1 }) := (((hT6.out.else_ _ _ _ (by omega) (by omega) hv4.out).else_ _ _ _ (by omega) (by omega) hv4.out).else_ _ _ _ (by omega) (by omega) hv4.out).else_ _ _ _ (by omega) (by omega) hv4.out
  have hK7 : Hid (KS C w ((((w6.setCell ⟨w.heap.size, 0, none⟩ (.int .u64 d)).setCell ⟨w.heap.size, 1, none⟩ (.int .i64 1)).setCell ⟨w.heap.size, 2, none⟩ (.int .i64 f)).setCell ⟨w.heap.size, 3, none⟩ (.int .i64 T.time))) := hK6.out.trans ((KS.set _ _ _ (hCC.out _ (Nat.le_refl _)) _).trans ((KS.set _ _ _ (hCC.out _ (Nat.le_refl _)) _).trans ((KS.set _ _ _ (hCC.out _ (Nat.le_refl _)) _).trans (KS.set _ _ _ (hCC.out _ (Nat.le_refl _)) _))))
  have hz7 := (((hz6.out.set 0 (.int .u64 d)).set 1 (.int .i64 1)).set 2 (.int .i64 f)).set 3 (.int .i64 T.time)
  have q0 := hz7.cell 0
  have q1 := hz7.cell 1
  have q2 := hz7.cell 2
  have q3 := hz7.cell 3
  rw [hn] at hr6
  unfold zU at hr6
  have hr' : Hid ((Builtin.append_ #[60, 60] 60 #[.slice a n c, .slice (some ⟨wa.heap.size, 0, none⟩) 1 1]).run Try.prog ((wa.alloc (.cells #[.int .u64 d, .int .i64 1, .int .i64 f, .int .i64 T.time] 67)).drew) = .ok (.slice a4 (T.L.length + 1) c4') w4) := hr
  clear hz7 hm6 hg6 hm4 hg4 hne4 ho4 hC4 hbx hrz HB hlen hr hk6 hold hbtl hmbl hD4
  go_region_law (refine step_append_run (by rfl) _ _ 60 (by rfl) _ _ (by rfl) (by rfl) (by exact hr'.out) ?_)
  all_goals (
    go_wp2
    refine bodyPost_ret (v := .tuple #[.agg #[.int .u64 d, .int .i64 1, .int .i64 f, .int .i64 T.time], .int .i64 0]) (by simp [results, Try.results36, go_sem, *]) rfl ⟨rfl, _, hT7, hK7⟩)
end Go.Proofs.Ytmohfblkfdkloaa
