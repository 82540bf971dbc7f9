/-
  A session greeted.
-/
import Derived.Test.YtmohfblkfdkloaaSse
namespace Go.Proofs.Ytmohfblkfdkloaa
open Go.RowKit
set_option linter.unusedVariables false
theorem sCs_set {L : List Se} {i j : Nat} {s s' : Se} {u : Value} (hi : L[i]? = some s) (hj : j < 4) (h : s'.cs = s.cs.set j u) : sCs (L.set i s') = (sCs L).set (i * 4 + j) u := by
  induction L generalizing i with
  | nil => simp at hi
  | cons t L ih =>
    have e : sCs (t :: L) = t.cs ++ sCs L := rfl
    have hl : t.cs.length = 4 := rfl
    cases i with
    | zero =>
      simp at hi
      subst hi
      rw [List.set_cons_zero, e, show sCs (s' :: L) = s'.cs ++ sCs L from rfl, h, List.set_append_left _ _ (by omega), Nat.zero_mul, Nat.zero_add]
    | succ i =>
      rw [List.set_cons_succ, e, show sCs (t :: L.set i s') = t.cs ++ sCs (L.set i s') from rfl, ih (by simpa using hi), List.set_append_right _ _ (by omega), hl, show (i + 1) * 4 + j - 4 = i * 4 + j by omega]
theorem Tab.putc {w : World} {C : Nat → Prop} {tb mb : Nat} {v : Value} {T : Tb} (h : Tab w C tb mb v T) {i j g n c : Nat} {s s' : Se} {u : Value} (hv : v = .slice (some ⟨g, 0, none⟩) n c) (hi : T.L[i]? = some s) (hj : j < 4) (hs : s'.cs = s.cs.set j u) :
    Tab (w.setCell ⟨g, i * 4 + j, none⟩ u) C tb mb v { T with L := T.L.set i s' } := by
  subst hv
  have hlt : i < T.L.length := (List.getElem?_eq_some_iff.1 hi).1
  rcases h.row.2 with ⟨hv, hn⟩ | ⟨g', cap, cur, hv, hg, hc, hnc, hcm, hcs, htk⟩
  · cases hv
  · simp only [Value.slice.injEq, Option.some.injEq, Addr.mk.injEq, and_true] at hv
    obtain ⟨rfl, hn, rfl⟩ := hv
    have hgt : tb ≠ g := fun e => by
      have h3 := h.blk
      unfold Blk at h3
      rw [e, hc] at h3
      injection h3 with h3
      injection h3 with _ h3
      exact absurd h3 (by decide)
    refine ⟨(Below.heap_setCell w _ _ tb hgt).trans h.blk, ⟨by rw [sCs_len], .inr ⟨g, c, cur.setIfInBounds (i * 4 + j) u, by simp [hn], Nat.zero_le _, heap_setCell_same w g _ cur 67 u hc, by simpa using hnc, hcm, by simpa using hcs, ?_⟩⟩, h.own, h.ct, h.cm, h.mp.set (h.mp.ne hc) _ _⟩
    show (cur.setIfInBounds (i * 4 + j) u).toList.take ((T.L.set i s').length * 4) = sCs (T.L.set i s')
    rw [List.length_set, sCs_set hi hj hs, ← htk, Array.toList_setIfInBounds, List.take_set]
/-- A message. -/
structure Mg where
  k : Int
  t : Int
  e : Int
  s : Int
  a : Int
  b : Int
  c : Int
  f : Int
  la : Option Addr
  ln : Nat
  lc : Nat
def Mg.cs (m : Mg) : List Value := [.int .i64 m.k, .int .u64 m.t, .int .i64 m.e, .int .i64 m.s, .int .i64 m.a, .int .u64 m.b, .int .i64 m.c, .int .i64 m.f, .slice m.la m.ln m.lc]
def badB (m : Mg) : Bool := m.k != 3 || (m.f != 1 && m.f != 2)
def bumpS (T : Tb) (m : Mg) (s : Se) : Se := ⟨s.t, s.e + 1, m.f, T.time⟩
/-- WHAT A HELLO DOES to a table whose time has gone on: its error, its session, the table. -/
def greE (T : Tb) (m : Mg) (d : Int) : Int := if badB m then 12 else if m.t = 0 then begE T d else if (fiA T.L m.t).isSome then 0 else 15
def greS (T : Tb) (m : Mg) (d : Int) : Se := if badB m then zS else if m.t = 0 then begS T d m.f else match fiA T.L m.t with
  | none => zS
  | some i => bumpS T m (T.L.getD i zS)
def greA (T : Tb) (m : Mg) (d : Int) : Tb := if badB m then T else if m.t = 0 then begA T d m.f else match fiA T.L m.t with
  | none => T
  | some i => { T with L := T.L.set i (bumpS T m (T.L.getD i zS)) }
theorem bump_ok {k : Nat} {T : Tb} (h : Ok k T) {m : Mg} {i : Nat} {s : Se} (hi : T.L[i]? = some s) (hf : m.f = 1 ∨ m.f = 2) : Ok (k + 1) { T with L := T.L.set i (bumpS T m s) } := by
  have hs := h.ent s (List.mem_of_getElem? hi)
  refine ⟨h.m1, h.m2, h.i1, h.i2, h.t1, h.t2, by show ((T.L.set i _).length : Int) ≤ _; rw [List.length_set]; exact h.few, fun x hx => ?_, ?_, Nat.le_succ_of_le h.cnt⟩
  · rcases List.mem_or_eq_of_mem_set hx with hx | rfl
    · obtain ⟨a, b, c, d1, e, f1, g, u⟩ := h.ent x hx
      exact ⟨a, b, c, by omega, e, f1, g, u⟩
    · obtain ⟨a, b, c, d1, e, f1, g, u⟩ := hs
      exact ⟨a, b, by show 1 ≤ s.e + 1; omega, by show s.e + 1 ≤ ((k + 1 : Nat) : Int); omega, h.t1, by show T.time ≤ T.time; omega, hf, u⟩
  · show ((T.L.set i _).map Se.t).Nodup
    rw [List.map_set, show (bumpS T m s).t = s.t from rfl]
    have e : (T.L.map Se.t).set i s.t = T.L.map Se.t := by
      apply List.ext_getElem? 
      intro j
      rw [List.getElem?_set]
      split
      · rename_i hij
        subst hij
        split
        · rw [List.getElem?_map, hi]; rfl
        · rename_i hlt
          simp at hlt
          rw [List.getElem?_eq_none (by simpa using hlt)]
      · rfl
    rw [e]
    exact h.one
theorem bad_f {m : Mg} (h : badB m = false) : m.k = 3 ∧ (m.f = 1 ∨ m.f = 2) := by
  unfold badB at h
  simp at h
  refine ⟨h.1, ?_⟩
  by_cases h1 : m.f = 1
  · exact .inl h1
  · exact .inr (h.2 h1)
theorem gre_ok {k : Nat} {T : Tb} (h : Ok k T) {m : Mg} {d : Int} (hd : 0 ≤ d ∧ d < 18446744073709551616) : Ok (k + 1) (greA T m d) := by
  unfold greA
  split
  · exact h.mono (by omega)
  · rename_i hb
    have hf := (bad_f (by simpa using hb)).2
    split
    · exact beg_ok h hd hf
    · split
      · exact h.mono (by omega)
      · rename_i i hi
        obtain ⟨s, hs, -, -⟩ := fiA_some hi
        rw [List.getD_eq_getElem?_getD, hs]
        exact bump_ok h hs hf
theorem beg_any {w : World} {C : Nat → Prop} {tb mb k : Nat} {v : Value} {T : Tb} (d f : Int) (h : Tab w C tb mb v T) (hO : Ok k T) (hk : k < 70368744177664) (hC : ∀ k, w.heap.size ≤ k → C k) (hd : 0 ≤ d ∧ d < 18446744073709551616) :
    Calls Try.prog 36 #[.pointer (some ⟨tb, 0, none⟩), .int .u64 d, .int .i64 f] w fun e w' => e = .returned (.tuple #[.agg #[.int .u64 (begS T d f).t, .int .i64 (begS T d f).e, .int .i64 (begS T d f).f, .int .i64 (begS T d f).h], .int .i64 (begE T d)]) ∧ ∃ v2, Hid (Tab w' C tb mb v2 (begA T d f)) ∧ Hid (KS C w w') := by
  by_cases h0 : d = 0
  · have e : begE T d = 1 := by unfold begE; rw [if_pos h0]
    unfold begS begA
    rw [e, if_neg (by decide), if_neg (by decide)]
    subst h0
    refine (beg_zero tb f).mono ?_
    rintro e w' ⟨rfl, hb⟩
    exact ⟨rfl, v, h.kept hb.out, KS.of_below hb.out⟩
  · cases hu : T.U d with
    | true =>
      have e : begE T d = 9 := by unfold begE; rw [if_neg h0, if_pos hu]
      unfold begS begA
      rw [e, if_neg (by decide), if_neg (by decide)]
      refine (beg_twice d f h hd h0 hu).mono ?_
      rintro e w' ⟨rfl, hb⟩
      exact ⟨rfl, v, h.kept hb.out, KS.of_below hb.out⟩
    | false =>
      by_cases hm : (T.L.length : Int) = T.most
      · have e : begE T d = 14 := by unfold begE; rw [if_neg h0, hu, if_neg (by decide), if_pos hm]
        unfold begS begA
        rw [e, if_neg (by decide), if_neg (by decide)]
        refine (beg_full d f h hd h0 hu hm).mono ?_
        rintro e w' ⟨rfl, hb⟩
        exact ⟨rfl, v, h.kept hb.out, KS.of_below hb.out⟩
      · have e : begE T d = 0 := by unfold begE; rw [if_neg h0, hu, if_neg (by decide), if_neg hm]
        unfold begS begA
        rw [e, if_pos rfl, if_pos rfl]
        exact beg_new d f h hO hk hC hd h0 hu hm
end Go.Proofs.Ytmohfblkfdkloaa
