/-
  A table of sessions as plain data and in memory; the small calls.
-/
import Derived.Test.YtmohfblkfdkloaaSsa
import Derived.Lib.MinMax
namespace Go.Proofs.Ytmohfblkfdkloaa
open Go.RowKit
set_option linter.unusedVariables false

/-- A session: its token, epoch and format, and when it was heard of. -/
structure Se where
  t : Int
  e : Int
  f : Int
  h : Int
def Se.cs (s : Se) : List Value := [.int .u64 s.t, .int .i64 s.e, .int .i64 s.f, .int .i64 s.h]
def sCs (L : List Se) : List Value := (L.map Se.cs).flatten
theorem sCs_snoc (L : List Se) (t : Se) : sCs (L ++ [t]) = sCs L ++ t.cs := by simp [sCs]
theorem sCs_len (L : List Se) : (sCs L).length = L.length * 4 := by
  induction L with
  | nil => rfl
  | cons t L ih =>
    have : sCs (t :: L) = t.cs ++ sCs L := rfl
    rw [this, List.length_append, ih, List.length_cons]
    simp [Se.cs]; omega
theorem sCs_at {L : List Se} {i : Nat} {p : Se} (hi : L[i]? = some p) {j : Nat} (hj : j < 4) : (sCs L)[i * 4 + j]? = p.cs[j]? := by
  induction L generalizing i with
  | nil => simp at hi
  | cons t L ih =>
    have e : sCs (t :: L) = t.cs ++ sCs L := rfl
    rw [e]
    cases i with
    | zero =>
      simp at hi
      subst hi
      rw [Nat.zero_mul, Nat.zero_add, List.getElem?_append_left (by simp [Se.cs]; omega)]
    | succ i =>
      rw [List.getElem?_append_right (by simp [Se.cs]; omega)]
      rw [show (i + 1) * 4 + j - t.cs.length = i * 4 + j by simp [Se.cs]; omega]
      exact ih (by simpa using hi)
/-- A table as plain data. -/
structure Tb where
  most : Int
  idle : Int
  time : Int
  L : List Se
  U : Int → Bool
  n : Nat
/-- WHAT ALWAYS HOLDS OF IT, k calls after its beginning. -/
structure Ok (k : Nat) (T : Tb) : Prop where
  m1 : 1 ≤ T.most
  m2 : T.most ≤ 64
  i1 : 1 ≤ T.idle
  i2 : T.idle ≤ 1048576
  t1 : 0 ≤ T.time
  t2 : T.time ≤ 1099511627776
  few : (T.L.length : Int) ≤ T.most
  ent : ∀ s ∈ T.L, 0 < s.t ∧ s.t < 18446744073709551616 ∧ 1 ≤ s.e ∧ s.e ≤ (k : Int) ∧ 0 ≤ s.h ∧ s.h ≤ T.time ∧ (s.f = 1 ∨ s.f = 2) ∧ T.U s.t = true
  one : (T.L.map Se.t).Nodup
  cnt : T.n ≤ k
def zU : Value := .agg #[]
theorem zero_u (w : World) : (zeroValue 83).run Try.prog w = .ok zU w := by kernel_rfl
/-- The tokens that were there, as a map's elements. -/
def uf (U : Int → Bool) (z : Int) : Option Value := bif U z then some zU else none
theorem uf_get (U : Int → Bool) (z : Int) : (uf U z).getD zU = .agg #[] := by unfold uf; cases U z <;> rfl
theorem uf_some (U : Int → Bool) (z : Int) : (uf U z).isSome = U z := by unfold uf; cases U z <;> rfl
/-- A TABLE IN MEMORY: its block tb, its map mb, its sessions' slice v, all of blocks of C. -/
structure Tab (w : World) (C : Nat → Prop) (tb mb : Nat) (v : Value) (T : Tb) : Prop where
  blk : Blk w tb #[.bool true, .int .i64 T.most, .int .i64 T.idle, .int .i64 T.time, v, .map (some mb)] 63
  row : w.ownsRow 0 67 4 v T.L.length (sCs T.L)
  own : ∀ g, v.ownBlock = some g → C g
  ct : C tb
  cm : C mb
  mp : MapU zU w mb (uf T.U) T.n
theorem Tab.keep {w w' : World} {C : Nat → Prop} {tb mb : Nat} {v : Value} {T : Tb} (h : Tab w C tb mb v T) (hb : ∀ k, k < w.heap.size → C k → w'.heap[k]? = w.heap[k]?) : Tab w' C tb mb v T :=
  ⟨(hb tb h.blk.lt h.ct).trans h.blk, ownsRow_keep h.row fun b cur _ h1 h2 => hb b (Array.getElem?_eq_some_iff.1 h2).1 (h.own b h1), h.own, h.ct, h.cm, h.mp.eq (hb mb h.mp.lt h.cm)⟩
theorem Tab.kept {w w' : World} {C : Nat → Prop} {tb mb : Nat} {v : Value} {T : Tb} (h : Tab w C tb mb v T) (hb : Below w.heap.size w w') : Tab w' C tb mb v T := h.keep fun k hk _ => hb.block k hk
theorem Tab.drew {w : World} {C : Nat → Prop} {tb mb : Nat} {v : Value} {T : Tb} (h : Tab w C tb mb v T) : Tab w.drew C tb mb v T := h.kept (Below.refl _ _).drew
theorem Tab.alloc {w : World} {C : Nat → Prop} {tb mb : Nat} {v : Value} {T : Tb} (h : Tab w C tb mb v T) (o : Obj) : Tab (w.alloc o) C tb mb v T := h.kept ((Below.refl _ _).alloc (Nat.le_refl _) o)
theorem Tab.to {w : World} {C D : Nat → Prop} {tb mb : Nat} {v : Value} {T : Tb} (h : Tab w C tb mb v T) (hd : ∀ k, k < w.heap.size → C k → D k) : Tab w D tb mb v T :=
  ⟨h.blk, h.row, fun g hg => hd g (ownsRow_lt h.row g hg).2.1 (h.own g hg), hd tb h.blk.lt h.ct, hd mb h.mp.lt h.cm, h.mp⟩
section
variable {w : World} {C : Nat → Prop} {tb mb : Nat} {v : Value} {T : Tb}
theorem Tab.c0 (h : Tab w C tb mb v T) : w.cell? ⟨tb, 0, none⟩ = some (.bool true) := h.blk.cell 0
theorem Tab.c1 (h : Tab w C tb mb v T) : w.cell? ⟨tb, 1, none⟩ = some (.int .i64 T.most) := h.blk.cell 1
theorem Tab.c2 (h : Tab w C tb mb v T) : w.cell? ⟨tb, 2, none⟩ = some (.int .i64 T.idle) := h.blk.cell 2
theorem Tab.c3 (h : Tab w C tb mb v T) : w.cell? ⟨tb, 3, none⟩ = some (.int .i64 T.time) := h.blk.cell 3
theorem Tab.c4 (h : Tab w C tb mb v T) : w.cell? ⟨tb, 4, none⟩ = some v := h.blk.cell 4
theorem Tab.c5 (h : Tab w C tb mb v T) : w.cell? ⟨tb, 5, none⟩ = some (.map (some mb)) := h.blk.cell 5
theorem Tab.form (h : Tab w C tb mb v T) : ∃ a c, v = .slice a T.L.length c ∧ T.L.length ≤ c ∧ c ≤ 9223372036854775807 := by
  obtain ⟨a, c, h1, h2, h3, _⟩ := ownsRow_form h.row
  exact ⟨a, c, h1, h2, h3⟩
/-- A session's cells. -/
theorem Tab.cells (h : Tab w C tb mb v T) {i : Nat} {s : Se} (hi : T.L[i]? = some s) :
    ∃ g c, v = .slice (some ⟨g, 0, none⟩) T.L.length c ∧ g < w.heap.size ∧ C g ∧ (∀ j, w.frozen? ⟨g, j, none⟩ = false) ∧ ∀ j, j < 4 → w.cell? ⟨g, i * 4 + j, none⟩ = s.cs[j]? := by
  have hlt : i < T.L.length := (List.getElem?_eq_some_iff.1 hi).1
  rcases h.row.2 with ⟨hv, hn⟩ | ⟨g, cap, cur, hv, hg, hc, hnc, hcm, hcs, htk⟩
  · omega
  · refine ⟨g, cap, hv, (Array.getElem?_eq_some_iff.1 hc).1, h.own g (by rw [hv]; rfl), (fun j => Blk.fz (cs := cur) (T := 67) hc j), fun j hj => ?_⟩
    rw [cell_row hc, ← Array.getElem?_toList]
    have h1 : (cur.toList.take (T.L.length * 4))[i * 4 + j]? = (sCs T.L)[i * 4 + j]? := by rw [htk]
    rw [List.getElem?_take, if_pos (by omega)] at h1
    rw [h1, sCs_at hi hj]
end
/-! ### the small calls -/
theorem made_yes (tb : Nat) (w : World) (h : w.cell? ⟨tb, 0, none⟩ = some (.bool true)) : Calls Try.prog 30 #[.pointer (some ⟨tb, 0, none⟩)] w fun e w' => e = .returned (.bool true) ∧ w' = w := by
  go_enter Try.func30, Try.ntmps30
  go_wp2
  go_ret
  all_goals simp_all
theorem made_nil (w : World) : Calls Try.prog 30 #[.pointer none] w fun e w' => e = .returned (.bool false) ∧ w' = w := by
  go_enter Try.func30, Try.ntmps30
  go_wp2
  go_ret
  all_goals simp_all
theorem made_no (tb : Nat) (w : World) (h : w.cell? ⟨tb, 0, none⟩ = some (.bool false)) : Calls Try.prog 30 #[.pointer (some ⟨tb, 0, none⟩)] w fun e w' => e = .returned (.bool false) ∧ w' = w := by
  go_enter Try.func30, Try.ntmps30
  go_wp2
  go_ret
  all_goals simp_all
theorem live_any {w : World} {C : Nat → Prop} {tb mb : Nat} {v : Value} {T : Tb} (h : Tab w C tb mb v T) : Calls Try.prog 24 #[.pointer (some ⟨tb, 0, none⟩)] w fun e w' => e = .returned (.int .i64 (T.L.length : Nat)) ∧ w' = w := by
  have k1 := made_yes tb w h.c0
  obtain ⟨a, c, rfl, h1, h2⟩ := h.form
  have c4 := h.c4
  clear h
  go_enter Try.func24, Try.ntmps24
  go_wp2_with (go_at_call 30; refine k1.mono ?_; rintro e w1 ⟨rfl, hw1⟩; obtain rfl := hw1.symm)
  go_ret
  all_goals simp_all
theorem live_nil (w : World) : Calls Try.prog 24 #[.pointer none] w fun e w' => e = .returned (.int .i64 0) ∧ w' = w := by
  have k1 := made_nil w
  go_enter Try.func24, Try.ntmps24
  go_wp2_with (go_at_call 30; refine k1.mono ?_; rintro e w1 ⟨rfl, hw1⟩; obtain rfl := hw1.symm)
  go_ret
  all_goals simp_all
theorem live_no (tb : Nat) (w : World) (h : w.cell? ⟨tb, 0, none⟩ = some (.bool false)) : Calls Try.prog 24 #[.pointer (some ⟨tb, 0, none⟩)] w fun e w' => e = .returned (.int .i64 0) ∧ w' = w := by
  have k1 := made_no tb w h
  go_enter Try.func24, Try.ntmps24
  go_wp2_with (go_at_call 30; refine k1.mono ?_; rintro e w1 ⟨rfl, hw1⟩; obtain rfl := hw1.symm)
  go_ret
  all_goals simp_all
/-- THE SESSION WITH A TOKEN: where it stands. -/
def fiA (L : List Se) (t : Int) : Option Nat := L.findIdx? (fun s => s.t == t)
theorem fiA_some {L : List Se} {t : Int} {i : Nat} (h : fiA L t = some i) : ∃ s, L[i]? = some s ∧ s.t = t ∧ i < L.length := by
  unfold fiA at h
  rw [List.findIdx?_eq_some_iff_getElem] at h
  obtain ⟨h1, h2, _⟩ := h
  exact ⟨L[i], List.getElem?_eq_getElem h1, by simpa using h2, h1⟩
theorem fiA_none {L : List Se} {t : Int} : fiA L t = none ↔ ∀ s ∈ L, s.t ≠ t := by
  unfold fiA
  rw [List.findIdx?_eq_none_iff]
  simp
set_option maxHeartbeats 1000000 in
theorem sess_any {w : World} {C : Nat → Prop} {tb mb : Nat} {v : Value} {T : Tb} (t : Int) (h : Tab w C tb mb v T) :
    Calls Try.prog 32 #[.pointer (some ⟨tb, 0, none⟩), .int .u64 t] w fun e w' => (∃ p, e = .returned (.pointer p) ∧ Hid ((fiA T.L t = none ∧ p = none) ∨ ∃ i g c, fiA T.L t = some i ∧ v = .slice (some ⟨g, 0, none⟩) T.L.length c ∧ p = some ⟨g, i * 4, none⟩)) ∧ w' = w := by
  obtain ⟨a, c, rfl, h1, h2⟩ := h.form
  have c4 := h.c4
  have hH : Hid (Tab w C tb mb (.slice a T.L.length c) T) := h
  have hn : Hid (∃ n, n = T.L.length) := ⟨_, rfl⟩
  obtain ⟨n, hn⟩ := hn
  rw [← hn] at c4 h1
  have hn' : Hid (n = T.L.length) := hn
  clear h hn
  go_enter Try.func32, Try.ntmps32
  go_wp2
  go_loopw [4, 5, 11] (fun _ _ s11 wr => ∃ (i : Nat), i ≤ n ∧ s11 = .int .i64 i ∧ wr = w ∧ Hid (∀ s ∈ T.L.take i, s.t ≠ t)) (fun _ _ i _ => n - (intOf i).toNat)
  case atStart => exact ⟨0, Nat.zero_le _, rfl, rfl, by show ∀ s ∈ _, _; simp⟩
  case round =>
    obtain ⟨i, him, rfl, rfl, hT⟩ := hrel
    by_cases hlt : i < n
    · have hz : (i : Int) < (n : Int) := by omega
      have hix : i < T.L.length := by rw [← hn'.out]; exact hlt
      have hi : T.L[i]? = some T.L[i] := List.getElem?_eq_getElem hix
      obtain ⟨g, c', hv, hg, hC, _, hcell⟩ := hH.out.cells hi
      simp only [Value.slice.injEq] at hv
      obtain ⟨rfl, -, rfl⟩ := hv
      have f0 : wr.cell? ⟨g, i * 4, none⟩ = some (.int .u64 T.L[i].t) := hcell 0 (by decide)
      have wi : IntKind.i64.wrap ((i : Int) + 1) = (i : Int) + 1 := by rw [IntKind.wrap_i64]; omega
      by_cases hE : T.L[i].t = t
      · have hd : (T.L[i].t == t) = true := by simp [hE]
        have hfi : Hid (fiA T.L t = some i) := by
          show _ = _
          unfold fiA
          rw [List.findIdx?_eq_some_iff_getElem]
          refine ⟨hix, by simpa using hE, fun j hj => ?_⟩
          have := hT.out T.L[j] (by rw [List.mem_take_iff_getElem]; exact ⟨j, by omega, rfl⟩)
          simpa using this
        clear hE hcell hi hC
        go_wp2
        go_ret
        exact ⟨⟨_, rfl, .inr ⟨i, g, c, hfi.out, by rw [← hn'.out], rfl⟩⟩, rfl⟩
      · have hd : (T.L[i].t == t) = false := by simp [hE]
        have hT' : Hid (∀ s ∈ T.L.take (i + 1), s.t ≠ t) := by
          show ∀ s ∈ _, _
          rw [List.take_succ_eq_append_getElem hix]
          intro s hs
          rcases List.mem_append.1 hs with hs | hs
          · exact hT.out s hs
          · simp at hs; rw [hs]; exact hE
        clear hE hcell hi hC
        go_wp2
        go_roundw
        case rel => exact ⟨i + 1, by omega, by go_num, trivial, hT'⟩
        case measure => simp [intOf]; omega
    · have hz : ¬ (i : Int) < (n : Int) := by omega
      have hfi : Hid (fiA T.L t = none) := by
        show _ = _
        rw [fiA_none]
        have := hT.out
        rwa [List.take_of_length_le (by rw [← hn'.out]; omega)] at this
      go_wp2
      go_ret
      exact ⟨⟨_, rfl, .inl ⟨hfi.out, rfl⟩⟩, rfl⟩
/-- WHAT FIND TELLS: epoch, format, whether there is such a session. -/
def findA (L : List Se) (t : Int) : Int × Int × Bool :=
  match fiA L t with
  | none => (0, 0, false)
  | some i => match L[i]? with
    | none => (0, 0, false)
    | some s => (s.e, s.f, true)
theorem findA_none {L : List Se} {t : Int} (h : fiA L t = none) : findA L t = (0, 0, false) := by unfold findA; rw [h]
theorem findA_some {L : List Se} {t : Int} {i : Nat} {s : Se} (h : fiA L t = some i) (hs : L[i]? = some s) : findA L t = (s.e, s.f, true) := by unfold findA; rw [h]; simp only [hs]
set_option maxHeartbeats 1000000 in
theorem find_any {w : World} {C : Nat → Prop} {tb mb : Nat} {v : Value} {T : Tb} (t : Int) (h : Tab w C tb mb v T) :
    Calls Try.prog 22 #[.pointer (some ⟨tb, 0, none⟩), .int .u64 t] w fun e w' => e = .returned (.tuple #[.int .i64 (findA T.L t).1, .int .i64 (findA T.L t).2.1, .bool (findA T.L t).2.2]) ∧ Below w.heap.size w w' := by
  have k1 := made_yes tb w h.c0
  have k2 := sess_any t h
  have hH : Hid (Tab w C tb mb v T) := h
  clear h
  go_enter Try.func22, Try.ntmps22
  go_wp2_with (first | (go_at_call 30; refine k1.mono ?_; rintro e w1 ⟨rfl, hw1⟩; obtain rfl := hw1.symm; clear k1) | (go_at_call 32; refine k2.mono ?_; rintro e w1 ⟨⟨p, rfl, hp⟩, hw1⟩; obtain rfl := hw1.symm; clear k2; rcases hp.out with ⟨hf, rfl⟩ | ⟨i, g, c, hf, hv, rfl⟩))
  · refine bodyPost_ret (v := .tuple #[.int .i64 0, .int .i64 0, .bool false]) (by simp [results, Try.results22, go_sem]) rfl ⟨by rw [findA_none hf], Below.refl _ _⟩
  · obtain ⟨s, hs, -, -⟩ := fiA_some hf
    obtain ⟨g', c', hv', -, -, -, hcell⟩ := hH.out.cells hs
    rw [hv] at hv'
    simp only [Value.slice.injEq, Option.some.injEq, Addr.mk.injEq, and_true] at hv'
    obtain ⟨rfl, -⟩ := hv'
    have hfa : Hid (findA T.L t = (s.e, s.f, true)) := findA_some hf hs
    have f1 : w.cell? ⟨g, i * 4 + 1, none⟩ = some (.int .i64 s.e) := hcell 1 (by decide)
    have f2 : w.cell? ⟨g, i * 4 + 2, none⟩ = some (.int .i64 s.f) := hcell 2 (by decide)
    clear hcell hs hf hp
    go_wp2
    go_region
    go_wp2
    (try simp only [Exit.inBlock, Exit.then])
    refine bodyPost_ret (results_tmp3 rfl _ _ _) rfl ?_
    rw [hfa.out]
    exact ⟨rfl, (Below.refl _ _).drew⟩
theorem find_nil (t : Int) (w : World) : Calls Try.prog 22 #[.pointer none, .int .u64 t] w fun e w' => e = .returned (.tuple #[.int .i64 0, .int .i64 0, .bool false]) ∧ w' = w := by
  have k1 := made_nil w
  go_enter Try.func22, Try.ntmps22
  go_wp2_with (go_at_call 30; refine k1.mono ?_; rintro e w1 ⟨rfl, hw1⟩; obtain rfl := hw1.symm)
  refine bodyPost_ret (v := .tuple #[.int .i64 0, .int .i64 0, .bool false]) (by simp [results, Try.results22, go_sem]) rfl ⟨rfl, rfl⟩
theorem find_no (tb : Nat) (t : Int) (w : World) (h : w.cell? ⟨tb, 0, none⟩ = some (.bool false)) : Calls Try.prog 22 #[.pointer (some ⟨tb, 0, none⟩), .int .u64 t] w fun e w' => e = .returned (.tuple #[.int .i64 0, .int .i64 0, .bool false]) ∧ w' = w := by
  have k1 := made_no tb w h
  go_enter Try.func22, Try.ntmps22
  go_wp2_with (go_at_call 30; refine k1.mono ?_; rintro e w1 ⟨rfl, hw1⟩; obtain rfl := hw1.symm)
  refine bodyPost_ret (v := .tuple #[.int .i64 0, .int .i64 0, .bool false]) (by simp [results, Try.results22, go_sem]) rfl ⟨rfl, rfl⟩
end Go.Proofs.Ytmohfblkfdkloaa
