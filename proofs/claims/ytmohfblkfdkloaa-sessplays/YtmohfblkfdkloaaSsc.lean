/-
  Lists told, sessions appended; what is taken out of a table.
-/
import Derived.Test.YtmohfblkfdkloaaSsb
namespace Go.Proofs.Ytmohfblkfdkloaa
open Go.RowKit
set_option linter.unusedVariables false
/-- THE SLICE v HOLDS THESE NUMBERS OF 64 BITS, IN NEW MEMORY. -/
def OwnsW (w : World) (base : Nat) (v : Value) (zs : List Int) : Prop := w.ownsRow base 34 1 v zs.length (zs.map (Value.int .u64))
def OwnsS (w : World) (base : Nat) (v : Value) (L : List Se) : Prop := w.ownsRow base 67 4 v L.length (sCs L)
theorem ownsW_nil (w : World) (base : Nat) : OwnsW w base (.slice none 0 0) [] := World.ownsRow_nil w base 34 1
theorem ownsS_nil (w : World) (base : Nat) : OwnsS w base (.slice none 0 0) [] := World.ownsRow_nil w base 67 4
theorem infoW : (Try.prog.info? 34).map (fun i => (i.zero, i.size, i.bytes)) = some (some (.int .u64 0), 1, 8) := by kernel_rfl
theorem infoS : (Try.prog.info? 67).map (fun i => (i.zero, i.size, i.bytes)) = some (some (.agg #[.int .u64 0, .int .i64 0, .int .i64 0, .int .i64 0]), 4, 32) := by kernel_rfl
/-- A row of one type is untouched by an append onto a row of another. -/
theorem ownsRow_other {w w' : World} {base e e' k n k' n' : Nat} {v v' : Value} {cs cs' : List Value} (h : w.ownsRow base e k v n cs) (h' : w.ownsRow base e' k' v' n' cs') (hne : e ≠ e') (hg : w.grownBy w' v'.ownBlock) : w'.ownsRow base e k v n cs :=
  ownsRow_keep h fun b cur _ _ h2 => hg.block b (Array.getElem?_eq_some_iff.1 h2).1 (fun e1 => by
    obtain ⟨_, _, cur', h3⟩ := ownsRow_lt h' b e1.symm
    rw [h2] at h3
    injection h3 with h3
    injection h3 with _ h3
    exact hne h3)
/-- 'append(v, x)' of a number. -/
theorem wpList_append_w {w : World} {ops : Array Oper} {rest : List Oper} {o : Oper} {a : Act} {Q : Exit → Act → World → Prop} (hgd : o.guard = none) (s x : Operand)
    (ho : o.op = .call { callee := .builtin .append, args := #[s, x], argTypes := #[28, 28] })
    (base : Nat) (v : Value) (L : List Int) (z : Int) (hs : a.eval s = v) (hown : OwnsW w base v L)
    (g : Nat) (hx : a.eval x = .slice (some ⟨g, 0, none⟩) 1 1) (hb : w.cell? ⟨g, 0, none⟩ = some (.int .u64 z))
    (hlen : L.length ≤ 100000) (hbase : base ≤ w.heap.size)
    (h : ∀ v' w', OwnsW w' base v' (L ++ [z]) → w.grownBy w' v.ownBlock → wpList Try.prog ops Q rest (a.put o.dst v') w') : wpList Try.prog ops Q (o :: rest) a w := by
  obtain ⟨i, hi, hz, hsz, hby⟩ := info_parts infoW
  refine wpList_append_own_wide w hgd s x 28 ho base 34 i _ 1 8 Try.underlying28 hi hz hsz hby rfl (by decide) v L.length _ hs hown ⟨g, 0, none⟩ 1 1 [.int .u64 z] hx rfl ?_ ?_ (by unfold maxLen; omega) (by omega) hbase ?_
  · intro j u hu
    have hj : j = 0 := by have := (List.getElem?_eq_some_iff.1 hu).1; simp at this; omega
    subst hj
    rw [addr_add0, hb]; exact hu
  · intro u hu
    simp at hu
    rw [hu]; rfl
  · intro v' w' h1 h2 _
    refine h v' w' ?_ h2
    show World.ownsRow _ _ _ _ _ _ _
    rw [List.length_append, List.map_append]
    exact h1
/-- 'append(v, x)' of a session. -/
theorem wpList_append_s {w : World} {ops : Array Oper} {rest : List Oper} {o : Oper} {a : Act} {Q : Exit → Act → World → Prop} (hgd : o.guard = none) (s x : Operand)
    (ho : o.op = .call { callee := .builtin .append, args := #[s, x], argTypes := #[60, 60] })
    (base : Nat) (v : Value) (L : List Se) (z : Se) (hs : a.eval s = v) (hown : OwnsS w base v L)
    (g : Nat) (hx : a.eval x = .slice (some ⟨g, 0, none⟩) 1 1) (hb : ∀ j, j < 4 → w.cell? ⟨g, j, none⟩ = z.cs[j]?)
    (hlen : L.length ≤ 100000) (hbase : base ≤ w.heap.size)
    (h : ∀ v' w', OwnsS w' base v' (L ++ [z]) → w.grownBy w' v.ownBlock → wpList Try.prog ops Q rest (a.put o.dst v') w') : wpList Try.prog ops Q (o :: rest) a w := by
  obtain ⟨i, hi, hz, hsz, hby⟩ := info_parts infoS
  refine wpList_append_own_wide w hgd s x 60 ho base 67 i _ 4 32 Try.underlying60 hi hz hsz hby rfl (by decide) v L.length _ hs hown ⟨g, 0, none⟩ 1 1 z.cs hx rfl ?_ ?_ (by unfold maxLen; omega) (by omega) hbase ?_
  · intro j u hu
    have hj : j < 4 := (List.getElem?_eq_some_iff.1 hu).1
    rw [addr_add0, hb j hj]; exact hu
  · intro u hu
    simp [Se.cs] at hu
    rcases hu with rfl | rfl | rfl | rfl <;> rfl
  · intro v' w' h1 h2 _
    refine h v' w' ?_ h2
    show World.ownsRow _ _ _ _ _ _ _
    rw [List.length_append, sCs_snoc]
    exact h1
def wordsA (L : List Se) : List Int := L.map Se.t
set_option maxHeartbeats 4000000 in
set_option maxRecDepth 100000 in
/-- TAKEN OUT: what p says goes, and its tokens are answered. -/
theorem take_any {w : World} {C : Nat → Prop} {tb mb : Nat} {v : Value} {T : Tb} (h : Tab w C tb mb v T) (hC : ∀ k, w.heap.size ≤ k → C k) (hL : T.L.length ≤ 64) (f : Nat) (ca : Value) (p : Se → Bool)
    (hf : ∀ args w, (callFunc f args).run Try.prog w = .ok (.enter f args) w)
    (hp : ∀ s ∈ T.L, ∀ wr, Below w.heap.size w wr → Calls Try.prog f #[.agg #[.int .u64 s.t, .int .i64 s.e, .int .i64 s.f, .int .i64 s.h], ca] wr fun e w' => e = .returned (.bool (p s)) ∧ Below wr.heap.size wr w') :
    Calls Try.prog 38 #[.pointer (some ⟨tb, 0, none⟩), .func (.func f) #[] #[ca]] w fun e w' => ∃ v1 v2, e = .returned v1 ∧ Hid (OwnsW w' w.heap.size v1 (wordsA (T.L.filter p))) ∧ Hid (Tab w' C tb mb v2 { T with L := T.L.filter (fun s => !p s) }) ∧ Hid (KS (fun k => k = tb) w w') := by
  obtain ⟨a, c, rfl, h1, h2⟩ := h.form
  have c4 := h.c4
  have hH : Hid (Tab w C tb mb (.slice a T.L.length c) T) := h
  have hn : Hid (∃ n, n = T.L.length) := ⟨_, rfl⟩
  obtain ⟨n, hn⟩ := hn
  rw [← hn] at c4 h1
  have hn' : Hid (n = T.L.length) := hn
  have hn64 : Hid (n ≤ 64) := by show n ≤ 64; omega
  have hCC : Hid (∀ k, w.heap.size ≤ k → C k) := hC
  have hpp : Hid (∀ s ∈ T.L, ∀ wr, Below w.heap.size w wr → Calls Try.prog f #[.agg #[.int .u64 s.t, .int .i64 s.e, .int .i64 s.f, .int .i64 s.h], ca] wr fun e w' => e = .returned (.bool (p s)) ∧ Below wr.heap.size wr w') := hp
  clear h hn hC hp hL
  go_enter Try.func38, Try.ntmps38
  go_wp2
  go_loopw [5, 6, 8, 14] (fun s5 s6 _ s14 wr => ∃ (i : Nat), i ≤ n ∧ s14 = .int .i64 i ∧ Hid (OwnsS wr w.heap.size s5 ((T.L.take i).filter (fun s => !p s))) ∧ Hid (OwnsW wr w.heap.size s6 (wordsA ((T.L.take i).filter p))) ∧ Hid (Below w.heap.size w wr)) (fun _ _ _ i _ => n - (intOf i).toNat)
  case atStart => exact ⟨0, Nat.zero_le _, rfl, ownsS_nil _ _, ownsW_nil _ _, Below.refl _ _⟩
  case round =>
    obtain ⟨i, him, rfl, hS, hW, hB⟩ := hrel
    by_cases hlt : i < n
    · have hz : (i : Int) < (n : Int) := by omega
      have hix : i < T.L.length := by rw [← hn'.out]; exact hlt
      have hi : T.L[i]? = some T.L[i] := List.getElem?_eq_getElem hix
      have hmem : T.L[i] ∈ T.L := List.getElem_mem hix
      have hps := hpp.out T.L[i] hmem
      have htk : T.L.take (i + 1) = T.L.take i ++ [T.L[i]] := List.take_succ_eq_append_getElem hix
      have hlen1 : Hid (((T.L.take i).filter (fun s => !p s)).length ≤ 100000) := by
        have h1 := List.length_filter_le (fun s => !p s) (T.L.take i)
        have h2 := List.length_take_le i T.L
        have := hn64.out
        show _ ≤ 100000
        omega
      have hlen2 : Hid ((wordsA ((T.L.take i).filter p)).length ≤ 100000) := by
        have h1 := List.length_filter_le p (T.L.take i)
        have h2 := List.length_take_le i T.L
        have := hn64.out
        show _ ≤ 100000
        unfold wordsA
        rw [List.length_map]
        omega
      obtain ⟨g, c', hv, hg, hC, _, hcell⟩ := hH.out.cells hi
      simp only [Value.slice.injEq] at hv
      obtain ⟨rfl, -, rfl⟩ := hv
      generalize T.L[i] = s at *
      have f0 : wr.cell? ⟨g, i * 4, none⟩ = some (.int .u64 s.t) := (hB.out.cell (p := ⟨g, i * 4, none⟩) hg).trans (hcell 0 (by decide))
      have f1 : wr.cell? ⟨g, i * 4 + 1, none⟩ = some (.int .i64 s.e) := (hB.out.cell (p := ⟨g, i * 4 + 1, none⟩) hg).trans (hcell 1 (by decide))
      have f2 : wr.cell? ⟨g, i * 4 + 2, none⟩ = some (.int .i64 s.f) := (hB.out.cell (p := ⟨g, i * 4 + 2, none⟩) hg).trans (hcell 2 (by decide))
      have f3 : wr.cell? ⟨g, i * 4 + 3, none⟩ = some (.int .i64 s.h) := (hB.out.cell (p := ⟨g, i * 4 + 3, none⟩) hg).trans (hcell 3 (by decide))
      have wi : IntKind.i64.wrap ((i : Int) + 1) = (i : Int) + 1 := by rw [IntKind.wrap_i64]; have := hn64.out; omega
      have hN : Hid (w.heap.size ≤ wr.heap.size) := hB.out.size
      have hB1 : Hid (Below w.heap.size w (wr.alloc (.cells #[.int .u64 s.t, .int .i64 s.e, .int .i64 s.f, .int .i64 s.h] 67))) := hB.out.alloc hN.out _
      have k1 := hps (wr.alloc (.cells #[.int .u64 s.t, .int .i64 s.e, .int .i64 s.f, .int .i64 s.h] 67)) hB1.out
      have hb0 := blk_new wr #[.int .u64 s.t, .int .i64 s.e, .int .i64 s.f, .int .i64 s.h] 67
      have e0 := hb0.cell 0
      have e1 := hb0.cell 1
      have e2 := hb0.cell 2
      have e3 := hb0.cell 3
      have htk' : Hid (T.L.take (i + 1) = T.L.take i ++ [s]) := htk
      have hbb : Hid (Blk (wr.alloc (.cells #[.int .u64 s.t, .int .i64 s.e, .int .i64 s.f, .int .i64 s.h] 67)) wr.heap.size #[.int .u64 s.t, .int .i64 s.e, .int .i64 s.f, .int .i64 s.h] 67) := hb0
      have hS1 : Hid (OwnsS (wr.alloc (.cells #[.int .u64 s.t, .int .i64 s.e, .int .i64 s.f, .int .i64 s.h] 67)) w.heap.size u5 ((T.L.take i).filter (fun s => !p s))) := ownsRow_kept hS.out ((Below.refl _ _).alloc (Nat.le_refl _) _)
      have hW1 : Hid (OwnsW (wr.alloc (.cells #[.int .u64 s.t, .int .i64 s.e, .int .i64 s.f, .int .i64 s.h] 67)) w.heap.size u6 (wordsA ((T.L.take i).filter p))) := ownsRow_kept hW.out ((Below.refl _ _).alloc (Nat.le_refl _) _)
      clear hcell hi hC hps hb0 htk hmem hS hW
      have hwl : Hid (wr.heap.size < (wr.alloc (.cells #[.int .u64 s.t, .int .i64 s.e, .int .i64 s.f, .int .i64 s.h] 67)).heap.size) := by show _ < _; simp
      cases hpv : p s with
      | true =>
        rw [hpv] at k1
        have hL1 : Hid ((T.L.take (i + 1)).filter (fun s => !p s) = (T.L.take i).filter (fun s => !p s)) := by show _ = _; rw [htk'.out, List.filter_append]; simp [hpv]
        have hL2 : Hid ((T.L.take (i + 1)).filter p = (T.L.take i).filter p ++ [s]) := by show _ = _; rw [htk'.out, List.filter_append]; simp [hpv]
        clear hpv hB htk'
        go_wp2_with (first | (go_at_fn f; refine k1.mono ?_; rintro e w1 ⟨rfl, hb1⟩; have e0' := (hb1.cell (p := ⟨wr.heap.size, 0, none⟩) hwl.out).trans e0; have hB2 : Hid (Below w.heap.size w w1) := hB1.out.trans (hb1.mono hB1.out.size); have hS2 : Hid (OwnsS w1 w.heap.size u5 ((T.L.take i).filter (fun s => !p s))) := ownsRow_kept hS1.out hb1; have hW2 : Hid (OwnsW w1 w.heap.size u6 (wordsA ((T.L.take i).filter p))) := ownsRow_kept hW1.out hb1; have hN2 : Hid (w.heap.size ≤ w1.heap.size) := hB2.out.size; clear e0 e1 e2 e3 hb1 hB1 hS1 hW1 hbb) | (at_builtin; refine wpList_append_w rfl _ _ rfl w.heap.size u6 (wordsA ((T.L.take i).filter p)) s.t rfl (ownsRow_kept hW2.out ((Below.refl _ _).alloc (Nat.le_refl _) _)) w1.heap.size rfl ((blk_new w1 _ _).cell 0) hlen2.out (by have := hN2.out; simp; omega) ?_; intro v4 w4 hO4 hg4; have hW4 : Hid (OwnsW w4 w.heap.size v4 (wordsA ((T.L.take i).filter p) ++ [s.t])) := hO4; have hB4 : Hid (Below w.heap.size w w4) := own_below (hB2.out.alloc hN2.out _) (ownsRow_kept hW2.out ((Below.refl _ _).alloc (Nat.le_refl _) _)) hg4 (by have := hN2.out; simp; omega); have hS4 : Hid (OwnsS w4 w.heap.size u5 ((T.L.take i).filter (fun s => !p s))) := ownsRow_other (ownsRow_kept hS2.out ((Below.refl _ _).alloc (Nat.le_refl _) _)) (ownsRow_kept hW2.out ((Below.refl _ _).alloc (Nat.le_refl _) _)) (by decide) hg4; clear hO4 hg4))
        go_roundw
        case rel => exact ⟨i + 1, by omega, by go_num, (by rw [hL1.out]; exact hS4), (by rw [hL2.out]; show OwnsW _ _ _ _; rw [wordsA, List.map_append]; exact hW4), hB4⟩
        case measure => simp [intOf]; omega
      | false =>
        rw [hpv] at k1
        have hL1 : Hid ((T.L.take (i + 1)).filter (fun s => !p s) = (T.L.take i).filter (fun s => !p s) ++ [s]) := by show _ = _; rw [htk'.out, List.filter_append]; simp [hpv]
        have hL2 : Hid ((T.L.take (i + 1)).filter p = (T.L.take i).filter p) := by show _ = _; rw [htk'.out, List.filter_append]; simp [hpv]
        clear hpv hB htk'
        go_wp2_with (first | (go_at_fn f; refine k1.mono ?_; rintro e w1 ⟨rfl, hb1⟩; have e0' := (hb1.cell (p := ⟨wr.heap.size, 0, none⟩) hwl.out).trans e0; have e1' := (hb1.cell (p := ⟨wr.heap.size, 1, none⟩) hwl.out).trans e1; have e2' := (hb1.cell (p := ⟨wr.heap.size, 2, none⟩) hwl.out).trans e2; have e3' := (hb1.cell (p := ⟨wr.heap.size, 3, none⟩) hwl.out).trans e3; have hB2 : Hid (Below w.heap.size w w1) := hB1.out.trans (hb1.mono hB1.out.size); have hS2 : Hid (OwnsS w1 w.heap.size u5 ((T.L.take i).filter (fun s => !p s))) := ownsRow_kept hS1.out hb1; have hW2 : Hid (OwnsW w1 w.heap.size u6 (wordsA ((T.L.take i).filter p))) := ownsRow_kept hW1.out hb1; have hN2 : Hid (w.heap.size ≤ w1.heap.size) := hB2.out.size; clear e0 e1 e2 e3 hb1 hB1 hS1 hW1 hbb) | (at_builtin; refine wpList_append_s rfl _ _ rfl w.heap.size u5 ((T.L.take i).filter (fun s => !p s)) s rfl (ownsRow_kept hS2.out ((Below.refl _ _).alloc (Nat.le_refl _) _)) w1.heap.size rfl (fun j _ => ((blk_new w1 _ _).cell j).trans Array.getElem?_toList.symm) hlen1.out (by have := hN2.out; simp; omega) ?_; intro v4 w4 hO4 hg4; have hS4 : Hid (OwnsS w4 w.heap.size v4 ((T.L.take i).filter (fun s => !p s) ++ [s])) := hO4; have hB4 : Hid (Below w.heap.size w w4) := own_below (hB2.out.alloc hN2.out _) (ownsRow_kept hS2.out ((Below.refl _ _).alloc (Nat.le_refl _) _)) hg4 (by have := hN2.out; simp; omega); have hW4 : Hid (OwnsW w4 w.heap.size u6 (wordsA ((T.L.take i).filter p))) := ownsRow_other (ownsRow_kept hW2.out ((Below.refl _ _).alloc (Nat.le_refl _) _)) (ownsRow_kept hS2.out ((Below.refl _ _).alloc (Nat.le_refl _) _)) (by decide) hg4; clear hO4 hg4))
        go_roundw
        case rel => exact ⟨i + 1, by omega, by go_num, (by rw [hL1.out]; exact hS4), (by rw [hL2.out]; exact hW4), hB4⟩
        case measure => simp [intOf]; omega
    · have hz : ¬ (i : Int) < (n : Int) := by omega
      have hi : T.L.take i = T.L := List.take_of_length_le (by rw [← hn'.out]; omega)
      rw [hi] at hS hW
      have f4 := (hH.out.kept (w' := w) (Below.refl _ _)).blk.fz 4
      obtain ⟨a5, c5, rfl, _, _, _⟩ := ownsRow_form hS.out
      obtain ⟨a6, c6, rfl, _, _, _⟩ := ownsRow_form hW.out
      have hbt : Hid (Blk wr tb _ 63) := hH.out.blk.kept hB.out
      have c4r := hbt.out.cell 4
      have f4r := hbt.out.fz 4
      clear hi f4
      go_wp2
      go_ret
      refine ⟨_, rfl, ?_, ⟨.slice a5 (List.filter (fun s => !p s) T.L).length c5, ?_⟩, ?_⟩
      · exact ownsRow_keep hW.out fun b cur h1 h2 h3 => Below.heap_setCell _ _ _ _ (fun e1 => by
          have e2 : b = tb := e1
          have := hH.out.blk.lt
          omega)
      · refine ⟨hbt.out.set 4 _, ?_, fun g hg => ?_, hH.out.ct, hH.out.cm, ?_⟩
        · exact ownsRow_base (ownsRow_keep hS.out fun b cur h1 h2 h3 => Below.heap_setCell _ _ _ _ (fun e1 => by
            have e2 : b = tb := e1
            have := hH.out.blk.lt
            omega)) (Nat.zero_le _)
        · exact hCC.out g (ownsRow_lt hS.out g hg).1
        · exact (hH.out.mp.kept hB.out).set (hH.out.mp.ne hH.out.blk) 4 _
      · exact (KS.of_below hB.out).trans (KS.set (C := fun k => k = tb) wr tb 4 rfl _)
end Go.Proofs.Ytmohfblkfdkloaa
