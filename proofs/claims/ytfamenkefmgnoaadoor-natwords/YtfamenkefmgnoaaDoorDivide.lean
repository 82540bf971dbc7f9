/-
  Groups divided: nat.divide.
-/
import Derived.Test.YtfamenkefmgnoaaDoorBack
namespace Go.Proofs.YtfamenkefmgnoaaDoor
open Go.RowKit Go.Shelf
attribute [local go_sem] Oper.semAt_some

/-- The places that have come. -/
def plc {n : Nat} {P : Int → Prop} (pre : List (Bk n P)) : List Nat := pre.map fun x => x.1.1
/-- One group is divided. -/
def divStep (d : Int) (st : List Int × Int) (i : Nat) : List Int × Int :=
  (st.1.set i (IntKind.i64.wrap (Int.tdiv (IntKind.i64.wrap (IntKind.i64.wrap (st.2 * 1000000) + st.1.getD i 0)) d)), Int.tmod (IntKind.i64.wrap (IntKind.i64.wrap (st.2 * 1000000) + st.1.getD i 0)) d)
def divF (d : Int) (l : List Int) (xs : List Nat) : List Int × Int := xs.foldl (divStep d) (l, 0)
theorem divF_snoc (d : Int) (l : List Int) (xs : List Nat) (x : Nat) : divF d l (xs ++ [x]) = divStep d (divF d l xs) x := by simp [divF]
theorem divF_len (d : Int) (l : List Int) (xs : List Nat) : (divF d l xs).1.length = l.length := by
  have h : ∀ (xs : List Nat) (st : List Int × Int), (xs.foldl (divStep d) st).1.length = st.1.length := by
    intro xs
    induction xs with
    | nil => intro st; rfl
    | cons x xs ih => intro st; rw [List.foldl_cons, ih]; simp [divStep]
  exact h xs _
theorem grown_keep {w A B : World} {row : Option Nat} {X g : Nat} (h : w.grownBy A (some g)) (hX : w.heap.size ≤ X) (hg : A.grownBy B row) (hr : ∀ r, row = some r → X ≤ r ∧ ∃ o : Obj, A.heap[r]? = some o ∧ o.isCells = false) : w.grownBy B (some g) :=
  ⟨hg.os.trans h.os, hg.tape.trans h.tape, hg.output.trans h.output, Nat.le_trans h.size hg.size, fun k hk hne => (hg.block k (Nat.lt_of_lt_of_le hk h.size) (fun e => by have := (hr k e.symm).1; omega)).trans (h.block k hk hne)⟩
theorem grown_set {w A : World} {g : Nat} (h : w.grownBy A (some g)) {a : Addr} (ha : a.block = g ∨ w.heap.size ≤ a.block) (u : Value) : w.grownBy (A.setCell a u) (some g) :=
  ⟨h.os, h.tape, h.output, Nat.le_trans h.size (by simp [World.setCell]), fun k hk hne => (Below.heap_setCell A a u k (fun e => by
    rcases ha with ha | ha
    · exact hne (by rw [e, ha])
    · omega)).trans (h.block k hk hne)⟩
theorem grown_new {w A : World} {g : Nat} (h : w.grownBy A (some g)) (o : Obj) : w.grownBy (A.alloc o) (some g) :=
  ⟨h.os, h.tape, h.output, Nat.le_trans h.size (by simp), fun k hk hne => (Below.heap_alloc A o k (Nat.lt_of_lt_of_le hk h.size)).trans (h.block k hk hne)⟩

set_option maxRecDepth 100000 in
set_option maxHeartbeats 2000000 in
theorem divide_fold (g n cap base : Nat) (l : List Int) (d : Int) (w : World) (ho : OwnsI w base (.slice (some ⟨g, 0, none⟩) n cap) l) (hn : n ≤ 9223372036854775807) (hd : 1 ≤ d ∧ d ≤ 1000000) :
    Calls Tryd.prog 44 #[.slice (some ⟨g, 0, none⟩) n cap, .int .i64 d] w fun e w' => e = .returned (.int .i64 (divF d l (upto (fun j => n - 1 - j) n)).2) ∧
      OwnsI w' base (.slice (some ⟨g, 0, none⟩) n cap) (divF d l (upto (fun j => n - 1 - j) n)).1 ∧ w.grownBy w' (some g) := by
  have hbg := ho.ge
  have hll := ho.len
  refine (callsIn_wide (n := 5)).1 ?_
  refine callsIn_of_wp_marks Tryd.func44 rfl trivial ?_ rfl
  simp only [Tryd.ntmps44, List.size_toArray, List.length_cons, List.length_nil, Nat.reduceAdd, Nat.reduceSub, Array.replicate_succ, Array.replicate_zero, List.push_toArray, List.append_toArray, List.nil_append, List.cons_append]
  gi_wp2_with (refine ⟨trivial, ?_⟩; gi_at_call 55; refine (back_in Fence.wide _ trivial rfl _ _ _ _).mono ?_; rintro e w' ⟨rfl, rfl⟩)
  obtain ⟨W0, hW0⟩ : ∃ W0, (((w.alloc (.cells #[.slice (some ⟨g, 0, none⟩) n cap] 58)).alloc (.cells #[.int .i64 d] 3)).alloc (.cells #[.int .i64 0] 3)).alloc (.cells #[.slice (some ⟨g, 0, none⟩) n cap] 58) = W0 := ⟨_, rfl⟩
  have hs0 : W0.heap.size = w.heap.size + 4 := by rw [← hW0]; simp
  have b1 : Boxed W0 w.heap.size 58 (.slice (some ⟨g, 0, none⟩) n cap) := by rw [← hW0]; exact (((Boxed.new w 58 _).alloc _).alloc _).alloc _
  have b2 : Boxed W0 (w.heap.size + 1) 3 (.int .i64 d) := by
    rw [← hW0]
    have := Boxed.new (w.alloc (.cells #[.slice (some ⟨g, 0, none⟩) n cap] 58)) 3 (.int .i64 d)
    rw [World.size_alloc] at this
    exact (this.alloc _).alloc _
  have b3 : Boxed W0 (w.heap.size + 2) 3 (.int .i64 0) := by
    rw [← hW0]
    have := Boxed.new ((w.alloc (.cells #[.slice (some ⟨g, 0, none⟩) n cap] 58)).alloc (.cells #[.int .i64 d] 3)) 3 (.int .i64 0)
    rw [World.size_alloc, World.size_alloc] at this
    exact this.alloc _
  have b4 : Boxed W0 (w.heap.size + 3) 58 (.slice (some ⟨g, 0, none⟩) n cap) := by
    rw [← hW0]
    have := Boxed.new (((w.alloc (.cells #[.slice (some ⟨g, 0, none⟩) n cap] 58)).alloc (.cells #[.int .i64 d] 3)).alloc (.cells #[.int .i64 0] 3)) 58 (.slice (some ⟨g, 0, none⟩) n cap)
    rw [World.size_alloc, World.size_alloc, World.size_alloc] at this
    exact this
  have hO : OwnsI W0 base (.slice (some ⟨g, 0, none⟩) n cap) l := by rw [← hW0]; exact (((ho.alloc _).alloc _).alloc _).alloc _
  have hB : w.grownBy W0 (some g) := by
    rw [← hW0]
    exact grown_new (grown_new (grown_new (grown_new (World.grownBy.refl _ _) _) _) _) _
  rw [hW0]
  clear hW0 ho
  refine wpIn_rangeFunc_ownG (w := W0) rfl (by decide) (gf := 62) (lb := #[.pointer (some ⟨w.heap.size + 1 + 1 + 1, 0, none⟩)]) rfl trivial (enters_of Tryd.func62 (by kernel_rfl) rfl)
    (back_stops Fence.wide _ trivial rfl (by decide) (w.heap.size + 1 + 1 + 1) g n cap _ (fun _ => rfl) hn (fun _ => True) (fun _ _ => True) (fun _ _ _ => trivial) W0 (by omega) (by omega) b4.cell (fun j hj => ⟨_, hO.cell (by omega), trivial⟩)) kpZ_t (kpZ_b (by omega) (by omega)) (Below.refl _ _) (fun _ => rfl)
    (fun pre W => (Boxed W w.heap.size 58 (.slice (some ⟨g, 0, none⟩) n cap) ∧ Boxed W (w.heap.size + 1) 3 (.int .i64 d) ∧ Boxed W (w.heap.size + 2) 3 (.int .i64 (divF d l (plc pre)).2)) ∧ OwnsI W base (.slice (some ⟨g, 0, none⟩) n cap) (divF d l (plc pre)).1 ∧ w.grownBy W (some g))
    (fun _ _ _ => False)
    (fun s A B row hs hg hr => ⟨⟨boxed_keep hs.1.1 hg hr, boxed_keep hs.1.2.1 hg hr, boxed_keep hs.1.2.2 hg hr⟩, row_keep hs.2.1 hg hr, grown_keep hs.2.2 (by omega) hg hr⟩)
    (fun _ _ _ _ _ hs _ _ => hs)
    ⟨⟨b1, b2, b3⟩, hO, hB⟩
    (fun x => { tmps := #[.slice (some ⟨g, 0, none⟩) n cap, .int .i64 d, .pointer (some ⟨w.heap.size, 0, none⟩), .pointer (some ⟨w.heap.size + 1, 0, none⟩), .int .i64 0, .pointer (some ⟨w.heap.size + 1 + 1, 0, none⟩), .int .i64 (x.1.1 : Nat), undef, .slice (some ⟨g, 0, none⟩) n cap, .func (.func 62) #[] #[.pointer (some ⟨w.heap.size + 1 + 1 + 1, 0, none⟩)], .int .i64 (x.1.1 : Nat), .int .i64 x.1.2, undef, undef, undef, undef, undef, undef, undef, undef, undef, undef, undef, undef, undef, undef, undef, undef, undef], defers := [] }) ?assign ?body ?done ?stop
  case assign =>
    intro l x W K hK
    gi_wp2
    exact hK
  case body =>
    rintro lr pre x W ⟨⟨c1, c2, c3⟩, hOr, hBr⟩ hlt
    have k1 := c1.cell
    have k2 := c2.cell
    have k3 := c3.cell
    have f3 := c3.frozen
    obtain ⟨⟨q, z⟩, hq⟩ := x
    have hq' : q < n := hq.1
    have hc := hOr.cell (j := q) (by rw [divF_len, hll]; exact hq')
    have hf := hOr.frozen q
    have hsn : Hid (divF d l (plc (pre ++ [(⟨(q, z), hq⟩ : Bk n fun _ => True)])) = divStep d (divF d l (plc pre)) q) := by
      show _ = _
      have e : plc (pre ++ [(⟨(q, z), hq⟩ : Bk n fun _ => True)]) = plc pre ++ [q] := List.map_append
      rw [e]
      exact divF_snoc d l (plc pre) q
    obtain ⟨⟨Gs, R⟩, hT⟩ : ∃ st, divF d l (plc pre) = st := ⟨_, rfl⟩
    rw [hT] at hc k3 hOr hsn c3
    dsimp only at hc k3 hOr c3
    have i1 : ((q : Nat) : Int) < (n : Int) := by omega
    have mixed : Tryd.prog.follows .mixedOrders = true := by kernel_rfl
    unfold divStep at hsn
    dsimp only at hsn
    obtain ⟨G, hG⟩ : ∃ G, Gs.getD q 0 = G := ⟨_, rfl⟩
    rw [hG] at hc hsn
    obtain ⟨M, hM⟩ : ∃ M, IntKind.i64.wrap (IntKind.i64.wrap (R * 1000000) + G) = M := ⟨_, rfl⟩
    rw [hM] at hsn
    have hd0 : (d = 0) = False := by simp; omega
    have hd2 : ¬ d = 0 := by omega
    obtain ⟨U, hU⟩ : ∃ U, IntKind.i64.wrap (M.tdiv d) = U := ⟨_, rfl⟩
    rw [hU] at hsn
    have hne2 : g ≠ w.heap.size + 2 := by omega
    have hne1 : g ≠ w.heap.size + 1 := by omega
    have hne0 : g ≠ w.heap.size := by omega
    have hne3 : g ≠ w.heap.size + 1 + 1 + 1 := by omega
    have hGl : Gs.length = n := hOr.len
    have B1 := boxed_apart (a := ⟨g, q, none⟩) (.int .i64 U) c1 hne0
    have B2 := boxed_apart (a := ⟨g, q, none⟩) (.int .i64 U) c2 hne1
    have B3 := boxed_apart (a := ⟨g, q, none⟩) (.int .i64 U) c3 hne2
    have v2 : (W.setCell ⟨g, q, none⟩ (.int .i64 U)).cell? ⟨w.heap.size + 1, 0, none⟩ = some (.int .i64 d) := B2.cell
    have v3 : (W.setCell ⟨g, q, none⟩ (.int .i64 U)).cell? ⟨w.heap.size + 2, 0, none⟩ = some (.int .i64 R) := B3.cell
    have y3 : (W.setCell ⟨g, q, none⟩ (.int .i64 U)).frozen? ⟨w.heap.size + 2, 0, none⟩ = false := B3.frozen
    have O2 : OwnsI ((W.setCell ⟨g, q, none⟩ (.int .i64 U)).setCell ⟨w.heap.size + 2, 0, none⟩ (.int .i64 (M.tmod d))) base (.slice (some ⟨g, 0, none⟩) n cap) (Gs.set q U) := (hOr.store q U).apart _ (by exact hne2.symm)
    have fin : Hid (ownPostG W0.heap.size (KpZ (w.heap.size + 1 + 1 + 1) g n fun _ _ => True) (fun (pre : List (Bk n fun _ => True)) W => (Boxed W w.heap.size 58 (.slice (some ⟨g, 0, none⟩) n cap) ∧ Boxed W (w.heap.size + 1) 3 (.int .i64 d) ∧ Boxed W (w.heap.size + 2) 3 (.int .i64 (divF d l (plc pre)).2)) ∧ OwnsI W base (.slice (some ⟨g, 0, none⟩) n cap) (divF d l (plc pre)).1 ∧ w.grownBy W (some g)) (fun _ _ _ => False) (pre ++ [⟨(q, z), hq⟩]) W .normal { tmps := #[], defers := [] } ((W.setCell ⟨g, q, none⟩ (.int .i64 U)).setCell ⟨w.heap.size + 2, 0, none⟩ (.int .i64 (M.tmod d))).drew.drew) := by
      refine ⟨((((KeepsOthers.setCell _ _ _).trans (KeepsOthers.setCell _ _ _)).trans (KeepsOthers.drew _)).trans (KeepsOthers.drew _)).from _, ⟨?_, fun _ j hj => ⟨_, O2.cell (by rw [List.length_set]; omega), trivial⟩⟩, ?_⟩
      · unfold KpB
        show ((W.setCell ⟨g, q, none⟩ (.int .i64 U)).setCell ⟨w.heap.size + 2, 0, none⟩ (.int .i64 (M.tmod d))).cell? ⟨w.heap.size + 1 + 1 + 1, 0, none⟩ = _
        rw [cell_apart _ _ _ (by show w.heap.size + 2 ≠ w.heap.size + 1 + 1 + 1; omega), cell_apart _ _ _ (by exact hne3)]
      · show (_ ∧ _) ∧ _
        rw [hsn.out]
        have E1 := boxed_apart (a := ⟨w.heap.size + 2, 0, none⟩) (.int .i64 (M.tmod d)) B1 (by show w.heap.size + 2 ≠ w.heap.size; omega)
        have E2 := boxed_apart (a := ⟨w.heap.size + 2, 0, none⟩) (.int .i64 (M.tmod d)) B2 (by show w.heap.size + 2 ≠ w.heap.size + 1; omega)
        have E5 := grown_set (grown_set hBr (a := ⟨g, q, none⟩) (.inl rfl) (.int .i64 U)) (a := ⟨w.heap.size + 2, 0, none⟩) (.inr (by show w.heap.size ≤ w.heap.size + 2; omega)) (.int .i64 (M.tmod d))
        exact ⟨⟨E1, E2, B3.set _⟩, O2, ⟨E5.os, E5.tape, E5.output, E5.size, E5.block⟩⟩
    clear hOr hG hT O2 B1 B2 B3 hne0 hne1 hne2 hne3 hsn hGl
    gi_wp2
    refine region_round mixed (by rfl) ?_
    (refine wpAnyIn_take (i := 3) (v := ?_) rfl rfl (by kernel_rfl) (by kernel_rfl) (by kernel_rfl) (fun _ _ _ h => h) ⟨Or.inl ⟨by rfl, (by intro w; (go_simp <;> with_reducible rfl))⟩, fun _ => rfl⟩ ?_)
    (refine wpAnyIn_ready (rs := [0, 2]) (by kernel_rfl) (by simp) ?_; refine (AllReadyIn.cons rfl (fun K hK => ?_) (AllReadyIn.cons rfl (fun K hK => ?_) AllReadyIn.nil)) <;> (go_simp; refine hK _ _ ?_; clear hK K))
    · (refine wpAnyIn_take (i := 1) (v := ?_) rfl rfl (by kernel_rfl) (by kernel_rfl) (by kernel_rfl) (fun _ _ _ h => h) ⟨Or.inl ⟨by rfl, (by intro w; (go_simp <;> with_reducible rfl))⟩, fun _ => rfl⟩ ?_)
      (refine wpAnyIn_ready (rs := [2]) (by kernel_rfl) (by simp) ?_; refine (AllReadyIn.cons rfl (fun K hK => ?_) AllReadyIn.nil) <;> (go_simp; refine hK _ _ ?_; clear hK K))
      (refine wpAnyIn_take (i := 4) (v := ?_) rfl rfl (by kernel_rfl) (by kernel_rfl) (by kernel_rfl) (fun _ _ _ h => h) ⟨Or.inl ⟨by rfl, (by intro w; (go_simp <;> with_reducible rfl))⟩, fun _ => rfl⟩ ?_)
      (refine wpAnyIn_ready (rs := [5]) (by kernel_rfl) (by simp) ?_; refine (AllReadyIn.cons rfl (fun K hK => ?_) AllReadyIn.nil) <;> (go_simp; refine hK _ _ ?_; clear hK K))
      (refine wpAnyIn_take (i := 6) (v := ?_) rfl rfl (by kernel_rfl) (by kernel_rfl) (by kernel_rfl) (fun _ _ _ h => h) ⟨Or.inl ⟨by rfl, (by intro w; (go_simp <;> with_reducible rfl))⟩, fun _ => rfl⟩ ?_)
      (refine wpAnyIn_take (i := 7) (v := ?_) rfl rfl (by kernel_rfl) (by kernel_rfl) (by kernel_rfl) (fun _ _ _ h => h) ⟨Or.inl ⟨by rfl, (by intro w; (go_simp <;> with_reducible rfl))⟩, fun _ => rfl⟩ ?_)
      (refine wpAnyIn_done (by kernel_rfl) ?_ _)
      gi_wp2
      refine region_round mixed (by rfl) ?_
      (refine wpAnyIn_take (i := 1) (v := ?_) rfl rfl (by kernel_rfl) (by kernel_rfl) (by kernel_rfl) (fun _ _ _ h => h) ⟨Or.inl ⟨by rfl, (by intro w; (go_simp <;> with_reducible rfl))⟩, fun _ => rfl⟩ ?_)
      (refine wpAnyIn_take (i := 2) (v := ?_) rfl rfl (by kernel_rfl) (by kernel_rfl) (by kernel_rfl) (fun _ _ _ h => h) ⟨Or.inl ⟨by rfl, (by intro w; (go_simp <;> with_reducible rfl))⟩, fun _ => rfl⟩ ?_)
      (refine wpAnyIn_ready (rs := [0, 3]) (by kernel_rfl) (by simp) ?_; refine (AllReadyIn.cons rfl (fun K hK => ?_) (AllReadyIn.cons rfl (fun K hK => ?_) AllReadyIn.nil)) <;> (go_simp; refine hK _ _ ?_; clear hK K))
      · (refine wpAnyIn_ready (rs := [3]) (by kernel_rfl) (by simp) ?_; refine (AllReadyIn.cons rfl (fun K hK => ?_) AllReadyIn.nil) <;> (go_simp; refine hK _ _ ?_; clear hK K))
        (refine wpAnyIn_take (i := 4) (v := ?_) rfl rfl (by kernel_rfl) (by kernel_rfl) (by kernel_rfl) (fun _ _ _ h => h) ⟨Or.inl ⟨by rfl, (by intro w; (go_simp <;> with_reducible rfl))⟩, fun _ => rfl⟩ ?_)
        (refine wpAnyIn_take (i := 5) (v := ?_) rfl rfl (by kernel_rfl) (by kernel_rfl) (by kernel_rfl) (fun _ _ _ h => h) ⟨Or.inl ⟨by rfl, (by intro w; (go_simp <;> with_reducible rfl))⟩, fun _ => rfl⟩ ?_)
        (refine wpAnyIn_ready (rs := [6]) (by kernel_rfl) (by simp) ?_; refine (AllReadyIn.cons rfl (fun K hK => ?_) AllReadyIn.nil) <;> (go_simp; refine hK _ _ ?_; clear hK K))
        (refine wpAnyIn_done (by kernel_rfl) ?_ _)
        gi_wp2
        first | exact fin.out | (have f1 := fin.out; rw [hs0] at f1; exact f1)
      · (refine wpAnyIn_take (i := 4) (v := ?_) rfl rfl (by kernel_rfl) (by kernel_rfl) (by kernel_rfl) (fun _ _ _ h => h) ⟨Or.inl ⟨by rfl, (by intro w; (go_simp <;> with_reducible rfl))⟩, fun _ => rfl⟩ ?_)
        (refine wpAnyIn_ready (rs := [0]) (by kernel_rfl) (by simp) ?_; refine (AllReadyIn.cons rfl (fun K hK => ?_) AllReadyIn.nil) <;> (go_simp; refine hK _ _ ?_; clear hK K))
        (refine wpAnyIn_take (i := 5) (v := ?_) rfl rfl (by kernel_rfl) (by kernel_rfl) (by kernel_rfl) (fun _ _ _ h => h) ⟨Or.inl ⟨by rfl, (by intro w; (go_simp <;> with_reducible rfl))⟩, fun _ => rfl⟩ ?_)
        (refine wpAnyIn_ready (rs := [6]) (by kernel_rfl) (by simp) ?_; refine (AllReadyIn.cons rfl (fun K hK => ?_) AllReadyIn.nil) <;> (go_simp; refine hK _ _ ?_; clear hK K))
        (refine wpAnyIn_done (by kernel_rfl) ?_ _)
        gi_wp2
        first | exact fin.out | (have f1 := fin.out; rw [hs0] at f1; exact f1)
    · (refine wpAnyIn_take (i := 4) (v := ?_) rfl rfl (by kernel_rfl) (by kernel_rfl) (by kernel_rfl) (fun _ _ _ h => h) ⟨Or.inl ⟨by rfl, (by intro w; (go_simp <;> with_reducible rfl))⟩, fun _ => rfl⟩ ?_)
      (refine wpAnyIn_ready (rs := [0, 5]) (by kernel_rfl) (by simp) ?_; refine (AllReadyIn.cons rfl (fun K hK => ?_) (AllReadyIn.cons rfl (fun K hK => ?_) AllReadyIn.nil)) <;> (go_simp; refine hK _ _ ?_; clear hK K))
      · (refine wpAnyIn_take (i := 1) (v := ?_) rfl rfl (by kernel_rfl) (by kernel_rfl) (by kernel_rfl) (fun _ _ _ h => h) ⟨Or.inl ⟨by rfl, (by intro w; (go_simp <;> with_reducible rfl))⟩, fun _ => rfl⟩ ?_)
        (refine wpAnyIn_ready (rs := [5]) (by kernel_rfl) (by simp) ?_; refine (AllReadyIn.cons rfl (fun K hK => ?_) AllReadyIn.nil) <;> (go_simp; refine hK _ _ ?_; clear hK K))
        (refine wpAnyIn_take (i := 6) (v := ?_) rfl rfl (by kernel_rfl) (by kernel_rfl) (by kernel_rfl) (fun _ _ _ h => h) ⟨Or.inl ⟨by rfl, (by intro w; (go_simp <;> with_reducible rfl))⟩, fun _ => rfl⟩ ?_)
        (refine wpAnyIn_take (i := 7) (v := ?_) rfl rfl (by kernel_rfl) (by kernel_rfl) (by kernel_rfl) (fun _ _ _ h => h) ⟨Or.inl ⟨by rfl, (by intro w; (go_simp <;> with_reducible rfl))⟩, fun _ => rfl⟩ ?_)
        (refine wpAnyIn_done (by kernel_rfl) ?_ _)
        gi_wp2
        refine region_round mixed (by rfl) ?_
        (refine wpAnyIn_take (i := 1) (v := ?_) rfl rfl (by kernel_rfl) (by kernel_rfl) (by kernel_rfl) (fun _ _ _ h => h) ⟨Or.inl ⟨by rfl, (by intro w; (go_simp <;> with_reducible rfl))⟩, fun _ => rfl⟩ ?_)
        (refine wpAnyIn_take (i := 2) (v := ?_) rfl rfl (by kernel_rfl) (by kernel_rfl) (by kernel_rfl) (fun _ _ _ h => h) ⟨Or.inl ⟨by rfl, (by intro w; (go_simp <;> with_reducible rfl))⟩, fun _ => rfl⟩ ?_)
        (refine wpAnyIn_ready (rs := [0, 3]) (by kernel_rfl) (by simp) ?_; refine (AllReadyIn.cons rfl (fun K hK => ?_) (AllReadyIn.cons rfl (fun K hK => ?_) AllReadyIn.nil)) <;> (go_simp; refine hK _ _ ?_; clear hK K))
        · (refine wpAnyIn_ready (rs := [3]) (by kernel_rfl) (by simp) ?_; refine (AllReadyIn.cons rfl (fun K hK => ?_) AllReadyIn.nil) <;> (go_simp; refine hK _ _ ?_; clear hK K))
          (refine wpAnyIn_take (i := 4) (v := ?_) rfl rfl (by kernel_rfl) (by kernel_rfl) (by kernel_rfl) (fun _ _ _ h => h) ⟨Or.inl ⟨by rfl, (by intro w; (go_simp <;> with_reducible rfl))⟩, fun _ => rfl⟩ ?_)
          (refine wpAnyIn_take (i := 5) (v := ?_) rfl rfl (by kernel_rfl) (by kernel_rfl) (by kernel_rfl) (fun _ _ _ h => h) ⟨Or.inl ⟨by rfl, (by intro w; (go_simp <;> with_reducible rfl))⟩, fun _ => rfl⟩ ?_)
          (refine wpAnyIn_ready (rs := [6]) (by kernel_rfl) (by simp) ?_; refine (AllReadyIn.cons rfl (fun K hK => ?_) AllReadyIn.nil) <;> (go_simp; refine hK _ _ ?_; clear hK K))
          (refine wpAnyIn_done (by kernel_rfl) ?_ _)
          gi_wp2
          first | exact fin.out | (have f1 := fin.out; rw [hs0] at f1; exact f1)
        · (refine wpAnyIn_take (i := 4) (v := ?_) rfl rfl (by kernel_rfl) (by kernel_rfl) (by kernel_rfl) (fun _ _ _ h => h) ⟨Or.inl ⟨by rfl, (by intro w; (go_simp <;> with_reducible rfl))⟩, fun _ => rfl⟩ ?_)
          (refine wpAnyIn_ready (rs := [0]) (by kernel_rfl) (by simp) ?_; refine (AllReadyIn.cons rfl (fun K hK => ?_) AllReadyIn.nil) <;> (go_simp; refine hK _ _ ?_; clear hK K))
          (refine wpAnyIn_take (i := 5) (v := ?_) rfl rfl (by kernel_rfl) (by kernel_rfl) (by kernel_rfl) (fun _ _ _ h => h) ⟨Or.inl ⟨by rfl, (by intro w; (go_simp <;> with_reducible rfl))⟩, fun _ => rfl⟩ ?_)
          (refine wpAnyIn_ready (rs := [6]) (by kernel_rfl) (by simp) ?_; refine (AllReadyIn.cons rfl (fun K hK => ?_) AllReadyIn.nil) <;> (go_simp; refine hK _ _ ?_; clear hK K))
          (refine wpAnyIn_done (by kernel_rfl) ?_ _)
          gi_wp2
          first | exact fin.out | (have f1 := fin.out; rw [hs0] at f1; exact f1)
      · (refine wpAnyIn_ready (rs := [0]) (by kernel_rfl) (by simp) ?_; refine (AllReadyIn.cons rfl (fun K hK => ?_) AllReadyIn.nil) <;> (go_simp; refine hK _ _ ?_; clear hK K))
        (refine wpAnyIn_take (i := 1) (v := ?_) rfl rfl (by kernel_rfl) (by kernel_rfl) (by kernel_rfl) (fun _ _ _ h => h) ⟨Or.inl ⟨by rfl, (by intro w; (go_simp <;> with_reducible rfl))⟩, fun _ => rfl⟩ ?_)
        (refine wpAnyIn_take (i := 6) (v := ?_) rfl rfl (by kernel_rfl) (by kernel_rfl) (by kernel_rfl) (fun _ _ _ h => h) ⟨Or.inl ⟨by rfl, (by intro w; (go_simp <;> with_reducible rfl))⟩, fun _ => rfl⟩ ?_)
        (refine wpAnyIn_take (i := 7) (v := ?_) rfl rfl (by kernel_rfl) (by kernel_rfl) (by kernel_rfl) (fun _ _ _ h => h) ⟨Or.inl ⟨by rfl, (by intro w; (go_simp <;> with_reducible rfl))⟩, fun _ => rfl⟩ ?_)
        (refine wpAnyIn_done (by kernel_rfl) ?_ _)
        gi_wp2
        refine region_round mixed (by rfl) ?_
        (refine wpAnyIn_take (i := 1) (v := ?_) rfl rfl (by kernel_rfl) (by kernel_rfl) (by kernel_rfl) (fun _ _ _ h => h) ⟨Or.inl ⟨by rfl, (by intro w; (go_simp <;> with_reducible rfl))⟩, fun _ => rfl⟩ ?_)
        (refine wpAnyIn_take (i := 2) (v := ?_) rfl rfl (by kernel_rfl) (by kernel_rfl) (by kernel_rfl) (fun _ _ _ h => h) ⟨Or.inl ⟨by rfl, (by intro w; (go_simp <;> with_reducible rfl))⟩, fun _ => rfl⟩ ?_)
        (refine wpAnyIn_ready (rs := [0, 3]) (by kernel_rfl) (by simp) ?_; refine (AllReadyIn.cons rfl (fun K hK => ?_) (AllReadyIn.cons rfl (fun K hK => ?_) AllReadyIn.nil)) <;> (go_simp; refine hK _ _ ?_; clear hK K))
        · (refine wpAnyIn_ready (rs := [3]) (by kernel_rfl) (by simp) ?_; refine (AllReadyIn.cons rfl (fun K hK => ?_) AllReadyIn.nil) <;> (go_simp; refine hK _ _ ?_; clear hK K))
          (refine wpAnyIn_take (i := 4) (v := ?_) rfl rfl (by kernel_rfl) (by kernel_rfl) (by kernel_rfl) (fun _ _ _ h => h) ⟨Or.inl ⟨by rfl, (by intro w; (go_simp <;> with_reducible rfl))⟩, fun _ => rfl⟩ ?_)
          (refine wpAnyIn_take (i := 5) (v := ?_) rfl rfl (by kernel_rfl) (by kernel_rfl) (by kernel_rfl) (fun _ _ _ h => h) ⟨Or.inl ⟨by rfl, (by intro w; (go_simp <;> with_reducible rfl))⟩, fun _ => rfl⟩ ?_)
          (refine wpAnyIn_ready (rs := [6]) (by kernel_rfl) (by simp) ?_; refine (AllReadyIn.cons rfl (fun K hK => ?_) AllReadyIn.nil) <;> (go_simp; refine hK _ _ ?_; clear hK K))
          (refine wpAnyIn_done (by kernel_rfl) ?_ _)
          gi_wp2
          first | exact fin.out | (have f1 := fin.out; rw [hs0] at f1; exact f1)
        · (refine wpAnyIn_take (i := 4) (v := ?_) rfl rfl (by kernel_rfl) (by kernel_rfl) (by kernel_rfl) (fun _ _ _ h => h) ⟨Or.inl ⟨by rfl, (by intro w; (go_simp <;> with_reducible rfl))⟩, fun _ => rfl⟩ ?_)
          (refine wpAnyIn_ready (rs := [0]) (by kernel_rfl) (by simp) ?_; refine (AllReadyIn.cons rfl (fun K hK => ?_) AllReadyIn.nil) <;> (go_simp; refine hK _ _ ?_; clear hK K))
          (refine wpAnyIn_take (i := 5) (v := ?_) rfl rfl (by kernel_rfl) (by kernel_rfl) (by kernel_rfl) (fun _ _ _ h => h) ⟨Or.inl ⟨by rfl, (by intro w; (go_simp <;> with_reducible rfl))⟩, fun _ => rfl⟩ ?_)
          (refine wpAnyIn_ready (rs := [6]) (by kernel_rfl) (by simp) ?_; refine (AllReadyIn.cons rfl (fun K hK => ?_) AllReadyIn.nil) <;> (go_simp; refine hK _ _ ?_; clear hK K))
          (refine wpAnyIn_done (by kernel_rfl) ?_ _)
          gi_wp2
          first | exact fin.out | (have f1 := fin.out; rw [hs0] at f1; exact f1)
  case done =>
    rintro D ys W hD hS ⟨⟨c1, c2, c3⟩, hOr, hBr⟩ hK
    have k3 := c3.cell
    have hp : plc ys = upto (fun j => n - 1 - j) n := hS.1
    rw [hp] at k3 hOr
    clear hp c3 hS
    gi_wp2
    refine ⟨by simp, .inl ⟨_, _, rfl, run_takeDeferred hK, ?_⟩⟩
    refine ⟨_, results_tmp rfl _ _ _, rfl, ownsRow_putObj hOr _ hK rfl, ?_⟩
    exact grown_keep hBr (X := w.heap.size) (Nat.le_refl _) (grownBy_putObj' W D (.deferred none)) (fun r e => by cases e; exact ⟨by omega, _, hK, rfl⟩)
  case stop =>
    rintro D c pre W _ _ h _
    exact h.elim
end Go.Proofs.YtfamenkefmgnoaaDoor
