/-
  Groups divided: nat.divide.
  What dividing groups comes to: quotient and rest.
  A number's bytes: nat.ToBytes.
-/
import Derived.Test.YtnjbppfanmmifaaGreatDoorH19
import Derived.Test.YtnjbppfanmmifaaGreatDoorH34
namespace Go.Proofs.YtnjbppfanmmifaaGreatDoor
open Go.RowKit Go.Shelf
attribute [local go_sem] Oper.semAt_some

/-- One group is divided. -/
def divStep (d : Int) (st : List Int × Int) (i : Nat) : List Int × Int :=
  (st.1.set i (IntKind.i64.wrap (Int.tdiv (IntKind.i64.wrap (IntKind.i64.wrap (st.2 * 1000000) + st.1.getD i 0)) d)), Int.tmod (IntKind.i64.wrap (IntKind.i64.wrap (st.2 * 1000000) + st.1.getD i 0)) d)
def divF (d : Int) (l : List Int) (xs : List Nat) : List Int × Int := xs.foldl (divStep d) (l, 0)
theorem divF_snoc (d : Int) (l : List Int) (xs : List Nat) (x : Nat) : divF d l (xs ++ [x]) = divStep d (divF d l xs) x := by simp [divF]
theorem divF_len (d : Int) (l : List Int) (xs : List Nat) : (divF d l xs).1.length = l.length := by
  have h : ∀ (xs : List Nat) (st : List Int × Int), (xs.foldl (divStep d) st).1.length = st.1.length := by
    intro xs
    induction xs with
    | nil => intro st; rfl
    | cons x xs ih => intro st; rw [List.foldl_cons, ih]; simp [divStep]
  exact h xs _
set_option maxRecDepth 100000 in
set_option maxHeartbeats 2000000 in
theorem divide_fold (g n cap base : Nat) (l : List Int) (d : Int) (w : World) (ho : OwnsI w base (.slice (some ⟨g, 0, none⟩) n cap) l) (hn : n ≤ 9223372036854775807) (hd : 1 ≤ d ∧ d ≤ 1000000) :
    Calls Tryz.prog 187 #[.slice (some ⟨g, 0, none⟩) n cap, .int .i64 d] w fun e w' => e = .returned (.int .i64 (divF d l (upto (fun j => n - 1 - j) n)).2) ∧
      OwnsI w' base (.slice (some ⟨g, 0, none⟩) n cap) (divF d l (upto (fun j => n - 1 - j) n)).1 ∧ w.grownBy w' (some g) := by
  have hbg := ho.ge
  have hll := ho.len
  refine (callsIn_wide (n := 5)).1 ?_
  refine callsIn_of_wp_marks Tryz.func187 rfl trivial ?_ rfl
  simp only [Tryz.ntmps187, List.size_toArray, List.length_cons, List.length_nil, Nat.reduceAdd, Nat.reduceSub, Array.replicate_succ, Array.replicate_zero, List.push_toArray, List.append_toArray, List.nil_append, List.cons_append]
  gi_wp2_with (refine ⟨trivial, ?_⟩; gi_at_call 182; refine (back_in Fence.wide _ trivial rfl _ _ _ _).mono ?_; rintro e w' ⟨rfl, rfl⟩)
  obtain ⟨W0, hW0⟩ : ∃ W0, (((w.alloc (.cells #[.slice (some ⟨g, 0, none⟩) n cap] 133)).alloc (.cells #[.int .i64 d] 3)).alloc (.cells #[.int .i64 0] 3)).alloc (.cells #[.slice (some ⟨g, 0, none⟩) n cap] 133) = W0 := ⟨_, rfl⟩
  have hs0 : W0.heap.size = w.heap.size + 4 := by rw [← hW0]; simp
  have b1 : Boxed W0 w.heap.size 133 (.slice (some ⟨g, 0, none⟩) n cap) := by rw [← hW0]; exact (((Boxed.new w 133 _).alloc _).alloc _).alloc _
  have b2 : Boxed W0 (w.heap.size + 1) 3 (.int .i64 d) := by
    rw [← hW0]
    have := Boxed.new (w.alloc (.cells #[.slice (some ⟨g, 0, none⟩) n cap] 133)) 3 (.int .i64 d)
    rw [World.size_alloc] at this
    exact (this.alloc _).alloc _
  have b3 : Boxed W0 (w.heap.size + 2) 3 (.int .i64 0) := by
    rw [← hW0]
    have := Boxed.new ((w.alloc (.cells #[.slice (some ⟨g, 0, none⟩) n cap] 133)).alloc (.cells #[.int .i64 d] 3)) 3 (.int .i64 0)
    rw [World.size_alloc, World.size_alloc] at this
    exact this.alloc _
  have b4 : Boxed W0 (w.heap.size + 3) 133 (.slice (some ⟨g, 0, none⟩) n cap) := by
    rw [← hW0]
    have := Boxed.new (((w.alloc (.cells #[.slice (some ⟨g, 0, none⟩) n cap] 133)).alloc (.cells #[.int .i64 d] 3)).alloc (.cells #[.int .i64 0] 3)) 133 (.slice (some ⟨g, 0, none⟩) n cap)
    rw [World.size_alloc, World.size_alloc, World.size_alloc] at this
    exact this
  have hO : OwnsI W0 base (.slice (some ⟨g, 0, none⟩) n cap) l := by rw [← hW0]; exact (((ho.alloc _).alloc _).alloc _).alloc _
  have hB : w.grownBy W0 (some g) := by
    rw [← hW0]
    exact grown_new (grown_new (grown_new (grown_new (World.grownBy.refl _ _) _) _) _) _
  rw [hW0]
  clear hW0 ho
  refine wpIn_rangeFunc_ownG (w := W0) rfl (by decide) (gf := 206) (lb := #[.pointer (some ⟨w.heap.size + 1 + 1 + 1, 0, none⟩)]) rfl trivial (enters_of Tryz.func206 (by kernel_rfl) rfl)
    (back_stops Fence.wide _ trivial rfl (by decide) (w.heap.size + 1 + 1 + 1) g n cap _ (fun _ => rfl) hn (fun _ => True) (fun _ _ => True) (fun _ _ _ => trivial) W0 (by omega) (by omega) b4.cell (fun j hj => ⟨_, hO.cell (by omega), trivial⟩)) kpZ_t (kpZ_b (by omega) (by omega)) (Below.refl _ _) (fun _ => rfl)
    (fun pre W => (Boxed W w.heap.size 133 (.slice (some ⟨g, 0, none⟩) n cap) ∧ Boxed W (w.heap.size + 1) 3 (.int .i64 d) ∧ Boxed W (w.heap.size + 2) 3 (.int .i64 (divF d l (plc pre)).2)) ∧ OwnsI W base (.slice (some ⟨g, 0, none⟩) n cap) (divF d l (plc pre)).1 ∧ w.grownBy W (some g))
    (fun _ _ _ => False)
    (fun s A B row hs hg hr => ⟨⟨boxed_keep hs.1.1 hg hr, boxed_keep hs.1.2.1 hg hr, boxed_keep hs.1.2.2 hg hr⟩, row_keep hs.2.1 hg hr, grown_keep hs.2.2 (by omega) hg hr⟩)
    (fun _ _ _ _ _ hs _ _ => hs)
    ⟨⟨b1, b2, b3⟩, hO, hB⟩
    (fun x => { tmps := #[.slice (some ⟨g, 0, none⟩) n cap, .int .i64 d, .pointer (some ⟨w.heap.size, 0, none⟩), .pointer (some ⟨w.heap.size + 1, 0, none⟩), .int .i64 0, .pointer (some ⟨w.heap.size + 1 + 1, 0, none⟩), .int .i64 (x.1.1 : Nat), undef, .slice (some ⟨g, 0, none⟩) n cap, .func (.func 206) #[] #[.pointer (some ⟨w.heap.size + 1 + 1 + 1, 0, none⟩)], .int .i64 (x.1.1 : Nat), .int .i64 x.1.2, undef, undef, undef, undef, undef, undef, undef, undef, undef, undef, undef, undef, undef, undef, undef, undef, undef], defers := [] }) ?assign ?body ?done ?stop
  case assign =>
    intro l x W K hK
    gi_wp2
    exact hK
  case body =>
    rintro lr pre x W ⟨⟨c1, c2, c3⟩, hOr, hBr⟩ hlt
    have k1 := c1.cell
    have k2 := c2.cell
    have k3 := c3.cell
    have f3 := c3.frozen
    obtain ⟨⟨q, z⟩, hq⟩ := x
    have hq' : q < n := hq.1
    have hc := hOr.cell (j := q) (by rw [divF_len, hll]; exact hq')
    have hf := hOr.frozen q
    have hsn : Hid (divF d l (plc (pre ++ [(⟨(q, z), hq⟩ : Bk n fun _ => True)])) = divStep d (divF d l (plc pre)) q) := by
      show _ = _
      have e : plc (pre ++ [(⟨(q, z), hq⟩ : Bk n fun _ => True)]) = plc pre ++ [q] := List.map_append
      rw [e]
      exact divF_snoc d l (plc pre) q
    obtain ⟨⟨Gs, R⟩, hT⟩ : ∃ st, divF d l (plc pre) = st := ⟨_, rfl⟩
    rw [hT] at hc k3 hOr hsn c3
    dsimp only at hc k3 hOr c3
    have i1 : ((q : Nat) : Int) < (n : Int) := by omega
    have mixed : Tryz.prog.follows .mixedOrders = true := by kernel_rfl
    unfold divStep at hsn
    dsimp only at hsn
    obtain ⟨G, hG⟩ : ∃ G, Gs.getD q 0 = G := ⟨_, rfl⟩
    rw [hG] at hc hsn
    obtain ⟨M, hM⟩ : ∃ M, IntKind.i64.wrap (IntKind.i64.wrap (R * 1000000) + G) = M := ⟨_, rfl⟩
    rw [hM] at hsn
    have hd0 : (d = 0) = False := by simp; omega
    have hd2 : ¬ d = 0 := by omega
    obtain ⟨U, hU⟩ : ∃ U, IntKind.i64.wrap (M.tdiv d) = U := ⟨_, rfl⟩
    rw [hU] at hsn
    have hne2 : g ≠ w.heap.size + 2 := by omega
    have hne1 : g ≠ w.heap.size + 1 := by omega
    have hne0 : g ≠ w.heap.size := by omega
    have hne3 : g ≠ w.heap.size + 1 + 1 + 1 := by omega
    have hGl : Gs.length = n := hOr.len
    have B1 := boxed_apart (a := ⟨g, q, none⟩) (.int .i64 U) c1 hne0
    have B2 := boxed_apart (a := ⟨g, q, none⟩) (.int .i64 U) c2 hne1
    have B3 := boxed_apart (a := ⟨g, q, none⟩) (.int .i64 U) c3 hne2
    have v2 : (W.setCell ⟨g, q, none⟩ (.int .i64 U)).cell? ⟨w.heap.size + 1, 0, none⟩ = some (.int .i64 d) := B2.cell
    have v3 : (W.setCell ⟨g, q, none⟩ (.int .i64 U)).cell? ⟨w.heap.size + 2, 0, none⟩ = some (.int .i64 R) := B3.cell
    have y3 : (W.setCell ⟨g, q, none⟩ (.int .i64 U)).frozen? ⟨w.heap.size + 2, 0, none⟩ = false := B3.frozen
    have O2 : OwnsI ((W.setCell ⟨g, q, none⟩ (.int .i64 U)).setCell ⟨w.heap.size + 2, 0, none⟩ (.int .i64 (M.tmod d))) base (.slice (some ⟨g, 0, none⟩) n cap) (Gs.set q U) := (hOr.store q U).apart _ (by exact hne2.symm)
    have fin : Hid (ownPostG W0.heap.size (KpZ (w.heap.size + 1 + 1 + 1) g n fun _ _ => True) (fun (pre : List (Bk n fun _ => True)) W => (Boxed W w.heap.size 133 (.slice (some ⟨g, 0, none⟩) n cap) ∧ Boxed W (w.heap.size + 1) 3 (.int .i64 d) ∧ Boxed W (w.heap.size + 2) 3 (.int .i64 (divF d l (plc pre)).2)) ∧ OwnsI W base (.slice (some ⟨g, 0, none⟩) n cap) (divF d l (plc pre)).1 ∧ w.grownBy W (some g)) (fun _ _ _ => False) (pre ++ [⟨(q, z), hq⟩]) W .normal { tmps := #[], defers := [] } ((W.setCell ⟨g, q, none⟩ (.int .i64 U)).setCell ⟨w.heap.size + 2, 0, none⟩ (.int .i64 (M.tmod d))).drew.drew) := by
      refine ⟨((((KeepsOthers.setCell _ _ _).trans (KeepsOthers.setCell _ _ _)).trans (KeepsOthers.drew _)).trans (KeepsOthers.drew _)).from _, ⟨?_, fun _ j hj => ⟨_, O2.cell (by rw [List.length_set]; omega), trivial⟩⟩, ?_⟩
      · unfold KpB
        show ((W.setCell ⟨g, q, none⟩ (.int .i64 U)).setCell ⟨w.heap.size + 2, 0, none⟩ (.int .i64 (M.tmod d))).cell? ⟨w.heap.size + 1 + 1 + 1, 0, none⟩ = _
        rw [cell_apart _ _ _ (by show w.heap.size + 2 ≠ w.heap.size + 1 + 1 + 1; omega), cell_apart _ _ _ (by exact hne3)]
      · show (_ ∧ _) ∧ _
        rw [hsn.out]
        have E1 := boxed_apart (a := ⟨w.heap.size + 2, 0, none⟩) (.int .i64 (M.tmod d)) B1 (by show w.heap.size + 2 ≠ w.heap.size; omega)
        have E2 := boxed_apart (a := ⟨w.heap.size + 2, 0, none⟩) (.int .i64 (M.tmod d)) B2 (by show w.heap.size + 2 ≠ w.heap.size + 1; omega)
        have E5 := grown_set (grown_set hBr (a := ⟨g, q, none⟩) (.inl rfl) (.int .i64 U)) (a := ⟨w.heap.size + 2, 0, none⟩) (.inr (by show w.heap.size ≤ w.heap.size + 2; omega)) (.int .i64 (M.tmod d))
        exact ⟨⟨E1, E2, B3.set _⟩, O2, ⟨E5.os, E5.tape, E5.output, E5.size, E5.block⟩⟩
    clear hOr hG hT O2 B1 B2 B3 hne0 hne1 hne2 hne3 hsn hGl
    gi_wp2
    refine region_round mixed (by rfl) ?_
    (refine wpAnyIn_take (i := 3) (v := ?_) rfl rfl (by kernel_rfl) (by kernel_rfl) (by kernel_rfl) (fun _ _ _ h => h) ⟨Or.inl ⟨by rfl, (by intro w; (go_simp <;> with_reducible rfl))⟩, fun _ => rfl⟩ ?_)
    (refine wpAnyIn_ready (rs := [0, 2]) (by kernel_rfl) (by simp) ?_; refine (AllReadyIn.cons rfl (fun K hK => ?_) (AllReadyIn.cons rfl (fun K hK => ?_) AllReadyIn.nil)) <;> (go_simp; refine hK _ _ ?_; clear hK K))
    · (refine wpAnyIn_take (i := 1) (v := ?_) rfl rfl (by kernel_rfl) (by kernel_rfl) (by kernel_rfl) (fun _ _ _ h => h) ⟨Or.inl ⟨by rfl, (by intro w; (go_simp <;> with_reducible rfl))⟩, fun _ => rfl⟩ ?_)
      (refine wpAnyIn_ready (rs := [2]) (by kernel_rfl) (by simp) ?_; refine (AllReadyIn.cons rfl (fun K hK => ?_) AllReadyIn.nil) <;> (go_simp; refine hK _ _ ?_; clear hK K))
      (refine wpAnyIn_take (i := 4) (v := ?_) rfl rfl (by kernel_rfl) (by kernel_rfl) (by kernel_rfl) (fun _ _ _ h => h) ⟨Or.inl ⟨by rfl, (by intro w; (go_simp <;> with_reducible rfl))⟩, fun _ => rfl⟩ ?_)
      (refine wpAnyIn_ready (rs := [5]) (by kernel_rfl) (by simp) ?_; refine (AllReadyIn.cons rfl (fun K hK => ?_) AllReadyIn.nil) <;> (go_simp; refine hK _ _ ?_; clear hK K))
      (refine wpAnyIn_take (i := 6) (v := ?_) rfl rfl (by kernel_rfl) (by kernel_rfl) (by kernel_rfl) (fun _ _ _ h => h) ⟨Or.inl ⟨by rfl, (by intro w; (go_simp <;> with_reducible rfl))⟩, fun _ => rfl⟩ ?_)
      (refine wpAnyIn_take (i := 7) (v := ?_) rfl rfl (by kernel_rfl) (by kernel_rfl) (by kernel_rfl) (fun _ _ _ h => h) ⟨Or.inl ⟨by rfl, (by intro w; (go_simp <;> with_reducible rfl))⟩, fun _ => rfl⟩ ?_)
      (refine wpAnyIn_done (by kernel_rfl) ?_ _)
      gi_wp2
      refine region_round mixed (by rfl) ?_
      (refine wpAnyIn_take (i := 1) (v := ?_) rfl rfl (by kernel_rfl) (by kernel_rfl) (by kernel_rfl) (fun _ _ _ h => h) ⟨Or.inl ⟨by rfl, (by intro w; (go_simp <;> with_reducible rfl))⟩, fun _ => rfl⟩ ?_)
      (refine wpAnyIn_take (i := 2) (v := ?_) rfl rfl (by kernel_rfl) (by kernel_rfl) (by kernel_rfl) (fun _ _ _ h => h) ⟨Or.inl ⟨by rfl, (by intro w; (go_simp <;> with_reducible rfl))⟩, fun _ => rfl⟩ ?_)
      (refine wpAnyIn_ready (rs := [0, 3]) (by kernel_rfl) (by simp) ?_; refine (AllReadyIn.cons rfl (fun K hK => ?_) (AllReadyIn.cons rfl (fun K hK => ?_) AllReadyIn.nil)) <;> (go_simp; refine hK _ _ ?_; clear hK K))
      · (refine wpAnyIn_ready (rs := [3]) (by kernel_rfl) (by simp) ?_; refine (AllReadyIn.cons rfl (fun K hK => ?_) AllReadyIn.nil) <;> (go_simp; refine hK _ _ ?_; clear hK K))
        (refine wpAnyIn_take (i := 4) (v := ?_) rfl rfl (by kernel_rfl) (by kernel_rfl) (by kernel_rfl) (fun _ _ _ h => h) ⟨Or.inl ⟨by rfl, (by intro w; (go_simp <;> with_reducible rfl))⟩, fun _ => rfl⟩ ?_)
        (refine wpAnyIn_take (i := 5) (v := ?_) rfl rfl (by kernel_rfl) (by kernel_rfl) (by kernel_rfl) (fun _ _ _ h => h) ⟨Or.inl ⟨by rfl, (by intro w; (go_simp <;> with_reducible rfl))⟩, fun _ => rfl⟩ ?_)
        (refine wpAnyIn_ready (rs := [6]) (by kernel_rfl) (by simp) ?_; refine (AllReadyIn.cons rfl (fun K hK => ?_) AllReadyIn.nil) <;> (go_simp; refine hK _ _ ?_; clear hK K))
        (refine wpAnyIn_done (by kernel_rfl) ?_ _)
        gi_wp2
        first | exact fin.out | (have f1 := fin.out; rw [hs0] at f1; exact f1)
      · (refine wpAnyIn_take (i := 4) (v := ?_) rfl rfl (by kernel_rfl) (by kernel_rfl) (by kernel_rfl) (fun _ _ _ h => h) ⟨Or.inl ⟨by rfl, (by intro w; (go_simp <;> with_reducible rfl))⟩, fun _ => rfl⟩ ?_)
        (refine wpAnyIn_ready (rs := [0]) (by kernel_rfl) (by simp) ?_; refine (AllReadyIn.cons rfl (fun K hK => ?_) AllReadyIn.nil) <;> (go_simp; refine hK _ _ ?_; clear hK K))
        (refine wpAnyIn_take (i := 5) (v := ?_) rfl rfl (by kernel_rfl) (by kernel_rfl) (by kernel_rfl) (fun _ _ _ h => h) ⟨Or.inl ⟨by rfl, (by intro w; (go_simp <;> with_reducible rfl))⟩, fun _ => rfl⟩ ?_)
        (refine wpAnyIn_ready (rs := [6]) (by kernel_rfl) (by simp) ?_; refine (AllReadyIn.cons rfl (fun K hK => ?_) AllReadyIn.nil) <;> (go_simp; refine hK _ _ ?_; clear hK K))
        (refine wpAnyIn_done (by kernel_rfl) ?_ _)
        gi_wp2
        first | exact fin.out | (have f1 := fin.out; rw [hs0] at f1; exact f1)
    · (refine wpAnyIn_take (i := 4) (v := ?_) rfl rfl (by kernel_rfl) (by kernel_rfl) (by kernel_rfl) (fun _ _ _ h => h) ⟨Or.inl ⟨by rfl, (by intro w; (go_simp <;> with_reducible rfl))⟩, fun _ => rfl⟩ ?_)
      (refine wpAnyIn_ready (rs := [0, 5]) (by kernel_rfl) (by simp) ?_; refine (AllReadyIn.cons rfl (fun K hK => ?_) (AllReadyIn.cons rfl (fun K hK => ?_) AllReadyIn.nil)) <;> (go_simp; refine hK _ _ ?_; clear hK K))
      · (refine wpAnyIn_take (i := 1) (v := ?_) rfl rfl (by kernel_rfl) (by kernel_rfl) (by kernel_rfl) (fun _ _ _ h => h) ⟨Or.inl ⟨by rfl, (by intro w; (go_simp <;> with_reducible rfl))⟩, fun _ => rfl⟩ ?_)
        (refine wpAnyIn_ready (rs := [5]) (by kernel_rfl) (by simp) ?_; refine (AllReadyIn.cons rfl (fun K hK => ?_) AllReadyIn.nil) <;> (go_simp; refine hK _ _ ?_; clear hK K))
        (refine wpAnyIn_take (i := 6) (v := ?_) rfl rfl (by kernel_rfl) (by kernel_rfl) (by kernel_rfl) (fun _ _ _ h => h) ⟨Or.inl ⟨by rfl, (by intro w; (go_simp <;> with_reducible rfl))⟩, fun _ => rfl⟩ ?_)
        (refine wpAnyIn_take (i := 7) (v := ?_) rfl rfl (by kernel_rfl) (by kernel_rfl) (by kernel_rfl) (fun _ _ _ h => h) ⟨Or.inl ⟨by rfl, (by intro w; (go_simp <;> with_reducible rfl))⟩, fun _ => rfl⟩ ?_)
        (refine wpAnyIn_done (by kernel_rfl) ?_ _)
        gi_wp2
        refine region_round mixed (by rfl) ?_
        (refine wpAnyIn_take (i := 1) (v := ?_) rfl rfl (by kernel_rfl) (by kernel_rfl) (by kernel_rfl) (fun _ _ _ h => h) ⟨Or.inl ⟨by rfl, (by intro w; (go_simp <;> with_reducible rfl))⟩, fun _ => rfl⟩ ?_)
        (refine wpAnyIn_take (i := 2) (v := ?_) rfl rfl (by kernel_rfl) (by kernel_rfl) (by kernel_rfl) (fun _ _ _ h => h) ⟨Or.inl ⟨by rfl, (by intro w; (go_simp <;> with_reducible rfl))⟩, fun _ => rfl⟩ ?_)
        (refine wpAnyIn_ready (rs := [0, 3]) (by kernel_rfl) (by simp) ?_; refine (AllReadyIn.cons rfl (fun K hK => ?_) (AllReadyIn.cons rfl (fun K hK => ?_) AllReadyIn.nil)) <;> (go_simp; refine hK _ _ ?_; clear hK K))
        · (refine wpAnyIn_ready (rs := [3]) (by kernel_rfl) (by simp) ?_; refine (AllReadyIn.cons rfl (fun K hK => ?_) AllReadyIn.nil) <;> (go_simp; refine hK _ _ ?_; clear hK K))
          (refine wpAnyIn_take (i := 4) (v := ?_) rfl rfl (by kernel_rfl) (by kernel_rfl) (by kernel_rfl) (fun _ _ _ h => h) ⟨Or.inl ⟨by rfl, (by intro w; (go_simp <;> with_reducible rfl))⟩, fun _ => rfl⟩ ?_)
          (refine wpAnyIn_take (i := 5) (v := ?_) rfl rfl (by kernel_rfl) (by kernel_rfl) (by kernel_rfl) (fun _ _ _ h => h) ⟨Or.inl ⟨by rfl, (by intro w; (go_simp <;> with_reducible rfl))⟩, fun _ => rfl⟩ ?_)
          (refine wpAnyIn_ready (rs := [6]) (by kernel_rfl) (by simp) ?_; refine (AllReadyIn.cons rfl (fun K hK => ?_) AllReadyIn.nil) <;> (go_simp; refine hK _ _ ?_; clear hK K))
          (refine wpAnyIn_done (by kernel_rfl) ?_ _)
          gi_wp2
          first | exact fin.out | (have f1 := fin.out; rw [hs0] at f1; exact f1)
        · (refine wpAnyIn_take (i := 4) (v := ?_) rfl rfl (by kernel_rfl) (by kernel_rfl) (by kernel_rfl) (fun _ _ _ h => h) ⟨Or.inl ⟨by rfl, (by intro w; (go_simp <;> with_reducible rfl))⟩, fun _ => rfl⟩ ?_)
          (refine wpAnyIn_ready (rs := [0]) (by kernel_rfl) (by simp) ?_; refine (AllReadyIn.cons rfl (fun K hK => ?_) AllReadyIn.nil) <;> (go_simp; refine hK _ _ ?_; clear hK K))
          (refine wpAnyIn_take (i := 5) (v := ?_) rfl rfl (by kernel_rfl) (by kernel_rfl) (by kernel_rfl) (fun _ _ _ h => h) ⟨Or.inl ⟨by rfl, (by intro w; (go_simp <;> with_reducible rfl))⟩, fun _ => rfl⟩ ?_)
          (refine wpAnyIn_ready (rs := [6]) (by kernel_rfl) (by simp) ?_; refine (AllReadyIn.cons rfl (fun K hK => ?_) AllReadyIn.nil) <;> (go_simp; refine hK _ _ ?_; clear hK K))
          (refine wpAnyIn_done (by kernel_rfl) ?_ _)
          gi_wp2
          first | exact fin.out | (have f1 := fin.out; rw [hs0] at f1; exact f1)
      · (refine wpAnyIn_ready (rs := [0]) (by kernel_rfl) (by simp) ?_; refine (AllReadyIn.cons rfl (fun K hK => ?_) AllReadyIn.nil) <;> (go_simp; refine hK _ _ ?_; clear hK K))
        (refine wpAnyIn_take (i := 1) (v := ?_) rfl rfl (by kernel_rfl) (by kernel_rfl) (by kernel_rfl) (fun _ _ _ h => h) ⟨Or.inl ⟨by rfl, (by intro w; (go_simp <;> with_reducible rfl))⟩, fun _ => rfl⟩ ?_)
        (refine wpAnyIn_take (i := 6) (v := ?_) rfl rfl (by kernel_rfl) (by kernel_rfl) (by kernel_rfl) (fun _ _ _ h => h) ⟨Or.inl ⟨by rfl, (by intro w; (go_simp <;> with_reducible rfl))⟩, fun _ => rfl⟩ ?_)
        (refine wpAnyIn_take (i := 7) (v := ?_) rfl rfl (by kernel_rfl) (by kernel_rfl) (by kernel_rfl) (fun _ _ _ h => h) ⟨Or.inl ⟨by rfl, (by intro w; (go_simp <;> with_reducible rfl))⟩, fun _ => rfl⟩ ?_)
        (refine wpAnyIn_done (by kernel_rfl) ?_ _)
        gi_wp2
        refine region_round mixed (by rfl) ?_
        (refine wpAnyIn_take (i := 1) (v := ?_) rfl rfl (by kernel_rfl) (by kernel_rfl) (by kernel_rfl) (fun _ _ _ h => h) ⟨Or.inl ⟨by rfl, (by intro w; (go_simp <;> with_reducible rfl))⟩, fun _ => rfl⟩ ?_)
        (refine wpAnyIn_take (i := 2) (v := ?_) rfl rfl (by kernel_rfl) (by kernel_rfl) (by kernel_rfl) (fun _ _ _ h => h) ⟨Or.inl ⟨by rfl, (by intro w; (go_simp <;> with_reducible rfl))⟩, fun _ => rfl⟩ ?_)
        (refine wpAnyIn_ready (rs := [0, 3]) (by kernel_rfl) (by simp) ?_; refine (AllReadyIn.cons rfl (fun K hK => ?_) (AllReadyIn.cons rfl (fun K hK => ?_) AllReadyIn.nil)) <;> (go_simp; refine hK _ _ ?_; clear hK K))
        · (refine wpAnyIn_ready (rs := [3]) (by kernel_rfl) (by simp) ?_; refine (AllReadyIn.cons rfl (fun K hK => ?_) AllReadyIn.nil) <;> (go_simp; refine hK _ _ ?_; clear hK K))
          (refine wpAnyIn_take (i := 4) (v := ?_) rfl rfl (by kernel_rfl) (by kernel_rfl) (by kernel_rfl) (fun _ _ _ h => h) ⟨Or.inl ⟨by rfl, (by intro w; (go_simp <;> with_reducible rfl))⟩, fun _ => rfl⟩ ?_)
          (refine wpAnyIn_take (i := 5) (v := ?_) rfl rfl (by kernel_rfl) (by kernel_rfl) (by kernel_rfl) (fun _ _ _ h => h) ⟨Or.inl ⟨by rfl, (by intro w; (go_simp <;> with_reducible rfl))⟩, fun _ => rfl⟩ ?_)
          (refine wpAnyIn_ready (rs := [6]) (by kernel_rfl) (by simp) ?_; refine (AllReadyIn.cons rfl (fun K hK => ?_) AllReadyIn.nil) <;> (go_simp; refine hK _ _ ?_; clear hK K))
          (refine wpAnyIn_done (by kernel_rfl) ?_ _)
          gi_wp2
          first | exact fin.out | (have f1 := fin.out; rw [hs0] at f1; exact f1)
        · (refine wpAnyIn_take (i := 4) (v := ?_) rfl rfl (by kernel_rfl) (by kernel_rfl) (by kernel_rfl) (fun _ _ _ h => h) ⟨Or.inl ⟨by rfl, (by intro w; (go_simp <;> with_reducible rfl))⟩, fun _ => rfl⟩ ?_)
          (refine wpAnyIn_ready (rs := [0]) (by kernel_rfl) (by simp) ?_; refine (AllReadyIn.cons rfl (fun K hK => ?_) AllReadyIn.nil) <;> (go_simp; refine hK _ _ ?_; clear hK K))
          (refine wpAnyIn_take (i := 5) (v := ?_) rfl rfl (by kernel_rfl) (by kernel_rfl) (by kernel_rfl) (fun _ _ _ h => h) ⟨Or.inl ⟨by rfl, (by intro w; (go_simp <;> with_reducible rfl))⟩, fun _ => rfl⟩ ?_)
          (refine wpAnyIn_ready (rs := [6]) (by kernel_rfl) (by simp) ?_; refine (AllReadyIn.cons rfl (fun K hK => ?_) AllReadyIn.nil) <;> (go_simp; refine hK _ _ ?_; clear hK K))
          (refine wpAnyIn_done (by kernel_rfl) ?_ _)
          gi_wp2
          first | exact fin.out | (have f1 := fin.out; rw [hs0] at f1; exact f1)
  case done =>
    rintro D ys W hD hS ⟨⟨c1, c2, c3⟩, hOr, hBr⟩ hK
    have k3 := c3.cell
    have hp : plc ys = upto (fun j => n - 1 - j) n := hS.1
    rw [hp] at k3 hOr
    clear hp c3 hS
    gi_wp2
    refine ⟨by simp, .inl ⟨_, _, rfl, run_takeDeferred hK, ?_⟩⟩
    refine ⟨_, results_tmp rfl _ _ _, rfl, ownsRow_putObj hOr _ hK rfl, ?_⟩
    exact grown_keep hBr (X := w.heap.size) (Nat.le_refl _) (grownBy_putObj' W D (.deferred none)) (fun r e => by cases e; exact ⟨by omega, _, hK, rfl⟩)
  case stop =>
    rintro D c pre W _ _ h _
    exact h.elim
end Go.Proofs.YtnjbppfanmmifaaGreatDoor
namespace Go.Proofs.YtnjbppfanmmifaaGreatDoor
open Go.RowKit

theorem div_value (d : Int) (hd : 1 ≤ d ∧ d ≤ 1000000) (l : List Int) (hl : Grp 1000000 l) : ∀ k, k ≤ l.length →
    ∃ Qs, (divF d l (upto (fun j => l.length - 1 - j) k)).1 = l.take (l.length - k) ++ Qs ∧ Qs.length = k ∧ Grp 1000000 Qs ∧
      lv 1000000 l = lv 1000000 (l.take (l.length - k)) + 1000000 ^ (l.length - k) * (d * lv 1000000 Qs + (divF d l (upto (fun j => l.length - 1 - j) k)).2) ∧
      0 ≤ (divF d l (upto (fun j => l.length - 1 - j) k)).2 ∧ (divF d l (upto (fun j => l.length - 1 - j) k)).2 < d := by
  intro k
  induction k with
  | zero =>
    intro _
    refine ⟨[], ?_, rfl, grp_nil _, ?_, ?_, ?_⟩
    · show l = l.take (l.length - 0) ++ []
      rw [Nat.sub_zero, List.take_length, List.append_nil]
    · show lv 1000000 l = lv 1000000 (l.take (l.length - 0)) + 1000000 ^ (l.length - 0) * (d * 0 + 0)
      rw [Nat.sub_zero, List.take_length, Int.mul_zero, Int.add_zero, Int.mul_zero, Int.add_zero]
    · show (0 : Int) ≤ 0
      omega
    · show (0 : Int) < d
      omega
  | succ k ih =>
    intro hk
    obtain ⟨Qs, h1, h2, h3, h4, h5, h6⟩ := ih (by omega)
    rw [upto_desc, divF_snoc]
    obtain ⟨st, hst⟩ : ∃ st, divF d l (upto (fun j => l.length - 1 - j) k) = st := ⟨_, rfl⟩
    rw [hst] at h1 h4 h5 h6 ⊢
    obtain ⟨Gs, R⟩ := st
    dsimp only at h1 h4 h5 h6
    subst h1
    obtain ⟨m, hm⟩ : ∃ m, l.length - k = m + 1 := ⟨l.length - k - 1, by omega⟩
    have hm1 : l.length - 1 - k = m := by omega
    have hm2 : l.length - (k + 1) = m := by omega
    rw [hm1, hm2]
    rw [hm] at h4
    have hml : m < l.length := by omega
    have htk := lv_take 1000000 l m hml
    have hx := hl.at hml
    unfold divStep
    dsimp only
    rw [hm]
    have e0 : l.take (m + 1) = l.take m ++ [l.getD m 0] := by
      rw [List.take_succ_eq_append_getElem hml, List.getD_eq_getElem?_getD, List.getElem?_eq_getElem hml]; rfl
    have e1 : (l.take (m + 1) ++ Qs).getD m 0 = l.getD m 0 := by
      rw [List.getD_eq_getElem?_getD, List.getElem?_append_left (by rw [List.length_take]; omega), List.getElem?_take, if_pos (by omega), List.getD_eq_getElem?_getD]
    rw [e1]
    generalize l.getD m 0 = x at *
    have w1 : IntKind.i64.wrap (R * 1000000) = R * 1000000 := wrap_fit (by omega) (by omega)
    rw [w1, wrap_fit (n := R * 1000000 + x) (by omega) (by omega)]
    obtain ⟨M, hM⟩ : ∃ M, R * 1000000 + x = M := ⟨_, rfl⟩
    rw [hM]
    have hM0 : 0 ≤ M := by omega
    have q1 : Int.tdiv M d = M / d := Int.tdiv_eq_ediv_of_nonneg hM0
    have q2 : Int.tmod M d = M % d := Int.tmod_eq_emod_of_nonneg hM0
    have q3 := Int.mul_ediv_add_emod M d
    have q4 : 0 ≤ M % d := Int.emod_nonneg _ (by omega)
    have q5 : M % d < d := Int.emod_lt_of_pos _ (by omega)
    have q6 : 0 ≤ M / d := Int.ediv_nonneg hM0 (by omega)
    have q7 : M / d < 1000000 := by
      refine Int.ediv_lt_of_lt_mul (by omega) ?_
      have : (R + 1) * 1000000 ≤ d * 1000000 := Int.mul_le_mul_of_nonneg_right (by omega) (by omega)
      omega
    rw [q1, q2, wrap_fit (n := M / d) (by omega) (by omega)]
    refine ⟨M / d :: Qs, ?_, by rw [List.length_cons, h2], h3.cons ⟨q6, q7⟩, ?_, q4, q5⟩
    · rw [e0, List.append_assoc, List.set_append_right _ _ (by rw [List.length_take]; omega)]
      have : m - (l.take m).length = 0 := by rw [List.length_take]; omega
      rw [this]
      rfl
    · rw [h4, htk, lv_cons, Int.pow_succ, Int.add_assoc]
      congr 1
      rw [Int.mul_assoc, ← Int.mul_add]
      congr 1
      rw [Int.mul_add d, Int.add_right_comm, q3, ← hM, Int.mul_add 1000000, Int.mul_left_comm d]
      omega
/-- Quotient and rest. -/
theorem div_final (d : Int) (hd : 1 ≤ d ∧ d ≤ 1000000) (l : List Int) (hl : Grp 1000000 l) (n : Nat) (hn : l.length = n) :
    Grp 1000000 (divF d l (upto (fun j => n - 1 - j) n)).1 ∧ lv 1000000 (divF d l (upto (fun j => n - 1 - j) n)).1 = lv 1000000 l / d ∧ (divF d l (upto (fun j => n - 1 - j) n)).2 = lv 1000000 l % d := by
  subst hn
  obtain ⟨Qs, h1, h2, h3, h4, h5, h6⟩ := div_value d hd l hl l.length (Nat.le_refl _)
  rw [Nat.sub_self, List.take_zero, List.nil_append] at h1
  rw [Nat.sub_self, List.take_zero, Int.pow_zero, Int.one_mul] at h4
  rw [h1]
  have h7 : lv 1000000 l = d * lv 1000000 Qs + (divF d l (upto (fun j => l.length - 1 - j) l.length)).2 := by
    rw [h4]
    show 0 + _ = _
    omega
  generalize (divF d l (upto (fun j => l.length - 1 - j) l.length)).2 = R at *
  refine ⟨h3, ?_, ?_⟩
  · rw [h7, Int.add_comm, Int.add_mul_ediv_left _ _ (by omega), Int.ediv_eq_zero_of_lt h5 h6, Int.zero_add]
  · rw [h7, Int.add_comm, Int.add_mul_emod_self_left, Int.emod_eq_of_lt h5 h6]

theorem divide_any (v : Value) (base : Nat) (l : List Int) (d : Int) (w : World) (ho : OwnsI w base v l) (h0 : 0 < l.length) (hl : Grp 1000000 l) (hd : 1 ≤ d ∧ d ≤ 1000000) :
    Calls Tryz.prog 187 #[v, .int .i64 d] w fun e w' => e = .returned (.int .i64 (lv 1000000 l % d)) ∧ (∃ l', OwnsI w' base v l' ∧ l'.length = l.length ∧ Grp 1000000 l' ∧ lv 1000000 l' = lv 1000000 l / d) ∧ w.grownBy w' v.ownBlock := by
  obtain ⟨g, n, cap, rfl, hln, hnc, hcm, hbg⟩ := ho.row h0
  have hlen := divF_len d l (upto (fun j => n - 1 - j) n)
  obtain ⟨h1, h2, h3⟩ := div_final d hd l hl n hln.out
  rw [← h3]
  refine (divide_fold g n cap base l d w ho (by omega) hd).mono ?_
  rintro e w' ⟨rfl, hO, hb⟩
  exact ⟨rfl, ⟨_, hO, hlen, h1, h2⟩, hb⟩
end Go.Proofs.YtnjbppfanmmifaaGreatDoor
namespace Go.Proofs.YtnjbppfanmmifaaGreatDoor
open Go.RowKit

theorem own_above {w : World} {base : Nat} {v : Value} {zs : List Int} (h : OwnsB w base v zs) : ∀ k, v.ownBlock = some k → base ≤ k ∧ k < w.heap.size := fun k hk => World.ownsRow.lt h.1 k hk
theorem OwnsB.other {w w' : World} {base : Nat} {v : Value} {zs : List Int} (h : OwnsB w base v zs) {r : Option Nat} (hg : w.grownBy w' r) (hr : ∀ k, r = some k → k < base) : OwnsB w' base v zs := by
  refine ⟨World.ownsRow.kept h.1 hg ?_, h.2⟩
  cases hv : v.ownBlock with
  | none => exact .inl rfl
  | some k =>
    refine .inr ?_
    intro e
    have h1 := own_above h k hv
    have h2 := hr k e.symm
    omega
theorem OwnsB.low {w : World} {base base' : Nat} {v : Value} {zs : List Int} (h : OwnsB w base v zs) (hB : base' ≤ base) : OwnsB w base' v zs := by
  obtain ⟨⟨h1, h2⟩, h3⟩ := h
  refine ⟨⟨h1, ?_⟩, h3⟩
  rcases h2 with h2 | ⟨g, cap, cur, h4, h5, h6⟩
  · exact .inl h2
  · exact .inr ⟨g, cap, cur, h4, Nat.le_trans hB h5, h6⟩
theorem OwnsI.other {w w' : World} {base g n cap : Nat} {l : List Int} (h : OwnsI w base (.slice (some ⟨g, 0, none⟩) n cap) l) {r : Option Nat} (hg : w.grownBy w' r) (hr : ∀ k, r = some k → g < k) : OwnsI w' base (.slice (some ⟨g, 0, none⟩) n cap) l := by
  refine World.ownsRow.kept h hg (.inr ?_)
  simp only [Value.ownBlock]
  intro e
  have := hr g e.symm
  omega
theorem by_step {N M : Nat} {zs : List Int} (h : byL N = byL M ++ zs.reverse) (hM : 0 < M) : byL N = byL (M / 256) ++ (zs ++ [((M % 256 : Nat) : Int)]).reverse := by
  rw [h, by_some (by omega), List.reverse_append]
  simp
theorem by_len (k : Nat) : ∀ n, n < 256 ^ k → (byL n).length ≤ k := by
  induction k with
  | zero =>
    intro n hn
    rw [Nat.pow_zero] at hn
    obtain rfl : n = 0 := by omega
    rw [by_zero]
    exact Nat.le_refl _
  | succ k ih =>
    intro n hn
    by_cases h : n = 0
    · rw [h, by_zero]
      exact Nat.zero_le _
    · rw [by_some h, List.length_append]
      have := ih (n / 256) (by rw [Nat.pow_succ] at hn; omega)
      simp only [List.length_cons, List.length_nil]
      omega
theorem ten_le (m k : Nat) (h : k = 2 * m) : 10 ^ k ≤ 256 ^ m := by
  rw [h, Nat.pow_mul]
  exact Nat.pow_le_pow_left (by decide) m
theorem top_le : top ≤ 256 ^ 400 := by
  unfold top
  exact ten_le 400 800 rfl
theorem by_top {n : Nat} (h : n < top) : (byL n).length ≤ 400 := by_len 400 n (Nat.lt_of_lt_of_le h top_le)
theorem by_part {N M : Nat} {zs : List Int} (h : byL N = byL M ++ zs.reverse) (hN : N < top) : zs.length ≤ 400 := by
  have h1 := by_top hN
  rw [h, List.length_append, List.length_reverse] at h1
  omega
set_option maxRecDepth 100000 in
set_option maxHeartbeats 2000000 in
theorem tob_yes (s : ByteArray) (w : World) (hs : rt s = true) :
    Calls Tryz.prog 151 #[.string s] w fun e w' => (∃ v, e = .returned (.tuple #[v, .int .i64 0]) ∧ OwnsB w' w.heap.size v (byL (val s))) ∧ Below w.heap.size w w' := by
  have rs := (rt_iff s).1 hs
  have ss := rt_size hs
  have kA := gather_any s w ss.1 (by omega) rs.1.2.1
  obtain ⟨N, hN⟩ : ∃ N, val s = N := ⟨_, rfl⟩
  have hNt : Hid (N < top) := by rw [← hN]; exact right_lt hs
  rw [hN] at kA ⊢
  clear rs hN
  go_enter Tryz.func151, Tryz.ntmps151
  go_wp2_with (go_at_call 142; refine (right_any _ _).mono ?_; rintro e w1 ⟨rfl, hw⟩; obtain rfl : w = w1 := hw.symm; rw [hs])
  refine kA.mono ?_
  rintro e w1 ⟨v1, l1, rfl, ho1, hn1, hg1, hv1, hb1⟩
  obtain ⟨g, n, cap, rfl, hln, hnc, hcm, hbg⟩ := ho1.row (by omega)
  have kW := woz_any g n cap w.heap.size l1 w1 ho1 hg1
  have hlt : Hid (w.heap.size ≤ g ∧ g < w1.heap.size) := ho1.ge
  have hsz1 : Hid (w.heap.size ≤ w1.heap.size) := hb1.size
  have hn2 : n ≤ 134 := by have := hln.out; omega
  rw [hv1] at kW
  clear ho1 kA hg1 hv1 hn1 ss hln
  go_wp2_with (go_at_call 185; refine kW.mono ?_; rintro e w2 ⟨⟨k1, l2, rfl, ho2, hl2, hk2, hg2, hv2, hp2⟩, hw2⟩; obtain rfl : w1 = w2 := hw2.symm)
  have hb1' : Hid _ := hb1
  have st1 : Hid _ := ho2
  have st2 : Hid _ := hg2
  have st3 : Hid _ := hv2
  have st4 : Hid _ := hp2
  have st5 : Hid _ := hl2
  clear kW hb1 ho2 hg2 hv2 hp2 hl2
  go_loopg [4, 5] N (fun K vb v wr => ∃ (k M : Nat) (l zs : List Int), v = .slice (some ⟨g, 0, none⟩) k cap ∧ k ≤ n ∧ Hid (OwnsI wr w.heap.size (.slice (some ⟨g, 0, none⟩) k cap) l) ∧ Hid (l.length = k) ∧ Hid (Grp 1000000 l) ∧ Hid (lv 1000000 l = (M : Nat)) ∧ Hid (0 < k → 0 < lv 1000000 l) ∧ Hid (OwnsB wr w1.heap.size vb zs) ∧ Hid (byL N = byL M ++ zs.reverse) ∧ Hid (Below w.heap.size w wr) ∧ Hid (w1.heap.size ≤ wr.heap.size) ∧ Hid (M ≤ K))
  case atStart => exact ⟨k1, N, l2, [], rfl, hk2, st1, st5, st2, st3, st4, ownsB_nil _ _, (by show _ = _; simp), hb1', Nat.le_refl _, Nat.le_refl _⟩
  case round =>
    obtain ⟨k, M, l, zs, rfl, hkn, hO, hlk, hG, hM, hpos, hB, hby, hbl, hsz, hMK⟩ := hrel
    clear st1 st2 st3 st4 st5 hb1'
    by_cases hk : 0 < k
    · have hM0 : 0 < M := by have h1 := hpos.out hk; rw [hM.out] at h1; omega
      have kD := divide_any _ w.heap.size l 256 wr hO.out (by rw [hlk.out]; exact hk) hG.out (by decide)
      rw [hM.out] at kD
      have e1 : (M : Int) % 256 = ((M % 256 : Nat) : Int) := by omega
      have e2 : (M : Int) / 256 = ((M / 256 : Nat) : Int) := by omega
      rw [e1, e2] at kD
      have hst : Hid _ := by_step hby.out hM0
      have hY : M % 256 < 256 := by omega
      have hless : Hid (M / 256 < M) := by show _ < _; omega
      clear e1 e2
      obtain ⟨Y, hYe⟩ : ∃ Y, M % 256 = Y := ⟨_, rfl⟩
      obtain ⟨Q, hQe⟩ : ∃ Q, M / 256 = Q := ⟨_, rfl⟩
      rw [hYe] at kD hst hY
      rw [hQe] at kD hst hless
      have w1' : IntKind.u8.wrap (Y : Int) = (Y : Int) := by rw [IntKind.wrap_u8]; omega
      have k0 : (0 : Int) < (k : Int) := by omega
      clear hYe hQe
      go_wp2_with fail
      refine kD.mono ?_
      rintro e w3 ⟨rfl, ⟨l3, ho3, hl3, hg3, hv3⟩, hgr3⟩
      have hB3' := hB.out.other hgr3 (fun q hq => by cases hq; exact hlt.out.2)
      have hB3 : Hid (OwnsB w3 w1.heap.size u4 zs) := hB3'
      have hbl3 : Hid (Below w.heap.size w w3) := hbl.out.grown hgr3 hbl.out.size (fun q hq => by cases hq; exact hlt.out.1)
      have hsz3 : Hid (w1.heap.size ≤ w3.heap.size) := by show _ ≤ _; have h1 := hsz.out; have h2 := hgr3.size; omega
      have hzl : Hid (zs.length ≤ 400) := by_part hby.out hNt.out
      have hYb : 0 ≤ (Y : Int) ∧ (Y : Int) < 256 := by omega
      have hO3 : Hid (OwnsI w3 w.heap.size (.slice (some ⟨g, 0, none⟩) k cap) l3) := ho3
      have hG3 : Hid (Grp 1000000 l3) := hg3
      have hV3 : Hid (lv 1000000 l3 = (Q : Nat)) := hv3
      have hs3 : Hid (w.heap.size ≤ w3.heap.size) := hbl3.out.size
      clear hB3' kD ho3 hg3 hv3 hgr3 hB hbl hsz hG hO hpos hby hM hl3 hlk
      go_wp2_with (at_builtin; go_loud (refine wpList_append_bytes rfl _ _ rfl w1.heap.size _ zs [(Y : Int)] rfl (hB3.out.alloc _) _ 1 1 rfl rfl (by intro h; cases h) (one_byte _ _ hYb.1 hYb.2) (by have := hzl.out; simp; omega) (by have := hsz3.out; simp; omega) ?_; intro v' w9 ho9 hg9))
      have hab : Hid (∀ q, u4.ownBlock = some q → w1.heap.size ≤ q ∧ q < (w3.alloc (.cells #[.int .u8 (Y : Int)] 5)).heap.size) := own_above (hB3.out.alloc (.cells #[.int .u8 (Y : Int)] 5))
      have hO9 := (hO3.out.alloc (.cells #[.int .u8 (Y : Int)] 5)).other hg9 (fun q hq => by have := (hab.out q hq).1; have := hlt.out.2; omega)
      have kW2 := woz_any g k cap w.heap.size l3 w9 hO9 hG3.out
      rw [hV3.out] at kW2
      have hbl9 : Hid (Below w.heap.size w w9) := (hbl3.out.alloc hs3.out _).grown hg9 (by have := hs3.out; simp; omega) (fun q hq => by have := (hab.out q hq).1; have := hsz1.out; omega)
      have hsz9 : Hid (w1.heap.size ≤ w9.heap.size) := by show _ ≤ _; have h1 := hsz3.out; have h2 := hg9.size; simp at h2; omega
      have hB9 : Hid (OwnsB w9 w1.heap.size v' (zs ++ [(Y : Int)])) := ho9
      clear ho9 hg9 hO9 hab
      go_wp2_with (go_at_call 185; refine kW2.mono ?_; rintro e w10 ⟨⟨k5, l5, rfl, ho5, hl5, hk5, hg5, hv5, hp5⟩, hw10⟩; obtain rfl : w9 = w10 := hw10.symm)
      go_roundg Q
      case measure => have := hless.out; have := hMK.out; omega
      case rel => exact ⟨k5, Q, l5, zs ++ [(Y : Int)], rfl, by omega, ho5, hl5, hg5, hv5, hp5, hB9, hst, hbl9, hsz9, Nat.le_refl _⟩
    · obtain rfl : k = 0 := by omega
      have hM0 : M = 0 := by
        have h1 : l = [] := List.eq_nil_of_length_eq_zero hlk.out
        have h2 := hM.out
        rw [h1] at h2
        have h3 : (0 : Int) = ((M : Nat) : Int) := h2
        omega
      have hz : Hid (zs.reverse = byL N) := by
        have := hby.out
        rw [hM0, by_zero, List.nil_append] at this
        exact this.symm
      by_cases hzs : zs = []
      · subst hzs
        have hz' := hz.out
        rw [List.reverse_nil] at hz'
        obtain ⟨a7, n7, c7, rfl, hl7, hn7, hnc7, hcm7, -⟩ := hB.out.form
        have hl7' := hl7.out
        simp only [List.length_nil] at hl7'
        subst hl7'
        have hB' : Hid (OwnsB wr w1.heap.size (.slice a7 0 c7) (byL N)) := by rw [← hz']; exact hB.out
        have kR := rev_none a7 c7 wr
        clear hB hz hz' hM0
        go_wp2_with fail
        refine kR.mono ?_
        rintro e w8 ⟨rfl, hw8⟩
        obtain rfl : wr = w8 := hw8.symm
        clear kR
        go_wp2
        go_ret2
        exact ⟨⟨_, rfl, hB'.out.low hsz1.out⟩, hbl.out⟩
      · obtain ⟨g7, n7, c7, rfl, hR7, hl7, hnc7, hcm7⟩ := hB.out.row (List.length_pos_iff.2 hzs)
        have hzl : Hid (zs.length ≤ 400) := by_part hby.out hNt.out
        have kR := rev_any g7 n7 c7 w1.heap.size zs wr hR7.out (by have := hl7.out; have := hzl.out; omega)
        rw [hz.out] at kR
        clear hB hR7
        go_wp2_with fail
        refine kR.mono ?_
        rintro e w8 ⟨rfl, ho8, hb8⟩
        clear kR
        go_wp2
        go_ret2
        refine ⟨⟨_, rfl, ?_⟩, hbl.out.trans (hb8.mono hsz1.out)⟩
        exact ho8.owns.low hsz1.out
theorem tob_no (s : ByteArray) (w : World) (hs : rt s = false) :
    Calls Tryz.prog 151 #[.string s] w fun e w' => e = .returned (.tuple #[.slice none 0 0, .int .i64 1]) ∧ w' = w := by
  go_enter Tryz.func151, Tryz.ntmps151
  go_wp2_with (go_at_call 142; refine (right_any _ _).mono ?_; rintro e w1 ⟨rfl, hw⟩; obtain rfl : w = w1 := hw.symm; rw [hs])
  go_ret2
  exact ⟨rfl, rfl⟩
theorem tob_any (s : ByteArray) (w : World) :
    Calls Tryz.prog 151 #[.string s] w fun e w' => (∃ v, e = .returned (.tuple #[v, .int .i64 (tobA s).2]) ∧ OwnsB w' w.heap.size v (tobA s).1) ∧ Below w.heap.size w w' := by
  cases hs : rt s with
  | true =>
    have e : tobA s = (byL (val s), 0) := by unfold tobA; rw [if_pos hs]
    rw [e]
    exact tob_yes s w hs
  | false =>
    have e : tobA s = ([], 1) := by unfold tobA; rw [if_neg (by rw [hs]; decide)]
    rw [e]
    refine (tob_no s w hs).mono ?_
    rintro e w' ⟨rfl, rfl⟩
    exact ⟨⟨_, rfl, ownsB_nil _ _⟩, Below.refl _ _⟩
end Go.Proofs.YtnjbppfanmmifaaGreatDoor
