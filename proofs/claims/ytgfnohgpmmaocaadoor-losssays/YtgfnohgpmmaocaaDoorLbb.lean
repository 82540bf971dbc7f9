/-
  Losses built: a list of losses in memory, and Build.
-/
import Derived.Test.YtgfnohgpmmaocaaDoorLba
import Derived.Test.YtgfnohgpmmaocaaDoorLpb
namespace Go.Proofs.YtgfnohgpmmaocaaDoor
open Go.RowKit
set_option linter.unusedVariables false
set_option linter.unusedSimpArgs false

/-- A loss's three cells. -/
def LsAt (w : World) (b off : Nat) (x : Ls) : Prop := ∃ pa pc, (w.cell? ⟨b, off, none⟩ = some (.slice pa x.path.length pc) ∧ w.cell? ⟨b, off + 1, none⟩ = some (.int .i64 x.kind) ∧ w.cell? ⟨b, off + 2, none⟩ = some (.int .u64 (x.n : Nat))) ∧ Ints w pa x.path ∧ (∀ y, pa = some y → x.path ≠ [] → y.block < w.heap.size) ∧ x.path.length ≤ pc ∧ pc ≤ 9223372036854775807 ∧ x.n < 18446744073709551616
/-- THE LOSSES L LIE AT a. -/
def Lss (w : World) (a : Option Addr) (L : List Ls) : Prop := L.length ≤ maxLen ∧ (L = [] ∨ ∃ b off, a = some ⟨b, off, none⟩ ∧ ∀ i x, L[i]? = some x → LsAt w b (off + i * 3) x)
theorem LsAt.kept {w w' : World} {b off : Nat} {x : Ls} (h : LsAt w b off x) (hb : Below w.heap.size w w') : LsAt w' b off x := by
  obtain ⟨pa, pc, ⟨h1, h2, h3⟩, h4, h5, h6⟩ := h
  have hlt : b < w.heap.size := World.block_lt_of_cell? w _ h1
  refine ⟨pa, pc, ⟨?_, ?_, ?_⟩, h4.kept hb, fun y h0 h9 => Nat.lt_of_lt_of_le (h5 y h0 h9) hb.size, h6⟩
  · rw [hb.cell (p := ⟨b, off, none⟩) hlt]; exact h1
  · rw [hb.cell (p := ⟨b, off + 1, none⟩) hlt]; exact h2
  · rw [hb.cell (p := ⟨b, off + 2, none⟩) hlt]; exact h3
theorem Lss.kept {w w' : World} {a : Option Addr} {L : List Ls} (h : Lss w a L) (hb : Below w.heap.size w w') : Lss w' a L := by
  refine ⟨h.1, ?_⟩
  rcases h.2 with h0 | ⟨b, off, rfl, hc⟩
  · exact .inl h0
  · exact .inr ⟨b, off, rfl, fun i x hx => (hc i x hx).kept hb⟩

theorem lossB_snoc (l : List Ls) (x : Ls) : lossB (l ++ [x]) = lossB l ++ oneB x := by simp [lossB]
theorem oneB_len (x : Ls) (hx : mayL x) (hn : x.n < 18446744073709551616) : (oneB x).length ≤ 700 := by
  obtain ⟨⟨h1, h2, h3⟩, h4⟩ := hx
  have e1 := cg_le x.kind.toNat (by omega)
  have e2 := cg_le x.n hn
  have e3 := cg_le x.path.length (by omega)
  have e4 := pathB_len x.path h4
  unfold oneB
  simp only [List.length_append, shortL_length]
  omega
theorem lossB_len (l : List Ls) (h : ∀ x ∈ l, mayL x ∧ x.n < 18446744073709551616) : (lossB l).length ≤ l.length * 700 := by
  induction l with
  | nil => simp [lossB]
  | cons x l ih =>
    have h2 := ih (fun y hy => h y (by simp [hy]))
    have h3 := oneB_len x (h x (by simp)).1 (h x (by simp)).2
    rw [lossB_cons, List.length_append, List.length_cons]
    omega

set_option maxHeartbeats 4000000 in
theorem build_any (a : Option Addr) (n cap : Nat) (L : List Ls) (w : World) (hl : L.length = n) (hL : Lss w a L) (hn : a = none → cap = 0) (hnc : n ≤ cap) (hcm : cap ≤ 9223372036854775807) :
    Calls Tryd.prog 9 #[.slice a n cap] w fun e w' => ∃ v, e = .returned (.tuple #[v, .int .i64 ((bldA L).2 : Nat)]) ∧ Hid (OwnsB w' w.heap.size v (bldA L).1) ∧ Hid (Below w.heap.size w w') := by
  subst hl
  by_cases h1 : 2048 < L.length
  · have hb : bldA L = ([], 8) := by unfold bldA; rw [if_pos h1]
    rw [hb]
    go_enter Tryd.func9, Tryd.ntmps9
    go_wp2
    go_ret2
    exact ⟨_, rfl, ownsB_nil _ _, Below.refl _ _⟩
  have hb : Hid (bldA L = if L.all mayB = true then (shortL L.length ++ lossB L, 0) else ([], 1)) := by show _ = _; unfold bldA; rw [if_neg h1]
  obtain ⟨R, hRR⟩ : ∃ R, Hid (bldA L = R) := ⟨_, rfl⟩
  rw [hRR.out]
  have hL0 : Hid (Lss w a L) := hL
  have k1 := put_any w.heap.size L.length (.slice none 0 0) [] w (ownsB_nil _ _) (Nat.le_refl _) (by omega) (by decide)
  have wl : IntKind.u64.wrap (L.length : Int) = (L.length : Int) := by rw [IntKind.wrap_u64]; omega
  clear hL hn
  go_enter Tryd.func9, Tryd.ntmps9
  go_wp2_with fail
  refine k1.mono ?_
  rintro e w1 ⟨v1, rfl, ho1, hg1⟩
  clear k1
  have hB1 : Hid (Below w.heap.size w w1) := grown_below (Below.refl _ _) (ownsB_nil _ _) hg1.out (Nat.le_refl _)
  clear hg1
  have hn64 : Hid (∀ x ∈ L, x.n < 18446744073709551616) := by
    show ∀ x ∈ L, _
    intro x hx
    rcases hL0.out.2 with h0 | ⟨b, off, rfl, hc⟩
    · rw [h0] at hx; simp at hx
    · obtain ⟨i, hi⟩ := List.mem_iff_getElem?.1 hx
      obtain ⟨_, _, _, _, _, _, _, h⟩ := hc i x hi
      exact h
  go_wp2_with fail
  go_loopw [4, 16] (fun vv i wr => ∃ I : Nat, i = .int .i64 I ∧ I ≤ L.length ∧ Hid (OwnsB wr w.heap.size vv (shortL L.length ++ lossB (L.take I))) ∧ Hid (Below w.heap.size w wr) ∧ Hid (∀ x ∈ L.take I, mayL x)) (fun _ i _ => L.length - (intOf i).toNat)
  case atStart => exact ⟨0, rfl, Nat.zero_le _, by show OwnsB _ _ _ _; simpa [lossB] using ho1.out, hB1, by show ∀ x ∈ L.take 0, _; simp⟩
  case round =>
    obtain ⟨I, rfl, hI, hO, hB, hM⟩ := hrel
    clear ho1 hB1
    by_cases hlt : I < L.length
    · have hLr : Hid (Lss wr a L) := hL0.out.kept hB.out
      obtain ⟨b, off, rfl, hcs⟩ : ∃ b off, a = some ⟨b, off, none⟩ ∧ ∀ i x, L[i]? = some x → LsAt wr b (off + i * 3) x := by
        rcases hLr.out.2 with h0 | h0
        · rw [h0] at hlt; simp at hlt
        · exact h0
      have hg : Hid (L.take (I + 1) = L.take I ++ [L[I]] ∧ L[I] ∈ L) := ⟨List.take_succ_eq_append_getElem hlt, List.getElem_mem hlt⟩
      obtain ⟨pa, pc, ⟨c0, c1, c2⟩, hIn, hpb, hp1, hp2, hp3⟩ := hcs I L[I] (List.getElem?_eq_getElem hlt)
      have hpb0 : Hid (∀ y, pa = some y → L[I].path ≠ [] → y.block < w.heap.size) := by
        rcases hL0.out.2 with h0 | ⟨b', off', h0, hc0⟩
        · rw [h0] at hlt; simp at hlt
        · cases h0
          obtain ⟨pa', pc', ⟨e0, _, _⟩, _, e5, _⟩ := hc0 I L[I] (List.getElem?_eq_getElem hlt)
          have hbl : b < w.heap.size := World.block_lt_of_cell? w _ e0
          rw [← hB.out.cell (p := ⟨b, off + I * 3, none⟩) hbl, c0] at e0
          cases e0
          exact e5
      have hlen : Hid ((shortL L.length ++ lossB (L.take I)).length + 1000 ≤ 140737488355328) := by
        show _ ≤ _
        have h2 := lossB_len (L.take I) (fun x hx => ⟨hM.out x hx, hn64.out x (List.mem_of_mem_take hx)⟩)
        have h3 := cg_le L.length (by omega)
        rw [List.length_take] at h2
        rw [List.length_append, shortL_length]
        omega
      generalize L[I] = x at *
      have hIn0 : Hid (Ints wr pa x.path) := hIn
      clear hIn hcs hLr hpb
      have hal : Below wr.heap.size wr (wr.alloc (.cells #[.slice pa x.path.length pc, .int .i64 x.kind, .int .u64 (x.n : Nat)] 41)) := (Below.refl _ _).alloc (Nat.le_refl _) _
      have hX1 : Hid (Blc (wr.alloc (.cells #[.slice pa x.path.length pc, .int .i64 x.kind, .int .u64 (x.n : Nat)] 41)) wr.heap.size #[.slice pa x.path.length pc, .int .i64 x.kind, .int .u64 (x.n : Nat)] 41) := heap_alloc_new _ _
      have k2 := canTell_any pa pc x _ (hIn0.out.kept hal) hp1 hp2
      have hO1 : Hid (OwnsB (wr.alloc (.cells #[.slice pa x.path.length pc, .int .i64 x.kind, .int .u64 (x.n : Nat)] 41)) w.heap.size u4 (shortL L.length ++ lossB (L.take I))) := hO.out.alloc _
      have hB1 : Hid (Below w.heap.size w (wr.alloc (.cells #[.slice pa x.path.length pc, .int .i64 x.kind, .int .u64 (x.n : Nat)] 41))) := hB.out.alloc hB.out.size _
      have hI1 : Hid (Ints (wr.alloc (.cells #[.slice pa x.path.length pc, .int .i64 x.kind, .int .u64 (x.n : Nat)] 41)) pa x.path) := hIn0.out.kept hal
      clear hO hB hIn0 hal
      go_wp2_with fail
      refine k2.mono ?_
      rintro e w2 ⟨rfl, hb2⟩
      clear k2 c0 c1 c2
      have hX2 : Hid (Blc w2 wr.heap.size #[.slice pa x.path.length pc, .int .i64 x.kind, .int .u64 (x.n : Nat)] 41) := (hb2.out.block _ (by simp)).trans hX1.out
      have hO2 : Hid (OwnsB w2 w.heap.size u4 (shortL L.length ++ lossB (L.take I))) := hO1.out.below hb2.out
      have hB2 : Hid (Below w.heap.size w w2) := hB1.out.trans (hb2.out.mono hB1.out.size)
      have hI2 : Hid (Ints w2 pa x.path) := hI1.out.kept hb2.out
      clear hX1 hO1 hB1 hI1 hb2
      by_cases hx : mayL x
      · rw [(mayB_iff x).2 hx]
        have d0 := hX2.out.cell 0
        have d1 := hX2.out.cell 1
        have d2 := hX2.out.cell 2
        have k3 := putLoss_any w.heap.size u4 _ pa pc x w2 hO2.out hB2.out.size hI2.out hpb0.out hp1 hp2 hp3 hx hlen.out
        go_wp2_with fail
        refine k3.mono ?_
        rintro e w3 ⟨v3, rfl, hO3, hB3⟩
        clear k3 d0 d1 d2
        have hB3' : Hid (Below w.heap.size w w3) := hB2.out.trans hB3.out
        go_wp2
        go_roundw
        case rel =>
          refine ⟨I + 1, by go_num, by omega, ?_, hB3', ?_⟩
          · show OwnsB _ _ _ _
            rw [hg.out.1, lossB_snoc, ← List.append_assoc]
            exact hO3.out
          · show ∀ y ∈ L.take (I + 1), _
            rw [hg.out.1]
            intro y hy
            rcases List.mem_append.1 hy with hy | hy
            · exact hM.out y hy
            · simp at hy; rw [hy]; exact hx
        case measure => simp [intOf]; omega
      · rw [mayB_no hx]
        have hF : Hid (R = ([], 1)) := by
          show _ = _
          rw [← hRR.out, hb.out, if_neg (fun h => hx ((all_may L).1 h x hg.out.2))]
        go_wp2
        go_ret2
        rw [hF.out]
        exact ⟨_, rfl, ownsB_nil _ _, hB2⟩
    · have e : I = L.length := by omega
      subst e
      have hF : Hid (R = (shortL L.length ++ lossB L, 0)) := by
        show _ = _
        have := hM.out
        rw [List.take_length] at this
        rw [← hRR.out, hb.out, if_pos ((all_may L).2 this)]
      have hO' : Hid (OwnsB wr w.heap.size u4 (shortL L.length ++ lossB L)) := by have := hO.out; rw [List.take_length] at this; exact this
      clear hO hM hRR hb
      go_wp2
      go_ret2
      rw [hF.out]
      exact ⟨_, rfl, hO', hB⟩
end Go.Proofs.YtgfnohgpmmaocaaDoor
