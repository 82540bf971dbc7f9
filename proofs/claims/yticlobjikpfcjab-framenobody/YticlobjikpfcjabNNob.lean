/-
  Streams that nobody made; memory of which some blocks of bytes were written over.
-/
import Derived.Test.YticlobjikpfcjabNNext
namespace Go.Proofs.Yticlobjikpfcjab
open Go.RowKit

set_option maxHeartbeats 400000 in
theorem made_nil (w : World) : Calls Try.prog 13 #[.pointer none] w fun e w' => e = .returned (.bool false) ∧ w' = w := by
  go_enter Try.func13, Try.ntmps13
  go_wp2
  go_ret
  exact ⟨rfl, rfl⟩
set_option maxHeartbeats 400000 in
theorem made_zero (g : Nat) (w : World) (c0 : w.cell? ⟨g, 0, none⟩ = some (.bool false)) : Calls Try.prog 13 #[.pointer (some ⟨g, 0, none⟩)] w fun e w' => e = .returned (.bool false) ∧ w' = w := by
  go_enter Try.func13, Try.ntmps13
  go_wp2
  go_ret
  exact ⟨rfl, rfl⟩
set_option maxHeartbeats 400000 in
theorem feed_no (p : Option Addr) (s : Value) (w : World) (k : Calls Try.prog 13 #[.pointer p] w fun e w' => e = .returned (.bool false) ∧ w' = w) :
    Calls Try.prog 7 #[.pointer p, s] w fun e w' => e = .returned (.slice none 0 0) ∧ w' = w := by
  go_enter Try.func7, Try.ntmps7
  go_wp2_with (go_at_call 13; refine k.mono ?_; rintro e w' ⟨rfl, hw⟩; obtain rfl : w = w' := hw.symm)
  go_ret
  exact ⟨rfl, rfl⟩
set_option maxHeartbeats 400000 in
theorem flush_no (p : Option Addr) (w : World) (k : Calls Try.prog 13 #[.pointer p] w fun e w' => e = .returned (.bool false) ∧ w' = w) :
    Calls Try.prog 10 #[.pointer p] w fun e w' => e = .returned (.slice none 0 0) ∧ w' = w := by
  go_enter Try.func10, Try.ntmps10
  go_wp2_with (go_at_call 13; refine k.mono ?_; rintro e w' ⟨rfl, hw⟩; obtain rfl : w = w' := hw.symm)
  go_ret
  exact ⟨rfl, rfl⟩
set_option maxHeartbeats 400000 in
theorem waits_no (p : Option Addr) (w : World) (k : Calls Try.prog 13 #[.pointer p] w fun e w' => e = .returned (.bool false) ∧ w' = w) :
    Calls Try.prog 8 #[.pointer p] w fun e w' => e = .returned (.int .i64 0) ∧ w' = w := by
  go_enter Try.func8, Try.ntmps8
  go_wp2_with (go_at_call 13; refine k.mono ?_; rintro e w' ⟨rfl, hw⟩; obtain rfl : w = w' := hw.symm)
  go_ret
  exact ⟨rfl, rfl⟩
set_option maxHeartbeats 400000 in
theorem lost_no (p : Option Addr) (w : World) (k : Calls Try.prog 13 #[.pointer p] w fun e w' => e = .returned (.bool false) ∧ w' = w) :
    Calls Try.prog 9 #[.pointer p] w fun e w' => e = .returned (.int .i64 0) ∧ w' = w := by
  go_enter Try.func9, Try.ntmps9
  go_wp2_with (go_at_call 13; refine k.mono ?_; rintro e w' ⟨rfl, hw⟩; obtain rfl : w = w' := hw.symm)
  go_ret
  exact ⟨rfl, rfl⟩

theorem Bytes.but {w w' : World} {g : Nat} {a : Option Addr} {zs : List Int} (h : Bytes w a zs) (hg : w.grownBy w' (some g)) (ha : ∀ x, a = some x → x.block ≠ g) : Bytes w' a zs := by
  refine ⟨h.1, h.2.1, ?_⟩
  rcases h.2.2 with h0 | ⟨b, off, rfl, hc⟩
  · exact .inl h0
  · refine .inr ⟨b, off, rfl, fun i hi => ?_⟩
    exact hg.cell (hc i hi) (fun e => ha _ rfl (Option.some.inj e))

/-- A ROW OF SLICES OF BYTES, each from the place B on and below H, and each to be written to. -/
def Rows5 (w : World) (B H : Nat) (a : Option Addr) (n : Nat) : Prop :=
  n = 0 ∨ ∃ g, a = some ⟨g, 0, none⟩ ∧ B ≤ g ∧ (∃ cur, w.heap[g]? = some (.cells cur 26 (0, 0))) ∧ ∀ i, i < n → ∃ a' m c', w.cell? ⟨g, i, none⟩ = some (.slice a' m c') ∧ m ≤ c' ∧ c' ≤ 9223372036854775807 ∧
    (m = 0 ∨ ∃ b off cur, a' = some ⟨b, off, none⟩ ∧ B ≤ b ∧ b < H ∧ w.heap[b]? = some (.cells cur 5 (0, 0)) ∧ off + m ≤ cur.size)

theorem rows5_of {w : World} {B n cap : Nat} {a : Option Addr} {Ls : List (List Int)} (h : OwnsL w B B (.slice a n cap) Ls) : Rows5 w B w.heap.size a n := by
  obtain ⟨vs, ho, hl⟩ := h
  rcases id ho.2 with ⟨e, hn⟩ | ⟨g, cap', cur, e, hbg, hg, hnc, hcm, hcs, htk⟩
  · simp only [Value.slice.injEq] at e
    exact .inl e.2.1
  · simp only [Value.slice.injEq] at e
    obtain ⟨rfl, rfl, rfl⟩ := e
    refine .inr ⟨g, rfl, hbg, ⟨cur, hg⟩, fun i hi => ?_⟩
    have hvl : vs.length = Ls.length := by have := ho.1; omega
    have hu : vs[i]? = some vs[i] := List.getElem?_eq_getElem (by omega)
    have hcell := ho.cells (g := g) rfl i _ hu
    have hcell' : w.cell? ⟨g, i, none⟩ = some vs[i] := by
      by_cases h0 : i = 0
      · subst h0; simpa [Addr.add] using hcell
      · simpa [Addr.add, h0] using hcell
    obtain ⟨a', c', hv, hb, hnil, hlc, hcm', hs⟩ := hl i _ hu
    refine ⟨a', (Ls.getD i []).length, c', by rw [hcell', hv], hlc, by simpa [maxLen] using hcm', ?_⟩
    by_cases h0 : Ls.getD i [] = []
    · left; rw [h0]; rfl
    · right
      have hp := List.length_pos_iff.2 h0
      rcases hb.2.2 with h1 | ⟨b, off, rfl, hc⟩
      · exact absurd h1 h0
      · obtain ⟨hB, cur5, h5⟩ := hs _ rfl h0
        refine ⟨b, off, cur5, rfl, hB, (Array.getElem?_eq_some_iff.1 h5).1, h5, ?_⟩
        have h6 := hc ((Ls.getD i []).length - 1) (by omega)
        rw [cell_row h5] at h6
        have := (Array.getElem?_eq_some_iff.1 h6).1
        omega

/-- Where all blocks from B on are as they were, it is as it was. -/
theorem Rows5.keep {w w' : World} {B H n : Nat} {a : Option Addr} (h : Rows5 w B H a n) (hk : ∀ b, B ≤ b → b < w.heap.size → w'.heap[b]? = w.heap[b]?) : Rows5 w' B H a n := by
  rcases h with h | ⟨g, rfl, hgb, ⟨cur, hg⟩, hall⟩
  · exact .inl h
  · have hg' := hk g hgb (Array.getElem?_eq_some_iff.1 hg).1
    refine .inr ⟨g, rfl, hgb, ⟨cur, by rw [hg']; exact hg⟩, fun i hi => ?_⟩
    obtain ⟨a', m, c', h1, h2, h3, h4⟩ := hall i hi
    refine ⟨a', m, c', ?_, h2, h3, ?_⟩
    · rw [World.cell?_of_block (w := w) (w' := w') (a := ⟨g, i, none⟩) hg']
      exact h1
    · rcases h4 with h4 | ⟨b, off, cur5, e, hB, hH, hb, hs⟩
      · exact .inl h4
      · exact .inr ⟨b, off, cur5, e, hB, hH, by rw [hk b hB (Array.getElem?_eq_some_iff.1 hb).1]; exact hb, hs⟩
theorem keep_low {w w' : World} {B r : Nat} (h : w.grownBy w' (some r)) (hr : r < B) : ∀ b, B ≤ b → b < w.heap.size → w'.heap[b]? = w.heap[b]? :=
  fun b hb hlt => h.block b hlt (fun e => by have := Option.some.inj e; omega)

/-- SOME BLOCKS OF BYTES BETWEEN B AND H WERE WRITTEN OVER, and nothing else turned. -/
def Dirty (w w' : World) (B H : Nat) : Prop :=
  w'.os = w.os ∧ w'.tape = w.tape ∧ w'.output = w.output ∧ w'.heap.size = w.heap.size ∧
  ∀ k, k < w.heap.size → w'.heap[k]? = w.heap[k]? ∨ (B ≤ k ∧ k < H ∧ ∃ cur cur', w.heap[k]? = some (.cells cur 5 (0, 0)) ∧ w'.heap[k]? = some (.cells cur' 5 (0, 0)) ∧ cur'.size = cur.size)

theorem Dirty.refl (w : World) (B H : Nat) : Dirty w w B H := ⟨rfl, rfl, rfl, rfl, fun _ _ => .inl rfl⟩
/-- A block of another type stays. -/
theorem Dirty.same {w w' : World} {B H b : Nat} {T : TypeId} {cur : Array Value} {m : Nat × Nat} (h : Dirty w w' B H) (hb : w.heap[b]? = some (.cells cur T m)) (hT : T ≠ 5) : w'.heap[b]? = w.heap[b]? := by
  rcases h.2.2.2.2 b (Array.getElem?_eq_some_iff.1 hb).1 with h1 | ⟨_, _, c, c', h1, _⟩
  · exact h1
  · rw [hb] at h1
    cases h1
    exact absurd rfl hT
/-- A block outside stays. -/
theorem Dirty.out {w w' : World} {B H b : Nat} (h : Dirty w w' B H) (hlt : b < w.heap.size) (hb : b < B ∨ H ≤ b) : w'.heap[b]? = w.heap[b]? := by
  rcases h.2.2.2.2 b hlt with h1 | ⟨h2, h3, _⟩
  · exact h1
  · omega
/-- A block of bytes is still one, as long. -/
theorem Dirty.bytes {w w' : World} {B H b : Nat} {cur : Array Value} (h : Dirty w w' B H) (hb : w.heap[b]? = some (.cells cur 5 (0, 0))) : ∃ cur', w'.heap[b]? = some (.cells cur' 5 (0, 0)) ∧ cur'.size = cur.size := by
  rcases h.2.2.2.2 b (Array.getElem?_eq_some_iff.1 hb).1 with h1 | ⟨_, _, c, c', h1, h2, h3⟩
  · exact ⟨cur, by rw [h1]; exact hb, rfl⟩
  · rw [hb] at h1
    cases h1
    exact ⟨c', h2, h3⟩
theorem Dirty.store {w w' : World} {B H b j : Nat} {cur : Array Value} (h : Dirty w w' B H) (hb : w.heap[b]? = some (.cells cur 5 (0, 0))) (hB : B ≤ b) (hH : b < H) (u : Value) : Dirty w (w'.setCell ⟨b, j, none⟩ u) B H := by
  obtain ⟨cur', h1, h2⟩ := h.bytes hb
  refine ⟨h.1, h.2.1, h.2.2.1, by simpa using h.2.2.2.1, fun k hk => ?_⟩
  by_cases e : k = b
  · subst e
    right
    exact ⟨hB, hH, cur, _, hb, heap_setCell_same _ k j _ 5 _ h1, by simpa using h2⟩
  · rw [Below.heap_setCell w' _ u k e]
    exact h.2.2.2.2 k hk
theorem Dirty.below {w0 w w' : World} {B0 B H : Nat} (hb : Below B0 w0 w) (h : Dirty w w' B H) (hB : B0 ≤ B) (hz : B0 ≤ w.heap.size) : Below B0 w0 w' :=
  ⟨h.1.trans hb.os, h.2.1.trans hb.tape, h.2.2.1.trans hb.output, by rw [h.2.2.2.1]; exact hb.size, fun k hk => (h.out (by omega) (.inl (by omega))).trans (hb.block k hk)⟩
theorem Stm.dirty {w w' : World} {B H g lost : Nat} {q : List Int} (h : Stm w g q lost) (hf : Far w g H) (hd : Dirty w w' B H) : Stm w' g q lost := by
  obtain ⟨a, cap, h1, h2⟩ := h
  refine ⟨a, cap, ?_, ?_⟩
  · unfold StAt
    rw [hd.same h1 (by decide)]
    exact h1
  · obtain ⟨a', cap', e, hb, h3, h4, h5, h6⟩ := h2
    cases e
    have hfar : ∀ x, a = some x → H ≤ x.block := hf a _ _ h1.c1
    refine ⟨a, cap, rfl, ⟨hb.1, hb.2.1, ?_⟩, h3, h4, h5, fun x hx hne => ?_⟩
    · rcases hb.2.2 with h0 | ⟨b, off, rfl, hc⟩
      · exact .inl h0
      · by_cases h0 : q = []
        · exact .inl h0
        · refine .inr ⟨b, off, rfl, fun i hi => ?_⟩
          rw [World.cell?_of_block (w := w) (w' := w') (a := ⟨b, off + i, none⟩) (hd.out (hb.lt h0) (.inr (hfar ⟨b, off, none⟩ rfl)))]
          exact hc i hi
    · obtain ⟨h7, c, h8⟩ := h6 x hx hne
      exact ⟨h7, c, by rw [hd.out (Array.getElem?_eq_some_iff.1 h8).1 (.inr (hfar x hx))]; exact h8⟩
theorem Bytes.dirty {w w' : World} {B H B0 : Nat} {a : Option Addr} {zs : List Int} (h : Bytes w a zs) (hd : Dirty w w' B H) (hx : ∀ x, a = some x → zs ≠ [] → x.block < B0) (hB : B0 ≤ B) : Bytes w' a zs := by
  refine ⟨h.1, h.2.1, ?_⟩
  rcases h.2.2 with h0 | ⟨b, off, rfl, hc⟩
  · exact .inl h0
  · by_cases h0 : zs = []
    · exact .inl h0
    · refine .inr ⟨b, off, rfl, fun i hi => ?_⟩
      rw [World.cell?_of_block (w := w) (w' := w') (a := ⟨b, off + i, none⟩) (hd.out (h.lt h0) (.inl (by have := hx ⟨b, off, none⟩ rfl h0; exact Nat.lt_of_lt_of_le this hB)))]
      exact hc i hi
/-- What waits stays far where another block turns. -/
theorem Far.other {w w' : World} {g r H : Nat} (h : Far w g H) (hg : w.grownBy w' (some r)) (hr : r ≠ g) (hlt : g < w.heap.size) : Far w' g H := by
  intro a n c hc
  rw [World.cell?_of_block (w := w) (w' := w') (a := ⟨g, 1, none⟩) (hg.block g hlt (fun e => hr (Option.some.inj e).symm))] at hc
  exact h a n c hc
theorem Far.mono {w : World} {g H H' : Nat} (h : Far w g H) (hH : H' ≤ H) : Far w g H' := fun a n c hc x hx => Nat.le_trans hH (h a n c hc x hx)
/-- Where a block of bytes below what waits turns, the stream stays. -/
theorem Stm.low {w w' : World} {g r H lost : Nat} {q : List Int} (h : Stm w g q lost) (hf : Far w g H) (hg : w.grownBy w' (some r)) (hr : r ≠ g) (hH : r < H) : Stm w' g q lost := by
  obtain ⟨a, cap, h1, h2⟩ := h
  refine ⟨a, cap, h1.other hg hr, ?_⟩
  obtain ⟨a', cap', e, hb, h3, h4, h5, h6⟩ := h2
  cases e
  have hfar : ∀ x, a = some x → H ≤ x.block := hf a _ _ h1.c1
  refine ⟨a, cap, rfl, hb.but hg (fun x hx => by have := hfar x hx; omega), h3, h4, h5, fun x hx hne => ?_⟩
  obtain ⟨h7, c, h8⟩ := h6 x hx hne
  refine ⟨h7, c, ?_⟩
  rw [hg.block x.block (Array.getElem?_eq_some_iff.1 h8).1 (fun e => by have := hfar x hx; have := Option.some.inj e; omega)]
  exact h8

/-- The first bytes that a stream is fed. -/
theorem feed_first (g : Nat) (a : Option Addr) (n cap : Nat) (P : List Int) (w : World) (hst : Stm w g [] 0) (hl : P.length = n) (hb : Bytes w a P) (hnil : a = none → cap = 0) (hn : n ≤ 70368744176456) :
    Calls Try.prog 7 #[.pointer (some ⟨g, 0, none⟩), .slice a n cap] w fun e w' => ∃ v, e = .returned v ∧ Mid w w' g v (scanL P).1 ∧ Stm w' g (waitS P) (lostS P) ∧ w.grownBy w' (some g) := by
  refine (feed_far g [] 0 a n cap P w hst hl hb hnil (by simp; omega) (by simp)).mono ?_
  rintro e w' ⟨v, rfl, _, hm, hs, hg⟩
  rw [List.nil_append] at hm hs
  rw [Nat.zero_add] at hs
  exact ⟨v, rfl, hm, hs, hg⟩
theorem OwnR.but {w w' : World} {base g r n cap : Nat} {zs : List Int} (h : OwnR w base g n cap zs) (hg : w.grownBy w' (some r)) (hr : r ≠ g) : OwnR w' base g n cap zs :=
  ⟨h.1.kept hg (.inr (fun e => hr (Option.some.inj e).symm)), h.2⟩
theorem OwnR.below {w w' : World} {base g n cap : Nat} {zs : List Int} (h : OwnR w base g n cap zs) (hb : Below w.heap.size w w') : OwnR w' base g n cap zs :=
  ⟨h.1.kept (row := none) ⟨hb.os, hb.tape, hb.output, hb.size, fun k hk _ => hb.block k hk⟩ (.inr (fun e => by cases e)), h.2⟩
theorem OwnR.lt {w : World} {base g n cap : Nat} {zs : List Int} (h : OwnR w base g n cap zs) : base ≤ g ∧ g < w.heap.size := h.1.lt g rfl
theorem flip_byte {c : Int} (hc : 0 ≤ c ∧ c < 256) : 0 ≤ bits .xor .u8 c 255 ∧ bits .xor .u8 c 255 < 256 := by
  rw [u8_xor c 255 hc.1 hc.2 (by decide) (by decide)]
  have := Nat.xor_lt_two_pow (n := 8) (show c.toNat < 2 ^ 8 by omega) (show (255 : Int).toNat < 2 ^ 8 by decide)
  omega
theorem sameL_yes (ba bb : Nat) (a b : Option Addr) (n m ca cb : Nat) (La : List (List Int)) (w : World) (hla : La.length = n) (hlb : La.length = m) (ha : Lists w ba a La) (hb : Lists w bb b La) :
    Calls Try.prog 11 #[.slice a n ca, .slice b m cb] w fun e w' => e = .returned (.bool true) ∧ Below w.heap.size w w' := by
  have h := sameL_any ba bb a b n m ca cb La La w hla hlb ha hb
  rwa [decide_eq_true rfl] at h
theorem Mid.lists {w w' : World} {g : Nat} {v : Value} {Ls : List (List Int)} (h : Mid w w' g v Ls) : ∃ a n cap, v = .slice a n cap ∧ Hid (Ls.length = n) ∧ n ≤ cap ∧ cap ≤ 9223372036854775807 := by
  obtain ⟨wm, _, ho, _⟩ := h
  obtain ⟨a, n, cap, e, hl, _, hc, hm, _⟩ := ho.lists
  exact ⟨a, n, cap, e, hl, hc, hm⟩
end Go.Proofs.Yticlobjikpfcjab
