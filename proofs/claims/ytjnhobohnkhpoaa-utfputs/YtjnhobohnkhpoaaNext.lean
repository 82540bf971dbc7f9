/-
  The first character, in the program.
-/
import Derived.Test.YtjnhobohnkhpoaaRunes
namespace Go.Proofs.Ytjnhobohnkhpoaa
open Go.RowKit

/-- The first character and its length; 0 and 0 where there is none. -/
def fstL (zs : List Int) : Nat := if zs ≠ [] ∧ goodB zs = true then valB zs else 0
def widL (zs : List Int) : Nat := if zs ≠ [] ∧ goodB zs = true then lenB zs else 0
theorem fst_good {zs : List Int} (h0 : zs ≠ []) (h : Good zs) : fstL zs = valB zs ∧ widL zs = lenB zs := by
  unfold fstL widL
  rw [if_pos ⟨h0, goodB_yes h⟩, if_pos ⟨h0, goodB_yes h⟩]
  exact ⟨rfl, rfl⟩
theorem fst_bad {zs : List Int} (h : zs = [] ∨ ¬ Good zs) : fstL zs = 0 ∧ widL zs = 0 := by
  have h1 : ¬ (zs ≠ [] ∧ goodB zs = true) := fun k => by
    rcases h with h | h
    · exact k.1 h
    · have := k.2
      rw [goodB_no h] at this
      cases this
  unfold fstL widL
  rw [if_neg h1, if_neg h1]
  exact ⟨rfl, rfl⟩
/-- The characters of the first bytes begin with the first one. -/
theorem four_head {zs : List Int} (h0 : zs ≠ []) (h : Good zs) : ∃ l, (runesL (zs.take 4)).1 = valB zs :: l := by
  have hne : zs.take 4 ≠ [] := by
    intro k
    have h9 := congrArg List.length k
    have := List.length_pos_iff.2 h0
    rw [List.length_take, List.length_nil] at h9
    omega
  rw [runes_good hne ((good_four zs).2 h), (val_four zs).1]
  exact ⟨_, rfl⟩
theorem four_end {zs : List Int} : (zs = [] ∨ ¬ Good zs) ↔ endL (zs.take 4) = 0 := by
  constructor
  · rintro (h | h)
    · subst h; exact end_nil
    · exact end_bad fun k => h ((good_four zs).1 k)
  · intro h
    by_cases h0 : zs = []
    · exact .inl h0
    · refine .inr fun k => ?_
      have hne : zs.take 4 ≠ [] := by
        intro k
        have h9 := congrArg List.length k
        have := List.length_pos_iff.2 h0
        rw [List.length_take, List.length_nil] at h9
        omega
      have hg := (good_four zs).2 k
      have := good_ne hg hne
      rw [end_good hne hg] at h
      omega

set_option maxHeartbeats 1000000 in
theorem next_long (a : Option Addr) (n cap : Nat) (zs : List Int) (w : World) (hl : zs.length = n) (hb : Bytes w a zs) (hc : n ≤ cap) (hcase : 4 < n) (hn : n ≤ 4611686018427387904) :
    Calls Try.prog 18 #[.slice a n cap] w fun e w' => e = .returned (.tuple #[.int .i32 (fstL zs : Nat), .int .i64 (widL zs : Nat)]) ∧ Below w.heap.size w w' := by
  have hT : Hid ((zs.take 4).length = 4) := by show _ = _; rw [List.length_take, hl]; omega
  have k := whole_any a 4 cap (zs.take 4) w hT.out (hb.take 4) (by omega)
  have h4 : (4 : Int) < (n : Int) := by omega
  by_cases he : endL (zs.take 4) = 0
  · obtain ⟨f1, f2⟩ := fst_bad (four_end.2 he)
    rw [he] at k
    rw [f1, f2]
    clear he f1 f2 hb hl
    go_enter Try.func18, Try.ntmps18
    go_wp2_with fail
    refine k.mono ?_
    rintro e w1 ⟨rfl, hb1⟩
    go_wp2
    go_ret2
    exact ⟨rfl, hb1⟩
  · have hbad : ¬ (zs = [] ∨ ¬ Good zs) := fun h => he (four_end.1 h)
    have h0 : zs ≠ [] := fun h => hbad (.inl h)
    have hg : Good zs := Classical.byContradiction fun h => hbad (.inr h)
    obtain ⟨f1, f2⟩ := fst_good h0 hg
    have hp : 0 < n := by have := List.length_pos_iff.2 h0; omega
    obtain ⟨b, off, rfl⟩ := bytes_some hb (by omega)
    obtain ⟨l, hhead⟩ := four_head h0 hg
    have hE := end_le (zs.take 4)
    rw [hT.out] at hE
    have hlen : ((zs.take 4).take (endL (zs.take 4))).length = endL (zs.take 4) := by rw [List.length_take, hT.out]; omega
    have htx := take_end (zs.take 4)
    have hB4 : Bytes w (some ⟨b, off, none⟩) ((zs.take 4).take (endL (zs.take 4))) := (hb.take 4).take _
    obtain ⟨cp, X, kr, hX, hcp⟩ := conv_runes hB4.1 (by rw [htx]) hB4.2.1
    have hX' : Hid (∀ w' : World, (X w')[0]? = some (.int .i32 (valB zs : Nat))) := fun w' => by
      obtain ⟨a', cap', hv, -, -, hI, -⟩ := (hX.out w' w'.drew 0 (Nat.zero_le _)).shape
      have e1 : a' = some ⟨w'.heap.size, 0, none⟩ := by injection hv with h1 _ _; exact h1.symm
      subst e1
      have hi := hI.cell (i := 0) (by rw [ints_len, htx]; simp only; rw [hhead]; simp)
      rw [Nat.zero_add] at hi
      have e9 : (ints (runesL ((zs.take 4).take (endL (zs.take 4)))).1).getD 0 0 = ((valB zs : Nat) : Int) := by rw [htx]; simp only; rw [hhead]; rfl
      rw [e9] at hi
      rw [← hi]
      exact (World.cell?_alloc_mark w'.drew _ _ _ 0).symm
    have hN : 0 < (runesL ((zs.take 4).take (endL (zs.take 4)))).1.length := by rw [htx]; simp only; rw [hhead]; simp
    have ks := fun w1 (h : Bytes w1 (some ⟨b, off, none⟩) ((zs.take 4).take (endL (zs.take 4)))) (c : Nat) => conv_str h (endL (zs.take 4)) c hlen
    have kl := fun w1 => rlen_any (valB zs) w1 (good_right hg)
    rw [val_lenR hg] at kl
    rw [f1, f2]
    have hBH : Hid (Bytes w (some ⟨b, off, none⟩) ((zs.take 4).take (endL (zs.take 4)))) := hB4
    have ks' : Hid _ := ks
    have i1 : ((endL (zs.take 4) : Nat) : Int) ≤ ((4 : Nat) : Int) := by omega
    have i2 : (((endL (zs.take 4) : Nat) : Int) == 0) = false := by simp; omega
    clear he f1 f2 hb hl hbad hg h0 hhead hB4 hX htx hlen ks
    generalize (runesL ((zs.take 4).take (endL (zs.take 4)))).1.length = N at *
    generalize strOfNums ((zs.take 4).take (endL (zs.take 4))) = s at *
    generalize (zs.take 4).take (endL (zs.take 4)) = hd at *
    generalize endL (zs.take 4) = E at *
    generalize valB zs = V at *
    generalize lenB zs = L at *
    go_enter Try.func18, Try.ntmps18
    go_wp2_with fail
    refine k.mono ?_
    rintro e w1 ⟨rfl, hb1⟩
    have ks := ks'.out w1 (hBH.out.kept hb1)
    have hx := hX'.out w1
    have hNI : (0 : Int) < (N : Int) := by omega
    go_wp2_with (go_at_call 26; refine (kl _).mono ?_; rintro e w' ⟨rfl, rfl⟩)
    go_ret2
    exact ⟨rfl, (hb1.drew).alloc hb1.size _⟩
set_option maxHeartbeats 1000000 in
theorem next_short (a : Option Addr) (n cap : Nat) (zs : List Int) (w : World) (hl : zs.length = n) (hb : Bytes w a zs) (hc : n ≤ cap) (hcase : n ≤ 4) (hn : n ≤ 4611686018427387904) :
    Calls Try.prog 18 #[.slice a n cap] w fun e w' => e = .returned (.tuple #[.int .i32 (fstL zs : Nat), .int .i64 (widL zs : Nat)]) ∧ Below w.heap.size w w' := by
  have hT : Hid ((zs.take 4).length = n) := by show _ = _; rw [List.length_take, hl]; omega
  have k := whole_any a n cap (zs.take 4) w hT.out (hb.take 4) (by omega)
  have h4 : (n : Int) ≤ 4 := by omega
  by_cases he : endL (zs.take 4) = 0
  · obtain ⟨f1, f2⟩ := fst_bad (four_end.2 he)
    rw [he] at k
    rw [f1, f2]
    clear he f1 f2 hb hl
    go_enter Try.func18, Try.ntmps18
    go_wp2_with fail
    refine k.mono ?_
    rintro e w1 ⟨rfl, hb1⟩
    go_wp2
    go_ret2
    exact ⟨rfl, hb1⟩
  · have hbad : ¬ (zs = [] ∨ ¬ Good zs) := fun h => he (four_end.1 h)
    have h0 : zs ≠ [] := fun h => hbad (.inl h)
    have hg : Good zs := Classical.byContradiction fun h => hbad (.inr h)
    obtain ⟨f1, f2⟩ := fst_good h0 hg
    have hp : 0 < n := by have := List.length_pos_iff.2 h0; omega
    obtain ⟨b, off, rfl⟩ := bytes_some hb (by omega)
    obtain ⟨l, hhead⟩ := four_head h0 hg
    have hE := end_le (zs.take 4)
    rw [hT.out] at hE
    have hlen : ((zs.take 4).take (endL (zs.take 4))).length = endL (zs.take 4) := by rw [List.length_take, hT.out]; omega
    have htx := take_end (zs.take 4)
    have hB4 : Bytes w (some ⟨b, off, none⟩) ((zs.take 4).take (endL (zs.take 4))) := (hb.take 4).take _
    obtain ⟨cp, X, kr, hX, hcp⟩ := conv_runes hB4.1 (by rw [htx]) hB4.2.1
    have hX' : Hid (∀ w' : World, (X w')[0]? = some (.int .i32 (valB zs : Nat))) := fun w' => by
      obtain ⟨a', cap', hv, -, -, hI, -⟩ := (hX.out w' w'.drew 0 (Nat.zero_le _)).shape
      have e1 : a' = some ⟨w'.heap.size, 0, none⟩ := by injection hv with h1 _ _; exact h1.symm
      subst e1
      have hi := hI.cell (i := 0) (by rw [ints_len, htx]; simp only; rw [hhead]; simp)
      rw [Nat.zero_add] at hi
      have e9 : (ints (runesL ((zs.take 4).take (endL (zs.take 4)))).1).getD 0 0 = ((valB zs : Nat) : Int) := by rw [htx]; simp only; rw [hhead]; rfl
      rw [e9] at hi
      rw [← hi]
      exact (World.cell?_alloc_mark w'.drew _ _ _ 0).symm
    have hN : 0 < (runesL ((zs.take 4).take (endL (zs.take 4)))).1.length := by rw [htx]; simp only; rw [hhead]; simp
    have ks := fun w1 (h : Bytes w1 (some ⟨b, off, none⟩) ((zs.take 4).take (endL (zs.take 4)))) (c : Nat) => conv_str h (endL (zs.take 4)) c hlen
    have kl := fun w1 => rlen_any (valB zs) w1 (good_right hg)
    rw [val_lenR hg] at kl
    rw [f1, f2]
    have hBH : Hid (Bytes w (some ⟨b, off, none⟩) ((zs.take 4).take (endL (zs.take 4)))) := hB4
    have ks' : Hid _ := ks
    have i1 : ((endL (zs.take 4) : Nat) : Int) ≤ ((n : Nat) : Int) := by omega
    have i2 : (((endL (zs.take 4) : Nat) : Int) == 0) = false := by simp; omega
    clear he f1 f2 hb hl hbad hg h0 hhead hB4 hX htx hlen ks
    generalize (runesL ((zs.take 4).take (endL (zs.take 4)))).1.length = N at *
    generalize strOfNums ((zs.take 4).take (endL (zs.take 4))) = s at *
    generalize (zs.take 4).take (endL (zs.take 4)) = hd at *
    generalize endL (zs.take 4) = E at *
    generalize valB zs = V at *
    generalize lenB zs = L at *
    go_enter Try.func18, Try.ntmps18
    go_wp2_with fail
    refine k.mono ?_
    rintro e w1 ⟨rfl, hb1⟩
    have ks := ks'.out w1 (hBH.out.kept hb1)
    have hx := hX'.out w1
    have hNI : (0 : Int) < (N : Int) := by omega
    go_wp2_with (go_at_call 26; refine (kl _).mono ?_; rintro e w' ⟨rfl, rfl⟩)
    go_ret2
    exact ⟨rfl, (hb1.drew).alloc hb1.size _⟩
theorem next_any (a : Option Addr) (n cap : Nat) (zs : List Int) (w : World) (hl : zs.length = n) (hb : Bytes w a zs) (hc : n ≤ cap) (hn : n ≤ 4611686018427387904) :
    Calls Try.prog 18 #[.slice a n cap] w fun e w' => e = .returned (.tuple #[.int .i32 (fstL zs : Nat), .int .i64 (widL zs : Nat)]) ∧ Below w.heap.size w w' := by
  by_cases h : 4 < n
  · exact next_long a n cap zs w hl hb hc h hn
  · exact next_short a n cap zs w hl hb hc (by omega) hn
end Go.Proofs.Ytjnhobohnkhpoaa
