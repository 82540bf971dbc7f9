/-
  What is said of a loss, in the program.
-/
import Derived.Test.YtgfnohgpmmaocaaDoorLba
import Derived.Test.YtgfnohgpmmaocaaDoorSty
import Derived.Test.YtgfnohgpmmaocaaDoorLays
import Derived.Shelf.Strings.OnBuilder
import Derived.Shelf.Strconv.Itoa3
namespace Go.Proofs.YtgfnohgpmmaocaaDoor
open Go.RowKit
set_option linter.unusedVariables false
set_option linter.unusedSimpArgs false

/-- A Kind's name. -/
def nameB (k : Int) : ByteArray :=
  if k = 1 then ⟨#[102, 108, 111, 97, 116]⟩ else if k = 2 then ⟨#[110, 97, 110]⟩ else if k = 3 then ⟨#[98, 121, 116, 101, 115]⟩ else if k = 4 then ⟨#[116, 97, 103]⟩ else if k = 5 then ⟨#[109, 97, 112]⟩ else if k = 6 then ⟨#[115, 105, 109, 112, 108, 101]⟩ else ⟨#[63]⟩

theorem nameB_size (k : Int) : (nameB k).size ≤ 6 := by
  unfold nameB
  repeat' split
  all_goals decide
set_option maxHeartbeats 1000000 in
theorem name_any (k : Int) (w : World) : Calls Tryd.prog 30 #[.int .i64 k] w fun e w' => e = .returned (.string (nameB k)) ∧ w' = w := by
  unfold nameB
  by_cases h1 : k = 1
  · subst h1; go_enter Tryd.func30, Tryd.ntmps30; go_wp2; go_ret; exact ⟨rfl, rfl⟩
  by_cases h2 : k = 2
  · subst h2; go_enter Tryd.func30, Tryd.ntmps30; go_wp2; go_ret; exact ⟨rfl, rfl⟩
  by_cases h3 : k = 3
  · subst h3; go_enter Tryd.func30, Tryd.ntmps30; go_wp2; go_ret; exact ⟨rfl, rfl⟩
  by_cases h4 : k = 4
  · subst h4; go_enter Tryd.func30, Tryd.ntmps30; go_wp2; go_ret; exact ⟨rfl, rfl⟩
  by_cases h5 : k = 5
  · subst h5; go_enter Tryd.func30, Tryd.ntmps30; go_wp2; go_ret; exact ⟨rfl, rfl⟩
  by_cases h6 : k = 6
  · subst h6; go_enter Tryd.func30, Tryd.ntmps30; go_wp2; go_ret; exact ⟨rfl, rfl⟩
  have b1 : (k == 1) = false := by rw [beq_eq_false_iff_ne]; exact h1
  have b2 : (k == 2) = false := by rw [beq_eq_false_iff_ne]; exact h2
  have b3 : (k == 3) = false := by rw [beq_eq_false_iff_ne]; exact h3
  have b4 : (k == 4) = false := by rw [beq_eq_false_iff_ne]; exact h4
  have b5 : (k == 5) = false := by rw [beq_eq_false_iff_ne]; exact h5
  have b6 : (k == 6) = false := by rw [beq_eq_false_iff_ne]; exact h6
  rw [if_neg h1, if_neg h2, if_neg h3, if_neg h4, if_neg h5, if_neg h6]
  go_enter Tryd.func30, Tryd.ntmps30
  go_wp2
  go_ret
  exact ⟨rfl, rfl⟩

/-- What is said of a loss, its numbers' texts given. -/
def sayB (f : Int → ByteArray) (x : Ls) : ByteArray := nameB x.kind ++ ⟨#[32, 47]⟩ ++ ⟨(Lib.join ((x.path.map f).map (·.data.toList)) [47]).toArray⟩

theorem join_len (s : List UInt8) (k : Nat) : ∀ (l : List (List UInt8)), (∀ x ∈ l, x.length ≤ k) → (Lib.join l s).length ≤ l.length * (k + s.length) := by
  intro l
  induction l with
  | nil => intro _; simp [Lib.join]
  | cons a l ih =>
    intro h
    have ha := h a (by simp)
    have h2 := ih (fun x hx => h x (by simp [hx]))
    cases l with
    | nil =>
      rw [Lib.join_one]
      simp only [List.length_cons, List.length_nil, Nat.zero_add, Nat.one_mul]
      omega
    | cons b l =>
      have e : Lib.join (a :: b :: l) s = a ++ (s ++ Lib.join (b :: l) s) := by simp [Lib.join, List.intercalate]
      rw [e, List.length_append, List.length_append, show (a :: b :: l).length = (b :: l).length + 1 from rfl, Nat.succ_mul]
      omega

/-- strings.Join over strings in new memory. -/
theorem join_any (a : Option Addr) (n c : Nat) (l : List ByteArray) (sep : ByteArray) (w : World) (hn : l.length = n) (hS : Strs w a l) (hc : n ≤ c) (hlen : (Lib.join (l.map (·.data.toList)) sep.data.toList).length ≤ 140737488355328) (hN : n ≤ 140737488355328) :
    Calls Tryd.prog 31 #[.slice a n c, .string sep] w fun e w' => e = .returned (.string ⟨(Lib.join (l.map (·.data.toList)) sep.data.toList).toArray⟩) ∧ Hid (Below w.heap.size w w') := by
  subst hn
  by_cases h0 : l = []
  · subst h0
    refine (Any.strings_Join_none lays156 Extra_156 a c sep w).mono ?_
    rintro e w' ⟨rfl, rfl⟩
    exact ⟨rfl, Below.refl _ _⟩
  · have hp := List.length_pos_iff.2 h0
    obtain ⟨b, off, rfl⟩ := strs_some hS hp
    refine (Any.strings_Join lays156 Extra_156 b off c l sep w ?_ (hS.lt h0) hN hc hlen).mono ?_
    · intro j x hx
      have hj := (List.getElem?_eq_some_iff.1 hx).1
      rw [hS.cell hj, List.getD_eq_getElem?_getD, hx]
      rfl
    · rintro e w' ⟨rfl, hb⟩
      exact ⟨rfl, hb⟩

set_option maxHeartbeats 4000000 in
theorem say_any (f : Int → ByteArray) (pa : Option Addr) (pc : Nat) (x : Ls) (w : World) (hI : Ints w pa x.path) (hc : x.path.length ≤ pc) (hm : pc ≤ 9223372036854775807) (hp : x.path.length ≤ 2000) (hf : ∀ s ∈ x.path, (f s).size ≤ 30)
    (hIt : ∀ s ∈ x.path, ∀ wr, Below w.heap.size w wr → Calls Tryd.prog 29 #[.int .i64 s] wr fun e w' => e = .returned (.string (f s)) ∧ Below wr.heap.size wr w') :
    Calls Tryd.prog 16 #[.agg #[.slice pa x.path.length pc, .int .i64 x.kind, .int .u64 (x.n : Nat)]] w fun e w' => e = .returned (.string (sayB f x)) ∧ Hid (Below w.heap.size w w') := by
  obtain ⟨p, k, n⟩ := x
  simp only at hI hc hp hf hIt ⊢
  have hal : Below w.heap.size w (w.alloc (.cells #[.slice pa p.length pc, .int .i64 k, .int .u64 (n : Nat)] 41)) := (Below.refl _ _).alloc (Nat.le_refl _) _
  have hI0 : Hid (∀ wr, Below w.heap.size w wr → Ints wr pa p) := fun wr h => hI.kept h
  have hIt0 : Hid (∀ s ∈ p, ∀ wr, Below w.heap.size w wr → Calls Tryd.prog 29 #[.int .i64 s] wr fun e w' => e = .returned (.string (f s)) ∧ Below wr.heap.size wr w') := hIt
  have hB0 : Hid (Below w.heap.size w (w.alloc (.cells #[.slice pa p.length pc, .int .i64 k, .int .u64 (n : Nat)] 41))) := hal
  have hX0 : Hid (Blc (w.alloc (.cells #[.slice pa p.length pc, .int .i64 k, .int .u64 (n : Nat)] 41)) w.heap.size #[.slice pa p.length pc, .int .i64 k, .int .u64 (n : Nat)] 41) := heap_alloc_new _ _
  obtain ⟨W0, hW0⟩ : ∃ W0, Hid (W0 = w.alloc (.cells #[.slice pa p.length pc, .int .i64 k, .int .u64 (n : Nat)] 41)) := ⟨_, rfl⟩
  rw [← hW0.out] at hB0 hX0
  clear hI hIt hal
  go_enter Tryd.func16, Tryd.ntmps16
  go_wp2_with fail
  go_loopw [3, 9] (fun vv i wr => ∃ I : Nat, i = .int .i64 I ∧ I ≤ p.length ∧ Hid (OwnsZ wr W0.heap.size vv ((p.take I).map f)) ∧ Hid (Below W0.heap.size W0 wr)) (fun _ i _ => p.length - (intOf i).toNat)
  case atStart => exact ⟨0, rfl, Nat.zero_le _, ownsZ_nil _ _, by show Below _ _ _; rw [hW0.out]; exact Below.refl _ _⟩
  case round =>
    obtain ⟨I, rfl, hI, hO, hB⟩ := hrel
    have hBw : Hid (Below w.heap.size w wr) := hB0.out.trans (hB.out.mono hB0.out.size)
    by_cases hlt : I < p.length
    · have hIr : Hid (Ints wr pa p) := hI0.out wr hBw.out
      obtain ⟨b, off, rfl⟩ := ints_some hIr.out (by omega)
      have hcell := hIr.out.cell hlt
      have hg : Hid (p.take (I + 1) = p.take I ++ [p.getD I 0] ∧ p.getD I 0 ∈ p) := by
        show _ ∧ _
        rw [List.take_succ_eq_append_getElem hlt, List.getD_eq_getElem?_getD, List.getElem?_eq_getElem hlt]
        exact ⟨rfl, List.getElem_mem hlt⟩
      generalize p.getD I 0 = x at *
      have k1 := hIt0.out x hg.out.2 wr hBw.out
      clear hIr
      go_wp2_with (first
        | (go_at_call 29; refine k1.mono ?_; rintro e w2 ⟨rfl, hb2⟩; clear k1 hcell; have hO2 : Hid (OwnsZ w2 W0.heap.size u3 ((p.take I).map f)) := hO.out.below hb2; have hB2 : Hid (Below W0.heap.size W0 w2) := hB.out.trans (hb2.mono hB.out.size))
        | (at_builtin; refine wpList_append_strs rfl _ _ rfl W0.heap.size _ _ [f x] rfl (hO2.out.alloc _) (some ⟨w2.heap.size, 0, none⟩) 1 1 rfl rfl (by simp) (one_str w2 _) (by simp; omega) (by have := hB2.out.size; simp; omega) ?_; intro v4 w4 hO4 hg4; have hB4 : Hid (Below W0.heap.size W0 w4) := grownZ_below (hB2.out.alloc hB2.out.size _) (hO2.out.alloc _) hg4 (by have := hB2.out.size; simp; omega)))
      clear hg4 hO2 hB2 hO hB hBw hX0 hB0
      have hO4' : Hid (OwnsZ w4 W0.heap.size v4 ((p.take (I + 1)).map f)) := by show OwnsZ _ _ _ _; rw [hg.out.1, List.map_append]; exact hO4
      go_wp2
      go_roundw
      case rel => exact ⟨I + 1, by go_num, by omega, hO4', hB4⟩
      case measure => simp [intOf]; omega
    · have e : I = p.length := by omega
      subst e
      have hO' : Hid (OwnsZ wr W0.heap.size u3 (p.map f)) := by have := hO.out; rw [List.take_length] at this; exact this
      have hX : Hid (Blc wr w.heap.size #[.slice pa p.length pc, .int .i64 k, .int .u64 (n : Nat)] 41) := (hB.out.block _ (Array.getElem?_eq_some_iff.1 hX0.out).1).trans hX0.out
      have d1 := hX.out.cell 1
      obtain ⟨a3, n3, c3, rfl, hl3, hn3, hc3, hm3, hS3⟩ := hO'.out.form
      have hl3' : n3 ≤ 2000 := by have := hl3.out; rw [List.length_map] at this; omega
      have kN := name_any k wr
      have kJ := join_any a3 n3 c3 (p.map f) ⟨#[47]⟩ wr hl3.out hS3.out hc3 (Nat.le_trans (join_len _ 30 _ (fun x hx => by
        obtain ⟨y, hy, rfl⟩ := List.mem_map.1 hx
        obtain ⟨z, hz, rfl⟩ := List.mem_map.1 hy
        have := hf z hz
        rw [Array.length_toList]; exact this)) (by simp; omega)) (by omega)
      have hNs : Hid ((nameB k).size ≤ 6) := nameB_size k
      have hJs : Hid ((⟨(Lib.join ((p.map f).map (·.data.toList)) [47]).toArray⟩ : ByteArray).size ≤ 100000) := by
        show (Lib.join ((p.map f).map (·.data.toList)) [47]).length ≤ 100000
        exact Nat.le_trans (join_len [47] 30 _ (fun x hx => by
          obtain ⟨y, hy, rfl⟩ := List.mem_map.1 hx
          obtain ⟨z, hz, rfl⟩ := List.mem_map.1 hy
          have := hf z hz
          rw [Array.length_toList]; exact this)) (by simp; omega)
      have hS : Hid (sayB f ⟨p, k, n⟩ = nameB k ++ ⟨#[32, 47]⟩ ++ ⟨(Lib.join ((p.map f).map (·.data.toList)) [47]).toArray⟩) := rfl
      have kJ' : Calls Tryd.prog 31 #[.slice a3 n3 c3, .string ⟨#[47]⟩] wr fun e w' => e = .returned (.string ⟨(Lib.join ((p.map f).map (·.data.toList)) [47]).toArray⟩) ∧ Hid (Below wr.heap.size wr w') := kJ
      clear hO hO' hS3 hX0 hB0 hI0 hIt0 hB kJ
      generalize (⟨(Lib.join ((p.map f).map (·.data.toList)) [47]).toArray⟩ : ByteArray) = J at *
      generalize nameB k = nm at *
      have hz1 : nm.size + 2 ≤ 9223372036854775807 := by have := hNs.out; omega
      have hz2 : nm.size + 2 + J.size ≤ 9223372036854775807 := by have := hNs.out; have := hJs.out; omega
      have hz3 : (nm ++ ⟨#[32, 47]⟩).size + J.size ≤ 9223372036854775807 := by rw [ByteArray.size_append]; exact hz2
      have hz4 : nm.size + (⟨#[32, 47]⟩ : ByteArray).size ≤ 9223372036854775807 := hz1
      go_wp2_with fail
      refine kN.mono ?_
      rintro e w2 ⟨rfl, hw2⟩
      obtain rfl := hw2.symm
      go_wp2_with fail
      refine kJ'.mono ?_
      rintro e w3 ⟨rfl, hb3⟩
      clear kN kJ' d1 hX
      go_wp2
      go_ret
      rw [hS.out]
      exact ⟨rfl, hBw.out.trans (hb3.out.mono hBw.out.size)⟩

/-- A small number's text. -/
def digB (s : Int) : ByteArray := ⟨(Lib.decDigits s.toNat).toArray⟩
theorem itoa_small (s : Int) (h0 : 0 ≤ s) (h1 : s < 100) (wr : World) : Calls Tryd.prog 29 #[.int .i64 s] wr fun e w' => e = .returned (.string (digB s)) ∧ Below wr.heap.size wr w' := by
  obtain ⟨m, rfl⟩ : ∃ m : Nat, s = (m : Int) := ⟨s.toNat, by omega⟩
  refine (Any.strconv_Itoa_small lays171 m (by omega) wr).mono ?_
  rintro e w' ⟨rfl, rfl⟩
  exact ⟨by simp [digB], Below.refl _ _⟩
theorem say_tag : sayB digB ⟨[1, 0], 4, 5⟩ = ⟨#[116, 97, 103, 32, 47, 49, 47, 48]⟩ := by decide +kernel
end Go.Proofs.YtgfnohgpmmaocaaDoor
