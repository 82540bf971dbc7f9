/-
  Decimal numbers: their form, how they stand, what trimming does: plain mathematics.
  Decimal numbers as the document's calls answer them, said over bytes and whole numbers alone.
  A text gone through by a row of states, as plain mathematics.
  The states of a text, one call each.
  The library's calls, as this program bears them.
  The library's calls, as this program bears them: told of in Lib.
  Nodes of which all is zero; stores into blocks.
  A tree in new memory: tree.clone.
  The fault of one node, as plain data: gt tells which bytes are a text, ri which digits are a number, rd which numbers may a Dec have.
-/
import Derived.Test.YtnjbppfanmmifaaGreatDoorP0
import Derived.Test.YtnjbppfanmmifaaGreatDoorP3
import Derived.Test.YtnjbppfanmmifaaGreatDoorP2
import Derived.Lib.TrimByte
import Derived.Lib.AppendIntMem
namespace Go.Proofs.YtnjbppfanmmifaaGreatDoor
def zerosL (k : Nat) : List Int := List.replicate k 48
theorem zeros_digs (k : Nat) : Digs (zerosL k) := fun c hc => by rw [(List.mem_replicate.1 hc).2]; decide
def key (s : List Int) (e : Int) : Nat := valS s * 10 ^ (e + 2000).toNat
def FormD (neg : Bool) (s : List Int) (e : Int) : Prop := RightS s ∧ (s = [48] → neg = false ∧ e = 0) ∧ (s ≠ [48] → s.getD (s.length - 1) 0 ≠ 48 ∧ -2000 ≤ e ∧ e ≤ 2000)
theorem form_exp {neg : Bool} {s : List Int} {e : Int} (h : FormD neg s e) : -2000 ≤ e ∧ e ≤ 2000 := by
 by_cases h1 : s = [48]
 ·have := (h.2.1 h1).2
  omega
 ·exact (h.2.2 h1).2
end Go.Proofs.YtnjbppfanmmifaaGreatDoor
namespace Go.Proofs.YtnjbppfanmmifaaGreatDoor
open Go
abbrev Nm := Bool × ByteArray × Int
def zS : ByteArray := ⟨#[48]⟩
def noN : Nm := (false, noS, 0)
def zeroN : Nm := (false, zS, 0)
theorem z_iff (s : ByteArray) : bs s = [48] ↔ s = zS := ⟨fun h => bs_inj h, fun h => by rw [h]; rfl⟩
def rtN (n : Bool) (s : ByteArray) (e : Int) : Bool :=
 if bs s = [48] then !n && (e == 0) else rt s && ((bs s).getD (s.size - 1) 0 != 48 && (decide (-2000 ≤ e) && decide (e ≤ 2000)))
theorem rtN_iff (n : Bool) (s : ByteArray) (e : Int) : rtN n s e = true ↔ FormD n (bs s) e := by
 unfold rtN FormD
 by_cases h : bs s = [48]
 ·rw [if_pos h, h]
  simp only [Bool.and_eq_true, Bool.not_eq_true', beq_iff_eq, true_implies, ne_eq, not_true_eq_false, false_implies, and_true]
  constructor
  ·intro h1
   exact ⟨⟨⟨by simp, fun c hc => by simp at hc; omega, fun _ => rfl⟩, by decide⟩, h1⟩
  ·intro h1
   exact h1.2
 ·rw [if_neg h]
  simp only [Bool.and_eq_true, bne_iff_ne, ne_eq, decide_eq_true_eq, rt_iff, h, false_implies, true_and, not_false_eq_true, true_implies, bs_len]
theorem rtN_zero : rtN false zS 0 = true := by decide
theorem rtN_rt {n : Bool} {s : ByteArray} {e : Int} (h : rtN n s e = true) : rt s = true := (rt_iff s).2 ((rtN_iff n s e).1 h).1
theorem rtN_exp {n : Bool} {s : ByteArray} {e : Int} (h : rtN n s e = true) : -2000 ≤ e ∧ e ≤ 2000 := form_exp ((rtN_iff n s e).1 h)
def longL (l : List Int) : List Int := l.dropWhile (· == 48)
def shortL (l : List Int) : List Int := (l.reverse.dropWhile (· == 48)).reverse
def numsU (l : List UInt8) : List Int := l.map fun c => ((c.toNat : Nat) : Int)
theorem bs_mk (l : List UInt8) : bs ⟨l.toArray⟩ = numsU l := rfl
theorem drop_nums : ∀ l : List UInt8, numsU (l.dropWhile (· == 48)) = (numsU l).dropWhile (· == 48)
 | [] => rfl
 | c :: l => by
  have ih := drop_nums l
  have e : ((((c.toNat : Nat) : Int) == 48) : Bool) = (c == 48) := by
   rw [Bool.eq_iff_iff, beq_iff_eq, beq_iff_eq]
   constructor
   ·intro h
    exact UInt8.toNat_inj.1 (by show c.toNat = 48; omega)
   ·intro h
    rw [h]; rfl
  have e2 : numsU (c :: l) = ((c.toNat : Nat) : Int) :: numsU l := rfl
  rw [e2, List.dropWhile_cons, List.dropWhile_cons, e]
  cases h : (c == 48) with
  | true => exact ih
  | false => rfl
theorem nums_rev (l : List UInt8) : numsU l.reverse = (numsU l).reverse := by unfold numsU; rw [List.map_reverse]
theorem bs_trimL (s : ByteArray) : bs ⟨(Lib.trimLeftB s.data.toList 48).toArray⟩ = longL (bs s) := by
 rw [bs_mk]; exact drop_nums _
theorem bs_trimR (s : ByteArray) : bs ⟨(Lib.trimRightB s.data.toList 48).toArray⟩ = shortL (bs s) := by
 rw [bs_mk]
 unfold Lib.trimRightB shortL
 rw [nums_rev, drop_nums, nums_rev]
 rfl
theorem long_cut (l : List Int) : ∃ j, l = zerosL j ++ longL l := by
 induction l with
 | nil => exact ⟨0, rfl⟩
 | cons c l ih =>
  by_cases hc : c = 48
  ·obtain ⟨j, hj⟩ := ih
   have e : longL (c :: l) = longL l := by unfold longL; rw [List.dropWhile_cons]; simp [hc]
   exact ⟨j + 1, by rw [e, hc]; show 48 :: l = 48 :: (zerosL j ++ longL l); rw [← hj]⟩
  ·have e : longL (c :: l) = c :: l := by unfold longL; rw [List.dropWhile_cons]; simp [hc]
   exact ⟨0, by rw [e]; rfl⟩
theorem long_head {l : List Int} (h : longL l ≠ []) : (longL l).getD 0 0 ≠ 48 := by
 unfold longL at h ⊢
 have h1 := List.head_dropWhile_not (· == 48) (l := l) h
 rw [List.getD_eq_getElem?_getD, ← List.head?_eq_getElem?, List.head?_eq_some_head h]
 simpa using h1
theorem short_cut (l : List Int) : ∃ k, l = shortL l ++ zerosL k := by
 obtain ⟨k, hk⟩ := long_cut l.reverse
 refine ⟨k, ?_⟩
 have h := congrArg List.reverse hk
 rw [List.reverse_reverse, List.reverse_append] at h
 have e1 : (longL l.reverse).reverse = shortL l := rfl
 have e2 : (zerosL k).reverse = zerosL k := by unfold zerosL; rw [List.reverse_replicate]
 rw [e1, e2] at h
 exact h
theorem short_last {l : List Int} (h : shortL l ≠ []) : (shortL l).getD ((shortL l).length - 1) 0 ≠ 48 := by
 have h0 : longL l.reverse ≠ [] := fun h1 => h (by unfold shortL; unfold longL at h1; rw [h1]; rfl)
 have h1 := long_head h0
 have hp := List.length_pos_iff.2 h0
 have e : shortL l = (longL l.reverse).reverse := rfl
 rw [e, List.length_reverse, List.getD_eq_getElem?_getD, List.getElem?_reverse (by omega), show (longL l.reverse).length - 1 - ((longL l.reverse).length - 1) = 0 by omega, ← List.getD_eq_getElem?_getD]
 exact h1
theorem short_len (l : List Int) : (shortL l).length ≤ l.length := by
 obtain ⟨k, hk⟩ := short_cut l
 have := congrArg List.length hk
 rw [List.length_append] at this
 omega
theorem long_len (l : List Int) : (longL l).length ≤ l.length := by
 obtain ⟨k, hk⟩ := long_cut l
 have := congrArg List.length hk
 rw [List.length_append] at this
 omega
theorem short_nil {l : List Int} (h0 : longL l ≠ []) : shortL (longL l) ≠ [] := by
 intro h
 obtain ⟨k, hk⟩ := short_cut (longL l)
 rw [h, List.nil_append] at hk
 have h1 := long_head h0
 rw [hk] at h1
 unfold zerosL at h1
 cases k with
 | zero => exact h0 hk
 | succ k => exact h1 rfl
theorem short_head {l : List Int} (h0 : longL l ≠ []) : (shortL (longL l)).getD 0 0 ≠ 48 := by
 have h1 := long_head h0
 have h2 := short_nil h0
 obtain ⟨k, hk⟩ := short_cut (longL l)
 rw [hk] at h1
 rcases hx : shortL (longL l) with _ | ⟨x, t⟩
 ·exact absurd hx h2
 ·rw [hx] at h1
  exact h1
theorem mem_short {l : List Int} {c : Int} (h : c ∈ shortL (longL l)) : c ∈ l := by
 unfold shortL at h
 have h1 := List.mem_reverse.1 h
 have h2 := (List.dropWhile_sublist (· == 48)).mem h1
 have h3 := List.mem_reverse.1 h2
 exact (List.dropWhile_sublist (· == 48)).mem h3
def allD (l : List Int) : Bool := l.all fun c => decide (48 ≤ c) && decide (c ≤ 57)
theorem allD_iff (l : List Int) : allD l = true ↔ Digs l := by unfold allD Digs; simp
def makeA (n : Bool) (s : ByteArray) (e : Int) : Nm × Int :=
 if s.size = 0 ∨ 4096 < s.size ∨ allD (bs s) = false then (noN, 1)
 else if longL (bs s) = [] then (zeroN, 0)
 else if 800 < (shortL (longL (bs s))).length ∨ e < -2000 - (((longL (bs s)).length - (shortL (longL (bs s))).length : Nat) : Int) ∨ 2000 - (((longL (bs s)).length - (shortL (longL (bs s))).length : Nat) : Int) < e then (noN, 11)
 else ((n, strOfNums (shortL (longL (bs s))), e + (((longL (bs s)).length - (shortL (longL (bs s))).length : Nat) : Int)), 0)
theorem make_right {n : Bool} {s : ByteArray} {e : Int} {m : Nm} (h : makeA n s e = (m, 0)) : rtN m.1 m.2.1 m.2.2 = true := by
 unfold makeA at h
 by_cases h1 : s.size = 0 ∨ 4096 < s.size ∨ allD (bs s) = false
 ·rw [if_pos h1] at h; cases h
 rw [if_neg h1] at h
 by_cases h2 : longL (bs s) = []
 ·rw [if_pos h2] at h; cases h; exact rtN_zero
 rw [if_neg h2] at h
 have hd : Digs (bs s) := by
  rw [← allD_iff]
  cases h3 : allD (bs s) with
  | true => rfl
  | false => exact absurd (.inr (.inr h3)) h1
 have hs : Digs (shortL (longL (bs s))) := fun c hc => hd c (mem_short hc)
 have hh := short_head h2
 have hn := short_nil h2
 have hl := short_last hn
 generalize ((longL (bs s)).length - (shortL (longL (bs s))).length : Nat) = k at *
 split at h
 ·cases h
 ·rename_i h3
  cases h
  rw [rtN_iff]
  show FormD n (bs (strOfNums (shortL (longL (bs s))))) (e + (k : Int))
  rw [bs_str (digs_bytes hs)]
  generalize shortL (longL (bs s)) = t at *
  have hz : t ≠ [48] := fun h4 => by rw [h4] at hh; exact hh rfl
  refine ⟨⟨⟨hn, hs, fun h4 => absurd h4 hh⟩, by omega⟩, fun h4 => absurd h4 hz, fun _ => ⟨hl, by omega, by omega⟩⟩
end Go.Proofs.YtnjbppfanmmifaaGreatDoor
namespace Go.Proofs.YtnjbppfanmmifaaGreatDoor
open Go
def isD (c : Int) : Bool := decide (48 ≤ c) && decide (c ≤ 57)
abbrev Pd := Bool × List Int × Nat × Bool × Nat
def p0 : Pd := (false, [], 0, false, 0)
theorem isD_iff {c : Int} : isD c = true ↔ 48 ≤ c ∧ c ≤ 57 := by unfold isD; simp
end Go.Proofs.YtnjbppfanmmifaaGreatDoor
namespace Go.Proofs.YtnjbppfanmmifaaGreatDoor
open Go.RowKit
theorem isdigit_any (c : Int) (w : World) : Calls Tryz.prog 241 #[.int .u8 c] w fun e w' => e = .returned (.bool (isD c)) ∧ w' = w := by
 have hr : isD c = (decide (48 ≤ c) && decide (c ≤ 57)) := rfl
 rw [hr]
 clear hr
 by_cases h1 : 48 ≤ c
 ·go_enter Tryz.func241, Tryz.ntmps241
  go_wp2
  go_ret
  exact ⟨by simp [h1], rfl⟩
 ·go_enter Tryz.func241, Tryz.ntmps241
  go_wp2
  go_ret
  exact ⟨by simp; omega, rfl⟩
end Go.Proofs.YtnjbppfanmmifaaGreatDoor
namespace Go.Proofs.YtnjbppfanmmifaaGreatDoor
open Go.RowKit Go.Shelf Go.Lib
theorem triml_any (s : ByteArray) (w : World) : Calls Tryz.prog 234 #[.string s, .string zS] w fun e w' => (∃ t, e = .returned (.string t) ∧ bs t = longL (bs s)) ∧ w' = w :=
 (Any.strings_TrimLeft_one lays161 s 48 (by decide) w).mono fun e w' ⟨h1, h2⟩ => ⟨⟨_, h1, bs_trimL s⟩, h2⟩
theorem trimr_any (s : ByteArray) (w : World) (hs : s.size ≤ 9223372036854775807) : Calls Tryz.prog 235 #[.string s, .string zS] w fun e w' => (∃ t, e = .returned (.string t) ∧ bs t = shortL (bs s)) ∧ w' = w :=
 (Any.strings_TrimRight_one lays162 s 48 (by decide) w hs).mono fun e w' ⟨h1, h2⟩ => ⟨⟨_, h1, bs_trimR s⟩, h2⟩
theorem sclone_any (s : ByteArray) (w : World) (hs : s.size ≤ 281474976710656) : Calls Tryz.prog 238 #[.string s] w fun e w' => e = .returned (.string s) ∧ Below w.heap.size w w' :=
 Any.stringslite_Clone laysM316 s w hs
theorem clone_any (s : ByteArray) (w : World) (hs : s.size ≤ 281474976710656) : Calls Tryz.prog 236 #[.string s] w fun e w' => e = .returned (.string s) ∧ Below w.heap.size w w' := by
 have k := sclone_any s w hs
 clear hs
 go_enter Tryz.func236, Tryz.ntmps236
 go_wp2_with (go_at_call 238; refine k.mono ?_; rintro e w1 ⟨rfl, hb⟩)
 go_ret
 exact ⟨rfl, hb⟩
theorem suf_last {s : ByteArray} (h0 : 0 < s.size) : Lib.hasSuffix s.data.toList [48] = ((bs s).getD (s.size - 1) 0 == 48) := by
 obtain ⟨t, c, ht⟩ : ∃ t c, s.data.toList = t ++ [c] := by
  have hn : s.data.toList ≠ [] := fun h => by
   have := congrArg List.length h
   rw [Array.length_toList] at this
   have h2 : s.size = 0 := this
   omega
  exact ⟨s.data.toList.dropLast, s.data.toList.getLast hn, (List.dropLast_concat_getLast hn).symm⟩
 have hsz : s.size = t.length + 1 := by
  have := congrArg List.length ht
  rw [Array.length_toList, List.length_append] at this
  exact this
 have e1 : bs s = numsU t ++ [((c.toNat : Nat) : Int)] := by
  have : bs s = numsU s.data.toList := rfl
  rw [this, ht]
  unfold numsU
  rw [List.map_append]
  rfl
 have e2 : (bs s).getD (s.size - 1) 0 = ((c.toNat : Nat) : Int) := by
  rw [e1, hsz, List.getD_eq_getElem?_getD, List.getElem?_append_right (by simp [numsU])]
  simp [numsU]
 rw [e2, ht]
 unfold Lib.hasSuffix
 rw [Bool.eq_iff_iff, List.isSuffixOf_iff_suffix, beq_iff_eq]
 constructor
 ·rintro ⟨u, hu⟩
  have h2 := (List.append_inj' hu rfl).2
  simp at h2
  rw [← h2]
  rfl
 ·intro h
  have : c = 48 := UInt8.toNat_inj.1 (by show c.toNat = 48; omega)
  rw [this]
  exact ⟨t, rfl⟩
theorem hassuf_any (s : ByteArray) (w : World) (h0 : 0 < s.size) (hs : s.size ≤ 9223372036854775807) : Calls Tryz.prog 177 #[.string s, .string zS] w fun e w' => e = .returned (.bool ((bs s).getD (s.size - 1) 0 == 48)) ∧ w' = w := by
 have h := Any.strings_HasSuffix lays100 s zS w hs
 rw [← suf_last h0]
 exact h
end Go.Proofs.YtnjbppfanmmifaaGreatDoor
namespace Go.Proofs.YtnjbppfanmmifaaGreatDoor
end Go.Proofs.YtnjbppfanmmifaaGreatDoor
namespace Go.Proofs.YtnjbppfanmmifaaGreatDoor
open Go.RowKit
set_option linter.unusedVariables false
def zN : Nb := ⟨0, 0, false, ⟨#[]⟩, 0, ⟨#[]⟩, none, 0, 0, none, 0, 0, none, 0, 0⟩
def zT : Tr := ⟨0, 0, false, ⟨#[]⟩, 0, ⟨#[]⟩, [], [], []⟩
theorem setk {w : World} {g j k : Nat} (h : k ≠ g) (v : Value) : (w.setCell ⟨g, j, none⟩ v).heap[k]? = w.heap[k]? := Below.heap_setCell w ⟨g, j, none⟩ v k h
theorem set_size (w : World) (g j : Nat) (v : Value) : (w.setCell ⟨g, j, none⟩ v).heap.size = w.heap.size := by simp [World.setCell]
end Go.Proofs.YtnjbppfanmmifaaGreatDoor
namespace Go.Proofs.YtnjbppfanmmifaaGreatDoor
open Go.RowKit
set_option linter.unusedVariables false
end Go.Proofs.YtnjbppfanmmifaaGreatDoor
namespace Go.Proofs.YtnjbppfanmmifaaGreatDoor
set_option linter.unusedVariables false
theorem none_size {s : ByteArray} (h : s.size = 0) : s = ⟨#[]⟩ := by
  cases s with
  | mk d =>
    have : d = #[] := Array.eq_empty_of_size_eq_zero h
    rw [this]
namespace Tr
def bare (t : Tr) : Tr :=
  { kind := t.kind
    num := if t.kind = 1 ∨ t.kind = 4 ∨ t.kind = 9 ∨ t.kind = 10 then t.num else 0
    neg := if t.kind = 2 ∨ t.kind = 3 then t.neg else false
    dig := if t.kind = 2 ∨ t.kind = 3 then t.dig else ⟨#[]⟩
    exp := if t.kind = 3 then t.exp else 0
    txt := if t.kind = 5 then t.txt else ⟨#[]⟩
    bytes := if t.kind = 6 then t.bytes else []
    keys := if t.kind = 8 then t.keys else []
    kids := if t.kind = 7 ∨ t.kind = 8 ∨ t.kind = 9 then t.kids else [] }
def clean (t : Tr) : Bool :=
  (decide (t.kind = 1 ∨ t.kind = 4 ∨ t.kind = 9 ∨ t.kind = 10) || decide (t.num = 0)) &&
  (decide (t.kind = 2 ∨ t.kind = 3) || (!t.neg && decide (t.dig.size = 0))) &&
  (decide (t.kind = 3) || decide (t.exp = 0)) &&
  (decide (t.kind = 5) || decide (t.txt.size = 0)) &&
  (decide (t.kind = 6) || decide (t.bytes.length = 0)) &&
  (decide (t.kind = 8) || decide (t.keys.length = 0)) &&
  (decide (t.kind = 7 ∨ t.kind = 8 ∨ t.kind = 9) || decide (t.kids.length = 0))
theorem mk_eq {t u : Tr} (h0 : t.kind = u.kind) (h1 : t.num = u.num) (h2 : t.neg = u.neg) (h3 : t.dig = u.dig) (h4 : t.exp = u.exp) (h5 : t.txt = u.txt) (h6 : t.bytes = u.bytes) (h7 : t.keys = u.keys) (h8 : t.kids = u.kids) : t = u := by
  cases t; cases u
  simp only at *
  subst h0 h1 h2 h3 h4 h5 h6 h7 h8
  rfl
theorem ite_self' {α : Type} {p : Prop} [Decidable p] {a z : α} : (if p then a else z) = a ↔ (p ∨ a = z) := by
  by_cases h : p
  · simp [h]
  · simp only [h, false_or]
    exact ⟨fun e => e.symm, fun e => e.symm⟩
theorem clean_iff (t : Tr) : t.clean = true ↔ t.bare = t := by
  have e3 : t.dig.size = 0 ↔ t.dig = ⟨#[]⟩ := ⟨none_size, fun h => by rw [h]; rfl⟩
  have e5 : t.txt.size = 0 ↔ t.txt = ⟨#[]⟩ := ⟨none_size, fun h => by rw [h]; rfl⟩
  unfold clean
  simp only [Bool.and_eq_true, Bool.or_eq_true, decide_eq_true_eq, Bool.not_eq_true', List.length_eq_zero_iff, e3, e5]
  constructor
  · rintro ⟨⟨⟨⟨⟨⟨a, b⟩, c⟩, d⟩, e⟩, f⟩, g⟩
    refine mk_eq rfl (ite_self'.2 a) (ite_self'.2 ?_) (ite_self'.2 ?_) (ite_self'.2 c) (ite_self'.2 d) (ite_self'.2 e) (ite_self'.2 f) (ite_self'.2 g)
    · rcases b with b | b
      · exact .inl b
      · exact .inr b.1
    · rcases b with b | b
      · exact .inl b
      · exact .inr b.2
  · intro h
    have p1 := ite_self'.1 (congrArg num h)
    have p2 := ite_self'.1 (congrArg neg h)
    have p3 := ite_self'.1 (congrArg dig h)
    have p4 := ite_self'.1 (congrArg exp h)
    have p5 := ite_self'.1 (congrArg txt h)
    have p6 := ite_self'.1 (congrArg bytes h)
    have p7 := ite_self'.1 (congrArg keys h)
    have p8 := ite_self'.1 (congrArg kids h)
    refine ⟨⟨⟨⟨⟨⟨p1, ?_⟩, p4⟩, p5⟩, p6⟩, p7⟩, p8⟩
    rcases p2 with p2 | p2
    · exact .inl p2
    · rcases p3 with p3 | p3
      · exact .inl p3
      · exact .inr ⟨p2, p3⟩
def smp (n : Int) : Bool := decide (n < 20) || decide (n = 23) || (decide (32 ≤ n) && decide (n < 256))
def odd (t : Tr) : Bool :=
  decide (t.kind < 0) || decide (10 < t.kind) || !t.clean || (decide (t.kind = 1) && decide (1 < t.num)) || (decide (t.kind = 8) && decide (t.keys.length ≠ t.kids.length)) || (decide (t.kind = 9) && decide (t.kids.length ≠ 1)) || (decide (t.kind = 10) && !smp t.num)
def alo (gt ri : ByteArray → Bool) (rd : Bool → ByteArray → Int → Bool) (t : Tr) : Int :=
  if (t.kind = 5 ∧ 4096 < t.txt.size) ∨ (t.kind = 6 ∧ 4096 < t.bytes.length) then 8
  else if t.kind = 5 ∧ gt t.txt = false then 6
  else if t.kind = 2 ∧ (ri t.dig = false ∨ (t.neg = true ∧ t.dig = ⟨#[48]⟩)) then 11
  else if t.kind = 3 ∧ rd t.neg t.dig t.exp = false then 11
  else if t.odd = true then 12 else 0
theorem alo_odd {gt ri : ByteArray → Bool} {rd : Bool → ByteArray → Int → Bool} {t : Tr} (h : t.alo gt ri rd = 0) : t.odd = false := by
  unfold alo at h
  split at h
  · cases h
  · split at h
    · cases h
    · split at h
      · cases h
      · split at h
        · cases h
        · split at h
          · cases h
          · rename_i h5; simpa using h5
theorem alo_shaped (gt ri : ByteArray → Bool) (rd : Bool → ByteArray → Int → Bool) : Shaped (alo gt ri rd) := by
  intro t h
  have ho := alo_odd h
  unfold odd at ho
  simp only [Bool.or_eq_false_iff, Bool.and_eq_false_imp, decide_eq_true_eq, decide_eq_false_iff_not, Bool.not_eq_false', Classical.not_not] at ho
  obtain ⟨⟨⟨⟨⟨⟨_, _⟩, hc⟩, _⟩, hm⟩, _⟩, _⟩ := ho
  refine ⟨fun h8 => by simpa using hm h8, fun h8 => ?_⟩
  have := congrArg keys ((clean_iff t).1 hc)
  simp only [bare, if_neg h8] at this
  exact this.symm
end Tr
end Go.Proofs.YtnjbppfanmmifaaGreatDoor
