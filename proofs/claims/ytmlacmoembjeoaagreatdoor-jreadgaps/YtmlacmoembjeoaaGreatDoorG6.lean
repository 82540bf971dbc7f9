/-
  strings.Builder: a byte, a string that is written to it; the string that it is.
  Tokens of JSON texts as plain data: how a string's characters are read, where a number and a word end, the tokens one behind the other; that a fault hangs on the bytes up to it alone. No program is named here.
-/
import Derived.Test.YtmlacmoembjeoaaGreatDoorG5
import Derived.Test.YtmlacmoembjeoaaGreatDoorG4
import Derived.Lib.AppendStr
namespace Go.Proofs.YtmlacmoembjeoaaGreatDoor
open Go.RowKit
set_option linter.unusedVariables false

/-! ### String -/
theorem cells_byte : Tryz.prog.cellsOf 5 = 1 := by kernel_rfl
def u8s (zs : List Int) : List UInt8 := zs.map fun c => c.toNat.toUInt8
theorem u8s_str {zs : List Int} : (⟨(u8s zs).toArray⟩ : ByteArray) = strOfNums zs := by
  unfold strOfNums u8s
  rfl
theorem str_none (W : World) (q : Option Addr) : (Builtin.unsafeString_ #[139, 3] 9 #[.pointer q, .int .i64 0]).run Tryz.prog W = .ok (.string ⟨#[]⟩) W := Any.unsafeString_none lays169 Extra_169 W q
set_option maxHeartbeats 2000000 in
set_option maxRecDepth 100000 in
/-- (*strings.Builder).String. -/
theorem bstr_any {w : World} {g o B : Nat} {cs : Array Value} {T : TypeId} {p : Option Addr} {v : Value} {zs : List Int} (h : Bdr w g o B cs T p v zs) :
    Calls Tryz.prog 92 #[.pointer (some ⟨g, o, none⟩)] w fun e w' => e = .returned (.string (strOfNums zs)) ∧ Below B w w' := by
  have c1 : w.drew.cell? ⟨g, o + 1, none⟩ = some v := by
    have := h.blk.cell (o + 1)
    rw [h.buf] at this
    exact this
  rcases h.row.1.2 with ⟨hv, hz⟩ | ⟨g2, cap, cur, hv, hbg, hg, hnc, hcm, hcs, htk⟩
  · subst hv
    have hzs : zs = [] := List.eq_nil_of_length_eq_zero hz
    subst hzs
    have hUS := str_none w.drew none
    have hSD : (Builtin.unsafeSliceData_ #[22] 139 #[.slice none 0 0]).run Tryz.prog w.drew = .ok (.pointer none) w.drew := rfl
    have hB : Hid (Below B w w.drew) := (Below.refl B w).drew
    clear h
    go_enter Tryz.func92, Tryz.ntmps92
    go_wp2
    go_region
    all_goals (go_wp2; go_ret; exact ⟨rfl, hB.out⟩)
  · subst hv
    by_cases hzs : zs = []
    · subst hzs
      have c0 : w.cell? ⟨g, o + 1, none⟩ = some (.slice (some ⟨g2, 0, none⟩) 0 cap) := c1
      by_cases hc0 : cap = 0
      · subst hc0
        have hUS := str_none
        have hSD : (Builtin.unsafeSliceData_ #[22] 139 #[.slice (some ⟨g2, 0, none⟩) 0 0]).run Tryz.prog w.drew = .ok (.pointer (some ⟨w.drew.heap.size, 0, none⟩)) (w.drew.alloc (.view ⟨g2, 0, none⟩ 5)) :=
          Lib.run_unsafeSliceData_zero w.drew _ _ 5 Tryz.underlying139 ⟨g2, 0, none⟩ 0 (5, cur.size) (by have hg' : w.drew.heap[g2]? = some (.cells cur 5 (0, 0)) := hg; simp [World.shape?, hg'])
        have hlt := h.blk.lt
        have c2 : (w.drew.alloc (.view ⟨g2, 0, none⟩ 5)).cell? ⟨g, o + 1, none⟩ = some (.slice (some ⟨g2, 0, none⟩) 0 0) := by
          rw [((Below.refl w.heap.size w.drew).alloc (Nat.le_refl _) (.view ⟨g2, 0, none⟩ 5)).cell (p := ⟨g, o + 1, none⟩) hlt]
          exact c1
        have c3 : (w.alloc (.view ⟨g2, 0, none⟩ 5)).drew.cell? ⟨g, o + 1, none⟩ = some (.slice (some ⟨g2, 0, none⟩) 0 0) := c2
        have hB : Hid (Below B w (w.drew.alloc (.view ⟨g2, 0, none⟩ 5))) := (Below.drew (Below.refl B w)).alloc h.top _
        clear h
        go_enter Tryz.func92, Tryz.ntmps92
        go_wp2
        go_region
        all_goals (go_wp2; go_ret; exact ⟨rfl, hB.out⟩)
      · have hUS := str_none
        have hSD : (Builtin.unsafeSliceData_ #[22] 139 #[.slice (some ⟨g2, 0, none⟩) 0 cap]).run Tryz.prog w.drew = .ok (.pointer (some ⟨g2, 0, none⟩)) w.drew := Lib.run_unsafeSliceData_row _ _ _ _ _ _ hc0
        have hB : Hid (Below B w w.drew) := (Below.refl B w).drew
        clear h hc0
        go_enter Tryz.func92, Tryz.ntmps92
        go_wp2
        go_region
        all_goals (go_wp2; go_ret; exact ⟨rfl, hB.out⟩)
    · have hl0 : zs.length ≠ 0 := by simpa using hzs
      have hSD : (Builtin.unsafeSliceData_ #[22] 139 #[.slice (some ⟨g2, 0, none⟩) zs.length cap]).run Tryz.prog w.drew = .ok (.pointer (some ⟨g2, 0, none⟩)) w.drew := Lib.run_unsafeSliceData_row _ _ _ _ _ _ (by omega)
      have hlen : (u8s zs).length = zs.length := by unfold u8s; simp
      have hUS : (Builtin.unsafeString_ #[139, 3] 9 #[.pointer (some ⟨g2, 0, none⟩), .int .i64 zs.length]).run Tryz.prog w.drew = .ok (.string (strOfNums zs)) (w.drew.freeze ⟨g2, 0, none⟩ zs.length) := by
        have := Lib.run_unsafeString_row (P := Tryz.prog) w.drew 139 3 9 5 Tryz.underlying139 cells_byte g2 cur.size (by have hg' : w.drew.heap[g2]? = some (.cells cur 5 (0, 0)) := hg; simp [World.shape?, hg']) (u8s zs) (fun e => hl0 (by rw [← hlen, e]; rfl)) (by omega) (by unfold maxLen at hcm; omega) (fun j x hx => ?_)
        · rwa [u8s_str, hlen] at this
        · obtain ⟨a', cap', hv', _, _, hby, _⟩ := h.row.shape
          cases hv'
          rcases hby.2.2 with e | ⟨b', off', ha', hcell⟩
          · exact absurd e hzs
          · cases ha'
            have hj : j < zs.length := by rw [← hlen]; exact (List.getElem?_eq_some_iff.1 hx).1
            have hc := hcell j hj
            have hx' : x = (zs.getD j 0).toNat.toUInt8 := by
              unfold u8s at hx
              rw [List.getElem?_map, List.getElem?_eq_getElem hj] at hx
              simp only [Option.map_some, Option.some.injEq] at hx
              rw [List.getD_eq_getElem?_getD, List.getElem?_eq_getElem hj]
              exact hx.symm
            have hb := hby.1 (zs.getD j 0) (by rw [List.getD_eq_getElem?_getD, List.getElem?_eq_getElem hj]; exact List.getElem_mem hj)
            have e : ((x.toNat : Nat) : Int) = zs.getD j 0 := by
              rw [hx']
              have : (zs.getD j 0).toNat.toUInt8.toNat = (zs.getD j 0).toNat := by
                rw [Nat.toUInt8, UInt8.toNat_ofNat', Nat.mod_eq_of_lt (by omega)]
              rw [this]; omega
            show w.cell? _ = _
            rw [e, ← hc]
            congr 1
            simp [Addr.add]
            exact fun h => h.symm
      have hB : Hid (Below B w (w.drew.freeze ⟨g2, 0, none⟩ zs.length)) := Lib.below_freeze (Below.drew (Below.refl B w)) (p := ⟨g2, 0, none⟩) hbg _
      clear h
      go_enter Tryz.func92, Tryz.ntmps92
      go_wp2
      go_region
      all_goals (go_wp2; go_ret; exact ⟨rfl, hB.out⟩)
end Go.Proofs.YtmlacmoembjeoaaGreatDoor
namespace Go.Proofs.YtmlacmoembjeoaaGreatDoor
open Go
set_option linter.unusedVariables false

/-! ### A string's characters -/

/-- What was read of a string: its state (0 a character, 1 a backslash, 2 digits, 3 a first half, 4 a backslash behind it, 5 all, 6 wrong), the number of the digits, how many they are, a first half, the bytes that it means. -/
structure RS where
  q : Nat
  num : Nat
  dig : Nat
  fst : Nat
  txt : List Int
/-- Nothing was read yet. -/
def r0 : RS := ⟨0, 0, 0, 0, []⟩
/-- A digit of base 16. -/
def hexD (r : Nat) : Option Nat := if 48 ≤ r ∧ r ≤ 57 then some (r - 48) else if 97 ≤ r ∧ r ≤ 102 then some (r - 87) else if 65 ≤ r ∧ r ≤ 70 then some (r - 55) else none
/-- What a sign behind a backslash means. -/
def shortM (r : Nat) : Option Nat := if r = 34 then some 34 else if r = 92 then some 92 else if r = 98 then some 8 else if r = 102 then some 12 else if r = 110 then some 10 else if r = 114 then some 13 else if r = 116 then some 9 else none
/-- May a number go on so? -/
def mayGo (f n k : Nat) : Bool := if f = 0 then decide (n * 16 ^ (4 - k) < 56320) || decide (57344 < (n + 1) * 16 ^ (4 - k)) else decide (56320 < (n + 1) * 16 ^ (4 - k)) && decide (n * 16 ^ (4 - k) < 57344)
def putR (s : RS) (r : Nat) : RS := ⟨0, s.num, s.dig, s.fst, s.txt ++ encL r⟩
def digR (s : RS) (d : Nat) : RS :=
  if mayGo s.fst (s.num * 16 + d) (s.dig + 1) = false then ⟨6, s.num * 16 + d, s.dig + 1, s.fst, s.txt⟩
  else if s.dig + 1 < 4 then ⟨2, s.num * 16 + d, s.dig + 1, s.fst, s.txt⟩
  else if s.fst ≠ 0 then ⟨0, 0, 0, 0, s.txt ++ encL (65536 + (s.fst - 55296) * 1024 + (s.num * 16 + d) - 56320)⟩
  else if 55296 ≤ s.num * 16 + d ∧ s.num * 16 + d < 57344 then ⟨3, 0, 0, s.num * 16 + d, s.txt⟩
  else ⟨0, 0, 0, 0, s.txt ++ encL (s.num * 16 + d)⟩
/-- One more character. -/
def takeR (s : RS) (r : Nat) : RS :=
  if s.q = 0 then (if r = 34 then ⟨5, s.num, s.dig, s.fst, s.txt⟩ else if r = 92 then ⟨1, s.num, s.dig, s.fst, s.txt⟩ else if r < 32 then ⟨6, s.num, s.dig, s.fst, s.txt⟩ else putR s r)
  else if s.q = 1 then (if r = 117 then ⟨2, s.num, s.dig, s.fst, s.txt⟩ else if r = 47 then putR s 47 else match shortM r with | some m => putR s m | none => ⟨6, s.num, s.dig, s.fst, s.txt⟩)
  else if s.q = 2 then (match hexD r with | some d => digR s d | none => ⟨6, s.num, s.dig, s.fst, s.txt⟩)
  else if s.q = 3 then ⟨if r = 92 then 4 else 6, s.num, s.dig, s.fst, s.txt⟩
  else if s.q = 4 then ⟨if r = 117 then 2 else 6, s.num, s.dig, s.fst, s.txt⟩
  else s
theorem hex_big {r : Nat} (h : 128 ≤ r) : hexD r = none := by unfold hexD; rw [if_neg (by omega), if_neg (by omega), if_neg (by omega)]
theorem short_big {r : Nat} (h : 128 ≤ r) : shortM r = none := by
  unfold shortM
  rw [if_neg (by omega), if_neg (by omega), if_neg (by omega), if_neg (by omega), if_neg (by omega), if_neg (by omega), if_neg (by omega)]
/-- In an escape no character of several bytes may stand. -/
theorem take_big {s : RS} {r : Nat} (h0 : s.q ≠ 0) (h4 : s.q ≤ 4) (h : 128 ≤ r) : (takeR s r).q = 6 := by
  unfold takeR
  rw [if_neg h0]
  by_cases h1 : s.q = 1
  · rw [if_pos h1, if_neg (by omega), if_neg (by omega), short_big h]
  rw [if_neg h1]
  by_cases h2 : s.q = 2
  · rw [if_pos h2, hex_big h]
  rw [if_neg h2]
  by_cases h3 : s.q = 3
  · rw [if_pos h3]; exact if_neg (by omega)
  rw [if_neg h3, if_pos (by omega)]
  exact if_neg (by omega)
theorem dig_le (s : RS) (d : Nat) : (digR s d).q ≤ 6 := by
  unfold digR
  repeat' split
  all_goals simp
theorem take_le {s : RS} {r : Nat} (h : s.q ≤ 6) : (takeR s r).q ≤ 6 := by
  unfold takeR
  repeat' split
  all_goals first | exact dig_le _ _ | exact h | simp [putR]

/-- The fault where no whole character stands. -/
def brkR (b : List Int) (p : Nat) (free : Bool) : Nat × Nat :=
  if badB b = 0 then (6, p) else if free = false then (5, p) else if badB b = b.length then (3, p + badB b) else (6, p + badB b)
/-- THE STRING, its characters from a place on: the bytes that it means, the place behind it; its fault. -/
def strF : Nat → List Int → Nat → RS → List Int × Nat × Nat × Nat
  | 0, _, p, _ => ([], 0, 3, p)
  | k + 1, b, p, s => if b = [] then ([], 0, 3, p) else if goodB b = false then ([], 0, brkR b p (s.q == 0)) else
    if (takeR s (valB b)).q = 5 then ((takeR s (valB b)).txt, p + 1, 0, 0) else if (takeR s (valB b)).q = 6 then ([], 0, 5, p) else strF k (b.drop (lenB b)) (p + lenB b) (takeR s (valB b))
def strL (b : List Int) (p : Nat) (s : RS) : List Int × Nat × Nat × Nat := strF b.length b p s
theorem strF_nil (k p : Nat) (s : RS) : strF k [] p s = ([], 0, 3, p) := by
  cases k with
  | zero => rfl
  | succ k => rw [strF, if_pos rfl]
theorem strF_more (k : Nat) : ∀ (b : List Int) (m p : Nat) (s : RS), b.length ≤ k → k ≤ m → strF m b p s = strF k b p s := by
  induction k with
  | zero =>
    intro b m p s h _
    obtain rfl : b = [] := List.eq_nil_of_length_eq_zero (by omega)
    rw [strF_nil, strF_nil]
  | succ k ih =>
    intro b m p s h hm
    obtain ⟨m, rfl⟩ : ∃ m', m = m' + 1 := ⟨m - 1, by omega⟩
    by_cases h0 : b = []
    · subst h0; rw [strF_nil, strF_nil]
    · by_cases hg : Good b
      · have hn := good_ne hg h0
        rw [strF, strF, if_neg h0, if_neg h0, goodB_yes hg, if_neg (show ¬ true = false by decide), if_neg (show ¬ true = false by decide), ih (b.drop (lenB b)) m _ _ (by rw [List.length_drop]; omega) (by omega)]
      · rw [strF, strF, if_neg h0, if_neg h0, goodB_no hg, if_pos rfl, if_pos rfl]
theorem str_nil (p : Nat) (s : RS) : strL [] p s = ([], 0, 3, p) := rfl
theorem str_bad {b : List Int} {p : Nat} {s : RS} (h0 : b ≠ []) (h : ¬ Good b) : strL b p s = ([], 0, brkR b p (s.q == 0)) := by
  have hp := List.length_pos_iff.2 h0
  unfold strL
  obtain ⟨k, hk⟩ : ∃ k, b.length = k + 1 := ⟨b.length - 1, by omega⟩
  rw [hk, strF, if_neg h0, goodB_no h, if_pos rfl]
theorem str_good {b : List Int} {p : Nat} {s : RS} (h0 : b ≠ []) (h : Good b) : strL b p s =
    if (takeR s (valB b)).q = 5 then ((takeR s (valB b)).txt, p + 1, 0, 0) else if (takeR s (valB b)).q = 6 then ([], 0, 5, p) else strL (b.drop (lenB b)) (p + lenB b) (takeR s (valB b)) := by
  have hn := good_ne h h0
  unfold strL
  obtain ⟨k, hk⟩ : ∃ k, b.length = k + 1 := ⟨b.length - 1, by omega⟩
  rw [hk, strF, if_neg h0, goodB_yes h, if_neg (show ¬ true = false by decide), strF_more (b.drop (lenB b)).length (b.drop (lenB b)) k _ _ (Nat.le_refl _) (by rw [List.length_drop]; omega)]
theorem str_all {b : List Int} {p : Nat} {s : RS} (h0 : b ≠ []) (h : Good b) (h5 : (takeR s (valB b)).q = 5) : strL b p s = ((takeR s (valB b)).txt, p + 1, 0, 0) := by rw [str_good h0 h, if_pos h5]
theorem str_wrong {b : List Int} {p : Nat} {s : RS} (h0 : b ≠ []) (h : Good b) (h6 : (takeR s (valB b)).q = 6) : strL b p s = ([], 0, 5, p) := by rw [str_good h0 h, if_neg (by omega), if_pos h6]
theorem str_on {b : List Int} {p : Nat} {s : RS} (h0 : b ≠ []) (h : Good b) (h5 : (takeR s (valB b)).q ≠ 5) (h6 : (takeR s (valB b)).q ≠ 6) : strL b p s = strL (b.drop (lenB b)) (p + lenB b) (takeR s (valB b)) := by rw [str_good h0 h, if_neg h5, if_neg h6]

theorem lenB_two {b : List Int} (h : Good b) (h2 : 2 ≤ lenB b) : 128 ≤ valB b := by
  have hb : lenB b = lenN (nth b 0) := rfl
  have e := val_lenR h
  unfold lenR at e
  by_cases hv : valB b < 128
  · rw [if_pos hv] at e; omega
  · omega
theorem lenB_one {b : List Int} (h : Good b) (h1 : lenB b < 2) : valB b = nth b 0 ∧ nth b 0 < 128 := by
  have hb : lenB b = lenN (nth b 0) := rfl
  have h0 : lenB b ≠ 0 := h.1
  have hc : nth b 0 < 128 := by
    rcases len_cases (nth b 0) with ⟨e, k⟩ | ⟨e, k⟩ | ⟨e, k⟩ | ⟨e, k⟩ | ⟨e, k⟩ <;> omega
  refine ⟨?_, hc⟩
  unfold valB valN
  rw [if_pos hc]
/-- Where a character of one byte only may stand, one of several is wrong, whole or not. -/
theorem str_big {b : List Int} {p : Nat} {s : RS} (h0 : b ≠ []) (q0 : s.q ≠ 0) (q4 : s.q ≤ 4) (h2 : 2 ≤ lenB b) : (strL b p s).2.2 = (5, p) := by
  by_cases hg : Good b
  · rw [str_wrong h0 hg (take_big q0 q4 (lenB_two hg h2))]
  · rw [str_bad h0 hg]
    have hq : (s.q == 0) = false := by simp [q0]
    show brkR b p (s.q == 0) = _
    unfold brkR
    rw [hq, if_neg ?_, if_pos rfl]
    rcases bad_cases hg with ⟨e, k⟩ | ⟨e, k1, k2⟩ | ⟨e, k1, k2, k3⟩ | ⟨e, k1, k2, k3, k4⟩ <;> omega
theorem take_ne {b : List Int} {k : Nat} (t : List Int) (h : 0 < k) (h0 : b ≠ []) : b.take k ++ t ≠ [] := by
  intro e
  have hp := List.length_pos_iff.2 h0
  have h9 := congrArg List.length e
  rw [List.length_append, List.length_take, List.length_nil] at h9; omega
/-- A character's first bytes, with others behind. -/
theorem good_on {b : List Int} (h0 : b ≠ []) (h : Good b) {k : Nat} (hk : lenB b ≤ k) (t : List Int) : Good (b.take k ++ t) ∧ lenB (b.take k ++ t) = lenB b ∧ valB (b.take k ++ t) = valB b ∧ (b.take k ++ t).drop (lenB b) = (b.drop (lenB b)).take (k - lenB b) ++ t := by
  have hg := good_ne h h0
  obtain ⟨g1, g2, g3⟩ := good_take h0 h
  have hne : b.take (lenB b) ≠ [] := by intro e; have h9 := congrArg List.length e; rw [List.length_take, List.length_nil] at h9; omega
  have hl : (b.take (lenB b)).length = lenB b := by rw [List.length_take]; omega
  have e : b.take k ++ t = b.take (lenB b) ++ ((b.drop (lenB b)).take (k - lenB b) ++ t) := by
    rw [show k = lenB b + (k - lenB b) from by omega, List.take_add, List.append_assoc, show lenB b + (k - lenB b) - lenB b = k - lenB b from by omega]
  obtain ⟨f1, f2, f3⟩ := good_left ((b.drop (lenB b)).take (k - lenB b) ++ t) hne g1
  rw [e]
  exact ⟨f1, f2.trans g2, f3.trans g3, List.drop_left' hl⟩
/-- Where a string ends, or its fault lies. -/
theorem str_bounds (b : List Int) : ∀ (p : Nat) (s : RS), ((strL b p s).2.2.1 = 0 → p < (strL b p s).2.1 ∧ (strL b p s).2.1 ≤ p + b.length) ∧ ((strL b p s).2.2.1 ≠ 0 → p ≤ (strL b p s).2.2.2 ∧ (strL b p s).2.2.2 ≤ p + b.length) := by
  induction b using text_ind with
  | nil => intro p s; rw [str_nil]; exact ⟨fun h => by simp at h, fun _ => by simp⟩
  | good b h0 h ih =>
    intro p s
    have hg := good_ne h h0
    by_cases h5 : (takeR s (valB b)).q = 5
    · rw [str_all h0 h h5]; simp; omega
    by_cases h6 : (takeR s (valB b)).q = 6
    · rw [str_wrong h0 h h6]; simp
    rw [str_on h0 h h5 h6]
    have := ih (p + lenB b) (takeR s (valB b))
    rw [List.length_drop] at this
    exact ⟨fun e => by have := this.1 e; omega, fun e => by have := this.2 e; omega⟩
  | bad b h0 h =>
    intro p s
    have hl := bad_le h0 h
    rw [str_bad h0 h]
    show ((brkR b p (s.q == 0)).1 = 0 → _) ∧ ((brkR b p (s.q == 0)).1 ≠ 0 → p ≤ (brkR b p (s.q == 0)).2 ∧ (brkR b p (s.q == 0)).2 ≤ p + b.length)
    unfold brkR
    repeat' split
    all_goals simp <;> omega
theorem take_five {s : RS} {r : Nat} (h4 : s.q ≤ 4) (h5 : (takeR s r).q = 5) : r = 34 := by
  unfold takeR at h5
  by_cases h0 : s.q = 0
  · rw [if_pos h0] at h5
    by_cases h : r = 34
    · exact h
    · rw [if_neg h] at h5
      exfalso
      revert h5
      repeat' split
      all_goals simp [putR]
  rw [if_neg h0] at h5
  exfalso
  by_cases h1 : s.q = 1
  · rw [if_pos h1] at h5
    revert h5
    repeat' split
    all_goals simp [putR]
  rw [if_neg h1] at h5
  by_cases h2 : s.q = 2
  · rw [if_pos h2] at h5
    revert h5
    split
    · unfold digR
      repeat' split
      all_goals simp
    · simp
  rw [if_neg h2] at h5
  by_cases h3 : s.q = 3
  · rw [if_pos h3] at h5
    revert h5
    dsimp only
    split <;> omega
  rw [if_neg h3, if_pos (by omega)] at h5
  revert h5
  dsimp only
  split <;> omega
theorem take_on {s : RS} {r : Nat} (h4 : s.q ≤ 4) (h5 : (takeR s r).q ≠ 5) (h6 : (takeR s r).q ≠ 6) : (takeR s r).q ≤ 4 := by
  have := take_le (s := s) (r := r) (by omega)
  omega
/-- A STRING HANGS ON ITS BYTES ALONE. -/
theorem str_local_ok (t : List Int) (b : List Int) : ∀ (p k : Nat) (s : RS), s.q ≤ 4 → (strL b p s).2.2.1 = 0 → (strL b p s).2.1 ≤ p + k → strL (b.take k ++ t) p s = strL b p s := by
  induction b using text_ind with
  | nil => intro p k s _ h; rw [str_nil] at h; simp at h
  | good b h0 h ih =>
    intro p k s h4 hw hk
    have hg := good_ne h h0
    have hb := str_bounds b p s
    have hb1 := hb.1 hw
    have hlk : lenB b ≤ k := by
      by_cases h5 : (takeR s (valB b)).q = 5
      · have h34 := take_five h4 h5
        by_cases h2 : 2 ≤ lenB b
        · have := lenB_two h h2; omega
        · omega
      · by_cases h6 : (takeR s (valB b)).q = 6
        · rw [str_wrong h0 h h6] at hw; simp at hw
        · rw [str_on h0 h h5 h6] at hw hk
          have := (str_bounds (b.drop (lenB b)) (p + lenB b) (takeR s (valB b))).1 hw
          omega
    obtain ⟨g1, g2, g3, g4⟩ := good_on h0 h hlk t
    have hne := take_ne (b := b) (k := k) t (by omega) h0
    rw [str_good hne g1, str_good h0 h, g3]
    by_cases h5 : (takeR s (valB b)).q = 5
    · rw [if_pos h5, if_pos h5]
    by_cases h6 : (takeR s (valB b)).q = 6
    · rw [if_neg h5, if_neg h5, if_pos h6, if_pos h6]
    rw [if_neg h5, if_neg h5, if_neg h6, if_neg h6, g2, g4]
    rw [str_on h0 h h5 h6] at hw hk
    exact ih (p + lenB b) (k - lenB b) _ (take_on h4 h5 h6) hw (by omega)
  | bad b h0 h =>
    intro p k s h4 hw
    rw [str_bad h0 h] at hw
    exfalso
    have hw' : (brkR b p (s.q == 0)).1 = 0 := hw
    unfold brkR at hw'
    revert hw'
    repeat' split
    all_goals simp
end Go.Proofs.YtmlacmoembjeoaaGreatDoor
