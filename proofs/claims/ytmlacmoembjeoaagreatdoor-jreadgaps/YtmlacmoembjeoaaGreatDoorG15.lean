/-
  The document's side: which numbers are in their form, which bytes are digits.
  Whole digits: dec.Whole, and the document's.
  The reader's small functions: newReader, begin, beginsValue, textOf, numberOf, nodeOf, nothing, colon.
  A number's node: jread.numberOf.
-/
import Derived.Test.YtmlacmoembjeoaaGreatDoorG4
import Derived.Test.YtmlacmoembjeoaaGreatDoorG10
import Derived.Test.YtmlacmoembjeoaaGreatDoorG13
import Derived.Test.YtmlacmoembjeoaaGreatDoorG11
import Derived.Lib.SmallJoins
namespace Go.Proofs.YtmlacmoembjeoaaGreatDoor
open Go.RowKit

end Go.Proofs.YtmlacmoembjeoaaGreatDoor
namespace Go.Proofs.YtmlacmoembjeoaaGreatDoor
open Go.RowKit

/-- Digits with 0 behind. -/
def padW (s : ByteArray) (k : Nat) : ByteArray := strOfNums (bs s ++ zerosL k)
theorem pad_bytes (s : ByteArray) (k : Nat) : ∀ c ∈ bs s ++ zerosL k, 0 ≤ c ∧ c < 256 := fun c hc => by
  rcases List.mem_append.1 hc with h | h
  · exact bs_bytes s c h
  · rw [(List.mem_replicate.1 h).2]; decide
theorem bs_padW (s : ByteArray) (k : Nat) : bs (padW s k) = bs s ++ zerosL k := bs_str (pad_bytes s k)
theorem padW_size (s : ByteArray) (k : Nat) : (padW s k).size = s.size + k := by rw [← bs_len, bs_padW, List.length_append, bs_len]; unfold zerosL; rw [List.length_replicate]
theorem padW_zero (s : ByteArray) : padW s 0 = s := by apply bs_inj; rw [bs_padW]; exact List.append_nil _
theorem zeros_snoc (k : Nat) : zerosL k ++ [48] = zerosL (k + 1) := by unfold zerosL; rw [List.replicate_succ']
/-- P6.3: the whole digits. -/
def wholeA (n : Bool) (s : ByteArray) (x : Int) : ByteArray × Bool := if rtN n s x = true ∧ 0 ≤ x ∧ ((s.size : Nat) : Int) + x ≤ 800 then (padW s x.toNat, true) else (noS, false)
theorem rt_padW {n : Bool} {s : ByteArray} {k : Nat} (h : rtN n s ((k : Nat) : Int) = true) : rt (padW s k) = decide (s.size + k ≤ 800) := by
  have hf := (rtN_iff n s _).1 h
  by_cases hz : bs s = [48]
  · have h0 := (hf.2.1 hz).2
    have hk : k = 0 := by omega
    subst hk
    have hs := (rt_size (rtN_rt h)).2
    rw [padW_zero, rtN_rt h]
    simp
    exact hs
  · have hc : Canon (bs s ++ zerosL k) := by
      refine ⟨fun h1 => hf.1.1.1 (List.append_eq_nil_iff.1 h1).1, digs_append hf.1.1.2.1 (zeros_digs k), fun h1 => ?_⟩
      exfalso
      rcases hx : bs s with _ | ⟨c, t⟩
      · exact hf.1.1.1 hx
      · rw [hx] at h1
        have hc : c = 48 := h1
        have h3 := hf.1.1.2.2 (by rw [hx]; exact hc)
        rw [hx] at h3
        have ht : t = [] := List.eq_nil_of_length_eq_zero (by simpa using h3)
        exact hz (by rw [hx, ht, hc])
    have hl : (bs s ++ zerosL k).length = s.size + k := by rw [← bs_padW, bs_len, padW_size]
    rw [Bool.eq_iff_iff, decide_eq_true_iff, rt_iff, bs_padW]
    constructor
    · intro h1
      have := h1.2
      omega
    · intro h1
      exact ⟨hc, by omega⟩
theorem cell48 (w : World) : (w.alloc (.cells #[.int .u8 48] 5)).cell? ((⟨w.heap.size, 0, none⟩ : Addr).add 0) = some (.int .u8 48) := by
  have h : (⟨w.heap.size, 0, none⟩ : Addr).add 0 = ⟨w.heap.size, 0 + 0, none⟩ := by simp [Addr.add]
  rw [h]
  exact World.cell?_alloc_mark w _ _ _ _
theorem conv_below (w : World) (s : ByteArray) : Below w.heap.size w (Lib.bytesWorld w 5 s) := ⟨rfl, rfl, rfl, by rw [Lib.bytesWorld_size]; omega, fun k hk => Lib.bytesWorld_at_old w 5 s k hk⟩
set_option maxRecDepth 100000 in
set_option maxHeartbeats 2000000 in
theorem whole_any (n : Bool) (s : ByteArray) (x : Int) (w : World) : Calls Tryz.prog 85 #[.agg #[.bool n, .string s, .int .i64 x]] w fun e w' => e = .returned (.tuple #[.string (wholeA n s x).1, .bool (wholeA n s x).2]) ∧ Below w.heap.size w w' := by
  have kR := dright_any n s x
  have hB := box_at w n s x 84
  obtain ⟨b0, b1, b2⟩ := id hB
  cases hr : rtN n s x with
  | false =>
    rw [show wholeA n s x = (noS, false) from by unfold wholeA; rw [if_neg (by rw [hr]; simp)]]
    rw [hr] at kR
    clear hr
    go_enter Tryz.func85, Tryz.ntmps85
    go_wp2_with (go_at_call 111; refine (kR _).mono ?_; rintro e w1 ⟨rfl, hb⟩)
    go_ret2
    exact ⟨rfl, box_below hb⟩
  | true =>
    have hx := rtN_exp hr
    have hsz := (rt_size (rtN_rt hr)).2
    have hrp : Hid (∀ k : Nat, x = ((k : Nat) : Int) → rt (padW s k) = decide (s.size + k ≤ 800)) := fun k hk => rt_padW (n := n) (by rw [← hk]; exact hr)
    by_cases hneg : x < 0
    · rw [show wholeA n s x = (noS, false) from by unfold wholeA; rw [if_neg (by omega)]]
      rw [hr] at kR
      have d1 : decide (x < 0) = true := by simpa using hneg
      have hB' : Hid (NmAt (w.alloc (.cells #[.bool n, .string s, .int .i64 x] 84)) w.heap.size n s x) := hB
      clear hr hx hsz hrp hneg hB
      go_enter Tryz.func85, Tryz.ntmps85
      go_wp2_with (go_at_call 111; refine (kR _).mono ?_; rintro e w1 ⟨rfl, hb⟩; obtain ⟨c0, c1, c2⟩ := hB'.out.kept hb (alloc_lt _ _))
      go_ret2
      exact ⟨rfl, box_below hb⟩
    · obtain ⟨k, rfl⟩ : ∃ k : Nat, x = k := ⟨x.toNat, by omega⟩
      have hA : Hid (wholeA n s ((k : Nat) : Int) = if s.size + k ≤ 800 then (padW s k, true) else (noS, false)) := by
        show _ = _
        unfold wholeA
        by_cases h8 : s.size + k ≤ 800
        · rw [if_pos ⟨hr, by omega, by omega⟩, if_pos h8, Int.toNat_natCast]
        · rw [if_neg (by omega), if_neg h8]
      have hrt := hrp.out k rfl
      rw [hr] at kR
      have d1 : decide (((k : Nat) : Int) < 0) = false := by simp
      have hk2 : k ≤ 2000 := by omega
      have hB' : Hid (NmAt (w.alloc (.cells #[.bool n, .string s, .int .i64 ((k : Nat) : Int)] 84)) w.heap.size n s ((k : Nat) : Int)) := hB
      have hrt' : Hid (rt (padW s k) = decide (s.size + k ≤ 800)) := hrt
      have hsz' : Hid (s.size ≤ 800) := hsz
      clear hr hx hsz hrp hneg hB hrt
      generalize wholeA n s ((k : Nat) : Int) = WA at *
      go_enter Tryz.func85, Tryz.ntmps85
      go_wp2_with fail
      refine (kR _).mono ?_
      rintro e w1 ⟨rfl, hb⟩
      have hN1 := hB'.out.kept hb (alloc_lt _ _)
      have d2 := box_below hb
      obtain ⟨c0, c1, c2⟩ := id hN1
      have hcv := Lib.run_convert_string_bytes (P := Tryz.prog) w1 9 22 5 s Tryz.underlying9 Tryz.underlying22 Tryz.underlying5
      have hO := own_conv w1 s (by have := hsz'.out; omega)
      have hbw : Below w1.heap.size w1 (Lib.bytesWorld w1 5 s) := conv_below w1 s
      have hN2 := hN1.kept hbw (Nat.lt_of_lt_of_le (alloc_lt _ _) hb.size)
      generalize Lib.bytesWorld w1 5 s = W2 at *
      generalize grownCap w1 s.size 0 5 = cap2 at *
      obtain ⟨e0, e1, e2⟩ := hN2
      have hO' : Hid (OwnsM W2 w.heap.size (.slice (some ⟨w1.heap.size, 0, none⟩) s.size cap2) (bs s)) := by
        obtain ⟨q0, g, cap, q1, q2, q3⟩ := hO
        exact ⟨q0, g, cap, q1, Nat.le_trans d2.size q2, q3⟩
      have d3 : Hid (Below w.heap.size w W2) := d2.trans (hbw.mono d2.size)
      clear hO hbw d2 hb hN1 kR
      go_wp2
      go_loopw [4, 19] (fun v iv wr => ∃ j : Nat, j ≤ k ∧ iv = .int .i64 j ∧ Hid (OwnsM wr w.heap.size v (bs s ++ zerosL j)) ∧ Hid (Below w.heap.size w wr)) (fun _ iv _ => k - (intOf iv).toNat)
      case atStart => exact ⟨0, Nat.zero_le _, rfl, (by show OwnsM _ _ _ _; rw [show zerosL 0 = [] from rfl, List.append_nil]; exact hO'.out), d3⟩
      case round =>
        obtain ⟨j, hj, rfl, hOj, hbj⟩ := hrel
        clear hO' d3 e0 e1 e2 c0 c1 c2 hcv
        by_cases hlt : j < k
        · have hlj : Hid ((bs s ++ zerosL j).length + 1 ≤ 10000000) := by have := hsz'.out; show _ ≤ _; rw [List.length_append, bs_len]; unfold zerosL; rw [List.length_replicate]; omega
          have hbs := hbj.out.size
          have wj : IntKind.i64.wrap (((j : Nat) : Int) + 1) = ((j : Nat) : Int) + 1 := by rw [IntKind.wrap_i64] <;> omega
          have hlt' : ((j : Nat) : Int) < ((k : Nat) : Int) := by omega
          go_wp2_with (at_builtin; refine wpList_append_m rfl _ _ rfl w.heap.size _ (bs s ++ zerosL j) 48 (by decide) rfl (hOj.out.below (alloc_below wr _)) _ rfl (cell48 wr) hlj.out (Nat.le_trans hbs (Nat.le_of_lt (alloc_lt wr _))) ?_; intro v' w9 ho9 hb9)
          have ho9' : Hid (OwnsM w9 w.heap.size v' (bs s ++ zerosL (j + 1))) := by show OwnsM _ _ _ _; rw [← zeros_snoc, ← List.append_assoc]; exact ho9
          have d9 : Hid (Below w.heap.size w w9) := (hbj.out.alloc hbs _).trans hb9
          clear ho9 hb9
          go_roundw
          case rel => exact ⟨j + 1, by omega, by go_num, ho9', d9⟩
          case measure => simp [intOf]; omega
        · obtain rfl : j = k := by omega
          obtain ⟨g, m, cap, rfl, hm, hmc, hcm, hBy⟩ := hOj.out.form
          have cv := conv_str hBy.out m cap hm.out
          have e : strOfNums (bs s ++ zerosL j) = padW s j := rfl
          rw [e] at cv
          have kQ := right_any (padW s j)
          rw [hrt'.out] at kQ
          clear hlt hBy hOj e
          by_cases h8 : s.size + j ≤ 800
          · have hWA := hA.out
            rw [if_pos h8] at hWA
            subst hWA
            rw [show decide (s.size + j ≤ 800) = true from by simpa using h8] at kQ
            clear h8 hrt'
            go_wp2_with (go_at_call 112; refine (kQ _).mono ?_; rintro e w5 ⟨rfl, hw5⟩; rw [hw5]; clear hw5)
            go_ret2
            exact ⟨rfl, hbj.out⟩
          · have hWA := hA.out
            rw [if_neg h8] at hWA
            subst hWA
            rw [show decide (s.size + j ≤ 800) = false from by simpa using h8] at kQ
            clear h8 hrt'
            generalize padW s j = PW at *
            go_wp2_with (go_at_call 112; refine (kQ _).mono ?_; rintro e w5 ⟨rfl, hw5⟩; rw [hw5]; clear hw5)
            go_ret2
            exact ⟨rfl, hbj.out⟩
end Go.Proofs.YtmlacmoembjeoaaGreatDoor
namespace Go.Proofs.YtmlacmoembjeoaaGreatDoor
open Go.RowKit
set_option linter.unusedVariables false
theorem store_fn (w : World) (a : Addr) (f : Fn) (x y : Array Value) (m : Mode) : (store a (.func f x y) m).run Tryz.prog w = stored Tryz.prog w a (.func f x y) m := run_store Tryz.prog w a _ m rfl
set_option maxHeartbeats 1000000 in
set_option maxRecDepth 100000 in
/-- jread.newReader. -/
theorem new_any (w : World) : Calls Tryz.prog 17 #[] w fun e w' => e = .returned (.pointer (some ⟨w.heap.size, 0, none⟩)) ∧ RBox w' w.heap.size false 27 none 0 0 0 zN false ∧ Below w.heap.size w w' ∧ w'.heap.size = w.heap.size + 1 := by
  have hA := alloc_below w (.cells #[.bool false, .nilFunc, .slice none 0 0, .int .i64 0, .int .i64 0, .int .u64 0, .bool false, .string ⟨#[]⟩, .int .i64 0, .string ⟨#[]⟩, .slice none 0 0, .slice none 0 0, .slice none 0 0, .bool false] 48)
  have hN := heap_alloc_new w (.cells #[.bool false, .nilFunc, .slice none 0 0, .int .i64 0, .int .i64 0, .int .u64 0, .bool false, .string ⟨#[]⟩, .int .i64 0, .string ⟨#[]⟩, .slice none 0 0, .slice none 0 0, .slice none 0 0, .bool false] 48)
  have c1 : (w.alloc (.cells #[.bool false, .nilFunc, .slice none 0 0, .int .i64 0, .int .i64 0, .int .u64 0, .bool false, .string ⟨#[]⟩, .int .i64 0, .string ⟨#[]⟩, .slice none 0 0, .slice none 0 0, .slice none 0 0, .bool false] 48)).cell? ⟨w.heap.size, 1, none⟩ = some .nilFunc := cell_row hN 1
  have hsf : ∀ (w : World) (a : Addr) (f : Fn) (x y : Array Value) (m : Mode), (store a (.func f x y) m).run Tryz.prog w = stored Tryz.prog w a (.func f x y) m := store_fn
  have hA' : Hid (Below w.heap.size w _) := hA
  have hN' : Hid (_ = _) := hN
  clear hA hN
  go_enter Tryz.func17, Tryz.ntmps17
  go_wp2
  go_ret
  first
    | exact ⟨rfl, heap_alloc_new w _, alloc_below w _, by simp⟩
    | exact ⟨rfl, by (show _ = _; rw [heap_setCell_same _ _ _ _ _ _ hN'.out]; rfl), hA'.out.setCell (by simp) _, by simp [World.setCell]⟩
set_option maxHeartbeats 1000000 in
set_option maxRecDepth 100000 in
/-- jread.beginsValue. -/
theorem bv_any (k : Nat) (w : World) (v : Bool) (hv : v = !(k == 2 || k == 4 || k == 5 || k == 6)) : Calls Tryz.prog 38 #[.int .i64 (k : Int)] w fun e w' => e = .returned (.bool v) ∧ w' = w := by
  by_cases h2 : k = 2
  · subst h2; subst hv
    go_enter Tryz.func38, Tryz.ntmps38
    go_wp2
    go_ret
    exact ⟨rfl, rfl⟩
  by_cases h4 : k = 4
  · subst h4; subst hv
    go_enter Tryz.func38, Tryz.ntmps38
    go_wp2
    go_ret
    exact ⟨rfl, rfl⟩
  by_cases h5 : k = 5
  · subst h5; subst hv
    go_enter Tryz.func38, Tryz.ntmps38
    go_wp2
    go_ret
    exact ⟨rfl, rfl⟩
  by_cases h6 : k = 6
  · subst h6; subst hv
    go_enter Tryz.func38, Tryz.ntmps38
    go_wp2
    go_ret
    exact ⟨rfl, rfl⟩
  have e2 : ((k : Int) == 2) = false := by simp; omega
  have e4 : ((k : Int) == 4) = false := by simp; omega
  have e5 : ((k : Int) == 5) = false := by simp; omega
  have e6 : ((k : Int) == 6) = false := by simp; omega
  have hv' : v = true := by rw [hv]; simp [h2, h4, h5, h6]
  subst hv'
  clear h2 h4 h5 h6 hv
  go_enter Tryz.func38, Tryz.ntmps38
  go_wp2
  go_ret
  exact ⟨rfl, rfl⟩
def beginA (free : Bool) (nodes : Int) (no : Nat) (own : Int) : Int := if free = true then 0 else if 1024 < nodes + 1 then 8 else if 24 ≤ no then 7 else own
set_option maxHeartbeats 1000000 in
set_option maxRecDepth 100000 in
/-- jread.begin. -/
theorem beg_any {w : World} {g : Nat} {free : Bool} {nx : Nat} {ao : Option Addr} {no co : Nat} {nodes : Int} {r : Nb} {ended : Bool} (h : RBox w g free nx ao no co nodes r ended) (own : Int) (h0 : 0 ≤ nodes) (h1 : nodes ≤ 1000000) :
    Calls Tryz.prog 40 #[.pointer (some ⟨g, 0, none⟩), .int .i64 own] w fun e w' => e = .returned (.int .i64 (beginA free nodes no own)) ∧ w' = w.setCell ⟨g, 3, none⟩ (.int .i64 (nodes + 1)) := by
  obtain ⟨a0, a1, a2, a3, a4⟩ := h.fields
  have z3 := h.fz 3
  have h2 := h.set (nodes' := nodes + 1) 3 (.int .i64 (nodes + 1)) rfl
  obtain ⟨b0, b1, b2, b3, b4⟩ := h2.fields
  have W1 : IntKind.i64.wrap (nodes + 1) = nodes + 1 := by rw [IntKind.wrap_i64]; omega
  clear h h2 a1 a2 a4 b1 b4
  unfold beginA
  cases free with
  | true =>
    rw [if_pos rfl]
    go_enter Tryz.func40, Tryz.ntmps40
    go_wp2
    go_ret
    exact ⟨rfl, rfl⟩
  | false =>
    rw [if_neg (by simp)]
    by_cases q1 : 1024 < nodes + 1
    · rw [if_pos q1]
      have d1 : decide ((1024 : Int) < nodes + 1) = true := decide_eq_true q1
      go_enter Tryz.func40, Tryz.ntmps40
      go_wp2
      go_ret
      exact ⟨rfl, rfl⟩
    · rw [if_neg q1]
      have d1 : decide ((1024 : Int) < nodes + 1) = false := decide_eq_false q1
      by_cases q2 : 24 ≤ no
      · rw [if_pos q2]
        have d2 : (24 : Int) ≤ (no : Int) := by omega
        go_enter Tryz.func40, Tryz.ntmps40
        go_wp2
        go_ret
        exact ⟨rfl, rfl⟩
      · rw [if_neg q2]
        have d2 : ¬ (24 : Int) ≤ (no : Int) := by omega
        go_enter Tryz.func40, Tryz.ntmps40
        go_wp2
        go_ret
        exact ⟨rfl, rfl⟩
theorem two_box (w : World) (o : Obj) (b : Nb) : NBox ((w.alloc o).alloc (.cells b.arr 26)) (w.heap.size + 1) b := by
  have h := nbox_new (w.alloc o) b
  have s : (w.alloc o).heap.size = w.heap.size + 1 := by simp
  rwa [s] at h
/-- A text's node. -/
def txtT (s : ByteArray) : Tr := ⟨5, 0, false, ⟨#[]⟩, 0, s, [], [], []⟩
theorem tk_box (w : World) (k f t : Value) (s : Value) : (w.alloc (.cells #[k, f, t, s] 40)).heap[w.heap.size]? = some (.cells #[k, f, t, s] 40 (0, 0)) := heap_alloc_new w _
set_option maxHeartbeats 1000000 in
set_option maxRecDepth 100000 in
/-- jread.textOf. -/
theorem txt_any (k f t : Int) (s : ByteArray) (w : World) : Calls Tryz.prog 63 #[.agg #[.int .i64 k, .int .i64 f, .int .i64 t, .string s]] w fun e w' => e = .returned (.agg (leafN (txtT s)).arr) ∧ Below w.heap.size w w' := by
  have A1 := alloc_below w (.cells #[.int .i64 k, .int .i64 f, .int .i64 t, .string s] 40)
  have A2 := alloc_below (w.alloc (.cells #[.int .i64 k, .int .i64 f, .int .i64 t, .string s] 40)) (.cells #[.int .i64 0, .int .u64 0, .bool false, .string ⟨#[]⟩, .int .i64 0, .string ⟨#[]⟩, .slice none 0 0, .slice none 0 0, .slice none 0 0] 26)
  have T1 := tk_box w (.int .i64 k) (.int .i64 f) (.int .i64 t) (.string s)
  have c3 : ((w.alloc (.cells #[.int .i64 k, .int .i64 f, .int .i64 t, .string s] 40)).alloc (.cells #[.int .i64 0, .int .u64 0, .bool false, .string ⟨#[]⟩, .int .i64 0, .string ⟨#[]⟩, .slice none 0 0, .slice none 0 0, .slice none 0 0] 26)).cell? ⟨w.heap.size, 3, none⟩ = some (.string s) := (A2.cell (p := ⟨w.heap.size, 3, none⟩) (by simp)).trans (cell_row T1 3)
  have B2 : Hid (Below w.heap.size w ((w.alloc (.cells #[.int .i64 k, .int .i64 f, .int .i64 t, .string s] 40)).alloc (.cells #[.int .i64 0, .int .u64 0, .bool false, .string ⟨#[]⟩, .int .i64 0, .string ⟨#[]⟩, .slice none 0 0, .slice none 0 0, .slice none 0 0] 26))) := A1.trans (A2.mono A1.size)
  clear A1 A2 T1
  go_enter Tryz.func63, Tryz.ntmps63
  go_wp2
  refine bodyPost_ret (v := .agg (leafN (txtT s)).arr) (by simp [results, Tryz.results63, go_sem, leafN, txtT, Nb.arr]) rfl ⟨rfl, ?_⟩
  exact (alloc_below w _).trans ((alloc_below _ _).mono (alloc_below w _).size)
end Go.Proofs.YtmlacmoembjeoaaGreatDoor
namespace Go.Proofs.YtmlacmoembjeoaaGreatDoor
open Go.RowKit
set_option linter.unusedVariables false
def intT (n : Bool) (d : ByteArray) : Tr := ⟨2, 0, n, d, 0, ⟨#[]⟩, [], [], []⟩
def decT (n : Bool) (d : ByteArray) (x : Int) : Tr := ⟨3, 0, n, d, x, ⟨#[]⟩, [], [], []⟩
/-- The node of a number, or what is wrong with it. -/
def numA (s : ByteArray) : Tr × Int := if (parseA s).2.1 ≠ 0 then (zT, 11) else if (wholeA (parseA s).1.1 (parseA s).1.2.1 (parseA s).1.2.2).2 = true then (intT (parseA s).1.1 (wholeA (parseA s).1.1 (parseA s).1.2.1 (parseA s).1.2.2).1, 0) else (decT (parseA s).1.1 (parseA s).1.2.1 (parseA s).1.2.2, 0)
theorem two_below {w : World} {a b : Obj} : Below w.heap.size w ((w.alloc a).alloc b) := (alloc_below w a).trans ((alloc_below _ _).mono (alloc_below w a).size)
theorem nbox_set {w : World} {g : Nat} {b b' : Nb} (h : NBox w g b) (j : Nat) (v : Value) (hv : b'.arr = b.arr.setIfInBounds j v) : NBox (w.setCell ⟨g, j, none⟩ v) g b' := by
  unfold NBox
  rw [heap_setCell_same w g j b.arr 26 v h, hv]
/-- A node written whole into a box. -/
theorem nbox_put {w : World} {g : Nat} {c : Nb} (h : NBox w g c) (x : Nb) : NBox (((((((((w.setCell ⟨g, 0, none⟩ (.int .i64 x.kind)).setCell ⟨g, 1, none⟩ (.int .u64 x.num)).setCell ⟨g, 2, none⟩ (.bool x.neg)).setCell ⟨g, 3, none⟩ (.string x.dig)).setCell ⟨g, 4, none⟩ (.int .i64 x.exp)).setCell ⟨g, 5, none⟩ (.string x.txt)).setCell ⟨g, 6, none⟩ (.slice x.ab x.lb x.cb)).setCell ⟨g, 7, none⟩ (.slice x.ak x.lk x.ck)).setCell ⟨g, 8, none⟩ (.slice x.ai x.li x.ci)) g x ∧ Kp (fun k => k = g) w (((((((((w.setCell ⟨g, 0, none⟩ (.int .i64 x.kind)).setCell ⟨g, 1, none⟩ (.int .u64 x.num)).setCell ⟨g, 2, none⟩ (.bool x.neg)).setCell ⟨g, 3, none⟩ (.string x.dig)).setCell ⟨g, 4, none⟩ (.int .i64 x.exp)).setCell ⟨g, 5, none⟩ (.string x.txt)).setCell ⟨g, 6, none⟩ (.slice x.ab x.lb x.cb)).setCell ⟨g, 7, none⟩ (.slice x.ak x.lk x.ck)).setCell ⟨g, 8, none⟩ (.slice x.ai x.li x.ci)) := by
  obtain ⟨x0, x1, x2, x3, x4, x5, xa, xb, xc, xd, xe, xf, xg, xh, xi⟩ := x
  obtain ⟨c0, c1, c2, c3, c4, c5, ca, cb, cc, cd, ce, cf, cg, ch, ci⟩ := c
  have e := fun (w : World) (j : Nat) (v : Value) => (⟨rfl, rfl, rfl, by simp [World.setCell], fun k _ hc => setk hc v⟩ : Kp (fun k => k = g) w (w.setCell ⟨g, j, none⟩ v))
  exact ⟨nbox_set (nbox_set (nbox_set (nbox_set (nbox_set (nbox_set (nbox_set (nbox_set (nbox_set h (b' := ⟨x0, c1, c2, c3, c4, c5, ca, cb, cc, cd, ce, cf, cg, ch, ci⟩) 0 _ rfl) (b' := ⟨x0, x1, c2, c3, c4, c5, ca, cb, cc, cd, ce, cf, cg, ch, ci⟩) 1 _ rfl) (b' := ⟨x0, x1, x2, c3, c4, c5, ca, cb, cc, cd, ce, cf, cg, ch, ci⟩) 2 _ rfl) (b' := ⟨x0, x1, x2, x3, c4, c5, ca, cb, cc, cd, ce, cf, cg, ch, ci⟩) 3 _ rfl) (b' := ⟨x0, x1, x2, x3, x4, c5, ca, cb, cc, cd, ce, cf, cg, ch, ci⟩) 4 _ rfl) (b' := ⟨x0, x1, x2, x3, x4, x5, ca, cb, cc, cd, ce, cf, cg, ch, ci⟩) 5 _ rfl) (b' := ⟨x0, x1, x2, x3, x4, x5, xa, xb, xc, cd, ce, cf, cg, ch, ci⟩) 6 _ rfl) (b' := ⟨x0, x1, x2, x3, x4, x5, xa, xb, xc, xd, xe, xf, cg, ch, ci⟩) 7 _ rfl) (b' := ⟨x0, x1, x2, x3, x4, x5, xa, xb, xc, xd, xe, xf, xg, xh, xi⟩) 8 _ rfl, ((((((((e _ _ _).trans (e _ _ _)).trans (e _ _ _)).trans (e _ _ _)).trans (e _ _ _)).trans (e _ _ _)).trans (e _ _ _)).trans (e _ _ _)).trans (e _ _ _)⟩
set_option maxHeartbeats 2000000 in
set_option maxRecDepth 100000 in
theorem num_any (k f t : Int) (s : ByteArray) (w : World) : Calls Tryz.prog 64 #[.agg #[.int .i64 k, .int .i64 f, .int .i64 t, .string s]] w fun e w' => e = .returned (.tuple #[.agg (leafN (numA s).1).arr, .int .i64 (numA s).2]) ∧ Below w.heap.size w w' := by
  have A1 := alloc_below w (.cells #[.int .i64 k, .int .i64 f, .int .i64 t, .string s] 40)
  have A2 := alloc_below (w.alloc (.cells #[.int .i64 k, .int .i64 f, .int .i64 t, .string s] 40)) (.cells #[.int .i64 0, .int .u64 0, .bool false, .string ⟨#[]⟩, .int .i64 0, .string ⟨#[]⟩, .slice none 0 0, .slice none 0 0, .slice none 0 0] 26)
  have T1 := tk_box w (.int .i64 k) (.int .i64 f) (.int .i64 t) (.string s)
  have N2 : NBox ((w.alloc (.cells #[.int .i64 k, .int .i64 f, .int .i64 t, .string s] 40)).alloc (.cells #[.int .i64 0, .int .u64 0, .bool false, .string ⟨#[]⟩, .int .i64 0, .string ⟨#[]⟩, .slice none 0 0, .slice none 0 0, .slice none 0 0] 26)) (w.heap.size + 1) zN := two_box w _ zN
  have c3 : ((w.alloc (.cells #[.int .i64 k, .int .i64 f, .int .i64 t, .string s] 40)).alloc (.cells #[.int .i64 0, .int .u64 0, .bool false, .string ⟨#[]⟩, .int .i64 0, .string ⟨#[]⟩, .slice none 0 0, .slice none 0 0, .slice none 0 0] 26)).cell? ⟨w.heap.size, 3, none⟩ = some (.string s) := (A2.cell (p := ⟨w.heap.size, 3, none⟩) (by simp)).trans (cell_row T1 3)
  have B2 : Hid (Below w.heap.size w ((w.alloc (.cells #[.int .i64 k, .int .i64 f, .int .i64 t, .string s] 40)).alloc (.cells #[.int .i64 0, .int .u64 0, .bool false, .string ⟨#[]⟩, .int .i64 0, .string ⟨#[]⟩, .slice none 0 0, .slice none 0 0, .slice none 0 0] 26))) := A1.trans (A2.mono A1.size)
  have N2' : Hid (NBox ((w.alloc (.cells #[.int .i64 k, .int .i64 f, .int .i64 t, .string s] 40)).alloc (.cells #[.int .i64 0, .int .u64 0, .bool false, .string ⟨#[]⟩, .int .i64 0, .string ⟨#[]⟩, .slice none 0 0, .slice none 0 0, .slice none 0 0] 26)) (w.heap.size + 1) zN) := N2
  have kP := parse_any s ((w.alloc (.cells #[.int .i64 k, .int .i64 f, .int .i64 t, .string s] 40)).alloc (.cells #[.int .i64 0, .int .u64 0, .bool false, .string ⟨#[]⟩, .int .i64 0, .string ⟨#[]⟩, .slice none 0 0, .slice none 0 0, .slice none 0 0] 26))
  unfold numA
  generalize parseA s = R at *
  obtain ⟨⟨N, D, X⟩, Y, Z⟩ := R
  have kW : Hid (∀ w', Calls Tryz.prog 85 #[.agg #[.bool N, .string D, .int .i64 X]] w' _) := fun w' => whole_any N D X w'
  clear A1 A2 T1 N2
  dsimp only at kP ⊢
  by_cases hY : Y = 0
  · subst hY
    rw [if_neg (by simp)]
    generalize wholeA N D X = V at *
    obtain ⟨S, b⟩ := V
    cases b with
    | true =>
      rw [if_pos rfl]
      dsimp only at kW ⊢
      go_enter Tryz.func64, Tryz.ntmps64
      go_wp2_with (first
        | (go_at_call 84; refine kP.mono ?_; rintro e w1 ⟨rfl, hb1⟩; clear kP; have N3 : Hid (NBox w1 (w.heap.size + 1) zN) := N2'.out.kept hb1 N2'.out.lt; have B3 : Hid (Below w.heap.size w w1) := B2.out.trans (hb1.mono B2.out.size); clear hb1)
        | (go_at_call 85; refine (kW.out _).mono ?_; rintro e w2 ⟨rfl, hb2⟩; have K1 : Blk ((w1.alloc (.cells #[.bool N, .string D, .int .i64 X] 84)).alloc (.cells #[.int .i64 0, .int .i64 Z] 29)) w1.heap.size #[.bool N, .string D, .int .i64 X] 84 := (blk_new w1 _ _).kept (alloc_below _ _) (alloc_lt _ _); have K2 := K1.kept hb2 K1.lt; have e0 : w2.cell? ⟨w1.heap.size, 0, none⟩ = some (.bool N) := K2.cell 0; have e1 : w2.cell? ⟨w1.heap.size, 1, none⟩ = some (.string D) := K2.cell 1; have e2 : w2.cell? ⟨w1.heap.size, 2, none⟩ = some (.int .i64 X) := K2.cell 2; have B4 : Hid (Below w.heap.size w w2) := (B3.out.trans (two_below.mono B3.out.size)).trans (hb2.mono (Nat.le_trans B3.out.size two_below.size)); have N4 : Hid (NBox w2 (w.heap.size + 1) zN) := (N3.out.kept two_below N3.out.lt).kept hb2 (Nat.lt_of_lt_of_le N3.out.lt two_below.size); have z0 := N4.out.fz 0; have z1 := N4.out.fz 1; have z2 := N4.out.fz 2; have z3 := N4.out.fz 3; have z4 := N4.out.fz 4; have z5 := N4.out.fz 5; have z6 := N4.out.fz 6; have z7 := N4.out.fz 7; have z8 := N4.out.fz 8; obtain ⟨m0, m1, m2, m3, m4, m5, m6, m7, m8⟩ := N4.out.fields; clear hb2 K1 K2))
      have x9 := nbox_put N4.out (leafN (intT N S))
      obtain ⟨u0, u1, u2, u3, u4, u5, u6, u7, u8⟩ := x9.1.fields
      refine bodyPost_ret (v := .tuple #[.agg (leafN (intT N S)).arr, .int .i64 0]) (by simp [results, Tryz.results64, go_sem, leafN, intT, Nb.arr] at *; simp [go_sem, u0, u1, u2, u3, u4, u5, u6, u7, u8]) rfl ⟨rfl, ?_⟩
      exact B4.out.trans (x9.2.below B4.out.size fun k hk => by omega)
    | false =>
      rw [if_neg (by simp)]
      dsimp only at kW ⊢
      go_enter Tryz.func64, Tryz.ntmps64
      go_wp2_with (first
        | (go_at_call 84; refine kP.mono ?_; rintro e w1 ⟨rfl, hb1⟩; clear kP; have N3 : Hid (NBox w1 (w.heap.size + 1) zN) := N2'.out.kept hb1 N2'.out.lt; have B3 : Hid (Below w.heap.size w w1) := B2.out.trans (hb1.mono B2.out.size); clear hb1)
        | (go_at_call 85; refine (kW.out _).mono ?_; rintro e w2 ⟨rfl, hb2⟩; have K1 : Blk ((w1.alloc (.cells #[.bool N, .string D, .int .i64 X] 84)).alloc (.cells #[.int .i64 0, .int .i64 Z] 29)) w1.heap.size #[.bool N, .string D, .int .i64 X] 84 := (blk_new w1 _ _).kept (alloc_below _ _) (alloc_lt _ _); have K2 := K1.kept hb2 K1.lt; have e0 : w2.cell? ⟨w1.heap.size, 0, none⟩ = some (.bool N) := K2.cell 0; have e1 : w2.cell? ⟨w1.heap.size, 1, none⟩ = some (.string D) := K2.cell 1; have e2 : w2.cell? ⟨w1.heap.size, 2, none⟩ = some (.int .i64 X) := K2.cell 2; have B4 : Hid (Below w.heap.size w w2) := (B3.out.trans (two_below.mono B3.out.size)).trans (hb2.mono (Nat.le_trans B3.out.size two_below.size)); have N4 : Hid (NBox w2 (w.heap.size + 1) zN) := (N3.out.kept two_below N3.out.lt).kept hb2 (Nat.lt_of_lt_of_le N3.out.lt two_below.size); have z0 := N4.out.fz 0; have z1 := N4.out.fz 1; have z2 := N4.out.fz 2; have z3 := N4.out.fz 3; have z4 := N4.out.fz 4; have z5 := N4.out.fz 5; have z6 := N4.out.fz 6; have z7 := N4.out.fz 7; have z8 := N4.out.fz 8; obtain ⟨m0, m1, m2, m3, m4, m5, m6, m7, m8⟩ := N4.out.fields; clear hb2 K1 K2))
      have x9 := nbox_put N4.out (leafN (decT N D X))
      obtain ⟨u0, u1, u2, u3, u4, u5, u6, u7, u8⟩ := x9.1.fields
      refine bodyPost_ret (v := .tuple #[.agg (leafN (decT N D X)).arr, .int .i64 0]) (by simp [results, Tryz.results64, go_sem, leafN, decT, Nb.arr] at *; simp [go_sem, u0, u1, u2, u3, u4, u5, u6, u7, u8]) rfl ⟨rfl, ?_⟩
      exact B4.out.trans (x9.2.below B4.out.size fun k hk => by omega)
  · rw [if_pos hY]
    have hY' : (Y != 0) = true := by simp [hY]
    clear kW hY
    go_enter Tryz.func64, Tryz.ntmps64
    go_wp2_with (go_at_call 84; refine kP.mono ?_; rintro e w1 ⟨rfl, hb1⟩; clear kP; have N3 : Hid (NBox w1 (w.heap.size + 1) zN) := N2'.out.kept hb1 N2'.out.lt; have B3 : Hid (Below w.heap.size w w1) := B2.out.trans (hb1.mono B2.out.size); have B4 : Hid (Below w.heap.size w ((w1.alloc (.cells #[.bool N, .string D, .int .i64 X] 84)).alloc (.cells #[.int .i64 Y, .int .i64 Z] 29))) := B3.out.trans (two_below.mono B3.out.size); have N4 : Hid (NBox ((w1.alloc (.cells #[.bool N, .string D, .int .i64 X] 84)).alloc (.cells #[.int .i64 Y, .int .i64 Z] 29)) (w.heap.size + 1) zN) := N3.out.kept two_below N3.out.lt; have z0 := N4.out.fz 0; have z1 := N4.out.fz 1; have z2 := N4.out.fz 2; have z3 := N4.out.fz 3; have z4 := N4.out.fz 4; have z5 := N4.out.fz 5; have z6 := N4.out.fz 6; have z7 := N4.out.fz 7; have z8 := N4.out.fz 8; obtain ⟨m0, m1, m2, m3, m4, m5, m6, m7, m8⟩ := N4.out.fields; clear hb1)
    · have x9 := nbox_put N4.out zN
      obtain ⟨u0, u1, u2, u3, u4, u5, u6, u7, u8⟩ := x9.1.fields
      refine bodyPost_ret (v := .tuple #[.agg (leafN zT).arr, .int .i64 11]) (by simp [results, Tryz.results64, go_sem, leafN, zT, zN, Nb.arr] at *; simp [go_sem, u0, u1, u2, u3, u4, u5, u6, u7, u8]) rfl ⟨rfl, ?_⟩
      exact B4.out.trans (x9.2.below B4.out.size fun k hk => by omega)
end Go.Proofs.YtmlacmoembjeoaaGreatDoor
