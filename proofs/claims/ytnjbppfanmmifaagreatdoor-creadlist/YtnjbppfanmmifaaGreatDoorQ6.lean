/-
  The document's side: which numbers are in their form, which bytes are digits.
  Whole digits: dec.Whole, and the document's.
  When two trees are the same: tree.same.
-/
import Derived.Test.YtnjbppfanmmifaaGreatDoorQ5
import Derived.Test.YtnjbppfanmmifaaGreatDoorQ3
import Derived.Test.YtnjbppfanmmifaaGreatDoorQ4
import Derived.Lib.SmallJoins
namespace Go.Proofs.YtnjbppfanmmifaaGreatDoor
open Go.RowKit

end Go.Proofs.YtnjbppfanmmifaaGreatDoor
namespace Go.Proofs.YtnjbppfanmmifaaGreatDoor
open Go.RowKit

/-- Digits with 0 behind. -/
def padW (s : ByteArray) (k : Nat) : ByteArray := strOfNums (bs s ++ zerosL k)
theorem pad_bytes (s : ByteArray) (k : Nat) : ∀ c ∈ bs s ++ zerosL k, 0 ≤ c ∧ c < 256 := fun c hc => by
  rcases List.mem_append.1 hc with h | h
  · exact bs_bytes s c h
  · rw [(List.mem_replicate.1 h).2]; decide
theorem bs_padW (s : ByteArray) (k : Nat) : bs (padW s k) = bs s ++ zerosL k := bs_str (pad_bytes s k)
theorem padW_size (s : ByteArray) (k : Nat) : (padW s k).size = s.size + k := by rw [← bs_len, bs_padW, List.length_append, bs_len]; unfold zerosL; rw [List.length_replicate]
theorem padW_zero (s : ByteArray) : padW s 0 = s := by apply bs_inj; rw [bs_padW]; exact List.append_nil _
theorem zeros_snoc (k : Nat) : zerosL k ++ [48] = zerosL (k + 1) := by unfold zerosL; rw [List.replicate_succ']
/-- P6.3: the whole digits. -/
def wholeA (n : Bool) (s : ByteArray) (x : Int) : ByteArray × Bool := if rtN n s x = true ∧ 0 ≤ x ∧ ((s.size : Nat) : Int) + x ≤ 800 then (padW s x.toNat, true) else (noS, false)
theorem rt_padW {n : Bool} {s : ByteArray} {k : Nat} (h : rtN n s ((k : Nat) : Int) = true) : rt (padW s k) = decide (s.size + k ≤ 800) := by
  have hf := (rtN_iff n s _).1 h
  by_cases hz : bs s = [48]
  · have h0 := (hf.2.1 hz).2
    have hk : k = 0 := by omega
    subst hk
    have hs := (rt_size (rtN_rt h)).2
    rw [padW_zero, rtN_rt h]
    simp
    exact hs
  · have hc : Canon (bs s ++ zerosL k) := by
      refine ⟨fun h1 => hf.1.1.1 (List.append_eq_nil_iff.1 h1).1, digs_append hf.1.1.2.1 (zeros_digs k), fun h1 => ?_⟩
      exfalso
      rcases hx : bs s with _ | ⟨c, t⟩
      · exact hf.1.1.1 hx
      · rw [hx] at h1
        have hc : c = 48 := h1
        have h3 := hf.1.1.2.2 (by rw [hx]; exact hc)
        rw [hx] at h3
        have ht : t = [] := List.eq_nil_of_length_eq_zero (by simpa using h3)
        exact hz (by rw [hx, ht, hc])
    have hl : (bs s ++ zerosL k).length = s.size + k := by rw [← bs_padW, bs_len, padW_size]
    rw [Bool.eq_iff_iff, decide_eq_true_iff, rt_iff, bs_padW]
    constructor
    · intro h1
      have := h1.2
      omega
    · intro h1
      exact ⟨hc, by omega⟩
theorem cell48 (w : World) : (w.alloc (.cells #[.int .u8 48] 5)).cell? ((⟨w.heap.size, 0, none⟩ : Addr).add 0) = some (.int .u8 48) := by
  have h : (⟨w.heap.size, 0, none⟩ : Addr).add 0 = ⟨w.heap.size, 0 + 0, none⟩ := by simp [Addr.add]
  rw [h]
  exact World.cell?_alloc_mark w _ _ _ _
theorem conv_below (w : World) (s : ByteArray) : Below w.heap.size w (Lib.bytesWorld w 5 s) := ⟨rfl, rfl, rfl, by rw [Lib.bytesWorld_size]; omega, fun k hk => Lib.bytesWorld_at_old w 5 s k hk⟩
set_option maxRecDepth 100000 in
set_option maxHeartbeats 2000000 in
theorem whole_any (n : Bool) (s : ByteArray) (x : Int) (w : World) : Calls Tryz.prog 143 #[.agg #[.bool n, .string s, .int .i64 x]] w fun e w' => e = .returned (.tuple #[.string (wholeA n s x).1, .bool (wholeA n s x).2]) ∧ Below w.heap.size w w' := by
  have kR := dright_any n s x
  have hB := box_at w n s x 104
  obtain ⟨b0, b1, b2⟩ := id hB
  cases hr : rtN n s x with
  | false =>
    rw [show wholeA n s x = (noS, false) from by unfold wholeA; rw [if_neg (by rw [hr]; simp)]]
    rw [hr] at kR
    clear hr
    go_enter Tryz.func143, Tryz.ntmps143
    go_wp2_with (go_at_call 144; refine (kR _).mono ?_; rintro e w1 ⟨rfl, hb⟩)
    go_ret2
    exact ⟨rfl, box_below hb⟩
  | true =>
    have hx := rtN_exp hr
    have hsz := (rt_size (rtN_rt hr)).2
    have hrp : Hid (∀ k : Nat, x = ((k : Nat) : Int) → rt (padW s k) = decide (s.size + k ≤ 800)) := fun k hk => rt_padW (n := n) (by rw [← hk]; exact hr)
    by_cases hneg : x < 0
    · rw [show wholeA n s x = (noS, false) from by unfold wholeA; rw [if_neg (by omega)]]
      rw [hr] at kR
      have d1 : decide (x < 0) = true := by simpa using hneg
      have hB' : Hid (NmAt (w.alloc (.cells #[.bool n, .string s, .int .i64 x] 104)) w.heap.size n s x) := hB
      clear hr hx hsz hrp hneg hB
      go_enter Tryz.func143, Tryz.ntmps143
      go_wp2_with (go_at_call 144; refine (kR _).mono ?_; rintro e w1 ⟨rfl, hb⟩; obtain ⟨c0, c1, c2⟩ := hB'.out.kept hb (alloc_lt _ _))
      go_ret2
      exact ⟨rfl, box_below hb⟩
    · obtain ⟨k, rfl⟩ : ∃ k : Nat, x = k := ⟨x.toNat, by omega⟩
      have hA : Hid (wholeA n s ((k : Nat) : Int) = if s.size + k ≤ 800 then (padW s k, true) else (noS, false)) := by
        show _ = _
        unfold wholeA
        by_cases h8 : s.size + k ≤ 800
        · rw [if_pos ⟨hr, by omega, by omega⟩, if_pos h8, Int.toNat_natCast]
        · rw [if_neg (by omega), if_neg h8]
      have hrt := hrp.out k rfl
      rw [hr] at kR
      have d1 : decide (((k : Nat) : Int) < 0) = false := by simp
      have hk2 : k ≤ 2000 := by omega
      have hB' : Hid (NmAt (w.alloc (.cells #[.bool n, .string s, .int .i64 ((k : Nat) : Int)] 104)) w.heap.size n s ((k : Nat) : Int)) := hB
      have hrt' : Hid (rt (padW s k) = decide (s.size + k ≤ 800)) := hrt
      have hsz' : Hid (s.size ≤ 800) := hsz
      clear hr hx hsz hrp hneg hB hrt
      generalize wholeA n s ((k : Nat) : Int) = WA at *
      go_enter Tryz.func143, Tryz.ntmps143
      go_wp2_with fail
      refine (kR _).mono ?_
      rintro e w1 ⟨rfl, hb⟩
      have hN1 := hB'.out.kept hb (alloc_lt _ _)
      have d2 := box_below hb
      obtain ⟨c0, c1, c2⟩ := id hN1
      have hcv := Lib.run_convert_string_bytes (P := Tryz.prog) w1 9 22 5 s Tryz.underlying9 Tryz.underlying22 Tryz.underlying5
      have hO := own_conv w1 s (by have := hsz'.out; omega)
      have hbw : Below w1.heap.size w1 (Lib.bytesWorld w1 5 s) := conv_below w1 s
      have hN2 := hN1.kept hbw (Nat.lt_of_lt_of_le (alloc_lt _ _) hb.size)
      generalize Lib.bytesWorld w1 5 s = W2 at *
      generalize grownCap w1 s.size 0 5 = cap2 at *
      obtain ⟨e0, e1, e2⟩ := hN2
      have hO' : Hid (OwnsM W2 w.heap.size (.slice (some ⟨w1.heap.size, 0, none⟩) s.size cap2) (bs s)) := by
        obtain ⟨q0, g, cap, q1, q2, q3⟩ := hO
        exact ⟨q0, g, cap, q1, Nat.le_trans d2.size q2, q3⟩
      have d3 : Hid (Below w.heap.size w W2) := d2.trans (hbw.mono d2.size)
      clear hO hbw d2 hb hN1 kR
      go_wp2
      go_loopw [4, 19] (fun v iv wr => ∃ j : Nat, j ≤ k ∧ iv = .int .i64 j ∧ Hid (OwnsM wr w.heap.size v (bs s ++ zerosL j)) ∧ Hid (Below w.heap.size w wr)) (fun _ iv _ => k - (intOf iv).toNat)
      case atStart => exact ⟨0, Nat.zero_le _, rfl, (by show OwnsM _ _ _ _; rw [show zerosL 0 = [] from rfl, List.append_nil]; exact hO'.out), d3⟩
      case round =>
        obtain ⟨j, hj, rfl, hOj, hbj⟩ := hrel
        clear hO' d3 e0 e1 e2 c0 c1 c2 hcv
        by_cases hlt : j < k
        · have hlj : Hid ((bs s ++ zerosL j).length + 1 ≤ 10000000) := by have := hsz'.out; show _ ≤ _; rw [List.length_append, bs_len]; unfold zerosL; rw [List.length_replicate]; omega
          have hbs := hbj.out.size
          have wj : IntKind.i64.wrap (((j : Nat) : Int) + 1) = ((j : Nat) : Int) + 1 := by rw [IntKind.wrap_i64] <;> omega
          have hlt' : ((j : Nat) : Int) < ((k : Nat) : Int) := by omega
          go_wp2_with (at_builtin; refine wpList_append_m rfl _ _ rfl w.heap.size _ (bs s ++ zerosL j) 48 (by decide) rfl (hOj.out.below (alloc_below wr _)) _ rfl (cell48 wr) hlj.out (Nat.le_trans hbs (Nat.le_of_lt (alloc_lt wr _))) ?_; intro v' w9 ho9 hb9)
          have ho9' : Hid (OwnsM w9 w.heap.size v' (bs s ++ zerosL (j + 1))) := by show OwnsM _ _ _ _; rw [← zeros_snoc, ← List.append_assoc]; exact ho9
          have d9 : Hid (Below w.heap.size w w9) := (hbj.out.alloc hbs _).trans hb9
          clear ho9 hb9
          go_roundw
          case rel => exact ⟨j + 1, by omega, by go_num, ho9', d9⟩
          case measure => simp [intOf]; omega
        · obtain rfl : j = k := by omega
          obtain ⟨g, m, cap, rfl, hm, hmc, hcm, hBy⟩ := hOj.out.form
          have cv := conv_str hBy.out m cap hm.out
          have e : strOfNums (bs s ++ zerosL j) = padW s j := rfl
          rw [e] at cv
          have kQ := right_any (padW s j)
          rw [hrt'.out] at kQ
          clear hlt hBy hOj e
          by_cases h8 : s.size + j ≤ 800
          · have hWA := hA.out
            rw [if_pos h8] at hWA
            subst hWA
            rw [show decide (s.size + j ≤ 800) = true from by simpa using h8] at kQ
            clear h8 hrt'
            go_wp2_with (go_at_call 142; refine (kQ _).mono ?_; rintro e w5 ⟨rfl, hw5⟩; rw [hw5]; clear hw5)
            go_ret2
            exact ⟨rfl, hbj.out⟩
          · have hWA := hA.out
            rw [if_neg h8] at hWA
            subst hWA
            rw [show decide (s.size + j ≤ 800) = false from by simpa using h8] at kQ
            clear h8 hrt'
            generalize padW s j = PW at *
            go_wp2_with (go_at_call 142; refine (kQ _).mono ?_; rintro e w5 ⟨rfl, hw5⟩; rw [hw5]; clear hw5)
            go_ret2
            exact ⟨rfl, hbj.out⟩
end Go.Proofs.YtnjbppfanmmifaaGreatDoor
namespace Go.Proofs.YtnjbppfanmmifaaGreatDoor
open Go.RowKit
set_option linter.unusedVariables false

theorem beq_of {s t : ByteArray} (v : Bool) (h : v = true ↔ s = t) : (s.toList == t.toList) = v := by
  rw [Bool.eq_iff_iff, h, beq_iff_eq, ByteArray.toList_eq, ByteArray.toList_eq]
  constructor
  · intro e
    cases s; cases t
    simp only at e
    rw [Array.toList_inj.1 e]
  · intro e; rw [e]
theorem not_true {v : Bool} {p : Prop} (h : v = true ↔ p) (hp : ¬ p) : v = false := by
  cases v with
  | false => rfl
  | true => exact absurd (h.1 rfl) hp

set_option maxHeartbeats 8000000 in
set_option maxRecDepth 100000 in
/-- tree.same, one level more. -/
theorem same_step {D : Nat} (ih : SameAt D) (t u : Tr) (a b : Nb) (w : World) (v : Bool) (hA : Nd (D + 1) w a t) (hB : Nd (D + 1) w b u) (hv : v = true ↔ t = u) :
    Calls Tryz.prog 75 #[.agg a.arr, .agg b.arr] w fun e w' => e = .returned (.bool v) ∧ Below w.heap.size w w' := by
  have e36 : ∀ args w, (callFunc 75 args).run Tryz.prog w = .ok (.enter 75 args) w := enters_of Tryz.func75 (by kernel_rfl) rfl
  have hal := alloc_below w (.cells a.arr 26)
  have hal2 := alloc_below (w.alloc (.cells a.arr 26)) (.cells b.arr 26)
  have hb2 : Hid (Below w.heap.size w ((w.alloc (.cells a.arr 26)).alloc (.cells b.arr 26))) := hal.trans (hal2.mono hal.size)
  have hs2 : Hid (w.heap.size ≤ ((w.alloc (.cells a.arr 26)).alloc (.cells b.arr 26)).heap.size) := Nat.le_trans hal.size hal2.size
  have boxA := (nbox_new w a).kept hal2 (by simp)
  have boxB := nbox_new (w.alloc (.cells a.arr 26)) b
  have s1 : (w.alloc (.cells a.arr 26)).heap.size = w.heap.size + 1 := by simp
  rw [s1] at boxB
  obtain ⟨a0, a1, a2, a3, a4, a5, a6, a7, a8⟩ := boxA.fields
  obtain ⟨b0, b1, b2, b3, b4, b5, b6, b7, b8⟩ := boxB.fields
  obtain ⟨⟨x0, x1, x2, x3, x4, x5⟩, _, ⟨xl, xr, xb⟩, xk, xi⟩ := hA
  obtain ⟨⟨y0, y1, y2, y3, y4, y5⟩, _, ⟨yl, yr, yb⟩, yk, yi⟩ := hB
  have kq := fun v' h => beq_any a.ab b.ab a.lb b.lb a.cb b.cb t.bytes u.bytes ((w.alloc (.cells a.arr 26)).alloc (.cells b.arr 26)) xl yl ((xb.kept hal).kept hal2) ((yb.kept hal).kept hal2) v' h
  have kK : Hid (∀ w', Below w.heap.size w w' → ∀ v' : Bool, (v' = true ↔ t.keys = u.keys) → Calls Tryz.prog 115 #[.slice a.ak a.lk a.ck, .slice b.ak b.lk b.ck, .func (.func 75) #[] #[]] w' fun e w'' => e = .returned (.bool v') ∧ Below w'.heap.size w' w'') := fun w' hb v' h => eqf_any ih _ _ _ _ _ _ _ _ w' (xk.kept hb fun _ _ _ q => q.kept hb) (yk.kept hb fun _ _ _ q => q.kept hb) v' h
  have kI : Hid (∀ w', Below w.heap.size w w' → ∀ v' : Bool, (v' = true ↔ t.kids = u.kids) → Calls Tryz.prog 115 #[.slice a.ai a.li a.ci, .slice b.ai b.li b.ci, .func (.func 75) #[] #[]] w' fun e w'' => e = .returned (.bool v') ∧ Below w'.heap.size w' w'') := fun w' hb v' h => eqf_any ih _ _ _ _ _ _ _ _ w' (xi.kept hb fun _ _ _ q => q.kept hb) (yi.kept hb fun _ _ _ q => q.kept hb) v' h
  have hKa : Hid (NBox ((w.alloc (.cells a.arr 26)).alloc (.cells b.arr 26)) w.heap.size a) := boxA
  have hKb : Hid (NBox ((w.alloc (.cells a.arr 26)).alloc (.cells b.arr 26)) (w.heap.size + 1) b) := boxB
  have hsz : Hid (w.heap.size + 1 < ((w.alloc (.cells a.arr 26)).alloc (.cells b.arr 26)).heap.size) := by show _ < _; simp
  have hE : Hid (t = u ↔ a.kind = b.kind ∧ a.num = b.num ∧ a.neg = b.neg ∧ a.dig = b.dig ∧ a.exp = b.exp ∧ a.txt = b.txt ∧ t.bytes = u.bytes ∧ t.keys = u.keys ∧ t.kids = u.kids) := by
    show _ ↔ _
    rw [x0, x1, x2, x3, x4, x5, y0, y1, y2, y3, y4, y5]
    exact ⟨fun h => by subst h; exact ⟨rfl, rfl, rfl, rfl, rfl, rfl, rfl, rfl, rfl⟩, fun ⟨h0, h1, h2, h3, h4, h5, h6, h7, h8⟩ => Tr.mk_eq h0 h1 h2 h3 h4 h5 h6 h7 h8⟩
  have hV : Hid (v = true ↔ t = u) := hv
  clear x0 x1 x2 x3 x4 x5 y0 y1 y2 y3 y4 y5 xl yl xb yb xr yr xk xi yk yi hal hal2 boxA boxB s1 hv ih
  by_cases hN : a.kind = b.kind
  · have q0 : (a.kind == b.kind) = true := by rw [hN]; exact beq_self_eq_true _
    have e0 : Hid (a.kind = b.kind) := hN
    clear hN
    by_cases hN : a.num = b.num
    · have q1 : (a.num == b.num) = true := by rw [hN]; exact beq_self_eq_true _
      have e1 : Hid (a.num = b.num) := hN
      clear hN
      by_cases hN : a.neg = b.neg
      · have q2 : (a.neg == b.neg) = true := by rw [hN]; exact beq_self_eq_true _
        have e2 : Hid (a.neg = b.neg) := hN
        clear hN
        by_cases hN : a.dig = b.dig
        · have q3 := beq_of (s := a.dig) (t := b.dig) true (by simp [hN])
          have e3 : Hid (a.dig = b.dig) := hN
          clear hN
          by_cases hN : a.exp = b.exp
          · have q4 : (a.exp == b.exp) = true := by rw [hN]; exact beq_self_eq_true _
            have e4 : Hid (a.exp = b.exp) := hN
            clear hN
            by_cases hN : a.txt = b.txt
            · have q5 := beq_of (s := a.txt) (t := b.txt) true (by simp [hN])
              have e5 : Hid (a.txt = b.txt) := hN
              clear hN
              by_cases hN : t.bytes = u.bytes
              · have k1 := kq true (by simp [hN])
                have e6 : Hid (t.bytes = u.bytes) := hN
                clear hN kq
                by_cases hN : t.keys = u.keys
                · have k2 := kK.out _ hb2.out true (by simp [hN])
                  have e7 : Hid (t.keys = u.keys) := hN
                  clear hN kK
                  by_cases hN : t.kids = u.kids
                  · have k4 := fun w' hb => kI.out w' hb true (by simp [hN])
                    have hvt : v = true := hV.out.2 (hE.out.2 ⟨e0.out, e1.out, e2.out, e3.out, e4.out, e5.out, e6.out, e7.out, hN⟩)
                    subst hvt
                    clear hN kI
                    go_enter Tryz.func75, Tryz.ntmps75
                    go_wp2_with (first
                      | (go_at_call 114; refine k1.mono ?_; rintro e w1 ⟨rfl, hw⟩; subst hw)
                      | (go_at_call 115; refine k2.mono ?_; rintro e w2 ⟨rfl, hb3⟩; clear k2; obtain ⟨c0, c1, c2, c3, c4, c5, c6, c7, c8⟩ := (hKa.out.kept hb3 (Nat.lt_of_le_of_lt (Nat.le_succ _) hsz.out)).fields; obtain ⟨d0, d1, d2, d3, d4, d5, d6, d7, d8⟩ := (hKb.out.kept hb3 hsz.out).fields; have hbw := hb2.out.trans (hb3.mono hs2.out); have k3 := k4 w2 hbw)
                      | (go_at_call 115; refine k3.mono ?_; rintro e w3 ⟨rfl, hb4⟩))
                    go_ret
                    exact ⟨rfl, hbw.trans (hb4.mono hbw.size)⟩
                  · have k4 := fun w' hb => kI.out w' hb false (by simp [hN])
                    have hvf : v = false := not_true hV.out (fun h => hN (hE.out.1 h).2.2.2.2.2.2.2.2)
                    subst hvf
                    clear hN kI
                    go_enter Tryz.func75, Tryz.ntmps75
                    go_wp2_with (first
                      | (go_at_call 114; refine k1.mono ?_; rintro e w1 ⟨rfl, hw⟩; subst hw)
                      | (go_at_call 115; refine k2.mono ?_; rintro e w2 ⟨rfl, hb3⟩; clear k2; obtain ⟨c0, c1, c2, c3, c4, c5, c6, c7, c8⟩ := (hKa.out.kept hb3 (Nat.lt_of_le_of_lt (Nat.le_succ _) hsz.out)).fields; obtain ⟨d0, d1, d2, d3, d4, d5, d6, d7, d8⟩ := (hKb.out.kept hb3 hsz.out).fields; have hbw := hb2.out.trans (hb3.mono hs2.out); have k3 := k4 w2 hbw)
                      | (go_at_call 115; refine k3.mono ?_; rintro e w3 ⟨rfl, hb4⟩))
                    go_ret
                    exact ⟨rfl, hbw.trans (hb4.mono hbw.size)⟩
                · have k2 := kK.out _ hb2.out false (by simp [hN])
                  have hvf : v = false := not_true hV.out (fun h => hN (hE.out.1 h).2.2.2.2.2.2.2.1)
                  subst hvf
                  clear hN kK kI
                  go_enter Tryz.func75, Tryz.ntmps75
                  go_wp2_with (first
                    | (go_at_call 114; refine k1.mono ?_; rintro e w1 ⟨rfl, hw⟩; subst hw)
                    | (go_at_call 115; refine k2.mono ?_; rintro e w2 ⟨rfl, hb3⟩; clear k2))
                  go_ret
                  exact ⟨rfl, hb2.out.trans (hb3.mono hs2.out)⟩
              · have k1 := kq false (by simp [hN])
                have hvf : v = false := not_true hV.out (fun h => hN (hE.out.1 h).2.2.2.2.2.2.1)
                subst hvf
                clear hN kq
                go_enter Tryz.func75, Tryz.ntmps75
                go_wp2_with (go_at_call 114; refine k1.mono ?_; rintro e w1 ⟨rfl, hw⟩; subst hw)
                go_ret
                exact ⟨rfl, hb2.out⟩
            · have q5 := beq_of (s := a.txt) (t := b.txt) false (by simp [hN])
              have hvf : v = false := not_true hV.out (fun h => hN (hE.out.1 h).2.2.2.2.2.1)
              subst hvf
              clear hN
              go_enter Tryz.func75, Tryz.ntmps75
              go_wp2
              go_ret
              exact ⟨rfl, hb2.out⟩
          · have q4 : (a.exp == b.exp) = false := by simp [hN]
            have hvf : v = false := not_true hV.out (fun h => hN (hE.out.1 h).2.2.2.2.1)
            subst hvf
            clear hN
            go_enter Tryz.func75, Tryz.ntmps75
            go_wp2
            go_ret
            exact ⟨rfl, hb2.out⟩
        · have q3 := beq_of (s := a.dig) (t := b.dig) false (by simp [hN])
          have hvf : v = false := not_true hV.out (fun h => hN (hE.out.1 h).2.2.2.1)
          subst hvf
          clear hN
          go_enter Tryz.func75, Tryz.ntmps75
          go_wp2
          go_ret
          exact ⟨rfl, hb2.out⟩
      · have q2 : (a.neg == b.neg) = false := by simp [hN]
        have hvf : v = false := not_true hV.out (fun h => hN (hE.out.1 h).2.2.1)
        subst hvf
        clear hN
        go_enter Tryz.func75, Tryz.ntmps75
        go_wp2
        go_ret
        exact ⟨rfl, hb2.out⟩
    · have q1 : (a.num == b.num) = false := by simp [hN]
      have hvf : v = false := not_true hV.out (fun h => hN (hE.out.1 h).2.1)
      subst hvf
      clear hN
      go_enter Tryz.func75, Tryz.ntmps75
      go_wp2
      go_ret
      exact ⟨rfl, hb2.out⟩
  · have q0 : (a.kind == b.kind) = false := by simp [hN]
    have hvf : v = false := not_true hV.out (fun h => hN (hE.out.1 h).1)
    subst hvf
    clear hN
    go_enter Tryz.func75, Tryz.ntmps75
    go_wp2
    go_ret
    exact ⟨rfl, hb2.out⟩

theorem same_all : ∀ D, SameAt D := by
  intro D
  induction D with
  | zero => intro t u a b w v h; exact absurd h id
  | succ D ih => exact fun t u a b w v hA hB hv => same_step ih t u a b w v hA hB hv
/-- tree.same. -/
theorem sam_any {D E : Nat} {t u : Tr} {a b : Nb} {w : World} {v : Bool} (hA : Nd D w a t) (hB : Nd E w b u) (hv : v = true ↔ t = u) : Calls Tryz.prog 75 #[.agg a.arr, .agg b.arr] w fun e w' => e = .returned (.bool v) ∧ Below w.heap.size w w' :=
  same_all (max D E) t u a b w v (hA.le (Nat.le_max_left _ _)) (hB.le (Nat.le_max_right _ _)) hv
end Go.Proofs.YtnjbppfanmmifaaGreatDoor
