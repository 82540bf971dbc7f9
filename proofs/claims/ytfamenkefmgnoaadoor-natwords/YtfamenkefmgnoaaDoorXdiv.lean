/-
  The document's side: quotients.
-/
import Derived.Test.YtfamenkefmgnoaaDoorXtell
import Derived.Test.YtfamenkefmgnoaaDoorDiv
namespace Go.Proofs.YtfamenkefmgnoaaDoor
open Go.RowKit

theorem val_take {s : List Int} {k : Nat} (hk : k < s.length) : valS (s.take (k + 1)) = valS (s.take k) * 10 + (s.getD k 0 - 48).toNat := by
  have e : s.take (k + 1) = s.take k ++ [s.getD k 0] := by
    rw [List.take_succ_eq_append_getElem hk, List.getD_eq_getElem?_getD, List.getElem?_eq_getElem hk]; rfl
  rw [e, val_snoc]
theorem intsN_cons (q : Nat) (o : List Nat) : intsN (q :: o) = [(q : Int)] ++ intsN o := rfl
theorem div_unique {q r d v : Nat} (hd : 0 < d) (hr : r < d) (h : q * d + r = v) : q = v / d ∧ r = v % d := by
  subst h
  constructor
  · rw [Nat.add_comm, Nat.add_mul_div_right _ _ hd, Nat.div_eq_of_lt hr, Nat.zero_add]
  · rw [Nat.add_comm, Nat.add_mul_mod_self_right, Nat.mod_eq_of_lt hr]
theorem xdiv_step {o : List Nat} {d r v X : Nat} (c : Nat) (h : lowV o * d + r = v) (hX : r * 10 + c = X) : lowV (X / d :: o) * d + X % d = v * 10 + c := by
  have h1 := Nat.div_add_mod X d
  show (X / d + 10 * lowV o) * d + X % d = _
  rw [Nat.add_mul, Nat.mul_assoc, Nat.mul_comm (X / d) d, ← h]
  omega
set_option maxRecDepth 100000 in
set_option maxHeartbeats 1000000 in
theorem xdi_any (a : ByteArray) (D : Nat) (w : World) (hdg : Digs (bs a)) (hsz : a.size ≤ 100000) (hD : 1 ≤ D ∧ D ≤ 1000000) :
    Calls Tryd.prog 45 #[.string a, .int .i64 D] w fun e w' => e = .returned (.tuple #[.string (txt (val a / D)), .int .i64 (val a % D : Nat)]) ∧ Below w.heap.size w w' := by
  have hG : Hid (Digs (bs a)) := hdg
  obtain ⟨Qs, hQs⟩ : ∃ Qs, txt (val a / D) = Qs := ⟨_, rfl⟩
  obtain ⟨Rs, hRs⟩ : ∃ Rs, val a % D = Rs := ⟨_, rfl⟩
  rw [hQs, hRs]
  have hQ' : Hid (txt (val a / D) = Qs) := hQs
  have hR' : Hid (val a % D = Rs) := hRs
  have hD0 : ((D : Int) = 0) = False := by simp; omega
  clear hQs hRs hdg
  go_enter Tryd.func45, Tryd.ntmps45
  go_wp2
  go_loopw [6, 7, 8] (fun rv v iv wr => ∃ (k r : Nat) (o : List Nat), k ≤ a.size ∧ iv = .int .i64 k ∧ rv = .int .i64 r ∧ r < D ∧ Hid (o.length = k) ∧ Hid (∀ d ∈ o, d < 10) ∧ Hid (OwnsI wr w.heap.size v (intsN o)) ∧ Hid (lowV o * D + r = valS ((bs a).take k)) ∧ Hid (Below w.heap.size w wr)) (fun _ _ iv _ => a.size - (intOf iv).toNat)
  case atStart => exact ⟨0, 0, [], Nat.zero_le _, rfl, rfl, by omega, rfl, (fun _ h => by cases h), ownsI_nil _ _, (by show 0 * D + 0 = 0; omega), Below.refl _ _⟩
  case round =>
    obtain ⟨k, r, o, hk, rfl, rfl, hr, hol, hd, hO, hv, hbl⟩ := hrel
    have hbs : w.heap.size ≤ wr.heap.size := hbl.out.size
    by_cases hlt : k < a.size
    · have hkb : k < (bs a).length := by rw [bs_len]; exact hlt
      have hb := bs_at a hlt
      have hds := hG.out _ (getD_mem hkb)
      have hvt := val_take hkb
      obtain ⟨c, hc⟩ : ∃ c : Nat, (((a[k]'hlt).toNat : Nat) : Int) = 48 + (c : Int) := ⟨((bs a).getD k 0 - 48).toNat, by omega⟩
      have hc9 : c ≤ 9 := by omega
      have hcc : ((bs a).getD k 0 - 48).toNat = c := by omega
      rw [hcc] at hvt
      obtain ⟨X, hX⟩ : ∃ X, r * 10 + c = X := ⟨_, rfl⟩
      have hst : Hid (lowV (X / D :: o) * D + X % D = valS ((bs a).take (k + 1))) := by rw [hvt]; exact xdiv_step c hv.out hX
      have hq : X / D < 10 := by rw [Nat.div_lt_iff_lt_mul (by omega)]; omega
      have hm : X % D < D := Nat.mod_lt _ (by omega)
      have w1 : IntKind.u8.wrap (48 + (c : Int) - 48) = (c : Int) := by rw [IntKind.wrap_u8]; omega
      have w1' : 48 + (c : Int) - 48 = (c : Int) := by omega
      have w2 : IntKind.i64.wrap (c : Int) = (c : Int) := wrap_fit (by omega) (by omega)
      have w3 : IntKind.i64.wrap ((r : Int) * 10) = (r : Int) * 10 := wrap_fit (by omega) (by omega)
      have w4 : IntKind.i64.wrap ((r : Int) * 10 + (c : Int)) = (X : Int) := by rw [wrap_fit (by omega) (by omega)]; omega
      have q1 : Int.tdiv (X : Int) (D : Int) = ((X / D : Nat) : Int) := rfl
      have q2 : Int.tmod (X : Int) (D : Int) = ((X % D : Nat) : Int) := rfl
      have hd' : Hid (∀ x ∈ X / D :: o, x < 10) := fun x hx => by
        rcases List.mem_cons.1 hx with h1 | h1
        · rw [h1]; exact hq
        · exact hd.out x h1
      have hXb : X ≤ 10000009 := by omega
      obtain ⟨Q, hQ⟩ : ∃ Q, X / D = Q := ⟨_, rfl⟩
      obtain ⟨M, hM⟩ : ∃ M, X % D = M := ⟨_, rfl⟩
      rw [hQ] at hst hq q1 hd'
      have q3 : IntKind.i64.wrap (Q : Int) = (Q : Int) := wrap_fit (by omega) (by omega)
      rw [hM] at hst hm q2
      obtain ⟨a7, n7, c7, rfl, hn7, hnc7, -, -, hI7⟩ := (hO.out.alloc (.cells #[.int .i64 (Q : Int)] 3)).form
      have hlit : Hid (OwnsI (wr.alloc (.cells #[.int .i64 (Q : Int)] 3)) w.heap.size (.slice (some ⟨wr.heap.size, 0, none⟩) 1 1) [(Q : Int)]) := World.ownsRow_lit wr #[.int .i64 (Q : Int)] 1 hbs (by decide) rfl
      have hlen7 : Hid ((intsN o).length ≤ 100000) := by show _ ≤ _; rw [intsN_len, hol.out]; omega
      have e1 : ((X : Nat) : Int) / (D : Int) = (Q : Int) := by rw [← hQ]; exact (Int.natCast_ediv _ _).symm
      have e2 : ((X : Nat) : Int) % (D : Int) = (M : Int) := by rw [← hM]; exact (Int.natCast_emod _ _).symm
      clear hb hds hvt hcc hX hq hXb hQ hM hkb
      go_wp2_with (at_builtin; refine wpList_append_ints rfl _ _ rfl w.heap.size _ [(Q : Int)] (intsN o) rfl hlit.out _ n7 c7 rfl hn7.out hnc7.out hI7.out (by have := hlen7.out; simp; omega) (by simp; omega) ?_; intro v' w9 ho9 hg9)
      go_roundw
      case rel => exact ⟨k + 1, M, Q :: o, by omega, by go_num, by first | rfl | simp, hm, (by show _ = _; rw [List.length_cons, hol.out]), hd', ho9, hst, (hbl.out.alloc hbs _).grown hg9 (by simp; omega) (by intro j hj; cases hj; exact hbs)⟩
      case measure => simp [intOf]; omega
    · obtain rfl : k = a.size := by omega
      have hvv := hv.out
      rw [List.take_of_length_le (by rw [bs_len]; exact Nat.le_refl _)] at hvv
      obtain ⟨u1, u2⟩ := div_unique (v := val a) (by omega) hr hvv
      obtain ⟨a7, n7, c7, rfl, hn7, hnc7, -, -, hI7⟩ := hO.out.form
      have hlen := hn7.out
      rw [intsN_len] at hlen
      have kt := text_any a7 n7 c7 o wr hlen hI7.out (fun x hx => by have := hd.out x hx; omega) (by rw [← hlen, hol.out]; exact hsz)
      rw [u1, hQ'.out] at kt
      have hrr : Hid (r = Rs) := by show _ = _; rw [u2]; exact hR'.out
      clear hvv u1 u2 hlen
      go_wp2_with (go_at_call 41; refine kt.mono ?_; rintro e w9 ⟨rfl, hb9⟩)
      go_ret2
      exact ⟨by rw [hrr.out]; rfl, hbl.out.trans (hb9.mono hbs)⟩

set_option maxRecDepth 100000 in
set_option maxHeartbeats 1000000 in
theorem xdiv_any (a : ByteArray) (d : Int) (hdb : -9223372036854775808 ≤ d ∧ d ≤ 9223372036854775807) (w : World) :
    Calls Tryd.prog 21 #[.string a, .int .i64 d] w fun e w' => e = .returned (.tuple #[.string (divA a d).1, .int .i64 (divA a d).2.1, .int .i64 (divA a d).2.2]) ∧ Below w.heap.size w w' := by
  by_cases hok : rt a = true ∧ 1 ≤ d ∧ d ≤ 1000000
  · have e : divA a d = (txt (val a / d.toNat), ((val a % d.toNat : Nat) : Int), 0) := by unfold divA; rw [if_pos hok]
    rw [e]
    obtain ⟨ha, hd1, hd2⟩ := hok
    have ra := (rt_iff a).1 ha
    have sa := rt_size ha
    obtain ⟨D, rfl⟩ : ∃ D : Nat, d = D := ⟨d.toNat, by omega⟩
    rw [Int.toNat_natCast]
    have kD := xdi_any a D w ra.1.2.1 (by omega) (by omega)
    have d1 : decide ((D : Int) < 1) = false := by simp; omega
    have d2 : decide (1000000 < (D : Int)) = false := by simp; omega
    clear e ra hd1 hd2 hdb sa
    generalize txt (val a / D) = Qs at *
    generalize val a % D = Rs at *
    go_enter Tryd.func21, Tryd.ntmps21
    go_wp2_with (first
      | (go_at_call 18; refine (xright_any _ _).mono ?_; rintro e w1 ⟨rfl, hw⟩; obtain rfl : w = w1 := hw.symm; rw [ha])
      | (go_at_call 45; refine kD.mono ?_; rintro e w9 ⟨rfl, hb9⟩))
    go_ret3
    exact ⟨rfl, hb9⟩
  · have e : divA a d = (noS, 0, 1) := by unfold divA; rw [if_neg hok]
    rw [e]
    clear e
    cases ha : rt a with
    | false =>
      clear hok
      go_enter Tryd.func21, Tryd.ntmps21
      go_wp2_with (go_at_call 18; refine (xright_any _ _).mono ?_; rintro e w1 ⟨rfl, hw⟩; obtain rfl : w = w1 := hw.symm; rw [ha])
      go_ret3
      exact ⟨rfl, Below.refl _ _⟩
    | true =>
      by_cases c1 : d < 1
      · have d1 : decide (d < 1) = true := by simpa using c1
        clear hok c1
        go_enter Tryd.func21, Tryd.ntmps21
        go_wp2_with (go_at_call 18; refine (xright_any _ _).mono ?_; rintro e w1 ⟨rfl, hw⟩; obtain rfl : w = w1 := hw.symm; rw [ha])
        go_ret3
        exact ⟨rfl, Below.refl _ _⟩
      · have d1 : decide (d < 1) = false := by simpa using c1
        have hno : ¬ (1 ≤ d ∧ d ≤ 1000000) := fun h => hok ⟨ha, h⟩
        have d2 : decide (1000000 < d) = true := by simp; omega
        clear hok c1 hno
        go_enter Tryd.func21, Tryd.ntmps21
        go_wp2_with (go_at_call 18; refine (xright_any _ _).mono ?_; rintro e w1 ⟨rfl, hw⟩; obtain rfl : w = w1 := hw.symm; rw [ha])
        go_ret3
        exact ⟨rfl, Below.refl _ _⟩
end Go.Proofs.YtfamenkefmgnoaaDoor
