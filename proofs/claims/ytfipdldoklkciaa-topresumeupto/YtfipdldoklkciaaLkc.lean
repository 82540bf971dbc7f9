/-
  A message packed.
-/
import Derived.Test.YtfipdldoklkciaaLkd
import Derived.Test.YtfipdldoklkciaaGae
import Derived.Test.YtfipdldoklkciaaGac
namespace Go.Proofs.Ytfipdldoklkciaa
open Go.RowKit
set_option linter.unusedVariables false
theorem pack_arg (m : Mg) (a : Option Addr) (n c : Nat) (w : World) (h : mayM m = false) :
    Calls Try.prog 11 #[mval m a n c] w fun e w' => e = .returned (.tuple #[.slice none 0 0, .int .i64 1]) ∧ Hid (Below w.heap.size w w') := by
  have k0 := fun x => may_m m a n c x
  rw [h] at k0
  unfold mval at *
  clear h
  go_enter Try.func11, Try.ntmps11
  go_wp2_with (go_at_call 35; refine (k0 _).mono ?_; rintro e w1 ⟨rfl, hb1⟩; clear k0; have hB : Hid (Below w.heap.size w w1) := ((Below.refl w.heap.size w).alloc (Nat.le_refl _) _).trans (hb1.mono (by simp)); clear hb1)
  go_ret2
  exact ⟨rfl, hB⟩
def PkR (w w' : World) (m : Mg) (v : Value) : Prop := (pkE m = 0 → OwnsB w' w.heap.size v (pkB m)) ∧ (pkE m ≠ 0 → v = .slice none 0 0)
theorem idx8_0 (n0 n1 n2 n3 n4 n5 n6 n7 : Int) (W : World) : (Instr.index 81 (.agg #[.int .u64 n0, .int .u64 n1, .int .u64 n2, .int .u64 n3, .int .u64 n4, .int .u64 n5, .int .u64 n6, .int .u64 n7]) (.int .i64 ((0 : Nat) : Int))).run Try.prog W = .ok (.int .u64 n0) W := by kernel_rfl
theorem idx8_1 (n0 n1 n2 n3 n4 n5 n6 n7 : Int) (W : World) : (Instr.index 81 (.agg #[.int .u64 n0, .int .u64 n1, .int .u64 n2, .int .u64 n3, .int .u64 n4, .int .u64 n5, .int .u64 n6, .int .u64 n7]) (.int .i64 ((1 : Nat) : Int))).run Try.prog W = .ok (.int .u64 n1) W := by kernel_rfl
theorem idx8_2 (n0 n1 n2 n3 n4 n5 n6 n7 : Int) (W : World) : (Instr.index 81 (.agg #[.int .u64 n0, .int .u64 n1, .int .u64 n2, .int .u64 n3, .int .u64 n4, .int .u64 n5, .int .u64 n6, .int .u64 n7]) (.int .i64 ((2 : Nat) : Int))).run Try.prog W = .ok (.int .u64 n2) W := by kernel_rfl
theorem idx8_3 (n0 n1 n2 n3 n4 n5 n6 n7 : Int) (W : World) : (Instr.index 81 (.agg #[.int .u64 n0, .int .u64 n1, .int .u64 n2, .int .u64 n3, .int .u64 n4, .int .u64 n5, .int .u64 n6, .int .u64 n7]) (.int .i64 ((3 : Nat) : Int))).run Try.prog W = .ok (.int .u64 n3) W := by kernel_rfl
theorem idx8_4 (n0 n1 n2 n3 n4 n5 n6 n7 : Int) (W : World) : (Instr.index 81 (.agg #[.int .u64 n0, .int .u64 n1, .int .u64 n2, .int .u64 n3, .int .u64 n4, .int .u64 n5, .int .u64 n6, .int .u64 n7]) (.int .i64 ((4 : Nat) : Int))).run Try.prog W = .ok (.int .u64 n4) W := by kernel_rfl
theorem idx8_5 (n0 n1 n2 n3 n4 n5 n6 n7 : Int) (W : World) : (Instr.index 81 (.agg #[.int .u64 n0, .int .u64 n1, .int .u64 n2, .int .u64 n3, .int .u64 n4, .int .u64 n5, .int .u64 n6, .int .u64 n7]) (.int .i64 ((5 : Nat) : Int))).run Try.prog W = .ok (.int .u64 n5) W := by kernel_rfl
theorem idx8_6 (n0 n1 n2 n3 n4 n5 n6 n7 : Int) (W : World) : (Instr.index 81 (.agg #[.int .u64 n0, .int .u64 n1, .int .u64 n2, .int .u64 n3, .int .u64 n4, .int .u64 n5, .int .u64 n6, .int .u64 n7]) (.int .i64 ((6 : Nat) : Int))).run Try.prog W = .ok (.int .u64 n6) W := by kernel_rfl
theorem idx8_7 (n0 n1 n2 n3 n4 n5 n6 n7 : Int) (W : World) : (Instr.index 81 (.agg #[.int .u64 n0, .int .u64 n1, .int .u64 n2, .int .u64 n3, .int .u64 n4, .int .u64 n5, .int .u64 n6, .int .u64 n7]) (.int .i64 ((7 : Nat) : Int))).run Try.prog W = .ok (.int .u64 n7) W := by kernel_rfl
theorem idx_nums (m : Mg) (h : mayM m = true) (ho : Mok m) (k : Nat) (hk : k < 8) (W : World) :
    (Instr.index 81 (.agg #[.int .u64 m.kind, .int .u64 m.tok, .int .u64 m.ep, .int .u64 m.seq, .int .u64 m.ack, .int .u64 m.bits, .int .u64 m.cred, .int .u64 m.fmt]) (.int .i64 (k : Nat))).run Try.prog W = .ok (.int .u64 (((nums m).getD k 0 : Nat) : Int)) W := by
  have h1 := mayM_iff.1 h
  have h2 := ho.t1
  have h3 := ho.b1
  have e0 : ((m.kind.toNat : Nat) : Int) = m.kind := by omega
  have e1 : ((m.tok.toNat : Nat) : Int) = m.tok := by omega
  have e2 : ((m.ep.toNat : Nat) : Int) = m.ep := by omega
  have e3 : ((m.seq.toNat : Nat) : Int) = m.seq := by omega
  have e4 : ((m.ack.toNat : Nat) : Int) = m.ack := by omega
  have e5 : ((m.bits.toNat : Nat) : Int) = m.bits := by omega
  have e6 : ((m.cred.toNat : Nat) : Int) = m.cred := by omega
  have e7 : ((m.fmt.toNat : Nat) : Int) = m.fmt := by omega
  match k, hk with
  | 0, _ => rw [show (nums m).getD 0 0 = m.kind.toNat from rfl, e0]; exact idx8_0 _ _ _ _ _ _ _ _ W
  | 1, _ => rw [show (nums m).getD 1 0 = m.tok.toNat from rfl, e1]; exact idx8_1 _ _ _ _ _ _ _ _ W
  | 2, _ => rw [show (nums m).getD 2 0 = m.ep.toNat from rfl, e2]; exact idx8_2 _ _ _ _ _ _ _ _ W
  | 3, _ => rw [show (nums m).getD 3 0 = m.seq.toNat from rfl, e3]; exact idx8_3 _ _ _ _ _ _ _ _ W
  | 4, _ => rw [show (nums m).getD 4 0 = m.ack.toNat from rfl, e4]; exact idx8_4 _ _ _ _ _ _ _ _ W
  | 5, _ => rw [show (nums m).getD 5 0 = m.bits.toNat from rfl, e5]; exact idx8_5 _ _ _ _ _ _ _ _ W
  | 6, _ => rw [show (nums m).getD 6 0 = m.cred.toNat from rfl, e6]; exact idx8_6 _ _ _ _ _ _ _ _ W
  | 7, _ => rw [show (nums m).getD 7 0 = m.fmt.toNat from rfl, e7]; exact idx8_7 _ _ _ _ _ _ _ _ W
set_option maxHeartbeats 1000000 in
set_option maxRecDepth 100000 in
theorem pack_may (m : Mg) (a : Option Addr) (n c : Nat) (w : World) (h : mayM m = true) (ho : Mok m) (hn : m.zs.length = n) (h0 : a = none → c = 0) (hb : Bytes w a m.zs) (hl : n + 200 ≤ 140737488355328) :
    Calls Try.prog 11 #[mval m a n c] w fun e w' => ∃ v, e = .returned (.tuple #[v, .int .i64 (pkE m)]) ∧ Hid (PkR w w' m v) ∧ Hid (Below w.heap.size w w') := by
  have k0 := fun x => may_m m a n c x
  rw [h] at k0
  have h1 := mayM_iff.1 h
  have k1 := fun x => nums_raw m.kind m.tok m.ep m.seq m.ack m.bits m.cred m.fmt a n c x (by omega) (by omega) (by omega) (by omega) (by omega) (by omega)
  have hI : Hid (∀ (k : Nat) (W : World), k < 8 → _) := fun k W hk => idx_nums m h ho k hk W
  have hnl : Hid (∀ x ∈ nums m, x < 18446744073709551616) := nums_lt h ho
  have hN8 : Hid ((nums m).length = 8) := rfl
  have hB0 : Hid (Bytes w a m.zs) := hb
  have hn' : Hid (m.zs.length = n) := hn
  have h0' : Hid (a = none → c = 0) := h0
  have hl' : Hid (n + 200 ≤ 140737488355328) := hl
  have hE : Hid (pkE m = if 1200 < (hdr m).length + n then 8 else 0) := by
    show _ = _
    unfold pkE
    rw [if_neg (by rw [h]; decide), hn]
  have hlen : Hid ((hdr m).length ≤ 80) := hdr_len h ho
  have hH : Hid (hdr m = hdrK (nums m) 8) := rfl
  unfold mval at *
  clear h h1 ho hb hn h0 hl
  generalize nums m = ns at *
  go_enter Try.func11, Try.ntmps11
  go_wp2_with fail
  have hbk : Hid (Blk (w.alloc (.cells #[.int .i64 m.kind, .int .u64 m.tok, .int .i64 m.ep, .int .i64 m.seq, .int .i64 m.ack, .int .u64 m.bits, .int .i64 m.cred, .int .i64 m.fmt, .slice a n c] 25)) w.heap.size _ 25) := blk_new w _ _
  have hW : Hid (Below w.heap.size w (w.alloc (.cells #[.int .i64 m.kind, .int .u64 m.tok, .int .i64 m.ep, .int .i64 m.seq, .int .i64 m.ack, .int .u64 m.bits, .int .i64 m.cred, .int .i64 m.fmt, .slice a n c] 25))) := (Below.refl w.heap.size w).alloc (Nat.le_refl _) _
  generalize (w.alloc (.cells #[.int .i64 m.kind, .int .u64 m.tok, .int .i64 m.ep, .int .i64 m.seq, .int .i64 m.ack, .int .u64 m.bits, .int .i64 m.cred, .int .i64 m.fmt, .slice a n c] 25)) = W at *
  generalize hrr : w.heap.size = r at *
  have hr : Hid (w.heap.size = r) := hrr
  clear hrr
  refine (k0 W).mono ?_
  rintro e w1 ⟨rfl, hb1⟩
  have hB1 : Hid (Below W.heap.size W w1) := hb1
  have hbk1 : Hid (Blk w1 r #[.int .i64 m.kind, .int .u64 m.tok, .int .i64 m.ep, .int .i64 m.seq, .int .i64 m.ack, .int .u64 m.bits, .int .i64 m.cred, .int .i64 m.fmt, .slice a n c] 25) := hbk.out.kept hb1
  have c0 : w1.cell? ⟨r, 0, none⟩ = some (.int .i64 m.kind) := hbk1.out.cell 0
  have c1 : w1.cell? ⟨r, 1, none⟩ = some (.int .u64 m.tok) := hbk1.out.cell 1
  have c2 : w1.cell? ⟨r, 2, none⟩ = some (.int .i64 m.ep) := hbk1.out.cell 2
  have c3 : w1.cell? ⟨r, 3, none⟩ = some (.int .i64 m.seq) := hbk1.out.cell 3
  have c4 : w1.cell? ⟨r, 4, none⟩ = some (.int .i64 m.ack) := hbk1.out.cell 4
  have c5 : w1.cell? ⟨r, 5, none⟩ = some (.int .u64 m.bits) := hbk1.out.cell 5
  have c6 : w1.cell? ⟨r, 6, none⟩ = some (.int .i64 m.cred) := hbk1.out.cell 6
  have c7 : w1.cell? ⟨r, 7, none⟩ = some (.int .i64 m.fmt) := hbk1.out.cell 7
  have c8 : w1.cell? ⟨r, 8, none⟩ = some (.slice a n c) := hbk1.out.cell 8
  clear hb1 k0
  go_wp2_with (go_at_call 36; refine (k1 _).mono ?_; rintro e w2 ⟨rfl, hb2⟩; clear k1)
  have hB2 : Hid (Below W.heap.size W w2) := hB1.out.trans (hb2.mono hB1.out.size)
  clear hB1 hb2 c0 c1 c2 c3 c4 c5 c6 c7 c8 hbk1
  go_loopw [4, 12] (fun s4 s12 wr => ∃ (k : Nat) (v : Value), k ≤ 8 ∧ s4 = v ∧ s12 = .int .i64 (k : Nat) ∧ Hid (OwnsB wr W.heap.size v (hdrK ns k)) ∧ Hid (Below W.heap.size W wr)) (fun _ i _ => 8 - (intOf i).toNat)
  case atStart => exact ⟨0, _, by omega, rfl, rfl, ownsB_nil _ _, hB2⟩
  case round =>
    obtain ⟨k, v, hk, rfl, rfl, hO, hB⟩ := hrel
    clear hB2
    obtain ⟨av, nv, cv, rfl, hnv, h0v, hlv, hmv, hbv⟩ := hO.out.form
    by_cases hlt : k < 8
    · have hd : decide ((k : Int) < 8) = true := by simp; omega
      have hi := fun W => hI.out k W hlt
      have hx : ns.getD k 0 < 18446744073709551616 := by
        rw [List.getD_eq_getElem?_getD, List.getElem?_eq_getElem (by rw [hN8.out]; omega)]
        exact hnl.out _ (List.getElem_mem _)
      have hs : hdrK ns (k + 1) = hdrK ns k ++ shortL (ns.getD k 0) := by
        rw [hdrK_succ ns (by rw [hN8.out]; omega), List.getD_eq_getElem?_getD, List.getElem?_eq_getElem (by rw [hN8.out]; omega)]
        rfl
      have hs' : Hid _ := hs
      have hkl := hdrK_len ns hnl.out k (by rw [hN8.out]; omega)
      have k2 := putShort_any av nv cv (ns.getD k 0) (hdrK ns k) wr hx hnv.out hbv.out h0v.out (by have := hnv.out; omega)
      rw [← hs] at k2
      clear hx hs hkl hnv h0v hbv hlv hmv
      generalize ns.getD k 0 = x at *
      go_wp2_with (go_at_call 37; refine k2.mono ?_; rintro e w3 ⟨v3, rfl, hO3, hb3⟩; clear k2)
      exact ⟨⟨k + 1, _, by omega, rfl, by simp, (hO3.base hB.out.size), hB.out.trans (hb3.mono hB.out.size)⟩, by simp [intOf]; omega⟩
    · have hd : decide ((k : Int) < 8) = false := by simp; omega
      obtain rfl : k = 8 := by omega
      rw [← hH.out] at hO
      have hbk3 : Hid (Blk wr r #[.int .i64 m.kind, .int .u64 m.tok, .int .i64 m.ep, .int .i64 m.seq, .int .i64 m.ack, .int .u64 m.bits, .int .i64 m.cred, .int .i64 m.fmt, .slice a n c] 25) := (hB.out.block r hbk.out.lt).trans hbk.out
      have c8 : wr.cell? ⟨r, 8, none⟩ = some (.slice a n c) := hbk3.out.cell 8
      have hBz : Hid (Bytes wr a m.zs) := (hB0.out.below (B := r) hW.out (fun x hx hne => by subst hx; have := hB0.out.lt hne; have := hr.out; omega)).kept hB.out
      clear hlt hI hnv h0v hbv hlv hmv hbk3
      go_wp2_with (at_builtin; refine wpList_append_bytes rfl _ _ rfl W.heap.size _ (hdr m) m.zs rfl hO.out a n c rfl hn'.out h0'.out hBz.out (by have := hlen.out; have := hn'.out; have := hl'.out; omega) hB.out.size ?_; intro v4 w4 hO4 hg4; have hb4 : Hid (Below W.heap.size W w4) := grown_below hB.out hO.out hg4 hB.out.size; have hO4' : Hid (OwnsB w4 W.heap.size v4 (hdr m ++ m.zs)) := hO4; clear hg4 hO4; obtain ⟨a4, n4, c4, rfl, hn4, h04, hl4, hm4, hby4⟩ := hO4'.out.form)
      have hlx : Hid ((hdr m ++ m.zs).length = (hdr m).length + n) := by show _ = _; rw [List.length_append, hn'.out]
      have hBw : Hid (∀ x, Below W.heap.size W x → Below w.heap.size w x) := fun x hx => by
        rw [hr.out]
        exact hW.out.trans (hx.mono (by have := hbk.out.lt; omega))
      by_cases hbig : 1200 < (hdr m).length + n
      · have hE8 : Hid (pkE m = 8) := by show _ = _; rw [hE.out, if_pos hbig]
        refine (encode_many a4 n4 c4 w4 (by have := hn4.out; have := hlx.out; omega)).mono ?_
        rintro e w5 ⟨rfl, hw5⟩
        obtain rfl := hw5.symm
        go_wp2
        refine bodyPost_ret (v := .tuple #[.slice none 0 0, .int .i64 8]) (by simp [results, Try.results11, go_sem]) rfl ⟨_, by rw [hE8.out], ⟨fun h => (by rw [hE8.out] at h; cases h), fun _ => rfl⟩, hBw.out _ hb4.out⟩
      · have hE0 : Hid (pkE m = 0) := by show _ = _; rw [hE.out, if_neg hbig]
        refine (encode_ok a4 n4 c4 (hdr m ++ m.zs) w4 hn4.out hby4.out h04.out (by have := hn4.out; have := hlx.out; omega)).mono ?_
        rintro e w5 ⟨v5, rfl, hO5, hb5⟩
        have hb5' : Hid (Below W.heap.size W w5) := hb4.out.trans (hb5.mono hb4.out.size)
        have hO5' : Hid (OwnsB w5 r v5 (pkB m)) := hO5.base (by have := hb4.out.size; have := hbk.out.lt; omega)
        go_wp2
        refine bodyPost_ret (v := .tuple #[v5, .int .i64 0]) (by simp [results, Try.results11, go_sem]) rfl ⟨_, by rw [hE0.out], ⟨fun _ => (by rw [hr.out]; exact hO5'.out), fun h => absurd hE0.out h⟩, hBw.out _ hb5'.out⟩
end Go.Proofs.Ytfipdldoklkciaa
