/-
  One at messages alike; what is packed is unpacked.
-/
import Derived.Test.YtfipdldoklkciaaLkv
namespace Go.Proofs.Ytfipdldoklkciaa
open Go.RowKit
set_option linter.unusedVariables false
set_option maxRecDepth 100000 in
set_option maxHeartbeats 4000000 in
theorem one_like (m : Mg) (a a3 : Option Addr) (n c n3 c3 : Nat) (w : World) (h1 : Bytes w a m.zs) (h2 : Bytes w a3 m.zs) (l1 : m.zs.length = n) (l2 : m.zs.length = n3) :
    Calls Try.prog 16 #[mval m a n c, mval m a3 n3 c3] w fun e w' => e = .returned (.bool true) ∧ Hid (Below w.heap.size w w') := by
  have k0 : Hid (∀ x, Below w.heap.size w x → Calls Try.prog 15 #[.slice a n c, .slice a3 n3 c3] x fun e w' => e = .returned (.bool true) ∧ w' = x) := fun x hx => by
    have := same_any a a3 n n3 c c3 m.zs m.zs x (h1.kept hx) (h2.kept hx) l1 l2
    simpa using this
  have d0 : (m.kind == m.kind) = true := by simp
  have d1 : (m.tok == m.tok) = true := by simp
  have d2 : (m.ep == m.ep) = true := by simp
  have d3 : (m.seq == m.seq) = true := by simp
  have d4 : (m.ack == m.ack) = true := by simp
  have d5 : (m.bits == m.bits) = true := by simp
  have d6 : (m.cred == m.cred) = true := by simp
  have d7 : (m.fmt == m.fmt) = true := by simp
  clear h1 h2 l1 l2
  unfold mval
  go_enter Try.func16, Try.ntmps16
  go_wp2_with (go_at_call 15; refine (k0.out _ (by repeat' with_reducible first | exact Below.refl _ _ | refine Below.drew ?_ | refine Below.drN ?_ _ | refine Below.al ?_ _)).mono ?_; rintro e w1 ⟨rfl, hw1⟩; obtain rfl := hw1.symm; clear hw1)
  go_ret
  exact ⟨rfl, show Below _ _ _ from (by repeat' with_reducible first | exact Below.refl _ _ | refine Below.drew ?_ | refine Below.drN ?_ _ | refine Below.al ?_ _)⟩
theorem pk_any (m : Mg) (a : Option Addr) (n c : Nat) (w : World) (h : MsgV w m a n c) :
    Calls Try.prog 11 #[mval m a n c] w fun e w' => ((∃ E : Int, E ≠ 0 ∧ e = .returned (.tuple #[.slice none 0 0, .int .i64 E])) ∨ (∃ v, pkE m = 0 ∧ e = .returned (.tuple #[v, .int .i64 0]) ∧ Hid (OwnsB w' w.heap.size v (pkB m)))) ∧ Hid (Below w.heap.size w w') := by
  cases hm : mayM m with
  | false =>
    refine (pack_arg m a n c w hm).mono ?_
    rintro e w' ⟨rfl, hb⟩
    exact ⟨.inl ⟨1, by decide, rfl⟩, hb⟩
  | true =>
    refine (pack_may m a n c w hm h.ok h.len (fun e => h.nil e) h.by_ (by have := h.few; omega)).mono ?_
    rintro e w' ⟨v, rfl, hP, hb⟩
    by_cases hE : pkE m = 0
    · exact ⟨.inr ⟨v, hE, by rw [hE], hP.out.1 hE⟩, hb⟩
    · exact ⟨.inl ⟨pkE m, hE, by rw [hP.out.2 hE]⟩, hb⟩
theorem mcs {w : World} {b : Nat} {m : Mg} {a : Option Addr} {n c : Nat} (h : Blk w b #[.int .i64 m.kind, .int .u64 m.tok, .int .i64 m.ep, .int .i64 m.seq, .int .i64 m.ack, .int .u64 m.bits, .int .i64 m.cred, .int .i64 m.fmt, .slice a n c] 25) :
    w.cell? ⟨b, 0, none⟩ = some (.int .i64 m.kind) ∧ w.cell? ⟨b, 1, none⟩ = some (.int .u64 m.tok) ∧ w.cell? ⟨b, 2, none⟩ = some (.int .i64 m.ep) ∧ w.cell? ⟨b, 3, none⟩ = some (.int .i64 m.seq) ∧ w.cell? ⟨b, 4, none⟩ = some (.int .i64 m.ack) ∧ w.cell? ⟨b, 5, none⟩ = some (.int .u64 m.bits) ∧ w.cell? ⟨b, 6, none⟩ = some (.int .i64 m.cred) ∧ w.cell? ⟨b, 7, none⟩ = some (.int .i64 m.fmt) ∧ w.cell? ⟨b, 8, none⟩ = some (.slice a n c) :=
  ⟨(h.cell 0).trans rfl, (h.cell 1).trans rfl, (h.cell 2).trans rfl, (h.cell 3).trans rfl, (h.cell 4).trans rfl, (h.cell 5).trans rfl, (h.cell 6).trans rfl, (h.cell 7).trans rfl, (h.cell 8).trans rfl⟩
set_option maxRecDepth 100000 in
set_option maxHeartbeats 4000000 in
theorem wtells (m : Mg) (a : Option Addr) (n c : Nat) (w : World) (h : MsgV w m a n c) :
    Calls Try.prog 4 #[mval m a n c] w fun e w' => e = .returned (.bool true) ∧ Below w.heap.size w w' := by
  have hV : Hid (∀ x, Below w.heap.size w x → MsgV x m a n c) := fun x hx => h.kept hx
  generalize hB : w.heap.size = B at *
  have hN : Hid (w.heap.size = B) := hB
  have kP : Hid (∀ x, Below B w x → Calls Try.prog 11 #[mval m a n c] x fun e w' => ((∃ E : Int, E ≠ 0 ∧ e = .returned (.tuple #[.slice none 0 0, .int .i64 E])) ∨ (∃ v, pkE m = 0 ∧ e = .returned (.tuple #[v, .int .i64 0]) ∧ Hid (OwnsB w' x.heap.size v (pkB m)))) ∧ Hid (Below x.heap.size x w')) := fun x hx => pk_any m a n c x (hV.out x hx)
  have hbk := blk_new w #[.int .i64 m.kind, .int .u64 m.tok, .int .i64 m.ep, .int .i64 m.seq, .int .i64 m.ack, .int .u64 m.bits, .int .i64 m.cred, .int .i64 m.fmt, .slice a n c] 25
  have hA1 : Below B w (w.alloc (.cells #[.int .i64 m.kind, .int .u64 m.tok, .int .i64 m.ep, .int .i64 m.seq, .int .i64 m.ack, .int .u64 m.bits, .int .i64 m.cred, .int .i64 m.fmt, .slice a n c] 25)) := (Below.refl _ _).alloc (by omega) _
  rw [hB] at hbk
  have hbk' : Hid (Blk (w.alloc (.cells #[.int .i64 m.kind, .int .u64 m.tok, .int .i64 m.ep, .int .i64 m.seq, .int .i64 m.ack, .int .u64 m.bits, .int .i64 m.cred, .int .i64 m.fmt, .slice a n c] 25)) B #[.int .i64 m.kind, .int .u64 m.tok, .int .i64 m.ep, .int .i64 m.seq, .int .i64 m.ack, .int .u64 m.bits, .int .i64 m.cred, .int .i64 m.fmt, .slice a n c] 25) := hbk
  have hA1' : Hid (Below B w (w.alloc (.cells #[.int .i64 m.kind, .int .u64 m.tok, .int .i64 m.ep, .int .i64 m.seq, .int .i64 m.ack, .int .u64 m.bits, .int .i64 m.cred, .int .i64 m.fmt, .slice a n c] 25))) := hA1
  have hok : Hid (Mok m) := h.ok
  have hs1 : Hid ((w.alloc (.cells #[.int .i64 m.kind, .int .u64 m.tok, .int .i64 m.ep, .int .i64 m.seq, .int .i64 m.ack, .int .u64 m.bits, .int .i64 m.cred, .int .i64 m.fmt, .slice a n c] 25)).heap.size = B + 1) := by show _ = _; simp [hB]
  clear hbk hA1 h hB
  unfold mval at *
  go_enter Try.func4, Try.ntmps4
  go_wp2_with fail
  rw [hN.out]
  generalize hw0 : w.alloc (.cells #[.int .i64 m.kind, .int .u64 m.tok, .int .i64 m.ep, .int .i64 m.seq, .int .i64 m.ack, .int .u64 m.bits, .int .i64 m.cred, .int .i64 m.fmt, .slice a n c] 25) = w0 at *
  clear hw0
  refine (kP.out _ hA1'.out).mono ?_
  rintro e w1 ⟨h1 | h1, hb1⟩
  · obtain ⟨E, hE, rfl⟩ := h1
    have d0 : (E != 0) = true := by simpa using hE
    have hB1 : Hid (Below B w w1) := hA1'.out.trans (hb1.out.mono (by rw [hs1.out]; omega))
    have hz1 : Hid (B ≤ w1.heap.size) := by have := hB1.out.size; rw [hN.out] at this; exact this
    clear hE hbk' hA1' hs1 hb1 hV kP
    go_wp2_with (go_at_call 17; refine (alive_any _).mono ?_; rintro e w2 ⟨rfl, hb2⟩)
    go_ret
    exact ⟨rfl, hB1.out.trans (hb2.out.mono hz1.out)⟩
  · obtain ⟨v, hE, rfl, hO⟩ := h1
    obtain ⟨u1, u2, u3⟩ := up_pk hE hok.out
    have hB1 : Hid (Below B w w1) := hA1'.out.trans (hb1.out.mono (by rw [hs1.out]; omega))
    have hK1 : Hid (Blk w1 B #[.int .i64 m.kind, .int .u64 m.tok, .int .i64 m.ep, .int .i64 m.seq, .int .i64 m.ack, .int .u64 m.bits, .int .i64 m.cred, .int .i64 m.fmt, .slice a n c] 25) := hbk'.out.kept hb1.out
    obtain ⟨a2, n2, c2, rfl, hn2, h02, hl2, hm2, hby2⟩ := hO.out.form
    have hU : Hid (∀ x, Below w1.heap.size w1 x → Calls Try.prog 13 #[.slice a2 n2 c2] x fun e w' => (∃ a3 n3 c3, e = .returned (.tuple #[.agg #[.int .i64 m.kind, .int .u64 m.tok, .int .i64 m.ep, .int .i64 m.seq, .int .i64 m.ack, .int .u64 m.bits, .int .i64 m.cred, .int .i64 m.fmt, .slice a3 n3 c3], .int .i64 0]) ∧ Hid (Sb w' x.heap.size a3 n3 c3 m.zs)) ∧ Hid (Below x.heap.size x w')) := fun x hx => by
      refine (unpack_any a2 n2 c2 (pkB m) x hn2.out (hby2.out.kept hx) hl2 hm2).mono ?_
      rintro e w' ⟨hR, hb⟩
      obtain ⟨a3, n3, c3, he, hS⟩ := hR.out
      rw [outM_zero u1, u2] at he hS
      rw [u1] at he
      exact ⟨⟨a3, n3, c3, he, hS⟩, hb⟩
    have hz1 : Hid (B + 1 ≤ w1.heap.size) := by have := hb1.out.size; rw [hs1.out] at this; exact this
    have hn3 : Hid (n2 ≤ 1208) := by show _ ≤ _; have := hn2.out; omega
    clear hbk' hA1' hs1 hb1 kP hO hE u1 u2 u3 hn2 h02 hl2 hm2 hby2 hok
    have kQ : Hid (∀ x a3 n3 c3, Below w1.heap.size w1 x → Hid (Sb x w1.heap.size a3 n3 c3 m.zs) → (∀ y, Below x.heap.size x y → Calls Try.prog 16 #[.agg #[.int .i64 m.kind, .int .u64 m.tok, .int .i64 m.ep, .int .i64 m.seq, .int .i64 m.ack, .int .u64 m.bits, .int .i64 m.cred, .int .i64 m.fmt, .slice a n c], .agg #[.int .i64 m.kind, .int .u64 m.tok, .int .i64 m.ep, .int .i64 m.seq, .int .i64 m.ack, .int .u64 m.bits, .int .i64 m.cred, .int .i64 m.fmt, .slice a3 n3 c3]] y fun e w' => e = .returned (.bool true) ∧ Hid (Below y.heap.size y w'))) := fun x a3 n3 c3 hx hS y hy => one_like m a a3 n c n3 c3 y (((hV.out w1 hB1.out).by_.kept hx).kept hy) (hS.out.by_.kept hy) (hV.out w1 hB1.out).len hS.out.len
    have hd : decide ((n2 : Int) ≤ 1208) = true := by have := hn3.out; simp; omega
    clear hV hn3
    go_wp2_with (first | (go_at_call 13; refine (hU.out _ (by repeat' with_reducible first | exact Below.refl _ _ | refine Below.drew ?_ | refine Below.drN ?_ _ | refine Below.al ?_ _)).mono ?_; rintro e w2 ⟨⟨a3, n3, c3, rfl, hS2⟩, hb2⟩; clear hU; have hb2' : Hid (Below w1.heap.size w1 w2) := hb2.out; obtain ⟨f0, f1, f2, f3, f4, f5, f6, f7, f8⟩ := mcs (hK1.out.kept hb2'.out); have hlt : B < w2.heap.size := Nat.lt_of_lt_of_le hz1.out hb2'.out.size; have kO := kQ.out w2 a3 n3 c3 hb2'.out hS2; have kO' : Hid (∀ y, Below w2.heap.size w2 y → _) := kO; have hB2 : Hid (Below B w w2) := hB1.out.trans (hb2'.out.mono (Nat.le_of_succ_le hz1.out)); clear hS2 hb2 hb2' hK1 hB1 kQ kO hz1) | (go_at_call 16; refine (kO'.out _ (by repeat' with_reducible first | exact Below.refl _ _ | refine Below.drew ?_ | refine Below.drN ?_ _ | refine Below.al ?_ _)).mono ?_; rintro e w3 ⟨rfl, hb3⟩; clear kO') | (go_at_call 17; refine (alive_any _).mono ?_; rintro e w4 ⟨rfl, hb4⟩))
    go_ret
    have hz2 : B ≤ w2.heap.size := Nat.le_of_lt hlt
    have h3 := hb3.out
    have h3z := h3.size
    refine ⟨rfl, ((hB2.out.alloc hz2 _).trans (h3.mono (by simp; omega))).trans (hb4.out.mono ?_)⟩
    simp at h3z
    omega
end Go.Proofs.Ytfipdldoklkciaa
