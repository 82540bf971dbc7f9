/-
  The walk of the law on datagrams packed and unpacked.
-/
import Derived.Test.YtfipdldoklkciaaLpb
import Derived.Test.YtfipdldoklkciaaLpd
import Derived.Test.YtfipdldoklkciaaLkw
namespace Go.Proofs.Ytfipdldoklkciaa
open Go.RowKit
set_option linter.unusedVariables false
/-- A slice that a call gave, its bytes readable. -/
def Rd (w : World) (v : Value) (zs : List Int) : Prop := ∃ a n c, v = .slice a n c ∧ Bytes w a zs ∧ zs.length = n
theorem Rd.kept {w w' : World} {v : Value} {zs : List Int} (h : Rd w v zs) (hb : Below w.heap.size w w') : Rd w' v zs := by
  obtain ⟨a, n, c, h1, h2, h3⟩ := h
  exact ⟨a, n, c, h1, h2.kept hb, h3⟩
def pkO (m : Mg) : List Int := if pkE m = 0 then pkB m else []
theorem rd_of {w w' : World} {m : Mg} {v : Value} (h : PkR w w' m v) : Rd w' v (pkO m) := by
  unfold pkO
  by_cases hE : pkE m = 0
  · rw [if_pos hE]
    obtain ⟨a, n, c, rfl, h1, _, _, _, h2⟩ := (h.1 hE).form
    exact ⟨a, n, c, rfl, h2.out, h1.out⟩
  · rw [if_neg hE, h.2 hE]
    exact ⟨none, 0, 0, rfl, ⟨by simp, by simp, .inl rfl⟩, rfl⟩
theorem pk_one {m : Mg} (h : mayM m = false) : pkE m = 1 := by unfold pkE; rw [if_pos h]
theorem kpack_u (m : Mg) (a : Option Addr) (n c : Nat) (w : World) (h : MsgV w m a n c) :
    Calls Try.prog 11 #[mval m a n c] w fun e w' => ∃ v, e = .returned (.tuple #[v, .int .i64 (pkE m)]) ∧ Hid (Rd w' v (pkO m)) ∧ Hid (Below w.heap.size w w') := by
  cases hm : mayM m with
  | false =>
    refine (pack_arg m a n c w hm).mono ?_
    rintro e w' ⟨rfl, hb⟩
    exact ⟨_, by rw [pk_one hm], rd_of (w := w) ⟨fun k => (by rw [pk_one hm] at k; cases k), fun _ => rfl⟩, hb⟩
  | true =>
    refine (pack_may m a n c w hm h.ok h.len (fun e => h.nil e) h.by_ (by have := h.few; omega)).mono ?_
    rintro e w' ⟨v, rfl, hP, hb⟩
    exact ⟨v, rfl, rd_of hP.out, hb⟩
theorem xpack_u (m : Mg) (a : Option Addr) (n c : Nat) (w : World) (h : MsgV w m a n c) :
    Calls Try.prog 12 #[mval m a n c] w fun e w' => ∃ v, e = .returned (.tuple #[v, .int .i64 (pkE m)]) ∧ Hid (Rd w' v (pkO m)) ∧ Hid (Below w.heap.size w w') := by
  cases hm : mayM m with
  | false =>
    refine (xpack_arg m a n c w hm).mono ?_
    rintro e w' ⟨rfl, hb⟩
    exact ⟨_, by rw [pk_one hm], rd_of (w := w) ⟨fun k => (by rw [pk_one hm] at k; cases k), fun _ => rfl⟩, hb⟩
  | true =>
    refine (xpack_may m a n c w hm h.ok h.len (fun e => h.nil e) h.by_ (by have := h.few; omega)).mono ?_
    rintro e w' ⟨v, rfl, hP, hb⟩
    exact ⟨v, rfl, rd_of hP.out, hb⟩
theorem kunpack_u (a : Option Addr) (n cap : Nat) (zs : List Int) (w : World) (hl : zs.length = n) (hb : Bytes w a zs) (hc : n ≤ cap) (hcm : cap ≤ 9223372036854775807) :
    Calls Try.prog 13 #[.slice a n cap] w fun e w' => ∃ a3 n3 c3, e = .returned (.tuple #[mval (outM zs) a3 n3 c3, .int .i64 (upE zs)]) ∧ Hid (Bytes w' a3 (outM zs).zs ∧ (outM zs).zs.length = n3) ∧ Hid (Below w.heap.size w w') := by
  refine (unpack_any a n cap zs w hl hb hc hcm).mono ?_
  rintro e w' ⟨hU, hbb⟩
  obtain ⟨a3, n3, c3, he, hS⟩ := hU.out
  exact ⟨a3, n3, c3, he, ⟨hS.out.by_, hS.out.len⟩, hbb⟩
theorem xunpack_u (a : Option Addr) (n cap : Nat) (zs : List Int) (w : World) (hl : zs.length = n) (hb : Bytes w a zs) (hc : n ≤ cap) (hcm : cap ≤ 9223372036854775807) :
    Calls Try.prog 14 #[.slice a n cap] w fun e w' => ∃ a3 n3 c3, e = .returned (.tuple #[mval (outM zs) a3 n3 c3, .int .i64 (upE zs)]) ∧ Hid (Bytes w' a3 (outM zs).zs ∧ (outM zs).zs.length = n3) ∧ Hid (Below w.heap.size w w') := by
  cases hw : wfB zs with
  | false =>
    refine (xunpack_sum a n cap zs w hl hb hc hcm hw).mono ?_
    rintro e w' ⟨hU, hbb⟩
    obtain ⟨a3, n3, c3, he, h1, h2⟩ := hU.out
    exact ⟨a3, n3, c3, he, ⟨h1, h2⟩, hbb⟩
  | true =>
    refine (xunpack_wf a n cap zs w hl hb hc hcm hw).mono ?_
    rintro e w' ⟨hU, hbb⟩
    obtain ⟨a3, n3, c3, he, h1, h2⟩ := hU.out
    exact ⟨a3, n3, c3, he, ⟨h1, h2⟩, hbb⟩
set_option maxRecDepth 100000 in
set_option maxHeartbeats 4000000 in
theorem wpacks (m : Mg) (a : Option Addr) (n c : Nat) (a1 : Option Addr) (len cap : Nat) (z1 : List Int) (w : World) (h : MsgV w m a n c) (hz0 : IsRow .u8 w a1 len cap z1) (hcap : cap ≤ 140737488351232) :
    Calls Try.prog 3 #[mval m a n c, .slice a1 len cap] w fun e w' => e = .returned (.bool true) ∧ Below w.heap.size w w' := by
  obtain ⟨hlen0, hby0⟩ := bytes_of_row hz0
  have hle0 := (row_le hz0).1
  obtain ⟨l, hl⟩ : ∃ l, l = z1.take len := ⟨_, rfl⟩
  rw [← hl] at hlen0 hby0
  generalize hB : w.heap.size = B at *
  have hN : Hid (w.heap.size = B) := hB
  have hV : Hid (∀ x, Below B w x → MsgV x m a n c) := fun x hx => h.kept (by rw [hN.out]; exact hx)
  have kP : Hid (∀ x, Below B w x → Calls Try.prog 11 #[mval m a n c] x fun e w' => ∃ v, e = .returned (.tuple #[v, .int .i64 (pkE m)]) ∧ Hid (Rd w' v (pkO m)) ∧ Hid (Below x.heap.size x w')) := fun x hx => kpack_u m a n c x (hV.out x hx)
  have kX : Hid (∀ x, Below B w x → Calls Try.prog 12 #[mval m a n c] x fun e w' => ∃ v, e = .returned (.tuple #[v, .int .i64 (pkE m)]) ∧ Hid (Rd w' v (pkO m)) ∧ Hid (Below x.heap.size x w')) := fun x hx => xpack_u m a n c x (hV.out x hx)
  have kU : Hid (∀ x, Below B w x → Calls Try.prog 13 #[.slice a1 len cap] x fun e w' => ∃ a3 n3 c3, e = .returned (.tuple #[mval (outM l) a3 n3 c3, .int .i64 (upE l)]) ∧ Hid (Bytes w' a3 (outM l).zs ∧ (outM l).zs.length = n3) ∧ Hid (Below x.heap.size x w')) := fun x hx => kunpack_u a1 len cap l x hlen0 (hby0.kept (by rw [hN.out]; exact hx)) hle0 (by omega)
  have kY : Hid (∀ x, Below B w x → Calls Try.prog 14 #[.slice a1 len cap] x fun e w' => ∃ a3 n3 c3, e = .returned (.tuple #[mval (outM l) a3 n3 c3, .int .i64 (upE l)]) ∧ Hid (Bytes w' a3 (outM l).zs ∧ (outM l).zs.length = n3) ∧ Hid (Below x.heap.size x w')) := fun x hx => xunpack_u a1 len cap l x hlen0 (hby0.kept (by rw [hN.out]; exact hx)) hle0 (by omega)
  have hbk := blk_new w #[.int .i64 m.kind, .int .u64 m.tok, .int .i64 m.ep, .int .i64 m.seq, .int .i64 m.ack, .int .u64 m.bits, .int .i64 m.cred, .int .i64 m.fmt, .slice a n c] 25
  have hA1 : Hid (Below B w (w.alloc (.cells #[.int .i64 m.kind, .int .u64 m.tok, .int .i64 m.ep, .int .i64 m.seq, .int .i64 m.ack, .int .u64 m.bits, .int .i64 m.cred, .int .i64 m.fmt, .slice a n c] 25))) := (Below.refl _ _).alloc (by omega) _
  rw [hB] at hbk
  have hbk' : Hid (Blk (w.alloc (.cells #[.int .i64 m.kind, .int .u64 m.tok, .int .i64 m.ep, .int .i64 m.seq, .int .i64 m.ack, .int .u64 m.bits, .int .i64 m.cred, .int .i64 m.fmt, .slice a n c] 25)) B #[.int .i64 m.kind, .int .u64 m.tok, .int .i64 m.ep, .int .i64 m.seq, .int .i64 m.ack, .int .u64 m.bits, .int .i64 m.cred, .int .i64 m.fmt, .slice a n c] 25) := hbk
  generalize hpe : pkE m = PE at *
  generalize hpo : pkO m = PO at *
  generalize hue : upE l = UE at *
  generalize hom : outM l = M at *
  clear hbk h hB hz0 hcap hlen0 hby0 hle0 hl hV hpe hpo hue hom
  have q1 : (PE == PE) = true := by simp
  have q2 : (UE == UE) = true := by simp
  unfold mval at *
  go_enter Try.func3, Try.ntmps3
  go_wp2_with fail
  rw [hN.out]
  generalize w.alloc (.cells #[.int .i64 m.kind, .int .u64 m.tok, .int .i64 m.ep, .int .i64 m.seq, .int .i64 m.ack, .int .u64 m.bits, .int .i64 m.cred, .int .i64 m.fmt, .slice a n c] 25) = w0 at *
  have hz0 : Hid (B ≤ w0.heap.size) := by have := hA1.out.size; rw [hN.out] at this; exact this
  refine (kP.out _ hA1.out).mono ?_
  rintro e w1 ⟨v1, rfl, hR1, hb1⟩
  have hB1 : Hid (Below B w w1) := hA1.out.trans (hb1.out.mono hz0.out)
  have hz1 : Hid (B ≤ w1.heap.size) := Nat.le_trans hz0.out hb1.out.size
  have hbk1 : Hid (Blk w1 B #[.int .i64 m.kind, .int .u64 m.tok, .int .i64 m.ep, .int .i64 m.seq, .int .i64 m.ack, .int .u64 m.bits, .int .i64 m.cred, .int .i64 m.fmt, .slice a n c] 25) := hbk'.out.kept hb1.out
  obtain ⟨f0, f1, f2, f3, f4, f5, f6, f7, f8⟩ := mcs hbk1.out
  clear kP hA1 hb1 hz0 hbk' hbk1
  go_wp2_with fail
  clear f0 f1 f2 f3 f4 f5 f6 f7 f8
  refine (kX.out _ hB1.out).mono ?_
  rintro e w2 ⟨v2, rfl, hR2, hb2⟩
  have hB2 : Hid (Below B w w2) := hB1.out.trans (hb2.out.mono hz1.out)
  have hz2 : Hid (B ≤ w2.heap.size) := Nat.le_trans hz1.out hb2.out.size
  have hR1' : Hid (Rd w2 v1 PO) := hR1.out.kept hb2.out
  clear kX hB1 hb2 hz1 hR1
  go_wp2_with fail
  refine (kU.out _ hB2.out).mono ?_
  rintro e w3 ⟨a3, n3, c3, rfl, hM3, hb3⟩
  have hB3 : Hid (Below B w w3) := hB2.out.trans (hb3.out.mono hz2.out)
  have hz3 : Hid (B ≤ w3.heap.size) := Nat.le_trans hz2.out hb3.out.size
  have hR1 : Hid (Rd w3 v1 PO ∧ Rd w3 v2 PO) := ⟨hR1'.out.kept hb3.out, hR2.out.kept hb3.out⟩
  clear kU hB2 hb3 hz2 hR1' hR2
  unfold mval at *
  go_wp2_with fail
  have hbk3 := blk_new w3 #[.int .i64 M.kind, .int .u64 M.tok, .int .i64 M.ep, .int .i64 M.seq, .int .i64 M.ack, .int .u64 M.bits, .int .i64 M.cred, .int .i64 M.fmt, .slice a3 n3 c3] 25
  have hal3 : Below w3.heap.size w3 (w3.alloc (.cells #[.int .i64 M.kind, .int .u64 M.tok, .int .i64 M.ep, .int .i64 M.seq, .int .i64 M.ack, .int .u64 M.bits, .int .i64 M.cred, .int .i64 M.fmt, .slice a3 n3 c3] 25)) := (Below.refl _ _).alloc (Nat.le_refl _) _
  have hB4 : Hid (Below B w (w3.alloc (.cells #[.int .i64 M.kind, .int .u64 M.tok, .int .i64 M.ep, .int .i64 M.seq, .int .i64 M.ack, .int .u64 M.bits, .int .i64 M.cred, .int .i64 M.fmt, .slice a3 n3 c3] 25))) := hB3.out.trans (hal3.mono hz3.out)
  have hz4 : Hid (B ≤ (w3.alloc (.cells #[.int .i64 M.kind, .int .u64 M.tok, .int .i64 M.ep, .int .i64 M.seq, .int .i64 M.ack, .int .u64 M.bits, .int .i64 M.cred, .int .i64 M.fmt, .slice a3 n3 c3] 25)).heap.size) := Nat.le_trans hz3.out hal3.size
  have hR4 : Hid (Rd (w3.alloc (.cells #[.int .i64 M.kind, .int .u64 M.tok, .int .i64 M.ep, .int .i64 M.seq, .int .i64 M.ack, .int .u64 M.bits, .int .i64 M.cred, .int .i64 M.fmt, .slice a3 n3 c3] 25)) v1 PO ∧ Rd (w3.alloc (.cells #[.int .i64 M.kind, .int .u64 M.tok, .int .i64 M.ep, .int .i64 M.seq, .int .i64 M.ack, .int .u64 M.bits, .int .i64 M.cred, .int .i64 M.fmt, .slice a3 n3 c3] 25)) v2 PO) := ⟨hR1.out.1.kept hal3, hR1.out.2.kept hal3⟩
  have hM4 : Hid (Bytes (w3.alloc (.cells #[.int .i64 M.kind, .int .u64 M.tok, .int .i64 M.ep, .int .i64 M.seq, .int .i64 M.ack, .int .u64 M.bits, .int .i64 M.cred, .int .i64 M.fmt, .slice a3 n3 c3] 25)) a3 M.zs ∧ M.zs.length = n3) := ⟨hM3.out.1.kept hal3, hM3.out.2⟩
  have hbk3' : Hid (Blk (w3.alloc (.cells #[.int .i64 M.kind, .int .u64 M.tok, .int .i64 M.ep, .int .i64 M.seq, .int .i64 M.ack, .int .u64 M.bits, .int .i64 M.cred, .int .i64 M.fmt, .slice a3 n3 c3] 25)) w3.heap.size #[.int .i64 M.kind, .int .u64 M.tok, .int .i64 M.ep, .int .i64 M.seq, .int .i64 M.ack, .int .u64 M.bits, .int .i64 M.cred, .int .i64 M.fmt, .slice a3 n3 c3] 25) := hbk3
  generalize w3.alloc (.cells #[.int .i64 M.kind, .int .u64 M.tok, .int .i64 M.ep, .int .i64 M.seq, .int .i64 M.ack, .int .u64 M.bits, .int .i64 M.cred, .int .i64 M.fmt, .slice a3 n3 c3] 25) = w4 at *
  generalize w3.heap.size = g3 at *
  clear hbk3 hal3 hB3 hz3 hR1 hM3
  refine (kY.out _ hB4.out).mono ?_
  rintro e w5 ⟨a5, n5, c5, rfl, hM5, hb5⟩
  have hB5 : Hid (Below B w w5) := hB4.out.trans (hb5.out.mono hz4.out)
  have hz5 : Hid (B ≤ w5.heap.size) := Nat.le_trans hz4.out hb5.out.size
  obtain ⟨x1, y1, u1, rfl, hx1, hy1⟩ := (hR4.out.1.kept hb5.out)
  obtain ⟨x2, y2, u2, rfl, hx2, hy2⟩ := (hR4.out.2.kept hb5.out)
  have hbk5 := hbk3'.out.kept hb5.out
  have hM5' : Hid (Bytes w5 a3 M.zs ∧ M.zs.length = n3) := ⟨hM4.out.1.kept hb5.out, hM4.out.2⟩
  have kS : Hid (∀ x, Below w5.heap.size w5 x → Calls Try.prog 15 #[.slice x1 y1 u1, .slice x2 y2 u2] x fun e w' => e = .returned (.bool true) ∧ w' = x) := fun x hx => by
    have k := same_any x1 x2 y1 y2 u1 u2 PO PO x (hx1.kept hx) (hx2.kept hx) hy1 hy2
    rw [show decide (PO = PO) = true by simp] at k
    exact k
  have kO : Hid (∀ x, Below w5.heap.size w5 x → Calls Try.prog 16 #[.agg #[.int .i64 M.kind, .int .u64 M.tok, .int .i64 M.ep, .int .i64 M.seq, .int .i64 M.ack, .int .u64 M.bits, .int .i64 M.cred, .int .i64 M.fmt, .slice a3 n3 c3], .agg #[.int .i64 M.kind, .int .u64 M.tok, .int .i64 M.ep, .int .i64 M.seq, .int .i64 M.ack, .int .u64 M.bits, .int .i64 M.cred, .int .i64 M.fmt, .slice a5 n5 c5]] x fun e w' => e = .returned (.bool true) ∧ Hid (Below x.heap.size x w')) := fun x hx => one_like M a3 a5 n3 c3 n5 c5 x (hM5'.out.1.kept hx) (hM5.out.1.kept hx) hM5'.out.2 hM5.out.2
  have hg3 := hbk5.lt
  have hbk6 := hbk5.kept ((Below.refl w5.heap.size w5).alloc (Nat.le_refl _) (.cells #[.int .i64 M.kind, .int .u64 M.tok, .int .i64 M.ep, .int .i64 M.seq, .int .i64 M.ack, .int .u64 M.bits, .int .i64 M.cred, .int .i64 M.fmt, .slice a5 n5 c5] 25))
  obtain ⟨f0, f1, f2, f3, f4, f5, f6, f7, f8⟩ := mcs hbk6
  have hal5 : Hid (Below w5.heap.size w5 (w5.alloc (.cells #[.int .i64 M.kind, .int .u64 M.tok, .int .i64 M.ep, .int .i64 M.seq, .int .i64 M.ack, .int .u64 M.bits, .int .i64 M.cred, .int .i64 M.fmt, .slice a5 n5 c5] 25))) := (Below.refl _ _).alloc (Nat.le_refl _) _
  clear kY hB4 hz4 hb5 hR4 hM4 hbk3' hM5 hM5' hx1 hx2 hy1 hy2 hbk5 hbk6
  unfold mval at *
  go_wp2_with (first
    | (go_at_call 15; refine (kS.out _ hal5.out).mono ?_; rintro e wn ⟨rfl, hwn⟩; obtain rfl := hwn.symm; clear hwn kS)
    | (go_at_call 16; refine (kO.out _ hal5.out).mono ?_; rintro e w7 ⟨rfl, hb7⟩; clear kO)
    | (go_at_call 17; refine (alive_any _).mono ?_; rintro e w8 ⟨rfl, hb8⟩))
  go_ret
  have h7 : Below B w w7 := (hB5.out.trans (hal5.out.mono hz5.out)).trans (hb7.out.mono (Nat.le_trans hz5.out hal5.out.size))
  refine ⟨rfl, ?_⟩
  exact h7.trans (hb8.out.mono (by have := h7.size; rw [hN.out] at this; exact this))
end Go.Proofs.Ytfipdldoklkciaa
