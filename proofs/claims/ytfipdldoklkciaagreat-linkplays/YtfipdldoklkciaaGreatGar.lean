/-
  Texts Lpa, Lpb, Lpc.
-/
import Derived.Test.YtfipdldoklkciaaGreatGan
import Derived.Test.YtfipdldoklkciaaGreatGaj
import Derived.Test.YtfipdldoklkciaaGreatGad
import Derived.Test.YtfipdldoklkciaaGreatGab
import Derived.Test.YtfipdldoklkciaaGreatGae
namespace Go.Proofs.YtfipdldoklkciaaGreat
open Go.RowKit
set_option linter.unusedVariables false
set_option maxHeartbeats 4000000 in
set_option maxRecDepth 100000 in
theorem xmay_raw (kd tk ep sq ak bt cr fm : Int) (a : Option Addr) (n c : Nat) (w : World) :
    Calls Tryz.prog 103 #[.agg #[.int .i64 kd, .int .u64 tk, .int .i64 ep, .int .i64 sq, .int .i64 ak, .int .u64 bt, .int .i64 cr, .int .i64 fm, .slice a n c]] w fun e w' => e = .returned (.bool (fromB 1 kd 7 && fromB 0 fm 2 && fromB 0 ep 4611686018427387904 && fromB 0 sq 4611686018427387904 && fromB 0 ak 4611686018427387904 && fromB 0 cr 4611686018427387904)) ∧ Hid (Below w.heap.size w w') := by
  have hA : Hid (Below w.heap.size w (w.alloc (.cells #[.int .i64 kd, .int .u64 tk, .int .i64 ep, .int .i64 sq, .int .i64 ak, .int .u64 bt, .int .i64 cr, .int .i64 fm, .slice a n c] 100))) := (Below.refl _ _).alloc (Nat.le_refl _) _
  by_cases h0 : ¬ (1 ≤ kd)
  · have e : (fromB 1 kd 7 && fromB 0 fm 2 && fromB 0 ep 4611686018427387904 && fromB 0 sq 4611686018427387904 && fromB 0 ak 4611686018427387904 && fromB 0 cr 4611686018427387904) = false := by simp [fromB]; omega
    rw [e]
    have d0 : decide (kd ≥ 1) = false := by simp; omega
    clear e h0
    go_enter Tryz.func103, Tryz.ntmps103
    go_wp2
    go_ret
    exact ⟨rfl, hA⟩
  have h0 : 1 ≤ kd := Classical.not_not.1 h0
  have d0 : decide (kd ≥ 1) = true := by simp; omega
  by_cases h1 : ¬ (kd ≤ 7)
  · have e : (fromB 1 kd 7 && fromB 0 fm 2 && fromB 0 ep 4611686018427387904 && fromB 0 sq 4611686018427387904 && fromB 0 ak 4611686018427387904 && fromB 0 cr 4611686018427387904) = false := by simp [fromB]; omega
    rw [e]
    have d1 : decide (kd ≤ 7) = false := by simp; omega
    clear e h0 h1
    go_enter Tryz.func103, Tryz.ntmps103
    go_wp2
    go_ret
    exact ⟨rfl, hA⟩
  have h1 : kd ≤ 7 := Classical.not_not.1 h1
  have d1 : decide (kd ≤ 7) = true := by simp; omega
  by_cases h2 : ¬ (0 ≤ ep)
  · have e : (fromB 1 kd 7 && fromB 0 fm 2 && fromB 0 ep 4611686018427387904 && fromB 0 sq 4611686018427387904 && fromB 0 ak 4611686018427387904 && fromB 0 cr 4611686018427387904) = false := by simp [fromB]; omega
    rw [e]
    have d2 : decide (ep ≥ 0) = false := by simp; omega
    clear e h0 h1 h2
    go_enter Tryz.func103, Tryz.ntmps103
    go_wp2
    go_ret
    exact ⟨rfl, hA⟩
  have h2 : 0 ≤ ep := Classical.not_not.1 h2
  have d2 : decide (ep ≥ 0) = true := by simp; omega
  by_cases h3 : ¬ (ep ≤ 4611686018427387904)
  · have e : (fromB 1 kd 7 && fromB 0 fm 2 && fromB 0 ep 4611686018427387904 && fromB 0 sq 4611686018427387904 && fromB 0 ak 4611686018427387904 && fromB 0 cr 4611686018427387904) = false := by simp [fromB]; omega
    rw [e]
    have d3 : decide (ep ≤ 4611686018427387904) = false := by simp; omega
    clear e h0 h1 h2 h3
    go_enter Tryz.func103, Tryz.ntmps103
    go_wp2
    go_ret
    exact ⟨rfl, hA⟩
  have h3 : ep ≤ 4611686018427387904 := Classical.not_not.1 h3
  have d3 : decide (ep ≤ 4611686018427387904) = true := by simp; omega
  by_cases h4 : ¬ (0 ≤ sq)
  · have e : (fromB 1 kd 7 && fromB 0 fm 2 && fromB 0 ep 4611686018427387904 && fromB 0 sq 4611686018427387904 && fromB 0 ak 4611686018427387904 && fromB 0 cr 4611686018427387904) = false := by simp [fromB]; omega
    rw [e]
    have d4 : decide (sq ≥ 0) = false := by simp; omega
    clear e h0 h1 h2 h3 h4
    go_enter Tryz.func103, Tryz.ntmps103
    go_wp2
    go_ret
    exact ⟨rfl, hA⟩
  have h4 : 0 ≤ sq := Classical.not_not.1 h4
  have d4 : decide (sq ≥ 0) = true := by simp; omega
  by_cases h5 : ¬ (sq ≤ 4611686018427387904)
  · have e : (fromB 1 kd 7 && fromB 0 fm 2 && fromB 0 ep 4611686018427387904 && fromB 0 sq 4611686018427387904 && fromB 0 ak 4611686018427387904 && fromB 0 cr 4611686018427387904) = false := by simp [fromB]; omega
    rw [e]
    have d5 : decide (sq ≤ 4611686018427387904) = false := by simp; omega
    clear e h0 h1 h2 h3 h4 h5
    go_enter Tryz.func103, Tryz.ntmps103
    go_wp2
    go_ret
    exact ⟨rfl, hA⟩
  have h5 : sq ≤ 4611686018427387904 := Classical.not_not.1 h5
  have d5 : decide (sq ≤ 4611686018427387904) = true := by simp; omega
  by_cases h6 : ¬ (0 ≤ ak)
  · have e : (fromB 1 kd 7 && fromB 0 fm 2 && fromB 0 ep 4611686018427387904 && fromB 0 sq 4611686018427387904 && fromB 0 ak 4611686018427387904 && fromB 0 cr 4611686018427387904) = false := by simp [fromB]; omega
    rw [e]
    have d6 : decide (ak ≥ 0) = false := by simp; omega
    clear e h0 h1 h2 h3 h4 h5 h6
    go_enter Tryz.func103, Tryz.ntmps103
    go_wp2
    go_ret
    exact ⟨rfl, hA⟩
  have h6 : 0 ≤ ak := Classical.not_not.1 h6
  have d6 : decide (ak ≥ 0) = true := by simp; omega
  by_cases h7 : ¬ (ak ≤ 4611686018427387904)
  · have e : (fromB 1 kd 7 && fromB 0 fm 2 && fromB 0 ep 4611686018427387904 && fromB 0 sq 4611686018427387904 && fromB 0 ak 4611686018427387904 && fromB 0 cr 4611686018427387904) = false := by simp [fromB]; omega
    rw [e]
    have d7 : decide (ak ≤ 4611686018427387904) = false := by simp; omega
    clear e h0 h1 h2 h3 h4 h5 h6 h7
    go_enter Tryz.func103, Tryz.ntmps103
    go_wp2
    go_ret
    exact ⟨rfl, hA⟩
  have h7 : ak ≤ 4611686018427387904 := Classical.not_not.1 h7
  have d7 : decide (ak ≤ 4611686018427387904) = true := by simp; omega
  by_cases h8 : ¬ (0 ≤ cr)
  · have e : (fromB 1 kd 7 && fromB 0 fm 2 && fromB 0 ep 4611686018427387904 && fromB 0 sq 4611686018427387904 && fromB 0 ak 4611686018427387904 && fromB 0 cr 4611686018427387904) = false := by simp [fromB]; omega
    rw [e]
    have d8 : decide (cr ≥ 0) = false := by simp; omega
    clear e h0 h1 h2 h3 h4 h5 h6 h7 h8
    go_enter Tryz.func103, Tryz.ntmps103
    go_wp2
    go_ret
    exact ⟨rfl, hA⟩
  have h8 : 0 ≤ cr := Classical.not_not.1 h8
  have d8 : decide (cr ≥ 0) = true := by simp; omega
  by_cases h9 : ¬ (cr ≤ 4611686018427387904)
  · have e : (fromB 1 kd 7 && fromB 0 fm 2 && fromB 0 ep 4611686018427387904 && fromB 0 sq 4611686018427387904 && fromB 0 ak 4611686018427387904 && fromB 0 cr 4611686018427387904) = false := by simp [fromB]; omega
    rw [e]
    have d9 : decide (cr ≤ 4611686018427387904) = false := by simp; omega
    clear e h0 h1 h2 h3 h4 h5 h6 h7 h8 h9
    go_enter Tryz.func103, Tryz.ntmps103
    go_wp2
    go_ret
    exact ⟨rfl, hA⟩
  have h9 : cr ≤ 4611686018427387904 := Classical.not_not.1 h9
  have d9 : decide (cr ≤ 4611686018427387904) = true := by simp; omega
  by_cases h10 : ¬ (0 ≤ fm)
  · have e : (fromB 1 kd 7 && fromB 0 fm 2 && fromB 0 ep 4611686018427387904 && fromB 0 sq 4611686018427387904 && fromB 0 ak 4611686018427387904 && fromB 0 cr 4611686018427387904) = false := by simp [fromB]; omega
    rw [e]
    have d10 : decide (fm ≥ 0) = false := by simp; omega
    clear e h0 h1 h2 h3 h4 h5 h6 h7 h8 h9 h10
    go_enter Tryz.func103, Tryz.ntmps103
    go_wp2
    go_ret
    exact ⟨rfl, hA⟩
  have h10 : 0 ≤ fm := Classical.not_not.1 h10
  have d10 : decide (fm ≥ 0) = true := by simp; omega
  by_cases h11 : ¬ (fm ≤ 2)
  · have e : (fromB 1 kd 7 && fromB 0 fm 2 && fromB 0 ep 4611686018427387904 && fromB 0 sq 4611686018427387904 && fromB 0 ak 4611686018427387904 && fromB 0 cr 4611686018427387904) = false := by simp [fromB]; omega
    rw [e]
    have d11 : decide (fm ≤ 2) = false := by simp; omega
    clear e h0 h1 h2 h3 h4 h5 h6 h7 h8 h9 h10 h11
    go_enter Tryz.func103, Tryz.ntmps103
    go_wp2
    go_ret
    exact ⟨rfl, hA⟩
  have h11 : fm ≤ 2 := Classical.not_not.1 h11
  have d11 : decide (fm ≤ 2) = true := by simp; omega
  have e : (fromB 1 kd 7 && fromB 0 fm 2 && fromB 0 ep 4611686018427387904 && fromB 0 sq 4611686018427387904 && fromB 0 ak 4611686018427387904 && fromB 0 cr 4611686018427387904) = true := by simp [fromB]; omega
  rw [e]
  clear e h0 h1 h2 h3 h4 h5 h6 h7 h8 h9 h10 h11
  go_enter Tryz.func103, Tryz.ntmps103
  go_wp2
  go_ret
  exact ⟨rfl, hA⟩
theorem xmay_any (m : Mg) (a : Option Addr) (n c : Nat) (w : World) : Calls Tryz.prog 103 #[mval m a n c] w fun e w' => e = .returned (.bool (mayM m)) ∧ Hid (Below w.heap.size w w') := xmay_raw _ _ _ _ _ _ _ _ _ _ _ _
/-- A short number as an int. -/
def xnum (k : Nat) : Int := if 4611686018427387904 < k then -1 else (k : Int)
theorem xnum_any (k : Nat) (w : World) (h : k < 18446744073709551616) : Calls Tryz.prog 100 #[.int .u64 (k : Nat)] w fun e w' => e = .returned (.int .i64 (xnum k)) ∧ w' = w := by
  by_cases h1 : 4611686018427387904 < k
  · have e : xnum k = -1 := by unfold xnum; rw [if_pos h1]
    rw [e]
    have d : decide ((k : Int) > 4611686018427387904) = true := by simp; omega
    clear e h1
    go_enter Tryz.func100, Tryz.ntmps100
    go_wp2
    go_ret
    exact ⟨rfl, rfl⟩
  · have e : xnum k = (k : Int) := by unfold xnum; rw [if_neg h1]
    rw [e]
    have d : decide ((k : Int) > 4611686018427387904) = false := by simp; omega
    have e1 : IntKind.i64.wrap (k : Int) = (k : Int) := by rw [IntKind.wrap_i64]; omega
    clear e h1
    go_enter Tryz.func100, Tryz.ntmps100
    go_wp2
    go_ret
    exact ⟨rfl, rfl⟩
end Go.Proofs.YtfipdldoklkciaaGreat
namespace Go.Proofs.YtfipdldoklkciaaGreat
open Go.RowKit
set_option linter.unusedVariables false
theorem xpack_arg (m : Mg) (a : Option Addr) (n c : Nat) (w : World) (h : mayM m = false) :
    Calls Tryz.prog 97 #[mval m a n c] w fun e w' => e = .returned (.tuple #[.slice none 0 0, .int .i64 1]) ∧ Hid (Below w.heap.size w w') := by
  have k0 := fun x => xmay_any m a n c x
  rw [h] at k0
  unfold mval at *
  clear h
  go_enter Tryz.func97, Tryz.ntmps97
  go_wp2_with (go_at_call 103; refine (k0 _).mono ?_; rintro e w1 ⟨rfl, hb1⟩; clear k0; have hB : Hid (Below w.heap.size w w1) := ((Below.refl w.heap.size w).alloc (Nat.le_refl _) _).trans (hb1.out.mono (by simp)); clear hb1)
  refine bodyPost_ret (v := .tuple #[.slice none 0 0, .int .i64 1]) (by simp [results, Tryz.results97, go_sem]) rfl ⟨rfl, hB⟩
theorem xnums (m : Mg) (h : mayM m = true) (ho : Mok m) (k : Nat) (hk : k < 8) : (#[.int .u64 m.kind, .int .u64 m.tok, .int .u64 m.ep, .int .u64 m.seq, .int .u64 m.ack, .int .u64 m.bits, .int .u64 m.cred, .int .u64 m.fmt] : Array Value)[k]? = some (.int .u64 (((nums m).getD k 0 : Nat) : Int)) := by
  have h1 := mayM_iff.1 h
  have h2 := ho.t1
  have h3 := ho.b1
  have e0 : ((m.kind.toNat : Nat) : Int) = m.kind := by omega
  have e1 : ((m.tok.toNat : Nat) : Int) = m.tok := by omega
  have e2 : ((m.ep.toNat : Nat) : Int) = m.ep := by omega
  have e3 : ((m.seq.toNat : Nat) : Int) = m.seq := by omega
  have e4 : ((m.ack.toNat : Nat) : Int) = m.ack := by omega
  have e5 : ((m.bits.toNat : Nat) : Int) = m.bits := by omega
  have e6 : ((m.cred.toNat : Nat) : Int) = m.cred := by omega
  have e7 : ((m.fmt.toNat : Nat) : Int) = m.fmt := by omega
  match k, hk with
  | 0, _ => rw [show (nums m).getD 0 0 = m.kind.toNat from rfl, e0]; rfl
  | 1, _ => rw [show (nums m).getD 1 0 = m.tok.toNat from rfl, e1]; rfl
  | 2, _ => rw [show (nums m).getD 2 0 = m.ep.toNat from rfl, e2]; rfl
  | 3, _ => rw [show (nums m).getD 3 0 = m.seq.toNat from rfl, e3]; rfl
  | 4, _ => rw [show (nums m).getD 4 0 = m.ack.toNat from rfl, e4]; rfl
  | 5, _ => rw [show (nums m).getD 5 0 = m.bits.toNat from rfl, e5]; rfl
  | 6, _ => rw [show (nums m).getD 6 0 = m.cred.toNat from rfl, e6]; rfl
  | 7, _ => rw [show (nums m).getD 7 0 = m.fmt.toNat from rfl, e7]; rfl
set_option maxHeartbeats 1000000 in
set_option maxRecDepth 100000 in
theorem xpack_may (m : Mg) (a : Option Addr) (n c : Nat) (w : World) (h : mayM m = true) (ho : Mok m) (hn : m.zs.length = n) (h0 : a = none → c = 0) (hb : Bytes w a m.zs) (hl : n + 200 ≤ 140737488355328) :
    Calls Tryz.prog 97 #[mval m a n c] w fun e w' => ∃ v, e = .returned (.tuple #[v, .int .i64 (pkE m)]) ∧ Hid (PkR w w' m v) ∧ Hid (Below w.heap.size w w') := by
  have k0 := fun x => xmay_any m a n c x
  rw [h] at k0
  have h1 := mayM_iff.1 h
  have u0 : IntKind.u64.wrap m.kind = m.kind := by rw [IntKind.wrap_u64]; omega
  have u2 : IntKind.u64.wrap m.ep = m.ep := by rw [IntKind.wrap_u64]; omega
  have u3 : IntKind.u64.wrap m.seq = m.seq := by rw [IntKind.wrap_u64]; omega
  have u4 : IntKind.u64.wrap m.ack = m.ack := by rw [IntKind.wrap_u64]; omega
  have u6 : IntKind.u64.wrap m.cred = m.cred := by rw [IntKind.wrap_u64]; omega
  have u7 : IntKind.u64.wrap m.fmt = m.fmt := by rw [IntKind.wrap_u64]; omega
  have hI : Hid (∀ (k : Nat) (W : World) (g : Nat), Blk W g #[.int .u64 m.kind, .int .u64 m.tok, .int .u64 m.ep, .int .u64 m.seq, .int .u64 m.ack, .int .u64 m.bits, .int .u64 m.cred, .int .u64 m.fmt] 22 → k < 8 → W.cell? ⟨g, k, none⟩ = some (.int .u64 (((nums m).getD k 0 : Nat) : Int))) := fun k W g hb hk => (hb.cell k).trans (xnums m h ho k hk)
  have hnl : Hid (∀ x ∈ nums m, x < 18446744073709551616) := nums_lt h ho
  have hN8 : Hid ((nums m).length = 8) := rfl
  have hB0 : Hid (Bytes w a m.zs) := hb
  have hn' : Hid (m.zs.length = n) := hn
  have h0' : Hid (a = none → c = 0) := h0
  have hl' : Hid (n + 200 ≤ 140737488355328) := hl
  have hE : Hid (pkE m = if 1200 < (hdr m).length + n then 8 else 0) := by
    show _ = _
    unfold pkE
    rw [if_neg (by rw [h]; decide), hn]
  have hlen : Hid ((hdr m).length ≤ 80) := hdr_len h ho
  have hH : Hid (hdr m = hdrK (nums m) 8) := rfl
  unfold mval at *
  clear h h1 ho hb hn h0 hl
  generalize nums m = ns at *
  go_enter Tryz.func97, Tryz.ntmps97
  go_wp2_with fail
  have hbk : Hid (Blk (w.alloc (.cells #[.int .i64 m.kind, .int .u64 m.tok, .int .i64 m.ep, .int .i64 m.seq, .int .i64 m.ack, .int .u64 m.bits, .int .i64 m.cred, .int .i64 m.fmt, .slice a n c] 100)) w.heap.size _ 100) := blk_new w _ _
  have hW : Hid (Below w.heap.size w (w.alloc (.cells #[.int .i64 m.kind, .int .u64 m.tok, .int .i64 m.ep, .int .i64 m.seq, .int .i64 m.ack, .int .u64 m.bits, .int .i64 m.cred, .int .i64 m.fmt, .slice a n c] 100))) := (Below.refl w.heap.size w).alloc (Nat.le_refl _) _
  generalize (w.alloc (.cells #[.int .i64 m.kind, .int .u64 m.tok, .int .i64 m.ep, .int .i64 m.seq, .int .i64 m.ack, .int .u64 m.bits, .int .i64 m.cred, .int .i64 m.fmt, .slice a n c] 100)) = W at *
  generalize hrr : w.heap.size = r at *
  have hr : Hid (w.heap.size = r) := hrr
  clear hrr
  refine (k0 W).mono ?_
  rintro e w1 ⟨rfl, hb1⟩
  have hB1 : Hid (Below W.heap.size W w1) := hb1
  have hbk1 : Hid (Blk w1 r #[.int .i64 m.kind, .int .u64 m.tok, .int .i64 m.ep, .int .i64 m.seq, .int .i64 m.ack, .int .u64 m.bits, .int .i64 m.cred, .int .i64 m.fmt, .slice a n c] 100) := hbk.out.kept hb1
  have c0 : w1.cell? ⟨r, 0, none⟩ = some (.int .i64 m.kind) := hbk1.out.cell 0
  have c1 : w1.cell? ⟨r, 1, none⟩ = some (.int .u64 m.tok) := hbk1.out.cell 1
  have c2 : w1.cell? ⟨r, 2, none⟩ = some (.int .i64 m.ep) := hbk1.out.cell 2
  have c3 : w1.cell? ⟨r, 3, none⟩ = some (.int .i64 m.seq) := hbk1.out.cell 3
  have c4 : w1.cell? ⟨r, 4, none⟩ = some (.int .i64 m.ack) := hbk1.out.cell 4
  have c5 : w1.cell? ⟨r, 5, none⟩ = some (.int .u64 m.bits) := hbk1.out.cell 5
  have c6 : w1.cell? ⟨r, 6, none⟩ = some (.int .i64 m.cred) := hbk1.out.cell 6
  have c7 : w1.cell? ⟨r, 7, none⟩ = some (.int .i64 m.fmt) := hbk1.out.cell 7
  have c8 : w1.cell? ⟨r, 8, none⟩ = some (.slice a n c) := hbk1.out.cell 8
  clear hb1 k0
  go_wp2_with fail
  have hbk2 : Hid (Blk (w1.alloc (.cells #[.int .u64 m.kind, .int .u64 m.tok, .int .u64 m.ep, .int .u64 m.seq, .int .u64 m.ack, .int .u64 m.bits, .int .u64 m.cred, .int .u64 m.fmt] 22)) w1.heap.size #[.int .u64 m.kind, .int .u64 m.tok, .int .u64 m.ep, .int .u64 m.seq, .int .u64 m.ack, .int .u64 m.bits, .int .u64 m.cred, .int .u64 m.fmt] 22) := blk_new _ _ _
  have hB2 : Hid (Below W.heap.size W (w1.alloc (.cells #[.int .u64 m.kind, .int .u64 m.tok, .int .u64 m.ep, .int .u64 m.seq, .int .u64 m.ack, .int .u64 m.bits, .int .u64 m.cred, .int .u64 m.fmt] 22))) := hB1.out.trans (((Below.refl w1.heap.size w1).alloc (Nat.le_refl _) _).mono hB1.out.size)
  generalize (w1.alloc (.cells #[.int .u64 m.kind, .int .u64 m.tok, .int .u64 m.ep, .int .u64 m.seq, .int .u64 m.ack, .int .u64 m.bits, .int .u64 m.cred, .int .u64 m.fmt] 22)) = w2 at *
  have hlg : Hid (W.heap.size ≤ w1.heap.size) := hB1.out.size
  generalize w1.heap.size = bl at *
  clear hB1 c0 c1 c2 c3 c4 c5 c6 c7 c8 hbk1 u0 u2 u3 u4 u6 u7
  go_loopw [5, 6] (fun s4 s12 wr => ∃ (k : Nat) (v : Value), k ≤ 8 ∧ s4 = v ∧ s12 = .int .i64 (k : Nat) ∧ Hid (OwnsB wr W.heap.size v (hdrK ns k)) ∧ Hid (Below W.heap.size W wr) ∧ Hid (Blk wr bl #[.int .u64 m.kind, .int .u64 m.tok, .int .u64 m.ep, .int .u64 m.seq, .int .u64 m.ack, .int .u64 m.bits, .int .u64 m.cred, .int .u64 m.fmt] 22)) (fun _ i _ => 8 - (intOf i).toNat)
  case atStart => exact ⟨0, _, by omega, rfl, rfl, ownsB_nil _ _, hB2, hbk2⟩
  case round =>
    obtain ⟨k, v, hk, rfl, rfl, hO, hB, hG⟩ := hrel
    clear hB2 hbk2
    obtain ⟨av, nv, cv, rfl, hnv, h0v, hlv, hmv, hbv⟩ := hO.out.form
    by_cases hlt : k < 8
    · have hd : decide ((k : Int) < 8) = true := by simp; omega
      have hi := hI.out k wr bl hG.out hlt
      have hx : ns.getD k 0 < 18446744073709551616 := by
        rw [List.getD_eq_getElem?_getD, List.getElem?_eq_getElem (by rw [hN8.out]; omega)]
        exact hnl.out _ (List.getElem_mem _)
      have hs : hdrK ns (k + 1) = hdrK ns k ++ shortL (ns.getD k 0) := by
        rw [hdrK_succ ns (by rw [hN8.out]; omega), List.getD_eq_getElem?_getD, List.getElem?_eq_getElem (by rw [hN8.out]; omega)]
        rfl
      have hs' : Hid _ := hs
      have hkl := hdrK_len ns hnl.out k (by rw [hN8.out]; omega)
      have k2 := refPutShort_any av nv cv (ns.getD k 0) (hdrK ns k) wr hx hnv.out hbv.out h0v.out (by have := hnv.out; omega)
      rw [← hs] at k2
      clear hx hs hkl hnv h0v hbv hlv hmv
      generalize ns.getD k 0 = x at *
      go_wp2_with (go_at_call 116; refine k2.mono ?_; rintro e w3 ⟨v3, rfl, hO3, hb3⟩; clear k2)
      exact ⟨⟨k + 1, _, by omega, rfl, by simp, (hO3.base hB.out.size), hB.out.trans (hb3.mono hB.out.size), hG.out.kept hb3⟩, by simp [intOf]; omega⟩
    · have hd : decide ((k : Int) < 8) = false := by simp; omega
      obtain rfl : k = 8 := by omega
      rw [← hH.out] at hO
      have hbk3 : Hid (Blk wr r #[.int .i64 m.kind, .int .u64 m.tok, .int .i64 m.ep, .int .i64 m.seq, .int .i64 m.ack, .int .u64 m.bits, .int .i64 m.cred, .int .i64 m.fmt, .slice a n c] 100) := (hB.out.block r hbk.out.lt).trans hbk.out
      have c8 : wr.cell? ⟨r, 8, none⟩ = some (.slice a n c) := hbk3.out.cell 8
      have hBz : Hid (Bytes wr a m.zs) := (hB0.out.below (B := r) hW.out (fun x hx hne => by subst hx; have := hB0.out.lt hne; have := hr.out; omega)).kept hB.out
      clear hlt hI hnv h0v hbv hlv hmv hbk3
      have hBw0 : Hid (∀ x, Below W.heap.size W x → Below w.heap.size w x) := fun x hx => by
        rw [hr.out]
        exact hW.out.trans (hx.mono (by have := hbk.out.lt; omega))
      by_cases hn12 : 1200 < n
      · have hE8 : Hid (pkE m = 8) := by show _ = _; rw [hE.out, if_pos (by omega)]
        have d12 : decide ((n : Int) > 1200) = true := by simp; omega
        go_wp2
        refine bodyPost_ret (v := .tuple #[.slice none 0 0, .int .i64 8]) (by simp [results, Tryz.results97, go_sem]) rfl ⟨_, by rw [hE8.out], ⟨fun h => (by rw [hE8.out] at h; cases h), fun _ => rfl⟩, hBw0.out _ hB.out⟩
      · have d12 : decide ((n : Int) > 1200) = false := by simp; omega
        go_wp2_with (at_builtin; refine wpList_append_bytes rfl _ _ rfl W.heap.size _ (hdr m) m.zs rfl hO.out a n c rfl hn'.out h0'.out hBz.out (by have := hlen.out; have := hn'.out; have := hl'.out; omega) hB.out.size ?_; intro v4 w4 hO4 hg4; have hb4 : Hid (Below W.heap.size W w4) := grown_below hB.out hO.out hg4 hB.out.size; have hO4' : Hid (OwnsB w4 W.heap.size v4 (hdr m ++ m.zs)) := hO4; clear hg4 hO4; obtain ⟨a4, n4, c4, rfl, hn4, h04, hl4, hm4, hby4⟩ := hO4'.out.form)
        have hlx : Hid ((hdr m ++ m.zs).length = (hdr m).length + n) := by show _ = _; rw [List.length_append, hn'.out]
        have hBw : Hid (∀ x, Below W.heap.size W x → Below w.heap.size w x) := fun x hx => by
          rw [hr.out]
          exact hW.out.trans (hx.mono (by have := hbk.out.lt; omega))
        by_cases hbig : 1200 < (hdr m).length + n
        · have hE8 : Hid (pkE m = 8) := by show _ = _; rw [hE.out, if_pos hbig]
          refine (refEncode_many a4 n4 c4 w4 (by have := hn4.out; have := hlx.out; omega)).mono ?_
          rintro e w5 ⟨rfl, hw5⟩
          obtain rfl := hw5.symm
          go_wp2
          refine bodyPost_ret (v := .tuple #[.slice none 0 0, .int .i64 8]) (by simp [results, Tryz.results97, go_sem]) rfl ⟨_, by rw [hE8.out], ⟨fun h => (by rw [hE8.out] at h; cases h), fun _ => rfl⟩, hBw.out _ hb4.out⟩
        · have hE0 : Hid (pkE m = 0) := by show _ = _; rw [hE.out, if_neg hbig]
          refine (refEncode_ok a4 n4 c4 (hdr m ++ m.zs) w4 hn4.out hby4.out h04.out (by have := hn4.out; have := hlx.out; omega)).mono ?_
          rintro e w5 ⟨v5, rfl, hO5, hb5⟩
          have hb5' : Hid (Below W.heap.size W w5) := hb4.out.trans (hb5.mono hb4.out.size)
          have hO5' : Hid (OwnsB w5 r v5 (pkB m)) := hO5.base (by have := hb4.out.size; have := hbk.out.lt; omega)
          go_wp2
          refine bodyPost_ret (v := .tuple #[v5, .int .i64 0]) (by simp [results, Tryz.results97, go_sem]) rfl ⟨_, by rw [hE0.out], ⟨fun _ => (by rw [hr.out]; exact hO5'.out), fun h => absurd hE0.out h⟩, hBw.out _ hb5'.out⟩
end Go.Proofs.YtfipdldoklkciaaGreat
namespace Go.Proofs.YtfipdldoklkciaaGreat
open Go.RowKit
set_option linter.unusedVariables false
set_option maxRecDepth 100000 in
theorem rat_zero (a : Option Addr) (cap : Nat) (w : World) : Calls Tryz.prog 99 #[.slice a 0 cap] w fun e w' => (∃ u : Bool, e = .returned (.tuple #[.slice none 0 0, .bool false, .bool u])) ∧ Hid (Below w.heap.size w w') := by
  go_enter Tryz.func99, Tryz.ntmps99
  go_wp2
  go_quiet (fail)
  go_wp2
  go_ret3
  exact ⟨⟨_, rfl⟩, (show Below _ _ _ from ⟨rfl, rfl, rfl, Nat.le_refl _, fun _ _ => rfl⟩)⟩
/-- What stands at the front of bytes. -/
def XAt (w' : World) (zs : List Int) (e : Ending) : Prop := (Whole zs → ∃ a c, e = .returned (.tuple #[.slice a (nAt zs) c, .bool true, .bool false]) ∧ Load w' 0 (.slice a (nAt zs) c) (loadAt zs) ∧ (∀ x, a = some x → x.spot = none)) ∧ (¬ Whole zs → ∃ u : Bool, e = .returned (.tuple #[.slice none 0 0, .bool false, .bool u]))
theorem xat_any (a : Option Addr) (n cap : Nat) (zs : List Int) (w : World) (hl : zs.length = n) (hB : Bytes w a zs) (hc : n ≤ cap) (hcm : cap ≤ 9223372036854775807) :
    Calls Tryz.prog 99 #[.slice a n cap] w fun e w' => Hid (XAt w' zs e) ∧ Hid (Below w.heap.size w w') := by
  by_cases h0 : n = 0
  · subst h0
    have hz : zs = [] := List.eq_nil_of_length_eq_zero hl
    have hw : ¬ Whole zs := fun h => by
      have := h.2.1
      rw [hz] at this
      simp at this
    refine (rat_zero a cap w).mono ?_
    rintro e w' ⟨⟨u, rfl⟩, hb⟩
    exact ⟨⟨fun h => absurd h hw, fun _ => ⟨u, rfl⟩⟩, hb⟩
  · obtain ⟨b, off, rfl⟩ := bytes_some hB (by omega)
    have no : ∀ (u : Bool) (h : ¬ Whole zs) w', XAt w' zs (.returned (.tuple #[.slice none 0 0, .bool false, .bool u])) := fun u h w' => ⟨fun k => absurd k h, fun _ => ⟨u, rfl⟩⟩
    by_cases hm : Marked zs
    · by_cases h4 : n < 4
      · have hw : ¬ Whole zs := fun h => by have := h.2.1; omega
        refine (rat_short b off n cap zs w hl (by omega) h4 hB hm).mono ?_
        rintro e w' ⟨rfl, hb⟩
        exact ⟨no _ hw w', hb⟩
      · by_cases hN : 1200 < nAt zs
        · have hw : ¬ Whole zs := fun h => by have := h.1.2; omega
          refine (rat_no4 b off n cap zs w hl (by omega) hB hm hN).mono ?_
          rintro e w' ⟨rfl, hb⟩
          exact ⟨no _ hw w', hb⟩
        · have hf : Front zs := ⟨hm, by omega⟩
          by_cases h8 : n < nAt zs + 8
          · have hw : ¬ Whole zs := fun h => by have := h.2.1; omega
            refine (rat_few4 b off n cap zs w hl (by omega) hB ⟨hf, by omega⟩).mono ?_
            rintro e w' ⟨rfl, hb⟩
            exact ⟨no _ hw w', hb⟩
          · by_cases hs : Sealed ((zs.take (nAt zs + 8)).drop 2)
            · have hw : Whole zs := ⟨hf, by omega, hs⟩
              refine (rat_whole b off n cap zs w hl hc hcm hB hw).mono ?_
              rintro e w' ⟨a', c', rfl, hL, hsp, hb⟩
              exact ⟨⟨fun _ => ⟨a', c', rfl, hL, hsp⟩, fun k => absurd hw k⟩, hb⟩
            · have hw : ¬ Whole zs := fun h => hs h.2.2
              refine (rat_bad b off n cap zs w hl hc hcm hB hf (by omega) hs).mono ?_
              rintro e w' ⟨rfl, hb⟩
              exact ⟨no _ hw w', hb⟩
    · have hw : ¬ Whole zs := fun h => hm h.1.1
      refine (rat_mark b off n cap zs w hl (by omega) hB hm).mono ?_
      rintro e w' ⟨rfl, rfl⟩
      exact ⟨no _ hw _, Below.refl _ _⟩
/-- A short number, read at any state. -/
theorem rshort_u (r p y f n cap : Nat) (a : Option Addr) (zs : List Int) (w : World) (h : RCur w r a n cap zs p y f) :
    Calls Tryz.prog 101 #[.pointer (some ⟨r, 0, none⟩)] w fun e w' => e = .returned (.int .u64 ((sS zs p y f).1 : Nat)) ∧ Hid (RCur w' r a n cap zs (sS zs p y f).2.1 (sS zs p y f).2.2.1 (sS zs p y f).2.2.2) ∧ Hid (w.grownBy w' (some r)) := by
  by_cases hy : y = 0
  · subst hy
    refine (rshort_go r p f n cap a zs w h).mono ?_
    rintro e w' ⟨rfl, h1, h2⟩
    exact ⟨rfl, h1, h2⟩
  · have e1 : sS zs p y f = (0, p, y, f) := by unfold sS; rw [if_pos hy]
    rw [e1]
    refine (rshort_stop r p y f n cap a zs w h hy).mono ?_
    rintro e w' ⟨rfl, rfl⟩
    exact ⟨rfl, h, World.grownBy.refl _ _⟩
/-- All that is left, taken. -/
theorem rtake_rest (r p y f n cap : Nat) (a : Option Addr) (zs : List Int) (w : World) (h : RCur w r a n cap zs p y f) (ha : y = 0 → a ≠ none) :
    Calls Tryz.prog 102 #[.pointer (some ⟨r, 0, none⟩), .int .i64 ((n - p : Nat) : Int)] w fun e w' => ∃ a3 k c3, e = .returned (.slice a3 k c3) ∧ Hid (Bytes w' a3 (if y = 0 then zs.drop p else []) ∧ (if y = 0 then zs.drop p else []).length = k ∧ (∀ x, a3 = some x → w.heap.size ≤ x.block) ∧ (a3 = none → c3 = 0)) ∧ Hid (∃ p', RCur w' r a n cap zs p' y f) ∧ Hid (w.grownBy w' (some r)) := by
  by_cases hy : y = 0
  · subst hy
    obtain ⟨x, rfl⟩ : ∃ x, a = some x := by
      cases a with
      | none => exact absurd rfl (ha rfl)
      | some x => exact ⟨x, rfl⟩
    have hp := h.2.2.2.1
    have hn := h.2.2.1
    have hc := h.2.2.2.2.2.1
    by_cases hpc : p < cap
    · have hsp := h.2.2.2.2.2.2.2.2.2 x rfl (by omega)
      obtain ⟨b, off, sp⟩ := x
      obtain rfl : sp = none := hsp
      refine (rtake_mid r p f n cap (n - p) b off zs w h (by omega) hpc).mono ?_
      rintro e w' ⟨v, rfl, hO, hC, hG⟩
      obtain ⟨a3, n3, c3, rfl, hl3, h03, hc3, hm3, hB3⟩ := hO.form
      have e1 : (zs.drop p).take (n - p) = zs.drop p := List.take_of_length_le (by rw [List.length_drop]; omega)
      have hat : ∀ x, a3 = some x → w.heap.size ≤ x.block := fun x hx => by
        obtain ⟨a4, c4, hv, _, _, _, h5⟩ := hO.shape
        cases hv
        exact (h5 x hx).1
      rw [e1] at hB3 hl3
      exact ⟨a3, n3, c3, rfl, ⟨hB3.out, hl3.out, hat, h03⟩, ⟨_, hC⟩, hG⟩
    · have e1 : n = p := by omega
      have e2 : cap = p := by omega
      subst e1
      subst e2
      have h' := rtake_last r f _ x zs w h
      rw [Nat.sub_self]
      refine h'.mono ?_
      rintro e w' ⟨v, rfl, hO, hC, hG⟩
      obtain ⟨a3, n3, c3, rfl, hl3, h03, hc3, hm3, hB3⟩ := hO.form
      have hat : ∀ x, a3 = some x → w.heap.size ≤ x.block := fun x hx => by
        obtain ⟨a4, c4, hv, _, _, _, h5⟩ := hO.shape
        cases hv
        exact (h5 x hx).1
      have e3 : zs.drop zs.length = [] := List.drop_length
      rw [hn] at e3
      rw [if_pos rfl, e3]
      exact ⟨a3, n3, c3, rfl, ⟨hB3.out, hl3.out, hat, h03⟩, ⟨_, hC⟩, hG⟩
  · rw [if_neg hy]
    refine (rtake_stop r p y f n cap a zs _ w h hy).mono ?_
    rintro e w' ⟨rfl, rfl⟩
    exact ⟨none, 0, 0, rfl, ⟨⟨by simp, by simp, .inl rfl⟩, rfl, (fun x hx => by cases hx), fun _ => rfl⟩, ⟨p, h⟩, World.grownBy.refl _ _⟩
/-- The message that the document's own reader reads. -/
def xM (l : List Int) : Mg := ⟨xnum (uV l 0), uV l 1, xnum (uV l 2), xnum (uV l 3), xnum (uV l 4), uV l 5, xnum (uV l 6), xnum (uV l 7), if (uS l 8).2.1 = 0 then l.drop (uS l 8).1 else []⟩
theorem uV_lt (l : List Int) (hz : ∀ c ∈ l, 0 ≤ c ∧ c < 256) (k : Nat) : uV l k < 18446744073709551616 := by
  unfold uV sS
  split
  · show (0 : Nat) < 18446744073709551616; decide
  split
  · exact rdS_lt _ 0 0 (fun c hc => hz c (List.mem_of_mem_drop hc)) (by omega) (by simp)
  split
  · show (0 : Nat) < 18446744073709551616; decide
  · show (0 : Nat) < 18446744073709551616; decide
theorem x_one {v : Nat} (h : v < 18446744073709551616) {lo hi : Int} (h0 : 0 ≤ lo) (h1 : hi ≤ 4611686018427387904) : (lo ≤ xnum v ∧ xnum v ≤ hi ↔ lo ≤ IntKind.i64.wrap (v : Int) ∧ IntKind.i64.wrap (v : Int) ≤ hi) ∧ (lo ≤ xnum v ∧ xnum v ≤ hi → xnum v = IntKind.i64.wrap (v : Int)) := by
  rw [IntKind.wrap_i64]
  unfold xnum
  split
  · refine ⟨⟨fun k => by omega, fun k => by omega⟩, fun k => by omega⟩
  · refine ⟨⟨fun k => by omega, fun k => by omega⟩, fun k => by omega⟩
/-- THEY READ ALIKE. -/
theorem xM_may (l : List Int) (hz : ∀ c ∈ l, 0 ≤ c ∧ c < 256) : mayM (xM l) = mayM (upM l) ∧ (mayM (xM l) = true → xM l = upM l) := by
  have b0 := uV_lt l hz 0
  have b2 := uV_lt l hz 2
  have b3 := uV_lt l hz 3
  have b4 := uV_lt l hz 4
  have b6 := uV_lt l hz 6
  have b7 := uV_lt l hz 7
  unfold xM upM ui
  generalize uV l 0 = v0 at *
  generalize uV l 1 = v1 at *
  generalize uV l 2 = v2 at *
  generalize uV l 3 = v3 at *
  generalize uV l 4 = v4 at *
  generalize uV l 5 = v5 at *
  generalize uV l 6 = v6 at *
  generalize uV l 7 = v7 at *
  generalize uS l 8 = u at *
  have f0 := x_one b0 (lo := 1) (hi := 7) (by decide) (by decide)
  have f2 := x_one b2 (lo := 0) (hi := 4611686018427387904) (by decide) (by decide)
  have f3 := x_one b3 (lo := 0) (hi := 4611686018427387904) (by decide) (by decide)
  have f4 := x_one b4 (lo := 0) (hi := 4611686018427387904) (by decide) (by decide)
  have f6 := x_one b6 (lo := 0) (hi := 4611686018427387904) (by decide) (by decide)
  have f7 := x_one b7 (lo := 0) (hi := 2) (by decide) (by decide)
  refine ⟨?_, fun hm => ?_⟩
  · rw [Bool.eq_iff_iff, mayM_iff, mayM_iff]
    dsimp only
    rw [f0.1, f2.1, f3.1, f4.1, f6.1, f7.1]
  · have h1 := mayM_iff.1 hm
    dsimp only at h1
    rw [f0.2 h1.1, f7.2 h1.2.1, f2.2 h1.2.2.1, f3.2 h1.2.2.2.1, f4.2 h1.2.2.2.2.1, f6.2 h1.2.2.2.2.2]
end Go.Proofs.YtfipdldoklkciaaGreat
