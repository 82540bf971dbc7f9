/-
  Texts Lsw, Lsx.
-/
import Derived.Test.YtfipdldoklkciaaGreatGaw
import Derived.Test.YtfipdldoklkciaaGreatGap
import Derived.BigQuiet
import Derived.Test.YtfipdldoklkciaaGreatGav
import Derived.Test.YtfipdldoklkciaaGreatGal
import Derived.Test.YtfipdldoklkciaaGreatGas
namespace Go.Proofs.YtfipdldoklkciaaGreat
open Go.RowKit
set_option linter.unusedVariables false
variable {B : Nat}
set_option maxHeartbeats 4000000 in
set_option maxRecDepth 100000 in
theorem xforge_own {w : World} {lb : Nat} {L : Lk} (a : Option Addr) (n c : Nat) (zs : List Int) (M : Mg) (E : Int) (h : XM B w lb L) (k : Int) (hk : k = 0 ∨ k = 1) (hn : zs.length = n) (h0 : a = none → c = 0) (hb : Bytes w a zs) (h1 : n ≤ 1208) (kU : ∀ x, Below w.heap.size w x → Calls Tryz.prog 70 #[.slice a n c] x fun e w' => (∃ am nm cm, e = .returned (.tuple #[mval M am nm cm, .int .i64 E])) ∧ Hid (Below x.heap.size x w')) (q0 : (E == 0) = true) (q1 : (M.tok == L.tok) = true) :
    Calls Tryz.prog 39 #[.pointer (some ⟨lb, 0, none⟩), .int .i64 k, .slice a n c] w fun e w' => e = .returned (.int .i64 1) ∧ Hid (XM B w' lb L) ∧ Hid (KX B lb w w') := by
  have hX : Hid (XM B w lb L) := h
  have d1 : decide ((n : Int) > 1208) = false := by simp; omega
  have hlt := XC.lt h
  have c0 := (XC.cells h).1
  clear h hn h0 hb h1
  rcases hk with rfl | rfl
  · go_enter Tryz.func39, Tryz.ntmps39
    go_wp2_with fail
    refine (kU w (Below.refl _ _)).mono ?_
    rintro e w2 ⟨⟨am, nm, cm, rfl⟩, hb2⟩
    unfold mval
    have hlt2 : lb < w2.heap.size := Nat.lt_of_lt_of_le hlt hb2.out.size
    have c2 : w2.cell? ⟨lb, 0, none⟩ = some (.int .u64 L.tok) := (hb2.out.cell hlt).trans c0
    have hA : Hid (Below w.heap.size w (w2.alloc (.cells #[.int .i64 M.kind, .int .u64 M.tok, .int .i64 M.ep, .int .i64 M.seq, .int .i64 M.ack, .int .u64 M.bits, .int .i64 M.cred, .int .i64 M.fmt, .slice am nm cm] 100))) := hb2.out.alloc hb2.out.size _
    have hW : Hid (Below w.heap.size w (w2.alloc (.cells #[.int .i64 M.kind, .int .u64 M.tok, .int .i64 M.ep, .int .i64 M.seq, .int .i64 M.ack, .int .u64 M.bits, .int .i64 M.cred, .int .i64 M.fmt, .slice am nm cm] 100)).drew) := hA.out.drew
    clear c0 hb2 kU
    go_wp2_with fail
    go_region
    go_wp2_with fail
    go_ret
    exact ⟨rfl, hX.out.kept hW.out, KX.of_below hW.out⟩
  · go_enter Tryz.func39, Tryz.ntmps39
    go_wp2_with fail
    refine (kU w (Below.refl _ _)).mono ?_
    rintro e w2 ⟨⟨am, nm, cm, rfl⟩, hb2⟩
    unfold mval
    have hlt2 : lb < w2.heap.size := Nat.lt_of_lt_of_le hlt hb2.out.size
    have c2 : w2.cell? ⟨lb, 0, none⟩ = some (.int .u64 L.tok) := (hb2.out.cell hlt).trans c0
    have hA : Hid (Below w.heap.size w (w2.alloc (.cells #[.int .i64 M.kind, .int .u64 M.tok, .int .i64 M.ep, .int .i64 M.seq, .int .i64 M.ack, .int .u64 M.bits, .int .i64 M.cred, .int .i64 M.fmt, .slice am nm cm] 100))) := hb2.out.alloc hb2.out.size _
    have hW : Hid (Below w.heap.size w (w2.alloc (.cells #[.int .i64 M.kind, .int .u64 M.tok, .int .i64 M.ep, .int .i64 M.seq, .int .i64 M.ack, .int .u64 M.bits, .int .i64 M.cred, .int .i64 M.fmt, .slice am nm cm] 100)).drew) := hA.out.drew
    clear c0 hb2 kU
    go_wp2_with fail
    go_region
    go_wp2_with fail
    go_ret
    exact ⟨rfl, hX.out.kept hW.out, KX.of_below hW.out⟩
set_option maxHeartbeats 4000000 in
set_option maxRecDepth 100000 in
theorem xforge0a {w : World} {lb : Nat} {L : Lk} (a : Option Addr) (n c : Nat) (zs : List Int) (M : Mg) (E : Int) (h : XM B w lb L) (hf : L.n0.length ≤ 256) (hn : zs.length = n) (h0 : a = none → c = 0) (hb : Bytes w a zs) (h1 : n ≤ 1208) (kU : ∀ x, Below w.heap.size w x → Calls Tryz.prog 70 #[.slice a n c] x fun e w' => (∃ am nm cm, e = .returned (.tuple #[mval M am nm cm, .int .i64 E])) ∧ Hid (Below x.heap.size x w')) (q0 : (E == 0) = false) :
    Calls Tryz.prog 39 #[.pointer (some ⟨lb, 0, none⟩), .int .i64 0, .slice a n c] w fun e w' => e = .returned (.int .i64 0) ∧ Hid (∃ g : Gr, g.zs = zs ∧ g.sp = true ∧ XM B w' lb { L with n0 := putG L.n0 g }) ∧ Hid (KX B lb w w') := by
  have hX : Hid (XM B w lb L) := h
  have d1 : decide ((n : Int) > 1208) = false := by simp; omega
  have hlt := XC.lt h
  have c0 := (XC.cells h).1
  have hf' : Hid (L.n0.length ≤ 256) := hf
  have hZ : Hid (zs.length = n) := hn
  have hN0 : Hid (a = none → c = 0) := h0
  have hBz : Hid (Bytes w a zs) := hb
  have hl' : Hid (n ≤ 1208) := h1
  have hlow : Hid (B ≤ w.heap.size) := XC.low h
  clear h hf hn h0 hb h1
  go_enter Tryz.func39, Tryz.ntmps39
  go_wp2_with fail
  refine (kU w (Below.refl _ _)).mono ?_
  rintro e w2 ⟨⟨am, nm, cm, rfl⟩, hb2⟩
  unfold mval
  have hlt2 : lb < w2.heap.size := Nat.lt_of_lt_of_le hlt hb2.out.size
  have c2 : w2.cell? ⟨lb, 0, none⟩ = some (.int .u64 L.tok) := (hb2.out.cell hlt).trans c0
  have hA : Hid (Below w.heap.size w (w2.alloc (.cells #[.int .i64 M.kind, .int .u64 M.tok, .int .i64 M.ep, .int .i64 M.seq, .int .i64 M.ack, .int .u64 M.bits, .int .i64 M.cred, .int .i64 M.fmt, .slice am nm cm] 100))) := hb2.out.alloc hb2.out.size _
  have hW : Hid (Below w.heap.size w (w2.alloc (.cells #[.int .i64 M.kind, .int .u64 M.tok, .int .i64 M.ep, .int .i64 M.seq, .int .i64 M.ack, .int .u64 M.bits, .int .i64 M.cred, .int .i64 M.fmt, .slice am nm cm] 100)).drew) := hA.out.drew
  clear c0 hb2 kU
  go_wp2_with fail
  go_quiet (fail)
  clear hW
  have hW : Hid (Below w.heap.size w ((w2.alloc (.cells #[.int .i64 M.kind, .int .u64 M.tok, .int .i64 M.ep, .int .i64 M.seq, .int .i64 M.ack, .int .u64 M.bits, .int .i64 M.cred, .int .i64 M.fmt, .slice am nm cm] 100)).drewN nq)) := Below.drN hA.out _
  generalize ((w2.alloc (.cells #[.int .i64 M.kind, .int .u64 M.tok, .int .i64 M.ep, .int .i64 M.seq, .int .i64 M.ack, .int .u64 M.bits, .int .i64 M.cred, .int .i64 M.fmt, .slice am nm cm] 100)).drewN nq) = W at *
  clear hA
  have hXW : Hid (XM B W lb L) := hX.out.kept hW.out
  clear hlt2 c2
  go_wp2_with (first
    | (at_builtin; refine wpList_append_bytes rfl _ _ rfl W.heap.size (.slice none 0 0) [] zs rfl (ownsB_nil _ _) a n c rfl hZ.out hN0.out (hBz.out.kept hW.out) (by have := hl'.out; have := hZ.out; simp; omega) (Nat.le_refl _) ?_; intro v4 w4 hO4 hg4; rw [List.nil_append] at hO4; have hb4 : Hid (Below W.heap.size W w4) := grown_below (Below.refl _ _) (ownsB_nil W W.heap.size) hg4 (Nat.le_refl _); have hge : Hid (∀ q, v4.ownBlock = some q → B ≤ q) := fun q hq => Nat.le_trans hlow.out (Nat.le_trans hW.out.size (own_at hO4.1 q hq).1); obtain ⟨g, g1, g2, rfl, -⟩ := gr_of_owns true hO4; have hgz : Hid (g.zs = zs ∧ g.sp = true) := ⟨g1, g2⟩; have hgE : Hid (GrE w4 (Ge B) g) := ⟨by rw [g1]; exact hO4.low (Nat.zero_le _), hge.out⟩; have kp := XC.put0 (hXW.out.kept hb4.out) hf'.out g hgE.out; rw [show g.val = .agg #[.slice g.a g.n g.c, .bool true] by unfold Gr.val; rw [g2]] at kp; clear hO4 hg4 hge g1 g2)
    | (go_at_call 74; refine kp.mono ?_; rintro e w5 ⟨rfl, hX5, hK5⟩; clear kp))
  go_ret
  exact ⟨rfl, ⟨g, hgz.out.1, hgz.out.2, hX5.out⟩, (KX.of_below (hW.out.trans (hb4.out.mono hW.out.size))).trans (KX.of_l hK5.out)⟩
set_option maxHeartbeats 4000000 in
set_option maxRecDepth 100000 in
theorem xforge0b {w : World} {lb : Nat} {L : Lk} (a : Option Addr) (n c : Nat) (zs : List Int) (M : Mg) (E : Int) (h : XM B w lb L) (hf : L.n0.length ≤ 256) (hn : zs.length = n) (h0 : a = none → c = 0) (hb : Bytes w a zs) (h1 : n ≤ 1208) (kU : ∀ x, Below w.heap.size w x → Calls Tryz.prog 70 #[.slice a n c] x fun e w' => (∃ am nm cm, e = .returned (.tuple #[mval M am nm cm, .int .i64 E])) ∧ Hid (Below x.heap.size x w')) (q0 : (E == 0) = true) (q1 : (M.tok == L.tok) = false) :
    Calls Tryz.prog 39 #[.pointer (some ⟨lb, 0, none⟩), .int .i64 0, .slice a n c] w fun e w' => e = .returned (.int .i64 0) ∧ Hid (∃ g : Gr, g.zs = zs ∧ g.sp = true ∧ XM B w' lb { L with n0 := putG L.n0 g }) ∧ Hid (KX B lb w w') := by
  have hX : Hid (XM B w lb L) := h
  have d1 : decide ((n : Int) > 1208) = false := by simp; omega
  have hlt := XC.lt h
  have c0 := (XC.cells h).1
  have hf' : Hid (L.n0.length ≤ 256) := hf
  have hZ : Hid (zs.length = n) := hn
  have hN0 : Hid (a = none → c = 0) := h0
  have hBz : Hid (Bytes w a zs) := hb
  have hl' : Hid (n ≤ 1208) := h1
  have hlow : Hid (B ≤ w.heap.size) := XC.low h
  clear h hf hn h0 hb h1
  go_enter Tryz.func39, Tryz.ntmps39
  go_wp2_with fail
  refine (kU w (Below.refl _ _)).mono ?_
  rintro e w2 ⟨⟨am, nm, cm, rfl⟩, hb2⟩
  unfold mval
  have hlt2 : lb < w2.heap.size := Nat.lt_of_lt_of_le hlt hb2.out.size
  have c2 : w2.cell? ⟨lb, 0, none⟩ = some (.int .u64 L.tok) := (hb2.out.cell hlt).trans c0
  have hA : Hid (Below w.heap.size w (w2.alloc (.cells #[.int .i64 M.kind, .int .u64 M.tok, .int .i64 M.ep, .int .i64 M.seq, .int .i64 M.ack, .int .u64 M.bits, .int .i64 M.cred, .int .i64 M.fmt, .slice am nm cm] 100))) := hb2.out.alloc hb2.out.size _
  have hW : Hid (Below w.heap.size w (w2.alloc (.cells #[.int .i64 M.kind, .int .u64 M.tok, .int .i64 M.ep, .int .i64 M.seq, .int .i64 M.ack, .int .u64 M.bits, .int .i64 M.cred, .int .i64 M.fmt, .slice am nm cm] 100)).drew) := hA.out.drew
  clear c0 hb2 kU
  go_wp2_with fail
  go_region
  generalize (w2.alloc (.cells #[.int .i64 M.kind, .int .u64 M.tok, .int .i64 M.ep, .int .i64 M.seq, .int .i64 M.ack, .int .u64 M.bits, .int .i64 M.cred, .int .i64 M.fmt, .slice am nm cm] 100)).drew = W at *
  clear hA
  have hXW : Hid (XM B W lb L) := hX.out.kept hW.out
  clear hlt2 c2
  go_wp2_with (first
    | (at_builtin; refine wpList_append_bytes rfl _ _ rfl W.heap.size (.slice none 0 0) [] zs rfl (ownsB_nil _ _) a n c rfl hZ.out hN0.out (hBz.out.kept hW.out) (by have := hl'.out; have := hZ.out; simp; omega) (Nat.le_refl _) ?_; intro v4 w4 hO4 hg4; rw [List.nil_append] at hO4; have hb4 : Hid (Below W.heap.size W w4) := grown_below (Below.refl _ _) (ownsB_nil W W.heap.size) hg4 (Nat.le_refl _); have hge : Hid (∀ q, v4.ownBlock = some q → B ≤ q) := fun q hq => Nat.le_trans hlow.out (Nat.le_trans hW.out.size (own_at hO4.1 q hq).1); obtain ⟨g, g1, g2, rfl, -⟩ := gr_of_owns true hO4; have hgz : Hid (g.zs = zs ∧ g.sp = true) := ⟨g1, g2⟩; have hgE : Hid (GrE w4 (Ge B) g) := ⟨by rw [g1]; exact hO4.low (Nat.zero_le _), hge.out⟩; have kp := XC.put0 (hXW.out.kept hb4.out) hf'.out g hgE.out; rw [show g.val = .agg #[.slice g.a g.n g.c, .bool true] by unfold Gr.val; rw [g2]] at kp; clear hO4 hg4 hge g1 g2)
    | (go_at_call 74; refine kp.mono ?_; rintro e w5 ⟨rfl, hX5, hK5⟩; clear kp))
  go_ret
  exact ⟨rfl, ⟨g, hgz.out.1, hgz.out.2, hX5.out⟩, (KX.of_below (hW.out.trans (hb4.out.mono hW.out.size))).trans (KX.of_l hK5.out)⟩
set_option maxHeartbeats 4000000 in
set_option maxRecDepth 100000 in
theorem xforge1a {w : World} {lb : Nat} {L : Lk} (a : Option Addr) (n c : Nat) (zs : List Int) (M : Mg) (E : Int) (h : XM B w lb L) (hf : L.n1.length ≤ 256) (hn : zs.length = n) (h0 : a = none → c = 0) (hb : Bytes w a zs) (h1 : n ≤ 1208) (kU : ∀ x, Below w.heap.size w x → Calls Tryz.prog 70 #[.slice a n c] x fun e w' => (∃ am nm cm, e = .returned (.tuple #[mval M am nm cm, .int .i64 E])) ∧ Hid (Below x.heap.size x w')) (q0 : (E == 0) = false) :
    Calls Tryz.prog 39 #[.pointer (some ⟨lb, 0, none⟩), .int .i64 1, .slice a n c] w fun e w' => e = .returned (.int .i64 0) ∧ Hid (∃ g : Gr, g.zs = zs ∧ g.sp = true ∧ XM B w' lb { L with n1 := putG L.n1 g }) ∧ Hid (KX B lb w w') := by
  have hX : Hid (XM B w lb L) := h
  have d1 : decide ((n : Int) > 1208) = false := by simp; omega
  have hlt := XC.lt h
  have c0 := (XC.cells h).1
  have hf' : Hid (L.n1.length ≤ 256) := hf
  have hZ : Hid (zs.length = n) := hn
  have hN0 : Hid (a = none → c = 0) := h0
  have hBz : Hid (Bytes w a zs) := hb
  have hl' : Hid (n ≤ 1208) := h1
  have hlow : Hid (B ≤ w.heap.size) := XC.low h
  clear h hf hn h0 hb h1
  go_enter Tryz.func39, Tryz.ntmps39
  go_wp2_with fail
  refine (kU w (Below.refl _ _)).mono ?_
  rintro e w2 ⟨⟨am, nm, cm, rfl⟩, hb2⟩
  unfold mval
  have hlt2 : lb < w2.heap.size := Nat.lt_of_lt_of_le hlt hb2.out.size
  have c2 : w2.cell? ⟨lb, 0, none⟩ = some (.int .u64 L.tok) := (hb2.out.cell hlt).trans c0
  have hA : Hid (Below w.heap.size w (w2.alloc (.cells #[.int .i64 M.kind, .int .u64 M.tok, .int .i64 M.ep, .int .i64 M.seq, .int .i64 M.ack, .int .u64 M.bits, .int .i64 M.cred, .int .i64 M.fmt, .slice am nm cm] 100))) := hb2.out.alloc hb2.out.size _
  have hW : Hid (Below w.heap.size w (w2.alloc (.cells #[.int .i64 M.kind, .int .u64 M.tok, .int .i64 M.ep, .int .i64 M.seq, .int .i64 M.ack, .int .u64 M.bits, .int .i64 M.cred, .int .i64 M.fmt, .slice am nm cm] 100)).drew) := hA.out.drew
  clear c0 hb2 kU
  go_wp2_with fail
  go_quiet (fail)
  clear hW
  have hW : Hid (Below w.heap.size w ((w2.alloc (.cells #[.int .i64 M.kind, .int .u64 M.tok, .int .i64 M.ep, .int .i64 M.seq, .int .i64 M.ack, .int .u64 M.bits, .int .i64 M.cred, .int .i64 M.fmt, .slice am nm cm] 100)).drewN nq)) := Below.drN hA.out _
  generalize ((w2.alloc (.cells #[.int .i64 M.kind, .int .u64 M.tok, .int .i64 M.ep, .int .i64 M.seq, .int .i64 M.ack, .int .u64 M.bits, .int .i64 M.cred, .int .i64 M.fmt, .slice am nm cm] 100)).drewN nq) = W at *
  clear hA
  have hXW : Hid (XM B W lb L) := hX.out.kept hW.out
  clear hlt2 c2
  go_wp2_with (first
    | (at_builtin; refine wpList_append_bytes rfl _ _ rfl W.heap.size (.slice none 0 0) [] zs rfl (ownsB_nil _ _) a n c rfl hZ.out hN0.out (hBz.out.kept hW.out) (by have := hl'.out; have := hZ.out; simp; omega) (Nat.le_refl _) ?_; intro v4 w4 hO4 hg4; rw [List.nil_append] at hO4; have hb4 : Hid (Below W.heap.size W w4) := grown_below (Below.refl _ _) (ownsB_nil W W.heap.size) hg4 (Nat.le_refl _); have hge : Hid (∀ q, v4.ownBlock = some q → B ≤ q) := fun q hq => Nat.le_trans hlow.out (Nat.le_trans hW.out.size (own_at hO4.1 q hq).1); obtain ⟨g, g1, g2, rfl, -⟩ := gr_of_owns true hO4; have hgz : Hid (g.zs = zs ∧ g.sp = true) := ⟨g1, g2⟩; have hgE : Hid (GrE w4 (Ge B) g) := ⟨by rw [g1]; exact hO4.low (Nat.zero_le _), hge.out⟩; have kp := XC.put1 (hXW.out.kept hb4.out) hf'.out g hgE.out; rw [show g.val = .agg #[.slice g.a g.n g.c, .bool true] by unfold Gr.val; rw [g2]] at kp; clear hO4 hg4 hge g1 g2)
    | (go_at_call 74; refine kp.mono ?_; rintro e w5 ⟨rfl, hX5, hK5⟩; clear kp))
  go_ret
  exact ⟨rfl, ⟨g, hgz.out.1, hgz.out.2, hX5.out⟩, (KX.of_below (hW.out.trans (hb4.out.mono hW.out.size))).trans (KX.of_l hK5.out)⟩
set_option maxHeartbeats 4000000 in
set_option maxRecDepth 100000 in
theorem xforge1b {w : World} {lb : Nat} {L : Lk} (a : Option Addr) (n c : Nat) (zs : List Int) (M : Mg) (E : Int) (h : XM B w lb L) (hf : L.n1.length ≤ 256) (hn : zs.length = n) (h0 : a = none → c = 0) (hb : Bytes w a zs) (h1 : n ≤ 1208) (kU : ∀ x, Below w.heap.size w x → Calls Tryz.prog 70 #[.slice a n c] x fun e w' => (∃ am nm cm, e = .returned (.tuple #[mval M am nm cm, .int .i64 E])) ∧ Hid (Below x.heap.size x w')) (q0 : (E == 0) = true) (q1 : (M.tok == L.tok) = false) :
    Calls Tryz.prog 39 #[.pointer (some ⟨lb, 0, none⟩), .int .i64 1, .slice a n c] w fun e w' => e = .returned (.int .i64 0) ∧ Hid (∃ g : Gr, g.zs = zs ∧ g.sp = true ∧ XM B w' lb { L with n1 := putG L.n1 g }) ∧ Hid (KX B lb w w') := by
  have hX : Hid (XM B w lb L) := h
  have d1 : decide ((n : Int) > 1208) = false := by simp; omega
  have hlt := XC.lt h
  have c0 := (XC.cells h).1
  have hf' : Hid (L.n1.length ≤ 256) := hf
  have hZ : Hid (zs.length = n) := hn
  have hN0 : Hid (a = none → c = 0) := h0
  have hBz : Hid (Bytes w a zs) := hb
  have hl' : Hid (n ≤ 1208) := h1
  have hlow : Hid (B ≤ w.heap.size) := XC.low h
  clear h hf hn h0 hb h1
  go_enter Tryz.func39, Tryz.ntmps39
  go_wp2_with fail
  refine (kU w (Below.refl _ _)).mono ?_
  rintro e w2 ⟨⟨am, nm, cm, rfl⟩, hb2⟩
  unfold mval
  have hlt2 : lb < w2.heap.size := Nat.lt_of_lt_of_le hlt hb2.out.size
  have c2 : w2.cell? ⟨lb, 0, none⟩ = some (.int .u64 L.tok) := (hb2.out.cell hlt).trans c0
  have hA : Hid (Below w.heap.size w (w2.alloc (.cells #[.int .i64 M.kind, .int .u64 M.tok, .int .i64 M.ep, .int .i64 M.seq, .int .i64 M.ack, .int .u64 M.bits, .int .i64 M.cred, .int .i64 M.fmt, .slice am nm cm] 100))) := hb2.out.alloc hb2.out.size _
  have hW : Hid (Below w.heap.size w (w2.alloc (.cells #[.int .i64 M.kind, .int .u64 M.tok, .int .i64 M.ep, .int .i64 M.seq, .int .i64 M.ack, .int .u64 M.bits, .int .i64 M.cred, .int .i64 M.fmt, .slice am nm cm] 100)).drew) := hA.out.drew
  clear c0 hb2 kU
  go_wp2_with fail
  go_region
  generalize (w2.alloc (.cells #[.int .i64 M.kind, .int .u64 M.tok, .int .i64 M.ep, .int .i64 M.seq, .int .i64 M.ack, .int .u64 M.bits, .int .i64 M.cred, .int .i64 M.fmt, .slice am nm cm] 100)).drew = W at *
  clear hA
  have hXW : Hid (XM B W lb L) := hX.out.kept hW.out
  clear hlt2 c2
  go_wp2_with (first
    | (at_builtin; refine wpList_append_bytes rfl _ _ rfl W.heap.size (.slice none 0 0) [] zs rfl (ownsB_nil _ _) a n c rfl hZ.out hN0.out (hBz.out.kept hW.out) (by have := hl'.out; have := hZ.out; simp; omega) (Nat.le_refl _) ?_; intro v4 w4 hO4 hg4; rw [List.nil_append] at hO4; have hb4 : Hid (Below W.heap.size W w4) := grown_below (Below.refl _ _) (ownsB_nil W W.heap.size) hg4 (Nat.le_refl _); have hge : Hid (∀ q, v4.ownBlock = some q → B ≤ q) := fun q hq => Nat.le_trans hlow.out (Nat.le_trans hW.out.size (own_at hO4.1 q hq).1); obtain ⟨g, g1, g2, rfl, -⟩ := gr_of_owns true hO4; have hgz : Hid (g.zs = zs ∧ g.sp = true) := ⟨g1, g2⟩; have hgE : Hid (GrE w4 (Ge B) g) := ⟨by rw [g1]; exact hO4.low (Nat.zero_le _), hge.out⟩; have kp := XC.put1 (hXW.out.kept hb4.out) hf'.out g hgE.out; rw [show g.val = .agg #[.slice g.a g.n g.c, .bool true] by unfold Gr.val; rw [g2]] at kp; clear hO4 hg4 hge g1 g2)
    | (go_at_call 74; refine kp.mono ?_; rintro e w5 ⟨rfl, hX5, hK5⟩; clear kp))
  go_ret
  exact ⟨rfl, ⟨g, hgz.out.1, hgz.out.2, hX5.out⟩, (KX.of_below (hW.out.trans (hb4.out.mono hW.out.size))).trans (KX.of_l hK5.out)⟩
theorem xforge_any {w : World} {lb : Nat} {L : Lk} (k : Int) (a : Option Addr) (n c : Nat) (zs : List Int) (h : XM B w lb L) (p : Lp L) (hn : zs.length = n) (h0 : a = none → c = 0) (hb : Bytes w a zs) (hc : n ≤ c) (hcm : c ≤ 9223372036854775807) :
    Calls Tryz.prog 39 #[.pointer (some ⟨lb, 0, none⟩), .int .i64 k, .slice a n c] w fun e w' => e = .returned (.int .i64 (forgeE L k zs)) ∧ Hid (∃ L', ForgeS L L' k zs ∧ XM B w' lb L') ∧ Hid (KX B lb w w') := by
  have hX : Hid (XM B w lb L) := h
  have same : ∀ w', forgeE L k zs ≠ 0 → XM B w' lb L → ∃ L', ForgeS L L' k zs ∧ XM B w' lb L' := fun w' hE hx => ⟨L, ⟨fun _ => rfl, fun e => absurd e hE⟩, hx⟩
  cases hk : netB k with
  | false =>
    have e : forgeE L k zs = 1 := by unfold forgeE; rw [if_pos hk]
    have q0 : (k != 0) = true := by unfold netB at hk; simp at hk ⊢; omega
    have q1 : (k != 1) = true := by unfold netB at hk; simp at hk ⊢; omega
    have sm := same w (by rw [e]; decide) h
    rw [e]
    clear h hn h0 hb hk same e
    go_enter Tryz.func39, Tryz.ntmps39
    go_wp2_with fail
    go_ret
    exact ⟨rfl, sm, KX.refl _ _⟩
  | true =>
    by_cases h1 : 1208 < n
    · have e : forgeE L k zs = 8 := by unfold forgeE; rw [if_neg (by rw [hk]; decide), if_pos (by omega)]
      have d1 : decide ((n : Int) > 1208) = true := by simp; omega
      have sm := same w (by rw [e]; decide) h
      rw [e]
      clear h hn h0 hb same e h1
      rcases net_two hk with rfl | rfl
      · go_enter Tryz.func39, Tryz.ntmps39
        go_wp2_with fail
        go_ret
        exact ⟨rfl, sm, KX.refl _ _⟩
      · go_enter Tryz.func39, Tryz.ntmps39
        go_wp2_with fail
        go_ret
        exact ⟨rfl, sm, KX.refl _ _⟩
    · have kU : ∀ x, Below w.heap.size w x → Calls Tryz.prog 70 #[.slice a n c] x fun e w' => (∃ am nm cm, e = .returned (.tuple #[mval (outM zs) am nm cm, .int .i64 (upE zs)])) ∧ Hid (Below x.heap.size x w') := fun x hx => by
        have kk : Calls Tryz.prog 70 #[.slice a n c] x fun e w' => Hid (UpX w' zs e) ∧ Hid (Below x.heap.size x w') := by
          cases hw : wfB zs with
          | false => exact xunpack_sum a n c zs x hn (hb.kept hx) hc hcm hw
          | true => exact xunpack_wf a n c zs x hn (hb.kept hx) hc hcm hw
        refine kk.mono ?_
        rintro e w' ⟨hU, hb2⟩
        obtain ⟨am, nm, cm, rfl, -⟩ := hU.out
        exact ⟨⟨am, nm, cm, rfl⟩, hb2⟩
      have hE : forgeE L k zs = if ownB L zs = true then 1 else 0 := by unfold forgeE; rw [if_neg (by rw [hk]; decide), if_neg (by omega)]
      by_cases hz : upE zs = 0
      · have hm : outM zs = upG zs := outM_zero hz
        by_cases ht : (upG zs).tok = L.tok
        · have ho : ownB L zs = true := by unfold ownB; exact decide_eq_true ⟨hz, ht⟩
          have e : forgeE L k zs = 1 := by rw [hE, if_pos ho]
          refine (xforge_own a n c zs (outM zs) (upE zs) h k (net_two hk) hn h0 hb (by omega) kU (by rw [hz]; rfl) (by rw [hm, ht]; simp)).mono ?_
          rintro e5 w' ⟨rfl, h5, h6⟩
          exact ⟨by rw [e], same w' (by rw [e]; decide) h5.out, h6⟩
        · have ho : ¬ ownB L zs = true := by unfold ownB; simp; exact fun _ => ht
          have e : forgeE L k zs = 0 := by rw [hE, if_neg ho]
          rw [e]
          rcases net_two hk with rfl | rfl
          · refine (xforge0b a n c zs (outM zs) (upE zs) h p.f0 hn h0 hb (by omega) kU (by rw [hz]; rfl) (by rw [hm]; simp; exact ht)).mono ?_
            rintro e5 w' ⟨rfl, h5, h6⟩
            obtain ⟨g, g1, g2, g3⟩ := h5.out
            exact ⟨rfl, ⟨_, ⟨fun k => absurd e k, fun _ => ⟨g, g1, g2, rfl⟩⟩, g3⟩, h6⟩
          · refine (xforge1b a n c zs (outM zs) (upE zs) h p.f1 hn h0 hb (by omega) kU (by rw [hz]; rfl) (by rw [hm]; simp; exact ht)).mono ?_
            rintro e5 w' ⟨rfl, h5, h6⟩
            obtain ⟨g, g1, g2, g3⟩ := h5.out
            exact ⟨rfl, ⟨_, ⟨fun k => absurd e k, fun _ => ⟨g, g1, g2, rfl⟩⟩, g3⟩, h6⟩
      · have ho : ¬ ownB L zs = true := by unfold ownB; simp; exact fun k => absurd k hz
        have e : forgeE L k zs = 0 := by rw [hE, if_neg ho]
        rw [e]
        rcases net_two hk with rfl | rfl
        · refine (xforge0a a n c zs (outM zs) (upE zs) h p.f0 hn h0 hb (by omega) kU (by simp; exact hz)).mono ?_
          rintro e5 w' ⟨rfl, h5, h6⟩
          obtain ⟨g, g1, g2, g3⟩ := h5.out
          exact ⟨rfl, ⟨_, ⟨fun k => absurd e k, fun _ => ⟨g, g1, g2, rfl⟩⟩, g3⟩, h6⟩
        · refine (xforge1a a n c zs (outM zs) (upE zs) h p.f1 hn h0 hb (by omega) kU (by simp; exact hz)).mono ?_
          rintro e5 w' ⟨rfl, h5, h6⟩
          obtain ⟨g, g1, g2, g3⟩ := h5.out
          exact ⟨rfl, ⟨_, ⟨fun k => absurd e k, fun _ => ⟨g, g1, g2, rfl⟩⟩, g3⟩, h6⟩
end Go.Proofs.YtfipdldoklkciaaGreat
namespace Go.Proofs.YtfipdldoklkciaaGreat
open Go.RowKit
set_option linter.unusedVariables false
variable {B : Nat}
theorem blk_fill {w : World} {g : Nat} {T : TypeId} (a0 a1 a2 a3 a4 a5 a6 a7 a8 a9 a10 a11 a12 a13 b0 b1 b2 b3 b4 b5 b6 b7 b8 b9 b10 b11 b12 b13 : Value) (h : Blk w g #[a0, a1, a2, a3, a4, a5, a6, a7, a8, a9, a10, a11, a12, a13] T) : Blk (((((((((((((((w).setCell ⟨g, 0, none⟩ b0).setCell ⟨g, 1, none⟩ b1).setCell ⟨g, 2, none⟩ b2).setCell ⟨g, 3, none⟩ b3).setCell ⟨g, 4, none⟩ b4).setCell ⟨g, 5, none⟩ b5).setCell ⟨g, 6, none⟩ b6).setCell ⟨g, 7, none⟩ b7).setCell ⟨g, 8, none⟩ b8).setCell ⟨g, 9, none⟩ b9).setCell ⟨g, 10, none⟩ b10).setCell ⟨g, 11, none⟩ b11).setCell ⟨g, 12, none⟩ b12).setCell ⟨g, 13, none⟩ b13) g #[b0, b1, b2, b3, b4, b5, b6, b7, b8, b9, b10, b11, b12, b13] T := by
  have h0 : Blk ((w).setCell ⟨g, 0, none⟩ b0) g #[b0, a1, a2, a3, a4, a5, a6, a7, a8, a9, a10, a11, a12, a13] T := h.set 0 b0
  have h1 : Blk (((w).setCell ⟨g, 0, none⟩ b0).setCell ⟨g, 1, none⟩ b1) g #[b0, b1, a2, a3, a4, a5, a6, a7, a8, a9, a10, a11, a12, a13] T := h0.set 1 b1
  have h2 : Blk ((((w).setCell ⟨g, 0, none⟩ b0).setCell ⟨g, 1, none⟩ b1).setCell ⟨g, 2, none⟩ b2) g #[b0, b1, b2, a3, a4, a5, a6, a7, a8, a9, a10, a11, a12, a13] T := h1.set 2 b2
  have h3 : Blk (((((w).setCell ⟨g, 0, none⟩ b0).setCell ⟨g, 1, none⟩ b1).setCell ⟨g, 2, none⟩ b2).setCell ⟨g, 3, none⟩ b3) g #[b0, b1, b2, b3, a4, a5, a6, a7, a8, a9, a10, a11, a12, a13] T := h2.set 3 b3
  have h4 : Blk ((((((w).setCell ⟨g, 0, none⟩ b0).setCell ⟨g, 1, none⟩ b1).setCell ⟨g, 2, none⟩ b2).setCell ⟨g, 3, none⟩ b3).setCell ⟨g, 4, none⟩ b4) g #[b0, b1, b2, b3, b4, a5, a6, a7, a8, a9, a10, a11, a12, a13] T := h3.set 4 b4
  have h5 : Blk (((((((w).setCell ⟨g, 0, none⟩ b0).setCell ⟨g, 1, none⟩ b1).setCell ⟨g, 2, none⟩ b2).setCell ⟨g, 3, none⟩ b3).setCell ⟨g, 4, none⟩ b4).setCell ⟨g, 5, none⟩ b5) g #[b0, b1, b2, b3, b4, b5, a6, a7, a8, a9, a10, a11, a12, a13] T := h4.set 5 b5
  have h6 : Blk ((((((((w).setCell ⟨g, 0, none⟩ b0).setCell ⟨g, 1, none⟩ b1).setCell ⟨g, 2, none⟩ b2).setCell ⟨g, 3, none⟩ b3).setCell ⟨g, 4, none⟩ b4).setCell ⟨g, 5, none⟩ b5).setCell ⟨g, 6, none⟩ b6) g #[b0, b1, b2, b3, b4, b5, b6, a7, a8, a9, a10, a11, a12, a13] T := h5.set 6 b6
  have h7 : Blk (((((((((w).setCell ⟨g, 0, none⟩ b0).setCell ⟨g, 1, none⟩ b1).setCell ⟨g, 2, none⟩ b2).setCell ⟨g, 3, none⟩ b3).setCell ⟨g, 4, none⟩ b4).setCell ⟨g, 5, none⟩ b5).setCell ⟨g, 6, none⟩ b6).setCell ⟨g, 7, none⟩ b7) g #[b0, b1, b2, b3, b4, b5, b6, b7, a8, a9, a10, a11, a12, a13] T := h6.set 7 b7
  have h8 : Blk ((((((((((w).setCell ⟨g, 0, none⟩ b0).setCell ⟨g, 1, none⟩ b1).setCell ⟨g, 2, none⟩ b2).setCell ⟨g, 3, none⟩ b3).setCell ⟨g, 4, none⟩ b4).setCell ⟨g, 5, none⟩ b5).setCell ⟨g, 6, none⟩ b6).setCell ⟨g, 7, none⟩ b7).setCell ⟨g, 8, none⟩ b8) g #[b0, b1, b2, b3, b4, b5, b6, b7, b8, a9, a10, a11, a12, a13] T := h7.set 8 b8
  have h9 : Blk (((((((((((w).setCell ⟨g, 0, none⟩ b0).setCell ⟨g, 1, none⟩ b1).setCell ⟨g, 2, none⟩ b2).setCell ⟨g, 3, none⟩ b3).setCell ⟨g, 4, none⟩ b4).setCell ⟨g, 5, none⟩ b5).setCell ⟨g, 6, none⟩ b6).setCell ⟨g, 7, none⟩ b7).setCell ⟨g, 8, none⟩ b8).setCell ⟨g, 9, none⟩ b9) g #[b0, b1, b2, b3, b4, b5, b6, b7, b8, b9, a10, a11, a12, a13] T := h8.set 9 b9
  have h10 : Blk ((((((((((((w).setCell ⟨g, 0, none⟩ b0).setCell ⟨g, 1, none⟩ b1).setCell ⟨g, 2, none⟩ b2).setCell ⟨g, 3, none⟩ b3).setCell ⟨g, 4, none⟩ b4).setCell ⟨g, 5, none⟩ b5).setCell ⟨g, 6, none⟩ b6).setCell ⟨g, 7, none⟩ b7).setCell ⟨g, 8, none⟩ b8).setCell ⟨g, 9, none⟩ b9).setCell ⟨g, 10, none⟩ b10) g #[b0, b1, b2, b3, b4, b5, b6, b7, b8, b9, b10, a11, a12, a13] T := h9.set 10 b10
  have h11 : Blk (((((((((((((w).setCell ⟨g, 0, none⟩ b0).setCell ⟨g, 1, none⟩ b1).setCell ⟨g, 2, none⟩ b2).setCell ⟨g, 3, none⟩ b3).setCell ⟨g, 4, none⟩ b4).setCell ⟨g, 5, none⟩ b5).setCell ⟨g, 6, none⟩ b6).setCell ⟨g, 7, none⟩ b7).setCell ⟨g, 8, none⟩ b8).setCell ⟨g, 9, none⟩ b9).setCell ⟨g, 10, none⟩ b10).setCell ⟨g, 11, none⟩ b11) g #[b0, b1, b2, b3, b4, b5, b6, b7, b8, b9, b10, b11, a12, a13] T := h10.set 11 b11
  have h12 : Blk ((((((((((((((w).setCell ⟨g, 0, none⟩ b0).setCell ⟨g, 1, none⟩ b1).setCell ⟨g, 2, none⟩ b2).setCell ⟨g, 3, none⟩ b3).setCell ⟨g, 4, none⟩ b4).setCell ⟨g, 5, none⟩ b5).setCell ⟨g, 6, none⟩ b6).setCell ⟨g, 7, none⟩ b7).setCell ⟨g, 8, none⟩ b8).setCell ⟨g, 9, none⟩ b9).setCell ⟨g, 10, none⟩ b10).setCell ⟨g, 11, none⟩ b11).setCell ⟨g, 12, none⟩ b12) g #[b0, b1, b2, b3, b4, b5, b6, b7, b8, b9, b10, b11, b12, a13] T := h11.set 12 b12
  have h13 : Blk (((((((((((((((w).setCell ⟨g, 0, none⟩ b0).setCell ⟨g, 1, none⟩ b1).setCell ⟨g, 2, none⟩ b2).setCell ⟨g, 3, none⟩ b3).setCell ⟨g, 4, none⟩ b4).setCell ⟨g, 5, none⟩ b5).setCell ⟨g, 6, none⟩ b6).setCell ⟨g, 7, none⟩ b7).setCell ⟨g, 8, none⟩ b8).setCell ⟨g, 9, none⟩ b9).setCell ⟨g, 10, none⟩ b10).setCell ⟨g, 11, none⟩ b11).setCell ⟨g, 12, none⟩ b12).setCell ⟨g, 13, none⟩ b13) g #[b0, b1, b2, b3, b4, b5, b6, b7, b8, b9, b10, b11, b12, b13] T := h12.set 13 b13
  exact h13
set_option maxHeartbeats 4000000 in
set_option maxRecDepth 100000 in
theorem xnew_no (win tok : Int) (w : World) (h : win < 1 ∨ 32 < win) :
    Calls Tryz.prog 5 #[.int .i64 win, .int .u64 tok] w fun e w' => e = .returned (.tuple #[.agg #[.int .u64 0, .int .i64 0, .int .i64 0, .int .i64 0, .int .i64 0, .int .i64 0, .slice none 0 0, .int .i64 0, .int .i64 0, .slice none 0 0, .slice none 0 0, .slice none 0 0, .int .i64 0, .int .i64 0], .int .i64 1]) ∧ Hid (Below w.heap.size w w') := by
  have k0 : Hid (∀ x, Calls Tryz.prog 21 #[.int .i64 win] x fun e w' => e = .returned (.tuple #[.agg #[.int .i64 0, .int .i64 0, .slice none 0 0], .int .i64 1]) ∧ Hid (Below x.heap.size x w')) := fun x => mnew_no win x h
  have hb0 : Hid (Below w.heap.size w (w.alloc (.cells #[.int .u64 0, .int .i64 0, .int .i64 0, .int .i64 0, .int .i64 0, .int .i64 0, .slice none 0 0, .int .i64 0, .int .i64 0, .slice none 0 0, .slice none 0 0, .slice none 0 0, .int .i64 0, .int .i64 0] 37))) := (Below.refl _ _).alloc (Nat.le_refl _) _
  clear h
  go_enter Tryz.func5, Tryz.ntmps5
  go_wp2_with fail
  refine (k0.out _).mono ?_
  rintro e w1 ⟨rfl, hb1⟩
  have hbk : Blk w1 w.heap.size #[.int .u64 0, .int .i64 0, .int .i64 0, .int .i64 0, .int .i64 0, .int .i64 0, .slice none 0 0, .int .i64 0, .int .i64 0, .slice none 0 0, .slice none 0 0, .slice none 0 0, .int .i64 0, .int .i64 0] 37 := (blk_new w _ _).kept hb1.out
  have hlt : w.heap.size < w1.heap.size := hbk.lt
  have hb2 : Hid (Below w.heap.size w w1) := hb0.out.trans (hb1.out.mono hb0.out.size)
  have e0 := hbk.cell 0
  have f0 := hbk.fz 0
  have e1 := hbk.cell 1
  have f1 := hbk.fz 1
  have e2 := hbk.cell 2
  have f2 := hbk.fz 2
  have e3 := hbk.cell 3
  have f3 := hbk.fz 3
  have e4 := hbk.cell 4
  have f4 := hbk.fz 4
  have e5 := hbk.cell 5
  have f5 := hbk.fz 5
  have e6 := hbk.cell 6
  have f6 := hbk.fz 6
  have e7 := hbk.cell 7
  have f7 := hbk.fz 7
  have e8 := hbk.cell 8
  have f8 := hbk.fz 8
  have e9 := hbk.cell 9
  have f9 := hbk.fz 9
  have e10 := hbk.cell 10
  have f10 := hbk.fz 10
  have e11 := hbk.cell 11
  have f11 := hbk.fz 11
  have e12 := hbk.cell 12
  have f12 := hbk.fz 12
  have e13 := hbk.cell 13
  have f13 := hbk.fz 13
  clear hb0 hb1 k0
  go_wp2_with fail
  have hF : Blk ((((((((((((((((w1).setCell ⟨w.heap.size, 0, none⟩ (.int .u64 0)).setCell ⟨w.heap.size, 1, none⟩ (.int .i64 0)).setCell ⟨w.heap.size, 2, none⟩ (.int .i64 0)).setCell ⟨w.heap.size, 3, none⟩ (.int .i64 0)).setCell ⟨w.heap.size, 4, none⟩ (.int .i64 0)).setCell ⟨w.heap.size, 5, none⟩ (.int .i64 0)).setCell ⟨w.heap.size, 6, none⟩ (.slice none 0 0)).setCell ⟨w.heap.size, 7, none⟩ (.int .i64 0)).setCell ⟨w.heap.size, 8, none⟩ (.int .i64 0)).setCell ⟨w.heap.size, 9, none⟩ (.slice none 0 0)).setCell ⟨w.heap.size, 10, none⟩ (.slice none 0 0)).setCell ⟨w.heap.size, 11, none⟩ (.slice none 0 0)).setCell ⟨w.heap.size, 12, none⟩ (.int .i64 0)).setCell ⟨w.heap.size, 13, none⟩ (.int .i64 0)).alloc (.cells #[.int .i64 0, .int .i64 0, .slice none 0 0] 33)) w.heap.size #[.int .u64 0, .int .i64 0, .int .i64 0, .int .i64 0, .int .i64 0, .int .i64 0, .slice none 0 0, .int .i64 0, .int .i64 0, .slice none 0 0, .slice none 0 0, .slice none 0 0, .int .i64 0, .int .i64 0] 37 := Blk.kept (show Blk (((((((((((((((w1).setCell ⟨w.heap.size, 0, none⟩ (.int .u64 0)).setCell ⟨w.heap.size, 1, none⟩ (.int .i64 0)).setCell ⟨w.heap.size, 2, none⟩ (.int .i64 0)).setCell ⟨w.heap.size, 3, none⟩ (.int .i64 0)).setCell ⟨w.heap.size, 4, none⟩ (.int .i64 0)).setCell ⟨w.heap.size, 5, none⟩ (.int .i64 0)).setCell ⟨w.heap.size, 6, none⟩ (.slice none 0 0)).setCell ⟨w.heap.size, 7, none⟩ (.int .i64 0)).setCell ⟨w.heap.size, 8, none⟩ (.int .i64 0)).setCell ⟨w.heap.size, 9, none⟩ (.slice none 0 0)).setCell ⟨w.heap.size, 10, none⟩ (.slice none 0 0)).setCell ⟨w.heap.size, 11, none⟩ (.slice none 0 0)).setCell ⟨w.heap.size, 12, none⟩ (.int .i64 0)).setCell ⟨w.heap.size, 13, none⟩ (.int .i64 0)) w.heap.size #[.int .u64 0, .int .i64 0, .int .i64 0, .int .i64 0, .int .i64 0, .int .i64 0, .slice none 0 0, .int .i64 0, .int .i64 0, .slice none 0 0, .slice none 0 0, .slice none 0 0, .int .i64 0, .int .i64 0] 37 from blk_fill _ _ _ _ _ _ _ _ _ _ _ _ _ _ _ _ _ _ _ _ _ _ _ _ _ _ _ _ hbk) ((Below.refl _ _).alloc (Nat.le_refl _) _)
  have hBF0 : Below w.heap.size w (((((((((((((((w1).setCell ⟨w.heap.size, 0, none⟩ (.int .u64 0)).setCell ⟨w.heap.size, 1, none⟩ (.int .i64 0)).setCell ⟨w.heap.size, 2, none⟩ (.int .i64 0)).setCell ⟨w.heap.size, 3, none⟩ (.int .i64 0)).setCell ⟨w.heap.size, 4, none⟩ (.int .i64 0)).setCell ⟨w.heap.size, 5, none⟩ (.int .i64 0)).setCell ⟨w.heap.size, 6, none⟩ (.slice none 0 0)).setCell ⟨w.heap.size, 7, none⟩ (.int .i64 0)).setCell ⟨w.heap.size, 8, none⟩ (.int .i64 0)).setCell ⟨w.heap.size, 9, none⟩ (.slice none 0 0)).setCell ⟨w.heap.size, 10, none⟩ (.slice none 0 0)).setCell ⟨w.heap.size, 11, none⟩ (.slice none 0 0)).setCell ⟨w.heap.size, 12, none⟩ (.int .i64 0)).setCell ⟨w.heap.size, 13, none⟩ (.int .i64 0)) := ((((((((((((((hb2.out).setCell (p := ⟨w.heap.size, 0, none⟩) (Nat.le_refl _) _).setCell (p := ⟨w.heap.size, 1, none⟩) (Nat.le_refl _) _).setCell (p := ⟨w.heap.size, 2, none⟩) (Nat.le_refl _) _).setCell (p := ⟨w.heap.size, 3, none⟩) (Nat.le_refl _) _).setCell (p := ⟨w.heap.size, 4, none⟩) (Nat.le_refl _) _).setCell (p := ⟨w.heap.size, 5, none⟩) (Nat.le_refl _) _).setCell (p := ⟨w.heap.size, 6, none⟩) (Nat.le_refl _) _).setCell (p := ⟨w.heap.size, 7, none⟩) (Nat.le_refl _) _).setCell (p := ⟨w.heap.size, 8, none⟩) (Nat.le_refl _) _).setCell (p := ⟨w.heap.size, 9, none⟩) (Nat.le_refl _) _).setCell (p := ⟨w.heap.size, 10, none⟩) (Nat.le_refl _) _).setCell (p := ⟨w.heap.size, 11, none⟩) (Nat.le_refl _) _).setCell (p := ⟨w.heap.size, 12, none⟩) (Nat.le_refl _) _).setCell (p := ⟨w.heap.size, 13, none⟩) (Nat.le_refl _) _
  have hBF : Hid (Below w.heap.size w ((((((((((((((((w1).setCell ⟨w.heap.size, 0, none⟩ (.int .u64 0)).setCell ⟨w.heap.size, 1, none⟩ (.int .i64 0)).setCell ⟨w.heap.size, 2, none⟩ (.int .i64 0)).setCell ⟨w.heap.size, 3, none⟩ (.int .i64 0)).setCell ⟨w.heap.size, 4, none⟩ (.int .i64 0)).setCell ⟨w.heap.size, 5, none⟩ (.int .i64 0)).setCell ⟨w.heap.size, 6, none⟩ (.slice none 0 0)).setCell ⟨w.heap.size, 7, none⟩ (.int .i64 0)).setCell ⟨w.heap.size, 8, none⟩ (.int .i64 0)).setCell ⟨w.heap.size, 9, none⟩ (.slice none 0 0)).setCell ⟨w.heap.size, 10, none⟩ (.slice none 0 0)).setCell ⟨w.heap.size, 11, none⟩ (.slice none 0 0)).setCell ⟨w.heap.size, 12, none⟩ (.int .i64 0)).setCell ⟨w.heap.size, 13, none⟩ (.int .i64 0)).alloc (.cells #[.int .i64 0, .int .i64 0, .slice none 0 0] 33))) := hBF0.alloc hBF0.size _
  clear hBF0 hbk e0 e1 e2 e3 e4 e5 e6 e7 e8 e9 e10 e11 e12 e13 f0 f1 f2 f3 f4 f5 f6 f7 f8 f9 f10 f11 f12 f13
  generalize ((((((((((((((((w1).setCell ⟨w.heap.size, 0, none⟩ (.int .u64 0)).setCell ⟨w.heap.size, 1, none⟩ (.int .i64 0)).setCell ⟨w.heap.size, 2, none⟩ (.int .i64 0)).setCell ⟨w.heap.size, 3, none⟩ (.int .i64 0)).setCell ⟨w.heap.size, 4, none⟩ (.int .i64 0)).setCell ⟨w.heap.size, 5, none⟩ (.int .i64 0)).setCell ⟨w.heap.size, 6, none⟩ (.slice none 0 0)).setCell ⟨w.heap.size, 7, none⟩ (.int .i64 0)).setCell ⟨w.heap.size, 8, none⟩ (.int .i64 0)).setCell ⟨w.heap.size, 9, none⟩ (.slice none 0 0)).setCell ⟨w.heap.size, 10, none⟩ (.slice none 0 0)).setCell ⟨w.heap.size, 11, none⟩ (.slice none 0 0)).setCell ⟨w.heap.size, 12, none⟩ (.int .i64 0)).setCell ⟨w.heap.size, 13, none⟩ (.int .i64 0)).alloc (.cells #[.int .i64 0, .int .i64 0, .slice none 0 0] 33)) = WF at *
  have r0 : WF.cell? ⟨w.heap.size, 0, none⟩ = some (.int .u64 0) := hF.cell 0
  have r1 : WF.cell? ⟨w.heap.size, 1, none⟩ = some (.int .i64 0) := hF.cell 1
  have r2 : WF.cell? ⟨w.heap.size, 2, none⟩ = some (.int .i64 0) := hF.cell 2
  have r3 : WF.cell? ⟨w.heap.size, 3, none⟩ = some (.int .i64 0) := hF.cell 3
  have r4 : WF.cell? ⟨w.heap.size, 4, none⟩ = some (.int .i64 0) := hF.cell 4
  have r5 : WF.cell? ⟨w.heap.size, 5, none⟩ = some (.int .i64 0) := hF.cell 5
  have r6 : WF.cell? ⟨w.heap.size, 6, none⟩ = some (.slice none 0 0) := hF.cell 6
  have r7 : WF.cell? ⟨w.heap.size, 7, none⟩ = some (.int .i64 0) := hF.cell 7
  have r8 : WF.cell? ⟨w.heap.size, 8, none⟩ = some (.int .i64 0) := hF.cell 8
  have r9 : WF.cell? ⟨w.heap.size, 9, none⟩ = some (.slice none 0 0) := hF.cell 9
  have r10 : WF.cell? ⟨w.heap.size, 10, none⟩ = some (.slice none 0 0) := hF.cell 10
  have r11 : WF.cell? ⟨w.heap.size, 11, none⟩ = some (.slice none 0 0) := hF.cell 11
  have r12 : WF.cell? ⟨w.heap.size, 12, none⟩ = some (.int .i64 0) := hF.cell 12
  have r13 : WF.cell? ⟨w.heap.size, 13, none⟩ = some (.int .i64 0) := hF.cell 13
  refine bodyPost_ret (v := .tuple #[.agg #[.int .u64 0, .int .i64 0, .int .i64 0, .int .i64 0, .int .i64 0, .int .i64 0, .slice none 0 0, .int .i64 0, .int .i64 0, .slice none 0 0, .slice none 0 0, .slice none 0 0, .int .i64 0, .int .i64 0], .int .i64 1]) (by simp [results, Tryz.results5, go_sem, r0, r1, r2, r3, r4, r5, r6, r7, r8, r9, r10, r11, r12, r13]) rfl ⟨rfl, hBF⟩
set_option maxHeartbeats 4000000 in
set_option maxRecDepth 100000 in
theorem xnew_yes (n : Nat) (tok : Int) (w : World) (h1 : 1 ≤ n) (h2 : n ≤ 32) :
    Calls Tryz.prog 5 #[.int .i64 (n : Int), .int .u64 tok] w fun e w' => ∃ g, e = .returned (.tuple #[.agg #[.int .u64 tok, .int .i64 0, .int .i64 1, .int .i64 (n : Int), .int .i64 1, .int .i64 (n : Int), .slice none 0 0, .int .i64 (n : Int), .int .i64 0, .slice (some ⟨g, 0, none⟩) n n, .slice none 0 0, .slice none 0 0, .int .i64 0, .int .i64 0], .int .i64 0]) ∧ Hid (OwnsC w' w.heap.size (.slice (some ⟨g, 0, none⟩) n n) (List.replicate n (false, .slice none 0 0, []))) ∧ Hid (Below w.heap.size w w') := by
  have k0 : Hid (∀ x, Calls Tryz.prog 21 #[.int .i64 (n : Int)] x fun e w' => ∃ g, e = .returned (.tuple #[.agg #[.int .i64 (n : Int), .int .i64 0, .slice (some ⟨g, 0, none⟩) n n], .int .i64 0]) ∧ Hid (OwnsC w' x.heap.size (.slice (some ⟨g, 0, none⟩) n n) (List.replicate n (false, .slice none 0 0, []))) ∧ Hid (Below x.heap.size x w')) := fun x => mnew_yes n x h1 h2
  have k1 : Hid (∀ x, Calls Tryz.prog 22 #[.int .i64 (n : Int)] x fun e w' => e = .returned (.tuple #[.agg #[.int .i64 (n : Int), .int .i64 1, .int .i64 0, .slice none 0 0], .int .i64 0]) ∧ Hid (Below x.heap.size x w')) := fun x => ynew_yes n x (by omega) (by omega)
  have hb0 : Hid (Below w.heap.size w (w.alloc (.cells #[.int .u64 0, .int .i64 0, .int .i64 0, .int .i64 0, .int .i64 0, .int .i64 0, .slice none 0 0, .int .i64 0, .int .i64 0, .slice none 0 0, .slice none 0 0, .slice none 0 0, .int .i64 0, .int .i64 0] 37))) := (Below.refl _ _).alloc (Nat.le_refl _) _
  clear h1 h2
  go_enter Tryz.func5, Tryz.ntmps5
  go_wp2_with fail
  refine (k0.out _).mono ?_
  rintro e w1 ⟨g, rfl, hO1, hb1⟩
  have hbk1 : Hid (Blk w1 w.heap.size #[.int .u64 0, .int .i64 0, .int .i64 0, .int .i64 0, .int .i64 0, .int .i64 0, .slice none 0 0, .int .i64 0, .int .i64 0, .slice none 0 0, .slice none 0 0, .slice none 0 0, .int .i64 0, .int .i64 0] 37) := (blk_new w _ _).kept hb1.out
  have hb2 : Hid (Below w.heap.size w w1) := hb0.out.trans (hb1.out.mono hb0.out.size)
  have hO2 : Hid (OwnsC w1 (w.heap.size + 1) (.slice (some ⟨g, 0, none⟩) n n) (List.replicate n (false, .slice none 0 0, []))) := hO1.out.low (by simp)
  have hlt1 : Hid (w.heap.size < w1.heap.size) := hbk1.out.lt
  clear hb0 hO1 hb1
  go_wp2_with fail
  refine (k1.out _).mono ?_
  rintro e w2 ⟨rfl, hb3⟩
  have hal : Hid (Below w1.heap.size w1 (w1.alloc (.cells #[.int .i64 (n : Int), .int .i64 0, .slice (some ⟨g, 0, none⟩) n n] 33))) := (Below.refl _ _).alloc (Nat.le_refl _) _
  have hb4 : Hid (Below w1.heap.size w1 w2) := hal.out.trans (hb3.out.mono hal.out.size)
  have hbm : Blk w2 w1.heap.size #[.int .i64 (n : Int), .int .i64 0, .slice (some ⟨g, 0, none⟩) n n] 33 := (blk_new w1 _ _).kept hb3.out
  have hbk : Blk w2 w.heap.size #[.int .u64 0, .int .i64 0, .int .i64 0, .int .i64 0, .int .i64 0, .int .i64 0, .slice none 0 0, .int .i64 0, .int .i64 0, .slice none 0 0, .slice none 0 0, .slice none 0 0, .int .i64 0, .int .i64 0] 37 := hbk1.out.kept hb4.out
  have hlt : w.heap.size < w2.heap.size := hbk.lt
  have hltm : w1.heap.size < w2.heap.size := hbm.lt
  have hne : w.heap.size ≠ w1.heap.size := Nat.ne_of_lt hlt1.out
  have m0 := hbm.cell 0
  have m1 := hbm.cell 1
  have m2 := hbm.cell 2
  have e0 := hbk.cell 0
  have f0 := hbk.fz 0
  have e1 := hbk.cell 1
  have f1 := hbk.fz 1
  have e2 := hbk.cell 2
  have f2 := hbk.fz 2
  have e3 := hbk.cell 3
  have f3 := hbk.fz 3
  have e4 := hbk.cell 4
  have f4 := hbk.fz 4
  have e5 := hbk.cell 5
  have f5 := hbk.fz 5
  have e6 := hbk.cell 6
  have f6 := hbk.fz 6
  have e7 := hbk.cell 7
  have f7 := hbk.fz 7
  have e8 := hbk.cell 8
  have f8 := hbk.fz 8
  have e9 := hbk.cell 9
  have f9 := hbk.fz 9
  have e10 := hbk.cell 10
  have f10 := hbk.fz 10
  have e11 := hbk.cell 11
  have f11 := hbk.fz 11
  have e12 := hbk.cell 12
  have f12 := hbk.fz 12
  have e13 := hbk.cell 13
  have f13 := hbk.fz 13
  have hB2 : Hid (Below w.heap.size w w2) := hb2.out.trans (hb4.out.mono hb2.out.size)
  have hO3 : Hid (OwnsC w2 (w.heap.size + 1) (.slice (some ⟨g, 0, none⟩) n n) (List.replicate n (false, .slice none 0 0, []))) := hO2.out.kept hb4.out
  clear hbm hbk1 hb2 hb3 hb4 hal hO2 k0 k1
  go_wp2_with fail
  have hF : Blk ((((((((((((((((w2).setCell ⟨w.heap.size, 0, none⟩ (.int .u64 tok)).setCell ⟨w.heap.size, 1, none⟩ (.int .i64 0)).setCell ⟨w.heap.size, 2, none⟩ (.int .i64 1)).setCell ⟨w.heap.size, 3, none⟩ (.int .i64 (n : Int))).setCell ⟨w.heap.size, 4, none⟩ (.int .i64 1)).setCell ⟨w.heap.size, 5, none⟩ (.int .i64 (n : Int))).setCell ⟨w.heap.size, 6, none⟩ (.slice none 0 0)).setCell ⟨w.heap.size, 7, none⟩ (.int .i64 (n : Int))).setCell ⟨w.heap.size, 8, none⟩ (.int .i64 0)).setCell ⟨w.heap.size, 9, none⟩ (.slice (some ⟨g, 0, none⟩) n n)).setCell ⟨w.heap.size, 10, none⟩ (.slice none 0 0)).setCell ⟨w.heap.size, 11, none⟩ (.slice none 0 0)).setCell ⟨w.heap.size, 12, none⟩ (.int .i64 0)).setCell ⟨w.heap.size, 13, none⟩ (.int .i64 0)).alloc (.cells #[.int .i64 (n : Int), .int .i64 1, .int .i64 (n : Int), .slice none 0 0] 30)) w.heap.size #[.int .u64 tok, .int .i64 0, .int .i64 1, .int .i64 (n : Int), .int .i64 1, .int .i64 (n : Int), .slice none 0 0, .int .i64 (n : Int), .int .i64 0, .slice (some ⟨g, 0, none⟩) n n, .slice none 0 0, .slice none 0 0, .int .i64 0, .int .i64 0] 37 := Blk.kept (show Blk (((((((((((((((w2).setCell ⟨w.heap.size, 0, none⟩ (.int .u64 tok)).setCell ⟨w.heap.size, 1, none⟩ (.int .i64 0)).setCell ⟨w.heap.size, 2, none⟩ (.int .i64 1)).setCell ⟨w.heap.size, 3, none⟩ (.int .i64 (n : Int))).setCell ⟨w.heap.size, 4, none⟩ (.int .i64 1)).setCell ⟨w.heap.size, 5, none⟩ (.int .i64 (n : Int))).setCell ⟨w.heap.size, 6, none⟩ (.slice none 0 0)).setCell ⟨w.heap.size, 7, none⟩ (.int .i64 (n : Int))).setCell ⟨w.heap.size, 8, none⟩ (.int .i64 0)).setCell ⟨w.heap.size, 9, none⟩ (.slice (some ⟨g, 0, none⟩) n n)).setCell ⟨w.heap.size, 10, none⟩ (.slice none 0 0)).setCell ⟨w.heap.size, 11, none⟩ (.slice none 0 0)).setCell ⟨w.heap.size, 12, none⟩ (.int .i64 0)).setCell ⟨w.heap.size, 13, none⟩ (.int .i64 0)) w.heap.size #[.int .u64 tok, .int .i64 0, .int .i64 1, .int .i64 (n : Int), .int .i64 1, .int .i64 (n : Int), .slice none 0 0, .int .i64 (n : Int), .int .i64 0, .slice (some ⟨g, 0, none⟩) n n, .slice none 0 0, .slice none 0 0, .int .i64 0, .int .i64 0] 37 from blk_fill _ _ _ _ _ _ _ _ _ _ _ _ _ _ _ _ _ _ _ _ _ _ _ _ _ _ _ _ hbk) ((Below.refl _ _).alloc (Nat.le_refl _) _)
  have hBF0 : Below w.heap.size w (((((((((((((((w2).setCell ⟨w.heap.size, 0, none⟩ (.int .u64 tok)).setCell ⟨w.heap.size, 1, none⟩ (.int .i64 0)).setCell ⟨w.heap.size, 2, none⟩ (.int .i64 1)).setCell ⟨w.heap.size, 3, none⟩ (.int .i64 (n : Int))).setCell ⟨w.heap.size, 4, none⟩ (.int .i64 1)).setCell ⟨w.heap.size, 5, none⟩ (.int .i64 (n : Int))).setCell ⟨w.heap.size, 6, none⟩ (.slice none 0 0)).setCell ⟨w.heap.size, 7, none⟩ (.int .i64 (n : Int))).setCell ⟨w.heap.size, 8, none⟩ (.int .i64 0)).setCell ⟨w.heap.size, 9, none⟩ (.slice (some ⟨g, 0, none⟩) n n)).setCell ⟨w.heap.size, 10, none⟩ (.slice none 0 0)).setCell ⟨w.heap.size, 11, none⟩ (.slice none 0 0)).setCell ⟨w.heap.size, 12, none⟩ (.int .i64 0)).setCell ⟨w.heap.size, 13, none⟩ (.int .i64 0)) := ((((((((((((((hB2.out).setCell (p := ⟨w.heap.size, 0, none⟩) (Nat.le_refl _) _).setCell (p := ⟨w.heap.size, 1, none⟩) (Nat.le_refl _) _).setCell (p := ⟨w.heap.size, 2, none⟩) (Nat.le_refl _) _).setCell (p := ⟨w.heap.size, 3, none⟩) (Nat.le_refl _) _).setCell (p := ⟨w.heap.size, 4, none⟩) (Nat.le_refl _) _).setCell (p := ⟨w.heap.size, 5, none⟩) (Nat.le_refl _) _).setCell (p := ⟨w.heap.size, 6, none⟩) (Nat.le_refl _) _).setCell (p := ⟨w.heap.size, 7, none⟩) (Nat.le_refl _) _).setCell (p := ⟨w.heap.size, 8, none⟩) (Nat.le_refl _) _).setCell (p := ⟨w.heap.size, 9, none⟩) (Nat.le_refl _) _).setCell (p := ⟨w.heap.size, 10, none⟩) (Nat.le_refl _) _).setCell (p := ⟨w.heap.size, 11, none⟩) (Nat.le_refl _) _).setCell (p := ⟨w.heap.size, 12, none⟩) (Nat.le_refl _) _).setCell (p := ⟨w.heap.size, 13, none⟩) (Nat.le_refl _) _
  have hBF : Hid (Below w.heap.size w ((((((((((((((((w2).setCell ⟨w.heap.size, 0, none⟩ (.int .u64 tok)).setCell ⟨w.heap.size, 1, none⟩ (.int .i64 0)).setCell ⟨w.heap.size, 2, none⟩ (.int .i64 1)).setCell ⟨w.heap.size, 3, none⟩ (.int .i64 (n : Int))).setCell ⟨w.heap.size, 4, none⟩ (.int .i64 1)).setCell ⟨w.heap.size, 5, none⟩ (.int .i64 (n : Int))).setCell ⟨w.heap.size, 6, none⟩ (.slice none 0 0)).setCell ⟨w.heap.size, 7, none⟩ (.int .i64 (n : Int))).setCell ⟨w.heap.size, 8, none⟩ (.int .i64 0)).setCell ⟨w.heap.size, 9, none⟩ (.slice (some ⟨g, 0, none⟩) n n)).setCell ⟨w.heap.size, 10, none⟩ (.slice none 0 0)).setCell ⟨w.heap.size, 11, none⟩ (.slice none 0 0)).setCell ⟨w.heap.size, 12, none⟩ (.int .i64 0)).setCell ⟨w.heap.size, 13, none⟩ (.int .i64 0)).alloc (.cells #[.int .i64 (n : Int), .int .i64 1, .int .i64 (n : Int), .slice none 0 0] 30))) := hBF0.alloc hBF0.size _
  have hOF0 : OwnsC (((((((((((((((w2).setCell ⟨w.heap.size, 0, none⟩ (.int .u64 tok)).setCell ⟨w.heap.size, 1, none⟩ (.int .i64 0)).setCell ⟨w.heap.size, 2, none⟩ (.int .i64 1)).setCell ⟨w.heap.size, 3, none⟩ (.int .i64 (n : Int))).setCell ⟨w.heap.size, 4, none⟩ (.int .i64 1)).setCell ⟨w.heap.size, 5, none⟩ (.int .i64 (n : Int))).setCell ⟨w.heap.size, 6, none⟩ (.slice none 0 0)).setCell ⟨w.heap.size, 7, none⟩ (.int .i64 (n : Int))).setCell ⟨w.heap.size, 8, none⟩ (.int .i64 0)).setCell ⟨w.heap.size, 9, none⟩ (.slice (some ⟨g, 0, none⟩) n n)).setCell ⟨w.heap.size, 10, none⟩ (.slice none 0 0)).setCell ⟨w.heap.size, 11, none⟩ (.slice none 0 0)).setCell ⟨w.heap.size, 12, none⟩ (.int .i64 0)).setCell ⟨w.heap.size, 13, none⟩ (.int .i64 0)) (w.heap.size + 1) (.slice (some ⟨g, 0, none⟩) n n) (List.replicate n (false, .slice none 0 0, [])) := ((((((((((((((hO3.out).away (j := 0) (Nat.lt_succ_self _)).away (j := 1) (Nat.lt_succ_self _)).away (j := 2) (Nat.lt_succ_self _)).away (j := 3) (Nat.lt_succ_self _)).away (j := 4) (Nat.lt_succ_self _)).away (j := 5) (Nat.lt_succ_self _)).away (j := 6) (Nat.lt_succ_self _)).away (j := 7) (Nat.lt_succ_self _)).away (j := 8) (Nat.lt_succ_self _)).away (j := 9) (Nat.lt_succ_self _)).away (j := 10) (Nat.lt_succ_self _)).away (j := 11) (Nat.lt_succ_self _)).away (j := 12) (Nat.lt_succ_self _)).away (j := 13) (Nat.lt_succ_self _)
  have hOF : Hid (OwnsC ((((((((((((((((w2).setCell ⟨w.heap.size, 0, none⟩ (.int .u64 tok)).setCell ⟨w.heap.size, 1, none⟩ (.int .i64 0)).setCell ⟨w.heap.size, 2, none⟩ (.int .i64 1)).setCell ⟨w.heap.size, 3, none⟩ (.int .i64 (n : Int))).setCell ⟨w.heap.size, 4, none⟩ (.int .i64 1)).setCell ⟨w.heap.size, 5, none⟩ (.int .i64 (n : Int))).setCell ⟨w.heap.size, 6, none⟩ (.slice none 0 0)).setCell ⟨w.heap.size, 7, none⟩ (.int .i64 (n : Int))).setCell ⟨w.heap.size, 8, none⟩ (.int .i64 0)).setCell ⟨w.heap.size, 9, none⟩ (.slice (some ⟨g, 0, none⟩) n n)).setCell ⟨w.heap.size, 10, none⟩ (.slice none 0 0)).setCell ⟨w.heap.size, 11, none⟩ (.slice none 0 0)).setCell ⟨w.heap.size, 12, none⟩ (.int .i64 0)).setCell ⟨w.heap.size, 13, none⟩ (.int .i64 0)).alloc (.cells #[.int .i64 (n : Int), .int .i64 1, .int .i64 (n : Int), .slice none 0 0] 30)) w.heap.size (.slice (some ⟨g, 0, none⟩) n n) (List.replicate n (false, .slice none 0 0, []))) := (hOF0.low (Nat.le_succ _)).kept ((Below.refl _ _).alloc (Nat.le_refl _) _)
  clear hOF0
  clear hBF0 hbk e0 e1 e2 e3 e4 e5 e6 e7 e8 e9 e10 e11 e12 e13 f0 f1 f2 f3 f4 f5 f6 f7 f8 f9 f10 f11 f12 f13
  generalize ((((((((((((((((w2).setCell ⟨w.heap.size, 0, none⟩ (.int .u64 tok)).setCell ⟨w.heap.size, 1, none⟩ (.int .i64 0)).setCell ⟨w.heap.size, 2, none⟩ (.int .i64 1)).setCell ⟨w.heap.size, 3, none⟩ (.int .i64 (n : Int))).setCell ⟨w.heap.size, 4, none⟩ (.int .i64 1)).setCell ⟨w.heap.size, 5, none⟩ (.int .i64 (n : Int))).setCell ⟨w.heap.size, 6, none⟩ (.slice none 0 0)).setCell ⟨w.heap.size, 7, none⟩ (.int .i64 (n : Int))).setCell ⟨w.heap.size, 8, none⟩ (.int .i64 0)).setCell ⟨w.heap.size, 9, none⟩ (.slice (some ⟨g, 0, none⟩) n n)).setCell ⟨w.heap.size, 10, none⟩ (.slice none 0 0)).setCell ⟨w.heap.size, 11, none⟩ (.slice none 0 0)).setCell ⟨w.heap.size, 12, none⟩ (.int .i64 0)).setCell ⟨w.heap.size, 13, none⟩ (.int .i64 0)).alloc (.cells #[.int .i64 (n : Int), .int .i64 1, .int .i64 (n : Int), .slice none 0 0] 30)) = WF at *
  have r0 : WF.cell? ⟨w.heap.size, 0, none⟩ = some (.int .u64 tok) := hF.cell 0
  have r1 : WF.cell? ⟨w.heap.size, 1, none⟩ = some (.int .i64 0) := hF.cell 1
  have r2 : WF.cell? ⟨w.heap.size, 2, none⟩ = some (.int .i64 1) := hF.cell 2
  have r3 : WF.cell? ⟨w.heap.size, 3, none⟩ = some (.int .i64 (n : Int)) := hF.cell 3
  have r4 : WF.cell? ⟨w.heap.size, 4, none⟩ = some (.int .i64 1) := hF.cell 4
  have r5 : WF.cell? ⟨w.heap.size, 5, none⟩ = some (.int .i64 (n : Int)) := hF.cell 5
  have r6 : WF.cell? ⟨w.heap.size, 6, none⟩ = some (.slice none 0 0) := hF.cell 6
  have r7 : WF.cell? ⟨w.heap.size, 7, none⟩ = some (.int .i64 (n : Int)) := hF.cell 7
  have r8 : WF.cell? ⟨w.heap.size, 8, none⟩ = some (.int .i64 0) := hF.cell 8
  have r9 : WF.cell? ⟨w.heap.size, 9, none⟩ = some (.slice (some ⟨g, 0, none⟩) n n) := hF.cell 9
  have r10 : WF.cell? ⟨w.heap.size, 10, none⟩ = some (.slice none 0 0) := hF.cell 10
  have r11 : WF.cell? ⟨w.heap.size, 11, none⟩ = some (.slice none 0 0) := hF.cell 11
  have r12 : WF.cell? ⟨w.heap.size, 12, none⟩ = some (.int .i64 0) := hF.cell 12
  have r13 : WF.cell? ⟨w.heap.size, 13, none⟩ = some (.int .i64 0) := hF.cell 13
  refine bodyPost_ret (v := .tuple #[.agg #[.int .u64 tok, .int .i64 0, .int .i64 1, .int .i64 (n : Int), .int .i64 1, .int .i64 (n : Int), .slice none 0 0, .int .i64 (n : Int), .int .i64 0, .slice (some ⟨g, 0, none⟩) n n, .slice none 0 0, .slice none 0 0, .int .i64 0, .int .i64 0], .int .i64 0]) (by simp [results, Tryz.results5, go_sem, r0, r1, r2, r3, r4, r5, r6, r7, r8, r9, r10, r11, r12, r13]) rfl ⟨g, rfl, hOF, hBF⟩
end Go.Proofs.YtfipdldoklkciaaGreat
