/-
  A datagram comes into a link's net; a message is told.
-/
import Derived.Test.YtfipdldoklkciaaLkj
import Derived.Test.YtfipdldoklkciaaLkc
namespace Go.Proofs.Ytfipdldoklkciaa
open Go.RowKit
set_option linter.unusedVariables false
theorem Net.same {cs cs' : Array Value} {o : Nat} {G : List Gr} (h : Net cs o G) (hz : cs'.size = cs.size) (hs : ∀ j, o ≤ j → j < o + 513 → cs'[j]? = cs[j]?) : Net cs' o G := by
  obtain ⟨h1, h2, h3, h4⟩ := h
  refine ⟨h1, by rw [hs _ (by omega) (by omega)]; exact h2, fun i g hg => ?_, by omega⟩
  have hi := (List.getElem?_eq_some_iff.1 hg).1
  rw [hs _ (by omega) (by omega), hs _ (by omega) (by omega)]
  exact h3 i g hg
theorem lkc_n0 {cs cs' : Array Value} {q : Qb} {L : Lk} {G : List Gr} (h : LkC cs q L) (a : Apart cs cs' 6) (n : Net cs' 6 G) : LkC cs' q { L with n0 := G } := by
  obtain ⟨a1, a2⟩ := a
  refine ⟨a1.trans h.sz, ?_, ?_, ?_, ?_, ?_, ?_, ?_, ?_, ?_, ?_, n, h.n1.same a1 (fun j h1 _ => a2 j (by omega))⟩
  · rw [a2 0 (by omega)]; exact h.c0
  · rw [a2 1 (by omega)]; exact h.c1
  · rw [a2 2 (by omega)]; exact h.c2
  · rw [a2 3 (by omega)]; exact h.c3
  · rw [a2 4 (by omega)]; exact h.c4
  · rw [a2 5 (by omega)]; exact h.c5
  · rw [a2 519 (by omega)]; exact h.k0
  · rw [a2 520 (by omega)]; exact h.e0
  · rw [a2 1034 (by omega)]; exact h.k1
  · rw [a2 1035 (by omega)]; exact h.e1
theorem lkc_n1 {cs cs' : Array Value} {q : Qb} {L : Lk} {G : List Gr} (h : LkC cs q L) (a : Apart cs cs' 521) (n : Net cs' 521 G) : LkC cs' q { L with n1 := G } := by
  obtain ⟨a1, a2⟩ := a
  refine ⟨a1.trans h.sz, ?_, ?_, ?_, ?_, ?_, ?_, ?_, ?_, ?_, ?_, h.n0.same a1 (fun j h1 _ => a2 j (by omega)), n⟩
  · rw [a2 0 (by omega)]; exact h.c0
  · rw [a2 1 (by omega)]; exact h.c1
  · rw [a2 2 (by omega)]; exact h.c2
  · rw [a2 3 (by omega)]; exact h.c3
  · rw [a2 4 (by omega)]; exact h.c4
  · rw [a2 5 (by omega)]; exact h.c5
  · rw [a2 519 (by omega)]; exact h.k0
  · rw [a2 520 (by omega)]; exact h.e0
  · rw [a2 1034 (by omega)]; exact h.k1
  · rw [a2 1035 (by omega)]; exact h.e1
theorem put_mem {G : List Gr} {g x : Gr} (h : x ∈ putG G g) : x ∈ G ∨ x = g := by
  unfold putG at h
  split at h
  · rcases List.mem_append.1 h with h | h
    · exact .inl h
    · exact .inr (by simpa using h)
  · exact .inl h
theorem lput0 {w : World} {B : Nat} {q : Qb} {L : Lk} (g : Gr) (h : Lm w B q L) (hg : GrIn w B g) :
    Calls Try.prog 72 #[.pointer (some ⟨q.lb, 6, none⟩), g.val] w fun e w' => e = .returned (.tuple #[]) ∧ Hid (Lm w' B q { L with n0 := putG L.n0 g }) ∧ Hid (K4 q w w') := by
  obtain ⟨cs, hb, hc⟩ := h.lk
  refine (put_any g hb hc.n0).mono ?_
  rintro e w' ⟨rfl, cs', h1, h2, h3, h4⟩
  refine ⟨rfl, ?_, K4.of_l h4.out⟩
  refine h.turnL h1.out (lkc_n0 hc h3.out h2.out) h4.out rfl rfl ⟨h.ok.t1, h.ok.t2, h.ok.n1, h.ok.n2, h.ok.e1, h.ok.few⟩ (fun x hx => ?_)
  rcases hx with hx | hx
  · rcases put_mem hx with hx | hx
    · exact .inl (.inl hx)
    · subst hx
      exact .inr (hg.k2 h4.out h.no5.1 h.no5.1)
  · exact .inl (.inr hx)
theorem lput1 {w : World} {B : Nat} {q : Qb} {L : Lk} (g : Gr) (h : Lm w B q L) (hg : GrIn w B g) :
    Calls Try.prog 72 #[.pointer (some ⟨q.lb, 521, none⟩), g.val] w fun e w' => e = .returned (.tuple #[]) ∧ Hid (Lm w' B q { L with n1 := putG L.n1 g }) ∧ Hid (K4 q w w') := by
  obtain ⟨cs, hb, hc⟩ := h.lk
  refine (put_any g hb hc.n1).mono ?_
  rintro e w' ⟨rfl, cs', h1, h2, h3, h4⟩
  refine ⟨rfl, ?_, K4.of_l h4.out⟩
  refine h.turnL h1.out (lkc_n1 hc h3.out h2.out) h4.out rfl rfl ⟨h.ok.t1, h.ok.t2, h.ok.n1, h.ok.n2, h.ok.e1, h.ok.few⟩ (fun x hx => ?_)
  rcases hx with hx | hx
  · exact .inl (.inl hx)
  · rcases put_mem hx with hx | hx
    · exact .inl (.inr hx)
    · subst hx
      exact .inr (hg.k2 h4.out h.no5.1 h.no5.1)
theorem GrIn.mono {w : World} {B B' : Nat} {g : Gr} (h : GrIn w B g) (hb : B' ≤ B) : GrIn w B' g := ⟨h.by_, h.len, h.le, h.mx, h.nil, fun x hx => ⟨Nat.le_trans hb (h.at_ x hx).1, (h.at_ x hx).2⟩⟩
theorem gr_of_owns {w : World} {B : Nat} {v : Value} {zs : List Int} (sp : Bool) (h : OwnsB w B v zs) : ∃ g : Gr, g.zs = zs ∧ g.sp = sp ∧ v = .slice g.a g.n g.c ∧ GrIn w B g := by
  obtain ⟨a, c, rfl, h1, ⟨h2, h3⟩, h4, h5⟩ := h.shape
  refine ⟨⟨a, zs.length, c, zs, sp⟩, rfl, rfl, rfl, h4, rfl, h2, by unfold maxLen at h3; exact h3, h1, fun x hx => ⟨(h5 x hx).1, h.blk x hx⟩⟩
/-- A message as a link tells it. -/
def tellM (L : Lk) (m : Mg) : Mg := { m with tok := L.tok, ep := L.ep }
theorem Lm.B_le {w : World} {B : Nat} {q : Qb} {L : Lk} (h : Lm w B q L) : B ≤ w.heap.size := by have := h.hl; have := h.lt; omega
set_option maxHeartbeats 1000000 in
theorem tell0 {w : World} {B : Nat} {q : Qb} {L : Lk} (m : Mg) (a : Option Addr) (n c : Nat) (h : Lm w B q L) (hp : pkE (tellM L m) = 0) (hk : Mok (tellM L m)) (hn : m.zs.length = n) (h0 : a = none → c = 0) (hb : Bytes w a m.zs) :
    Calls Try.prog 66 #[.pointer (some ⟨q.lb, 0, none⟩), .int .i64 0, mval m a n c] w fun e w' => e = .returned (.tuple #[]) ∧ Hid (∃ g : Gr, g.zs = pkB (tellM L m) ∧ g.sp = false ∧ Lm w' B q { L with n0 := putG L.n0 g }) ∧ Hid (K4 q w w') := by
  have hL : Hid (Lm w B q L) := h
  have hlt := h.lt
  have hlt' : Hid (q.lb < w.heap.size) := h.lt
  have c1 := h.cell.2.1
  have c3 := h.cell.2.2.2.1
  have k1 : Hid (∀ x, Bytes x a m.zs → Calls Try.prog 11 #[.agg #[.int .i64 m.kind, .int .u64 L.tok, .int .i64 L.ep, .int .i64 m.seq, .int .i64 m.ack, .int .u64 m.bits, .int .i64 m.cred, .int .i64 m.fmt, .slice a n c]] x fun e w' => ∃ v, e = .returned (.tuple #[v, .int .i64 0]) ∧ Hid (OwnsB w' x.heap.size v (pkB (tellM L m))) ∧ Hid (Below x.heap.size x w')) := fun x hx =>
    (pack_may (tellM L m) a n c x (pk_may hp).1 hk hn h0 hx (by have := (pk_may hp).2; rw [List.length_append] at this; have e : (tellM L m).zs = m.zs := rfl; rw [e] at this; omega)).mono (by
      rintro e w' ⟨v, rfl, h1, h2⟩
      rw [hp]
      exact ⟨v, rfl, h1.out.1 hp, h2⟩)
  have hB0 : Hid (Bytes w a m.zs) := hb
  clear h hp hk hn h0 hb
  unfold mval
  go_enter Try.func66, Try.ntmps66
  go_wp2_with fail
  go_region
  have hW : Hid (Below w.heap.size w (w.alloc (.cells #[.int .i64 m.kind, .int .u64 L.tok, .int .i64 L.ep, .int .i64 m.seq, .int .i64 m.ack, .int .u64 m.bits, .int .i64 m.cred, .int .i64 m.fmt, .slice a n c] 25)).drew) := ((Below.refl w.heap.size w).alloc (Nat.le_refl _) _).drew
  have hbk : Hid (Blk (w.alloc (.cells #[.int .i64 m.kind, .int .u64 L.tok, .int .i64 L.ep, .int .i64 m.seq, .int .i64 m.ack, .int .u64 m.bits, .int .i64 m.cred, .int .i64 m.fmt, .slice a n c] 25)).drew w.heap.size #[.int .i64 m.kind, .int .u64 L.tok, .int .i64 L.ep, .int .i64 m.seq, .int .i64 m.ack, .int .u64 m.bits, .int .i64 m.cred, .int .i64 m.fmt, .slice a n c] 25) := blk_new w _ _
  generalize (w.alloc (.cells #[.int .i64 m.kind, .int .u64 L.tok, .int .i64 L.ep, .int .i64 m.seq, .int .i64 m.ack, .int .u64 m.bits, .int .i64 m.cred, .int .i64 m.fmt, .slice a n c] 25)).drew = W at *
  have d0 : W.cell? ⟨w.heap.size, 0, none⟩ = some (.int .i64 m.kind) := hbk.out.cell 0
  have d1 : W.cell? ⟨w.heap.size, 1, none⟩ = some (.int .u64 L.tok) := hbk.out.cell 1
  have d2 : W.cell? ⟨w.heap.size, 2, none⟩ = some (.int .i64 L.ep) := hbk.out.cell 2
  have d3 : W.cell? ⟨w.heap.size, 3, none⟩ = some (.int .i64 m.seq) := hbk.out.cell 3
  have d4 : W.cell? ⟨w.heap.size, 4, none⟩ = some (.int .i64 m.ack) := hbk.out.cell 4
  have d5 : W.cell? ⟨w.heap.size, 5, none⟩ = some (.int .u64 m.bits) := hbk.out.cell 5
  have d6 : W.cell? ⟨w.heap.size, 6, none⟩ = some (.int .i64 m.cred) := hbk.out.cell 6
  have d7 : W.cell? ⟨w.heap.size, 7, none⟩ = some (.int .i64 m.fmt) := hbk.out.cell 7
  have d8 : W.cell? ⟨w.heap.size, 8, none⟩ = some (.slice a n c) := hbk.out.cell 8
  clear c1 c3 hlt
  go_wp2_with fail
  refine (k1.out _ (hB0.out.kept hW.out)).mono ?_
  rintro e w2 ⟨v, rfl, hO, hb2⟩
  have hBW : Hid (B ≤ W.heap.size) := by have := hL.out.B_le; have := hW.out.size; show B ≤ _; omega
  obtain ⟨g, hg1, hg2, rfl, hg3⟩ := gr_of_owns false (hO.out.base hBW.out)
  have hL2 : Hid (Lm w2 B q L) := (hL.out.kept hW.out).kept hb2.out
  have hK2 : Hid (K4 q w w2) := (K4.of_below hW.out).trans (K4.of_below hb2.out)
  have kp := lput0 g hL2.out hg3
  rw [show g.val = .agg #[.slice g.a g.n g.c, .bool false] by unfold Gr.val; rw [hg2]] at kp
  have hgz : Hid (g.zs = pkB (tellM L m) ∧ g.sp = false) := ⟨hg1, hg2⟩
  clear d0 d1 d2 d3 d4 d5 d6 d7 d8 hbk hW hO hb2 hg1 hg2 hg3 k1 hB0
  go_wp2_with (go_at_call 72; refine kp.mono ?_; rintro e w3 ⟨rfl, hL3, hK3⟩; clear kp)
  refine bodyPost_end (results_none rfl _ _ _) rfl ?_
  exact ⟨rfl, ⟨g, hgz.out.1, hgz.out.2, hL3⟩, hK2.out.trans hK3.out⟩
set_option maxHeartbeats 1000000 in
theorem tell1 {w : World} {B : Nat} {q : Qb} {L : Lk} (m : Mg) (a : Option Addr) (n c : Nat) (h : Lm w B q L) (hp : pkE (tellM L m) = 0) (hk : Mok (tellM L m)) (hn : m.zs.length = n) (h0 : a = none → c = 0) (hb : Bytes w a m.zs) :
    Calls Try.prog 66 #[.pointer (some ⟨q.lb, 0, none⟩), .int .i64 1, mval m a n c] w fun e w' => e = .returned (.tuple #[]) ∧ Hid (∃ g : Gr, g.zs = pkB (tellM L m) ∧ g.sp = false ∧ Lm w' B q { L with n1 := putG L.n1 g }) ∧ Hid (K4 q w w') := by
  have hL : Hid (Lm w B q L) := h
  have hlt := h.lt
  have hlt' : Hid (q.lb < w.heap.size) := h.lt
  have c1 := h.cell.2.1
  have c3 := h.cell.2.2.2.1
  have k1 : Hid (∀ x, Bytes x a m.zs → Calls Try.prog 11 #[.agg #[.int .i64 m.kind, .int .u64 L.tok, .int .i64 L.ep, .int .i64 m.seq, .int .i64 m.ack, .int .u64 m.bits, .int .i64 m.cred, .int .i64 m.fmt, .slice a n c]] x fun e w' => ∃ v, e = .returned (.tuple #[v, .int .i64 0]) ∧ Hid (OwnsB w' x.heap.size v (pkB (tellM L m))) ∧ Hid (Below x.heap.size x w')) := fun x hx =>
    (pack_may (tellM L m) a n c x (pk_may hp).1 hk hn h0 hx (by have := (pk_may hp).2; rw [List.length_append] at this; have e : (tellM L m).zs = m.zs := rfl; rw [e] at this; omega)).mono (by
      rintro e w' ⟨v, rfl, h1, h2⟩
      rw [hp]
      exact ⟨v, rfl, h1.out.1 hp, h2⟩)
  have hB0 : Hid (Bytes w a m.zs) := hb
  clear h hp hk hn h0 hb
  unfold mval
  go_enter Try.func66, Try.ntmps66
  go_wp2_with fail
  go_region
  have hW : Hid (Below w.heap.size w (w.alloc (.cells #[.int .i64 m.kind, .int .u64 L.tok, .int .i64 L.ep, .int .i64 m.seq, .int .i64 m.ack, .int .u64 m.bits, .int .i64 m.cred, .int .i64 m.fmt, .slice a n c] 25)).drew) := ((Below.refl w.heap.size w).alloc (Nat.le_refl _) _).drew
  have hbk : Hid (Blk (w.alloc (.cells #[.int .i64 m.kind, .int .u64 L.tok, .int .i64 L.ep, .int .i64 m.seq, .int .i64 m.ack, .int .u64 m.bits, .int .i64 m.cred, .int .i64 m.fmt, .slice a n c] 25)).drew w.heap.size #[.int .i64 m.kind, .int .u64 L.tok, .int .i64 L.ep, .int .i64 m.seq, .int .i64 m.ack, .int .u64 m.bits, .int .i64 m.cred, .int .i64 m.fmt, .slice a n c] 25) := blk_new w _ _
  generalize (w.alloc (.cells #[.int .i64 m.kind, .int .u64 L.tok, .int .i64 L.ep, .int .i64 m.seq, .int .i64 m.ack, .int .u64 m.bits, .int .i64 m.cred, .int .i64 m.fmt, .slice a n c] 25)).drew = W at *
  have d0 : W.cell? ⟨w.heap.size, 0, none⟩ = some (.int .i64 m.kind) := hbk.out.cell 0
  have d1 : W.cell? ⟨w.heap.size, 1, none⟩ = some (.int .u64 L.tok) := hbk.out.cell 1
  have d2 : W.cell? ⟨w.heap.size, 2, none⟩ = some (.int .i64 L.ep) := hbk.out.cell 2
  have d3 : W.cell? ⟨w.heap.size, 3, none⟩ = some (.int .i64 m.seq) := hbk.out.cell 3
  have d4 : W.cell? ⟨w.heap.size, 4, none⟩ = some (.int .i64 m.ack) := hbk.out.cell 4
  have d5 : W.cell? ⟨w.heap.size, 5, none⟩ = some (.int .u64 m.bits) := hbk.out.cell 5
  have d6 : W.cell? ⟨w.heap.size, 6, none⟩ = some (.int .i64 m.cred) := hbk.out.cell 6
  have d7 : W.cell? ⟨w.heap.size, 7, none⟩ = some (.int .i64 m.fmt) := hbk.out.cell 7
  have d8 : W.cell? ⟨w.heap.size, 8, none⟩ = some (.slice a n c) := hbk.out.cell 8
  clear c1 c3 hlt
  go_wp2_with fail
  refine (k1.out _ (hB0.out.kept hW.out)).mono ?_
  rintro e w2 ⟨v, rfl, hO, hb2⟩
  have hBW : Hid (B ≤ W.heap.size) := by have := hL.out.B_le; have := hW.out.size; show B ≤ _; omega
  obtain ⟨g, hg1, hg2, rfl, hg3⟩ := gr_of_owns false (hO.out.base hBW.out)
  have hL2 : Hid (Lm w2 B q L) := (hL.out.kept hW.out).kept hb2.out
  have hK2 : Hid (K4 q w w2) := (K4.of_below hW.out).trans (K4.of_below hb2.out)
  have kp := lput1 g hL2.out hg3
  rw [show g.val = .agg #[.slice g.a g.n g.c, .bool false] by unfold Gr.val; rw [hg2]] at kp
  have hgz : Hid (g.zs = pkB (tellM L m) ∧ g.sp = false) := ⟨hg1, hg2⟩
  clear d0 d1 d2 d3 d4 d5 d6 d7 d8 hbk hW hO hb2 hg1 hg2 hg3 k1 hB0
  go_wp2_with (go_at_call 72; refine kp.mono ?_; rintro e w3 ⟨rfl, hL3, hK3⟩; clear kp)
  refine bodyPost_end (results_none rfl _ _ _) rfl ?_
  exact ⟨rfl, ⟨g, hgz.out.1, hgz.out.2, hL3⟩, hK2.out.trans hK3.out⟩
end Go.Proofs.Ytfipdldoklkciaa
