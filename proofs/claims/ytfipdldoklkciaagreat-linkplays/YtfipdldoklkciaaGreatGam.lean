/-
  Texts Lkm, Lkn, Lko, Lkq.
-/
import Derived.Test.YtfipdldoklkciaaGreatGal
import Derived.Test.YtfipdldoklkciaaGreatGaj
namespace Go.Proofs.YtfipdldoklkciaaGreat
open Go.RowKit
set_option linter.unusedVariables false
theorem Net.same {cs cs' : Array Value} {o : Nat} {G : List Gr} (h : Net cs o G) (hz : cs'.size = cs.size) (hs : ∀ j, o ≤ j → j < o + 513 → cs'[j]? = cs[j]?) : Net cs' o G := by
  obtain ⟨h1, h2, h3, h4⟩ := h
  refine ⟨h1, by rw [hs _ (by omega) (by omega)]; exact h2, fun i g hg => ?_, by omega⟩
  have hi := (List.getElem?_eq_some_iff.1 hg).1
  rw [hs _ (by omega) (by omega), hs _ (by omega) (by omega)]
  exact h3 i g hg
theorem lkc_n0 {cs cs' : Array Value} {q : Qb} {L : Lk} {G : List Gr} (h : LkC cs q L) (a : Apart cs cs' 6) (n : Net cs' 6 G) : LkC cs' q { L with n0 := G } := by
  obtain ⟨a1, a2⟩ := a
  refine ⟨a1.trans h.sz, ?_, ?_, ?_, ?_, ?_, ?_, ?_, ?_, ?_, ?_, n, h.n1.same a1 (fun j h1 _ => a2 j (by omega))⟩
  · rw [a2 0 (by omega)]; exact h.c0
  · rw [a2 1 (by omega)]; exact h.c1
  · rw [a2 2 (by omega)]; exact h.c2
  · rw [a2 3 (by omega)]; exact h.c3
  · rw [a2 4 (by omega)]; exact h.c4
  · rw [a2 5 (by omega)]; exact h.c5
  · rw [a2 519 (by omega)]; exact h.k0
  · rw [a2 520 (by omega)]; exact h.e0
  · rw [a2 1034 (by omega)]; exact h.k1
  · rw [a2 1035 (by omega)]; exact h.e1
theorem lkc_n1 {cs cs' : Array Value} {q : Qb} {L : Lk} {G : List Gr} (h : LkC cs q L) (a : Apart cs cs' 521) (n : Net cs' 521 G) : LkC cs' q { L with n1 := G } := by
  obtain ⟨a1, a2⟩ := a
  refine ⟨a1.trans h.sz, ?_, ?_, ?_, ?_, ?_, ?_, ?_, ?_, ?_, ?_, h.n0.same a1 (fun j h1 _ => a2 j (by omega)), n⟩
  · rw [a2 0 (by omega)]; exact h.c0
  · rw [a2 1 (by omega)]; exact h.c1
  · rw [a2 2 (by omega)]; exact h.c2
  · rw [a2 3 (by omega)]; exact h.c3
  · rw [a2 4 (by omega)]; exact h.c4
  · rw [a2 5 (by omega)]; exact h.c5
  · rw [a2 519 (by omega)]; exact h.k0
  · rw [a2 520 (by omega)]; exact h.e0
  · rw [a2 1034 (by omega)]; exact h.k1
  · rw [a2 1035 (by omega)]; exact h.e1
theorem put_mem {G : List Gr} {g x : Gr} (h : x ∈ putG G g) : x ∈ G ∨ x = g := by
  unfold putG at h
  split at h
  · rcases List.mem_append.1 h with h | h
    · exact .inl h
    · exact .inr (by simpa using h)
  · exact .inl h
theorem lput0 {w : World} {B : Nat} {q : Qb} {L : Lk} (g : Gr) (h : Lm w B q L) (hg : GrIn w B g) :
    Calls Tryz.prog 59 #[.pointer (some ⟨q.lb, 6, none⟩), g.val] w fun e w' => e = .returned (.tuple #[]) ∧ Hid (Lm w' B q { L with n0 := putG L.n0 g }) ∧ Hid (K4 q w w') := by
  obtain ⟨cs, hb, hc⟩ := h.lk
  refine (put_any g hb hc.n0).mono ?_
  rintro e w' ⟨rfl, cs', h1, h2, h3, h4⟩
  refine ⟨rfl, ?_, K4.of_l h4.out⟩
  refine h.turnL h1.out (lkc_n0 hc h3.out h2.out) h4.out rfl rfl ⟨h.ok.t1, h.ok.t2, h.ok.n1, h.ok.n2, h.ok.e1, h.ok.few⟩ (fun x hx => ?_)
  rcases hx with hx | hx
  · rcases put_mem hx with hx | hx
    · exact .inl (.inl hx)
    · subst hx
      exact .inr (hg.k2 h4.out h.no5.1 h.no5.1)
  · exact .inl (.inr hx)
theorem lput1 {w : World} {B : Nat} {q : Qb} {L : Lk} (g : Gr) (h : Lm w B q L) (hg : GrIn w B g) :
    Calls Tryz.prog 59 #[.pointer (some ⟨q.lb, 521, none⟩), g.val] w fun e w' => e = .returned (.tuple #[]) ∧ Hid (Lm w' B q { L with n1 := putG L.n1 g }) ∧ Hid (K4 q w w') := by
  obtain ⟨cs, hb, hc⟩ := h.lk
  refine (put_any g hb hc.n1).mono ?_
  rintro e w' ⟨rfl, cs', h1, h2, h3, h4⟩
  refine ⟨rfl, ?_, K4.of_l h4.out⟩
  refine h.turnL h1.out (lkc_n1 hc h3.out h2.out) h4.out rfl rfl ⟨h.ok.t1, h.ok.t2, h.ok.n1, h.ok.n2, h.ok.e1, h.ok.few⟩ (fun x hx => ?_)
  rcases hx with hx | hx
  · exact .inl (.inl hx)
  · rcases put_mem hx with hx | hx
    · exact .inl (.inr hx)
    · subst hx
      exact .inr (hg.k2 h4.out h.no5.1 h.no5.1)
theorem GrIn.mono {w : World} {B B' : Nat} {g : Gr} (h : GrIn w B g) (hb : B' ≤ B) : GrIn w B' g := ⟨h.by_, h.len, h.le, h.mx, h.nil, fun x hx => ⟨Nat.le_trans hb (h.at_ x hx).1, (h.at_ x hx).2⟩⟩
theorem gr_of_owns {w : World} {B : Nat} {v : Value} {zs : List Int} (sp : Bool) (h : OwnsB w B v zs) : ∃ g : Gr, g.zs = zs ∧ g.sp = sp ∧ v = .slice g.a g.n g.c ∧ GrIn w B g := by
  obtain ⟨a, c, rfl, h1, ⟨h2, h3⟩, h4, h5⟩ := h.shape
  refine ⟨⟨a, zs.length, c, zs, sp⟩, rfl, rfl, rfl, h4, rfl, h2, by unfold maxLen at h3; exact h3, h1, fun x hx => ⟨(h5 x hx).1, h.blk x hx⟩⟩
/-- A message as a link tells it. -/
def tellM (L : Lk) (m : Mg) : Mg := { m with tok := L.tok, ep := L.ep }
theorem Lm.B_le {w : World} {B : Nat} {q : Qb} {L : Lk} (h : Lm w B q L) : B ≤ w.heap.size := by have := h.hl; have := h.lt; omega
set_option maxHeartbeats 1000000 in
theorem tell0 {w : World} {B : Nat} {q : Qb} {L : Lk} (m : Mg) (a : Option Addr) (n c : Nat) (h : Lm w B q L) (hp : pkE (tellM L m) = 0) (hk : Mok (tellM L m)) (hn : m.zs.length = n) (h0 : a = none → c = 0) (hb : Bytes w a m.zs) :
    Calls Tryz.prog 53 #[.pointer (some ⟨q.lb, 0, none⟩), .int .i64 0, mval m a n c] w fun e w' => e = .returned (.tuple #[]) ∧ Hid (∃ g : Gr, g.zs = pkB (tellM L m) ∧ g.sp = false ∧ Lm w' B q { L with n0 := putG L.n0 g }) ∧ Hid (K4 q w w') := by
  have hL : Hid (Lm w B q L) := h
  have hlt := h.lt
  have hlt' : Hid (q.lb < w.heap.size) := h.lt
  have c1 := h.cell.2.1
  have c3 := h.cell.2.2.2.1
  have k1 : Hid (∀ x, Bytes x a m.zs → Calls Tryz.prog 84 #[.agg #[.int .i64 m.kind, .int .u64 L.tok, .int .i64 L.ep, .int .i64 m.seq, .int .i64 m.ack, .int .u64 m.bits, .int .i64 m.cred, .int .i64 m.fmt, .slice a n c]] x fun e w' => ∃ v, e = .returned (.tuple #[v, .int .i64 0]) ∧ Hid (OwnsB w' x.heap.size v (pkB (tellM L m))) ∧ Hid (Below x.heap.size x w')) := fun x hx =>
    (pack_may (tellM L m) a n c x (pk_may hp).1 hk hn h0 hx (by have := (pk_may hp).2; rw [List.length_append] at this; have e : (tellM L m).zs = m.zs := rfl; rw [e] at this; omega)).mono (by
      rintro e w' ⟨v, rfl, h1, h2⟩
      rw [hp]
      exact ⟨v, rfl, h1.out.1 hp, h2⟩)
  have hB0 : Hid (Bytes w a m.zs) := hb
  clear h hp hk hn h0 hb
  unfold mval
  go_enter Tryz.func53, Tryz.ntmps53
  go_wp2_with fail
  go_region
  have hW : Hid (Below w.heap.size w (w.alloc (.cells #[.int .i64 m.kind, .int .u64 L.tok, .int .i64 L.ep, .int .i64 m.seq, .int .i64 m.ack, .int .u64 m.bits, .int .i64 m.cred, .int .i64 m.fmt, .slice a n c] 100)).drew) := ((Below.refl w.heap.size w).alloc (Nat.le_refl _) _).drew
  have hbk : Hid (Blk (w.alloc (.cells #[.int .i64 m.kind, .int .u64 L.tok, .int .i64 L.ep, .int .i64 m.seq, .int .i64 m.ack, .int .u64 m.bits, .int .i64 m.cred, .int .i64 m.fmt, .slice a n c] 100)).drew w.heap.size #[.int .i64 m.kind, .int .u64 L.tok, .int .i64 L.ep, .int .i64 m.seq, .int .i64 m.ack, .int .u64 m.bits, .int .i64 m.cred, .int .i64 m.fmt, .slice a n c] 100) := blk_new w _ _
  generalize (w.alloc (.cells #[.int .i64 m.kind, .int .u64 L.tok, .int .i64 L.ep, .int .i64 m.seq, .int .i64 m.ack, .int .u64 m.bits, .int .i64 m.cred, .int .i64 m.fmt, .slice a n c] 100)).drew = W at *
  have d0 : W.cell? ⟨w.heap.size, 0, none⟩ = some (.int .i64 m.kind) := hbk.out.cell 0
  have d1 : W.cell? ⟨w.heap.size, 1, none⟩ = some (.int .u64 L.tok) := hbk.out.cell 1
  have d2 : W.cell? ⟨w.heap.size, 2, none⟩ = some (.int .i64 L.ep) := hbk.out.cell 2
  have d3 : W.cell? ⟨w.heap.size, 3, none⟩ = some (.int .i64 m.seq) := hbk.out.cell 3
  have d4 : W.cell? ⟨w.heap.size, 4, none⟩ = some (.int .i64 m.ack) := hbk.out.cell 4
  have d5 : W.cell? ⟨w.heap.size, 5, none⟩ = some (.int .u64 m.bits) := hbk.out.cell 5
  have d6 : W.cell? ⟨w.heap.size, 6, none⟩ = some (.int .i64 m.cred) := hbk.out.cell 6
  have d7 : W.cell? ⟨w.heap.size, 7, none⟩ = some (.int .i64 m.fmt) := hbk.out.cell 7
  have d8 : W.cell? ⟨w.heap.size, 8, none⟩ = some (.slice a n c) := hbk.out.cell 8
  clear c1 c3 hlt
  go_wp2_with fail
  refine (k1.out _ (hB0.out.kept hW.out)).mono ?_
  rintro e w2 ⟨v, rfl, hO, hb2⟩
  have hBW : Hid (B ≤ W.heap.size) := by have := hL.out.B_le; have := hW.out.size; show B ≤ _; omega
  obtain ⟨g, hg1, hg2, rfl, hg3⟩ := gr_of_owns false (hO.out.base hBW.out)
  have hL2 : Hid (Lm w2 B q L) := (hL.out.kept hW.out).kept hb2.out
  have hK2 : Hid (K4 q w w2) := (K4.of_below hW.out).trans (K4.of_below hb2.out)
  have kp := lput0 g hL2.out hg3
  rw [show g.val = .agg #[.slice g.a g.n g.c, .bool false] by unfold Gr.val; rw [hg2]] at kp
  have hgz : Hid (g.zs = pkB (tellM L m) ∧ g.sp = false) := ⟨hg1, hg2⟩
  clear d0 d1 d2 d3 d4 d5 d6 d7 d8 hbk hW hO hb2 hg1 hg2 hg3 k1 hB0
  go_wp2_with (go_at_call 59; refine kp.mono ?_; rintro e w3 ⟨rfl, hL3, hK3⟩; clear kp)
  refine bodyPost_end (results_none rfl _ _ _) rfl ?_
  exact ⟨rfl, ⟨g, hgz.out.1, hgz.out.2, hL3⟩, hK2.out.trans hK3.out⟩
set_option maxHeartbeats 1000000 in
theorem tell1 {w : World} {B : Nat} {q : Qb} {L : Lk} (m : Mg) (a : Option Addr) (n c : Nat) (h : Lm w B q L) (hp : pkE (tellM L m) = 0) (hk : Mok (tellM L m)) (hn : m.zs.length = n) (h0 : a = none → c = 0) (hb : Bytes w a m.zs) :
    Calls Tryz.prog 53 #[.pointer (some ⟨q.lb, 0, none⟩), .int .i64 1, mval m a n c] w fun e w' => e = .returned (.tuple #[]) ∧ Hid (∃ g : Gr, g.zs = pkB (tellM L m) ∧ g.sp = false ∧ Lm w' B q { L with n1 := putG L.n1 g }) ∧ Hid (K4 q w w') := by
  have hL : Hid (Lm w B q L) := h
  have hlt := h.lt
  have hlt' : Hid (q.lb < w.heap.size) := h.lt
  have c1 := h.cell.2.1
  have c3 := h.cell.2.2.2.1
  have k1 : Hid (∀ x, Bytes x a m.zs → Calls Tryz.prog 84 #[.agg #[.int .i64 m.kind, .int .u64 L.tok, .int .i64 L.ep, .int .i64 m.seq, .int .i64 m.ack, .int .u64 m.bits, .int .i64 m.cred, .int .i64 m.fmt, .slice a n c]] x fun e w' => ∃ v, e = .returned (.tuple #[v, .int .i64 0]) ∧ Hid (OwnsB w' x.heap.size v (pkB (tellM L m))) ∧ Hid (Below x.heap.size x w')) := fun x hx =>
    (pack_may (tellM L m) a n c x (pk_may hp).1 hk hn h0 hx (by have := (pk_may hp).2; rw [List.length_append] at this; have e : (tellM L m).zs = m.zs := rfl; rw [e] at this; omega)).mono (by
      rintro e w' ⟨v, rfl, h1, h2⟩
      rw [hp]
      exact ⟨v, rfl, h1.out.1 hp, h2⟩)
  have hB0 : Hid (Bytes w a m.zs) := hb
  clear h hp hk hn h0 hb
  unfold mval
  go_enter Tryz.func53, Tryz.ntmps53
  go_wp2_with fail
  go_region
  have hW : Hid (Below w.heap.size w (w.alloc (.cells #[.int .i64 m.kind, .int .u64 L.tok, .int .i64 L.ep, .int .i64 m.seq, .int .i64 m.ack, .int .u64 m.bits, .int .i64 m.cred, .int .i64 m.fmt, .slice a n c] 100)).drew) := ((Below.refl w.heap.size w).alloc (Nat.le_refl _) _).drew
  have hbk : Hid (Blk (w.alloc (.cells #[.int .i64 m.kind, .int .u64 L.tok, .int .i64 L.ep, .int .i64 m.seq, .int .i64 m.ack, .int .u64 m.bits, .int .i64 m.cred, .int .i64 m.fmt, .slice a n c] 100)).drew w.heap.size #[.int .i64 m.kind, .int .u64 L.tok, .int .i64 L.ep, .int .i64 m.seq, .int .i64 m.ack, .int .u64 m.bits, .int .i64 m.cred, .int .i64 m.fmt, .slice a n c] 100) := blk_new w _ _
  generalize (w.alloc (.cells #[.int .i64 m.kind, .int .u64 L.tok, .int .i64 L.ep, .int .i64 m.seq, .int .i64 m.ack, .int .u64 m.bits, .int .i64 m.cred, .int .i64 m.fmt, .slice a n c] 100)).drew = W at *
  have d0 : W.cell? ⟨w.heap.size, 0, none⟩ = some (.int .i64 m.kind) := hbk.out.cell 0
  have d1 : W.cell? ⟨w.heap.size, 1, none⟩ = some (.int .u64 L.tok) := hbk.out.cell 1
  have d2 : W.cell? ⟨w.heap.size, 2, none⟩ = some (.int .i64 L.ep) := hbk.out.cell 2
  have d3 : W.cell? ⟨w.heap.size, 3, none⟩ = some (.int .i64 m.seq) := hbk.out.cell 3
  have d4 : W.cell? ⟨w.heap.size, 4, none⟩ = some (.int .i64 m.ack) := hbk.out.cell 4
  have d5 : W.cell? ⟨w.heap.size, 5, none⟩ = some (.int .u64 m.bits) := hbk.out.cell 5
  have d6 : W.cell? ⟨w.heap.size, 6, none⟩ = some (.int .i64 m.cred) := hbk.out.cell 6
  have d7 : W.cell? ⟨w.heap.size, 7, none⟩ = some (.int .i64 m.fmt) := hbk.out.cell 7
  have d8 : W.cell? ⟨w.heap.size, 8, none⟩ = some (.slice a n c) := hbk.out.cell 8
  clear c1 c3 hlt
  go_wp2_with fail
  refine (k1.out _ (hB0.out.kept hW.out)).mono ?_
  rintro e w2 ⟨v, rfl, hO, hb2⟩
  have hBW : Hid (B ≤ W.heap.size) := by have := hL.out.B_le; have := hW.out.size; show B ≤ _; omega
  obtain ⟨g, hg1, hg2, rfl, hg3⟩ := gr_of_owns false (hO.out.base hBW.out)
  have hL2 : Hid (Lm w2 B q L) := (hL.out.kept hW.out).kept hb2.out
  have hK2 : Hid (K4 q w w2) := (K4.of_below hW.out).trans (K4.of_below hb2.out)
  have kp := lput1 g hL2.out hg3
  rw [show g.val = .agg #[.slice g.a g.n g.c, .bool false] by unfold Gr.val; rw [hg2]] at kp
  have hgz : Hid (g.zs = pkB (tellM L m) ∧ g.sp = false) := ⟨hg1, hg2⟩
  clear d0 d1 d2 d3 d4 d5 d6 d7 d8 hbk hW hO hb2 hg1 hg2 hg3 k1 hB0
  go_wp2_with (go_at_call 59; refine kp.mono ?_; rintro e w3 ⟨rfl, hL3, hK3⟩; clear kp)
  refine bodyPost_end (results_none rfl _ _ _) rfl ?_
  exact ⟨rfl, ⟨g, hgz.out.1, hgz.out.2, hL3⟩, hK2.out.trans hK3.out⟩
end Go.Proofs.YtfipdldoklkciaaGreat
namespace Go.Proofs.YtfipdldoklkciaaGreat
open Go.RowKit
set_option linter.unusedVariables false
def PlR (w w' : World) (L : Lk) (e : Ending) : Prop := ∃ a n c, e = .returned (.tuple #[.slice a n c, .bool (L.r.L (L.r.tk + 1)).isSome]) ∧ Hid (Sl w' w.heap.size a n c ((L.r.L (L.r.tk + 1)).getD []))
theorem poll_any {w : World} {B : Nat} {q : Qb} {L : Lk} (h : Lm w B q L) (ht : L.r.tk < 4611686018427387904) :
    Calls Tryz.prog 26 #[.pointer (some ⟨q.lb, 0, none⟩)] w fun e w' => Hid (PlR w w' L e) ∧ Hid (Lm w' B q { L with r := takeS L.r }) ∧ Hid (K4 q w w') := by
  have k0 := kmade h
  have c5 := h.cell.2.2.2.2.2
  have hL : Hid (Lm w B q L) := h
  cases hx : L.r.L (L.r.tk + 1) with
  | none =>
    have k1 := take_k h.rv hx
    have e1 : Hid (takeS L.r = L.r) := by show _ = _; unfold takeS; rw [hx]; rfl
    have e2 : Hid (L.r.L (L.r.tk + 1) = none) := hx
    clear h hx ht
    go_enter Tryz.func26, Tryz.ntmps26
    go_wp2_with (first | (go_at_call 41; refine k0.mono ?_; rintro e w1 ⟨rfl, hw1⟩; obtain rfl := hw1.symm; clear hw1) | (go_at_call 58; refine k1.mono ?_; rintro e w1 ⟨rfl, hb1⟩))
    refine bodyPost_ret (v := .tuple #[.slice none 0 0, .bool false]) (by simp [results, Tryz.results26, go_sem]) rfl ⟨⟨none, 0, 0, by rw [e2.out]; rfl, ?_⟩, ?_, K4.of_below hb1.out⟩
    · rw [e2.out]
      exact ⟨⟨by simp, by simp, .inl rfl⟩, rfl, Nat.le_refl _, by decide, fun _ => rfl, (fun x hx => by cases hx), fun x hx => by cases hx⟩
    · rw [e1.out]
      exact hL.out.kept hb1.out
  | some l =>
    have k1 := take_yes l h.rv ht hx
    have e1 : Hid (takeS L.r = takeA L.r) := by show _ = _; unfold takeS; rw [hx]; rfl
    have e2 : Hid (L.r.L (L.r.tk + 1) = some l) := hx
    clear h hx ht
    go_enter Tryz.func26, Tryz.ntmps26
    go_wp2_with (first | (go_at_call 41; refine k0.mono ?_; rintro e w1 ⟨rfl, hw1⟩; obtain rfl := hw1.symm; clear hw1) | (go_at_call 58; refine k1.mono ?_; rintro e w1 ⟨g, n, c, rfl, hS, hR, hK⟩))
    refine bodyPost_ret (v := .tuple #[.slice (some ⟨g, 0, none⟩) n c, .bool true]) (by simp [results, Tryz.results26, go_sem]) rfl ⟨⟨some ⟨g, 0, none⟩, n, c, by rw [e2.out]; rfl, ?_⟩, ?_, K4.of_r hK.out⟩
    · rw [e2.out]
      exact hS
    · rw [e1.out]
      exact hL.out.turnR hR.out hK.out
theorem lkc_ep {cs : Array Value} {q : Qb} {L : Lk} (h : LkC cs q L) (x : Int) : LkC (cs.setIfInBounds 3 (.int .i64 x)) q { L with ep := x } := by
  have g : ∀ j, j ≠ 3 → (cs.setIfInBounds 3 (.int .i64 x))[j]? = cs[j]? := fun j hj => Array.getElem?_setIfInBounds_ne (by omega)
  have z := h.sz
  exact ⟨by simpa using h.sz, (g 0 (by omega)).trans h.c0, (g 1 (by omega)).trans h.c1, (g 2 (by omega)).trans h.c2, by rw [Array.getElem?_setIfInBounds_self_of_lt (by omega)], (g 4 (by omega)).trans h.c4, (g 5 (by omega)).trans h.c5, (g _ (by omega)).trans h.k0, (g _ (by omega)).trans h.e0, (g _ (by omega)).trans h.k1, (g _ (by omega)).trans h.e1, h.n0.same (by simp) (fun j h1 _ => g j (by omega)), h.n1.same (by simp) (fun j h1 _ => g j (by omega))⟩
theorem lkc_now {cs : Array Value} {q : Qb} {L : Lk} (h : LkC cs q L) (x : Int) : LkC (cs.setIfInBounds 2 (.int .i64 x)) q { L with now := x } := by
  have g : ∀ j, j ≠ 2 → (cs.setIfInBounds 2 (.int .i64 x))[j]? = cs[j]? := fun j hj => Array.getElem?_setIfInBounds_ne (by omega)
  have z := h.sz
  exact ⟨by simpa using h.sz, (g 0 (by omega)).trans h.c0, (g 1 (by omega)).trans h.c1, by rw [Array.getElem?_setIfInBounds_self_of_lt (by omega)], (g 3 (by omega)).trans h.c3, (g 4 (by omega)).trans h.c4, (g 5 (by omega)).trans h.c5, (g _ (by omega)).trans h.k0, (g _ (by omega)).trans h.e0, (g _ (by omega)).trans h.k1, (g _ (by omega)).trans h.e1, h.n0.same (by simp) (fun j h1 _ => g j (by omega)), h.n1.same (by simp) (fun j h1 _ => g j (by omega))⟩
theorem Lm.setEp {w : World} {B : Nat} {q : Qb} {L : Lk} (h : Lm w B q L) (x : Int) (hx : 1 ≤ x) : Lm (w.setCell ⟨q.lb, 3, none⟩ (.int .i64 x)) B q { L with ep := x } := by
  obtain ⟨cs, hb, hc⟩ := h.lk
  exact h.turnL (hb.set 3 _) (lkc_ep hc x) (K2.set w 3 _) rfl rfl ⟨h.ok.t1, h.ok.t2, h.ok.n1, h.ok.n2, hx, h.ok.few⟩ (fun g hg => .inl hg)
theorem Lm.setNow {w : World} {B : Nat} {q : Qb} {L : Lk} (h : Lm w B q L) (x : Int) (h0 : 0 ≤ x) (h1 : x ≤ 1099511627776) : Lm (w.setCell ⟨q.lb, 2, none⟩ (.int .i64 x)) B q { L with now := x } := by
  obtain ⟨cs, hb, hc⟩ := h.lk
  exact h.turnL (hb.set 2 _) (lkc_now hc x) (K2.set w 2 _) rfl rfl ⟨h.ok.t1, h.ok.t2, h0, h1, h.ok.e1, h.ok.few⟩ (fun g hg => .inl hg)
def recS (L : Lk) : St := if (timeB L.now && mayB L.s (ackN L.r) (L.r.tk + L.r.win)) = true then resA L.s (ackN L.r) (L.r.tk + L.r.win) L.now else L.s
theorem sub_rec (L : Lk) : Sub (recS L) L.s := by
  unfold recS
  split
  · exact sub_res _ _ _ _
  · exact Sub.refl _
theorem res_step2 {B sb mb : Nat} {s : St} {w : World} (ack credit now : Int) (h : Sd w B sb mb s) :
    Calls Tryz.prog 63 #[.pointer (some ⟨sb, 0, none⟩), .int .i64 ack, .int .i64 credit, .int .i64 now] w fun e w' => (∃ v, e = .returned v) ∧ Hid (Sd w' B sb mb (if (timeB now && mayB s ack credit) = true then resA s ack credit now else s)) ∧ Hid (K2 sb mb w w') := by
  by_cases hE : (timeB now && mayB s ack credit) = true
  · rw [if_pos hE]
    refine (res_ok ack credit now h hE).mono ?_
    rintro e w' ⟨rfl, h1, h2⟩
    exact ⟨⟨_, rfl⟩, h1, h2⟩
  · rw [if_neg hE]
    refine (res_bad ack credit now h (by simpa using hE)).mono ?_
    rintro e w' ⟨rfl, rfl⟩
    exact ⟨⟨_, rfl⟩, h, K2.refl _ _ _⟩
theorem rec_any {w : World} {B : Nat} {q : Qb} {L : Lk} (h : Lm w B q L) (hep : L.ep < 4611686018427387904) :
    Calls Tryz.prog 31 #[.pointer (some ⟨q.lb, 0, none⟩)] w fun e w' => e = .returned (.tuple #[]) ∧ Hid (Lm w' B q { L with ep := L.ep + 1, s := recS L }) ∧ Hid (K4 q w w') := by
  have k0 := kmade h
  have c3 := h.cell.2.2.2.1
  have f3 := h.fz 3
  have hw : IntKind.i64.wrap (L.ep + 1) = L.ep + 1 := by have := h.ok.e1; rw [IntKind.wrap_i64]; omega
  have hL1 : Hid (Lm (w.setCell ⟨q.lb, 3, none⟩ (.int .i64 (L.ep + 1))) B q { L with ep := L.ep + 1 }) := h.setEp _ (by have := h.ok.e1; omega)
  have hK1 : Hid (K4 q w (w.setCell ⟨q.lb, 3, none⟩ (.int .i64 (L.ep + 1)))) := K4.of_l (K2.set w 3 _)
  clear h hep
  go_enter Tryz.func31, Tryz.ntmps31
  go_wp2_with fail
  refine k0.mono ?_
  rintro e w1 ⟨rfl, hw1⟩
  obtain rfl := hw1.symm
  clear hw1 k0
  generalize hL1g : ({ L with ep := L.ep + 1 } : Lk) = L1 at *
  have eqs : Hid (L1.s = L.s ∧ L1.r = L.r ∧ L1.now = L.now) := by rw [← hL1g]; exact ⟨rfl, rfl, rfl⟩
  have hL1' : Hid (({ L with ep := L.ep + 1 } : Lk) = L1) := hL1g
  clear hL1g
  have d5 := hL1.out.cell.2.2.2.2.2
  have d4 := hL1.out.cell.2.2.2.2.1
  have d2 := hL1.out.cell.2.2.1
  go_wp2_with fail
  generalize (w.setCell ⟨q.lb, 3, none⟩ (.int .i64 (L.ep + 1))) = W1 at *
  clear c3 f3 d5 d4 d2
  refine (ack_k hL1.out.rv).mono ?_
  rintro e w2 ⟨rfl, hb2⟩
  have hL2 : Hid (Lm w2 B q L1) := hL1.out.kept hb2.out
  have hK2 : Hid (K4 q w w2) := hK1.out.trans (K4.of_below hb2.out)
  have d4 := hL2.out.cell.2.2.2.2.1
  have d2 := hL2.out.cell.2.2.1
  have k3 : Hid (∀ x, Below w2.heap.size w2 x → Calls Tryz.prog 63 #[.pointer (some ⟨q.sb, 0, none⟩), .int .i64 (ackN L1.r), .int .i64 (L1.r.tk + L1.r.win), .int .i64 L1.now] x fun e w' => (∃ v, e = .returned v) ∧ Hid (Lm w' B q { L1 with s := recS L1 }) ∧ Hid (K4 q w w')) := fun x hx =>
    (res_step2 _ _ _ (hL2.out.kept hx).sd).mono (by
      rintro e w' ⟨he, h1, h2⟩
      exact ⟨he, (hL2.out.kept hx).turnS h1.out h2.out ((sub_rec L1).few hL2.out.ok.few), (hK2.out.trans (K4.of_below hx)).trans (K4.of_s h2.out)⟩)
  have hE : Hid (({ L with ep := L.ep + 1, s := recS L } : Lk) = { L1 with s := recS L1 }) := by rw [← hL1'.out]; rfl
  clear hL1 hK1 hb2 hL1' eqs
  go_wp2
  go_region_with (go_at_call 63; refine (k3.out _ (Below.refl _ _).drew).mono ?_; rintro e w3 ⟨⟨v, rfl⟩, hL3, hK3⟩)
  all_goals go_wp2
  all_goals refine bodyPost_end (results_none rfl _ _ _) rfl ?_
  all_goals exact ⟨rfl, by rw [hE.out]; exact hL3, hK3⟩
end Go.Proofs.YtfipdldoklkciaaGreat
namespace Go.Proofs.YtfipdldoklkciaaGreat
open Go.RowKit
set_option linter.unusedVariables false
def mdata (seq : Int) (zs : List Int) : Mg := ⟨1, 0, 0, seq, 0, 0, 0, 0, zs⟩
def mack (ack bits cred : Int) : Mg := ⟨2, 0, 0, 0, ack, bits, cred, 0, []⟩
theorem OwnsT.k4 {q : Qb} {w w' : World} {base : Nat} {v : Value} {L : List (Int × Value × List Int)} (h : OwnsT w base v L) (k : K4 q w w') (h1 : q.lb < base) (h2 : q.sb < base) (h3 : q.mb < base) (h4 : q.rb < base) : OwnsT w' base v L :=
  h.keep fun b cur e hb h5 _ => k.block b (Array.getElem?_eq_some_iff.1 h5).1 (by omega) (by omega) (by omega) (by omega)
theorem dueL_in (s : St) (now : Int) : ∀ (k : Nat) (p : Int × List Int), p ∈ dueL s now k → ∃ e, s.L p.1 = some e ∧ e.zs = p.2 ∧ s.base ≤ p.1 ∧ p.1 < s.base + (k : Int)
  | 0, p, h => by simp [dueL] at h
  | k + 1, p, h => by
    unfold dueL at h
    rcases List.mem_append.1 h with h | h
    · obtain ⟨e, h1, h2, h3, h4⟩ := dueL_in s now k p h
      exact ⟨e, h1, h2, h3, by omega⟩
    · split at h
      · rename_i e he
        split at h
        · simp at h
          subst h
          exact ⟨e, he, rfl, by simp; omega, by simp; omega⟩
        · simp at h
      · simp at h
theorem pk_data {L : Lk} {seq : Int} {zs : List Int} (h0 : Lok L) (he : L.ep ≤ 4611686018427387904) (h1 : 0 ≤ seq) (h2 : seq ≤ 4611686018427387904) (hz : zs.length ≤ 1100) (hb : ∀ c ∈ zs, 0 ≤ c ∧ c < 256) : pkE (tellM L (mdata seq zs)) = 0 ∧ Mok (tellM L (mdata seq zs)) := by
  have ho : Mok (tellM L (mdata seq zs)) := ⟨h0.t1, h0.t2, Int.le_refl _, by show (0 : Int) < _; decide, hb⟩
  have hm : mayM (tellM L (mdata seq zs)) = true := mayM_iff.2 ⟨by show (1 : Int) ≤ 1 ∧ (1 : Int) ≤ 7; decide, by show (0 : Int) ≤ 0 ∧ (0 : Int) ≤ 2; decide, ⟨by have := h0.e1; show 0 ≤ L.ep; omega, he⟩, ⟨h1, h2⟩, by show (0 : Int) ≤ 0 ∧ (0 : Int) ≤ _; decide, by show (0 : Int) ≤ 0 ∧ (0 : Int) ≤ _; decide⟩
  have hl := hdr_len hm ho
  refine ⟨?_, ho⟩
  unfold pkE
  rw [if_neg (by rw [hm]; decide), if_neg (by show ¬ 1200 < _ + zs.length; omega)]
theorem pk_ack {L : Lk} {ack bits cred : Int} (h0 : Lok L) (he : L.ep ≤ 4611686018427387904) (h1 : 0 ≤ ack) (h2 : ack ≤ 4611686018427387904) (h3 : 0 ≤ cred) (h4 : cred ≤ 4611686018427387904) (h5 : 0 ≤ bits) (h6 : bits < 18446744073709551616) : pkE (tellM L (mack ack bits cred)) = 0 ∧ Mok (tellM L (mack ack bits cred)) := by
  have ho : Mok (tellM L (mack ack bits cred)) := ⟨h0.t1, h0.t2, h5, h6, fun c hc => by cases hc⟩
  have hm : mayM (tellM L (mack ack bits cred)) = true := mayM_iff.2 ⟨by show (1 : Int) ≤ 2 ∧ (2 : Int) ≤ 7; decide, by show (0 : Int) ≤ 0 ∧ (0 : Int) ≤ 2; decide, ⟨by have := h0.e1; show 0 ≤ L.ep; omega, he⟩, by show (0 : Int) ≤ 0 ∧ (0 : Int) ≤ _; decide, ⟨h1, h2⟩, ⟨h3, h4⟩⟩
  have hl := hdr_len hm ho
  refine ⟨?_, ho⟩
  unfold pkE
  rw [if_neg (by rw [hm]; decide), if_neg (by show ¬ 1200 < _ + 0; omega)]
/-- A link behind its tick's Due. -/
def tk1 (L : Lk) : Lk := { L with now := L.now + 1, s := dueA L.s (L.now + 1) }
def dueN (L : Lk) : List (Int × List Int) := dueL L.s (L.now + 1) (L.s.nxt - L.s.base).toNat
def grs (L : Lk) (D : List (Int × List Int)) (gs : List Gr) : Prop := gs.map (fun g => (g.zs, g.sp)) = D.map fun p => (pkB (tellM L (mdata p.1 p.2)), false)
def TkR (w' : World) (B : Nat) (q : Qb) (L : Lk) : Prop := (1099511627776 ≤ L.now → Lm w' B q L) ∧ (L.now < 1099511627776 → ∃ gs g, grs L (dueN L) gs ∧ g.zs = pkB (tellM L (mack (ackN L.r) (ackB L.r) (L.r.tk + L.r.win))) ∧ g.sp = false ∧ Lm w' B q { tk1 L with n0 := gs.foldl putG L.n0, n1 := putG L.n1 g })
theorem tick_end {w : World} {B : Nat} {q : Qb} {L : Lk} (h : Lm w B q L) (hn : 1099511627776 ≤ L.now) :
    Calls Tryz.prog 24 #[.pointer (some ⟨q.lb, 0, none⟩)] w fun e w' => e = .returned (.tuple #[]) ∧ w' = w := by
  have k0 := kmade h
  have c2 := h.cell.2.2.1
  have d0 : decide (L.now ≥ 1099511627776) = true := by simpa using hn
  clear h hn
  go_enter Tryz.func24, Tryz.ntmps24
  go_wp2_with (go_at_call 41; refine k0.mono ?_; rintro e w1 ⟨rfl, hw1⟩; obtain rfl := hw1.symm; clear hw1)
  refine bodyPost_ret (v := .tuple #[]) (results_none rfl _ _ _) rfl ⟨rfl, rfl⟩
set_option maxHeartbeats 4000000 in
theorem tick_go {w : World} {B : Nat} {q : Qb} {L : Lk} (h : Lm w B q L) (hn : L.now < 1099511627776) (he : L.ep ≤ 4611686018427387904) (ht : L.r.tk ≤ 4611686018427380000) :
    Calls Tryz.prog 24 #[.pointer (some ⟨q.lb, 0, none⟩)] w fun e w' => e = .returned (.tuple #[]) ∧ Hid (TkR w' B q L) ∧ Hid (K4 q w w') := by
  have k0 := kmade h
  have c2 := h.cell.2.2.1
  have f2 := h.fz 2
  have d0 : decide (L.now ≥ 1099511627776) = false := by simpa using hn
  have hw : IntKind.i64.wrap (L.now + 1) = L.now + 1 := by have := h.ok.n1; rw [IntKind.wrap_i64]; omega
  have hL1 : Hid (Lm (w.setCell ⟨q.lb, 2, none⟩ (.int .i64 (L.now + 1))) B q { L with now := L.now + 1 }) := h.setNow _ (by have := h.ok.n1; omega) (by omega)
  have hK1 : Hid (K4 q w (w.setCell ⟨q.lb, 2, none⟩ (.int .i64 (L.now + 1)))) := K4.of_l (K2.set w 2 _)
  have hn' : Hid (L.now < 1099511627776 ∧ 0 ≤ L.now) := ⟨hn, h.ok.n1⟩
  have he' : Hid (L.ep ≤ 4611686018427387904 ∧ L.r.tk ≤ 4611686018427380000) := ⟨he, ht⟩
  have hok : Hid (Lok L) := h.ok
  have hsok : Hid (Ok L.s) := h.sd.ok
  have hrok : Hid (Rok L.r) := h.rv.ok
  clear h hn he ht
  go_enter Tryz.func24, Tryz.ntmps24
  go_wp2_with fail
  refine k0.mono ?_
  rintro e w1 ⟨rfl, hw1⟩
  obtain rfl := hw1.symm
  clear hw1 k0
  go_wp2_with fail
  generalize (w.setCell ⟨q.lb, 2, none⟩ (.int .i64 (L.now + 1))) = W1 at *
  have d4 := hL1.out.cell.2.2.2.2.1
  have d2 := hL1.out.cell.2.2.1
  have kD : Hid (Calls Tryz.prog 52 #[.pointer (some ⟨q.sb, 0, none⟩), .int .i64 (L.now + 1)] W1.drew fun e w' => ∃ a n c TL, e = .returned (.slice a n c) ∧ n = TL.length ∧ n ≤ c ∧ c ≤ 9223372036854775807 ∧ Hid (OwnsT w' W1.heap.size (.slice a n c) TL) ∧ Hid (plainT TL = dueN L) ∧ Hid (Lm w' B q (tk1 L)) ∧ Hid (q.lb < W1.heap.size ∧ q.sb < W1.heap.size ∧ q.mb < W1.heap.size ∧ q.rb < W1.heap.size) ∧ Hid (K4 q w w')) := by
    have h1 := hL1.out.drew
    refine (due_ok (L.now + 1) h1.sd (by have := hn'.out; simp [timeB]; omega)).mono ?_
    rintro e w' ⟨v, TL, rfl, h2, h3, h4, h5, h6⟩
    obtain ⟨a, n, c, rfl, h7, h8, h9⟩ := h2.out.form
    refine ⟨a, n, c, TL, rfl, h7, h8, h9, h2, h3, ?_, ⟨h1.lt, h5.out.1, h5.out.2.1, h1.rv.lt⟩, (hK1.out.drew).trans (K4.of_s h6.out)⟩
    exact h1.turnS h4.out h6.out ((sub_due L.s (L.now + 1)).few hok.out.few)
  clear hL1 hK1 c2 f2
  go_region_with (go_at_call 52; refine kD.out.mono ?_; rintro e w2 ⟨a, n, c, TL, rfl, hlen, hlc, hcm, hT, hP, hL2, hlt, hK2⟩; clear kD)
  all_goals
    simp only [List.getElem_toArray, List.getElem_cons_succ, List.getElem_cons_zero, Act.put, List.setIfInBounds_toArray, List.set_cons_zero, List.set_cons_succ]
    have hlen' : Hid (n = TL.length) := hlen
    clear hlen d4 d2 hw
    go_wp2_with fail
    go_loopw [34] (fun s34 wr => ∃ (i : Nat) (gs : List Gr), i ≤ TL.length ∧ s34 = .int .i64 (i : Nat) ∧ Hid (gs.map (fun g => (g.zs, g.sp)) = ((plainT TL).take i).map fun p => (pkB (tellM L (mdata p.1 p.2)), false)) ∧ Hid (Lm wr B q { tk1 L with n0 := gs.foldl putG L.n0 }) ∧ Hid (OwnsT wr W1.heap.size (.slice a TL.length c) TL) ∧ Hid (K4 q w wr)) (fun i _ => TL.length - (intOf i).toNat)
    case atStart => exact ⟨0, [], Nat.zero_le _, rfl, rfl, hL2, by have := hlen'.out; subst this; exact hT, hK2⟩
    case round =>
      obtain ⟨i, gs, hi, rfl, hgs, hLr, hTr, hKr⟩ := hrel
      clear hT hL2 hK2
      by_cases hlt2 : i < TL.length
      · have hd : decide ((i : Int) < (TL.length : Int)) = true := by simp; omega
        have hx : TL[i]? = some TL[i] := List.getElem?_eq_getElem hlt2
        generalize TL[i] = p at hx
        obtain ⟨seq, pv, pz⟩ := p
        obtain ⟨gb, cap, hv, hgb1, hgb2, hc⟩ := hTr.out.cells hx
        have ho := hTr.out.2 _ (List.mem_of_getElem? hx)
        obtain ⟨pa, pc, hpv, hpn, ⟨hpl, hpm⟩, hpb, hpat⟩ := ho.shape
        have hpv' : pv = .slice pa pz.length pc := hpv
        subst hpv'
        have hin : (seq, pz) ∈ dueN L := by
          rw [← hP.out]
          exact List.mem_map.2 ⟨_, List.mem_of_getElem? hx, rfl⟩
        obtain ⟨e0, he0, he1, he2, he3⟩ := dueL_in _ _ _ _ hin
        have he2 : L.s.base ≤ seq := he2
        have he3 : seq < L.s.base + ((L.s.nxt - L.s.base).toNat : Int) := he3
        have hpk := pk_data (zs := pz) hok.out he'.out.1 (seq := seq) (by have := hsok.out.b1; omega) (by have := hsok.out.b2; have := hsok.out.l1; have := hsok.out.l2; omega) (by have := hok.out.few _ _ he0; rw [he1] at this; exact this) hpb.1
        have hal : Hid (Below wr.heap.size wr (wr.alloc (.cells #[.int .i64 1, .int .u64 0, .int .i64 0, .int .i64 seq, .int .i64 0, .int .u64 0, .int .i64 0, .int .i64 0, .slice pa pz.length pc] 100))) := (Below.refl _ _).alloc (Nat.le_refl _) _
        have kt : Hid (Calls Tryz.prog 53 #[.pointer (some ⟨q.lb, 0, none⟩), .int .i64 0, .agg #[.int .i64 1, .int .u64 0, .int .i64 0, .int .i64 seq, .int .i64 0, .int .u64 0, .int .i64 0, .int .i64 0, .slice pa pz.length pc]] (wr.alloc (.cells #[.int .i64 1, .int .u64 0, .int .i64 0, .int .i64 seq, .int .i64 0, .int .u64 0, .int .i64 0, .int .i64 0, .slice pa pz.length pc] 100)) fun e w' => e = .returned (.tuple #[]) ∧ Hid (∃ g : Gr, g.zs = pkB (tellM L (mdata seq pz)) ∧ g.sp = false ∧ Lm w' B q { tk1 L with n0 := putG (gs.foldl putG L.n0) g }) ∧ Hid (K4 q (wr.alloc (.cells #[.int .i64 1, .int .u64 0, .int .i64 0, .int .i64 seq, .int .i64 0, .int .u64 0, .int .i64 0, .int .i64 0, .slice pa pz.length pc] 100)) w')) :=
          tell0 (mdata seq pz) pa pz.length pc (hLr.out.kept hal.out) hpk.1 hpk.2 rfl hpn (hpb.kept hal.out)
        have e0 : wr.cell? ⟨gb, i * 9, none⟩ = some (.int .i64 1) := hc 0 (by decide)
        have e1 : wr.cell? ⟨gb, i * 9 + 1, none⟩ = some (.int .u64 0) := hc 1 (by decide)
        have e2 : wr.cell? ⟨gb, i * 9 + 2, none⟩ = some (.int .i64 0) := hc 2 (by decide)
        have e3 : wr.cell? ⟨gb, i * 9 + 3, none⟩ = some (.int .i64 seq) := hc 3 (by decide)
        have e4 : wr.cell? ⟨gb, i * 9 + 4, none⟩ = some (.int .i64 0) := hc 4 (by decide)
        have e5 : wr.cell? ⟨gb, i * 9 + 5, none⟩ = some (.int .u64 0) := hc 5 (by decide)
        have e6 : wr.cell? ⟨gb, i * 9 + 6, none⟩ = some (.int .i64 0) := hc 6 (by decide)
        have e7 : wr.cell? ⟨gb, i * 9 + 7, none⟩ = some (.int .i64 0) := hc 7 (by decide)
        have e8 : wr.cell? ⟨gb, i * 9 + 8, none⟩ = some (.slice pa pz.length pc) := hc 8 (by decide)
        have hva : a = some ⟨gb, 0, none⟩ := by cases hv; rfl
        subst hva
        have hnl : n = TL.length := hlen'.out
        subst hnl
        have hx' : Hid (TL[i]? = some (seq, .slice pa pz.length pc, pz)) := hx
        generalize hNN : TL.length = N at *
        have hNN' : Hid (TL.length = N) := hNN
        clear hc hin he0 he1 hpk ho hpv hpn hpl hpm hpb hpat hv hx hNN hgb1 hgb2 he2 he3
        go_wp2_with (go_at_call 53; refine kt.out.mono ?_; rintro e w3 ⟨rfl, hL3, hK3⟩; clear kt)
        obtain ⟨g, hg1, hg2, hL3'⟩ := hL3.out
        refine ⟨⟨i + 1, gs ++ [g], by omega, by simp, ?_, ?_, ?_, (hKr.out.trans (K4.of_below hal.out)).trans hK3.out⟩, by simp [intOf]; omega⟩
        · show _ = _
          have h1 : (plainT TL)[i]? = some (seq, pz) := by unfold plainT; rw [List.getElem?_map, hx'.out]; rfl
          have h2 : i < (plainT TL).length := (List.getElem?_eq_some_iff.1 h1).1
          rw [List.take_succ_eq_append_getElem h2, List.map_append, List.map_append, hgs.out, (List.getElem?_eq_some_iff.1 h1).2]
          simp [hg1, hg2]
        · rw [List.foldl_append]
          exact hL3'
        · exact (hTr.out.kept hal.out).k4 hK3.out hlt.out.1 hlt.out.2.1 hlt.out.2.2.1 hlt.out.2.2.2
      · have hd : decide ((i : Int) < (TL.length : Int)) = false := by simp; omega
        obtain rfl : i = TL.length := by omega
        have hnl : n = TL.length := hlen'.out
        subst hnl
        have hG : Hid (grs L (dueN L) gs) := by
          show _ = _
          rw [hgs.out, List.take_of_length_le (by simp [plainT]), hP.out]
        have hrv := hLr.out.rv
        have hrv : Rv wr q.rb L.r := hrv
        have k4 := ack_k hrv
        have hb := hrv.ok
        have hN1 : Hid (0 ≤ ackN L.r ∧ ackN L.r ≤ 4611686018427387904 ∧ 0 ≤ L.r.tk + L.r.win ∧ L.r.tk + L.r.win ≤ 4611686018427387904) := by
          have h1 := rdy_le hb
          have h2 : ackN L.r = L.r.tk + (rdy L.r : Int) := rfl
          have h3 := hb.t1
          have h4 := hb.w2
          have h5 := hb.w1
          have h6 := he'.out.2
          show _ ∧ _ ∧ _ ∧ _
          omega
        have hN2 := ackB_bnd L.r
        have hpk := pk_ack hok.out he'.out.1 hN1.out.1 hN1.out.2.1 hN1.out.2.2.1 hN1.out.2.2.2 hN2.1 hN2.2
        have kt : Hid (∀ x, Below wr.heap.size wr x → Calls Tryz.prog 53 #[.pointer (some ⟨q.lb, 0, none⟩), .int .i64 1, .agg #[.int .i64 2, .int .u64 0, .int .i64 0, .int .i64 0, .int .i64 (ackN L.r), .int .u64 (ackB L.r), .int .i64 (L.r.tk + L.r.win), .int .i64 0, .slice none 0 0]] x fun e w' => e = .returned (.tuple #[]) ∧ Hid (∃ g : Gr, g.zs = pkB (tellM L (mack (ackN L.r) (ackB L.r) (L.r.tk + L.r.win))) ∧ g.sp = false ∧ Lm w' B q { tk1 L with n0 := gs.foldl putG L.n0, n1 := putG L.n1 g }) ∧ Hid (K4 q x w')) := fun x hx =>
          tell1 (mack (ackN L.r) (ackB L.r) (L.r.tk + L.r.win)) none 0 0 (hLr.out.kept hx) hpk.1 hpk.2 rfl (fun _ => rfl) ⟨by simp [mack], by simp [mack], .inl rfl⟩
        have d5 := hLr.out.cell.2.2.2.2.2
        clear hrv hb hN1 hN2 hpk
        generalize TL.length = N at *
        generalize hq1 : ackN L.r = x1 at *
        have q1 : Hid (ackN L.r = x1) := hq1
        clear hq1
        generalize hq2 : ackB L.r = x2 at *
        have q2 : Hid (ackB L.r = x2) := hq2
        clear hq2
        generalize hq3 : L.r.tk + L.r.win = x3 at *
        have q3 : Hid (L.r.tk + L.r.win = x3) := hq3
        clear hq3
        go_wp2_with (first | (go_at_call 54; refine k4.mono ?_; rintro e w3 ⟨rfl, hb3⟩; clear k4) | (go_at_call 53; refine (kt.out _ hb3.out).mono ?_; rintro e w4 ⟨rfl, hL4, hK4⟩; clear kt))
        refine bodyPost_end (results_none rfl _ _ _) rfl ?_
        obtain ⟨g, hg1, hg2, hg3⟩ := hL4.out
        exact ⟨rfl, ⟨fun h => absurd h (by have := hn'.out; omega), fun _ => ⟨gs, g, hG.out, (by rw [q1.out, q2.out, q3.out]; exact hg1), hg2, hg3⟩⟩, (hKr.out.trans (K4.of_below hb3.out)).trans hK4.out⟩
theorem tick_any {w : World} {B : Nat} {q : Qb} {L : Lk} (h : Lm w B q L) (he : L.ep ≤ 4611686018427387904) (ht : L.r.tk ≤ 4611686018427380000) :
    Calls Tryz.prog 24 #[.pointer (some ⟨q.lb, 0, none⟩)] w fun e w' => e = .returned (.tuple #[]) ∧ Hid (TkR w' B q L) ∧ Hid (K4 q w w') := by
  by_cases hn : L.now < 1099511627776
  · exact tick_go h hn he ht
  · refine (tick_end h (by omega)).mono ?_
    rintro e w' ⟨rfl, rfl⟩
    exact ⟨rfl, ⟨fun _ => h, fun h2 => absurd h2 hn⟩, K4.refl _ _⟩
end Go.Proofs.YtfipdldoklkciaaGreat
namespace Go.Proofs.YtfipdldoklkciaaGreat
open Go.RowKit
set_option linter.unusedVariables false
theorem mem_erase {G : List Gr} {i : Nat} {x : Gr} (h : x ∈ G.eraseIdx i) : x ∈ G := (List.eraseIdx_sublist G i).subset h
theorem lout0 {w : World} {B : Nat} {q : Qb} {L : Lk} {i : Nat} {g : Gr} (h : Lm w B q L) (hg : L.n0[i]? = some g) :
    Calls Tryz.prog 57 #[.pointer (some ⟨q.lb, 6, none⟩), .int .i64 (i : Nat)] w fun e w' => e = .returned (.agg #[.slice g.a g.n g.c, .bool g.sp]) ∧ Hid (Lm w' B q { L with n0 := L.n0.eraseIdx i }) ∧ Hid (K4 q w w') ∧ Hid (GrIn w' B g) := by
  obtain ⟨cs, hb, hc⟩ := h.lk
  refine (out_any hb hc.n0 rfl (List.getElem?_eq_some_iff.1 hg).1 hg).mono ?_
  rintro e w' ⟨rfl, cs', h1, h2, h3, h4⟩
  refine ⟨rfl, ?_, K4.of_l h4.out, (h.gr g (.inl (List.mem_of_getElem? hg))).k2 h4.out h.no5.1 h.no5.1⟩
  refine h.turnL h1.out (lkc_n0 hc h3.out h2.out) h4.out rfl rfl ⟨h.ok.t1, h.ok.t2, h.ok.n1, h.ok.n2, h.ok.e1, h.ok.few⟩ (fun x hx => ?_)
  rcases hx with hx | hx
  · exact .inl (.inl (mem_erase hx))
  · exact .inl (.inr hx)
theorem lout1 {w : World} {B : Nat} {q : Qb} {L : Lk} {i : Nat} {g : Gr} (h : Lm w B q L) (hg : L.n1[i]? = some g) :
    Calls Tryz.prog 57 #[.pointer (some ⟨q.lb, 521, none⟩), .int .i64 (i : Nat)] w fun e w' => e = .returned (.agg #[.slice g.a g.n g.c, .bool g.sp]) ∧ Hid (Lm w' B q { L with n1 := L.n1.eraseIdx i }) ∧ Hid (K4 q w w') ∧ Hid (GrIn w' B g) := by
  obtain ⟨cs, hb, hc⟩ := h.lk
  refine (out_any hb hc.n1 rfl (List.getElem?_eq_some_iff.1 hg).1 hg).mono ?_
  rintro e w' ⟨rfl, cs', h1, h2, h3, h4⟩
  refine ⟨rfl, ?_, K4.of_l h4.out, (h.gr g (.inr (List.mem_of_getElem? hg))).k2 h4.out h.no5.1 h.no5.1⟩
  refine h.turnL h1.out (lkc_n1 hc h3.out h2.out) h4.out rfl rfl ⟨h.ok.t1, h.ok.t2, h.ok.n1, h.ok.n2, h.ok.e1, h.ok.few⟩ (fun x hx => ?_)
  rcases hx with hx | hx
  · exact .inl (.inl hx)
  · exact .inl (.inr (mem_erase hx))
def netS (L : Lk) (n : Int) (G : List Gr) : Lk := if n = 0 then { L with n0 := G } else { L with n1 := G }
def dropS (L : Lk) (n i : Int) : Lk := if canE L n i = 0 then netS L n ((netL L n).eraseIdx i.toNat) else L
theorem can_zero {L : Lk} {n i : Int} (h : canE L n i = 0) : netB n = true ∧ 0 ≤ i ∧ i < (netL L n).length := by
  unfold canE at h
  split at h
  · cases h
  split at h
  · cases h
  · rename_i h1 h2
    exact ⟨by simpa using h1, by omega, by omega⟩
def twiceS (L : Lk) (n i : Int) : Lk := match (netL L n)[i.toNat]? with
  | some g => if canE L n i = 0 then netS L n (putG (netL L n) g) else L
  | none => L
theorem drop_no {w : World} {B : Nat} {q : Qb} {L : Lk} (n i : Int) (h : Lm w B q L) (hE : canE L n i ≠ 0) :
    Calls Tryz.prog 27 #[.pointer (some ⟨q.lb, 0, none⟩), .int .i64 n, .int .i64 i] w fun e w' => e = .returned (.int .i64 (canE L n i)) ∧ Hid (Below w.heap.size w w') := by
  have k0 := can_any n i h
  have d0 : (canE L n i != 0) = true := by simpa using hE
  clear h hE
  generalize canE L n i = x at *
  go_enter Tryz.func27, Tryz.ntmps27
  go_wp2_with (go_at_call 55; refine k0.mono ?_; rintro e w1 ⟨rfl, hb1⟩; clear k0)
  go_ret
  exact ⟨rfl, hb1⟩
theorem drop0 {w : World} {B : Nat} {q : Qb} {L : Lk} (i : Nat) (g : Gr) (h : Lm w B q L) (hE : canE L 0 (i : Nat) = 0) (hg : L.n0[i]? = some g) :
    Calls Tryz.prog 27 #[.pointer (some ⟨q.lb, 0, none⟩), .int .i64 0, .int .i64 (i : Nat)] w fun e w' => e = .returned (.int .i64 0) ∧ Hid (Lm w' B q { L with n0 := L.n0.eraseIdx i }) ∧ Hid (K4 q w w') := by
  have k0 := can_any 0 (i : Nat) h
  rw [hE] at k0
  have hL : Hid (Lm w B q L) := h
  have hg' : Hid (L.n0[i]? = some g) := hg
  clear h hE hg
  go_enter Tryz.func27, Tryz.ntmps27
  go_wp2_with (first | (go_at_call 55; refine k0.mono ?_; rintro e w1 ⟨rfl, hb1⟩; clear k0) | (go_at_call 57; refine (lout0 (hL.out.kept hb1.out) hg'.out).mono ?_; rintro e w2 ⟨rfl, hL2, hK2, _⟩))
  go_ret
  exact ⟨rfl, hL2, (K4.of_below hb1.out).trans hK2.out⟩
theorem drop1 {w : World} {B : Nat} {q : Qb} {L : Lk} (i : Nat) (g : Gr) (h : Lm w B q L) (hE : canE L 1 (i : Nat) = 0) (hg : L.n1[i]? = some g) :
    Calls Tryz.prog 27 #[.pointer (some ⟨q.lb, 0, none⟩), .int .i64 1, .int .i64 (i : Nat)] w fun e w' => e = .returned (.int .i64 0) ∧ Hid (Lm w' B q { L with n1 := L.n1.eraseIdx i }) ∧ Hid (K4 q w w') := by
  have k0 := can_any 1 (i : Nat) h
  rw [hE] at k0
  have hL : Hid (Lm w B q L) := h
  have hg' : Hid (L.n1[i]? = some g) := hg
  clear h hE hg
  go_enter Tryz.func27, Tryz.ntmps27
  go_wp2_with (first | (go_at_call 55; refine k0.mono ?_; rintro e w1 ⟨rfl, hb1⟩; clear k0) | (go_at_call 57; refine (lout1 (hL.out.kept hb1.out) hg'.out).mono ?_; rintro e w2 ⟨rfl, hL2, hK2, _⟩))
  go_ret
  exact ⟨rfl, hL2, (K4.of_below hb1.out).trans hK2.out⟩
theorem twice_no {w : World} {B : Nat} {q : Qb} {L : Lk} (n i : Int) (h : Lm w B q L) (hE : canE L n i ≠ 0) :
    Calls Tryz.prog 28 #[.pointer (some ⟨q.lb, 0, none⟩), .int .i64 n, .int .i64 i] w fun e w' => e = .returned (.int .i64 (canE L n i)) ∧ Hid (Below w.heap.size w w') := by
  have k0 := can_any n i h
  have d0 : (canE L n i != 0) = true := by simpa using hE
  clear h hE
  generalize canE L n i = x at *
  go_enter Tryz.func28, Tryz.ntmps28
  go_wp2_with (go_at_call 55; refine k0.mono ?_; rintro e w1 ⟨rfl, hb1⟩; clear k0)
  go_ret
  exact ⟨rfl, hb1⟩
set_option maxRecDepth 100000 in
theorem twice0 {w : World} {B : Nat} {q : Qb} {L : Lk} (i : Nat) (g : Gr) (h : Lm w B q L) (hE : canE L 0 (i : Nat) = 0) (hg : L.n0[i]? = some g) :
    Calls Tryz.prog 28 #[.pointer (some ⟨q.lb, 0, none⟩), .int .i64 0, .int .i64 (i : Nat)] w fun e w' => e = .returned (.int .i64 0) ∧ Hid (Lm w' B q { L with n0 := putG L.n0 g }) ∧ Hid (K4 q w w') := by
  have k0 := can_any 0 (i : Nat) h
  rw [hE] at k0
  have hL : Hid (Lm w B q L) := h
  have hgi : Hid (GrIn w B g) := h.gr g (.inl (List.mem_of_getElem? hg))
  have hib : i < 256 := by
    obtain ⟨cs, hb, hc⟩ := h.lk
    have := hc.n0.few
    have := (List.getElem?_eq_some_iff.1 hg).1
    omega
  have hc2 : Hid (∀ x, Below w.heap.size w x → x.cell? ⟨q.lb, 6 + i * 2, none⟩ = some (.slice g.a g.n g.c) ∧ x.cell? ⟨q.lb, 6 + i * 2 + 1, none⟩ = some (.bool g.sp)) := fun x hx => by
    obtain ⟨cs, hb, hc⟩ := h.lk
    have hb' := hb.kept hx
    exact ⟨(hb'.cell _).trans (hc.n0.row i g hg).1, (hb'.cell _).trans (hc.n0.row i g hg).2⟩
  have d0 : decide ((0 : Int) ≤ (i : Int)) = true := by simp
  have d1 : decide ((i : Int) < 256) = true := by simp; omega
  clear h hE hg
  go_enter Tryz.func28, Tryz.ntmps28
  go_wp2_with fail
  refine k0.mono ?_
  rintro e w1 ⟨rfl, hb1⟩
  clear k0
  obtain ⟨c1, c2⟩ := hc2.out w1 hb1.out
  have kp := lput0 g ((hL.out.kept hb1.out).drew) ((hgi.out.kept hb1.out).kept (Below.refl _ _).drew)
  have kp' : Hid (Calls Tryz.prog 59 #[.pointer (some ⟨q.lb, 6, none⟩), .agg #[.slice g.a g.n g.c, .bool g.sp]] w1.drew fun e w' => e = .returned (.tuple #[]) ∧ Hid (Lm w' B q { L with n0 := putG L.n0 g }) ∧ Hid (K4 q w1.drew w')) := kp
  clear kp
  go_wp2
  go_region_with (go_at_call 59; refine kp'.out.mono ?_; rintro e w2 ⟨rfl, hL2, hK2⟩; clear kp')
  all_goals go_wp2
  all_goals go_ret
  all_goals exact ⟨rfl, hL2, ((K4.of_below hb1.out).drew).trans hK2.out⟩
set_option maxRecDepth 100000 in
theorem twice1 {w : World} {B : Nat} {q : Qb} {L : Lk} (i : Nat) (g : Gr) (h : Lm w B q L) (hE : canE L 1 (i : Nat) = 0) (hg : L.n1[i]? = some g) :
    Calls Tryz.prog 28 #[.pointer (some ⟨q.lb, 0, none⟩), .int .i64 1, .int .i64 (i : Nat)] w fun e w' => e = .returned (.int .i64 0) ∧ Hid (Lm w' B q { L with n1 := putG L.n1 g }) ∧ Hid (K4 q w w') := by
  have k0 := can_any 1 (i : Nat) h
  rw [hE] at k0
  have hL : Hid (Lm w B q L) := h
  have hgi : Hid (GrIn w B g) := h.gr g (.inr (List.mem_of_getElem? hg))
  have hib : i < 256 := by
    obtain ⟨cs, hb, hc⟩ := h.lk
    have := hc.n1.few
    have := (List.getElem?_eq_some_iff.1 hg).1
    omega
  have hc2 : Hid (∀ x, Below w.heap.size w x → x.cell? ⟨q.lb, 521 + i * 2, none⟩ = some (.slice g.a g.n g.c) ∧ x.cell? ⟨q.lb, 521 + i * 2 + 1, none⟩ = some (.bool g.sp)) := fun x hx => by
    obtain ⟨cs, hb, hc⟩ := h.lk
    have hb' := hb.kept hx
    exact ⟨(hb'.cell _).trans (hc.n1.row i g hg).1, (hb'.cell _).trans (hc.n1.row i g hg).2⟩
  have d0 : decide ((0 : Int) ≤ (i : Int)) = true := by simp
  have d1 : decide ((i : Int) < 256) = true := by simp; omega
  clear h hE hg
  go_enter Tryz.func28, Tryz.ntmps28
  go_wp2_with fail
  refine k0.mono ?_
  rintro e w1 ⟨rfl, hb1⟩
  clear k0
  obtain ⟨c1, c2⟩ := hc2.out w1 hb1.out
  have kp := lput1 g ((hL.out.kept hb1.out).drew) ((hgi.out.kept hb1.out).kept (Below.refl _ _).drew)
  have kp' : Hid (Calls Tryz.prog 59 #[.pointer (some ⟨q.lb, 521, none⟩), .agg #[.slice g.a g.n g.c, .bool g.sp]] w1.drew fun e w' => e = .returned (.tuple #[]) ∧ Hid (Lm w' B q { L with n1 := putG L.n1 g }) ∧ Hid (K4 q w1.drew w')) := kp
  clear kp
  go_wp2
  go_region_with (go_at_call 59; refine kp'.out.mono ?_; rintro e w2 ⟨rfl, hL2, hK2⟩; clear kp')
  all_goals go_wp2
  all_goals go_ret
  all_goals exact ⟨rfl, hL2, ((K4.of_below hb1.out).drew).trans hK2.out⟩
theorem drop_any {w : World} {B : Nat} {q : Qb} {L : Lk} (n i : Int) (h : Lm w B q L) :
    Calls Tryz.prog 27 #[.pointer (some ⟨q.lb, 0, none⟩), .int .i64 n, .int .i64 i] w fun e w' => e = .returned (.int .i64 (canE L n i)) ∧ Hid (Lm w' B q (dropS L n i)) ∧ Hid (K4 q w w') := by
  by_cases hE : canE L n i = 0
  · obtain ⟨h1, h2, h3⟩ := can_zero hE
    obtain ⟨i, rfl⟩ : ∃ k : Nat, i = (k : Int) := ⟨i.toNat, by omega⟩
    by_cases h0 : n = 0
    · subst h0
      have h3 : ((i : Nat) : Int) < L.n0.length := h3
      obtain ⟨g, hg⟩ : ∃ g, L.n0[i]? = some g := ⟨_, List.getElem?_eq_getElem (by omega)⟩
      have e : dropS L 0 (i : Nat) = { L with n0 := L.n0.eraseIdx i } := by unfold dropS; rw [if_pos hE]; rfl
      rw [e, hE]
      exact drop0 i g h hE hg
    · have hn1 : n = 1 := by
        unfold netB at h1
        simp at h1
        omega
      subst hn1
      have h3 : ((i : Nat) : Int) < L.n1.length := h3
      obtain ⟨g, hg⟩ : ∃ g, L.n1[i]? = some g := ⟨_, List.getElem?_eq_getElem (by omega)⟩
      have e : dropS L 1 (i : Nat) = { L with n1 := L.n1.eraseIdx i } := by unfold dropS; rw [if_pos hE]; rfl
      rw [e, hE]
      exact drop1 i g h hE hg
  · have e : dropS L n i = L := by unfold dropS; rw [if_neg hE]
    rw [e]
    refine (drop_no n i h hE).mono ?_
    rintro e w' ⟨rfl, hb⟩
    exact ⟨rfl, h.kept hb.out, K4.of_below hb.out⟩
theorem twice_any {w : World} {B : Nat} {q : Qb} {L : Lk} (n i : Int) (h : Lm w B q L) :
    Calls Tryz.prog 28 #[.pointer (some ⟨q.lb, 0, none⟩), .int .i64 n, .int .i64 i] w fun e w' => e = .returned (.int .i64 (canE L n i)) ∧ Hid (Lm w' B q (twiceS L n i)) ∧ Hid (K4 q w w') := by
  by_cases hE : canE L n i = 0
  · obtain ⟨h1, h2, h3⟩ := can_zero hE
    obtain ⟨i, rfl⟩ : ∃ k : Nat, i = (k : Int) := ⟨i.toNat, by omega⟩
    by_cases h0 : n = 0
    · subst h0
      have h3 : ((i : Nat) : Int) < L.n0.length := h3
      obtain ⟨g, hg⟩ : ∃ g, L.n0[i]? = some g := ⟨_, List.getElem?_eq_getElem (by omega)⟩
      have e : twiceS L 0 (i : Nat) = { L with n0 := putG L.n0 g } := by
        unfold twiceS
        rw [show (netL L 0)[((i : Nat) : Int).toNat]? = some g from hg]
        show (if canE L 0 (i : Nat) = 0 then _ else _) = _
        rw [if_pos hE]; rfl
      rw [e, hE]
      exact twice0 i g h hE hg
    · have hn1 : n = 1 := by
        unfold netB at h1
        simp at h1
        omega
      subst hn1
      have h3 : ((i : Nat) : Int) < L.n1.length := h3
      obtain ⟨g, hg⟩ : ∃ g, L.n1[i]? = some g := ⟨_, List.getElem?_eq_getElem (by omega)⟩
      have e : twiceS L 1 (i : Nat) = { L with n1 := putG L.n1 g } := by
        unfold twiceS
        rw [show (netL L 1)[((i : Nat) : Int).toNat]? = some g from hg]
        show (if canE L 1 (i : Nat) = 0 then _ else _) = _
        rw [if_pos hE]; rfl
      rw [e, hE]
      exact twice1 i g h hE hg
  · have e : twiceS L n i = L := by
      unfold twiceS
      split
      · rw [if_neg hE]
      · rfl
    rw [e]
    refine (twice_no n i h hE).mono ?_
    rintro e w' ⟨rfl, hb⟩
    exact ⟨rfl, h.kept hb.out, K4.of_below hb.out⟩
end Go.Proofs.YtfipdldoklkciaaGreat
