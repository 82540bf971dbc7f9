/-
  The reader as a whole: a whole value is put, wherever it belongs.
  The reader as a whole: what is innermost has ended: it is a whole value, and nobody writes to it any more.
  The innermost of what is open has ended: jread.reader.end, as far as the put.
-/
import Derived.Test.YtmlacmoembjeoaaGreatDoorV15
import Derived.Test.YtmlacmoembjeoaaGreatDoorV13
import Derived.Test.YtmlacmoembjeoaaGreatDoorV14
namespace Go.Proofs.YtmlacmoembjeoaaGreatDoor
open Go.RowKit
set_option linter.unusedVariables false
/-- Only the reader's own cells have turned. -/
theorem jm_rd {B D : Nat} {lab : Nat → Nat} {w w' : World} {g : Nat} {s s' : JS} {nbs : List Nb} {ao : Option Addr} {co : Nat} {r r' : Nb} (h : JM B D lab w g s nbs ao co r) (hd : Rd w w' g) (R : RBox w' g s'.free s'.nx ao nbs.length co s'.nodes r' s'.ended) (ho : s'.opn = s.opn) (hr : NdS (fun k => lab k = 0 ∧ B ≤ k ∧ k < w'.heap.size) D w' r' s'.root) :
    JM B D lab w' g s' nbs ao co r' ∧ Trn (fun L => L = 1) lab lab w w' := by
  have hT : Trn (fun L => L = 1) lab lab w w' := ⟨hd.os, hd.tape, hd.output, hd.size, fun k hk hn => ⟨rfl, hd.rest k hk (fun e => hn (by rw [e]; exact h.gl))⟩⟩
  have hs := hd.size
  refine ⟨⟨h.lo, fun k hk => h.hi k (by omega), h.gl, R, (own_tr h.opn hT (L := 2) h.ol (by omega)).1, h.ol, by rw [ho]; exact h.len, fun i hi hi2 => ?_, hr, by rw [ho]; exact h.few⟩, hT⟩
  have hi3 : i < s.opn.length := by rw [← ho]; exact hi2
  have e : s'.opn[i] = s.opn[i] := by simp only [ho]
  rw [e]
  exact (h.nd i hi hi3).tr hT (by omega) (by omega) (by omega)
/-- What a put makes of what was read. -/
def putA (s : JS) (u : Tr) : JS := match s.opn.reverse with
  | [] => { s with root := u, ended := true, nx := 67 }
  | t :: l => { s with opn := l.reverse ++ [{ t with kids := t.kids ++ [u] }], nx := if t.kind = 8 then 70 else 69 }
theorem putA_nil {s : JS} (u : Tr) (h : s.opn = []) : putA s u = { s with root := u, ended := true, nx := 67 } := by unfold putA; rw [h]; rfl
theorem putA_snoc {s : JS} {os : List Tr} {t : Tr} (u : Tr) (h : s.opn = os ++ [t]) : putA s u = { s with opn := os ++ [{ t with kids := t.kids ++ [u] }], nx := if t.kind = 8 then 70 else 69 } := by
  unfold putA
  rw [h, List.reverse_append]
  simp
/-- A WHOLE VALUE IS PUT. -/
theorem jput_any {B D : Nat} {lab : Nat → Nat} {w : World} {g : Nat} {s : JS} {nbs : List Nb} {ao : Option Addr} {co : Nat} {r x : Nb} {u : Tr} (h : JM B D lab w g s nbs ao co r) (hx : NdS (fun k => lab k = 0 ∧ B ≤ k ∧ k < w.heap.size) D w x u) (hsm : ∀ t ∈ s.opn, t.kids.length ≤ 100000) (hB : B ≤ w.heap.size) :
    Calls Tryz.prog 43 #[.pointer (some ⟨g, 0, none⟩), .agg x.arr] w fun e w' => e = .returned (.tuple #[]) ∧ ∃ lab' nbs' r', JM B D lab' w' g (putA s u) nbs' ao co r' ∧ Trn (fun L => L ≠ 0) lab lab' w w' := by
  rcases List.eq_nil_or_concat nbs with hn | ⟨ns, nb, hn⟩
  · subst hn
    have ho : s.opn = [] := List.eq_nil_of_length_eq_zero h.len.symm
    refine (put_none (x := x) h.box).mono ?_
    rintro e w' ⟨rfl, R, hd⟩
    refine ⟨rfl, lab, [], x, ?_⟩
    have hT : Trn (fun L => L = 1) lab lab w w' := ⟨hd.os, hd.tape, hd.output, hd.size, fun k hk hq => ⟨rfl, hd.rest k hk (fun e => hq (by rw [e]; exact h.gl))⟩⟩
    have hj := jm_rd (s' := putA s u) h hd (r' := x) (by rw [putA_nil u ho]; exact R) (by rw [putA_nil u ho]) (by rw [putA_nil u ho]; exact nds_tr hx hT (by omega))
    exact ⟨hj.1, ⟨hj.2.os, hj.2.tape, hj.2.output, hj.2.size, fun k hk hq => hj.2.rest k hk (by intro e; apply hq; omega)⟩⟩
  · have hn' : nbs = ns ++ [nb] := by rw [hn]; simp
    subst hn'
    clear hn
    obtain ⟨os, t, hs⟩ : ∃ os t, s.opn = os ++ [t] := by
      rcases List.eq_nil_or_concat s.opn with q | ⟨os, t, q⟩
      · have := h.len; rw [q] at this; simp at this
      · exact ⟨os, t, by rw [q]; simp⟩
    have hlo : os.length = ns.length := by have := h.len; rw [hs] at this; simp at this; omega
    have hln : (ns ++ [nb]).length = ns.length + 1 := by simp
    have hopn := h.opn
    rw [hln] at hopn
    obtain ⟨go, cap', cur, hv, hBg, hcur, hnc, hcm, hz, hsp⟩ := hopn.last
    have hao : ao = some ⟨go, 0, none⟩ := by cases hv; rfl
    subst hao
    have hnd := h.nd ns.length (by simp) (by rw [hs]; simp; omega)
    have e1 : (ns ++ [nb])[ns.length]'(by simp) = nb := by simp
    have e2 : s.opn[ns.length]'(by rw [hs]; simp; omega) = t := by simp only [hs]; simp [← hlo]
    rw [e1, e2] at hnd
    obtain ⟨bi, i1, i2, i3⟩ := hnd.is
    have hgol : lab go = 2 := h.ol go rfl
    have hsh : bi.length = nb.li := by
      obtain ⟨a', c', hv', _⟩ := i1.shape
      simp only [Value.slice.injEq] at hv'
      exact hv'.2.1.symm
    have hkl : t.kids.length ≤ 100000 := hsm t (by rw [hs]; simp)
    have h8 := hsp 8 (by decide)
    have h0 := hsp 0 (by decide)
    rw [cell_row hcur] at h8 h0
    have hfew := h.few
    have hl2 : ns.length ≤ 100000 := by have := h.len; rw [hs] at this; rw [hs] at hfew; simp at this hfew; omega
    have hbox : RBox w g s.free s.nx (some ⟨go, 0, none⟩) (ns.length + 1) co s.nodes r s.ended := by have := h.box; rw [hln] at this; exact this
    refine (put_some (x := x) hbox hl2 hcur (ai := nb.ai) (li := nb.li) (cap := nb.ci) h8 (K := nb.kind) h0 i1 hsh (by omega) hB (fun e => by have := hnd.il go e; omega) (fun e => by have := hnd.il g e; rw [h.gl] at this; omega) (fun e => by rw [e, h.gl] at hgol; omega) (nb.kind == 8) rfl).mono ?_
    rintro e w' ⟨rfl, w6, F, N, R⟩
    have hkd : nb.kind = t.kind := by rw [hnd.fl]
    have hnx : (if (nb.kind == 8) = true then 70 else 69) = (if t.kind = 8 then 70 else 69) := by rw [hkd]; simp
    rw [hnx] at R
    obtain ⟨lab', nb', hj, hT⟩ := jm_kid h hs i1 i2 i3 hx F N R
    refine ⟨rfl, lab', ns ++ [nb'], r, ?_, ⟨hT.os, hT.tape, hT.output, hT.size, fun k hk hq => hT.rest k hk (by intro e; apply hq; omega)⟩⟩
    rw [putA_snoc u hs]
    exact hj
end Go.Proofs.YtmlacmoembjeoaaGreatDoor
namespace Go.Proofs.YtmlacmoembjeoaaGreatDoor
open Go.RowKit
set_option linter.unusedVariables false
/-- The marks when the i-th node has ended. -/
def shut (lab : Nat → Nat) (i : Nat) : Nat → Nat := fun k => if lab k = 3 + 2 * i ∨ lab k = 4 + 2 * i then 0 else lab k
theorem shut_zero {lab : Nat → Nat} {i k : Nat} (h : lab k = 0) : shut lab i k = 0 := by unfold shut; rw [if_neg (by omega)]; exact h
theorem shut_own {lab : Nat → Nat} {i k : Nat} (h : lab k = 3 + 2 * i ∨ lab k = 4 + 2 * i) : shut lab i k = 0 := if_pos h
theorem shut_else {lab : Nat → Nat} {i k : Nat} (h : ¬ (lab k = 3 + 2 * i ∨ lab k = 4 + 2 * i)) : shut lab i k = lab k := if_neg h
theorem own_row {w : World} {B : Nat} {a : Option Addr} {n c : Nat} {bs : List Nb} {l : List Tr} {Q : Nb → Tr → Prop} (h : OwnsN 26 w B (.slice a n c) bs) (hl : bs.length = l.length) (hs : l.length ≤ 100000) (hq : ∀ j (h : j < bs.length) (h2 : j < l.length), Q bs[j] l[j]) : RowN Q w a n c l ∧ n = l.length ∧ ∀ x, a = some x → (Value.slice a n c).ownBlock = some x.block ∧ B ≤ x.block ∧ x.block < w.heap.size := by
  obtain ⟨a', cap, hv, hc, hn, hx⟩ := h.shape
  cases hv
  refine ⟨rowN_of hn hl hl.symm ⟨hc.1, hc.2.1, hc.2.2, by omega⟩ hq, hl, fun x hx' => ?_⟩
  have h4 := hx x hx'
  subst hx'
  obtain ⟨b, o, sp⟩ := x
  obtain ⟨h3, h5, rfl, rfl⟩ := h4
  exact ⟨rfl, h3, h5⟩
theorem kind_wf {k : Int} (h : k = 7 ∨ k = 8) : (Lit.int .i64 k).wf = true := by rcases h with rfl | rfl <;> decide
/-- WHAT IS INNERMOST HAS ENDED. -/
theorem jm_pop {B D : Nat} {lab : Nat → Nat} {w w1 : World} {g go : Nat} {s : JS} {ns : List Nb} {nb : Nb} {co : Nat} {r : Nb} {os : List Tr} {t : Tr} (h : JM B D lab w g s (ns ++ [nb]) (some ⟨go, 0, none⟩) co r) (hs : s.opn = os ++ [t]) (hk : t.keys.length ≤ 100000 ∧ t.kids.length ≤ 100000)
    (R : RBox w1 g s.free s.nx (some ⟨go, 0, none⟩) ns.length co s.nodes r s.ended) (hr : ∀ k, k < w.heap.size → k ≠ g → w1.heap[k]? = w.heap[k]?) (h1 : w1.os = w.os) (h2 : w1.tape = w.tape) (h3 : w1.output = w.output) (h4 : w.heap.size ≤ w1.heap.size) :
    JM B (D + 1) (shut lab ns.length) w1 g { s with opn := os } ns (some ⟨go, 0, none⟩) co r ∧ NdS (fun k => shut lab ns.length k = 0 ∧ B ≤ k ∧ k < w1.heap.size) (D + 1) w1 nb t ∧ Trn (fun L => L = 1 ∨ L = 3 + 2 * ns.length ∨ L = 4 + 2 * ns.length) lab (shut lab ns.length) w w1 := by
  have hln : (ns ++ [nb]).length = ns.length + 1 := by simp
  have hlo : os.length = ns.length := by have := h.len; rw [hs] at this; simp at this; omega
  have hnd := h.nd ns.length (by simp) (by rw [hs]; simp; omega)
  have e1 : (ns ++ [nb])[ns.length]'(by simp) = nb := by simp
  have e2 : s.opn[ns.length]'(by rw [hs]; simp; omega) = t := by simp only [hs]; simp [← hlo]
  rw [e1, e2] at hnd
  have hne : ∀ k, lab k ≠ 1 → k ≠ g := fun k hk e => hk (by rw [e]; exact h.gl)
  have hT : Trn (fun L => L = 1 ∨ L = 3 + 2 * ns.length ∨ L = 4 + 2 * ns.length) lab (shut lab ns.length) w w1 :=
    ⟨h1, h2, h3, h4, fun k hk hn => ⟨shut_else (fun q => hn (.inr q)), hr k hk (hne k fun q => hn (.inl q))⟩⟩
  have hT' : Trn (fun L => L = 1) lab lab w w1 := ⟨h1, h2, h3, h4, fun k hk hn => ⟨rfl, hr k hk (hne k hn)⟩⟩
  have cl : ∀ {b : Nb} {x : Tr}, NdS (fun k => lab k = 0 ∧ B ≤ k ∧ k < w.heap.size) D w b x → NdS (fun k => shut lab ns.length k = 0 ∧ B ≤ k ∧ k < w1.heap.size) D w1 b x := fun q => nds_tr q hT (by omega)
  have hopn := h.opn
  rw [hln] at hopn
  have hop1 : OwnsN 26 w1 B (.slice (some ⟨go, 0, none⟩) (ns.length + 1) co) (ns ++ [nb]) := (own_tr hopn hT' (L := 2) (fun k hk => h.ol k (by rw [hln]; exact hk)) (by omega)).1
  have hgol : lab go = 2 := h.ol go rfl
  refine ⟨⟨fun k hk => shut_zero (h.lo k hk), fun k hk => shut_zero (h.hi k (by omega)), ?_, R, ?_, fun k hk => ?_, hlo.symm, fun i hi hi2 => ?_, ((cl h.rt).le (Nat.le_succ _)), ?_⟩, ?_, hT⟩
  · rw [shut_else (by rw [h.gl]; omega)]; exact h.gl
  · obtain ⟨p1, p2⟩ := hop1
    refine ⟨by rw [cs_len], .inr ?_⟩
    rcases p2 with ⟨q, _⟩ | ⟨gq, cq, cu, hq, hb, hg, hnc, hcm, hcs, htk⟩
    · cases q
    · rw [hln] at hq hnc htk
      cases hq
      refine ⟨go, co, cu, rfl, hb, hg, by omega, hcm, hcs, ?_⟩
      have := congrArg (List.take (ns.length * 9)) htk
      rw [List.take_take, Nat.min_eq_left (by omega), cs_app, List.take_append_of_le_length (by rw [cs_len]; exact Nat.le_refl _)] at this
      rw [this, List.take_of_length_le (by rw [cs_len]; exact Nat.le_refl _)]
  · have : go = k := by simpa [Value.ownBlock] using hk
    subst this
    rw [shut_else (by rw [hgol]; omega)]; exact hgol
  · have hio : i < os.length := hi2
    have hn0 := h.nd i (by simp; omega) (by rw [hs]; simp; omega)
    have q3 : (ns ++ [nb])[i]'(by simp; omega) = ns[i] := List.getElem_append_left hi
    have q4 : s.opn[i]'(by rw [hs]; simp; omega) = os[i] := by simp only [hs]; exact List.getElem_append_left hio
    rw [q3, q4] at hn0
    have hn1 := hn0.tr hT (by omega) (by omega) (by omega)
    obtain ⟨bi, i1, i2, i3⟩ := hn1.is
    exact ⟨hn1.fl, hn1.tf, hn1.kd, hn1.ks, hn1.kl, ⟨bi, i1, i2, fun j hj hj2 => (i3 j hj hj2).le (Nat.le_succ _)⟩, hn1.il⟩
  · have := h.few
    rw [hs] at this
    simp at this
    show os.length ≤ 5000
    omega
  · obtain ⟨bk, k1, k2, k3⟩ := hnd.ks
    obtain ⟨bi, i1, i2, i3⟩ := hnd.is
    have k1' := (own_tr k1 hT' hnd.kl (by omega)).1
    have i1' := (own_tr i1 hT' hnd.il (by omega)).1
    have hD : 0 < D := by
      rcases D with _ | D
      · exact absurd h.rt id
      · omega
    obtain ⟨D', rfl⟩ : ∃ D', D = D' + 1 := ⟨D - 1, by omega⟩
    obtain ⟨r1, r2, r3⟩ := own_row (l := t.keys) (Q := NdS (fun k => shut lab ns.length k = 0 ∧ B ≤ k ∧ k < w1.heap.size) (D' + 1) w1) k1' k2 hk.1 (fun j hj hj2 => by rw [(k3 j hj hj2).1]; exact leaf_nd (k3 j hj hj2).2 _ D' w1)
    obtain ⟨s1, s2, s3⟩ := own_row (l := t.kids) (Q := NdS (fun k => shut lab ns.length k = 0 ∧ B ≤ k ∧ k < w1.heap.size) (D' + 1) w1) i1' i2 hk.2 (fun j hj hj2 => cl (i3 j hj hj2))
    have fl := hnd.fl
    have tf := hnd.tf
    have f1 : nb.kind = t.kind := by rw [fl]
    have f2 : nb.num = 0 := by rw [fl]
    have f3 : nb.neg = false := by rw [fl]
    have f4 : nb.dig = ⟨#[]⟩ := by rw [fl]
    have f5 : nb.exp = 0 := by rw [fl]
    have f6 : nb.txt = ⟨#[]⟩ := by rw [fl]
    have f7 : nb.ab = none := by rw [fl]
    have f8 : nb.lb = 0 := by rw [fl]
    have f9 : nb.cb = 0 := by rw [fl]
    have g2 : t.num = 0 := by rw [tf]
    have g3 : t.neg = false := by rw [tf]
    have g4 : t.dig = ⟨#[]⟩ := by rw [tf]
    have g5 : t.exp = 0 := by rw [tf]
    have g6 : t.txt = ⟨#[]⟩ := by rw [tf]
    have g7 : t.bytes = [] := by rw [tf]
    refine ⟨⟨f1, by rw [f2, g2], by rw [f3, g3], by rw [f4, g4], by rw [f5, g5], by rw [f6, g6]⟩, ⟨kind_wf hnd.kd, by rw [g2]; decide, by rw [g5]; decide, by rw [g4]; decide, by rw [g6]; decide⟩, ⟨by rw [g7, f8]; rfl, by rw [f7, f8, f9]; exact ⟨Nat.le_refl _, Nat.zero_le _, fun _ => rfl, by omega⟩, by rw [g7]; simp [Bytes]⟩, ⟨fun q => by rw [f8] at q; omega, fun _ x hx => ?_, fun _ x hx => ?_⟩, r1, s1⟩
    · exact ⟨shut_own (.inl (hnd.kl _ (r3 x hx).1)), (r3 x hx).2⟩
    · exact ⟨shut_own (.inr (hnd.il _ (s3 x hx).1)), (s3 x hx).2⟩
end Go.Proofs.YtmlacmoembjeoaaGreatDoor
namespace Go.Proofs.YtmlacmoembjeoaaGreatDoor
open Go.RowKit
set_option linter.unusedVariables false
set_option maxHeartbeats 2000000 in
set_option maxRecDepth 100000 in
/-- jread.end: the node is taken off the stack and put. -/
theorem rend_any {w : World} {g go n co : Nat} {free : Bool} {nx : Nat} {nodes : Int} {r x : Nb} {ended : Bool} {Q : World → World → Prop} (h : RBox w g free nx (some ⟨go, 0, none⟩) (n + 1) co nodes r ended) (hn : n ≤ 100000) (hco : n + 1 ≤ co) (hcm : co ≤ 9223372036854775807)
    (hsp : ∀ j, j < 9 → w.cell? ⟨go, n * 9 + j, none⟩ = x.cells[j]?) (hgo : go < w.heap.size)
    (kP : ∀ w', RBox w' g free nx (some ⟨go, 0, none⟩) n co nodes r ended → (∀ k, k < w.heap.size → k ≠ g → w'.heap[k]? = w.heap[k]?) → w'.os = w.os → w'.tape = w.tape → w'.output = w.output → w.heap.size ≤ w'.heap.size → Calls Tryz.prog 43 #[.pointer (some ⟨g, 0, none⟩), .agg x.arr] w' fun e w'' => e = .returned (.tuple #[]) ∧ Q w' w'') :
    Calls Tryz.prog 65 #[.pointer (some ⟨g, 0, none⟩)] w fun e w' => e = .returned (.int .i64 0) ∧ ∃ w1, Q w1 w' := by
  have kI := inn_any h hn
  have hR : Hid (RBox w g free nx (some ⟨go, 0, none⟩) (n + 1) co nodes r ended) := h
  have W1 : IntKind.i64.wrap (((n + 1 : Nat) : Int) - 1) = (n : Int) := by rw [IntKind.wrap_i64]; omega
  have z0 : (0 : Int) ≤ (n : Int) := by omega
  have z1 : (n : Int) ≤ (co : Int) := by omega
  have hsp' : Hid (∀ j, j < 9 → w.cell? ⟨go, n * 9 + j, none⟩ = x.cells[j]?) := hsp
  have hgo' : Hid (go < w.heap.size) := hgo
  have kP' : Hid (∀ w', _) := kP
  clear h hsp hgo kP
  go_enter Tryz.func65, Tryz.ntmps65
  go_wp2_with (go_at_call 68; refine kI.mono ?_; rintro e w1 ⟨rfl, hb1, hw1⟩; clear kI; have s0 : w1.cell? ⟨go, n * 9, none⟩ = some (.int .i64 x.kind) := (hb1.cell (p := ⟨go, n * 9, none⟩) hgo'.out).trans (hsp'.out 0 (by decide)); have s1 : w1.cell? ⟨go, n * 9 + 1, none⟩ = some (.int .u64 x.num) := (hb1.cell (p := ⟨go, n * 9 + 1, none⟩) hgo'.out).trans (hsp'.out 1 (by decide)); have s2 : w1.cell? ⟨go, n * 9 + 2, none⟩ = some (.bool x.neg) := (hb1.cell (p := ⟨go, n * 9 + 2, none⟩) hgo'.out).trans (hsp'.out 2 (by decide)); have s3 : w1.cell? ⟨go, n * 9 + 3, none⟩ = some (.string x.dig) := (hb1.cell (p := ⟨go, n * 9 + 3, none⟩) hgo'.out).trans (hsp'.out 3 (by decide)); have s4 : w1.cell? ⟨go, n * 9 + 4, none⟩ = some (.int .i64 x.exp) := (hb1.cell (p := ⟨go, n * 9 + 4, none⟩) hgo'.out).trans (hsp'.out 4 (by decide)); have s5 : w1.cell? ⟨go, n * 9 + 5, none⟩ = some (.string x.txt) := (hb1.cell (p := ⟨go, n * 9 + 5, none⟩) hgo'.out).trans (hsp'.out 5 (by decide)); have s6 : w1.cell? ⟨go, n * 9 + 6, none⟩ = some (.slice x.ab x.lb x.cb) := (hb1.cell (p := ⟨go, n * 9 + 6, none⟩) hgo'.out).trans (hsp'.out 6 (by decide)); have s7 : w1.cell? ⟨go, n * 9 + 7, none⟩ = some (.slice x.ak x.lk x.ck) := (hb1.cell (p := ⟨go, n * 9 + 7, none⟩) hgo'.out).trans (hsp'.out 7 (by decide)); have s8 : w1.cell? ⟨go, n * 9 + 8, none⟩ = some (.slice x.ai x.li x.ci) := (hb1.cell (p := ⟨go, n * 9 + 8, none⟩) hgo'.out).trans (hsp'.out 8 (by decide)); have RA : Hid (RBox (w1.alloc (.cells #[.int .i64 x.kind, .int .u64 x.num, .bool x.neg, .string x.dig, .int .i64 x.exp, .string x.txt, .slice x.ab x.lb x.cb, .slice x.ak x.lk x.ck, .slice x.ai x.li x.ci] 26)) g free nx (some ⟨go, 0, none⟩) (n + 1) co nodes r ended) := (hR.out.same (hb1.block g hR.out.lt)).same ((alloc_below w1 _).block g (Nat.lt_of_lt_of_le hR.out.lt hb1.size)); have a2 := RA.out.fields.2.2.1; have z2 := RA.out.fz 2; have NA : Hid (NBox (w1.alloc (.cells #[.int .i64 x.kind, .int .u64 x.num, .bool x.neg, .string x.dig, .int .i64 x.exp, .string x.txt, .slice x.ab x.lb x.cb, .slice x.ak x.lk x.ck, .slice x.ai x.li x.ci] 26)) w1.heap.size x) := nbox_new w1 x; have BA : Hid (Below w.heap.size w (w1.alloc (.cells #[.int .i64 x.kind, .int .u64 x.num, .bool x.neg, .string x.dig, .int .i64 x.exp, .string x.txt, .slice x.ab x.lb x.cb, .slice x.ak x.lk x.ck, .slice x.ai x.li x.ci] 26))) := hb1.trans ((alloc_below w1 _).mono hb1.size); have gl1 : Hid (g < w1.heap.size) := Nat.lt_of_lt_of_le hR.out.lt hb1.size; clear hb1 hw1)
  go_region
  have R2 : RBox ((w1.alloc (.cells #[.int .i64 x.kind, .int .u64 x.num, .bool x.neg, .string x.dig, .int .i64 x.exp, .string x.txt, .slice x.ab x.lb x.cb, .slice x.ak x.lk x.ck, .slice x.ai x.li x.ci] 26)).setCell ⟨g, 2, none⟩ (.slice (some ⟨go, 0, none⟩) n co)).drew g free nx (some ⟨go, 0, none⟩) n co nodes r ended := RBox.set RA.out 2 _ rfl
  have N2 : NBox ((w1.alloc (.cells #[.int .i64 x.kind, .int .u64 x.num, .bool x.neg, .string x.dig, .int .i64 x.exp, .string x.txt, .slice x.ab x.lb x.cb, .slice x.ak x.lk x.ck, .slice x.ai x.li x.ci] 26)).setCell ⟨g, 2, none⟩ (.slice (some ⟨go, 0, none⟩) n co)).drew w1.heap.size x := NA.out.same (setk (fun e => by have := gl1.out; omega) _)
  have X2 : ∀ k, k < w.heap.size → k ≠ g → ((w1.alloc (.cells #[.int .i64 x.kind, .int .u64 x.num, .bool x.neg, .string x.dig, .int .i64 x.exp, .string x.txt, .slice x.ab x.lb x.cb, .slice x.ak x.lk x.ck, .slice x.ai x.li x.ci] 26)).setCell ⟨g, 2, none⟩ (.slice (some ⟨go, 0, none⟩) n co)).drew.heap[k]? = w.heap[k]? := fun k hk hne => (setk hne _).trans (BA.out.block k hk)
  have S2 : w.heap.size ≤ ((w1.alloc (.cells #[.int .i64 x.kind, .int .u64 x.num, .bool x.neg, .string x.dig, .int .i64 x.exp, .string x.txt, .slice x.ab x.lb x.cb, .slice x.ak x.lk x.ck, .slice x.ai x.li x.ci] 26)).setCell ⟨g, 2, none⟩ (.slice (some ⟨go, 0, none⟩) n co)).drew.heap.size := Nat.le_trans BA.out.size (Nat.le_of_eq (set_size _ _ _ _).symm)
  have k2 := kP'.out ((w1.alloc (.cells #[.int .i64 x.kind, .int .u64 x.num, .bool x.neg, .string x.dig, .int .i64 x.exp, .string x.txt, .slice x.ab x.lb x.cb, .slice x.ak x.lk x.ck, .slice x.ai x.li x.ci] 26)).setCell ⟨g, 2, none⟩ (.slice (some ⟨go, 0, none⟩) n co)).drew R2 X2 BA.out.os BA.out.tape BA.out.output S2
  have N2' : Hid (NBox ((w1.alloc (.cells #[.int .i64 x.kind, .int .u64 x.num, .bool x.neg, .string x.dig, .int .i64 x.exp, .string x.txt, .slice x.ab x.lb x.cb, .slice x.ak x.lk x.ck, .slice x.ai x.li x.ci] 26)).setCell ⟨g, 2, none⟩ (.slice (some ⟨go, 0, none⟩) n co)).drew w1.heap.size x) := N2
  generalize hw2 : ((w1.alloc (.cells #[.int .i64 x.kind, .int .u64 x.num, .bool x.neg, .string x.dig, .int .i64 x.exp, .string x.txt, .slice x.ab x.lb x.cb, .slice x.ak x.lk x.ck, .slice x.ai x.li x.ci] 26)).setCell ⟨g, 2, none⟩ (.slice (some ⟨go, 0, none⟩) n co)).drew = w2 at k2 N2' ⊢
  obtain ⟨x0, x1, x2, x3, x4, x5, x6, x7, x8⟩ := N2'.out.fields
  clear R2 N2 X2 S2 hw2 s0 s1 s2 s3 s4 s5 s6 s7 s8 a2 z2
  go_wp2_with (go_at_call 43; refine k2.mono ?_; rintro e w3 ⟨rfl, hq⟩; have hq' : Hid (Q w2 w3) := hq; clear hq)
  go_ret
  exact ⟨rfl, w2, hq'.out⟩
end Go.Proofs.YtmlacmoembjeoaaGreatDoor
