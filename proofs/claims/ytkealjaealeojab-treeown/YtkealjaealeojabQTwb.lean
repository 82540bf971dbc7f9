/-
  A tree of its own: the statement's 'own'.
-/
import Derived.Test.YtkealjaealeojabQTow
namespace Go.Proofs.Ytkealjaealeojab
open Go.RowKit
set_option linter.unusedVariables false
theorem frz {w w' : World} {g o : Nat} (h : ∃ cur, w.heap[g]? = some (.cells cur 26 (0, 0)) ∧ o + 9 ≤ cur.size) (hb : Below w.heap.size w w') (q : Nat) : w'.frozen? ⟨g, o + q, none⟩ = false := by
  obtain ⟨cur, hg, _⟩ := h
  have hlt := (Array.getElem?_eq_some_iff.1 hg).1
  have : w'.heap[g]? = some (.cells cur 26 (0, 0)) := by rw [hb.block g hlt]; exact hg
  simp [World.frozen?, this]
theorem ows_put1 {w wr w2 : World} {m0 m1 M D g o i i2 : Nat} {b : Nb} {t u : Tr} {p4 p6 : Option Addr} {q4 q5 q6 : Nat} {x : Nb} (h : Ows w m0 m1 M D b t wr p4 (some ⟨g, o, none⟩) p6 q4 q5 q6 i i2) (hg : m0 ≤ g ∧ g < m1) (hu : ∃ h : i < t.keys.length, u = t.keys[i]) (hF : NdS (fun k => wr.heap.size ≤ k ∧ k < w2.heap.size) D w2 x u) (hb : Below wr.heap.size wr w2) (hc : ∃ cur, wr.heap[g]? = some (.cells cur 26 (0, 0)) ∧ o + i * 9 + 9 ≤ cur.size) (ho : o = 0) :
    Ows w m0 m1 M D b t (((((((((w2.setCell ⟨g, o + i * 9, none⟩ (.int .i64 x.kind)).setCell ⟨g, o + i * 9 + 1, none⟩ (.int .u64 x.num)).setCell ⟨g, o + i * 9 + 2, none⟩ (.bool x.neg)).setCell ⟨g, o + i * 9 + 3, none⟩ (.string x.dig)).setCell ⟨g, o + i * 9 + 4, none⟩ (.int .i64 x.exp)).setCell ⟨g, o + i * 9 + 5, none⟩ (.string x.txt)).setCell ⟨g, o + i * 9 + 6, none⟩ (.slice x.ab x.lb x.cb)).setCell ⟨g, o + i * 9 + 7, none⟩ (.slice x.ak x.lk x.ck)).setCell ⟨g, o + i * 9 + 8, none⟩ (.slice x.ai x.li x.ci)) p4 (some ⟨g, o, none⟩) p6 q4 q5 q6 (i + 1) i2 := by
  obtain ⟨cur, hr, hz⟩ := hc
  have hlt := (Array.getElem?_eq_some_iff.1 hr).1
  have hW := wrt9 (w := w2) (g := g) (o := o + i * 9) (cur := cur) x (by rw [hb.block g hlt]; exact hr) hz
  have hK := sets_kp w2 g (o + i * 9) x
  subst ho
  obtain ⟨hl, rfl⟩ := hu
  have hM := h.o3
  refine Ows.put1 (h.call hb) hg hl (x := x) (by rw [Nat.zero_add] at hW ⊢; exact hW) hK (by simp [World.setCell]) (hF.mono fun k hk => ⟨Nat.le_trans hM hk.1, hk.2⟩)
theorem ows_put2 {w wr w2 : World} {m0 m1 M D g o i i1 : Nat} {b : Nb} {t u : Tr} {p4 p5 : Option Addr} {q4 q5 q6 : Nat} {x : Nb} (h : Ows w m0 m1 M D b t wr p4 p5 (some ⟨g, o, none⟩) q4 q5 q6 i1 i) (hg : m1 ≤ g ∧ g < M) (hu : ∃ h : i < t.kids.length, u = t.kids[i]) (hF : NdS (fun k => wr.heap.size ≤ k ∧ k < w2.heap.size) D w2 x u) (hb : Below wr.heap.size wr w2) (hc : ∃ cur, wr.heap[g]? = some (.cells cur 26 (0, 0)) ∧ o + i * 9 + 9 ≤ cur.size) (ho : o = 0) :
    Ows w m0 m1 M D b t (((((((((w2.setCell ⟨g, o + i * 9, none⟩ (.int .i64 x.kind)).setCell ⟨g, o + i * 9 + 1, none⟩ (.int .u64 x.num)).setCell ⟨g, o + i * 9 + 2, none⟩ (.bool x.neg)).setCell ⟨g, o + i * 9 + 3, none⟩ (.string x.dig)).setCell ⟨g, o + i * 9 + 4, none⟩ (.int .i64 x.exp)).setCell ⟨g, o + i * 9 + 5, none⟩ (.string x.txt)).setCell ⟨g, o + i * 9 + 6, none⟩ (.slice x.ab x.lb x.cb)).setCell ⟨g, o + i * 9 + 7, none⟩ (.slice x.ak x.lk x.ck)).setCell ⟨g, o + i * 9 + 8, none⟩ (.slice x.ai x.li x.ci)) p4 p5 (some ⟨g, o, none⟩) q4 q5 q6 i1 (i + 1) := by
  obtain ⟨cur, hr, hz⟩ := hc
  have hlt := (Array.getElem?_eq_some_iff.1 hr).1
  have hW := wrt9 (w := w2) (g := g) (o := o + i * 9) (cur := cur) x (by rw [hb.block g hlt]; exact hr) hz
  have hK := sets_kp w2 g (o + i * 9) x
  subst ho
  obtain ⟨hl, rfl⟩ := hu
  have hM := h.o3
  refine Ows.put2 (h.call hb) hg hl (x := x) (by rw [Nat.zero_add] at hW ⊢; exact hW) hK (by simp [World.setCell]) (hF.mono fun k hk => ⟨Nat.le_trans hM hk.1, hk.2⟩)

def OwnAt (D : Nat) : Prop := ∀ (t : Tr) (b : Nb) (w : World), Nd D w b t → t.size ≤ 1024 → Calls Try.prog 12 #[.agg b.arr] w fun e w' => (∃ b' : Nb, e = .returned (.agg b'.arr) ∧ NdS (fun k => w.heap.size ≤ k ∧ k < w'.heap.size) D w' b' t) ∧ Below w.heap.size w w'
theorem own_end {w wr w' : World} {D : Nat} {b : Nb} {t : Tr} (hk : Kp (fun k => k = w.heap.size ∨ k = w.heap.size + 1) wr w') (h : NdS (fun k => w.heap.size + 2 ≤ k ∧ k < wr.heap.size) D wr b t) : NdS (fun k => w.heap.size ≤ k ∧ k < w'.heap.size) D w' b t :=
  (h.stays fun k hk' => hk.block k hk'.2 (by omega)).mono fun k hk' => ⟨by omega, Nat.lt_of_lt_of_le hk'.2 hk.size⟩
set_option maxHeartbeats 8000000 in
set_option maxRecDepth 100000 in
theorem own_step {D : Nat} (ih : OwnAt D) : OwnAt (D + 1) := by
  intro t b w hN hsz
  have hal := alloc_below w (.cells b.arr 26)
  have hal2 := alloc_below (w.alloc (.cells b.arr 26)) (.cells #[.int .i64 0, .int .u64 0, .bool false, .string ⟨#[]⟩, .int .i64 0, .string ⟨#[]⟩, .slice none 0 0, .slice none 0 0, .slice none 0 0] 26)
  have s1 : (w.alloc (.cells b.arr 26)).heap.size = w.heap.size + 1 := by simp
  have s2 : ((w.alloc (.cells b.arr 26)).alloc (.cells #[.int .i64 0, .int .u64 0, .bool false, .string ⟨#[]⟩, .int .i64 0, .string ⟨#[]⟩, .slice none 0 0, .slice none 0 0, .slice none 0 0] 26)).heap.size = w.heap.size + 1 + 1 := by simp
  have x0 : Bx ((w.alloc (.cells b.arr 26)).alloc (.cells #[.int .i64 0, .int .u64 0, .bool false, .string ⟨#[]⟩, .int .i64 0, .string ⟨#[]⟩, .slice none 0 0, .slice none 0 0, .slice none 0 0] 26)) ((w.alloc (.cells b.arr 26)).alloc (.cells #[.int .i64 0, .int .u64 0, .bool false, .string ⟨#[]⟩, .int .i64 0, .string ⟨#[]⟩, .slice none 0 0, .slice none 0 0, .slice none 0 0] 26)) w.heap.size (w.heap.size + 1) b zN :=
    ⟨(nbox_new w b).kept hal2 (by omega), by have := nbox_new (w.alloc (.cells b.arr 26)) zN; rwa [s1] at this, Kp.refl _ _⟩
  have hne : Hid (w.heap.size ≠ w.heap.size + 1) := by show _ ≠ _; omega
  have hB2 : Hid (Below w.heap.size w ((w.alloc (.cells b.arr 26)).alloc (.cells #[.int .i64 0, .int .u64 0, .bool false, .string ⟨#[]⟩, .int .i64 0, .string ⟨#[]⟩, .slice none 0 0, .slice none 0 0, .slice none 0 0] 26))) := hal.trans (hal2.mono (by omega))
  have hS2 : Hid (((w.alloc (.cells b.arr 26)).alloc (.cells #[.int .i64 0, .int .u64 0, .bool false, .string ⟨#[]⟩, .int .i64 0, .string ⟨#[]⟩, .slice none 0 0, .slice none 0 0, .slice none 0 0] 26)).heap.size = w.heap.size + 1 + 1) := s2
  have hNn : Hid (Nd (D + 1) w b t) := hN
  have hW : Hid (∀ w', Kp (fun k => k = w.heap.size ∨ k = w.heap.size + 1) ((w.alloc (.cells b.arr 26)).alloc (.cells #[.int .i64 0, .int .u64 0, .bool false, .string ⟨#[]⟩, .int .i64 0, .string ⟨#[]⟩, .slice none 0 0, .slice none 0 0, .slice none 0 0] 26)) w' → Below w.heap.size w w') := fun w' h => hB2.out.trans (h.below (by omega) fun k hk => by omega)
  have szk : Tr.sizes t.keys ≤ 1024 ∧ Tr.sizes t.kids ≤ 1024 := by have := Tr.size_eq t; exact ⟨by omega, by omega⟩
  have sK : Hid (Tr.sizes t.keys ≤ 1024) := szk.1
  have sI : Hid (Tr.sizes t.kids ≤ 1024) := szk.2
  have hkl : Hid (t.keys.length = b.lk) := hN.2.2.2.1.1
  have hil : Hid (t.kids.length = b.li) := hN.2.2.2.2.1
  have hkn : Hid (b.lk ≤ 1024) := by show _ ≤ _; rw [← hkl.out]; exact Nat.le_trans (Tr.length_le _) szk.1
  have hin : Hid (b.li ≤ 1024) := by show _ ≤ _; rw [← hil.out]; exact Nat.le_trans (Tr.length_le _) szk.2
  obtain ⟨bk, hbk, hNk0, hQk0⟩ := hN.2.2.2.1.nodes
  obtain ⟨bi, hbi, hNi0, hQi0⟩ := hN.2.2.2.2.nodes
  have ebk : Hid (bk.length = b.lk) := hbk.trans hkl.out
  have ebi : Hid (bi.length = b.li) := hbi.trans hil.out
  have hNk : Hid (∀ w', Below w.heap.size w w' → Nine w' b.ak bk) := fun w' h => hNk0.kept h
  have hNi : Hid (∀ w', Below w.heap.size w w' → Nine w' b.ai bi) := fun w' h => hNi0.kept h
  have hQk : Hid (∀ w', Below w.heap.size w w' → ∀ j (h : j < bk.length) (h2 : j < t.keys.length), NdS (fun k => k < w.heap.size) D w' bk[j] t.keys[j]) := fun w' hb j h h2 => (hQk0 j h h2).all.stays fun k hk => hb.block k hk
  have hQi : Hid (∀ w', Below w.heap.size w w' → ∀ j (h : j < bi.length) (h2 : j < t.kids.length), NdS (fun k => k < w.heap.size) D w' bi[j] t.kids[j]) := fun w' hb j h h2 => (hQi0 j h h2).all.stays fun k hk => hb.block k hk
  have nk0 : Hid (b.ak = none → b.ck = 0) := hN.2.2.2.1.2.1.2.2.1
  have ni0 : Hid (b.ai = none → b.ci = 0) := hN.2.2.2.2.2.1.2.2.1
  have hBy : Hid (t.bytes.length = b.lb ∧ b.lb ≤ b.cb ∧ (b.ab = none → b.cb = 0) ∧ b.lb ≤ 140737488351232 ∧ Bytes w b.ab t.bytes) := ⟨hN.2.2.1.1, hN.2.2.1.2.1.1, hN.2.2.1.2.1.2.2.1, by have := hN.2.2.1.2.1.2.2.2; omega, hN.2.2.1.2.2⟩
  have k1 := efew_any (hN.kept hB2.out)
  rw [decide_eq_true hsz] at k1
  clear hal hal2 s1 s2 hN hsz szk hbk hbi hNk0 hNi0 hQk0 hQi0
  obtain ⟨a0, a1, a2, a3, a4, a5, a6, a7, a8⟩ := x0.one.fields
  go_enter Try.func12, Try.ntmps12
  go_wp2_with (first
    | (go_at_call 10; refine k1.mono ?_; rintro e w3 ⟨rfl, hb3⟩; clear a0 a1 a2 a3 a4 a5 a6 a7 a8; have y1 := x0.call hb3; clear k1; have z1 := y1.one.fz 6; obtain ⟨a0, a1, a2, a3, a4, a5, a6, a7, a8⟩ := y1.one.fields)
    | (at_builtin; refine wpList_append_bytes rfl _ (.tmp 10) rfl w3.heap.size (.slice none 0 0) [] t.bytes rfl (ownsB_nil _ _) b.ab b.lb b.cb rfl hBy.out.1 hBy.out.2.2.1 (hBy.out.2.2.2.2.kept (hW.out _ y1.kp)) (by have := hBy.out.2.2.2.1; have := hBy.out.1; simp; omega) (Nat.le_refl _) ?_; intro v4 w4 ho4 hg4; rw [List.nil_append] at ho4; obtain ⟨p4, q4, rfl, hn4, hc4, hB4, _⟩ := ho4.shape; rw [hBy.out.1] at ho4 hc4 ⊢; have y2 := y1.grown hg4; have z2 := y2.one.fz 6; have g34 : Hid (w3.heap.size ≤ w4.heap.size) := hg4.size; have x3 := y2.set hne.out { b with ab := p4, cb := q4 } 6 (.slice p4 b.lb q4) rfl; obtain ⟨f0, hfr, hfi, hfn, hfs⟩ := ho4.fr; have J4 : Hid (Bytes w4 p4 t.bytes ∧ In (fun k => w3.heap.size ≤ k ∧ k < w4.heap.size) p4 t.bytes.length ∧ Room 1 p4 b.lb q4) := ⟨hB4, by rw [hBy.out.1]; exact hfi.mono hfs, ⟨hc4.1, hc4.2, hn4, by have := hBy.out.2.2.2.1; omega⟩⟩; clear hg4 ho4 hfr hfi hfn hfs hB4 hc4 hn4; clear a0 a1 a2 a3 a4 a5 a6 a7 a8; obtain ⟨c0, c1, c2, c3, c4, c5, c6, c7, c8⟩ := y2.one.fields; clear c0 c1 c2 c3 c4 c5 c7 c8; obtain ⟨a0, a1, a2, a3, a4, a5, a6, a7, a8⟩ := x3.one.fields)
    | (at_builtin; refine wpList_append_nodes Try.underlying24 infoN rfl _ (.tmp 14) rfl (w4.setCell ⟨w.heap.size, 6, none⟩ (.slice p4 b.lb q4)).heap.size (.slice none 0 0) [] bk rfl (ownsN_nil _ _) b.ak b.lk b.ck rfl ebk.out nk0.out (hNk.out _ (hW.out _ x3.kp)) (by have := ebk.out; have := hkn.out; simp; omega) (Nat.le_refl _) ?_; intro v5 w5 ho5 hg5; rw [List.nil_append] at ho5; have y4 := x3.grown hg5; have g45 : Hid ((w4.setCell ⟨w.heap.size, 6, none⟩ (.slice p4 b.lb q4)).grownBy w5 none) := hg5; obtain ⟨p5, q5, rfl, O5⟩ := orw_new (B := w.heap.size) (D := D) ho5 ebk.out hkl.out hkn.out (hQk.out _ (hW.out _ y4.kp)); have O5' : Hid (∀ M, Orw w.heap.size M D (w4.setCell ⟨w.heap.size, 6, none⟩ (.slice p4 b.lb q4)).heap.size w5.heap.size w5 p5 b.lk q5 t.keys 0) := O5; have z4 := y4.one.fz 7; have x5 := y4.set hne.out { b with ab := p4, cb := q4, ak := p5, ck := q5 } 7 (.slice p5 b.lk q5) rfl; clear hg5 ho5 O5; clear a0 a1 a2 a3 a4 a5 a6 a7 a8; obtain ⟨c0, c1, c2, c3, c4, c5, c6', c7', c8⟩ := y4.one.fields; clear c0 c1 c2 c3 c4 c5 c6' c8; obtain ⟨a0, a1, a2, a3, a4, a5, a6, a7, a8⟩ := x5.one.fields)
    | (at_builtin; refine wpList_append_nodes Try.underlying24 infoN rfl _ (.tmp 18) rfl (w5.setCell ⟨w.heap.size, 7, none⟩ (.slice p5 b.lk q5)).heap.size (.slice none 0 0) [] bi rfl (ownsN_nil _ _) b.ai b.li b.ci rfl ebi.out ni0.out (hNi.out _ (hW.out _ x5.kp)) (by have := ebi.out; have := hin.out; simp; omega) (Nat.le_refl _) ?_; intro v6 w6 ho6 hg6; rw [List.nil_append] at ho6; have y6 := x5.grown hg6; have g56 : Hid ((w5.setCell ⟨w.heap.size, 7, none⟩ (.slice p5 b.lk q5)).grownBy w6 none) := hg6; obtain ⟨p6, q6, rfl, O6⟩ := orw_new (B := w.heap.size) (D := D) ho6 ebi.out hil.out hin.out (hQi.out _ (hW.out _ y6.kp)); have O6' : Hid (∀ M, Orw w.heap.size M D (w5.setCell ⟨w.heap.size, 7, none⟩ (.slice p5 b.lk q5)).heap.size w6.heap.size w6 p6 b.li q6 t.kids 0) := O6; have z6 := y6.one.fz 8; have x7 := y6.set hne.out { b with ab := p4, cb := q4, ak := p5, ck := q5, ai := p6, ci := q6 } 8 (.slice p6 b.li q6) rfl; clear hg6 ho6 O6; clear a0 a1 a2 a3 a4 a5 a6 a7 a8; obtain ⟨c0, c1, c2, c3, c4, c5, c6', c7'', c8'⟩ := y6.one.fields; clear c0 c1 c2 c3 c4 c5 c6' c7''; obtain ⟨a0, a1, a2, a3, a4, a5, a6, a7, a8⟩ := x7.one.fields))
  have K6 := kset w6 w.heap.size (w.heap.size + 1) 8 (.slice p6 b.li q6)
  have K5 := ((kset w5 w.heap.size (w.heap.size + 1) 7 (.slice p5 b.lk q5)).trans (kp_gr g56.out)).trans K6
  have K4 := ((kset w4 w.heap.size (w.heap.size + 1) 6 (.slice p4 b.lb q4)).trans (kp_gr g45.out)).trans K5
  have e4 := set_size w4 w.heap.size 6 (.slice p4 b.lb q4)
  have e5 := set_size w5 w.heap.size 7 (.slice p5 b.lk q5)
  have e6 := set_size w6 w.heap.size 8 (.slice p6 b.li q6)
  have O7 : Hid (Ows w w4.heap.size w5.heap.size w6.heap.size D b t (w6.setCell ⟨w.heap.size, 8, none⟩ (.slice p6 b.li q6)) p4 p5 p6 q4 q5 q6 0 0) :=
    ows_new x7.one x7.two (hW.out _ x7.kp) J4.out.1 J4.out.2.1 O5'.out O6'.out K4 K5 K6 (by have := y1.kp.size; have := hS2.out; omega) g34.out e4 e5 (by have := g56.out.size; omega) e6 (by have := g45.out.size; omega)
  have J9 : Hid (Room 1 p4 b.lb q4) := J4.out.2.2
  clear K4 K5 K6 e4 e5 e6 x0 y1 y2 x3 y4 x5 y6 x7 J4 O5' O6' g34 g45 g56 z1 z2 z4 z6 c6 c7' c8'
  generalize w4.heap.size = m0 at *
  generalize w5.heap.size = m1 at *
  generalize w6.heap.size = M at *
  generalize w6.setCell ⟨w.heap.size, 8, none⟩ (.slice p6 b.li q6) = w7 at *
  go_loopw [3, 24] (fun _ s24 wr => ∃ i : Nat, i ≤ b.lk ∧ s24 = .int .i64 i ∧ Hid (Ows w m0 m1 M D b t wr p4 p5 p6 q4 q5 q6 i 0)) (fun _ i _ => b.lk - (intOf i).toNat)
  case atStart => exact ⟨0, Nat.zero_le _, rfl, O7⟩
  case round =>
    clear O7
    obtain ⟨i, hi, rfl, hO⟩ := hrel
    by_cases hlt : i < b.lk
    · have hz : (i : Int) < (b.lk : Int) := by omega
      have hz0 : (0 : Int) ≤ (i : Int) := by omega
      have hix : i < t.keys.length := by rw [hkl.out]; exact hlt
      obtain ⟨g, cur, nk, hp, g1, g2, hg, hcs, hsp, hfz, hNk⟩ := hO.out.ks.el hlt hix
      obtain ⟨o, ho⟩ : ∃ o : Nat, o = 0 := ⟨0, rfl⟩
      have ho' : Hid (o = 0) := ho
      rw [← ho] at hp
      subst hp
      have hsp' : Spot wr g (o + i * 9) nk := by rw [ho, Nat.zero_add]; exact hsp
      have hgg : Hid (m0 ≤ g ∧ g < m1) := ⟨g1, g2⟩
      have kk := ih t.keys[i] nk wr.drew (by exact hNk.nd.kept (Below.refl _ _).drew) (Nat.le_trans (Tr.size_le (List.getElem_mem hix)) sK.out)
      have hO' : Hid (Ows w m0 m1 M D b t wr p4 (some ⟨g, o, none⟩) p6 q4 q5 q6 i 0) := hO.out
      have S9 : Hid (∀ wx, Below wr.heap.size wr wx → (wx.cell? ⟨w.heap.size, 7, none⟩ = some (.slice (some ⟨g, o, none⟩) b.lk q5) ∧ wx.cell? ⟨g, o + i * 9, none⟩ = some (.int .i64 nk.kind) ∧ wx.cell? ⟨g, o + i * 9 + 1, none⟩ = some (.int .u64 nk.num) ∧ wx.cell? ⟨g, o + i * 9 + 2, none⟩ = some (.bool nk.neg) ∧ wx.cell? ⟨g, o + i * 9 + 3, none⟩ = some (.string nk.dig) ∧ wx.cell? ⟨g, o + i * 9 + 4, none⟩ = some (.int .i64 nk.exp) ∧ wx.cell? ⟨g, o + i * 9 + 5, none⟩ = some (.string nk.txt) ∧ wx.cell? ⟨g, o + i * 9 + 6, none⟩ = some (.slice nk.ab nk.lb nk.cb) ∧ wx.cell? ⟨g, o + i * 9 + 7, none⟩ = some (.slice nk.ak nk.lk nk.ck) ∧ wx.cell? ⟨g, o + i * 9 + 8, none⟩ = some (.slice nk.ai nk.li nk.ci))) := fun wx h => ⟨(hO'.out.call h).box.fields.2.2.2.2.2.2.2.1, (hsp'.kept h).fields⟩
      have bel0 : Hid (Below wr.heap.size wr wr.drew) := (Below.refl _ _).drew
      have wi : IntKind.i64.wrap ((i : Int) + 1) = (i : Int) + 1 := by have := hkn.out; rw [IntKind.wrap_i64]; omega
      have hix' : Hid (i < t.keys.length) := hix
      generalize hu : t.keys[i] = u at kk
      have hu' : Hid (∃ h : i < t.keys.length, u = t.keys[i]) := ⟨hix, hu.symm⟩
      obtain ⟨a0, a1, a2, a3, a4, a5, a6, a7, a8⟩ := hO'.out.box.fields
      have hcz : Hid (∃ cur, wr.heap[g]? = some (.cells cur 26 (0, 0)) ∧ o + i * 9 + 9 ≤ cur.size) := ⟨cur, hg, by omega⟩
      have hfz' : Hid (∀ q, wr.frozen? ⟨g, q, none⟩ = false) := hfz
      obtain ⟨f0, f1, f2, f3, f4, f5, f6, f7, f8⟩ := hsp'.fields
      clear hsp hfz hNk hg hcs hO hsp' hix g1 g2 hu ho
      go_wp2
      go_region_with (first
        | (go_at_call 12; refine kk.mono ?_; rintro e w2 ⟨⟨b', he, hF⟩, hb2⟩; rw [Nb.arr] at he; subst he; have X5 : Hid (Below wr.heap.size wr w2) := bel0.out.trans hb2; have hF' : Hid (NdS (fun k => wr.heap.size ≤ k ∧ k < w2.heap.size) D w2 b' u) := hF; clear hF; have y0 := frz hcz.out X5.out 0; have y1 := frz hcz.out X5.out 1; have y2 := frz hcz.out X5.out 2; have y3 := frz hcz.out X5.out 3; have y4 := frz hcz.out X5.out 4; have y5 := frz hcz.out X5.out 5; have y6 := frz hcz.out X5.out 6; have y7 := frz hcz.out X5.out 7; have y8 := frz hcz.out X5.out 8; rw [Nat.add_zero] at y0; obtain ⟨v0, v1, v2, v3, v4, v5, v6, v7, v8⟩ := (S9.out _ X5.out).2; have B7 := (S9.out _ X5.out).1))
      all_goals
        have R9 := ows_put1 (x := b') hO'.out hgg.out hu'.out hF'.out X5.out hcz.out ho'.out
        generalize hw3 : (((((((((w2.setCell ⟨g, o + i * 9, none⟩ (.int .i64 b'.kind)).setCell ⟨g, o + i * 9 + 1, none⟩ (.int .u64 b'.num)).setCell ⟨g, o + i * 9 + 2, none⟩ (.bool b'.neg)).setCell ⟨g, o + i * 9 + 3, none⟩ (.string b'.dig)).setCell ⟨g, o + i * 9 + 4, none⟩ (.int .i64 b'.exp)).setCell ⟨g, o + i * 9 + 5, none⟩ (.string b'.txt)).setCell ⟨g, o + i * 9 + 6, none⟩ (.slice b'.ab b'.lb b'.cb)).setCell ⟨g, o + i * 9 + 7, none⟩ (.slice b'.ak b'.lk b'.ck)).setCell ⟨g, o + i * 9 + 8, none⟩ (.slice b'.ai b'.li b'.ci)) = w3 at R9 ⊢
        clear hw3
        have R9' : Hid (Ows w m0 m1 M D b t w3 p4 (some ⟨g, o, none⟩) p6 q4 q5 q6 (i + 1) 0) := R9
        clear B7 R9 f0 f1 f2 f3 f4 f5 f6 f7 f8 a0 a1 a2 a3 a4 a5 a6 a7 a8 v0 v1 v2 v3 v4 v5 v6 v7 v8 y0 y1 y2 y3 y4 y5 y6 y7 y8
        go_wp2
        go_roundw
        case rel => exact ⟨i + 1, by omega, by go_num, R9'⟩
        case measure => simp [intOf]; omega
    · have hz : ¬ (i : Int) < (b.lk : Int) := by omega
      obtain rfl : i = b.lk := by omega
      have O8 : Hid (Ows w m0 m1 M D b t wr p4 p5 p6 q4 q5 q6 b.lk 0) := hO
      obtain ⟨a0, a1, a2, a3, a4, a5, a6, a7, a8⟩ := hO.out.box.fields
      clear hO
      go_wp2
      go_loopw [4, 41] (fun _ s41 wr => ∃ i : Nat, i ≤ b.li ∧ s41 = .int .i64 i ∧ Hid (Ows w m0 m1 M D b t wr p4 p5 p6 q4 q5 q6 b.lk i)) (fun _ i _ => b.li - (intOf i).toNat)
      case atStart => exact ⟨0, Nat.zero_le _, rfl, O8⟩
      case round =>
        clear O8
        obtain ⟨i, hi, rfl, hO⟩ := hrel
        by_cases hlt : i < b.li
        · have hz : (i : Int) < (b.li : Int) := by omega
          have hz0 : (0 : Int) ≤ (i : Int) := by omega
          have hix : i < t.kids.length := by rw [hil.out]; exact hlt
          obtain ⟨g, cur, nk, hp, g1, g2, hg, hcs, hsp, hfz, hNk⟩ := hO.out.is.el hlt hix
          obtain ⟨o, ho⟩ : ∃ o : Nat, o = 0 := ⟨0, rfl⟩
          have ho' : Hid (o = 0) := ho
          rw [← ho] at hp
          subst hp
          have hsp' : Spot wr g (o + i * 9) nk := by rw [ho, Nat.zero_add]; exact hsp
          have hgg : Hid (m1 ≤ g ∧ g < M) := ⟨g1, g2⟩
          have kk := ih t.kids[i] nk wr.drew (by exact hNk.nd.kept (Below.refl _ _).drew) (Nat.le_trans (Tr.size_le (List.getElem_mem hix)) sI.out)
          have hO' : Hid (Ows w m0 m1 M D b t wr p4 p5 (some ⟨g, o, none⟩) q4 q5 q6 b.lk i) := hO.out
          have S9 : Hid (∀ wx, Below wr.heap.size wr wx → (wx.cell? ⟨w.heap.size, 8, none⟩ = some (.slice (some ⟨g, o, none⟩) b.li q6) ∧ wx.cell? ⟨g, o + i * 9, none⟩ = some (.int .i64 nk.kind) ∧ wx.cell? ⟨g, o + i * 9 + 1, none⟩ = some (.int .u64 nk.num) ∧ wx.cell? ⟨g, o + i * 9 + 2, none⟩ = some (.bool nk.neg) ∧ wx.cell? ⟨g, o + i * 9 + 3, none⟩ = some (.string nk.dig) ∧ wx.cell? ⟨g, o + i * 9 + 4, none⟩ = some (.int .i64 nk.exp) ∧ wx.cell? ⟨g, o + i * 9 + 5, none⟩ = some (.string nk.txt) ∧ wx.cell? ⟨g, o + i * 9 + 6, none⟩ = some (.slice nk.ab nk.lb nk.cb) ∧ wx.cell? ⟨g, o + i * 9 + 7, none⟩ = some (.slice nk.ak nk.lk nk.ck) ∧ wx.cell? ⟨g, o + i * 9 + 8, none⟩ = some (.slice nk.ai nk.li nk.ci))) := fun wx h => ⟨(hO'.out.call h).box.fields.2.2.2.2.2.2.2.2, (hsp'.kept h).fields⟩
          have bel0 : Hid (Below wr.heap.size wr wr.drew) := (Below.refl _ _).drew
          have wi : IntKind.i64.wrap ((i : Int) + 1) = (i : Int) + 1 := by have := hin.out; rw [IntKind.wrap_i64]; omega
          have hix' : Hid (i < t.kids.length) := hix
          generalize hu : t.kids[i] = u at kk
          have hu' : Hid (∃ h : i < t.kids.length, u = t.kids[i]) := ⟨hix, hu.symm⟩
          obtain ⟨a0, a1, a2, a3, a4, a5, a6, a7, a8⟩ := hO'.out.box.fields
          have hcz : Hid (∃ cur, wr.heap[g]? = some (.cells cur 26 (0, 0)) ∧ o + i * 9 + 9 ≤ cur.size) := ⟨cur, hg, by omega⟩
          have hfz' : Hid (∀ q, wr.frozen? ⟨g, q, none⟩ = false) := hfz
          obtain ⟨f0, f1, f2, f3, f4, f5, f6, f7, f8⟩ := hsp'.fields
          clear hsp hfz hNk hg hcs hO hsp' hix g1 g2 hu ho
          go_wp2
          go_region_with (first
            | (go_at_call 12; refine kk.mono ?_; rintro e w2 ⟨⟨b', he, hF⟩, hb2⟩; rw [Nb.arr] at he; subst he; have X5 : Hid (Below wr.heap.size wr w2) := bel0.out.trans hb2; have hF' : Hid (NdS (fun k => wr.heap.size ≤ k ∧ k < w2.heap.size) D w2 b' u) := hF; clear hF; have y0 := frz hcz.out X5.out 0; have y1 := frz hcz.out X5.out 1; have y2 := frz hcz.out X5.out 2; have y3 := frz hcz.out X5.out 3; have y4 := frz hcz.out X5.out 4; have y5 := frz hcz.out X5.out 5; have y6 := frz hcz.out X5.out 6; have y7 := frz hcz.out X5.out 7; have y8 := frz hcz.out X5.out 8; rw [Nat.add_zero] at y0; obtain ⟨v0, v1, v2, v3, v4, v5, v6, v7, v8⟩ := (S9.out _ X5.out).2; have B7 := (S9.out _ X5.out).1))
          all_goals
            have R9 := ows_put2 (x := b') hO'.out hgg.out hu'.out hF'.out X5.out hcz.out ho'.out
            generalize hw3 : (((((((((w2.setCell ⟨g, o + i * 9, none⟩ (.int .i64 b'.kind)).setCell ⟨g, o + i * 9 + 1, none⟩ (.int .u64 b'.num)).setCell ⟨g, o + i * 9 + 2, none⟩ (.bool b'.neg)).setCell ⟨g, o + i * 9 + 3, none⟩ (.string b'.dig)).setCell ⟨g, o + i * 9 + 4, none⟩ (.int .i64 b'.exp)).setCell ⟨g, o + i * 9 + 5, none⟩ (.string b'.txt)).setCell ⟨g, o + i * 9 + 6, none⟩ (.slice b'.ab b'.lb b'.cb)).setCell ⟨g, o + i * 9 + 7, none⟩ (.slice b'.ak b'.lk b'.ck)).setCell ⟨g, o + i * 9 + 8, none⟩ (.slice b'.ai b'.li b'.ci)) = w3 at R9 ⊢
            clear hw3
            have R9' : Hid (Ows w m0 m1 M D b t w3 p4 p5 (some ⟨g, o, none⟩) q4 q5 q6 b.lk (i + 1)) := R9
            clear B7 R9 f0 f1 f2 f3 f4 f5 f6 f7 f8 a0 a1 a2 a3 a4 a5 a6 a7 a8 v0 v1 v2 v3 v4 v5 v6 v7 v8 y0 y1 y2 y3 y4 y5 y6 y7 y8
            go_wp2
            go_roundw
            case rel => exact ⟨i + 1, by omega, by go_num, R9'⟩
            case measure => simp [intOf]; omega
        · have hz : ¬ (i : Int) < (b.li : Int) := by omega
          obtain rfl : i = b.li := by omega
          have O9 : Hid (Ows w m0 m1 M D b t wr p4 p5 p6 q4 q5 q6 b.lk b.li) := hO
          obtain ⟨a0, a1, a2, a3, a4, a5, a6, a7, a8⟩ := hO.out.box.fields
          clear hO
          have z0 := O9.out.res.fz 0; have z1 := O9.out.res.fz 1; have z2 := O9.out.res.fz 2; have z3 := O9.out.res.fz 3; have z4 := O9.out.res.fz 4; have z5 := O9.out.res.fz 5; have z6 := O9.out.res.fz 6; have z7 := O9.out.res.fz 7; have z8 := O9.out.res.fz 8
          obtain ⟨r0, r1, r2, r3, r4, r5, r6, r7, r8⟩ := O9.out.res.fields
          go_wp2
          have hX := O9.out.fin hNn.out J9.out
          have hB9 : Bx wr wr w.heap.size (w.heap.size + 1) { b with ab := p4, cb := q4, ak := p5, ck := q5, ai := p6, ci := q6 } zN := ⟨O9.out.box, O9.out.res, Kp.refl _ _⟩
          have x9 := hB9.put hne.out { b with ab := p4, cb := q4, ak := p5, ck := q5, ai := p6, ci := q6 }
          obtain ⟨u0, u1, u2, u3, u4, u5, u6, u7, u8⟩ := x9.two.fields
          refine bodyPost_ret (v := .agg #[.int .i64 b.kind, .int .u64 b.num, .bool b.neg, .string b.dig, .int .i64 b.exp, .string b.txt, .slice p4 b.lb q4, .slice p5 b.lk q5, .slice p6 b.li q6]) (by simp [results, Try.results12, go_sem, u0, u1, u2, u3, u4, u5, u6, u7, u8]) rfl ⟨⟨_, rfl, own_end x9.kp hX⟩, O9.out.bel.trans (x9.kp.below O9.out.bel.size fun k hk => by omega)⟩
end Go.Proofs.Ytkealjaealeojab
