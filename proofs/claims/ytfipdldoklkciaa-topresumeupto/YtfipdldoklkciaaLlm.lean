/-
  A load goes over; links in which nothing came.
-/
import Derived.Test.YtfipdldoklkciaaLlh
import Derived.Test.YtfipdldoklkciaaLll
import Derived.Lib.SlBytesConst
import Derived.Lib.SmallJoins
namespace Go.Proofs.Ytfipdldoklkciaa
open Go.RowKit
set_option linter.unusedVariables false
set_option maxHeartbeats 2000000 in
set_option maxRecDepth 100000 in
theorem goes_any (w : World) : Calls Try.prog 30 #[] w fun e w' => e = .returned (.bool true) ∧ Hid (Below w.heap.size w w') := by
  have kc := fun (w : World) (C : Array Value) (n c : Nat) => Lib.run_convert_bytes_const (P := Try.prog) w 23 5 C n c Try.underlying23 Try.underlying5
  generalize hB : w.heap.size = B at *
  have hN : Hid (w.heap.size = B) := hB
  clear hB
  go_enter Try.func30, Try.ntmps30
  go_wp2_with fail
  refine (knew_yes 4 7 w (by decide) (by decide) (by decide) (by decide)).mono ?_
  rintro e w1 ⟨q, rfl, hL1, hB1⟩
  rw [hN.out] at hL1 hB1
  have hL1' : Hid (Lm w1 B q aL1) := hL1
  have hz1 : Hid (B ≤ w1.heap.size) := hL1'.out.B_le
  clear hL1
  go_wp2_with fail
  refine (send_any (some ⟨w1.heap.size, 0, none⟩) 1 1 [97] (hL1'.out.kept (Below.al (Below.refl _ _) (.cells #[.int .u8 97] 5 (1, 2)))) (by have := hz1.out; simp; omega) rfl (by simp) (one_mark _ _ (by decide) (by decide))).mono ?_
  rintro e w2 ⟨rfl, hS2, hK2⟩
  obtain ⟨en, e1, e2, e3, e4, hL2⟩ := hS2.out.2 a_send
  have hL2' : Hid (Lm w2 B q (aL2 en)) := hL2
  have hz2 : Hid (B ≤ w2.heap.size) := hL2.B_le
  have hB2 : Hid (Below B w w2) := hK2.out.below (hB1.out.alloc hz1.out _) (by have := hz1.out; simp; omega) (hL1'.out.kept (Below.al (Below.refl _ _) _))
  have he : Hid (en.zs = [97] ∧ en.time = 0 ∧ en.wait = 1 ∧ en.there = false) := ⟨e1, e2, e3, e4⟩
  have es := a_send
  rw [es]
  clear es hS2 hK2 hL2 hB1 hL1' hz1 e1 e2 e3 e4
  go_wp2_with fail
  refine (tick_any hL2'.out (by show (1 : Int) ≤ _; decide) (by show (0 : Int) ≤ _; decide)).mono ?_
  rintro e w3 ⟨rfl, hT3, hK3⟩
  obtain ⟨g1, g2, hg, hL3⟩ := a_tick en he.out.1 he.out.2.1 he.out.2.2.1 he.out.2.2.2 hT3.out
  have hL3' : Hid (Lm w3 B q (aL3 en g1 g2)) := hL3
  have hB3 : Hid (Below B w w3) := hK3.out.below hB2.out hz2.out hL2'.out
  have hz3 : Hid (B ≤ w3.heap.size) := hL3.B_le
  have hd : Hid (delR { aL3 en g1 g2 with n0 := (aL3 en g1 g2).n0.eraseIdx 0 } 0 g1.zs = (0, aL4 en g1 g2)) := a_del en g1 g2 he.out.1 hg
  have hx0 : Hid (canE (aL3 en g1 g2) 0 (0 : Nat) = 0) := rfl
  have hx1 : Hid ((aL3 en g1 g2).n0[0]? = some g1) := rfl
  have hw0 : Hid ((aL3 en g1 g2).n0.length = 1) := rfl
  have hw1 : Hid ((aL3 en g1 g2).n1.length = 1) := rfl
  clear hg hT3 hK3 hL3 hB2 hL2' hz2
  have k6 := del0 0 g1 hL3'.out hx0.out hx1.out
  rw [hd.out] at k6
  go_wp2_with fail
  refine k6.mono ?_
  rintro e w6 ⟨rfl, hL6, hK6⟩
  have hL6' : Hid (Lm w6 B q (aL4 en g1 g2)) := hL6
  have hB6 : Hid (Below B w w6) := hK6.out.below hB3.out hz3.out hL3'.out
  have hz6 : Hid (B ≤ w6.heap.size) := hL6.out.B_le
  clear k6 hL6 hK6 hL3' hB3 hz3
  go_wp2_with fail
  refine (poll_any hL6'.out (by show (0 : Int) < _; decide)).mono ?_
  rintro e w7 ⟨hP7, hL7, hK7⟩
  obtain ⟨a, n, c, rfl, hS7⟩ := hP7.out
  have hL7' : Hid (Lm w7 B q { aL4 en g1 g2 with r := takeA (putA (r0 4) 1 [97]) }) := hL7
  have hB7 : Hid (Below B w w7) := hK7.out.below hB6.out hz6.out hL6'.out
  have hz7 : Hid (B ≤ w7.heap.size) := hL7.out.B_le
  have hS7' : Hid (Sl w7 w6.heap.size a n c [97]) := hS7
  have hi : ((aL4 en g1 g2).r.L ((aL4 en g1 g2).r.tk + 1)).isSome = true := rfl
  rw [hi]
  have hcs := conv_str hS7'.out.by_ n c hS7'.out.len
  have hstr : ((strOfNums [97]).toList == [97]) = true := by rw [ByteArray.toList_eq, strOfNums_data]; decide
  clear hi hP7 hL7 hK7 hB6 hz6 hL6' hS7
  go_wp2_with fail
  go_ret
  all_goals exact ⟨rfl, hB7⟩
/-- A LINK TO WHICH NOTHING CAME, ITS SPOILT DATAGRAMS BAD. -/
structure Fg (L : Lk) (tok win : Int) : Prop where
  tk : L.tok = tok
  ep : L.ep = 1
  rr : L.r = r0 win
  n0 : ∀ g, g ∈ L.n0 → wfG g ∧ (g.sp = true → upE g.zs = 0 → (upG g.zs).tok ≠ tok)
  n1 : ∀ g, g ∈ L.n1 → wfG g
theorem Fg.k {L : Lk} {tok win : Int} (h : Fg L tok win) {w : World} {B : Nat} {q : Qb} (hL : Lm w B q L) : ∀ g, g ∈ L.n0 ∨ g ∈ L.n1 → g.sp = false → 4 ≤ g.n ∧ g.n ≤ 100000 := fun g hg hs => by
  have hw : wfB g.zs = true := by
    rcases hg with hg | hg
    · exact (h.n0 g hg).1 hs
    · exact h.n1 g hg hs
  have := wf_low (hL.p.gb g hg) hw
  have := (hL.gr g hg).len
  omega
theorem Fg.nets {L L' : Lk} {tok win : Int} (h : Fg L tok win) (n : Int) (G : List Gr) (e : L' = netS L n G) (hG : ∀ g, g ∈ G → (n = 0 → wfG g ∧ (g.sp = true → upE g.zs = 0 → (upG g.zs).tok ≠ tok)) ∧ (n ≠ 0 → wfG g)) : Fg L' tok win := by
  subst e
  by_cases hn : n = 0
  · have e : netS L n G = { L with n0 := G } := by unfold netS; rw [if_pos hn]
    rw [e]
    exact ⟨h.tk, h.ep, h.rr, fun g hg => (hG g hg).1 hn, h.n1⟩
  · have e : netS L n G = { L with n1 := G } := by unfold netS; rw [if_neg hn]
    rw [e]
    exact ⟨h.tk, h.ep, h.rr, h.n0, fun g hg => (hG g hg).2 hn⟩
theorem Fg.old {L : Lk} {tok win : Int} (h : Fg L tok win) {n : Int} {g : Gr} (hg : g ∈ netL L n) : (n = 0 → wfG g ∧ (g.sp = true → upE g.zs = 0 → (upG g.zs).tok ≠ tok)) ∧ (n ≠ 0 → wfG g) := by
  refine ⟨fun hn => ?_, fun hn => ?_⟩
  · unfold netL at hg; rw [if_pos hn] at hg; exact h.n0 g hg
  · unfold netL at hg; rw [if_neg hn] at hg; exact h.n1 g hg
theorem fg_start (tok win : Int) : Fg (l0 tok win) tok win := ⟨rfl, rfl, rfl, fun g h => (by cases h), fun g h => (by cases h)⟩
theorem fg_send {L L' : Lk} {tok win : Int} {zs : List Int} (h : Fg L tok win) (hs : SendS L L' zs) : Fg L' tok win := by
  by_cases hE : sendE L zs.length = 0
  · obtain ⟨en, _, _, _, _, rfl⟩ := hs.2 hE
    exact ⟨h.tk, h.ep, h.rr, h.n0, h.n1⟩
  · rw [hs.1 hE]
    exact h
theorem fg_tick {L L' : Lk} {tok win : Int} (p : Lp L) (h : Fg L tok win) (ht : TickS L L') : Fg L' tok win := by
  by_cases hn : 1099511627776 ≤ L.now
  · rw [ht.1 hn]; exact h
  · obtain ⟨gs, g, hgs, hg1, hg2, e⟩ := ht.2 (by omega)
    subst e
    have he := h.ep
    have t1 := p.ro.t1
    have w1 := p.ro.w1
    have w2 := p.ro.w2
    refine ⟨h.tk, h.ep, h.rr, fun x hx => ?_, fun x hx => ?_⟩
    · rcases fold_mem gs L.n0 hx with hx | hx
      · exact h.n0 x hx
      · obtain ⟨d, hd, e1, e2⟩ := grs_mem hgs hx
        obtain ⟨e, he', hez, hb1, hb2⟩ := dueL_in _ _ _ d hd
        have o1 := p.so.b1
        have o2 := p.so.l1
        have o3 := p.so.l2
        have o4 := p.so.b2
        obtain ⟨q1, q2⟩ := pk_data (zs := d.2) (seq := d.1) p.ok (by omega) (by omega) (by omega) (by rw [← hez]; exact p.ok.few _ _ he') (by rw [← hez]; exact p.eb _ _ he')
        exact ⟨fun _ => by rw [e1]; exact wf_pk q1, fun z => by rw [e2] at z; cases z⟩
    · have hx : x ∈ putG L.n1 g := hx
      rcases put_mem hx with hx | hx
      · exact h.n1 x hx
      · subst hx
        have hr := h.rr
        have k1 : L.r.tk = 0 := by rw [hr]; rfl
        have r1 := rdy_le p.ro
        have b1 := bF_bnd (ackF L.r) 64
        obtain ⟨q1, q2⟩ := pk_ack (ack := ackN L.r) (bits := ackB L.r) (cred := L.r.tk + L.r.win) p.ok (by omega) (by unfold ackN; omega) (by unfold ackN; omega) (by omega) (by omega) b1.1 b1.2
        exact fun _ => by rw [hg1]; exact wf_pk q1
theorem fg_turn {L L' : Lk} {tok win : Int} (p : Lp L) (h : Fg L tok win) {n i x : Int} {y : Nat} (hy : y < 4294967296) (ht : TurnS L L' n i x y) : Fg L' tok win := by
  by_cases hE : turnE L n i = 0
  · obtain ⟨g, g', hg, hs, _, e1, e2, e3⟩ := ht.2 hE
    have hgm := List.mem_of_getElem? hg
    have hb := p.gb g (net_in hgm)
    refine h.nets n _ e3 (fun z hz => ?_)
    rcases set_mem hz with hz | hz
    · exact h.old hz
    · subst hz
      have ho := h.old hgm
      have hw : wfB g.zs = true := by
        by_cases hn : n = 0
        · exact (ho.1 hn).1 hs
        · exact (ho.2 hn) hs
      by_cases hy0 : y = 0
      · subst hy0
        have ez : z.zs = g.zs := by rw [e1]; exact turn_none hb _
        have es : z.sp = false := by rw [e2]; rfl
        exact ⟨fun _ => ⟨fun _ => by rw [ez]; exact hw, fun q => by rw [es] at q; (cases q)⟩, fun _ _ => by rw [ez]; exact hw⟩
      · have h4 : upE z.zs = 4 := by rw [e1]; exact turn_bad hb hw x hy hy0
        have hsp : z.sp = true := by rw [e2]; simpa using hy0
        exact ⟨fun _ => ⟨fun q => by rw [hsp] at q; (cases q), fun _ q => by rw [h4] at q; (cases q)⟩, fun _ q => by rw [hsp] at q; (cases q)⟩
  · rw [ht.1 hE]; exact h
theorem fg_forge {L L' : Lk} {tok win : Int} (h : Fg L tok win) {n : Int} {zs : List Int} (ht : ForgeS L L' n zs) : Fg L' tok win := by
  by_cases hE : forgeE L n zs = 0
  · obtain ⟨g, e1, e2, e3⟩ := ht.2 hE
    have ho : ownB L zs = false := by
      unfold forgeE at hE
      split at hE
      · cases hE
      split at hE
      · cases hE
      split at hE
      · cases hE
      · rename_i q; simpa using q
    refine h.nets n _ e3 (fun z hz => ?_)
    rcases put_mem hz with hz | hz
    · exact h.old hz
    · subst hz
      refine ⟨fun _ => ⟨fun q => by rw [e2] at q; (cases q), fun _ q1 q2 => ?_⟩, fun _ q => by rw [e2] at q; (cases q)⟩
      rw [e1] at q1 q2
      have : ownB L zs = true := decide_eq_true ⟨q1, by rw [q2, h.tk]⟩
      rw [ho] at this
      cases this
  · rw [ht.1 hE]; exact h
theorem fg_drop {L : Lk} {tok win : Int} (h : Fg L tok win) (n i : Int) : Fg (dropS L n i) tok win := by
  unfold dropS
  split
  · exact h.nets n _ rfl (fun z hz => h.old (mem_erase hz))
  · exact h
/-- All from i on are spoilt. -/
def Spo (L : Lk) (i : Nat) : Prop := i ≤ L.n0.length ∧ ∀ j g, i ≤ j → L.n0[j]? = some g → g.sp = true
theorem can_00 {L : Lk} {i : Nat} (h : i < L.n0.length) : canE L 0 (i : Nat) = 0 := by
  unfold canE
  rw [if_neg (by decide), if_neg]
  show ¬ (((i : Nat) : Int) < 0 ∨ (L.n0.length : Int) ≤ (i : Int))
  omega
/-- Its place's datagram is turned by nothing, and lost: the others from there on are spoilt. -/
theorem spo_step {L L' : Lk} {tok win : Int} {i : Nat} (h : Fg L tok win) (hs : Spo L (i + 1)) (ht : TurnS L L' 0 (i : Nat) 0 0) : (turnE L 0 (i : Nat) = 0 → Spo (dropS L' 0 (i : Nat)) i) ∧ (turnE L 0 (i : Nat) ≠ 0 → Spo L' i) := by
  have hlt : i < L.n0.length := by have := hs.1; omega
  refine ⟨fun hE => ?_, fun hE => ?_⟩
  · obtain ⟨g, g', hg, hsp, _, e1, e2, e3⟩ := ht.2 hE
    have e3 : L' = { L with n0 := L.n0.set i g' } := by
      rw [e3]
      have : ((i : Nat) : Int).toNat = i := by omega
      rw [this]
      rfl
    have hlen : L'.n0.length = L.n0.length := by rw [e3]; exact List.length_set
    have hd : dropS L' 0 (i : Nat) = { L' with n0 := L'.n0.eraseIdx i } := by
      unfold dropS
      rw [if_pos (can_00 (by omega))]
      have : ((i : Nat) : Int).toNat = i := by omega
      rw [this]
      rfl
    rw [hd]
    refine ⟨?_, fun j x hj hx => ?_⟩
    · show i ≤ (L'.n0.eraseIdx i).length
      rw [List.length_eraseIdx_of_lt (by omega)]
      omega
    · have hx : (L'.n0.eraseIdx i)[j]? = some x := hx
      rw [List.getElem?_eraseIdx, if_neg (by omega)] at hx
      rw [e3] at hx
      have hx : (L.n0.set i g')[j + 1]? = some x := hx
      rw [List.getElem?_set_ne (by omega)] at hx
      exact hs.2 (j + 1) x (by omega) hx
  · have e : L' = L := ht.1 hE
    rw [e]
    refine ⟨by omega, fun j x hj hx => ?_⟩
    rcases Nat.lt_or_ge i j with hij | hij
    · exact hs.2 j x (by omega) hx
    · obtain rfl : i = j := by omega
      have hx' : (netL L 0)[((i : Nat) : Int).toNat]? = some x := by
        have : ((i : Nat) : Int).toNat = i := by omega
        rw [this]; exact hx
      unfold turnE at hE
      rw [if_neg (fun k => k (can_00 hlt)), hx'] at hE
      by_cases hsp : x.sp = true
      · exact hsp
      · exfalso
        apply hE
        show (if x.sp = true then (18 : Int) else 0) = 0
        rw [if_neg hsp]
/-- The first, which is spoilt, is refused. -/
theorem spo_del {L : Lk} {tok win : Int} (h : Fg L tok win) (hs : Spo L 0) (h0 : 0 < L.n0.length) : (delS L 0 0).1 ≠ 0 ∧ Fg (delS L 0 0).2 tok win ∧ Spo (delS L 0 0).2 0 ∧ (delS L 0 0).2.n0.length + 1 = L.n0.length := by
  obtain ⟨g, hg⟩ : ∃ g, L.n0[0]? = some g := ⟨_, List.getElem?_eq_getElem h0⟩
  have hsp := hs.2 0 g (Nat.le_refl _) hg
  have hbad := (h.n0 g (List.mem_of_getElem? hg)).2 hsp
  have hf : Fg { L with n0 := L.n0.eraseIdx 0 } tok win := ⟨h.tk, h.ep, h.rr, fun x hx => h.n0 x (mem_erase hx), h.n1⟩
  have hso : Spo { L with n0 := L.n0.eraseIdx 0 } 0 := ⟨Nat.zero_le _, fun j x hj hx => by
    have hx : (L.n0.eraseIdx 0)[j]? = some x := hx
    rw [List.getElem?_eraseIdx, if_neg (by omega)] at hx
    exact hs.2 (j + 1) x (by omega) hx⟩
  have hl : (L.n0.eraseIdx 0).length + 1 = L.n0.length := by rw [List.length_eraseIdx_of_lt h0]; omega
  have e : delS L 0 0 = delR { L with n0 := L.n0.eraseIdx 0 } 0 g.zs := by
    unfold delS
    rw [show (netL L 0)[(0 : Int).toNat]? = some g from hg]
    show (if canE L 0 ((0 : Nat) : Int) = 0 then _ else _) = _
    rw [if_pos (can_00 h0)]
    rfl
  rw [e]
  unfold delR
  by_cases h1 : upE g.zs = 0
  · rw [if_neg (fun k => k h1), if_pos (.inl (by show (upG g.zs).tok ≠ L.tok; rw [h.tk]; exact hbad h1))]
    exact ⟨by show (12 : Int) ≠ 0; decide, hf, hso, hl⟩
  · rw [if_pos h1]
    exact ⟨h1, hf, hso, hl⟩
end Go.Proofs.Ytfipdldoklkciaa
