/-
  The probe: a load goes over.
-/
import Derived.Test.YtfipdldoklkciaaLkr
import Derived.Test.YtfipdldoklkciaaLko
import Derived.Test.YtfipdldoklkciaaLkl
import Derived.Test.YtfipdldoklkciaaLkn
import Derived.Lib.SlBytesConst
import Derived.Lib.SmallJoins
namespace Go.Proofs.Ytfipdldoklkciaa
open Go.RowKit
set_option linter.unusedVariables false
def aL1 : Lk := l0 7 4
def aL2 (en : Ent) : Lk := { aL1 with s := addA aL1.s en }
def aL3 (en : Ent) (g1 g2 : Gr) : Lk := { tk1 (aL2 en) with n0 := [g1], n1 := [g2] }
def aL4 (en : Ent) (g1 g2 : Gr) : Lk := { aL3 en g1 g2 with n0 := [], r := putA (r0 4) 1 [97] }
theorem a_due (en : Ent) (h1 : en.zs = [97]) (h2 : en.time = 0) (h3 : en.wait = 1) (h4 : en.there = false) : dueN (aL2 en) = [(1, [97])] := by
  have t1 : tellB 1 en = true := by simp [tellB, h2, h4]
  unfold dueN
  show dueL (addA (s0 4 4) en) (0 + 1) 1 = _
  simp [dueL, addA, s0, t1, h1]
theorem a_lok (en : Ent) (h1 : en.zs = [97]) : Lok (aL2 en) := by
  refine ⟨by show (0 : Int) ≤ 7; decide, by show (7 : Int) < _; decide, by show (0 : Int) ≤ 0; decide, by show (0 : Int) ≤ _; decide, by show (1 : Int) ≤ 1; decide, fun z e he => ?_⟩
  have he : (if z = 1 then some en else none) = some e := he
  split at he
  · obtain rfl := Option.some.inj he
    rw [h1]; decide
  · cases he
theorem a_del (en : Ent) (g1 g2 : Gr) (h1 : en.zs = [97]) (hg : g1.zs = pkB (tellM (aL2 en) (mdata 1 [97]))) : delR { aL3 en g1 g2 with n0 := (aL3 en g1 g2).n0.eraseIdx 0 } 0 g1.zs = (0, aL4 en g1 g2) := by
  obtain ⟨p1, p2⟩ := pk_data (a_lok en h1) (by show (1 : Int) ≤ _; decide) (show (0 : Int) ≤ 1 by decide) (show (1 : Int) ≤ 4611686018427387904 by decide) (show ([97] : List Int).length ≤ 1100 by decide) (by simp)
  obtain ⟨u1, u2, _⟩ := up_pk p1 p2
  unfold delR
  rw [hg, u1, u2, if_neg (by decide), if_neg (by rintro (k | k); exact k rfl; exact k rfl), if_neg (fun k => k rfl), if_pos rfl]
  rfl
theorem a_grs (en : Ent) (gs : List Gr) (h1 : en.zs = [97]) (h2 : en.time = 0) (h3 : en.wait = 1) (h4 : en.there = false) (h : grs (aL2 en) (dueN (aL2 en)) gs) : ∃ g, gs = [g] ∧ g.zs = pkB (tellM (aL2 en) (mdata 1 [97])) := by
  rw [a_due en h1 h2 h3 h4] at h
  unfold grs at h
  match gs with
  | [] => simp at h
  | [g] => simp at h; exact ⟨g, rfl, h.1⟩
  | a :: b :: l => simp at h
theorem a_tick {w' : World} {B : Nat} {q : Qb} (en : Ent) (h1 : en.zs = [97]) (h2 : en.time = 0) (h3 : en.wait = 1) (h4 : en.there = false) (h : TkR w' B q (aL2 en)) : ∃ g1 g2, g1.zs = pkB (tellM (aL2 en) (mdata 1 [97])) ∧ Lm w' B q (aL3 en g1 g2) := by
  obtain ⟨gs, g, k1, _, _, k4⟩ := h.2 (by show (0 : Int) < _; decide)
  obtain ⟨g1, rfl, e1⟩ := a_grs en gs h1 h2 h3 h4 k1
  exact ⟨g1, g, e1, k4⟩
theorem a_send : sendE aL1 1 = 0 := by kernel_rfl
set_option maxHeartbeats 2000000 in
set_option maxRecDepth 100000 in
theorem alive_any (w : World) : Calls Try.prog 17 #[] w fun e w' => e = .returned (.bool true) ∧ Hid (Below w.heap.size w w') := by
  have kc := fun (w : World) (C : Array Value) (n c : Nat) => Lib.run_convert_bytes_const (P := Try.prog) w 23 5 C n c Try.underlying23 Try.underlying5
  generalize hB : w.heap.size = B at *
  have hN : Hid (w.heap.size = B) := hB
  clear hB
  go_enter Try.func17, Try.ntmps17
  go_wp2_with fail
  refine (knew_yes 4 7 w (by decide) (by decide) (by decide) (by decide)).mono ?_
  rintro e w1 ⟨q, rfl, hL1, hB1⟩
  rw [hN.out] at hL1 hB1
  have hL1' : Hid (Lm w1 B q aL1) := hL1
  have hz1 : Hid (B ≤ w1.heap.size) := hL1'.out.B_le
  clear hL1
  go_wp2_with fail
  refine (send_any (some ⟨w1.heap.size, 0, none⟩) 1 1 [97] (hL1'.out.kept (Below.al (Below.refl _ _) (.cells #[.int .u8 97] 5 (1, 2)))) (by have := hz1.out; simp; omega) rfl (by simp) (one_mark _ _ (by decide) (by decide))).mono ?_
  rintro e w2 ⟨rfl, hS2, hK2⟩
  obtain ⟨en, e1, e2, e3, e4, hL2⟩ := hS2.out.2 a_send
  have hL2' : Hid (Lm w2 B q (aL2 en)) := hL2
  have hz2 : Hid (B ≤ w2.heap.size) := hL2.B_le
  have hB2 : Hid (Below B w w2) := hK2.out.below (hB1.out.alloc hz1.out _) (by have := hz1.out; simp; omega) (hL1'.out.kept (Below.al (Below.refl _ _) _))
  have he : Hid (en.zs = [97] ∧ en.time = 0 ∧ en.wait = 1 ∧ en.there = false) := ⟨e1, e2, e3, e4⟩
  have es := a_send
  rw [es]
  clear es hS2 hK2 hL2 hB1 hL1' hz1 e1 e2 e3 e4
  go_wp2_with fail
  refine (tick_any hL2'.out (by show (1 : Int) ≤ _; decide) (by show (0 : Int) ≤ _; decide)).mono ?_
  rintro e w3 ⟨rfl, hT3, hK3⟩
  obtain ⟨g1, g2, hg, hL3⟩ := a_tick en he.out.1 he.out.2.1 he.out.2.2.1 he.out.2.2.2 hT3.out
  have hL3' : Hid (Lm w3 B q (aL3 en g1 g2)) := hL3
  have hB3 : Hid (Below B w w3) := hK3.out.below hB2.out hz2.out hL2'.out
  have hz3 : Hid (B ≤ w3.heap.size) := hL3.B_le
  have hd : Hid (delR { aL3 en g1 g2 with n0 := (aL3 en g1 g2).n0.eraseIdx 0 } 0 g1.zs = (0, aL4 en g1 g2)) := a_del en g1 g2 he.out.1 hg
  have hx0 : Hid (canE (aL3 en g1 g2) 0 (0 : Nat) = 0) := rfl
  have hx1 : Hid ((aL3 en g1 g2).n0[0]? = some g1) := rfl
  have hw0 : Hid ((aL3 en g1 g2).n0.length = 1) := rfl
  have hw1 : Hid ((aL3 en g1 g2).n1.length = 1) := rfl
  clear hg hT3 hK3 hL3 hB2 hL2' hz2
  have k0 := way0 hL3'.out
  rw [hw0.out] at k0
  go_wp2_with fail
  refine k0.mono ?_
  rintro e w4 ⟨rfl, hb4⟩
  have k1 := way1 (hL3'.out.kept hb4.out)
  rw [hw1.out] at k1
  clear k0
  go_wp2_with fail
  refine k1.mono ?_
  rintro e w5 ⟨rfl, hb5⟩
  have hL5 : Hid (Lm w5 B q (aL3 en g1 g2)) := (hL3'.out.kept hb4.out).kept hb5.out
  have hB5 : Hid (Below B w w5) := (hB3.out.trans (hb4.out.mono hz3.out)).trans (hb5.out.mono (Nat.le_trans hz3.out hb4.out.size))
  have hz5 : Hid (B ≤ w5.heap.size) := hL5.out.B_le
  clear k1 hb4 hb5 hL3' hB3 hz3
  have k6 := del0 0 g1 hL5.out hx0.out hx1.out
  rw [hd.out] at k6
  go_wp2_with fail
  refine k6.mono ?_
  rintro e w6 ⟨rfl, hL6, hK6⟩
  have hL6' : Hid (Lm w6 B q (aL4 en g1 g2)) := hL6
  have hB6 : Hid (Below B w w6) := hK6.out.below hB5.out hz5.out hL5.out
  have hz6 : Hid (B ≤ w6.heap.size) := hL6.out.B_le
  clear k6 hL6 hK6 hL5 hB5 hz5
  go_wp2_with fail
  refine (poll_any hL6'.out (by show (0 : Int) < _; decide)).mono ?_
  rintro e w7 ⟨hP7, hL7, hK7⟩
  obtain ⟨a, n, c, rfl, hS7⟩ := hP7.out
  have hL7' : Hid (Lm w7 B q { aL4 en g1 g2 with r := takeA (putA (r0 4) 1 [97]) }) := hL7
  have hB7 : Hid (Below B w w7) := hK7.out.below hB6.out hz6.out hL6'.out
  have hz7 : Hid (B ≤ w7.heap.size) := hL7.out.B_le
  have hS7' : Hid (Sl w7 w6.heap.size a n c [97]) := hS7
  have hi : ((aL4 en g1 g2).r.L ((aL4 en g1 g2).r.tk + 1)).isSome = true := rfl
  rw [hi]
  have hcs := conv_str hS7'.out.by_ n c hS7'.out.len
  have hstr : ((strOfNums [97]).toList == [97]) = true := by rw [ByteArray.toList_eq, strOfNums_data]; decide
  clear hi hP7 hL7 hK7 hB6 hz6 hL6' hS7
  have k8 := sent_any hL7'.out
  have k9 := got_any hL7'.out
  have s1 : Hid ((aL4 en g1 g2).s.nxt - 1 = 1) := rfl
  have s2 : Hid ((takeA (putA (r0 4) 1 [97])).tk = 1) := rfl
  rw [show ({ aL4 en g1 g2 with r := takeA (putA (r0 4) 1 [97]) } : Lk).s.nxt - 1 = 1 from s1.out] at k8
  rw [show ({ aL4 en g1 g2 with r := takeA (putA (r0 4) 1 [97]) } : Lk).r.tk = 1 from s2.out] at k9
  go_wp2_with (first | (go_at_call 20; refine k8.mono ?_; rintro e w8 ⟨rfl, hw8⟩; obtain rfl := hw8.symm; clear k8) | (go_at_call 21; refine k9.mono ?_; rintro e w9 ⟨rfl, hw9⟩; obtain rfl := hw9.symm; clear k9))
  go_ret
  all_goals trace_state
  all_goals exact ⟨rfl, hB7⟩
end Go.Proofs.Ytfipdldoklkciaa
