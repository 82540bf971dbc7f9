/-
  Streams that nobody made find nothing; and two streams, one of which was fed bytes that were written over behind it, and whose loads were written over, find the same.
-/
import Derived.Test.YticlobjikpfcjabNNob
import Derived.Deep.RegionHeld3
namespace Go.Proofs.Yticlobjikpfcjab
open Go.RowKit
set_option linter.unusedVariables false

set_option maxHeartbeats 8000000 in
theorem nobody_walk (a0 : Option Addr) (len0 cap0 : Nat) (z0 : List Int) (w : World) (w0 : IsRow .u8 w a0 len0 cap0 z0) (r0 : cap0 ≤ 140737488351232) :
    Calls Try.prog 4 #[.slice a0 len0 cap0] w fun e w' => e = .returned (.bool true) ∧ Below w.heap.size w w' := by
  obtain ⟨hl, hb⟩ := bytes_of_row w0
  obtain ⟨hlc, hcm⟩ := row_le w0
  have hn := nil_cap w0
  have hsp : 0 < cap0 → ∃ b off, a0 = some ⟨b, off, none⟩ := by
    intro h0
    rcases w0 with ⟨rfl, _, h1, _⟩ | ⟨x, rfl, _, _, hz, hc, _⟩
    · omega
    · obtain ⟨b, off, sp⟩ := x
      have h1 := hc 0 (by omega)
      have h2 : sp = none := by simpa [Addr.add] using World.cell?_spot h1
      subst h2
      exact ⟨b, off, rfl⟩
  generalize z0.take len0 = zs at *
  have hB : Hid (Bytes w a0 zs) := hb
  have hL : Hid (zs.length = len0) := hl
  have hN : Hid (a0 = none → cap0 = 0) := hn
  clear hb hl hn w0
  go_enter Try.func4, Try.ntmps4
  go_wp2
  obtain ⟨x0, hx0, hb0, hR, q0, q1, q2⟩ : ∃ x0, ((w.alloc (.cells #[.bool false, .slice none 0 0, .int .i64 0] 31)).alloc (.cells #[.pointer none, .pointer (some ⟨w.heap.size, 0, none⟩)] 23)) = x0 ∧ Below w.heap.size w x0 ∧ w.heap.size ≤ x0.heap.size ∧ x0.cell? ⟨w.heap.size + 1, 0, none⟩ = some (.pointer none) ∧ x0.cell? ⟨w.heap.size + 1, 1, none⟩ = some (.pointer (some ⟨w.heap.size, 0, none⟩)) ∧ x0.cell? ⟨w.heap.size, 0, none⟩ = some (.bool false) := by
    have h1 := heap_alloc_new (w.alloc (.cells #[.bool false, .slice none 0 0, .int .i64 0] 31)) (.cells #[.pointer none, .pointer (some ⟨w.heap.size, 0, none⟩)] 23)
    have h2 : ((w.alloc (.cells #[.bool false, .slice none 0 0, .int .i64 0] 31)).alloc (.cells #[.pointer none, .pointer (some ⟨w.heap.size, 0, none⟩)] 23)).heap[w.heap.size]? = some (.cells #[.bool false, .slice none 0 0, .int .i64 0] 31 (0, 0)) := by
      rw [Below.heap_alloc _ _ _ (by simp)]
      exact heap_alloc_new w _
    have hs : (w.alloc (.cells #[.bool false, .slice none 0 0, .int .i64 0] 31)).heap.size = w.heap.size + 1 := by simp
    rw [hs] at h1
    exact ⟨_, rfl, ((Below.refl _ _).alloc (Nat.le_refl _) _).alloc (by simp) _, by simp; omega, by rw [cell_row h1]; rfl, by rw [cell_row h1]; rfl, by rw [cell_row h2]; rfl⟩
  rw [hx0]
  clear hx0
  have k0 := made_nil x0
  have k1 := made_zero w.heap.size x0 q2
  clear q2
  go_loop [19] (fun i => ∃ k : Nat, k ≤ 2 ∧ i = .int .i64 k) (fun i => 2 - (intOf i).toNat)
  case atStart => exact ⟨0, by omega, rfl⟩
  case round =>
    obtain ⟨k, hk, rfl⟩ := hrel
    rcases (show k = 0 ∨ k = 1 ∨ k = 2 by omega) with rfl | rfl | rfl
    · have kk := k0
      clear k0 k1
      go_wp2_with (first
        | (go_at_call 7; refine (feed_no none _ x0 kk).mono ?_; rintro e w' ⟨rfl, hw⟩; obtain rfl : x0 = w' := hw.symm)
        | (go_at_call 10; refine (flush_no none x0 kk).mono ?_; rintro e w' ⟨rfl, hw⟩; obtain rfl : x0 = w' := hw.symm)
        | (go_at_call 8; refine (waits_no none x0 kk).mono ?_; rintro e w' ⟨rfl, hw⟩; obtain rfl : x0 = w' := hw.symm)
        | (go_at_call 9; refine (lost_no none x0 kk).mono ?_; rintro e w' ⟨rfl, hw⟩; obtain rfl : x0 = w' := hw.symm))
      go_round
      case rel => exact ⟨1, by omega, by go_num⟩
      case measure => simp [intOf]
    · have kk := k1
      clear k0 k1
      go_wp2_with (first
        | (go_at_call 7; refine (feed_no (some ⟨w.heap.size, 0, none⟩) _ x0 kk).mono ?_; rintro e w' ⟨rfl, hw⟩; obtain rfl : x0 = w' := hw.symm)
        | (go_at_call 10; refine (flush_no (some ⟨w.heap.size, 0, none⟩) x0 kk).mono ?_; rintro e w' ⟨rfl, hw⟩; obtain rfl : x0 = w' := hw.symm)
        | (go_at_call 8; refine (waits_no (some ⟨w.heap.size, 0, none⟩) x0 kk).mono ?_; rintro e w' ⟨rfl, hw⟩; obtain rfl : x0 = w' := hw.symm)
        | (go_at_call 9; refine (lost_no (some ⟨w.heap.size, 0, none⟩) x0 kk).mono ?_; rintro e w' ⟨rfl, hw⟩; obtain rfl : x0 = w' := hw.symm))
      go_round
      case rel => exact ⟨2, by omega, by go_num⟩
      case measure => simp [intOf]
    · clear k0 k1 q0 q1
      go_wp2_with fail
      refine (new_any x0).mono ?_
      rintro e x1 ⟨gs, rfl, hs1, hgs, hb1⟩
      have hz1 := hb1.size
      go_wp2_with fail
      refine (new_any x1).mono ?_
      rintro e x2 ⟨gt, rfl, ht2, hgt, hb2⟩
      have hs2 : Hid (Stm x2 gs [] 0) := hs1.kept hb2
      have hlt := hs1.lt
      have ht2' : Hid (Stm x2 gt [] 0) := ht2
      have hne : Hid (gs ≠ gt) := by show _ ≠ _; omega
      have hbx : Below w.heap.size w x2 := (hb0.trans (hb1.mono hR)).trans (hb2.mono (by omega))
      have hzx := hbx.size
      have hgsl : gs < x2.heap.size := hs2.out.lt
      have hgtl : gt < x2.heap.size := ht2.lt
      have hgs' : w.heap.size ≤ gs := by omega
      have hgt' : w.heap.size ≤ gt := by omega
      clear hs1 ht2 hb0 hb1 hb2 hR hz1 hlt hgs hgt
      have hB2 : Hid (Bytes x2 a0 zs) := hB.out.kept hbx
      by_cases h0 : 0 < len0
      · obtain ⟨b, off, rfl⟩ := hsp (by omega)
        obtain ⟨K, hKd⟩ : ∃ K : Nat, K = len0 / 2 := ⟨_, rfl⟩
        have hK : (len0 : Int) / 2 = (K : Int) := by omega
        have hKl : K ≤ len0 := by omega
        have hKc : (cap0 = K) = False := by simp; omega
        have i1 : (K : Int) ≤ (cap0 : Int) := by omega
        have i2 : (K : Int) ≤ (len0 : Int) := by omega
        have i3 : (0 : Int) ≤ (K : Int) := by omega
        have hKb : K ≤ 70368744175616 := by omega
        have hKd2 : len0 - K ≤ 70368744175616 := by omega
        clear hKd
        have hBw : Hid (Bytes w (some ⟨b, off, none⟩) zs) := hB
        go_wp2_with (at_builtin; refine wpList_append_bytes rfl _ (.tmp 53) rfl x2.heap.size (.slice none 0 0) [] zs rfl (ownsB_nil _ _) (some ⟨b, off, none⟩) len0 cap0 rfl hL.out (by simp) hB2.out (by rw [hL.out]; simp; omega) (Nat.le_refl _) ?_; intro v3 x3 ho3 hg3; have hb3 := grown_below (Below.refl _ _) (ownsB_nil _ _) hg3 (Nat.le_refl _); simp only [List.nil_append] at ho3; clear hg3; obtain ⟨go, n3, c3, rfl, hR3, hl3, hc3, hm3⟩ := ho3.row (by rw [hL.out]; omega); obtain rfl : n3 = len0 := hl3.out.symm.trans hL.out)
        have i4 : (K : Int) ≤ (c3 : Int) := by omega
        have hbx3 : Below w.heap.size w x3 := hbx.trans (hb3.mono hzx)
        have hz3 := hbx3.size
        have hgo := hR3.out.lt
        have hs3 : Hid (Stm x3 gs [] 0) := hs2.out.kept hb3
        have ht3 : Hid (Stm x3 gt [] 0) := ht2'.out.kept hb3
        have hOb : Hid (Bytes x3 (some ⟨go, 0, none⟩) (zs.take K)) := hR3.out.bytes.take K
        have hB3 : Hid (Bytes x3 (some ⟨b, off, none⟩) (zs.take K)) := (hB2.out.kept hb3).take K
        have hlK : Hid ((zs.take K).length = K) := by show _ = _; rw [List.length_take, hL.out]; omega
        have kf1 : Hid (∀ W, Stm W gs [] 0 → Bytes W (some ⟨go, 0, none⟩) (zs.take K) → Calls Try.prog 7 #[.pointer (some ⟨gs, 0, none⟩), .slice (some ⟨go, 0, none⟩) K c3] W fun e w' => ∃ v, e = .returned v ∧ Mid W w' gs v (scanL (zs.take K)).1 ∧ Stm w' gs (waitS (zs.take K)) (lostS (zs.take K)) ∧ W.grownBy w' (some gs)) := fun W h1 h2 => feed_first gs _ K c3 (zs.take K) W h1 hlK.out h2 (by simp) (by omega)
        have kf2 : Hid (∀ W, Stm W gt [] 0 → Bytes W (some ⟨b, off, none⟩) (zs.take K) → Calls Try.prog 7 #[.pointer (some ⟨gt, 0, none⟩), .slice (some ⟨b, off, none⟩) K cap0] W fun e w' => ∃ v, e = .returned v ∧ Mid W w' gt v (scanL (zs.take K)).1 ∧ Stm w' gt (waitS (zs.take K)) (lostS (zs.take K)) ∧ W.grownBy w' (some gt)) := fun W h1 h2 => feed_first gt _ K cap0 (zs.take K) W h1 hlK.out h2 (by simp) (by omega)
        clear ho3 hl3 hs2 ht2' hB2
        go_region_held3 (fun _ => True) (trivial) (first
          | (go_at_call 7; refine (kf1.out _ (by exact hs3.out) (by exact hOb.out)).mono ?_; rintro e y1 ⟨v1, rfl, hmid1', hst1, hg1'⟩; have hg1 : x3.grownBy y1 (some gs) := ⟨hg1'.os, hg1'.tape, hg1'.output, hg1'.size, hg1'.block⟩; have hmid1 : Hid (Mid x3 y1 gs v1 (scanL (zs.take K)).1) := hmid1'; have hS1 : Hid (Stm y1 gs (waitS (zs.take K)) (lostS (zs.take K))) := hst1; have hT1 : Hid (Stm y1 gt [] 0) := ht3.out.stm hs3.out hne.out hg1; have hB1 : Hid (Bytes y1 (some ⟨b, off, none⟩) (zs.take K)) := hB3.out.stm hs3.out hg1; have hR1 : Hid (OwnR y1 x2.heap.size go n3 c3 zs) := hR3.out.but hg1 (by omega); have hby1 : Below w.heap.size w y1 := hbx3.grown hg1 hz3 (fun k hk => by cases hk; omega); clear kf1 hg1' hmid1' hst1 ht3 hs3 hOb hB3 hR3)
          | (go_at_call 7; refine (kf2.out _ (by exact hT1.out) (by exact hB1.out)).mono ?_; rintro e y2 ⟨v2, rfl, hmid2', hst2, hg2'⟩; have hg2 : y1.grownBy y2 (some gt) := ⟨hg2'.os, hg2'.tape, hg2'.output, hg2'.size, hg2'.block⟩; have hmid2 : Hid (Mid y1 y2 gt v2 (scanL (zs.take K)).1) := hmid2'; have hT2 : Hid (Stm y2 gt (waitS (zs.take K)) (lostS (zs.take K))) := hst2; have hS2 : Hid (Stm y2 gs (waitS (zs.take K)) (lostS (zs.take K))) := hS1.out.stm hT1.out (Ne.symm hne.out) hg2; have hR2 : Hid (OwnR y2 x2.heap.size go n3 c3 zs) := hR1.out.but hg2 (by omega); have hby2 : Below w.heap.size w y2 := hby1.grown hg2 hby1.size (fun k hk => by cases hk; omega); clear kf2 hg2' hmid2' hst2 hT1 hB1 hR1))
        obtain ⟨ax, nx, cx, rfl, hlx, hcx, hmx⟩ := hmid1.out.lists
        obtain ⟨ay, ny, cy, rfl, hly, -, -⟩ := hmid2.out.lists
        obtain rfl : ny = nx := hly.out.symm.trans hlx.out
        obtain ⟨wm, m1, m2, m3, m4⟩ := hmid1.out
        obtain ⟨wn, n1, n2, n3', n4⟩ := hmid2.out
        have hrow2 : Hid (Rows5 y2 x3.heap.size wm.heap.size ax ny) := ((rows5_of m2).keep (keep_low m3 (by omega))).keep (keep_low hg2 (by omega))
        have hfs2 : Far y2 gs wm.heap.size := m4.other hg2 (Ne.symm hne.out) hS1.out.lt
        have hft2 : Far y2 gt wm.heap.size := n4.mono (Nat.le_trans m3.size n1)
        clear m2 m4 n2 n4 hmid1 hmid2 n3'
        go_wp2
        go_loopw [70] (fun j wr => ∃ (i : Nat) (ys : List Int), i ≤ n3 ∧ j = .int .i64 i ∧ Hid (OwnR wr x2.heap.size go n3 c3 ys) ∧ Hid (y2.grownBy wr (some go))) (fun j _ => n3 - (intOf j).toNat)
        case atStart => exact ⟨0, zs, Nat.zero_le _, rfl, hR2, World.grownBy.refl _ _⟩
        case round =>
          obtain ⟨i, ys, hi, rfl, hRr, hgr⟩ := hrel
          by_cases hil : i < n3
          · have hcl := hRr.out.cell i hil
            have hfr := hRr.out.frozen i
            have hcb : 0 ≤ ys.getD i 0 ∧ ys.getD i 0 < 256 := hRr.out.2.2.1 _ (by rw [List.getD_eq_getElem?_getD, List.getElem?_eq_getElem (by rw [hRr.out.2.1]; exact hil)]; exact List.getElem_mem _)
            have hst := fun c hc => hRr.out.store i c hc
            have hfl := flip_byte hcb
            generalize hgd : ys.getD i 0 = c at *
            have j5 : (i : Int) < (n3 : Int) := by omega
            have hst' : Hid (OwnR (wr.setCell ⟨go, i, none⟩ (.int .u8 (bits .xor .u8 c 255))) x2.heap.size go n3 c3 (ys.set i (bits .xor .u8 c 255))) := hst _ hfl
            clear hst hfl hgd
            go_wp2
            go_roundw
            case rel => exact ⟨i + 1, _, by omega, by go_num, hst', but_setCell hgr.out i _⟩
            case measure => simp [intOf]; omega
          · have j5 : ¬ (i : Int) < (n3 : Int) := by omega
            have hgo3 : go < wm.heap.size := by omega
            have hS3 : Hid (Stm wr gs (waitS (zs.take K)) (lostS (zs.take K))) := hS2.out.low hfs2 hgr.out (by omega) hgo3
            have hT3 : Hid (Stm wr gt (waitS (zs.take K)) (lostS (zs.take K))) := hT2.out.low hft2 hgr.out (by omega) hgo3
            have hfs3 : Hid (Far wr gs wm.heap.size) := hfs2.other hgr.out (by omega) hS2.out.lt
            have hft3 : Hid (Far wr gt wm.heap.size) := hft2.other hgr.out (by omega) hT2.out.lt
            have hrow3 : Hid (Rows5 wr x3.heap.size wm.heap.size ax ny) := hrow2.out.keep (keep_low hgr.out (by omega))
            have hby3 : Below w.heap.size w wr := hby2.grown hgr.out hby2.size (fun k hk => by cases hk; omega)
            obtain ⟨y3, hy3⟩ : ∃ y3, y3 = wr := ⟨_, rfl⟩
            rw [← hy3] at hS3 hT3 hfs3 hft3 hrow3 hby3 ⊢
            clear hS2 hT2 hfs2 hft2 hrow2 hRr hgr hy3 hR2 hS1 hby1 hby2 hg1 hg2
            go_wp2
            go_loopw [82] (fun j wr => ∃ i : Nat, i ≤ ny ∧ j = .int .i64 i ∧ Hid (Dirty y3 wr x3.heap.size wm.heap.size)) (fun j _ => ny - (intOf j).toNat)
            case atStart => exact ⟨0, Nat.zero_le _, rfl, Dirty.refl _ _ _⟩
            case round =>
              obtain ⟨i, hi, rfl, hdr⟩ := hrel
              by_cases hil : i < ny
              · rcases hrow3.out with h0 | ⟨g, rfl, hgb, ⟨cur, hgc⟩, hall⟩
                · omega
                · obtain ⟨a', m, c', hc1, hmc, hcm', hel⟩ := hall i hil
                  have hcell : wr.cell? ⟨g, i, none⟩ = some (.slice a' m c') := by
                    rw [World.cell?_of_block (w := y3) (w' := wr) (a := ⟨g, i, none⟩) (hdr.out.same hgc (by decide))]
                    exact hc1
                  have hEl : Hid (m = 0 ∨ ∃ b off cur, a' = some ⟨b, off, none⟩ ∧ x3.heap.size ≤ b ∧ b < wm.heap.size ∧ y3.heap[b]? = some (.cells cur 5 (0, 0)) ∧ off + m ≤ cur.size) := hel
                  have j6 : (i : Int) < (ny : Int) := by omega
                  clear hall hc1 hgc hel
                  go_wp2
                  go_loopw [88] (fun j wi => ∃ t : Nat, t ≤ m ∧ j = .int .i64 t ∧ Hid (Dirty y3 wi x3.heap.size wm.heap.size)) (fun j _ => m - (intOf j).toNat)
                  case atStart => exact ⟨0, Nat.zero_le _, rfl, hdr⟩
                  case round =>
                    obtain ⟨t, ht, rfl, hdi⟩ := hrel
                    by_cases htl : t < m
                    · rcases hEl.out with h0 | ⟨b5, o5, cur5, rfl, hB5, hH5, hb5, hs5⟩
                      · omega
                      · obtain ⟨cur', hc', hsz'⟩ := hdi.out.bytes hb5
                        obtain ⟨cv, hcl⟩ : ∃ cv, wr.cell? ⟨b5, o5 + t, none⟩ = some cv := ⟨_, by rw [cell_row hc', Array.getElem?_eq_getElem (by omega)]⟩
                        have hfr : wr.frozen? ⟨b5, o5 + t, none⟩ = false := by simp [World.frozen?, hc']
                        have hd2 : Hid (Dirty y3 (wr.setCell ⟨b5, o5 + t, none⟩ (.int .u8 0)) x3.heap.size wm.heap.size) := hdi.out.store hb5 hB5 hH5 _
                        have j7 : (t : Int) < (m : Int) := by omega
                        clear hb5 hc' hsz'
                        go_wp2
                        go_roundw
                        case rel => exact ⟨t + 1, by omega, by go_num, hd2⟩
                        case measure => simp [intOf]; omega
                    · have j7 : ¬ (t : Int) < (m : Int) := by omega
                      go_wp2
                      go_roundw
                      case rel => exact ⟨i + 1, by omega, by go_num, hdi⟩
                      case measure => simp [intOf]; omega
              · have j6 : ¬ (i : Int) < (ny : Int) := by omega
                have hS5 : Hid (Stm wr gs (waitS (zs.take K)) (lostS (zs.take K))) := hS3.out.dirty hfs3.out hdr.out
                have hT5 : Hid (Stm wr gt (waitS (zs.take K)) (lostS (zs.take K))) := hT3.out.dirty hft3.out hdr.out
                have hby5 : Below w.heap.size w wr := hdr.out.below hby3 hz3 hby3.size
                have hB5 : Hid (Bytes wr (some ⟨b, off + K, none⟩) (zs.drop K)) := (hBw.out.kept hby5).drop K
                obtain ⟨y5, hy5⟩ : ∃ y5, y5 = wr := ⟨_, rfl⟩
                rw [← hy5] at hS5 hT5 hby5 hB5 ⊢
                clear hy5 hdr hS3 hT3 hfs3 hft3 hrow3 hby3
                obtain ⟨D, hD⟩ : ∃ D : Nat, n3 - K = D := ⟨_, rfl⟩
                have hDl : Hid ((zs.drop K).length = D) := by show _ = _; rw [List.length_drop, hL.out]; exact hD
                have hDb : D ≤ 70368744175616 := by omega
                have kfs : Hid (∀ W, Stm W gs (waitS (zs.take K)) (lostS (zs.take K)) → Bytes W (some ⟨b, off + K, none⟩) (zs.drop K) → Calls Try.prog 7 #[.pointer (some ⟨gs, 0, none⟩), .slice (some ⟨b, off + K, none⟩) D (cap0 - K)] W fun e w' => ∃ v M, e = .returned v ∧ OwnsL w' W.heap.size 0 v M ∧ Hid (M = (scanL (waitS (zs.take K) ++ zs.drop K)).1) ∧ Hid ((scanL (zs.take K ++ zs.drop K)).1 = (scanL (zs.take K)).1 ++ M) ∧ Stm w' gs (waitS (zs.take K ++ zs.drop K)) (lostS (zs.take K ++ zs.drop K)) ∧ W.grownBy w' (some gs)) := fun W h1 h2 => feed_next gs (zs.take K) (some ⟨b, off + K, none⟩) D (cap0 - K) (zs.drop K) W h1 hDl.out h2 (by simp) (by omega) (by rw [hlK.out]; omega)
                have kft : Hid (∀ W, Stm W gt (waitS (zs.take K)) (lostS (zs.take K)) → Bytes W (some ⟨b, off + K, none⟩) (zs.drop K) → Calls Try.prog 7 #[.pointer (some ⟨gt, 0, none⟩), .slice (some ⟨b, off + K, none⟩) D (cap0 - K)] W fun e w' => ∃ v M, e = .returned v ∧ OwnsL w' W.heap.size 0 v M ∧ Hid (M = (scanL (waitS (zs.take K) ++ zs.drop K)).1) ∧ Hid ((scanL (zs.take K ++ zs.drop K)).1 = (scanL (zs.take K)).1 ++ M) ∧ Stm w' gt (waitS (zs.take K ++ zs.drop K)) (lostS (zs.take K ++ zs.drop K)) ∧ W.grownBy w' (some gt)) := fun W h1 h2 => feed_next gt (zs.take K) (some ⟨b, off + K, none⟩) D (cap0 - K) (zs.drop K) W h1 hDl.out h2 (by simp) (by omega) (by rw [hlK.out]; omega)
                go_wp2
                go_region_held3 (fun _ => True) (trivial) (first
                  | (go_at_call 7; refine (kfs.out _ (by exact hS5.out) (by exact hB5.out)).mono ?_; rintro e r1 ⟨v6, M6, rfl, ho6, hM6, -, -, hg6'⟩; have hg6 : y5.grownBy r1 (some gs) := ⟨hg6'.os, hg6'.tape, hg6'.output, hg6'.size, hg6'.block⟩; have hT6 : Hid (Stm r1 gt (waitS (zs.take K)) (lostS (zs.take K))) := hT5.out.stm hS5.out hne.out hg6; have hB6 : Hid (Bytes r1 (some ⟨b, off + K, none⟩) (zs.drop K)) := hB5.out.stm hS5.out hg6; have hO6 : Hid (OwnsL r1 y5.heap.size 0 v6 M6) := ho6; have hby6 : Below w.heap.size w r1 := hby5.grown hg6 hby5.size (fun k hk => by cases hk; omega); clear kfs ho6 hg6' hS5 hT5 hB5)
                  | (go_at_call 7; refine (kft.out _ (by exact hT6.out) (by exact hB6.out)).mono ?_; rintro e r2 ⟨v7, M7, rfl, ho7, hM7, -, -, hg7'⟩; have hg7 : r1.grownBy r2 (some gt) := ⟨hg7'.os, hg7'.tape, hg7'.output, hg7'.size, hg7'.block⟩; have hO7 := hO6.out.stm hT6.out hg7; obtain ⟨a6, n6, c6, rfl, hl6, -, -, -, hL6⟩ := hO7.lists; obtain ⟨a7, n7, c7, rfl, hl7, -, -, -, hL7⟩ := ho7.lists; have hMM : M7 = M6 := hM7.out.trans hM6.out.symm; subst hMM; have hby7 : Below w.heap.size w r2 := hby6.grown hg7 hby6.size (fun k hk => by cases hk; omega); clear kft ho7 hg7' hO6 hO7 hT6 hB6 hM6 hM7)
                  | (go_at_call 11; refine (sameL_yes 0 0 a6 a7 n6 n7 c6 c7 M7 _ hl6.out hl7.out (by exact hL6.out) (by exact hL7.out)).mono ?_; rintro e r3 ⟨rfl, hb8'⟩; have hb8 : Below r2.heap.size r2 r3 := ⟨hb8'.os, hb8'.tape, hb8'.output, hb8'.size, hb8'.block⟩; have hby8 : Below w.heap.size w r3 := hby7.trans (hb8.mono hby7.size); clear hL6 hL7 hb8' hb8)
                  | (go_at_call 6; refine (alive_any _).mono ?_; rintro e r4 ⟨rfl, hb9'⟩; have hb9 : Below r3.heap.size r3 r4 := ⟨hb9'.os, hb9'.tape, hb9'.output, hb9'.size, hb9'.block⟩; have hby9 : Below w.heap.size w r4 := hby8.trans (hb9.mono hby8.size)))
                all_goals
                  go_wp2
                  go_ret
                  exact ⟨rfl, hby9⟩
      · obtain rfl : len0 = 0 := by omega
        obtain rfl : zs = [] := List.eq_nil_of_length_eq_zero hL.out
        have kf1 : Hid (∀ W, Stm W gs [] 0 → Calls Try.prog 7 #[.pointer (some ⟨gs, 0, none⟩), .slice none 0 0] W fun e w' => ∃ v, e = .returned v ∧ Mid W w' gs v (scanL []).1 ∧ Stm w' gs (waitS []) (lostS []) ∧ W.grownBy w' (some gs)) := fun W h1 => feed_first gs none 0 0 [] W h1 rfl (bytes_none _ _) (fun _ => rfl) (by omega)
        have kf2 : Hid (∀ (a : Option Addr) (c : Nat), (a = none → c = 0) → ∀ W, Stm W gt [] 0 → Calls Try.prog 7 #[.pointer (some ⟨gt, 0, none⟩), .slice a 0 c] W fun e w' => ∃ v, e = .returned v ∧ Mid W w' gt v (scanL []).1 ∧ Stm w' gt (waitS []) (lostS []) ∧ W.grownBy w' (some gt)) := fun a c hac W h1 => feed_first gt a 0 c [] W h1 rfl (bytes_none _ _) hac (by omega)
        have kfs : Hid (∀ (a : Option Addr) (c : Nat), (a = none → c = 0) → ∀ W, Stm W gs (waitS []) (lostS []) → Calls Try.prog 7 #[.pointer (some ⟨gs, 0, none⟩), .slice a 0 c] W fun e w' => ∃ v M, e = .returned v ∧ OwnsL w' W.heap.size 0 v M ∧ Hid (M = (scanL (waitS [] ++ [])).1) ∧ W.grownBy w' (some gs)) := by
          intro a c hac W h1
          refine (feed_next gs [] a 0 c [] W h1 rfl (bytes_none _ _) hac (by omega) (by simp)).mono ?_
          rintro e w' ⟨v, M, h2, h3, h4, _, _, h5⟩
          exact ⟨v, M, h2, h3, h4, h5⟩
        have kft : Hid (∀ (a : Option Addr) (c : Nat), (a = none → c = 0) → ∀ W, Stm W gt (waitS []) (lostS []) → Calls Try.prog 7 #[.pointer (some ⟨gt, 0, none⟩), .slice a 0 c] W fun e w' => ∃ v M, e = .returned v ∧ OwnsL w' W.heap.size 0 v M ∧ Hid (M = (scanL (waitS [] ++ [])).1) ∧ W.grownBy w' (some gt)) := by
          intro a c hac W h1
          refine (feed_next gt [] a 0 c [] W h1 rfl (bytes_none _ _) hac (by omega) (by simp)).mono ?_
          rintro e w' ⟨v, M, h2, h3, h4, _, _, h5⟩
          exact ⟨v, M, h2, h3, h4, h5⟩
        cases a0 with
        | none =>
          obtain rfl : cap0 = 0 := hN.out rfl
          clear hB hB2 hsp hN hL
          go_wp2
          go_region_held3 (fun _ => True) (trivial) (first
            | (go_at_call 7; refine (kf1.out _ (by exact hs2.out)).mono ?_; rintro e y1 ⟨v1, rfl, hmid1', hst1, hg1'⟩; have hg1 : x2.grownBy y1 (some gs) := ⟨hg1'.os, hg1'.tape, hg1'.output, hg1'.size, hg1'.block⟩; have hmid1 : Hid (Mid x2 y1 gs v1 (scanL []).1) := hmid1'; have hS1 : Hid (Stm y1 gs (waitS []) (lostS [])) := hst1; have hT1 : Hid (Stm y1 gt [] 0) := ht2'.out.stm hs2.out hne.out hg1; have hby1 : Below w.heap.size w y1 := hbx.grown hg1 hzx (fun k hk => by cases hk; omega); clear kf1 hg1' hmid1' hst1 ht2' hs2)
            | (go_at_call 7; refine (kf2.out _ _ (by first | (intro _; rfl) | simp) _ (by exact hT1.out)).mono ?_; rintro e y2 ⟨v2, rfl, hmid2', hst2, hg2'⟩; have hg2 : y1.grownBy y2 (some gt) := ⟨hg2'.os, hg2'.tape, hg2'.output, hg2'.size, hg2'.block⟩; have hmid2 : Hid (Mid y1 y2 gt v2 (scanL []).1) := hmid2'; have hT2 : Hid (Stm y2 gt (waitS []) (lostS [])) := hst2; have hS2 : Hid (Stm y2 gs (waitS []) (lostS [])) := hS1.out.stm hT1.out (Ne.symm hne.out) hg2; have hby2 : Below w.heap.size w y2 := hby1.grown hg2 hby1.size (fun k hk => by cases hk; omega); clear kf2 hg2' hmid2' hst2 hT1 hS1))
          obtain ⟨ax, nx, cx, rfl, hlx, hcx, hmx⟩ := hmid1.out.lists
          obtain ⟨ay, ny, cy, rfl, hly, -, -⟩ := hmid2.out.lists
          obtain rfl : nx = 0 := by rw [← hlx.out, scan_nil]; rfl
          obtain rfl : ny = 0 := by rw [← hly.out, scan_nil]; rfl
          clear hmid1 hmid2 hlx hly
          go_wp2
          go_loop [70] (fun i => i = .int .i64 0) (fun _ => 0)
          case atStart => exact rfl
          case round =>
            obtain rfl := hrel
            go_wp2
            go_loop [82] (fun i => i = .int .i64 0) (fun _ => 0)
            case atStart => exact rfl
            case round =>
              obtain rfl := hrel
              go_wp2
              go_region_held3 (fun _ => True) (trivial) (first
                | (go_at_call 7; refine (kfs.out _ _ (by first | (intro _; rfl) | simp) _ (by exact hS2.out)).mono ?_; rintro e r1 ⟨v6, M6, rfl, ho6, hM6, hg6'⟩; have hg6 : y2.grownBy r1 (some gs) := ⟨hg6'.os, hg6'.tape, hg6'.output, hg6'.size, hg6'.block⟩; have hT6 : Hid (Stm r1 gt (waitS []) (lostS [])) := hT2.out.stm hS2.out hne.out hg6; have hO6 : Hid (OwnsL r1 y2.heap.size 0 v6 M6) := ho6; have hby6 : Below w.heap.size w r1 := hby2.grown hg6 hby2.size (fun k hk => by cases hk; omega); clear kfs ho6 hg6' hS2 hT2)
                | (go_at_call 7; refine (kft.out _ _ (by first | (intro _; rfl) | simp) _ (by exact hT6.out)).mono ?_; rintro e r2 ⟨v7, M7, rfl, ho7, hM7, hg7'⟩; have hg7 : r1.grownBy r2 (some gt) := ⟨hg7'.os, hg7'.tape, hg7'.output, hg7'.size, hg7'.block⟩; have hO7 := hO6.out.stm hT6.out hg7; obtain ⟨a6, n6, c6, rfl, hl6, -, -, -, hL6⟩ := hO7.lists; obtain ⟨a7, n7, c7, rfl, hl7, -, -, -, hL7⟩ := ho7.lists; have hMM : M7 = M6 := hM7.out.trans hM6.out.symm; subst hMM; have hby7 : Below w.heap.size w r2 := hby6.grown hg7 hby6.size (fun k hk => by cases hk; omega); clear kft ho7 hg7' hO6 hO7 hT6 hM6 hM7)
                | (go_at_call 11; refine (sameL_yes 0 0 a6 a7 n6 n7 c6 c7 M7 _ hl6.out hl7.out (by exact hL6.out) (by exact hL7.out)).mono ?_; rintro e r3 ⟨rfl, hb8'⟩; have hb8 : Below r2.heap.size r2 r3 := ⟨hb8'.os, hb8'.tape, hb8'.output, hb8'.size, hb8'.block⟩; have hby8 : Below w.heap.size w r3 := hby7.trans (hb8.mono hby7.size); clear hL6 hL7 hb8' hb8)
                | (go_at_call 6; refine (alive_any _).mono ?_; rintro e r4 ⟨rfl, hb9'⟩; have hb9 : Below r3.heap.size r3 r4 := ⟨hb9'.os, hb9'.tape, hb9'.output, hb9'.size, hb9'.block⟩; have hby9 : Below w.heap.size w r4 := hby8.trans (hb9.mono hby8.size)))
              all_goals
                go_wp2
                go_ret
                exact ⟨rfl, hby9⟩
        | some x =>
          by_cases hc0 : cap0 = 0
          · subst hc0
            clear hB hB2 hsp hN hL
            go_wp2
            go_region_held3 (fun _ => True) (trivial) (first
              | (go_at_call 7; refine (kf1.out _ (by exact hs2.out)).mono ?_; rintro e y1 ⟨v1, rfl, hmid1', hst1, hg1'⟩; have hg1 : x2.grownBy y1 (some gs) := ⟨hg1'.os, hg1'.tape, hg1'.output, hg1'.size, hg1'.block⟩; have hmid1 : Hid (Mid x2 y1 gs v1 (scanL []).1) := hmid1'; have hS1 : Hid (Stm y1 gs (waitS []) (lostS [])) := hst1; have hT1 : Hid (Stm y1 gt [] 0) := ht2'.out.stm hs2.out hne.out hg1; have hby1 : Below w.heap.size w y1 := hbx.grown hg1 hzx (fun k hk => by cases hk; omega); clear kf1 hg1' hmid1' hst1 ht2' hs2)
              | (go_at_call 7; refine (kf2.out _ _ (by first | (intro _; rfl) | simp) _ (by exact hT1.out)).mono ?_; rintro e y2 ⟨v2, rfl, hmid2', hst2, hg2'⟩; have hg2 : y1.grownBy y2 (some gt) := ⟨hg2'.os, hg2'.tape, hg2'.output, hg2'.size, hg2'.block⟩; have hmid2 : Hid (Mid y1 y2 gt v2 (scanL []).1) := hmid2'; have hT2 : Hid (Stm y2 gt (waitS []) (lostS [])) := hst2; have hS2 : Hid (Stm y2 gs (waitS []) (lostS [])) := hS1.out.stm hT1.out (Ne.symm hne.out) hg2; have hby2 : Below w.heap.size w y2 := hby1.grown hg2 hby1.size (fun k hk => by cases hk; omega); clear kf2 hg2' hmid2' hst2 hT1 hS1))
            obtain ⟨ax, nx, cx, rfl, hlx, hcx, hmx⟩ := hmid1.out.lists
            obtain ⟨ay, ny, cy, rfl, hly, -, -⟩ := hmid2.out.lists
            obtain rfl : nx = 0 := by rw [← hlx.out, scan_nil]; rfl
            obtain rfl : ny = 0 := by rw [← hly.out, scan_nil]; rfl
            clear hmid1 hmid2 hlx hly
            go_wp2
            go_loop [70] (fun i => i = .int .i64 0) (fun _ => 0)
            case atStart => exact rfl
            case round =>
              obtain rfl := hrel
              go_wp2
              go_loop [82] (fun i => i = .int .i64 0) (fun _ => 0)
              case atStart => exact rfl
              case round =>
                obtain rfl := hrel
                go_wp2
                go_region_held3 (fun _ => True) (trivial) (first
                  | (go_at_call 7; refine (kfs.out _ _ (by first | (intro _; rfl) | simp) _ (by exact hS2.out)).mono ?_; rintro e r1 ⟨v6, M6, rfl, ho6, hM6, hg6'⟩; have hg6 : y2.grownBy r1 (some gs) := ⟨hg6'.os, hg6'.tape, hg6'.output, hg6'.size, hg6'.block⟩; have hT6 : Hid (Stm r1 gt (waitS []) (lostS [])) := hT2.out.stm hS2.out hne.out hg6; have hO6 : Hid (OwnsL r1 y2.heap.size 0 v6 M6) := ho6; have hby6 : Below w.heap.size w r1 := hby2.grown hg6 hby2.size (fun k hk => by cases hk; omega); clear kfs ho6 hg6' hS2 hT2)
                  | (go_at_call 7; refine (kft.out _ _ (by first | (intro _; rfl) | simp) _ (by exact hT6.out)).mono ?_; rintro e r2 ⟨v7, M7, rfl, ho7, hM7, hg7'⟩; have hg7 : r1.grownBy r2 (some gt) := ⟨hg7'.os, hg7'.tape, hg7'.output, hg7'.size, hg7'.block⟩; have hO7 := hO6.out.stm hT6.out hg7; obtain ⟨a6, n6, c6, rfl, hl6, -, -, -, hL6⟩ := hO7.lists; obtain ⟨a7, n7, c7, rfl, hl7, -, -, -, hL7⟩ := ho7.lists; have hMM : M7 = M6 := hM7.out.trans hM6.out.symm; subst hMM; have hby7 : Below w.heap.size w r2 := hby6.grown hg7 hby6.size (fun k hk => by cases hk; omega); clear kft ho7 hg7' hO6 hO7 hT6 hM6 hM7)
                  | (go_at_call 11; refine (sameL_yes 0 0 a6 a7 n6 n7 c6 c7 M7 _ hl6.out hl7.out (by exact hL6.out) (by exact hL7.out)).mono ?_; rintro e r3 ⟨rfl, hb8'⟩; have hb8 : Below r2.heap.size r2 r3 := ⟨hb8'.os, hb8'.tape, hb8'.output, hb8'.size, hb8'.block⟩; have hby8 : Below w.heap.size w r3 := hby7.trans (hb8.mono hby7.size); clear hL6 hL7 hb8' hb8)
                  | (go_at_call 6; refine (alive_any _).mono ?_; rintro e r4 ⟨rfl, hb9'⟩; have hb9 : Below r3.heap.size r3 r4 := ⟨hb9'.os, hb9'.tape, hb9'.output, hb9'.size, hb9'.block⟩; have hby9 : Below w.heap.size w r4 := hby8.trans (hb9.mono hby8.size)))
                all_goals
                  go_wp2
                  go_ret
                  exact ⟨rfl, hby9⟩
          · obtain ⟨b, off, hx⟩ := hsp (by omega)
            obtain rfl : x = ⟨b, off, none⟩ := Option.some.inj hx
            have hKc : (cap0 = 0) = False := by simp [hc0]
            clear hB hB2 hsp hN hL
            go_wp2
            go_region_held3 (fun _ => True) (trivial) (first
              | (go_at_call 7; refine (kf1.out _ (by exact hs2.out)).mono ?_; rintro e y1 ⟨v1, rfl, hmid1', hst1, hg1'⟩; have hg1 : x2.grownBy y1 (some gs) := ⟨hg1'.os, hg1'.tape, hg1'.output, hg1'.size, hg1'.block⟩; have hmid1 : Hid (Mid x2 y1 gs v1 (scanL []).1) := hmid1'; have hS1 : Hid (Stm y1 gs (waitS []) (lostS [])) := hst1; have hT1 : Hid (Stm y1 gt [] 0) := ht2'.out.stm hs2.out hne.out hg1; have hby1 : Below w.heap.size w y1 := hbx.grown hg1 hzx (fun k hk => by cases hk; omega); clear kf1 hg1' hmid1' hst1 ht2' hs2)
              | (go_at_call 7; refine (kf2.out _ _ (by first | (intro _; rfl) | simp) _ (by exact hT1.out)).mono ?_; rintro e y2 ⟨v2, rfl, hmid2', hst2, hg2'⟩; have hg2 : y1.grownBy y2 (some gt) := ⟨hg2'.os, hg2'.tape, hg2'.output, hg2'.size, hg2'.block⟩; have hmid2 : Hid (Mid y1 y2 gt v2 (scanL []).1) := hmid2'; have hT2 : Hid (Stm y2 gt (waitS []) (lostS [])) := hst2; have hS2 : Hid (Stm y2 gs (waitS []) (lostS [])) := hS1.out.stm hT1.out (Ne.symm hne.out) hg2; have hby2 : Below w.heap.size w y2 := hby1.grown hg2 hby1.size (fun k hk => by cases hk; omega); clear kf2 hg2' hmid2' hst2 hT1 hS1))
            obtain ⟨ax, nx, cx, rfl, hlx, hcx, hmx⟩ := hmid1.out.lists
            obtain ⟨ay, ny, cy, rfl, hly, -, -⟩ := hmid2.out.lists
            obtain rfl : nx = 0 := by rw [← hlx.out, scan_nil]; rfl
            obtain rfl : ny = 0 := by rw [← hly.out, scan_nil]; rfl
            clear hmid1 hmid2 hlx hly
            go_wp2
            go_loop [70] (fun i => i = .int .i64 0) (fun _ => 0)
            case atStart => exact rfl
            case round =>
              obtain rfl := hrel
              go_wp2
              go_loop [82] (fun i => i = .int .i64 0) (fun _ => 0)
              case atStart => exact rfl
              case round =>
                obtain rfl := hrel
                go_wp2
                go_region_held3 (fun _ => True) (trivial) (first
                  | (go_at_call 7; refine (kfs.out _ _ (by first | (intro _; rfl) | simp) _ (by exact hS2.out)).mono ?_; rintro e r1 ⟨v6, M6, rfl, ho6, hM6, hg6'⟩; have hg6 : y2.grownBy r1 (some gs) := ⟨hg6'.os, hg6'.tape, hg6'.output, hg6'.size, hg6'.block⟩; have hT6 : Hid (Stm r1 gt (waitS []) (lostS [])) := hT2.out.stm hS2.out hne.out hg6; have hO6 : Hid (OwnsL r1 y2.heap.size 0 v6 M6) := ho6; have hby6 : Below w.heap.size w r1 := hby2.grown hg6 hby2.size (fun k hk => by cases hk; omega); clear kfs ho6 hg6' hS2 hT2)
                  | (go_at_call 7; refine (kft.out _ _ (by first | (intro _; rfl) | simp) _ (by exact hT6.out)).mono ?_; rintro e r2 ⟨v7, M7, rfl, ho7, hM7, hg7'⟩; have hg7 : r1.grownBy r2 (some gt) := ⟨hg7'.os, hg7'.tape, hg7'.output, hg7'.size, hg7'.block⟩; have hO7 := hO6.out.stm hT6.out hg7; obtain ⟨a6, n6, c6, rfl, hl6, -, -, -, hL6⟩ := hO7.lists; obtain ⟨a7, n7, c7, rfl, hl7, -, -, -, hL7⟩ := ho7.lists; have hMM : M7 = M6 := hM7.out.trans hM6.out.symm; subst hMM; have hby7 : Below w.heap.size w r2 := hby6.grown hg7 hby6.size (fun k hk => by cases hk; omega); clear kft ho7 hg7' hO6 hO7 hT6 hM6 hM7)
                  | (go_at_call 11; refine (sameL_yes 0 0 a6 a7 n6 n7 c6 c7 M7 _ hl6.out hl7.out (by exact hL6.out) (by exact hL7.out)).mono ?_; rintro e r3 ⟨rfl, hb8'⟩; have hb8 : Below r2.heap.size r2 r3 := ⟨hb8'.os, hb8'.tape, hb8'.output, hb8'.size, hb8'.block⟩; have hby8 : Below w.heap.size w r3 := hby7.trans (hb8.mono hby7.size); clear hL6 hL7 hb8' hb8)
                  | (go_at_call 6; refine (alive_any _).mono ?_; rintro e r4 ⟨rfl, hb9'⟩; have hb9 : Below r3.heap.size r3 r4 := ⟨hb9'.os, hb9'.tape, hb9'.output, hb9'.size, hb9'.block⟩; have hby9 : Below w.heap.size w r4 := hby8.trans (hb9.mono hby8.size)))
                all_goals
                  go_wp2
                  go_ret
                  exact ⟨rfl, hby9⟩
end Go.Proofs.Yticlobjikpfcjab
