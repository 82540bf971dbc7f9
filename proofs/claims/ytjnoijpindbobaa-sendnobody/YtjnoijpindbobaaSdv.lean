/-
  What is acked is told no more: the walk.
-/
import Derived.Test.YtjnoijpindbobaaSdt
namespace Go.Proofs.Ytjnoijpindbobaa
open Go.RowKit
set_option linter.unusedVariables false
theorem OwnsT.base' {w : World} {b b' : Nat} {v : Value} {L : List (Int × Value × List Int)} (h : OwnsT w b v L) (hb : b' ≤ b) : OwnsT w b' v L := by
  obtain ⟨⟨h1, h2⟩, h3⟩ := h
  refine ⟨⟨h1, ?_⟩, fun p hp => (h3 p hp).base hb⟩
  rcases h2 with h2 | ⟨g, cap, cur, hv, hg, r⟩
  · exact .inl h2
  · exact .inr ⟨g, cap, cur, hv, Nat.le_trans hb hg, r⟩
set_option maxRecDepth 20000 in
set_option maxHeartbeats 4000000 in
theorem wdone (many ack bits : Int) (w : World) (h1 : (Lit.int .u8 many).wf = true) (h2 : (Lit.int .u8 ack).wf = true) (h3 : (Lit.int .u64 bits).wf = true) :
    Calls Try.prog 6 #[.int .u8 many, .int .u8 ack, .int .u64 bits] w fun e w' => e = .returned (.bool true) ∧ Below w.heap.size w w' := by
  have hm0 : 0 ≤ many ∧ many < 256 := by
    simp [Lit.wf, show IntKind.u8.min = 0 from by decide, show IntKind.u8.max = 255 from by decide] at h1
    omega
  have ha0 : 0 ≤ ack ∧ ack < 256 := by
    simp [Lit.wf, show IntKind.u8.min = 0 from by decide, show IntKind.u8.max = 255 from by decide] at h2
    omega
  obtain ⟨mn, rfl⟩ : ∃ t : Nat, many = (t : Int) := ⟨many.toNat, by omega⟩
  obtain ⟨ak, rfl⟩ : ∃ t : Nat, ack = (t : Int) := ⟨ack.toNat, by omega⟩
  have hM : Hid (mn < 256 ∧ ak < 256) := by show _ ∧ _; omega
  clear h1 h2 h3 hm0 ha0
  go_enter Try.func6, Try.ntmps6
  go_wp2_with fail
  refine (new_yes 32 w (by decide) (by decide)).mono ?_
  rintro e w1 ⟨rfl, hS1, hB1⟩
  have hS1' : Hid (Sd w1 w.heap.size (w.heap.size + 1) w.heap.size (s0 32 0)) := hS1
  clear hS1
  generalize hsb : w.heap.size + 1 = sb at *
  have hN : Hid (w.heap.size ≤ sb) := by show _ ≤ _; omega
  clear hsb
  have k2 := ack_ok 0 0 100 hS1'.out (may_s0 (by decide) (by decide))
  rw [ack_s0 (by decide) (by decide) (by decide)] at k2
  go_wp2_with (first | (go_at_call 18; refine k2.mono ?_; rintro e w2 ⟨rfl, hS2, hK2⟩; clear k2) | (go_at_call 9; refine (alive_any w2).mono ?_; rintro e w3 ⟨rfl, hb3⟩; have hS3 : Hid (Sd w3 w.heap.size sb w.heap.size (s0 32 100)) := hS2.out.kept hb3.out; have hB3 : Hid (Below w.heap.size w w3) := (hK2.out.below hB1.out hB1.out.size hN.out (Nat.le_refl _)).trans (hb3.out.mono (Nat.le_trans hB1.out.size hK2.out.size)); clear hS2 hK2 hb3 hB1) | fail)
  have hsum : (mn : Int) % 33 = ((mn % 33 : Nat) : Int) := by omega
  rw [hsum]
  obtain ⟨n, hn⟩ : ∃ n, mn % 33 = n := ⟨_, rfl⟩
  rw [hn]
  have hn32 : Hid (n ≤ 32) := by show _ ≤ _; omega
  clear hsum hn hS1'
  go_loopw [10, 38] (fun _ s38 wr => ∃ (i : Nat) (s : St), i ≤ n ∧ s38 = .int .i64 (i : Nat) ∧ Hid (Dn s i) ∧ Hid (Sd wr w.heap.size sb w.heap.size s) ∧ Hid (Below w.heap.size w wr)) (fun _ i _ => n - (intOf i).toNat)
  case atStart => exact ⟨0, s0 32 100, Nat.zero_le _, rfl, ⟨rfl, rfl, rfl, rfl⟩, hS3, hB3⟩
  case round =>
    obtain ⟨i, s, hi, rfl, hD, hS, hB⟩ := hrel
    clear hS3 hB3
    by_cases hlt : i < n
    · have hd : decide ((i : Int) < (n : Int)) = true := by simp; omega
      have hi32 : Hid (i < 32) := by have := hn32.out; show _ < _; omega
      have hwi : IntKind.i64.wrap ((i : Int) + 1) = (i : Int) + 1 := by have := hi32.out; rw [IntKind.wrap_i64]; omega
      have hwu : IntKind.u8.wrap (i : Int) = (i : Int) := by have := hi32.out; rw [IntKind.wrap_u8]; omega
      have hE : pushE s 1 0 = 0 := by
        unfold pushE
        have := hi32.out
        rw [if_neg (by decide), if_neg (by omega), if_neg (by rw [hD.out.1, hD.out.2.1, hD.out.2.2.1, hD.out.2.2.2]; omega)]
      have k := push_ok (some ⟨wr.heap.size, 0, none⟩) 1 1 [(i : Int)] 0 (hS.out.alloc (.cells #[.int .u8 (i : Int)] 5)) hE (by have := hB.out.size; simp; omega) rfl (by simp) (one_byte wr _ (by omega) (by have := hi32.out; omega))
      clear hE
      go_wp2_with (go_at_call 15; refine k.mono ?_; rintro e w4 ⟨rfl, en, hen, hS4, hK4⟩)
      exact ⟨⟨i + 1, addA s en, by omega, by simp, ⟨hD.out.1, (by show s.nxt + 1 = _; rw [hD.out.2.1]; simp), hD.out.2.2⟩, hS4, hK4.out.below (hB.out.alloc hB.out.size _) (by have := hB.out.size; simp; omega) hN.out (Nat.le_refl _)⟩, by simp [intOf]; omega⟩
    · have hd : decide ((i : Int) < (n : Int)) = false := by simp; omega
      obtain rfl : i = n := by omega
      have hwn : IntKind.i64.wrap ((i : Int) + 1) = (i : Int) + 1 := by have := hn32.out; rw [IntKind.wrap_i64]; omega
      have hwa : IntKind.i64.wrap (ak : Int) = (ak : Int) := by have := hM.out; rw [IntKind.wrap_i64]; omega
      go_wp2_with fail
      have hkk : (ak : Int) % ((i : Int) + 1) = ((ak % (i + 1) : Nat) : Int) := by simp
      rw [hkk]
      obtain ⟨kk, hk⟩ : ∃ kk, ak % (i + 1) = kk := ⟨_, rfl⟩
      have hki : Hid (kk ≤ i) := by have := Nat.mod_lt ak (show 0 < i + 1 by omega); show _ ≤ _; omega
      rw [hk]
      clear hkk hk hwa hM hlt hi hd
      have hmay : mayB s (kk : Int) 0 = true := by have := hki.out; have := hD.out.2.1; simp [mayB]; omega
      have k7 := ack_ok (kk : Int) bits 0 hS.out hmay
      have hth : Hid (∀ z e, (ackA s kk bits 0).L z = some e → (kk : Int) < z ∧ ∀ i : Nat, i < 64 → bitB bits i = true → z = (kk : Int) + 2 + (i : Int) → e.there = true) := fun z e h => ack_there h
      have hnx : Hid ((ackA s kk bits 0).nxt = (i : Int) + 1) := (sb_ack s kk bits 0).nxt.trans hD.out.2.1
      refine k7.mono ?_
      rintro e w5 ⟨rfl, hS5, hK5⟩
      have hB5 : Hid (Below w.heap.size w w5) := hK5.out.below hB.out hB.out.size hN.out (Nat.le_refl _)
      clear k7 hmay hS hB hK5 hD
      generalize ackA s kk bits 0 = s5 at *
      have k8 := due_ok 50 hS5.out (by decide)
      go_wp2_with (go_at_call 16; refine k8.mono ?_; rintro e w6 ⟨v6, L6, rfl, hT6, hL6, hS6, hU6, hK6⟩; have hB6 : Hid (Below w.heap.size w w6) := hK6.out.below hB5.out hB5.out.size hN.out (Nat.le_refl _); obtain ⟨a6, n6, c6, rfl, hn6, hc6, hm6⟩ := hT6.out.form; have hn6' : Hid (n6 = L6.length) := hn6; have hT6' : Hid (OwnsT w6 0 (.slice a6 n6 c6) L6) := hT6.out.base' (Nat.zero_le _); have hn7 : Hid ((dueA s5 50).nxt = (i : Int) + 1) := hnx.out; clear hn6 hK6 hT6 hU6 k8)
      have htl : Hid (∀ (t : Nat) (p : Int × List Int), (plainT L6)[t]? = some p → (kk : Int) < p.1 ∧ p.1 ≤ i ∧ ∀ t : Nat, p.1 = (kk : Int) + 2 + (t : Int) → bitB bits t = false) := fun t p hp => by
        rw [hL6.out] at hp
        obtain ⟨h1, h2, e, h3, h4⟩ := due_tell _ p (List.mem_of_getElem? hp)
        have h5 := hth.out p.1 e h3
        have h6 := hnx.out
        have h7 := hS5.out.ok.b2
        refine ⟨h5.1, by omega, fun t ht => ?_⟩
        cases hb : bitB bits t with
        | false => rfl
        | true =>
          have := h5.2 t (by have := hn32.out; omega) hb ht
          simp [tellB, this] at h4
      generalize dueA s5 50 = s6 at *
      clear hS5 hB5 hL6 hth hnx
      go_loopw [13, 60] (fun _ s60 wq => ∃ (j : Nat), j ≤ n6 ∧ s60 = .int .i64 (j : Nat) ∧ Hid (OwnsT wq 0 (.slice a6 n6 c6) L6) ∧ Hid (Sd wq w.heap.size sb w.heap.size s6) ∧ Hid (Below w.heap.size w wq)) (fun _ j _ => n6 - (intOf j).toNat)
      case atStart => exact ⟨0, Nat.zero_le _, rfl, hT6', hS6, hB6⟩
      case round =>
        obtain ⟨j, hj, rfl, hT, hS, hB⟩ := hrel
        clear hT6' hS6 hB6
        by_cases hjl : j < n6
        · have hdj : decide ((j : Int) < (n6 : Int)) = true := by simp; omega
          obtain ⟨p, hp⟩ : ∃ p, L6[j]? = some p := ⟨L6[j]'(by rw [← hn6'.out]; exact hjl), List.getElem?_eq_getElem _⟩
          have hpl : (plainT L6)[j]? = some (p.1, p.2.2) := by simp [plainT, hp]
          obtain ⟨h1, h2, h3⟩ := htl.out j _ hpl
          obtain ⟨g3, cp3, hv3, _, hg3, hc⟩ := hT.out.cells hp
          obtain rfl : a6 = some ⟨g3, 0, none⟩ := by injection hv3
          have ho := hT.out.2 _ (List.mem_of_getElem? hp)
          obtain ⟨z, v, zs⟩ := p
          simp only at h1 h2 h3 ho
          obtain ⟨az, cz, rfl, hnz, ⟨hlz, hmz⟩, hbz, _⟩ := ho.shape
          have m0 : wr.cell? ⟨g3, j * 9, none⟩ = some (.int .i64 1) := hc 0 (by decide)
          have m1 : wr.cell? ⟨g3, j * 9 + 1, none⟩ = some (.int .u64 0) := hc 1 (by decide)
          have m2 : wr.cell? ⟨g3, j * 9 + 2, none⟩ = some (.int .i64 0) := hc 2 (by decide)
          have m3 : wr.cell? ⟨g3, j * 9 + 3, none⟩ = some (.int .i64 z) := hc 3 (by decide)
          have m4 : wr.cell? ⟨g3, j * 9 + 4, none⟩ = some (.int .i64 0) := hc 4 (by decide)
          have m5 : wr.cell? ⟨g3, j * 9 + 5, none⟩ = some (.int .u64 0) := hc 5 (by decide)
          have m6 : wr.cell? ⟨g3, j * 9 + 6, none⟩ = some (.int .i64 0) := hc 6 (by decide)
          have m7 : wr.cell? ⟨g3, j * 9 + 7, none⟩ = some (.int .i64 0) := hc 7 (by decide)
          have m8 : wr.cell? ⟨g3, j * 9 + 8, none⟩ = some (.slice az zs.length cz) := hc 8 (by decide)
          have f1 : decide (z ≤ (kk : Int)) = false := by simp; omega
          have f2 : IntKind.i64.wrap ((kk : Int) + 2) = (kk : Int) + 2 := by have := hki.out; have := hn32.out; rw [IntKind.wrap_i64]; omega
          have hend : ∀ (o : Obj), Hid ((∃ (j' : Nat), j' ≤ n6 ∧ Value.int .i64 ((j : Int) + 1) = .int .i64 (j' : Nat) ∧ Hid (OwnsT (wr.alloc o) 0 (.slice (some ⟨g3, 0, none⟩) n6 c6) L6) ∧ Hid (Sd (wr.alloc o) w.heap.size sb w.heap.size s6) ∧ Hid (Below w.heap.size w (wr.alloc o))) ∧ n6 - (intOf (Value.int .i64 ((j : Int) + 1))).toNat < n6 - (intOf (Value.int .i64 (j : Int))).toNat) := fun o =>
            ⟨⟨j + 1, by omega, by simp, hT.out.alloc o, hS.out.alloc o, hB.out.alloc hB.out.size o⟩, by simp [intOf]; omega⟩
          clear hc ho hp hpl hv3 hnz hlz hmz hbz
          by_cases hz2 : (kk : Int) + 2 ≤ z
          · obtain ⟨t, rfl⟩ : ∃ t : Nat, z = (kk : Int) + 2 + (t : Int) := ⟨(z - kk - 2).toNat, by omega⟩
            have hbit : (Go.bits .and .u64 (bits / 2 ^ t) 1 == 1) = false := h3 t rfl
            have f3 : decide ((kk : Int) + 2 + (t : Int) ≥ (kk : Int) + 2) = true := by simp; omega
            have f4 : IntKind.i64.wrap ((kk : Int) + 2 + (t : Int) - (kk : Int)) = (t : Int) + 2 := by have := hki.out; have := hn32.out; rw [IntKind.wrap_i64]; omega
            have f5 : IntKind.i64.wrap ((t : Int) + 2 - 2) = (t : Int) := by have := hki.out; have := hn32.out; rw [IntKind.wrap_i64]; omega
            have f6 : IntKind.i64.wrap (t : Int) = (t : Int) := by have := hki.out; have := hn32.out; rw [IntKind.wrap_i64]; omega
            have ht64 : t ≤ 64 := by have := hki.out; have := hn32.out; omega
            have hbit' : (Go.bits .and .u64 (bits / 2 ^ t) 1 == 1) = false := hbit
            clear h1 h2 h3 hz2
            go_wp2
            exact (hend _).out
          · have f3 : decide (z ≥ (kk : Int) + 2) = false := by simp; omega
            clear h1 h2 h3 hz2
            go_wp2
            exact (hend _).out
        · have hdj : decide ((j : Int) < (n6 : Int)) = false := by simp; omega
          have kB := base_any hS.out
          have o1 := hS.out.ok.b1
          have o2 := hS.out.ok.b2
          have o3 := hn7.out
          have o4 := hn32.out
          have hmay : (timeB 60 && mayB s6 (s6.base - 1) 0) = true := by simp [timeB, mayB]; omega
          have k9 := res_ok (s6.base - 1) 0 60 hS.out hmay
          have hw1 : IntKind.i64.wrap (s6.base - 1) = s6.base - 1 := by rw [IntKind.wrap_i64]; omega
          have hw2 : IntKind.i64.wrap ((i : Int) - s6.base) = (i : Int) - s6.base := by rw [IntKind.wrap_i64]; omega
          have hw3 : IntKind.i64.wrap ((i : Int) - s6.base + 1) = (i : Int) - s6.base + 1 := by rw [IntKind.wrap_i64]; omega
          have hall : Hid (dueL (resA s6 (s6.base - 1) 0 60) 60 ((resA s6 (s6.base - 1) 0 60).nxt - (resA s6 (s6.base - 1) 0 60).base).toNat = dueL (resA s6 (s6.base - 1) 0 60) 60 ((i : Int) + 1 - s6.base).toNat ∧ (dueL (resA s6 (s6.base - 1) 0 60) 60 ((i : Int) + 1 - s6.base).toNat).length = ((i : Int) + 1 - s6.base).toNat) := by
            have e1 : (resA s6 (s6.base - 1) 0 60).nxt = (i : Int) + 1 := o3
            have e2 : (resA s6 (s6.base - 1) 0 60).base = s6.base := res_base hS.out.ok
            refine ⟨by rw [e1, e2], due_all (res_all hS.out.ok) _ ?_⟩
            rw [e1, e2]
            omega
          have hlim : Hid ((dueA (resA s6 (s6.base - 1) 0 60) 60).lim = (i : Int)) := by
            show max 0 ((resU (finA s6 (s6.base - 1)) 60 s6.nxt).nxt - 1) = (i : Int)
            show max 0 (s6.nxt - 1) = (i : Int)
            omega
          have hbi : Hid (s6.base ≤ (i : Int) + 1) := by show _ ≤ _; omega
          clear o1 o2 o3 o4 hmay
          go_wp2_with (first | (go_at_call 13; refine kB.mono ?_; rintro e w7 ⟨rfl, hw7⟩; obtain rfl := hw7.symm; clear kB) | (go_at_call 19; refine k9.mono ?_; rintro e w8 ⟨rfl, hS8, hK8⟩; clear k9; have hB8 : Hid (Below w.heap.size w w8) := hK8.out.below hB.out hB.out.size hN.out (Nat.le_refl _); have k10 := due_ok 60 hS8.out (by decide)) | (go_at_call 16; refine k10.mono ?_; rintro e w9 ⟨v9, L9, rfl, hT9, hL9, hS9, hU9, hK9⟩; clear k10; obtain ⟨a9, n9, c9, rfl, hn9, hc9, hm9⟩ := hT9.out.form; have hlen9 : ((n9 : Nat) : Int) = (i : Int) - s6.base + 1 := (by have h1 : (plainT L9).length = L9.length := (by simp [plainT]); rw [hL9.out, hall.out.1, hall.out.2] at h1; have := hbi.out; omega); have heq9 : (((n9 : Nat) : Int) == (i : Int) - s6.base + 1) = true := (by simp [hlen9]); have hB9 : Hid (Below w.heap.size w w9) := hK9.out.below hB8.out hB8.out.size hN.out (Nat.le_refl _); have k11 := limit_any hS9.out; rw [hlim.out] at k11; clear hn9 hlen9) | (go_at_call 14; refine k11.mono ?_; rintro e w10 ⟨rfl, hw10⟩; obtain rfl := hw10.symm; clear k11))
          go_ret
          exact ⟨rfl, hB9.out⟩
end Go.Proofs.Ytjnoijpindbobaa
