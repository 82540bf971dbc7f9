/-
  The walk of the law on receivers that nobody made.
-/
import Derived.Test.YtajidkgmifcoaaaRcn
namespace Go.Proofs.Ytajidkgmifcoaaa
open Go.RowKit
set_option linter.unusedVariables false
set_option maxRecDepth 100000 in
set_option maxHeartbeats 2000000 in
theorem wnobody (a : Option Addr) (len cap : Nat) (zs : List Int) (z : Int) (w : World) (hz0 : IsRow .u8 w a len cap zs) (hcap : cap ≤ 140737488351232) :
    Calls Try.prog 8 #[.slice a len cap, .int .i64 z] w fun e w' => e = .returned (.bool true) ∧ Below w.heap.size w w' := by
  have hz := zero_rc
  have hz1 := zc_ne
  have hz2 := zc_size
  have h00 : zc[0]? = some (.bool false) := rfl
  obtain ⟨hlen0, hby0⟩ := bytes_of_row hz0
  have hle0 := (row_le hz0).1
  have hnil := nil_cap hz0
  obtain ⟨l, hl⟩ : ∃ l, l = zs.take len := ⟨_, rfl⟩
  rw [← hl] at hlen0 hby0
  have hlen : Hid (l.length = len) := hlen0
  have hby : Hid (Bytes w a l) := hby0
  have hnil' : Hid (a = none → cap = 0) := hnil
  have hcm : cap ≤ 9223372036854775807 := by omega
  have hcl : Hid (len ≤ 140737488351232) := by show _ ≤ _; omega
  clear hz0 hlen0 hby0 hl hnil
  go_enter Try.func8, Try.ntmps8
  go_wp2_with fail
  have hB1 : Hid (Below w.heap.size w ((w.alloc (.cells zc 53)).alloc (.cells #[.pointer none, .pointer (some ⟨w.heap.size, 0, none⟩)] 23))) := ((Below.refl _ _).alloc (Nat.le_refl _) _).alloc (by simp) _
  have hbk : Blk (w.alloc (.cells zc 53)) w.heap.size zc 53 := blk_new _ _ _
  have hc0 : ((w.alloc (.cells zc 53)).alloc (.cells #[.pointer none, .pointer (some ⟨w.heap.size, 0, none⟩)] 23)).cell? ⟨w.heap.size, 0, none⟩ = some (.bool false) := by
    rw [(hbk.kept ((Below.refl _ _).alloc (Nat.le_refl _) _)).cell 0]; exact h00
  have hsz : (w.alloc (.cells zc 53)).heap.size = w.heap.size + 1 := by simp
  have hp0 : ((w.alloc (.cells zc 53)).alloc (.cells #[.pointer none, .pointer (some ⟨w.heap.size, 0, none⟩)] 23)).cell? ⟨w.heap.size + 1, 0, none⟩ = some (.pointer none) := by rw [← hsz]; exact (blk_new (w.alloc (.cells zc 53)) #[.pointer none, .pointer (some ⟨w.heap.size, 0, none⟩)] 23).cell 0
  have hp1 : ((w.alloc (.cells zc 53)).alloc (.cells #[.pointer none, .pointer (some ⟨w.heap.size, 0, none⟩)] 23)).cell? ⟨w.heap.size + 1, 1, none⟩ = some (.pointer (some ⟨w.heap.size, 0, none⟩)) := by rw [← hsz]; exact (blk_new (w.alloc (.cells zc 53)) #[.pointer none, .pointer (some ⟨w.heap.size, 0, none⟩)] 23).cell 1
  clear hbk hz hz1 hz2 h00 hsz
  generalize (w.alloc (.cells zc 53)).alloc (.cells #[.pointer none, .pointer (some ⟨w.heap.size, 0, none⟩)] 23) = W at *
  generalize zc = zc' at *
  generalize hrb : w.heap.size = r at *
  have hN : Hid (w.heap.size = r) := hrb
  clear hrb
  have hzW : Hid (r ≤ W.heap.size) := by have := hB1.out.size; rw [hN.out] at this; exact this
  go_loopw [23] (fun s23 wr => ∃ i : Nat, i ≤ 2 ∧ s23 = .int .i64 (i : Nat) ∧ wr = W) (fun i _ => 2 - (intOf i).toNat)
  case atStart => exact ⟨0, by omega, rfl, rfl⟩
  case round =>
    obtain ⟨i, hi, rfl, hw⟩ := hrel
    obtain rfl := hw.symm
    clear hw
    match i, hi with
    | 0, _ =>
      go_wp2_with (first
        | (go_at_call 12; refine (take_nil _).mono ?_; rintro e wn ⟨rfl, hbn⟩; obtain rfl := hbn.symm; clear hbn)
        | (go_at_call 17; refine (ack_nil _).mono ?_; rintro e wn ⟨rfl, hbn⟩; obtain rfl := hbn.symm; clear hbn)
        | (go_at_call 15; refine (data_nil _ _ _ _ _).mono ?_; rintro e wn ⟨rfl, hbn⟩; obtain rfl := hbn.symm; clear hbn)
        | (go_at_call 19; refine (taken_nil _).mono ?_; rintro e wn ⟨rfl, hbn⟩; obtain rfl := hbn.symm; clear hbn)
        | (go_at_call 20; refine (ready_nil _).mono ?_; rintro e wn ⟨rfl, hbn⟩; obtain rfl := hbn.symm; clear hbn)
        | (go_at_call 22; refine (held_nil _).mono ?_; rintro e wn ⟨rfl, hbn⟩; obtain rfl := hbn.symm; clear hbn))
      exact ⟨⟨1, by omega, rfl, by trivial⟩, by simp [intOf]⟩
    | 1, _ =>
      go_wp2_with (first
        | (go_at_call 12; refine (take_un r _ hc0).mono ?_; rintro e wn ⟨rfl, hbn⟩; obtain rfl := hbn.symm; clear hbn)
        | (go_at_call 17; refine (ack_un r _ hc0).mono ?_; rintro e wn ⟨rfl, hbn⟩; obtain rfl := hbn.symm; clear hbn)
        | (go_at_call 15; refine (data_un r _ _ _ _ _ hc0).mono ?_; rintro e wn ⟨rfl, hbn⟩; obtain rfl := hbn.symm; clear hbn)
        | (go_at_call 19; refine (taken_un r _ hc0).mono ?_; rintro e wn ⟨rfl, hbn⟩; obtain rfl := hbn.symm; clear hbn)
        | (go_at_call 20; refine (ready_un r _ hc0).mono ?_; rintro e wn ⟨rfl, hbn⟩; obtain rfl := hbn.symm; clear hbn)
        | (go_at_call 22; refine (held_un r _ hc0).mono ?_; rintro e wn ⟨rfl, hbn⟩; obtain rfl := hbn.symm; clear hbn))
      exact ⟨⟨2, by omega, rfl, by trivial⟩, by simp [intOf]⟩
    | 2, _ =>
      go_wp2_with fail
      refine (new_yes 2 W (by decide) (by decide)).mono ?_
      rintro e w1 ⟨rfl, hS1, hb1⟩
      generalize hrb : W.heap.size = rb at *
      have hNb : Hid (W.heap.size = rb) := hrb
      clear hrb hp0 hp1 hc0
      have hbW : Hid (Bytes w1 a l) := (hby.out.kept (by rw [hN.out]; exact hB1.out)).kept (by rw [hNb.out]; exact hb1.out)
      have hz1 : Hid (rb ≤ w1.heap.size) := by have := hb1.out.size; rw [hNb.out] at this; exact this
      have hA1 : Hid (At W w1 rb (r0 2)) := ⟨hS1.out, hb1.out, hz1.out⟩
      have hrr : Hid (r ≤ rb) := by have := hzW.out; show r ≤ rb; have := hNb.out; omega
      go_wp2_with (at_builtin; refine wpList_append_bytes rfl _ _ rfl w1.heap.size (.slice none 0 0) [] l rfl (ownsB_nil _ _) a len cap rfl hlen.out hnil'.out hbW.out (by have := hcl.out; have := hlen.out; simp; omega) (Nat.le_refl _) ?_; intro v' w2 hO2 hg2)
      have hb2 : Hid (Below w1.heap.size w1 w2) := (Below.refl _ _).grown hg2 (Nat.le_refl _) (by simp [Value.ownBlock])
      have hA2 : Hid (At W w2 rb (r0 2)) := hA1.out.step hb2.out
      have hO2' : Hid (OwnsB w2 w1.heap.size v' l) := by have := hO2; rw [List.nil_append] at this; exact this
      obtain ⟨a2, c2, rfl, hn2, ⟨hle2, hmx2⟩, hby2, hat2⟩ := hO2'.out.shape
      have hO3 : Hid (OwnsB w2 w1.heap.size (.slice a2 l.length c2) l) := hO2'.out
      have hnl : l.length = len := hlen.out
      rw [hnl] at hle2 ⊢
      have hmx2' : c2 ≤ 9223372036854775807 := by unfold maxLen at hmx2; exact hmx2
      have hby2' : Hid (Bytes w2 a2 l) := hby2
      have hn2' : Hid (a2 = none → c2 = 0) := hn2
      have hat2' : Hid (∀ x, a2 = some x → rb < x.block) := fun x hx => by
        have h1 := (hat2 x hx).1
        have h2 := hS1.out.lt
        show rb < x.block
        omega
      clear hnl hmx2 hby2 hn2 hat2 hO2' hO2 hg2 hbW hS1 hb1 hA1
      by_cases hq : dataE (r0 2) 1 len = 0
      · have k := data_ok 1 a2 len c2 l hA2.out.rv hq hlen.out hn2'.out hby2'.out
        clear hq
        go_wp2_with fail
        refine k.mono ?_
        rintro e w3 ⟨rfl, hS3, hK3⟩
        have hA3 : Hid (At W w3 rb (putA (r0 2) 1 l)) := hA2.out.turn hS3.out hK3.out
        have hD3 : Hid (len = 0 ∨ ∃ g2, a2 = some ⟨g2, 0, none⟩ ∧ rb < g2 ∧ DW w3 g2 len) := by
          by_cases h0 : len = 0
          · exact .inl h0
          · refine .inr ?_
            obtain ⟨b, off, hx⟩ := bytes_some hby2'.out (by rw [hlen.out]; omega)
            obtain ⟨g2, n2, cc2, hv, _, _, _, _⟩ := hO3.out.row (by rw [hlen.out]; omega)
            cases hv
            refine ⟨g2, rfl, hat2'.out _ rfl, ?_⟩
            have hd := DW.of hO3.out
            rw [hlen.out] at hd
            exact hd.k2 hK3.out (by have := hat2'.out _ rfl; show g2 ≠ rb; simp at this; omega)
        clear hA2 hO3 hby2' hat2' hS3 hK3 k
        go_wp2_with fail
        go_loopw [103] (fun s103 wr => ∃ j : Nat, j ≤ len ∧ s103 = .int .i64 (j : Nat) ∧ Hid (At W wr rb (putA (r0 2) 1 l)) ∧ Hid (len = 0 ∨ ∃ g2, a2 = some ⟨g2, 0, none⟩ ∧ rb < g2 ∧ DW wr g2 len)) (fun j _ => len - (intOf j).toNat)
        case atStart => exact ⟨0, Nat.zero_le _, rfl, hA3, hD3⟩
        case round =>
          obtain ⟨j, hj, rfl, hA, hD⟩ := hrel
          clear hA3 hD3
          by_cases hjl : j < len
          · have hdj : decide ((j : Int) < (len : Int)) = true := by simp; omega
            obtain ⟨g2, rfl, hg2, hDW⟩ : ∃ g2, a2 = some ⟨g2, 0, none⟩ ∧ rb < g2 ∧ DW wr g2 len := by
              rcases hD.out with h | h
              · omega
              · exact h
            obtain ⟨⟨c, hc⟩, hf⟩ := hDW j hjl
            have hDW' : Hid (DW wr g2 len) := hDW
            clear hDW hD
            go_wp2
            exact ⟨⟨j + 1, by omega, by simp, hA.out.away j _ hg2, .inr ⟨g2, rfl, hg2, hDW'.out.set j _⟩⟩, by simp [intOf]; omega⟩
          · have hdj : decide ((j : Int) < (len : Int)) = false := by simp; omega
            clear hD
            have hp1 : (putA (r0 2) 1 l).L ((putA (r0 2) 1 l).tk + 1) = some l := rfl
            have k4 := take_yes l hA.out.rv (by show (0 : Int) < _; decide) hp1
            clear hp1
            go_wp2_with fail
            refine k4.mono ?_
            rintro e w5 ⟨g5, n5, c5, rfl, hS5, hR5, hK5⟩
            have hA5 : Hid (At W w5 rb (takeA (putA (r0 2) 1 l))) := hA.out.turn hR5.out hK5.out
            have hb5 : Hid (Below r w w5) := hB1.out.trans (hA5.out.bel.mono hrr.out)
            have kS := same_any (some ⟨g5, 0, none⟩) a n5 len c5 cap l l w5 hS5.out.by_ (hby.out.kept (by rw [hN.out]; exact hb5.out)) hS5.out.len hlen.out
            rw [show decide (l = l) = true by simp] at kS
            have hle := hS5.out.le
            have hmx := hS5.out.mx
            have hz5 : Hid (r ≤ w5.heap.size) := by have := hb5.out.size; rw [hN.out] at this; exact this
            clear hA hA5 hS5 hR5 hK5 k4
            go_wp2_with (first
              | (go_at_call 14; refine kS.mono ?_; rintro e wn ⟨rfl, hbn⟩; obtain rfl := hbn.symm; clear hbn kS)
              | (go_at_call 11; refine (alive_any _).mono ?_; rintro e w6 ⟨rfl, hb6⟩))
            go_ret
            exact ⟨rfl, by rw [hN.out]; exact hb5.out.trans (hb6.out.mono hz5.out)⟩
      · have k := data_k 1 a2 len c2 hA2.out.rv hq (by have := hcl.out; omega)
        have hE : dataE (r0 2) 1 len = 8 := by
          unfold dataE at hq ⊢
          rw [if_neg (by decide)] at hq ⊢
          by_cases h2 : 1200 < len
          · rw [if_pos h2]
          · rw [if_neg h2, if_neg (by intro k; rcases k with k | k; exact absurd k (by decide); cases k), if_neg (by decide)] at hq
            exact absurd rfl hq
        rw [hE] at k
        clear hq hE
        go_wp2_with (first
          | (go_at_call 15; refine k.mono ?_; rintro e w3 ⟨rfl, hb3⟩; clear k; have hA3 : Hid (At W w3 rb (r0 2)) := hA2.out.step hb3.out; clear hb3)
          | (go_at_call 11; refine (alive_any _).mono ?_; rintro e w6 ⟨rfl, hb6⟩))
        go_ret
        have hb5 : Below r w w6 := hB1.out.trans ((hA3.out.step hb6.out).bel.mono hrr.out)
        exact ⟨rfl, by rw [hN.out]; exact hb5⟩
end Go.Proofs.Ytajidkgmifcoaaa
