/-
  The document's side: the number of bytes.
-/
import Derived.Test.YtfamenkefmgnoaaDoorXtob
namespace Go.Proofs.YtfamenkefmgnoaaDoor
open Go.RowKit

theorem byt_lt {zs : List Int} (hz : ∀ c ∈ zs, 0 ≤ c ∧ c < 256) : ∀ k, k ≤ zs.length → bytV (zs.take k) < 256 ^ k := by
  intro k
  induction k with
  | zero => intro _; rw [List.take_zero]; decide
  | succ k ih =>
    intro hk
    have h1 := ih (by omega)
    have h2 := byt_take hz (by omega : k < zs.length)
    have h3 := hz _ (getD_mem (by omega : k < zs.length))
    rw [Nat.pow_succ]
    omega
theorem big_gen (n k m j : Nat) (h : n < 256 ^ k) (hk : k ≤ m) (hj : j = 3 * m) (h1 : 1 ≤ j) : (txt n).size ≤ j := by
  rw [txt_size, num_len h1]
  have h2 : 256 ^ k ≤ 256 ^ m := Nat.pow_le_pow_right (by decide) hk
  have h3 : 256 ^ m ≤ 10 ^ j := by
    rw [hj, Nat.pow_mul]
    exact Nat.pow_le_pow_left (by decide) m
  exact Nat.lt_of_lt_of_le h (Nat.le_trans h2 h3)
theorem big_fits {n k : Nat} (h : n < 256 ^ k) (hk : k ≤ 400) : (txt n).size ≤ 1200 := big_gen n k 400 1200 h hk rfl (by decide)
theorem more_gen (n j : Nat) (h1 : 1 ≤ j) (h : (txt n).size ≤ j) : (txt (n * 256)).size ≤ j + 3 := by
  rw [txt_size, num_len (by omega)] at h ⊢
  rw [Nat.pow_add]
  have : 10 ^ 3 = 1000 := by decide
  omega
theorem txt_256 : txt 256 = ⟨#[50, 53, 54]⟩ := by decide
theorem first_set {l : List Int} (h0 : 0 < l.length) (c : Int) : lv 10 (l.set 0 (l.getD 0 0 + c)) = lv 10 l + c := by
  rw [lv_set 10 l 0 c h0, Int.pow_zero, Int.one_mul]
theorem mul_256 (M : Nat) (w : World) (h : (txt M).size ≤ 1200) : Calls Tryd.prog 43 #[.string (txt M), .string ⟨#[50, 53, 54]⟩] w fun e w' => e = .returned (.string (txt (M * 256))) ∧ Below w.heap.size w w' := by
  have h := xmu_any (txt M) (txt 256) w (digs_txt M) (digs_txt 256) (by omega) (by rw [txt_256]; decide)
  rw [val_txt, val_txt, txt_256] at h
  exact h
set_option maxRecDepth 100000 in
set_option maxHeartbeats 2000000 in
theorem xfrb_any (a : Option Addr) (n cap : Nat) (zs : List Int) (w : World) (hl : zs.length = n) (hb : Bytes w a zs) :
    Calls Tryd.prog 25 #[.slice a n cap] w fun e w' => e = .returned (.tuple #[.string (frbA zs).1, .int .i64 (frbA zs).2]) ∧ Below w.heap.size w w' := by
  by_cases h4 : n ≤ 400
  · have eR : frbA zs = shortA (bytV zs) := by unfold frbA; rw [if_pos (by omega)]
    have kS : Hid (∀ w, _) := fun w => xshort_any (bytV zs) w
    rw [eR]
    obtain ⟨R, hR⟩ : ∃ R, shortA (bytV zs) = R := ⟨_, rfl⟩
    obtain ⟨T, hT⟩ : ∃ T, txt (bytV zs) = T := ⟨_, rfl⟩
    rw [hR] at kS ⊢
    rw [hT] at kS
    have hT' : Hid (txt (bytV zs) = T) := hT
    have hd : decide (400 < (n : Int)) = false := by simp; omega
    have hL : Hid (zs.length = n) := hl
    have hB : Hid (Bytes w a zs) := hb
    clear hR hT hl hb eR
    go_enter Tryd.func25, Tryd.ntmps25
    go_wp2
    go_loopw [4, 5] (fun v i wr => ∃ (k : Nat) (t : ByteArray), k ≤ n ∧ i = .int .i64 k ∧ v = .string t ∧ Hid (t = txt (bytV (zs.take k))) ∧ Hid (Below w.heap.size w wr)) (fun _ i _ => n - (intOf i).toNat)
    case atStart => exact ⟨0, _, Nat.zero_le _, rfl, rfl, (by show _ = _; rw [List.take_zero]; exact txt_nought.symm), Below.refl _ _⟩
    case round =>
      obtain ⟨k, t, hk, rfl, rfl, ht, hbl⟩ := hrel
      have hbs : w.heap.size ≤ wr.heap.size := hbl.out.size
      by_cases hlt : k < n
      · have hkl : k < zs.length := by rw [hL.out]; exact hlt
        obtain ⟨b, off, rfl⟩ := bytes_some hB.out (by rw [hL.out]; omega)
        have hcell : Hid (∀ W, Below w.heap.size w W → W.cell? ⟨b, off + k, none⟩ = some (.int .u8 (zs.getD k 0))) := fun W h => by
          obtain ⟨-, -, hc⟩ := hB.out.kept h
          rcases hc with h | ⟨b', o', h, hc⟩
          · rw [h] at hkl; cases hkl
          · cases h
            exact hc k hkl
        have hz := hB.out.1
        have hcb := hz _ (getD_mem hkl)
        have hbt : Hid _ := byt_take hz hkl
        have hfit := big_fits (byt_lt hz k (by omega)) (by omega)
        have kM := mul_256 (bytV (zs.take k)) wr hfit
        rw [← ht.out] at kM
        have hfit2 := more_gen _ 1200 (by decide) hfit
        have kG : Hid (∀ W, _) := fun W => xdigits_any (txt (bytV (zs.take k) * 256)) W (digs_txt _) (by omega)
        have hdg : Hid (Grp 10 (dgs (bs (txt (bytV (zs.take k) * 256))))) := dgs_grp (digs_txt (bytV (zs.take k) * 256))
        have hdv : Hid (lv 10 (dgs (bs (txt (bytV (zs.take k) * 256)))) = ((bytV (zs.take k) * 256 : Nat) : Int)) := by
          have h1 := dgs_val (digs_txt (bytV (zs.take k) * 256))
          have h2 := val_txt (bytV (zs.take k) * 256)
          unfold val at h2
          rw [h2] at h1
          exact h1
        have hdl : Hid ((dgs (bs (txt (bytV (zs.take k) * 256)))).length = (txt (bytV (zs.take k) * 256)).size) := by show _ = _; rw [dgs_len, bs_len]
        have hpos : 0 < (txt (bytV (zs.take k) * 256)).size := by rw [txt_size]; exact List.length_pos_iff.2 (num_ne _)
        generalize zs.getD k 0 = c at *
        generalize bytV (zs.take k) = M at *
        generalize dgs (bs (txt (M * 256))) = l at *
        generalize txt (M * 256) = T2 at *
        clear hz hfit
        have i1 : (k : Int) < (n : Int) := by omega
        have wc : IntKind.i64.wrap c = c := wrap_fit (by omega) (by omega)
        go_wp2_with fail
        refine kM.mono ?_
        rintro e w2 ⟨rfl, hb2⟩
        go_wp2_with fail
        refine (kG.out w2).mono ?_
        rintro e w3 ⟨⟨v3, rfl, ho3⟩, hb3⟩
        have hdl' := hdl.out
        obtain ⟨g, m, cp, rfl, hlm, hmc, hcm, hbg⟩ := ho3.row (by omega)
        have hlm' := hlm.out
        have hc0 := ho3.cell (j := 0) (by omega)
        have hf0 := ho3.frozen 0
        have hd0 := hdg.out.at (k := 0) (by omega)
        have hbl3 : Hid (Below w.heap.size w w3) := (hbl.out.trans (hb2.mono hbs)).trans (hb3.mono (Nat.le_trans hbs hb2.size))
        have hcl := hcell.out w3 hbl3.out
        have hO' := ho3.store 0 (l.getD 0 0 + c)
        have hsv := first_set (by omega : 0 < l.length) c
        rw [hdv.out] at hsv
        have hset : ∀ x ∈ l.set 0 (l.getD 0 0 + c), 0 ≤ x ∧ x ≤ 1000 := fun x hx => by
          rcases List.mem_or_eq_of_mem_set hx with h1 | h1
          · have := hdg.out x h1
            omega
          · omega
        have hsl : (l.set 0 (l.getD 0 0 + c)).length = m := by rw [List.length_set]; exact hlm'
        generalize l.set 0 (l.getD 0 0 + c) = l' at *
        generalize l.getD 0 0 = X at *
        have w1 : IntKind.i64.wrap (X + c) = X + c := wrap_fit (by omega) (by omega)
        have m0 : (0 : Int) < (m : Int) := by omega
        have hm' : Hid (m ≤ 1300) := by show _ ≤ _; omega
        have hgw : Hid (w.heap.size ≤ g) := Nat.le_trans (Nat.le_trans hbs hb2.size) hbg
        have hbl4 : Hid (∀ u, Below w.heap.size w (w3.setCell ⟨g, 0, none⟩ u)) := fun u => hbl3.out.setCell (p := ⟨g, 0, none⟩) hgw.out u
        have hO4 : Hid (OwnsI (w3.setCell ⟨g, 0, none⟩ (.int .i64 (X + c))) w2.heap.size (.slice (some ⟨g, 0, none⟩) m cp) l') := hO'
        have hT4 : Hid (∀ W, OwnsI W w2.heap.size (.slice (some ⟨g, 0, none⟩) m cp) l' → Calls Tryd.prog 41 #[.slice (some ⟨g, 0, none⟩) m cp] W fun e w' => e = .returned (.string (txt (bytV (zs.take (k + 1))))) ∧ Below W.heap.size W w') := fun W hW => by
          obtain ⟨a7, n7, c7, hv7, hn7, -, -, -, hI7⟩ := hW.form
          cases hv7
          have hI8 := hI7.out
          rw [← nat_list fun x hx => (hset x hx).1] at hI8
          have hk := text_any _ m cp (l'.map Int.toNat) W (by rw [List.length_map]; exact hsl) hI8 (fun x hx => by
            obtain ⟨y, hy, rfl⟩ := List.mem_map.1 hx
            have := hset y hy
            omega) (by have := hm'.out; omega)
          have hlow : lowV (l'.map Int.toNat) = bytV (zs.take (k + 1)) := by
            have h1 := lv_ints (l'.map Int.toNat)
            have h2 := hbt.out
            rw [nat_list fun x hx => (hset x hx).1, hsv] at h1
            omega
          rw [hlow] at hk
          exact hk
        clear hO' hd0 hcb hset hsl hsv hdl' hlm' hpos hfit2 kM kG ho3 hb2 hb3 hbt hbl
        obtain ⟨T9, hT9⟩ : ∃ T9, txt (bytV (zs.take (k + 1))) = T9 := ⟨_, rfl⟩
        rw [hT9] at hT4
        have hT9' : Hid (T9 = txt (bytV (zs.take (k + 1)))) := hT9.symm
        clear hT9
        go_wp2
        go_region
        go_wp2_with (go_at_call 41; refine (hT4.out _ hO4.out.drewN).mono ?_; rintro e w9 ⟨rfl, hb9⟩)
        go_roundw
        case rel => exact ⟨k + 1, T9, by omega, by go_num, rfl, hT9', (hbl4.out _).drew.trans (hb9.mono (hbl4.out (.int .i64 (X + c))).drew.size)⟩
        case measure => simp [intOf]; omega
      · obtain rfl : k = n := by omega
        have htT : Hid (t = T) := by
          show _ = _
          rw [ht.out, ← hT'.out, List.take_of_length_le (by rw [hL.out]; exact Nat.le_refl _)]
        have kS' := kS.out wr
        rw [← htT.out] at kS'
        go_wp2_with (go_at_call 40; refine kS'.mono ?_; rintro e w10 ⟨rfl, hw10⟩; obtain rfl : wr = w10 := hw10.symm)
        go_ret2
        exact ⟨rfl, hbl.out⟩
  · have e : frbA zs = (noS, 11) := by unfold frbA; rw [if_neg (by omega)]
    rw [e]
    have hd : decide (400 < (n : Int)) = true := by simp; omega
    clear hl hb h4 e
    go_enter Tryd.func25, Tryd.ntmps25
    go_wp2
    go_ret2
    exact ⟨rfl, Below.refl _ _⟩
end Go.Proofs.YtfamenkefmgnoaaDoor
