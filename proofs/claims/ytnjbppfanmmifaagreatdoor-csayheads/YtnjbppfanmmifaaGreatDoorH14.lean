/-
  Groups multiplied by a number, and a number added: nat.timesPlus; groups without the 0 at their end: nat.withoutZeros.
  Products: nat.Mul.
  The number of bytes: nat.FromBytes.
  A product is made, and bytes are a number.
  The document's side: which texts are numbers, a number's digits, and the number of digits, each carried on.
  The document's side: the number of digits, each carried on (gantlineref05.text).
  The document's side: how two numbers stand.
  Quotients: nat.Div.
-/
import Derived.Test.YtnjbppfanmmifaaGreatDoorH13
import Derived.Sort.Walk0
namespace Go.Proofs.YtnjbppfanmmifaaGreatDoor
open Go.RowKit

theorem times_step {l r : List Int} {k : Nat} {by' over T : Int} (hk : k < l.length) (hr : r.length = k) (h : lv 1000000 r + 1000000 ^ k * (over + by' * lv 1000000 (l.drop k)) = T) :
    lv 1000000 (r ++ [(l.getD k 0 * by' + over) % 1000000]) + 1000000 ^ (k + 1) * ((l.getD k 0 * by' + over) / 1000000 + by' * lv 1000000 (l.drop (k + 1))) = T := by
  rw [lv_drop 1000000 l k hk] at h
  rw [lv_snoc, hr, ← h, Int.pow_succ, Int.add_assoc, Int.mul_assoc, ← Int.mul_add]
  congr 1
  congr 1
  generalize l.getD k 0 = X
  generalize lv 1000000 (l.drop (k + 1)) = Y
  have h1 := Int.mul_ediv_add_emod (X * by' + over) 1000000
  rw [Int.mul_add 1000000, Int.mul_add by', Int.mul_left_comm by']
  rw [Int.mul_comm X by'] at *
  omega
set_option maxHeartbeats 1000000 in
theorem times_any (v : Value) (l : List Int) (base : Nat) (w : World) (ho : OwnsI w base v l) (hl : Grp 1000000 l) (hn : l.length ≤ 1000000) (by' plus : Int) (hby : 0 ≤ by' ∧ by' ≤ 1000000) (hpl : 0 ≤ plus ∧ plus < 1000000) (hbw : base ≤ w.heap.size) :
    Calls Tryz.prog 217 #[v, .int .i64 by', .int .i64 plus] w fun e w' => (∃ v' l', e = .returned v' ∧ OwnsI w' base v' l' ∧ Grp 1000000 l' ∧ lv 1000000 l' = by' * lv 1000000 l + plus ∧ (l'.length = l.length ∨ (l'.length = l.length + 1 ∧ 1000000 ^ l.length ≤ lv 1000000 l'))) ∧ Below base w w' := by
  obtain ⟨a, n, cap, rfl, hL, -, hnc, hcm, -⟩ := ho.form
  have hO : Hid (OwnsI w base (.slice a n cap) l) := ho
  have hG : Hid (Grp 1000000 l) := hl
  obtain ⟨T, hT⟩ : ∃ T, by' * lv 1000000 l + plus = T := ⟨_, rfl⟩
  rw [hT]
  have hT' : Hid (by' * lv 1000000 l + plus = T) := hT
  have hn' : n ≤ 1000000 := by rw [← hL.out]; exact hn
  clear ho hl hT hn
  go_enter Tryz.func217, Tryz.ntmps217
  go_wp2
  go_loopw [7, 13] (fun ov i wr => ∃ (k : Nat) (over : Int) (r : List Int), k ≤ n ∧ i = .int .i64 k ∧ ov = .int .i64 over ∧ 0 ≤ over ∧ over < 1000000 ∧ Hid (r.length = k) ∧ Hid (Grp 1000000 r) ∧ Hid (OwnsI wr base (.slice a n cap) (r ++ l.drop k)) ∧ Hid (lv 1000000 r + 1000000 ^ k * (over + by' * lv 1000000 (l.drop k)) = T) ∧ Hid (Below base w wr)) (fun _ i _ => n - (intOf i).toNat)
  case atStart =>
    refine ⟨0, plus, [], Nat.zero_le _, rfl, rfl, hpl.1, hpl.2, rfl, grp_nil _, hO.out, ?_, Below.refl _ _⟩
    show 0 + 1000000 ^ 0 * (plus + by' * lv 1000000 l) = T
    rw [← hT'.out]
    omega
  case round =>
    obtain ⟨k, over, r, hk, rfl, rfl, ho1, ho2, hr, hgr, ho, hs, hbl⟩ := hrel
    by_cases hlt : k < n
    · have hkl : k < l.length := by rw [hL.out]; exact hlt
      obtain ⟨g, n', cap', hv, -, -, -, hbg⟩ := ho.out.row (by rw [List.length_append, List.length_drop]; omega)
      cases hv
      have hX := hG.out.at hkl
      have hc := ho.out.cell (j := k) (by rw [List.length_append, List.length_drop, hr.out]; omega)
      rw [getD_mid hr.out] at hc
      have hf := ho.out.frozen k
      have hst : Hid _ := times_step hkl hr.out hs.out
      have hset : Hid (∀ u, OwnsI (wr.setCell ⟨g, k, none⟩ (.int .i64 u)) base (.slice (some ⟨g, 0, none⟩) n cap) ((r ++ [u]) ++ l.drop (k + 1))) := fun u => by
        rw [← set_mid hr.out hkl]
        exact ho.out.store k u
      generalize l.getD k 0 = X at *
      have hXb : 0 ≤ X * by' ∧ X * by' ≤ 999999 * 1000000 := ⟨Int.mul_nonneg hX.1 hby.1, Int.le_trans (Int.mul_le_mul_of_nonneg_right (by omega : X ≤ 999999) hby.1) (Int.mul_le_mul_of_nonneg_left hby.2 (by decide))⟩
      obtain ⟨Y, hY⟩ : ∃ Y, X * by' = Y := ⟨_, rfl⟩
      rw [hY] at hXb hst
      have hw1 : IntKind.i64.wrap Y = Y := wrap_fit (by omega) (by omega)
      obtain ⟨m, hm⟩ : ∃ m, Y + over = m := ⟨_, rfl⟩
      rw [hm] at hst
      have hw2 : IntKind.i64.wrap m = m := wrap_fit (by omega) (by omega)
      have q1 : m.tmod 1000000 = m % 1000000 := Int.tmod_eq_emod_of_nonneg (by omega)
      have q2 : m.tdiv 1000000 = m / 1000000 := Int.tdiv_eq_ediv_of_nonneg (by omega)
      have q3 : 0 ≤ m / 1000000 ∧ m / 1000000 < 1000000 := by omega
      have q4 : 0 ≤ m % 1000000 ∧ m % 1000000 < 1000000 := by omega
      have q5 : IntKind.i64.wrap (m / 1000000) = m / 1000000 := wrap_fit (by omega) (by omega)
      generalize m / 1000000 = M1 at *
      generalize m % 1000000 = M2 at *
      clear hXb hX
      go_wp2
      go_roundw
      case rel => exact ⟨k + 1, M1, r ++ [M2], by omega, by go_num, rfl, q3.1, q3.2, (by show _ = _; rw [List.length_append, hr.out]; rfl), hgr.out.snoc q4, hset.out _, hst, hbl.out.setCell (p := ⟨g, k, none⟩) hbg _⟩
      case measure => simp [intOf]; omega
    · obtain rfl : k = n := by omega
      have hd : l.drop k = [] := List.drop_of_length_le (by rw [hL.out]; exact Nat.le_refl _)
      have hs' := hs.out
      have ho' := ho.out
      rw [hd] at hs' ho'
      rw [List.append_nil] at ho'
      have hs2 : lv 1000000 r + 1000000 ^ k * over = T := by
        rw [← hs']
        show _ = _ + _ * (over + by' * 0)
        rw [Int.mul_zero, Int.add_zero]
      have hO2 : Hid (OwnsI wr base (.slice a k cap) r) := ho'
      have hL' : l.length = k := hL.out
      by_cases h0 : over = 0
      · subst h0
        have hfin : Hid (lv 1000000 r = T) := by show _ = _; rw [Int.mul_zero, Int.add_zero] at hs2; exact hs2
        have hln : Hid (r.length = l.length) := by show _ = _; rw [hL.out]; exact hr.out
        clear hs2 hs' ho' hd hs ho hL'
        go_wp2
        go_ret
        exact ⟨⟨_, r, rfl, hO2.out, hgr.out, hfin.out, .inl hln.out⟩, hbl.out⟩
      · have hfin : Hid (lv 1000000 (r ++ [over]) = T) := by show _ = _; rw [lv_snoc, hr.out]; exact hs2
        have hge : Hid ((1000000 : Int) ^ l.length ≤ T) := by
          show _ ≤ _
          have h1 := (lv_lt (by decide) hgr.out).1
          have h2 : (1000000 : Int) ^ k * 1 ≤ 1000000 ^ k * over := Int.mul_le_mul_of_nonneg_left (by omega) (Int.le_of_lt (pow_pos' (by decide) _))
          rw [hL']
          omega
        have hln : Hid ((r ++ [over]).length = l.length + 1) := by show _ = _; rw [List.length_append, hL.out, hr.out]; rfl
        have hG2 : Hid (Grp 1000000 (r ++ [over])) := hgr.out.snoc ⟨ho1, ho2⟩
        have hd0 : decide (0 < over) = true := by simp; omega
        have hbs : base ≤ wr.heap.size := Nat.le_trans hbw hbl.out.size
        clear hs2 hs' ho' hd hs ho h0 hL'
        go_wp2_with (at_builtin; refine wpList_append_ints rfl _ _ rfl base _ r [over] rfl (hO2.out.alloc _) _ 1 1 rfl rfl (by intro h; cases h) (one_int _ _) (by have := hr.out; simp; omega) (by simp; omega) ?_; intro v' w2 ho2' hg2)
        go_ret
        exact ⟨⟨v', r ++ [over], rfl, ho2', hG2.out, hfin.out, .inr ⟨hln.out, by rw [hfin.out]; exact hge.out⟩⟩, grownI_below (hbl.out.alloc hbs _) (hO2.out.alloc _) hg2 (by simp; omega)⟩

theorem lv_front {l : List Int} {k : Nat} (hk : k < l.length) (h : l.getD k 0 = 0) (hl : l.length = k + 1) : lv 1000000 (l.take k) = lv 1000000 l := by
  have h1 := lv_take 1000000 l k hk
  rw [h, Int.mul_zero, Int.add_zero, ← hl, List.take_length] at h1
  exact h1.symm
theorem grp_take {b : Int} {l : List Int} (h : Grp b l) (k : Nat) : Grp b (l.take k) := fun g hg => h g (List.mem_of_mem_take hg)
set_option maxHeartbeats 1000000 in
theorem woz_any (g n cap base : Nat) (l : List Int) (w : World) (ho : OwnsI w base (.slice (some ⟨g, 0, none⟩) n cap) l) (hl : Grp 1000000 l) :
    Calls Tryz.prog 185 #[.slice (some ⟨g, 0, none⟩) n cap] w fun e w' => (∃ k l', e = .returned (.slice (some ⟨g, 0, none⟩) k cap) ∧ OwnsI w base (.slice (some ⟨g, 0, none⟩) k cap) l' ∧ l'.length = k ∧ k ≤ n ∧ Grp 1000000 l' ∧ lv 1000000 l' = lv 1000000 l ∧ (0 < k → 0 < lv 1000000 l')) ∧ w' = w := by
  have hln := ho.len
  obtain ⟨g', n', cap', hv, hnc, hcm⟩ : ∃ g' n' cap', Value.slice (some ⟨g, 0, none⟩) n cap = .slice (some ⟨g', 0, none⟩) n' cap' ∧ n' ≤ cap' ∧ cap' ≤ 9223372036854775807 := by
    obtain ⟨a, m, c, h1, _, _, h2, h3, _⟩ := ho.form
    cases h1
    exact ⟨g, n, cap, rfl, h2, h3⟩
  cases hv
  have hO : Hid (OwnsI w base (.slice (some ⟨g, 0, none⟩) n cap) l) := ho
  have hG : Hid (Grp 1000000 l) := hl
  have hL : Hid (l.length = n) := hln
  clear ho hl hln
  go_enter Tryz.func185, Tryz.ntmps185
  go_wp2
  go_loop [0] (fun v => ∃ (k : Nat) (l' : List Int), v = .slice (some ⟨g, 0, none⟩) k cap ∧ k ≤ n ∧ Hid (OwnsI w base (.slice (some ⟨g, 0, none⟩) k cap) l') ∧ Hid (l'.length = k) ∧ Hid (Grp 1000000 l') ∧ Hid (lv 1000000 l' = lv 1000000 l)) (fun v => lenV v)
  case atStart => exact ⟨n, l, rfl, Nat.le_refl _, hO, hL, hG, rfl⟩
  case round =>
    obtain ⟨k, l', rfl, hk, ho, hlk, hg, hv⟩ := hrel
    cases k with
    | zero =>
      go_wp2
      go_ret
      exact ⟨⟨0, rfl, l', ho.out, hlk.out, Nat.zero_le _, hg.out, hv.out, fun h => by omega⟩, rfl⟩
    | succ m =>
      have hml : m < l'.length := by rw [hlk.out]; omega
      have hc := ho.out.cell (j := m) hml
      have hX := hg.out.at hml
      have e1 : ((m + 1 : Nat) : Int) - 1 = (m : Int) := by omega
      have i1 : (m : Int) < ((m + 1 : Nat) : Int) := by omega
      by_cases h0 : l'.getD m 0 = 0
      · rw [h0] at hc
        have hv2 : Hid (lv 1000000 (l'.take m) = lv 1000000 l) := by show _ = _; rw [lv_front hml h0 hlk.out]; exact hv.out
        have ho2 : Hid (OwnsI w base (.slice (some ⟨g, 0, none⟩) m cap) (l'.take m)) := ho.out.firsts m (by omega)
        have hg2 : Hid (Grp 1000000 (l'.take m)) := grp_take hg.out m
        have hl2 : Hid ((l'.take m).length = m) := by show _ = _; rw [List.length_take]; omega
        clear h0 hX
        go_wp2
        go_round
        case rel => exact ⟨m, l'.take m, by simp, by omega, ho2, hl2, hg2, hv2⟩
        case measure => simp [lenV]
      · have hpos : Hid (0 < lv 1000000 l') := by
          show 0 < _
          have h1 := lv_take 1000000 l' m hml
          rw [← hlk.out, List.take_length] at h1
          have h2 := (lv_lt (by decide) (grp_take hg.out m)).1
          have h3 : (1000000 : Int) ^ m * 1 ≤ 1000000 ^ m * l'.getD m 0 := Int.mul_le_mul_of_nonneg_left (by omega) (Int.le_of_lt (pow_pos' (by decide) _))
          have h4 := pow_pos' (b := 1000000) (by decide) m
          omega
        have hd : (l'.getD m 0 == 0) = false := by simpa using h0
        generalize l'.getD m 0 = X at *
        clear h0 hX
        go_wp2
        go_ret
        exact ⟨⟨m + 1, rfl, l', ho.out, hlk.out, hk, hg.out, hv.out, fun _ => hpos.out⟩, rfl⟩
end Go.Proofs.YtnjbppfanmmifaaGreatDoor
namespace Go.Proofs.YtnjbppfanmmifaaGreatDoor
open Go.RowKit

end Go.Proofs.YtnjbppfanmmifaaGreatDoor
namespace Go.Proofs.YtnjbppfanmmifaaGreatDoor
open Go.RowKit

theorem byt_take {zs : List Int} {k : Nat} (hz : ∀ c ∈ zs, 0 ≤ c ∧ c < 256) (hk : k < zs.length) : ((bytV (zs.take (k + 1)) : Nat) : Int) = 256 * ((bytV (zs.take k) : Nat) : Int) + zs.getD k 0 := by
  have h1 := hz _ (getD_mem hk)
  have e : zs.take (k + 1) = zs.take k ++ [zs.getD k 0] := by
    rw [List.take_succ_eq_append_getElem hk, List.getD_eq_getElem?_getD, List.getElem?_eq_getElem hk]; rfl
  rw [e, byt_snoc]
  generalize zs.getD k 0 = c at *
  omega
set_option maxHeartbeats 1000000 in
theorem frb_any (a : Option Addr) (n cap : Nat) (zs : List Int) (w : World) (hl : zs.length = n) (hb : Bytes w a zs) :
    Calls Tryz.prog 197 #[.slice a n cap] w fun e w' => e = .returned (.tuple #[.string (frbA zs).1, .int .i64 (frbA zs).2]) ∧ Below w.heap.size w w' := by
  by_cases h4 : n ≤ 400
  · obtain ⟨R, hR⟩ : ∃ R, frbA zs = R := ⟨_, rfl⟩
    rw [hR]
    have hR' : Hid (shortA (bytV zs) = R) := by rw [← hR]; unfold frbA; rw [if_pos (by omega)]; rfl
    have hd : decide (400 < (n : Int)) = false := by simp; omega
    have hL : Hid (zs.length = n) := hl
    have hB : Hid (Bytes w a zs) := hb
    clear hR hl hb
    go_enter Tryz.func197, Tryz.ntmps197
    go_wp2
    go_loopw [4, 12] (fun v i wr => ∃ (k : Nat) (l : List Int), k ≤ n ∧ i = .int .i64 k ∧ Hid (OwnsI wr w.heap.size v l) ∧ Hid (Grp 1000000 l) ∧ Hid (lv 1000000 l = (bytV (zs.take k) : Nat)) ∧ Hid (l.length ≤ k) ∧ Hid (Below w.heap.size w wr)) (fun _ i _ => n - (intOf i).toNat)
    case atStart => exact ⟨0, [], Nat.zero_le _, rfl, ownsI_nil _ _, grp_nil _, rfl, Nat.le_refl _, Below.refl _ _⟩
    case round =>
      obtain ⟨k, l, hk, rfl, hO, hG, hv, hln, hbl⟩ := hrel
      by_cases hlt : k < n
      · have hkl : k < zs.length := by rw [hL.out]; exact hlt
        obtain ⟨b, off, rfl⟩ := bytes_some hB.out (by rw [hL.out]; omega)
        obtain ⟨hz, -, hc⟩ := hB.out.kept hbl.out
        have hcell : wr.cell? ⟨b, off + k, none⟩ = some (.int .u8 (zs.getD k 0)) := by
          rcases hc with h | ⟨b', o', h, hc⟩
          · rw [h] at hkl; cases hkl
          · cases h
            exact hc k hkl
        have hcb := hz _ (getD_mem hkl)
        have hbt : Hid _ := byt_take hz hkl
        clear hc hz
        generalize zs.getD k 0 = c at *
        have i1 : (k : Int) < (n : Int) := by omega
        have hln' := hln.out
        have kt := times_any _ l w.heap.size wr hO.out hG.out (by omega) 256 c (by omega) (by omega) hbl.out.size
        have wc : IntKind.i64.wrap c = c := wrap_fit (by omega) (by omega)
        clear hln' hcb
        go_wp2_with (go_at_call 217; refine kt.mono ?_; rintro e w2 ⟨⟨v', l', rfl, hO2, hG2, hv2, hlen⟩, hb2⟩)
        go_roundw
        case rel => exact ⟨k + 1, l', by omega, by go_num, hO2, hG2, (by show _ = _; rw [hv2, hv.out]; exact hbt.out.symm), (by show _ ≤ _; have := hln.out; omega), hbl.out.trans hb2⟩
        case measure => simp [intOf]; omega
      · obtain rfl : k = n := by omega
        have hln' := hln.out
        have hlt2 := lv_lt (by decide) hG.out
        have ht := tell_any _ l w.heap.size wr hO.out (fun g hg => by have := hG.out g hg; omega) hlt2.1 hlt2.2 (by omega) hbl.out.size
        have hn : (lv 1000000 l).toNat = bytV zs := by rw [hv.out, List.take_of_length_le (by rw [hL.out]; exact Nat.le_refl _), Int.toNat_natCast]
        rw [hn, hR'.out] at ht
        clear hn hlt2 hln'
        go_wp2_with (go_at_call 149; refine ht.mono ?_; rintro e w9 ⟨rfl, hb9⟩)
        go_ret2
        exact ⟨rfl, hbl.out.trans hb9⟩
  · have e : frbA zs = (noS, 11) := by unfold frbA; rw [if_neg (by omega)]
    rw [e]
    have hd : decide (400 < (n : Int)) = true := by simp; omega
    clear hl hb h4 e
    go_enter Tryz.func197, Tryz.ntmps197
    go_wp2
    go_ret2
    exact ⟨rfl, Below.refl _ _⟩
end Go.Proofs.YtnjbppfanmmifaaGreatDoor
namespace Go.Proofs.YtnjbppfanmmifaaGreatDoor
open Go.RowKit

end Go.Proofs.YtnjbppfanmmifaaGreatDoor
namespace Go.Proofs.YtnjbppfanmmifaaGreatDoor
open Go.RowKit

end Go.Proofs.YtnjbppfanmmifaaGreatDoor
namespace Go.Proofs.YtnjbppfanmmifaaGreatDoor
open Go.RowKit

/-- 10 hundred thousand million at most in a place. -/
def Mod (l : List Nat) : Prop := ∀ x ∈ l, x ≤ 1000000000000
theorem Mod.at {l : List Nat} (h : Mod l) (k : Nat) : l.getD k 0 ≤ 1000000000000 := by
  rw [List.getD_eq_getElem?_getD]
  cases hx : l[k]? with
  | none => exact Nat.zero_le _
  | some y => exact h y (List.mem_of_getElem? hx)

end Go.Proofs.YtnjbppfanmmifaaGreatDoor
namespace Go.Proofs.YtnjbppfanmmifaaGreatDoor
open Go.RowKit

end Go.Proofs.YtnjbppfanmmifaaGreatDoor
namespace Go.Proofs.YtnjbppfanmmifaaGreatDoor
open Go.RowKit

end Go.Proofs.YtnjbppfanmmifaaGreatDoor
