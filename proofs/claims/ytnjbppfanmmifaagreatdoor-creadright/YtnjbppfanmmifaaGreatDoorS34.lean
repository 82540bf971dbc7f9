/-
  The document's character of bytes, and its first character.
  The document's characters of bytes.
  The fault of a node, what is in it aside, as the document's call tells it: gantlineref08.alone, of Bools and Maps.
  The fault of a node, what is in it aside, as the document's call tells it: gantlineref08.alone, of Tags and Simples.
  The fault of a node, what is in it aside, as the document's call tells it: gantlineref08.alone, of Bytes.
  The fault of a node, what is in it aside, as the document's call tells it: gantlineref08.alone, of Ints.
  The fault of a node, what is in it aside, as the document's call tells it: gantlineref08.alone, of Decs.
-/
import Derived.Test.YtnjbppfanmmifaaGreatDoorS33
import Derived.Test.YtnjbppfanmmifaaGreatDoorS8
import Derived.Test.YtnjbppfanmmifaaGreatDoorS30
import Derived.Test.YtnjbppfanmmifaaGreatDoorS6
namespace Go.Proofs.YtnjbppfanmmifaaGreatDoor
open Go.RowKit

theorem i64_or_nat (a b : Nat) (ha : a < 4611686018427387904) (hb : b < 4611686018427387904) : bits .or .i64 (a : Int) (b : Int) = ((a ||| b : Nat) : Int) := by
  have hx : a ||| b < 2 ^ 62 := Nat.or_lt_two_pow (by omega) (by omega)
  have h1 : (BitVec.ofInt 64 (a : Int)).toNat = a := by
    rw [BitVec.ofInt_natCast, BitVec.toNat_ofNat]; exact Nat.mod_eq_of_lt (by omega)
  have h2 : (BitVec.ofInt 64 (b : Int)).toNat = b := by
    rw [BitVec.ofInt_natCast, BitVec.toNat_ofNat]; exact Nat.mod_eq_of_lt (by omega)
  show IntKind.i64.wrap ((BitVec.ofInt 64 (a : Int) ||| BitVec.ofInt 64 (b : Int)).toNat : Int) = _
  rw [BitVec.toNat_or, h1, h2, IntKind.wrap_i64]
  omega
theorem or_join (i X y : Nat) (hX : X % 2 ^ i = 0) (hy : y < 2 ^ i) (h1 : X < 4611686018427387904) (h2 : y < 4611686018427387904) : bits .or .i64 (X : Int) (y : Int) = ((X + y : Nat) : Int) := by
  rw [i64_or_nat X y h1 h2, nat_join i X y hX hy]
theorem two_in (c0 c1 : Nat) : bits .or .i64 ((c0 : Int) % 32 * 64) ((c1 : Int) % 64) = ((c0 % 32 * 64 + c1 % 64 : Nat) : Int) := by
  have e := or_join 6 (c0 % 32 * 64) (c1 % 64) (by omega) (by omega) (by omega) (by omega)
  rw [← e]
  simp
theorem three_in (c0 c1 c2 : Nat) : bits .or .i64 (bits .or .i64 ((c0 : Int) % 16 * 4096) ((c1 : Int) % 64 * 64)) ((c2 : Int) % 64) = ((c0 % 16 * 4096 + c1 % 64 * 64 + c2 % 64 : Nat) : Int) := by
  have e := or_join 12 (c0 % 16 * 4096) (c1 % 64 * 64) (by omega) (by omega) (by omega) (by omega)
  have e2 := or_join 6 (c0 % 16 * 4096 + c1 % 64 * 64) (c2 % 64) (by omega) (by omega) (by omega) (by omega)
  rw [← e2, ← e]
  simp
theorem four_in (c0 c1 c2 c3 : Nat) : bits .or .i64 (bits .or .i64 (bits .or .i64 ((c0 : Int) % 8 * 262144) ((c1 : Int) % 64 * 4096)) ((c2 : Int) % 64 * 64)) ((c3 : Int) % 64) = ((c0 % 8 * 262144 + c1 % 64 * 4096 + c2 % 64 * 64 + c3 % 64 : Nat) : Int) := by
  have e := or_join 18 (c0 % 8 * 262144) (c1 % 64 * 4096) (by omega) (by omega) (by omega) (by omega)
  have e2 := or_join 12 (c0 % 8 * 262144 + c1 % 64 * 4096) (c2 % 64 * 64) (by omega) (by omega) (by omega) (by omega)
  have e3 := or_join 6 (c0 % 8 * 262144 + c1 % 64 * 4096 + c2 % 64 * 64) (c3 % 64) (by omega) (by omega) (by omega) (by omega)
  rw [← e3, ← e2, ← e]
  simp

theorem xvalue_1 (b off cap : Nat) (c0 : Nat) (w : World) (k0 : w.cell? ⟨b, off, none⟩ = some (.int .u8 c0)) (h0 : c0 < 256) :
    Calls Tryz.prog 139 #[.slice (some ⟨b, off, none⟩) 1 cap] w fun e w' => e = .returned (.int .i64 (c0 : Nat)) ∧ ∃ q, w' = w.drewN q := by
  go_enter Tryz.func139, Tryz.ntmps139
  go_wp2
  go_ret
  exact ⟨rfl, 0, rfl⟩
set_option maxHeartbeats 1000000 in
theorem xvalue_2 (b off cap : Nat) (c0 c1 : Nat) (w : World) (h0 : c0 < 256) (h1 : c1 < 256)
    (k0 : w.cell? ⟨b, off, none⟩ = some (.int .u8 c0)) (k1 : w.cell? ⟨b, off + 1, none⟩ = some (.int .u8 c1)) :
    Calls Tryz.prog 139 #[.slice (some ⟨b, off, none⟩) 2 cap] w fun e w' => e = .returned (.int .i64 (c0 % 32 * 64 + c1 % 64 : Nat)) ∧ ∃ q, w' = w.drewN q := by
  have he : Hid _ := two_in c0 c1
  go_enter Tryz.func139, Tryz.ntmps139
  go_wp2
  go_quiet (fail)
  go_wp2
  go_ret
  exact ⟨by rw [← he.out]; rfl, nq, rfl⟩
set_option maxHeartbeats 1000000 in
theorem xvalue_3 (b off cap : Nat) (c0 c1 c2 : Nat) (w : World) (h0 : c0 < 256) (h1 : c1 < 256) (h2 : c2 < 256)
    (k0 : w.cell? ⟨b, off, none⟩ = some (.int .u8 c0)) (k1 : w.cell? ⟨b, off + 1, none⟩ = some (.int .u8 c1)) (k2 : w.cell? ⟨b, off + 2, none⟩ = some (.int .u8 c2)) :
    Calls Tryz.prog 139 #[.slice (some ⟨b, off, none⟩) 3 cap] w fun e w' => e = .returned (.int .i64 (c0 % 16 * 4096 + c1 % 64 * 64 + c2 % 64 : Nat)) ∧ ∃ q, w' = w.drewN q := by
  have he : Hid _ := three_in c0 c1 c2
  go_enter Tryz.func139, Tryz.ntmps139
  go_wp2
  go_quiet (fail)
  go_wp2
  go_ret
  exact ⟨by rw [← he.out]; rfl, nq, rfl⟩
set_option maxHeartbeats 1000000 in
theorem xvalue_4 (b off cap : Nat) (c0 c1 c2 c3 : Nat) (w : World) (h0 : c0 < 256) (h1 : c1 < 256) (h2 : c2 < 256) (h3 : c3 < 256)
    (k0 : w.cell? ⟨b, off, none⟩ = some (.int .u8 c0)) (k1 : w.cell? ⟨b, off + 1, none⟩ = some (.int .u8 c1)) (k2 : w.cell? ⟨b, off + 2, none⟩ = some (.int .u8 c2)) (k3 : w.cell? ⟨b, off + 3, none⟩ = some (.int .u8 c3)) :
    Calls Tryz.prog 139 #[.slice (some ⟨b, off, none⟩) 4 cap] w fun e w' => e = .returned (.int .i64 (c0 % 8 * 262144 + c1 % 64 * 4096 + c2 % 64 * 64 + c3 % 64 : Nat)) ∧ ∃ q, w' = w.drewN q := by
  have he : Hid _ := four_in c0 c1 c2 c3
  go_enter Tryz.func139, Tryz.ntmps139
  go_wp2
  go_quiet (fail)
  go_wp2
  go_ret
  exact ⟨by rw [← he.out]; rfl, nq, rfl⟩
theorem xvalue_any (b off cap : Nat) (zs : List Int) (w : World) (hg : Good zs) (hl : lenB zs ≤ zs.length) (hb : Bytes w (some ⟨b, off, none⟩) zs) :
    Calls Tryz.prog 139 #[.slice (some ⟨b, off, none⟩) (lenB zs) cap] w fun e w' => e = .returned (.int .i64 (valB zs : Nat)) ∧ ∃ q, w' = w.drewN q := by
  have z := nth_lt hb.1
  have hB : lenB zs = lenN (nth zs 0) := rfl
  have c : ∀ i, i < lenB zs → w.cell? ⟨b, off + i, none⟩ = some (.int .u8 (nth zs i : Nat)) := fun i hi => hb.nat (by omega)
  have k0 := hg.1
  rcases len_cases (nth zs 0) with ⟨e, k⟩ | ⟨e, k⟩ | ⟨e, k⟩ | ⟨e, k⟩ | ⟨e, k⟩ <;> rw [← hB] at e <;> rw [e] at c ⊢
  · rw [show valB zs = nth zs 0 from by unfold valB valN; rw [if_pos k]]
    exact xvalue_1 b off cap _ w (c 0 (by omega)) (z 0)
  · rw [show valB zs = _ from by unfold valB valN; rw [if_neg (by omega), if_pos (by omega)]]
    exact xvalue_2 b off cap _ _ w (z 0) (z 1) (c 0 (by omega)) (c 1 (by omega))
  · rw [show valB zs = _ from by unfold valB valN; rw [if_neg (by omega), if_neg (by omega), if_pos (by omega)]]
    exact xvalue_3 b off cap _ _ _ w (z 0) (z 1) (z 2) (c 0 (by omega)) (c 1 (by omega)) (c 2 (by omega))
  · rw [show valB zs = _ from by unfold valB valN; rw [if_neg (by omega), if_neg (by omega), if_neg (by omega)]]
    exact xvalue_4 b off cap _ _ _ _ w (z 0) (z 1) (z 2) (z 3) (c 0 (by omega)) (c 1 (by omega)) (c 2 (by omega)) (c 3 (by omega))
  · exact absurd (hB.symm.trans e) k0

/-- The two ways 'first' ends. -/
theorem xfirst_good (b off n cap : Nat) (zs : List Int) (w : World) (hl : zs.length = n) (h0 : 0 < n) (hb : Bytes w (some ⟨b, off, none⟩) zs) (hn : n ≤ 4611686018427387904) (hg : Good zs) :
    Calls Tryz.prog 138 #[.slice (some ⟨b, off, none⟩) n cap] w fun e w' => e = .returned (.tuple #[.int .i64 (lenB zs : Nat), .int .i64 (-1)]) ∧ ∃ q, w' = w.drewN q := by
  have hne := good_ne hg (fun h => by rw [h] at hl; simp at hl; omega)
  exact xfirst_any b off n cap zs w hl h0 hb hn (by omega) (lenB zs) hne.1 (fun i h1 h2 => good_okAt hl hg h1 h2) _ (.inl ⟨rfl, rfl⟩)
theorem xfirst_bad (b off n cap : Nat) (zs : List Int) (w : World) (hl : zs.length = n) (h0 : 0 < n) (hb : Bytes w (some ⟨b, off, none⟩) zs) (hn : n ≤ 4611686018427387904) (hg : ¬ Good zs) :
    Calls Tryz.prog 138 #[.slice (some ⟨b, off, none⟩) n cap] w fun e w' => e = .returned (.tuple #[.int .i64 0, .int .i64 (badB zs : Nat)]) ∧ ∃ q, w' = w.drewN q := by
  by_cases hz : lenB zs = 0
  · have hB0 : badB zs = 0 := by unfold badB; rw [if_pos hz]
    rw [hB0]
    have c0 : w.cell? ⟨b, off, none⟩ = some (.int .u8 (nth zs 0 : Nat)) := hb.nat (i := 0) (by omega)
    have kl := xlength_any (nth zs 0) w
    rw [show lenN (nth zs 0) = 0 from hz] at kl
    clear hg hb hB0 hz hl
    generalize nth zs 0 = c at *
    go_enter Tryz.func138, Tryz.ntmps138
    go_wp2_with (go_at_call 171; refine kl.mono ?_; rintro e w' ⟨rfl, hw⟩; obtain rfl : w = w' := hw.symm)
    go_ret2
    exact ⟨rfl, 0, rfl⟩
  · obtain ⟨h1, h2, h3, h4⟩ := bad_okAt hl hg hz
    have hle : badB zs ≤ n := by
      rw [← hl]
      exact bad_le (fun h => by rw [h] at hl; simp at hl; omega) hg
    exact xfirst_any b off n cap zs w hl h0 hb hn hz (badB zs) h2 h3 _ (.inr ⟨h1, h4, rfl, hle⟩)

end Go.Proofs.YtnjbppfanmmifaaGreatDoor
namespace Go.Proofs.YtnjbppfanmmifaaGreatDoor
open Go.RowKit

theorem rr_good {zs : List Int} {p : Nat} {ls : List Nat} (h : runesL zs = (ls ++ (runesL (zs.drop p)).1, (runesL (zs.drop p)).2.map (p + ·))) (h0 : zs.drop p ≠ []) (hg : Good (zs.drop p)) :
    runesL zs = ((ls ++ [valB (zs.drop p)]) ++ (runesL (zs.drop (p + lenB (zs.drop p)))).1, (runesL (zs.drop (p + lenB (zs.drop p)))).2.map (p + lenB (zs.drop p) + ·)) := by
  rw [h, runes_good h0 hg, List.drop_drop]
  simp only [List.append_assoc, List.singleton_append, Option.map_map, Prod.mk.injEq, true_and]
  congr 1
  funext x
  simp only [Function.comp_apply]
  omega
theorem rr_bad {zs : List Int} {p : Nat} {ls : List Nat} (h : runesL zs = (ls ++ (runesL (zs.drop p)).1, (runesL (zs.drop p)).2.map (p + ·))) (h0 : zs.drop p ≠ []) (hg : ¬ Good (zs.drop p)) :
    (runesL zs).2 = some (p + badB (zs.drop p)) := by
  rw [h, runes_bad h0 hg]
  rfl
theorem rr_end {zs : List Int} {p : Nat} {ls : List Nat} (h : runesL zs = (ls ++ (runesL (zs.drop p)).1, (runesL (zs.drop p)).2.map (p + ·))) (hp : zs.length ≤ p) :
    runesL zs = (ls, none) := by
  rw [h, List.drop_of_length_le hp, runes_nil]
  simp

set_option maxHeartbeats 2000000 in
theorem xrunes_any (a : Option Addr) (n cap : Nat) (zs : List Int) (w : World) (hl : zs.length = n) (hb : Bytes w a zs) (hc : n ≤ cap) (hn : n ≤ 1099511627776) :
    Calls Tryz.prog 96 #[.slice a n cap] w fun e w' => ∃ v, e = .returned (.tuple #[v, .agg #[.int .i64 (whyL zs : Nat), .int .i64 (atL zs : Nat)]]) ∧ OwnsJ w' w.heap.size v (txtL zs) ∧ Below w.heap.size w w' := by
  by_cases h0 : n = 0
  · subst h0
    obtain rfl := List.eq_nil_of_length_eq_zero hl
    obtain ⟨h1, h2, h3⟩ := why_none (zs := []) (by rw [runes_nil])
    rw [runes_nil] at h3
    rw [h1, h2, h3]
    clear hb hl h1 h2 h3
    go_enter Tryz.func96, Tryz.ntmps96
    go_wp2
    refine wp_loop_rounds 1 ?_
    rw [rounds_succ]
    go_wp2
    refine bodyPost_ret (v := .tuple #[.slice none 0 0, .agg #[.int .i64 0, .int .i64 0]]) (by simp [results, Tryz.results96, go_sem]) rfl ⟨_, rfl, ownsJ_nil _ _, ?_⟩
    exact (Below.refl _ _).alloc (Nat.le_refl _) _
  · obtain ⟨b, off, rfl⟩ := bytes_some hb (by omega)
    have hB : Hid (Bytes (w.alloc (.cells #[.int .i64 0, .int .i64 0] 29)) (some ⟨b, off, none⟩) zs) := hb.kept ((Below.refl _ _).alloc (Nat.le_refl _) _)
    have hL : Hid (zs.length = n) := hl
    have hF0 : Hid (FAt (w.alloc (.cells #[.int .i64 0, .int .i64 0] 29)) w.heap.size 0 0) := heap_alloc_new w _
    have hbW : Hid (Below w.heap.size w (w.alloc (.cells #[.int .i64 0, .int .i64 0] 29))) := (Below.refl _ _).alloc (Nat.le_refl _) _
    have hsz0 : Hid ((w.alloc (.cells #[.int .i64 0, .int .i64 0] 29)).heap.size = w.heap.size + 1) := by show _ = _; simp
    clear hb hl h0
    go_enter Tryz.func96, Tryz.ntmps96
    go_wp2
    go_loopw [4, 5] (fun v i wr => ∃ (p : Nat) (ls : List Nat), p ≤ n ∧ i = .int .i64 p ∧ Hid (OwnsJ wr (w.heap.size + 1) v (ints ls)) ∧ Hid (runesL zs = (ls ++ (runesL (zs.drop p)).1, (runesL (zs.drop p)).2.map (p + ·))) ∧ Hid (ls.length ≤ p) ∧ Hid (Below (w.heap.size + 1) (w.alloc (.cells #[.int .i64 0, .int .i64 0] 29)) wr)) (fun _ i _ => n - (intOf i).toNat)
    case atStart => exact ⟨0, [], Nat.zero_le _, rfl, ownsJ_nil _ _, (by show _ = _; simp), Nat.zero_le _, Below.refl _ _⟩
    case round =>
      obtain ⟨p, ls, hp, rfl, hown, hrn, hmany, hbr⟩ := hrel
      have hsz := hbr.out.size
      rw [hsz0.out] at hsz
      have hFr : FAt wr w.heap.size 0 0 := by
        unfold FAt
        rw [hbr.out.block w.heap.size (by omega)]
        exact hF0.out
      have hbw : Hid (Below w.heap.size w wr) := hbW.out.trans (hbr.out.mono (by omega))
      by_cases hlt : p < n
      · have hx : zs.drop p ≠ [] := by intro h; have := congrArg List.length h; rw [List.length_drop, hL.out] at this; simp at this; omega
        have hBr : Bytes wr (some ⟨b, off + p, none⟩) (zs.drop p) := (hB.out.below hbr.out (fun x hx0 hne => by
          have h1 := hB.out
          rw [hx0] at h1
          have := h1.lt hne
          rw [hsz0.out] at this
          exact this)).drop p
        have hDl : (zs.drop p).length = n - p := by rw [List.length_drop, hL.out]
        have i1 : (cap = p) = False := by simp; omega
        have i2 : (p : Int) ≤ (n : Int) := by omega
        have j1 : (p : Int) < (n : Int) := by omega
        by_cases hg : Good (zs.drop p)
        · have k1 := xfirst_good b (off + p) (n - p) (cap - p) (zs.drop p) wr hDl (by omega) hBr (by omega) hg
          have hne := good_ne hg hx
          rw [hDl] at hne
          have k2 := fun w1 (h : Bytes w1 (some ⟨b, off + p, none⟩) (zs.drop p)) => xvalue_any b (off + p) (cap - p) (zs.drop p) w1 hg (by rw [hDl]; exact hne.2.1) h
          have k2' : Hid _ := k2
          have hBr' : Hid (Bytes wr (some ⟨b, off + p, none⟩) (zs.drop p)) := hBr
          have hR := (good_right hg).1
          have hwr : IntKind.i32.wrap ((valB (zs.drop p) : Nat) : Int) = ((valB (zs.drop p) : Nat) : Int) := by rw [IntKind.wrap_i32]; omega
          have hrn2 : Hid _ := rr_good hrn.out hx hg
          clear hx hBr hDl hg k2 hrn hR hFr
          generalize valB (zs.drop p) = V at *
          generalize lenB (zs.drop p) = L at *
          have i3 : ((p : Int) + (L : Int)) ≤ (n : Int) := by omega
          have i4 : (p : Int) ≤ (p : Int) + (L : Int) := by omega
          go_wp2_with fail
          refine k1.mono ?_
          rintro e w1 ⟨rfl, q1, hw1⟩
          have hb1 : Below wr.heap.size wr w1 := by rw [hw1]; exact below_drewN (Below.refl _ _) q1
          have k3 := k2'.out w1 (hBr'.out.kept hb1)
          clear hw1 k1
          go_wp2_with fail
          refine k3.mono ?_
          rintro e w2 ⟨rfl, q2, hw2⟩
          have hb2 : Below wr.heap.size wr w2 := hb1.trans (by rw [hw2]; exact below_drewN (Below.refl _ _) q2)
          have ho2 : Hid (OwnsJ w2 (w.heap.size + 1) u4 (ints ls)) := hown.out.below hb2
          have hbr2 : Hid (Below (w.heap.size + 1) (w.alloc (.cells #[.int .i64 0, .int .i64 0] 29)) w2) := hbr.out.trans (hb2.mono hsz)
          have hs2 : w.heap.size + 1 ≤ w2.heap.size := Nat.le_trans hsz hb2.size
          clear hw2 k3 hb1 hb2 hown hbr hBr'
          go_wp2_with (at_builtin; refine wpList_append_jnts rfl _ (.tmp 34) rfl (w.heap.size + 1) u4 (ints ls) [((V : Nat) : Int)] rfl (ho2.out.alloc _) (some ⟨w2.heap.size, 0, none⟩) 1 1 rfl rfl (by simp) (one_rune w2 _) (by rw [jnts_len]; have := hmany.out; simp; omega) (by simp; omega) ?_; intro v3 w3 ho3 hg3; have hb3 := grownJ_below (hbr2.out.alloc hs2 _) (ho2.out.alloc _) hg3 (by simp; omega); clear hg3)
          go_roundw
          case rel => exact ⟨p + L, ls ++ [V], by omega, by go_num, (by show OwnsJ _ _ _ _; unfold ints; rw [List.map_append]; exact ho3), hrn2, (by show _ ≤ _; have := hmany.out; simp only [List.length_append, List.length_cons, List.length_nil]; omega), hb3⟩
          case measure => simp [intOf]; omega
        · have k1 := xfirst_bad b (off + p) (n - p) (cap - p) (zs.drop p) wr hDl (by omega) hBr (by omega) hg
          have hf := rr_bad hrn.out hx hg
          obtain ⟨h1, h2, h3⟩ := why_some hf
          have hY : Hid (whyL zs = 6 ∧ atL zs = p + badB (zs.drop p) ∧ txtL zs = []) := ⟨h1, h2, h3⟩
          have hle : p + badB (zs.drop p) ≤ n := by rw [← hL.out]; exact fault_le zs _ hf
          clear hx hBr hDl hg hrn hf h1 h2 h3
          generalize badB (zs.drop p) = B at *
          go_wp2_with fail
          refine k1.mono ?_
          rintro e w1 ⟨rfl, q1, hw1⟩
          have hb1 : Below wr.heap.size wr w1 := by rw [hw1]; exact below_drewN (Below.refl _ _) q1
          have hF1 := hFr.kept hb1
          have c0 := hF1.c0
          have c1 := hF1.c1
          have f0 := hF1.fz 0
          have f1 := hF1.fz 1
          have hbw1 : Below w.heap.size w w1 := hbw.out.trans (hb1.mono (by omega))
          have i5 : (0 : Int) ≤ (B : Int) := by omega
          clear hw1 k1 hb1 hown hbr
          go_wp2
          refine bodyPost_ret (v := .tuple #[.slice none 0 0, .agg #[.int .i64 6, .int .i64 ((p + B : Nat) : Int)]]) (by simp [results, Tryz.results96, go_sem, *]) rfl ⟨_, by rw [hY.out.1, hY.out.2.1]; rfl, ?_, ?_⟩
          · rw [hY.out.2.2]; exact ownsJ_nil _ _
          · exact (hbw1.setCell (Nat.le_refl _) _).setCell (Nat.le_refl _) _
      · have he := rr_end hrn.out (by rw [hL.out]; omega)
        obtain ⟨h1, h2, h3⟩ := why_none (zs := zs) (by rw [he])
        rw [he] at h3
        have hY : Hid (whyL zs = 0 ∧ atL zs = 0 ∧ txtL zs = ints ls) := ⟨h1, h2, h3⟩
        have c0 := hFr.c0
        have c1 := hFr.c1
        have f0 := hFr.fz 0
        have f1 := hFr.fz 1
        clear he h1 h2 h3 hrn
        go_wp2
        refine bodyPost_ret (v := .tuple #[u4, .agg #[.int .i64 0, .int .i64 0]]) (by simp [results, Tryz.results96, go_sem, *]) rfl ⟨_, by rw [hY.out.1, hY.out.2.1]; rfl, ?_, ?_⟩
        · rw [hY.out.2.2]
          exact ((hown.out.low (a := ⟨w.heap.size, 0, none⟩) (Nat.lt_succ_self _) _).low (a := ⟨w.heap.size, 1, none⟩) (Nat.lt_succ_self _) _).base (Nat.le_succ _)
        · exact (hbw.out.setCell (Nat.le_refl _) _).setCell (Nat.le_refl _) _
end Go.Proofs.YtnjbppfanmmifaaGreatDoor
namespace Go.Proofs.YtnjbppfanmmifaaGreatDoor
open Go.RowKit
set_option linter.unusedVariables false

set_option maxHeartbeats 8000000 in
set_option maxRecDepth 100000 in
theorem ealone_k1 {D : Nat} {t : Tr} {b : Nb} {w : World} (hN : Nd (D + 1) w b t) (hK : b.kind = 1) : Calls Tryz.prog 60 #[.agg b.arr] w fun e w' => e = .returned (.int .i64 (alF t)) ∧ Below w.heap.size w w' := by
  have hal := alloc_below w (.cells b.arr 26)
  have B0 : Hid (Below w.heap.size w (w.alloc (.cells b.arr 26))) := hal
  have Q0 : Hid (NBox (w.alloc (.cells b.arr 26)) w.heap.size b) := nbox_new w b
  obtain ⟨a0, a1, a2, a3, a4, a5, a6, a7, a8⟩ := (nbox_new w b).fields
  have rk := hN.2.2.2.1.2.1
  have ri := hN.2.2.2.2.2.1
  have kB := bare_any b (w.alloc (.cells b.arr 26))
  have kS : Hid (∀ w', Below w.heap.size w w' → Calls Tryz.prog 33 #[.agg (bar b).arr, .agg b.arr] w' fun e w'' => e = .returned (.bool t.clean) ∧ Below w'.heap.size w' w'') := fun w' hb => esam_any (nd_bar (hN.kept hb)) (hN.kept hb) (Tr.clean_iff t)
  have hk : b.kind = t.kind := hN.1.1
  have hnum : b.num = t.num := hN.1.2.1
  have hneg : b.neg = t.neg := hN.1.2.2.1
  have hdig : b.dig = t.dig := hN.1.2.2.2.1
  have hexp : b.exp = t.exp := hN.1.2.2.2.2.1
  have htxt : b.txt = t.txt := hN.1.2.2.2.2.2
  have hlb : t.bytes.length = b.lb := hN.2.2.1.1
  have hlk : t.keys.length = b.lk := hN.2.2.2.1.1
  have hli : t.kids.length = b.li := hN.2.2.2.2.1
  have mb1 := hN.2.2.1.2.1.1
  have mb2 := hN.2.2.1.2.1.2.1
  have mk1 := rk.1
  have mk2 := rk.2.1
  have mi1 := ri.1
  have mi2 := ri.2.1
  unfold maxLen at mb2 mk2 mi2
  have mt : b.txt.size ≤ 140737488351232 := by rw [htxt]; exact hN.2.1.2.2.2.2
  have hA : alF t = if (b.kind = 5 ∧ 4096 < b.txt.size) ∨ (b.kind = 6 ∧ 4096 < b.lb) then 8
    else if b.kind = 5 ∧ gtx b.txt = false then 6
    else if b.kind = 2 ∧ (rt b.dig = false ∨ (b.neg = true ∧ b.dig = ⟨#[48]⟩)) then 11
    else if b.kind = 3 ∧ rdN b.neg b.dig b.exp = false then 11
    else if t.odd = true then 12 else 0 := by
    rw [hk, hneg, hdig, hexp, htxt, ← hlb]; rfl
  have hO := odd_doc hN
  have hkk : Hid (b.kind = t.kind) := hk
  clear hneg hdig hexp htxt hlb hlk hli hnum hN hk hal rk ri
  have e1 : (b.kind == 1) = true := by rw [hK]; decide
  have e2 : (b.kind == 2) = false := by rw [hK]; decide
  have e3 : (b.kind == 3) = false := by rw [hK]; decide
  have e5 : (b.kind == 5) = false := by rw [hK]; decide
  have e6 : (b.kind == 6) = false := by rw [hK]; decide
  have e8 : (b.kind == 8) = false := by rw [hK]; decide
  have e9 : (b.kind == 9) = false := by rw [hK]; decide
  have e10 : (b.kind == 10) = false := by rw [hK]; decide
  have d0 : decide (b.kind < 0) = false := by rw [hK]; decide
  have d10 : decide (10 < b.kind) = false := by rw [hK]; decide
  rw [if_neg (by omega), if_neg (by omega), if_neg (by omega), if_neg (by omega)] at hA
  rw [d0, d10, e1, e8, e9, e10] at hO
  clear hK
  cases hc : t.clean with
  | false =>
    rw [hO, hc] at hA
    rw [hc] at kS
    have hR : alF t = 12 := by rw [hA]; simp
    rw [hR]
    clear hA hO hc hR
    go_enter Tryz.func60, Tryz.ntmps60
    go_wp2_with (first
      | (go_at_call 95; refine kB.mono ?_; rintro e w1 ⟨he, hb1⟩; rw [Nb.arr] at he; subst he; clear kB a0 a1 a2 a3 a4 a5 a6 a7 a8; have A1 := alloc_below w1 (.cells #[.int .i64 (bar b).kind, .int .u64 (bar b).num, .bool (bar b).neg, .string (bar b).dig, .int .i64 (bar b).exp, .string (bar b).txt, .slice (bar b).ab (bar b).lb (bar b).cb, .slice (bar b).ak (bar b).lk (bar b).ck, .slice (bar b).ai (bar b).li (bar b).ci] 26); have b1 : Below (w.alloc (.cells b.arr 26)).heap.size (w.alloc (.cells b.arr 26)) (w1.alloc (.cells #[.int .i64 (bar b).kind, .int .u64 (bar b).num, .bool (bar b).neg, .string (bar b).dig, .int .i64 (bar b).exp, .string (bar b).txt, .slice (bar b).ab (bar b).lb (bar b).cb, .slice (bar b).ak (bar b).lk (bar b).ck, .slice (bar b).ai (bar b).li (bar b).ci] 26)) := hb1.trans (A1.mono hb1.size); have Q1 : Hid (NBox (w1.alloc (.cells #[.int .i64 (bar b).kind, .int .u64 (bar b).num, .bool (bar b).neg, .string (bar b).dig, .int .i64 (bar b).exp, .string (bar b).txt, .slice (bar b).ab (bar b).lb (bar b).cb, .slice (bar b).ak (bar b).lk (bar b).ck, .slice (bar b).ai (bar b).li (bar b).ci] 26)) w.heap.size b) := Q0.out.kept b1 Q0.out.lt; have X1 : Hid (NBox (w1.alloc (.cells #[.int .i64 (bar b).kind, .int .u64 (bar b).num, .bool (bar b).neg, .string (bar b).dig, .int .i64 (bar b).exp, .string (bar b).txt, .slice (bar b).ab (bar b).lb (bar b).cb, .slice (bar b).ak (bar b).lk (bar b).ck, .slice (bar b).ai (bar b).li (bar b).ci] 26)) w1.heap.size (bar b)) := nbox_new w1 (bar b); have B1 : Hid (Below w.heap.size w (w1.alloc (.cells #[.int .i64 (bar b).kind, .int .u64 (bar b).num, .bool (bar b).neg, .string (bar b).dig, .int .i64 (bar b).exp, .string (bar b).txt, .slice (bar b).ab (bar b).lb (bar b).cb, .slice (bar b).ak (bar b).lk (bar b).ck, .slice (bar b).ai (bar b).li (bar b).ci] 26))) := B0.out.trans (b1.mono B0.out.size); obtain ⟨a0, a1, a2, a3, a4, a5, a6, a7, a8⟩ := Q1.out.fields; obtain ⟨x0, x1, x2, x3, x4, x5, x6, x7, x8⟩ := X1.out.fields)
      | (have kS1 := kS.out _ B1.out; go_at_call 33; refine kS1.mono ?_; rintro e w9 ⟨rfl, hb9⟩; clear kS1; clear a0 a1 a2 a3 a4 a5 a6 a7 a8 x0 x1 x2 x3 x4 x5 x6 x7 x8; have Q9 : Hid (NBox w9 w.heap.size b) := Q1.out.kept hb9 Q1.out.lt; have X9 : Hid (NBox w9 w1.heap.size (bar b)) := X1.out.kept hb9 X1.out.lt; have B9 : Hid (Below w.heap.size w w9) := B1.out.trans (hb9.mono B1.out.size); obtain ⟨a0, a1, a2, a3, a4, a5, a6, a7, a8⟩ := Q9.out.fields; obtain ⟨x0, x1, x2, x3, x4, x5, x6, x7, x8⟩ := X9.out.fields))
    go_ret
    exact ⟨rfl, B9.out⟩
  | true =>
    rw [hO, hc] at hA
    rw [hc] at kS
    cases hq : decide (1 < b.num) with
    | false =>
      rw [hq] at hA
      have hR : alF t = 0 := by rw [hA]; simp [*]
      rw [hR]
      clear hA hO hc hR
      go_enter Tryz.func60, Tryz.ntmps60
      go_wp2_with (first
        | (go_at_call 95; refine kB.mono ?_; rintro e w1 ⟨he, hb1⟩; rw [Nb.arr] at he; subst he; clear kB a0 a1 a2 a3 a4 a5 a6 a7 a8; have A1 := alloc_below w1 (.cells #[.int .i64 (bar b).kind, .int .u64 (bar b).num, .bool (bar b).neg, .string (bar b).dig, .int .i64 (bar b).exp, .string (bar b).txt, .slice (bar b).ab (bar b).lb (bar b).cb, .slice (bar b).ak (bar b).lk (bar b).ck, .slice (bar b).ai (bar b).li (bar b).ci] 26); have b1 : Below (w.alloc (.cells b.arr 26)).heap.size (w.alloc (.cells b.arr 26)) (w1.alloc (.cells #[.int .i64 (bar b).kind, .int .u64 (bar b).num, .bool (bar b).neg, .string (bar b).dig, .int .i64 (bar b).exp, .string (bar b).txt, .slice (bar b).ab (bar b).lb (bar b).cb, .slice (bar b).ak (bar b).lk (bar b).ck, .slice (bar b).ai (bar b).li (bar b).ci] 26)) := hb1.trans (A1.mono hb1.size); have Q1 : Hid (NBox (w1.alloc (.cells #[.int .i64 (bar b).kind, .int .u64 (bar b).num, .bool (bar b).neg, .string (bar b).dig, .int .i64 (bar b).exp, .string (bar b).txt, .slice (bar b).ab (bar b).lb (bar b).cb, .slice (bar b).ak (bar b).lk (bar b).ck, .slice (bar b).ai (bar b).li (bar b).ci] 26)) w.heap.size b) := Q0.out.kept b1 Q0.out.lt; have X1 : Hid (NBox (w1.alloc (.cells #[.int .i64 (bar b).kind, .int .u64 (bar b).num, .bool (bar b).neg, .string (bar b).dig, .int .i64 (bar b).exp, .string (bar b).txt, .slice (bar b).ab (bar b).lb (bar b).cb, .slice (bar b).ak (bar b).lk (bar b).ck, .slice (bar b).ai (bar b).li (bar b).ci] 26)) w1.heap.size (bar b)) := nbox_new w1 (bar b); have B1 : Hid (Below w.heap.size w (w1.alloc (.cells #[.int .i64 (bar b).kind, .int .u64 (bar b).num, .bool (bar b).neg, .string (bar b).dig, .int .i64 (bar b).exp, .string (bar b).txt, .slice (bar b).ab (bar b).lb (bar b).cb, .slice (bar b).ak (bar b).lk (bar b).ck, .slice (bar b).ai (bar b).li (bar b).ci] 26))) := B0.out.trans (b1.mono B0.out.size); obtain ⟨a0, a1, a2, a3, a4, a5, a6, a7, a8⟩ := Q1.out.fields; obtain ⟨x0, x1, x2, x3, x4, x5, x6, x7, x8⟩ := X1.out.fields)
        | (have kS1 := kS.out _ B1.out; go_at_call 33; refine kS1.mono ?_; rintro e w9 ⟨rfl, hb9⟩; clear kS1; clear a0 a1 a2 a3 a4 a5 a6 a7 a8 x0 x1 x2 x3 x4 x5 x6 x7 x8; have Q9 : Hid (NBox w9 w.heap.size b) := Q1.out.kept hb9 Q1.out.lt; have X9 : Hid (NBox w9 w1.heap.size (bar b)) := X1.out.kept hb9 X1.out.lt; have B9 : Hid (Below w.heap.size w w9) := B1.out.trans (hb9.mono B1.out.size); obtain ⟨a0, a1, a2, a3, a4, a5, a6, a7, a8⟩ := Q9.out.fields; obtain ⟨x0, x1, x2, x3, x4, x5, x6, x7, x8⟩ := X9.out.fields))
      go_ret
      exact ⟨rfl, B9.out⟩
    | true =>
      rw [hq] at hA
      have hR : alF t = 12 := by rw [hA]; simp [*]
      rw [hR]
      clear hA hO hc hR
      go_enter Tryz.func60, Tryz.ntmps60
      go_wp2_with (first
        | (go_at_call 95; refine kB.mono ?_; rintro e w1 ⟨he, hb1⟩; rw [Nb.arr] at he; subst he; clear kB a0 a1 a2 a3 a4 a5 a6 a7 a8; have A1 := alloc_below w1 (.cells #[.int .i64 (bar b).kind, .int .u64 (bar b).num, .bool (bar b).neg, .string (bar b).dig, .int .i64 (bar b).exp, .string (bar b).txt, .slice (bar b).ab (bar b).lb (bar b).cb, .slice (bar b).ak (bar b).lk (bar b).ck, .slice (bar b).ai (bar b).li (bar b).ci] 26); have b1 : Below (w.alloc (.cells b.arr 26)).heap.size (w.alloc (.cells b.arr 26)) (w1.alloc (.cells #[.int .i64 (bar b).kind, .int .u64 (bar b).num, .bool (bar b).neg, .string (bar b).dig, .int .i64 (bar b).exp, .string (bar b).txt, .slice (bar b).ab (bar b).lb (bar b).cb, .slice (bar b).ak (bar b).lk (bar b).ck, .slice (bar b).ai (bar b).li (bar b).ci] 26)) := hb1.trans (A1.mono hb1.size); have Q1 : Hid (NBox (w1.alloc (.cells #[.int .i64 (bar b).kind, .int .u64 (bar b).num, .bool (bar b).neg, .string (bar b).dig, .int .i64 (bar b).exp, .string (bar b).txt, .slice (bar b).ab (bar b).lb (bar b).cb, .slice (bar b).ak (bar b).lk (bar b).ck, .slice (bar b).ai (bar b).li (bar b).ci] 26)) w.heap.size b) := Q0.out.kept b1 Q0.out.lt; have X1 : Hid (NBox (w1.alloc (.cells #[.int .i64 (bar b).kind, .int .u64 (bar b).num, .bool (bar b).neg, .string (bar b).dig, .int .i64 (bar b).exp, .string (bar b).txt, .slice (bar b).ab (bar b).lb (bar b).cb, .slice (bar b).ak (bar b).lk (bar b).ck, .slice (bar b).ai (bar b).li (bar b).ci] 26)) w1.heap.size (bar b)) := nbox_new w1 (bar b); have B1 : Hid (Below w.heap.size w (w1.alloc (.cells #[.int .i64 (bar b).kind, .int .u64 (bar b).num, .bool (bar b).neg, .string (bar b).dig, .int .i64 (bar b).exp, .string (bar b).txt, .slice (bar b).ab (bar b).lb (bar b).cb, .slice (bar b).ak (bar b).lk (bar b).ck, .slice (bar b).ai (bar b).li (bar b).ci] 26))) := B0.out.trans (b1.mono B0.out.size); obtain ⟨a0, a1, a2, a3, a4, a5, a6, a7, a8⟩ := Q1.out.fields; obtain ⟨x0, x1, x2, x3, x4, x5, x6, x7, x8⟩ := X1.out.fields)
        | (have kS1 := kS.out _ B1.out; go_at_call 33; refine kS1.mono ?_; rintro e w9 ⟨rfl, hb9⟩; clear kS1; clear a0 a1 a2 a3 a4 a5 a6 a7 a8 x0 x1 x2 x3 x4 x5 x6 x7 x8; have Q9 : Hid (NBox w9 w.heap.size b) := Q1.out.kept hb9 Q1.out.lt; have X9 : Hid (NBox w9 w1.heap.size (bar b)) := X1.out.kept hb9 X1.out.lt; have B9 : Hid (Below w.heap.size w w9) := B1.out.trans (hb9.mono B1.out.size); obtain ⟨a0, a1, a2, a3, a4, a5, a6, a7, a8⟩ := Q9.out.fields; obtain ⟨x0, x1, x2, x3, x4, x5, x6, x7, x8⟩ := X9.out.fields))
      go_ret
      exact ⟨rfl, B9.out⟩
set_option maxHeartbeats 8000000 in
set_option maxRecDepth 100000 in
theorem ealone_k8 {D : Nat} {t : Tr} {b : Nb} {w : World} (hN : Nd (D + 1) w b t) (hK : b.kind = 8) : Calls Tryz.prog 60 #[.agg b.arr] w fun e w' => e = .returned (.int .i64 (alF t)) ∧ Below w.heap.size w w' := by
  have hal := alloc_below w (.cells b.arr 26)
  have B0 : Hid (Below w.heap.size w (w.alloc (.cells b.arr 26))) := hal
  have Q0 : Hid (NBox (w.alloc (.cells b.arr 26)) w.heap.size b) := nbox_new w b
  obtain ⟨a0, a1, a2, a3, a4, a5, a6, a7, a8⟩ := (nbox_new w b).fields
  have rk := hN.2.2.2.1.2.1
  have ri := hN.2.2.2.2.2.1
  have kB := bare_any b (w.alloc (.cells b.arr 26))
  have kS : Hid (∀ w', Below w.heap.size w w' → Calls Tryz.prog 33 #[.agg (bar b).arr, .agg b.arr] w' fun e w'' => e = .returned (.bool t.clean) ∧ Below w'.heap.size w' w'') := fun w' hb => esam_any (nd_bar (hN.kept hb)) (hN.kept hb) (Tr.clean_iff t)
  have hk : b.kind = t.kind := hN.1.1
  have hnum : b.num = t.num := hN.1.2.1
  have hneg : b.neg = t.neg := hN.1.2.2.1
  have hdig : b.dig = t.dig := hN.1.2.2.2.1
  have hexp : b.exp = t.exp := hN.1.2.2.2.2.1
  have htxt : b.txt = t.txt := hN.1.2.2.2.2.2
  have hlb : t.bytes.length = b.lb := hN.2.2.1.1
  have hlk : t.keys.length = b.lk := hN.2.2.2.1.1
  have hli : t.kids.length = b.li := hN.2.2.2.2.1
  have mb1 := hN.2.2.1.2.1.1
  have mb2 := hN.2.2.1.2.1.2.1
  have mk1 := rk.1
  have mk2 := rk.2.1
  have mi1 := ri.1
  have mi2 := ri.2.1
  unfold maxLen at mb2 mk2 mi2
  have mt : b.txt.size ≤ 140737488351232 := by rw [htxt]; exact hN.2.1.2.2.2.2
  have hA : alF t = if (b.kind = 5 ∧ 4096 < b.txt.size) ∨ (b.kind = 6 ∧ 4096 < b.lb) then 8
    else if b.kind = 5 ∧ gtx b.txt = false then 6
    else if b.kind = 2 ∧ (rt b.dig = false ∨ (b.neg = true ∧ b.dig = ⟨#[48]⟩)) then 11
    else if b.kind = 3 ∧ rdN b.neg b.dig b.exp = false then 11
    else if t.odd = true then 12 else 0 := by
    rw [hk, hneg, hdig, hexp, htxt, ← hlb]; rfl
  have hO := odd_doc hN
  have hkk : Hid (b.kind = t.kind) := hk
  clear hneg hdig hexp htxt hlb hlk hli hnum hN hk hal rk ri
  have e1 : (b.kind == 1) = false := by rw [hK]; decide
  have e2 : (b.kind == 2) = false := by rw [hK]; decide
  have e3 : (b.kind == 3) = false := by rw [hK]; decide
  have e5 : (b.kind == 5) = false := by rw [hK]; decide
  have e6 : (b.kind == 6) = false := by rw [hK]; decide
  have e8 : (b.kind == 8) = true := by rw [hK]; decide
  have e9 : (b.kind == 9) = false := by rw [hK]; decide
  have e10 : (b.kind == 10) = false := by rw [hK]; decide
  have d0 : decide (b.kind < 0) = false := by rw [hK]; decide
  have d10 : decide (10 < b.kind) = false := by rw [hK]; decide
  rw [if_neg (by omega), if_neg (by omega), if_neg (by omega), if_neg (by omega)] at hA
  rw [d0, d10, e1, e8, e9, e10] at hO
  clear hK
  cases hc : t.clean with
  | false =>
    rw [hO, hc] at hA
    rw [hc] at kS
    have hR : alF t = 12 := by rw [hA]; simp
    rw [hR]
    clear hA hO hc hR
    go_enter Tryz.func60, Tryz.ntmps60
    go_wp2_with (first
      | (go_at_call 95; refine kB.mono ?_; rintro e w1 ⟨he, hb1⟩; rw [Nb.arr] at he; subst he; clear kB a0 a1 a2 a3 a4 a5 a6 a7 a8; have A1 := alloc_below w1 (.cells #[.int .i64 (bar b).kind, .int .u64 (bar b).num, .bool (bar b).neg, .string (bar b).dig, .int .i64 (bar b).exp, .string (bar b).txt, .slice (bar b).ab (bar b).lb (bar b).cb, .slice (bar b).ak (bar b).lk (bar b).ck, .slice (bar b).ai (bar b).li (bar b).ci] 26); have b1 : Below (w.alloc (.cells b.arr 26)).heap.size (w.alloc (.cells b.arr 26)) (w1.alloc (.cells #[.int .i64 (bar b).kind, .int .u64 (bar b).num, .bool (bar b).neg, .string (bar b).dig, .int .i64 (bar b).exp, .string (bar b).txt, .slice (bar b).ab (bar b).lb (bar b).cb, .slice (bar b).ak (bar b).lk (bar b).ck, .slice (bar b).ai (bar b).li (bar b).ci] 26)) := hb1.trans (A1.mono hb1.size); have Q1 : Hid (NBox (w1.alloc (.cells #[.int .i64 (bar b).kind, .int .u64 (bar b).num, .bool (bar b).neg, .string (bar b).dig, .int .i64 (bar b).exp, .string (bar b).txt, .slice (bar b).ab (bar b).lb (bar b).cb, .slice (bar b).ak (bar b).lk (bar b).ck, .slice (bar b).ai (bar b).li (bar b).ci] 26)) w.heap.size b) := Q0.out.kept b1 Q0.out.lt; have X1 : Hid (NBox (w1.alloc (.cells #[.int .i64 (bar b).kind, .int .u64 (bar b).num, .bool (bar b).neg, .string (bar b).dig, .int .i64 (bar b).exp, .string (bar b).txt, .slice (bar b).ab (bar b).lb (bar b).cb, .slice (bar b).ak (bar b).lk (bar b).ck, .slice (bar b).ai (bar b).li (bar b).ci] 26)) w1.heap.size (bar b)) := nbox_new w1 (bar b); have B1 : Hid (Below w.heap.size w (w1.alloc (.cells #[.int .i64 (bar b).kind, .int .u64 (bar b).num, .bool (bar b).neg, .string (bar b).dig, .int .i64 (bar b).exp, .string (bar b).txt, .slice (bar b).ab (bar b).lb (bar b).cb, .slice (bar b).ak (bar b).lk (bar b).ck, .slice (bar b).ai (bar b).li (bar b).ci] 26))) := B0.out.trans (b1.mono B0.out.size); obtain ⟨a0, a1, a2, a3, a4, a5, a6, a7, a8⟩ := Q1.out.fields; obtain ⟨x0, x1, x2, x3, x4, x5, x6, x7, x8⟩ := X1.out.fields)
      | (have kS1 := kS.out _ B1.out; go_at_call 33; refine kS1.mono ?_; rintro e w9 ⟨rfl, hb9⟩; clear kS1; clear a0 a1 a2 a3 a4 a5 a6 a7 a8 x0 x1 x2 x3 x4 x5 x6 x7 x8; have Q9 : Hid (NBox w9 w.heap.size b) := Q1.out.kept hb9 Q1.out.lt; have X9 : Hid (NBox w9 w1.heap.size (bar b)) := X1.out.kept hb9 X1.out.lt; have B9 : Hid (Below w.heap.size w w9) := B1.out.trans (hb9.mono B1.out.size); obtain ⟨a0, a1, a2, a3, a4, a5, a6, a7, a8⟩ := Q9.out.fields; obtain ⟨x0, x1, x2, x3, x4, x5, x6, x7, x8⟩ := X9.out.fields))
    go_ret
    exact ⟨rfl, B9.out⟩
  | true =>
    rw [hO, hc] at hA
    rw [hc] at kS
    cases hq : ((b.lk : Int) != (b.li : Int)) with
    | false =>
      rw [hq] at hA
      have hR : alF t = 0 := by rw [hA]; simp [*]
      rw [hR]
      clear hA hO hc hR
      go_enter Tryz.func60, Tryz.ntmps60
      go_wp2_with (first
        | (go_at_call 95; refine kB.mono ?_; rintro e w1 ⟨he, hb1⟩; rw [Nb.arr] at he; subst he; clear kB a0 a1 a2 a3 a4 a5 a6 a7 a8; have A1 := alloc_below w1 (.cells #[.int .i64 (bar b).kind, .int .u64 (bar b).num, .bool (bar b).neg, .string (bar b).dig, .int .i64 (bar b).exp, .string (bar b).txt, .slice (bar b).ab (bar b).lb (bar b).cb, .slice (bar b).ak (bar b).lk (bar b).ck, .slice (bar b).ai (bar b).li (bar b).ci] 26); have b1 : Below (w.alloc (.cells b.arr 26)).heap.size (w.alloc (.cells b.arr 26)) (w1.alloc (.cells #[.int .i64 (bar b).kind, .int .u64 (bar b).num, .bool (bar b).neg, .string (bar b).dig, .int .i64 (bar b).exp, .string (bar b).txt, .slice (bar b).ab (bar b).lb (bar b).cb, .slice (bar b).ak (bar b).lk (bar b).ck, .slice (bar b).ai (bar b).li (bar b).ci] 26)) := hb1.trans (A1.mono hb1.size); have Q1 : Hid (NBox (w1.alloc (.cells #[.int .i64 (bar b).kind, .int .u64 (bar b).num, .bool (bar b).neg, .string (bar b).dig, .int .i64 (bar b).exp, .string (bar b).txt, .slice (bar b).ab (bar b).lb (bar b).cb, .slice (bar b).ak (bar b).lk (bar b).ck, .slice (bar b).ai (bar b).li (bar b).ci] 26)) w.heap.size b) := Q0.out.kept b1 Q0.out.lt; have X1 : Hid (NBox (w1.alloc (.cells #[.int .i64 (bar b).kind, .int .u64 (bar b).num, .bool (bar b).neg, .string (bar b).dig, .int .i64 (bar b).exp, .string (bar b).txt, .slice (bar b).ab (bar b).lb (bar b).cb, .slice (bar b).ak (bar b).lk (bar b).ck, .slice (bar b).ai (bar b).li (bar b).ci] 26)) w1.heap.size (bar b)) := nbox_new w1 (bar b); have B1 : Hid (Below w.heap.size w (w1.alloc (.cells #[.int .i64 (bar b).kind, .int .u64 (bar b).num, .bool (bar b).neg, .string (bar b).dig, .int .i64 (bar b).exp, .string (bar b).txt, .slice (bar b).ab (bar b).lb (bar b).cb, .slice (bar b).ak (bar b).lk (bar b).ck, .slice (bar b).ai (bar b).li (bar b).ci] 26))) := B0.out.trans (b1.mono B0.out.size); obtain ⟨a0, a1, a2, a3, a4, a5, a6, a7, a8⟩ := Q1.out.fields; obtain ⟨x0, x1, x2, x3, x4, x5, x6, x7, x8⟩ := X1.out.fields)
        | (have kS1 := kS.out _ B1.out; go_at_call 33; refine kS1.mono ?_; rintro e w9 ⟨rfl, hb9⟩; clear kS1; clear a0 a1 a2 a3 a4 a5 a6 a7 a8 x0 x1 x2 x3 x4 x5 x6 x7 x8; have Q9 : Hid (NBox w9 w.heap.size b) := Q1.out.kept hb9 Q1.out.lt; have X9 : Hid (NBox w9 w1.heap.size (bar b)) := X1.out.kept hb9 X1.out.lt; have B9 : Hid (Below w.heap.size w w9) := B1.out.trans (hb9.mono B1.out.size); obtain ⟨a0, a1, a2, a3, a4, a5, a6, a7, a8⟩ := Q9.out.fields; obtain ⟨x0, x1, x2, x3, x4, x5, x6, x7, x8⟩ := X9.out.fields))
      go_ret
      exact ⟨rfl, B9.out⟩
    | true =>
      rw [hq] at hA
      have hR : alF t = 12 := by rw [hA]; simp [*]
      rw [hR]
      clear hA hO hc hR
      go_enter Tryz.func60, Tryz.ntmps60
      go_wp2_with (first
        | (go_at_call 95; refine kB.mono ?_; rintro e w1 ⟨he, hb1⟩; rw [Nb.arr] at he; subst he; clear kB a0 a1 a2 a3 a4 a5 a6 a7 a8; have A1 := alloc_below w1 (.cells #[.int .i64 (bar b).kind, .int .u64 (bar b).num, .bool (bar b).neg, .string (bar b).dig, .int .i64 (bar b).exp, .string (bar b).txt, .slice (bar b).ab (bar b).lb (bar b).cb, .slice (bar b).ak (bar b).lk (bar b).ck, .slice (bar b).ai (bar b).li (bar b).ci] 26); have b1 : Below (w.alloc (.cells b.arr 26)).heap.size (w.alloc (.cells b.arr 26)) (w1.alloc (.cells #[.int .i64 (bar b).kind, .int .u64 (bar b).num, .bool (bar b).neg, .string (bar b).dig, .int .i64 (bar b).exp, .string (bar b).txt, .slice (bar b).ab (bar b).lb (bar b).cb, .slice (bar b).ak (bar b).lk (bar b).ck, .slice (bar b).ai (bar b).li (bar b).ci] 26)) := hb1.trans (A1.mono hb1.size); have Q1 : Hid (NBox (w1.alloc (.cells #[.int .i64 (bar b).kind, .int .u64 (bar b).num, .bool (bar b).neg, .string (bar b).dig, .int .i64 (bar b).exp, .string (bar b).txt, .slice (bar b).ab (bar b).lb (bar b).cb, .slice (bar b).ak (bar b).lk (bar b).ck, .slice (bar b).ai (bar b).li (bar b).ci] 26)) w.heap.size b) := Q0.out.kept b1 Q0.out.lt; have X1 : Hid (NBox (w1.alloc (.cells #[.int .i64 (bar b).kind, .int .u64 (bar b).num, .bool (bar b).neg, .string (bar b).dig, .int .i64 (bar b).exp, .string (bar b).txt, .slice (bar b).ab (bar b).lb (bar b).cb, .slice (bar b).ak (bar b).lk (bar b).ck, .slice (bar b).ai (bar b).li (bar b).ci] 26)) w1.heap.size (bar b)) := nbox_new w1 (bar b); have B1 : Hid (Below w.heap.size w (w1.alloc (.cells #[.int .i64 (bar b).kind, .int .u64 (bar b).num, .bool (bar b).neg, .string (bar b).dig, .int .i64 (bar b).exp, .string (bar b).txt, .slice (bar b).ab (bar b).lb (bar b).cb, .slice (bar b).ak (bar b).lk (bar b).ck, .slice (bar b).ai (bar b).li (bar b).ci] 26))) := B0.out.trans (b1.mono B0.out.size); obtain ⟨a0, a1, a2, a3, a4, a5, a6, a7, a8⟩ := Q1.out.fields; obtain ⟨x0, x1, x2, x3, x4, x5, x6, x7, x8⟩ := X1.out.fields)
        | (have kS1 := kS.out _ B1.out; go_at_call 33; refine kS1.mono ?_; rintro e w9 ⟨rfl, hb9⟩; clear kS1; clear a0 a1 a2 a3 a4 a5 a6 a7 a8 x0 x1 x2 x3 x4 x5 x6 x7 x8; have Q9 : Hid (NBox w9 w.heap.size b) := Q1.out.kept hb9 Q1.out.lt; have X9 : Hid (NBox w9 w1.heap.size (bar b)) := X1.out.kept hb9 X1.out.lt; have B9 : Hid (Below w.heap.size w w9) := B1.out.trans (hb9.mono B1.out.size); obtain ⟨a0, a1, a2, a3, a4, a5, a6, a7, a8⟩ := Q9.out.fields; obtain ⟨x0, x1, x2, x3, x4, x5, x6, x7, x8⟩ := X9.out.fields))
      go_ret
      exact ⟨rfl, B9.out⟩
end Go.Proofs.YtnjbppfanmmifaaGreatDoor
namespace Go.Proofs.YtnjbppfanmmifaaGreatDoor
open Go.RowKit
set_option linter.unusedVariables false

set_option maxHeartbeats 8000000 in
set_option maxRecDepth 100000 in
theorem ealone_k9 {D : Nat} {t : Tr} {b : Nb} {w : World} (hN : Nd (D + 1) w b t) (hK : b.kind = 9) : Calls Tryz.prog 60 #[.agg b.arr] w fun e w' => e = .returned (.int .i64 (alF t)) ∧ Below w.heap.size w w' := by
  have hal := alloc_below w (.cells b.arr 26)
  have B0 : Hid (Below w.heap.size w (w.alloc (.cells b.arr 26))) := hal
  have Q0 : Hid (NBox (w.alloc (.cells b.arr 26)) w.heap.size b) := nbox_new w b
  obtain ⟨a0, a1, a2, a3, a4, a5, a6, a7, a8⟩ := (nbox_new w b).fields
  have rk := hN.2.2.2.1.2.1
  have ri := hN.2.2.2.2.2.1
  have kB := bare_any b (w.alloc (.cells b.arr 26))
  have kS : Hid (∀ w', Below w.heap.size w w' → Calls Tryz.prog 33 #[.agg (bar b).arr, .agg b.arr] w' fun e w'' => e = .returned (.bool t.clean) ∧ Below w'.heap.size w' w'') := fun w' hb => esam_any (nd_bar (hN.kept hb)) (hN.kept hb) (Tr.clean_iff t)
  have hk : b.kind = t.kind := hN.1.1
  have hnum : b.num = t.num := hN.1.2.1
  have hneg : b.neg = t.neg := hN.1.2.2.1
  have hdig : b.dig = t.dig := hN.1.2.2.2.1
  have hexp : b.exp = t.exp := hN.1.2.2.2.2.1
  have htxt : b.txt = t.txt := hN.1.2.2.2.2.2
  have hlb : t.bytes.length = b.lb := hN.2.2.1.1
  have hlk : t.keys.length = b.lk := hN.2.2.2.1.1
  have hli : t.kids.length = b.li := hN.2.2.2.2.1
  have mb1 := hN.2.2.1.2.1.1
  have mb2 := hN.2.2.1.2.1.2.1
  have mk1 := rk.1
  have mk2 := rk.2.1
  have mi1 := ri.1
  have mi2 := ri.2.1
  unfold maxLen at mb2 mk2 mi2
  have mt : b.txt.size ≤ 140737488351232 := by rw [htxt]; exact hN.2.1.2.2.2.2
  have hA : alF t = if (b.kind = 5 ∧ 4096 < b.txt.size) ∨ (b.kind = 6 ∧ 4096 < b.lb) then 8
    else if b.kind = 5 ∧ gtx b.txt = false then 6
    else if b.kind = 2 ∧ (rt b.dig = false ∨ (b.neg = true ∧ b.dig = ⟨#[48]⟩)) then 11
    else if b.kind = 3 ∧ rdN b.neg b.dig b.exp = false then 11
    else if t.odd = true then 12 else 0 := by
    rw [hk, hneg, hdig, hexp, htxt, ← hlb]; rfl
  have hO := odd_doc hN
  have hkk : Hid (b.kind = t.kind) := hk
  clear hneg hdig hexp htxt hlb hlk hli hnum hN hk hal rk ri
  have e1 : (b.kind == 1) = false := by rw [hK]; decide
  have e2 : (b.kind == 2) = false := by rw [hK]; decide
  have e3 : (b.kind == 3) = false := by rw [hK]; decide
  have e5 : (b.kind == 5) = false := by rw [hK]; decide
  have e6 : (b.kind == 6) = false := by rw [hK]; decide
  have e8 : (b.kind == 8) = false := by rw [hK]; decide
  have e9 : (b.kind == 9) = true := by rw [hK]; decide
  have e10 : (b.kind == 10) = false := by rw [hK]; decide
  have d0 : decide (b.kind < 0) = false := by rw [hK]; decide
  have d10 : decide (10 < b.kind) = false := by rw [hK]; decide
  rw [if_neg (by omega), if_neg (by omega), if_neg (by omega), if_neg (by omega)] at hA
  rw [d0, d10, e1, e8, e9, e10] at hO
  clear hK
  cases hc : t.clean with
  | false =>
    rw [hO, hc] at hA
    rw [hc] at kS
    have hR : alF t = 12 := by rw [hA]; simp
    rw [hR]
    clear hA hO hc hR
    go_enter Tryz.func60, Tryz.ntmps60
    go_wp2_with (first
      | (go_at_call 95; refine kB.mono ?_; rintro e w1 ⟨he, hb1⟩; rw [Nb.arr] at he; subst he; clear kB a0 a1 a2 a3 a4 a5 a6 a7 a8; have A1 := alloc_below w1 (.cells #[.int .i64 (bar b).kind, .int .u64 (bar b).num, .bool (bar b).neg, .string (bar b).dig, .int .i64 (bar b).exp, .string (bar b).txt, .slice (bar b).ab (bar b).lb (bar b).cb, .slice (bar b).ak (bar b).lk (bar b).ck, .slice (bar b).ai (bar b).li (bar b).ci] 26); have b1 : Below (w.alloc (.cells b.arr 26)).heap.size (w.alloc (.cells b.arr 26)) (w1.alloc (.cells #[.int .i64 (bar b).kind, .int .u64 (bar b).num, .bool (bar b).neg, .string (bar b).dig, .int .i64 (bar b).exp, .string (bar b).txt, .slice (bar b).ab (bar b).lb (bar b).cb, .slice (bar b).ak (bar b).lk (bar b).ck, .slice (bar b).ai (bar b).li (bar b).ci] 26)) := hb1.trans (A1.mono hb1.size); have Q1 : Hid (NBox (w1.alloc (.cells #[.int .i64 (bar b).kind, .int .u64 (bar b).num, .bool (bar b).neg, .string (bar b).dig, .int .i64 (bar b).exp, .string (bar b).txt, .slice (bar b).ab (bar b).lb (bar b).cb, .slice (bar b).ak (bar b).lk (bar b).ck, .slice (bar b).ai (bar b).li (bar b).ci] 26)) w.heap.size b) := Q0.out.kept b1 Q0.out.lt; have X1 : Hid (NBox (w1.alloc (.cells #[.int .i64 (bar b).kind, .int .u64 (bar b).num, .bool (bar b).neg, .string (bar b).dig, .int .i64 (bar b).exp, .string (bar b).txt, .slice (bar b).ab (bar b).lb (bar b).cb, .slice (bar b).ak (bar b).lk (bar b).ck, .slice (bar b).ai (bar b).li (bar b).ci] 26)) w1.heap.size (bar b)) := nbox_new w1 (bar b); have B1 : Hid (Below w.heap.size w (w1.alloc (.cells #[.int .i64 (bar b).kind, .int .u64 (bar b).num, .bool (bar b).neg, .string (bar b).dig, .int .i64 (bar b).exp, .string (bar b).txt, .slice (bar b).ab (bar b).lb (bar b).cb, .slice (bar b).ak (bar b).lk (bar b).ck, .slice (bar b).ai (bar b).li (bar b).ci] 26))) := B0.out.trans (b1.mono B0.out.size); obtain ⟨a0, a1, a2, a3, a4, a5, a6, a7, a8⟩ := Q1.out.fields; obtain ⟨x0, x1, x2, x3, x4, x5, x6, x7, x8⟩ := X1.out.fields)
      | (have kS1 := kS.out _ B1.out; go_at_call 33; refine kS1.mono ?_; rintro e w9 ⟨rfl, hb9⟩; clear kS1; clear a0 a1 a2 a3 a4 a5 a6 a7 a8 x0 x1 x2 x3 x4 x5 x6 x7 x8; have Q9 : Hid (NBox w9 w.heap.size b) := Q1.out.kept hb9 Q1.out.lt; have X9 : Hid (NBox w9 w1.heap.size (bar b)) := X1.out.kept hb9 X1.out.lt; have B9 : Hid (Below w.heap.size w w9) := B1.out.trans (hb9.mono B1.out.size); obtain ⟨a0, a1, a2, a3, a4, a5, a6, a7, a8⟩ := Q9.out.fields; obtain ⟨x0, x1, x2, x3, x4, x5, x6, x7, x8⟩ := X9.out.fields))
    go_ret
    exact ⟨rfl, B9.out⟩
  | true =>
    rw [hO, hc] at hA
    rw [hc] at kS
    cases hq : ((b.li : Int) != 1) with
    | false =>
      rw [hq] at hA
      have hR : alF t = 0 := by rw [hA]; simp [*]
      rw [hR]
      clear hA hO hc hR
      go_enter Tryz.func60, Tryz.ntmps60
      go_wp2_with (first
        | (go_at_call 95; refine kB.mono ?_; rintro e w1 ⟨he, hb1⟩; rw [Nb.arr] at he; subst he; clear kB a0 a1 a2 a3 a4 a5 a6 a7 a8; have A1 := alloc_below w1 (.cells #[.int .i64 (bar b).kind, .int .u64 (bar b).num, .bool (bar b).neg, .string (bar b).dig, .int .i64 (bar b).exp, .string (bar b).txt, .slice (bar b).ab (bar b).lb (bar b).cb, .slice (bar b).ak (bar b).lk (bar b).ck, .slice (bar b).ai (bar b).li (bar b).ci] 26); have b1 : Below (w.alloc (.cells b.arr 26)).heap.size (w.alloc (.cells b.arr 26)) (w1.alloc (.cells #[.int .i64 (bar b).kind, .int .u64 (bar b).num, .bool (bar b).neg, .string (bar b).dig, .int .i64 (bar b).exp, .string (bar b).txt, .slice (bar b).ab (bar b).lb (bar b).cb, .slice (bar b).ak (bar b).lk (bar b).ck, .slice (bar b).ai (bar b).li (bar b).ci] 26)) := hb1.trans (A1.mono hb1.size); have Q1 : Hid (NBox (w1.alloc (.cells #[.int .i64 (bar b).kind, .int .u64 (bar b).num, .bool (bar b).neg, .string (bar b).dig, .int .i64 (bar b).exp, .string (bar b).txt, .slice (bar b).ab (bar b).lb (bar b).cb, .slice (bar b).ak (bar b).lk (bar b).ck, .slice (bar b).ai (bar b).li (bar b).ci] 26)) w.heap.size b) := Q0.out.kept b1 Q0.out.lt; have X1 : Hid (NBox (w1.alloc (.cells #[.int .i64 (bar b).kind, .int .u64 (bar b).num, .bool (bar b).neg, .string (bar b).dig, .int .i64 (bar b).exp, .string (bar b).txt, .slice (bar b).ab (bar b).lb (bar b).cb, .slice (bar b).ak (bar b).lk (bar b).ck, .slice (bar b).ai (bar b).li (bar b).ci] 26)) w1.heap.size (bar b)) := nbox_new w1 (bar b); have B1 : Hid (Below w.heap.size w (w1.alloc (.cells #[.int .i64 (bar b).kind, .int .u64 (bar b).num, .bool (bar b).neg, .string (bar b).dig, .int .i64 (bar b).exp, .string (bar b).txt, .slice (bar b).ab (bar b).lb (bar b).cb, .slice (bar b).ak (bar b).lk (bar b).ck, .slice (bar b).ai (bar b).li (bar b).ci] 26))) := B0.out.trans (b1.mono B0.out.size); obtain ⟨a0, a1, a2, a3, a4, a5, a6, a7, a8⟩ := Q1.out.fields; obtain ⟨x0, x1, x2, x3, x4, x5, x6, x7, x8⟩ := X1.out.fields)
        | (have kS1 := kS.out _ B1.out; go_at_call 33; refine kS1.mono ?_; rintro e w9 ⟨rfl, hb9⟩; clear kS1; clear a0 a1 a2 a3 a4 a5 a6 a7 a8 x0 x1 x2 x3 x4 x5 x6 x7 x8; have Q9 : Hid (NBox w9 w.heap.size b) := Q1.out.kept hb9 Q1.out.lt; have X9 : Hid (NBox w9 w1.heap.size (bar b)) := X1.out.kept hb9 X1.out.lt; have B9 : Hid (Below w.heap.size w w9) := B1.out.trans (hb9.mono B1.out.size); obtain ⟨a0, a1, a2, a3, a4, a5, a6, a7, a8⟩ := Q9.out.fields; obtain ⟨x0, x1, x2, x3, x4, x5, x6, x7, x8⟩ := X9.out.fields))
      go_ret
      exact ⟨rfl, B9.out⟩
    | true =>
      rw [hq] at hA
      have hR : alF t = 12 := by rw [hA]; simp [*]
      rw [hR]
      clear hA hO hc hR
      go_enter Tryz.func60, Tryz.ntmps60
      go_wp2_with (first
        | (go_at_call 95; refine kB.mono ?_; rintro e w1 ⟨he, hb1⟩; rw [Nb.arr] at he; subst he; clear kB a0 a1 a2 a3 a4 a5 a6 a7 a8; have A1 := alloc_below w1 (.cells #[.int .i64 (bar b).kind, .int .u64 (bar b).num, .bool (bar b).neg, .string (bar b).dig, .int .i64 (bar b).exp, .string (bar b).txt, .slice (bar b).ab (bar b).lb (bar b).cb, .slice (bar b).ak (bar b).lk (bar b).ck, .slice (bar b).ai (bar b).li (bar b).ci] 26); have b1 : Below (w.alloc (.cells b.arr 26)).heap.size (w.alloc (.cells b.arr 26)) (w1.alloc (.cells #[.int .i64 (bar b).kind, .int .u64 (bar b).num, .bool (bar b).neg, .string (bar b).dig, .int .i64 (bar b).exp, .string (bar b).txt, .slice (bar b).ab (bar b).lb (bar b).cb, .slice (bar b).ak (bar b).lk (bar b).ck, .slice (bar b).ai (bar b).li (bar b).ci] 26)) := hb1.trans (A1.mono hb1.size); have Q1 : Hid (NBox (w1.alloc (.cells #[.int .i64 (bar b).kind, .int .u64 (bar b).num, .bool (bar b).neg, .string (bar b).dig, .int .i64 (bar b).exp, .string (bar b).txt, .slice (bar b).ab (bar b).lb (bar b).cb, .slice (bar b).ak (bar b).lk (bar b).ck, .slice (bar b).ai (bar b).li (bar b).ci] 26)) w.heap.size b) := Q0.out.kept b1 Q0.out.lt; have X1 : Hid (NBox (w1.alloc (.cells #[.int .i64 (bar b).kind, .int .u64 (bar b).num, .bool (bar b).neg, .string (bar b).dig, .int .i64 (bar b).exp, .string (bar b).txt, .slice (bar b).ab (bar b).lb (bar b).cb, .slice (bar b).ak (bar b).lk (bar b).ck, .slice (bar b).ai (bar b).li (bar b).ci] 26)) w1.heap.size (bar b)) := nbox_new w1 (bar b); have B1 : Hid (Below w.heap.size w (w1.alloc (.cells #[.int .i64 (bar b).kind, .int .u64 (bar b).num, .bool (bar b).neg, .string (bar b).dig, .int .i64 (bar b).exp, .string (bar b).txt, .slice (bar b).ab (bar b).lb (bar b).cb, .slice (bar b).ak (bar b).lk (bar b).ck, .slice (bar b).ai (bar b).li (bar b).ci] 26))) := B0.out.trans (b1.mono B0.out.size); obtain ⟨a0, a1, a2, a3, a4, a5, a6, a7, a8⟩ := Q1.out.fields; obtain ⟨x0, x1, x2, x3, x4, x5, x6, x7, x8⟩ := X1.out.fields)
        | (have kS1 := kS.out _ B1.out; go_at_call 33; refine kS1.mono ?_; rintro e w9 ⟨rfl, hb9⟩; clear kS1; clear a0 a1 a2 a3 a4 a5 a6 a7 a8 x0 x1 x2 x3 x4 x5 x6 x7 x8; have Q9 : Hid (NBox w9 w.heap.size b) := Q1.out.kept hb9 Q1.out.lt; have X9 : Hid (NBox w9 w1.heap.size (bar b)) := X1.out.kept hb9 X1.out.lt; have B9 : Hid (Below w.heap.size w w9) := B1.out.trans (hb9.mono B1.out.size); obtain ⟨a0, a1, a2, a3, a4, a5, a6, a7, a8⟩ := Q9.out.fields; obtain ⟨x0, x1, x2, x3, x4, x5, x6, x7, x8⟩ := X9.out.fields))
      go_ret
      exact ⟨rfl, B9.out⟩
set_option maxHeartbeats 8000000 in
set_option maxRecDepth 100000 in
theorem ealone_k10 {D : Nat} {t : Tr} {b : Nb} {w : World} (hN : Nd (D + 1) w b t) (hK : b.kind = 10) : Calls Tryz.prog 60 #[.agg b.arr] w fun e w' => e = .returned (.int .i64 (alF t)) ∧ Below w.heap.size w w' := by
  have hal := alloc_below w (.cells b.arr 26)
  have B0 : Hid (Below w.heap.size w (w.alloc (.cells b.arr 26))) := hal
  have Q0 : Hid (NBox (w.alloc (.cells b.arr 26)) w.heap.size b) := nbox_new w b
  obtain ⟨a0, a1, a2, a3, a4, a5, a6, a7, a8⟩ := (nbox_new w b).fields
  have rk := hN.2.2.2.1.2.1
  have ri := hN.2.2.2.2.2.1
  have kB := bare_any b (w.alloc (.cells b.arr 26))
  have kS : Hid (∀ w', Below w.heap.size w w' → Calls Tryz.prog 33 #[.agg (bar b).arr, .agg b.arr] w' fun e w'' => e = .returned (.bool t.clean) ∧ Below w'.heap.size w' w'') := fun w' hb => esam_any (nd_bar (hN.kept hb)) (hN.kept hb) (Tr.clean_iff t)
  have hk : b.kind = t.kind := hN.1.1
  have hnum : b.num = t.num := hN.1.2.1
  have hneg : b.neg = t.neg := hN.1.2.2.1
  have hdig : b.dig = t.dig := hN.1.2.2.2.1
  have hexp : b.exp = t.exp := hN.1.2.2.2.2.1
  have htxt : b.txt = t.txt := hN.1.2.2.2.2.2
  have hlb : t.bytes.length = b.lb := hN.2.2.1.1
  have hlk : t.keys.length = b.lk := hN.2.2.2.1.1
  have hli : t.kids.length = b.li := hN.2.2.2.2.1
  have mb1 := hN.2.2.1.2.1.1
  have mb2 := hN.2.2.1.2.1.2.1
  have mk1 := rk.1
  have mk2 := rk.2.1
  have mi1 := ri.1
  have mi2 := ri.2.1
  unfold maxLen at mb2 mk2 mi2
  have mt : b.txt.size ≤ 140737488351232 := by rw [htxt]; exact hN.2.1.2.2.2.2
  have hA : alF t = if (b.kind = 5 ∧ 4096 < b.txt.size) ∨ (b.kind = 6 ∧ 4096 < b.lb) then 8
    else if b.kind = 5 ∧ gtx b.txt = false then 6
    else if b.kind = 2 ∧ (rt b.dig = false ∨ (b.neg = true ∧ b.dig = ⟨#[48]⟩)) then 11
    else if b.kind = 3 ∧ rdN b.neg b.dig b.exp = false then 11
    else if t.odd = true then 12 else 0 := by
    rw [hk, hneg, hdig, hexp, htxt, ← hlb]; rfl
  have hO := odd_doc hN
  have hkk : Hid (b.kind = t.kind) := hk
  clear hneg hdig hexp htxt hlb hlk hli hnum hN hk hal rk ri
  have e1 : (b.kind == 1) = false := by rw [hK]; decide
  have e2 : (b.kind == 2) = false := by rw [hK]; decide
  have e3 : (b.kind == 3) = false := by rw [hK]; decide
  have e5 : (b.kind == 5) = false := by rw [hK]; decide
  have e6 : (b.kind == 6) = false := by rw [hK]; decide
  have e8 : (b.kind == 8) = false := by rw [hK]; decide
  have e9 : (b.kind == 9) = false := by rw [hK]; decide
  have e10 : (b.kind == 10) = true := by rw [hK]; decide
  have d0 : decide (b.kind < 0) = false := by rw [hK]; decide
  have d10 : decide (10 < b.kind) = false := by rw [hK]; decide
  rw [if_neg (by omega), if_neg (by omega), if_neg (by omega), if_neg (by omega)] at hA
  rw [d0, d10, e1, e8, e9, e10] at hO
  clear hK
  have kP : ∀ w0, Calls Tryz.prog 101 #[.int .u64 b.num] w0 fun e w' => e = .returned (.bool (Tr.smp b.num)) ∧ w' = w0 := fun w0 => simple_any b.num w0
  cases hc : t.clean with
  | false =>
    rw [hO, hc] at hA
    rw [hc] at kS
    have hR : alF t = 12 := by rw [hA]; simp
    rw [hR]
    clear hA hO hc hR
    go_enter Tryz.func60, Tryz.ntmps60
    go_wp2_with (first
      | (go_at_call 95; refine kB.mono ?_; rintro e w1 ⟨he, hb1⟩; rw [Nb.arr] at he; subst he; clear kB a0 a1 a2 a3 a4 a5 a6 a7 a8; have A1 := alloc_below w1 (.cells #[.int .i64 (bar b).kind, .int .u64 (bar b).num, .bool (bar b).neg, .string (bar b).dig, .int .i64 (bar b).exp, .string (bar b).txt, .slice (bar b).ab (bar b).lb (bar b).cb, .slice (bar b).ak (bar b).lk (bar b).ck, .slice (bar b).ai (bar b).li (bar b).ci] 26); have b1 : Below (w.alloc (.cells b.arr 26)).heap.size (w.alloc (.cells b.arr 26)) (w1.alloc (.cells #[.int .i64 (bar b).kind, .int .u64 (bar b).num, .bool (bar b).neg, .string (bar b).dig, .int .i64 (bar b).exp, .string (bar b).txt, .slice (bar b).ab (bar b).lb (bar b).cb, .slice (bar b).ak (bar b).lk (bar b).ck, .slice (bar b).ai (bar b).li (bar b).ci] 26)) := hb1.trans (A1.mono hb1.size); have Q1 : Hid (NBox (w1.alloc (.cells #[.int .i64 (bar b).kind, .int .u64 (bar b).num, .bool (bar b).neg, .string (bar b).dig, .int .i64 (bar b).exp, .string (bar b).txt, .slice (bar b).ab (bar b).lb (bar b).cb, .slice (bar b).ak (bar b).lk (bar b).ck, .slice (bar b).ai (bar b).li (bar b).ci] 26)) w.heap.size b) := Q0.out.kept b1 Q0.out.lt; have X1 : Hid (NBox (w1.alloc (.cells #[.int .i64 (bar b).kind, .int .u64 (bar b).num, .bool (bar b).neg, .string (bar b).dig, .int .i64 (bar b).exp, .string (bar b).txt, .slice (bar b).ab (bar b).lb (bar b).cb, .slice (bar b).ak (bar b).lk (bar b).ck, .slice (bar b).ai (bar b).li (bar b).ci] 26)) w1.heap.size (bar b)) := nbox_new w1 (bar b); have B1 : Hid (Below w.heap.size w (w1.alloc (.cells #[.int .i64 (bar b).kind, .int .u64 (bar b).num, .bool (bar b).neg, .string (bar b).dig, .int .i64 (bar b).exp, .string (bar b).txt, .slice (bar b).ab (bar b).lb (bar b).cb, .slice (bar b).ak (bar b).lk (bar b).ck, .slice (bar b).ai (bar b).li (bar b).ci] 26))) := B0.out.trans (b1.mono B0.out.size); obtain ⟨a0, a1, a2, a3, a4, a5, a6, a7, a8⟩ := Q1.out.fields; obtain ⟨x0, x1, x2, x3, x4, x5, x6, x7, x8⟩ := X1.out.fields)
      | (have kS1 := kS.out _ B1.out; go_at_call 33; refine kS1.mono ?_; rintro e w9 ⟨rfl, hb9⟩; clear kS1; clear a0 a1 a2 a3 a4 a5 a6 a7 a8 x0 x1 x2 x3 x4 x5 x6 x7 x8; have Q9 : Hid (NBox w9 w.heap.size b) := Q1.out.kept hb9 Q1.out.lt; have X9 : Hid (NBox w9 w1.heap.size (bar b)) := X1.out.kept hb9 X1.out.lt; have B9 : Hid (Below w.heap.size w w9) := B1.out.trans (hb9.mono B1.out.size); obtain ⟨a0, a1, a2, a3, a4, a5, a6, a7, a8⟩ := Q9.out.fields; obtain ⟨x0, x1, x2, x3, x4, x5, x6, x7, x8⟩ := X9.out.fields))
    go_ret
    exact ⟨rfl, B9.out⟩
  | true =>
    rw [hO, hc] at hA
    rw [hc] at kS
    cases hq : Tr.smp b.num with
    | false =>
      rw [hq] at kP
      rw [hq] at hA
      have hR : alF t = 12 := by rw [hA]; simp [*]
      rw [hR]
      clear hA hO hc hR
      go_enter Tryz.func60, Tryz.ntmps60
      go_wp2_with (first
        | (go_at_call 95; refine kB.mono ?_; rintro e w1 ⟨he, hb1⟩; rw [Nb.arr] at he; subst he; clear kB a0 a1 a2 a3 a4 a5 a6 a7 a8; have A1 := alloc_below w1 (.cells #[.int .i64 (bar b).kind, .int .u64 (bar b).num, .bool (bar b).neg, .string (bar b).dig, .int .i64 (bar b).exp, .string (bar b).txt, .slice (bar b).ab (bar b).lb (bar b).cb, .slice (bar b).ak (bar b).lk (bar b).ck, .slice (bar b).ai (bar b).li (bar b).ci] 26); have b1 : Below (w.alloc (.cells b.arr 26)).heap.size (w.alloc (.cells b.arr 26)) (w1.alloc (.cells #[.int .i64 (bar b).kind, .int .u64 (bar b).num, .bool (bar b).neg, .string (bar b).dig, .int .i64 (bar b).exp, .string (bar b).txt, .slice (bar b).ab (bar b).lb (bar b).cb, .slice (bar b).ak (bar b).lk (bar b).ck, .slice (bar b).ai (bar b).li (bar b).ci] 26)) := hb1.trans (A1.mono hb1.size); have Q1 : Hid (NBox (w1.alloc (.cells #[.int .i64 (bar b).kind, .int .u64 (bar b).num, .bool (bar b).neg, .string (bar b).dig, .int .i64 (bar b).exp, .string (bar b).txt, .slice (bar b).ab (bar b).lb (bar b).cb, .slice (bar b).ak (bar b).lk (bar b).ck, .slice (bar b).ai (bar b).li (bar b).ci] 26)) w.heap.size b) := Q0.out.kept b1 Q0.out.lt; have X1 : Hid (NBox (w1.alloc (.cells #[.int .i64 (bar b).kind, .int .u64 (bar b).num, .bool (bar b).neg, .string (bar b).dig, .int .i64 (bar b).exp, .string (bar b).txt, .slice (bar b).ab (bar b).lb (bar b).cb, .slice (bar b).ak (bar b).lk (bar b).ck, .slice (bar b).ai (bar b).li (bar b).ci] 26)) w1.heap.size (bar b)) := nbox_new w1 (bar b); have B1 : Hid (Below w.heap.size w (w1.alloc (.cells #[.int .i64 (bar b).kind, .int .u64 (bar b).num, .bool (bar b).neg, .string (bar b).dig, .int .i64 (bar b).exp, .string (bar b).txt, .slice (bar b).ab (bar b).lb (bar b).cb, .slice (bar b).ak (bar b).lk (bar b).ck, .slice (bar b).ai (bar b).li (bar b).ci] 26))) := B0.out.trans (b1.mono B0.out.size); obtain ⟨a0, a1, a2, a3, a4, a5, a6, a7, a8⟩ := Q1.out.fields; obtain ⟨x0, x1, x2, x3, x4, x5, x6, x7, x8⟩ := X1.out.fields)
        | (have kS1 := kS.out _ B1.out; go_at_call 33; refine kS1.mono ?_; rintro e w9 ⟨rfl, hb9⟩; clear kS1; clear a0 a1 a2 a3 a4 a5 a6 a7 a8 x0 x1 x2 x3 x4 x5 x6 x7 x8; have Q9 : Hid (NBox w9 w.heap.size b) := Q1.out.kept hb9 Q1.out.lt; have X9 : Hid (NBox w9 w1.heap.size (bar b)) := X1.out.kept hb9 X1.out.lt; have B9 : Hid (Below w.heap.size w w9) := B1.out.trans (hb9.mono B1.out.size); obtain ⟨a0, a1, a2, a3, a4, a5, a6, a7, a8⟩ := Q9.out.fields; obtain ⟨x0, x1, x2, x3, x4, x5, x6, x7, x8⟩ := X9.out.fields)
        | (go_at_call 101; refine (kP _).mono ?_; rintro e wz ⟨rfl, hwz⟩; subst hwz; have BZ := B9))
      go_ret
      exact ⟨rfl, BZ.out⟩
    | true =>
      rw [hq] at kP
      rw [hq] at hA
      have hR : alF t = 0 := by rw [hA]; simp [*]
      rw [hR]
      clear hA hO hc hR
      go_enter Tryz.func60, Tryz.ntmps60
      go_wp2_with (first
        | (go_at_call 95; refine kB.mono ?_; rintro e w1 ⟨he, hb1⟩; rw [Nb.arr] at he; subst he; clear kB a0 a1 a2 a3 a4 a5 a6 a7 a8; have A1 := alloc_below w1 (.cells #[.int .i64 (bar b).kind, .int .u64 (bar b).num, .bool (bar b).neg, .string (bar b).dig, .int .i64 (bar b).exp, .string (bar b).txt, .slice (bar b).ab (bar b).lb (bar b).cb, .slice (bar b).ak (bar b).lk (bar b).ck, .slice (bar b).ai (bar b).li (bar b).ci] 26); have b1 : Below (w.alloc (.cells b.arr 26)).heap.size (w.alloc (.cells b.arr 26)) (w1.alloc (.cells #[.int .i64 (bar b).kind, .int .u64 (bar b).num, .bool (bar b).neg, .string (bar b).dig, .int .i64 (bar b).exp, .string (bar b).txt, .slice (bar b).ab (bar b).lb (bar b).cb, .slice (bar b).ak (bar b).lk (bar b).ck, .slice (bar b).ai (bar b).li (bar b).ci] 26)) := hb1.trans (A1.mono hb1.size); have Q1 : Hid (NBox (w1.alloc (.cells #[.int .i64 (bar b).kind, .int .u64 (bar b).num, .bool (bar b).neg, .string (bar b).dig, .int .i64 (bar b).exp, .string (bar b).txt, .slice (bar b).ab (bar b).lb (bar b).cb, .slice (bar b).ak (bar b).lk (bar b).ck, .slice (bar b).ai (bar b).li (bar b).ci] 26)) w.heap.size b) := Q0.out.kept b1 Q0.out.lt; have X1 : Hid (NBox (w1.alloc (.cells #[.int .i64 (bar b).kind, .int .u64 (bar b).num, .bool (bar b).neg, .string (bar b).dig, .int .i64 (bar b).exp, .string (bar b).txt, .slice (bar b).ab (bar b).lb (bar b).cb, .slice (bar b).ak (bar b).lk (bar b).ck, .slice (bar b).ai (bar b).li (bar b).ci] 26)) w1.heap.size (bar b)) := nbox_new w1 (bar b); have B1 : Hid (Below w.heap.size w (w1.alloc (.cells #[.int .i64 (bar b).kind, .int .u64 (bar b).num, .bool (bar b).neg, .string (bar b).dig, .int .i64 (bar b).exp, .string (bar b).txt, .slice (bar b).ab (bar b).lb (bar b).cb, .slice (bar b).ak (bar b).lk (bar b).ck, .slice (bar b).ai (bar b).li (bar b).ci] 26))) := B0.out.trans (b1.mono B0.out.size); obtain ⟨a0, a1, a2, a3, a4, a5, a6, a7, a8⟩ := Q1.out.fields; obtain ⟨x0, x1, x2, x3, x4, x5, x6, x7, x8⟩ := X1.out.fields)
        | (have kS1 := kS.out _ B1.out; go_at_call 33; refine kS1.mono ?_; rintro e w9 ⟨rfl, hb9⟩; clear kS1; clear a0 a1 a2 a3 a4 a5 a6 a7 a8 x0 x1 x2 x3 x4 x5 x6 x7 x8; have Q9 : Hid (NBox w9 w.heap.size b) := Q1.out.kept hb9 Q1.out.lt; have X9 : Hid (NBox w9 w1.heap.size (bar b)) := X1.out.kept hb9 X1.out.lt; have B9 : Hid (Below w.heap.size w w9) := B1.out.trans (hb9.mono B1.out.size); obtain ⟨a0, a1, a2, a3, a4, a5, a6, a7, a8⟩ := Q9.out.fields; obtain ⟨x0, x1, x2, x3, x4, x5, x6, x7, x8⟩ := X9.out.fields)
        | (go_at_call 101; refine (kP _).mono ?_; rintro e wz ⟨rfl, hwz⟩; subst hwz; have BZ := B9))
      go_ret
      exact ⟨rfl, BZ.out⟩
end Go.Proofs.YtnjbppfanmmifaaGreatDoor
namespace Go.Proofs.YtnjbppfanmmifaaGreatDoor
open Go.RowKit
set_option linter.unusedVariables false

set_option maxHeartbeats 8000000 in
set_option maxRecDepth 100000 in
theorem ealone_k6 {D : Nat} {t : Tr} {b : Nb} {w : World} (hN : Nd (D + 1) w b t) (hK : b.kind = 6) : Calls Tryz.prog 60 #[.agg b.arr] w fun e w' => e = .returned (.int .i64 (alF t)) ∧ Below w.heap.size w w' := by
  have hal := alloc_below w (.cells b.arr 26)
  have B0 : Hid (Below w.heap.size w (w.alloc (.cells b.arr 26))) := hal
  have Q0 : Hid (NBox (w.alloc (.cells b.arr 26)) w.heap.size b) := nbox_new w b
  obtain ⟨a0, a1, a2, a3, a4, a5, a6, a7, a8⟩ := (nbox_new w b).fields
  have rk := hN.2.2.2.1.2.1
  have ri := hN.2.2.2.2.2.1
  have kB := bare_any b (w.alloc (.cells b.arr 26))
  have kS : Hid (∀ w', Below w.heap.size w w' → Calls Tryz.prog 33 #[.agg (bar b).arr, .agg b.arr] w' fun e w'' => e = .returned (.bool t.clean) ∧ Below w'.heap.size w' w'') := fun w' hb => esam_any (nd_bar (hN.kept hb)) (hN.kept hb) (Tr.clean_iff t)
  have hk : b.kind = t.kind := hN.1.1
  have hnum : b.num = t.num := hN.1.2.1
  have hneg : b.neg = t.neg := hN.1.2.2.1
  have hdig : b.dig = t.dig := hN.1.2.2.2.1
  have hexp : b.exp = t.exp := hN.1.2.2.2.2.1
  have htxt : b.txt = t.txt := hN.1.2.2.2.2.2
  have hlb : t.bytes.length = b.lb := hN.2.2.1.1
  have hlk : t.keys.length = b.lk := hN.2.2.2.1.1
  have hli : t.kids.length = b.li := hN.2.2.2.2.1
  have mb1 := hN.2.2.1.2.1.1
  have mb2 := hN.2.2.1.2.1.2.1
  have mk1 := rk.1
  have mk2 := rk.2.1
  have mi1 := ri.1
  have mi2 := ri.2.1
  unfold maxLen at mb2 mk2 mi2
  have mt : b.txt.size ≤ 140737488351232 := by rw [htxt]; exact hN.2.1.2.2.2.2
  have hA : alF t = if (b.kind = 5 ∧ 4096 < b.txt.size) ∨ (b.kind = 6 ∧ 4096 < b.lb) then 8
    else if b.kind = 5 ∧ gtx b.txt = false then 6
    else if b.kind = 2 ∧ (rt b.dig = false ∨ (b.neg = true ∧ b.dig = ⟨#[48]⟩)) then 11
    else if b.kind = 3 ∧ rdN b.neg b.dig b.exp = false then 11
    else if t.odd = true then 12 else 0 := by
    rw [hk, hneg, hdig, hexp, htxt, ← hlb]; rfl
  have hO := odd_doc hN
  have hkk : Hid (b.kind = t.kind) := hk
  clear hneg hdig hexp htxt hlb hlk hli hnum hN hk hal rk ri
  have e1 : (b.kind == 1) = false := by rw [hK]; decide
  have e2 : (b.kind == 2) = false := by rw [hK]; decide
  have e3 : (b.kind == 3) = false := by rw [hK]; decide
  have e5 : (b.kind == 5) = false := by rw [hK]; decide
  have e6 : (b.kind == 6) = true := by rw [hK]; decide
  have e8 : (b.kind == 8) = false := by rw [hK]; decide
  have e9 : (b.kind == 9) = false := by rw [hK]; decide
  have e10 : (b.kind == 10) = false := by rw [hK]; decide
  have d0 : decide (b.kind < 0) = false := by rw [hK]; decide
  have d10 : decide (10 < b.kind) = false := by rw [hK]; decide
  rcases Nat.lt_or_ge 4096 b.lb with hT | hT
  · have dT : decide ((4096 : Int) < ((b.lb : Nat) : Int)) = true := by simp; omega
    rw [if_pos (by omega)] at hA
    rw [hA]
    clear hA hO hT hK kS
    go_enter Tryz.func60, Tryz.ntmps60
    go_wp2_with (first
      | (go_at_call 95; refine kB.mono ?_; rintro e w1 ⟨he, hb1⟩; rw [Nb.arr] at he; subst he; clear kB a0 a1 a2 a3 a4 a5 a6 a7 a8; have A1 := alloc_below w1 (.cells #[.int .i64 (bar b).kind, .int .u64 (bar b).num, .bool (bar b).neg, .string (bar b).dig, .int .i64 (bar b).exp, .string (bar b).txt, .slice (bar b).ab (bar b).lb (bar b).cb, .slice (bar b).ak (bar b).lk (bar b).ck, .slice (bar b).ai (bar b).li (bar b).ci] 26); have b1 : Below (w.alloc (.cells b.arr 26)).heap.size (w.alloc (.cells b.arr 26)) (w1.alloc (.cells #[.int .i64 (bar b).kind, .int .u64 (bar b).num, .bool (bar b).neg, .string (bar b).dig, .int .i64 (bar b).exp, .string (bar b).txt, .slice (bar b).ab (bar b).lb (bar b).cb, .slice (bar b).ak (bar b).lk (bar b).ck, .slice (bar b).ai (bar b).li (bar b).ci] 26)) := hb1.trans (A1.mono hb1.size); have Q1 : Hid (NBox (w1.alloc (.cells #[.int .i64 (bar b).kind, .int .u64 (bar b).num, .bool (bar b).neg, .string (bar b).dig, .int .i64 (bar b).exp, .string (bar b).txt, .slice (bar b).ab (bar b).lb (bar b).cb, .slice (bar b).ak (bar b).lk (bar b).ck, .slice (bar b).ai (bar b).li (bar b).ci] 26)) w.heap.size b) := Q0.out.kept b1 Q0.out.lt; have X1 : Hid (NBox (w1.alloc (.cells #[.int .i64 (bar b).kind, .int .u64 (bar b).num, .bool (bar b).neg, .string (bar b).dig, .int .i64 (bar b).exp, .string (bar b).txt, .slice (bar b).ab (bar b).lb (bar b).cb, .slice (bar b).ak (bar b).lk (bar b).ck, .slice (bar b).ai (bar b).li (bar b).ci] 26)) w1.heap.size (bar b)) := nbox_new w1 (bar b); have B1 : Hid (Below w.heap.size w (w1.alloc (.cells #[.int .i64 (bar b).kind, .int .u64 (bar b).num, .bool (bar b).neg, .string (bar b).dig, .int .i64 (bar b).exp, .string (bar b).txt, .slice (bar b).ab (bar b).lb (bar b).cb, .slice (bar b).ak (bar b).lk (bar b).ck, .slice (bar b).ai (bar b).li (bar b).ci] 26))) := B0.out.trans (b1.mono B0.out.size); obtain ⟨a0, a1, a2, a3, a4, a5, a6, a7, a8⟩ := Q1.out.fields; obtain ⟨x0, x1, x2, x3, x4, x5, x6, x7, x8⟩ := X1.out.fields))
    go_ret
    exact ⟨rfl, B1.out⟩
  have dT : decide ((4096 : Int) < ((b.lb : Nat) : Int)) = false := by simp; omega
  rw [if_neg (by omega), if_neg (by omega), if_neg (by omega), if_neg (by omega)] at hA
  rw [d0, d10, e1, e8, e9, e10] at hO
  clear hK hT
  cases hc : t.clean with
  | false =>
    rw [hO, hc] at hA
    rw [hc] at kS
    have hR : alF t = 12 := by rw [hA]; simp
    rw [hR]
    clear hA hO hc hR
    go_enter Tryz.func60, Tryz.ntmps60
    go_wp2_with (first
      | (go_at_call 95; refine kB.mono ?_; rintro e w1 ⟨he, hb1⟩; rw [Nb.arr] at he; subst he; clear kB a0 a1 a2 a3 a4 a5 a6 a7 a8; have A1 := alloc_below w1 (.cells #[.int .i64 (bar b).kind, .int .u64 (bar b).num, .bool (bar b).neg, .string (bar b).dig, .int .i64 (bar b).exp, .string (bar b).txt, .slice (bar b).ab (bar b).lb (bar b).cb, .slice (bar b).ak (bar b).lk (bar b).ck, .slice (bar b).ai (bar b).li (bar b).ci] 26); have b1 : Below (w.alloc (.cells b.arr 26)).heap.size (w.alloc (.cells b.arr 26)) (w1.alloc (.cells #[.int .i64 (bar b).kind, .int .u64 (bar b).num, .bool (bar b).neg, .string (bar b).dig, .int .i64 (bar b).exp, .string (bar b).txt, .slice (bar b).ab (bar b).lb (bar b).cb, .slice (bar b).ak (bar b).lk (bar b).ck, .slice (bar b).ai (bar b).li (bar b).ci] 26)) := hb1.trans (A1.mono hb1.size); have Q1 : Hid (NBox (w1.alloc (.cells #[.int .i64 (bar b).kind, .int .u64 (bar b).num, .bool (bar b).neg, .string (bar b).dig, .int .i64 (bar b).exp, .string (bar b).txt, .slice (bar b).ab (bar b).lb (bar b).cb, .slice (bar b).ak (bar b).lk (bar b).ck, .slice (bar b).ai (bar b).li (bar b).ci] 26)) w.heap.size b) := Q0.out.kept b1 Q0.out.lt; have X1 : Hid (NBox (w1.alloc (.cells #[.int .i64 (bar b).kind, .int .u64 (bar b).num, .bool (bar b).neg, .string (bar b).dig, .int .i64 (bar b).exp, .string (bar b).txt, .slice (bar b).ab (bar b).lb (bar b).cb, .slice (bar b).ak (bar b).lk (bar b).ck, .slice (bar b).ai (bar b).li (bar b).ci] 26)) w1.heap.size (bar b)) := nbox_new w1 (bar b); have B1 : Hid (Below w.heap.size w (w1.alloc (.cells #[.int .i64 (bar b).kind, .int .u64 (bar b).num, .bool (bar b).neg, .string (bar b).dig, .int .i64 (bar b).exp, .string (bar b).txt, .slice (bar b).ab (bar b).lb (bar b).cb, .slice (bar b).ak (bar b).lk (bar b).ck, .slice (bar b).ai (bar b).li (bar b).ci] 26))) := B0.out.trans (b1.mono B0.out.size); obtain ⟨a0, a1, a2, a3, a4, a5, a6, a7, a8⟩ := Q1.out.fields; obtain ⟨x0, x1, x2, x3, x4, x5, x6, x7, x8⟩ := X1.out.fields)
      | (have kS1 := kS.out _ B1.out; go_at_call 33; refine kS1.mono ?_; rintro e w9 ⟨rfl, hb9⟩; clear kS1; clear a0 a1 a2 a3 a4 a5 a6 a7 a8 x0 x1 x2 x3 x4 x5 x6 x7 x8; have Q9 : Hid (NBox w9 w.heap.size b) := Q1.out.kept hb9 Q1.out.lt; have X9 : Hid (NBox w9 w1.heap.size (bar b)) := X1.out.kept hb9 X1.out.lt; have B9 : Hid (Below w.heap.size w w9) := B1.out.trans (hb9.mono B1.out.size); obtain ⟨a0, a1, a2, a3, a4, a5, a6, a7, a8⟩ := Q9.out.fields; obtain ⟨x0, x1, x2, x3, x4, x5, x6, x7, x8⟩ := X9.out.fields))
    go_ret
    exact ⟨rfl, B9.out⟩
  | true =>
    rw [hO, hc] at hA
    rw [hc] at kS
    have hR : alF t = 0 := by rw [hA]; simp [*]
    rw [hR]
    clear hA hO hc hR
    go_enter Tryz.func60, Tryz.ntmps60
    go_wp2_with (first
      | (go_at_call 95; refine kB.mono ?_; rintro e w1 ⟨he, hb1⟩; rw [Nb.arr] at he; subst he; clear kB a0 a1 a2 a3 a4 a5 a6 a7 a8; have A1 := alloc_below w1 (.cells #[.int .i64 (bar b).kind, .int .u64 (bar b).num, .bool (bar b).neg, .string (bar b).dig, .int .i64 (bar b).exp, .string (bar b).txt, .slice (bar b).ab (bar b).lb (bar b).cb, .slice (bar b).ak (bar b).lk (bar b).ck, .slice (bar b).ai (bar b).li (bar b).ci] 26); have b1 : Below (w.alloc (.cells b.arr 26)).heap.size (w.alloc (.cells b.arr 26)) (w1.alloc (.cells #[.int .i64 (bar b).kind, .int .u64 (bar b).num, .bool (bar b).neg, .string (bar b).dig, .int .i64 (bar b).exp, .string (bar b).txt, .slice (bar b).ab (bar b).lb (bar b).cb, .slice (bar b).ak (bar b).lk (bar b).ck, .slice (bar b).ai (bar b).li (bar b).ci] 26)) := hb1.trans (A1.mono hb1.size); have Q1 : Hid (NBox (w1.alloc (.cells #[.int .i64 (bar b).kind, .int .u64 (bar b).num, .bool (bar b).neg, .string (bar b).dig, .int .i64 (bar b).exp, .string (bar b).txt, .slice (bar b).ab (bar b).lb (bar b).cb, .slice (bar b).ak (bar b).lk (bar b).ck, .slice (bar b).ai (bar b).li (bar b).ci] 26)) w.heap.size b) := Q0.out.kept b1 Q0.out.lt; have X1 : Hid (NBox (w1.alloc (.cells #[.int .i64 (bar b).kind, .int .u64 (bar b).num, .bool (bar b).neg, .string (bar b).dig, .int .i64 (bar b).exp, .string (bar b).txt, .slice (bar b).ab (bar b).lb (bar b).cb, .slice (bar b).ak (bar b).lk (bar b).ck, .slice (bar b).ai (bar b).li (bar b).ci] 26)) w1.heap.size (bar b)) := nbox_new w1 (bar b); have B1 : Hid (Below w.heap.size w (w1.alloc (.cells #[.int .i64 (bar b).kind, .int .u64 (bar b).num, .bool (bar b).neg, .string (bar b).dig, .int .i64 (bar b).exp, .string (bar b).txt, .slice (bar b).ab (bar b).lb (bar b).cb, .slice (bar b).ak (bar b).lk (bar b).ck, .slice (bar b).ai (bar b).li (bar b).ci] 26))) := B0.out.trans (b1.mono B0.out.size); obtain ⟨a0, a1, a2, a3, a4, a5, a6, a7, a8⟩ := Q1.out.fields; obtain ⟨x0, x1, x2, x3, x4, x5, x6, x7, x8⟩ := X1.out.fields)
      | (have kS1 := kS.out _ B1.out; go_at_call 33; refine kS1.mono ?_; rintro e w9 ⟨rfl, hb9⟩; clear kS1; clear a0 a1 a2 a3 a4 a5 a6 a7 a8 x0 x1 x2 x3 x4 x5 x6 x7 x8; have Q9 : Hid (NBox w9 w.heap.size b) := Q1.out.kept hb9 Q1.out.lt; have X9 : Hid (NBox w9 w1.heap.size (bar b)) := X1.out.kept hb9 X1.out.lt; have B9 : Hid (Below w.heap.size w w9) := B1.out.trans (hb9.mono B1.out.size); obtain ⟨a0, a1, a2, a3, a4, a5, a6, a7, a8⟩ := Q9.out.fields; obtain ⟨x0, x1, x2, x3, x4, x5, x6, x7, x8⟩ := X9.out.fields))
    go_ret
    exact ⟨rfl, B9.out⟩
end Go.Proofs.YtnjbppfanmmifaaGreatDoor
namespace Go.Proofs.YtnjbppfanmmifaaGreatDoor
open Go.RowKit
set_option linter.unusedVariables false

set_option maxHeartbeats 8000000 in
set_option maxRecDepth 100000 in
theorem ealone_k2 {D : Nat} {t : Tr} {b : Nb} {w : World} (hN : Nd (D + 1) w b t) (hK : b.kind = 2) : Calls Tryz.prog 60 #[.agg b.arr] w fun e w' => e = .returned (.int .i64 (alF t)) ∧ Below w.heap.size w w' := by
  have hal := alloc_below w (.cells b.arr 26)
  have B0 : Hid (Below w.heap.size w (w.alloc (.cells b.arr 26))) := hal
  have Q0 : Hid (NBox (w.alloc (.cells b.arr 26)) w.heap.size b) := nbox_new w b
  obtain ⟨a0, a1, a2, a3, a4, a5, a6, a7, a8⟩ := (nbox_new w b).fields
  have rk := hN.2.2.2.1.2.1
  have ri := hN.2.2.2.2.2.1
  have kB := bare_any b (w.alloc (.cells b.arr 26))
  have kS : Hid (∀ w', Below w.heap.size w w' → Calls Tryz.prog 33 #[.agg (bar b).arr, .agg b.arr] w' fun e w'' => e = .returned (.bool t.clean) ∧ Below w'.heap.size w' w'') := fun w' hb => esam_any (nd_bar (hN.kept hb)) (hN.kept hb) (Tr.clean_iff t)
  have hk : b.kind = t.kind := hN.1.1
  have hnum : b.num = t.num := hN.1.2.1
  have hneg : b.neg = t.neg := hN.1.2.2.1
  have hdig : b.dig = t.dig := hN.1.2.2.2.1
  have hexp : b.exp = t.exp := hN.1.2.2.2.2.1
  have htxt : b.txt = t.txt := hN.1.2.2.2.2.2
  have hlb : t.bytes.length = b.lb := hN.2.2.1.1
  have hlk : t.keys.length = b.lk := hN.2.2.2.1.1
  have hli : t.kids.length = b.li := hN.2.2.2.2.1
  have mb1 := hN.2.2.1.2.1.1
  have mb2 := hN.2.2.1.2.1.2.1
  have mk1 := rk.1
  have mk2 := rk.2.1
  have mi1 := ri.1
  have mi2 := ri.2.1
  unfold maxLen at mb2 mk2 mi2
  have mt : b.txt.size ≤ 140737488351232 := by rw [htxt]; exact hN.2.1.2.2.2.2
  have hA : alF t = if (b.kind = 5 ∧ 4096 < b.txt.size) ∨ (b.kind = 6 ∧ 4096 < b.lb) then 8
    else if b.kind = 5 ∧ gtx b.txt = false then 6
    else if b.kind = 2 ∧ (rt b.dig = false ∨ (b.neg = true ∧ b.dig = ⟨#[48]⟩)) then 11
    else if b.kind = 3 ∧ rdN b.neg b.dig b.exp = false then 11
    else if t.odd = true then 12 else 0 := by
    rw [hk, hneg, hdig, hexp, htxt, ← hlb]; rfl
  have hO := odd_doc hN
  have hkk : Hid (b.kind = t.kind) := hk
  clear hneg hdig hexp htxt hlb hlk hli hnum hN hk hal rk ri
  have e1 : (b.kind == 1) = false := by rw [hK]; decide
  have e2 : (b.kind == 2) = true := by rw [hK]; decide
  have e3 : (b.kind == 3) = false := by rw [hK]; decide
  have e5 : (b.kind == 5) = false := by rw [hK]; decide
  have e6 : (b.kind == 6) = false := by rw [hK]; decide
  have e8 : (b.kind == 8) = false := by rw [hK]; decide
  have e9 : (b.kind == 9) = false := by rw [hK]; decide
  have e10 : (b.kind == 10) = false := by rw [hK]; decide
  have d0 : decide (b.kind < 0) = false := by rw [hK]; decide
  have d10 : decide (10 < b.kind) = false := by rw [hK]; decide
  have kI : ∀ w0, Calls Tryz.prog 97 #[.string b.dig] w0 fun e w' => e = .returned (.bool (rt b.dig)) ∧ w' = w0 := fun w0 => xright_any b.dig w0
  rw [if_neg (by omega), if_neg (by omega)] at hA
  cases hr : rt b.dig with
  | false =>
    rw [if_pos ⟨hK, .inl hr⟩] at hA
    rw [hA]
    rw [hr] at kI
    clear hA hO hK hr kS
    go_enter Tryz.func60, Tryz.ntmps60
    go_wp2_with (first
      | (go_at_call 95; refine kB.mono ?_; rintro e w1 ⟨he, hb1⟩; rw [Nb.arr] at he; subst he; clear kB a0 a1 a2 a3 a4 a5 a6 a7 a8; have A1 := alloc_below w1 (.cells #[.int .i64 (bar b).kind, .int .u64 (bar b).num, .bool (bar b).neg, .string (bar b).dig, .int .i64 (bar b).exp, .string (bar b).txt, .slice (bar b).ab (bar b).lb (bar b).cb, .slice (bar b).ak (bar b).lk (bar b).ck, .slice (bar b).ai (bar b).li (bar b).ci] 26); have b1 : Below (w.alloc (.cells b.arr 26)).heap.size (w.alloc (.cells b.arr 26)) (w1.alloc (.cells #[.int .i64 (bar b).kind, .int .u64 (bar b).num, .bool (bar b).neg, .string (bar b).dig, .int .i64 (bar b).exp, .string (bar b).txt, .slice (bar b).ab (bar b).lb (bar b).cb, .slice (bar b).ak (bar b).lk (bar b).ck, .slice (bar b).ai (bar b).li (bar b).ci] 26)) := hb1.trans (A1.mono hb1.size); have Q1 : Hid (NBox (w1.alloc (.cells #[.int .i64 (bar b).kind, .int .u64 (bar b).num, .bool (bar b).neg, .string (bar b).dig, .int .i64 (bar b).exp, .string (bar b).txt, .slice (bar b).ab (bar b).lb (bar b).cb, .slice (bar b).ak (bar b).lk (bar b).ck, .slice (bar b).ai (bar b).li (bar b).ci] 26)) w.heap.size b) := Q0.out.kept b1 Q0.out.lt; have X1 : Hid (NBox (w1.alloc (.cells #[.int .i64 (bar b).kind, .int .u64 (bar b).num, .bool (bar b).neg, .string (bar b).dig, .int .i64 (bar b).exp, .string (bar b).txt, .slice (bar b).ab (bar b).lb (bar b).cb, .slice (bar b).ak (bar b).lk (bar b).ck, .slice (bar b).ai (bar b).li (bar b).ci] 26)) w1.heap.size (bar b)) := nbox_new w1 (bar b); have B1 : Hid (Below w.heap.size w (w1.alloc (.cells #[.int .i64 (bar b).kind, .int .u64 (bar b).num, .bool (bar b).neg, .string (bar b).dig, .int .i64 (bar b).exp, .string (bar b).txt, .slice (bar b).ab (bar b).lb (bar b).cb, .slice (bar b).ak (bar b).lk (bar b).ck, .slice (bar b).ai (bar b).li (bar b).ci] 26))) := B0.out.trans (b1.mono B0.out.size); obtain ⟨a0, a1, a2, a3, a4, a5, a6, a7, a8⟩ := Q1.out.fields; obtain ⟨x0, x1, x2, x3, x4, x5, x6, x7, x8⟩ := X1.out.fields)
      | (go_at_call 97; refine (kI _).mono ?_; rintro e wi ⟨rfl, hwi⟩; subst hwi))
    go_ret
    exact ⟨rfl, B1.out⟩
  | true =>
    rw [hr] at kI
    cases hn : b.neg with
    | true =>
      have hz := eq_size b.dig
      by_cases h0 : b.dig = ⟨#[48]⟩
      · have hz' : (b.dig.toList == [48]) = true := by rw [hz]; exact decide_eq_true h0
        rw [if_pos ⟨hK, .inr ⟨hn, h0⟩⟩] at hA
        rw [hA]
        have hLit : b.arr = #[.int .i64 b.kind, .int .u64 b.num, .bool true, .string b.dig, .int .i64 b.exp, .string b.txt, .slice b.ab b.lb b.cb, .slice b.ak b.lk b.ck, .slice b.ai b.li b.ci] := by rw [Nb.arr, hn]
        have kB' : Calls Tryz.prog 95 #[.agg #[.int .i64 b.kind, .int .u64 b.num, .bool true, .string b.dig, .int .i64 b.exp, .string b.txt, .slice b.ab b.lb b.cb, .slice b.ak b.lk b.ck, .slice b.ai b.li b.ci]] (w.alloc (.cells b.arr 26)) fun e w' => e = .returned (.agg (bar b).arr) ∧ Below (w.alloc (.cells b.arr 26)).heap.size (w.alloc (.cells b.arr 26)) w' := by rw [← hLit]; exact kB
        clear kB kS hLit
        have kB := kB'
        clear kB'
        clear hA hO hK hr h0 hz
        go_enter Tryz.func60, Tryz.ntmps60
        go_wp2_with (first
          | (go_at_call 95; refine kB.mono ?_; rintro e w1 ⟨he, hb1⟩; rw [Nb.arr] at he; subst he; clear kB a0 a1 a2 a3 a4 a5 a6 a7 a8; have A1 := alloc_below w1 (.cells #[.int .i64 (bar b).kind, .int .u64 (bar b).num, .bool (bar b).neg, .string (bar b).dig, .int .i64 (bar b).exp, .string (bar b).txt, .slice (bar b).ab (bar b).lb (bar b).cb, .slice (bar b).ak (bar b).lk (bar b).ck, .slice (bar b).ai (bar b).li (bar b).ci] 26); have b1 : Below (w.alloc (.cells b.arr 26)).heap.size (w.alloc (.cells b.arr 26)) (w1.alloc (.cells #[.int .i64 (bar b).kind, .int .u64 (bar b).num, .bool (bar b).neg, .string (bar b).dig, .int .i64 (bar b).exp, .string (bar b).txt, .slice (bar b).ab (bar b).lb (bar b).cb, .slice (bar b).ak (bar b).lk (bar b).ck, .slice (bar b).ai (bar b).li (bar b).ci] 26)) := hb1.trans (A1.mono hb1.size); have Q1 : Hid (NBox (w1.alloc (.cells #[.int .i64 (bar b).kind, .int .u64 (bar b).num, .bool (bar b).neg, .string (bar b).dig, .int .i64 (bar b).exp, .string (bar b).txt, .slice (bar b).ab (bar b).lb (bar b).cb, .slice (bar b).ak (bar b).lk (bar b).ck, .slice (bar b).ai (bar b).li (bar b).ci] 26)) w.heap.size b) := Q0.out.kept b1 Q0.out.lt; have X1 : Hid (NBox (w1.alloc (.cells #[.int .i64 (bar b).kind, .int .u64 (bar b).num, .bool (bar b).neg, .string (bar b).dig, .int .i64 (bar b).exp, .string (bar b).txt, .slice (bar b).ab (bar b).lb (bar b).cb, .slice (bar b).ak (bar b).lk (bar b).ck, .slice (bar b).ai (bar b).li (bar b).ci] 26)) w1.heap.size (bar b)) := nbox_new w1 (bar b); have B1 : Hid (Below w.heap.size w (w1.alloc (.cells #[.int .i64 (bar b).kind, .int .u64 (bar b).num, .bool (bar b).neg, .string (bar b).dig, .int .i64 (bar b).exp, .string (bar b).txt, .slice (bar b).ab (bar b).lb (bar b).cb, .slice (bar b).ak (bar b).lk (bar b).ck, .slice (bar b).ai (bar b).li (bar b).ci] 26))) := B0.out.trans (b1.mono B0.out.size); obtain ⟨a0, a1, a2, a3, a4, a5, a6, a7, a8⟩ := Q1.out.fields; obtain ⟨x0, x1, x2, x3, x4, x5, x6, x7, x8⟩ := X1.out.fields)
          | (go_at_call 97; refine (kI _).mono ?_; rintro e wi ⟨rfl, hwi⟩; subst hwi))
        go_ret
        exact ⟨rfl, B1.out⟩
      · have hz' : (b.dig.toList == [48]) = false := by rw [hz]; exact decide_eq_false h0
        rw [if_neg (fun h => h.2.elim (fun e => by rw [hr] at e; cases e) (fun e => h0 e.2)), if_neg (by omega)] at hA
        rw [d0, d10, e1, e8, e9, e10] at hO
        have hLit : b.arr = #[.int .i64 b.kind, .int .u64 b.num, .bool true, .string b.dig, .int .i64 b.exp, .string b.txt, .slice b.ab b.lb b.cb, .slice b.ak b.lk b.ck, .slice b.ai b.li b.ci] := by rw [Nb.arr, hn]
        have kB' : Calls Tryz.prog 95 #[.agg #[.int .i64 b.kind, .int .u64 b.num, .bool true, .string b.dig, .int .i64 b.exp, .string b.txt, .slice b.ab b.lb b.cb, .slice b.ak b.lk b.ck, .slice b.ai b.li b.ci]] (w.alloc (.cells b.arr 26)) fun e w' => e = .returned (.agg (bar b).arr) ∧ Below (w.alloc (.cells b.arr 26)).heap.size (w.alloc (.cells b.arr 26)) w' := by rw [← hLit]; exact kB
        have kS' : Hid (∀ w', Below w.heap.size w w' → Calls Tryz.prog 33 #[.agg (bar b).arr, .agg #[.int .i64 b.kind, .int .u64 b.num, .bool true, .string b.dig, .int .i64 b.exp, .string b.txt, .slice b.ab b.lb b.cb, .slice b.ak b.lk b.ck, .slice b.ai b.li b.ci]] w' fun e w'' => e = .returned (.bool t.clean) ∧ Below w'.heap.size w' w'') := by rw [← hLit]; exact kS
        clear kB kS hLit
        have kB := kB'
        have kS := kS'
        clear kB' kS'
        clear hK hr h0 hz
        cases hc : t.clean with
        | false =>
          rw [hO, hc] at hA
          rw [hc] at kS
          have hR : alF t = 12 := by rw [hA]; simp
          rw [hR]
          clear hA hO hc hR
          go_enter Tryz.func60, Tryz.ntmps60
          go_wp2_with (first
            | (go_at_call 95; refine kB.mono ?_; rintro e w1 ⟨he, hb1⟩; rw [Nb.arr] at he; subst he; clear kB a0 a1 a2 a3 a4 a5 a6 a7 a8; have A1 := alloc_below w1 (.cells #[.int .i64 (bar b).kind, .int .u64 (bar b).num, .bool (bar b).neg, .string (bar b).dig, .int .i64 (bar b).exp, .string (bar b).txt, .slice (bar b).ab (bar b).lb (bar b).cb, .slice (bar b).ak (bar b).lk (bar b).ck, .slice (bar b).ai (bar b).li (bar b).ci] 26); have b1 : Below (w.alloc (.cells b.arr 26)).heap.size (w.alloc (.cells b.arr 26)) (w1.alloc (.cells #[.int .i64 (bar b).kind, .int .u64 (bar b).num, .bool (bar b).neg, .string (bar b).dig, .int .i64 (bar b).exp, .string (bar b).txt, .slice (bar b).ab (bar b).lb (bar b).cb, .slice (bar b).ak (bar b).lk (bar b).ck, .slice (bar b).ai (bar b).li (bar b).ci] 26)) := hb1.trans (A1.mono hb1.size); have Q1 : Hid (NBox (w1.alloc (.cells #[.int .i64 (bar b).kind, .int .u64 (bar b).num, .bool (bar b).neg, .string (bar b).dig, .int .i64 (bar b).exp, .string (bar b).txt, .slice (bar b).ab (bar b).lb (bar b).cb, .slice (bar b).ak (bar b).lk (bar b).ck, .slice (bar b).ai (bar b).li (bar b).ci] 26)) w.heap.size b) := Q0.out.kept b1 Q0.out.lt; have X1 : Hid (NBox (w1.alloc (.cells #[.int .i64 (bar b).kind, .int .u64 (bar b).num, .bool (bar b).neg, .string (bar b).dig, .int .i64 (bar b).exp, .string (bar b).txt, .slice (bar b).ab (bar b).lb (bar b).cb, .slice (bar b).ak (bar b).lk (bar b).ck, .slice (bar b).ai (bar b).li (bar b).ci] 26)) w1.heap.size (bar b)) := nbox_new w1 (bar b); have B1 : Hid (Below w.heap.size w (w1.alloc (.cells #[.int .i64 (bar b).kind, .int .u64 (bar b).num, .bool (bar b).neg, .string (bar b).dig, .int .i64 (bar b).exp, .string (bar b).txt, .slice (bar b).ab (bar b).lb (bar b).cb, .slice (bar b).ak (bar b).lk (bar b).ck, .slice (bar b).ai (bar b).li (bar b).ci] 26))) := B0.out.trans (b1.mono B0.out.size); obtain ⟨a0, a1, a2, a3, a4, a5, a6, a7, a8⟩ := Q1.out.fields; obtain ⟨x0, x1, x2, x3, x4, x5, x6, x7, x8⟩ := X1.out.fields)
            | (go_at_call 97; refine (kI _).mono ?_; rintro e wi ⟨rfl, hwi⟩; subst hwi)
            | (have kS1 := kS.out _ B1.out; go_at_call 33; refine kS1.mono ?_; rintro e w9 ⟨rfl, hb9⟩; clear kS1; clear a0 a1 a2 a3 a4 a5 a6 a7 a8 x0 x1 x2 x3 x4 x5 x6 x7 x8; have Q9 : Hid (NBox w9 w.heap.size b) := Q1.out.kept hb9 Q1.out.lt; have X9 : Hid (NBox w9 w1.heap.size (bar b)) := X1.out.kept hb9 X1.out.lt; have B9 : Hid (Below w.heap.size w w9) := B1.out.trans (hb9.mono B1.out.size); obtain ⟨a0, a1, a2, a3, a4, a5, a6, a7, a8⟩ := Q9.out.fields; obtain ⟨x0, x1, x2, x3, x4, x5, x6, x7, x8⟩ := X9.out.fields))
          go_ret
          exact ⟨rfl, B9.out⟩
        | true =>
          rw [hO, hc] at hA
          rw [hc] at kS
          have hR : alF t = 0 := by rw [hA]; simp [*]
          rw [hR]
          clear hA hO hc hR
          go_enter Tryz.func60, Tryz.ntmps60
          go_wp2_with (first
            | (go_at_call 95; refine kB.mono ?_; rintro e w1 ⟨he, hb1⟩; rw [Nb.arr] at he; subst he; clear kB a0 a1 a2 a3 a4 a5 a6 a7 a8; have A1 := alloc_below w1 (.cells #[.int .i64 (bar b).kind, .int .u64 (bar b).num, .bool (bar b).neg, .string (bar b).dig, .int .i64 (bar b).exp, .string (bar b).txt, .slice (bar b).ab (bar b).lb (bar b).cb, .slice (bar b).ak (bar b).lk (bar b).ck, .slice (bar b).ai (bar b).li (bar b).ci] 26); have b1 : Below (w.alloc (.cells b.arr 26)).heap.size (w.alloc (.cells b.arr 26)) (w1.alloc (.cells #[.int .i64 (bar b).kind, .int .u64 (bar b).num, .bool (bar b).neg, .string (bar b).dig, .int .i64 (bar b).exp, .string (bar b).txt, .slice (bar b).ab (bar b).lb (bar b).cb, .slice (bar b).ak (bar b).lk (bar b).ck, .slice (bar b).ai (bar b).li (bar b).ci] 26)) := hb1.trans (A1.mono hb1.size); have Q1 : Hid (NBox (w1.alloc (.cells #[.int .i64 (bar b).kind, .int .u64 (bar b).num, .bool (bar b).neg, .string (bar b).dig, .int .i64 (bar b).exp, .string (bar b).txt, .slice (bar b).ab (bar b).lb (bar b).cb, .slice (bar b).ak (bar b).lk (bar b).ck, .slice (bar b).ai (bar b).li (bar b).ci] 26)) w.heap.size b) := Q0.out.kept b1 Q0.out.lt; have X1 : Hid (NBox (w1.alloc (.cells #[.int .i64 (bar b).kind, .int .u64 (bar b).num, .bool (bar b).neg, .string (bar b).dig, .int .i64 (bar b).exp, .string (bar b).txt, .slice (bar b).ab (bar b).lb (bar b).cb, .slice (bar b).ak (bar b).lk (bar b).ck, .slice (bar b).ai (bar b).li (bar b).ci] 26)) w1.heap.size (bar b)) := nbox_new w1 (bar b); have B1 : Hid (Below w.heap.size w (w1.alloc (.cells #[.int .i64 (bar b).kind, .int .u64 (bar b).num, .bool (bar b).neg, .string (bar b).dig, .int .i64 (bar b).exp, .string (bar b).txt, .slice (bar b).ab (bar b).lb (bar b).cb, .slice (bar b).ak (bar b).lk (bar b).ck, .slice (bar b).ai (bar b).li (bar b).ci] 26))) := B0.out.trans (b1.mono B0.out.size); obtain ⟨a0, a1, a2, a3, a4, a5, a6, a7, a8⟩ := Q1.out.fields; obtain ⟨x0, x1, x2, x3, x4, x5, x6, x7, x8⟩ := X1.out.fields)
            | (go_at_call 97; refine (kI _).mono ?_; rintro e wi ⟨rfl, hwi⟩; subst hwi)
            | (have kS1 := kS.out _ B1.out; go_at_call 33; refine kS1.mono ?_; rintro e w9 ⟨rfl, hb9⟩; clear kS1; clear a0 a1 a2 a3 a4 a5 a6 a7 a8 x0 x1 x2 x3 x4 x5 x6 x7 x8; have Q9 : Hid (NBox w9 w.heap.size b) := Q1.out.kept hb9 Q1.out.lt; have X9 : Hid (NBox w9 w1.heap.size (bar b)) := X1.out.kept hb9 X1.out.lt; have B9 : Hid (Below w.heap.size w w9) := B1.out.trans (hb9.mono B1.out.size); obtain ⟨a0, a1, a2, a3, a4, a5, a6, a7, a8⟩ := Q9.out.fields; obtain ⟨x0, x1, x2, x3, x4, x5, x6, x7, x8⟩ := X9.out.fields))
          go_ret
          exact ⟨rfl, B9.out⟩
    | false =>
      rw [if_neg (fun h => h.2.elim (fun e => by rw [hr] at e; cases e) (fun e => by rw [hn] at e; exact absurd e.1 (by simp))), if_neg (by omega)] at hA
      rw [d0, d10, e1, e8, e9, e10] at hO
      have hLit : b.arr = #[.int .i64 b.kind, .int .u64 b.num, .bool false, .string b.dig, .int .i64 b.exp, .string b.txt, .slice b.ab b.lb b.cb, .slice b.ak b.lk b.ck, .slice b.ai b.li b.ci] := by rw [Nb.arr, hn]
      have kB' : Calls Tryz.prog 95 #[.agg #[.int .i64 b.kind, .int .u64 b.num, .bool false, .string b.dig, .int .i64 b.exp, .string b.txt, .slice b.ab b.lb b.cb, .slice b.ak b.lk b.ck, .slice b.ai b.li b.ci]] (w.alloc (.cells b.arr 26)) fun e w' => e = .returned (.agg (bar b).arr) ∧ Below (w.alloc (.cells b.arr 26)).heap.size (w.alloc (.cells b.arr 26)) w' := by rw [← hLit]; exact kB
      have kS' : Hid (∀ w', Below w.heap.size w w' → Calls Tryz.prog 33 #[.agg (bar b).arr, .agg #[.int .i64 b.kind, .int .u64 b.num, .bool false, .string b.dig, .int .i64 b.exp, .string b.txt, .slice b.ab b.lb b.cb, .slice b.ak b.lk b.ck, .slice b.ai b.li b.ci]] w' fun e w'' => e = .returned (.bool t.clean) ∧ Below w'.heap.size w' w'') := by rw [← hLit]; exact kS
      clear kB kS hLit
      have kB := kB'
      have kS := kS'
      clear kB' kS'
      clear hK hr
      cases hc : t.clean with
      | false =>
        rw [hO, hc] at hA
        rw [hc] at kS
        have hR : alF t = 12 := by rw [hA]; simp
        rw [hR]
        clear hA hO hc hR
        go_enter Tryz.func60, Tryz.ntmps60
        go_wp2_with (first
          | (go_at_call 95; refine kB.mono ?_; rintro e w1 ⟨he, hb1⟩; rw [Nb.arr] at he; subst he; clear kB a0 a1 a2 a3 a4 a5 a6 a7 a8; have A1 := alloc_below w1 (.cells #[.int .i64 (bar b).kind, .int .u64 (bar b).num, .bool (bar b).neg, .string (bar b).dig, .int .i64 (bar b).exp, .string (bar b).txt, .slice (bar b).ab (bar b).lb (bar b).cb, .slice (bar b).ak (bar b).lk (bar b).ck, .slice (bar b).ai (bar b).li (bar b).ci] 26); have b1 : Below (w.alloc (.cells b.arr 26)).heap.size (w.alloc (.cells b.arr 26)) (w1.alloc (.cells #[.int .i64 (bar b).kind, .int .u64 (bar b).num, .bool (bar b).neg, .string (bar b).dig, .int .i64 (bar b).exp, .string (bar b).txt, .slice (bar b).ab (bar b).lb (bar b).cb, .slice (bar b).ak (bar b).lk (bar b).ck, .slice (bar b).ai (bar b).li (bar b).ci] 26)) := hb1.trans (A1.mono hb1.size); have Q1 : Hid (NBox (w1.alloc (.cells #[.int .i64 (bar b).kind, .int .u64 (bar b).num, .bool (bar b).neg, .string (bar b).dig, .int .i64 (bar b).exp, .string (bar b).txt, .slice (bar b).ab (bar b).lb (bar b).cb, .slice (bar b).ak (bar b).lk (bar b).ck, .slice (bar b).ai (bar b).li (bar b).ci] 26)) w.heap.size b) := Q0.out.kept b1 Q0.out.lt; have X1 : Hid (NBox (w1.alloc (.cells #[.int .i64 (bar b).kind, .int .u64 (bar b).num, .bool (bar b).neg, .string (bar b).dig, .int .i64 (bar b).exp, .string (bar b).txt, .slice (bar b).ab (bar b).lb (bar b).cb, .slice (bar b).ak (bar b).lk (bar b).ck, .slice (bar b).ai (bar b).li (bar b).ci] 26)) w1.heap.size (bar b)) := nbox_new w1 (bar b); have B1 : Hid (Below w.heap.size w (w1.alloc (.cells #[.int .i64 (bar b).kind, .int .u64 (bar b).num, .bool (bar b).neg, .string (bar b).dig, .int .i64 (bar b).exp, .string (bar b).txt, .slice (bar b).ab (bar b).lb (bar b).cb, .slice (bar b).ak (bar b).lk (bar b).ck, .slice (bar b).ai (bar b).li (bar b).ci] 26))) := B0.out.trans (b1.mono B0.out.size); obtain ⟨a0, a1, a2, a3, a4, a5, a6, a7, a8⟩ := Q1.out.fields; obtain ⟨x0, x1, x2, x3, x4, x5, x6, x7, x8⟩ := X1.out.fields)
          | (go_at_call 97; refine (kI _).mono ?_; rintro e wi ⟨rfl, hwi⟩; subst hwi)
          | (have kS1 := kS.out _ B1.out; go_at_call 33; refine kS1.mono ?_; rintro e w9 ⟨rfl, hb9⟩; clear kS1; clear a0 a1 a2 a3 a4 a5 a6 a7 a8 x0 x1 x2 x3 x4 x5 x6 x7 x8; have Q9 : Hid (NBox w9 w.heap.size b) := Q1.out.kept hb9 Q1.out.lt; have X9 : Hid (NBox w9 w1.heap.size (bar b)) := X1.out.kept hb9 X1.out.lt; have B9 : Hid (Below w.heap.size w w9) := B1.out.trans (hb9.mono B1.out.size); obtain ⟨a0, a1, a2, a3, a4, a5, a6, a7, a8⟩ := Q9.out.fields; obtain ⟨x0, x1, x2, x3, x4, x5, x6, x7, x8⟩ := X9.out.fields))
        go_ret
        exact ⟨rfl, B9.out⟩
      | true =>
        rw [hO, hc] at hA
        rw [hc] at kS
        have hR : alF t = 0 := by rw [hA]; simp [*]
        rw [hR]
        clear hA hO hc hR
        go_enter Tryz.func60, Tryz.ntmps60
        go_wp2_with (first
          | (go_at_call 95; refine kB.mono ?_; rintro e w1 ⟨he, hb1⟩; rw [Nb.arr] at he; subst he; clear kB a0 a1 a2 a3 a4 a5 a6 a7 a8; have A1 := alloc_below w1 (.cells #[.int .i64 (bar b).kind, .int .u64 (bar b).num, .bool (bar b).neg, .string (bar b).dig, .int .i64 (bar b).exp, .string (bar b).txt, .slice (bar b).ab (bar b).lb (bar b).cb, .slice (bar b).ak (bar b).lk (bar b).ck, .slice (bar b).ai (bar b).li (bar b).ci] 26); have b1 : Below (w.alloc (.cells b.arr 26)).heap.size (w.alloc (.cells b.arr 26)) (w1.alloc (.cells #[.int .i64 (bar b).kind, .int .u64 (bar b).num, .bool (bar b).neg, .string (bar b).dig, .int .i64 (bar b).exp, .string (bar b).txt, .slice (bar b).ab (bar b).lb (bar b).cb, .slice (bar b).ak (bar b).lk (bar b).ck, .slice (bar b).ai (bar b).li (bar b).ci] 26)) := hb1.trans (A1.mono hb1.size); have Q1 : Hid (NBox (w1.alloc (.cells #[.int .i64 (bar b).kind, .int .u64 (bar b).num, .bool (bar b).neg, .string (bar b).dig, .int .i64 (bar b).exp, .string (bar b).txt, .slice (bar b).ab (bar b).lb (bar b).cb, .slice (bar b).ak (bar b).lk (bar b).ck, .slice (bar b).ai (bar b).li (bar b).ci] 26)) w.heap.size b) := Q0.out.kept b1 Q0.out.lt; have X1 : Hid (NBox (w1.alloc (.cells #[.int .i64 (bar b).kind, .int .u64 (bar b).num, .bool (bar b).neg, .string (bar b).dig, .int .i64 (bar b).exp, .string (bar b).txt, .slice (bar b).ab (bar b).lb (bar b).cb, .slice (bar b).ak (bar b).lk (bar b).ck, .slice (bar b).ai (bar b).li (bar b).ci] 26)) w1.heap.size (bar b)) := nbox_new w1 (bar b); have B1 : Hid (Below w.heap.size w (w1.alloc (.cells #[.int .i64 (bar b).kind, .int .u64 (bar b).num, .bool (bar b).neg, .string (bar b).dig, .int .i64 (bar b).exp, .string (bar b).txt, .slice (bar b).ab (bar b).lb (bar b).cb, .slice (bar b).ak (bar b).lk (bar b).ck, .slice (bar b).ai (bar b).li (bar b).ci] 26))) := B0.out.trans (b1.mono B0.out.size); obtain ⟨a0, a1, a2, a3, a4, a5, a6, a7, a8⟩ := Q1.out.fields; obtain ⟨x0, x1, x2, x3, x4, x5, x6, x7, x8⟩ := X1.out.fields)
          | (go_at_call 97; refine (kI _).mono ?_; rintro e wi ⟨rfl, hwi⟩; subst hwi)
          | (have kS1 := kS.out _ B1.out; go_at_call 33; refine kS1.mono ?_; rintro e w9 ⟨rfl, hb9⟩; clear kS1; clear a0 a1 a2 a3 a4 a5 a6 a7 a8 x0 x1 x2 x3 x4 x5 x6 x7 x8; have Q9 : Hid (NBox w9 w.heap.size b) := Q1.out.kept hb9 Q1.out.lt; have X9 : Hid (NBox w9 w1.heap.size (bar b)) := X1.out.kept hb9 X1.out.lt; have B9 : Hid (Below w.heap.size w w9) := B1.out.trans (hb9.mono B1.out.size); obtain ⟨a0, a1, a2, a3, a4, a5, a6, a7, a8⟩ := Q9.out.fields; obtain ⟨x0, x1, x2, x3, x4, x5, x6, x7, x8⟩ := X9.out.fields))
        go_ret
        exact ⟨rfl, B9.out⟩
end Go.Proofs.YtnjbppfanmmifaaGreatDoor
namespace Go.Proofs.YtnjbppfanmmifaaGreatDoor
open Go.RowKit
set_option linter.unusedVariables false

set_option maxHeartbeats 8000000 in
set_option maxRecDepth 100000 in
theorem ealone_k3 {D : Nat} {t : Tr} {b : Nb} {w : World} (hN : Nd (D + 1) w b t) (hK : b.kind = 3) : Calls Tryz.prog 60 #[.agg b.arr] w fun e w' => e = .returned (.int .i64 (alF t)) ∧ Below w.heap.size w w' := by
  have hal := alloc_below w (.cells b.arr 26)
  have B0 : Hid (Below w.heap.size w (w.alloc (.cells b.arr 26))) := hal
  have Q0 : Hid (NBox (w.alloc (.cells b.arr 26)) w.heap.size b) := nbox_new w b
  obtain ⟨a0, a1, a2, a3, a4, a5, a6, a7, a8⟩ := (nbox_new w b).fields
  have rk := hN.2.2.2.1.2.1
  have ri := hN.2.2.2.2.2.1
  have kB := bare_any b (w.alloc (.cells b.arr 26))
  have kS : Hid (∀ w', Below w.heap.size w w' → Calls Tryz.prog 33 #[.agg (bar b).arr, .agg b.arr] w' fun e w'' => e = .returned (.bool t.clean) ∧ Below w'.heap.size w' w'') := fun w' hb => esam_any (nd_bar (hN.kept hb)) (hN.kept hb) (Tr.clean_iff t)
  have hk : b.kind = t.kind := hN.1.1
  have hnum : b.num = t.num := hN.1.2.1
  have hneg : b.neg = t.neg := hN.1.2.2.1
  have hdig : b.dig = t.dig := hN.1.2.2.2.1
  have hexp : b.exp = t.exp := hN.1.2.2.2.2.1
  have htxt : b.txt = t.txt := hN.1.2.2.2.2.2
  have hlb : t.bytes.length = b.lb := hN.2.2.1.1
  have hlk : t.keys.length = b.lk := hN.2.2.2.1.1
  have hli : t.kids.length = b.li := hN.2.2.2.2.1
  have mb1 := hN.2.2.1.2.1.1
  have mb2 := hN.2.2.1.2.1.2.1
  have mk1 := rk.1
  have mk2 := rk.2.1
  have mi1 := ri.1
  have mi2 := ri.2.1
  unfold maxLen at mb2 mk2 mi2
  have mt : b.txt.size ≤ 140737488351232 := by rw [htxt]; exact hN.2.1.2.2.2.2
  have hA : alF t = if (b.kind = 5 ∧ 4096 < b.txt.size) ∨ (b.kind = 6 ∧ 4096 < b.lb) then 8
    else if b.kind = 5 ∧ gtx b.txt = false then 6
    else if b.kind = 2 ∧ (rt b.dig = false ∨ (b.neg = true ∧ b.dig = ⟨#[48]⟩)) then 11
    else if b.kind = 3 ∧ rdN b.neg b.dig b.exp = false then 11
    else if t.odd = true then 12 else 0 := by
    rw [hk, hneg, hdig, hexp, htxt, ← hlb]; rfl
  have hO := odd_doc hN
  have hkk : Hid (b.kind = t.kind) := hk
  clear hneg hdig hexp htxt hlb hlk hli hnum hN hk hal rk ri
  have e1 : (b.kind == 1) = false := by rw [hK]; decide
  have e2 : (b.kind == 2) = false := by rw [hK]; decide
  have e3 : (b.kind == 3) = true := by rw [hK]; decide
  have e5 : (b.kind == 5) = false := by rw [hK]; decide
  have e6 : (b.kind == 6) = false := by rw [hK]; decide
  have e8 : (b.kind == 8) = false := by rw [hK]; decide
  have e9 : (b.kind == 9) = false := by rw [hK]; decide
  have e10 : (b.kind == 10) = false := by rw [hK]; decide
  have d0 : decide (b.kind < 0) = false := by rw [hK]; decide
  have d10 : decide (10 < b.kind) = false := by rw [hK]; decide
  have kN1 : ∀ w0, Calls Tryz.prog 99 #[.agg b.arr] w0 fun e w' => e = .returned (.agg #[.bool b.neg, .string b.dig, .int .i64 b.exp]) ∧ Below w0.heap.size w0 w' := fun w0 => number_any b w0
  have kN2 := kN1
  have kW : ∀ w0, Calls Tryz.prog 98 #[.agg #[.bool b.neg, .string b.dig, .int .i64 b.exp]] w0 fun e w' => e = .returned (.tuple #[.string (wholeA b.neg b.dig b.exp).1, .bool (wholeA b.neg b.dig b.exp).2]) ∧ Below w0.heap.size w0 w' := fun w0 => ywhole_any b.neg b.dig b.exp w0
  have kR : ∀ w0, Calls Tryz.prog 100 #[.agg #[.bool b.neg, .string b.dig, .int .i64 b.exp]] w0 fun e w' => e = .returned (.bool (rtN b.neg b.dig b.exp)) ∧ Below w0.heap.size w0 w' := fun w0 => yright_any b.neg b.dig b.exp w0
  have hrd : rdN b.neg b.dig b.exp = (rtN b.neg b.dig b.exp && !(wholeA b.neg b.dig b.exp).2) := rfl
  generalize (wholeA b.neg b.dig b.exp).1 = S1 at *
  generalize (wholeA b.neg b.dig b.exp).2 = V1 at *
  generalize rtN b.neg b.dig b.exp = R1 at *
  rw [if_neg (by omega), if_neg (by omega), if_neg (by omega)] at hA
  cases R1 with
  | false =>
    rw [if_pos ⟨hK, by rw [hrd]; rfl⟩] at hA
    rw [hA]
    clear hA hO hK hrd kS
    go_enter Tryz.func60, Tryz.ntmps60
    go_wp2_with (first
      | (go_at_call 95; refine kB.mono ?_; rintro e w1 ⟨he, hb1⟩; rw [Nb.arr] at he; subst he; clear kB a0 a1 a2 a3 a4 a5 a6 a7 a8; have A1 := alloc_below w1 (.cells #[.int .i64 (bar b).kind, .int .u64 (bar b).num, .bool (bar b).neg, .string (bar b).dig, .int .i64 (bar b).exp, .string (bar b).txt, .slice (bar b).ab (bar b).lb (bar b).cb, .slice (bar b).ak (bar b).lk (bar b).ck, .slice (bar b).ai (bar b).li (bar b).ci] 26); have b1 : Below (w.alloc (.cells b.arr 26)).heap.size (w.alloc (.cells b.arr 26)) (w1.alloc (.cells #[.int .i64 (bar b).kind, .int .u64 (bar b).num, .bool (bar b).neg, .string (bar b).dig, .int .i64 (bar b).exp, .string (bar b).txt, .slice (bar b).ab (bar b).lb (bar b).cb, .slice (bar b).ak (bar b).lk (bar b).ck, .slice (bar b).ai (bar b).li (bar b).ci] 26)) := hb1.trans (A1.mono hb1.size); have Q1 : Hid (NBox (w1.alloc (.cells #[.int .i64 (bar b).kind, .int .u64 (bar b).num, .bool (bar b).neg, .string (bar b).dig, .int .i64 (bar b).exp, .string (bar b).txt, .slice (bar b).ab (bar b).lb (bar b).cb, .slice (bar b).ak (bar b).lk (bar b).ck, .slice (bar b).ai (bar b).li (bar b).ci] 26)) w.heap.size b) := Q0.out.kept b1 Q0.out.lt; have X1 : Hid (NBox (w1.alloc (.cells #[.int .i64 (bar b).kind, .int .u64 (bar b).num, .bool (bar b).neg, .string (bar b).dig, .int .i64 (bar b).exp, .string (bar b).txt, .slice (bar b).ab (bar b).lb (bar b).cb, .slice (bar b).ak (bar b).lk (bar b).ck, .slice (bar b).ai (bar b).li (bar b).ci] 26)) w1.heap.size (bar b)) := nbox_new w1 (bar b); have B1 : Hid (Below w.heap.size w (w1.alloc (.cells #[.int .i64 (bar b).kind, .int .u64 (bar b).num, .bool (bar b).neg, .string (bar b).dig, .int .i64 (bar b).exp, .string (bar b).txt, .slice (bar b).ab (bar b).lb (bar b).cb, .slice (bar b).ak (bar b).lk (bar b).ck, .slice (bar b).ai (bar b).li (bar b).ci] 26))) := B0.out.trans (b1.mono B0.out.size); obtain ⟨a0, a1, a2, a3, a4, a5, a6, a7, a8⟩ := Q1.out.fields; obtain ⟨x0, x1, x2, x3, x4, x5, x6, x7, x8⟩ := X1.out.fields)
      | (go_at_call 99; refine (kN1 _).mono ?_; rintro e w2 ⟨rfl, hb2⟩; clear kN1; clear a0 a1 a2 a3 a4 a5 a6 a7 a8 x0 x1 x2 x3 x4 x5 x6 x7 x8; have Q2 : Hid (NBox w2 w.heap.size b) := Q1.out.kept hb2 Q1.out.lt; have X2 : Hid (NBox w2 w1.heap.size (bar b)) := X1.out.kept hb2 X1.out.lt; have B2 : Hid (Below w.heap.size w w2) := B1.out.trans (hb2.mono B1.out.size); obtain ⟨a0, a1, a2, a3, a4, a5, a6, a7, a8⟩ := Q2.out.fields; obtain ⟨x0, x1, x2, x3, x4, x5, x6, x7, x8⟩ := X2.out.fields)
      | (go_at_call 98; refine (kW _).mono ?_; rintro e w3 ⟨rfl, hb3⟩; clear kW; clear a0 a1 a2 a3 a4 a5 a6 a7 a8 x0 x1 x2 x3 x4 x5 x6 x7 x8; have Q3 : Hid (NBox w3 w.heap.size b) := Q2.out.kept hb3 Q2.out.lt; have X3 : Hid (NBox w3 w1.heap.size (bar b)) := X2.out.kept hb3 X2.out.lt; have B3 : Hid (Below w.heap.size w w3) := B2.out.trans (hb3.mono B2.out.size); obtain ⟨a0, a1, a2, a3, a4, a5, a6, a7, a8⟩ := Q3.out.fields; obtain ⟨x0, x1, x2, x3, x4, x5, x6, x7, x8⟩ := X3.out.fields)
      | (go_at_call 99; refine (kN2 _).mono ?_; rintro e w4 ⟨rfl, hb4⟩; clear kN2; clear a0 a1 a2 a3 a4 a5 a6 a7 a8 x0 x1 x2 x3 x4 x5 x6 x7 x8; have Q4 : Hid (NBox w4 w.heap.size b) := Q3.out.kept hb4 Q3.out.lt; have X4 : Hid (NBox w4 w1.heap.size (bar b)) := X3.out.kept hb4 X3.out.lt; have B4 : Hid (Below w.heap.size w w4) := B3.out.trans (hb4.mono B3.out.size); obtain ⟨a0, a1, a2, a3, a4, a5, a6, a7, a8⟩ := Q4.out.fields; obtain ⟨x0, x1, x2, x3, x4, x5, x6, x7, x8⟩ := X4.out.fields)
      | (go_at_call 100; refine (kR _).mono ?_; rintro e w5 ⟨rfl, hb5⟩; clear kR; clear a0 a1 a2 a3 a4 a5 a6 a7 a8 x0 x1 x2 x3 x4 x5 x6 x7 x8; have Q5 : Hid (NBox w5 w.heap.size b) := Q4.out.kept hb5 Q4.out.lt; have X5 : Hid (NBox w5 w1.heap.size (bar b)) := X4.out.kept hb5 X4.out.lt; have B5 : Hid (Below w.heap.size w w5) := B4.out.trans (hb5.mono B4.out.size); obtain ⟨a0, a1, a2, a3, a4, a5, a6, a7, a8⟩ := Q5.out.fields; obtain ⟨x0, x1, x2, x3, x4, x5, x6, x7, x8⟩ := X5.out.fields))
    go_ret
    exact ⟨rfl, B5.out⟩
  | true =>
    cases V1 with
    | true =>
      rw [if_pos ⟨hK, by rw [hrd]; rfl⟩] at hA
      rw [hA]
      clear hA hO hK hrd kS
      go_enter Tryz.func60, Tryz.ntmps60
      go_wp2_with (first
        | (go_at_call 95; refine kB.mono ?_; rintro e w1 ⟨he, hb1⟩; rw [Nb.arr] at he; subst he; clear kB a0 a1 a2 a3 a4 a5 a6 a7 a8; have A1 := alloc_below w1 (.cells #[.int .i64 (bar b).kind, .int .u64 (bar b).num, .bool (bar b).neg, .string (bar b).dig, .int .i64 (bar b).exp, .string (bar b).txt, .slice (bar b).ab (bar b).lb (bar b).cb, .slice (bar b).ak (bar b).lk (bar b).ck, .slice (bar b).ai (bar b).li (bar b).ci] 26); have b1 : Below (w.alloc (.cells b.arr 26)).heap.size (w.alloc (.cells b.arr 26)) (w1.alloc (.cells #[.int .i64 (bar b).kind, .int .u64 (bar b).num, .bool (bar b).neg, .string (bar b).dig, .int .i64 (bar b).exp, .string (bar b).txt, .slice (bar b).ab (bar b).lb (bar b).cb, .slice (bar b).ak (bar b).lk (bar b).ck, .slice (bar b).ai (bar b).li (bar b).ci] 26)) := hb1.trans (A1.mono hb1.size); have Q1 : Hid (NBox (w1.alloc (.cells #[.int .i64 (bar b).kind, .int .u64 (bar b).num, .bool (bar b).neg, .string (bar b).dig, .int .i64 (bar b).exp, .string (bar b).txt, .slice (bar b).ab (bar b).lb (bar b).cb, .slice (bar b).ak (bar b).lk (bar b).ck, .slice (bar b).ai (bar b).li (bar b).ci] 26)) w.heap.size b) := Q0.out.kept b1 Q0.out.lt; have X1 : Hid (NBox (w1.alloc (.cells #[.int .i64 (bar b).kind, .int .u64 (bar b).num, .bool (bar b).neg, .string (bar b).dig, .int .i64 (bar b).exp, .string (bar b).txt, .slice (bar b).ab (bar b).lb (bar b).cb, .slice (bar b).ak (bar b).lk (bar b).ck, .slice (bar b).ai (bar b).li (bar b).ci] 26)) w1.heap.size (bar b)) := nbox_new w1 (bar b); have B1 : Hid (Below w.heap.size w (w1.alloc (.cells #[.int .i64 (bar b).kind, .int .u64 (bar b).num, .bool (bar b).neg, .string (bar b).dig, .int .i64 (bar b).exp, .string (bar b).txt, .slice (bar b).ab (bar b).lb (bar b).cb, .slice (bar b).ak (bar b).lk (bar b).ck, .slice (bar b).ai (bar b).li (bar b).ci] 26))) := B0.out.trans (b1.mono B0.out.size); obtain ⟨a0, a1, a2, a3, a4, a5, a6, a7, a8⟩ := Q1.out.fields; obtain ⟨x0, x1, x2, x3, x4, x5, x6, x7, x8⟩ := X1.out.fields)
        | (go_at_call 99; refine (kN1 _).mono ?_; rintro e w2 ⟨rfl, hb2⟩; clear kN1; clear a0 a1 a2 a3 a4 a5 a6 a7 a8 x0 x1 x2 x3 x4 x5 x6 x7 x8; have Q2 : Hid (NBox w2 w.heap.size b) := Q1.out.kept hb2 Q1.out.lt; have X2 : Hid (NBox w2 w1.heap.size (bar b)) := X1.out.kept hb2 X1.out.lt; have B2 : Hid (Below w.heap.size w w2) := B1.out.trans (hb2.mono B1.out.size); obtain ⟨a0, a1, a2, a3, a4, a5, a6, a7, a8⟩ := Q2.out.fields; obtain ⟨x0, x1, x2, x3, x4, x5, x6, x7, x8⟩ := X2.out.fields)
        | (go_at_call 98; refine (kW _).mono ?_; rintro e w3 ⟨rfl, hb3⟩; clear kW; clear a0 a1 a2 a3 a4 a5 a6 a7 a8 x0 x1 x2 x3 x4 x5 x6 x7 x8; have Q3 : Hid (NBox w3 w.heap.size b) := Q2.out.kept hb3 Q2.out.lt; have X3 : Hid (NBox w3 w1.heap.size (bar b)) := X2.out.kept hb3 X2.out.lt; have B3 : Hid (Below w.heap.size w w3) := B2.out.trans (hb3.mono B2.out.size); obtain ⟨a0, a1, a2, a3, a4, a5, a6, a7, a8⟩ := Q3.out.fields; obtain ⟨x0, x1, x2, x3, x4, x5, x6, x7, x8⟩ := X3.out.fields)
        | (go_at_call 99; refine (kN2 _).mono ?_; rintro e w4 ⟨rfl, hb4⟩; clear kN2; clear a0 a1 a2 a3 a4 a5 a6 a7 a8 x0 x1 x2 x3 x4 x5 x6 x7 x8; have Q4 : Hid (NBox w4 w.heap.size b) := Q3.out.kept hb4 Q3.out.lt; have X4 : Hid (NBox w4 w1.heap.size (bar b)) := X3.out.kept hb4 X3.out.lt; have B4 : Hid (Below w.heap.size w w4) := B3.out.trans (hb4.mono B3.out.size); obtain ⟨a0, a1, a2, a3, a4, a5, a6, a7, a8⟩ := Q4.out.fields; obtain ⟨x0, x1, x2, x3, x4, x5, x6, x7, x8⟩ := X4.out.fields)
        | (go_at_call 100; refine (kR _).mono ?_; rintro e w5 ⟨rfl, hb5⟩; clear kR; clear a0 a1 a2 a3 a4 a5 a6 a7 a8 x0 x1 x2 x3 x4 x5 x6 x7 x8; have Q5 : Hid (NBox w5 w.heap.size b) := Q4.out.kept hb5 Q4.out.lt; have X5 : Hid (NBox w5 w1.heap.size (bar b)) := X4.out.kept hb5 X4.out.lt; have B5 : Hid (Below w.heap.size w w5) := B4.out.trans (hb5.mono B4.out.size); obtain ⟨a0, a1, a2, a3, a4, a5, a6, a7, a8⟩ := Q5.out.fields; obtain ⟨x0, x1, x2, x3, x4, x5, x6, x7, x8⟩ := X5.out.fields))
      go_ret
      exact ⟨rfl, B5.out⟩
    | false =>
      rw [if_neg (fun h => by rw [hrd] at h; exact absurd h.2 (by decide))] at hA
      rw [d0, d10, e1, e8, e9, e10] at hO
      clear hK hrd
      cases hc : t.clean with
      | false =>
        rw [hO, hc] at hA
        rw [hc] at kS
        have hR : alF t = 12 := by rw [hA]; simp
        rw [hR]
        clear hA hO hc hR
        go_enter Tryz.func60, Tryz.ntmps60
        go_wp2_with (first
          | (go_at_call 95; refine kB.mono ?_; rintro e w1 ⟨he, hb1⟩; rw [Nb.arr] at he; subst he; clear kB a0 a1 a2 a3 a4 a5 a6 a7 a8; have A1 := alloc_below w1 (.cells #[.int .i64 (bar b).kind, .int .u64 (bar b).num, .bool (bar b).neg, .string (bar b).dig, .int .i64 (bar b).exp, .string (bar b).txt, .slice (bar b).ab (bar b).lb (bar b).cb, .slice (bar b).ak (bar b).lk (bar b).ck, .slice (bar b).ai (bar b).li (bar b).ci] 26); have b1 : Below (w.alloc (.cells b.arr 26)).heap.size (w.alloc (.cells b.arr 26)) (w1.alloc (.cells #[.int .i64 (bar b).kind, .int .u64 (bar b).num, .bool (bar b).neg, .string (bar b).dig, .int .i64 (bar b).exp, .string (bar b).txt, .slice (bar b).ab (bar b).lb (bar b).cb, .slice (bar b).ak (bar b).lk (bar b).ck, .slice (bar b).ai (bar b).li (bar b).ci] 26)) := hb1.trans (A1.mono hb1.size); have Q1 : Hid (NBox (w1.alloc (.cells #[.int .i64 (bar b).kind, .int .u64 (bar b).num, .bool (bar b).neg, .string (bar b).dig, .int .i64 (bar b).exp, .string (bar b).txt, .slice (bar b).ab (bar b).lb (bar b).cb, .slice (bar b).ak (bar b).lk (bar b).ck, .slice (bar b).ai (bar b).li (bar b).ci] 26)) w.heap.size b) := Q0.out.kept b1 Q0.out.lt; have X1 : Hid (NBox (w1.alloc (.cells #[.int .i64 (bar b).kind, .int .u64 (bar b).num, .bool (bar b).neg, .string (bar b).dig, .int .i64 (bar b).exp, .string (bar b).txt, .slice (bar b).ab (bar b).lb (bar b).cb, .slice (bar b).ak (bar b).lk (bar b).ck, .slice (bar b).ai (bar b).li (bar b).ci] 26)) w1.heap.size (bar b)) := nbox_new w1 (bar b); have B1 : Hid (Below w.heap.size w (w1.alloc (.cells #[.int .i64 (bar b).kind, .int .u64 (bar b).num, .bool (bar b).neg, .string (bar b).dig, .int .i64 (bar b).exp, .string (bar b).txt, .slice (bar b).ab (bar b).lb (bar b).cb, .slice (bar b).ak (bar b).lk (bar b).ck, .slice (bar b).ai (bar b).li (bar b).ci] 26))) := B0.out.trans (b1.mono B0.out.size); obtain ⟨a0, a1, a2, a3, a4, a5, a6, a7, a8⟩ := Q1.out.fields; obtain ⟨x0, x1, x2, x3, x4, x5, x6, x7, x8⟩ := X1.out.fields)
          | (go_at_call 99; refine (kN1 _).mono ?_; rintro e w2 ⟨rfl, hb2⟩; clear kN1; clear a0 a1 a2 a3 a4 a5 a6 a7 a8 x0 x1 x2 x3 x4 x5 x6 x7 x8; have Q2 : Hid (NBox w2 w.heap.size b) := Q1.out.kept hb2 Q1.out.lt; have X2 : Hid (NBox w2 w1.heap.size (bar b)) := X1.out.kept hb2 X1.out.lt; have B2 : Hid (Below w.heap.size w w2) := B1.out.trans (hb2.mono B1.out.size); obtain ⟨a0, a1, a2, a3, a4, a5, a6, a7, a8⟩ := Q2.out.fields; obtain ⟨x0, x1, x2, x3, x4, x5, x6, x7, x8⟩ := X2.out.fields)
          | (go_at_call 98; refine (kW _).mono ?_; rintro e w3 ⟨rfl, hb3⟩; clear kW; clear a0 a1 a2 a3 a4 a5 a6 a7 a8 x0 x1 x2 x3 x4 x5 x6 x7 x8; have Q3 : Hid (NBox w3 w.heap.size b) := Q2.out.kept hb3 Q2.out.lt; have X3 : Hid (NBox w3 w1.heap.size (bar b)) := X2.out.kept hb3 X2.out.lt; have B3 : Hid (Below w.heap.size w w3) := B2.out.trans (hb3.mono B2.out.size); obtain ⟨a0, a1, a2, a3, a4, a5, a6, a7, a8⟩ := Q3.out.fields; obtain ⟨x0, x1, x2, x3, x4, x5, x6, x7, x8⟩ := X3.out.fields)
          | (go_at_call 99; refine (kN2 _).mono ?_; rintro e w4 ⟨rfl, hb4⟩; clear kN2; clear a0 a1 a2 a3 a4 a5 a6 a7 a8 x0 x1 x2 x3 x4 x5 x6 x7 x8; have Q4 : Hid (NBox w4 w.heap.size b) := Q3.out.kept hb4 Q3.out.lt; have X4 : Hid (NBox w4 w1.heap.size (bar b)) := X3.out.kept hb4 X3.out.lt; have B4 : Hid (Below w.heap.size w w4) := B3.out.trans (hb4.mono B3.out.size); obtain ⟨a0, a1, a2, a3, a4, a5, a6, a7, a8⟩ := Q4.out.fields; obtain ⟨x0, x1, x2, x3, x4, x5, x6, x7, x8⟩ := X4.out.fields)
          | (go_at_call 100; refine (kR _).mono ?_; rintro e w5 ⟨rfl, hb5⟩; clear kR; clear a0 a1 a2 a3 a4 a5 a6 a7 a8 x0 x1 x2 x3 x4 x5 x6 x7 x8; have Q5 : Hid (NBox w5 w.heap.size b) := Q4.out.kept hb5 Q4.out.lt; have X5 : Hid (NBox w5 w1.heap.size (bar b)) := X4.out.kept hb5 X4.out.lt; have B5 : Hid (Below w.heap.size w w5) := B4.out.trans (hb5.mono B4.out.size); obtain ⟨a0, a1, a2, a3, a4, a5, a6, a7, a8⟩ := Q5.out.fields; obtain ⟨x0, x1, x2, x3, x4, x5, x6, x7, x8⟩ := X5.out.fields)
          | (have kS5 := kS.out _ B5.out; go_at_call 33; refine kS5.mono ?_; rintro e w9 ⟨rfl, hb9⟩; clear kS5; clear a0 a1 a2 a3 a4 a5 a6 a7 a8 x0 x1 x2 x3 x4 x5 x6 x7 x8; have Q9 : Hid (NBox w9 w.heap.size b) := Q5.out.kept hb9 Q5.out.lt; have X9 : Hid (NBox w9 w1.heap.size (bar b)) := X5.out.kept hb9 X5.out.lt; have B9 : Hid (Below w.heap.size w w9) := B5.out.trans (hb9.mono B5.out.size); obtain ⟨a0, a1, a2, a3, a4, a5, a6, a7, a8⟩ := Q9.out.fields; obtain ⟨x0, x1, x2, x3, x4, x5, x6, x7, x8⟩ := X9.out.fields))
        go_ret
        exact ⟨rfl, B9.out⟩
      | true =>
        rw [hO, hc] at hA
        rw [hc] at kS
        have hR : alF t = 0 := by rw [hA]; simp [*]
        rw [hR]
        clear hA hO hc hR
        go_enter Tryz.func60, Tryz.ntmps60
        go_wp2_with (first
          | (go_at_call 95; refine kB.mono ?_; rintro e w1 ⟨he, hb1⟩; rw [Nb.arr] at he; subst he; clear kB a0 a1 a2 a3 a4 a5 a6 a7 a8; have A1 := alloc_below w1 (.cells #[.int .i64 (bar b).kind, .int .u64 (bar b).num, .bool (bar b).neg, .string (bar b).dig, .int .i64 (bar b).exp, .string (bar b).txt, .slice (bar b).ab (bar b).lb (bar b).cb, .slice (bar b).ak (bar b).lk (bar b).ck, .slice (bar b).ai (bar b).li (bar b).ci] 26); have b1 : Below (w.alloc (.cells b.arr 26)).heap.size (w.alloc (.cells b.arr 26)) (w1.alloc (.cells #[.int .i64 (bar b).kind, .int .u64 (bar b).num, .bool (bar b).neg, .string (bar b).dig, .int .i64 (bar b).exp, .string (bar b).txt, .slice (bar b).ab (bar b).lb (bar b).cb, .slice (bar b).ak (bar b).lk (bar b).ck, .slice (bar b).ai (bar b).li (bar b).ci] 26)) := hb1.trans (A1.mono hb1.size); have Q1 : Hid (NBox (w1.alloc (.cells #[.int .i64 (bar b).kind, .int .u64 (bar b).num, .bool (bar b).neg, .string (bar b).dig, .int .i64 (bar b).exp, .string (bar b).txt, .slice (bar b).ab (bar b).lb (bar b).cb, .slice (bar b).ak (bar b).lk (bar b).ck, .slice (bar b).ai (bar b).li (bar b).ci] 26)) w.heap.size b) := Q0.out.kept b1 Q0.out.lt; have X1 : Hid (NBox (w1.alloc (.cells #[.int .i64 (bar b).kind, .int .u64 (bar b).num, .bool (bar b).neg, .string (bar b).dig, .int .i64 (bar b).exp, .string (bar b).txt, .slice (bar b).ab (bar b).lb (bar b).cb, .slice (bar b).ak (bar b).lk (bar b).ck, .slice (bar b).ai (bar b).li (bar b).ci] 26)) w1.heap.size (bar b)) := nbox_new w1 (bar b); have B1 : Hid (Below w.heap.size w (w1.alloc (.cells #[.int .i64 (bar b).kind, .int .u64 (bar b).num, .bool (bar b).neg, .string (bar b).dig, .int .i64 (bar b).exp, .string (bar b).txt, .slice (bar b).ab (bar b).lb (bar b).cb, .slice (bar b).ak (bar b).lk (bar b).ck, .slice (bar b).ai (bar b).li (bar b).ci] 26))) := B0.out.trans (b1.mono B0.out.size); obtain ⟨a0, a1, a2, a3, a4, a5, a6, a7, a8⟩ := Q1.out.fields; obtain ⟨x0, x1, x2, x3, x4, x5, x6, x7, x8⟩ := X1.out.fields)
          | (go_at_call 99; refine (kN1 _).mono ?_; rintro e w2 ⟨rfl, hb2⟩; clear kN1; clear a0 a1 a2 a3 a4 a5 a6 a7 a8 x0 x1 x2 x3 x4 x5 x6 x7 x8; have Q2 : Hid (NBox w2 w.heap.size b) := Q1.out.kept hb2 Q1.out.lt; have X2 : Hid (NBox w2 w1.heap.size (bar b)) := X1.out.kept hb2 X1.out.lt; have B2 : Hid (Below w.heap.size w w2) := B1.out.trans (hb2.mono B1.out.size); obtain ⟨a0, a1, a2, a3, a4, a5, a6, a7, a8⟩ := Q2.out.fields; obtain ⟨x0, x1, x2, x3, x4, x5, x6, x7, x8⟩ := X2.out.fields)
          | (go_at_call 98; refine (kW _).mono ?_; rintro e w3 ⟨rfl, hb3⟩; clear kW; clear a0 a1 a2 a3 a4 a5 a6 a7 a8 x0 x1 x2 x3 x4 x5 x6 x7 x8; have Q3 : Hid (NBox w3 w.heap.size b) := Q2.out.kept hb3 Q2.out.lt; have X3 : Hid (NBox w3 w1.heap.size (bar b)) := X2.out.kept hb3 X2.out.lt; have B3 : Hid (Below w.heap.size w w3) := B2.out.trans (hb3.mono B2.out.size); obtain ⟨a0, a1, a2, a3, a4, a5, a6, a7, a8⟩ := Q3.out.fields; obtain ⟨x0, x1, x2, x3, x4, x5, x6, x7, x8⟩ := X3.out.fields)
          | (go_at_call 99; refine (kN2 _).mono ?_; rintro e w4 ⟨rfl, hb4⟩; clear kN2; clear a0 a1 a2 a3 a4 a5 a6 a7 a8 x0 x1 x2 x3 x4 x5 x6 x7 x8; have Q4 : Hid (NBox w4 w.heap.size b) := Q3.out.kept hb4 Q3.out.lt; have X4 : Hid (NBox w4 w1.heap.size (bar b)) := X3.out.kept hb4 X3.out.lt; have B4 : Hid (Below w.heap.size w w4) := B3.out.trans (hb4.mono B3.out.size); obtain ⟨a0, a1, a2, a3, a4, a5, a6, a7, a8⟩ := Q4.out.fields; obtain ⟨x0, x1, x2, x3, x4, x5, x6, x7, x8⟩ := X4.out.fields)
          | (go_at_call 100; refine (kR _).mono ?_; rintro e w5 ⟨rfl, hb5⟩; clear kR; clear a0 a1 a2 a3 a4 a5 a6 a7 a8 x0 x1 x2 x3 x4 x5 x6 x7 x8; have Q5 : Hid (NBox w5 w.heap.size b) := Q4.out.kept hb5 Q4.out.lt; have X5 : Hid (NBox w5 w1.heap.size (bar b)) := X4.out.kept hb5 X4.out.lt; have B5 : Hid (Below w.heap.size w w5) := B4.out.trans (hb5.mono B4.out.size); obtain ⟨a0, a1, a2, a3, a4, a5, a6, a7, a8⟩ := Q5.out.fields; obtain ⟨x0, x1, x2, x3, x4, x5, x6, x7, x8⟩ := X5.out.fields)
          | (have kS5 := kS.out _ B5.out; go_at_call 33; refine kS5.mono ?_; rintro e w9 ⟨rfl, hb9⟩; clear kS5; clear a0 a1 a2 a3 a4 a5 a6 a7 a8 x0 x1 x2 x3 x4 x5 x6 x7 x8; have Q9 : Hid (NBox w9 w.heap.size b) := Q5.out.kept hb9 Q5.out.lt; have X9 : Hid (NBox w9 w1.heap.size (bar b)) := X5.out.kept hb9 X5.out.lt; have B9 : Hid (Below w.heap.size w w9) := B5.out.trans (hb9.mono B5.out.size); obtain ⟨a0, a1, a2, a3, a4, a5, a6, a7, a8⟩ := Q9.out.fields; obtain ⟨x0, x1, x2, x3, x4, x5, x6, x7, x8⟩ := X9.out.fields))
        go_ret
        exact ⟨rfl, B9.out⟩
end Go.Proofs.YtnjbppfanmmifaaGreatDoor
