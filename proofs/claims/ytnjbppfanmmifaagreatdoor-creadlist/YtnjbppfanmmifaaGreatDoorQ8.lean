/-
  Where the whole characters end, and how far a character is begun, in the program.
  How far a character is begun that is not whole.
  Rows of runes: read, made, appended to, compared; what Go's '[]rune(s)' lays.
  Whether bytes are a text, and a text's characters, in the program.
  What is wrong with a node itself: tree.fault (plain part).
  Binary numbers by their bits, as whole numbers: what it is to widen and to narrow. No program is named here.
  The formats, and what they are made of: the small functions of flt.
-/
import Derived.Test.YtnjbppfanmmifaaGreatDoorQ7
import Derived.Test.YtnjbppfanmmifaaGreatDoorQ3
import Derived.Test.YtnjbppfanmmifaaGreatDoorQ5
import Derived.Laws.RangeAny
import Derived.LoopTactic
import Derived.Deep.DeepAppendWide
import Derived.Deep.QuietTactic
import Derived.BigQuiet
import Derived.RegionTactic
import Derived.ChangeAlike
import Derived.Lib.BitFns
import Derived.Lib.ItoaNum
import Derived.Deep.RegionHeld3
import Derived.Lib.EndianBits
namespace Go.Proofs.YtnjbppfanmmifaaGreatDoor
open Go.RowKit

/-- A byte's cell, as a natural number. -/
theorem Bytes.nat {w : World} {b off : Nat} {zs : List Int} (hb : Bytes w (some ⟨b, off, none⟩) zs) {i : Nat} (hi : i < zs.length) : w.cell? ⟨b, off + i, none⟩ = some (.int .u8 (nth zs i : Nat)) := by
  rcases hb.2.2 with h | ⟨b', off', h, hc⟩
  · subst h; simp at hi
  · cases h
    rw [hc i hi]
    have h1 : 0 ≤ zs.getD i 0 := by
      rw [List.getD_eq_getElem?_getD, List.getElem?_eq_getElem hi]
      exact (hb.1 _ (List.getElem_mem hi)).1
    unfold nth
    rw [Int.toNat_of_nonneg h1]

theorem rlen_any (r : Nat) (w : World) (h : Right r) :
    Calls Tryz.prog 174 #[.int .i32 (r : Nat)] w fun e w' => e = .returned (.int .i64 (lenR r : Nat)) ∧ w' = w := by
  unfold Right at h
  go_enter Tryz.func174, Tryz.ntmps174
  go_wp2
  all_goals
    go_ret
    refine ⟨?_, rfl⟩
    first
    | (have e : lenR r = 1 := by (unfold lenR; repeat' split) <;> omega
       rw [e]; rfl)
    | (have e : lenR r = 2 := by (unfold lenR; repeat' split) <;> omega
       rw [e]; rfl)
    | (have e : lenR r = 3 := by (unfold lenR; repeat' split) <;> omega
       rw [e]; rfl)
    | (have e : lenR r = 4 := by (unfold lenR; repeat' split) <;> omega
       rw [e]; rfl)

theorem iter_below (w : World) (s : ByteArray) (p : Nat) : Below w.heap.size w (w.iter s p) := (Below.refl _ _).alloc (Nat.le_refl _) _

set_option maxHeartbeats 1000000 in
theorem uwhole_any (a : Option Addr) (n cap : Nat) (zs : List Int) (w : World) (hl : zs.length = n) (hb : Bytes w a zs) (hn : n ≤ 4611686018427387904) :
    Calls Tryz.prog 140 #[.slice a n cap] w fun e w' => e = .returned (.int .i64 (endL zs : Nat)) ∧ Below w.heap.size w w' := by
  have hZ : Hid (∀ c ∈ zs, 0 ≤ c ∧ c < 256) := hb.1
  have hL : Hid (zs.length = n) := hl
  obtain ⟨s, hS, ks, hsz⟩ : ∃ s, Hid (s = strOfNums zs) ∧ (convert 22 9 (.slice a n cap)).run Tryz.prog w = .ok (.string s) w ∧ s.size = n := ⟨_, rfl, conv_str hb n cap hl, by rw [strOfNums_size, hl]⟩
  clear hb hl
  go_enter Tryz.func140, Tryz.ntmps140
  go_wp2
  go_loopw [3, 4] (fun f e wr => (∃ pos fr : Nat, wr = w.iter s pos ∧ f = .int .i64 fr ∧ e = .int .i64 pos ∧ pos ≤ n ∧ Hid (endL zs = pos + endL (zs.drop pos))) ∨ (∃ p q fr : Nat, wr = w.iter s p ∧ f = .int .i64 fr ∧ e = .int .i64 q ∧ p ≤ n ∧ Hid (p = fr + 1) ∧ Hid (q = fr + 3) ∧ Hid (endL zs = fr))) (fun _ _ wr => n - wr.iterPos w.heap.size)
  case atStart => exact .inl ⟨0, 0, rfl, rfl, rfl, Nat.zero_le _, (by show _ = _; simp)⟩
  case round =>
    rcases hrel with ⟨pos, fr, rfl, rfl, rfl, hp, hE⟩ | ⟨p, q, fr, rfl, rfl, rfl, hp, hP, hQ, hE⟩
    · by_cases hlt : pos < n
      · have h0 : zs.drop pos ≠ [] := by intro h; have := congrArg List.length h; rw [List.length_drop, hL.out] at this; simp at this; omega
        by_cases hg : Good (zs.drop pos)
        · have hd := decode_good hZ.out hg
          have hne := good_ne hg h0
          rw [List.length_drop, hL.out] at hne
          have hR := good_right hg
          have hlr := val_lenR hg
          have hE2 : Hid (endL zs = (pos + lenB (zs.drop pos)) + endL (zs.drop (pos + lenB (zs.drop pos)))) := by
            show _ = _
            rw [hE.out, end_good h0 hg, List.drop_drop]
            omega
          have hnx : ∀ ty, (Instr.next (.pointer (some ⟨w.heap.size, 0, none⟩)) true ty).run Tryz.prog (w.iter s pos) = .ok (.tuple #[.bool true, .int .i64 pos, .int .i32 (valB (zs.drop pos) : Nat)]) (w.iter s (pos + lenB (zs.drop pos))) := fun ty => by
            rw [run_next_any w s pos ty (by omega), hS.out, hd]
          clear hd hE h0 hg
          generalize valB (zs.drop pos) = V at *
          generalize lenB (zs.drop pos) = L at *
          have hlr' : Hid (lenR V = L) := hlr
          clear hlr
          have k := fun w' => rlen_any V w' hR
          rw [hlr'.out] at k
          go_wp2_with (go_at_call 174; refine (k _).mono ?_; rintro e w' ⟨rfl, rfl⟩)
          go_roundw
          case rel => exact .inl ⟨pos + L, pos, rfl, rfl, by go_num, by omega, hE2⟩
          case measure => simp; omega
        · have hd := decode_bad hZ.out hg
          have hE2 : Hid (endL zs = pos) := by
            show _ = _
            rw [hE.out, end_bad hg, Nat.add_zero]
          have hnx : ∀ ty, (Instr.next (.pointer (some ⟨w.heap.size, 0, none⟩)) true ty).run Tryz.prog (w.iter s pos) = .ok (.tuple #[.bool true, .int .i64 pos, .int .i32 (65533 : Nat)]) (w.iter s (pos + 1)) := fun ty => by
            rw [run_next_any w s pos ty (by omega), hS.out, hd]
          clear hd hE h0 hg
          have k := fun w' => rlen_any 65533 w' (by unfold Right; omega)
          rw [show lenR 65533 = 3 from rfl] at k
          go_wp2_with (go_at_call 174; refine (k _).mono ?_; rintro e w' ⟨rfl, rfl⟩)
          go_roundw
          case rel => exact .inr ⟨pos + 1, pos + 3, pos, rfl, rfl, by go_num, by omega, rfl, rfl, hE2⟩
          case measure => simp; omega
      · obtain rfl : pos = n := by omega
        have hE2 : Hid (endL zs = pos) := by
          show _ = _
          rw [hE.out, List.drop_of_length_le (by rw [hL.out]; omega), end_nil]
          rfl
        have hnx : ∀ ty, (Instr.next (.pointer (some ⟨w.heap.size, 0, none⟩)) true ty).run Tryz.prog (w.iter s pos) = _ := fun ty => run_next_end w s pos ty (by omega)
        clear hE
        go_wp2
        go_ret
        rw [hE2.out]
        exact ⟨rfl, iter_below _ _ _⟩
    · have hne : ((p : Int) != (q : Int)) = true := by have := hP.out; have := hQ.out; simp; omega
      by_cases hlt : p < n
      · have hnx : ∀ ty, (Instr.next (.pointer (some ⟨w.heap.size, 0, none⟩)) true ty).run Tryz.prog (w.iter s p) = _ := fun ty => run_next_any w s p ty (by omega)
        go_wp2
        go_ret
        rw [hE.out]
        exact ⟨rfl, iter_below _ _ _⟩
      · obtain rfl : p = n := by omega
        have hnx : ∀ ty, (Instr.next (.pointer (some ⟨w.heap.size, 0, none⟩)) true ty).run Tryz.prog (w.iter s p) = _ := fun ty => run_next_end w s p ty (by omega)
        have hne2 : ((q : Int) != (p : Int)) = true := by have := hP.out; have := hQ.out; simp; omega
        go_wp2
        go_ret
        rw [hE.out]
        exact ⟨rfl, iter_below _ _ _⟩
end Go.Proofs.YtnjbppfanmmifaaGreatDoor
namespace Go.Proofs.YtnjbppfanmmifaaGreatDoor
open Go.RowKit

theorem second_none (c : Nat) (w : World) (h : c < 194 ∨ 244 < c) :
    Calls Tryz.prog 175 #[.int .u8 c] w fun e w' => e = .returned (.tuple #[.int .u8 1, .int .u8 0]) ∧ w' = w := by
  have e1 : ((c : Int) == 224) = false := by simp; omega
  have e2 : ((c : Int) == 237) = false := by simp; omega
  have e3 : ((c : Int) == 240) = false := by simp; omega
  have e4 : ((c : Int) == 244) = false := by simp; omega
  go_enter Tryz.func175, Tryz.ntmps175
  go_wp2
  all_goals first | (exfalso; omega) | (go_ret2; exact ⟨rfl, rfl⟩)
theorem second_some (c : Nat) (w : World) (h : 194 ≤ c) (h2 : c ≤ 244) :
    Calls Tryz.prog 175 #[.int .u8 c] w fun e w' => e = .returned (.tuple #[.int .u8 (lo2 c : Nat), .int .u8 (hi2 c : Nat)]) ∧ w' = w := by
  by_cases c1 : c = 224
  · subst c1
    go_enter Tryz.func175, Tryz.ntmps175
    go_wp2
    go_ret2
    exact ⟨rfl, rfl⟩
  by_cases c2 : c = 237
  · subst c2
    go_enter Tryz.func175, Tryz.ntmps175
    go_wp2
    go_ret2
    exact ⟨rfl, rfl⟩
  by_cases c3 : c = 240
  · subst c3
    go_enter Tryz.func175, Tryz.ntmps175
    go_wp2
    go_ret2
    exact ⟨rfl, rfl⟩
  by_cases c4 : c = 244
  · subst c4
    go_enter Tryz.func175, Tryz.ntmps175
    go_wp2
    go_ret2
    exact ⟨rfl, rfl⟩
  have e1 : ((c : Int) == 224) = false := by simp; omega
  have e2 : ((c : Int) == 237) = false := by simp; omega
  have e3 : ((c : Int) == 240) = false := by simp; omega
  have e4 : ((c : Int) == 244) = false := by simp; omega
  have l : Hid (lo2 c = 128) := by show _ = _; unfold lo2; rw [if_neg c1, if_neg c3]
  have u : Hid (hi2 c = 191) := by show _ = _; unfold hi2; rw [if_neg c2, if_neg c4]
  clear c1 c2 c3 c4
  rw [l.out, u.out]
  go_enter Tryz.func175, Tryz.ntmps175
  go_wp2
  all_goals first | (exfalso; omega) | (go_ret2; exact ⟨rfl, rfl⟩)

/-- What the loop meets at its k-th byte. -/
theorem begun_step {zs : List Int} (hbad : ¬ Good zs) (h0 : lenB zs ≠ 0) {k lo hi : Nat} (hk : 1 ≤ k) (hle : k ≤ badB zs) (hr : (k = 1 ∧ lo = lo2 (nth zs 0) ∧ hi = hi2 (nth zs 0)) ∨ (2 ≤ k ∧ lo = 128 ∧ hi = 191)) :
    k < badB zs ↔ (k < zs.length ∧ lo ≤ nth zs k ∧ nth zs k ≤ hi) := by
  rcases bad_cases hbad with ⟨e, k0⟩ | ⟨e, k1, k2⟩ | ⟨e, k1, k2, k3⟩ | ⟨e, k1, k2, k3, k4⟩
  · exact absurd k0 h0
  · unfold ok1 at k2
    obtain rfl : k = 1 := by omega
    rcases hr with ⟨_, rfl, rfl⟩ | ⟨h, _⟩
    · omega
    · omega
  · unfold ok1 at k2
    unfold okK at k3
    rcases hr with ⟨rfl, rfl, rfl⟩ | ⟨h, rfl, rfl⟩
    · omega
    · obtain rfl : k = 2 := by omega
      omega
  · unfold ok1 at k2
    unfold okK at k3 k4
    rcases hr with ⟨rfl, rfl, rfl⟩ | ⟨h, rfl, rfl⟩
    · omega
    · have h3 : k = 2 ∨ k = 3 := by omega
      rcases h3 with rfl | rfl
      · omega
      · omega

set_option maxHeartbeats 1000000 in
theorem begun_any (b off n cap : Nat) (zs : List Int) (w : World) (hl : zs.length = n) (h0 : 0 < n) (hb : Bytes w (some ⟨b, off, none⟩) zs) (hbad : ¬ Good zs) (hn : n ≤ 4611686018427387904) :
    Calls Tryz.prog 141 #[.slice (some ⟨b, off, none⟩) n cap] w fun e w' => e = .returned (.int .i64 (badB zs : Nat)) ∧ w' = w := by
  have hL : Hid (zs.length = n) := hl
  have hB : Hid (Bytes w (some ⟨b, off, none⟩) zs) := hb
  have hbad' : Hid (¬ Good zs) := hbad
  have c0 : w.cell? ⟨b, off, none⟩ = some (.int .u8 (nth zs 0 : Nat)) := hb.nat (i := 0) (by omega)
  have z0 := nth_lt hb.1 0
  have hcs := len_cases (nth zs 0)
  have hlb : lenB zs = lenN (nth zs 0) := rfl
  by_cases hz : lenB zs = 0
  · have k : Calls Tryz.prog 175 #[.int .u8 (nth zs 0 : Nat)] w fun e w' => e = .returned (.tuple #[.int .u8 1, .int .u8 0]) ∧ w' = w := second_none (nth zs 0) w (by omega)
    have hB0 : Hid (badB zs = 0) := by show _ = _; unfold badB; rw [if_pos hz]
    clear hcs hlb hz hb hl hbad
    generalize nth zs 0 = c at *
    go_enter Tryz.func141, Tryz.ntmps141
    go_wp2_with (go_at_call 175; refine k.mono ?_; rintro e w' ⟨rfl, hw⟩; obtain rfl : w = w' := hw.symm)
    go_ret
    rw [hB0.out]
    exact ⟨rfl, rfl⟩
  · have hg1 : lenB zs ≠ 1 := by
      intro h1
      refine hbad ?_
      unfold Good GoodN
      rw [← hlb, h1]
      exact ⟨by omega, fun h => by omega, fun h => by omega, fun h => by omega⟩
    have k : Calls Tryz.prog 175 #[.int .u8 (nth zs 0 : Nat)] w fun e w' => e = .returned (.tuple #[.int .u8 (lo2 (nth zs 0) : Nat), .int .u8 (hi2 (nth zs 0) : Nat)]) ∧ w' = w := second_some (nth zs 0) w (by omega) (by omega)
    have hlo := lo2_cases (nth zs 0)
    have hhi := hi2_cases (nth zs 0)
    have hle : lo2 (nth zs 0) ≤ hi2 (nth zs 0) := by omega
    have hb1 : 1 ≤ badB zs := by
      rcases bad_cases hbad with ⟨e, k0⟩ | ⟨e, k1, k2⟩ | ⟨e, k1, k2, k3⟩ | ⟨e, k1, k2, k3, k4⟩
      · exact absurd k0 hz
      all_goals omega
    have hstep : Hid (∀ k lo hi : Nat, 1 ≤ k → k ≤ badB zs → ((k = 1 ∧ lo = lo2 (nth zs 0) ∧ hi = hi2 (nth zs 0)) ∨ (2 ≤ k ∧ lo = 128 ∧ hi = 191)) → (k < badB zs ↔ (k < n ∧ lo ≤ nth zs k ∧ nth zs k ≤ hi))) := fun k lo hi h1 h2 h3 => by rw [← hL.out]; exact begun_step hbad hz h1 h2 h3
    clear hcs hlb hz hb hl hbad hlo hhi hg1
    generalize lo2 (nth zs 0) = l0 at *
    generalize hi2 (nth zs 0) = u0 at *
    generalize hB3 : badB zs = B at *
    clear hB3
    generalize nth zs 0 = c at *
    go_enter Tryz.func141, Tryz.ntmps141
    go_wp2_with (go_at_call 175; refine k.mono ?_; rintro e w' ⟨rfl, hw⟩; obtain rfl : w = w' := hw.symm)
    go_loop [3, 4, 5] (fun l u i => ∃ k lo hi : Nat, l = .int .u8 lo ∧ u = .int .u8 hi ∧ i = .int .i64 k ∧ 1 ≤ k ∧ k ≤ B ∧ Hid ((k = 1 ∧ lo = l0 ∧ hi = u0) ∨ (2 ≤ k ∧ lo = 128 ∧ hi = 191))) (fun _ _ i => B - (intOf i).toNat)
    case atStart => exact ⟨1, l0, u0, rfl, rfl, rfl, Nat.le_refl _, hb1, .inl ⟨rfl, rfl, rfl⟩⟩
    case round =>
      obtain ⟨k, lo, hi, rfl, rfl, rfl, hk1, hk2, hR⟩ := hrel
      have hs := hstep.out k lo hi hk1 hk2 hR.out
      by_cases hlt : k < B
      · obtain ⟨s1, s2, s3⟩ := hs.1 hlt
        have ck : w.cell? ⟨b, off + k, none⟩ = some (.int .u8 (nth zs k : Nat)) := hB.out.nat (by rw [hL.out]; exact s1)
        clear hs
        generalize nth zs k = d at *
        go_wp2
        go_round
        case rel => exact ⟨k + 1, 128, 191, rfl, rfl, by go_num, by omega, by omega, .inr ⟨by omega, rfl, rfl⟩⟩
        case measure => simp [intOf]; omega
      · have ck : k < n → w.cell? ⟨b, off + k, none⟩ = some (.int .u8 (nth zs k : Nat)) := fun s1 => hB.out.nat (by rw [hL.out]; exact s1)
        have hs' : Hid (¬ (k < n ∧ lo ≤ nth zs k ∧ nth zs k ≤ hi)) := fun h => hlt (hs.2 h)
        obtain rfl : k = B := by omega
        clear hs
        generalize nth zs k = d at *
        go_wp2
        all_goals first | (exfalso; have := hs'.out; omega) | (go_ret; exact ⟨rfl, rfl⟩)
end Go.Proofs.YtnjbppfanmmifaaGreatDoor
namespace Go.Proofs.YtnjbppfanmmifaaGreatDoor
open Go.RowKit

/-- The runes l lie at a. -/
def Jnts (w : World) (a : Option Addr) (l : List Int) : Prop :=
  l.length ≤ maxLen ∧ (l = [] ∨ ∃ b off, a = some ⟨b, off, none⟩ ∧ ∀ i, i < l.length → w.cell? ⟨b, off + i, none⟩ = some (.int .i32 (l.getD i 0)))
/-- Runes in new memory. -/
def OwnsJ (w : World) (base : Nat) (v : Value) (l : List Int) : Prop := w.ownsRow base 21 1 v l.length (l.map (Value.int .i32))
def ints (l : List Nat) : List Int := l.map fun r => ((r : Nat) : Int)
theorem OwnsJ.shape {w : World} {base : Nat} {v : Value} {l : List Int} (h : OwnsJ w base v l) :
    ∃ a cap, v = .slice a l.length cap ∧ (a = none → cap = 0) ∧ (l.length ≤ cap ∧ cap ≤ maxLen) ∧ Jnts w a l ∧ (∀ x, a = some x → base ≤ x.block ∧ x.block < w.heap.size ∧ x.off = 0 ∧ x.spot = none) := by
  obtain ⟨hl, hv⟩ := h
  rcases hv with ⟨rfl, hn⟩ | ⟨g, cap, cur, rfl, hb, hg, hnc, hcm, hcs, htk⟩
  · have h0 : l = [] := List.eq_nil_of_length_eq_zero hn
    subst h0
    exact ⟨none, 0, rfl, fun _ => rfl, by simp, ⟨by simp, .inl rfl⟩, fun x hx => by cases hx⟩
  · refine ⟨some ⟨g, 0, none⟩, cap, rfl, (fun hx => by cases hx), ⟨hnc, hcm⟩, ⟨by omega, .inr ⟨g, 0, rfl, fun i hi => ?_⟩⟩, ?_⟩
    · rw [Nat.zero_add, cell_row hg, ← Array.getElem?_toList]
      have h1 : (cur.toList.take (l.length * 1))[i]? = (l.map (Value.int .i32))[i]? := by rw [htk]
      rw [List.getElem?_take, if_pos (by omega), List.getElem?_map] at h1
      rw [h1, List.getD_eq_getElem?_getD, List.getElem?_eq_getElem hi]; rfl
    · intro x hx
      cases hx
      exact ⟨hb, (Array.getElem?_eq_some_iff.1 hg).1, rfl, rfl⟩
theorem OwnsJ.form {w : World} {base : Nat} {v : Value} {l : List Int} (h : OwnsJ w base v l) :
    ∃ a n cap, v = .slice a n cap ∧ Hid (l.length = n) ∧ Hid (a = none → cap = 0) ∧ n ≤ cap ∧ cap ≤ 9223372036854775807 ∧ Hid (Jnts w a l) := by
  obtain ⟨a, cap, hv, hn, ⟨hl, hm⟩, hb, _⟩ := h.shape
  exact ⟨a, l.length, cap, hv, rfl, hn, hl, by simpa [maxLen] using hm, hb⟩
theorem OwnsJ.below {w w' : World} {base : Nat} {v : Value} {l : List Int} (h : OwnsJ w base v l) (hb : Below w.heap.size w w') : OwnsJ w' base v l :=
  World.ownsRow.kept (row := none) h ⟨hb.os, hb.tape, hb.output, hb.size, fun k hk _ => hb.block k hk⟩ (by cases hv : v.ownBlock <;> simp)
theorem OwnsJ.alloc {w : World} {base : Nat} {v : Value} {l : List Int} (h : OwnsJ w base v l) (o : Obj) : OwnsJ (w.alloc o) base v l := h.below ((Below.refl _ _).alloc (Nat.le_refl _) o)
/-- Where blocks below stay it stays. -/
theorem OwnsJ.low {w : World} {base : Nat} {v : Value} {l : List Int} (h : OwnsJ w base v l) {a : Addr} (ha : a.block < base) (u : Value) : OwnsJ (w.setCell a u) base v l := ownsRow_setCell_below h ha u
theorem OwnsJ.base {w : World} {base base' : Nat} {v : Value} {l : List Int} (h : OwnsJ w base v l) (hB : base' ≤ base) : OwnsJ w base' v l := by
  obtain ⟨hl, hv⟩ := h
  refine ⟨hl, ?_⟩
  rcases hv with ⟨rfl, hn⟩ | ⟨g, cap, cur, rfl, hb, hr⟩
  · exact .inl ⟨rfl, hn⟩
  · exact .inr ⟨g, cap, cur, rfl, by omega, hr⟩
theorem Jnts.lt {w : World} {x : Addr} {l : List Int} (hb : Jnts w (some x) l) (h0 : l ≠ []) : x.block < w.heap.size := by
  rcases hb.2 with h1 | ⟨b, off, h1, hc⟩
  · exact absurd h1 h0
  · cases h1
    have hp : 0 < l.length := List.length_pos_iff.2 h0
    have := hc 0 hp
    simp only [World.cell?] at this
    show b < w.heap.size
    rcases Nat.lt_or_ge b w.heap.size with h2 | h2
    · exact h2
    · simp [Array.getElem?_eq_none h2] at this
theorem Jnts.kept {w w' : World} {a : Option Addr} {l : List Int} (hb : Jnts w a l) (h : Below w.heap.size w w') : Jnts w' a l := by
  refine ⟨hb.1, ?_⟩
  rcases hb.2 with h0 | ⟨b, off, rfl, hc⟩
  · exact .inl h0
  · by_cases h0 : l = []
    · exact .inl h0
    · refine .inr ⟨b, off, rfl, fun i hi => ?_⟩
      rw [h.cell (p := ⟨b, off + i, none⟩) (hb.lt h0)]
      exact hc i hi
theorem Jnts.cell {w : World} {b off : Nat} {l : List Int} (hb : Jnts w (some ⟨b, off, none⟩) l) {i : Nat} (hi : i < l.length) : w.cell? ⟨b, off + i, none⟩ = some (.int .i32 (l.getD i 0)) := by
  rcases hb.2 with h | ⟨b', off', h, hc⟩
  · subst h; simp at hi
  · cases h
    exact hc i hi
end Go.Proofs.YtnjbppfanmmifaaGreatDoor
namespace Go.Proofs.YtnjbppfanmmifaaGreatDoor
open Go.RowKit

/-- The fault of bytes: its number, its place. -/
def whyL (zs : List Int) : Nat := match (runesL zs).2 with | none => 0 | some _ => 6
def atL (zs : List Int) : Nat := match (runesL zs).2 with | none => 0 | some p => p
/-- The characters of a text; none of what is no text. -/
def txtL (zs : List Int) : List Int := match (runesL zs).2 with | none => ints (runesL zs).1 | some _ => []
theorem why_none {zs : List Int} (h : (runesL zs).2 = none) : whyL zs = 0 ∧ atL zs = 0 ∧ txtL zs = ints (runesL zs).1 := by
  unfold whyL atL txtL
  rw [h]
  exact ⟨rfl, rfl, rfl⟩
theorem why_some {zs : List Int} {p : Nat} (h : (runesL zs).2 = some p) : whyL zs = 6 ∧ atL zs = p ∧ txtL zs = [] := by
  unfold whyL atL txtL
  rw [h]
  exact ⟨rfl, rfl, rfl⟩

/-- A fault in block g. -/
def FAt (w : World) (g y f : Nat) : Prop := w.heap[g]? = some (.cells #[.int .i64 y, .int .i64 f] 29 (0, 0))
theorem FAt.lt {w : World} {g y f : Nat} (h : FAt w g y f) : g < w.heap.size := (Array.getElem?_eq_some_iff.1 h).1
theorem FAt.c0 {w : World} {g y f : Nat} (h : FAt w g y f) : w.cell? ⟨g, 0, none⟩ = some (.int .i64 y) := by rw [cell_row h]; rfl
theorem FAt.c1 {w : World} {g y f : Nat} (h : FAt w g y f) : w.cell? ⟨g, 1, none⟩ = some (.int .i64 f) := by rw [cell_row h]; rfl
theorem FAt.fz {w : World} {g y f : Nat} (h : FAt w g y f) (j : Nat) : w.frozen? ⟨g, j, none⟩ = false := by
  unfold FAt at h
  simp [World.frozen?, h]
theorem FAt.kept {w w' : World} {g y f : Nat} (h : FAt w g y f) (hb : Below w.heap.size w w') : FAt w' g y f := by
  unfold FAt
  rw [hb.block g h.lt]
  exact h

set_option maxHeartbeats 1000000 in
theorem check_any (a : Option Addr) (n cap : Nat) (zs : List Int) (w : World) (hl : zs.length = n) (hb : Bytes w a zs) (hc : n ≤ cap) (hn : n ≤ 4611686018427387904) :
    Calls Tryz.prog 103 #[.slice a n cap] w fun e w' => e = .returned (.agg #[.int .i64 (whyL zs : Nat), .int .i64 (atL zs : Nat)]) ∧ Below w.heap.size w w' := by
  have hL : Hid (zs.length = n) := hl
  have hB0 : Hid (Bytes w a zs) := hb
  have k := uwhole_any a n cap zs (w.alloc (.cells #[.int .i64 0, .int .i64 0] 29)) hl (hb.kept ((Below.refl _ _).alloc (Nat.le_refl _) _)) hn
  have hle := end_le zs
  rw [hl] at hle
  by_cases he : endL zs = n
  · obtain ⟨h1, h2, -⟩ := why_none (end_text (he.trans hl.symm))
    rw [h1, h2]
    rw [he] at k
    clear hb hl he h1 h2 hle
    go_enter Tryz.func103, Tryz.ntmps103
    go_wp2_with fail
    refine k.mono ?_
    rintro e w1 ⟨rfl, hb1⟩
    have hF : FAt w1 w.heap.size 0 0 := FAt.kept (w := w.alloc _) (heap_alloc_new w _) hb1
    have c0 := hF.c0
    have c1 := hF.c1
    have f0 := hF.fz 0
    have f1 := hF.fz 1
    have hbw : Below w.heap.size w w1 := ((Below.refl w.heap.size w).alloc (Nat.le_refl _) _).trans (hb1.mono (by simp))
    clear k
    go_wp2
    refine bodyPost_ret (v := .agg #[.int .i64 0, .int .i64 0]) (by simp [results, Tryz.results103, go_sem, *]) rfl ⟨rfl, ?_⟩
    first | exact hbw | exact (hbw.setCell (Nat.le_refl _) _).setCell (Nat.le_refl _) _
  · have hf := end_fault (b := zs) (by rw [hl]; exact he)
    have hstop := end_stop zs (by rw [hl]; omega)
    obtain ⟨h1, h2, -⟩ := why_some hf
    rw [h1, h2]
    obtain ⟨b, off, rfl⟩ := bytes_some hb (by omega)
    have hE : endL zs < n := by omega
    have k2 := fun w1 (h : Bytes w1 (some ⟨b, off, none⟩) zs) => begun_any b (off + endL zs) (n - endL zs) (cap - endL zs) (zs.drop (endL zs)) w1 (by rw [List.length_drop, hl]) (by omega) (h.drop _) hstop (by omega)
    have i1 : (cap = endL zs) = False := by simp; omega
    have i2 : ((endL zs : Nat) : Int) ≤ (n : Int) := by omega
    have i4 : ((endL zs : Nat) : Int) ≤ (cap : Int) := by omega
    have i3 : (((endL zs : Nat) : Int) == (n : Int)) = false := by simp; omega
    have hbl : endL zs + badB (zs.drop (endL zs)) ≤ n := by
      have := fault_le zs _ hf
      omega
    clear hb hl he h1 h2 hle hf hstop
    generalize endL zs = E at *
    generalize badB (zs.drop E) = B at *
    have k3 : Hid _ := k2
    clear k2
    go_enter Tryz.func103, Tryz.ntmps103
    go_wp2_with fail
    refine k.mono ?_
    rintro e w1 ⟨rfl, hb1⟩
    have hbw : Below w.heap.size w w1 := ((Below.refl w.heap.size w).alloc (Nat.le_refl _) _).trans (hb1.mono (by simp))
    have kk := k3.out w1 (hB0.out.kept hbw)
    have hF : FAt w1 w.heap.size 0 0 := FAt.kept (w := w.alloc _) (heap_alloc_new w _) hb1
    have c0 := hF.c0
    have c1 := hF.c1
    have f0 := hF.fz 0
    have f1 := hF.fz 1
    clear k
    go_wp2_with (go_at_call 141; refine kk.mono ?_; rintro e w' ⟨rfl, hw⟩; obtain rfl : w1 = w' := hw.symm)
    have hv : IntKind.i64.wrap ((E : Int) + (B : Int)) = ((E + B : Nat) : Int) := by rw [IntKind.wrap_i64] <;> omega
    refine bodyPost_ret (v := .agg #[.int .i64 6, .int .i64 ((E + B : Nat) : Int)]) (by simp [results, Tryz.results103, go_sem, *]) rfl ⟨rfl, ?_⟩
    first | exact hbw | exact (hbw.setCell (Nat.le_refl _) _).setCell (Nat.le_refl _) _
end Go.Proofs.YtnjbppfanmmifaaGreatDoor
namespace Go.Proofs.YtnjbppfanmmifaaGreatDoor
open Go.RowKit
set_option linter.unusedVariables false

/-- Are these bytes a text? -/
def gtx (s : ByteArray) : Bool := decide (whyL (bs s) = 0)
/-- The fault of a node. -/
def alF (t : Tr) : Int := t.alo gtx rt rdN
end Go.Proofs.YtnjbppfanmmifaaGreatDoor
namespace Go.Proofs.YtnjbppfanmmifaaGreatDoor
open Go
set_option linter.unusedVariables false

theorem pow_nat (k : Nat) : ((2 ^ k : Nat) : Int) = (2 : Int) ^ k := Int.natCast_pow 2 k
/-- How far bits of 52 are lifted until the highest one stands ahead of them. -/
def liftN (m : Int) : Nat := 53 - Lib.bitLen m.toNat
/-- Bits as the highest one stands ahead. -/
def lifted (m : Int) : Int := m * 2 ^ liftN m
theorem lift_facts {m : Int} (h0 : 0 < m) (h1 : m < 4503599627370496) : Lib.bitLen m.toNat + liftN m = 53 ∧ 1 ≤ liftN m ∧ 4503599627370496 ≤ lifted m ∧ lifted m < 9007199254740992 := by
  obtain ⟨k, rfl⟩ : ∃ k : Nat, m = k := ⟨m.toNat, by omega⟩
  have hb : 1 ≤ Lib.bitLen k ∧ 2 ^ (Lib.bitLen k - 1) ≤ k ∧ k < 2 ^ Lib.bitLen k := Lib.bitLenAux_bounds 64 k (by omega) (by omega)
  have hl : Lib.bitLen k ≤ 52 := Lib.bitLen_le k 52 (by decide) (by omega)
  unfold lifted liftN
  rw [Int.toNat_natCast]
  generalize Lib.bitLen k = L at *
  refine ⟨by omega, by omega, ?_⟩
  rw [← pow_nat, ← Int.natCast_mul]
  have e1 : 2 ^ (L - 1) * 2 ^ (53 - L) = 2 ^ 52 := by rw [← Nat.pow_add]; congr 1; omega
  have e2 : 2 ^ L * 2 ^ (53 - L) = 2 ^ 53 := by rw [← Nat.pow_add]; congr 1; omega
  have h3 : 2 ^ (L - 1) * 2 ^ (53 - L) ≤ k * 2 ^ (53 - L) := Nat.mul_le_mul_right _ hb.2.1
  have h4 : k * 2 ^ (53 - L) < 2 ^ L * 2 ^ (53 - L) := Nat.mul_lt_mul_of_pos_right hb.2.2 (Nat.pow_pos (by decide))
  rw [e1] at h3
  rw [e2] at h4
  omega
/-- Bits at least 2^j are lifted by 52 - j at most. -/
theorem lift_le {m : Int} {j : Nat} (h0 : (2 : Int) ^ j ≤ m) (h1 : m < 4503599627370496) : liftN m + j ≤ 52 := by
  have hp : (0 : Int) < 2 ^ j := Int.pow_pos (by decide)
  obtain ⟨e, l1, -, l3⟩ := lift_facts (by omega : 0 < m) h1
  unfold lifted at l3
  generalize liftN m = L at *
  have h2 : (2 : Int) ^ j * 2 ^ L ≤ m * 2 ^ L := Int.mul_le_mul_of_nonneg_right h0 (Int.le_of_lt (Int.pow_pos (by decide)))
  rw [← Int.pow_add] at h2
  rcases Nat.lt_or_ge 52 (L + j) with h | h
  · exfalso
    have h3 : (2 : Int) ^ 53 ≤ 2 ^ (j + L) := by
      rw [← pow_nat, ← pow_nat]
      exact Int.ofNat_le.2 (Nat.pow_le_pow_right (by decide) (by omega))
    omega
  · exact h
/-- To widen bits of 2 bytes: of sign, exponent and fraction. -/
def wd2 (S X G : Int) : Int :=
  if X = 31 then S * 9223372036854775808 + 2047 * 4503599627370496 + G * 4398046511104
  else if X ≠ 0 then S * 9223372036854775808 + (X + 1008) * 4503599627370496 + G * 4398046511104
  else if G ≠ 0 then S * 9223372036854775808 + (1009 - (liftN (G * 4398046511104) : Int)) * 4503599627370496 + (lifted (G * 4398046511104) - 4503599627370496)
  else S * 9223372036854775808 + X * 4503599627370496 + G * 4398046511104
def widen2 (n : Int) : Int := wd2 (n / 32768) (n / 1024 % 32) (n % 1024)
theorem split_n2 {n : Int} (h : 0 ≤ n ∧ n < 65536) : (0 ≤ n / 32768 ∧ n / 32768 ≤ 1) ∧ (0 ≤ n / 1024 % 32 ∧ n / 1024 % 32 < 32) ∧ (0 ≤ n % 1024 ∧ n % 1024 < 1024) ∧ n = n / 32768 * 32768 + n / 1024 % 32 * 1024 + n % 1024 := by omega
theorem up_low2 {G : Int} (h : 0 ≤ G ∧ G < 1024) (h0 : G ≠ 0) : 0 < G * 4398046511104 ∧ G * 4398046511104 < 4503599627370496 ∧ liftN (G * 4398046511104) ≤ 10 := by
  refine ⟨by omega, by omega, ?_⟩
  have := lift_le (m := G * 4398046511104) (j := 42) (by show (2 : Int) ^ 42 ≤ _; omega) (by omega)
  omega
theorem wd_room2 {S X G : Int} (hS : 0 ≤ S ∧ S ≤ 1) (hX : 0 ≤ X ∧ X < 32) (hG : 0 ≤ G ∧ G < 1024) : 0 ≤ wd2 S X G ∧ wd2 S X G < 18446744073709551616 := by
  unfold wd2
  split
  · omega
  · split
    · omega
    · split
      · rename_i h0
        obtain ⟨a, b, c⟩ := up_low2 hG h0
        obtain ⟨d, e, f, g⟩ := lift_facts a b
        generalize lifted (G * 4398046511104) = M at *
        generalize liftN (G * 4398046511104) = L at *
        omega
      · omega
theorem widen_room2 {c : Int} (h : 0 ≤ c ∧ c < 65536) : 0 ≤ widen2 c ∧ widen2 c < 18446744073709551616 := by
  obtain ⟨hS, hX, hG, -⟩ := split_n2 h
  exact wd_room2 hS hX hG
/-- To widen bits of 4 bytes: of sign, exponent and fraction. -/
def wd4 (S X G : Int) : Int :=
  if X = 255 then S * 9223372036854775808 + 2047 * 4503599627370496 + G * 536870912
  else if X ≠ 0 then S * 9223372036854775808 + (X + 896) * 4503599627370496 + G * 536870912
  else if G ≠ 0 then S * 9223372036854775808 + (897 - (liftN (G * 536870912) : Int)) * 4503599627370496 + (lifted (G * 536870912) - 4503599627370496)
  else S * 9223372036854775808 + X * 4503599627370496 + G * 536870912
def widen4 (n : Int) : Int := wd4 (n / 2147483648) (n / 8388608 % 256) (n % 8388608)
theorem split_n4 {n : Int} (h : 0 ≤ n ∧ n < 4294967296) : (0 ≤ n / 2147483648 ∧ n / 2147483648 ≤ 1) ∧ (0 ≤ n / 8388608 % 256 ∧ n / 8388608 % 256 < 256) ∧ (0 ≤ n % 8388608 ∧ n % 8388608 < 8388608) ∧ n = n / 2147483648 * 2147483648 + n / 8388608 % 256 * 8388608 + n % 8388608 := by omega
theorem up_low4 {G : Int} (h : 0 ≤ G ∧ G < 8388608) (h0 : G ≠ 0) : 0 < G * 536870912 ∧ G * 536870912 < 4503599627370496 ∧ liftN (G * 536870912) ≤ 23 := by
  refine ⟨by omega, by omega, ?_⟩
  have := lift_le (m := G * 536870912) (j := 29) (by show (2 : Int) ^ 29 ≤ _; omega) (by omega)
  omega
theorem wd_room4 {S X G : Int} (hS : 0 ≤ S ∧ S ≤ 1) (hX : 0 ≤ X ∧ X < 256) (hG : 0 ≤ G ∧ G < 8388608) : 0 ≤ wd4 S X G ∧ wd4 S X G < 18446744073709551616 := by
  unfold wd4
  split
  · omega
  · split
    · omega
    · split
      · rename_i h0
        obtain ⟨a, b, c⟩ := up_low4 hG h0
        obtain ⟨d, e, f, g⟩ := lift_facts a b
        generalize lifted (G * 536870912) = M at *
        generalize liftN (G * 536870912) = L at *
        omega
      · omega
theorem widen_room4 {c : Int} (h : 0 ≤ c ∧ c < 4294967296) : 0 ≤ widen4 c ∧ widen4 c < 18446744073709551616 := by
  obtain ⟨hS, hX, hG, -⟩ := split_n4 h
  exact wd_room4 hS hX hG
end Go.Proofs.YtnjbppfanmmifaaGreatDoor
namespace Go.Proofs.YtnjbppfanmmifaaGreatDoor
open Go.RowKit

theorem or_hi (i : Nat) (x y : Int) (hx0 : 0 ≤ x) (hx : x % 2 ^ i = 0) (hx1 : x < 2 ^ 64) (hy0 : 0 ≤ y) (hy : y < 2 ^ i) (hy1 : y < 2 ^ 64) : bits .or .u64 x y = x + y :=
  bits_join .u64 64 (by decide) wraps_u64 i x y hx0 hx hx1 hy0 hy hy1
theorem and_low (i : Nat) (hi : i ≤ 64) (x : Int) (hx0 : 0 ≤ x) (hx1 : x < 2 ^ 64) : bits .and .u64 x (2 ^ i - 1) = x % 2 ^ i :=
  bits_mask .u64 64 (by decide) wraps_u64 i hi x hx0 hx1
/-- A struct of three in memory. -/
def Row3 (w : World) (g : Nat) (t : TypeId) (x y z : Value) : Prop := w.heap[g]? = some (.cells #[x, y, z] t (0, 0))
theorem Row3.lt {w : World} {g : Nat} {t : TypeId} {x y z : Value} (h : Row3 w g t x y z) : g < w.heap.size := (Array.getElem?_eq_some_iff.1 h).1
theorem Row3.at {w : World} {g : Nat} {t : TypeId} {x y z : Value} (h : Row3 w g t x y z) : w.cell? ⟨g, 0, none⟩ = some x ∧ w.cell? ⟨g, 1, none⟩ = some y ∧ w.cell? ⟨g, 2, none⟩ = some z := by
  refine ⟨?_, ?_, ?_⟩ <;> exact cell_row h _
theorem Row3.fz {w : World} {g : Nat} {t : TypeId} {x y z : Value} (h : Row3 w g t x y z) (j : Nat) : w.frozen? ⟨g, j, none⟩ = false := by
  unfold Row3 at h
  simp [World.frozen?, h]
theorem Row3.kept {w w' : World} {g : Nat} {t : TypeId} {x y z : Value} (h : Row3 w g t x y z) {B : Nat} (hb : Below B w w') (hB : g < B) : Row3 w' g t x y z := by
  unfold Row3 at h ⊢
  rw [hb.block g hB]; exact h
theorem row3_new (w : World) (t : TypeId) (x y z : Value) : Row3 (w.alloc (.cells #[x, y, z] t)) w.heap.size t x y z := heap_alloc_new w _
theorem Row3.set {w : World} {g : Nat} {t : TypeId} {x y z : Value} (h : Row3 w g t x y z) {a : Addr} (ha : g ≠ a.block) (u : Value) : Row3 (w.setCell a u) g t x y z := by
  unfold Row3 at h ⊢
  rw [Below.heap_setCell w a u g ha]; exact h
theorem Row3.put1 {w : World} {g : Nat} {t : TypeId} {x y z : Value} (h : Row3 w g t x y z) (u : Value) : Row3 (w.setCell ⟨g, 1, none⟩ u) g t x u z := by
  unfold Row3
  rw [heap_setCell_same _ g 1 _ t _ h]; rfl
theorem Row3.put2 {w : World} {g : Nat} {t : TypeId} {x y z : Value} (h : Row3 w g t x y z) (u : Value) : Row3 (w.setCell ⟨g, 2, none⟩ u) g t x y u := by
  unfold Row3
  rw [heap_setCell_same _ g 2 _ t _ h]; rfl
theorem formats_any (w : World) : Calls Tryz.prog 152 #[] w fun e w' => e = .returned (.agg #[.int .i64 2, .int .i64 5, .int .i64 10, .int .i64 4, .int .i64 8, .int .i64 23, .int .i64 8, .int .i64 11, .int .i64 52]) ∧ Below w.heap.size w w' := by
  go_enter Tryz.func152, Tryz.ntmps152
  go_wp2
  refine bodyPost_ret (v := .agg #[.int .i64 2, .int .i64 5, .int .i64 10, .int .i64 4, .int .i64 8, .int .i64 23, .int .i64 8, .int .i64 11, .int .i64 52]) (by simp [results, Tryz.results152, go_sem]) rfl ⟨rfl, ?_⟩
  exact alloc_below _ _
theorem idx0 (W : World) : (Instr.index 150 (.agg #[.int .i64 2, .int .i64 5, .int .i64 10, .int .i64 4, .int .i64 8, .int .i64 23, .int .i64 8, .int .i64 11, .int .i64 52]) (.int .i64 0)).run Tryz.prog W = .ok (.agg #[.int .i64 2, .int .i64 5, .int .i64 10]) W := by kernel_rfl
theorem idx1 (W : World) : (Instr.index 150 (.agg #[.int .i64 2, .int .i64 5, .int .i64 10, .int .i64 4, .int .i64 8, .int .i64 23, .int .i64 8, .int .i64 11, .int .i64 52]) (.int .i64 1)).run Tryz.prog W = .ok (.agg #[.int .i64 4, .int .i64 8, .int .i64 23]) W := by kernel_rfl
theorem idx2 (W : World) : (Instr.index 150 (.agg #[.int .i64 2, .int .i64 5, .int .i64 10, .int .i64 4, .int .i64 8, .int .i64 23, .int .i64 8, .int .i64 11, .int .i64 52]) (.int .i64 2)).run Tryz.prog W = .ok (.agg #[.int .i64 8, .int .i64 11, .int .i64 52]) W := by kernel_rfl
theorem fldW2 (W : World) : (Instr.field 149 (.agg #[.int .i64 8, .int .i64 11, .int .i64 52]) 2).run Tryz.prog W = .ok (.int .i64 52) W := by kernel_rfl
theorem len_any (x : Int) (h0 : 0 ≤ x) (h1 : x ≤ 18446744073709551615) (w : World) : Calls Tryz.prog 194 #[.int .u64 x] w fun e w' => e = .returned (.int .i64 (Lib.bitLen x.toNat)) ∧ w' = w := Any.bits_Len64 lays129 x w h0 h1
set_option maxRecDepth 100000 in
theorem wide_any (w : World) : Calls Tryz.prog 155 #[] w fun e w' => e = .returned (.agg #[.int .i64 8, .int .i64 11, .int .i64 52]) ∧ Below w.heap.size w w' := by
  have k := formats_any
  have hi := idx2
  go_enter Tryz.func155, Tryz.ntmps155
  go_wp2_with (go_at_call 152; refine (k _).mono ?_; rintro e w1 ⟨rfl, b1⟩; obtain ⟨c0, c1, c2⟩ := ((row3_new w 149 (.int .i64 0) (.int .i64 0) (.int .i64 0)).kept b1 (alloc_lt _ _)).at; have f0 := ((row3_new w 149 (.int .i64 0) (.int .i64 0) (.int .i64 0)).kept b1 (alloc_lt _ _)).fz 0; have f1 := ((row3_new w 149 (.int .i64 0) (.int .i64 0) (.int .i64 0)).kept b1 (alloc_lt _ _)).fz 1; have f2 := ((row3_new w 149 (.int .i64 0) (.int .i64 0) (.int .i64 0)).kept b1 (alloc_lt _ _)).fz 2)
  refine bodyPost_ret (v := .agg #[.int .i64 8, .int .i64 11, .int .i64 52]) (by simp [results, Tryz.results155, go_sem, *]) rfl ⟨rfl, ?_⟩
  exact (((box_below b1).setCell (Nat.le_refl _) _).setCell (Nat.le_refl _) _).setCell (Nat.le_refl _) _
theorem top2_any (w : World) : Calls Tryz.prog 191 #[.agg #[.int .i64 2, .int .i64 5, .int .i64 10]] w fun e w' => e = .returned (.int .u64 31) ∧ Below w.heap.size w w' := by
  go_enter Tryz.func191, Tryz.ntmps191
  go_wp2
  go_ret
  exact ⟨rfl, alloc_below _ _⟩
theorem ahead2_any (w : World) : Calls Tryz.prog 192 #[.agg #[.int .i64 2, .int .i64 5, .int .i64 10]] w fun e w' => e = .returned (.int .u64 1024) ∧ Below w.heap.size w w' := by
  go_enter Tryz.func192, Tryz.ntmps192
  go_wp2
  go_ret
  exact ⟨rfl, alloc_below _ _⟩
theorem top4_any (w : World) : Calls Tryz.prog 191 #[.agg #[.int .i64 4, .int .i64 8, .int .i64 23]] w fun e w' => e = .returned (.int .u64 255) ∧ Below w.heap.size w w' := by
  go_enter Tryz.func191, Tryz.ntmps191
  go_wp2
  go_ret
  exact ⟨rfl, alloc_below _ _⟩
theorem ahead4_any (w : World) : Calls Tryz.prog 192 #[.agg #[.int .i64 4, .int .i64 8, .int .i64 23]] w fun e w' => e = .returned (.int .u64 8388608) ∧ Below w.heap.size w w' := by
  go_enter Tryz.func192, Tryz.ntmps192
  go_wp2
  go_ret
  exact ⟨rfl, alloc_below _ _⟩
theorem top8_any (w : World) : Calls Tryz.prog 191 #[.agg #[.int .i64 8, .int .i64 11, .int .i64 52]] w fun e w' => e = .returned (.int .u64 2047) ∧ Below w.heap.size w w' := by
  go_enter Tryz.func191, Tryz.ntmps191
  go_wp2
  go_ret
  exact ⟨rfl, alloc_below _ _⟩
theorem ahead8_any (w : World) : Calls Tryz.prog 192 #[.agg #[.int .i64 8, .int .i64 11, .int .i64 52]] w fun e w' => e = .returned (.int .u64 4503599627370496) ∧ Below w.heap.size w w' := by
  go_enter Tryz.func192, Tryz.ntmps192
  go_wp2
  go_ret
  exact ⟨rfl, alloc_below _ _⟩
set_option maxRecDepth 100000 in
theorem rise2_any (w : World) : Calls Tryz.prog 190 #[.agg #[.int .i64 2, .int .i64 5, .int .i64 10]] w fun e w' => e = .returned (.int .u64 1008) ∧ Below w.heap.size w w' := by
  have k0 := wide_any
  have k8 := top8_any
  have kB := top2_any
  have r0 := row3_new w 149 (.int .i64 2) (.int .i64 5) (.int .i64 10)
  go_enter Tryz.func190, Tryz.ntmps190
  go_wp2
  go_region_held3 (fun wx => wx.cell? ⟨w.heap.size, 0, none⟩ = some (.int .i64 2) ∧ wx.cell? ⟨w.heap.size, 1, none⟩ = some (.int .i64 5) ∧ wx.cell? ⟨w.heap.size, 2, none⟩ = some (.int .i64 10)) (first | exact r0.at | exact q1.at | exact q2.at | exact q3.at) (first
    | (go_at_call 155; refine (k0 _).mono ?_; rintro e w1 ⟨rfl, b1⟩; have d1 := box_drew b1; have q1 := Row3.kept (w := (w.alloc (.cells #[.int .i64 2, .int .i64 5, .int .i64 10] 149)).drew) r0 b1 (alloc_lt _ _))
    | (go_at_call 191; refine (k8 _).mono ?_; rintro e w2 ⟨rfl, b2⟩; have d2 := d1.trans (b2.mono d1.size); have q2 := q1.kept b2 q1.lt; clear k8)
    | (go_at_call 191; refine (kB _).mono ?_; rintro e w3 ⟨rfl, b3⟩; have d3 := d2.trans (b3.mono d2.size); have q3 := q2.kept b3 q2.lt; clear kB))
  go_wp2
  go_ret
  exact ⟨rfl, d3⟩
set_option maxRecDepth 100000 in
theorem rise4_any (w : World) : Calls Tryz.prog 190 #[.agg #[.int .i64 4, .int .i64 8, .int .i64 23]] w fun e w' => e = .returned (.int .u64 896) ∧ Below w.heap.size w w' := by
  have k0 := wide_any
  have k8 := top8_any
  have kB := top4_any
  have r0 := row3_new w 149 (.int .i64 4) (.int .i64 8) (.int .i64 23)
  go_enter Tryz.func190, Tryz.ntmps190
  go_wp2
  go_region_held3 (fun wx => wx.cell? ⟨w.heap.size, 0, none⟩ = some (.int .i64 4) ∧ wx.cell? ⟨w.heap.size, 1, none⟩ = some (.int .i64 8) ∧ wx.cell? ⟨w.heap.size, 2, none⟩ = some (.int .i64 23)) (first | exact r0.at | exact q1.at | exact q2.at | exact q3.at) (first
    | (go_at_call 155; refine (k0 _).mono ?_; rintro e w1 ⟨rfl, b1⟩; have d1 := box_drew b1; have q1 := Row3.kept (w := (w.alloc (.cells #[.int .i64 4, .int .i64 8, .int .i64 23] 149)).drew) r0 b1 (alloc_lt _ _))
    | (go_at_call 191; refine (k8 _).mono ?_; rintro e w2 ⟨rfl, b2⟩; have d2 := d1.trans (b2.mono d1.size); have q2 := q1.kept b2 q1.lt; clear k8)
    | (go_at_call 191; refine (kB _).mono ?_; rintro e w3 ⟨rfl, b3⟩; have d3 := d2.trans (b3.mono d2.size); have q3 := q2.kept b3 q2.lt; clear kB))
  go_wp2
  go_ret
  exact ⟨rfl, d3⟩
theorem room2_any (n : Int) (h0 : 0 ≤ n) (h1 : n ≤ 18446744073709551615) (w : World) : Calls Tryz.prog 200 #[.agg #[.int .i64 2, .int .i64 5, .int .i64 10], .int .u64 n] w fun e w' => e = .returned (.bool (decide (n < 65536))) ∧ Below w.heap.size w w' := by
  have hd : (n / 65536 == 0) = decide (n < 65536) := by rw [Bool.eq_iff_iff, beq_iff_eq, decide_eq_true_iff]; omega
  go_enter Tryz.func200, Tryz.ntmps200
  go_wp2
  go_ret
  exact ⟨by rw [← hd]; rfl, alloc_below _ _⟩
theorem room4_any (n : Int) (h0 : 0 ≤ n) (h1 : n ≤ 18446744073709551615) (w : World) : Calls Tryz.prog 200 #[.agg #[.int .i64 4, .int .i64 8, .int .i64 23], .int .u64 n] w fun e w' => e = .returned (.bool (decide (n < 4294967296))) ∧ Below w.heap.size w w' := by
  have hd : (n / 4294967296 == 0) = decide (n < 4294967296) := by rw [Bool.eq_iff_iff, beq_iff_eq, decide_eq_true_iff]; omega
  go_enter Tryz.func200, Tryz.ntmps200
  go_wp2
  go_ret
  exact ⟨by rw [← hd]; rfl, alloc_below _ _⟩
theorem room8_any (n : Int) (h0 : 0 ≤ n) (h1 : n ≤ 18446744073709551615) (w : World) : Calls Tryz.prog 200 #[.agg #[.int .i64 8, .int .i64 11, .int .i64 52], .int .u64 n] w fun e w' => e = .returned (.bool (decide (n < 18446744073709551616))) ∧ Below w.heap.size w w' := by
  have hd : (n / 18446744073709551616 == 0) = decide (n < 18446744073709551616) := by rw [Bool.eq_iff_iff, beq_iff_eq, decide_eq_true_iff]; omega
  go_enter Tryz.func200, Tryz.ntmps200
  go_wp2
  go_ret
  exact ⟨by rw [← hd]; rfl, alloc_below _ _⟩
set_option maxRecDepth 100000 in
set_option maxHeartbeats 1000000 in
theorem join8_any (S X G : Int) (hS : 0 ≤ S ∧ S ≤ 1) (hX : 0 ≤ X ∧ X < 2048) (hG : 0 ≤ G ∧ G < 4503599627370496) (w : World) : Calls Tryz.prog 193 #[.agg #[.int .i64 8, .int .i64 11, .int .i64 52], .agg #[.int .u64 S, .int .u64 X, .int .u64 G]] w fun e w' => e = .returned (.int .u64 (S * 9223372036854775808 + X * 4503599627370496 + G)) ∧ Below w.heap.size w w' := by
  have u1 : IntKind.i64.wrap 63 = 63 := by decide
  have m1 : bits .or .u64 (S * 9223372036854775808) (X * 4503599627370496) = S * 9223372036854775808 + X * 4503599627370496 := or_hi 63 _ _ (by omega) (by omega) (by omega) (by omega) (by omega) (by omega)
  have m2 : bits .or .u64 (S * 9223372036854775808 + X * 4503599627370496) G = S * 9223372036854775808 + X * 4503599627370496 + G := or_hi 52 _ _ (by omega) (by omega) (by omega) (by omega) (by omega) (by omega)
  have v1 : IntKind.u64.wrap (S * 9223372036854775808) = S * 9223372036854775808 := by rw [IntKind.wrap_u64]; omega
  have v2 : IntKind.u64.wrap (X * 4503599627370496) = X * 4503599627370496 := by rw [IntKind.wrap_u64]; omega
  have d0 : Below w.heap.size w ((w.alloc (.cells #[.int .i64 8, .int .i64 11, .int .i64 52] 149)).alloc (.cells #[.int .u64 S, .int .u64 X, .int .u64 G] 189)) := ((Below.refl _ _).alloc (Nat.le_refl _) _).alloc (by simp) _
  clear hS hX hG
  go_enter Tryz.func193, Tryz.ntmps193
  go_wp2
  go_quiet (fail)
  go_wp2
  go_ret
  exact ⟨rfl, ⟨d0.os, d0.tape, d0.output, d0.size, d0.block⟩⟩
end Go.Proofs.YtnjbppfanmmifaaGreatDoor
