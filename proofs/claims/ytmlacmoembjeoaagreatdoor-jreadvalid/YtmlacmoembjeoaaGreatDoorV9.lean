/-
  How far a character is begun that is not whole.
  Rows of runes: read, made, appended to, compared; what Go's '[]rune(s)' lays.
  Whether bytes are a text, and a text's characters, in the program.
  Bytes of a string, laid down and appended to: rows that bear a mark behind their end.
  A string's characters that are no whole ones: jlex.isBroken, jlex.brokenFault.
  The fault of a string where no whole character stands: jlex.brokenFault.
  What jlex.stringAt has in memory.
-/
import Derived.Test.YtmlacmoembjeoaaGreatDoorV7
import Derived.Test.YtmlacmoembjeoaaGreatDoorV4
import Derived.Test.YtmlacmoembjeoaaGreatDoorV3
import Derived.Test.YtmlacmoembjeoaaGreatDoorV5
import Derived.Test.YtmlacmoembjeoaaGreatDoorV8
import Derived.Deep.DeepAppendWide
import Derived.Deep.QuietTactic
import Derived.BigQuiet
import Derived.RegionTactic
import Derived.ChangeAlike
import Derived.ArgAppend
import Derived.Lib.ConvBytes
import Derived.Shelf.Strings.Prefix
import Derived.Lib.OthersKept
namespace Go.Proofs.YtmlacmoembjeoaaGreatDoor
open Go.RowKit

theorem second_none (c : Nat) (w : World) (h : c < 194 ∨ 244 < c) :
    Calls Tryz.prog 153 #[.int .u8 c] w fun e w' => e = .returned (.tuple #[.int .u8 1, .int .u8 0]) ∧ w' = w := by
  have e1 : ((c : Int) == 224) = false := by simp; omega
  have e2 : ((c : Int) == 237) = false := by simp; omega
  have e3 : ((c : Int) == 240) = false := by simp; omega
  have e4 : ((c : Int) == 244) = false := by simp; omega
  go_enter Tryz.func153, Tryz.ntmps153
  go_wp2
  all_goals first | (exfalso; omega) | (go_ret2; exact ⟨rfl, rfl⟩)
theorem second_some (c : Nat) (w : World) (h : 194 ≤ c) (h2 : c ≤ 244) :
    Calls Tryz.prog 153 #[.int .u8 c] w fun e w' => e = .returned (.tuple #[.int .u8 (lo2 c : Nat), .int .u8 (hi2 c : Nat)]) ∧ w' = w := by
  by_cases c1 : c = 224
  · subst c1
    go_enter Tryz.func153, Tryz.ntmps153
    go_wp2
    go_ret2
    exact ⟨rfl, rfl⟩
  by_cases c2 : c = 237
  · subst c2
    go_enter Tryz.func153, Tryz.ntmps153
    go_wp2
    go_ret2
    exact ⟨rfl, rfl⟩
  by_cases c3 : c = 240
  · subst c3
    go_enter Tryz.func153, Tryz.ntmps153
    go_wp2
    go_ret2
    exact ⟨rfl, rfl⟩
  by_cases c4 : c = 244
  · subst c4
    go_enter Tryz.func153, Tryz.ntmps153
    go_wp2
    go_ret2
    exact ⟨rfl, rfl⟩
  have e1 : ((c : Int) == 224) = false := by simp; omega
  have e2 : ((c : Int) == 237) = false := by simp; omega
  have e3 : ((c : Int) == 240) = false := by simp; omega
  have e4 : ((c : Int) == 244) = false := by simp; omega
  have l : Hid (lo2 c = 128) := by show _ = _; unfold lo2; rw [if_neg c1, if_neg c3]
  have u : Hid (hi2 c = 191) := by show _ = _; unfold hi2; rw [if_neg c2, if_neg c4]
  clear c1 c2 c3 c4
  rw [l.out, u.out]
  go_enter Tryz.func153, Tryz.ntmps153
  go_wp2
  all_goals first | (exfalso; omega) | (go_ret2; exact ⟨rfl, rfl⟩)

/-- What the loop meets at its k-th byte. -/
theorem begun_step {zs : List Int} (hbad : ¬ Good zs) (h0 : lenB zs ≠ 0) {k lo hi : Nat} (hk : 1 ≤ k) (hle : k ≤ badB zs) (hr : (k = 1 ∧ lo = lo2 (nth zs 0) ∧ hi = hi2 (nth zs 0)) ∨ (2 ≤ k ∧ lo = 128 ∧ hi = 191)) :
    k < badB zs ↔ (k < zs.length ∧ lo ≤ nth zs k ∧ nth zs k ≤ hi) := by
  rcases bad_cases hbad with ⟨e, k0⟩ | ⟨e, k1, k2⟩ | ⟨e, k1, k2, k3⟩ | ⟨e, k1, k2, k3, k4⟩
  · exact absurd k0 h0
  · unfold ok1 at k2
    obtain rfl : k = 1 := by omega
    rcases hr with ⟨_, rfl, rfl⟩ | ⟨h, _⟩
    · omega
    · omega
  · unfold ok1 at k2
    unfold okK at k3
    rcases hr with ⟨rfl, rfl, rfl⟩ | ⟨h, rfl, rfl⟩
    · omega
    · obtain rfl : k = 2 := by omega
      omega
  · unfold ok1 at k2
    unfold okK at k3 k4
    rcases hr with ⟨rfl, rfl, rfl⟩ | ⟨h, rfl, rfl⟩
    · omega
    · have h3 : k = 2 ∨ k = 3 := by omega
      rcases h3 with rfl | rfl
      · omega
      · omega

set_option maxHeartbeats 1000000 in
theorem begun_any (b off n cap : Nat) (zs : List Int) (w : World) (hl : zs.length = n) (h0 : 0 < n) (hb : Bytes w (some ⟨b, off, none⟩) zs) (hbad : ¬ Good zs) (hn : n ≤ 4611686018427387904) :
    Calls Tryz.prog 137 #[.slice (some ⟨b, off, none⟩) n cap] w fun e w' => e = .returned (.int .i64 (badB zs : Nat)) ∧ w' = w := by
  have hL : Hid (zs.length = n) := hl
  have hB : Hid (Bytes w (some ⟨b, off, none⟩) zs) := hb
  have hbad' : Hid (¬ Good zs) := hbad
  have c0 : w.cell? ⟨b, off, none⟩ = some (.int .u8 (nth zs 0 : Nat)) := hb.nat (i := 0) (by omega)
  have z0 := nth_lt hb.1 0
  have hcs := len_cases (nth zs 0)
  have hlb : lenB zs = lenN (nth zs 0) := rfl
  by_cases hz : lenB zs = 0
  · have k : Calls Tryz.prog 153 #[.int .u8 (nth zs 0 : Nat)] w fun e w' => e = .returned (.tuple #[.int .u8 1, .int .u8 0]) ∧ w' = w := second_none (nth zs 0) w (by omega)
    have hB0 : Hid (badB zs = 0) := by show _ = _; unfold badB; rw [if_pos hz]
    clear hcs hlb hz hb hl hbad
    generalize nth zs 0 = c at *
    go_enter Tryz.func137, Tryz.ntmps137
    go_wp2_with (go_at_call 153; refine k.mono ?_; rintro e w' ⟨rfl, hw⟩; obtain rfl : w = w' := hw.symm)
    go_ret
    rw [hB0.out]
    exact ⟨rfl, rfl⟩
  · have hg1 : lenB zs ≠ 1 := by
      intro h1
      refine hbad ?_
      unfold Good GoodN
      rw [← hlb, h1]
      exact ⟨by omega, fun h => by omega, fun h => by omega, fun h => by omega⟩
    have k : Calls Tryz.prog 153 #[.int .u8 (nth zs 0 : Nat)] w fun e w' => e = .returned (.tuple #[.int .u8 (lo2 (nth zs 0) : Nat), .int .u8 (hi2 (nth zs 0) : Nat)]) ∧ w' = w := second_some (nth zs 0) w (by omega) (by omega)
    have hlo := lo2_cases (nth zs 0)
    have hhi := hi2_cases (nth zs 0)
    have hle : lo2 (nth zs 0) ≤ hi2 (nth zs 0) := by omega
    have hb1 : 1 ≤ badB zs := by
      rcases bad_cases hbad with ⟨e, k0⟩ | ⟨e, k1, k2⟩ | ⟨e, k1, k2, k3⟩ | ⟨e, k1, k2, k3, k4⟩
      · exact absurd k0 hz
      all_goals omega
    have hstep : Hid (∀ k lo hi : Nat, 1 ≤ k → k ≤ badB zs → ((k = 1 ∧ lo = lo2 (nth zs 0) ∧ hi = hi2 (nth zs 0)) ∨ (2 ≤ k ∧ lo = 128 ∧ hi = 191)) → (k < badB zs ↔ (k < n ∧ lo ≤ nth zs k ∧ nth zs k ≤ hi))) := fun k lo hi h1 h2 h3 => by rw [← hL.out]; exact begun_step hbad hz h1 h2 h3
    clear hcs hlb hz hb hl hbad hlo hhi hg1
    generalize lo2 (nth zs 0) = l0 at *
    generalize hi2 (nth zs 0) = u0 at *
    generalize hB3 : badB zs = B at *
    clear hB3
    generalize nth zs 0 = c at *
    go_enter Tryz.func137, Tryz.ntmps137
    go_wp2_with (go_at_call 153; refine k.mono ?_; rintro e w' ⟨rfl, hw⟩; obtain rfl : w = w' := hw.symm)
    go_loop [3, 4, 5] (fun l u i => ∃ k lo hi : Nat, l = .int .u8 lo ∧ u = .int .u8 hi ∧ i = .int .i64 k ∧ 1 ≤ k ∧ k ≤ B ∧ Hid ((k = 1 ∧ lo = l0 ∧ hi = u0) ∨ (2 ≤ k ∧ lo = 128 ∧ hi = 191))) (fun _ _ i => B - (intOf i).toNat)
    case atStart => exact ⟨1, l0, u0, rfl, rfl, rfl, Nat.le_refl _, hb1, .inl ⟨rfl, rfl, rfl⟩⟩
    case round =>
      obtain ⟨k, lo, hi, rfl, rfl, rfl, hk1, hk2, hR⟩ := hrel
      have hs := hstep.out k lo hi hk1 hk2 hR.out
      by_cases hlt : k < B
      · obtain ⟨s1, s2, s3⟩ := hs.1 hlt
        have ck : w.cell? ⟨b, off + k, none⟩ = some (.int .u8 (nth zs k : Nat)) := hB.out.nat (by rw [hL.out]; exact s1)
        clear hs
        generalize nth zs k = d at *
        go_wp2
        go_round
        case rel => exact ⟨k + 1, 128, 191, rfl, rfl, by go_num, by omega, by omega, .inr ⟨by omega, rfl, rfl⟩⟩
        case measure => simp [intOf]; omega
      · have ck : k < n → w.cell? ⟨b, off + k, none⟩ = some (.int .u8 (nth zs k : Nat)) := fun s1 => hB.out.nat (by rw [hL.out]; exact s1)
        have hs' : Hid (¬ (k < n ∧ lo ≤ nth zs k ∧ nth zs k ≤ hi)) := fun h => hlt (hs.2 h)
        obtain rfl : k = B := by omega
        clear hs
        generalize nth zs k = d at *
        go_wp2
        all_goals first | (exfalso; have := hs'.out; omega) | (go_ret; exact ⟨rfl, rfl⟩)
end Go.Proofs.YtmlacmoembjeoaaGreatDoor
namespace Go.Proofs.YtmlacmoembjeoaaGreatDoor
open Go.RowKit

/-- The runes l lie at a. -/
def Jnts (w : World) (a : Option Addr) (l : List Int) : Prop :=
  l.length ≤ maxLen ∧ (l = [] ∨ ∃ b off, a = some ⟨b, off, none⟩ ∧ ∀ i, i < l.length → w.cell? ⟨b, off + i, none⟩ = some (.int .i32 (l.getD i 0)))
/-- Runes in new memory. -/
def OwnsJ (w : World) (base : Nat) (v : Value) (l : List Int) : Prop := w.ownsRow base 21 1 v l.length (l.map (Value.int .i32))
def ints (l : List Nat) : List Int := l.map fun r => ((r : Nat) : Int)
theorem jnts_len (l : List Nat) : (ints l).length = l.length := by simp [ints]
theorem info21 : (Tryz.prog.info? 21).map (fun i => (i.zero, i.size, i.bytes)) = some (some (.int .i32 0), 1, 4) := by kernel_rfl

theorem ownsJ_nil (w : World) (base : Nat) : OwnsJ w base (.slice none 0 0) [] := World.ownsRow_nil w base 21 1
theorem OwnsJ.shape {w : World} {base : Nat} {v : Value} {l : List Int} (h : OwnsJ w base v l) :
    ∃ a cap, v = .slice a l.length cap ∧ (a = none → cap = 0) ∧ (l.length ≤ cap ∧ cap ≤ maxLen) ∧ Jnts w a l ∧ (∀ x, a = some x → base ≤ x.block ∧ x.block < w.heap.size ∧ x.off = 0 ∧ x.spot = none) := by
  obtain ⟨hl, hv⟩ := h
  rcases hv with ⟨rfl, hn⟩ | ⟨g, cap, cur, rfl, hb, hg, hnc, hcm, hcs, htk⟩
  · have h0 : l = [] := List.eq_nil_of_length_eq_zero hn
    subst h0
    exact ⟨none, 0, rfl, fun _ => rfl, by simp, ⟨by simp, .inl rfl⟩, fun x hx => by cases hx⟩
  · refine ⟨some ⟨g, 0, none⟩, cap, rfl, (fun hx => by cases hx), ⟨hnc, hcm⟩, ⟨by omega, .inr ⟨g, 0, rfl, fun i hi => ?_⟩⟩, ?_⟩
    · rw [Nat.zero_add, cell_row hg, ← Array.getElem?_toList]
      have h1 : (cur.toList.take (l.length * 1))[i]? = (l.map (Value.int .i32))[i]? := by rw [htk]
      rw [List.getElem?_take, if_pos (by omega), List.getElem?_map] at h1
      rw [h1, List.getD_eq_getElem?_getD, List.getElem?_eq_getElem hi]; rfl
    · intro x hx
      cases hx
      exact ⟨hb, (Array.getElem?_eq_some_iff.1 hg).1, rfl, rfl⟩
theorem OwnsJ.form {w : World} {base : Nat} {v : Value} {l : List Int} (h : OwnsJ w base v l) :
    ∃ a n cap, v = .slice a n cap ∧ Hid (l.length = n) ∧ Hid (a = none → cap = 0) ∧ n ≤ cap ∧ cap ≤ 9223372036854775807 ∧ Hid (Jnts w a l) := by
  obtain ⟨a, cap, hv, hn, ⟨hl, hm⟩, hb, _⟩ := h.shape
  exact ⟨a, l.length, cap, hv, rfl, hn, hl, by simpa [maxLen] using hm, hb⟩
theorem OwnsJ.below {w w' : World} {base : Nat} {v : Value} {l : List Int} (h : OwnsJ w base v l) (hb : Below w.heap.size w w') : OwnsJ w' base v l :=
  World.ownsRow.kept (row := none) h ⟨hb.os, hb.tape, hb.output, hb.size, fun k hk _ => hb.block k hk⟩ (by cases hv : v.ownBlock <;> simp)
theorem OwnsJ.alloc {w : World} {base : Nat} {v : Value} {l : List Int} (h : OwnsJ w base v l) (o : Obj) : OwnsJ (w.alloc o) base v l := h.below ((Below.refl _ _).alloc (Nat.le_refl _) o)
/-- Where blocks below stay it stays. -/
theorem OwnsJ.low {w : World} {base : Nat} {v : Value} {l : List Int} (h : OwnsJ w base v l) {a : Addr} (ha : a.block < base) (u : Value) : OwnsJ (w.setCell a u) base v l := ownsRow_setCell_below h ha u
theorem OwnsJ.base {w : World} {base base' : Nat} {v : Value} {l : List Int} (h : OwnsJ w base v l) (hB : base' ≤ base) : OwnsJ w base' v l := by
  obtain ⟨hl, hv⟩ := h
  refine ⟨hl, ?_⟩
  rcases hv with ⟨rfl, hn⟩ | ⟨g, cap, cur, rfl, hb, hr⟩
  · exact .inl ⟨rfl, hn⟩
  · exact .inr ⟨g, cap, cur, rfl, by omega, hr⟩
theorem grownJ_below {w w1 w2 : World} {base : Nat} {v : Value} {l : List Int} (hb : Below base w w1) (h : OwnsJ w1 base v l) (hg : w1.grownBy w2 v.ownBlock) (hB : base ≤ w1.heap.size) : Below base w w2 :=
  hb.grown hg hB fun k hk => (World.ownsRow.lt h k hk).1

theorem Jnts.lt {w : World} {x : Addr} {l : List Int} (hb : Jnts w (some x) l) (h0 : l ≠ []) : x.block < w.heap.size := by
  rcases hb.2 with h1 | ⟨b, off, h1, hc⟩
  · exact absurd h1 h0
  · cases h1
    have hp : 0 < l.length := List.length_pos_iff.2 h0
    have := hc 0 hp
    simp only [World.cell?] at this
    show b < w.heap.size
    rcases Nat.lt_or_ge b w.heap.size with h2 | h2
    · exact h2
    · simp [Array.getElem?_eq_none h2] at this
theorem Jnts.kept {w w' : World} {a : Option Addr} {l : List Int} (hb : Jnts w a l) (h : Below w.heap.size w w') : Jnts w' a l := by
  refine ⟨hb.1, ?_⟩
  rcases hb.2 with h0 | ⟨b, off, rfl, hc⟩
  · exact .inl h0
  · by_cases h0 : l = []
    · exact .inl h0
    · refine .inr ⟨b, off, rfl, fun i hi => ?_⟩
      rw [h.cell (p := ⟨b, off + i, none⟩) (hb.lt h0)]
      exact hc i hi
theorem Jnts.cell {w : World} {b off : Nat} {l : List Int} (hb : Jnts w (some ⟨b, off, none⟩) l) {i : Nat} (hi : i < l.length) : w.cell? ⟨b, off + i, none⟩ = some (.int .i32 (l.getD i 0)) := by
  rcases hb.2 with h | ⟨b', off', h, hc⟩
  · subst h; simp at hi
  · cases h
    exact hc i hi
theorem jnts_news {w : World} {x : Addr} {l : List Int} (hb : Jnts w (some x) l) : ∀ j u, (l.map (Value.int .i32))[j]? = some u → w.cell? (x.add j) = some u := by
  intro j u hu
  rcases hb.2 with rfl | ⟨b, off, hx, hc⟩
  · simp at hu
  · cases hx
    have hj : j < l.length := by
      have := (List.getElem?_eq_some_iff.1 hu).1
      simpa using this
    have h1 := hc j hj
    rw [List.getElem?_map, List.getElem?_eq_getElem hj] at hu
    simp only [Option.map_some, Option.some.injEq] at hu
    subst hu
    have e : (⟨b, off, none⟩ : Addr).add j = ⟨b, off + j, none⟩ := by
      by_cases h0 : j = 0
      · subst h0; simp [Addr.add]
      · simp [Addr.add, h0]
    rw [e, h1, List.getD_eq_getElem?_getD, List.getElem?_eq_getElem hj]; rfl
theorem jnts_one (l : List Int) : ∀ u ∈ l.map (Value.int .i32), u.oneCell' = true := by
  intro u hu
  obtain ⟨c, _, rfl⟩ := List.mem_map.1 hu
  rfl
theorem one_rune (w : World) (n : Int) : Jnts (w.alloc (.cells #[.int .i32 n] 21)) (some ⟨w.heap.size, 0, none⟩) [n] := by
  refine ⟨by simp [maxLen], .inr ⟨_, _, rfl, ?_⟩⟩
  intro i hi
  rw [World.cell?_alloc_mark]
  match i, hi with
  | 0, _ => rfl

/-- 'append(v, x...)', v the call's own runes, x any runes. -/
theorem wpList_append_jnts {w : World} {ops : Array Oper} {rest : List Oper} {o : Oper} {a : Act} {Q : Exit → Act → World → Prop} (hgd : o.guard = none) (s x : Operand)
    (ho : o.op = .call { callee := .builtin .append, args := #[s, x], argTypes := #[77, 77] })
    (base : Nat) (v : Value) (ys zs : List Int) (hs : a.eval s = v) (hown : OwnsJ w base v ys)
    (ad : Option Addr) (m c : Nat) (hx : a.eval x = .slice ad m c) (hm : zs.length = m) (hn : ad = none → c = 0) (hb : Jnts w ad zs)
    (hbytes : ys.length + zs.length ≤ 52776558133248) (hbase : base ≤ w.heap.size)
    (h : ∀ v' w', OwnsJ w' base v' (ys ++ zs) → w.grownBy w' v.ownBlock → wpList Tryz.prog ops Q rest (a.put o.dst v') w') : wpList Tryz.prog ops Q (o :: rest) a w := by
  subst hm
  obtain ⟨i, hi, hz, hsz, hby⟩ := info_parts info21
  cases ad with
  | none =>
    have h0 : zs = [] := by
      rcases hb.2 with h0 | ⟨_, _, h0, _⟩
      · exact h0
      · cases h0
    subst h0
    rw [hn rfl] at hx
    refine wpList_append_own_none hgd s x 77 ho base 21 i 1 Tryz.underlying77 hi v ys.length _ hs hown hx ?_
    have := h v w (by simpa using hown) (World.grownBy.refl _ _)
    exact this
  | some ad =>
    refine wpList_append_own_wide w hgd s x 77 ho base 21 i (.int .i32 0) 1 4 Tryz.underlying77 hi hz hsz hby rfl (by decide) v ys.length _ hs hown ad zs.length c (zs.map (Value.int .i32)) hx (by simp) (jnts_news hb) (jnts_one zs) ?_ (by omega) hbase ?_
    · unfold maxLen; omega
    · intro v' w' ho' hg _
      refine h v' w' ?_ hg
      unfold OwnsJ
      rw [List.length_append, List.map_append]
      exact ho'

end Go.Proofs.YtmlacmoembjeoaaGreatDoor
namespace Go.Proofs.YtmlacmoembjeoaaGreatDoor
open Go.RowKit

/-- The fault of bytes: its number, its place. -/
def whyL (zs : List Int) : Nat := match (runesL zs).2 with | none => 0 | some _ => 6
def atL (zs : List Int) : Nat := match (runesL zs).2 with | none => 0 | some p => p
/-- The characters of a text; none of what is no text. -/
def txtL (zs : List Int) : List Int := match (runesL zs).2 with | none => ints (runesL zs).1 | some _ => []
theorem why_none {zs : List Int} (h : (runesL zs).2 = none) : whyL zs = 0 ∧ atL zs = 0 ∧ txtL zs = ints (runesL zs).1 := by
  unfold whyL atL txtL
  rw [h]
  exact ⟨rfl, rfl, rfl⟩
theorem why_some {zs : List Int} {p : Nat} (h : (runesL zs).2 = some p) : whyL zs = 6 ∧ atL zs = p ∧ txtL zs = [] := by
  unfold whyL atL txtL
  rw [h]
  exact ⟨rfl, rfl, rfl⟩

/-- A fault in block g. -/
def FAt (w : World) (g y f : Nat) : Prop := w.heap[g]? = some (.cells #[.int .i64 y, .int .i64 f] 29 (0, 0))
theorem FAt.lt {w : World} {g y f : Nat} (h : FAt w g y f) : g < w.heap.size := (Array.getElem?_eq_some_iff.1 h).1
theorem FAt.c0 {w : World} {g y f : Nat} (h : FAt w g y f) : w.cell? ⟨g, 0, none⟩ = some (.int .i64 y) := by rw [cell_row h]; rfl
theorem FAt.c1 {w : World} {g y f : Nat} (h : FAt w g y f) : w.cell? ⟨g, 1, none⟩ = some (.int .i64 f) := by rw [cell_row h]; rfl
theorem FAt.fz {w : World} {g y f : Nat} (h : FAt w g y f) (j : Nat) : w.frozen? ⟨g, j, none⟩ = false := by
  unfold FAt at h
  simp [World.frozen?, h]
theorem FAt.kept {w w' : World} {g y f : Nat} (h : FAt w g y f) (hb : Below w.heap.size w w') : FAt w' g y f := by
  unfold FAt
  rw [hb.block g h.lt]
  exact h

set_option maxHeartbeats 1000000 in
theorem check_any (a : Option Addr) (n cap : Nat) (zs : List Int) (w : World) (hl : zs.length = n) (hb : Bytes w a zs) (hc : n ≤ cap) (hn : n ≤ 4611686018427387904) :
    Calls Tryz.prog 117 #[.slice a n cap] w fun e w' => e = .returned (.agg #[.int .i64 (whyL zs : Nat), .int .i64 (atL zs : Nat)]) ∧ Below w.heap.size w w' := by
  have hL : Hid (zs.length = n) := hl
  have hB0 : Hid (Bytes w a zs) := hb
  have k := uwhole_any a n cap zs (w.alloc (.cells #[.int .i64 0, .int .i64 0] 29)) hl (hb.kept ((Below.refl _ _).alloc (Nat.le_refl _) _)) hn
  have hle := end_le zs
  rw [hl] at hle
  by_cases he : endL zs = n
  · obtain ⟨h1, h2, -⟩ := why_none (end_text (he.trans hl.symm))
    rw [h1, h2]
    rw [he] at k
    clear hb hl he h1 h2 hle
    go_enter Tryz.func117, Tryz.ntmps117
    go_wp2_with fail
    refine k.mono ?_
    rintro e w1 ⟨rfl, hb1⟩
    have hF : FAt w1 w.heap.size 0 0 := FAt.kept (w := w.alloc _) (heap_alloc_new w _) hb1
    have c0 := hF.c0
    have c1 := hF.c1
    have f0 := hF.fz 0
    have f1 := hF.fz 1
    have hbw : Below w.heap.size w w1 := ((Below.refl w.heap.size w).alloc (Nat.le_refl _) _).trans (hb1.mono (by simp))
    clear k
    go_wp2
    refine bodyPost_ret (v := .agg #[.int .i64 0, .int .i64 0]) (by simp [results, Tryz.results117, go_sem, *]) rfl ⟨rfl, ?_⟩
    first | exact hbw | exact (hbw.setCell (Nat.le_refl _) _).setCell (Nat.le_refl _) _
  · have hf := end_fault (b := zs) (by rw [hl]; exact he)
    have hstop := end_stop zs (by rw [hl]; omega)
    obtain ⟨h1, h2, -⟩ := why_some hf
    rw [h1, h2]
    obtain ⟨b, off, rfl⟩ := bytes_some hb (by omega)
    have hE : endL zs < n := by omega
    have k2 := fun w1 (h : Bytes w1 (some ⟨b, off, none⟩) zs) => begun_any b (off + endL zs) (n - endL zs) (cap - endL zs) (zs.drop (endL zs)) w1 (by rw [List.length_drop, hl]) (by omega) (h.drop _) hstop (by omega)
    have i1 : (cap = endL zs) = False := by simp; omega
    have i2 : ((endL zs : Nat) : Int) ≤ (n : Int) := by omega
    have i4 : ((endL zs : Nat) : Int) ≤ (cap : Int) := by omega
    have i3 : (((endL zs : Nat) : Int) == (n : Int)) = false := by simp; omega
    have hbl : endL zs + badB (zs.drop (endL zs)) ≤ n := by
      have := fault_le zs _ hf
      omega
    clear hb hl he h1 h2 hle hf hstop
    generalize endL zs = E at *
    generalize badB (zs.drop E) = B at *
    have k3 : Hid _ := k2
    clear k2
    go_enter Tryz.func117, Tryz.ntmps117
    go_wp2_with fail
    refine k.mono ?_
    rintro e w1 ⟨rfl, hb1⟩
    have hbw : Below w.heap.size w w1 := ((Below.refl w.heap.size w).alloc (Nat.le_refl _) _).trans (hb1.mono (by simp))
    have kk := k3.out w1 (hB0.out.kept hbw)
    have hF : FAt w1 w.heap.size 0 0 := FAt.kept (w := w.alloc _) (heap_alloc_new w _) hb1
    have c0 := hF.c0
    have c1 := hF.c1
    have f0 := hF.fz 0
    have f1 := hF.fz 1
    clear k
    go_wp2_with (go_at_call 137; refine kk.mono ?_; rintro e w' ⟨rfl, hw⟩; obtain rfl : w1 = w' := hw.symm)
    have hv : IntKind.i64.wrap ((E : Int) + (B : Int)) = ((E + B : Nat) : Int) := by rw [IntKind.wrap_i64] <;> omega
    refine bodyPost_ret (v := .agg #[.int .i64 6, .int .i64 ((E + B : Nat) : Int)]) (by simp [results, Tryz.results117, go_sem, *]) rfl ⟨rfl, ?_⟩
    first | exact hbw | exact (hbw.setCell (Nat.le_refl _) _).setCell (Nat.le_refl _) _
end Go.Proofs.YtmlacmoembjeoaaGreatDoor
namespace Go.Proofs.YtmlacmoembjeoaaGreatDoor
open Go.RowKit

/-- Bytes in a row of the call's own, whose cells may all be written. -/
def OwnsM (w : World) (base : Nat) (v : Value) (zs : List Int) : Prop := (∀ c ∈ zs, 0 ≤ c ∧ c < 256) ∧ ∃ g cap, v = .slice (some ⟨g, 0, none⟩) zs.length cap ∧ base ≤ g ∧ g < w.heap.size ∧ zs.length ≤ cap ∧ cap ≤ maxLen ∧
  (∀ j, j < cap → (w.cell? ⟨g, j, none⟩).isSome = true ∧ w.frozen? ⟨g, j, none⟩ = false) ∧ ∀ j, j < zs.length → w.cell? ⟨g, j, none⟩ = some (.int .u8 (zs.getD j 0))
theorem OwnsM.below {w w' : World} {base : Nat} {v : Value} {zs : List Int} (h : OwnsM w base v zs) (hb : Below w.heap.size w w') : OwnsM w' base v zs := by
  obtain ⟨h0, g, cap, rfl, h1, h2, h3, h4, h5, h6⟩ := h
  have hc : ∀ j, w'.cell? ⟨g, j, none⟩ = w.cell? ⟨g, j, none⟩ := fun j => hb.cell (p := ⟨g, j, none⟩) h2
  have hf : ∀ j, w'.frozen? ⟨g, j, none⟩ = w.frozen? ⟨g, j, none⟩ := fun j => by
    unfold World.frozen?
    show (match w'.heap[g]? with | _ => _) = _
    rw [hb.block g h2]
  exact ⟨h0, g, cap, rfl, h1, Nat.lt_of_lt_of_le h2 hb.size, h3, h4, fun j hj => ⟨by rw [hc]; exact (h5 j hj).1, by rw [hf]; exact (h5 j hj).2⟩, fun j hj => by rw [hc]; exact h6 j hj⟩
theorem OwnsM.form {w : World} {base : Nat} {v : Value} {zs : List Int} (h : OwnsM w base v zs) : ∃ g n cap, v = .slice (some ⟨g, 0, none⟩) n cap ∧ Hid (zs.length = n) ∧ n ≤ cap ∧ cap ≤ 9223372036854775807 ∧ Hid (Bytes w (some ⟨g, 0, none⟩) zs) := by
  obtain ⟨h0, g, cap, rfl, h1, h2, h3, h4, h5, h6⟩ := h
  refine ⟨g, zs.length, cap, rfl, rfl, h3, by simpa [maxLen] using h4, ?_⟩
  exact ⟨h0, by omega, .inr ⟨g, 0, rfl, fun i hi => by rw [Nat.zero_add]; exact h6 i hi⟩⟩
theorem getD_cat {ys : List Int} {c : Int} {j : Nat} (h : j < ys.length + 1) : (ys ++ [c]).getD j 0 = if j < ys.length then ys.getD j 0 else c := by
  by_cases hj : j < ys.length
  · rw [if_pos hj, List.getD_eq_getElem?_getD, List.getElem?_append_left hj, ← List.getD_eq_getElem?_getD]
  · have e : j = ys.length := by omega
    subst e
    rw [if_neg hj, List.getD_eq_getElem?_getD, List.getElem?_append_right (Nat.le_refl _)]
    simp
theorem own_m {w : World} {base : Nat} {v : Value} {zs : List Int} (h : w.ownsRow base 5 1 v zs.length (zs.map (Value.int .u8))) (hz : ∀ c ∈ zs, 0 ≤ c ∧ c < 256) (h0 : 0 < zs.length) : OwnsM w base v zs := by
  obtain ⟨hl, hv⟩ := h
  rcases hv with ⟨rfl, hn⟩ | ⟨g, cap, cur, rfl, hb, hg, hnc, hcm, hcs, htk⟩
  · omega
  · refine ⟨hz, g, cap, rfl, hb, (Array.getElem?_eq_some_iff.1 hg).1, hnc, hcm, fun j hj => ⟨?_, ?_⟩, fun j hj => ?_⟩
    · rw [cell_row hg, Array.getElem?_eq_getElem (by omega)]; rfl
    · simp [World.frozen?, hg]
    · rw [cell_row hg, ← Array.getElem?_toList]
      have h1 : (cur.toList.take (zs.length * 1))[j]? = (zs.map (Value.int .u8))[j]? := by rw [htk]
      rw [List.getElem?_take, if_pos (by omega), List.getElem?_map] at h1
      rw [h1, List.getD_eq_getElem?_getD, List.getElem?_eq_getElem hj]; rfl
/-- One byte behind. -/
theorem wpList_append_m {w : World} {ops : Array Oper} {rest : List Oper} {o : Oper} {a : Act} {Q : Exit → Act → World → Prop} (hgd : o.guard = none) (s x : Operand)
    (ho : o.op = .call { callee := .builtin .append, args := #[s, x], argTypes := #[22, 22] })
    (base : Nat) (v : Value) (ys : List Int) (c : Int) (hc : 0 ≤ c ∧ c < 256) (hs : a.eval s = v) (hown : OwnsM w base v ys)
    (ad : Addr) (hx : a.eval x = .slice (some ad) 1 1) (hcell : w.cell? (ad.add 0) = some (.int .u8 c)) (hlen : ys.length + 1 ≤ 10000000) (hbase : base ≤ w.heap.size)
    (h : ∀ v' w', OwnsM w' base v' (ys ++ [c]) → Below base w w' → wpList Tryz.prog ops Q rest (a.put o.dst v') w') : wpList Tryz.prog ops Q (o :: rest) a w := by
  obtain ⟨i, hi, hz, hsz, hby⟩ := info_parts info5
  obtain ⟨h0, g, cap, rfl, h1, h2, h3, h4, h5, h6⟩ := hown
  have hzc : ∀ d ∈ ys ++ [c], 0 ≤ d ∧ d < 256 := fun d hd => by
    rcases List.mem_append.1 hd with h' | h'
    · exact h0 d h'
    · simp at h'; rw [h']; exact hc
  refine wpList_append_arg w hgd s x 22 ho 5 i (.int .u8 0) 1 1 Tryz.underlying22 hi hz hsz hby rfl (by decide) g 0 ys.length cap (ys.map (Value.int .u8)) hs (by simp) (fun j u hu => ?_) ad 1 1 [.int .u8 c] hx rfl (fun j u hu => ?_) (fun u hu => by simp at hu; rw [hu]; rfl) (fun hr j hj => ?_) (by unfold maxLen; omega) (by omega) (fun hr => ?_) (fun hg v' w' ho' hgr => ?_)
  · have hj : j < ys.length := by
      have := (List.getElem?_eq_some_iff.1 hu).1
      simpa using this
    rw [List.getElem?_map, List.getElem?_eq_getElem hj] at hu
    simp only [Option.map_some, Option.some.injEq] at hu
    rw [Nat.zero_add, h6 j hj, ← hu, List.getD_eq_getElem?_getD, List.getElem?_eq_getElem hj]; rfl
  · match j, hu with
    | 0, hu => simp at hu; rw [← hu]; exact hcell
  · have e : 0 + ys.length * 1 + j = ys.length := by simp at hj; omega
    rw [e]
    exact h5 _ (by omega)
  · have e : 0 + ys.length * 1 = ys.length := by omega
    rw [e]
    have hsome := (h5 ys.length (by omega)).1
    have hin : (w.setCells g ys.length [.int .u8 c]).cell? ⟨g, ys.length, none⟩ = some (.int .u8 c) := by
      show (w.setCell ⟨g, ys.length, none⟩ (.int .u8 c)).cell? _ = _
      exact World.cell?_setCell_same' w _ _ hsome
    have hout : ∀ j, j ≠ ys.length → (w.setCells g ys.length [.int .u8 c]).cell? ⟨g, j, none⟩ = w.cell? ⟨g, j, none⟩ := fun j hj => by
      refine World.cell?_setCells_out g _ _ _ _ (fun _ _ => ?_)
      show j < ys.length ∨ ys.length + 1 ≤ j
      omega
    refine h _ _ ⟨hzc, g, cap, by rw [List.length_append]; rfl, h1, ?_, by rw [List.length_append]; exact hr, h4, fun j hj => ⟨?_, ?_⟩, fun j hj => ?_⟩ ?_
    · show g < (w.setCell ⟨g, ys.length, none⟩ (.int .u8 c)).heap.size
      simpa [World.setCell] using h2
    · by_cases e' : j = ys.length
      · rw [e', hin]; rfl
      · rw [hout j e']; exact (h5 j hj).1
    · rw [World.frozen?_setCells]; exact (h5 j hj).2
    · rw [List.length_append] at hj
      have hj' : j < ys.length + 1 := hj
      rw [getD_cat hj']
      by_cases e' : j < ys.length
      · rw [if_pos e', hout j (by omega)]; exact h6 j e'
      · have e2 : j = ys.length := by omega
        rw [if_neg e', e2, hin]
    · show Below base w (w.setCell ⟨g, ys.length, none⟩ (.int .u8 c))
      exact (Below.refl base w).setCell (p := ⟨g, ys.length, none⟩) h1 _
  · refine h v' w' (own_m (zs := ys ++ [c]) ?_ hzc (by simp)) ((Below.refl base w).grown hgr hbase (fun k hk => by cases hk))
    have hw : w'.ownsRow w.heap.size 5 1 v' (ys ++ [c]).length ((ys ++ [c]).map (Value.int .u8)) := by
      rw [List.length_append, List.map_append]; exact ho'
    obtain ⟨hl', hv'⟩ := hw
    refine ⟨hl', ?_⟩
    rcases hv' with h' | ⟨g', cap', cur', e1, e2, e3⟩
    · exact .inl h'
    · exact .inr ⟨g', cap', cur', e1, Nat.le_trans hbase e2, e3⟩
/-- A string's bytes as they are laid down. -/
theorem own_conv (w : World) (s : ByteArray) (hs : s.size ≤ 10000000) : OwnsM (Lib.bytesWorld w 5 s) w.heap.size (.slice (some ⟨w.heap.size, 0, none⟩) s.size (grownCap w s.size 0 5)) (bs s) := by
  have hsz : (Lib.bytesCells w 5 s).size = grownCap w s.size 0 5 := by
    unfold Lib.bytesCells
    have := grownCap_ge w s.size 0 5
    simp
    show s.size + _ = _
    omega
  have hnew := Lib.bytesWorld_at_new w 5 s
  refine ⟨bs_bytes s, w.heap.size, _, by rw [bs_len], Nat.le_refl _, by rw [Lib.bytesWorld_size]; omega, by rw [bs_len]; exact grownCap_ge w _ _ _, grownCap_le_maxLen w _ _ _ (by unfold maxLen; omega), fun j hj => ⟨?_, ?_⟩, fun j hj => ?_⟩
  · have hj2 : j < (Lib.bytesCells w 5 s).size := by rw [hsz]; exact hj
    simp [World.cell?, hnew, hj2]
  · unfold World.frozen?
    show (match (Lib.bytesWorld w 5 s).heap[w.heap.size]? with | _ => _) = _
    rw [hnew]
    have hj2 : j < (Lib.bytesCells w 5 s).size := by rw [hsz]; exact hj
    generalize Lib.bytesCells w 5 s = C at *
    simp
    omega
  · rw [bs_len] at hj
    rw [Lib.bytesWorld_cell w 5 s j hj, bs_at s hj]
    congr 3
    rw [List.getD_eq_getElem?_getD, Array.getElem?_toList, Array.getElem?_eq_getElem (by exact hj)]
    rfl
end Go.Proofs.YtmlacmoembjeoaaGreatDoor
namespace Go.Proofs.YtmlacmoembjeoaaGreatDoor
open Go.RowKit
set_option linter.unusedVariables false

theorem bs_ext (s : ByteArray) (a b : Nat) : bs (s.extract a b) = ((bs s).take b).drop a := by
  unfold bs
  have e : (s.extract a b).data.toList = (s.data.toList.take b).drop a := by
    rw [ByteArray.data_extract, Array.toList_extract, List.extract_eq_take_drop]
    rw [List.drop_take]
  rw [e, List.map_drop, List.map_take]
theorem bs_from (s : ByteArray) (a : Nat) : bs (s.extract a s.size) = (bs s).drop a := by
  rw [bs_ext, List.take_of_length_le (by rw [bs_len]; exact Nat.le_refl _)]
theorem ext_size {s : ByteArray} {a : Nat} (h : a ≤ s.size) : (s.extract a s.size).size = s.size - a := by
  rw [← bs_len, bs_from, List.length_drop, bs_len]
/-- strings.HasPrefix of the bytes of FFFD. -/
theorem pre_odd (b : List Int) (hz : ∀ c ∈ b, 0 ≤ c ∧ c < 256) (h0 : b ≠ []) (l : List UInt8) (hl : l.map (fun x => ((x.toNat : Nat) : Int)) = b) : Lib.hasPrefix l [239, 191, 189] = true ↔ (Good b ∧ valB b = 65533) := by
  have key : Lib.hasPrefix l [239, 191, 189] = true ↔ (3 ≤ b.length ∧ nth b 0 = 239 ∧ nth b 1 = 191 ∧ nth b 2 = 189) := by
    subst hl
    unfold Lib.hasPrefix nth
    cases l with
    | nil => simp
    | cons x l =>
      cases l with
      | nil => simp
      | cons y l =>
        cases l with
        | nil => simp
        | cons z l =>
          simp only [List.isPrefixOf_cons_cons, List.isPrefixOf_nil_left, Bool.and_true, Bool.and_eq_true, beq_iff_eq, List.map_cons, List.length_cons, List.getD_cons_zero, List.getD_cons_succ, Int.toNat_natCast]
          constructor
          · rintro ⟨rfl, rfl, rfl⟩
            exact ⟨by omega, by decide, by decide, by decide⟩
          · rintro ⟨_, h1, h2, h3⟩
            exact ⟨(UInt8.toNat_inj.1 (by rw [h1]; rfl)).symm, (UInt8.toNat_inj.1 (by rw [h2]; rfl)).symm, (UInt8.toNat_inj.1 (by rw [h3]; rfl)).symm⟩
  rw [key]
  constructor
  · intro h
    have hG : Good b := by
      unfold Good GoodN ok1 okK
      rw [h.2.1, h.2.2.1, h.2.2.2]
      refine ⟨by decide, fun _ => ⟨by omega, by decide, by decide⟩, fun _ => ⟨by omega, by decide, by decide⟩, fun h => absurd h (by decide)⟩
    exact ⟨hG, (good_odd hG).2 h⟩
  · rintro ⟨hG, hv⟩
    exact (good_odd hG).1 hv
theorem pre_any (t : ByteArray) (w : World) : Calls Tryz.prog 116 #[.string t, .string ⟨#[239, 191, 189]⟩] w fun e w' => e = .returned (.bool (Lib.hasPrefix t.data.toList [239, 191, 189])) ∧ w' = w := Any.strings_HasPrefix lays99 t ⟨#[239, 191, 189]⟩ w
/-- The character that a range tells there. -/
def runeB (b : List Int) : Nat := if goodB b = true then valB b else 65533
set_option maxHeartbeats 1000000 in
set_option maxRecDepth 100000 in
/-- jlex.isBroken. -/
theorem broken_any (t : ByteArray) (h0 : bs t ≠ []) (w : World) : Calls Tryz.prog 89 #[.string t, .int .i32 (runeB (bs t) : Nat)] w fun e w' => e = .returned (.bool (!goodB (bs t))) ∧ w' = w := by
  have kP := pre_any t w
  have hP := pre_odd (bs t) (bs_bytes t) h0 t.data.toList rfl
  by_cases hg : Good (bs t)
  · rw [goodB_yes hg]
    have hr : runeB (bs t) = valB (bs t) := by unfold runeB; rw [goodB_yes hg, if_pos rfl]
    rw [hr]
    by_cases hv : valB (bs t) = 65533
    · have : Lib.hasPrefix t.data.toList [239, 191, 189] = true := hP.2 ⟨hg, hv⟩
      rw [this] at kP
      have a1 : (((valB (bs t) : Nat) : Int) == 65533) = true := by rw [hv]; decide
      generalize valB (bs t) = V at *
      clear hP hg hr h0 this hv
      go_enter Tryz.func89, Tryz.ntmps89
      go_wp2_with (go_at_call 116; refine kP.mono ?_; rintro e w1 ⟨rfl, hw⟩; subst hw)
      go_ret
      exact ⟨rfl, rfl⟩
    · have a1 : (((valB (bs t) : Nat) : Int) == 65533) = false := by simp; omega
      generalize valB (bs t) = V at *
      clear hP hg hr h0 hv kP
      go_enter Tryz.func89, Tryz.ntmps89
      go_wp2
      go_ret
      exact ⟨rfl, rfl⟩
  · rw [goodB_no hg]
    have hr : runeB (bs t) = 65533 := by unfold runeB; rw [goodB_no hg, if_neg (by simp)]
    rw [hr]
    have : Lib.hasPrefix t.data.toList [239, 191, 189] = false := by
      cases h : Lib.hasPrefix t.data.toList [239, 191, 189] with
      | false => rfl
      | true => exact absurd (hP.1 h).1 hg
    rw [this] at kP
    clear hP hg hr h0 this
    go_enter Tryz.func89, Tryz.ntmps89
    go_wp2_with (go_at_call 116; refine kP.mono ?_; rintro e w1 ⟨rfl, hw⟩; subst hw)
    go_ret
    exact ⟨rfl, rfl⟩
end Go.Proofs.YtmlacmoembjeoaaGreatDoor
namespace Go.Proofs.YtmlacmoembjeoaaGreatDoor
open Go.RowKit
set_option linter.unusedVariables false
theorem field_at (x y : Value) (w : World) : Sem.run Tryz.prog (Instr.field 29 (.agg #[x, y]) 1) w = .ok y w := by
  have t1 := Tryz.underlying29
  simp [Instr.field, run_underlying t1, asAgg, part, go_sem, Tryz.isAgg3, Tryz.sizeOf3]
theorem convB_below (w : World) (s : ByteArray) : Below w.heap.size w (Lib.bytesWorld w 5 s) := ⟨rfl, rfl, rfl, by rw [Lib.bytesWorld_size]; omega, fun k hk => Lib.bytesWorld_at_old w 5 s k hk⟩
theorem at_bad {b : List Int} (h0 : b ≠ []) (h : ¬ Good b) : atL b = badB b := (why_some (by rw [runes_bad h0 h])).2.1
/-- utf.Check of a string's bytes. -/
theorem check_str (t : ByteArray) (w : World) (hs : t.size ≤ 10000000) : ∃ g n c W, (convert 9 22 (.string t)).run Tryz.prog w = .ok (.slice (some ⟨g, 0, none⟩) n c) W ∧ Below w.heap.size w W ∧ Calls Tryz.prog 117 #[.slice (some ⟨g, 0, none⟩) n c] W fun e w' => e = .returned (.agg #[.int .i64 (whyL (bs t) : Nat), .int .i64 (atL (bs t) : Nat)]) ∧ Below W.heap.size W w' := by
  have hcv := Lib.run_convert_string_bytes (P := Tryz.prog) w 9 22 5 t Tryz.underlying9 Tryz.underlying22 Tryz.underlying5
  obtain ⟨gC, nC, cC, hvC, hlC, hcC, hcC', hBC⟩ := (own_conv w t (by omega)).form
  have hvC' : (Value.slice (some ⟨w.heap.size, 0, none⟩) t.size (grownCap w t.size 0 5)) = Value.slice (some ⟨gC, 0, none⟩) nC cC := hvC
  rw [hvC'] at hcv
  exact ⟨gC, nC, cC, Lib.bytesWorld w 5 t, hcv, convB_below w t, check_any (some ⟨gC, 0, none⟩) nC cC (bs t) (Lib.bytesWorld w 5 t) hlC.out hBC.out hcC (by have := hlC.out; rw [bs_len] at this; omega)⟩
set_option maxHeartbeats 2000000 in
set_option maxRecDepth 100000 in
/-- jlex.brokenFault. -/
theorem brkf_any (s : ByteArray) (p : Nat) (free : Bool) (w : World) (hp : p < s.size) (hs : s.size ≤ 10000000) (hb : ¬ Good ((bs s).drop p)) :
    Calls Tryz.prog 90 #[.string s, .int .i64 (p : Int), .bool free] w fun e w' => e = .returned (.agg #[.int .i64 ((brkR ((bs s).drop p) p free).1 : Nat), .int .i64 ((brkR ((bs s).drop p) p free).2 : Nat)]) ∧ Below w.heap.size w w' := by
  have hA := alloc_below w (.cells #[.int .i64 0, .int .i64 0] 29)
  have B0 : Hid (Below w.heap.size w (w.alloc (.cells #[.int .i64 0, .int .i64 0] 29))) := hA
  have K0 : Hid (Blk (w.alloc (.cells #[.int .i64 0, .int .i64 0] 29)) w.heap.size #[.int .i64 0, .int .i64 0] 29) := blk_new w _ _
  have h0 : (bs s).drop p ≠ [] := by intro h; have := congrArg List.length h; rw [List.length_drop, bs_len] at this; simp at this; omega
  obtain ⟨gC, nC, cC, W, hcv, BC, kC⟩ := check_str (s.extract p s.size) (w.alloc (.cells #[.int .i64 0, .int .i64 0] 29)) (by rw [ext_size (by omega)]; omega)
  rw [bs_from, at_bad h0 hb] at kC
  have hz0 : (0 : Int) ≤ (p : Int) := by omega
  have hz1 : (p : Int) ≤ ((s.size : Nat) : Int) := by omega
  have hle : p + badB ((bs s).drop p) ≤ s.size := by have := bad_le h0 hb; rw [List.length_drop, bs_len] at this; omega
  have W1 : IntKind.i64.wrap ((p : Int) + ((badB ((bs s).drop p) : Nat) : Int)) = ((p + badB ((bs s).drop p) : Nat) : Int) := by rw [IntKind.wrap_i64]; omega
  have KW : Hid (Blk W w.heap.size #[.int .i64 0, .int .i64 0] 29) := K0.out.kept BC K0.out.lt
  have BW : Hid (Below w.heap.size w W) := B0.out.trans (BC.mono B0.out.size)
  have hlen : ((bs s).drop p).length = s.size - p := by rw [List.length_drop, bs_len]
  have hR : brkR ((bs s).drop p) p free = if badB ((bs s).drop p) = 0 then (6, p) else if free = false then (5, p) else if badB ((bs s).drop p) = ((bs s).drop p).length then (3, p + badB ((bs s).drop p)) else (6, p + badB ((bs s).drop p)) := rfl
  rw [hR, hlen]
  generalize whyL ((bs s).drop p) = Y at *
  generalize badB ((bs s).drop p) = D at *
  have hfw : ∀ (x y : Value) (w : World), Sem.run Tryz.prog (Instr.field 29 (.agg #[x, y]) 1) w = .ok y w := field_at
  clear hR hlen h0 hb hA BC K0 B0
  by_cases h1 : D = 0
  · have a1 : (((p + D : Nat) : Int) == (p : Int)) = true := by simp; omega
    rw [if_pos h1]
    generalize p + D = PD at *
    clear h1
    go_enter Tryz.func90, Tryz.ntmps90
    go_wp2_with (go_at_call 117; refine kC.mono ?_; rintro e w2 ⟨rfl, hb2⟩; have K2 := KW.out.kept hb2 KW.out.lt; have c0 : w2.cell? ⟨w.heap.size, 0, none⟩ = some (.int .i64 0) := K2.cell 0; have c1 : w2.cell? ⟨w.heap.size, 1, none⟩ = some (.int .i64 0) := K2.cell 1; have f0 := K2.fz 0; have f1 := K2.fz 1; have B2 : Hid (Below w.heap.size w w2) := BW.out.trans (hb2.mono BW.out.size))
    refine bodyPost_ret (v := .agg #[.int .i64 6, .int .i64 (p : Int)]) (by simp [results, Tryz.results90, go_sem, *]) rfl ⟨rfl, ?_⟩
    refine Below.setCell (Below.setCell B2.out ?_ _) ?_ _ <;> simp
  · have a1 : (((p + D : Nat) : Int) == (p : Int)) = false := by simp; omega
    rw [if_neg h1]
    cases free with
    | false =>
      rw [if_pos rfl]
      generalize p + D = PD at *
      clear h1
      go_enter Tryz.func90, Tryz.ntmps90
      go_wp2_with (go_at_call 117; refine kC.mono ?_; rintro e w2 ⟨rfl, hb2⟩; have K2 := KW.out.kept hb2 KW.out.lt; have c0 : w2.cell? ⟨w.heap.size, 0, none⟩ = some (.int .i64 0) := K2.cell 0; have c1 : w2.cell? ⟨w.heap.size, 1, none⟩ = some (.int .i64 0) := K2.cell 1; have f0 := K2.fz 0; have f1 := K2.fz 1; have B2 : Hid (Below w.heap.size w w2) := BW.out.trans (hb2.mono BW.out.size))
      refine bodyPost_ret (v := .agg #[.int .i64 5, .int .i64 (p : Int)]) (by simp [results, Tryz.results90, go_sem, *]) rfl ⟨rfl, ?_⟩
      refine Below.setCell (Below.setCell B2.out ?_ _) ?_ _ <;> simp
    | true =>
      rw [if_neg (by simp)]
      by_cases h2 : D = s.size - p
      · have a2 : (((p + D : Nat) : Int) == ((s.size : Nat) : Int)) = true := by simp; omega
        rw [if_pos h2]
        generalize p + D = PD at *
        clear h1 h2
        go_enter Tryz.func90, Tryz.ntmps90
        go_wp2_with (go_at_call 117; refine kC.mono ?_; rintro e w2 ⟨rfl, hb2⟩; have K2 := KW.out.kept hb2 KW.out.lt; have c0 : w2.cell? ⟨w.heap.size, 0, none⟩ = some (.int .i64 0) := K2.cell 0; have c1 : w2.cell? ⟨w.heap.size, 1, none⟩ = some (.int .i64 0) := K2.cell 1; have f0 := K2.fz 0; have f1 := K2.fz 1; have B2 : Hid (Below w.heap.size w w2) := BW.out.trans (hb2.mono BW.out.size))
        refine bodyPost_ret (v := .agg #[.int .i64 3, .int .i64 (PD : Nat)]) (by simp [results, Tryz.results90, go_sem, *]) rfl ⟨rfl, ?_⟩
        refine Below.setCell (Below.setCell B2.out ?_ _) ?_ _ <;> simp
      · have a2 : (((p + D : Nat) : Int) == ((s.size : Nat) : Int)) = false := by simp; omega
        rw [if_neg h2]
        generalize p + D = PD at *
        clear h1 h2
        go_enter Tryz.func90, Tryz.ntmps90
        go_wp2_with (go_at_call 117; refine kC.mono ?_; rintro e w2 ⟨rfl, hb2⟩; have K2 := KW.out.kept hb2 KW.out.lt; have c0 : w2.cell? ⟨w.heap.size, 0, none⟩ = some (.int .i64 0) := K2.cell 0; have c1 : w2.cell? ⟨w.heap.size, 1, none⟩ = some (.int .i64 0) := K2.cell 1; have f0 := K2.fz 0; have f1 := K2.fz 1; have B2 : Hid (Below w.heap.size w w2) := BW.out.trans (hb2.mono BW.out.size))
        refine bodyPost_ret (v := .agg #[.int .i64 6, .int .i64 (PD : Nat)]) (by simp [results, Tryz.results90, go_sem, *]) rfl ⟨rfl, ?_⟩
        refine Below.setCell (Below.setCell B2.out ?_ _) ?_ _ <;> simp
end Go.Proofs.YtmlacmoembjeoaaGreatDoor
namespace Go.Proofs.YtmlacmoembjeoaaGreatDoor
open Go.RowKit
set_option linter.unusedVariables false

theorem dig_txt (s : RS) (d : Nat) : (digR s d).txt.length ≤ s.txt.length + 4 := by
  unfold digR
  repeat' split
  all_goals
    dsimp only
    try rw [List.length_append]
    first | omega | (have := (enc_len (65536 + (s.fst - 55296) * 1024 + (s.num * 16 + d) - 56320)).2; omega) | (have := (enc_len (s.num * 16 + d)).2; omega)
theorem put_txt (s : RS) (r : Nat) : (putR s r).txt.length ≤ s.txt.length + 4 := by
  unfold putR
  dsimp only
  rw [List.length_append]
  have := (enc_len r).2
  omega
theorem take_txt (s : RS) (r : Nat) : (takeR s r).txt.length ≤ s.txt.length + 4 := by
  unfold takeR
  repeat' split
  all_goals first | exact dig_txt _ _ | exact put_txt _ _ | (dsimp only; omega) | omega
theorem own_heap {w w' : World} {B : Nat} {v : Value} {zs : List Int} (h : OwnsB w B v zs) (hh : ∀ j, B ≤ j → w'.heap[j]? = w.heap[j]?) : OwnsB w' B v zs := by
  obtain ⟨⟨h1, h2⟩, h3⟩ := h
  refine ⟨⟨h1, ?_⟩, h3⟩
  rcases h2 with h2 | ⟨g, cap, cur, hv, hg, hc, r⟩
  · exact .inl h2
  · exact .inr ⟨g, cap, cur, hv, hg, by rw [hh g hg]; exact hc, r⟩
/-- What stringAt has in memory: its fault, the reader, the place in the text. -/
structure SM (w wr : World) (t : ByteArray) (pos : Nat) (S : RS) : Prop where
  rd : RdS wr (w.heap.size + 1) (w.heap.size + 3) S
  flt : Blk wr w.heap.size #[.int .i64 0, .int .i64 0] 29
  itr : wr.heap[w.heap.size + 2]? = some (.stringIter t pos)
  bel : Below w.heap.size w wr
theorem SM.next {w wr : World} {t : ByteArray} {pos : Nat} {S : RS} (h : SM w wr t pos S) (pos' : Nat) : SM w (wr.iterAt (w.heap.size + 2) t pos') t pos' S := by
  obtain ⟨⟨p, v, hb⟩, hf, hi, hw⟩ := h
  refine ⟨⟨p, v, ?_⟩, ?_, Lib.iterAt_heap wr _ t pos pos' hi, Lib.below_iterAt hw (by omega) t pos'⟩
  · refine ⟨?_, hb.ptr, hb.own, hb.buf, hb.lies, own_heap hb.row (fun j hj => Lib.iterAt_other wr _ j t pos' (by omega)), hb.low, by rw [Lib.iterAt_size]; exact hb.top⟩
    exact (Lib.iterAt_other wr _ _ t pos' (by omega)).trans hb.blk
  · exact (Lib.iterAt_other wr _ _ t pos' (by omega)).trans hf
theorem SM.take {w wr w' : World} {t : ByteArray} {pos : Nat} {S S' : RS} (h : SM w wr t pos S) (hr : RdS w' (w.heap.size + 1) (w.heap.size + 3) S') (hk : Kq (w.heap.size + 1) (w.heap.size + 3) wr w') : SM w w' t pos S' :=
  ⟨hr, h.flt.kq hk (by omega) (by omega), (hk.block _ (by omega) (by omega)).trans h.itr, h.bel.trans ((hk.below (by omega)).mono (by omega))⟩
theorem SM.pos {w wr : World} {t : ByteArray} {pos : Nat} {S : RS} (h : SM w wr t pos S) : wr.iterPos (w.heap.size + 2) = pos := by
  unfold World.iterPos
  rw [h.itr]
theorem sm0 (w : World) (t : ByteArray) : SM w (((w.alloc (.cells #[.int .i64 0, .int .i64 0] 29)).alloc (.cells #[.int .i64 0, .pointer none, .slice none 0 0, .int .i32 0, .int .i64 0, .int .i32 0] 113)).iter t 0) t 0 r0 := by
  have a1 := alloc_below w (.cells #[.int .i64 0, .int .i64 0] 29)
  have h1 := blk_new w #[.int .i64 0, .int .i64 0] 29
  generalize hw1 : w.alloc (.cells #[.int .i64 0, .int .i64 0] 29) = w1 at *
  have s1 : w1.heap.size = w.heap.size + 1 := by rw [← hw1]; simp
  have a2 := alloc_below w1 (.cells #[.int .i64 0, .pointer none, .slice none 0 0, .int .i32 0, .int .i64 0, .int .i32 0] 113)
  have h2 := blk_new w1 #[.int .i64 0, .pointer none, .slice none 0 0, .int .i32 0, .int .i64 0, .int .i32 0] 113
  generalize hw2 : w1.alloc (.cells #[.int .i64 0, .pointer none, .slice none 0 0, .int .i32 0, .int .i64 0, .int .i32 0] 113) = w2 at *
  have s2 : w2.heap.size = w.heap.size + 2 := by rw [← hw2]; simp; omega
  have a3 := iter_below w2 t 0
  have s3 : (w2.iter t 0).heap.size = w.heap.size + 3 := by unfold World.iter; simp; omega
  refine ⟨⟨none, .slice none 0 0, ?_, rfl, .inl rfl, rfl, ?_, ownsB_nil _ _, by omega, by omega⟩, (h1.kept a2 (by omega)).kept a3 (by omega), ?_, a1.trans ((a2.mono (by omega)).trans (a3.mono (by omega)))⟩
  · rw [← s1]; exact h2.kept a3 (by omega)
  · have hsz : (rdc ((r0.q : Nat) : Int) none (.slice none 0 0) ((r0.num : Nat) : Int) ((r0.dig : Nat) : Int) ((r0.fst : Nat) : Int)).size = 6 := rfl
    rw [hsz]; exact lies_rd
  · rw [← s2]; exact heap_alloc_new w2 _
theorem decode_rune (t : ByteArray) (pos : Nat) : Utf8.decode t pos = (runeB ((bs t).drop pos), if goodB ((bs t).drop pos) = true then lenB ((bs t).drop pos) else 1) := by
  have hz := bs_bytes t
  conv => lhs; rw [← str_bs t]
  unfold runeB
  by_cases hg : Good ((bs t).drop pos)
  · rw [goodB_yes hg, if_pos rfl, if_pos rfl, decode_good hz hg]
  · rw [goodB_no hg, if_neg (by simp), if_neg (by simp), decode_bad hz hg]
end Go.Proofs.YtmlacmoembjeoaaGreatDoor
