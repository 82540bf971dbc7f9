/-
  A list of calls played on a cursor and on the document's: they answer alike, and stand alike.
-/
import Derived.Test.YtkmbphgcnppohaaStays
import Derived.Test.YtkmbphgcnppohaaRefShort
namespace Go.Proofs.Ytkmbphgcnppohaa
open Go.RowKit

theorem rshort_u (r p y f n cap m p' y' f' : Nat) (a : Option Addr) (zs : List Int) (w : World) (h : RCur w r a n cap zs p y f) (hs : sS zs p y f = (m, p', y', f')) :
    Calls Try.prog 19 #[.pointer (some ⟨r, 0, none⟩)] w fun e w' => e = .returned (.int .u64 m) ∧ RCur w' r a n cap zs p' y' f' ∧ w.grownBy w' (some r) := by
  by_cases hy : y = 0
  · subst hy
    have h1 := rshort_go r p f n cap a zs w h
    rw [hs] at h1
    exact h1
  · rw [sS, if_pos hy] at hs
    cases hs
    refine (rshort_stop r p y f n cap a zs w h hy).mono ?_
    rintro e w' ⟨rfl, rfl⟩
    exact ⟨rfl, h, World.grownBy.refl _ _⟩

theorem left_q (g p y f n q : Nat) (a : Option Addr) (w : World) (h : CurAt w g (.slice a n n) p y f) (hp : p ≤ n) (hn : n ≤ 9223372036854775807) (hq : n - p = q) :
    Calls Try.prog 23 #[.pointer (some ⟨g, 0, none⟩)] w fun e w' => e = .returned (.int .i64 (q : Int)) ∧ Below w.heap.size w w' := by
  subst hq
  exact left_b g p y f n n a w h hp hn

/-- BOTH CURSORS OVER THE SAME BYTES, each with its own place and fault; of older memory nothing has turned. -/
def Both (w0 w : World) (g r : Nat) (a2 a0 : Option Addr) (n cap : Nat) (zs : List Int) (p y f p' y' f' : Nat) : Prop :=
  Cur w w0.heap.size g a2 n zs p y f ∧ RCur w r a0 n cap zs p' y' f' ∧ Below w0.heap.size w0 w ∧ w0.heap.size ≤ r ∧ g ≠ r ∧ (∀ x, a2 = some x → x.block ≠ r) ∧ (∀ x, a0 = some x → zs ≠ [] → x.block ≠ g)

theorem Both.kept {w0 w w' : World} {g r : Nat} {a2 a0 : Option Addr} {n cap : Nat} {zs : List Int} {p y f p' y' f' : Nat} (h : Both w0 w g r a2 a0 n cap zs p y f p' y' f') (hb : Below w.heap.size w w') : Both w0 w' g r a2 a0 n cap zs p y f p' y' f' := by
  obtain ⟨h1, h2, h3, h4⟩ := h
  exact ⟨h1.kept hb, h2.kept hb, h3.trans (hb.mono h3.size), h4⟩

theorem Both.one {w0 w w' : World} {g r : Nat} {a2 a0 : Option Addr} {n cap : Nat} {zs : List Int} {p y f p' y' f' q z e : Nat} (h : Both w0 w g r a2 a0 n cap zs p y f p' y' f') (hg : w.grownBy w' (some g)) (hc : Cur w' w0.heap.size g a2 n zs q z e) : Both w0 w' g r a2 a0 n cap zs q z e p' y' f' := by
  obtain ⟨h1, h2, h3, h4, h5, h6, h7⟩ := h
  exact ⟨hc, h2.other hg (fun e => h5 e.symm) h7, below_but h3 hg h3.size h1.2.2.2.2.2.1, h4, h5, h6, h7⟩

theorem Both.two {w0 w w' : World} {g r : Nat} {a2 a0 : Option Addr} {n cap : Nat} {zs : List Int} {p y f p' y' f' q z e : Nat} (h : Both w0 w g r a2 a0 n cap zs p y f p' y' f') (hg : w.grownBy w' (some r)) (hc : RCur w' r a0 n cap zs q z e) : Both w0 w' g r a2 a0 n cap zs p y f q z e := by
  obtain ⟨h1, h2, h3, h4, h5, h6, h7⟩ := h
  exact ⟨h1.other hg (fun e => h5 e.symm) h6, hc, below_but h3 hg h3.size h4, h4, h5, h6, h7⟩

theorem but_of {w w1 w2 : World} {row : Option Nat} (h : w1.grownBy w2 row) (ho : w1.os = w.os) (ht : w1.tape = w.tape) (hp : w1.output = w.output) (hh : w1.heap = w.heap) : w.grownBy w2 row :=
  ⟨h.os.trans ho, h.tape.trans ht, h.output.trans hp, by rw [← hh]; exact h.size, fun k hk hn => by rw [← hh]; exact h.block k (by rw [hh]; exact hk) hn⟩

theorem row_spot {w : World} {a : Option Addr} {len cap : Nat} {zs : List Int} (h : IsRow .u8 w a len cap zs) : ∀ x, a = some x → 0 < cap → x.spot = none := by
  intro x hx h0
  rcases h with ⟨rfl, _⟩ | ⟨y, hy, _, _, hz, hc, _⟩
  · cases hx
  · rw [hx] at hy
    cases hy
    have := hc 0 (by omega)
    simpa [Addr.add] using World.cell?_spot this

set_option maxHeartbeats 8000000 in
theorem reads_walk (a0 : Option Addr) (len0 cap0 : Nat) (z0 : List Int) (a1 : Option Addr) (len1 cap1 : Nat) (w : World) (w0 : IsRow .u8 w a0 len0 cap0 z0) (r0 : cap0 ≤ 140737488351232) (w1 : Script w a1 len1 cap1) :
    Calls Try.prog 4 #[.slice a0 len0 cap0, .slice a1 len1 cap1] w fun e w' => e = .returned (.bool true) ∧ Below w.heap.size w w' := by
  have hnil : Hid (a0 = none → cap0 = 0) := nil_cap w0
  have hspot : Hid (∀ x, a0 = some x → 0 < cap0 → x.spot = none) := row_spot w0
  obtain ⟨hl, hb⟩ := bytes_of_row w0
  have hlc := (row_le w0).1
  generalize z0.take len0 = zs at *
  have hB : Hid (Bytes w a0 zs) := hb
  have hL : Hid (zs.length = len0) := hl
  have hsc : Hid (Script w a1 len1 cap1) := w1
  have hl1 : len1 ≤ 9223372036854775807 := by have := w1.1; have := w1.2.1; unfold maxLen at this; omega
  clear hb w0 hl w1
  go_enter Try.func4, Try.ntmps4
  go_wp2_with fail
  refine (new_any a0 len0 cap0 zs w hL.out hB.out hnil.out (by omega)).mono ?_
  rintro e w2 ⟨g, a2, rfl, hc2, hb2⟩
  go_wp2_with fail
  obtain ⟨w3, hw3⟩ : ∃ w3, Hid (w2.alloc (.cells #[.slice a0 len0 cap0, .int .i64 0, .int .i64 0, .int .i64 0] 39) = w3) := ⟨_, rfl⟩
  have hb3 : Below w2.heap.size w2 w3 := by rw [← hw3.out]; exact (Below.refl _ _).alloc (Nat.le_refl _) _
  have hr3 : RAt w3 w2.heap.size (.slice a0 len0 cap0) 0 0 0 := by rw [← hw3.out]; exact heap_alloc_new _ _
  have hold : ∀ x, a0 = some x → zs ≠ [] → x.block < w.heap.size := fun x hx h0 => by subst hx; exact hB.out.lt h0
  have hbo : Hid (Both w w3 g w2.heap.size a2 a0 len0 cap0 zs 0 0 0 0 0 0) := by
    have hgr : g < w2.heap.size := hc2.1.lt
    have hg0 : w.heap.size ≤ g := hc2.2.2.2.2.2.1
    have hs2 := hb2.size
    refine ⟨hc2.kept hb3, ⟨hr3, (hB.out.kept hb2).kept hb3, hL.out, Nat.zero_le _, by omega, hlc, by omega, hnil.out, fun x hx h0 => ?_, hspot.out⟩, trans_kept hb2 hb3, hs2, by omega, fun x hx => ?_, fun x hx h0 => ?_⟩
    · have := hold x hx h0; omega
    · have := (hc2.2.2.2.2.2.2.2 x hx).2.1; omega
    · have := hold x hx h0; omega
  rw [hw3.out]
  clear hw3 hr3 hb3 hc2 hb2 hold hB hnil hspot
  generalize w2.heap.size = r at *
  refine (alive_any _).mono ?_
  rintro e w4 ⟨rfl, hb4⟩
  have hb4' : Hid (Both w w4 g r a2 a0 len0 cap0 zs 0 0 0 0 0 0) := hbo.out.kept hb4
  clear hbo hb4
  go_wp2_with fail
  go_loopw [21] (fun i wr => ∃ j : Nat, j ≤ len1 ∧ i = .int .i64 j ∧ (∃ p y f, Hid (Both w wr g r a2 a0 len0 cap0 zs p y f p y f))) (fun i _ => len1 - (intOf i).toNat)
  case atStart => exact ⟨0, by omega, rfl, ⟨0, 0, 0, hb4'⟩⟩
  case round =>
    obtain ⟨j, hj, rfl, ⟨p, y, f, hbr⟩⟩ := hrel
    clear hb4'
    by_cases hlt : j < len1
    · obtain ⟨-, -, h0 | ⟨b, off, rfl, hcell⟩⟩ := hsc.out.kept hbr.out.2.2.1
      · omega
      · obtain ⟨k, n, c0, c1, hk, hn⟩ := hcell j hlt
        clear hcell
        obtain ⟨w5, hw5⟩ : ∃ w5, Hid (wr.alloc (.cells #[.int .i64 k, .int .i64 n] 41) = w5) := ⟨_, rfl⟩
        have hb5 : Below wr.heap.size wr w5 := by rw [← hw5.out]; exact (Below.refl _ _).alloc (Nat.le_refl _) _
        have hq5 : Hid (PairAt w5 wr.heap.size 41 k n) := by rw [← hw5.out]; exact PairAt.new wr 41 k n
        have hbo : Hid (Both w w5 g r a2 a0 len0 cap0 zs p y f p y f) := hbr.out.kept hb5
        have hqg : Hid (wr.heap.size ≠ g) := by have := hbr.out.1.1.lt; show _ ≠ _; omega
        have hqr : Hid (wr.heap.size ≠ r) := by have := hbr.out.2.1.1.lt; show _ ≠ _; omega
        have e0 := hq5.out.c0
        have e1 := hq5.out.c1
        rw [← hw5.out] at e0 e1
        clear hb5 hbr
        rcases kinds k with hr | hr | hr
        · go_wp2_with fail
          simp only [hw5.out]
          clear hw5 e0 e1 hr c0 c1
          generalize wr.heap.size = q at *
          obtain ⟨m, p', y', f', hs⟩ : ∃ m p' y' f', Hid (sW zs p y f n = (m, p', y', f')) := ⟨_, _, _, _, rfl⟩
          have c1 := hq5.out.c1
          go_region_held3 (fun w' => w'.cell? ⟨q, 1, none⟩ = some (.int .i64 n)) (first | exact hq5.out.c1 | exact hq6.out.c1 | exact hq7.out.c1) (first
            | (go_at_call 16; refine (wide_u w.heap.size g p y f len0 m p' y' f' a2 zs n _ (by exact hbo.out.1) hs.out).mono ?_; rintro e w6 ⟨rfl, hc6, hg6'⟩; have hg6 : w5.grownBy w6 (some g) := ⟨hg6'.os, hg6'.tape, hg6'.output, hg6'.size, hg6'.block⟩; have hbo6 : Hid (Both w w6 g r a2 a0 len0 cap0 zs p' y' f' p y f) := hbo.out.one hg6 hc6; have hq6 : Hid (PairAt w6 q 41 k n) := hq5.out.but hg6 hqg.out; clear hg6' hc6)
            | (go_at_call 17; refine (rwide_u r p y f len0 cap0 m p' y' f' a0 zs n _ (by exact hbo6.out.2.1) hs.out).mono ?_; rintro e w7 ⟨rfl, hc7, hg7'⟩; have hg7 : w6.grownBy w7 (some r) := ⟨hg7'.os, hg7'.tape, hg7'.output, hg7'.size, hg7'.block⟩; have hbo7 : Hid (Both w w7 g r a2 a0 len0 cap0 zs p' y' f' p' y' f') := hbo6.out.two hg7 hc7; have hq7 : Hid (PairAt w7 q 41 k n) := hq6.out.but hg7 hqr.out; clear hg7' hc7))
          all_goals
            clear hs hq5 hq6 hbo hbo6 hg6 hg7 c1
            go_wp2_with fail
            have hp7 : p' ≤ len0 := hbo7.out.1.2.2.2.1
            have hn7 : len0 ≤ 140737488355328 := hbo7.out.1.2.2.2.2.1
            obtain ⟨D, hD⟩ : ∃ D : Nat, Hid (len0 - p' = D) := ⟨_, rfl⟩
            have hsub : (len0 : Int) - (p' : Int) = (D : Int) := by have := hD.out; omega
            have hwrp : IntKind.i64.wrap (D : Int) = (D : Int) := by have := hD.out; rw [IntKind.wrap_i64]; omega
            go_wp2_with fail
            go_region_held3 (fun w' => w'.cell? ⟨r, 1, none⟩ = some (.int .i64 p') ∧ w'.cell? ⟨r, 2, none⟩ = some (.int .i64 y') ∧ w'.cell? ⟨r, 3, none⟩ = some (.int .i64 f')) (first | exact ⟨hbo7.out.2.1.1.c1, hbo7.out.2.1.1.c2, hbo7.out.2.1.1.c3⟩ | exact ⟨hbo8.out.2.1.1.c1, hbo8.out.2.1.1.c2, hbo8.out.2.1.1.c3⟩ | exact ⟨hbo9.out.2.1.1.c1, hbo9.out.2.1.1.c2, hbo9.out.2.1.1.c3⟩ | exact ⟨hbo10.out.2.1.1.c1, hbo10.out.2.1.1.c2, hbo10.out.2.1.1.c3⟩) (first
              | (go_at_call 22; refine (at_any g p' y' f' _ _ (by exact hbo7.out.1.1)).mono ?_; rintro e w8 ⟨rfl, hw8⟩; have hbo8 : Hid (Both w w8 g r a2 a0 len0 cap0 zs p' y' f' p' y' f') := hbo7.out.kept (by rw [hw8]; exact ⟨rfl, rfl, rfl, Nat.le_refl _, fun _ _ => rfl⟩); clear hw8)
              | (go_at_call 23; refine (left_q g p' y' f' len0 D a2 _ (by exact hbo8.out.1.1) hp7 (by omega) hD.out).mono ?_; rintro e w9 ⟨rfl, hb9'⟩; have hbo9 : Hid (Both w w9 g r a2 a0 len0 cap0 zs p' y' f' p' y' f') := hbo8.out.kept ⟨hb9'.os, hb9'.tape, hb9'.output, hb9'.size, hb9'.block⟩; clear hb9')
              | (go_at_call 24; refine (fault_any g p' y' f' _ _ (by exact hbo9.out.1.1)).mono ?_; rintro e w10 ⟨rfl, hb10'⟩; have hbo10 : Hid (Both w w10 g r a2 a0 len0 cap0 zs p' y' f' p' y' f') := hbo9.out.kept ⟨hb10'.os, hb10'.tape, hb10'.output, hb10'.size, hb10'.block⟩; clear hb10'))
            all_goals
              clear hbo7 hbo8 hbo9 hq7 hsub hwrp
              go_wp2
              go_roundw
              case rel => exact ⟨j + 1, by omega, by go_num, ⟨p', y', f', hbo10⟩⟩
              case measure => simp [intOf]; omega
        · go_wp2_with fail
          rw [hw5.out]
          clear hw5 e0 e1 hr c0 c1
          generalize wr.heap.size = q at *
          obtain ⟨m, p', y', f', hs⟩ : ∃ m p' y' f', Hid (sS zs p y f = (m, p', y', f')) := ⟨_, _, _, _, rfl⟩
          refine (short_u w.heap.size g p y f len0 m p' y' f' a2 zs w5 hbo.out.1 hs.out).mono ?_
          rintro e w6 ⟨rfl, hc6, hg6⟩
          have hbo6 : Hid (Both w w6 g r a2 a0 len0 cap0 zs p' y' f' p y f) := hbo.out.one hg6 hc6
          have hq6 : Hid (PairAt w6 q 41 k n) := hq5.out.but hg6 hqg.out
          clear hc6 hg6 hbo
          go_wp2_with fail
          refine (rshort_u r p y f len0 cap0 m p' y' f' a0 zs w6 hbo6.out.2.1 hs.out).mono ?_
          rintro e w7 ⟨rfl, hc7, hg7⟩
          have hbo7 : Hid (Both w w7 g r a2 a0 len0 cap0 zs p' y' f' p' y' f') := hbo6.out.two hg7 hc7
          have hq7 : Hid (PairAt w7 q 41 k n) := hq6.out.but hg7 hqr.out
          clear hc7 hg7 hbo6 hs hq5 hq6
          go_wp2_with fail
          have hp7 : p' ≤ len0 := hbo7.out.1.2.2.2.1
          have hn7 : len0 ≤ 140737488355328 := hbo7.out.1.2.2.2.2.1
          obtain ⟨D, hD⟩ : ∃ D : Nat, Hid (len0 - p' = D) := ⟨_, rfl⟩
          have hsub : (len0 : Int) - (p' : Int) = (D : Int) := by have := hD.out; omega
          have hwrp : IntKind.i64.wrap (D : Int) = (D : Int) := by have := hD.out; rw [IntKind.wrap_i64]; omega
          go_wp2_with fail
          go_region_held3 (fun w' => w'.cell? ⟨r, 1, none⟩ = some (.int .i64 p') ∧ w'.cell? ⟨r, 2, none⟩ = some (.int .i64 y') ∧ w'.cell? ⟨r, 3, none⟩ = some (.int .i64 f')) (first | exact ⟨hbo7.out.2.1.1.c1, hbo7.out.2.1.1.c2, hbo7.out.2.1.1.c3⟩ | exact ⟨hbo8.out.2.1.1.c1, hbo8.out.2.1.1.c2, hbo8.out.2.1.1.c3⟩ | exact ⟨hbo9.out.2.1.1.c1, hbo9.out.2.1.1.c2, hbo9.out.2.1.1.c3⟩ | exact ⟨hbo10.out.2.1.1.c1, hbo10.out.2.1.1.c2, hbo10.out.2.1.1.c3⟩) (first
            | (go_at_call 22; refine (at_any g p' y' f' _ _ (by exact hbo7.out.1.1)).mono ?_; rintro e w8 ⟨rfl, hw8⟩; have hbo8 : Hid (Both w w8 g r a2 a0 len0 cap0 zs p' y' f' p' y' f') := hbo7.out.kept (by rw [hw8]; exact ⟨rfl, rfl, rfl, Nat.le_refl _, fun _ _ => rfl⟩); clear hw8)
            | (go_at_call 23; refine (left_q g p' y' f' len0 D a2 _ (by exact hbo8.out.1.1) hp7 (by omega) hD.out).mono ?_; rintro e w9 ⟨rfl, hb9'⟩; have hbo9 : Hid (Both w w9 g r a2 a0 len0 cap0 zs p' y' f' p' y' f') := hbo8.out.kept ⟨hb9'.os, hb9'.tape, hb9'.output, hb9'.size, hb9'.block⟩; clear hb9')
            | (go_at_call 24; refine (fault_any g p' y' f' _ _ (by exact hbo9.out.1.1)).mono ?_; rintro e w10 ⟨rfl, hb10'⟩; have hbo10 : Hid (Both w w10 g r a2 a0 len0 cap0 zs p' y' f' p' y' f') := hbo9.out.kept ⟨hb10'.os, hb10'.tape, hb10'.output, hb10'.size, hb10'.block⟩; clear hb10'))
          all_goals
            clear hbo7 hbo8 hbo9 hq7 hsub hwrp
            go_wp2
            go_roundw
            case rel => exact ⟨j + 1, by omega, by go_num, ⟨p', y', f', hbo10⟩⟩
            case measure => simp [intOf]; omega
        · go_wp2_with fail
          simp only [hw5.out]
          clear hw5 e0 e1 hr c0 c1
          generalize wr.heap.size = q at *
          obtain ⟨xs, p', y', f', hs⟩ : ∃ xs p' y' f', Hid (sT zs p y f n = (xs, p', y', f')) := ⟨_, _, _, _, rfl⟩
          have hr5 : Hid (r < w5.heap.size) := hbo.out.2.1.1.lt
          go_region_held3 (fun w' => w'.cell? ⟨q, 1, none⟩ = some (.int .i64 n)) (first | exact hq5.out.c1 | exact hq6.out.c1 | exact hq7.out.c1 | exact hq8.out.c1) (first
            | (go_at_call 20; refine (take_u w.heap.size g p y f len0 p' y' f' a2 zs xs n _ (by exact hbo.out.1) hs.out).mono ?_; rintro e w6 ⟨a6, m6, rfl, hR6', hB6, hl6, hc6, hg6'⟩; have hg6 : w5.grownBy w6 (some g) := ⟨hg6'.os, hg6'.tape, hg6'.output, hg6'.size, hg6'.block⟩; have hbo6 : Hid (Both w w6 g r a2 a0 len0 cap0 zs p' y' f' p y f) := hbo.out.one hg6 hc6; have hq6 : Hid (PairAt w6 q 41 k n) := hq5.out.but hg6 hqg.out; have hne6 : Hid (∀ x, a6 = some x → x.block ≠ r) := (fun x hx h0 => Nat.lt_irrefl _ (Nat.lt_of_lt_of_le hr5.out (by rw [← h0]; exact (hR6'.out.places x hx).1))); clear hg6' hc6 hR6')
            | (go_at_call 21; refine (rtake_u r p y f len0 cap0 p' y' f' a0 zs xs n _ (by exact hbo6.out.2.1) hs.out).mono ?_; rintro e w7 ⟨a7, m7, c7, rfl, hB7, hl7, hc7, hg7'⟩; have hg7 : w6.grownBy w7 (some r) := ⟨hg7'.os, hg7'.tape, hg7'.output, hg7'.size, hg7'.block⟩; have hbo7 : Hid (Both w w7 g r a2 a0 len0 cap0 zs p' y' f' p' y' f') := hbo6.out.two hg7 hc7; have hq7 : Hid (PairAt w7 q 41 k n) := hq6.out.but hg7 hqr.out; have hB6' : Hid (Bytes w7 a6 xs) := hB6.out.but hg7 hne6.out; clear hg7' hc7)
            | (go_at_call 11; refine (same_yes _ _ _ _ _ _ xs _ hl6.out hl7.out (by exact hB6'.out) (by exact hB7.out)).mono ?_; rintro e w8 ⟨rfl, hw8⟩; have hbo8' : Hid (Both w w8 g r a2 a0 len0 cap0 zs p' y' f' p' y' f') := hbo7.out.kept (by rw [hw8]; exact ⟨rfl, rfl, rfl, Nat.le_refl _, fun _ _ => rfl⟩); have hq8 : Hid (PairAt w8 q 41 k n) := (by rw [hw8]; exact hq7.out); clear hw8))
          all_goals
            clear hs hq5 hq6 hq7 hbo hbo6 hbo7 hg6 hg7 hB6 hB7 hB6' hl6 hl7 hne6 hr5
            have hbo7 := hbo8'
            have hq7 := hq8
            clear hbo8' hq8
            go_wp2_with fail
            have hp7 : p' ≤ len0 := hbo7.out.1.2.2.2.1
            have hn7 : len0 ≤ 140737488355328 := hbo7.out.1.2.2.2.2.1
            obtain ⟨D, hD⟩ : ∃ D : Nat, Hid (len0 - p' = D) := ⟨_, rfl⟩
            have hsub : (len0 : Int) - (p' : Int) = (D : Int) := by have := hD.out; omega
            have hwrp : IntKind.i64.wrap (D : Int) = (D : Int) := by have := hD.out; rw [IntKind.wrap_i64]; omega
            go_wp2_with fail
            go_region_held3 (fun w' => w'.cell? ⟨r, 1, none⟩ = some (.int .i64 p') ∧ w'.cell? ⟨r, 2, none⟩ = some (.int .i64 y') ∧ w'.cell? ⟨r, 3, none⟩ = some (.int .i64 f')) (first | exact ⟨hbo7.out.2.1.1.c1, hbo7.out.2.1.1.c2, hbo7.out.2.1.1.c3⟩ | exact ⟨hbo8.out.2.1.1.c1, hbo8.out.2.1.1.c2, hbo8.out.2.1.1.c3⟩ | exact ⟨hbo9.out.2.1.1.c1, hbo9.out.2.1.1.c2, hbo9.out.2.1.1.c3⟩ | exact ⟨hbo10.out.2.1.1.c1, hbo10.out.2.1.1.c2, hbo10.out.2.1.1.c3⟩) (first
              | (go_at_call 22; refine (at_any g p' y' f' _ _ (by exact hbo7.out.1.1)).mono ?_; rintro e w8 ⟨rfl, hw8⟩; have hbo8 : Hid (Both w w8 g r a2 a0 len0 cap0 zs p' y' f' p' y' f') := hbo7.out.kept (by rw [hw8]; exact ⟨rfl, rfl, rfl, Nat.le_refl _, fun _ _ => rfl⟩); clear hw8)
              | (go_at_call 23; refine (left_q g p' y' f' len0 D a2 _ (by exact hbo8.out.1.1) hp7 (by omega) hD.out).mono ?_; rintro e w9 ⟨rfl, hb9'⟩; have hbo9 : Hid (Both w w9 g r a2 a0 len0 cap0 zs p' y' f' p' y' f') := hbo8.out.kept ⟨hb9'.os, hb9'.tape, hb9'.output, hb9'.size, hb9'.block⟩; clear hb9')
              | (go_at_call 24; refine (fault_any g p' y' f' _ _ (by exact hbo9.out.1.1)).mono ?_; rintro e w10 ⟨rfl, hb10'⟩; have hbo10 : Hid (Both w w10 g r a2 a0 len0 cap0 zs p' y' f' p' y' f') := hbo9.out.kept ⟨hb10'.os, hb10'.tape, hb10'.output, hb10'.size, hb10'.block⟩; clear hb10'))
            all_goals
              clear hbo7 hbo8 hbo9 hq7 hsub hwrp
              go_wp2
              go_roundw
              case rel => exact ⟨j + 1, by omega, by go_num, ⟨p', y', f', hbo10⟩⟩
              case measure => simp [intOf]; omega
    · go_wp2
      go_ret
      exact ⟨rfl, hbr.out.2.2.1⟩
end Go.Proofs.Ytkmbphgcnppohaa
