/-
  Cursors that nobody made; and two cursors, of which the bytes handed in, or answered, are written over.
-/
import Derived.Test.YtkmbphgcnppohabNob
import Derived.ArgAppend
namespace Go.Proofs.Ytkmbphgcnppohab
open Go.RowKit

theorem Row.cell {w : World} {base : Nat} {a : Option Addr} {zs : List Int} (h : Row w base a zs) (j : Nat) (hj : j < zs.length) : ∃ g, a = some ⟨g, 0, none⟩ ∧ base ≤ g ∧ w.cell? ⟨g, j, none⟩ = some (.int .u8 (zs.getD j 0)) ∧ w.frozen? ⟨g, j, none⟩ = false := by
  rcases h with ⟨_, rfl⟩ | ⟨g, cur, rfl, hb, hg, htk⟩
  · simp at hj
  · refine ⟨g, rfl, hb, ?_, by simp [World.frozen?, hg]⟩
    rw [cell_row hg, ← Array.getElem?_toList]
    have h1 : (cur.toList.take zs.length)[j]? = (zs.map (Value.int .u8))[j]? := by rw [htk]
    rw [List.getElem?_take, if_pos hj, List.getElem?_map] at h1
    rw [h1, List.getD_eq_getElem?_getD, List.getElem?_eq_getElem hj]; rfl

theorem Row.store {w : World} {base g : Nat} {zs : List Int} (h : Row w base (some ⟨g, 0, none⟩) zs) (j : Nat) (c : Int) : Row (w.setCell ⟨g, j, none⟩ (.int .u8 c)) base (some ⟨g, 0, none⟩) (zs.set j c) := by
  rcases h with ⟨h0, _⟩ | ⟨g', cur, h1, hb, hg, htk⟩
  · cases h0
  · cases h1
    refine .inr ⟨g, _, rfl, hb, heap_setCell_same w g j cur 5 _ hg, ?_⟩
    rw [List.length_set, Array.toList_setIfInBounds, List.take_set, htk, List.map_set]

theorem Row.bytes {w : World} {base : Nat} {a : Option Addr} {zs : List Int} (h : Row w base a zs) (hz : ∀ c ∈ zs, 0 ≤ c ∧ c < 256) (hm : zs.length ≤ maxLen) : Bytes w a zs := by
  by_cases h0 : zs = []
  · subst h0
    exact no_bytes _ _
  · obtain ⟨g, rfl, _, _, _⟩ := h.cell 0 (List.length_pos_iff.2 h0)
    refine ⟨hz, hm, .inr ⟨g, 0, rfl, fun i hi => ?_⟩⟩
    obtain ⟨g', h1, _, h2, _⟩ := h.cell i hi
    cases h1
    rw [Nat.zero_add]
    exact h2

theorem Cur.low {w w' : World} {base g T : Nat} {a : Option Addr} {n : Nat} {zs : List Int} {p y f : Nat} (h : Cur w base g a n zs p y f) (hb : Below T w w') (hg : g < T) (ha : ∀ x, a = some x → x.block < T) : Cur w' base g a n zs p y f := by
  obtain ⟨h1, h2, h3, h4, h5, h6, h7, h8⟩ := h
  refine ⟨?_, h2.below hb (fun x hx _ => ha x hx), h3, h4, h5, h6, h7, fun x hx => ⟨(h8 x hx).1, Nat.lt_of_lt_of_le (h8 x hx).2.1 hb.size, (h8 x hx).2.2⟩⟩
  unfold CurAt
  rw [hb.block g hg]
  exact h1

theorem Cur.far {w w' : World} {base g : Nat} {row : Option Nat} {a : Option Addr} {n : Nat} {zs : List Int} {p y f : Nat} (h : Cur w base g a n zs p y f) (hr : w.grownBy w' row) (hg : ∀ k, row = some k → k < base) : Cur w' base g a n zs p y f := by
  obtain ⟨h1, h2, h3, h4, h5, h6, h7, h8⟩ := h
  have hl1 := h1.lt
  refine ⟨?_, ?_, h3, h4, h5, h6, h7, fun x hx => ⟨(h8 x hx).1, Nat.lt_of_lt_of_le (h8 x hx).2.1 hr.size, (h8 x hx).2.2⟩⟩
  · unfold CurAt
    rw [hr.block g hl1 (fun e => by have := hg g e.symm; omega)]
    exact h1
  · refine ⟨h2.1, h2.2.1, ?_⟩
    rcases h2.2.2 with h0 | ⟨b, off, rfl, hc⟩
    · exact .inl h0
    · refine .inr ⟨b, off, rfl, fun i hi => ?_⟩
      exact hr.cell (hc i hi) (fun e => by have := hg b e.symm; have := (h8 _ rfl).2.2.2; simp at this; omega)

theorem OwnsB.low {w w' : World} {base T : Nat} {v : Value} {zs : List Int} (h : OwnsB w base v zs) (hb : Below T w w') (hv : ∀ k, v.ownBlock = some k → k < T) : OwnsB w' base v zs := by
  obtain ⟨⟨hl, h1⟩, hz⟩ := h
  refine ⟨⟨hl, ?_⟩, hz⟩
  rcases h1 with h1 | ⟨g, cap, cur, rfl, h2, h3, h4⟩
  · exact .inl h1
  · exact .inr ⟨g, cap, cur, rfl, h2, by rw [hb.block g (hv g rfl)]; exact h3, h4⟩

theorem Row.nil {w : World} {base : Nat} {zs : List Int} (h : Row w base none zs) : zs = [] := by
  rcases h with ⟨_, h0⟩ | ⟨_, _, h0, _⟩
  · exact h0
  · cases h0

theorem flip_byte (c : Int) : 0 ≤ bits .xor .u8 c 255 ∧ bits .xor .u8 c 255 < 256 := by
  have h := bits_within .xor .u8 c 255
  rw [show IntKind.u8.min = 0 from by decide, show IntKind.u8.max = 255 from by decide] at h
  omega

theorem left_q (g p y f n q : Nat) (a : Option Addr) (w : World) (h : CurAt w g (.slice a n n) p y f) (hp : p ≤ n) (hn : n ≤ 9223372036854775807) (hq : n - p = q) :
    Calls Try.prog 8 #[.pointer (some ⟨g, 0, none⟩)] w fun e w' => e = .returned (.int .i64 (q : Int)) ∧ Below w.heap.size w w' := by
  subst hq
  exact left_b g p y f n n a w h hp hn

set_option maxHeartbeats 8000000 in
theorem over_walk (a0 : Option Addr) (len0 cap0 : Nat) (z0 : List Int) (a1 : Int) (w : World) (w0 : IsRow .u8 w a0 len0 cap0 z0) (r0 : cap0 ≤ 140737488351232) (_w1 : (Lit.int .i64 a1).wf = true) :
    Calls Try.prog 3 #[.slice a0 len0 cap0, .int .i64 a1] w fun e w' => e = .returned (.bool true) ∧ Below w.heap.size w w' := by
  have hnil : Hid (a0 = none → cap0 = 0) := nil_cap w0
  obtain ⟨hl, hb⟩ := bytes_of_row w0
  have hlc := (row_le w0).1
  generalize z0.take len0 = zs at *
  have hB : Hid (Bytes w a0 zs) := hb
  have hL : Hid (zs.length = len0) := hl
  clear hb w0 hl
  obtain ⟨wB, hwB⟩ : ∃ wB, Hid ((w.alloc (.cells #[.bool false, .slice none 0 0, .int .i64 0, .int .i64 0, .int .i64 0] 28)).alloc (.cells #[.pointer none, .pointer (some ⟨w.heap.size, 0, none⟩)] 23) = wB) := ⟨_, rfl⟩
  have hbB : Hid (Below w.heap.size w wB) := by
    show Below _ _ _
    rw [← hwB.out]
    exact ((Below.refl _ _).alloc (Nat.le_refl _) _).alloc (by simp) _
  have hcB : Hid (wB.heap[w.heap.size + 1]? = some (.cells #[.pointer none, .pointer (some ⟨w.heap.size, 0, none⟩)] 23 (0, 0))) := by
    show _ = _
    rw [← hwB.out, show w.heap.size + 1 = (w.alloc (.cells #[.bool false, .slice none 0 0, .int .i64 0, .int .i64 0, .int .i64 0] 28)).heap.size from by simp]
    exact heap_alloc_new _ _
  have hzB : Hid (ZAt wB w.heap.size) := by
    show ZAt _ _
    rw [← hwB.out]
    exact ZAt.alloc (show ZAt (w.alloc (.cells #[.bool false, .slice none 0 0, .int .i64 0, .int .i64 0, .int .i64 0] 28)) w.heap.size from heap_alloc_new _ _) _
  go_enter Try.func3, Try.ntmps3
  go_wp2_with fail
  go_loopw [17] (fun i wr => ∃ j : Nat, j ≤ 2 ∧ i = .int .i64 j ∧ Below wB.heap.size wB wr) (fun i _ => 2 - (intOf i).toNat)
  case atStart => exact ⟨0, by omega, rfl, by rw [hwB.out]; exact Below.refl _ _⟩
  case round =>
    obtain ⟨j, hj, rfl, hbr⟩ := hrel
    have hsB : w.heap.size + 1 < wB.heap.size := (Array.getElem?_eq_some_iff.1 hcB.out).1
    by_cases hlt : j < 2
    · obtain ⟨v, hv, hnob⟩ : ∃ v, wr.cell? ⟨w.heap.size + 1, j, none⟩ = some v ∧ Hid (Nob wr v) := by
        rw [hbr.cell (p := ⟨w.heap.size + 1, j, none⟩) hsB, cell_row hcB.out]
        rcases (show j = 0 ∨ j = 1 by omega) with rfl | rfl
        · exact ⟨_, rfl, .inl rfl⟩
        · exact ⟨_, rfl, .inr ⟨_, rfl, hzB.out.kept hbr⟩⟩
      clear hwB hsB
      go_wp2_with fail
      refine (wide_nob v _ _ hnob.out).mono ?_
      rintro e w2 ⟨rfl, hb2⟩
      have hn2 : Hid (Nob w2 v) := hnob.out.kept hb2
      clear hv hnob
      go_wp2_with fail
      refine (short_nob v _ hn2.out).mono ?_
      rintro e w3 ⟨rfl, hb3⟩
      have hn3 : Hid (Nob w3 v) := hn2.out.kept hb3
      clear hn2
      go_wp2_with fail
      refine (take_nob v _ _ hn3.out).mono ?_
      rintro e w4 ⟨rfl, hb4⟩
      have hn4 : Hid (Nob w4 v) := hn3.out.kept hb4
      clear hn3
      go_wp2_with fail
      refine (at_nob v _ hn4.out).mono ?_
      rintro e w4' ⟨rfl, rfl⟩
      go_wp2_with fail
      refine (left_nob v _ hn4.out).mono ?_
      rintro e w5 ⟨rfl, hb5⟩
      have hn5 : Hid (Nob w5 v) := hn4.out.kept hb5
      clear hn4
      go_wp2_with fail
      refine (fault_nob v _ hn5.out).mono ?_
      rintro e w6 ⟨rfl, hb6⟩
      clear hn5
      go_wp2
      go_roundw
      case rel => exact ⟨j + 1, by omega, by go_num, trans_kept (trans_kept (trans_kept (trans_kept (trans_kept hbr hb2) hb3) hb4) hb5) hb6⟩
      case measure => simp [intOf]; omega
    · obtain ⟨w4, hw4⟩ : ∃ w4, w4 = wr := ⟨_, rfl⟩
      subst hw4
      have bl4 : Below w.heap.size w w4 := hbB.out.trans (hbr.mono hbB.out.size)
      have hs4 := bl4.size
      clear hbr hsB hwB hbB hcB hzB
      go_wp2_with (at_builtin; refine wpList_append_bytes rfl _ (.tmp 54) rfl w4.heap.size (.slice none 0 0) [] zs rfl (ownsB_nil _ _) a0 len0 cap0 rfl hL.out hnil.out (hB.out.kept bl4) (by rw [hL.out]; simp; omega) (Nat.le_refl _) ?_; intro v5 w5 ho5 hg5; have hb5 := grown_below (Below.refl _ _) (ownsB_nil _ _) hg5 (Nat.le_refl _); simp only [List.nil_append] at ho5; clear hg5)
      obtain ⟨a5, n5, cap5, rfl, hl5, hn5, hc5, hm5, hB5⟩ := ho5.form
      obtain rfl : n5 = len0 := hl5.out.symm.trans hL.out
      have hO5 : Hid (OwnsB w5 w4.heap.size (.slice a5 n5 cap5) zs) := ho5
      have bl5 : Below w.heap.size w w5 := bl4.trans (hb5.mono hs4)
      have hk5 : Hid (∀ k, (Value.slice a5 n5 cap5).ownBlock = some k → w4.heap.size ≤ k ∧ k < w5.heap.size) := fun k hk => ho5.1.lt k hk
      clear ho5 hb5
      obtain ⟨o5, ho5⟩ : ∃ o, Hid ((Value.slice a5 n5 cap5).ownBlock = o) := ⟨_, rfl⟩
      rw [ho5.out] at hk5
      refine (new_any a5 n5 cap5 zs w5 hL.out hB5.out hn5.out (by omega)).mono ?_
      rintro e w6 ⟨g6, a6, rfl, hc6', hb6⟩
      have hc6 : Hid (Cur w6 w5.heap.size g6 a6 n5 zs 0 0 0) := hc6'
      have bl6 : Below w.heap.size w w6 := bl5.trans (hb6.mono bl5.size)
      have hO6 : Hid (OwnsB w6 w4.heap.size (.slice a5 n5 cap5) zs) := hO5.out.below hb6
      clear hc6' hO5 hB5 hn5 hl5
      go_wp2_with fail
      refine (new_any a0 n5 cap0 zs w6 hL.out (hB.out.kept bl6) hnil.out (by omega)).mono ?_
      rintro e w7 ⟨g7, a7, rfl, hc7', hb7⟩
      have hd7 : Hid (Cur w7 w6.heap.size g7 a7 n5 zs 0 0 0) := hc7'
      have hc7 : Hid (Cur w7 w5.heap.size g6 a6 n5 zs 0 0 0) := hc6.out.kept hb7
      have hO7 : Hid (OwnsB w7 w4.heap.size (.slice a5 n5 cap5) zs) := hO6.out.below hb7
      have bl7 : Below w.heap.size w w7 := bl6.trans (hb7.mono bl6.size)
      have s56 := hb6.size
      have s67 := hb7.size
      have s05 := bl5.size
      have h04 : Hid (w.heap.size ≤ w4.heap.size) := hs4
      have hg6 : Hid (w5.heap.size ≤ g6 ∧ g6 < w6.heap.size) := ⟨hc6.out.2.2.2.2.2.1, hc6.out.1.lt⟩
      have hg7 : Hid (w6.heap.size ≤ g7 ∧ g7 < w7.heap.size) := ⟨hd7.out.2.2.2.2.2.1, hd7.out.1.lt⟩
      have ha6 : Hid (∀ x, a6 = some x → w5.heap.size ≤ x.block ∧ x.block < w6.heap.size) := fun x hx => ⟨(hc6.out.2.2.2.2.2.2.2 x hx).2.2.2, (hc6.out.2.2.2.2.2.2.2 x hx).2.1⟩
      have ha7 : Hid (∀ x, a7 = some x → w6.heap.size ≤ x.block ∧ x.block < w7.heap.size) := fun x hx => ⟨(hd7.out.2.2.2.2.2.2.2 x hx).2.2.2, (hd7.out.2.2.2.2.2.2.2 x hx).2.1⟩
      clear hc6 hO6 hc7' hb6 hb7 bl6 bl5 hnil hB hs4 bl4
      by_cases h1n : 1 < n5
      · go_wp2_with fail
        refine (take_ok w5.heap.size g6 0 0 n5 1 a6 zs w7 hc7.out (by omega)).mono ?_
        rintro e w8 ⟨a8, rfl, hR8', hB8', hc8', hg8⟩
        rw [Nat.zero_add] at hc8'
        have hx8 : Hid ((zs.drop 0).take 1 = (zs.drop 0).take 1) := rfl
        obtain ⟨xs, hxs⟩ : ∃ xs, Hid ((zs.drop 0).take 1 = xs) := ⟨_, rfl⟩
        rw [hxs.out] at hR8' hB8'
        have hR8 : Hid (Row w8 w7.heap.size a8 xs) := hR8'
        have hB8 : Hid (Bytes w8 a8 xs) := hB8'
        have hl8 : Hid (xs.length = 1) := by
          show _ = _
          rw [← hxs.out, List.drop_zero, List.length_take, hL.out]
          omega
        have hc8 : Hid (Cur w8 w5.heap.size g6 a6 n5 zs 1 0 0) := hc8'
        have hd8 : Hid (Cur w8 w6.heap.size g7 a7 n5 zs 0 0 0) := hd7.out.other hg8 (by have := hg6.out; have := hg7.out; omega) (fun x hx => by have := ha7.out x hx; have := hg6.out; omega)
        have hO8 : Hid (OwnsB w8 w4.heap.size (.slice a5 n5 cap5) zs) := ⟨hO7.out.1.kept hg8 (.inr (by rw [ho5.out]; intro e; have := hk5.out _ e; have := hg6.out; omega)), hO7.out.2⟩
        have bl8 : Below w.heap.size w w8 := below_but bl7 hg8 bl7.size (by have := hg6.out; omega)
        have s78 := hg8.size
        clear hc7 hd7 hO7 hc8' hR8' hB8' hx8 hxs hg8 bl7
        go_wp2_with fail
        go_loopw [73] (fun i wr => ∃ j : Nat, j ≤ 1 ∧ i = .int .i64 j ∧ (∃ ys, Hid (Row wr w7.heap.size a8 ys) ∧ Hid (ys.length = 1) ∧ Hid (∀ c ∈ ys, 0 ≤ c ∧ c < 256)) ∧ Below w7.heap.size w8 wr) (fun i _ => 1 - (intOf i).toNat)
        case atStart => exact ⟨0, by omega, rfl, ⟨xs, hR8, hl8, hB8.out.1⟩, Below.refl _ _⟩
        case round =>
          obtain ⟨j2, hj2, rfl, ⟨ys, hRr, hlr, hzr⟩, hbr⟩ := hrel
          by_cases hlt2 : j2 < 1
          · obtain ⟨gx, hax, hgx, hcl, hfr⟩ := hRr.out.cell j2 (by rw [hlr.out]; exact hlt2)
            subst hax
            generalize ys.getD j2 0 = c at hcl
            go_wp2
            go_roundw
            case rel => exact ⟨j2 + 1, by omega, by go_num, ⟨_, hRr.out.store j2 _, by show _ = _; rw [List.length_set]; exact hlr.out, fun d hd => by
              rcases List.mem_or_eq_of_mem_set hd with h5 | h5
              · exact hzr.out d h5
              · rw [h5]; exact flip_byte c⟩, hbr.setCell hgx _⟩
            case measure => simp [intOf]; omega
          · obtain ⟨w9, hw9⟩ : ∃ w9, w9 = wr := ⟨_, rfl⟩
            subst hw9
            have hc9 : Hid (Cur w9 w5.heap.size g6 a6 n5 zs 1 0 0) := hc8.out.low hbr (by have := hg6.out; omega) (fun x hx => by have := ha6.out x hx; omega)
            have hd9 : Hid (Cur w9 w6.heap.size g7 a7 n5 zs 0 0 0) := hd8.out.low hbr (by have := hg7.out; omega) (fun x hx => by have := ha7.out x hx; omega)
            have hO9 : Hid (OwnsB w9 w4.heap.size (.slice a5 n5 cap5) zs) := hO8.out.low hbr (by rw [ho5.out]; intro k hk; have := hk5.out k hk; omega)
            have bl9 : Below w.heap.size w w9 := bl8.trans (hbr.mono (by omega))
            have s89 := hbr.size
            have hBx : Hid (Bytes w9 a8 ys) := hRr.out.bytes hzr.out (by rw [hlr.out]; unfold maxLen; omega)
            have hnx : Hid (a8 = none → 1 = 0) := by
              intro h0
              subst h0
              have h2 := hRr.out.nil
              rw [← hlr.out, h2]
              rfl
            clear hc8 hd8 hO8 bl8 hbr hRr hR8 hB8 hl8
            obtain ⟨i0, hi, hz0, hz1, hz2⟩ := info_parts info5
            have hb9 := (Below.refl w9.heap.size w9).alloc (Nat.le_refl _) (.cells #[.int .u8 9] 5)
            go_wp2_with (at_builtin; refine wpList_append_grows _ rfl (.tmp 83) (.tmp 84) 22 rfl 5 i0 (.int .u8 0) 1 1 Try.underlying22 hi hz0 hz1 hz2 rfl (by decide) a8 1 1 (ys.map (Value.int .u8)) rfl (fun h0 => ⟨hnx.out h0, hnx.out h0⟩) (by simp [hlr.out]) (fun b hb => by subst hb; exact bytes_news (hBx.out.kept hb9)) ⟨w9.heap.size, 0, none⟩ 1 1 ([(9 : Int)].map (Value.int .u8)) rfl rfl (bytes_news (one_byte w9 9 (by decide) (by decide))) (bytes_one _) (by omega) (by unfold maxLen; omega) (by omega) ?_; intro v10 w10 _ hg10; have hb10 : Below w9.heap.size w9 w10 := hb9.grown hg10 hb9.size (by simp); clear hg10)
            have hc10 : Hid (Cur w10 w5.heap.size g6 a6 n5 zs 1 0 0) := hc9.out.kept hb10
            have hd10 : Hid (Cur w10 w6.heap.size g7 a7 n5 zs 0 0 0) := hd9.out.kept hb10
            have hO10 : Hid (OwnsB w10 w4.heap.size (.slice a5 n5 cap5) zs) := hO9.out.below hb10
            have bl10 : Below w.heap.size w w10 := bl9.trans (hb10.mono bl9.size)
            have s90 := hb10.size
            clear hc9 hd9 hO9 bl9 hb10 hBx hnx hlr hzr hb9
            refine (take_ok w6.heap.size g7 0 0 n5 1 a7 zs w10 hd10.out (by omega)).mono ?_
            rintro e w11 ⟨a11, rfl, -, -, hd11', hg11⟩
            rw [Nat.zero_add] at hd11'
            have hd11 : Hid (Cur w11 w6.heap.size g7 a7 n5 zs 1 0 0) := hd11'
            have hc11 : Hid (Cur w11 w5.heap.size g6 a6 n5 zs 1 0 0) := hc10.out.other hg11 (by have := hg6.out; have := hg7.out; omega) (fun x hx => by have := ha6.out x hx; have := hg7.out; omega)
            have hO11 : Hid (OwnsB w11 w4.heap.size (.slice a5 n5 cap5) zs) := ⟨hO10.out.1.kept hg11 (.inr (by rw [ho5.out]; intro e; have := hk5.out _ e; have := hg7.out; omega)), hO10.out.2⟩
            have bl11 : Below w.heap.size w w11 := below_but bl10 hg11 bl10.size (by have := hg7.out; omega)
            have s01 := hg11.size
            clear hc10 hd10 hO10 hd11' hg11 bl10
            go_wp2_with fail
            go_loopw [93] (fun i wr => ∃ j : Nat, j ≤ n5 ∧ i = .int .i64 j ∧ (∃ ys, Hid (OwnsB wr w4.heap.size (.slice a5 n5 cap5) ys) ∧ Hid (ys.length = n5)) ∧ w11.grownBy wr o5) (fun i _ => n5 - (intOf i).toNat)
            case atStart => exact ⟨0, by omega, rfl, ⟨zs, hO11, hL⟩, World.grownBy.refl _ _⟩
            case round =>
              obtain ⟨j3, hj3, rfl, ⟨ys3, hOr, hlr3⟩, hbr3⟩ := hrel
              by_cases hlt3 : j3 < n5
              · obtain ⟨g5, m5, cp5, hv5, hOw, hlw, -, -⟩ := hOr.out.row (by rw [hlr3.out]; omega)
                cases hv5
                have hcl := hOw.out.cell j3 hlt3
                have hfr : wr.frozen? ⟨g5, j3, none⟩ = false := hOw.out.frozen j3
                have ho5' : Hid (o5 = some g5) := ho5.out.symm
                have hst := hOw.out.store j3 7 (by decide)
                have hst' : Hid (OwnsB (wr.setCell ⟨g5, j3, none⟩ (.int .u8 7)) w4.heap.size (.slice (some ⟨g5, 0, none⟩) n5 cap5) (ys3.set j3 7)) := hst.owns
                clear hst hOw hlw
                go_wp2
                go_roundw
                case rel => exact ⟨j3 + 1, by omega, by go_num, ⟨_, hst', by show _ = _; rw [List.length_set]; exact hlr3.out⟩, by
                  have h5 := ho5'.out
                  subst h5
                  exact but_setCell hbr3 j3 _⟩
                case measure => simp [intOf]; omega
              · obtain ⟨w12, hw12⟩ : ∃ w12, w12 = wr := ⟨_, rfl⟩
                subst hw12
                have hc12 : Hid (Cur w12 w5.heap.size g6 a6 n5 zs 1 0 0) := hc11.out.far hbr3 (fun k hk => by have := hk5.out k hk; omega)
                have hd12 : Hid (Cur w12 w6.heap.size g7 a7 n5 zs 1 0 0) := hd11.out.far hbr3 (fun k hk => by have := hk5.out k hk; omega)
                have bl12 : Below w.heap.size w w12 := bl11.grown hbr3 bl11.size (fun k hk => by have := hk5.out k hk; have := h04.out; omega)
                have s12 := hbr3.size
                clear hc11 hd11 hO11 hOr hlr3 hbr3 bl11
                obtain ⟨D, hD⟩ : ∃ D : Nat, Hid (n5 - 1 = D) := ⟨_, rfl⟩
                have hD' : D ≤ n5 := by have := hD.out; omega
                go_wp2_with fail
                refine (left_q g6 1 0 0 n5 D a6 w12 hc12.out.1 (by omega) (by omega) hD.out).mono ?_
                rintro e w13 ⟨rfl, hb13⟩
                have hc13 : Hid (Cur w13 w5.heap.size g6 a6 n5 zs 1 0 0) := hc12.out.kept hb13
                have hd13 : Hid (Cur w13 w6.heap.size g7 a7 n5 zs 1 0 0) := hd12.out.kept hb13
                have bl13 : Below w.heap.size w w13 := bl12.trans (hb13.mono bl12.size)
                clear hc12 hd12 bl12 hb13
                go_wp2_with fail
                refine (take_ok w5.heap.size g6 1 0 n5 D a6 zs w13 hc13.out (by have := hD.out; omega)).mono ?_
                rintro e w14 ⟨a14, rfl, hR14, hB14, -, hg14⟩
                have hd14 : Hid (Cur w14 w6.heap.size g7 a7 n5 zs 1 0 0) := hd13.out.other hg14 (by have := hg6.out; have := hg7.out; omega) (fun x hx => by have := ha7.out x hx; have := hg6.out; omega)
                have bl14 : Below w.heap.size w w14 := below_but bl13 hg14 bl13.size (by have := hg6.out; omega)
                have hne14 : Hid (∀ x, a14 = some x → x.block ≠ g7) := fun x hx h0 => by
                  have h2 := (hR14.out.places x hx).1
                  have h3 := hd13.out.1.lt
                  omega
                obtain ⟨xs2, hxs2⟩ : ∃ xs2, Hid ((zs.drop 1).take D = xs2) := ⟨_, rfl⟩
                have hl2 : Hid (xs2.length = D) := by
                  show _ = _
                  rw [← hxs2.out, List.length_take, List.length_drop, hL.out]
                  have := hD.out
                  omega
                rw [hxs2.out] at hB14
                clear hc13 hd13 bl13 hg14 hR14
                go_wp2_with fail
                refine (left_q g7 1 0 0 n5 D a7 w14 hd14.out.1 (by omega) (by omega) hD.out).mono ?_
                rintro e w15 ⟨rfl, hb15⟩
                have hd15 : Hid (Cur w15 w6.heap.size g7 a7 n5 zs 1 0 0) := hd14.out.kept hb15
                have hB15 : Hid (Bytes w15 a14 xs2) := hB14.out.kept hb15
                have bl15 : Below w.heap.size w w15 := bl14.trans (hb15.mono bl14.size)
                clear hd14 hB14 bl14 hb15
                go_wp2_with fail
                refine (take_ok w6.heap.size g7 1 0 n5 D a7 zs w15 hd15.out (by have := hD.out; omega)).mono ?_
                rintro e w16 ⟨a16, rfl, -, hB16, -, hg16⟩
                rw [hxs2.out] at hB16
                have hB17 : Hid (Bytes w16 a14 xs2) := hB15.out.but hg16 hne14.out
                have bl16 : Below w.heap.size w w16 := below_but bl15 hg16 bl15.size (by have := hg7.out; omega)
                clear hd15 hB15 bl15 hg16 hne14
                go_wp2_with fail
                refine (same_yes _ _ _ _ _ _ xs2 _ hl2.out hl2.out hB17.out hB16.out).mono ?_
                rintro e w17 ⟨rfl, rfl⟩
                go_wp2_with fail
                refine (alive_any _).mono ?_
                rintro e w18 ⟨rfl, hb18⟩
                go_wp2_with fail
                go_ret
                exact ⟨rfl, bl16.trans (hb18.mono bl16.size)⟩
      · go_wp2_with fail
        refine (take_ok w5.heap.size g6 0 0 n5 n5 a6 zs w7 hc7.out (by omega)).mono ?_
        rintro e w8 ⟨a8, rfl, hR8', hB8', hc8', hg8⟩
        rw [Nat.zero_add] at hc8'
        have hx8 : Hid ((zs.drop 0).take n5 = (zs.drop 0).take n5) := rfl
        obtain ⟨xs, hxs⟩ : ∃ xs, Hid ((zs.drop 0).take n5 = xs) := ⟨_, rfl⟩
        rw [hxs.out] at hR8' hB8'
        have hR8 : Hid (Row w8 w7.heap.size a8 xs) := hR8'
        have hB8 : Hid (Bytes w8 a8 xs) := hB8'
        have hl8 : Hid (xs.length = n5) := by
          show _ = _
          rw [← hxs.out, List.drop_zero, List.length_take, hL.out]
          omega
        have hc8 : Hid (Cur w8 w5.heap.size g6 a6 n5 zs n5 0 0) := hc8'
        have hd8 : Hid (Cur w8 w6.heap.size g7 a7 n5 zs 0 0 0) := hd7.out.other hg8 (by have := hg6.out; have := hg7.out; omega) (fun x hx => by have := ha7.out x hx; have := hg6.out; omega)
        have hO8 : Hid (OwnsB w8 w4.heap.size (.slice a5 n5 cap5) zs) := ⟨hO7.out.1.kept hg8 (.inr (by rw [ho5.out]; intro e; have := hk5.out _ e; have := hg6.out; omega)), hO7.out.2⟩
        have bl8 : Below w.heap.size w w8 := below_but bl7 hg8 bl7.size (by have := hg6.out; omega)
        have s78 := hg8.size
        clear hc7 hd7 hO7 hc8' hR8' hB8' hx8 hxs hg8 bl7
        go_wp2_with fail
        go_loopw [73] (fun i wr => ∃ j : Nat, j ≤ n5 ∧ i = .int .i64 j ∧ (∃ ys, Hid (Row wr w7.heap.size a8 ys) ∧ Hid (ys.length = n5) ∧ Hid (∀ c ∈ ys, 0 ≤ c ∧ c < 256)) ∧ Below w7.heap.size w8 wr) (fun i _ => n5 - (intOf i).toNat)
        case atStart => exact ⟨0, by omega, rfl, ⟨xs, hR8, hl8, hB8.out.1⟩, Below.refl _ _⟩
        case round =>
          obtain ⟨j2, hj2, rfl, ⟨ys, hRr, hlr, hzr⟩, hbr⟩ := hrel
          by_cases hlt2 : j2 < n5
          · obtain ⟨gx, hax, hgx, hcl, hfr⟩ := hRr.out.cell j2 (by rw [hlr.out]; exact hlt2)
            subst hax
            generalize ys.getD j2 0 = c at hcl
            go_wp2
            go_roundw
            case rel => exact ⟨j2 + 1, by omega, by go_num, ⟨_, hRr.out.store j2 _, by show _ = _; rw [List.length_set]; exact hlr.out, fun d hd => by
              rcases List.mem_or_eq_of_mem_set hd with h5 | h5
              · exact hzr.out d h5
              · rw [h5]; exact flip_byte c⟩, hbr.setCell hgx _⟩
            case measure => simp [intOf]; omega
          · obtain ⟨w9, hw9⟩ : ∃ w9, w9 = wr := ⟨_, rfl⟩
            subst hw9
            have hc9 : Hid (Cur w9 w5.heap.size g6 a6 n5 zs n5 0 0) := hc8.out.low hbr (by have := hg6.out; omega) (fun x hx => by have := ha6.out x hx; omega)
            have hd9 : Hid (Cur w9 w6.heap.size g7 a7 n5 zs 0 0 0) := hd8.out.low hbr (by have := hg7.out; omega) (fun x hx => by have := ha7.out x hx; omega)
            have hO9 : Hid (OwnsB w9 w4.heap.size (.slice a5 n5 cap5) zs) := hO8.out.low hbr (by rw [ho5.out]; intro k hk; have := hk5.out k hk; omega)
            have bl9 : Below w.heap.size w w9 := bl8.trans (hbr.mono (by omega))
            have s89 := hbr.size
            have hBx : Hid (Bytes w9 a8 ys) := hRr.out.bytes hzr.out (by rw [hlr.out]; unfold maxLen; omega)
            have hnx : Hid (a8 = none → n5 = 0) := by
              intro h0
              subst h0
              have h2 := hRr.out.nil
              rw [← hlr.out, h2]
              rfl
            clear hc8 hd8 hO8 bl8 hbr hRr hR8 hB8 hl8
            obtain ⟨i0, hi, hz0, hz1, hz2⟩ := info_parts info5
            have hb9 := (Below.refl w9.heap.size w9).alloc (Nat.le_refl _) (.cells #[.int .u8 9] 5)
            go_wp2_with (at_builtin; refine wpList_append_grows _ rfl (.tmp 83) (.tmp 84) 22 rfl 5 i0 (.int .u8 0) 1 1 Try.underlying22 hi hz0 hz1 hz2 rfl (by decide) a8 n5 n5 (ys.map (Value.int .u8)) rfl (fun h0 => ⟨hnx.out h0, hnx.out h0⟩) (by simp [hlr.out]) (fun b hb => by subst hb; exact bytes_news (hBx.out.kept hb9)) ⟨w9.heap.size, 0, none⟩ 1 1 ([(9 : Int)].map (Value.int .u8)) rfl rfl (bytes_news (one_byte w9 9 (by decide) (by decide))) (bytes_one _) (by omega) (by unfold maxLen; omega) (by omega) ?_; intro v10 w10 _ hg10; have hb10 : Below w9.heap.size w9 w10 := hb9.grown hg10 hb9.size (by simp); clear hg10)
            have hc10 : Hid (Cur w10 w5.heap.size g6 a6 n5 zs n5 0 0) := hc9.out.kept hb10
            have hd10 : Hid (Cur w10 w6.heap.size g7 a7 n5 zs 0 0 0) := hd9.out.kept hb10
            have hO10 : Hid (OwnsB w10 w4.heap.size (.slice a5 n5 cap5) zs) := hO9.out.below hb10
            have bl10 : Below w.heap.size w w10 := bl9.trans (hb10.mono bl9.size)
            have s90 := hb10.size
            clear hc9 hd9 hO9 bl9 hb10 hBx hnx hlr hzr hb9
            refine (take_ok w6.heap.size g7 0 0 n5 n5 a7 zs w10 hd10.out (by omega)).mono ?_
            rintro e w11 ⟨a11, rfl, -, -, hd11', hg11⟩
            rw [Nat.zero_add] at hd11'
            have hd11 : Hid (Cur w11 w6.heap.size g7 a7 n5 zs n5 0 0) := hd11'
            have hc11 : Hid (Cur w11 w5.heap.size g6 a6 n5 zs n5 0 0) := hc10.out.other hg11 (by have := hg6.out; have := hg7.out; omega) (fun x hx => by have := ha6.out x hx; have := hg7.out; omega)
            have hO11 : Hid (OwnsB w11 w4.heap.size (.slice a5 n5 cap5) zs) := ⟨hO10.out.1.kept hg11 (.inr (by rw [ho5.out]; intro e; have := hk5.out _ e; have := hg7.out; omega)), hO10.out.2⟩
            have bl11 : Below w.heap.size w w11 := below_but bl10 hg11 bl10.size (by have := hg7.out; omega)
            have s01 := hg11.size
            clear hc10 hd10 hO10 hd11' hg11 bl10
            go_wp2_with fail
            go_loopw [93] (fun i wr => ∃ j : Nat, j ≤ n5 ∧ i = .int .i64 j ∧ (∃ ys, Hid (OwnsB wr w4.heap.size (.slice a5 n5 cap5) ys) ∧ Hid (ys.length = n5)) ∧ w11.grownBy wr o5) (fun i _ => n5 - (intOf i).toNat)
            case atStart => exact ⟨0, by omega, rfl, ⟨zs, hO11, hL⟩, World.grownBy.refl _ _⟩
            case round =>
              obtain ⟨j3, hj3, rfl, ⟨ys3, hOr, hlr3⟩, hbr3⟩ := hrel
              by_cases hlt3 : j3 < n5
              · obtain ⟨g5, m5, cp5, hv5, hOw, hlw, -, -⟩ := hOr.out.row (by rw [hlr3.out]; omega)
                cases hv5
                have hcl := hOw.out.cell j3 hlt3
                have hfr : wr.frozen? ⟨g5, j3, none⟩ = false := hOw.out.frozen j3
                have ho5' : Hid (o5 = some g5) := ho5.out.symm
                have hst := hOw.out.store j3 7 (by decide)
                have hst' : Hid (OwnsB (wr.setCell ⟨g5, j3, none⟩ (.int .u8 7)) w4.heap.size (.slice (some ⟨g5, 0, none⟩) n5 cap5) (ys3.set j3 7)) := hst.owns
                clear hst hOw hlw
                go_wp2
                go_roundw
                case rel => exact ⟨j3 + 1, by omega, by go_num, ⟨_, hst', by show _ = _; rw [List.length_set]; exact hlr3.out⟩, by
                  have h5 := ho5'.out
                  subst h5
                  exact but_setCell hbr3 j3 _⟩
                case measure => simp [intOf]; omega
              · obtain ⟨w12, hw12⟩ : ∃ w12, w12 = wr := ⟨_, rfl⟩
                subst hw12
                have hc12 : Hid (Cur w12 w5.heap.size g6 a6 n5 zs n5 0 0) := hc11.out.far hbr3 (fun k hk => by have := hk5.out k hk; omega)
                have hd12 : Hid (Cur w12 w6.heap.size g7 a7 n5 zs n5 0 0) := hd11.out.far hbr3 (fun k hk => by have := hk5.out k hk; omega)
                have bl12 : Below w.heap.size w w12 := bl11.grown hbr3 bl11.size (fun k hk => by have := hk5.out k hk; have := h04.out; omega)
                have s12 := hbr3.size
                clear hc11 hd11 hO11 hOr hlr3 hbr3 bl11
                obtain ⟨D, hD⟩ : ∃ D : Nat, Hid (n5 - n5 = D) := ⟨_, rfl⟩
                have hD' : D ≤ n5 := by have := hD.out; omega
                go_wp2_with fail
                refine (left_q g6 n5 0 0 n5 D a6 w12 hc12.out.1 (by omega) (by omega) hD.out).mono ?_
                rintro e w13 ⟨rfl, hb13⟩
                have hc13 : Hid (Cur w13 w5.heap.size g6 a6 n5 zs n5 0 0) := hc12.out.kept hb13
                have hd13 : Hid (Cur w13 w6.heap.size g7 a7 n5 zs n5 0 0) := hd12.out.kept hb13
                have bl13 : Below w.heap.size w w13 := bl12.trans (hb13.mono bl12.size)
                clear hc12 hd12 bl12 hb13
                go_wp2_with fail
                refine (take_ok w5.heap.size g6 n5 0 n5 D a6 zs w13 hc13.out (by have := hD.out; omega)).mono ?_
                rintro e w14 ⟨a14, rfl, hR14, hB14, -, hg14⟩
                have hd14 : Hid (Cur w14 w6.heap.size g7 a7 n5 zs n5 0 0) := hd13.out.other hg14 (by have := hg6.out; have := hg7.out; omega) (fun x hx => by have := ha7.out x hx; have := hg6.out; omega)
                have bl14 : Below w.heap.size w w14 := below_but bl13 hg14 bl13.size (by have := hg6.out; omega)
                have hne14 : Hid (∀ x, a14 = some x → x.block ≠ g7) := fun x hx h0 => by
                  have h2 := (hR14.out.places x hx).1
                  have h3 := hd13.out.1.lt
                  omega
                obtain ⟨xs2, hxs2⟩ : ∃ xs2, Hid ((zs.drop n5).take D = xs2) := ⟨_, rfl⟩
                have hl2 : Hid (xs2.length = D) := by
                  show _ = _
                  rw [← hxs2.out, List.length_take, List.length_drop, hL.out]
                  have := hD.out
                  omega
                rw [hxs2.out] at hB14
                clear hc13 hd13 bl13 hg14 hR14
                go_wp2_with fail
                refine (left_q g7 n5 0 0 n5 D a7 w14 hd14.out.1 (by omega) (by omega) hD.out).mono ?_
                rintro e w15 ⟨rfl, hb15⟩
                have hd15 : Hid (Cur w15 w6.heap.size g7 a7 n5 zs n5 0 0) := hd14.out.kept hb15
                have hB15 : Hid (Bytes w15 a14 xs2) := hB14.out.kept hb15
                have bl15 : Below w.heap.size w w15 := bl14.trans (hb15.mono bl14.size)
                clear hd14 hB14 bl14 hb15
                go_wp2_with fail
                refine (take_ok w6.heap.size g7 n5 0 n5 D a7 zs w15 hd15.out (by have := hD.out; omega)).mono ?_
                rintro e w16 ⟨a16, rfl, -, hB16, -, hg16⟩
                rw [hxs2.out] at hB16
                have hB17 : Hid (Bytes w16 a14 xs2) := hB15.out.but hg16 hne14.out
                have bl16 : Below w.heap.size w w16 := below_but bl15 hg16 bl15.size (by have := hg7.out; omega)
                clear hd15 hB15 bl15 hg16 hne14
                go_wp2_with fail
                refine (same_yes _ _ _ _ _ _ xs2 _ hl2.out hl2.out hB17.out hB16.out).mono ?_
                rintro e w17 ⟨rfl, rfl⟩
                go_wp2_with fail
                refine (alive_any _).mono ?_
                rintro e w18 ⟨rfl, hb18⟩
                go_wp2_with fail
                go_ret
                exact ⟨rfl, bl16.trans (hb18.mono bl16.size)⟩
end Go.Proofs.Ytkmbphgcnppohab
