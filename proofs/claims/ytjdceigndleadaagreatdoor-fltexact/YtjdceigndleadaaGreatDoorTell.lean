/-
  Groups told as a number: nat.tell.
-/
import Derived.Test.YtjdceigndleadaaGreatDoorTrim
import Derived.Maps.AppendAt
import Derived.Lib.Hide
namespace Go.Proofs.YtjdceigndleadaaGreatDoor
open Go.RowKit Go.Shelf
attribute [local go_sem] Oper.semAt_some

/-- The weights of a group's six digits, and 0. -/
def wt (k : Nat) : Int := 1000000 / 10 ^ (k + 1)
theorem wt_pos {k : Nat} (h : k < 6) : 0 < wt k ∧ wt k ≤ 100000 := by
  match k, h with
  | 0, _ => decide
  | 1, _ => decide
  | 2, _ => decide
  | 3, _ => decide
  | 4, _ => decide
  | 5, _ => decide
theorem wt_next {k : Nat} (h : k < 6) : (wt k).tdiv 10 = wt (k + 1) := by
  match k, h with
  | 0, _ => decide
  | 1, _ => decide
  | 2, _ => decide
  | 3, _ => decide
  | 4, _ => decide
  | 5, _ => decide
theorem wt_dig {k : Nat} (h : k < 6) (z : Int) : (dig6 z).take (k + 1) = (dig6 z).take k ++ [48 + z / wt k % 10] := by
  match k, h with
  | 0, _ => rfl
  | 1, _ => rfl
  | 2, _ => rfl
  | 3, _ => rfl
  | 4, _ => rfl
  | 5, _ =>
    have e : z / wt 5 = z := Int.ediv_one z
    rw [e]
    rfl
/-- A group. -/
abbrev IsG (z : Int) : Prop := 0 ≤ z ∧ z < 1000000
/-- The digits of the groups that have come. -/
def digsOf {n : Nat} (pre : List (Bk n IsG)) : List Int := pre.flatMap fun x => dig6 x.1.2
theorem digsOf_snoc {n : Nat} (pre : List (Bk n IsG)) (x : Bk n IsG) : digsOf (pre ++ [x]) = digsOf pre ++ dig6 x.1.2 := by simp [digsOf]
theorem digsOf_len {n : Nat} (pre : List (Bk n IsG)) : (digsOf pre).length = 6 * pre.length := by
  induction pre with
  | nil => rfl
  | cons x pre ih =>
    have : digsOf (x :: pre) = dig6 x.1.2 ++ digsOf pre := by simp [digsOf]
    rw [this, List.length_append, ih, List.length_cons]
    show 6 + _ = _
    omega
theorem digsOf_digs {n : Nat} (pre : List (Bk n IsG)) : Digs (digsOf pre) := by
  induction pre with
  | nil => intro c hc; cases hc
  | cons x pre ih =>
    have : digsOf (x :: pre) = dig6 x.1.2 ++ digsOf pre := by simp [digsOf]
    rw [this]
    exact digs_append dig6_digs ih
/-- Bytes in a variable's box. -/
def BoxB (W : World) (B base : Nat) (zs : List Int) : Prop := ∃ v, Boxed W B 65 v ∧ OwnsB W base v zs

/-- Rows of unlike elements lie apart. -/
theorem rows_apart {w : World} {b1 b2 k1 k2 : Nat} {e1 e2 : TypeId} {v1 v2 : Value} {x1 x2 : List Value} (h1 : w.ownsRow b1 e1 1 v1 k1 x1) (h2 : w.ownsRow b2 e2 1 v2 k2 x2) (hne : e1 ≠ e2) : v1.ownBlock = none ∨ v1.ownBlock ≠ v2.ownBlock := by
  rcases h1.2 with ⟨rfl, _⟩ | ⟨g1, c1, cur1, rfl, _, hg1, _⟩
  · exact .inl rfl
  · refine .inr fun e => ?_
    rcases h2.2 with ⟨rfl, _⟩ | ⟨g2, c2, cur2, rfl, _, hg2, _⟩
    · simp [Value.ownBlock] at e
    · obtain rfl : g1 = g2 := by simpa [Value.ownBlock] using e
      rw [hg1] at hg2
      simp only [Option.some.injEq, Obj.cells.injEq] at hg2
      exact hne hg2.2.1
theorem byte_new (w : World) (c : Int) : ∀ (j : Nat) (u : Value), [Value.int .u8 c][j]? = some u → (w.alloc (.cells #[.int .u8 c] 5)).cell? ((⟨w.heap.size, 0, none⟩ : Addr).add j) = some u := cell_one_new _ _ _

/-- Bytes stay where a variable's box is written. -/
theorem bytes_apart {w : World} {B : Nat} {t : TypeId} {x : Option Addr} {n c : Nat} {u : Value} (h : Boxed w B t (.slice x n c)) {a : Option Addr} {zs : List Int} (hb : Bytes w a zs) : Bytes (w.setCell ⟨B, 0, none⟩ u) a zs := by
  refine ⟨hb.1, hb.2.1, ?_⟩
  rcases hb.2.2 with h0 | ⟨b, off, rfl, hc⟩
  · exact .inl h0
  · refine .inr ⟨b, off, rfl, fun i hi => ?_⟩
    have h1 := hc i hi
    have hne : B ≠ b := by
      rintro rfl
      rw [cell_row h] at h1
      obtain ⟨hlt, h2⟩ := Array.getElem?_eq_some_iff.1 h1
      have h3 : off + i = 0 := by simp at hlt; omega
      simp only [h3] at h2
      cases h2
    rw [cell_apart _ _ _ (by exact hne)]
    exact h1
theorem desc_digs {n : Nat} {l : List Int} {ys : List (Bk n IsG)} (h : Desc n IsG (fun j z => z = l.getD j 0 ∧ IsG z) ys n) (hl : l.length = n) : digsOf ys = tellL l := by
  have e : (ys.map fun x => x.1.2) = l.reverse := by
    have e1 : (ys.map fun x => x.1.2) = (ys.map fun x => x.1.1).map fun j => l.getD j 0 := by
      rw [List.map_map]
      exact List.map_congr_left fun x hx => (h.2 x hx).1
    rw [e1, h.1]
    unfold upto
    rw [List.map_map]
    subst hl
    apply List.ext_getElem
    · simp
    · intro i h1 h2
      simp only [List.length_map, List.length_range] at h1
      simp only [List.getElem_map, List.getElem_range, Function.comp_apply, List.getElem_reverse]
      rw [List.getD_eq_getElem?_getD, List.getElem?_eq_getElem (by omega)]
      rfl
  unfold digsOf tellL
  rw [← e, List.flatMap_map]

theorem short_fits {v : Nat} (h : (numL v).length ≤ 800) : shortA v = (strOfNums (numL v), 0) := by
  unfold shortA
  rw [if_pos (by unfold top; exact (num_len (k := 800) (by omega)).1 h)]
  rfl
theorem short_long {v : Nat} (h : 800 < (numL v).length) : shortA v = (noS, 11) := by
  unfold shortA
  rw [if_neg]
  unfold top
  intro h1
  have := (num_len (k := 800) (by omega)).2 h1
  omega
theorem short_zero : shortA 0 = (⟨#[48]⟩, 0) := by
  rw [short_fits (by decide)]
  rfl

/-- What the loop over a group's digits knows. -/
def TellI (w W0 W : World) (B base n cap : Nat) (a : Option Addr) (l zs : List Int) (wr : World) : Prop :=
  BoxB wr B base zs ∧ Boxed wr (B + 1) 78 (.slice a n cap) ∧ OwnsI wr base (.slice a n cap) l ∧ Below base w wr ∧ KeepsFrom W0.heap.size W wr
/-- One byte more. -/
theorem tell_append {w W0 W : World} {B base n cap : Nat} {a : Option Addr} {l zs : List Int} {wr : World} (h : TellI w W0 W B base n cap a l zs wr) (c : Int) (hc : 0 ≤ c ∧ c < 256) (hsm : zs.length ≤ 1000000) (hbB : base ≤ B) (hbw : base ≤ w.heap.size) :
    ∃ av nv cv g' cap' w1, Boxed wr B 65 (.slice av nv cv) ∧ (Builtin.append_ #[65, 65] 65 #[.slice av nv cv, .slice (some ⟨wr.heap.size, 0, none⟩) 1 1]).run Tryz.prog (wr.alloc (.cells #[.int .u8 c] 5)).drew = .ok (.slice (some ⟨g', 0, none⟩) (nv + 1) cap') w1 ∧
      w1.cell? ⟨B, 0, none⟩ = some (.slice av nv cv) ∧ w1.frozen? ⟨B, 0, none⟩ = false ∧ TellI w W0 W B base n cap a l (zs ++ [c]) (w1.setCell ⟨B, 0, none⟩ (.slice (some ⟨g', 0, none⟩) (nv + 1) cap')) := by
  obtain ⟨⟨v, hv, hO⟩, hbx, hOI, hbl, hkf⟩ := h
  obtain ⟨i0, hi, hz0, hz1, hz2⟩ := info_parts info5
  have hbr : base ≤ wr.heap.size := Nat.le_trans hbw hbl.size
  obtain ⟨v', w1, hrun, hown, hgrow, -⟩ := run_append_own (P := Tryz.prog) (wr.alloc (.cells #[.int .u8 c] 5)).drew base 65 65 5 i0 (.int .u8 0) 1 1 Tryz.underlying65 hi hz0 hz1 hz2 rfl (by decide) v zs.length _ (show ((wr.alloc (.cells #[.int .u8 c] 5)).drew).ownsRow base 5 1 v zs.length (zs.map (Value.int .u8)) from hO.1.alloc _) ⟨wr.heap.size, 0, none⟩ 1 1 [.int .u8 c] rfl (byte_new wr c) (by simp [Value.oneCell']) (by unfold maxLen; omega) (by omega) (by show base ≤ (wr.alloc _).heap.size; simp; omega)
  obtain ⟨g', cap', rfl⟩ := ownsRow_succ hown
  obtain ⟨av, cv, hve, -⟩ := hO.shape
  have hap := Boxed.appended (W := wr.drew) (tmp := .cells #[.int .u8 c] 5) (show Boxed wr.drew B 65 v from hv) (by decide) (show (wr.drew).ownsRow base 5 1 v zs.length (zs.map (Value.int .u8)) from hO.1) hbr hbB hown hgrow
  obtain ⟨p1, p2, p3, p4, p5⟩ := hap
  have q1 : OwnsI w1 base (.slice a n cap) l := World.ownsRow.kept (show ((wr.alloc (.cells #[.int .u8 c] 5)).drew).ownsRow base 3 1 (.slice a n cap) l.length (l.map (Value.int .i64)) from hOI.alloc _) hgrow (rows_apart hOI hO.1 (by decide))
  have q2 : OwnsI (w1.setCell ⟨B, 0, none⟩ (.slice (some ⟨g', 0, none⟩) (zs.length + 1) cap')) base (.slice a n cap) l := World.ownsRow.kept q1 (grownBy_setCell' w1 B _) (.inr (p1.not_row (by decide) q1).symm)
  have q3 : Boxed w1 (B + 1) 78 (.slice a n cap) := (show Boxed ((wr.alloc (.cells #[.int .u8 c] 5)).drew) (B + 1) 78 (.slice a n cap) from hbx.alloc _).kept hgrow (hbx.not_row (by decide) hO.1)
  refine ⟨av, zs.length, cv, g', cap', w1, by rw [← hve]; exact hv, by rw [← hve]; exact hrun, by rw [← hve]; exact p1.cell, p1.frozen, ⟨_, p2, ?_, ?_⟩, boxed_apart _ q3 (by show B ≠ B + 1; omega), q2, hbl.drew.trans p5, hkf.trans (((KeepsOthers.drew _).trans p4).from _)⟩
  · rw [List.length_append, List.map_append]
    exact p3
  · intro x hx
    rcases List.mem_append.1 hx with h1 | h1
    · exact hO.2 x h1
    · simp only [List.mem_cons, List.not_mem_nil, or_false] at h1
      rw [h1]; exact hc

set_option maxRecDepth 100000 in
set_option maxHeartbeats 2000000 in
theorem tell_fold (a : Option Addr) (g n cap base : Nat) (l : List Int) (w : World) (ha : 0 < n → a = some ⟨g, 0, none⟩) (hgw : g ≤ w.heap.size) (hn : n ≤ 100000) (hln : l.length = n) (hl : Grp 1000000 l) (hs : Calls Tryz.prog 67 #[.slice a n cap] w fun e w' => e = .returned (.tuple #[]) ∧ OwnsI w' base (.slice a n cap) l ∧ Below base w w') (hbw : base ≤ w.heap.size) :
    Calls Tryz.prog 54 #[.slice a n cap] w fun e w' => e = .returned (.tuple #[.string (shortA (lv 1000000 l).toNat).1, .int .i64 (shortA (lv 1000000 l).toNat).2]) ∧ Below base w w' := by
  obtain ⟨i0, hi, hz0, hz1, hz2⟩ := info_parts info5
  have w1 : IntKind.i64.wrap ((n : Int) * 6) = ((n * 6 : Nat) : Int) := by rw [wrap_fit (by omega) (by omega)]; omega
  refine (callsIn_wide (n := 5)).1 ?_
  refine callsIn_of_wp_marks Tryz.func54 rfl trivial ?_ rfl
  simp only [Tryz.ntmps54, List.size_toArray, List.length_cons, List.length_nil, Nat.reduceAdd, Nat.reduceSub, Array.replicate_succ, Array.replicate_zero, List.push_toArray, List.append_toArray, List.nil_append, List.cons_append]
  gi_wp2_with (first
    | (refine ⟨trivial, ?_⟩; gi_at_call 67; refine (callsIn_wide.2 hs).mono ?_; rintro e w2 ⟨rfl, ho2, hb2⟩)
    | (gi_at_make; refine wpListIn_make_own _ rfl _ _ 65 rfl base 5 i0 (.int .u8 0) 1 Tryz.underlying65 hi hz0 hz1 .i64 .i64 _ (n * 6) rfl rfl (by first | rfl | simp) (by rw [hz2]; omega) (by unfold maxLen; omega) (Nat.le_trans hbw hb2.size) ?_; intro w3 ho3 hg3)
    | (refine ⟨trivial, ?_⟩; gi_at_call 68; refine (back_in Fence.wide _ trivial rfl _ _ _ _).mono ?_; rintro e w' ⟨rfl, rfl⟩))
  have hb3 : Below base w w3 := hb2.grown hg3 (Nat.le_trans hbw hb2.size) (by simp)
  have hO3 : OwnsI w3 base (.slice a n cap) l := World.ownsRow.kept ho2 hg3 (by cases (Value.slice a n cap).ownBlock <;> simp)
  have hDn : OwnsB w3 base (.slice (some ⟨w2.heap.size, 0, none⟩) 0 (n * 6)) [] := ⟨ho3, by simp⟩
  clear ho2 hb2 hg3 ho3
  obtain ⟨W0, hW0⟩ : ∃ W0, (w3.alloc (.cells #[.slice (some ⟨w2.heap.size, 0, none⟩) 0 (n * 6)] 65)).alloc (.cells #[.slice a n cap] 78) = W0 := ⟨_, rfl⟩
  have hs0 : W0.heap.size = w3.heap.size + 2 := by rw [← hW0]; simp
  have hg0 : g < W0.heap.size := by have := hb3.size; omega
  have b1 : BoxB W0 w3.heap.size base [] := by rw [← hW0]; exact ⟨_, (Boxed.new w3 65 _).alloc _, (hDn.alloc _).alloc _⟩
  have b2 : Boxed W0 (w3.heap.size + 1) 78 (.slice a n cap) := by
    rw [← hW0]
    have := Boxed.new (w3.alloc (.cells #[.slice (some ⟨w2.heap.size, 0, none⟩) 0 (n * 6)] 65)) 78 (.slice a n cap)
    rw [World.size_alloc] at this
    exact this
  have hO : OwnsI W0 base (.slice a n cap) l := by rw [← hW0]; exact (hO3.alloc _).alloc _
  have hsz3 : base ≤ w3.heap.size := Nat.le_trans hbw hb3.size
  have hB : Below base w W0 := by
    rw [← hW0]
    exact (hb3.alloc hsz3 _).alloc (by simp; omega) _
  have hgood : ∀ W, OwnsI W base (.slice a n cap) l → GoodZ g n (fun j z => z = l.getD j 0 ∧ IsG z) W := fun W hW j hj => by
    obtain rfl := ha (by omega)
    exact ⟨_, hW.cell (by omega), rfl, hl.at (by omega)⟩
  rw [hW0]
  clear hW0 hO3 hDn hb3
  refine wpIn_rangeFunc_ownG (w := W0) rfl (by decide) (gf := 76) (lb := #[.pointer (some ⟨w3.heap.size + 1, 0, none⟩)]) rfl trivial (enters_of Tryz.func76 (by kernel_rfl) rfl)
    (back_stops Fence.wide _ trivial rfl (by decide) (w3.heap.size + 1) g n cap a ha (by omega) IsG (fun j z => z = l.getD j 0 ∧ IsG z) (fun _ _ h => h.2) W0 (by omega) hg0 b2.cell (hgood _ hO)) kpZ_t (kpZ_b (by omega) hg0) (Below.refl _ _) (fun _ => rfl)
    (fun pre W => BoxB W w3.heap.size base (digsOf pre) ∧ Boxed W (w3.heap.size + 1) 78 (.slice a n cap) ∧ OwnsI W base (.slice a n cap) l ∧ Below base w W)
    (fun _ _ _ => False)
    (fun s A B row hs hg hr => ⟨by
      obtain ⟨v, hv, ho⟩ := hs.1
      exact ⟨v, boxed_keep hv hg hr, row_keep ho.1 hg hr, ho.2⟩, boxed_keep hs.2.1 hg hr, row_keep hs.2.2.1 hg hr, below_keep hs.2.2.2 (by omega) hbw hg hr⟩)
    (fun _ _ _ _ _ hs _ _ => hs)
    ⟨b1, b2, hO, hB⟩
    (fun x => { tmps := #[.slice a n cap, undef, .string ⟨#[]⟩, .int .i64 0, .pointer (some ⟨w3.heap.size, 0, none⟩), undef, .int .i64 x.1.2, undef, .slice a n cap, .tuple #[], .slice a n cap, .int .i64 n, .int .i64 (n * 6), .slice (some ⟨w2.heap.size, 0, none⟩) 0 (n * 6), .slice a n cap, .func (.func 76) #[] #[.pointer (some ⟨w3.heap.size + 1, 0, none⟩)], .int .i64 (x.1.1 : Nat), .int .i64 x.1.2, undef, undef, undef, undef, undef, undef, undef, undef, undef, undef, undef, undef, undef, undef, undef, undef, undef, undef, undef, undef, undef, undef, undef], defers := [] }) ?assign ?body ?done ?stop
  case assign =>
    intro l x W K hK
    gi_wp2
    exact hK
  case body =>
    rintro lr pre x W ⟨c1, c2, hOr, hBr⟩ hlt
    obtain ⟨⟨q, z⟩, hq, hzG⟩ := x
    have hzs : Hid ((digsOf pre).length ≤ 700000) := by show _ ≤ _; rw [digsOf_len]; omega
    have hI : Hid (TellI w W0 W w3.heap.size base n cap a l (digsOf pre) W) := ⟨c1, c2, hOr, hBr, KeepsFrom.refl _ _⟩
    have mixed : Tryz.prog.follows .mixedOrders = true := by kernel_rfl
    have hfin : Hid (∀ wr, TellI w W0 W w3.heap.size base n cap a l (digsOf pre ++ dig6 z) wr → ownPostG W0.heap.size (KpZ (w3.heap.size + 1) g n fun j z => z = l.getD j 0 ∧ IsG z) (fun (pre : List (Bk n IsG)) W => BoxB W w3.heap.size base (digsOf pre) ∧ Boxed W (w3.heap.size + 1) 78 (.slice a n cap) ∧ OwnsI W base (.slice a n cap) l ∧ Below base w W) (fun _ _ _ => False) (pre ++ [⟨(q, z), hq, hzG⟩]) W .normal { tmps := #[], defers := [] } wr) := by
      rintro wr ⟨d1, d2, d3, d4, d5⟩
      refine ⟨d5, ⟨?_, fun _ => hgood _ d3⟩, ?_, d2, d3, d4⟩
      · unfold KpB
        rw [d2.cell, c2.cell]
      · rw [digsOf_snoc]
        exact d1
    clear c1 c2 hOr hBr b1 b2 hO hB
    have hzG' : IsG z := hzG
    generalize digsOf pre = zs at *
    gi_wp2
    gi_loopw [7] (fun wv wr => ∃ k : Nat, k ≤ 6 ∧ wv = .int .i64 (wt k) ∧ Hid (TellI w W0 W w3.heap.size base n cap a l (zs ++ (dig6 z).take k) wr)) (fun wv _ => (intOf wv).toNat)
    case atStart => exact ⟨0, by decide, rfl, (by show TellI _ _ _ _ _ _ _ _ _ _ _; rw [List.take_zero, List.append_nil]; exact hI.out)⟩
    case round =>
      obtain ⟨k, hk, rfl, hT⟩ := hrel
      by_cases hk6 : k < 6
      · have hwp := wt_pos hk6
        have hdz : 0 ≤ z / wt k % 10 ∧ z / wt k % 10 ≤ 9 := by omega
        obtain ⟨av, nv, cv, g', cap', w1', hbx, hrun, hcl, hfr, hI2⟩ := tell_append hT.out (48 + z / wt k % 10) (by omega) (by rw [List.length_append, List.length_take]; have := hzs.out; omega) (by omega) hbw
        rw [List.append_assoc, ← wt_dig hk6] at hI2
        have hI' : Hid _ := hI2
        have hcb := hbx.cell
        have hwn := wt_next hk6
        have hms : Hid ((intOf (.int .i64 (wt (k + 1)))).toNat < (intOf (.int .i64 (wt k))).toNat) := by
          show (wt (k + 1)).toNat < (wt k).toNat
          rw [← hwn, Int.tdiv_eq_ediv_of_nonneg (by omega)]
          omega
        have hY : IntKind.i64.wrap (z.tdiv (wt k)) = z / wt k := by
          rw [Int.tdiv_eq_ediv_of_nonneg hzG'.1]
          have h1 : 0 ≤ z / wt k := Int.ediv_nonneg hzG'.1 (by omega)
          have h2 : z / wt k ≤ z := Int.ediv_le_self _ hzG'.1
          exact wrap_fit (by omega) (by have := hzG'.2; omega)
        have hYn : 0 ≤ z / wt k := Int.ediv_nonneg hzG'.1 (by omega)
        have hR : Int.tmod (z / wt k) 10 = z / wt k % 10 := Int.tmod_eq_emod_of_nonneg hYn
        generalize z / wt k = Y at *
        generalize Y % 10 = D at *
        have hA : IntKind.i64.wrap (48 + D) = 48 + D := wrap_fit (by omega) (by omega)
        have hU : IntKind.u8.wrap (48 + D) = 48 + D := by rw [IntKind.wrap_u8]; omega
        have hw0 : (wt k = 0) = False := by simp; omega
        have hw1 : decide (0 < wt k) = true := by simp; omega
        have hwk : IntKind.i64.wrap (wt (k + 1)) = wt (k + 1) := by
          have h1 := hwn
          rw [Int.tdiv_eq_ediv_of_nonneg (by omega)] at h1
          exact wrap_fit (by omega) (by omega)
        obtain ⟨c, hcD⟩ : ∃ c, 48 + D = c := ⟨_, rfl⟩
        rw [hcD] at hA hU hrun
        have hcb2 : ∀ o, (wr.alloc o).cell? ⟨w3.heap.size, 0, none⟩ = some (.slice av nv cv) := fun o => (hbx.alloc o).cell
        clear hwp hdz hzG' hYn hI2 hT hI hfin
        gi_wp2
        refine region_round mixed (by rfl) ?_
        (refine wpAnyIn_take (i := 1) (v := ?_) rfl rfl (by kernel_rfl) (by kernel_rfl) (by kernel_rfl) (fun _ _ _ h => h) ⟨Or.inl ⟨by rfl, (by intro w; (go_simp <;> with_reducible rfl))⟩, fun _ => rfl⟩ ?_)
        (refine wpAnyIn_take (i := 2) (v := ?_) rfl rfl (by kernel_rfl) (by kernel_rfl) (by kernel_rfl) (fun _ _ _ h => h) ⟨Or.inl ⟨by rfl, (by intro w; (go_simp <;> with_reducible rfl))⟩, fun _ => rfl⟩ ?_)
        (refine wpAnyIn_take (i := 3) (v := ?_) rfl rfl (by kernel_rfl) (by kernel_rfl) (by kernel_rfl) (fun _ _ _ h => h) ⟨Or.inl ⟨by rfl, (by intro w; (go_simp <;> with_reducible rfl))⟩, fun _ => rfl⟩ ?_)
        (refine wpAnyIn_take (i := 4) (v := ?_) rfl rfl (by kernel_rfl) (by kernel_rfl) (by kernel_rfl) (fun _ _ _ h => h) ⟨Or.inl ⟨by rfl, (by intro w; (go_simp <;> with_reducible rfl))⟩, fun _ => rfl⟩ ?_)
        (refine wpAnyIn_take (i := 5) (v := ?_) rfl rfl (by kernel_rfl) (by kernel_rfl) (by kernel_rfl) (fun _ _ _ h => h) ⟨Or.inl ⟨by rfl, (by intro w; (go_simp <;> with_reducible rfl))⟩, fun _ => rfl⟩ ?_)
        (refine wpAnyIn_take (i := 6) (v := ?_) rfl rfl (by kernel_rfl) (by kernel_rfl) (by kernel_rfl) (fun _ _ _ h => h) ⟨Or.inl ⟨by rfl, (by intro w; (go_simp <;> with_reducible rfl))⟩, fun _ => rfl⟩ ?_)
        (refine wpAnyIn_ready (rs := [0, 7]) (by kernel_rfl) (by simp) ?_; refine (AllReadyIn.cons rfl (fun K hK => ?_) (AllReadyIn.cons rfl (fun K hK => ?_) AllReadyIn.nil)) <;> (go_simp; refine hK _ _ ?_; clear hK K))
        · (refine wpAnyIn_ready (rs := [7]) (by kernel_rfl) (by simp) ?_; refine (AllReadyIn.cons rfl (fun K hK => ?_) AllReadyIn.nil) <;> (go_simp; refine hK _ _ ?_; clear hK K))
          refine wpAnyIn_ready (rs := [8]) (by kernel_rfl) (by simp) (ready_append (s := .tmp 22) (x := .tmp 29) (t := 65) rfl rfl rfl hrun ?_)
          (refine wpAnyIn_ready (rs := [9]) (by kernel_rfl) (by simp) ?_; refine (AllReadyIn.cons rfl (fun K hK => ?_) AllReadyIn.nil) <;> (go_simp; refine hK _ _ ?_; clear hK K))
          (refine wpAnyIn_done (by kernel_rfl) ?_ _)
          gi_wp2
          go_roundw
          case rel => exact ⟨k + 1, by omega, rfl, hI'.out⟩
          case measure => exact hms.out
        · (refine wpAnyIn_ready (rs := [0]) (by kernel_rfl) (by simp) ?_; refine (AllReadyIn.cons rfl (fun K hK => ?_) AllReadyIn.nil) <;> (go_simp; refine hK _ _ ?_; clear hK K))
          refine wpAnyIn_ready (rs := [8]) (by kernel_rfl) (by simp) (ready_append (s := .tmp 22) (x := .tmp 29) (t := 65) rfl rfl rfl hrun ?_)
          (refine wpAnyIn_ready (rs := [9]) (by kernel_rfl) (by simp) ?_; refine (AllReadyIn.cons rfl (fun K hK => ?_) AllReadyIn.nil) <;> (go_simp; refine hK _ _ ?_; clear hK K))
          (refine wpAnyIn_done (by kernel_rfl) ?_ _)
          gi_wp2
          go_roundw
          case rel => exact ⟨k + 1, by omega, rfl, hI'.out⟩
          case measure => exact hms.out
      · obtain rfl : k = 6 := by omega
        have hT' := hT.out
        rw [show (dig6 z).take 6 = dig6 z from rfl] at hT'
        have hf := hfin.out wr hT'
        have e6 : wt 6 = 0 := by decide
        rw [e6]
        gi_wp2
        first | exact hf | (rw [hs0] at hf; exact hf)
  case done =>
    rintro D ys W hD hS ⟨c1, c2, hOr, hBr⟩ hK
    obtain ⟨v, hv, hOv⟩ := c1
    obtain ⟨av, m, cv, rfl, hm, -, hmc, hcc, hBy⟩ := hOv.form
    rw [desc_digs hS hln] at hm hBy
    have htr := trim_any av m cv (tellL l) W hBy.out hm.out hmc hcc
    have hcl := hv.cell
    have hfr := hv.frozen
    have hcl2 : ∀ u, (W.setCell ⟨w3.heap.size, 0, none⟩ u).cell? ⟨w3.heap.size, 0, none⟩ = some u := fun u => (hv.set u).cell
    have hV := tell_val hl
    have hDg := tell_digs l
    have hbap := fun u => fun (a' : Option Addr) (zs : List Int) (h : Bytes W a' zs) => bytes_apart (u := u) hv h
    have hkeep : Hid (∀ u, Below base w ((W.setCell ⟨w3.heap.size, 0, none⟩ u).putObj D (.deferred none))) := fun u => (hBr.setCell (p := ⟨w3.heap.size, 0, none⟩) hsz3 u).trans (belowK_b (w := w) hbw (W.setCell ⟨w3.heap.size, 0, none⟩ u) D _ _ (by have := hB.size; omega) ((KeepsOthers.setCell W ⟨w3.heap.size, 0, none⟩ u).same D _ hK rfl) rfl rfl)
    have hK' : ∀ u, (W.setCell ⟨w3.heap.size, 0, none⟩ u).heap[D]? = some (.deferred (some [])) := fun u => (KeepsOthers.setCell W ⟨w3.heap.size, 0, none⟩ u).same D _ hK rfl
    clear hBy hOv hOr c2 hS hBr
    gi_wp2_with (refine ⟨trivial, ?_⟩; gi_at_call 69; refine (callsIn_wide.2 htr).mono ?_; rintro e w9 ⟨⟨a', n', cap', rfl, hn', hb', hc1, hc2⟩, hw9⟩; obtain rfl : W = w9 := hw9.symm; refine Hid.out ?_)
    refine Lib.hid ?_
    have ks := conv_str (hbap (.slice a' n' cap') a' (trimL (tellL l)) hb') n' cap' hn'
    have hVn : Hid ((lv 1000000 l).toNat = valS (tellL l)) := by show _ = _; omega
    by_cases h0 : n' = 0
    · subst h0
      have ht0 := List.eq_nil_of_length_eq_zero hn'
      have hr : Hid (shortA (valS (tellL l)) = (⟨#[48]⟩, 0)) := by
        rw [trim_none ht0]
        exact short_zero
      clear htr ks hn' hb' ht0 hV hbap
      gi_wp2
      refine ⟨by simp, .inl ⟨_, _, rfl, run_takeDeferred (hK' _), ?_⟩⟩
      exact ⟨_, results_tmp2 rfl _ _ _, (by rw [hVn.out, hr.out]; rfl), hkeep.out _⟩
    · have hne : trimL (tellL l) ≠ [] := fun h => h0 (by rw [← hn', h]; rfl)
      have hnum := trim_num hDg hne
      have hd0 : ((n' : Int) == 0) = false := by simp; omega
      by_cases h8 : 800 < n'
      · have hr : Hid (shortA (valS (tellL l)) = (noS, 11)) := by
          refine short_long ?_
          rw [← hnum, hn']
          exact h8
        have hd8 : decide (800 < (n' : Int)) = true := by simp; omega
        clear htr ks hn' hb' hne hnum hV hbap h0 h8
        gi_wp2
        refine ⟨by simp, .inl ⟨_, _, rfl, run_takeDeferred (hK' _), ?_⟩⟩
        exact ⟨_, results_tmp2 rfl _ _ _, (by rw [hVn.out, hr.out]; rfl), hkeep.out _⟩
      · have hr : Hid (shortA (valS (tellL l)) = (strOfNums (trimL (tellL l)), 0)) := by
          rw [hnum]
          refine short_fits ?_
          rw [← hnum, hn']
          omega
        have hd8 : decide (800 < (n' : Int)) = false := by simp; omega
        clear htr hn' hb' hne hnum hV hbap h0 h8
        gi_wp2
        refine ⟨by simp, .inl ⟨_, _, rfl, run_takeDeferred (hK' _), ?_⟩⟩
        exact ⟨_, results_tmp2 rfl _ _ _, (by rw [hVn.out, hr.out]; rfl), hkeep.out _⟩
  case stop =>
    rintro D c pre W _ _ h _
    exact h.elim
theorem tell_any (v : Value) (l : List Int) (base : Nat) (w : World) (ho : OwnsI w base v l) (hb : ∀ g ∈ l, -1000000000000000000 ≤ g ∧ g ≤ 1000000000000000000) (h0 : 0 ≤ lv 1000000 l) (h1 : lv 1000000 l < 1000000 ^ l.length) (hn : l.length ≤ 100000) (hbw : base ≤ w.heap.size) :
    Calls Tryz.prog 54 #[v] w fun e w' => e = .returned (.tuple #[.string (shortA (lv 1000000 l).toNat).1, .int .i64 (shortA (lv 1000000 l).toNat).2]) ∧ Below base w w' := by
  have hs := settle_any v l base w ho hb
  obtain ⟨a1, a2, a3⟩ := settle_grp l 0
  rw [← settle_val h0 h1]
  obtain ⟨a, n, cap, rfl, hl, -, -, -, -⟩ := ho.form
  have hl' := hl.out
  by_cases hn0 : n = 0
  · exact tell_fold a w.heap.size n cap base (settleL 0 l).1 w (fun h => by omega) (Nat.le_refl _) (by omega) (by omega) a1 hs hbw
  · obtain ⟨g, n', cap', hv, -, -, -, hbg⟩ := ho.row (by omega)
    cases hv
    exact tell_fold _ g n cap base (settleL 0 l).1 w (fun _ => rfl) (by have := ho.ge; omega) (by omega) (by omega) a1 hs hbw
end Go.Proofs.YtjdceigndleadaaGreatDoor
