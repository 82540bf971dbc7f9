/-
  A number's digits gone over from the last one on (nat.fromLast), and a number put into groups (nat.put, nat.gather).
-/
import Derived.Test.YtjdceigndleadaaGreatDoorRound
namespace Go.Proofs.YtjdceigndleadaaGreatDoor
open Go.RowKit Go.Shelf
attribute [local go_sem] Oper.semAt_some

/-- What has come when k rounds are over. -/
def upto {α : Type} (f : Nat → α) (k : Nat) : List α := (List.range k).map f
theorem upto_succ {α : Type} (f : Nat → α) (k : Nat) : upto f (k + 1) = upto f k ++ [f k] := by simp [upto, List.range_succ]
theorem upto_length {α : Type} (f : Nat → α) (k : Nat) : (upto f k).length = k := by simp [upto]

/-- A place from the end, and a digit. -/
abbrev Dig (n : Nat) := { x : Nat × Int // x.1 < n ∧ 0 ≤ x.2 ∧ x.2 ≤ 9 }
theorem dig_ok (s : ByteArray) (h : Digs (bs s)) {j : Nat} (hj : j < s.size) : 0 ≤ (dgs (bs s)).getD j 0 ∧ (dgs (bs s)).getD j 0 ≤ 9 := by
  have := (dgs_grp h).at (k := j) (by rw [dgs_len, bs_len]; exact hj)
  omega
def digAt (s : ByteArray) (h0 : 0 < s.size) (h : Digs (bs s)) (j : Nat) : Dig s.size := if hj : j < s.size then ⟨(j, (dgs (bs s)).getD j 0), hj, dig_ok s h hj⟩ else ⟨(0, 0), h0, by decide⟩
theorem dig_cell (s : ByteArray) {j : Nat} (hj : j < s.size) (hi : s.size - 1 - j < s.size) : (((s[s.size - 1 - j]'hi).toNat : Nat) : Int) = (dgs (bs s)).getD j 0 + 48 := by
  rw [← bs_at s hi, dgs_getD _ _ (by rw [bs_len]; exact hj), bs_len]
  omega

/-- What lies in one block's first cell stays. -/
def KpB (B : Nat) (W W' : World) : Prop := W'.cell? ⟨B, 0, none⟩ = W.cell? ⟨B, 0, none⟩
theorem kpB_t {B : Nat} {X Y Z : World} (h : KpB B X Y) (k : KpB B Y Z) : KpB B X Z := k.trans h
theorem kpB_b {B : Nat} {w : World} (hB : B < w.heap.size) (W : World) (l : Nat) (o o' : Obj) (hl : w.heap.size ≤ l) (_ : W.heap[l]? = some o) (_ : o.isCells = false) (_ : o.isWalk = false) : KpB B W (W.putObj l o') := by
  unfold KpB World.cell?
  rw [World.putObj_heap_other (by show B ≠ l; omega)]

set_option maxRecDepth 100000 in
set_option maxHeartbeats 2000000 in
theorem last1_in (F : Fence) (n : Nat) (h7 : F.fn 93) (hro : F.round = none) (hn : 1 ≤ n) (l Bs : Nat) (s : ByteArray) (hp : 0 < s.size) (hd : Digs (bs s)) (hsz : s.size ≤ 9223372036854775807) (J Jx : List (Dig s.size) → World → Prop)
    (hY : ∀ pre x W, J pre W → pre.length < s.size → YieldAt F (n - 1) Tryz.prog l #[.int .i64 (x.1.1 : Nat), .int .i64 x.1.2] W fun e W' =>
      (e = .returned (.bool true) ∧ J (pre ++ [x]) W' ∧ KpB Bs W W') ∨ (e = .returned (.bool false) ∧ Jx (pre ++ [x]) W'))
    (W : World) (hBs : W.cell? ⟨Bs, 0, none⟩ = some (.string s)) (h0 : J [] W) :
    CallsIn F n Tryz.prog 93 #[.func (.yield l) #[] #[], .pointer (some ⟨Bs, 0, none⟩)] W fun e W' => (∃ v, e = .returned v) ∧
      ((∃ ys, ys = upto (digAt s hp hd) s.size ∧ J ys W') ∨ (∃ pre, (∃ k, k ≤ s.size ∧ pre = upto (digAt s hp hd) k) ∧ Jx pre W')) := by
  refine callsIn_of_wp Tryz.func93 rfl h7 ?_ hro
  simp only [Tryz.ntmps93, List.size_toArray, List.length_cons, List.length_nil, Nat.reduceAdd, Nat.reduceSub, Array.replicate_succ, Array.replicate_zero, List.push_toArray, List.append_toArray, List.nil_append, List.cons_append]
  gi_wp2
  gi_loopw [6] (fun i wr => ∃ k : Nat, k ≤ s.size ∧ i = .int .i64 k ∧ J (upto (digAt s hp hd) k) wr ∧ wr.cell? ⟨Bs, 0, none⟩ = some (.string s))
    (fun i _ => s.size - (intOf i).toNat)
  case atStart => exact ⟨0, Nat.zero_le _, rfl, h0, hBs⟩
  case round =>
    obtain ⟨k, hk, rfl, hJs, hcx⟩ := hrel
    clear hBs
    by_cases hlt : k < s.size
    · obtain ⟨fn, tmps, assign, body, hy, hR⟩ := hY _ (digAt s hp hd k) wr hJs (by rw [upto_length]; exact hlt)
      have ed : digAt s hp hd k = ⟨(k, (dgs (bs s)).getD k 0), hlt, dig_ok s hd hlt⟩ := dif_pos hlt
      have hdc := dig_cell s hlt (by omega)
      have hok := dig_ok s hd hlt
      rw [ed] at hy
      dsimp only at hy
      clear ed
      generalize (dgs (bs s)).getD k 0 = X at *
      gi_wp2
      refine hR.mono ?_
      rintro e W3 (⟨rfl, hJ3, hk3⟩ | ⟨rfl, hJx3⟩)
      · have hc3 := hk3.trans hcx
        gi_wp2
        go_roundw
        case rel => exact ⟨k + 1, by omega, by simp, by rw [upto_succ]; exact hJ3, hc3⟩
        case measure => simp [intOf]; omega
      · gi_wp2
        refine bodyPost_ret (results_none rfl _ _ _) rfl ?_
        exact ⟨⟨_, rfl⟩, .inr ⟨_, ⟨k + 1, by omega, (upto_succ _ _).symm⟩, hJx3⟩⟩
    · obtain rfl : k = s.size := by omega
      gi_wp2
      go_end0
      exact ⟨⟨_, rfl⟩, .inl ⟨_, rfl, hJs⟩⟩

set_option maxHeartbeats 1000000 in
theorem last_in (F : Fence) (n : Nat) (h5 : F.fn 81) (hro : F.round = none) (s : ByteArray) (w : World) :
    CallsIn F n Tryz.prog 81 #[.string s] w fun e w' => e = .returned (.func (.func 93) #[] #[.pointer (some ⟨w.heap.size, 0, none⟩)]) ∧ w' = w.alloc (.cells #[.string s] 9) := by
  refine callsIn_of_wp Tryz.func81 rfl h5 ?_ hro
  simp only [Tryz.ntmps81, List.size_toArray, List.length_cons, List.length_nil, Nat.reduceAdd, Nat.reduceSub, Array.replicate_succ, Array.replicate_zero, List.push_toArray, List.append_toArray, List.nil_append, List.cons_append]
  gi_wp2
  go_ret
  exact ⟨rfl, rfl⟩

theorem last_stops (F : Fence) (n : Nat) (h7 : F.fn 93) (hro : F.round = none) (hn : 1 ≤ n) (Bs : Nat) (s : ByteArray) (hp : 0 < s.size) (hd : Digs (bs s)) (hsz : s.size ≤ 9223372036854775807) (w : World) (hBs : Bs < w.heap.size) (hc : w.cell? ⟨Bs, 0, none⟩ = some (.string s)) :
    SeqStopsK F n Tryz.prog 93 #[.pointer (some ⟨Bs, 0, none⟩)] (fun x : Dig s.size => #[.int .i64 (x.1.1 : Nat), .int .i64 x.1.2]) (KpB Bs) (fun ys => ys = upto (digAt s hp hd) s.size) (fun pre => ∃ k, k ≤ s.size ∧ pre = upto (digAt s hp hd) k) s.size w := fun l J Jx W hW _ _ hY h0 =>
  last1_in F n h7 hro hn l Bs s hp hd hsz J Jx hY W ((hW.cell (p := ⟨Bs, 0, none⟩) hBs).trans hc) h0

/-! ### nat.put -/

/-- One digit is put. -/
def putStep (sign : Int) (st : List Int × Int) (x : Nat × Int) : List Int × Int :=
  (st.1.set (x.1 / 6) (IntKind.i64.wrap (st.1.getD (x.1 / 6) 0 + IntKind.i64.wrap (x.2 * st.2))),
    if IntKind.i64.wrap (st.2 * 10) = IntKind.i64.wrap (sign * 1000000) then sign else IntKind.i64.wrap (st.2 * 10))
def putF (sign : Int) (l : List Int) (xs : List (Nat × Int)) : List Int × Int := xs.foldl (putStep sign) (l, sign)
theorem putF_snoc (sign : Int) (l : List Int) (xs : List (Nat × Int)) (x : Nat × Int) : putF sign l (xs ++ [x]) = putStep sign (putF sign l xs) x := by simp [putF]
theorem putF_len (sign : Int) (l : List Int) (xs : List (Nat × Int)) : (putF sign l xs).1.length = l.length := by
  have h : ∀ (xs : List (Nat × Int)) (st : List Int × Int), (xs.foldl (putStep sign) st).1.length = st.1.length := by
    intro xs
    induction xs with
    | nil => intro st; rfl
    | cons x xs ih => intro st; rw [List.foldl_cons, ih]; simp [putStep]
  exact h xs _

/-! ### What stays where a block that is no cells turns -/
theorem boxed_keep {A B : World} {row : Option Nat} {X b : Nat} {t : TypeId} {v : Value} (h : Boxed A b t v) (hg : A.grownBy B row) (hr : ∀ r, row = some r → X ≤ r ∧ ∃ o : Obj, A.heap[r]? = some o ∧ o.isCells = false) : Boxed B b t v :=
  h.kept hg fun e => by
    obtain ⟨_, o, ho, hc⟩ := hr _ e.symm
    rw [show A.heap[b]? = _ from h] at ho
    cases ho; cases hc
theorem row_keep {A B : World} {row : Option Nat} {X base k : Nat} {e : TypeId} {v : Value} {xs : List Value} (h : A.ownsRow base e 1 v k xs) (hg : A.grownBy B row) (hr : ∀ r, row = some r → X ≤ r ∧ ∃ o : Obj, A.heap[r]? = some o ∧ o.isCells = false) : B.ownsRow base e 1 v k xs := by
  refine h.kept hg ?_
  rcases h.2 with ⟨rfl, _⟩ | ⟨g, cap, cur, rfl, _, hgb, _⟩
  · exact .inl rfl
  · refine .inr fun e' => ?_
    obtain ⟨_, o, ho, hc⟩ := hr g (by simpa [Value.ownBlock] using e'.symm)
    rw [hgb] at ho
    cases ho; cases hc
theorem below_keep {w A B : World} {row : Option Nat} {X n₀ : Nat} (h : Below n₀ w A) (hX : n₀ ≤ X) (hn : n₀ ≤ w.heap.size) (hg : A.grownBy B row) (hr : ∀ r, row = some r → X ≤ r ∧ ∃ o : Obj, A.heap[r]? = some o ∧ o.isCells = false) : Below n₀ w B :=
  h.grown hg (Nat.le_trans hn h.size) fun k e => Nat.le_trans hX (hr k e).1
theorem cell_apart (w : World) (a : Addr) (v : Value) {b j : Nat} (h : a.block ≠ b) : (w.setCell a v).cell? ⟨b, j, none⟩ = w.cell? ⟨b, j, none⟩ := by
  unfold World.cell?
  rw [Below.heap_setCell w a v b (fun e => h e.symm)]
theorem boxed_apart {w : World} {a : Addr} (u : Value) {b : Nat} {t : TypeId} {v : Value} (h : Boxed w b t v) (hne : a.block ≠ b) : Boxed (w.setCell a u) b t v := by
  unfold Boxed
  rw [Below.heap_setCell w a u b (fun e => hne e.symm)]
  exact h
theorem OwnsI.apart {w : World} {base g n cap : Nat} {l : List Int} (h : OwnsI w base (.slice (some ⟨g, 0, none⟩) n cap) l) {a : Addr} (u : Value) (hne : a.block ≠ g) : OwnsI (w.setCell a u) base (.slice (some ⟨g, 0, none⟩) n cap) l := by
  refine World.ownsRow.kept (row := some a.block) h ⟨rfl, rfl, rfl, (by simp [World.setCell]), fun k _ hk => Below.heap_setCell _ _ _ k (fun e => hk (by rw [e]))⟩ (.inr ?_)
  simp only [Value.ownBlock]
  intro e
  cases e
  exact hne rfl

set_option maxRecDepth 100000 in
set_option maxHeartbeats 2000000 in
theorem put_fold (g n cap base : Nat) (l : List Int) (s : ByteArray) (sign : Int) (w : World) (ho : OwnsI w base (.slice (some ⟨g, 0, none⟩) n cap) l) (hp : 0 < s.size) (hd : Digs (bs s)) (hsz : s.size ≤ 9223372036854775807) (hroom : s.size ≤ 6 * n) (hn : n ≤ 9223372036854775807) (hbw : base ≤ w.heap.size) :
    Calls Tryz.prog 71 #[.slice (some ⟨g, 0, none⟩) n cap, .string s, .int .i64 sign] w fun e w' => e = .returned (.tuple #[]) ∧
      OwnsI w' base (.slice (some ⟨g, 0, none⟩) n cap) (putF sign l ((upto (digAt s hp hd) s.size).map Subtype.val)).1 ∧ Below base w w' := by
  have hbg := ho.ge
  have hll := ho.len
  refine (callsIn_wide (n := 5)).1 ?_
  refine callsIn_of_wp_marks Tryz.func71 rfl trivial ?_ rfl
  simp only [Tryz.ntmps71, List.size_toArray, List.length_cons, List.length_nil, Nat.reduceAdd, Nat.reduceSub, Array.replicate_succ, Array.replicate_zero, List.push_toArray, List.append_toArray, List.nil_append, List.cons_append]
  gi_wp2_with (refine ⟨trivial, ?_⟩; gi_at_call 81; refine (last_in Fence.wide _ trivial rfl _ _).mono ?_; rintro e w' ⟨rfl, rfl⟩)
  obtain ⟨W0, hW0⟩ : ∃ W0, (((w.alloc (.cells #[.slice (some ⟨g, 0, none⟩) n cap] 78)).alloc (.cells #[.int .i64 sign] 3)).alloc (.cells #[.int .i64 sign] 3)).alloc (.cells #[.string s] 9) = W0 := ⟨_, rfl⟩
  have hs0 : W0.heap.size = w.heap.size + 4 := by rw [← hW0]; simp
  have b1 : Boxed W0 w.heap.size 78 (.slice (some ⟨g, 0, none⟩) n cap) := by rw [← hW0]; exact (((Boxed.new w 78 _).alloc _).alloc _).alloc _
  have b2 : Boxed W0 (w.heap.size + 1) 3 (.int .i64 sign) := by
    rw [← hW0]
    have := Boxed.new (w.alloc (.cells #[.slice (some ⟨g, 0, none⟩) n cap] 78)) 3 (.int .i64 sign)
    rw [World.size_alloc] at this
    exact (this.alloc _).alloc _
  have b3 : Boxed W0 (w.heap.size + 2) 3 (.int .i64 sign) := by
    rw [← hW0]
    have := Boxed.new ((w.alloc (.cells #[.slice (some ⟨g, 0, none⟩) n cap] 78)).alloc (.cells #[.int .i64 sign] 3)) 3 (.int .i64 sign)
    rw [World.size_alloc, World.size_alloc] at this
    exact this.alloc _
  have b4 : Boxed W0 (w.heap.size + 3) 9 (.string s) := by
    rw [← hW0]
    have := Boxed.new (((w.alloc (.cells #[.slice (some ⟨g, 0, none⟩) n cap] 78)).alloc (.cells #[.int .i64 sign] 3)).alloc (.cells #[.int .i64 sign] 3)) 9 (.string s)
    rw [World.size_alloc, World.size_alloc, World.size_alloc] at this
    exact this
  have hO : OwnsI W0 base (.slice (some ⟨g, 0, none⟩) n cap) l := by rw [← hW0]; exact (((ho.alloc _).alloc _).alloc _).alloc _
  have hB : Below base w W0 := by
    rw [← hW0]
    exact ((((Below.refl _ _).alloc hbw _).alloc (by simp; omega) _).alloc (by simp; omega) _).alloc (by simp; omega) _
  rw [hW0]
  clear hW0 ho
  refine wpIn_rangeFunc_ownG (w := W0) rfl (by decide) (gf := 93) (lb := #[.pointer (some ⟨w.heap.size + 1 + 1 + 1, 0, none⟩)]) rfl trivial (enters_of Tryz.func93 (by kernel_rfl) rfl)
    (last_stops Fence.wide _ trivial rfl (by decide) (w.heap.size + 1 + 1 + 1) s hp hd hsz W0 (by omega) b4.cell) kpB_t (kpB_b (by omega)) (Below.refl _ _) (fun _ => rfl)
    (fun pre W => (Boxed W w.heap.size 78 (.slice (some ⟨g, 0, none⟩) n cap) ∧ Boxed W (w.heap.size + 1) 3 (.int .i64 sign) ∧ Boxed W (w.heap.size + 2) 3 (.int .i64 (putF sign l (pre.map Subtype.val)).2)) ∧ OwnsI W base (.slice (some ⟨g, 0, none⟩) n cap) (putF sign l (pre.map Subtype.val)).1 ∧ Below base w W)
    (fun _ _ _ => False)
    (fun s A B row hs hg hr => ⟨⟨boxed_keep hs.1.1 hg hr, boxed_keep hs.1.2.1 hg hr, boxed_keep hs.1.2.2 hg hr⟩, row_keep hs.2.1 hg hr, below_keep hs.2.2 (by omega) hbw hg hr⟩)
    (fun _ _ _ _ _ hs _ _ => hs)
    ⟨⟨b1, b2, b3⟩, hO, hB⟩
    (fun x => { tmps := #[.slice (some ⟨g, 0, none⟩) n cap, .string s, .int .i64 sign, .pointer (some ⟨w.heap.size, 0, none⟩), undef, .pointer (some ⟨w.heap.size + 1, 0, none⟩), .pointer (some ⟨w.heap.size + 1 + 1, 0, none⟩), .int .i64 (x.1.1 : Nat), .int .i64 x.1.2, .int .i64 sign, .string s, .func (.func 93) #[] #[.pointer (some ⟨w.heap.size + 1 + 1 + 1, 0, none⟩)], .int .i64 (x.1.1 : Nat), .int .i64 x.1.2, undef, undef, undef, undef, undef, undef, undef, undef, undef, undef, undef, undef, undef, undef, undef, undef, undef], defers := [] }) ?assign ?body ?done ?stop
  case assign =>
    intro l x W K hK
    gi_wp2
    exact hK
  case body =>
    rintro lr pre x W ⟨⟨c1, c2, c3⟩, hOr, hBr⟩ hlt
    have k1 := c1.cell
    have k2 := c2.cell
    have k3 := c3.cell
    have f3 := c3.frozen
    have hx : x.1.1 / 6 < n := by have := x.2.1; omega
    have hc := hOr.cell (j := x.1.1 / 6) (by rw [putF_len, hll]; exact hx)
    have hf := hOr.frozen (x.1.1 / 6)
    have t1 : Int.tdiv ((x.1.1 : Nat) : Int) 6 = ((x.1.1 / 6 : Nat) : Int) := rfl
    have hsn : Hid (putF sign l ((pre ++ [x]).map Subtype.val) = putStep sign (putF sign l (pre.map Subtype.val)) x.1) := by
      show _ = _
      rw [List.map_append]
      exact putF_snoc sign l (pre.map Subtype.val) x.1
    obtain ⟨⟨Gs, T⟩, hT⟩ : ∃ st, putF sign l (pre.map Subtype.val) = st := ⟨_, rfl⟩
    obtain ⟨q, hq⟩ : ∃ q, x.1.1 / 6 = q := ⟨_, rfl⟩
    rw [hT] at hc k3 hOr hsn c3
    dsimp only at hc k3 hOr c3
    rw [hq] at hc hf hx t1
    have i1 : ((q : Nat) : Int) < (n : Int) := by omega
    have i2 : (0 : Int) ≤ ((q : Nat) : Int) := by omega
    have hXq : Hid (x.1.1 / 6 = q) := hq
    have hOr' : Hid _ := hOr
    have mixed : Tryz.prog.follows .mixedOrders = true := by kernel_rfl
    have wq : IntKind.i64.wrap ((q : Nat) : Int) = (q : Int) := by rw [IntKind.wrap_i64]; omega
    have t2 : ((x.1.1 : Nat) : Int) / 6 = (q : Int) := by omega
    have wx : ((x.1.1 : Nat) : Int) ≤ 9223372036854775807 := by have := x.2.1; omega
    have hne2 : g ≠ w.heap.size + 2 := by omega
    have hne1 : g ≠ w.heap.size + 1 := by omega
    have hne0 : g ≠ w.heap.size := by omega
    have hne3 : g ≠ w.heap.size + 3 := by omega
    unfold putStep at hsn
    rw [hq] at hsn
    dsimp only at hsn
    obtain ⟨G, hG⟩ : ∃ G, Gs.getD q 0 = G := ⟨_, rfl⟩
    rw [hG] at hc hsn
    obtain ⟨T1, hT1⟩ : ∃ T1, IntKind.i64.wrap (T * 10) = T1 := ⟨_, rfl⟩
    obtain ⟨S1, hS1⟩ : ∃ S1, IntKind.i64.wrap (sign * 1000000) = S1 := ⟨_, rfl⟩
    obtain ⟨U, hU⟩ : ∃ U, IntKind.i64.wrap (G + IntKind.i64.wrap (x.1.2 * T)) = U := ⟨_, rfl⟩
    rw [hT1, hS1, hU] at hsn
    have v3 : (W.setCell ⟨g, q, none⟩ (.int .i64 U)).cell? ⟨w.heap.size + 2, 0, none⟩ = some (.int .i64 T) := by rw [cell_apart _ _ _ (by exact hne2)]; exact k3
    have v2 : (W.setCell ⟨g, q, none⟩ (.int .i64 U)).cell? ⟨w.heap.size + 1, 0, none⟩ = some (.int .i64 sign) := by rw [cell_apart _ _ _ (by exact hne1)]; exact k2
    have B1 := boxed_apart (a := ⟨g, q, none⟩) (.int .i64 U) c1 hne0
    have B2 := boxed_apart (a := ⟨g, q, none⟩) (.int .i64 U) c2 hne1
    have B3 := boxed_apart (a := ⟨g, q, none⟩) (.int .i64 U) c3 hne2
    have z1 : ∀ t, ((W.setCell ⟨g, q, none⟩ (.int .i64 U)).setCell ⟨w.heap.size + 2, 0, none⟩ t).cell? ⟨w.heap.size + 2, 0, none⟩ = some t := fun t => (B3.set t).cell
    have z2 : ∀ t, ((W.setCell ⟨g, q, none⟩ (.int .i64 U)).setCell ⟨w.heap.size + 2, 0, none⟩ t).cell? ⟨w.heap.size + 1, 0, none⟩ = some (.int .i64 sign) := fun t => by rw [cell_apart _ _ _ (by show w.heap.size + 2 ≠ w.heap.size + 1; omega)]; exact v2
    have y1 : (W.setCell ⟨g, q, none⟩ (.int .i64 U)).frozen? ⟨w.heap.size + 2, 0, none⟩ = false := B3.frozen
    have y2 : ∀ t, ((W.setCell ⟨g, q, none⟩ (.int .i64 U)).setCell ⟨w.heap.size + 2, 0, none⟩ t).frozen? ⟨w.heap.size + 2, 0, none⟩ = false := fun t => (B3.set t).frozen
    have O1 := hOr.store q U
    have O2 : ∀ t, OwnsI ((W.setCell ⟨g, q, none⟩ (.int .i64 U)).setCell ⟨w.heap.size + 2, 0, none⟩ t) base (.slice (some ⟨g, 0, none⟩) n cap) (Gs.set q U) := fun t => O1.apart t (by exact hne2.symm)
    have C1 := fun t => boxed_apart (a := ⟨w.heap.size + 2, 0, none⟩) t B1 (by show w.heap.size + 2 ≠ w.heap.size; omega)
    have C2 := fun t => boxed_apart (a := ⟨w.heap.size + 2, 0, none⟩) t B2 (by show w.heap.size + 2 ≠ w.heap.size + 1; omega)
    have W2b : ∀ t, Below base w ((W.setCell ⟨g, q, none⟩ (.int .i64 U)).setCell ⟨w.heap.size + 2, 0, none⟩ t) := fun t => (hBr.setCell (p := ⟨g, q, none⟩) hbg.1 _).setCell (p := ⟨w.heap.size + 2, 0, none⟩) (by show base ≤ w.heap.size + 2; omega) _
    have W2k : ∀ t, KpB (w.heap.size + 1 + 1 + 1) W ((W.setCell ⟨g, q, none⟩ (.int .i64 U)).setCell ⟨w.heap.size + 2, 0, none⟩ t) := fun t => by
      unfold KpB
      rw [cell_apart _ _ _ (by show w.heap.size + 2 ≠ w.heap.size + 1 + 1 + 1; omega), cell_apart _ _ _ (by exact hne3)]
    have fin2 : Hid (T1 ≠ S1 → ownPostG W0.heap.size (KpB (w.heap.size + 1 + 1 + 1)) (fun (pre : List (Dig s.size)) W => (Boxed W w.heap.size 78 (.slice (some ⟨g, 0, none⟩) n cap) ∧ Boxed W (w.heap.size + 1) 3 (.int .i64 sign) ∧ Boxed W (w.heap.size + 2) 3 (.int .i64 (putF sign l (pre.map Subtype.val)).2)) ∧ OwnsI W base (.slice (some ⟨g, 0, none⟩) n cap) (putF sign l (pre.map Subtype.val)).1 ∧ Below base w W) (fun _ _ _ => False) (pre ++ [x]) W .normal { tmps := #[], defers := [] } ((W.setCell ⟨g, q, none⟩ (.int .i64 U)).setCell ⟨w.heap.size + 2, 0, none⟩ (.int .i64 T1)).drew) := by
      intro hne
      refine ⟨(((KeepsOthers.setCell _ _ _).trans (KeepsOthers.setCell _ _ _)).trans (KeepsOthers.drew _)).from _, W2k _, ?_⟩
      show (_ ∧ _) ∧ _
      rw [hsn.out, if_neg hne]
      exact ⟨⟨C1 _, C2 _, B3.set _⟩, O2 _, (W2b _).drew⟩
    have fin1 : Hid (T1 = S1 → ownPostG W0.heap.size (KpB (w.heap.size + 1 + 1 + 1)) (fun (pre : List (Dig s.size)) W => (Boxed W w.heap.size 78 (.slice (some ⟨g, 0, none⟩) n cap) ∧ Boxed W (w.heap.size + 1) 3 (.int .i64 sign) ∧ Boxed W (w.heap.size + 2) 3 (.int .i64 (putF sign l (pre.map Subtype.val)).2)) ∧ OwnsI W base (.slice (some ⟨g, 0, none⟩) n cap) (putF sign l (pre.map Subtype.val)).1 ∧ Below base w W) (fun _ _ _ => False) (pre ++ [x]) W .normal { tmps := #[], defers := [] } (((W.setCell ⟨g, q, none⟩ (.int .i64 U)).setCell ⟨w.heap.size + 2, 0, none⟩ (.int .i64 T1)).setCell ⟨w.heap.size + 2, 0, none⟩ (.int .i64 sign)).drew) := by
      intro heq
      have D1 := fun t t' => boxed_apart (a := ⟨w.heap.size + 2, 0, none⟩) t' (C1 t) (by show w.heap.size + 2 ≠ w.heap.size; omega)
      have D2 := fun t t' => boxed_apart (a := ⟨w.heap.size + 2, 0, none⟩) t' (C2 t) (by show w.heap.size + 2 ≠ w.heap.size + 1; omega)
      refine ⟨((((KeepsOthers.setCell _ _ _).trans (KeepsOthers.setCell _ _ _)).trans (KeepsOthers.setCell _ _ _)).trans (KeepsOthers.drew _)).from _, ?_, ?_⟩
      · refine kpB_t (W2k (.int .i64 T1)) ?_
        unfold KpB
        exact cell_apart _ _ _ (by show w.heap.size + 2 ≠ w.heap.size + 1 + 1 + 1; omega)
      · show (_ ∧ _) ∧ _
        rw [hsn.out, if_pos heq]
        exact ⟨⟨D1 _ _, D2 _ _, (B3.set _).set _⟩, (O2 _).apart _ (by exact hne2.symm), ((W2b _).setCell (p := ⟨w.heap.size + 2, 0, none⟩) (by show base ≤ w.heap.size + 2; omega) _).drew⟩
    clear hq hT hOr hne0 hne1 hne2 hne3 B1 B2 B3 O1 O2 C1 C2 W2b W2k hsn hG
    gi_wp2
    refine region_round mixed (by rfl) ?_
    (refine wpAnyIn_take (i := 1) (v := ?_) rfl rfl (by kernel_rfl) (by kernel_rfl) (by kernel_rfl) (fun _ _ _ h => h) ⟨Or.inl ⟨by rfl, (by intro w; (go_simp <;> with_reducible rfl))⟩, fun _ => rfl⟩ ?_)
    (refine wpAnyIn_take (i := 2) (v := ?_) rfl rfl (by kernel_rfl) (by kernel_rfl) (by kernel_rfl) (fun _ _ _ h => h) ⟨Or.inl ⟨by rfl, (by intro w; (go_simp <;> with_reducible rfl))⟩, fun _ => rfl⟩ ?_)
    (refine wpAnyIn_take (i := 5) (v := ?_) rfl rfl (by kernel_rfl) (by kernel_rfl) (by kernel_rfl) (fun _ _ _ h => h) ⟨Or.inl ⟨by rfl, (by intro w; (go_simp <;> with_reducible rfl))⟩, fun _ => rfl⟩ ?_)
    (refine wpAnyIn_ready (rs := [0, 6]) (by kernel_rfl) (by simp) ?_; refine (AllReadyIn.cons rfl (fun K hK => ?_) (AllReadyIn.cons rfl (fun K hK => ?_) AllReadyIn.nil)) <;> (go_simp; refine hK _ _ ?_; clear hK K))
    · (refine wpAnyIn_take (i := 3) (v := ?_) rfl rfl (by kernel_rfl) (by kernel_rfl) (by kernel_rfl) (fun _ _ _ h => h) ⟨Or.inl ⟨by rfl, (by intro w; (go_simp <;> with_reducible rfl))⟩, fun _ => rfl⟩ ?_)
      (refine wpAnyIn_ready (rs := [4, 6]) (by kernel_rfl) (by simp) ?_; refine (AllReadyIn.cons rfl (fun K hK => ?_) (AllReadyIn.cons rfl (fun K hK => ?_) AllReadyIn.nil)) <;> (go_simp; refine hK _ _ ?_; clear hK K))
      · (refine wpAnyIn_ready (rs := [6]) (by kernel_rfl) (by simp) ?_; refine (AllReadyIn.cons rfl (fun K hK => ?_) AllReadyIn.nil) <;> (go_simp; refine hK _ _ ?_; clear hK K))
        (refine wpAnyIn_take (i := 7) (v := ?_) rfl rfl (by kernel_rfl) (by kernel_rfl) (by kernel_rfl) (fun _ _ _ h => h) ⟨Or.inl ⟨by rfl, (by intro w; (go_simp <;> with_reducible rfl))⟩, fun _ => rfl⟩ ?_)
        (refine wpAnyIn_take (i := 8) (v := ?_) rfl rfl (by kernel_rfl) (by kernel_rfl) (by kernel_rfl) (fun _ _ _ h => h) ⟨Or.inl ⟨by rfl, (by intro w; (go_simp <;> with_reducible rfl))⟩, fun _ => rfl⟩ ?_)
        (refine wpAnyIn_take (i := 9) (v := ?_) rfl rfl (by kernel_rfl) (by kernel_rfl) (by kernel_rfl) (fun _ _ _ h => h) ⟨Or.inl ⟨by rfl, (by intro w; (go_simp <;> with_reducible rfl))⟩, fun _ => rfl⟩ ?_)
        (refine wpAnyIn_ready (rs := [10]) (by kernel_rfl) (by simp) ?_; refine (AllReadyIn.cons rfl (fun K hK => ?_) AllReadyIn.nil) <;> (go_simp; refine hK _ _ ?_; clear hK K))
        (refine wpAnyIn_done (by kernel_rfl) ?_ _)
        by_cases hTS : T1 = S1
        · have f1 := fin1.out hTS
          subst hTS
          gi_wp2
          first | exact f1 | (rw [hs0] at f1; exact f1)
        · have f2 := fin2.out hTS
          have dTS : (T1 == S1) = false := by simpa using hTS
          clear hTS
          gi_wp2
          first | exact f2 | (rw [hs0] at f2; exact f2)
      · (refine wpAnyIn_take (i := 7) (v := ?_) rfl rfl (by kernel_rfl) (by kernel_rfl) (by kernel_rfl) (fun _ _ _ h => h) ⟨Or.inl ⟨by rfl, (by intro w; (go_simp <;> with_reducible rfl))⟩, fun _ => rfl⟩ ?_)
        (refine wpAnyIn_ready (rs := [4]) (by kernel_rfl) (by simp) ?_; refine (AllReadyIn.cons rfl (fun K hK => ?_) AllReadyIn.nil) <;> (go_simp; refine hK _ _ ?_; clear hK K))
        (refine wpAnyIn_take (i := 8) (v := ?_) rfl rfl (by kernel_rfl) (by kernel_rfl) (by kernel_rfl) (fun _ _ _ h => h) ⟨Or.inl ⟨by rfl, (by intro w; (go_simp <;> with_reducible rfl))⟩, fun _ => rfl⟩ ?_)
        (refine wpAnyIn_take (i := 9) (v := ?_) rfl rfl (by kernel_rfl) (by kernel_rfl) (by kernel_rfl) (fun _ _ _ h => h) ⟨Or.inl ⟨by rfl, (by intro w; (go_simp <;> with_reducible rfl))⟩, fun _ => rfl⟩ ?_)
        (refine wpAnyIn_ready (rs := [10]) (by kernel_rfl) (by simp) ?_; refine (AllReadyIn.cons rfl (fun K hK => ?_) AllReadyIn.nil) <;> (go_simp; refine hK _ _ ?_; clear hK K))
        (refine wpAnyIn_done (by kernel_rfl) ?_ _)
        by_cases hTS : T1 = S1
        · have f1 := fin1.out hTS
          subst hTS
          gi_wp2
          first | exact f1 | (rw [hs0] at f1; exact f1)
        · have f2 := fin2.out hTS
          have dTS : (T1 == S1) = false := by simpa using hTS
          clear hTS
          gi_wp2
          first | exact f2 | (rw [hs0] at f2; exact f2)
    · (refine wpAnyIn_take (i := 7) (v := ?_) rfl rfl (by kernel_rfl) (by kernel_rfl) (by kernel_rfl) (fun _ _ _ h => h) ⟨Or.inl ⟨by rfl, (by intro w; (go_simp <;> with_reducible rfl))⟩, fun _ => rfl⟩ ?_)
      (refine wpAnyIn_ready (rs := [0]) (by kernel_rfl) (by simp) ?_; refine (AllReadyIn.cons rfl (fun K hK => ?_) AllReadyIn.nil) <;> (go_simp; refine hK _ _ ?_; clear hK K))
      (refine wpAnyIn_take (i := 3) (v := ?_) rfl rfl (by kernel_rfl) (by kernel_rfl) (by kernel_rfl) (fun _ _ _ h => h) ⟨Or.inl ⟨by rfl, (by intro w; (go_simp <;> with_reducible rfl))⟩, fun _ => rfl⟩ ?_)
      (refine wpAnyIn_ready (rs := [4]) (by kernel_rfl) (by simp) ?_; refine (AllReadyIn.cons rfl (fun K hK => ?_) AllReadyIn.nil) <;> (go_simp; refine hK _ _ ?_; clear hK K))
      (refine wpAnyIn_take (i := 8) (v := ?_) rfl rfl (by kernel_rfl) (by kernel_rfl) (by kernel_rfl) (fun _ _ _ h => h) ⟨Or.inl ⟨by rfl, (by intro w; (go_simp <;> with_reducible rfl))⟩, fun _ => rfl⟩ ?_)
      (refine wpAnyIn_take (i := 9) (v := ?_) rfl rfl (by kernel_rfl) (by kernel_rfl) (by kernel_rfl) (fun _ _ _ h => h) ⟨Or.inl ⟨by rfl, (by intro w; (go_simp <;> with_reducible rfl))⟩, fun _ => rfl⟩ ?_)
      (refine wpAnyIn_ready (rs := [10]) (by kernel_rfl) (by simp) ?_; refine (AllReadyIn.cons rfl (fun K hK => ?_) AllReadyIn.nil) <;> (go_simp; refine hK _ _ ?_; clear hK K))
      (refine wpAnyIn_done (by kernel_rfl) ?_ _)
      by_cases hTS : T1 = S1
      · have f1 := fin1.out hTS
        subst hTS
        gi_wp2
        first | exact f1 | (rw [hs0] at f1; exact f1)
      · have f2 := fin2.out hTS
        have dTS : (T1 == S1) = false := by simpa using hTS
        clear hTS
        gi_wp2
        first | exact f2 | (rw [hs0] at f2; exact f2)
  case done =>
    rintro D ys W hD rfl ⟨⟨c1, c2, c3⟩, hOr, hBr⟩ hK
    gi_wp2
    refine ⟨by simp, .inl ⟨_, _, rfl, run_takeDeferred hK, ?_⟩⟩
    exact ⟨_, results_none rfl _ _ _, rfl, ownsRow_putObj hOr _ hK rfl, hBr.trans (belowK_b (w := w) hbw W D _ _ (by omega) hK rfl rfl)⟩
  case stop =>
    rintro D c pre W _ _ h _
    exact h.elim
end Go.Proofs.YtjdceigndleadaaGreatDoor
