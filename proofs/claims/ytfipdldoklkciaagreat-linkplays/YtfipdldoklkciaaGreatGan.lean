/-
  Texts Lkh.
-/
import Derived.Test.YtfipdldoklkciaaGreatGaj
import Derived.Test.YtfipdldoklkciaaGreatGak
import Derived.Deep.RegionHeld3
namespace Go.Proofs.YtfipdldoklkciaaGreat
open Go.RowKit
set_option linter.unusedVariables false
def arrU (L : List Int) (k : Nat) : List Value := ((List.range k).map fun j => Value.int .u64 (uV L j : Nat)) ++ List.replicate (8 - k) (.int .u64 0)
theorem arrU_set (L : List Int) (k : Nat) (hk : k < 8) : (arrU L k).toArray.setIfInBounds k (.int .u64 (uV L k : Nat)) = (arrU L (k + 1)).toArray := by
  match k, hk with
  | 0, _ => rfl
  | 1, _ => rfl
  | 2, _ => rfl
  | 3, _ => rfl
  | 4, _ => rfl
  | 5, _ => rfl
  | 6, _ => rfl
  | 7, _ => rfl
theorem arrU_len (L : List Int) (k : Nat) (hk : k ≤ 8) : (arrU L k).length = 8 := by
  unfold arrU
  rw [List.length_append, List.length_map, List.length_range, List.length_replicate]
  omega
def m0 : Mg := ⟨0, 0, 0, 0, 0, 0, 0, 0, []⟩
def outM (zs : List Int) : Mg := if upE zs = 0 then upG zs else m0
/-- A slice of bytes in memory from B on. -/
structure Sb (w : World) (B : Nat) (a : Option Addr) (n c : Nat) (zs : List Int) : Prop where
  by_ : Bytes w a zs
  len : zs.length = n
  le : n ≤ c
  nil : a = none → c = 0
  at_ : ∀ x, a = some x → B ≤ x.block
  ty : ∀ x, a = some x → ∃ cs, Blk w x.block cs 5
def UpR (w w' : World) (zs : List Int) (e : Ending) : Prop := ∃ a n c, e = .returned (.tuple #[mval (outM zs) a n c, .int .i64 (upE zs)]) ∧ Hid (Sb w' w.heap.size a n c (outM zs).zs)
theorem unpack_sum (a : Option Addr) (n cap : Nat) (zs : List Int) (w : World) (hl : zs.length = n) (hb : Bytes w a zs) (hc : n ≤ cap) (hcm : cap ≤ 9223372036854775807) (hw : wfB zs = false) :
    Calls Tryz.prog 56 #[.slice a n cap] w fun e w' => Hid (UpR w w' zs e) ∧ Hid (Below w.heap.size w w') := by
  have k0 := fun x (hx : Below w.heap.size w x) => loadof_any a n cap zs x hl (hb.kept hx) hc hcm
  have hE : Hid (upE zs = 4 ∧ outM zs = m0) := by
    have : upE zs = 4 := by unfold upE; rw [if_pos hw]
    exact ⟨this, by unfold outM; rw [if_neg (by rw [this]; decide)]⟩
  have hw' : Hid (wfB zs = false) := hw
  clear hl hb hc hcm hw
  go_enter Tryz.func56, Tryz.ntmps56
  go_wp2_with fail
  refine (k0 _ ((Below.refl w.heap.size w).alloc (Nat.le_refl _) _)).mono ?_
  rintro e w1 ⟨h1, hb1⟩
  obtain ⟨v, rfl⟩ := h1.out.2 hw'.out
  have hbk : Hid (Blk w1 w.heap.size #[.int .i64 0, .int .u64 0, .int .i64 0, .int .i64 0, .int .i64 0, .int .u64 0, .int .i64 0, .int .i64 0, .slice none 0 0] 100) := (blk_new w _ _).kept hb1.out
  have hB1 : Hid (Below w.heap.size w w1) := ((Below.refl w.heap.size w).alloc (Nat.le_refl _) _).trans (hb1.out.mono (by simp))
  have c0 := hbk.out.cell 0
  have c1 := hbk.out.cell 1
  have c2 := hbk.out.cell 2
  have c3 := hbk.out.cell 3
  have c4 := hbk.out.cell 4
  have c5 := hbk.out.cell 5
  have c6 := hbk.out.cell 6
  have c7 := hbk.out.cell 7
  have c8 := hbk.out.cell 8
  have f := hbk.out.fz
  clear h1 hb1 k0 hw'
  generalize hrr : w.heap.size = r at *
  have hr : Hid (w.heap.size = r) := hrr
  clear hrr
  go_wp2
  refine bodyPost_ret (v := .tuple #[.agg #[.int .i64 0, .int .u64 0, .int .i64 0, .int .i64 0, .int .i64 0, .int .u64 0, .int .i64 0, .int .i64 0, .slice none 0 0], .int .i64 4]) (by simp [results, Tryz.results56, go_sem, *]) rfl ⟨⟨none, 0, 0, ?_, ?_⟩, ?_⟩
  · rw [hE.out.1, hE.out.2]; rfl
  · rw [hE.out.2]
    exact ⟨⟨by simp [m0], by simp [m0], .inl rfl⟩, rfl, Nat.le_refl _, fun _ => rfl, (fun x hx => by cases hx), (fun x hx => by cases hx)⟩
  · have hle : w.heap.size ≤ r := by have := hr.out; omega
    have h0 : Below w.heap.size w w1 := by rw [hr.out]; exact hB1.out
    repeat (refine Below.setCell ?_ (by exact hle) _)
    exact h0
theorem take_left (base g p y f n : Nat) (a : Option Addr) (zs : List Int) (w : World) (h : Cur w base g a n zs p y f) :
    Calls Tryz.prog 90 #[.pointer (some ⟨g, 0, none⟩), .int .i64 ((n - p : Nat) : Int)] w fun e w' => ∃ a3 k, e = .returned (.slice a3 k k) ∧ Hid (Sb w' w.heap.size a3 k k (if y = 0 then zs.drop p else [])) ∧ Hid (∃ p', Cur w' base g a n zs p' y f) ∧ Hid (w.grownBy w' (some g)) := by
  by_cases hy : y = 0
  · subst hy
    have hp : p ≤ n := h.2.2.2.1
    have hn : zs.length = n := h.2.2.1
    refine (take_ok base g p f n (n - p) a zs w h (by omega)).mono ?_
    rintro e w' ⟨a', rfl, hR, hB, hC, hg⟩
    have e1 : (zs.drop p).take (n - p) = zs.drop p := List.take_of_length_le (by rw [List.length_drop]; omega)
    rw [e1] at hR hB
    refine ⟨a', n - p, rfl, ⟨hB.out, by rw [if_pos rfl, List.length_drop]; omega, Nat.le_refl _, fun ha => ?_, fun x hx => (hR.out.places x hx).1, fun x hx => ?_⟩, ⟨_, hC⟩, hg⟩
    · subst ha
      rcases hR.out with ⟨_, hz⟩ | ⟨_, _, hx, _⟩
      · have := congrArg List.length hz
        rw [List.length_drop] at this
        simp at this
        omega
      · cases hx
    · rcases hR.out with ⟨h1, _⟩ | ⟨gg, cur, h1, h2, h3, _⟩
      · rw [h1] at hx; cases hx
      · rw [h1] at hx
        cases hx
        exact ⟨cur, h3⟩
  · refine (take_stop base g p y f n a zs ((n - p : Nat) : Int) w h hy).mono ?_
    rintro e w' ⟨rfl, hC, hg⟩
    rw [if_neg hy]
    exact ⟨none, 0, rfl, ⟨⟨by simp, by simp, .inl rfl⟩, rfl, Nat.le_refl _, fun _ => rfl, (fun x hx => by cases hx), (fun x hx => by cases hx)⟩, ⟨_, hC⟩, hg⟩
theorem arrU_get (L : List Int) {k : Nat} (hk : k < 8) : (arrU L k)[k]? = some (.int .u64 0) := by
  match k, hk with
  | 0, _ => rfl
  | 1, _ => rfl
  | 2, _ => rfl
  | 3, _ => rfl
  | 4, _ => rfl
  | 5, _ => rfl
  | 6, _ => rfl
  | 7, _ => rfl
theorem Below.al {w x : World} (h : Below w.heap.size w x) (o : Obj) : Below w.heap.size w (x.alloc o) := h.alloc h.size o
theorem K2.al {q g : Nat} {w x : World} (h : K2 q g w x) (o : Obj) : K2 q g w (x.alloc o) := h.trans (K2.of_below ((Below.refl _ _).alloc (Nat.le_refl _) o))
theorem Sb.kept {w w' : World} {B : Nat} {a : Option Addr} {n c : Nat} {zs : List Int} (h : Sb w B a n c zs) (hb : Below w.heap.size w w') : Sb w' B a n c zs := ⟨h.by_.kept hb, h.len, h.le, h.nil, h.at_, fun x hx => (h.ty x hx).imp fun cs hc => hc.kept hb⟩
theorem blkA {w w' : World} {cs : Array Value} {T : TypeId} (h : Below (w.alloc (.cells cs T)).drew.heap.size (w.alloc (.cells cs T)).drew w') : Hid (Blk w' w.heap.size cs T) := (blk_new w cs T).kept (w := w.alloc (.cells cs T)) ⟨h.os, h.tape, h.output, h.size, h.block⟩
theorem blkB {w w' : World} {cs : Array Value} {T : TypeId} (h : Below (w.alloc (.cells cs T)).heap.size (w.alloc (.cells cs T)) w') : Hid (Blk w' w.heap.size cs T) := (blk_new w cs T).kept h
theorem blkK {g : Nat} {w w' : World} {cs : Array Value} {T : TypeId} (h : K2 g g (w.alloc (.cells cs T)) w') (hne : w.heap.size ≠ g) : Hid (Blk w' w.heap.size cs T) := (h.block w.heap.size (by simp) hne hne).trans (blk_new w cs T)
theorem blkD {tb : Nat} {w w' : World} {cs : Array Value} {T : TypeId} (hb : Blk w tb cs T) (h : Below w.heap.size w w') : Hid (Blk w' tb cs T) := hb.kept h
theorem blkC {g tb : Nat} {w w' : World} {cs : Array Value} {T : TypeId} (hb : Blk w tb cs T) (h : K2 g g w w') (hne : tb ≠ g) : Hid (Blk w' tb cs T) := (h.block tb hb.lt hne hne).trans hb
theorem Blk.ty' {w : World} {g : Nat} {cs cs' : Array Value} {T T' : TypeId} (h : Blk w g cs T) (h' : Blk w g cs' T') : T = T' := by
  unfold Blk at h h'
  rw [h] at h'
  injection h' with h'
  injection h' with _ h'
def restU (L : List Int) : List Int := if (uS L 8).2.1 = 0 then L.drop (uS L 8).1 else []
theorem up_five {zs L : List Int} (hw : wfB zs = true) (hL : loadAt zs = L) (h : ¬ ((uS L 8).2.1 = 0 ∧ mayM (upM L) = true)) : upE zs = 5 ∧ outM zs = m0 := by
  have : upE zs = 5 := by unfold upE; rw [if_neg (by rw [hw]; decide), hL, if_neg h]
  exact ⟨this, by unfold outM; rw [if_neg (by rw [this]; decide)]⟩
theorem up_zero {zs L : List Int} (hw : wfB zs = true) (hL : loadAt zs = L) (h : (uS L 8).2.1 = 0 ∧ mayM (upM L) = true) : upE zs = 0 ∧ outM zs = upM L := by
  have : upE zs = 0 := by unfold upE; rw [if_neg (by rw [hw]; decide), hL, if_pos h]
  exact ⟨this, by unfold outM upG; rw [if_pos this, hL]⟩
theorem upr_five {w w' : World} {zs : List Int} {e : Ending} (h : upE zs = 5 ∧ outM zs = m0) (he : e = .returned (.tuple #[.agg #[.int .i64 0, .int .u64 0, .int .i64 0, .int .i64 0, .int .i64 0, .int .u64 0, .int .i64 0, .int .i64 0, .slice none 0 0], .int .i64 5])) : UpR w w' zs e := by
  refine ⟨none, 0, 0, ?_, ?_⟩
  · rw [h.1, h.2, he]; rfl
  · rw [h.2]
    exact ⟨⟨by simp [m0], by simp [m0], .inl rfl⟩, rfl, Nat.le_refl _, fun _ => rfl, (fun x hx => by cases hx), (fun x hx => by cases hx)⟩
theorem Sb.set {w : World} {B : Nat} {a : Option Addr} {n c : Nat} {zs : List Int} (h : Sb w B a n c zs) {r : Nat} (hr : r < B) (j : Nat) (v : Value) : Sb (w.setCell ⟨r, j, none⟩ v) B a n c zs := by
  have hk : K2 r r w (w.setCell ⟨r, j, none⟩ v) := K2.set w j v
  have hne : ∀ x, a = some x → x.block ≠ r := fun x hx => by have := h.at_ x hx; omega
  refine ⟨h.by_.k2 hk (fun x hx => ⟨hne x hx, hne x hx⟩), h.len, h.le, h.nil, h.at_, fun x hx => ?_⟩
  obtain ⟨cs, hc⟩ := h.ty x hx
  exact ⟨cs, (hk.block x.block hc.lt (hne x hx) (hne x hx)).trans hc⟩
theorem Sb.base {w : World} {B B' : Nat} {a : Option Addr} {n c : Nat} {zs : List Int} (h : Sb w B a n c zs) (hb : B' ≤ B) : Sb w B' a n c zs := ⟨h.by_, h.len, h.le, h.nil, fun x hx => Nat.le_trans hb (h.at_ x hx), h.ty⟩
/-- What holds behind the reading: the message lies in block tb. -/
structure FP (wr X : World) (g tb B1 n1 : Nat) (a2 : Option Addr) (L : List Int) (y f : Nat) (R : List Int) (a3 : Option Addr) (k3 : Nat) (cs : Array Value) : Prop where
  blk : Blk X tb cs 100
  k : K2 g g wr X
  sb : Sb X wr.heap.size a3 k3 k3 R
  cu : ∃ p', Cur X B1 g a2 n1 L p' y f
  le : wr.heap.size ≤ tb
  ne : tb ≠ g
  na : ∀ x, a2 = some x → x.block < wr.heap.size
theorem FP.set {wr X : World} {g tb B1 n1 : Nat} {a2 : Option Addr} {L : List Int} {y f : Nat} {R : List Int} {a3 : Option Addr} {k3 : Nat} {cs : Array Value} (h : FP wr X g tb B1 n1 a2 L y f R a3 k3 cs) (j : Nat) (v : Value) : FP wr (X.setCell ⟨tb, j, none⟩ v) g tb B1 n1 a2 L y f R a3 k3 (cs.setIfInBounds j v) := by
  have hg : X.grownBy (X.setCell ⟨tb, j, none⟩ v) (some tb) := ⟨rfl, rfl, rfl, by simp [World.setCell], fun q hq hne => Below.heap_setCell _ _ _ _ (fun e => hne (by rw [e]))⟩
  have hk : K2 tb tb X (X.setCell ⟨tb, j, none⟩ v) := K2.set X j v
  have hn5 : ∀ c, ¬ Blk X tb c 5 := fun c k => absurd (h.blk.ty' k) (by decide)
  refine ⟨h.blk.set j v, h.k.setnew h.le j v, ?_, ?_, h.le, h.ne, h.na⟩
  · have hne : ∀ x, a3 = some x → x.block ≠ tb := fun x hx e => by
      obtain ⟨c, hc⟩ := h.sb.ty x hx
      rw [e] at hc
      exact hn5 c hc
    refine ⟨h.sb.by_.k2 hk (fun x hx => ⟨hne x hx, hne x hx⟩), h.sb.len, h.sb.le, h.sb.nil, h.sb.at_, fun x hx => ?_⟩
    obtain ⟨c, hc⟩ := h.sb.ty x hx
    exact ⟨c, (hk.block x.block hc.lt (hne x hx) (hne x hx)).trans hc⟩
  · obtain ⟨p', hc⟩ := h.cu
    exact ⟨p', hc.other hg h.ne (fun x hx => by have := h.na x hx; have := h.le; omega)⟩
theorem nine_arr (v0 v1 v2 v3 v4 v5 v6 v7 v8 : Value) : ((((((((((#[.int .i64 0, .int .u64 0, .int .i64 0, .int .i64 0, .int .i64 0, .int .u64 0, .int .i64 0, .int .i64 0, .slice none 0 0] : Array Value).setIfInBounds 0 v0).setIfInBounds 1 v1).setIfInBounds 2 v2).setIfInBounds 3 v3).setIfInBounds 4 v4).setIfInBounds 5 v5).setIfInBounds 6 v6).setIfInBounds 7 v7).setIfInBounds 8 v8) = #[v0, v1, v2, v3, v4, v5, v6, v7, v8] := by simp only [List.setIfInBounds_toArray, List.set_cons_zero, List.set_cons_succ]
theorem FP.nine {wr X : World} {g tb B1 n1 : Nat} {a2 : Option Addr} {L : List Int} {y f : Nat} {R : List Int} {a3 : Option Addr} {k3 : Nat} (h : FP wr X g tb B1 n1 a2 L y f R a3 k3 #[.int .i64 0, .int .u64 0, .int .i64 0, .int .i64 0, .int .i64 0, .int .u64 0, .int .i64 0, .int .i64 0, .slice none 0 0]) (v0 v1 v2 v3 v4 v5 v6 v7 v8 : Value) : FP wr (((((((((X.setCell ⟨tb, 0, none⟩ v0).setCell ⟨tb, 1, none⟩ v1).setCell ⟨tb, 2, none⟩ v2).setCell ⟨tb, 3, none⟩ v3).setCell ⟨tb, 4, none⟩ v4).setCell ⟨tb, 5, none⟩ v5).setCell ⟨tb, 6, none⟩ v6).setCell ⟨tb, 7, none⟩ v7).setCell ⟨tb, 8, none⟩ v8) g tb B1 n1 a2 L y f R a3 k3 #[v0, v1, v2, v3, v4, v5, v6, v7, v8] := by
  have h9 := (((((((((h.set 0 v0).set 1 v1).set 2 v2).set 3 v3).set 4 v4).set 5 v5).set 6 v6).set 7 v7).set 8 v8)
  rw [nine_arr] at h9
  exact h9
set_option maxHeartbeats 4000000 in
set_option maxRecDepth 100000 in
theorem unpack_wf (a : Option Addr) (n cap : Nat) (zs : List Int) (w : World) (hl : zs.length = n) (hb : Bytes w a zs) (hc : n ≤ cap) (hcm : cap ≤ 9223372036854775807) (hw : wfB zs = true) :
    Calls Tryz.prog 56 #[.slice a n cap] w fun e w' => Hid (UpR w w' zs e) ∧ Hid (Below w.heap.size w w') := by
  have k0 := fun x (hx : Below w.heap.size w x) => loadof_any a n cap zs x hl (hb.kept hx) hc hcm
  have hw' : Hid (wfB zs = true) := hw
  have hwf : Hid (wfB zs = true) := hw
  clear hl hb hc hcm hw
  go_enter Tryz.func56, Tryz.ntmps56
  go_wp2_with fail
  refine (k0 _ ((Below.refl w.heap.size w).alloc (Nat.le_refl _) _)).mono ?_
  rintro e w1 ⟨h1, hb1⟩
  obtain ⟨a1, n1, c1, rfl, hL1⟩ := h1.out.1 hw'.out
  generalize hLL : loadAt zs = L at *
  have hLL' : Hid (loadAt zs = L) := hLL
  have hbk : Hid (Blk (w.alloc (.cells #[.int .i64 0, .int .u64 0, .int .i64 0, .int .i64 0, .int .i64 0, .int .u64 0, .int .i64 0, .int .i64 0, .slice none 0 0] 100)) w.heap.size #[.int .i64 0, .int .u64 0, .int .i64 0, .int .i64 0, .int .i64 0, .int .u64 0, .int .i64 0, .int .i64 0, .slice none 0 0] 100) := blk_new w _ _
  have hW0 : Hid (Below w.heap.size w (w.alloc (.cells #[.int .i64 0, .int .u64 0, .int .i64 0, .int .i64 0, .int .i64 0, .int .u64 0, .int .i64 0, .int .i64 0, .slice none 0 0] 100))) := (Below.refl w.heap.size w).alloc (Nat.le_refl _) _
  clear h1 k0 hw' hLL
  generalize (w.alloc (.cells #[.int .i64 0, .int .u64 0, .int .i64 0, .int .i64 0, .int .i64 0, .int .u64 0, .int .i64 0, .int .i64 0, .slice none 0 0] 100)) = W at *
  generalize hrr : w.heap.size = r at *
  have hr : Hid (w.heap.size = r) := hrr
  clear hrr
  have k1 := new_any a1 n1 c1 L w1 hL1.out.2.1 hL1.out.1 hL1.out.2.2.1 (by have := hL1.out.2.2.2; omega)
  go_wp2_with (go_at_call 87; refine k1.mono ?_; rintro e w2 ⟨g, a2, rfl, hC, hb2⟩; clear k1)
  have hB2 : Hid (Below W.heap.size W w2) := hb1.out.trans (hb2.mono hb1.out.size)
  have hCg : Hid (Cur (w2.alloc (.cells #[.int .u64 0, .int .u64 0, .int .u64 0, .int .u64 0, .int .u64 0, .int .u64 0, .int .u64 0, .int .u64 0] 136)) w1.heap.size g a2 n1 L 0 0 0) := hC.kept ((Below.refl _ _).alloc (Nat.le_refl _) _)
  have hlt2 : Hid (g < w2.heap.size) := hC.1.lt
  have hna : Hid (∀ x, a2 = some x → x.block ≠ w2.heap.size) := fun x hx => by have := (hC.2.2.2.2.2.2.2 x hx).2.1; omega
  have hb3 : Hid (Blk (w2.alloc (.cells #[.int .u64 0, .int .u64 0, .int .u64 0, .int .u64 0, .int .u64 0, .int .u64 0, .int .u64 0, .int .u64 0] 136)) w2.heap.size (arrU L 0).toArray 136) := blk_new w2 _ _
  have hB3 : Hid (Below W.heap.size W (w2.alloc (.cells #[.int .u64 0, .int .u64 0, .int .u64 0, .int .u64 0, .int .u64 0, .int .u64 0, .int .u64 0, .int .u64 0] 136))) := hB2.out.alloc hB2.out.size _
  have hwb : Hid (W.heap.size ≤ w1.heap.size) := hb1.out.size
  have hgb : Hid (w1.heap.size ≤ w2.heap.size) := hb2.size
  clear hC hb2 hB2 hb1 hL1
  generalize (w2.alloc (.cells #[.int .u64 0, .int .u64 0, .int .u64 0, .int .u64 0, .int .u64 0, .int .u64 0, .int .u64 0, .int .u64 0] 136)) = w3 at *
  generalize w2.heap.size = gb at *
  generalize w1.heap.size = B1 at *
  go_loopw [20] (fun s20 wr => ∃ k : Nat, k ≤ 8 ∧ s20 = .int .i64 (k : Nat) ∧ Hid (Cur wr B1 g a2 n1 L (uS L k).1 (uS L k).2.1 (uS L k).2.2) ∧ Hid (Blk wr gb (arrU L k).toArray 136) ∧ Hid (Below W.heap.size W wr)) (fun i _ => 8 - (intOf i).toNat)
  case atStart => exact ⟨0, by omega, rfl, hCg, hb3, hB3⟩
  case round =>
    obtain ⟨k, hk, rfl, hC, hbb, hB⟩ := hrel
    clear hCg hb3 hB3
    by_cases hlt : k < 8
    · have hd : decide ((k : Int) < 8) = true := by simp; omega
      have k2 := short_y B1 g _ _ _ n1 a2 L wr hC.out
      have hv : (sS L (uS L k).1 (uS L k).2.1 (uS L k).2.2).1 = uV L k := rfl
      rw [hv] at k2
      have hS : Hid (uS L (k + 1) = (sS L (uS L k).1 (uS L k).2.1 (uS L k).2.2).2) := rfl
      have hA := arrU_set L k hlt
      have hA' : Hid _ := hA
      have hg := arrU_get L hlt
      have hne : Hid (gb ≠ g) := by have := hlt2.out; show gb ≠ g; omega
      clear hv hA
      generalize uV L k = x at *
      go_wp2_with (go_at_call 88; refine k2.mono ?_; rintro e w4 ⟨rfl, hC4, hg4⟩; clear k2; have hC4' : Hid (Cur w4 B1 g a2 n1 L _ _ _) := hC4; have hbb4 : Hid (Blk w4 gb (arrU L k).toArray 136) := hbb.out.but hg4 hne.out; have hB4 : Hid (Below W.heap.size W w4) := hB.out.grown hg4 hB.out.size (fun q hq => by cases hq; have := hC4.2.2.2.2.2.1; have := hwb.out; omega); have cc : w4.cell? ⟨gb, k, none⟩ = some (.int .u64 0) := (hbb4.out.cell k).trans (by rw [List.getElem?_toArray]; exact hg); have ff := hbb4.out.fz k; clear hC4 hg4)
      refine ⟨⟨k + 1, by omega, by simp, ?_, ?_, ?_⟩, by simp [intOf]; omega⟩
      · rw [hS.out]
        exact hC4'.out.other ⟨rfl, rfl, rfl, by simp [World.setCell], fun q hq hne => Below.heap_setCell _ _ _ _ (fun e => hne (by rw [e]))⟩ hne.out hna.out
      · have := hbb4.out.set k (.int .u64 (x : Nat))
        rw [hA'.out] at this
        exact this
      · exact hB4.out.setCell (p := ⟨gb, k, none⟩) (by have := hgb.out; have := hwb.out; show W.heap.size ≤ gb; omega) _
    · have hd : decide ((k : Int) < 8) = false := by simp; omega
      obtain rfl : k = 8 := by omega
      have hM : Hid (upM L = ⟨IntKind.i64.wrap (uV L 0 : Nat), (uV L 1 : Nat), IntKind.i64.wrap (uV L 2 : Nat), IntKind.i64.wrap (uV L 3 : Nat), IntKind.i64.wrap (uV L 4 : Nat), (uV L 5 : Nat), IntKind.i64.wrap (uV L 6 : Nat), IntKind.i64.wrap (uV L 7 : Nat), restU L⟩) := by
        show _ = _
        unfold upM ui restU
        rfl
      have hRe : Hid (restU L = if (uS L 8).2.1 = 0 then L.drop (uS L 8).1 else []) := by
        show _ = _
        unfold restU
        rfl
      have hcc : Hid (∀ j, j < 8 → wr.cell? ⟨gb, j, none⟩ = some (.int .u64 (uV L j : Nat))) := fun j hj => by
        rw [hbb.out.cell, List.getElem?_toArray]
        unfold arrU
        rw [List.getElem?_append_left (by simpa using hj), List.getElem?_map, List.getElem?_range hj]
        rfl
      have q0 := hcc.out 0 (by omega)
      have q1 := hcc.out 1 (by omega)
      have q2 := hcc.out 2 (by omega)
      have q3 := hcc.out 3 (by omega)
      have q4 := hcc.out 4 (by omega)
      have q5 := hcc.out 5 (by omega)
      have q6 := hcc.out 6 (by omega)
      have q7 := hcc.out 7 (by omega)
      have hwr : Hid (gb < wr.heap.size) := hbb.out.lt
      clear hcc hbb hlt
      generalize restU L = R at *
      generalize uV L 0 = n0 at *
      generalize uV L 1 = n1' at *
      generalize uV L 2 = n2 at *
      generalize uV L 3 = n3 at *
      generalize uV L 4 = n4 at *
      generalize uV L 5 = n5 at *
      generalize uV L 6 = n6 at *
      generalize uV L 7 = n7 at *
      rcases hU : uS L 8 with ⟨p8, y, f⟩
      rw [hU] at hC hRe
      have hU' : Hid (uS L 8 = (p8, y, f)) := hU
      clear hU
      have hC : Hid (Cur wr B1 g a2 n1 L p8 y f) := hC
      have hRe : Hid (R = if y = 0 then L.drop p8 else []) := hRe
      have hp : Hid (p8 ≤ n1) := hC.out.2.2.2.1
      have hlen : Hid (L.length = n1) := hC.out.2.2.1
      have hn1 : Hid (n1 ≤ 140737488355328) := hC.out.2.2.2.2.1
      have hgB : Hid (B1 ≤ g) := hC.out.2.2.2.2.2.1
      have hLft : Hid (∀ x, Below wr.heap.size wr x → Calls Tryz.prog 91 #[.pointer (some ⟨g, 0, none⟩)] x fun e x' => e = .returned (.int .i64 ((n1 - p8 : Nat) : Int)) ∧ Hid (Below x.heap.size x x') ∧ Hid (Below wr.heap.size wr x')) := fun x hx =>
        (left_b g _ _ _ n1 n1 a2 x (hC.out.kept hx).1 hp.out (by have := hn1.out; omega)).mono (by rintro e x' ⟨rfl, h⟩; exact ⟨rfl, h, hx.trans (h.mono hx.size)⟩)
      have hTk : Hid (∀ x, Below wr.heap.size wr x → Calls Tryz.prog 90 #[.pointer (some ⟨g, 0, none⟩), .int .i64 ((n1 - p8 : Nat) : Int)] x fun e x' => ∃ a3 k, e = .returned (.slice a3 k k) ∧ Hid (Sb x' wr.heap.size a3 k k R) ∧ Hid (K2 g g x x') ∧ Hid (K2 g g wr x') ∧ Hid (∃ p', Cur x' B1 g a2 n1 L p' y f)) := fun x hx =>
        (take_left B1 g _ _ _ n1 a2 L x (hC.out.kept hx)).mono (by
          rintro e x' ⟨a3, k, rfl, h1, h2, h3⟩
          rw [← hRe.out] at h1
          exact ⟨a3, k, rfl, ⟨h1.out.by_, h1.out.len, h1.out.le, h1.out.nil, fun y hy => Nat.le_trans hx.size (h1.out.at_ y hy), h1.out.ty⟩, K2.of_g h3.out, (K2.of_below hx).trans (K2.of_g h3.out), h2⟩)
      have hMo : Hid (∀ x a n c, K2 g g wr x → Calls Tryz.prog 89 #[.agg #[.int .u64 (n0 : Nat), .int .u64 (n1' : Nat), .int .u64 (n2 : Nat), .int .u64 (n3 : Nat), .int .u64 (n4 : Nat), .int .u64 (n5 : Nat), .int .u64 (n6 : Nat), .int .u64 (n7 : Nat)], .slice a n c] x fun e x' => e = .returned (.agg #[.int .i64 (IntKind.i64.wrap (n0 : Nat)), .int .u64 (n1' : Nat), .int .i64 (IntKind.i64.wrap (n2 : Nat)), .int .i64 (IntKind.i64.wrap (n3 : Nat)), .int .i64 (IntKind.i64.wrap (n4 : Nat)), .int .u64 (n5 : Nat), .int .i64 (IntKind.i64.wrap (n6 : Nat)), .int .i64 (IntKind.i64.wrap (n7 : Nat)), .slice a n c]) ∧ Hid (Below x.heap.size x x') ∧ Hid (K2 g g wr x')) := fun x a n c hx =>
        (msgof_raw _ _ _ _ _ _ _ _ a n c x).mono (by rintro e x' ⟨rfl, h⟩; exact ⟨rfl, h, hx.trans (K2.of_below h)⟩)
      have hne : Hid (gb ≠ g) := by have := hlt2.out; show gb ≠ g; omega
      have hna2 : Hid (∀ x, a2 = some x → x.block < wr.heap.size) := fun x hx => (hC.out.2.2.2.2.2.2.2 x hx).2.1
      have SK : Hid (∀ wx, K2 g g wr wx → wx.cell? ⟨gb, 0, none⟩ = some (.int .u64 (n0 : Nat)) ∧ wx.cell? ⟨gb, 1, none⟩ = some (.int .u64 (n1' : Nat)) ∧ wx.cell? ⟨gb, 2, none⟩ = some (.int .u64 (n2 : Nat)) ∧ wx.cell? ⟨gb, 3, none⟩ = some (.int .u64 (n3 : Nat)) ∧ wx.cell? ⟨gb, 4, none⟩ = some (.int .u64 (n4 : Nat)) ∧ wx.cell? ⟨gb, 5, none⟩ = some (.int .u64 (n5 : Nat)) ∧ wx.cell? ⟨gb, 6, none⟩ = some (.int .u64 (n6 : Nat)) ∧ wx.cell? ⟨gb, 7, none⟩ = some (.int .u64 (n7 : Nat))) := fun x hx => by
        have e : ∀ j, x.cell? ⟨gb, j, none⟩ = wr.cell? ⟨gb, j, none⟩ := fun j => World.cell?_of_block (hx.block gb hwr.out hne.out hne.out)
        rw [e, e, e, e, e, e, e, e]
        exact ⟨q0, q1, q2, q3, q4, q5, q6, q7⟩
      clear q0 q1 q2 q3 q4 q5 q6 q7 hna hRe
      generalize IntKind.i64.wrap ((n0 : Nat) : Int) = i0 at *
      generalize IntKind.i64.wrap ((n2 : Nat) : Int) = i2 at *
      generalize IntKind.i64.wrap ((n3 : Nat) : Int) = i3 at *
      generalize IntKind.i64.wrap ((n4 : Nat) : Int) = i4 at *
      generalize IntKind.i64.wrap ((n6 : Nat) : Int) = i6 at *
      generalize IntKind.i64.wrap ((n7 : Nat) : Int) = i7 at *
      generalize hk8 : n1 - p8 = q8 at *
      clear hk8
      go_wp2
      go_region_held3 (fun wx => wx.cell? ⟨gb, 0, none⟩ = some (.int .u64 (n0 : Nat)) ∧ wx.cell? ⟨gb, 1, none⟩ = some (.int .u64 (n1' : Nat)) ∧ wx.cell? ⟨gb, 2, none⟩ = some (.int .u64 (n2 : Nat)) ∧ wx.cell? ⟨gb, 3, none⟩ = some (.int .u64 (n3 : Nat)) ∧ wx.cell? ⟨gb, 4, none⟩ = some (.int .u64 (n4 : Nat)) ∧ wx.cell? ⟨gb, 5, none⟩ = some (.int .u64 (n5 : Nat)) ∧ wx.cell? ⟨gb, 6, none⟩ = some (.int .u64 (n6 : Nat)) ∧ wx.cell? ⟨gb, 7, none⟩ = some (.int .u64 (n7 : Nat))) (((with_reducible refine SK.out _ ?_); (repeat' with_reducible first | exact K2.refl _ _ _ | exact hK6.out | exact hK5.out | exact hK4.out | refine K2.drew ?_ | refine K2.al ?_ _ | refine K2.setnew ?_ (by omega) _ _))) (first
        | (go_at_call 91; refine (hLft.out _ (by repeat' with_reducible first | exact Below.refl _ _ | refine Below.drew ?_ | refine Below.al ?_ _)).mono ?_; rintro e w4 ⟨rfl, hb4, hBw4⟩; clear hLft; have hK4 : Hid (K2 g g wr w4) := K2.of_below hBw4.out; (try (have hbT : Hid (Blk w4 wr.heap.size #[.int .i64 0, .int .u64 0, .int .i64 0, .int .i64 0, .int .i64 0, .int .u64 0, .int .i64 0, .int .i64 0, .slice none 0 0] 100) := by with_reducible exact blkA hb4.out)); have hgr : g < wr.heap.size := hC.out.1.lt; have hw4s : wr.heap.size ≤ w4.heap.size := hBw4.out.size; have hne4 : w4.heap.size ≠ g := (by omega); have hne0 : wr.heap.size ≠ g := (by omega))
        | (go_at_call 90; refine (hTk.out _ (by repeat' with_reducible first | exact hBw4.out | refine Below.drew ?_ | refine Below.al ?_ _)).mono ?_; rintro e w5 ⟨a3, k3, rfl, hS5, hk5, hK5, hC5⟩; clear hTk; have hw5s : wr.heap.size ≤ w5.heap.size := hK5.out.size; (first | (have hbT : Hid (Blk w5 w4.heap.size #[.int .i64 0, .int .u64 0, .int .i64 0, .int .i64 0, .int .i64 0, .int .u64 0, .int .i64 0, .int .i64 0, .slice none 0 0] 100) := by with_reducible exact blkK hk5.out hne4) | (have hbT : Hid (Blk w5 wr.heap.size #[.int .i64 0, .int .u64 0, .int .i64 0, .int .i64 0, .int .i64 0, .int .u64 0, .int .i64 0, .int .i64 0, .slice none 0 0] 100) := by with_reducible exact blkC hbT.out hk5.out hne0) | skip))
        | (go_at_call 89; refine (hMo.out _ _ _ _ (by repeat' with_reducible first | exact hK5.out | refine K2.drew ?_ | refine K2.al ?_ _)).mono ?_; rintro e w6 ⟨rfl, hb6, hK6⟩; clear hMo; (first | (have hbT : Hid (Blk w6 w5.heap.size #[.int .i64 0, .int .u64 0, .int .i64 0, .int .i64 0, .int .i64 0, .int .u64 0, .int .i64 0, .int .i64 0, .slice none 0 0] 100) := by with_reducible exact blkB hb6.out) | (have hbT := blkD hbT.out hb6.out) | skip); (first | (have t0 := hbT.out.cell 0; have t1 := hbT.out.cell 1; have t2 := hbT.out.cell 2; have t3 := hbT.out.cell 3; have t4 := hbT.out.cell 4; have t5 := hbT.out.cell 5; have t6 := hbT.out.cell 6; have t7 := hbT.out.cell 7; have t8 := hbT.out.cell 8; have tf := hbT.out.fz) | skip)))
      · have h6 : Below w5.heap.size w5 w6 := hb6.out
        have hF : Hid (FP wr (w6.alloc (.cells #[.int .i64 i0, .int .u64 (n1' : Nat), .int .i64 i2, .int .i64 i3, .int .i64 i4, .int .u64 (n5 : Nat), .int .i64 i6, .int .i64 i7, .slice a3 k3 k3] 100)) g w6.heap.size B1 n1 a2 L y f R a3 k3 #[.int .i64 i0, .int .u64 (n1' : Nat), .int .i64 i2, .int .i64 i3, .int .i64 i4, .int .u64 (n5 : Nat), .int .i64 i6, .int .i64 i7, .slice a3 k3 k3]) := by
          obtain ⟨p', hc⟩ := hC5.out
          exact ⟨blk_new w6 _ _, hK6.out.al _, (hS5.out.kept h6).kept ((Below.refl _ _).alloc (Nat.le_refl _) _), ⟨p', (hc.kept h6).kept ((Below.refl _ _).alloc (Nat.le_refl _) _)⟩, hK6.out.size, by have := hK6.out.size; omega, hna2.out⟩
        clear h6
        generalize (w6.alloc (.cells #[.int .i64 i0, .int .u64 (n1' : Nat), .int .i64 i2, .int .i64 i3, .int .i64 i4, .int .u64 (n5 : Nat), .int .i64 i6, .int .i64 i7, .slice a3 k3 k3] 100)) = X at *
        generalize w6.heap.size = tb at hF ⊢
        clear hb6 hK6 hk5 hK5 hC5 hS5 hK4 hb4 hBw4 hgr hw4s hne4 hne0 hw5s SK
        have hbk' : Hid (Blk X r #[.int .i64 0, .int .u64 0, .int .i64 0, .int .i64 0, .int .i64 0, .int .u64 0, .int .i64 0, .int .i64 0, .slice none 0 0] 100) := by
          have h1 : Blk wr r #[.int .i64 0, .int .u64 0, .int .i64 0, .int .i64 0, .int .i64 0, .int .u64 0, .int .i64 0, .int .i64 0, .slice none 0 0] 100 := (hB.out.block r hbk.out.lt).trans hbk.out
          have h2 : r ≠ g := by have := hbk.out.lt; have := hwb.out; have := hgB.out; omega
          exact (hF.out.k.block r h1.lt h2 h2).trans h1
        have hrle : Hid (w.heap.size ≤ r ∧ r < wr.heap.size) := ⟨by have := hr.out; omega, by have := hbk.out.lt; have := hB.out.size; omega⟩
        have hBX : Hid (Below w.heap.size w X) := by
          have h1 : Below w.heap.size w wr := by
            rw [hr.out]
            exact hW0.out.trans (hB.out.mono (by have := hbk.out.lt; omega))
          exact hF.out.k.below h1 h1.size (by have := hwb.out; have := hgB.out; have := hbk.out.lt; have := hrle.out; omega) (by have := hwb.out; have := hgB.out; have := hbk.out.lt; have := hrle.out; omega)
        have hLw : Hid (wfB zs = true ∧ loadAt zs = L) := ⟨hwf.out, hLL'.out⟩
        obtain ⟨p', hcu⟩ := hF.out.cu
        have kf := fault_any g _ _ _ _ X hcu.1
        have hfd := field_y
        have hwle : Hid (w.heap.size ≤ wr.heap.size) := by have := hrle.out; show _ ≤ _; omega
        clear hB hW0 hwb hgB hlt2 hne hwr hcu hp hlen hn1 hC hwf hbk hna2 hd hr
        by_cases h0 : y = 0
        · have dy : ((y : Int) != 0) = false := by subst h0; rfl
          have k6 := fun x => may_m (upM L) a3 k3 k3 x
          rw [hM.out] at k6
          cases hm : mayM (⟨i0, (n1' : Nat), i2, i3, i4, (n5 : Nat), i6, i7, R⟩ : Mg) with
          | false =>
            rw [hm] at k6
            have hE : Hid (upE zs = 5 ∧ outM zs = m0) := up_five hLw.out.1 hLw.out.2 (fun h => by have h2 := h.2; rw [hM.out, hm] at h2; cases h2)
            have k6' : Hid (∀ x, Calls Tryz.prog 93 #[.agg #[.int .i64 i0, .int .u64 (n1' : Nat), .int .i64 i2, .int .i64 i3, .int .i64 i4, .int .u64 (n5 : Nat), .int .i64 i6, .int .i64 i7, .slice a3 k3 k3]] x fun e w' => e = .returned (.bool false) ∧ Below x.heap.size x w') := k6
            clear k6 hm h0 hLw hM hU'
            go_wp2_with fail
            refine kf.mono ?_
            rintro e w7 ⟨rfl, hb7⟩
            have hF7 : Hid (Blk w7 tb #[.int .i64 i0, .int .u64 (n1' : Nat), .int .i64 i2, .int .i64 i3, .int .i64 i4, .int .u64 (n5 : Nat), .int .i64 i6, .int .i64 i7, .slice a3 k3 k3] 100) := hF.out.blk.kept hb7
            have hb7' : Hid (Blk w7 r #[.int .i64 0, .int .u64 0, .int .i64 0, .int .i64 0, .int .i64 0, .int .u64 0, .int .i64 0, .int .i64 0, .slice none 0 0] 100) := hbk'.out.kept hb7
            have hB7 : Hid (Below w.heap.size w w7) := hBX.out.trans (hb7.mono hBX.out.size)
            have m0 : w7.cell? ⟨tb, 0, none⟩ = some (.int .i64 i0) := hF7.out.cell 0
            have m1 : w7.cell? ⟨tb, 1, none⟩ = some (.int .u64 (n1' : Nat)) := hF7.out.cell 1
            have m2 : w7.cell? ⟨tb, 2, none⟩ = some (.int .i64 i2) := hF7.out.cell 2
            have m3 : w7.cell? ⟨tb, 3, none⟩ = some (.int .i64 i3) := hF7.out.cell 3
            have m4 : w7.cell? ⟨tb, 4, none⟩ = some (.int .i64 i4) := hF7.out.cell 4
            have m5 : w7.cell? ⟨tb, 5, none⟩ = some (.int .u64 (n5 : Nat)) := hF7.out.cell 5
            have m6 : w7.cell? ⟨tb, 6, none⟩ = some (.int .i64 i6) := hF7.out.cell 6
            have m7 : w7.cell? ⟨tb, 7, none⟩ = some (.int .i64 i7) := hF7.out.cell 7
            have m8 : w7.cell? ⟨tb, 8, none⟩ = some (.slice a3 k3 k3) := hF7.out.cell 8
            clear hb7 kf hBX
            go_wp2_with fail
            refine (k6'.out w7).mono ?_
            rintro e w8 ⟨rfl, hb8⟩
            have hb8' : Hid (Blk w8 r #[.int .i64 0, .int .u64 0, .int .i64 0, .int .i64 0, .int .i64 0, .int .u64 0, .int .i64 0, .int .i64 0, .slice none 0 0] 100) := hb7'.out.kept hb8
            have hB8 : Hid (Below w.heap.size w w8) := hB7.out.trans (hb8.mono hB7.out.size)
            clear m0 m1 m2 m3 m4 m5 m6 m7 m8 hb8 hb7'
            have r0 : w8.cell? ⟨r, 0, none⟩ = some (.int .i64 0) := hb8'.out.cell 0
            have r1 : w8.cell? ⟨r, 1, none⟩ = some (.int .u64 0) := hb8'.out.cell 1
            have r2 : w8.cell? ⟨r, 2, none⟩ = some (.int .i64 0) := hb8'.out.cell 2
            have r3 : w8.cell? ⟨r, 3, none⟩ = some (.int .i64 0) := hb8'.out.cell 3
            have r4 : w8.cell? ⟨r, 4, none⟩ = some (.int .i64 0) := hb8'.out.cell 4
            have r5 : w8.cell? ⟨r, 5, none⟩ = some (.int .u64 0) := hb8'.out.cell 5
            have r6 : w8.cell? ⟨r, 6, none⟩ = some (.int .i64 0) := hb8'.out.cell 6
            have r7 : w8.cell? ⟨r, 7, none⟩ = some (.int .i64 0) := hb8'.out.cell 7
            have r8 : w8.cell? ⟨r, 8, none⟩ = some (.slice none 0 0) := hb8'.out.cell 8
            have rf := hb8'.out.fz
            go_wp2
            refine bodyPost_ret (v := .tuple #[.agg #[.int .i64 0, .int .u64 0, .int .i64 0, .int .i64 0, .int .i64 0, .int .u64 0, .int .i64 0, .int .i64 0, .slice none 0 0], .int .i64 5]) (by simp [results, Tryz.results56, go_sem, *]) rfl ⟨upr_five hE.out rfl, ?_⟩
            have hle := hrle.out.1
            have h0 := hB8.out
            show Below _ _ _
            repeat (refine Below.setCell ?_ (by exact hle) _)
            exact h0
          | true =>
            rw [hm] at k6
            have hE : Hid (upE zs = 0 ∧ outM zs = ⟨i0, (n1' : Nat), i2, i3, i4, (n5 : Nat), i6, i7, R⟩) := by
              have := up_zero hLw.out.1 hLw.out.2 (L := L) ⟨by rw [hU'.out]; exact h0, by rw [hM.out]; exact hm⟩
              rw [hM.out] at this
              exact this
            have k6' : Hid (∀ x, Calls Tryz.prog 93 #[.agg #[.int .i64 i0, .int .u64 (n1' : Nat), .int .i64 i2, .int .i64 i3, .int .i64 i4, .int .u64 (n5 : Nat), .int .i64 i6, .int .i64 i7, .slice a3 k3 k3]] x fun e w' => e = .returned (.bool true) ∧ Below x.heap.size x w') := k6
            clear k6 hm h0 hLw hM hU'
            go_wp2_with fail
            refine kf.mono ?_
            rintro e w7 ⟨rfl, hb7⟩
            have hF7 : Hid (Blk w7 tb #[.int .i64 i0, .int .u64 (n1' : Nat), .int .i64 i2, .int .i64 i3, .int .i64 i4, .int .u64 (n5 : Nat), .int .i64 i6, .int .i64 i7, .slice a3 k3 k3] 100) := hF.out.blk.kept hb7
            have hb7' : Hid (Blk w7 r #[.int .i64 0, .int .u64 0, .int .i64 0, .int .i64 0, .int .i64 0, .int .u64 0, .int .i64 0, .int .i64 0, .slice none 0 0] 100) := hbk'.out.kept hb7
            have hB7 : Hid (Below w.heap.size w w7) := hBX.out.trans (hb7.mono hBX.out.size)
            have hs7 : Hid (Sb w7 wr.heap.size a3 k3 k3 R) := hF.out.sb.kept hb7
            have m0 : w7.cell? ⟨tb, 0, none⟩ = some (.int .i64 i0) := hF7.out.cell 0
            have m1 : w7.cell? ⟨tb, 1, none⟩ = some (.int .u64 (n1' : Nat)) := hF7.out.cell 1
            have m2 : w7.cell? ⟨tb, 2, none⟩ = some (.int .i64 i2) := hF7.out.cell 2
            have m3 : w7.cell? ⟨tb, 3, none⟩ = some (.int .i64 i3) := hF7.out.cell 3
            have m4 : w7.cell? ⟨tb, 4, none⟩ = some (.int .i64 i4) := hF7.out.cell 4
            have m5 : w7.cell? ⟨tb, 5, none⟩ = some (.int .u64 (n5 : Nat)) := hF7.out.cell 5
            have m6 : w7.cell? ⟨tb, 6, none⟩ = some (.int .i64 i6) := hF7.out.cell 6
            have m7 : w7.cell? ⟨tb, 7, none⟩ = some (.int .i64 i7) := hF7.out.cell 7
            have m8 : w7.cell? ⟨tb, 8, none⟩ = some (.slice a3 k3 k3) := hF7.out.cell 8
            clear hb7 kf hBX
            go_wp2_with fail
            refine (k6'.out w7).mono ?_
            rintro e w8 ⟨rfl, hb8⟩
            have hb8' : Hid (Blk w8 r #[.int .i64 0, .int .u64 0, .int .i64 0, .int .i64 0, .int .i64 0, .int .u64 0, .int .i64 0, .int .i64 0, .slice none 0 0] 100) := hb7'.out.kept hb8
            have hB8 : Hid (Below w.heap.size w w8) := hB7.out.trans (hb8.mono hB7.out.size)
            have hs8 : Hid (Sb w8 wr.heap.size a3 k3 k3 R) := hs7.out.kept hb8
            have hF8 : Hid (Blk w8 tb #[.int .i64 i0, .int .u64 (n1' : Nat), .int .i64 i2, .int .i64 i3, .int .i64 i4, .int .u64 (n5 : Nat), .int .i64 i6, .int .i64 i7, .slice a3 k3 k3] 100) := hF7.out.kept hb8
            clear m0 m1 m2 m3 m4 m5 m6 m7 m8 hb8 hb7'
            have m0 : w8.cell? ⟨tb, 0, none⟩ = some (.int .i64 i0) := hF8.out.cell 0
            have m1 : w8.cell? ⟨tb, 1, none⟩ = some (.int .u64 (n1' : Nat)) := hF8.out.cell 1
            have m2 : w8.cell? ⟨tb, 2, none⟩ = some (.int .i64 i2) := hF8.out.cell 2
            have m3 : w8.cell? ⟨tb, 3, none⟩ = some (.int .i64 i3) := hF8.out.cell 3
            have m4 : w8.cell? ⟨tb, 4, none⟩ = some (.int .i64 i4) := hF8.out.cell 4
            have m5 : w8.cell? ⟨tb, 5, none⟩ = some (.int .u64 (n5 : Nat)) := hF8.out.cell 5
            have m6 : w8.cell? ⟨tb, 6, none⟩ = some (.int .i64 i6) := hF8.out.cell 6
            have m7 : w8.cell? ⟨tb, 7, none⟩ = some (.int .i64 i7) := hF8.out.cell 7
            have m8 : w8.cell? ⟨tb, 8, none⟩ = some (.slice a3 k3 k3) := hF8.out.cell 8
            have r0 : w8.cell? ⟨r, 0, none⟩ = some (.int .i64 0) := hb8'.out.cell 0
            have r1 : w8.cell? ⟨r, 1, none⟩ = some (.int .u64 0) := hb8'.out.cell 1
            have r2 : w8.cell? ⟨r, 2, none⟩ = some (.int .i64 0) := hb8'.out.cell 2
            have r3 : w8.cell? ⟨r, 3, none⟩ = some (.int .i64 0) := hb8'.out.cell 3
            have r4 : w8.cell? ⟨r, 4, none⟩ = some (.int .i64 0) := hb8'.out.cell 4
            have r5 : w8.cell? ⟨r, 5, none⟩ = some (.int .u64 0) := hb8'.out.cell 5
            have r6 : w8.cell? ⟨r, 6, none⟩ = some (.int .i64 0) := hb8'.out.cell 6
            have r7 : w8.cell? ⟨r, 7, none⟩ = some (.int .i64 0) := hb8'.out.cell 7
            have r8 : w8.cell? ⟨r, 8, none⟩ = some (.slice none 0 0) := hb8'.out.cell 8
            have rf := hb8'.out.fz
            go_wp2
            refine bodyPost_ret (v := .tuple #[.agg #[.int .i64 i0, .int .u64 (n1' : Nat), .int .i64 i2, .int .i64 i3, .int .i64 i4, .int .u64 (n5 : Nat), .int .i64 i6, .int .i64 i7, .slice a3 k3 k3], .int .i64 0]) (by simp [results, Tryz.results56, go_sem, *]) rfl ⟨⟨a3, k3, k3, ?_, ?_⟩, ?_⟩
            · rw [hE.out.1, hE.out.2]; rfl
            · rw [hE.out.2]
              refine Sb.base ?_ hwle.out
              have h9 := hs8.out
              have h10 := hrle.out.2
              show Sb _ _ _ _ _ _
              repeat (refine Sb.set ?_ h10 _ _)
              exact h9
            · have hle := hrle.out.1
              have h0 := hB8.out
              show Below _ _ _
              repeat (refine Below.setCell ?_ (by exact hle) _)
              exact h0
        · have dy : ((y : Int) != 0) = true := by simpa using h0
          have hE : Hid (upE zs = 5 ∧ outM zs = m0) := up_five hLw.out.1 hLw.out.2 (fun h => by have h1 := h.1; rw [hU'.out] at h1; exact h0 h1)
          clear h0 hLw hM hU'
          go_wp2_with fail
          refine kf.mono ?_
          rintro e w7 ⟨rfl, hb7⟩
          have hb7' : Hid (Blk w7 r #[.int .i64 0, .int .u64 0, .int .i64 0, .int .i64 0, .int .i64 0, .int .u64 0, .int .i64 0, .int .i64 0, .slice none 0 0] 100) := hbk'.out.kept hb7
          have hB7 : Hid (Below w.heap.size w w7) := hBX.out.trans (hb7.mono hBX.out.size)
          clear hb7 kf hBX
          have r0 : w7.cell? ⟨r, 0, none⟩ = some (.int .i64 0) := hb7'.out.cell 0
          have r1 : w7.cell? ⟨r, 1, none⟩ = some (.int .u64 0) := hb7'.out.cell 1
          have r2 : w7.cell? ⟨r, 2, none⟩ = some (.int .i64 0) := hb7'.out.cell 2
          have r3 : w7.cell? ⟨r, 3, none⟩ = some (.int .i64 0) := hb7'.out.cell 3
          have r4 : w7.cell? ⟨r, 4, none⟩ = some (.int .i64 0) := hb7'.out.cell 4
          have r5 : w7.cell? ⟨r, 5, none⟩ = some (.int .u64 0) := hb7'.out.cell 5
          have r6 : w7.cell? ⟨r, 6, none⟩ = some (.int .i64 0) := hb7'.out.cell 6
          have r7 : w7.cell? ⟨r, 7, none⟩ = some (.int .i64 0) := hb7'.out.cell 7
          have r8 : w7.cell? ⟨r, 8, none⟩ = some (.slice none 0 0) := hb7'.out.cell 8
          have rf := hb7'.out.fz
          go_wp2
          refine bodyPost_ret (v := .tuple #[.agg #[.int .i64 0, .int .u64 0, .int .i64 0, .int .i64 0, .int .i64 0, .int .u64 0, .int .i64 0, .int .i64 0, .slice none 0 0], .int .i64 5]) (by simp [results, Tryz.results56, go_sem, *]) rfl ⟨upr_five hE.out rfl, ?_⟩
          have hle := hrle.out.1
          have h0 := hB7.out
          show Below _ _ _
          repeat (refine Below.setCell ?_ (by exact hle) _)
          exact h0
      · have h6 : Below w5.heap.size w5 w6 := ((Below.refl _ _).alloc (Nat.le_refl _) _).trans (hb6.out.mono (by simp))
        have hF0 : FP wr w6 g w5.heap.size B1 n1 a2 L y f R a3 k3 #[.int .i64 0, .int .u64 0, .int .i64 0, .int .i64 0, .int .i64 0, .int .u64 0, .int .i64 0, .int .i64 0, .slice none 0 0] := by
          obtain ⟨p', hc⟩ := hC5.out
          exact ⟨hbT.out, hK6.out, hS5.out.kept h6, ⟨p', hc.kept h6⟩, by omega, by omega, hna2.out⟩
        have hF : Hid (FP wr (((((((((w6.setCell ⟨w5.heap.size, 0, none⟩ (.int .i64 i0)).setCell ⟨w5.heap.size, 1, none⟩ (.int .u64 (n1' : Nat))).setCell ⟨w5.heap.size, 2, none⟩ (.int .i64 i2)).setCell ⟨w5.heap.size, 3, none⟩ (.int .i64 i3)).setCell ⟨w5.heap.size, 4, none⟩ (.int .i64 i4)).setCell ⟨w5.heap.size, 5, none⟩ (.int .u64 (n5 : Nat))).setCell ⟨w5.heap.size, 6, none⟩ (.int .i64 i6)).setCell ⟨w5.heap.size, 7, none⟩ (.int .i64 i7)).setCell ⟨w5.heap.size, 8, none⟩ (.slice a3 k3 k3)) g w5.heap.size B1 n1 a2 L y f R a3 k3 #[.int .i64 i0, .int .u64 (n1' : Nat), .int .i64 i2, .int .i64 i3, .int .i64 i4, .int .u64 (n5 : Nat), .int .i64 i6, .int .i64 i7, .slice a3 k3 k3]) := hF0.nine _ _ _ _ _ _ _ _ _
        clear hF0 t0 t1 t2 t3 t4 t5 t6 t7 t8 tf hbT
        clear h6
        generalize (((((((((w6.setCell ⟨w5.heap.size, 0, none⟩ (.int .i64 i0)).setCell ⟨w5.heap.size, 1, none⟩ (.int .u64 (n1' : Nat))).setCell ⟨w5.heap.size, 2, none⟩ (.int .i64 i2)).setCell ⟨w5.heap.size, 3, none⟩ (.int .i64 i3)).setCell ⟨w5.heap.size, 4, none⟩ (.int .i64 i4)).setCell ⟨w5.heap.size, 5, none⟩ (.int .u64 (n5 : Nat))).setCell ⟨w5.heap.size, 6, none⟩ (.int .i64 i6)).setCell ⟨w5.heap.size, 7, none⟩ (.int .i64 i7)).setCell ⟨w5.heap.size, 8, none⟩ (.slice a3 k3 k3)) = X at *
        generalize w5.heap.size = tb at hF ⊢
        clear hb6 hK6 hk5 hK5 hC5 hS5 hK4 hb4 hBw4 hgr hw4s hne4 hne0 hw5s SK
        have hbk' : Hid (Blk X r #[.int .i64 0, .int .u64 0, .int .i64 0, .int .i64 0, .int .i64 0, .int .u64 0, .int .i64 0, .int .i64 0, .slice none 0 0] 100) := by
          have h1 : Blk wr r #[.int .i64 0, .int .u64 0, .int .i64 0, .int .i64 0, .int .i64 0, .int .u64 0, .int .i64 0, .int .i64 0, .slice none 0 0] 100 := (hB.out.block r hbk.out.lt).trans hbk.out
          have h2 : r ≠ g := by have := hbk.out.lt; have := hwb.out; have := hgB.out; omega
          exact (hF.out.k.block r h1.lt h2 h2).trans h1
        have hrle : Hid (w.heap.size ≤ r ∧ r < wr.heap.size) := ⟨by have := hr.out; omega, by have := hbk.out.lt; have := hB.out.size; omega⟩
        have hBX : Hid (Below w.heap.size w X) := by
          have h1 : Below w.heap.size w wr := by
            rw [hr.out]
            exact hW0.out.trans (hB.out.mono (by have := hbk.out.lt; omega))
          exact hF.out.k.below h1 h1.size (by have := hwb.out; have := hgB.out; have := hbk.out.lt; have := hrle.out; omega) (by have := hwb.out; have := hgB.out; have := hbk.out.lt; have := hrle.out; omega)
        have hLw : Hid (wfB zs = true ∧ loadAt zs = L) := ⟨hwf.out, hLL'.out⟩
        obtain ⟨p', hcu⟩ := hF.out.cu
        have kf := fault_any g _ _ _ _ X hcu.1
        have hfd := field_y
        have hwle : Hid (w.heap.size ≤ wr.heap.size) := by have := hrle.out; show _ ≤ _; omega
        clear hB hW0 hwb hgB hlt2 hne hwr hcu hp hlen hn1 hC hwf hbk hna2 hd hr
        by_cases h0 : y = 0
        · have dy : ((y : Int) != 0) = false := by subst h0; rfl
          have k6 := fun x => may_m (upM L) a3 k3 k3 x
          rw [hM.out] at k6
          cases hm : mayM (⟨i0, (n1' : Nat), i2, i3, i4, (n5 : Nat), i6, i7, R⟩ : Mg) with
          | false =>
            rw [hm] at k6
            have hE : Hid (upE zs = 5 ∧ outM zs = m0) := up_five hLw.out.1 hLw.out.2 (fun h => by have h2 := h.2; rw [hM.out, hm] at h2; cases h2)
            have k6' : Hid (∀ x, Calls Tryz.prog 93 #[.agg #[.int .i64 i0, .int .u64 (n1' : Nat), .int .i64 i2, .int .i64 i3, .int .i64 i4, .int .u64 (n5 : Nat), .int .i64 i6, .int .i64 i7, .slice a3 k3 k3]] x fun e w' => e = .returned (.bool false) ∧ Below x.heap.size x w') := k6
            clear k6 hm h0 hLw hM hU'
            go_wp2_with fail
            refine kf.mono ?_
            rintro e w7 ⟨rfl, hb7⟩
            have hF7 : Hid (Blk w7 tb #[.int .i64 i0, .int .u64 (n1' : Nat), .int .i64 i2, .int .i64 i3, .int .i64 i4, .int .u64 (n5 : Nat), .int .i64 i6, .int .i64 i7, .slice a3 k3 k3] 100) := hF.out.blk.kept hb7
            have hb7' : Hid (Blk w7 r #[.int .i64 0, .int .u64 0, .int .i64 0, .int .i64 0, .int .i64 0, .int .u64 0, .int .i64 0, .int .i64 0, .slice none 0 0] 100) := hbk'.out.kept hb7
            have hB7 : Hid (Below w.heap.size w w7) := hBX.out.trans (hb7.mono hBX.out.size)
            have m0 : w7.cell? ⟨tb, 0, none⟩ = some (.int .i64 i0) := hF7.out.cell 0
            have m1 : w7.cell? ⟨tb, 1, none⟩ = some (.int .u64 (n1' : Nat)) := hF7.out.cell 1
            have m2 : w7.cell? ⟨tb, 2, none⟩ = some (.int .i64 i2) := hF7.out.cell 2
            have m3 : w7.cell? ⟨tb, 3, none⟩ = some (.int .i64 i3) := hF7.out.cell 3
            have m4 : w7.cell? ⟨tb, 4, none⟩ = some (.int .i64 i4) := hF7.out.cell 4
            have m5 : w7.cell? ⟨tb, 5, none⟩ = some (.int .u64 (n5 : Nat)) := hF7.out.cell 5
            have m6 : w7.cell? ⟨tb, 6, none⟩ = some (.int .i64 i6) := hF7.out.cell 6
            have m7 : w7.cell? ⟨tb, 7, none⟩ = some (.int .i64 i7) := hF7.out.cell 7
            have m8 : w7.cell? ⟨tb, 8, none⟩ = some (.slice a3 k3 k3) := hF7.out.cell 8
            clear hb7 kf hBX
            go_wp2_with fail
            refine (k6'.out w7).mono ?_
            rintro e w8 ⟨rfl, hb8⟩
            have hb8' : Hid (Blk w8 r #[.int .i64 0, .int .u64 0, .int .i64 0, .int .i64 0, .int .i64 0, .int .u64 0, .int .i64 0, .int .i64 0, .slice none 0 0] 100) := hb7'.out.kept hb8
            have hB8 : Hid (Below w.heap.size w w8) := hB7.out.trans (hb8.mono hB7.out.size)
            clear m0 m1 m2 m3 m4 m5 m6 m7 m8 hb8 hb7'
            have r0 : w8.cell? ⟨r, 0, none⟩ = some (.int .i64 0) := hb8'.out.cell 0
            have r1 : w8.cell? ⟨r, 1, none⟩ = some (.int .u64 0) := hb8'.out.cell 1
            have r2 : w8.cell? ⟨r, 2, none⟩ = some (.int .i64 0) := hb8'.out.cell 2
            have r3 : w8.cell? ⟨r, 3, none⟩ = some (.int .i64 0) := hb8'.out.cell 3
            have r4 : w8.cell? ⟨r, 4, none⟩ = some (.int .i64 0) := hb8'.out.cell 4
            have r5 : w8.cell? ⟨r, 5, none⟩ = some (.int .u64 0) := hb8'.out.cell 5
            have r6 : w8.cell? ⟨r, 6, none⟩ = some (.int .i64 0) := hb8'.out.cell 6
            have r7 : w8.cell? ⟨r, 7, none⟩ = some (.int .i64 0) := hb8'.out.cell 7
            have r8 : w8.cell? ⟨r, 8, none⟩ = some (.slice none 0 0) := hb8'.out.cell 8
            have rf := hb8'.out.fz
            go_wp2
            refine bodyPost_ret (v := .tuple #[.agg #[.int .i64 0, .int .u64 0, .int .i64 0, .int .i64 0, .int .i64 0, .int .u64 0, .int .i64 0, .int .i64 0, .slice none 0 0], .int .i64 5]) (by simp [results, Tryz.results56, go_sem, *]) rfl ⟨upr_five hE.out rfl, ?_⟩
            have hle := hrle.out.1
            have h0 := hB8.out
            show Below _ _ _
            repeat (refine Below.setCell ?_ (by exact hle) _)
            exact h0
          | true =>
            rw [hm] at k6
            have hE : Hid (upE zs = 0 ∧ outM zs = ⟨i0, (n1' : Nat), i2, i3, i4, (n5 : Nat), i6, i7, R⟩) := by
              have := up_zero hLw.out.1 hLw.out.2 (L := L) ⟨by rw [hU'.out]; exact h0, by rw [hM.out]; exact hm⟩
              rw [hM.out] at this
              exact this
            have k6' : Hid (∀ x, Calls Tryz.prog 93 #[.agg #[.int .i64 i0, .int .u64 (n1' : Nat), .int .i64 i2, .int .i64 i3, .int .i64 i4, .int .u64 (n5 : Nat), .int .i64 i6, .int .i64 i7, .slice a3 k3 k3]] x fun e w' => e = .returned (.bool true) ∧ Below x.heap.size x w') := k6
            clear k6 hm h0 hLw hM hU'
            go_wp2_with fail
            refine kf.mono ?_
            rintro e w7 ⟨rfl, hb7⟩
            have hF7 : Hid (Blk w7 tb #[.int .i64 i0, .int .u64 (n1' : Nat), .int .i64 i2, .int .i64 i3, .int .i64 i4, .int .u64 (n5 : Nat), .int .i64 i6, .int .i64 i7, .slice a3 k3 k3] 100) := hF.out.blk.kept hb7
            have hb7' : Hid (Blk w7 r #[.int .i64 0, .int .u64 0, .int .i64 0, .int .i64 0, .int .i64 0, .int .u64 0, .int .i64 0, .int .i64 0, .slice none 0 0] 100) := hbk'.out.kept hb7
            have hB7 : Hid (Below w.heap.size w w7) := hBX.out.trans (hb7.mono hBX.out.size)
            have hs7 : Hid (Sb w7 wr.heap.size a3 k3 k3 R) := hF.out.sb.kept hb7
            have m0 : w7.cell? ⟨tb, 0, none⟩ = some (.int .i64 i0) := hF7.out.cell 0
            have m1 : w7.cell? ⟨tb, 1, none⟩ = some (.int .u64 (n1' : Nat)) := hF7.out.cell 1
            have m2 : w7.cell? ⟨tb, 2, none⟩ = some (.int .i64 i2) := hF7.out.cell 2
            have m3 : w7.cell? ⟨tb, 3, none⟩ = some (.int .i64 i3) := hF7.out.cell 3
            have m4 : w7.cell? ⟨tb, 4, none⟩ = some (.int .i64 i4) := hF7.out.cell 4
            have m5 : w7.cell? ⟨tb, 5, none⟩ = some (.int .u64 (n5 : Nat)) := hF7.out.cell 5
            have m6 : w7.cell? ⟨tb, 6, none⟩ = some (.int .i64 i6) := hF7.out.cell 6
            have m7 : w7.cell? ⟨tb, 7, none⟩ = some (.int .i64 i7) := hF7.out.cell 7
            have m8 : w7.cell? ⟨tb, 8, none⟩ = some (.slice a3 k3 k3) := hF7.out.cell 8
            clear hb7 kf hBX
            go_wp2_with fail
            refine (k6'.out w7).mono ?_
            rintro e w8 ⟨rfl, hb8⟩
            have hb8' : Hid (Blk w8 r #[.int .i64 0, .int .u64 0, .int .i64 0, .int .i64 0, .int .i64 0, .int .u64 0, .int .i64 0, .int .i64 0, .slice none 0 0] 100) := hb7'.out.kept hb8
            have hB8 : Hid (Below w.heap.size w w8) := hB7.out.trans (hb8.mono hB7.out.size)
            have hs8 : Hid (Sb w8 wr.heap.size a3 k3 k3 R) := hs7.out.kept hb8
            have hF8 : Hid (Blk w8 tb #[.int .i64 i0, .int .u64 (n1' : Nat), .int .i64 i2, .int .i64 i3, .int .i64 i4, .int .u64 (n5 : Nat), .int .i64 i6, .int .i64 i7, .slice a3 k3 k3] 100) := hF7.out.kept hb8
            clear m0 m1 m2 m3 m4 m5 m6 m7 m8 hb8 hb7'
            have m0 : w8.cell? ⟨tb, 0, none⟩ = some (.int .i64 i0) := hF8.out.cell 0
            have m1 : w8.cell? ⟨tb, 1, none⟩ = some (.int .u64 (n1' : Nat)) := hF8.out.cell 1
            have m2 : w8.cell? ⟨tb, 2, none⟩ = some (.int .i64 i2) := hF8.out.cell 2
            have m3 : w8.cell? ⟨tb, 3, none⟩ = some (.int .i64 i3) := hF8.out.cell 3
            have m4 : w8.cell? ⟨tb, 4, none⟩ = some (.int .i64 i4) := hF8.out.cell 4
            have m5 : w8.cell? ⟨tb, 5, none⟩ = some (.int .u64 (n5 : Nat)) := hF8.out.cell 5
            have m6 : w8.cell? ⟨tb, 6, none⟩ = some (.int .i64 i6) := hF8.out.cell 6
            have m7 : w8.cell? ⟨tb, 7, none⟩ = some (.int .i64 i7) := hF8.out.cell 7
            have m8 : w8.cell? ⟨tb, 8, none⟩ = some (.slice a3 k3 k3) := hF8.out.cell 8
            have r0 : w8.cell? ⟨r, 0, none⟩ = some (.int .i64 0) := hb8'.out.cell 0
            have r1 : w8.cell? ⟨r, 1, none⟩ = some (.int .u64 0) := hb8'.out.cell 1
            have r2 : w8.cell? ⟨r, 2, none⟩ = some (.int .i64 0) := hb8'.out.cell 2
            have r3 : w8.cell? ⟨r, 3, none⟩ = some (.int .i64 0) := hb8'.out.cell 3
            have r4 : w8.cell? ⟨r, 4, none⟩ = some (.int .i64 0) := hb8'.out.cell 4
            have r5 : w8.cell? ⟨r, 5, none⟩ = some (.int .u64 0) := hb8'.out.cell 5
            have r6 : w8.cell? ⟨r, 6, none⟩ = some (.int .i64 0) := hb8'.out.cell 6
            have r7 : w8.cell? ⟨r, 7, none⟩ = some (.int .i64 0) := hb8'.out.cell 7
            have r8 : w8.cell? ⟨r, 8, none⟩ = some (.slice none 0 0) := hb8'.out.cell 8
            have rf := hb8'.out.fz
            go_wp2
            refine bodyPost_ret (v := .tuple #[.agg #[.int .i64 i0, .int .u64 (n1' : Nat), .int .i64 i2, .int .i64 i3, .int .i64 i4, .int .u64 (n5 : Nat), .int .i64 i6, .int .i64 i7, .slice a3 k3 k3], .int .i64 0]) (by simp [results, Tryz.results56, go_sem, *]) rfl ⟨⟨a3, k3, k3, ?_, ?_⟩, ?_⟩
            · rw [hE.out.1, hE.out.2]; rfl
            · rw [hE.out.2]
              refine Sb.base ?_ hwle.out
              have h9 := hs8.out
              have h10 := hrle.out.2
              show Sb _ _ _ _ _ _
              repeat (refine Sb.set ?_ h10 _ _)
              exact h9
            · have hle := hrle.out.1
              have h0 := hB8.out
              show Below _ _ _
              repeat (refine Below.setCell ?_ (by exact hle) _)
              exact h0
        · have dy : ((y : Int) != 0) = true := by simpa using h0
          have hE : Hid (upE zs = 5 ∧ outM zs = m0) := up_five hLw.out.1 hLw.out.2 (fun h => by have h1 := h.1; rw [hU'.out] at h1; exact h0 h1)
          clear h0 hLw hM hU'
          go_wp2_with fail
          refine kf.mono ?_
          rintro e w7 ⟨rfl, hb7⟩
          have hb7' : Hid (Blk w7 r #[.int .i64 0, .int .u64 0, .int .i64 0, .int .i64 0, .int .i64 0, .int .u64 0, .int .i64 0, .int .i64 0, .slice none 0 0] 100) := hbk'.out.kept hb7
          have hB7 : Hid (Below w.heap.size w w7) := hBX.out.trans (hb7.mono hBX.out.size)
          clear hb7 kf hBX
          have r0 : w7.cell? ⟨r, 0, none⟩ = some (.int .i64 0) := hb7'.out.cell 0
          have r1 : w7.cell? ⟨r, 1, none⟩ = some (.int .u64 0) := hb7'.out.cell 1
          have r2 : w7.cell? ⟨r, 2, none⟩ = some (.int .i64 0) := hb7'.out.cell 2
          have r3 : w7.cell? ⟨r, 3, none⟩ = some (.int .i64 0) := hb7'.out.cell 3
          have r4 : w7.cell? ⟨r, 4, none⟩ = some (.int .i64 0) := hb7'.out.cell 4
          have r5 : w7.cell? ⟨r, 5, none⟩ = some (.int .u64 0) := hb7'.out.cell 5
          have r6 : w7.cell? ⟨r, 6, none⟩ = some (.int .i64 0) := hb7'.out.cell 6
          have r7 : w7.cell? ⟨r, 7, none⟩ = some (.int .i64 0) := hb7'.out.cell 7
          have r8 : w7.cell? ⟨r, 8, none⟩ = some (.slice none 0 0) := hb7'.out.cell 8
          have rf := hb7'.out.fz
          go_wp2
          refine bodyPost_ret (v := .tuple #[.agg #[.int .i64 0, .int .u64 0, .int .i64 0, .int .i64 0, .int .i64 0, .int .u64 0, .int .i64 0, .int .i64 0, .slice none 0 0], .int .i64 5]) (by simp [results, Tryz.results56, go_sem, *]) rfl ⟨upr_five hE.out rfl, ?_⟩
          have hle := hrle.out.1
          have h0 := hB7.out
          show Below _ _ _
          repeat (refine Below.setCell ?_ (by exact hle) _)
          exact h0
      · have h6 : Below w5.heap.size w5 w6 := hb6.out
        have hF0 : FP wr w6 g w4.heap.size B1 n1 a2 L y f R a3 k3 #[.int .i64 0, .int .u64 0, .int .i64 0, .int .i64 0, .int .i64 0, .int .u64 0, .int .i64 0, .int .i64 0, .slice none 0 0] := by
          obtain ⟨p', hc⟩ := hC5.out
          exact ⟨hbT.out, hK6.out, hS5.out.kept h6, ⟨p', hc.kept h6⟩, by omega, by omega, hna2.out⟩
        have hF : Hid (FP wr (((((((((w6.setCell ⟨w4.heap.size, 0, none⟩ (.int .i64 i0)).setCell ⟨w4.heap.size, 1, none⟩ (.int .u64 (n1' : Nat))).setCell ⟨w4.heap.size, 2, none⟩ (.int .i64 i2)).setCell ⟨w4.heap.size, 3, none⟩ (.int .i64 i3)).setCell ⟨w4.heap.size, 4, none⟩ (.int .i64 i4)).setCell ⟨w4.heap.size, 5, none⟩ (.int .u64 (n5 : Nat))).setCell ⟨w4.heap.size, 6, none⟩ (.int .i64 i6)).setCell ⟨w4.heap.size, 7, none⟩ (.int .i64 i7)).setCell ⟨w4.heap.size, 8, none⟩ (.slice a3 k3 k3)) g w4.heap.size B1 n1 a2 L y f R a3 k3 #[.int .i64 i0, .int .u64 (n1' : Nat), .int .i64 i2, .int .i64 i3, .int .i64 i4, .int .u64 (n5 : Nat), .int .i64 i6, .int .i64 i7, .slice a3 k3 k3]) := hF0.nine _ _ _ _ _ _ _ _ _
        clear hF0 t0 t1 t2 t3 t4 t5 t6 t7 t8 tf hbT
        clear h6
        generalize (((((((((w6.setCell ⟨w4.heap.size, 0, none⟩ (.int .i64 i0)).setCell ⟨w4.heap.size, 1, none⟩ (.int .u64 (n1' : Nat))).setCell ⟨w4.heap.size, 2, none⟩ (.int .i64 i2)).setCell ⟨w4.heap.size, 3, none⟩ (.int .i64 i3)).setCell ⟨w4.heap.size, 4, none⟩ (.int .i64 i4)).setCell ⟨w4.heap.size, 5, none⟩ (.int .u64 (n5 : Nat))).setCell ⟨w4.heap.size, 6, none⟩ (.int .i64 i6)).setCell ⟨w4.heap.size, 7, none⟩ (.int .i64 i7)).setCell ⟨w4.heap.size, 8, none⟩ (.slice a3 k3 k3)) = X at *
        generalize w4.heap.size = tb at hF ⊢
        clear hb6 hK6 hk5 hK5 hC5 hS5 hK4 hb4 hBw4 hgr hw4s hne4 hne0 hw5s SK
        have hbk' : Hid (Blk X r #[.int .i64 0, .int .u64 0, .int .i64 0, .int .i64 0, .int .i64 0, .int .u64 0, .int .i64 0, .int .i64 0, .slice none 0 0] 100) := by
          have h1 : Blk wr r #[.int .i64 0, .int .u64 0, .int .i64 0, .int .i64 0, .int .i64 0, .int .u64 0, .int .i64 0, .int .i64 0, .slice none 0 0] 100 := (hB.out.block r hbk.out.lt).trans hbk.out
          have h2 : r ≠ g := by have := hbk.out.lt; have := hwb.out; have := hgB.out; omega
          exact (hF.out.k.block r h1.lt h2 h2).trans h1
        have hrle : Hid (w.heap.size ≤ r ∧ r < wr.heap.size) := ⟨by have := hr.out; omega, by have := hbk.out.lt; have := hB.out.size; omega⟩
        have hBX : Hid (Below w.heap.size w X) := by
          have h1 : Below w.heap.size w wr := by
            rw [hr.out]
            exact hW0.out.trans (hB.out.mono (by have := hbk.out.lt; omega))
          exact hF.out.k.below h1 h1.size (by have := hwb.out; have := hgB.out; have := hbk.out.lt; have := hrle.out; omega) (by have := hwb.out; have := hgB.out; have := hbk.out.lt; have := hrle.out; omega)
        have hLw : Hid (wfB zs = true ∧ loadAt zs = L) := ⟨hwf.out, hLL'.out⟩
        obtain ⟨p', hcu⟩ := hF.out.cu
        have kf := fault_any g _ _ _ _ X hcu.1
        have hfd := field_y
        have hwle : Hid (w.heap.size ≤ wr.heap.size) := by have := hrle.out; show _ ≤ _; omega
        clear hB hW0 hwb hgB hlt2 hne hwr hcu hp hlen hn1 hC hwf hbk hna2 hd hr
        by_cases h0 : y = 0
        · have dy : ((y : Int) != 0) = false := by subst h0; rfl
          have k6 := fun x => may_m (upM L) a3 k3 k3 x
          rw [hM.out] at k6
          cases hm : mayM (⟨i0, (n1' : Nat), i2, i3, i4, (n5 : Nat), i6, i7, R⟩ : Mg) with
          | false =>
            rw [hm] at k6
            have hE : Hid (upE zs = 5 ∧ outM zs = m0) := up_five hLw.out.1 hLw.out.2 (fun h => by have h2 := h.2; rw [hM.out, hm] at h2; cases h2)
            have k6' : Hid (∀ x, Calls Tryz.prog 93 #[.agg #[.int .i64 i0, .int .u64 (n1' : Nat), .int .i64 i2, .int .i64 i3, .int .i64 i4, .int .u64 (n5 : Nat), .int .i64 i6, .int .i64 i7, .slice a3 k3 k3]] x fun e w' => e = .returned (.bool false) ∧ Below x.heap.size x w') := k6
            clear k6 hm h0 hLw hM hU'
            go_wp2_with fail
            refine kf.mono ?_
            rintro e w7 ⟨rfl, hb7⟩
            have hF7 : Hid (Blk w7 tb #[.int .i64 i0, .int .u64 (n1' : Nat), .int .i64 i2, .int .i64 i3, .int .i64 i4, .int .u64 (n5 : Nat), .int .i64 i6, .int .i64 i7, .slice a3 k3 k3] 100) := hF.out.blk.kept hb7
            have hb7' : Hid (Blk w7 r #[.int .i64 0, .int .u64 0, .int .i64 0, .int .i64 0, .int .i64 0, .int .u64 0, .int .i64 0, .int .i64 0, .slice none 0 0] 100) := hbk'.out.kept hb7
            have hB7 : Hid (Below w.heap.size w w7) := hBX.out.trans (hb7.mono hBX.out.size)
            have m0 : w7.cell? ⟨tb, 0, none⟩ = some (.int .i64 i0) := hF7.out.cell 0
            have m1 : w7.cell? ⟨tb, 1, none⟩ = some (.int .u64 (n1' : Nat)) := hF7.out.cell 1
            have m2 : w7.cell? ⟨tb, 2, none⟩ = some (.int .i64 i2) := hF7.out.cell 2
            have m3 : w7.cell? ⟨tb, 3, none⟩ = some (.int .i64 i3) := hF7.out.cell 3
            have m4 : w7.cell? ⟨tb, 4, none⟩ = some (.int .i64 i4) := hF7.out.cell 4
            have m5 : w7.cell? ⟨tb, 5, none⟩ = some (.int .u64 (n5 : Nat)) := hF7.out.cell 5
            have m6 : w7.cell? ⟨tb, 6, none⟩ = some (.int .i64 i6) := hF7.out.cell 6
            have m7 : w7.cell? ⟨tb, 7, none⟩ = some (.int .i64 i7) := hF7.out.cell 7
            have m8 : w7.cell? ⟨tb, 8, none⟩ = some (.slice a3 k3 k3) := hF7.out.cell 8
            clear hb7 kf hBX
            go_wp2_with fail
            refine (k6'.out w7).mono ?_
            rintro e w8 ⟨rfl, hb8⟩
            have hb8' : Hid (Blk w8 r #[.int .i64 0, .int .u64 0, .int .i64 0, .int .i64 0, .int .i64 0, .int .u64 0, .int .i64 0, .int .i64 0, .slice none 0 0] 100) := hb7'.out.kept hb8
            have hB8 : Hid (Below w.heap.size w w8) := hB7.out.trans (hb8.mono hB7.out.size)
            clear m0 m1 m2 m3 m4 m5 m6 m7 m8 hb8 hb7'
            have r0 : w8.cell? ⟨r, 0, none⟩ = some (.int .i64 0) := hb8'.out.cell 0
            have r1 : w8.cell? ⟨r, 1, none⟩ = some (.int .u64 0) := hb8'.out.cell 1
            have r2 : w8.cell? ⟨r, 2, none⟩ = some (.int .i64 0) := hb8'.out.cell 2
            have r3 : w8.cell? ⟨r, 3, none⟩ = some (.int .i64 0) := hb8'.out.cell 3
            have r4 : w8.cell? ⟨r, 4, none⟩ = some (.int .i64 0) := hb8'.out.cell 4
            have r5 : w8.cell? ⟨r, 5, none⟩ = some (.int .u64 0) := hb8'.out.cell 5
            have r6 : w8.cell? ⟨r, 6, none⟩ = some (.int .i64 0) := hb8'.out.cell 6
            have r7 : w8.cell? ⟨r, 7, none⟩ = some (.int .i64 0) := hb8'.out.cell 7
            have r8 : w8.cell? ⟨r, 8, none⟩ = some (.slice none 0 0) := hb8'.out.cell 8
            have rf := hb8'.out.fz
            go_wp2
            refine bodyPost_ret (v := .tuple #[.agg #[.int .i64 0, .int .u64 0, .int .i64 0, .int .i64 0, .int .i64 0, .int .u64 0, .int .i64 0, .int .i64 0, .slice none 0 0], .int .i64 5]) (by simp [results, Tryz.results56, go_sem, *]) rfl ⟨upr_five hE.out rfl, ?_⟩
            have hle := hrle.out.1
            have h0 := hB8.out
            show Below _ _ _
            repeat (refine Below.setCell ?_ (by exact hle) _)
            exact h0
          | true =>
            rw [hm] at k6
            have hE : Hid (upE zs = 0 ∧ outM zs = ⟨i0, (n1' : Nat), i2, i3, i4, (n5 : Nat), i6, i7, R⟩) := by
              have := up_zero hLw.out.1 hLw.out.2 (L := L) ⟨by rw [hU'.out]; exact h0, by rw [hM.out]; exact hm⟩
              rw [hM.out] at this
              exact this
            have k6' : Hid (∀ x, Calls Tryz.prog 93 #[.agg #[.int .i64 i0, .int .u64 (n1' : Nat), .int .i64 i2, .int .i64 i3, .int .i64 i4, .int .u64 (n5 : Nat), .int .i64 i6, .int .i64 i7, .slice a3 k3 k3]] x fun e w' => e = .returned (.bool true) ∧ Below x.heap.size x w') := k6
            clear k6 hm h0 hLw hM hU'
            go_wp2_with fail
            refine kf.mono ?_
            rintro e w7 ⟨rfl, hb7⟩
            have hF7 : Hid (Blk w7 tb #[.int .i64 i0, .int .u64 (n1' : Nat), .int .i64 i2, .int .i64 i3, .int .i64 i4, .int .u64 (n5 : Nat), .int .i64 i6, .int .i64 i7, .slice a3 k3 k3] 100) := hF.out.blk.kept hb7
            have hb7' : Hid (Blk w7 r #[.int .i64 0, .int .u64 0, .int .i64 0, .int .i64 0, .int .i64 0, .int .u64 0, .int .i64 0, .int .i64 0, .slice none 0 0] 100) := hbk'.out.kept hb7
            have hB7 : Hid (Below w.heap.size w w7) := hBX.out.trans (hb7.mono hBX.out.size)
            have hs7 : Hid (Sb w7 wr.heap.size a3 k3 k3 R) := hF.out.sb.kept hb7
            have m0 : w7.cell? ⟨tb, 0, none⟩ = some (.int .i64 i0) := hF7.out.cell 0
            have m1 : w7.cell? ⟨tb, 1, none⟩ = some (.int .u64 (n1' : Nat)) := hF7.out.cell 1
            have m2 : w7.cell? ⟨tb, 2, none⟩ = some (.int .i64 i2) := hF7.out.cell 2
            have m3 : w7.cell? ⟨tb, 3, none⟩ = some (.int .i64 i3) := hF7.out.cell 3
            have m4 : w7.cell? ⟨tb, 4, none⟩ = some (.int .i64 i4) := hF7.out.cell 4
            have m5 : w7.cell? ⟨tb, 5, none⟩ = some (.int .u64 (n5 : Nat)) := hF7.out.cell 5
            have m6 : w7.cell? ⟨tb, 6, none⟩ = some (.int .i64 i6) := hF7.out.cell 6
            have m7 : w7.cell? ⟨tb, 7, none⟩ = some (.int .i64 i7) := hF7.out.cell 7
            have m8 : w7.cell? ⟨tb, 8, none⟩ = some (.slice a3 k3 k3) := hF7.out.cell 8
            clear hb7 kf hBX
            go_wp2_with fail
            refine (k6'.out w7).mono ?_
            rintro e w8 ⟨rfl, hb8⟩
            have hb8' : Hid (Blk w8 r #[.int .i64 0, .int .u64 0, .int .i64 0, .int .i64 0, .int .i64 0, .int .u64 0, .int .i64 0, .int .i64 0, .slice none 0 0] 100) := hb7'.out.kept hb8
            have hB8 : Hid (Below w.heap.size w w8) := hB7.out.trans (hb8.mono hB7.out.size)
            have hs8 : Hid (Sb w8 wr.heap.size a3 k3 k3 R) := hs7.out.kept hb8
            have hF8 : Hid (Blk w8 tb #[.int .i64 i0, .int .u64 (n1' : Nat), .int .i64 i2, .int .i64 i3, .int .i64 i4, .int .u64 (n5 : Nat), .int .i64 i6, .int .i64 i7, .slice a3 k3 k3] 100) := hF7.out.kept hb8
            clear m0 m1 m2 m3 m4 m5 m6 m7 m8 hb8 hb7'
            have m0 : w8.cell? ⟨tb, 0, none⟩ = some (.int .i64 i0) := hF8.out.cell 0
            have m1 : w8.cell? ⟨tb, 1, none⟩ = some (.int .u64 (n1' : Nat)) := hF8.out.cell 1
            have m2 : w8.cell? ⟨tb, 2, none⟩ = some (.int .i64 i2) := hF8.out.cell 2
            have m3 : w8.cell? ⟨tb, 3, none⟩ = some (.int .i64 i3) := hF8.out.cell 3
            have m4 : w8.cell? ⟨tb, 4, none⟩ = some (.int .i64 i4) := hF8.out.cell 4
            have m5 : w8.cell? ⟨tb, 5, none⟩ = some (.int .u64 (n5 : Nat)) := hF8.out.cell 5
            have m6 : w8.cell? ⟨tb, 6, none⟩ = some (.int .i64 i6) := hF8.out.cell 6
            have m7 : w8.cell? ⟨tb, 7, none⟩ = some (.int .i64 i7) := hF8.out.cell 7
            have m8 : w8.cell? ⟨tb, 8, none⟩ = some (.slice a3 k3 k3) := hF8.out.cell 8
            have r0 : w8.cell? ⟨r, 0, none⟩ = some (.int .i64 0) := hb8'.out.cell 0
            have r1 : w8.cell? ⟨r, 1, none⟩ = some (.int .u64 0) := hb8'.out.cell 1
            have r2 : w8.cell? ⟨r, 2, none⟩ = some (.int .i64 0) := hb8'.out.cell 2
            have r3 : w8.cell? ⟨r, 3, none⟩ = some (.int .i64 0) := hb8'.out.cell 3
            have r4 : w8.cell? ⟨r, 4, none⟩ = some (.int .i64 0) := hb8'.out.cell 4
            have r5 : w8.cell? ⟨r, 5, none⟩ = some (.int .u64 0) := hb8'.out.cell 5
            have r6 : w8.cell? ⟨r, 6, none⟩ = some (.int .i64 0) := hb8'.out.cell 6
            have r7 : w8.cell? ⟨r, 7, none⟩ = some (.int .i64 0) := hb8'.out.cell 7
            have r8 : w8.cell? ⟨r, 8, none⟩ = some (.slice none 0 0) := hb8'.out.cell 8
            have rf := hb8'.out.fz
            go_wp2
            refine bodyPost_ret (v := .tuple #[.agg #[.int .i64 i0, .int .u64 (n1' : Nat), .int .i64 i2, .int .i64 i3, .int .i64 i4, .int .u64 (n5 : Nat), .int .i64 i6, .int .i64 i7, .slice a3 k3 k3], .int .i64 0]) (by simp [results, Tryz.results56, go_sem, *]) rfl ⟨⟨a3, k3, k3, ?_, ?_⟩, ?_⟩
            · rw [hE.out.1, hE.out.2]; rfl
            · rw [hE.out.2]
              refine Sb.base ?_ hwle.out
              have h9 := hs8.out
              have h10 := hrle.out.2
              show Sb _ _ _ _ _ _
              repeat (refine Sb.set ?_ h10 _ _)
              exact h9
            · have hle := hrle.out.1
              have h0 := hB8.out
              show Below _ _ _
              repeat (refine Below.setCell ?_ (by exact hle) _)
              exact h0
        · have dy : ((y : Int) != 0) = true := by simpa using h0
          have hE : Hid (upE zs = 5 ∧ outM zs = m0) := up_five hLw.out.1 hLw.out.2 (fun h => by have h1 := h.1; rw [hU'.out] at h1; exact h0 h1)
          clear h0 hLw hM hU'
          go_wp2_with fail
          refine kf.mono ?_
          rintro e w7 ⟨rfl, hb7⟩
          have hb7' : Hid (Blk w7 r #[.int .i64 0, .int .u64 0, .int .i64 0, .int .i64 0, .int .i64 0, .int .u64 0, .int .i64 0, .int .i64 0, .slice none 0 0] 100) := hbk'.out.kept hb7
          have hB7 : Hid (Below w.heap.size w w7) := hBX.out.trans (hb7.mono hBX.out.size)
          clear hb7 kf hBX
          have r0 : w7.cell? ⟨r, 0, none⟩ = some (.int .i64 0) := hb7'.out.cell 0
          have r1 : w7.cell? ⟨r, 1, none⟩ = some (.int .u64 0) := hb7'.out.cell 1
          have r2 : w7.cell? ⟨r, 2, none⟩ = some (.int .i64 0) := hb7'.out.cell 2
          have r3 : w7.cell? ⟨r, 3, none⟩ = some (.int .i64 0) := hb7'.out.cell 3
          have r4 : w7.cell? ⟨r, 4, none⟩ = some (.int .i64 0) := hb7'.out.cell 4
          have r5 : w7.cell? ⟨r, 5, none⟩ = some (.int .u64 0) := hb7'.out.cell 5
          have r6 : w7.cell? ⟨r, 6, none⟩ = some (.int .i64 0) := hb7'.out.cell 6
          have r7 : w7.cell? ⟨r, 7, none⟩ = some (.int .i64 0) := hb7'.out.cell 7
          have r8 : w7.cell? ⟨r, 8, none⟩ = some (.slice none 0 0) := hb7'.out.cell 8
          have rf := hb7'.out.fz
          go_wp2
          refine bodyPost_ret (v := .tuple #[.agg #[.int .i64 0, .int .u64 0, .int .i64 0, .int .i64 0, .int .i64 0, .int .u64 0, .int .i64 0, .int .i64 0, .slice none 0 0], .int .i64 5]) (by simp [results, Tryz.results56, go_sem, *]) rfl ⟨upr_five hE.out rfl, ?_⟩
          have hle := hrle.out.1
          have h0 := hB7.out
          show Below _ _ _
          repeat (refine Below.setCell ?_ (by exact hle) _)
          exact h0
      · have h6 : Below w5.heap.size w5 w6 := hb6.out
        have hF0 : FP wr w6 g wr.heap.size B1 n1 a2 L y f R a3 k3 #[.int .i64 0, .int .u64 0, .int .i64 0, .int .i64 0, .int .i64 0, .int .u64 0, .int .i64 0, .int .i64 0, .slice none 0 0] := by
          obtain ⟨p', hc⟩ := hC5.out
          exact ⟨hbT.out, hK6.out, hS5.out.kept h6, ⟨p', hc.kept h6⟩, by omega, by omega, hna2.out⟩
        have hF : Hid (FP wr (((((((((w6.setCell ⟨wr.heap.size, 0, none⟩ (.int .i64 i0)).setCell ⟨wr.heap.size, 1, none⟩ (.int .u64 (n1' : Nat))).setCell ⟨wr.heap.size, 2, none⟩ (.int .i64 i2)).setCell ⟨wr.heap.size, 3, none⟩ (.int .i64 i3)).setCell ⟨wr.heap.size, 4, none⟩ (.int .i64 i4)).setCell ⟨wr.heap.size, 5, none⟩ (.int .u64 (n5 : Nat))).setCell ⟨wr.heap.size, 6, none⟩ (.int .i64 i6)).setCell ⟨wr.heap.size, 7, none⟩ (.int .i64 i7)).setCell ⟨wr.heap.size, 8, none⟩ (.slice a3 k3 k3)) g wr.heap.size B1 n1 a2 L y f R a3 k3 #[.int .i64 i0, .int .u64 (n1' : Nat), .int .i64 i2, .int .i64 i3, .int .i64 i4, .int .u64 (n5 : Nat), .int .i64 i6, .int .i64 i7, .slice a3 k3 k3]) := hF0.nine _ _ _ _ _ _ _ _ _
        clear hF0 t0 t1 t2 t3 t4 t5 t6 t7 t8 tf hbT
        clear h6
        generalize (((((((((w6.setCell ⟨wr.heap.size, 0, none⟩ (.int .i64 i0)).setCell ⟨wr.heap.size, 1, none⟩ (.int .u64 (n1' : Nat))).setCell ⟨wr.heap.size, 2, none⟩ (.int .i64 i2)).setCell ⟨wr.heap.size, 3, none⟩ (.int .i64 i3)).setCell ⟨wr.heap.size, 4, none⟩ (.int .i64 i4)).setCell ⟨wr.heap.size, 5, none⟩ (.int .u64 (n5 : Nat))).setCell ⟨wr.heap.size, 6, none⟩ (.int .i64 i6)).setCell ⟨wr.heap.size, 7, none⟩ (.int .i64 i7)).setCell ⟨wr.heap.size, 8, none⟩ (.slice a3 k3 k3)) = X at *
        generalize wr.heap.size = tb at hF ⊢
        clear hb6 hK6 hk5 hK5 hC5 hS5 hK4 hb4 hBw4 hgr hw4s hne4 hne0 hw5s SK
        have hbk' : Hid (Blk X r #[.int .i64 0, .int .u64 0, .int .i64 0, .int .i64 0, .int .i64 0, .int .u64 0, .int .i64 0, .int .i64 0, .slice none 0 0] 100) := by
          have h1 : Blk wr r #[.int .i64 0, .int .u64 0, .int .i64 0, .int .i64 0, .int .i64 0, .int .u64 0, .int .i64 0, .int .i64 0, .slice none 0 0] 100 := (hB.out.block r hbk.out.lt).trans hbk.out
          have h2 : r ≠ g := by have := hbk.out.lt; have := hwb.out; have := hgB.out; omega
          exact (hF.out.k.block r h1.lt h2 h2).trans h1
        have hrle : Hid (w.heap.size ≤ r ∧ r < wr.heap.size) := ⟨by have := hr.out; omega, by have := hbk.out.lt; have := hB.out.size; omega⟩
        have hBX : Hid (Below w.heap.size w X) := by
          have h1 : Below w.heap.size w wr := by
            rw [hr.out]
            exact hW0.out.trans (hB.out.mono (by have := hbk.out.lt; omega))
          exact hF.out.k.below h1 h1.size (by have := hwb.out; have := hgB.out; have := hbk.out.lt; have := hrle.out; omega) (by have := hwb.out; have := hgB.out; have := hbk.out.lt; have := hrle.out; omega)
        have hLw : Hid (wfB zs = true ∧ loadAt zs = L) := ⟨hwf.out, hLL'.out⟩
        obtain ⟨p', hcu⟩ := hF.out.cu
        have kf := fault_any g _ _ _ _ X hcu.1
        have hfd := field_y
        have hwle : Hid (w.heap.size ≤ wr.heap.size) := by have := hrle.out; show _ ≤ _; omega
        clear hB hW0 hwb hgB hlt2 hne hwr hcu hp hlen hn1 hC hwf hbk hna2 hd hr
        by_cases h0 : y = 0
        · have dy : ((y : Int) != 0) = false := by subst h0; rfl
          have k6 := fun x => may_m (upM L) a3 k3 k3 x
          rw [hM.out] at k6
          cases hm : mayM (⟨i0, (n1' : Nat), i2, i3, i4, (n5 : Nat), i6, i7, R⟩ : Mg) with
          | false =>
            rw [hm] at k6
            have hE : Hid (upE zs = 5 ∧ outM zs = m0) := up_five hLw.out.1 hLw.out.2 (fun h => by have h2 := h.2; rw [hM.out, hm] at h2; cases h2)
            have k6' : Hid (∀ x, Calls Tryz.prog 93 #[.agg #[.int .i64 i0, .int .u64 (n1' : Nat), .int .i64 i2, .int .i64 i3, .int .i64 i4, .int .u64 (n5 : Nat), .int .i64 i6, .int .i64 i7, .slice a3 k3 k3]] x fun e w' => e = .returned (.bool false) ∧ Below x.heap.size x w') := k6
            clear k6 hm h0 hLw hM hU'
            go_wp2_with fail
            refine kf.mono ?_
            rintro e w7 ⟨rfl, hb7⟩
            have hF7 : Hid (Blk w7 tb #[.int .i64 i0, .int .u64 (n1' : Nat), .int .i64 i2, .int .i64 i3, .int .i64 i4, .int .u64 (n5 : Nat), .int .i64 i6, .int .i64 i7, .slice a3 k3 k3] 100) := hF.out.blk.kept hb7
            have hb7' : Hid (Blk w7 r #[.int .i64 0, .int .u64 0, .int .i64 0, .int .i64 0, .int .i64 0, .int .u64 0, .int .i64 0, .int .i64 0, .slice none 0 0] 100) := hbk'.out.kept hb7
            have hB7 : Hid (Below w.heap.size w w7) := hBX.out.trans (hb7.mono hBX.out.size)
            have m0 : w7.cell? ⟨tb, 0, none⟩ = some (.int .i64 i0) := hF7.out.cell 0
            have m1 : w7.cell? ⟨tb, 1, none⟩ = some (.int .u64 (n1' : Nat)) := hF7.out.cell 1
            have m2 : w7.cell? ⟨tb, 2, none⟩ = some (.int .i64 i2) := hF7.out.cell 2
            have m3 : w7.cell? ⟨tb, 3, none⟩ = some (.int .i64 i3) := hF7.out.cell 3
            have m4 : w7.cell? ⟨tb, 4, none⟩ = some (.int .i64 i4) := hF7.out.cell 4
            have m5 : w7.cell? ⟨tb, 5, none⟩ = some (.int .u64 (n5 : Nat)) := hF7.out.cell 5
            have m6 : w7.cell? ⟨tb, 6, none⟩ = some (.int .i64 i6) := hF7.out.cell 6
            have m7 : w7.cell? ⟨tb, 7, none⟩ = some (.int .i64 i7) := hF7.out.cell 7
            have m8 : w7.cell? ⟨tb, 8, none⟩ = some (.slice a3 k3 k3) := hF7.out.cell 8
            clear hb7 kf hBX
            go_wp2_with fail
            refine (k6'.out w7).mono ?_
            rintro e w8 ⟨rfl, hb8⟩
            have hb8' : Hid (Blk w8 r #[.int .i64 0, .int .u64 0, .int .i64 0, .int .i64 0, .int .i64 0, .int .u64 0, .int .i64 0, .int .i64 0, .slice none 0 0] 100) := hb7'.out.kept hb8
            have hB8 : Hid (Below w.heap.size w w8) := hB7.out.trans (hb8.mono hB7.out.size)
            clear m0 m1 m2 m3 m4 m5 m6 m7 m8 hb8 hb7'
            have r0 : w8.cell? ⟨r, 0, none⟩ = some (.int .i64 0) := hb8'.out.cell 0
            have r1 : w8.cell? ⟨r, 1, none⟩ = some (.int .u64 0) := hb8'.out.cell 1
            have r2 : w8.cell? ⟨r, 2, none⟩ = some (.int .i64 0) := hb8'.out.cell 2
            have r3 : w8.cell? ⟨r, 3, none⟩ = some (.int .i64 0) := hb8'.out.cell 3
            have r4 : w8.cell? ⟨r, 4, none⟩ = some (.int .i64 0) := hb8'.out.cell 4
            have r5 : w8.cell? ⟨r, 5, none⟩ = some (.int .u64 0) := hb8'.out.cell 5
            have r6 : w8.cell? ⟨r, 6, none⟩ = some (.int .i64 0) := hb8'.out.cell 6
            have r7 : w8.cell? ⟨r, 7, none⟩ = some (.int .i64 0) := hb8'.out.cell 7
            have r8 : w8.cell? ⟨r, 8, none⟩ = some (.slice none 0 0) := hb8'.out.cell 8
            have rf := hb8'.out.fz
            go_wp2
            refine bodyPost_ret (v := .tuple #[.agg #[.int .i64 0, .int .u64 0, .int .i64 0, .int .i64 0, .int .i64 0, .int .u64 0, .int .i64 0, .int .i64 0, .slice none 0 0], .int .i64 5]) (by simp [results, Tryz.results56, go_sem, *]) rfl ⟨upr_five hE.out rfl, ?_⟩
            have hle := hrle.out.1
            have h0 := hB8.out
            show Below _ _ _
            repeat (refine Below.setCell ?_ (by exact hle) _)
            exact h0
          | true =>
            rw [hm] at k6
            have hE : Hid (upE zs = 0 ∧ outM zs = ⟨i0, (n1' : Nat), i2, i3, i4, (n5 : Nat), i6, i7, R⟩) := by
              have := up_zero hLw.out.1 hLw.out.2 (L := L) ⟨by rw [hU'.out]; exact h0, by rw [hM.out]; exact hm⟩
              rw [hM.out] at this
              exact this
            have k6' : Hid (∀ x, Calls Tryz.prog 93 #[.agg #[.int .i64 i0, .int .u64 (n1' : Nat), .int .i64 i2, .int .i64 i3, .int .i64 i4, .int .u64 (n5 : Nat), .int .i64 i6, .int .i64 i7, .slice a3 k3 k3]] x fun e w' => e = .returned (.bool true) ∧ Below x.heap.size x w') := k6
            clear k6 hm h0 hLw hM hU'
            go_wp2_with fail
            refine kf.mono ?_
            rintro e w7 ⟨rfl, hb7⟩
            have hF7 : Hid (Blk w7 tb #[.int .i64 i0, .int .u64 (n1' : Nat), .int .i64 i2, .int .i64 i3, .int .i64 i4, .int .u64 (n5 : Nat), .int .i64 i6, .int .i64 i7, .slice a3 k3 k3] 100) := hF.out.blk.kept hb7
            have hb7' : Hid (Blk w7 r #[.int .i64 0, .int .u64 0, .int .i64 0, .int .i64 0, .int .i64 0, .int .u64 0, .int .i64 0, .int .i64 0, .slice none 0 0] 100) := hbk'.out.kept hb7
            have hB7 : Hid (Below w.heap.size w w7) := hBX.out.trans (hb7.mono hBX.out.size)
            have hs7 : Hid (Sb w7 wr.heap.size a3 k3 k3 R) := hF.out.sb.kept hb7
            have m0 : w7.cell? ⟨tb, 0, none⟩ = some (.int .i64 i0) := hF7.out.cell 0
            have m1 : w7.cell? ⟨tb, 1, none⟩ = some (.int .u64 (n1' : Nat)) := hF7.out.cell 1
            have m2 : w7.cell? ⟨tb, 2, none⟩ = some (.int .i64 i2) := hF7.out.cell 2
            have m3 : w7.cell? ⟨tb, 3, none⟩ = some (.int .i64 i3) := hF7.out.cell 3
            have m4 : w7.cell? ⟨tb, 4, none⟩ = some (.int .i64 i4) := hF7.out.cell 4
            have m5 : w7.cell? ⟨tb, 5, none⟩ = some (.int .u64 (n5 : Nat)) := hF7.out.cell 5
            have m6 : w7.cell? ⟨tb, 6, none⟩ = some (.int .i64 i6) := hF7.out.cell 6
            have m7 : w7.cell? ⟨tb, 7, none⟩ = some (.int .i64 i7) := hF7.out.cell 7
            have m8 : w7.cell? ⟨tb, 8, none⟩ = some (.slice a3 k3 k3) := hF7.out.cell 8
            clear hb7 kf hBX
            go_wp2_with fail
            refine (k6'.out w7).mono ?_
            rintro e w8 ⟨rfl, hb8⟩
            have hb8' : Hid (Blk w8 r #[.int .i64 0, .int .u64 0, .int .i64 0, .int .i64 0, .int .i64 0, .int .u64 0, .int .i64 0, .int .i64 0, .slice none 0 0] 100) := hb7'.out.kept hb8
            have hB8 : Hid (Below w.heap.size w w8) := hB7.out.trans (hb8.mono hB7.out.size)
            have hs8 : Hid (Sb w8 wr.heap.size a3 k3 k3 R) := hs7.out.kept hb8
            have hF8 : Hid (Blk w8 tb #[.int .i64 i0, .int .u64 (n1' : Nat), .int .i64 i2, .int .i64 i3, .int .i64 i4, .int .u64 (n5 : Nat), .int .i64 i6, .int .i64 i7, .slice a3 k3 k3] 100) := hF7.out.kept hb8
            clear m0 m1 m2 m3 m4 m5 m6 m7 m8 hb8 hb7'
            have m0 : w8.cell? ⟨tb, 0, none⟩ = some (.int .i64 i0) := hF8.out.cell 0
            have m1 : w8.cell? ⟨tb, 1, none⟩ = some (.int .u64 (n1' : Nat)) := hF8.out.cell 1
            have m2 : w8.cell? ⟨tb, 2, none⟩ = some (.int .i64 i2) := hF8.out.cell 2
            have m3 : w8.cell? ⟨tb, 3, none⟩ = some (.int .i64 i3) := hF8.out.cell 3
            have m4 : w8.cell? ⟨tb, 4, none⟩ = some (.int .i64 i4) := hF8.out.cell 4
            have m5 : w8.cell? ⟨tb, 5, none⟩ = some (.int .u64 (n5 : Nat)) := hF8.out.cell 5
            have m6 : w8.cell? ⟨tb, 6, none⟩ = some (.int .i64 i6) := hF8.out.cell 6
            have m7 : w8.cell? ⟨tb, 7, none⟩ = some (.int .i64 i7) := hF8.out.cell 7
            have m8 : w8.cell? ⟨tb, 8, none⟩ = some (.slice a3 k3 k3) := hF8.out.cell 8
            have r0 : w8.cell? ⟨r, 0, none⟩ = some (.int .i64 0) := hb8'.out.cell 0
            have r1 : w8.cell? ⟨r, 1, none⟩ = some (.int .u64 0) := hb8'.out.cell 1
            have r2 : w8.cell? ⟨r, 2, none⟩ = some (.int .i64 0) := hb8'.out.cell 2
            have r3 : w8.cell? ⟨r, 3, none⟩ = some (.int .i64 0) := hb8'.out.cell 3
            have r4 : w8.cell? ⟨r, 4, none⟩ = some (.int .i64 0) := hb8'.out.cell 4
            have r5 : w8.cell? ⟨r, 5, none⟩ = some (.int .u64 0) := hb8'.out.cell 5
            have r6 : w8.cell? ⟨r, 6, none⟩ = some (.int .i64 0) := hb8'.out.cell 6
            have r7 : w8.cell? ⟨r, 7, none⟩ = some (.int .i64 0) := hb8'.out.cell 7
            have r8 : w8.cell? ⟨r, 8, none⟩ = some (.slice none 0 0) := hb8'.out.cell 8
            have rf := hb8'.out.fz
            go_wp2
            refine bodyPost_ret (v := .tuple #[.agg #[.int .i64 i0, .int .u64 (n1' : Nat), .int .i64 i2, .int .i64 i3, .int .i64 i4, .int .u64 (n5 : Nat), .int .i64 i6, .int .i64 i7, .slice a3 k3 k3], .int .i64 0]) (by simp [results, Tryz.results56, go_sem, *]) rfl ⟨⟨a3, k3, k3, ?_, ?_⟩, ?_⟩
            · rw [hE.out.1, hE.out.2]; rfl
            · rw [hE.out.2]
              refine Sb.base ?_ hwle.out
              have h9 := hs8.out
              have h10 := hrle.out.2
              show Sb _ _ _ _ _ _
              repeat (refine Sb.set ?_ h10 _ _)
              exact h9
            · have hle := hrle.out.1
              have h0 := hB8.out
              show Below _ _ _
              repeat (refine Below.setCell ?_ (by exact hle) _)
              exact h0
        · have dy : ((y : Int) != 0) = true := by simpa using h0
          have hE : Hid (upE zs = 5 ∧ outM zs = m0) := up_five hLw.out.1 hLw.out.2 (fun h => by have h1 := h.1; rw [hU'.out] at h1; exact h0 h1)
          clear h0 hLw hM hU'
          go_wp2_with fail
          refine kf.mono ?_
          rintro e w7 ⟨rfl, hb7⟩
          have hb7' : Hid (Blk w7 r #[.int .i64 0, .int .u64 0, .int .i64 0, .int .i64 0, .int .i64 0, .int .u64 0, .int .i64 0, .int .i64 0, .slice none 0 0] 100) := hbk'.out.kept hb7
          have hB7 : Hid (Below w.heap.size w w7) := hBX.out.trans (hb7.mono hBX.out.size)
          clear hb7 kf hBX
          have r0 : w7.cell? ⟨r, 0, none⟩ = some (.int .i64 0) := hb7'.out.cell 0
          have r1 : w7.cell? ⟨r, 1, none⟩ = some (.int .u64 0) := hb7'.out.cell 1
          have r2 : w7.cell? ⟨r, 2, none⟩ = some (.int .i64 0) := hb7'.out.cell 2
          have r3 : w7.cell? ⟨r, 3, none⟩ = some (.int .i64 0) := hb7'.out.cell 3
          have r4 : w7.cell? ⟨r, 4, none⟩ = some (.int .i64 0) := hb7'.out.cell 4
          have r5 : w7.cell? ⟨r, 5, none⟩ = some (.int .u64 0) := hb7'.out.cell 5
          have r6 : w7.cell? ⟨r, 6, none⟩ = some (.int .i64 0) := hb7'.out.cell 6
          have r7 : w7.cell? ⟨r, 7, none⟩ = some (.int .i64 0) := hb7'.out.cell 7
          have r8 : w7.cell? ⟨r, 8, none⟩ = some (.slice none 0 0) := hb7'.out.cell 8
          have rf := hb7'.out.fz
          go_wp2
          refine bodyPost_ret (v := .tuple #[.agg #[.int .i64 0, .int .u64 0, .int .i64 0, .int .i64 0, .int .i64 0, .int .u64 0, .int .i64 0, .int .i64 0, .slice none 0 0], .int .i64 5]) (by simp [results, Tryz.results56, go_sem, *]) rfl ⟨upr_five hE.out rfl, ?_⟩
          have hle := hrle.out.1
          have h0 := hB7.out
          show Below _ _ _
          repeat (refine Below.setCell ?_ (by exact hle) _)
          exact h0
theorem unpack_any (a : Option Addr) (n cap : Nat) (zs : List Int) (w : World) (hl : zs.length = n) (hb : Bytes w a zs) (hc : n ≤ cap) (hcm : cap ≤ 9223372036854775807) :
    Calls Tryz.prog 56 #[.slice a n cap] w fun e w' => Hid (UpR w w' zs e) ∧ Hid (Below w.heap.size w w') := by
  cases hw : wfB zs with
  | false => exact unpack_sum a n cap zs w hl hb hc hcm hw
  | true => exact unpack_wf a n cap zs w hl hb hc hcm hw
end Go.Proofs.YtfipdldoklkciaaGreat
