/-
  Texts Lrm, Lrn, Lro.
-/
import Derived.Test.YtfipdldoklkciaaGreatGat
import Derived.Test.YtfipdldoklkciaaGreatGam
namespace Go.Proofs.YtfipdldoklkciaaGreat
open Go.RowKit
set_option linter.unusedVariables false
def Gr.cs (g : Gr) : List Value := [.slice g.a g.n g.c, .bool g.sp]
def gCs (G : List Gr) : List Value := (G.map Gr.cs).flatten
theorem gCs_app (L M : List Gr) : gCs (L ++ M) = gCs L ++ gCs M := by simp [gCs]
theorem gCs_len (L : List Gr) : (gCs L).length = L.length * 2 := by
  induction L with
  | nil => rfl
  | cons e L ih => simp [gCs, Gr.cs] at ih ⊢; omega
theorem gCs_at {L : List Gr} {i : Nat} {p : Gr} (hi : L[i]? = some p) {j : Nat} (hj : j < 2) : (gCs L)[i * 2 + j]? = p.cs[j]? := by
  induction L generalizing i with
  | nil => simp at hi
  | cons e L ih =>
    cases i with
    | zero =>
      simp at hi
      subst hi
      show (e.cs ++ gCs L)[0 * 2 + j]? = _
      rw [List.getElem?_append_left (by simp [Gr.cs]; omega)]
      simp
    | succ i =>
      simp at hi
      show (e.cs ++ gCs L)[(i + 1) * 2 + j]? = _
      rw [List.getElem?_append_right (by simp [Gr.cs]; omega)]
      rw [show (i + 1) * 2 + j - e.cs.length = i * 2 + j by simp [Gr.cs]; omega]
      exact ih hi
theorem gCs_take (L : List Gr) (i : Nat) : gCs (L.take i) = (gCs L).take (i * 2) := by
  induction L generalizing i with
  | nil => simp [gCs]
  | cons e L ih =>
    cases i with
    | zero => simp [gCs]
    | succ i =>
      show e.cs ++ gCs (L.take i) = (e.cs ++ gCs L).take ((i + 1) * 2)
      have hl : e.cs.length = 2 := rfl
      rw [ih, List.take_append, List.take_of_length_le (l := e.cs) (by omega), hl, show (i + 1) * 2 - 2 = i * 2 by omega]
theorem gCs_drop (L : List Gr) (i : Nat) : gCs (L.drop i) = (gCs L).drop (i * 2) := by
  induction L generalizing i with
  | nil => simp [gCs]
  | cons e L ih =>
    cases i with
    | zero => simp [gCs]
    | succ i =>
      show gCs (L.drop i) = (e.cs ++ gCs L).drop ((i + 1) * 2)
      have hl : e.cs.length = 2 := rfl
      rw [ih, List.drop_append, (show List.drop ((i + 1) * 2) e.cs = [] from List.drop_eq_nil_of_le (by omega)), List.nil_append, hl, show (i + 1) * 2 - 2 = i * 2 by omega]
theorem gCs_set {L : List Gr} {i : Nat} (x : Gr) (hi : i < L.length) : gCs (L.set i x) = ((gCs L).set (i * 2) (.slice x.a x.n x.c)).set (i * 2 + 1) (.bool x.sp) := by
  induction L generalizing i with
  | nil => simp at hi
  | cons e L ih =>
    cases i with
    | zero => simp [gCs, Gr.cs]
    | succ i =>
      show e.cs ++ gCs (L.set i x) = ((e.cs ++ gCs L).set ((i + 1) * 2) _).set ((i + 1) * 2 + 1) _
      have hl : e.cs.length = 2 := rfl
      rw [ih (by simpa using hi), List.set_append_right _ _ (by omega), List.set_append_right _ _ (by omega), hl, show (i + 1) * 2 - 2 = i * 2 by omega, show (i + 1) * 2 + 1 - 2 = i * 2 + 1 by omega]
def OwnsG (w : World) (base : Nat) (v : Value) (G : List Gr) : Prop := w.ownsRow base 123 2 v G.length (gCs G)
theorem ownsG_nil (w : World) (base : Nat) : OwnsG w base (.slice none 0 0) [] := World.ownsRow_nil w base 123 2
theorem infoG : (Tryz.prog.info? 123).map (fun i => (i.zero, i.size, i.bytes)) = some (some (.agg #[.slice none 0 0, .bool false]), 2, 32) := by kernel_rfl
def SrcG (w : World) (a : Option Addr) (m c : Nat) (M : List Gr) : Prop := M.length = m ∧ ((m = 0 ∧ a = none ∧ c = 0) ∨ ∃ ad, a = some ad ∧ ∀ j u, (gCs M)[j]? = some u → w.cell? (ad.add j) = some u)
theorem SrcG.kept {w w' : World} {a : Option Addr} {m c : Nat} {M : List Gr} (h : SrcG w a m c M) (hb : Below w.heap.size w w') : SrcG w' a m c M := by
  refine ⟨h.1, h.2.imp id ?_⟩
  rintro ⟨ad, rfl, hc⟩
  exact ⟨ad, rfl, fun j u hj => (hb.cell (World.block_lt_of_cell? w _ (hc j u hj))).trans (hc j u hj)⟩
theorem one_g (M : List Gr) : ∀ u ∈ gCs M, u.oneCell' = true := by
  intro u hu
  unfold gCs at hu
  obtain ⟨l, hl, hu⟩ := List.mem_flatten.1 hu
  obtain ⟨s, _, rfl⟩ := List.mem_map.1 hl
  simp [Gr.cs] at hu
  rcases hu with rfl | rfl <;> rfl
theorem run_app_g {w : World} (ty : TypeId) (base : Nat) (v : Value) (L M : List Gr) (hown : OwnsG w base v L) (a2 : Option Addr) (m c : Nat) (hs : SrcG w a2 m c M) (hlen : L.length + M.length ≤ 1000000000) (hbase : base ≤ w.heap.size) :
    ∃ v' w', (Builtin.append_ #[34, 34] ty #[v, .slice a2 m c]).run Tryz.prog w = .ok v' w' ∧ OwnsG w' base v' (L ++ M) ∧ w.grownBy w' v.ownBlock := by
  obtain ⟨i, hi, hz, hsz, hby⟩ := info_parts' infoG
  obtain ⟨hm, h | ⟨ad, rfl, hc⟩⟩ := hs
  · obtain ⟨rfl, rfl, rfl⟩ := h
    have hM : M = [] := List.eq_nil_of_length_eq_zero hm
    subst hM
    have hrun := run_append_owned_none (P := Tryz.prog) (w := w) base 34 ty 123 i 2 Tryz.underlying34 hi v L.length _ hown
    exact ⟨v, w, hrun, by rw [List.append_nil]; exact hown, World.grownBy.refl _ _⟩
  · obtain ⟨v', w', e, h2, h3, _⟩ := run_append_own_wide (P := Tryz.prog) w base 34 ty 123 i _ 2 32 Tryz.underlying34 hi hz hsz hby rfl (by decide) v L.length _ hown ad m c (gCs M) (by rw [gCs_len, hm]) hc (one_g M) (by unfold maxLen; omega) (by omega) hbase
    refine ⟨v', w', e, ?_, h3⟩
    show World.ownsRow w' base 123 2 v' (L ++ M).length (gCs (L ++ M))
    rw [List.length_append, gCs_app, hm]
    exact h2
/-- A datagram's bytes, in a block of E. -/
def GrE (w : World) (E : Nat → Prop) (x : Gr) : Prop := OwnsB w 0 (.slice x.a x.n x.c) x.zs ∧ ∀ g, (Value.slice x.a x.n x.c).ownBlock = some g → E g
theorem GrE.keep {w w' : World} {E : Nat → Prop} {x : Gr} (h : GrE w E x) (hb : ∀ b cur, E b → w.heap[b]? = some (.cells cur 5 (0, 0)) → w'.heap[b]? = w.heap[b]?) : GrE w' E x :=
  ⟨⟨ownsRow_keepE h.1.1 h.2 hb, h.1.2⟩, h.2⟩
theorem GrE.kept {w w' : World} {E : Nat → Prop} {x : Gr} (h : GrE w E x) (hb : Below w.heap.size w w') : GrE w' E x := h.keep fun b cur _ h2 => hb.block b (Array.getElem?_eq_some_iff.1 h2).1
theorem GrE.to {w : World} {E E' : Nat → Prop} {x : Gr} (h : GrE w E x) (hE : ∀ q, q < w.heap.size → E q → E' q) : GrE w E' x := ⟨h.1, fun g hg => hE g (ownC_lt h.1.1 g hg) (h.2 g hg)⟩
/-- THE ROW v HOLDS THESE DATAGRAMS, in blocks of E. -/
structure RowG (w : World) (E : Nat → Prop) (v : Value) (G : List Gr) : Prop where
  own : OwnsG w 0 v G
  at_ : ∀ g, v.ownBlock = some g → E g
  ent : ∀ x ∈ G, GrE w E x
theorem RowG.keep {w w' : World} {E : Nat → Prop} {v : Value} {G : List Gr} (h : RowG w E v G) (hb : ∀ b cur e, E b → w.heap[b]? = some (.cells cur e (0, 0)) → e = 123 ∨ e = 5 → w'.heap[b]? = w.heap[b]?) : RowG w' E v G :=
  ⟨ownsRow_keepE h.own h.at_ (fun b cur k1 k2 => hb b cur _ k1 k2 (.inl rfl)), h.at_, fun x hx => (h.ent x hx).keep fun b cur k1 k2 => hb b cur _ k1 k2 (.inr rfl)⟩
theorem RowG.kept {w w' : World} {E : Nat → Prop} {v : Value} {G : List Gr} (h : RowG w E v G) (hb : Below w.heap.size w w') : RowG w' E v G :=
  h.keep fun b cur e _ h2 _ => hb.block b (Array.getElem?_eq_some_iff.1 h2).1
theorem RowG.to {w : World} {E E' : Nat → Prop} {v : Value} {G : List Gr} (h : RowG w E v G) (hE : ∀ q, q < w.heap.size → E q → E' q) : RowG w E' v G :=
  ⟨h.own, fun g hg => hE g (ownC_lt h.own g hg) (h.at_ g hg), fun x hx => (h.ent x hx).to hE⟩
theorem rowG_nil (w : World) (E : Nat → Prop) : RowG w E (.slice none 0 0) [] := ⟨ownsG_nil _ _, (fun g hg => by cases hg), (fun x hx => by cases hx)⟩
theorem OwnsG.form {w : World} {base : Nat} {v : Value} {G : List Gr} (h : OwnsG w base v G) : ∃ a c, v = .slice a G.length c ∧ G.length ≤ c ∧ c ≤ 9223372036854775807 ∧ (a = none → c = 0) := by
  rcases h.2 with ⟨hv, hn⟩ | ⟨g, cap, cur, hv, hg, hc, hnc, hcm, r⟩
  · exact ⟨none, 0, by rw [hv, hn], by omega, by decide, fun _ => rfl⟩
  · exact ⟨_, cap, hv, hnc, by unfold maxLen at hcm; exact hcm, fun h => by cases h⟩
/-- One datagram's two cells. -/
theorem RowG.cells {w : World} {E : Nat → Prop} {v : Value} {G : List Gr} (h : RowG w E v G) {i : Nat} {x : Gr} (hi : G[i]? = some x) :
    ∃ g c, v = .slice (some ⟨g, 0, none⟩) G.length c ∧ w.cell? ⟨g, i * 2, none⟩ = some (.slice x.a x.n x.c) ∧ w.cell? ⟨g, i * 2 + 1, none⟩ = some (.bool x.sp) ∧ G.length ≤ c ∧ c ≤ 9223372036854775807 := by
  have hlt := (List.getElem?_eq_some_iff.1 hi).1
  rcases h.own.2 with ⟨hv, hn⟩ | ⟨g, cap, cur, hv, hg, hc, hnc, hcm, hcs, htk⟩
  · omega
  · refine ⟨g, cap, hv, ?_, ?_, hnc, by unfold maxLen at hcm; exact hcm⟩
    · have e1 := gCs_at hi (j := 0) (by decide)
      rw [cell_row hc, ← Array.getElem?_toList]
      rw [← htk, List.getElem?_take, if_pos (by omega)] at e1
      simpa [Gr.cs] using e1
    · have e1 := gCs_at hi (j := 1) (by decide)
      rw [cell_row hc, ← Array.getElem?_toList]
      rw [← htk, List.getElem?_take, if_pos (by omega)] at e1
      simpa [Gr.cs] using e1
theorem RowG.src {w : World} {E : Nat → Prop} {a : Option Addr} {n c : Nat} {G : List Gr} (h : RowG w E (.slice a n c) G) : SrcG w a n c G := by
  rcases h.own.2 with ⟨hv, hn⟩ | ⟨g, cap, cur, hv, hg, hc, hnc, hcm, hcs, htk⟩
  · cases hv
    exact ⟨hn, .inl ⟨rfl, rfl, rfl⟩⟩
  · cases hv
    refine ⟨rfl, .inr ⟨_, rfl, fun j u hj => ?_⟩⟩
    have hlt := (List.getElem?_eq_some_iff.1 hj).1
    rw [gCs_len] at hlt
    rw [addr_add', Nat.zero_add, cell_row hc, ← Array.getElem?_toList]
    rw [← htk, List.getElem?_take, if_pos hlt] at hj
    exact hj
theorem SrcG.take {w : World} {a : Option Addr} {n c i : Nat} {G : List Gr} (h : SrcG w a n c G) (hi : i ≤ n) (ha : a ≠ none) : SrcG w a i c (G.take i) := by
  obtain ⟨h1, h2⟩ := h
  refine ⟨by rw [List.length_take, h1]; omega, ?_⟩
  rcases h2 with ⟨_, h2, _⟩ | ⟨ad, h2, hc⟩
  · exact absurd h2 ha
  · refine .inr ⟨ad, h2, fun j u hj => hc j u ?_⟩
    rw [gCs_take, List.getElem?_take] at hj
    split at hj
    · exact hj
    · cases hj
theorem SrcG.drop {w : World} {g n c i : Nat} {G : List Gr} (h : SrcG w (some ⟨g, 0, none⟩) n c G) (hi : i ≤ n) (k : Nat) : SrcG w (some ⟨g, i * 2, none⟩) (n - i) k (G.drop i) := by
  obtain ⟨h1, h2⟩ := h
  refine ⟨by rw [List.length_drop, h1], ?_⟩
  rcases h2 with ⟨_, h2, _⟩ | ⟨ad, h2, hc⟩
  · cases h2
  · cases h2
    refine .inr ⟨_, rfl, fun j u hj => ?_⟩
    rw [gCs_drop, List.getElem?_drop] at hj
    have := hc _ _ hj
    rw [addr_add'] at this ⊢
    rw [Nat.zero_add] at this
    exact this
theorem SrcG.none_ {w : World} (g k : Nat) : SrcG w (some ⟨g, k, none⟩) 0 0 ([] : List Gr) := ⟨rfl, .inr ⟨_, rfl, fun j u hj => by simp [gCs] at hj⟩⟩
theorem srcG_one {w : World} {b : Nat} {x : Gr} (h0 : w.cell? ⟨b, 0, none⟩ = some (.slice x.a x.n x.c)) (h1 : w.cell? ⟨b, 1, none⟩ = some (.bool x.sp)) : SrcG w (some ⟨b, 0, none⟩) 1 1 [x] := by
  refine ⟨rfl, .inr ⟨_, rfl, fun j u hu => ?_⟩⟩
  have e : gCs [x] = x.cs := by simp [gCs]
  rw [e] at hu
  rw [addr_add', Nat.zero_add]
  match j, hu with
  | 0, hu => simp [Gr.cs] at hu; rw [h0, hu]
  | 1, hu => simp [Gr.cs] at hu; rw [h1, hu]
  | j + 2, hu => simp [Gr.cs] at hu
/-- A row that is new, as a row of E. -/
theorem OwnsG.rowE {w : World} {E : Nat → Prop} {base : Nat} {v : Value} {G : List Gr} (h : OwnsG w base v G) (hE : ∀ q, base ≤ q → E q) (he : ∀ x ∈ G, GrE w E x) : RowG w E v G :=
  ⟨ownsRow_low h (Nat.zero_le _), fun g hg => hE g (own_at h g hg).1, he⟩
theorem OwnsG.kept {w w' : World} {base : Nat} {v : Value} {G : List Gr} (h : OwnsG w base v G) (hb : Below w.heap.size w w') : OwnsG w' base v G :=
  ownsRow_keep h fun b cur _ k2 => hb.block b (Array.getElem?_eq_some_iff.1 k2).1
/-- THE DOCUMENT'S LINK'S BLOCK: its nets lie in cells 10 and 11. -/
def XNk (w : World) (lb : Nat) (X : Nat → Value) (v0 v1 : Value) : Prop :=
  Blk w lb #[X 0, X 1, X 2, X 3, X 4, X 5, X 6, X 7, X 8, X 9, v0, v1, X 12, X 13] 37
theorem XNk.blk {w : World} {lb : Nat} {X : Nat → Value} {v0 v1 : Value} (h : XNk w lb X v0 v1) : Blk w lb #[X 0, X 1, X 2, X 3, X 4, X 5, X 6, X 7, X 8, X 9, v0, v1, X 12, X 13] 37 := h
theorem blk_five {w : World} {b : Nat} {cur : Array Value} {e T : TypeId} {cs : Array Value} (h : w.heap[b]? = some (.cells cur e (0, 0))) (hl : Blk w b cs T) : e = T := by
  unfold Blk at hl
  rw [h] at hl
  injection hl with hl
  injection hl with _ h3
/-- What a call may turn: the link's block, blocks of one type, new memory. -/
def Kt (B lb : Nat) (T : TypeId) (w : World) : Nat → Prop := fun q => q = lb ∨ (B ≤ q ∧ ∃ cs, Blk w q cs T) ∨ w.heap.size ≤ q
theorem KS.ty {w w' : World} {B lb : Nat} {T e : TypeId} {cs cur : Array Value} {b : Nat} (k : KS (Kt B lb T w) w w') (hl : Blk w lb cs 37) (h : w.heap[b]? = some (.cells cur e (0, 0))) (h1 : e ≠ 37) (h2 : e ≠ T) : w'.heap[b]? = w.heap[b]? := by
  have hlt := (Array.getElem?_eq_some_iff.1 h).1
  refine k.block b hlt fun hc => ?_
  rcases hc with rfl | ⟨_, cs2, hc⟩ | hc
  · exact h1 (blk_five h hl)
  · exact h2 (blk_five h hc)
  · omega
theorem RowD.kt {w w' : World} {B lb : Nat} {T : TypeId} {cs : Array Value} {E : Nat → Prop} {v : Value} {L : List De} (h : RowD w E v L) (k : KS (Kt B lb T w) w w') (hl : Blk w lb cs 37) (h1 : 147 ≠ T) (h2 : 5 ≠ T) : RowD w' E v L :=
  h.keep fun b _ _ ⟨cur, e, he, h3⟩ => by
    rcases h3 with rfl | rfl
    · exact k.ty hl he (by decide) h1
    · exact k.ty hl he (by decide) h2
theorem RowR.kt {w w' : World} {B lb : Nat} {T : TypeId} {cs : Array Value} {E : Nat → Prop} {v : Value} {L : List Cm} (h : RowR w E v L) (k : KS (Kt B lb T w) w w') (hl : Blk w lb cs 37) (h1 : 86 ≠ T) (h2 : 5 ≠ T) : RowR w' E v L :=
  h.keep fun b cur e he h3 => by
    rcases h3 with ⟨rfl, _⟩ | rfl
    · exact k.ty hl he (by decide) h1
    · exact k.ty hl he (by decide) h2
theorem RowG.kt {w w' : World} {B lb : Nat} {T : TypeId} {cs : Array Value} {E : Nat → Prop} {v : Value} {G : List Gr} (h : RowG w E v G) (k : KS (Kt B lb T w) w w') (hl : Blk w lb cs 37) (h1 : 123 ≠ T) (h2 : 5 ≠ T) : RowG w' E v G :=
  h.keep fun b cur e _ he h3 => by
    rcases h3 with rfl | rfl
    · exact k.ty hl he (by decide) h1
    · exact k.ty hl he (by decide) h2
/-- The blocks of a row are not the link's. -/
theorem RowG.off {w : World} {E : Nat → Prop} {v : Value} {G : List Gr} {lb j : Nat} {cs : Array Value} (h : RowG w E v G) (hl : Blk w lb cs 37) (u : Value) : RowG (w.setCell ⟨lb, j, none⟩ u) E v G :=
  h.keep fun b cur e _ h2 h3 => Below.heap_setCell _ _ _ _ fun e2 => by
    have e3 : b = lb := e2
    subst e3
    have := blk_five h2 hl
    rcases h3 with rfl | rfl
    · exact absurd this (by decide)
    · exact absurd this (by decide)
end Go.Proofs.YtfipdldoklkciaaGreat
namespace Go.Proofs.YtfipdldoklkciaaGreat
open Go.RowKit
set_option linter.unusedVariables false
def thereE (n : Int) (len : Nat) (i : Int) : Int := if netB n = false then 1 else if i < 0 ∨ (len : Int) ≤ i then 15 else 0
def xnet (v0 v1 : Value) (n : Int) : Value := if n = 0 then v0 else v1
theorem net_two {n : Int} (h : netB n = true) : n = 0 ∨ n = 1 := by unfold netB at h; simpa using h
theorem xthere_no {w : World} {lb : Nat} (n i : Int) (h : netB n = false) :
    Calls Tryz.prog 69 #[.pointer (some ⟨lb, 0, none⟩), .int .i64 n, .int .i64 i] w fun e w' => e = .returned (.int .i64 1) ∧ w' = w := by
  have d0 : (n != 0) = true := by unfold netB at h; simp at h ⊢; exact h.1
  have d1 : (n != 1) = true := by unfold netB at h; simp at h ⊢; exact h.2
  clear h
  go_enter Tryz.func69, Tryz.ntmps69
  go_wp2
  go_ret
  all_goals simp_all
theorem xthere0 {w : World} {lb : Nat} {X : Nat → Value} {v0 v1 : Value} (i : Int) {a : Option Addr} {n c : Nat} (h : XNk w lb X v0 v1) (hv : v0 = .slice a n c) :
    Calls Tryz.prog 69 #[.pointer (some ⟨lb, 0, none⟩), .int .i64 0, .int .i64 i] w fun e w' => e = .returned (.int .i64 (thereE 0 n i)) ∧ w' = w := by
  have c0 : w.cell? ⟨lb, 10, none⟩ = some (.slice a n c) := by rw [← hv]; exact h.blk.cell 10
  clear h
  by_cases h0 : i < 0
  · have e : thereE 0 n i = 15 := by unfold thereE; rw [if_neg (by decide), if_pos (.inl h0)]
    rw [e]
    have d0 : decide (i < 0) = true := by simpa using h0
    clear e h0
    go_enter Tryz.func69, Tryz.ntmps69
    go_wp2
    go_ret
    all_goals simp_all
  · have d0 : decide (i < 0) = false := by simpa using h0
    by_cases h1 : (n : Int) ≤ i
    · have e : thereE 0 n i = 15 := by unfold thereE; rw [if_neg (by decide), if_pos (.inr h1)]
      rw [e]
      have d1 : decide (i ≥ (n : Int)) = true := by simpa using h1
      clear e h0 h1
      go_enter Tryz.func69, Tryz.ntmps69
      go_wp2
      go_ret
      all_goals simp_all
    · have e : thereE 0 n i = 0 := by unfold thereE; rw [if_neg (by decide), if_neg (by omega)]
      rw [e]
      have d1 : decide (i ≥ (n : Int)) = false := by simp; omega
      clear e h0 h1
      go_enter Tryz.func69, Tryz.ntmps69
      go_wp2
      go_ret
      all_goals simp_all
theorem xway0 {w : World} {lb : Nat} {X : Nat → Value} {v0 v1 : Value} {a : Option Addr} {n c : Nat} (h : XNk w lb X v0 v1) (hv : v0 = .slice a n c) :
    Calls Tryz.prog 11 #[.pointer (some ⟨lb, 0, none⟩), .int .i64 0] w fun e w' => e = .returned (.int .i64 (n : Nat)) ∧ w' = w := by
  have c0 : w.cell? ⟨lb, 10, none⟩ = some (.slice a n c) := by rw [← hv]; exact h.blk.cell 10
  clear h
  go_enter Tryz.func11, Tryz.ntmps11
  go_wp2
  go_ret
  all_goals simp_all
theorem xthere1 {w : World} {lb : Nat} {X : Nat → Value} {v0 v1 : Value} (i : Int) {a : Option Addr} {n c : Nat} (h : XNk w lb X v0 v1) (hv : v1 = .slice a n c) :
    Calls Tryz.prog 69 #[.pointer (some ⟨lb, 0, none⟩), .int .i64 1, .int .i64 i] w fun e w' => e = .returned (.int .i64 (thereE 1 n i)) ∧ w' = w := by
  have c0 : w.cell? ⟨lb, 11, none⟩ = some (.slice a n c) := by rw [← hv]; exact h.blk.cell 11
  clear h
  by_cases h0 : i < 0
  · have e : thereE 1 n i = 15 := by unfold thereE; rw [if_neg (by decide), if_pos (.inl h0)]
    rw [e]
    have d0 : decide (i < 0) = true := by simpa using h0
    clear e h0
    go_enter Tryz.func69, Tryz.ntmps69
    go_wp2
    go_ret
    all_goals simp_all
  · have d0 : decide (i < 0) = false := by simpa using h0
    by_cases h1 : (n : Int) ≤ i
    · have e : thereE 1 n i = 15 := by unfold thereE; rw [if_neg (by decide), if_pos (.inr h1)]
      rw [e]
      have d1 : decide (i ≥ (n : Int)) = true := by simpa using h1
      clear e h0 h1
      go_enter Tryz.func69, Tryz.ntmps69
      go_wp2
      go_ret
      all_goals simp_all
    · have e : thereE 1 n i = 0 := by unfold thereE; rw [if_neg (by decide), if_neg (by omega)]
      rw [e]
      have d1 : decide (i ≥ (n : Int)) = false := by simp; omega
      clear e h0 h1
      go_enter Tryz.func69, Tryz.ntmps69
      go_wp2
      go_ret
      all_goals simp_all
theorem xway1 {w : World} {lb : Nat} {X : Nat → Value} {v0 v1 : Value} {a : Option Addr} {n c : Nat} (h : XNk w lb X v0 v1) (hv : v1 = .slice a n c) :
    Calls Tryz.prog 11 #[.pointer (some ⟨lb, 0, none⟩), .int .i64 1] w fun e w' => e = .returned (.int .i64 (n : Nat)) ∧ w' = w := by
  have c0 : w.cell? ⟨lb, 11, none⟩ = some (.slice a n c) := by rw [← hv]; exact h.blk.cell 11
  clear h
  go_enter Tryz.func11, Tryz.ntmps11
  go_wp2
  go_ret
  all_goals simp_all
set_option maxHeartbeats 1000000 in
set_option maxRecDepth 100000 in
theorem xputs0 {w : World} {lb : Nat} {E : Nat → Prop} {X : Nat → Value} {v0 v1 : Value} {G : List Gr} (g : Gr) (h : XNk w lb X v0 v1) (hr : RowG w E v0 G) (hf : G.length ≤ 256) (hE : ∀ q, w.heap.size ≤ q → E q) (hg : GrE w E g) :
    Calls Tryz.prog 74 #[.pointer (some ⟨lb, 0, none⟩), .int .i64 0, g.val] w fun e w' => e = .returned (.tuple #[]) ∧ ∃ v2, Hid (XNk w' lb X v2 v1) ∧ Hid (RowG w' E v2 (putG G g)) ∧ Hid (KS (fun q => q = lb) w w') := by
  obtain ⟨a, c, hv, hnc, hcm, hac⟩ := hr.own.form
  subst hv
  have hlb := h.blk.lt
  have hX : Hid (XNk w lb X (.slice a G.length c) v1) := h
  by_cases hl : G.length < 256
  · have hput : putG G g = G ++ [g] := by unfold putG; rw [if_pos hl]
    rw [hput]
    have dl : decide ((G.length : Int) < 256) = true := by simp; omega
    have hb0 : Below w.heap.size w (w.alloc (.cells #[.slice g.a g.n g.c, .bool g.sp] 123)) := (Below.refl _ _).alloc (Nat.le_refl _) _
    have hsz : (w.alloc (.cells #[.slice g.a g.n g.c, .bool g.sp] 123)).heap.size = w.heap.size + 1 := by simp
    have hsrc := hr.src.kept hb0
    have hbx := blk_new w #[.slice g.a g.n g.c, .bool g.sp] 123
    -- the copy ahead of the box
    obtain ⟨vA, wA, rA, oA, gA⟩ := run_app_g (w := (w.alloc (.cells #[.slice g.a g.n g.c, .bool g.sp] 123)).drew) 34 w.heap.size (.slice none 0 0) [] G (ownsG_nil _ _) a G.length c hsrc (by simp; omega) (by show _ ≤ (w.alloc _).heap.size; omega)
    rw [List.nil_append] at oA
    have bA : Below w.heap.size w wA := own_below' hb0.drew (ownsG_nil (w.alloc (.cells #[.slice g.a g.n g.c, .bool g.sp] 123)).drew w.heap.size) gA (by show _ ≤ (w.alloc _).heap.size; omega)
    have nA := blk_new wA #[.slice g.a g.n g.c, .bool g.sp] 123
    have bA' : Below w.heap.size w (wA.alloc (.cells #[.slice g.a g.n g.c, .bool g.sp] 123)) := bA.alloc bA.size _
    obtain ⟨vB, wB, rB, oB, gB⟩ := run_app_g (w := wA.alloc (.cells #[.slice g.a g.n g.c, .bool g.sp] 123)) 34 w.heap.size vA G [g] (oA.kept ((Below.refl _ _).alloc (Nat.le_refl _) _)) (some ⟨wA.heap.size, 0, none⟩) 1 1 (srcG_one (nA.cell 0) (nA.cell 1)) (by simp; omega) bA'.size
    have bB : Below w.heap.size w wB := own_below' bA' (oA.kept ((Below.refl _ _).alloc (Nat.le_refl _) _)) gB bA'.size
    -- the box ahead of the copy
    have b1 : Below w.heap.size w ((w.alloc (.cells #[.slice g.a g.n g.c, .bool g.sp] 123)).alloc (.cells #[.slice g.a g.n g.c, .bool g.sp] 123)).drew := (hb0.alloc hb0.size _).drew
    have n1 := blk_new (w.alloc (.cells #[.slice g.a g.n g.c, .bool g.sp] 123)) #[.slice g.a g.n g.c, .bool g.sp] 123
    obtain ⟨vC, wC, rC, oC, gC⟩ := run_app_g (w := ((w.alloc (.cells #[.slice g.a g.n g.c, .bool g.sp] 123)).alloc (.cells #[.slice g.a g.n g.c, .bool g.sp] 123)).drew) 34 w.heap.size (.slice none 0 0) [] G (ownsG_nil _ _) a G.length c (hr.src.kept b1) (by simp; omega) b1.size
    rw [List.nil_append] at oC
    have bC : Below w.heap.size w wC := own_below' b1 (ownsG_nil _ w.heap.size) gC b1.size
    have nC : Blk wC (w.heap.size + 1) #[.slice g.a g.n g.c, .bool g.sp] 123 := by
      rw [hsz] at n1
      exact (gC.block _ n1.lt (fun e => by cases e)).trans n1
    obtain ⟨vD, wD, rD, oD, gD⟩ := run_app_g (w := wC) 34 w.heap.size vC G [g] oC (some ⟨w.heap.size + 1, 0, none⟩) 1 1 (srcG_one (nC.cell 0) (nC.cell 1)) (by simp; omega) bC.size
    have bD : Below w.heap.size w wD := own_below' bC oC gD bC.size
    have hz : (w.alloc (.cells #[.slice g.a g.n g.c, .bool g.sp] 123)).drew.heap.size = w.heap.size + 1 := hsz
    -- the end
    have hfin : Hid (∀ (x : World) (v : Value), Below w.heap.size w x → OwnsG x w.heap.size v (G ++ [g]) → ∃ v2, Hid (XNk (x.setCell ⟨lb, 10, none⟩ v) lb X v2 v1) ∧ Hid (RowG (x.setCell ⟨lb, 10, none⟩ v) E v2 (G ++ [g])) ∧ Hid (KS (fun q => q = lb) w (x.setCell ⟨lb, 10, none⟩ v))) := fun x v hb ho => by
      refine ⟨v, (h.blk.kept hb).set 10 _, ?_, (KS.of_below hb).trans (KS.set (C := fun q => q = lb) _ lb _ rfl _)⟩
      refine RowG.off (OwnsG.rowE ho hE fun y hy => ?_) (h.blk.kept hb) _
      rcases List.mem_append.1 hy with hy | hy
      · exact (hr.ent y hy).kept hb
      · rw [List.mem_singleton.1 hy]; exact hg.kept hb
    have hxB := hfin.out wB vB bB oB
    have hxD := hfin.out wD vD bD oD
    have hxB' : Hid _ := hxB
    have hxD' : Hid _ := hxD
    have k0 : w.cell? ⟨lb, 10, none⟩ = some (.slice a G.length c) := h.blk.cell 10
    have kA : wA.cell? ⟨lb, 10, none⟩ = some (.slice a G.length c) := (h.blk.kept bA).cell 10
    have kB : ∃ u, wB.cell? ⟨lb, 10, none⟩ = some u := ⟨_, (h.blk.kept bB).cell 10⟩
    have kD : ∃ u, wD.cell? ⟨lb, 10, none⟩ = some u := ⟨_, (h.blk.kept bD).cell 10⟩
    obtain ⟨uB, kB⟩ := kB
    obtain ⟨uD, kD⟩ := kD
    have fB := (h.blk.kept bB).fz 10
    have fD := (h.blk.kept bD).fz 10
    obtain ⟨aA, cA, hvA, -, -, -⟩ := oA.form
    obtain ⟨aC, cC, hvC, -, -, -⟩ := oC.form
    obtain ⟨aB, cB, hvB, -, -, -⟩ := oB.form
    obtain ⟨aD, cD, hvD, -, -, -⟩ := oD.form
    subst hvA hvB hvC hvD
    have hL1 : (G ++ [g]).length = G.length + 1 := by simp
    rw [hL1] at rB rD hxB' hxD'
    have xbA : wA.cell? ⟨w.heap.size, 0, none⟩ = some (.slice g.a g.n g.c) ∧ wA.cell? ⟨w.heap.size, 1, none⟩ = some (.bool g.sp) := by
      have := (gA.block w.heap.size (by show _ < (w.alloc _).heap.size; omega) (fun e => by cases e)).trans hbx
      exact ⟨Blk.cell this 0, Blk.cell this 1⟩
    obtain ⟨xbA0, xbA1⟩ := xbA
    have rA' : Hid ((Builtin.append_ #[34, 34] 34 #[.slice none 0 0, .slice a G.length c]).run Tryz.prog (w.alloc (.cells #[.slice g.a g.n g.c, .bool g.sp] 123)).drew = .ok (.slice aA G.length cA) wA) := rA
    have rB' : Hid ((Builtin.append_ #[34, 34] 34 #[.slice aA G.length cA, .slice (some ⟨wA.heap.size, 0, none⟩) 1 1]).run Tryz.prog (wA.alloc (.cells #[.slice g.a g.n g.c, .bool g.sp] 123)) = .ok (.slice aB (G.length + 1) cB) wB) := rB
    have rC' : Hid ((Builtin.append_ #[34, 34] 34 #[.slice none 0 0, .slice a G.length c]).run Tryz.prog ((w.alloc (.cells #[.slice g.a g.n g.c, .bool g.sp] 123)).alloc (.cells #[.slice g.a g.n g.c, .bool g.sp] 123)).drew = .ok (.slice aC G.length cC) wC) := rC
    have rD' : Hid ((Builtin.append_ #[34, 34] 34 #[.slice aC G.length cC, .slice (some ⟨w.heap.size + 1, 0, none⟩) 1 1]).run Tryz.prog wC = .ok (.slice aD (G.length + 1) cD) wD) := rD
    clear hr hf hE hg hput hl hac hcm hnc hfin hxB hxD rA rB rC rD oA oB oC oD gA gB gC gD nA n1 nC b1 bA bA' bB bC bD hsrc hb0 h hbx hz hsz
    unfold Gr.val
    go_enter Tryz.func74, Tryz.ntmps74
    go_wp2
    go_region_law (first
      | (refine step_run_b (by rfl) _ _ 34 (by rfl) (.slice none 0 0) (.slice a G.length c) (by rfl) (by rfl) (by with_reducible exact rA'.out) ?_)
      | (refine step_run_b (by rfl) _ _ 34 (by rfl) (.slice aA G.length cA) (.slice (some ⟨wA.heap.size, 0, none⟩) 1 1) (by rfl) (by rfl) (by with_reducible exact rB'.out) ?_)
      | (refine step_run_b (by rfl) _ _ 34 (by rfl) (.slice none 0 0) (.slice a G.length c) (by rfl) (by rfl) (by with_reducible exact rC'.out) ?_)
      | (refine step_run_b (by rfl) _ _ 34 (by rfl) (.slice aC G.length cC) (.slice (some ⟨w.heap.size + 1, 0, none⟩) 1 1) (by rfl) (by rfl) (by with_reducible exact rD'.out) ?_))
    all_goals (
      go_wp2
      refine bodyPost_end (results_none rfl _ _ _) rfl ?_
      first | exact ⟨rfl, hxB'.out⟩ | exact ⟨rfl, hxD'.out⟩)
  · have hput : putG G g = G := by unfold putG; rw [if_neg hl]
    rw [hput]
    have dl : decide ((G.length : Int) < 256) = false := by simp; omega
    have k0 : w.cell? ⟨lb, 10, none⟩ = some (.slice a G.length c) := h.blk.cell 10
    have hb0 : Hid (Below w.heap.size w (w.alloc (.cells #[.slice g.a g.n g.c, .bool g.sp] 123))) := (Below.refl _ _).alloc (Nat.le_refl _) _
    have hR : Hid (RowG w E (.slice a G.length c) G) := hr
    clear hr hf hE hg hput hl hac hcm hnc h
    unfold Gr.val
    go_enter Tryz.func74, Tryz.ntmps74
    go_wp2
    refine bodyPost_end (results_none rfl _ _ _) rfl ?_
    exact ⟨rfl, _, hX.out.blk.kept hb0.out, hR.out.kept hb0.out, KS.of_below hb0.out⟩
set_option maxHeartbeats 1000000 in
set_option maxRecDepth 100000 in
theorem xputs1 {w : World} {lb : Nat} {E : Nat → Prop} {X : Nat → Value} {v0 v1 : Value} {G : List Gr} (g : Gr) (h : XNk w lb X v0 v1) (hr : RowG w E v1 G) (hf : G.length ≤ 256) (hE : ∀ q, w.heap.size ≤ q → E q) (hg : GrE w E g) :
    Calls Tryz.prog 74 #[.pointer (some ⟨lb, 0, none⟩), .int .i64 1, g.val] w fun e w' => e = .returned (.tuple #[]) ∧ ∃ v2, Hid (XNk w' lb X v0 v2) ∧ Hid (RowG w' E v2 (putG G g)) ∧ Hid (KS (fun q => q = lb) w w') := by
  obtain ⟨a, c, hv, hnc, hcm, hac⟩ := hr.own.form
  subst hv
  have hlb := h.blk.lt
  have hX : Hid (XNk w lb X v0 (.slice a G.length c)) := h
  by_cases hl : G.length < 256
  · have hput : putG G g = G ++ [g] := by unfold putG; rw [if_pos hl]
    rw [hput]
    have dl : decide ((G.length : Int) < 256) = true := by simp; omega
    have hb0 : Below w.heap.size w (w.alloc (.cells #[.slice g.a g.n g.c, .bool g.sp] 123)) := (Below.refl _ _).alloc (Nat.le_refl _) _
    have hsz : (w.alloc (.cells #[.slice g.a g.n g.c, .bool g.sp] 123)).heap.size = w.heap.size + 1 := by simp
    have hsrc := hr.src.kept hb0
    have hbx := blk_new w #[.slice g.a g.n g.c, .bool g.sp] 123
    -- the copy ahead of the box
    obtain ⟨vA, wA, rA, oA, gA⟩ := run_app_g (w := (w.alloc (.cells #[.slice g.a g.n g.c, .bool g.sp] 123)).drew) 34 w.heap.size (.slice none 0 0) [] G (ownsG_nil _ _) a G.length c hsrc (by simp; omega) (by show _ ≤ (w.alloc _).heap.size; omega)
    rw [List.nil_append] at oA
    have bA : Below w.heap.size w wA := own_below' hb0.drew (ownsG_nil (w.alloc (.cells #[.slice g.a g.n g.c, .bool g.sp] 123)).drew w.heap.size) gA (by show _ ≤ (w.alloc _).heap.size; omega)
    have nA := blk_new wA #[.slice g.a g.n g.c, .bool g.sp] 123
    have bA' : Below w.heap.size w (wA.alloc (.cells #[.slice g.a g.n g.c, .bool g.sp] 123)) := bA.alloc bA.size _
    obtain ⟨vB, wB, rB, oB, gB⟩ := run_app_g (w := wA.alloc (.cells #[.slice g.a g.n g.c, .bool g.sp] 123)) 34 w.heap.size vA G [g] (oA.kept ((Below.refl _ _).alloc (Nat.le_refl _) _)) (some ⟨wA.heap.size, 0, none⟩) 1 1 (srcG_one (nA.cell 0) (nA.cell 1)) (by simp; omega) bA'.size
    have bB : Below w.heap.size w wB := own_below' bA' (oA.kept ((Below.refl _ _).alloc (Nat.le_refl _) _)) gB bA'.size
    -- the box ahead of the copy
    have b1 : Below w.heap.size w ((w.alloc (.cells #[.slice g.a g.n g.c, .bool g.sp] 123)).alloc (.cells #[.slice g.a g.n g.c, .bool g.sp] 123)).drew := (hb0.alloc hb0.size _).drew
    have n1 := blk_new (w.alloc (.cells #[.slice g.a g.n g.c, .bool g.sp] 123)) #[.slice g.a g.n g.c, .bool g.sp] 123
    obtain ⟨vC, wC, rC, oC, gC⟩ := run_app_g (w := ((w.alloc (.cells #[.slice g.a g.n g.c, .bool g.sp] 123)).alloc (.cells #[.slice g.a g.n g.c, .bool g.sp] 123)).drew) 34 w.heap.size (.slice none 0 0) [] G (ownsG_nil _ _) a G.length c (hr.src.kept b1) (by simp; omega) b1.size
    rw [List.nil_append] at oC
    have bC : Below w.heap.size w wC := own_below' b1 (ownsG_nil _ w.heap.size) gC b1.size
    have nC : Blk wC (w.heap.size + 1) #[.slice g.a g.n g.c, .bool g.sp] 123 := by
      rw [hsz] at n1
      exact (gC.block _ n1.lt (fun e => by cases e)).trans n1
    obtain ⟨vD, wD, rD, oD, gD⟩ := run_app_g (w := wC) 34 w.heap.size vC G [g] oC (some ⟨w.heap.size + 1, 0, none⟩) 1 1 (srcG_one (nC.cell 0) (nC.cell 1)) (by simp; omega) bC.size
    have bD : Below w.heap.size w wD := own_below' bC oC gD bC.size
    have hz : (w.alloc (.cells #[.slice g.a g.n g.c, .bool g.sp] 123)).drew.heap.size = w.heap.size + 1 := hsz
    -- the end
    have hfin : Hid (∀ (x : World) (v : Value), Below w.heap.size w x → OwnsG x w.heap.size v (G ++ [g]) → ∃ v2, Hid (XNk (x.setCell ⟨lb, 11, none⟩ v) lb X v0 v2) ∧ Hid (RowG (x.setCell ⟨lb, 11, none⟩ v) E v2 (G ++ [g])) ∧ Hid (KS (fun q => q = lb) w (x.setCell ⟨lb, 11, none⟩ v))) := fun x v hb ho => by
      refine ⟨v, (h.blk.kept hb).set 11 _, ?_, (KS.of_below hb).trans (KS.set (C := fun q => q = lb) _ lb _ rfl _)⟩
      refine RowG.off (OwnsG.rowE ho hE fun y hy => ?_) (h.blk.kept hb) _
      rcases List.mem_append.1 hy with hy | hy
      · exact (hr.ent y hy).kept hb
      · rw [List.mem_singleton.1 hy]; exact hg.kept hb
    have hxB := hfin.out wB vB bB oB
    have hxD := hfin.out wD vD bD oD
    have hxB' : Hid _ := hxB
    have hxD' : Hid _ := hxD
    have k0 : w.cell? ⟨lb, 11, none⟩ = some (.slice a G.length c) := h.blk.cell 11
    have kA : wA.cell? ⟨lb, 11, none⟩ = some (.slice a G.length c) := (h.blk.kept bA).cell 11
    have kB : ∃ u, wB.cell? ⟨lb, 11, none⟩ = some u := ⟨_, (h.blk.kept bB).cell 11⟩
    have kD : ∃ u, wD.cell? ⟨lb, 11, none⟩ = some u := ⟨_, (h.blk.kept bD).cell 11⟩
    obtain ⟨uB, kB⟩ := kB
    obtain ⟨uD, kD⟩ := kD
    have fB := (h.blk.kept bB).fz 11
    have fD := (h.blk.kept bD).fz 11
    obtain ⟨aA, cA, hvA, -, -, -⟩ := oA.form
    obtain ⟨aC, cC, hvC, -, -, -⟩ := oC.form
    obtain ⟨aB, cB, hvB, -, -, -⟩ := oB.form
    obtain ⟨aD, cD, hvD, -, -, -⟩ := oD.form
    subst hvA hvB hvC hvD
    have hL1 : (G ++ [g]).length = G.length + 1 := by simp
    rw [hL1] at rB rD hxB' hxD'
    have xbA : wA.cell? ⟨w.heap.size, 0, none⟩ = some (.slice g.a g.n g.c) ∧ wA.cell? ⟨w.heap.size, 1, none⟩ = some (.bool g.sp) := by
      have := (gA.block w.heap.size (by show _ < (w.alloc _).heap.size; omega) (fun e => by cases e)).trans hbx
      exact ⟨Blk.cell this 0, Blk.cell this 1⟩
    obtain ⟨xbA0, xbA1⟩ := xbA
    have rA' : Hid ((Builtin.append_ #[34, 34] 34 #[.slice none 0 0, .slice a G.length c]).run Tryz.prog (w.alloc (.cells #[.slice g.a g.n g.c, .bool g.sp] 123)).drew = .ok (.slice aA G.length cA) wA) := rA
    have rB' : Hid ((Builtin.append_ #[34, 34] 34 #[.slice aA G.length cA, .slice (some ⟨wA.heap.size, 0, none⟩) 1 1]).run Tryz.prog (wA.alloc (.cells #[.slice g.a g.n g.c, .bool g.sp] 123)) = .ok (.slice aB (G.length + 1) cB) wB) := rB
    have rC' : Hid ((Builtin.append_ #[34, 34] 34 #[.slice none 0 0, .slice a G.length c]).run Tryz.prog ((w.alloc (.cells #[.slice g.a g.n g.c, .bool g.sp] 123)).alloc (.cells #[.slice g.a g.n g.c, .bool g.sp] 123)).drew = .ok (.slice aC G.length cC) wC) := rC
    have rD' : Hid ((Builtin.append_ #[34, 34] 34 #[.slice aC G.length cC, .slice (some ⟨w.heap.size + 1, 0, none⟩) 1 1]).run Tryz.prog wC = .ok (.slice aD (G.length + 1) cD) wD) := rD
    clear hr hf hE hg hput hl hac hcm hnc hfin hxB hxD rA rB rC rD oA oB oC oD gA gB gC gD nA n1 nC b1 bA bA' bB bC bD hsrc hb0 h hbx hz hsz
    unfold Gr.val
    go_enter Tryz.func74, Tryz.ntmps74
    go_wp2
    go_region_law (first
      | (refine step_run_b (by rfl) _ _ 34 (by rfl) (.slice none 0 0) (.slice a G.length c) (by rfl) (by rfl) (by with_reducible exact rA'.out) ?_)
      | (refine step_run_b (by rfl) _ _ 34 (by rfl) (.slice aA G.length cA) (.slice (some ⟨wA.heap.size, 0, none⟩) 1 1) (by rfl) (by rfl) (by with_reducible exact rB'.out) ?_)
      | (refine step_run_b (by rfl) _ _ 34 (by rfl) (.slice none 0 0) (.slice a G.length c) (by rfl) (by rfl) (by with_reducible exact rC'.out) ?_)
      | (refine step_run_b (by rfl) _ _ 34 (by rfl) (.slice aC G.length cC) (.slice (some ⟨w.heap.size + 1, 0, none⟩) 1 1) (by rfl) (by rfl) (by with_reducible exact rD'.out) ?_))
    all_goals (
      go_wp2
      refine bodyPost_end (results_none rfl _ _ _) rfl ?_
      first | exact ⟨rfl, hxB'.out⟩ | exact ⟨rfl, hxD'.out⟩)
  · have hput : putG G g = G := by unfold putG; rw [if_neg hl]
    rw [hput]
    have dl : decide ((G.length : Int) < 256) = false := by simp; omega
    have k0 : w.cell? ⟨lb, 11, none⟩ = some (.slice a G.length c) := h.blk.cell 11
    have hb0 : Hid (Below w.heap.size w (w.alloc (.cells #[.slice g.a g.n g.c, .bool g.sp] 123))) := (Below.refl _ _).alloc (Nat.le_refl _) _
    have hR : Hid (RowG w E (.slice a G.length c) G) := hr
    clear hr hf hE hg hput hl hac hcm hnc h
    unfold Gr.val
    go_enter Tryz.func74, Tryz.ntmps74
    go_wp2
    refine bodyPost_end (results_none rfl _ _ _) rfl ?_
    exact ⟨rfl, _, hX.out.blk.kept hb0.out, hR.out.kept hb0.out, KS.of_below hb0.out⟩
end Go.Proofs.YtfipdldoklkciaaGreat
namespace Go.Proofs.YtfipdldoklkciaaGreat
open Go.RowKit
set_option linter.unusedVariables false
theorem RowG.offB {w : World} {E : Nat → Prop} {v : Value} {G : List Gr} {b j : Nat} (h : RowG w E v G) (hb : ∀ q, E q → q ≠ b) (u : Value) : RowG (w.setCell ⟨b, j, none⟩ u) E v G :=
  h.keep fun q cur e h1 _ _ => Below.heap_setCell _ _ _ _ fun e2 => hb q h1 e2
theorem GrE.offB {w : World} {E : Nat → Prop} {x : Gr} {b j : Nat} (h : GrE w E x) (hb : ∀ q, E q → q ≠ b) (u : Value) : GrE (w.setCell ⟨b, j, none⟩ u) E x :=
  h.keep fun q cur h1 _ => Below.heap_setCell _ _ _ _ fun e2 => hb q h1 e2
theorem GrE.off {w : World} {E : Nat → Prop} {x : Gr} {lb j : Nat} {cs : Array Value} (h : GrE w E x) (hl : Blk w lb cs 37) (u : Value) : GrE (w.setCell ⟨lb, j, none⟩ u) E x :=
  h.keep fun b cur _ h2 => Below.heap_setCell _ _ _ _ fun e2 => by
    have e3 : b = lb := e2
    subst e3
    exact absurd (blk_five h2 hl) (by decide)
theorem KS.fresh {C : Nat → Prop} {w x : World} (h : KS C w x) {b j : Nat} (hb : w.heap.size ≤ b) (u : Value) : KS C w (x.setCell ⟨b, j, none⟩ u) :=
  ⟨h.os, h.tape, h.output, by have := h.size; simpa [World.setCell] using this, fun k hk hc => (Below.heap_setCell _ _ _ _ (by show k ≠ b; omega)).trans (h.block k hk hc)⟩
/-- What the second copy leaves. -/
def GoB0 (w wA wB : World) (lb : Nat) (E : Nat → Prop) (X : Nat → Value) (v0 v1 : Value) (aA : Option Addr) (i cA : Nat) (a2 : Addr) (m c2 : Nat) (G : List Gr) (x : Gr) (v : Value) : Prop :=
  (Builtin.append_ #[34, 34] 34 #[.slice aA i cA, .slice (some a2) m c2]).run Tryz.prog wA = .ok v wB ∧ (∃ u, wB.cell? ⟨lb, 10, none⟩ = some u) ∧ wB.frozen? ⟨lb, 10, none⟩ = false ∧ (wB.cell? ⟨w.heap.size + 1, 0, none⟩ = some (.slice x.a x.n x.c) ∧ wB.cell? ⟨w.heap.size + 1, 1, none⟩ = some (.bool x.sp)) ∧ (wB.cell? ⟨w.heap.size, 0, none⟩ = some (.slice none 0 0) ∧ wB.cell? ⟨w.heap.size, 1, none⟩ = some (.bool false) ∧ wB.frozen? ⟨w.heap.size, 0, none⟩ = false ∧ wB.frozen? ⟨w.heap.size, 1, none⟩ = false) ∧ Hid (∀ u0 u1 : Value, ∃ v2, Hid (XNk (((wB.setCell ⟨lb, 10, none⟩ v).setCell ⟨w.heap.size, 0, none⟩ u0).setCell ⟨w.heap.size, 1, none⟩ u1) lb X v2 v1) ∧ Hid (RowG (((wB.setCell ⟨lb, 10, none⟩ v).setCell ⟨w.heap.size, 0, none⟩ u0).setCell ⟨w.heap.size, 1, none⟩ u1) E v2 G) ∧ Hid (KS (fun q => q = lb) w (((wB.setCell ⟨lb, 10, none⟩ v).setCell ⟨w.heap.size, 0, none⟩ u0).setCell ⟨w.heap.size, 1, none⟩ u1)) ∧ Hid (GrE (((wB.setCell ⟨lb, 10, none⟩ v).setCell ⟨w.heap.size, 0, none⟩ u0).setCell ⟨w.heap.size, 1, none⟩ u1) E x))
set_option maxHeartbeats 1000000 in
set_option maxRecDepth 100000 in
theorem xgoes0 {w : World} {lb : Nat} {E : Nat → Prop} {X : Nat → Value} {v0 v1 : Value} {G : List Gr} (i : Nat) (x : Gr) (h : XNk w lb X v0 v1) (hr : RowG w E v0 G) (hf : G.length ≤ 256) (hE : ∀ q, w.heap.size ≤ q → E q) (hi : G[i]? = some x) :
    Calls Tryz.prog 71 #[.pointer (some ⟨lb, 0, none⟩), .int .i64 0, .int .i64 (i : Nat)] w fun e w' => e = .returned (.agg #[.slice x.a x.n x.c, .bool x.sp]) ∧ ∃ v2, Hid (XNk w' lb X v2 v1) ∧ Hid (RowG w' E v2 (G.eraseIdx i)) ∧ Hid (KS (fun q => q = lb) w w') ∧ Hid (GrE w' E x) := by
  have hlt : i < G.length := (List.getElem?_eq_some_iff.1 hi).1
  obtain ⟨gb, c, hv, y0, y1, hnc, hcm⟩ := hr.cells hi
  subst hv
  have hlb := h.blk.lt
  have hgb : gb < w.heap.size := ownC_lt hr.own gb rfl
  have hsrc := hr.src
  have q0 : decide ((i : Int) < (G.length : Int)) = true := by simp; omega
  have q1 : decide ((0 : Int) ≤ (i : Int)) = true := by simp
  have wi : IntKind.i64.wrap ((i : Int) + 1) = ((i + 1 : Nat) : Int) := by rw [IntKind.wrap_i64]; omega
  have hG : G.eraseIdx i = G.take i ++ G.drop (i + 1) := List.eraseIdx_eq_take_drop_succ G i
  rw [hG]
  -- the worlds
  have hb0 : Below w.heap.size w ((w.alloc (.cells #[.slice none 0 0, .bool false] 123)).alloc (.cells #[.slice x.a x.n x.c, .bool x.sp] 123)) := ((Below.refl _ _).alloc (Nat.le_refl _) _).alloc (by simp) _
  have hsz : ((w.alloc (.cells #[.slice none 0 0, .bool false] 123)).alloc (.cells #[.slice x.a x.n x.c, .bool x.sp] 123)).heap.size = w.heap.size + 2 := by simp
  have hsz' : ((w.alloc (.cells #[.slice none 0 0, .bool false] 123)).alloc (.cells #[.slice x.a x.n x.c, .bool x.sp] 123)).drew.heap.size = w.heap.size + 2 := hsz
  have hbx := blk_new (w.alloc (.cells #[.slice none 0 0, .bool false] 123)) #[.slice x.a x.n x.c, .bool x.sp] 123
  have hbz := (blk_new w #[.slice none 0 0, .bool false] 123).kept ((Below.refl _ _).alloc (Nat.le_refl _) (.cells #[.slice x.a x.n x.c, .bool x.sp] 123))
  rw [show (w.alloc (.cells #[.slice none 0 0, .bool false] 123)).heap.size = w.heap.size + 1 by simp] at hbx
  have hsA : SrcG ((w.alloc (.cells #[.slice none 0 0, .bool false] 123)).alloc (.cells #[.slice x.a x.n x.c, .bool x.sp] 123)).drew (some ⟨gb, 0, none⟩) i c (G.take i) := (hsrc.kept hb0.drew).take (by omega) (by simp)
  obtain ⟨vA, wA, rA, oA, gA⟩ := run_app_g (w := ((w.alloc (.cells #[.slice none 0 0, .bool false] 123)).alloc (.cells #[.slice x.a x.n x.c, .bool x.sp] 123)).drew) 34 (w.heap.size + 2) (.slice none 0 0) [] (G.take i) (ownsG_nil _ _) (some ⟨gb, 0, none⟩) i c hsA (by simp; omega) (by omega)
  rw [List.nil_append] at oA
  have bA : Below w.heap.size w wA := own_below' hb0.drew (ownsG_nil _ w.heap.size) gA (by omega)
  have hzA : w.heap.size + 2 ≤ wA.heap.size := by have := gA.size; omega
  have hlA : (G.take i).length = i := by simp; omega
  have kA : wA.cell? ⟨lb, 10, none⟩ = some (.slice (some ⟨gb, 0, none⟩) G.length c) := (h.blk.kept bA).cell 10
  have k0 : w.cell? ⟨lb, 10, none⟩ = some (.slice (some ⟨gb, 0, none⟩) G.length c) := h.blk.cell 10
  obtain ⟨aA, cA, hvA, -, -, -⟩ := oA.form
  rw [hlA] at hvA
  subst hvA
  have mk : ∀ (a2 : Addr) (m c2 : Nat), SrcG wA (some a2) m c2 (G.drop (i + 1)) → ∃ v wB, (∃ a3 n3 c3, v = .slice a3 n3 c3) ∧ GoB0 w wA wB lb E X (.slice (some ⟨gb, 0, none⟩) G.length c) v1 aA i cA a2 m c2 (G.take i ++ G.drop (i + 1)) x v := fun a2 m c2 hs => by
    obtain ⟨v, wB, rB, oB, gB⟩ := run_app_g (w := wA) 34 (w.heap.size + 2) (.slice aA i cA) (G.take i) (G.drop (i + 1)) oA (some a2) m c2 hs (by simp; omega) hzA
    have bB : Below w.heap.size w wB := own_below' bA (ownsRow_low oA (by omega)) gB bA.size
    have hnew : ∀ q, q < w.heap.size + 2 → wB.heap[q]? = ((w.alloc (.cells #[.slice none 0 0, .bool false] 123)).alloc (.cells #[.slice x.a x.n x.c, .bool x.sp] 123)).heap[q]? := fun q hq => by
      have h1 := gA.block q (by omega) (fun e => by cases e)
      refine (gB.block q (by omega) (fun e => ?_)).trans h1
      have := (own_at oA q e.symm).1
      omega
    have nx : Blk wB (w.heap.size + 1) #[.slice x.a x.n x.c, .bool x.sp] 123 := (hnew _ (by omega)).trans hbx
    have nz : Blk wB w.heap.size #[.slice none 0 0, .bool false] 123 := (hnew _ (by omega)).trans hbz
    have hl2 : Blk wB lb _ 37 := h.blk.kept bB
    obtain ⟨aB, cB, hvB, -, -, -⟩ := oB.form
    have hR : RowG wB (fun q => E q ∧ q ≠ w.heap.size) v (G.take i ++ G.drop (i + 1)) := OwnsG.rowE oB (fun q hq => ⟨hE q (by omega), by omega⟩) fun y hy => by
      refine ((hr.ent y ?_).to (fun q hq hq2 => ⟨hq2, by omega⟩)).kept bB
      rcases List.mem_append.1 hy with hy | hy
      · exact List.mem_of_mem_take hy
      · exact List.mem_of_mem_drop hy
    have hx : GrE wB (fun q => E q ∧ q ≠ w.heap.size) x := ((hr.ent x (List.mem_of_getElem? hi)).to (fun q hq hq2 => ⟨hq2, by omega⟩)).kept bB
    refine ⟨v, wB, ⟨_, _, _, hvB⟩, rB, ⟨_, hl2.cell 10⟩, hl2.fz 10, ⟨nx.cell 0, nx.cell 1⟩, ⟨nz.cell 0, nz.cell 1, nz.fz 0, nz.fz 1⟩, fun u0 u1 => ⟨v, ?_, ?_, ?_, ?_⟩⟩
    · have h1 := hl2.set 10 v
      unfold XNk Blk at *
      rw [Below.heap_setCell _ _ _ _ (by show lb ≠ w.heap.size; omega), Below.heap_setCell _ _ _ _ (by show lb ≠ w.heap.size; omega)]
      exact h1
    · exact (((hR.off hl2 v).offB (fun q hq => hq.2) u0).offB (fun q hq => hq.2) u1).to fun q _ hq => hq.1
    · exact (((KS.of_below bB).trans (KS.set (C := fun q => q = lb) _ lb _ rfl _)).fresh (Nat.le_refl _) _).fresh (Nat.le_refl _) _
    · exact (((hx.off hl2 v).offB (fun q hq => hq.2) u0).offB (fun q hq => hq.2) u1).to fun q _ hq => hq.1
  have rA' : Hid ((Builtin.append_ #[34, 34] 34 #[.slice none 0 0, .slice (some ⟨gb, 0, none⟩) i c]).run Tryz.prog ((w.alloc (.cells #[.slice none 0 0, .bool false] 123)).alloc (.cells #[.slice x.a x.n x.c, .bool x.sp] 123)).drew = .ok (.slice aA i cA) wA) := rA
  have hnc' : i + 1 ≤ c := by omega
  by_cases hc1 : c = i + 1
  · have hl1 : G.length = i + 1 := by omega
    have hd0 : G.drop (i + 1) = [] := List.drop_eq_nil_of_le (by omega)
    obtain ⟨v, wB, ⟨a3, n3, c3, rfl⟩, rB, ⟨uB, kB⟩, fB, ⟨x0, x1⟩, ⟨z0, z1, z2, z3⟩, hfin⟩ := mk ⟨gb, 0, none⟩ 0 0 (by rw [hd0]; exact SrcG.none_ gb 0)
    have q2 : (i : Int) ≤ (i : Int) + 1 := by omega
    have q5 : (0 : Int) ≤ (i : Int) + 1 := by omega
    have rB' : Hid _ := rB
    rw [hl1] at kA k0 q0
    have hc1' : Hid (c = i + 1) := hc1
    clear mk hsrc hr hf hE hi hlt hG hb0 hsz hsz' hbx hbz hsA rA oA gA bA hlA rB h hnc hcm
    subst hc1
    go_enter Tryz.func71, Tryz.ntmps71
    go_wp2
    go_region_law (first
      | (refine step_run_b (by rfl) _ _ 34 (by rfl) (.slice none 0 0) (.slice (some ⟨gb, 0, none⟩) i (i + 1)) (by rfl) (by rfl) (by with_reducible exact rA'.out) ?_)
      | (refine step_run_b (by rfl) _ _ 34 (by rfl) (.slice aA i cA) (.slice (some ⟨gb, 0, none⟩) 0 0) (by rfl) (by rfl) (by with_reducible exact rB'.out) ?_))
    all_goals (
      go_wp2
      refine bodyPost_ret (v := .agg #[.slice x.a x.n x.c, .bool x.sp]) (by simp [results, Tryz.results71, go_sem, *]) rfl ⟨rfl, hfin.out _ _⟩)
  · have hc1' : (c = i + 1) = False := by simp [hc1]
    obtain ⟨v, wB, ⟨a3, n3, c3, rfl⟩, rB, ⟨uB, kB⟩, fB, ⟨x0, x1⟩, ⟨z0, z1, z2, z3⟩, hfin⟩ := mk ⟨gb, (i + 1) * 2, none⟩ (G.length - (i + 1)) (c - (i + 1)) ((hsrc.kept bA).drop (by omega) _)
    have q2 : (i : Int) ≤ (c : Int) := by omega
    have q3 : (i : Int) + 1 ≤ (G.length : Int) := by omega
    have q4 : (G.length : Int) ≤ (c : Int) := by omega
    have q5 : (0 : Int) ≤ (i : Int) + 1 := by omega
    have rB' : Hid _ := rB
    clear mk hsrc hr hf hE hi hG hb0 hsz hsz' hbx hbz hsA rA oA gA bA hlA rB h hcm hc1
    go_enter Tryz.func71, Tryz.ntmps71
    go_wp2
    go_region_law (first
      | (refine step_run_b (by rfl) _ _ 34 (by rfl) (.slice none 0 0) (.slice (some ⟨gb, 0, none⟩) i c) (by rfl) (by rfl) (by with_reducible exact rA'.out) ?_)
      | (refine step_run_b (by rfl) _ _ 34 (by rfl) (.slice aA i cA) (.slice (some ⟨gb, (i + 1) * 2, none⟩) (G.length - (i + 1)) (c - (i + 1))) (by rfl) (by rfl) (by with_reducible exact rB'.out) ?_))
    all_goals (
      go_wp2
      refine bodyPost_ret (v := .agg #[.slice x.a x.n x.c, .bool x.sp]) (by simp [results, Tryz.results71, go_sem, *]) rfl ⟨rfl, hfin.out _ _⟩)
/-- What the second copy leaves. -/
def GoB1 (w wA wB : World) (lb : Nat) (E : Nat → Prop) (X : Nat → Value) (v0 v1 : Value) (aA : Option Addr) (i cA : Nat) (a2 : Addr) (m c2 : Nat) (G : List Gr) (x : Gr) (v : Value) : Prop :=
  (Builtin.append_ #[34, 34] 34 #[.slice aA i cA, .slice (some a2) m c2]).run Tryz.prog wA = .ok v wB ∧ (∃ u, wB.cell? ⟨lb, 11, none⟩ = some u) ∧ wB.frozen? ⟨lb, 11, none⟩ = false ∧ (wB.cell? ⟨w.heap.size + 1, 0, none⟩ = some (.slice x.a x.n x.c) ∧ wB.cell? ⟨w.heap.size + 1, 1, none⟩ = some (.bool x.sp)) ∧ (wB.cell? ⟨w.heap.size, 0, none⟩ = some (.slice none 0 0) ∧ wB.cell? ⟨w.heap.size, 1, none⟩ = some (.bool false) ∧ wB.frozen? ⟨w.heap.size, 0, none⟩ = false ∧ wB.frozen? ⟨w.heap.size, 1, none⟩ = false) ∧ Hid (∀ u0 u1 : Value, ∃ v2, Hid (XNk (((wB.setCell ⟨lb, 11, none⟩ v).setCell ⟨w.heap.size, 0, none⟩ u0).setCell ⟨w.heap.size, 1, none⟩ u1) lb X v0 v2) ∧ Hid (RowG (((wB.setCell ⟨lb, 11, none⟩ v).setCell ⟨w.heap.size, 0, none⟩ u0).setCell ⟨w.heap.size, 1, none⟩ u1) E v2 G) ∧ Hid (KS (fun q => q = lb) w (((wB.setCell ⟨lb, 11, none⟩ v).setCell ⟨w.heap.size, 0, none⟩ u0).setCell ⟨w.heap.size, 1, none⟩ u1)) ∧ Hid (GrE (((wB.setCell ⟨lb, 11, none⟩ v).setCell ⟨w.heap.size, 0, none⟩ u0).setCell ⟨w.heap.size, 1, none⟩ u1) E x))
set_option maxHeartbeats 1000000 in
set_option maxRecDepth 100000 in
theorem xgoes1 {w : World} {lb : Nat} {E : Nat → Prop} {X : Nat → Value} {v0 v1 : Value} {G : List Gr} (i : Nat) (x : Gr) (h : XNk w lb X v0 v1) (hr : RowG w E v1 G) (hf : G.length ≤ 256) (hE : ∀ q, w.heap.size ≤ q → E q) (hi : G[i]? = some x) :
    Calls Tryz.prog 71 #[.pointer (some ⟨lb, 0, none⟩), .int .i64 1, .int .i64 (i : Nat)] w fun e w' => e = .returned (.agg #[.slice x.a x.n x.c, .bool x.sp]) ∧ ∃ v2, Hid (XNk w' lb X v0 v2) ∧ Hid (RowG w' E v2 (G.eraseIdx i)) ∧ Hid (KS (fun q => q = lb) w w') ∧ Hid (GrE w' E x) := by
  have hlt : i < G.length := (List.getElem?_eq_some_iff.1 hi).1
  obtain ⟨gb, c, hv, y0, y1, hnc, hcm⟩ := hr.cells hi
  subst hv
  have hlb := h.blk.lt
  have hgb : gb < w.heap.size := ownC_lt hr.own gb rfl
  have hsrc := hr.src
  have q0 : decide ((i : Int) < (G.length : Int)) = true := by simp; omega
  have q1 : decide ((0 : Int) ≤ (i : Int)) = true := by simp
  have wi : IntKind.i64.wrap ((i : Int) + 1) = ((i + 1 : Nat) : Int) := by rw [IntKind.wrap_i64]; omega
  have hG : G.eraseIdx i = G.take i ++ G.drop (i + 1) := List.eraseIdx_eq_take_drop_succ G i
  rw [hG]
  -- the worlds
  have hb0 : Below w.heap.size w ((w.alloc (.cells #[.slice none 0 0, .bool false] 123)).alloc (.cells #[.slice x.a x.n x.c, .bool x.sp] 123)) := ((Below.refl _ _).alloc (Nat.le_refl _) _).alloc (by simp) _
  have hsz : ((w.alloc (.cells #[.slice none 0 0, .bool false] 123)).alloc (.cells #[.slice x.a x.n x.c, .bool x.sp] 123)).heap.size = w.heap.size + 2 := by simp
  have hsz' : ((w.alloc (.cells #[.slice none 0 0, .bool false] 123)).alloc (.cells #[.slice x.a x.n x.c, .bool x.sp] 123)).drew.heap.size = w.heap.size + 2 := hsz
  have hbx := blk_new (w.alloc (.cells #[.slice none 0 0, .bool false] 123)) #[.slice x.a x.n x.c, .bool x.sp] 123
  have hbz := (blk_new w #[.slice none 0 0, .bool false] 123).kept ((Below.refl _ _).alloc (Nat.le_refl _) (.cells #[.slice x.a x.n x.c, .bool x.sp] 123))
  rw [show (w.alloc (.cells #[.slice none 0 0, .bool false] 123)).heap.size = w.heap.size + 1 by simp] at hbx
  have hsA : SrcG ((w.alloc (.cells #[.slice none 0 0, .bool false] 123)).alloc (.cells #[.slice x.a x.n x.c, .bool x.sp] 123)).drew (some ⟨gb, 0, none⟩) i c (G.take i) := (hsrc.kept hb0.drew).take (by omega) (by simp)
  obtain ⟨vA, wA, rA, oA, gA⟩ := run_app_g (w := ((w.alloc (.cells #[.slice none 0 0, .bool false] 123)).alloc (.cells #[.slice x.a x.n x.c, .bool x.sp] 123)).drew) 34 (w.heap.size + 2) (.slice none 0 0) [] (G.take i) (ownsG_nil _ _) (some ⟨gb, 0, none⟩) i c hsA (by simp; omega) (by omega)
  rw [List.nil_append] at oA
  have bA : Below w.heap.size w wA := own_below' hb0.drew (ownsG_nil _ w.heap.size) gA (by omega)
  have hzA : w.heap.size + 2 ≤ wA.heap.size := by have := gA.size; omega
  have hlA : (G.take i).length = i := by simp; omega
  have kA : wA.cell? ⟨lb, 11, none⟩ = some (.slice (some ⟨gb, 0, none⟩) G.length c) := (h.blk.kept bA).cell 11
  have k0 : w.cell? ⟨lb, 11, none⟩ = some (.slice (some ⟨gb, 0, none⟩) G.length c) := h.blk.cell 11
  obtain ⟨aA, cA, hvA, -, -, -⟩ := oA.form
  rw [hlA] at hvA
  subst hvA
  have mk : ∀ (a2 : Addr) (m c2 : Nat), SrcG wA (some a2) m c2 (G.drop (i + 1)) → ∃ v wB, (∃ a3 n3 c3, v = .slice a3 n3 c3) ∧ GoB1 w wA wB lb E X v0 (.slice (some ⟨gb, 0, none⟩) G.length c) aA i cA a2 m c2 (G.take i ++ G.drop (i + 1)) x v := fun a2 m c2 hs => by
    obtain ⟨v, wB, rB, oB, gB⟩ := run_app_g (w := wA) 34 (w.heap.size + 2) (.slice aA i cA) (G.take i) (G.drop (i + 1)) oA (some a2) m c2 hs (by simp; omega) hzA
    have bB : Below w.heap.size w wB := own_below' bA (ownsRow_low oA (by omega)) gB bA.size
    have hnew : ∀ q, q < w.heap.size + 2 → wB.heap[q]? = ((w.alloc (.cells #[.slice none 0 0, .bool false] 123)).alloc (.cells #[.slice x.a x.n x.c, .bool x.sp] 123)).heap[q]? := fun q hq => by
      have h1 := gA.block q (by omega) (fun e => by cases e)
      refine (gB.block q (by omega) (fun e => ?_)).trans h1
      have := (own_at oA q e.symm).1
      omega
    have nx : Blk wB (w.heap.size + 1) #[.slice x.a x.n x.c, .bool x.sp] 123 := (hnew _ (by omega)).trans hbx
    have nz : Blk wB w.heap.size #[.slice none 0 0, .bool false] 123 := (hnew _ (by omega)).trans hbz
    have hl2 : Blk wB lb _ 37 := h.blk.kept bB
    obtain ⟨aB, cB, hvB, -, -, -⟩ := oB.form
    have hR : RowG wB (fun q => E q ∧ q ≠ w.heap.size) v (G.take i ++ G.drop (i + 1)) := OwnsG.rowE oB (fun q hq => ⟨hE q (by omega), by omega⟩) fun y hy => by
      refine ((hr.ent y ?_).to (fun q hq hq2 => ⟨hq2, by omega⟩)).kept bB
      rcases List.mem_append.1 hy with hy | hy
      · exact List.mem_of_mem_take hy
      · exact List.mem_of_mem_drop hy
    have hx : GrE wB (fun q => E q ∧ q ≠ w.heap.size) x := ((hr.ent x (List.mem_of_getElem? hi)).to (fun q hq hq2 => ⟨hq2, by omega⟩)).kept bB
    refine ⟨v, wB, ⟨_, _, _, hvB⟩, rB, ⟨_, hl2.cell 11⟩, hl2.fz 11, ⟨nx.cell 0, nx.cell 1⟩, ⟨nz.cell 0, nz.cell 1, nz.fz 0, nz.fz 1⟩, fun u0 u1 => ⟨v, ?_, ?_, ?_, ?_⟩⟩
    · have h1 := hl2.set 11 v
      unfold XNk Blk at *
      rw [Below.heap_setCell _ _ _ _ (by show lb ≠ w.heap.size; omega), Below.heap_setCell _ _ _ _ (by show lb ≠ w.heap.size; omega)]
      exact h1
    · exact (((hR.off hl2 v).offB (fun q hq => hq.2) u0).offB (fun q hq => hq.2) u1).to fun q _ hq => hq.1
    · exact (((KS.of_below bB).trans (KS.set (C := fun q => q = lb) _ lb _ rfl _)).fresh (Nat.le_refl _) _).fresh (Nat.le_refl _) _
    · exact (((hx.off hl2 v).offB (fun q hq => hq.2) u0).offB (fun q hq => hq.2) u1).to fun q _ hq => hq.1
  have rA' : Hid ((Builtin.append_ #[34, 34] 34 #[.slice none 0 0, .slice (some ⟨gb, 0, none⟩) i c]).run Tryz.prog ((w.alloc (.cells #[.slice none 0 0, .bool false] 123)).alloc (.cells #[.slice x.a x.n x.c, .bool x.sp] 123)).drew = .ok (.slice aA i cA) wA) := rA
  have hnc' : i + 1 ≤ c := by omega
  by_cases hc1 : c = i + 1
  · have hl1 : G.length = i + 1 := by omega
    have hd0 : G.drop (i + 1) = [] := List.drop_eq_nil_of_le (by omega)
    obtain ⟨v, wB, ⟨a3, n3, c3, rfl⟩, rB, ⟨uB, kB⟩, fB, ⟨x0, x1⟩, ⟨z0, z1, z2, z3⟩, hfin⟩ := mk ⟨gb, 0, none⟩ 0 0 (by rw [hd0]; exact SrcG.none_ gb 0)
    have q2 : (i : Int) ≤ (i : Int) + 1 := by omega
    have q5 : (0 : Int) ≤ (i : Int) + 1 := by omega
    have rB' : Hid _ := rB
    rw [hl1] at kA k0 q0
    have hc1' : Hid (c = i + 1) := hc1
    clear mk hsrc hr hf hE hi hlt hG hb0 hsz hsz' hbx hbz hsA rA oA gA bA hlA rB h hnc hcm
    subst hc1
    go_enter Tryz.func71, Tryz.ntmps71
    go_wp2
    go_region_law (first
      | (refine step_run_b (by rfl) _ _ 34 (by rfl) (.slice none 0 0) (.slice (some ⟨gb, 0, none⟩) i (i + 1)) (by rfl) (by rfl) (by with_reducible exact rA'.out) ?_)
      | (refine step_run_b (by rfl) _ _ 34 (by rfl) (.slice aA i cA) (.slice (some ⟨gb, 0, none⟩) 0 0) (by rfl) (by rfl) (by with_reducible exact rB'.out) ?_))
    all_goals (
      go_wp2
      refine bodyPost_ret (v := .agg #[.slice x.a x.n x.c, .bool x.sp]) (by simp [results, Tryz.results71, go_sem, *]) rfl ⟨rfl, hfin.out _ _⟩)
  · have hc1' : (c = i + 1) = False := by simp [hc1]
    obtain ⟨v, wB, ⟨a3, n3, c3, rfl⟩, rB, ⟨uB, kB⟩, fB, ⟨x0, x1⟩, ⟨z0, z1, z2, z3⟩, hfin⟩ := mk ⟨gb, (i + 1) * 2, none⟩ (G.length - (i + 1)) (c - (i + 1)) ((hsrc.kept bA).drop (by omega) _)
    have q2 : (i : Int) ≤ (c : Int) := by omega
    have q3 : (i : Int) + 1 ≤ (G.length : Int) := by omega
    have q4 : (G.length : Int) ≤ (c : Int) := by omega
    have q5 : (0 : Int) ≤ (i : Int) + 1 := by omega
    have rB' : Hid _ := rB
    clear mk hsrc hr hf hE hi hG hb0 hsz hsz' hbx hbz hsA rA oA gA bA hlA rB h hcm hc1
    go_enter Tryz.func71, Tryz.ntmps71
    go_wp2
    go_region_law (first
      | (refine step_run_b (by rfl) _ _ 34 (by rfl) (.slice none 0 0) (.slice (some ⟨gb, 0, none⟩) i c) (by rfl) (by rfl) (by with_reducible exact rA'.out) ?_)
      | (refine step_run_b (by rfl) _ _ 34 (by rfl) (.slice aA i cA) (.slice (some ⟨gb, (i + 1) * 2, none⟩) (G.length - (i + 1)) (c - (i + 1))) (by rfl) (by rfl) (by with_reducible exact rB'.out) ?_))
    all_goals (
      go_wp2
      refine bodyPost_ret (v := .agg #[.slice x.a x.n x.c, .bool x.sp]) (by simp [results, Tryz.results71, go_sem, *]) rfl ⟨rfl, hfin.out _ _⟩)
end Go.Proofs.YtfipdldoklkciaaGreat
