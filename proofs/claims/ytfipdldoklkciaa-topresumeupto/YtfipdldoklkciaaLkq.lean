/-
  Datagrams dropped, doubled and turned.
-/
import Derived.Test.YtfipdldoklkciaaLko
import Derived.Test.YtfipdldoklkciaaLkd
namespace Go.Proofs.Ytfipdldoklkciaa
open Go.RowKit
set_option linter.unusedVariables false
theorem mem_erase {G : List Gr} {i : Nat} {x : Gr} (h : x ∈ G.eraseIdx i) : x ∈ G := (List.eraseIdx_sublist G i).subset h
theorem lout0 {w : World} {B : Nat} {q : Qb} {L : Lk} {i : Nat} {g : Gr} (h : Lm w B q L) (hg : L.n0[i]? = some g) :
    Calls Try.prog 69 #[.pointer (some ⟨q.lb, 6, none⟩), .int .i64 (i : Nat)] w fun e w' => e = .returned (.agg #[.slice g.a g.n g.c, .bool g.sp]) ∧ Hid (Lm w' B q { L with n0 := L.n0.eraseIdx i }) ∧ Hid (K4 q w w') ∧ Hid (GrIn w' B g) := by
  obtain ⟨cs, hb, hc⟩ := h.lk
  refine (out_any hb hc.n0 rfl (List.getElem?_eq_some_iff.1 hg).1 hg).mono ?_
  rintro e w' ⟨rfl, cs', h1, h2, h3, h4⟩
  refine ⟨rfl, ?_, K4.of_l h4.out, (h.gr g (.inl (List.mem_of_getElem? hg))).k2 h4.out h.no5.1 h.no5.1⟩
  refine h.turnL h1.out (lkc_n0 hc h3.out h2.out) h4.out rfl rfl ⟨h.ok.t1, h.ok.t2, h.ok.n1, h.ok.n2, h.ok.e1, h.ok.few⟩ (fun x hx => ?_)
  rcases hx with hx | hx
  · exact .inl (.inl (mem_erase hx))
  · exact .inl (.inr hx)
theorem lout1 {w : World} {B : Nat} {q : Qb} {L : Lk} {i : Nat} {g : Gr} (h : Lm w B q L) (hg : L.n1[i]? = some g) :
    Calls Try.prog 69 #[.pointer (some ⟨q.lb, 521, none⟩), .int .i64 (i : Nat)] w fun e w' => e = .returned (.agg #[.slice g.a g.n g.c, .bool g.sp]) ∧ Hid (Lm w' B q { L with n1 := L.n1.eraseIdx i }) ∧ Hid (K4 q w w') ∧ Hid (GrIn w' B g) := by
  obtain ⟨cs, hb, hc⟩ := h.lk
  refine (out_any hb hc.n1 rfl (List.getElem?_eq_some_iff.1 hg).1 hg).mono ?_
  rintro e w' ⟨rfl, cs', h1, h2, h3, h4⟩
  refine ⟨rfl, ?_, K4.of_l h4.out, (h.gr g (.inr (List.mem_of_getElem? hg))).k2 h4.out h.no5.1 h.no5.1⟩
  refine h.turnL h1.out (lkc_n1 hc h3.out h2.out) h4.out rfl rfl ⟨h.ok.t1, h.ok.t2, h.ok.n1, h.ok.n2, h.ok.e1, h.ok.few⟩ (fun x hx => ?_)
  rcases hx with hx | hx
  · exact .inl (.inl hx)
  · exact .inl (.inr (mem_erase hx))
def netS (L : Lk) (n : Int) (G : List Gr) : Lk := if n = 0 then { L with n0 := G } else { L with n1 := G }
def dropS (L : Lk) (n i : Int) : Lk := if canE L n i = 0 then netS L n ((netL L n).eraseIdx i.toNat) else L
theorem can_zero {L : Lk} {n i : Int} (h : canE L n i = 0) : netB n = true ∧ 0 ≤ i ∧ i < (netL L n).length := by
  unfold canE at h
  split at h
  · cases h
  split at h
  · cases h
  · rename_i h1 h2
    exact ⟨by simpa using h1, by omega, by omega⟩
def twiceS (L : Lk) (n i : Int) : Lk := match (netL L n)[i.toNat]? with
  | some g => if canE L n i = 0 then netS L n (putG (netL L n) g) else L
  | none => L
theorem drop_no {w : World} {B : Nat} {q : Qb} {L : Lk} (n i : Int) (h : Lm w B q L) (hE : canE L n i ≠ 0) :
    Calls Try.prog 33 #[.pointer (some ⟨q.lb, 0, none⟩), .int .i64 n, .int .i64 i] w fun e w' => e = .returned (.int .i64 (canE L n i)) ∧ Hid (Below w.heap.size w w') := by
  have k0 := can_any n i h
  have d0 : (canE L n i != 0) = true := by simpa using hE
  clear h hE
  generalize canE L n i = x at *
  go_enter Try.func33, Try.ntmps33
  go_wp2_with (go_at_call 68; refine k0.mono ?_; rintro e w1 ⟨rfl, hb1⟩; clear k0)
  go_ret
  exact ⟨rfl, hb1⟩
theorem drop0 {w : World} {B : Nat} {q : Qb} {L : Lk} (i : Nat) (g : Gr) (h : Lm w B q L) (hE : canE L 0 (i : Nat) = 0) (hg : L.n0[i]? = some g) :
    Calls Try.prog 33 #[.pointer (some ⟨q.lb, 0, none⟩), .int .i64 0, .int .i64 (i : Nat)] w fun e w' => e = .returned (.int .i64 0) ∧ Hid (Lm w' B q { L with n0 := L.n0.eraseIdx i }) ∧ Hid (K4 q w w') := by
  have k0 := can_any 0 (i : Nat) h
  rw [hE] at k0
  have hL : Hid (Lm w B q L) := h
  have hg' : Hid (L.n0[i]? = some g) := hg
  clear h hE hg
  go_enter Try.func33, Try.ntmps33
  go_wp2_with (first | (go_at_call 68; refine k0.mono ?_; rintro e w1 ⟨rfl, hb1⟩; clear k0) | (go_at_call 69; refine (lout0 (hL.out.kept hb1.out) hg'.out).mono ?_; rintro e w2 ⟨rfl, hL2, hK2, _⟩))
  go_ret
  exact ⟨rfl, hL2, (K4.of_below hb1.out).trans hK2.out⟩
theorem drop1 {w : World} {B : Nat} {q : Qb} {L : Lk} (i : Nat) (g : Gr) (h : Lm w B q L) (hE : canE L 1 (i : Nat) = 0) (hg : L.n1[i]? = some g) :
    Calls Try.prog 33 #[.pointer (some ⟨q.lb, 0, none⟩), .int .i64 1, .int .i64 (i : Nat)] w fun e w' => e = .returned (.int .i64 0) ∧ Hid (Lm w' B q { L with n1 := L.n1.eraseIdx i }) ∧ Hid (K4 q w w') := by
  have k0 := can_any 1 (i : Nat) h
  rw [hE] at k0
  have hL : Hid (Lm w B q L) := h
  have hg' : Hid (L.n1[i]? = some g) := hg
  clear h hE hg
  go_enter Try.func33, Try.ntmps33
  go_wp2_with (first | (go_at_call 68; refine k0.mono ?_; rintro e w1 ⟨rfl, hb1⟩; clear k0) | (go_at_call 69; refine (lout1 (hL.out.kept hb1.out) hg'.out).mono ?_; rintro e w2 ⟨rfl, hL2, hK2, _⟩))
  go_ret
  exact ⟨rfl, hL2, (K4.of_below hb1.out).trans hK2.out⟩
theorem twice_no {w : World} {B : Nat} {q : Qb} {L : Lk} (n i : Int) (h : Lm w B q L) (hE : canE L n i ≠ 0) :
    Calls Try.prog 62 #[.pointer (some ⟨q.lb, 0, none⟩), .int .i64 n, .int .i64 i] w fun e w' => e = .returned (.int .i64 (canE L n i)) ∧ Hid (Below w.heap.size w w') := by
  have k0 := can_any n i h
  have d0 : (canE L n i != 0) = true := by simpa using hE
  clear h hE
  generalize canE L n i = x at *
  go_enter Try.func62, Try.ntmps62
  go_wp2_with (go_at_call 68; refine k0.mono ?_; rintro e w1 ⟨rfl, hb1⟩; clear k0)
  go_ret
  exact ⟨rfl, hb1⟩
set_option maxRecDepth 100000 in
theorem twice0 {w : World} {B : Nat} {q : Qb} {L : Lk} (i : Nat) (g : Gr) (h : Lm w B q L) (hE : canE L 0 (i : Nat) = 0) (hg : L.n0[i]? = some g) :
    Calls Try.prog 62 #[.pointer (some ⟨q.lb, 0, none⟩), .int .i64 0, .int .i64 (i : Nat)] w fun e w' => e = .returned (.int .i64 0) ∧ Hid (Lm w' B q { L with n0 := putG L.n0 g }) ∧ Hid (K4 q w w') := by
  have k0 := can_any 0 (i : Nat) h
  rw [hE] at k0
  have hL : Hid (Lm w B q L) := h
  have hgi : Hid (GrIn w B g) := h.gr g (.inl (List.mem_of_getElem? hg))
  have hib : i < 256 := by
    obtain ⟨cs, hb, hc⟩ := h.lk
    have := hc.n0.few
    have := (List.getElem?_eq_some_iff.1 hg).1
    omega
  have hc2 : Hid (∀ x, Below w.heap.size w x → x.cell? ⟨q.lb, 6 + i * 2, none⟩ = some (.slice g.a g.n g.c) ∧ x.cell? ⟨q.lb, 6 + i * 2 + 1, none⟩ = some (.bool g.sp)) := fun x hx => by
    obtain ⟨cs, hb, hc⟩ := h.lk
    have hb' := hb.kept hx
    exact ⟨(hb'.cell _).trans (hc.n0.row i g hg).1, (hb'.cell _).trans (hc.n0.row i g hg).2⟩
  have d0 : decide ((0 : Int) ≤ (i : Int)) = true := by simp
  have d1 : decide ((i : Int) < 256) = true := by simp; omega
  clear h hE hg
  go_enter Try.func62, Try.ntmps62
  go_wp2_with fail
  refine k0.mono ?_
  rintro e w1 ⟨rfl, hb1⟩
  clear k0
  obtain ⟨c1, c2⟩ := hc2.out w1 hb1.out
  have kp := lput0 g ((hL.out.kept hb1.out).drew) ((hgi.out.kept hb1.out).kept (Below.refl _ _).drew)
  have kp' : Hid (Calls Try.prog 72 #[.pointer (some ⟨q.lb, 6, none⟩), .agg #[.slice g.a g.n g.c, .bool g.sp]] w1.drew fun e w' => e = .returned (.tuple #[]) ∧ Hid (Lm w' B q { L with n0 := putG L.n0 g }) ∧ Hid (K4 q w1.drew w')) := kp
  clear kp
  go_wp2
  go_region_with (go_at_call 72; refine kp'.out.mono ?_; rintro e w2 ⟨rfl, hL2, hK2⟩; clear kp')
  all_goals go_wp2
  all_goals go_ret
  all_goals exact ⟨rfl, hL2, ((K4.of_below hb1.out).drew).trans hK2.out⟩
set_option maxRecDepth 100000 in
theorem twice1 {w : World} {B : Nat} {q : Qb} {L : Lk} (i : Nat) (g : Gr) (h : Lm w B q L) (hE : canE L 1 (i : Nat) = 0) (hg : L.n1[i]? = some g) :
    Calls Try.prog 62 #[.pointer (some ⟨q.lb, 0, none⟩), .int .i64 1, .int .i64 (i : Nat)] w fun e w' => e = .returned (.int .i64 0) ∧ Hid (Lm w' B q { L with n1 := putG L.n1 g }) ∧ Hid (K4 q w w') := by
  have k0 := can_any 1 (i : Nat) h
  rw [hE] at k0
  have hL : Hid (Lm w B q L) := h
  have hgi : Hid (GrIn w B g) := h.gr g (.inr (List.mem_of_getElem? hg))
  have hib : i < 256 := by
    obtain ⟨cs, hb, hc⟩ := h.lk
    have := hc.n1.few
    have := (List.getElem?_eq_some_iff.1 hg).1
    omega
  have hc2 : Hid (∀ x, Below w.heap.size w x → x.cell? ⟨q.lb, 521 + i * 2, none⟩ = some (.slice g.a g.n g.c) ∧ x.cell? ⟨q.lb, 521 + i * 2 + 1, none⟩ = some (.bool g.sp)) := fun x hx => by
    obtain ⟨cs, hb, hc⟩ := h.lk
    have hb' := hb.kept hx
    exact ⟨(hb'.cell _).trans (hc.n1.row i g hg).1, (hb'.cell _).trans (hc.n1.row i g hg).2⟩
  have d0 : decide ((0 : Int) ≤ (i : Int)) = true := by simp
  have d1 : decide ((i : Int) < 256) = true := by simp; omega
  clear h hE hg
  go_enter Try.func62, Try.ntmps62
  go_wp2_with fail
  refine k0.mono ?_
  rintro e w1 ⟨rfl, hb1⟩
  clear k0
  obtain ⟨c1, c2⟩ := hc2.out w1 hb1.out
  have kp := lput1 g ((hL.out.kept hb1.out).drew) ((hgi.out.kept hb1.out).kept (Below.refl _ _).drew)
  have kp' : Hid (Calls Try.prog 72 #[.pointer (some ⟨q.lb, 521, none⟩), .agg #[.slice g.a g.n g.c, .bool g.sp]] w1.drew fun e w' => e = .returned (.tuple #[]) ∧ Hid (Lm w' B q { L with n1 := putG L.n1 g }) ∧ Hid (K4 q w1.drew w')) := kp
  clear kp
  go_wp2
  go_region_with (go_at_call 72; refine kp'.out.mono ?_; rintro e w2 ⟨rfl, hL2, hK2⟩; clear kp')
  all_goals go_wp2
  all_goals go_ret
  all_goals exact ⟨rfl, hL2, ((K4.of_below hb1.out).drew).trans hK2.out⟩
theorem drop_any {w : World} {B : Nat} {q : Qb} {L : Lk} (n i : Int) (h : Lm w B q L) :
    Calls Try.prog 33 #[.pointer (some ⟨q.lb, 0, none⟩), .int .i64 n, .int .i64 i] w fun e w' => e = .returned (.int .i64 (canE L n i)) ∧ Hid (Lm w' B q (dropS L n i)) ∧ Hid (K4 q w w') := by
  by_cases hE : canE L n i = 0
  · obtain ⟨h1, h2, h3⟩ := can_zero hE
    obtain ⟨i, rfl⟩ : ∃ k : Nat, i = (k : Int) := ⟨i.toNat, by omega⟩
    by_cases h0 : n = 0
    · subst h0
      have h3 : ((i : Nat) : Int) < L.n0.length := h3
      obtain ⟨g, hg⟩ : ∃ g, L.n0[i]? = some g := ⟨_, List.getElem?_eq_getElem (by omega)⟩
      have e : dropS L 0 (i : Nat) = { L with n0 := L.n0.eraseIdx i } := by unfold dropS; rw [if_pos hE]; rfl
      rw [e, hE]
      exact drop0 i g h hE hg
    · have hn1 : n = 1 := by
        unfold netB at h1
        simp at h1
        omega
      subst hn1
      have h3 : ((i : Nat) : Int) < L.n1.length := h3
      obtain ⟨g, hg⟩ : ∃ g, L.n1[i]? = some g := ⟨_, List.getElem?_eq_getElem (by omega)⟩
      have e : dropS L 1 (i : Nat) = { L with n1 := L.n1.eraseIdx i } := by unfold dropS; rw [if_pos hE]; rfl
      rw [e, hE]
      exact drop1 i g h hE hg
  · have e : dropS L n i = L := by unfold dropS; rw [if_neg hE]
    rw [e]
    refine (drop_no n i h hE).mono ?_
    rintro e w' ⟨rfl, hb⟩
    exact ⟨rfl, h.kept hb.out, K4.of_below hb.out⟩
theorem twice_any {w : World} {B : Nat} {q : Qb} {L : Lk} (n i : Int) (h : Lm w B q L) :
    Calls Try.prog 62 #[.pointer (some ⟨q.lb, 0, none⟩), .int .i64 n, .int .i64 i] w fun e w' => e = .returned (.int .i64 (canE L n i)) ∧ Hid (Lm w' B q (twiceS L n i)) ∧ Hid (K4 q w w') := by
  by_cases hE : canE L n i = 0
  · obtain ⟨h1, h2, h3⟩ := can_zero hE
    obtain ⟨i, rfl⟩ : ∃ k : Nat, i = (k : Int) := ⟨i.toNat, by omega⟩
    by_cases h0 : n = 0
    · subst h0
      have h3 : ((i : Nat) : Int) < L.n0.length := h3
      obtain ⟨g, hg⟩ : ∃ g, L.n0[i]? = some g := ⟨_, List.getElem?_eq_getElem (by omega)⟩
      have e : twiceS L 0 (i : Nat) = { L with n0 := putG L.n0 g } := by
        unfold twiceS
        rw [show (netL L 0)[((i : Nat) : Int).toNat]? = some g from hg]
        show (if canE L 0 (i : Nat) = 0 then _ else _) = _
        rw [if_pos hE]; rfl
      rw [e, hE]
      exact twice0 i g h hE hg
    · have hn1 : n = 1 := by
        unfold netB at h1
        simp at h1
        omega
      subst hn1
      have h3 : ((i : Nat) : Int) < L.n1.length := h3
      obtain ⟨g, hg⟩ : ∃ g, L.n1[i]? = some g := ⟨_, List.getElem?_eq_getElem (by omega)⟩
      have e : twiceS L 1 (i : Nat) = { L with n1 := putG L.n1 g } := by
        unfold twiceS
        rw [show (netL L 1)[((i : Nat) : Int).toNat]? = some g from hg]
        show (if canE L 1 (i : Nat) = 0 then _ else _) = _
        rw [if_pos hE]; rfl
      rw [e, hE]
      exact twice1 i g h hE hg
  · have e : twiceS L n i = L := by
      unfold twiceS
      split
      · rw [if_neg hE]
      · rfl
    rw [e]
    refine (twice_no n i h hE).mono ?_
    rintro e w' ⟨rfl, hb⟩
    exact ⟨rfl, h.kept hb.out, K4.of_below hb.out⟩
end Go.Proofs.Ytfipdldoklkciaa
