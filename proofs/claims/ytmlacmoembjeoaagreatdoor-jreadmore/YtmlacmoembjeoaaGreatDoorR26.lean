/-
  Tokens read by descent, as plain data: what comes of a value, of an Array's and of a Map's rest; the reader with a stack reads the same.
  Tokens read by descent: more tokens behind, tokens at other places, how many nodes there are, no bounds, other bounds.
  When two trees are the same: tree.same.
  Whether a node's number is right, whether its Kind may have such numbers and counts: tree.isInt, isDec, mayBe.
  What is wrong with a node itself: tree.fault (plain part).
  What is read by descent, within bounds, may be.
-/
import Derived.Test.YtmlacmoembjeoaaGreatDoorR23
import Derived.Test.YtmlacmoembjeoaaGreatDoorR2
import Derived.Test.YtmlacmoembjeoaaGreatDoorR25
import Derived.Test.YtmlacmoembjeoaaGreatDoorR14
import Derived.Test.YtmlacmoembjeoaaGreatDoorR9
import Derived.Test.YtmlacmoembjeoaaGreatDoorR24
namespace Go.Proofs.YtmlacmoembjeoaaGreatDoor
open Go.RowKit
set_option linter.unusedVariables false
def arrT (kids : List Tr) : Tr := ⟨7, 0, false, ⟨#[]⟩, 0, ⟨#[]⟩, [], [], kids⟩
def mapT (keys kids : List Tr) : Tr := ⟨8, 0, false, ⟨#[]⟩, 0, ⟨#[]⟩, [], keys, kids⟩
/-- A value (0), the rest of an Array (1), of a Map (2), d open nodes around it, n nodes begun: a fault, and the tokens from it on (none: they ran out); or the tree, the nodes begun then, the tokens behind. -/
def rdF : Nat → Nat → Bool → Nat → Nat → List Tr → List Tr → List Tk → Sum (Int × List Tk) (Tr × Nat × List Tk)
  | 0, _, _, _, _, _, _, _ => .inl (3, [])
  | k + 1, 0, free, d, n, _, _, L => match L with
    | [] => .inl (3, [])
    | t :: M => if bvA t.kind = false then .inl (5, t :: M)
      else if beginA free n d (nodeA t.kind (strOfNums t.txt)).2 ≠ 0 then .inl (beginA free n d (nodeA t.kind (strOfNums t.txt)).2, t :: M)
      else if t.kind = 3 then (match M with
        | [] => .inl (3, [])
        | u :: N => if u.kind = 4 then .inr (arrT [], n + 1, N) else rdF k 1 free (d + 1) (n + 1) [] [] (u :: N))
      else if t.kind = 1 then (match M with
        | [] => .inl (3, [])
        | u :: N => if u.kind = 2 then .inr (mapT [] [], n + 1, N) else rdF k 2 free (d + 1) (n + 1) [] [] (u :: N))
      else .inr ((nodeA t.kind (strOfNums t.txt)).1, n + 1, M)
  | k + 1, 1, free, d, n, _, kids, L => match rdF k 0 free d n [] [] L with
    | .inl f => .inl f
    | .inr (_, _, []) => .inl (3, [])
    | .inr (t, m, c :: M) => if c.kind = 6 then rdF k 1 free d m [] (kids ++ [t]) M else if c.kind = 4 then .inr (arrT (kids ++ [t]), m, M) else .inl (5, c :: M)
  | k + 1, _ + 2, free, d, n, keys, kids, L => match L with
    | [] => .inl (3, [])
    | t :: M => if t.kind ≠ 7 then .inl (5, t :: M)
      else if beginA free n d (if twT keys (strOfNums t.txt) = true then 9 else 0) ≠ 0 then .inl (beginA free n d (if twT keys (strOfNums t.txt) = true then 9 else 0), t :: M)
      else match M with
        | [] => .inl (3, [])
        | c :: M => if c.kind ≠ 5 then .inl (5, c :: M)
          else match rdF k 0 free d (n + 1) [] [] M with
            | .inl f => .inl f
            | .inr (_, _, []) => .inl (3, [])
            | .inr (u, m, c :: M) => if c.kind = 6 then rdF k 2 free d m (keys ++ [txtT (strOfNums t.txt)]) (kids ++ [u]) M
              else if c.kind = 2 then .inr (mapT (keys ++ [txtT (strOfNums t.txt)]) (kids ++ [u]), m, M) else .inl (5, c :: M)
/-- Tokens are taken. -/
theorem rd_len : ∀ (k q : Nat) (free : Bool) (d n : Nat) (keys kids : List Tr) (L : List Tk) (t : Tr) (m : Nat) (M : List Tk), rdF k q free d n keys kids L = .inr (t, m, M) → M.length < L.length := by
  intro k
  induction k with
  | zero => intro q free d n keys kids L t m M h; simp [rdF] at h
  | succ k ih =>
    intro q free d n keys kids L t m M h
    rcases q with _ | _ | q
    · rcases L with _ | ⟨a, L⟩
      · simp [rdF] at h
      · simp only [rdF] at h
        split at h
        · simp at h
        split at h
        · simp at h
        split at h
        · rcases L with _ | ⟨u, N⟩
          · simp at h
          · simp only at h
            split at h
            · simp at h; obtain ⟨_, _, rfl⟩ := h; simp; try omega
            · have := ih _ _ _ _ _ _ _ _ _ _ h; simp at this ⊢; omega
        split at h
        · rcases L with _ | ⟨u, N⟩
          · simp at h
          · simp only at h
            split at h
            · simp at h; obtain ⟨_, _, rfl⟩ := h; simp; try omega
            · have := ih _ _ _ _ _ _ _ _ _ _ h; simp at this ⊢; omega
        · simp at h; obtain ⟨_, _, rfl⟩ := h; simp; try omega
    · simp only [rdF] at h
      split at h
      · simp at h
      · simp at h
      · rename_i u m' c N hr
        have h1 := ih _ _ _ _ _ _ _ _ _ _ hr
        simp at h1
        split at h
        · have := ih _ _ _ _ _ _ _ _ _ _ h; omega
        split at h
        · simp at h; obtain ⟨_, _, rfl⟩ := h; omega
        · simp at h
    · rcases L with _ | ⟨a, L⟩
      · simp [rdF] at h
      · simp only [rdF] at h
        by_cases c1 : a.kind ≠ 7
        · rw [if_pos c1] at h; simp at h
        rw [if_neg c1] at h
        by_cases c2 : beginA free n d (if twT keys (strOfNums a.txt) = true then 9 else 0) ≠ 0
        · rw [if_pos c2] at h; simp at h
        rw [if_neg c2] at h
        rcases L with _ | ⟨c, L⟩
        · simp at h
        · simp only at h
          by_cases c3 : c.kind ≠ 5
          · rw [if_pos c3] at h; simp at h
          rw [if_neg c3] at h
          split at h
          · simp at h
          · simp at h
          · rename_i u m' c' N hr
            have h1 := ih _ _ _ _ _ _ _ _ _ _ hr
            simp at h1
            split at h
            · have := ih _ _ _ _ _ _ _ _ _ _ h; simp; omega
            split at h
            · simp at h; obtain ⟨_, _, rfl⟩ := h; simp; omega
            · simp at h
theorem putA_nx (s : JS) (a : Nat) (t : Tr) : putA { s with nx := a } t = putA s t := by
  rcases List.eq_nil_or_concat s.opn with q | ⟨os, u, q⟩
  · rw [putA_nil (s := { s with nx := a }) t q, putA_nil t q]
  · have q' : s.opn = os ++ [u] := by rw [q]; simp
    rw [putA_snoc (s := { s with nx := a }) t q', putA_snoc t q']
/-- What the reader with a stack does, where descent has this answer. -/
def Sim (r : Sum (Int × List Tk) (Tr × Nat × List Tk)) (s : JS) (L : List Tk) (f : Tr → Nat → JS) : Prop := match r with
  | .inl (_, []) => (readT s L).2 = (0, 0) ∧ (readT s L).1.ended = false
  | .inl (e, t :: _) => e ≠ 0 ∧ (readT s L).2 = (e, t.frm)
  | .inr (t, n, M) => readT s L = readT (f t n) M
theorem Sim.via {r : Sum (Int × List Tk) (Tr × Nat × List Tk)} {s s1 : JS} {L M : List Tk} {f : Tr → Nat → JS} (e : readT s L = readT s1 M) (h : Sim r s1 M f) : Sim r s L f := by
  unfold Sim at *
  rw [e]
  exact h
theorem Sim.bad {s : JS} {t : Tk} {M N : List Tk} {f : Tr → Nat → JS} {e : Int} (he : e ≠ 0) (h : (stepA s t.kind (strOfNums t.txt)).2 = e) : Sim (.inl (e, t :: N)) s (t :: M) f := by
  have := readT_cons_bad (s := s) (t := t) (l := M) (by rw [h]; exact he)
  exact ⟨he, by rw [this, h]⟩
theorem Sim.ok {s : JS} {t : Tk} {M : List Tk} {f : Tr → Nat → JS} {s1 : JS} {r : Sum (Int × List Tk) (Tr × Nat × List Tk)} (h : stepA s t.kind (strOfNums t.txt) = (s1, 0)) (k : Sim r s1 M f) : Sim r s (t :: M) f := by
  refine Sim.via ?_ k
  rw [readT_cons_ok (by rw [h]), h]
theorem Sim.fault {s : JS} {L : List Tk} {f : Int × List Tk} {f1 f2 : Tr → Nat → JS} (h : Sim (.inl f) s L f1) : Sim (.inl f) s L f2 := by
  obtain ⟨e, _ | ⟨t, M⟩⟩ := f
  · exact h
  · exact h
theorem Sim.out {s : JS} {f : Tr → Nat → JS} (e : Int) (h : s.ended = false) : Sim (.inl (e, [])) s [] f := ⟨rfl, h⟩
def VOK (s : JS) (L : List Tk) : Prop := s.nx = 27 ∨ (s.nx = 41 ∧ ∀ t M, L = t :: M → t.kind ≠ 4)
def KOK (s : JS) (L : List Tk) : Prop := s.nx = 66 ∨ (s.nx = 42 ∧ ∀ t M, L = t :: M → t.kind ≠ 2)
theorem step_v {s : JS} {t : Tk} {M : List Tk} (h : VOK s (t :: M)) (x : ByteArray) : stepA s t.kind x = valA s t.kind x := by
  rcases h with h | ⟨h, h4⟩
  · unfold stepA; rw [if_pos h]
  · unfold stepA; rw [if_neg (by rw [h]; decide), if_pos h, if_neg (h4 t M rfl)]
theorem step_k {s : JS} {t : Tk} {M : List Tk} (h : KOK s (t :: M)) (x : ByteArray) : stepA s t.kind x = keyA s t.kind x := by
  rcases h with h | ⟨h, h4⟩
  · unfold stepA; rw [if_neg (by rw [h]; decide), if_neg (by rw [h]; decide), if_neg (by rw [h]; decide), if_pos h]
  · unfold stepA; rw [if_neg (by rw [h]; decide), if_neg (by rw [h]; decide), if_pos h, if_neg (h4 t M rfl)]
theorem step_fv {s : JS} (h : s.nx = 41) (x : ByteArray) : stepA s 4 x = (endA s, 0) := by unfold stepA; rw [if_neg (by rw [h]; decide), if_pos h, if_pos rfl]
theorem step_fk {s : JS} (h : s.nx = 42) (x : ByteArray) : stepA s 2 x = (endA s, 0) := by unfold stepA; rw [if_neg (by rw [h]; decide), if_neg (by rw [h]; decide), if_pos h, if_pos rfl]
theorem step_bk {s : JS} (h : s.nx = 69) (k : Nat) (x : ByteArray) : stepA s k x = if k = 6 then ({ s with nx := 27 }, 0) else if k = 4 then (endA s, 0) else (s, 5) := by
  unfold stepA; rw [if_neg (by rw [h]; decide), if_neg (by rw [h]; decide), if_neg (by rw [h]; decide), if_neg (by rw [h]; decide), if_neg (by rw [h]; decide), if_pos h]
theorem step_bm {s : JS} (h : s.nx = 70) (k : Nat) (x : ByteArray) : stepA s k x = if k = 6 then ({ s with nx := 66 }, 0) else if k = 2 then (endA s, 0) else (s, 5) := by
  unfold stepA; rw [if_neg (by rw [h]; decide), if_neg (by rw [h]; decide), if_neg (by rw [h]; decide), if_neg (by rw [h]; decide), if_neg (by rw [h]; decide), if_neg (by rw [h]; decide), if_pos h]
theorem step_col {s : JS} (h : s.nx = 87) (k : Nat) (x : ByteArray) : stepA s k x = if k = 5 then ({ s with nx := 27 }, 0) else (s, 5) := by
  unfold stepA; rw [if_neg (by rw [h]; decide), if_neg (by rw [h]; decide), if_neg (by rw [h]; decide), if_neg (by rw [h]; decide), if_pos h]
set_option maxHeartbeats 1000000 in
/-- THE READER WITH A STACK READS BY DESCENT. -/
theorem sim_all : ∀ fuel : Nat,
    (∀ (s : JS) (L : List Tk), s.ended = false → VOK s L → 2 * L.length + 1 ≤ fuel → Sim (rdF fuel 0 s.free s.opn.length s.nodes [] [] L) s L (fun t n => putA { s with nodes := n } t)) ∧
    (∀ (s : JS) (os kids : List Tr) (L : List Tk), s.ended = false → VOK s L → s.opn = os ++ [arrT kids] → 2 * L.length + 2 ≤ fuel → Sim (rdF fuel 1 s.free s.opn.length s.nodes [] kids L) s L (fun t n => putA { s with opn := os, nodes := n } t)) ∧
    (∀ (s : JS) (os keys kids : List Tr) (L : List Tk), s.ended = false → KOK s L → s.opn = os ++ [mapT keys kids] → 2 * L.length + 2 ≤ fuel → Sim (rdF fuel 2 s.free s.opn.length s.nodes keys kids L) s L (fun t n => putA { s with opn := os, nodes := n } t)) := by
  intro fuel
  induction fuel with
  | zero => exact ⟨fun s L _ _ h => by omega, fun s os kids L _ _ _ h => by omega, fun s os keys kids L _ _ _ h => by omega⟩
  | succ k ih =>
    obtain ⟨ihV, ihA, ihM⟩ := ih
    refine ⟨?_, ?_, ?_⟩
    · intro s L he hv hf
      rcases L with _ | ⟨t, M⟩
      · exact Sim.out _ he
      have st := step_v hv (strOfNums t.txt)
      simp only [List.length_cons] at hf
      simp only [rdF]
      by_cases h1 : bvA t.kind = false
      · rw [if_pos h1]
        exact Sim.bad (by decide) (by rw [st]; unfold valA; rw [if_pos h1])
      rw [if_neg h1]
      by_cases h2 : beginA s.free s.nodes s.opn.length (nodeA t.kind (strOfNums t.txt)).2 ≠ 0
      · rw [if_pos h2]
        exact Sim.bad h2 (by rw [st]; unfold valA; rw [if_neg h1, if_pos h2])
      rw [if_neg h2]
      by_cases h3 : t.kind = 3
      · rw [if_pos h3]
        refine Sim.ok (s1 := { s with nx := 41, opn := s.opn ++ [kindT 7 0], nodes := s.nodes + 1 }) (by rw [st]; unfold valA; rw [if_neg h1, if_neg h2, if_pos h3]) ?_
        rcases M with _ | ⟨u, N⟩
        · exact Sim.out _ he
        simp only
        by_cases h4 : u.kind = 4
        · rw [if_pos h4]
          refine Sim.ok (by rw [h4]; exact step_fv rfl _) ?_
          show readT _ N = readT _ N
          rw [endA_snoc (os := s.opn) (t := kindT 7 0) rfl]
          exact congrArg (fun z => readT z N) (putA_nx { s with nodes := s.nodes + 1 } 41 (arrT []))
        · rw [if_neg h4]
          have := ihA { s with nx := 41, opn := s.opn ++ [kindT 7 0], nodes := s.nodes + 1 } s.opn [] (u :: N) he (.inr ⟨rfl, fun t M e => by cases e; exact h4⟩) rfl (by simp at hf ⊢; omega)
          simp only [List.length_append, List.length_singleton] at this
          have e : (fun (t : Tr) (n : Nat) => putA { s with nx := 41, opn := s.opn, nodes := n } t) = (fun t n => putA { s with nodes := n } t) := by funext t n; exact putA_nx { s with nodes := n } 41 t
          rw [e] at this
          exact this
      rw [if_neg h3]
      by_cases h1' : t.kind = 1
      · rw [if_pos h1']
        refine Sim.ok (s1 := { s with nx := 42, opn := s.opn ++ [kindT 8 0], nodes := s.nodes + 1 }) (by rw [st]; unfold valA; rw [if_neg h1, if_neg h2, if_neg h3, if_pos h1']) ?_
        rcases M with _ | ⟨u, N⟩
        · exact Sim.out _ he
        simp only
        by_cases h4 : u.kind = 2
        · rw [if_pos h4]
          refine Sim.ok (by rw [h4]; exact step_fk rfl _) ?_
          show readT _ N = readT _ N
          rw [endA_snoc (os := s.opn) (t := kindT 8 0) rfl]
          exact congrArg (fun z => readT z N) (putA_nx { s with nodes := s.nodes + 1 } 42 (mapT [] []))
        · rw [if_neg h4]
          have := ihM { s with nx := 42, opn := s.opn ++ [kindT 8 0], nodes := s.nodes + 1 } s.opn [] [] (u :: N) he (.inr ⟨rfl, fun t M e => by cases e; exact h4⟩) rfl (by simp at hf ⊢; omega)
          simp only [List.length_append, List.length_singleton] at this
          have e : (fun (t : Tr) (n : Nat) => putA { s with nx := 42, opn := s.opn, nodes := n } t) = (fun t n => putA { s with nodes := n } t) := by funext t n; exact putA_nx { s with nodes := n } 42 t
          rw [e] at this
          exact this
      rw [if_neg h1']
      refine Sim.ok (s1 := putA { s with nodes := s.nodes + 1 } (nodeA t.kind (strOfNums t.txt)).1) (by rw [st]; unfold valA; rw [if_neg h1, if_neg h2, if_neg h3, if_neg h1']) ?_
      exact rfl
    · intro s os kids L he hv ho hf
      have hV := ihV s L he hv (by omega)
      simp only [rdF]
      cases hr : rdF k 0 s.free s.opn.length s.nodes [] [] L with
      | inl f => rw [hr] at hV; exact Sim.fault hV
      | inr z =>
        obtain ⟨t, n, M⟩ := z
        rw [hr] at hV
        have hlen := rd_len _ _ _ _ _ _ _ _ _ _ _ hr
        have hp : putA { s with nodes := n } t = { s with opn := os ++ [arrT (kids ++ [t])], nodes := n, nx := 69 } := by
          rw [putA_snoc (s := { s with nodes := n }) t ho]
          rfl
        have hV' : readT s L = readT { s with opn := os ++ [arrT (kids ++ [t])], nodes := n, nx := 69 } M := by rw [← hp]; exact hV
        rcases M with _ | ⟨c, M⟩
        · exact Sim.via hV' (Sim.out _ he)
        refine Sim.via hV' ?_
        have st := step_bk (s := { s with opn := os ++ [arrT (kids ++ [t])], nodes := n, nx := 69 }) rfl c.kind (strOfNums c.txt)
        simp only at st ⊢
        by_cases h6 : c.kind = 6
        · rw [if_pos h6]
          rw [if_pos h6] at st
          refine Sim.ok st ?_
          have hln : s.opn.length = (os ++ [arrT (kids ++ [t])]).length := by rw [ho]; simp
          rw [hln]
          exact ihA { s with opn := os ++ [arrT (kids ++ [t])], nodes := n, nx := 27 } os (kids ++ [t]) M he (.inl rfl) rfl (by simp at hlen; omega) |> fun q => by
            have e : (fun (t : Tr) (m : Nat) => putA { s with opn := os, nodes := m, nx := 27 } t) = (fun t m => putA { s with opn := os, nodes := m } t) := by funext t m; exact putA_nx { s with opn := os, nodes := m } 27 t
            rw [← e]; exact q
        rw [if_neg h6] at st ⊢
        by_cases h4 : c.kind = 4
        · rw [if_pos h4] at st ⊢
          refine Sim.ok st ?_
          show readT _ M = readT _ M
          rw [endA_snoc (os := os) (t := arrT (kids ++ [t])) rfl]
          exact congrArg (fun z => readT z M) (putA_nx { s with opn := os, nodes := n } 69 _)
        · rw [if_neg h4] at st ⊢
          exact Sim.bad (by decide) (by rw [st])
    · intro s os keys kids L he hv ho hf
      rcases L with _ | ⟨t, M⟩
      · exact Sim.out _ he
      have st := step_k hv (strOfNums t.txt)
      simp only [List.length_cons] at hf
      simp only [rdF]
      by_cases h7 : t.kind ≠ 7
      · rw [if_pos h7]
        exact Sim.bad (by decide) (by rw [st]; unfold keyA; rw [if_pos h7])
      rw [if_neg h7]
      have h7' : t.kind = 7 := by omega
      rw [h7', keyA_snoc (strOfNums t.txt) ho] at st
      have ek : (mapT keys kids).keys = keys := rfl
      rw [ek] at st
      by_cases h2 : beginA s.free s.nodes s.opn.length (if twT keys (strOfNums t.txt) = true then 9 else 0) ≠ 0
      · rw [if_pos h2]
        rw [if_pos h2] at st
        exact Sim.bad h2 (by rw [h7', st])
      rw [if_neg h2]
      rw [if_neg h2] at st
      refine Sim.ok (s1 := { s with nx := 87, nodes := s.nodes + 1, opn := os ++ [mapT (keys ++ [txtT (strOfNums t.txt)]) kids] }) (by rw [h7']; exact st) ?_
      rcases M with _ | ⟨c, M⟩
      · exact Sim.out _ he
      have sc := step_col (s := { s with nx := 87, nodes := s.nodes + 1, opn := os ++ [mapT (keys ++ [txtT (strOfNums t.txt)]) kids] }) rfl c.kind (strOfNums c.txt)
      simp only at sc ⊢
      by_cases h5 : c.kind ≠ 5
      · rw [if_pos h5]
        rw [if_neg h5] at sc
        exact Sim.bad (by decide) (by rw [sc])
      rw [if_neg h5]
      rw [if_pos (by omega)] at sc
      refine Sim.ok sc ?_
      have hln : s.opn.length = (os ++ [mapT (keys ++ [txtT (strOfNums t.txt)]) kids]).length := by rw [ho]; simp
      have hV := ihV { s with nx := 27, nodes := s.nodes + 1, opn := os ++ [mapT (keys ++ [txtT (strOfNums t.txt)]) kids] } M he (.inl rfl) (by simp at hf; omega)
      simp only at hV
      rw [← hln] at hV
      cases hr : rdF k 0 s.free s.opn.length (s.nodes + 1) [] [] M with
      | inl f => rw [hr] at hV; exact Sim.fault hV
      | inr z =>
        obtain ⟨u, n, N⟩ := z
        rw [hr] at hV
        have hlen := rd_len _ _ _ _ _ _ _ _ _ _ _ hr
        have hV' : readT { s with nx := 27, nodes := s.nodes + 1, opn := os ++ [mapT (keys ++ [txtT (strOfNums t.txt)]) kids] } M = readT { s with opn := os ++ [mapT (keys ++ [txtT (strOfNums t.txt)]) (kids ++ [u])], nodes := n, nx := 70 } N := by
          refine Eq.trans (show _ = readT (putA { s with nx := 27, nodes := n, opn := os ++ [mapT (keys ++ [txtT (strOfNums t.txt)]) kids] } u) N from hV) ?_
          rw [putA_snoc (s := { s with nx := 27, nodes := n, opn := os ++ [mapT (keys ++ [txtT (strOfNums t.txt)]) kids] }) u rfl]
          rfl
        rcases N with _ | ⟨c', N⟩
        · exact Sim.via hV' (Sim.out _ he)
        refine Sim.via hV' ?_
        have sm := step_bm (s := { s with opn := os ++ [mapT (keys ++ [txtT (strOfNums t.txt)]) (kids ++ [u])], nodes := n, nx := 70 }) rfl c'.kind (strOfNums c'.txt)
        simp only at sm ⊢
        by_cases h6 : c'.kind = 6
        · rw [if_pos h6] at sm ⊢
          refine Sim.ok sm ?_
          have hln2 : s.opn.length = (os ++ [mapT (keys ++ [txtT (strOfNums t.txt)]) (kids ++ [u])]).length := by rw [ho]; simp
          rw [hln2]
          have q := ihM { s with opn := os ++ [mapT (keys ++ [txtT (strOfNums t.txt)]) (kids ++ [u])], nodes := n, nx := 66 } os (keys ++ [txtT (strOfNums t.txt)]) (kids ++ [u]) N he (.inl rfl) rfl (by simp at hf hlen; omega)
          have e : (fun (t : Tr) (m : Nat) => putA { s with opn := os, nodes := m, nx := 66 } t) = (fun t m => putA { s with opn := os, nodes := m } t) := by funext t m; exact putA_nx { s with opn := os, nodes := m } 66 t
          rw [← e]; exact q
        rw [if_neg h6] at sm ⊢
        by_cases h4 : c'.kind = 2
        · rw [if_pos h4] at sm ⊢
          refine Sim.ok sm ?_
          show readT _ N = readT _ N
          rw [endA_snoc (os := os) (t := mapT (keys ++ [txtT (strOfNums t.txt)]) (kids ++ [u])) rfl]
          exact congrArg (fun z => readT z N) (putA_nx { s with opn := os, nodes := n } 70 _)
        · rw [if_neg h4] at sm ⊢
          exact Sim.bad (by decide) (by rw [sm])
/-- ALL TOKENS, BY DESCENT. -/
def rdW (free : Bool) (L : List Tk) : Sum (Int × List Tk) (Tr × Nat × List Tk) := rdF (2 * L.length + 1) 0 free 0 0 [] [] L
def endS' (free : Bool) (n : Nat) (t : Tr) : JS := ⟨free, 67, [], n, t, true⟩
theorem read_whole (free : Bool) (L : List Tk) : match rdW free L with
    | .inl (_, []) => (readT (newS free) L).2 = (0, 0) ∧ (readT (newS free) L).1.ended = false
    | .inl (e, t :: _) => e ≠ 0 ∧ (readT (newS free) L).2 = (e, t.frm)
    | .inr (t, n, []) => readT (newS free) L = (endS' free n t, 0, 0)
    | .inr (t, n, c :: _) => (readT (newS free) L).2 = (10, c.frm) := by
  have h := (sim_all (2 * L.length + 1)).1 (newS free) L rfl (.inl rfl) (Nat.le_refl _)
  have e : rdF (2 * L.length + 1) 0 (newS free).free (newS free).opn.length (newS free).nodes [] [] L = rdW free L := rfl
  rw [e] at h
  generalize rdW free L = r at h ⊢
  rcases r with ⟨e, _ | ⟨t, M⟩⟩ | ⟨t, n, _ | ⟨c, M⟩⟩
  · exact h
  · exact h
  · exact h
  · have h' : readT (newS free) L = readT (endS' free n t) (c :: M) := h
    show (readT (newS free) L).2 = _
    rw [h']
    have hs : stepA (endS' free n t) c.kind (strOfNums c.txt) = (endS' free n t, 10) := by
      unfold stepA
      rw [if_neg (show ¬ (endS' free n t).nx = 27 from (by decide : ¬ 67 = 27)), if_neg (show ¬ (endS' free n t).nx = 41 from (by decide : ¬ 67 = 41)), if_neg (show ¬ (endS' free n t).nx = 42 from (by decide : ¬ 67 = 42)), if_neg (show ¬ (endS' free n t).nx = 66 from (by decide : ¬ 67 = 66)), if_neg (show ¬ (endS' free n t).nx = 87 from (by decide : ¬ 67 = 87)), if_neg (show ¬ (endS' free n t).nx = 69 from (by decide : ¬ 67 = 69)), if_neg (show ¬ (endS' free n t).nx = 70 from (by decide : ¬ 67 = 70))]
    rw [readT_cons_bad (by rw [hs]; simp), hs]
end Go.Proofs.YtmlacmoembjeoaaGreatDoor
namespace Go.Proofs.YtmlacmoembjeoaaGreatDoor
open Go.RowKit
set_option linter.unusedVariables false
theorem rd_inv0 {k : Nat} {free : Bool} {d n : Nat} {keys kids : List Tr} {L : List Tk} {t : Tr} {m : Nat} {M : List Tk} (h : rdF (k + 1) 0 free d n keys kids L = .inr (t, m, M)) :
    ∃ a L', L = a :: L' ∧ bvA a.kind = true ∧ beginA free n d (nodeA a.kind (strOfNums a.txt)).2 = 0 ∧
    ((a.kind = 3 ∧ ∃ u N, L' = u :: N ∧ ((u.kind = 4 ∧ t = arrT [] ∧ m = n + 1 ∧ M = N) ∨ (u.kind ≠ 4 ∧ rdF k 1 free (d + 1) (n + 1) [] [] (u :: N) = .inr (t, m, M)))) ∨
     (a.kind = 1 ∧ ∃ u N, L' = u :: N ∧ ((u.kind = 2 ∧ t = mapT [] [] ∧ m = n + 1 ∧ M = N) ∨ (u.kind ≠ 2 ∧ rdF k 2 free (d + 1) (n + 1) [] [] (u :: N) = .inr (t, m, M)))) ∨
     (a.kind ≠ 3 ∧ a.kind ≠ 1 ∧ t = (nodeA a.kind (strOfNums a.txt)).1 ∧ m = n + 1 ∧ M = L')) := by
  rcases L with _ | ⟨a, L⟩
  · simp [rdF] at h
  refine ⟨a, L, rfl, ?_⟩
  simp only [rdF] at h
  by_cases h1 : bvA a.kind = false
  · rw [if_pos h1] at h; simp at h
  rw [if_neg h1] at h
  by_cases h2 : beginA free n d (nodeA a.kind (strOfNums a.txt)).2 ≠ 0
  · rw [if_pos h2] at h; simp at h
  rw [if_neg h2] at h
  refine ⟨by simpa using h1, by simpa using h2, ?_⟩
  by_cases h3 : a.kind = 3
  · rw [if_pos h3] at h
    refine .inl ⟨h3, ?_⟩
    rcases L with _ | ⟨u, N⟩
    · simp at h
    refine ⟨u, N, rfl, ?_⟩
    simp only at h
    by_cases h4 : u.kind = 4
    · rw [if_pos h4] at h
      simp at h
      exact .inl ⟨h4, h.1.symm, h.2.1.symm, h.2.2.symm⟩
    · rw [if_neg h4] at h
      exact .inr ⟨h4, h⟩
  rw [if_neg h3] at h
  by_cases h1' : a.kind = 1
  · rw [if_pos h1'] at h
    refine .inr (.inl ⟨h1', ?_⟩)
    rcases L with _ | ⟨u, N⟩
    · simp at h
    refine ⟨u, N, rfl, ?_⟩
    simp only at h
    by_cases h4 : u.kind = 2
    · rw [if_pos h4] at h
      simp at h
      exact .inl ⟨h4, h.1.symm, h.2.1.symm, h.2.2.symm⟩
    · rw [if_neg h4] at h
      exact .inr ⟨h4, h⟩
  rw [if_neg h1'] at h
  simp at h
  exact .inr (.inr ⟨h3, h1', h.1.symm, h.2.1.symm, h.2.2.symm⟩)
theorem rd_inv1 {k : Nat} {free : Bool} {d n : Nat} {keys kids : List Tr} {L : List Tk} {t : Tr} {m : Nat} {M : List Tk} (h : rdF (k + 1) 1 free d n keys kids L = .inr (t, m, M)) :
    ∃ u n' c N, rdF k 0 free d n [] [] L = .inr (u, n', c :: N) ∧ ((c.kind = 6 ∧ rdF k 1 free d n' [] (kids ++ [u]) N = .inr (t, m, M)) ∨ (c.kind = 4 ∧ t = arrT (kids ++ [u]) ∧ m = n' ∧ M = N)) := by
  simp only [rdF] at h
  split at h
  · simp at h
  · simp at h
  · rename_i u n' c N hr
    refine ⟨u, n', c, N, hr, ?_⟩
    by_cases h6 : c.kind = 6
    · rw [if_pos h6] at h; exact .inl ⟨h6, h⟩
    rw [if_neg h6] at h
    by_cases h4 : c.kind = 4
    · rw [if_pos h4] at h
      simp at h
      exact .inr ⟨h4, h.1.symm, h.2.1.symm, h.2.2.symm⟩
    · rw [if_neg h4] at h; simp at h
theorem rd_inv2 {k q : Nat} {free : Bool} {d n : Nat} {keys kids : List Tr} {L : List Tk} {t : Tr} {m : Nat} {M : List Tk} (h : rdF (k + 1) (q + 2) free d n keys kids L = .inr (t, m, M)) :
    ∃ a c L', L = a :: c :: L' ∧ a.kind = 7 ∧ beginA free n d (if twT keys (strOfNums a.txt) = true then 9 else 0) = 0 ∧ c.kind = 5 ∧ ∃ u n' e N, rdF k 0 free d (n + 1) [] [] L' = .inr (u, n', e :: N) ∧
    ((e.kind = 6 ∧ rdF k 2 free d n' (keys ++ [txtT (strOfNums a.txt)]) (kids ++ [u]) N = .inr (t, m, M)) ∨ (e.kind = 2 ∧ t = mapT (keys ++ [txtT (strOfNums a.txt)]) (kids ++ [u]) ∧ m = n' ∧ M = N)) := by
  rcases L with _ | ⟨a, L⟩
  · simp [rdF] at h
  simp only [rdF] at h
  by_cases h7 : a.kind ≠ 7
  · rw [if_pos h7] at h; simp at h
  rw [if_neg h7] at h
  by_cases h2 : beginA free n d (if twT keys (strOfNums a.txt) = true then 9 else 0) ≠ 0
  · rw [if_pos h2] at h; simp at h
  rw [if_neg h2] at h
  rcases L with _ | ⟨c, L⟩
  · simp at h
  simp only at h
  by_cases h5 : c.kind ≠ 5
  · rw [if_pos h5] at h; simp at h
  rw [if_neg h5] at h
  refine ⟨a, c, L, rfl, by omega, by simpa using h2, by omega, ?_⟩
  split at h
  · simp at h
  · simp at h
  · rename_i u n' e N hr
    refine ⟨u, n', e, N, hr, ?_⟩
    by_cases h6 : e.kind = 6
    · rw [if_pos h6] at h; exact .inl ⟨h6, h⟩
    rw [if_neg h6] at h
    by_cases h4 : e.kind = 2
    · rw [if_pos h4] at h
      simp at h
      exact .inr ⟨h4, h.1.symm, h.2.1.symm, h.2.2.symm⟩
    · rw [if_neg h4] at h; simp at h
section
variable {k : Nat} {free : Bool} {d n : Nat} {keys kids : List Tr} {a : Tk}
theorem rd_arr0 {u : Tk} {N : List Tk} (hb : bvA a.kind = true) (h : beginA free n d (nodeA a.kind (strOfNums a.txt)).2 = 0) (h3 : a.kind = 3) (h4 : u.kind = 4) : rdF (k + 1) 0 free d n keys kids (a :: u :: N) = .inr (arrT [], n + 1, N) := by
  simp only [rdF]; rw [if_neg (by rw [hb]; decide), if_neg (by simpa using h), if_pos h3, if_pos h4]
theorem rd_arr {u : Tk} {N : List Tk} (hb : bvA a.kind = true) (h : beginA free n d (nodeA a.kind (strOfNums a.txt)).2 = 0) (h3 : a.kind = 3) (h4 : u.kind ≠ 4) : rdF (k + 1) 0 free d n keys kids (a :: u :: N) = rdF k 1 free (d + 1) (n + 1) [] [] (u :: N) := by
  simp only [rdF]; rw [if_neg (by rw [hb]; decide), if_neg (by simpa using h), if_pos h3, if_neg h4]
theorem rd_map0 {u : Tk} {N : List Tk} (hb : bvA a.kind = true) (h : beginA free n d (nodeA a.kind (strOfNums a.txt)).2 = 0) (h3 : a.kind = 1) (h4 : u.kind = 2) : rdF (k + 1) 0 free d n keys kids (a :: u :: N) = .inr (mapT [] [], n + 1, N) := by
  simp only [rdF]; rw [if_neg (by rw [hb]; decide), if_neg (by simpa using h), if_neg (by omega), if_pos h3, if_pos h4]
theorem rd_map {u : Tk} {N : List Tk} (hb : bvA a.kind = true) (h : beginA free n d (nodeA a.kind (strOfNums a.txt)).2 = 0) (h3 : a.kind = 1) (h4 : u.kind ≠ 2) : rdF (k + 1) 0 free d n keys kids (a :: u :: N) = rdF k 2 free (d + 1) (n + 1) [] [] (u :: N) := by
  simp only [rdF]; rw [if_neg (by rw [hb]; decide), if_neg (by simpa using h), if_neg (by omega), if_pos h3, if_neg h4]
theorem rd_leaf {L : List Tk} (hb : bvA a.kind = true) (h : beginA free n d (nodeA a.kind (strOfNums a.txt)).2 = 0) (h3 : a.kind ≠ 3) (h1 : a.kind ≠ 1) : rdF (k + 1) 0 free d n keys kids (a :: L) = .inr ((nodeA a.kind (strOfNums a.txt)).1, n + 1, L) := by
  simp only [rdF]; rw [if_neg (by rw [hb]; decide), if_neg (by simpa using h), if_neg h3, if_neg h1]
theorem rd_one {L N : List Tk} {u : Tr} {m : Nat} {c : Tk} (h : rdF k 0 free d n [] [] L = .inr (u, m, c :: N)) : rdF (k + 1) 1 free d n keys kids L = if c.kind = 6 then rdF k 1 free d m [] (kids ++ [u]) N else if c.kind = 4 then .inr (arrT (kids ++ [u]), m, N) else .inl (5, c :: N) := by
  simp only [rdF]; rw [h]
theorem rd_two_ok {c e : Tk} {L N : List Tk} {u : Tr} {m : Nat} (h7 : a.kind = 7) (h : beginA free n d (if twT keys (strOfNums a.txt) = true then 9 else 0) = 0) (h5 : c.kind = 5) (hr : rdF k 0 free d (n + 1) [] [] L = .inr (u, m, e :: N)) : rdF (k + 1) 2 free d n keys kids (a :: c :: L) = if e.kind = 6 then rdF k 2 free d m (keys ++ [txtT (strOfNums a.txt)]) (kids ++ [u]) N
              else if e.kind = 2 then .inr (mapT (keys ++ [txtT (strOfNums a.txt)]) (kids ++ [u]), m, N) else .inl (5, e :: N) := by
  simp only [rdF]
  rw [if_neg (by omega), if_neg (by simpa using h), if_neg (by omega), hr]
end
/-- Tokens of the same kinds and texts. -/
def KT (L M : List Tk) : Prop := L.map (fun t => (t.kind, t.txt)) = M.map (fun t => (t.kind, t.txt))
theorem KT.cons {a : Tk} {L M : List Tk} (h : KT (a :: L) M) : ∃ b N, M = b :: N ∧ b.kind = a.kind ∧ b.txt = a.txt ∧ KT L N := by
  rcases M with _ | ⟨b, N⟩
  · simp [KT] at h
  · simp only [KT, List.map_cons, List.cons.injEq, Prod.mk.injEq] at h
    exact ⟨b, N, rfl, h.1.1.symm, h.1.2.symm, h.2⟩
theorem KT.append {L M X Y : List Tk} (h : KT L M) (k : KT X Y) : KT (L ++ X) (M ++ Y) := by
  unfold KT at *; rw [List.map_append, List.map_append, h, k]
theorem KT.refl (L : List Tk) : KT L L := rfl
/-- MORE TOKENS BEHIND, AND AT OTHER PLACES: the same tree. -/
theorem rd_more : ∀ (k q : Nat), q ≤ 2 → ∀ (free : Bool) (d n : Nat) (keys kids : List Tr) (L : List Tk) (t : Tr) (m : Nat) (M : List Tk), rdF k q free d n keys kids L = .inr (t, m, M) → ∀ (k' : Nat) (L2 X : List Tk), k ≤ k' → KT L L2 → ∃ M2, KT M M2 ∧ rdF k' q free d n keys kids (L2 ++ X) = .inr (t, m, M2 ++ X) := by
  intro k
  induction k with
  | zero => intro q _ free d n keys kids L t m M h; simp [rdF] at h
  | succ k ih =>
    intro q hq free d n keys kids L t m M h k' L2 X hk hL
    obtain ⟨k', rfl⟩ : ∃ j, k' = j + 1 := ⟨k' - 1, by omega⟩
    rcases q with _ | _ | q
    · obtain ⟨a, L', rfl, hb, hg, hz⟩ := rd_inv0 h
      clear h
      have h := hz
      clear hz
      obtain ⟨b, N2, rfl, e1, e2, hN⟩ := hL.cons
      rw [← e1] at hb
      rw [← e1, ← e2] at hg
      rcases h with ⟨h3, u, N, rfl, h⟩ | ⟨h1, u, N, rfl, h⟩ | ⟨h3, h1, rfl, rfl, rfl⟩
      · obtain ⟨v, N3, rfl, f1, f2, hN3⟩ := hN.cons
        rcases h with ⟨h4, rfl, rfl, rfl⟩ | ⟨h4, h⟩
        · exact ⟨N3, hN3, rd_arr0 hb hg (by omega) (by omega)⟩
        · obtain ⟨M2, g1, g2⟩ := ih 1 (by omega) _ _ _ _ _ _ _ _ _ h k' (v :: N3) X (by omega) hN
          exact ⟨M2, g1, (rd_arr hb hg (by omega) (by omega)).trans g2⟩
      · obtain ⟨v, N3, rfl, f1, f2, hN3⟩ := hN.cons
        rcases h with ⟨h4, rfl, rfl, rfl⟩ | ⟨h4, h⟩
        · exact ⟨N3, hN3, rd_map0 hb hg (by omega) (by omega)⟩
        · obtain ⟨M2, g1, g2⟩ := ih 2 (by omega) _ _ _ _ _ _ _ _ _ h k' (v :: N3) X (by omega) hN
          exact ⟨M2, g1, (rd_map hb hg (by omega) (by omega)).trans g2⟩
      · refine ⟨N2, hN, ?_⟩
        rw [← e1, ← e2]
        exact rd_leaf hb hg (by omega) (by omega)
    · obtain ⟨u, n', c, N, hr, hz⟩ := rd_inv1 h
      clear h
      have h := hz
      clear hz
      obtain ⟨M1, g1, g2⟩ := ih 0 (by omega) _ _ _ _ _ _ _ _ _ hr k' L2 X (by omega) hL
      obtain ⟨c2, N2, rfl, e1, e2, hN⟩ := g1.cons
      rw [rd_one g2, e1]
      rcases h with ⟨h6, h⟩ | ⟨h4, rfl, rfl, rfl⟩
      · rw [if_pos h6]
        exact ih 1 (by omega) _ _ _ _ _ _ _ _ _ h k' N2 X (by omega) hN
      · rw [if_neg (by omega), if_pos h4]
        exact ⟨N2, hN, rfl⟩
    · obtain rfl : q = 0 := by omega
      obtain ⟨a, c, L', rfl, h7, hg, h5, u, n', e, N, hr, hz⟩ := rd_inv2 h
      clear h
      have h := hz
      clear hz
      obtain ⟨a2, N1, rfl, e1, e2, hN1⟩ := hL.cons
      obtain ⟨c2, N2, rfl, f1, f2, hN2⟩ := hN1.cons
      obtain ⟨M1, g1, g2⟩ := ih 0 (by omega) _ _ _ _ _ _ _ _ _ hr k' N2 X (by omega) hN2
      obtain ⟨e3, N3, rfl, p1, p2, hN3⟩ := g1.cons
      have := rd_two_ok (keys := keys) (kids := kids) (a := a2) (c := c2) (by omega) (by rw [e2]; exact hg) (by omega) g2
      rw [List.cons_append, List.cons_append, this, p1, e2]
      rcases h with ⟨h6, h⟩ | ⟨h4, rfl, rfl, rfl⟩
      · rw [if_pos h6]
        exact ih 2 (by omega) _ _ _ _ _ _ _ _ _ h k' N3 X (by omega) hN3
      · rw [if_neg (by omega), if_pos h4]
        exact ⟨N3, hN3, rfl⟩
theorem nodeA_one (k : Nat) (x : ByteArray) : (nodeA k x).1.keys = [] ∧ (nodeA k x).1.kids = [] := by
  unfold nodeA numA
  repeat' split
  all_goals exact ⟨rfl, rfl⟩
theorem size_one {t : Tr} (h : t.keys = [] ∧ t.kids = []) : t.size = 1 ∧ t.deep = 1 := by
  rw [Tr.size_eq, Tr.deep_eq, h.1, h.2]
  exact ⟨rfl, rfl⟩
/-- HOW MANY NODES HAVE BEGUN; what was there stays. -/
theorem rd_size : ∀ (k q : Nat), q ≤ 2 → ∀ (free : Bool) (d n : Nat) (keys kids : List Tr) (L : List Tk) (t : Tr) (m : Nat) (M : List Tk), rdF k q free d n keys kids L = .inr (t, m, M) →
    n < m ∧ (q = 0 → m = n + t.size) ∧ (q = 1 → m + 1 + Tr.sizes kids = n + t.size ∧ ∃ X, t = arrT (kids ++ X)) ∧ (q = 2 → m + 1 + Tr.sizes keys + Tr.sizes kids = n + t.size ∧ ∃ X Y, t = mapT (keys ++ X) (kids ++ Y)) := by
  intro k
  induction k with
  | zero => intro q _ free d n keys kids L t m M h; simp [rdF] at h
  | succ k ih =>
    intro q hq free d n keys kids L t m M h
    rcases q with _ | _ | q
    · refine ⟨?_, fun _ => ?_, fun e => absurd e (by omega), fun e => absurd e (by omega)⟩
      all_goals
        obtain ⟨a, L', rfl, hb, hg, hz⟩ := rd_inv0 h
        clear h
        have h := hz
        clear hz
        rcases h with ⟨h3, u, N, rfl, ⟨h4, rfl, rfl, rfl⟩ | ⟨h4, h⟩⟩ | ⟨h1, u, N, rfl, ⟨h4, rfl, rfl, rfl⟩ | ⟨h4, h⟩⟩ | ⟨h3, h1, rfl, rfl, rfl⟩
      · omega
      · have := (ih 1 (by omega) _ _ _ _ _ _ _ _ _ h).1; omega
      · omega
      · have := (ih 2 (by omega) _ _ _ _ _ _ _ _ _ h).1; omega
      · omega
      · rw [(size_one (t := arrT []) ⟨rfl, rfl⟩).1]
      · have := ((ih 1 (by omega) _ _ _ _ _ _ _ _ _ h).2.2.1 rfl).1; rw [Tr.sizes_nil] at this; omega
      · rw [(size_one (t := mapT [] []) ⟨rfl, rfl⟩).1]
      · have := ((ih 2 (by omega) _ _ _ _ _ _ _ _ _ h).2.2.2 rfl).1; rw [Tr.sizes_nil] at this; omega
      · rw [(size_one (nodeA_one _ _)).1]
    · obtain ⟨u, n', c, N, hr, hz⟩ := rd_inv1 h
      clear h
      have h := hz
      clear hz
      have i0 := ih 0 (by omega) _ _ _ _ _ _ _ _ _ hr
      have s0 := i0.2.1 rfl
      rcases h with ⟨h6, h⟩ | ⟨h4, rfl, rfl, rfl⟩
      · have i1 := ih 1 (by omega) _ _ _ _ _ _ _ _ _ h
        obtain ⟨s1, X, rfl⟩ := i1.2.2.1 rfl
        rw [Tr.sizes_app, Tr.sizes_cons, Tr.sizes_nil] at s1
        exact ⟨by omega, fun e => absurd e (by omega), fun _ => ⟨by omega, u :: X, by simp⟩, fun e => absurd e (by omega)⟩
      · have e : (arrT (kids ++ [u])).size = 1 + Tr.sizes [] + Tr.sizes (kids ++ [u]) := Tr.size_eq _
        rw [Tr.sizes_app, Tr.sizes_cons, Tr.sizes_nil] at e
        exact ⟨by omega, fun e => absurd e (by omega), fun _ => ⟨by omega, [u], rfl⟩, fun e => absurd e (by omega)⟩
    · obtain rfl : q = 0 := by omega
      obtain ⟨a, c, L', rfl, h7, hg, h5, u, n', e, N, hr, hz⟩ := rd_inv2 h
      clear h
      have h := hz
      clear hz
      have i0 := ih 0 (by omega) _ _ _ _ _ _ _ _ _ hr
      have s0 := i0.2.1 rfl
      have sx : (txtT (strOfNums a.txt)).size = 1 := (size_one ⟨rfl, rfl⟩).1
      rcases h with ⟨h6, h⟩ | ⟨h4, rfl, rfl, rfl⟩
      · have i1 := ih 2 (by omega) _ _ _ _ _ _ _ _ _ h
        obtain ⟨s1, X, Y, rfl⟩ := i1.2.2.2 rfl
        rw [Tr.sizes_app, Tr.sizes_cons, Tr.sizes_nil, Tr.sizes_app, Tr.sizes_cons, Tr.sizes_nil] at s1
        exact ⟨by omega, fun e => absurd e (by omega), fun e => absurd e (by omega), fun _ => ⟨by omega, txtT (strOfNums a.txt) :: X, u :: Y, by simp⟩⟩
      · have e : (mapT (keys ++ [txtT (strOfNums a.txt)]) (kids ++ [u])).size = 1 + Tr.sizes (keys ++ [txtT (strOfNums a.txt)]) + Tr.sizes (kids ++ [u]) := Tr.size_eq _
        rw [Tr.sizes_app, Tr.sizes_cons, Tr.sizes_nil, Tr.sizes_app, Tr.sizes_cons, Tr.sizes_nil] at e
        exact ⟨by omega, fun e => absurd e (by omega), fun e => absurd e (by omega), fun _ => ⟨by omega, [txtT (strOfNums a.txt)], [u], rfl⟩⟩
theorem begin_zero {n : Int} {d : Nat} {own : Int} (h : beginA false n d own = 0) : n + 1 ≤ 1024 ∧ d < 24 ∧ own = 0 := by
  unfold beginA at h
  rw [if_neg (by decide)] at h
  split at h
  · omega
  split at h
  · omega
  exact ⟨by omega, by omega, h⟩
/-- WITHOUT BOUNDS NO LESS IS READ. -/
theorem rd_free : ∀ (k q : Nat), q ≤ 2 → ∀ (d n : Nat) (keys kids : List Tr) (L : List Tk) (t : Tr) (m : Nat) (M : List Tk), rdF k q false d n keys kids L = .inr (t, m, M) → rdF k q true d n keys kids L = .inr (t, m, M) := by
  intro k
  induction k with
  | zero => intro q _ d n keys kids L t m M h; simp [rdF] at h
  | succ k ih =>
    intro q hq d n keys kids L t m M h
    rcases q with _ | _ | q
    · obtain ⟨a, L', rfl, hb, hg, hz⟩ := rd_inv0 h
      clear h
      have h := hz
      clear hz
      rcases h with ⟨h3, u, N, rfl, ⟨h4, rfl, rfl, rfl⟩ | ⟨h4, h⟩⟩ | ⟨h1, u, N, rfl, ⟨h4, rfl, rfl, rfl⟩ | ⟨h4, h⟩⟩ | ⟨h3, h1, rfl, rfl, rfl⟩
      · exact rd_arr0 hb rfl h3 h4
      · exact (rd_arr hb rfl h3 h4).trans (ih 1 (by omega) _ _ _ _ _ _ _ _ h)
      · exact rd_map0 hb rfl h1 h4
      · exact (rd_map hb rfl h1 h4).trans (ih 2 (by omega) _ _ _ _ _ _ _ _ h)
      · exact rd_leaf hb rfl h3 h1
    · obtain ⟨u, n', c, N, hr, hz⟩ := rd_inv1 h
      clear h
      have h := hz
      clear hz
      rw [rd_one (ih 0 (by omega) _ _ _ _ _ _ _ _ hr)]
      rcases h with ⟨h6, h⟩ | ⟨h4, rfl, rfl, rfl⟩
      · rw [if_pos h6]; exact ih 1 (by omega) _ _ _ _ _ _ _ _ h
      · rw [if_neg (by omega), if_pos h4]
    · obtain rfl : q = 0 := by omega
      obtain ⟨a, c, L', rfl, h7, hg, h5, u, n', e, N, hr, hz⟩ := rd_inv2 h
      clear h
      have h := hz
      clear hz
      have := rd_two_ok (free := true) (d := d) (n := n) (keys := keys) (kids := kids) h7 rfl h5 (ih 0 (by omega) _ _ _ _ _ _ _ _ hr)
      refine Eq.trans this ?_
      rcases h with ⟨h6, h⟩ | ⟨h4, rfl, rfl, rfl⟩
      · rw [if_pos h6]; exact ih 2 (by omega) _ _ _ _ _ _ _ _ h
      · rw [if_neg (by omega), if_pos h4]
end Go.Proofs.YtmlacmoembjeoaaGreatDoor
namespace Go.Proofs.YtmlacmoembjeoaaGreatDoor
open Go.RowKit
set_option linter.unusedVariables false

theorem not_true {v : Bool} {p : Prop} (h : v = true ↔ p) (hp : ¬ p) : v = false := by
  cases v with
  | false => rfl
  | true => exact absurd (h.1 rfl) hp

end Go.Proofs.YtmlacmoembjeoaaGreatDoor
namespace Go.Proofs.YtmlacmoembjeoaaGreatDoor
open Go.RowKit
set_option linter.unusedVariables false

/-- Is a number right, and not whole? -/
def rdN (n : Bool) (s : ByteArray) (x : Int) : Bool := rtN n s x && !(wholeA n s x).2
end Go.Proofs.YtmlacmoembjeoaaGreatDoor
namespace Go.Proofs.YtmlacmoembjeoaaGreatDoor
open Go.RowKit
set_option linter.unusedVariables false

/-- Are these bytes a text? -/
def gtx (s : ByteArray) : Bool := decide (whyL (bs s) = 0)
/-- The fault of a node. -/
def alF (t : Tr) : Int := t.alo gtx rt rdN
end Go.Proofs.YtmlacmoembjeoaaGreatDoor
namespace Go.Proofs.YtmlacmoembjeoaaGreatDoor
open Go.RowKit
set_option linter.unusedVariables false
/-- Every node is of its form, and no keys stand twice. -/
def NOK (t : Tr) : Prop := t.All (fun u => alF u = 0) ∧ t.All (fun u => u.keys.Nodup)
/-- A string's text may be a node's. -/
def TkG (t : Tk) : Prop := t.kind = 7 → gtx (strOfNums t.txt) = true ∧ (strOfNums t.txt).size ≤ 4096
theorem tkG_of {t : Tk} (h : TkOK 4096 t) : TkG t := fun h7 => by
  obtain ⟨h1, h2⟩ := h
  obtain ⟨g1, g2⟩ := h2 h7
  refine ⟨?_, by rw [strOfNums_size]; exact h1⟩
  unfold gtx whyL
  rw [bs_str g2, g1]
  rfl
theorem nok_leaf {t : Tr} (hk : t.keys = [] ∧ t.kids = []) (ha : alF t = 0) : NOK t := by
  refine ⟨(Tr.all_eq _ t).2 ⟨ha, fun k h => ?_, fun k h => ?_⟩, (Tr.all_eq _ t).2 ⟨by rw [hk.1]; exact List.nodup_nil, fun k h => ?_, fun k h => ?_⟩⟩
  · rw [hk.1] at h; cases h
  · rw [hk.2] at h; cases h
  · rw [hk.1] at h; cases h
  · rw [hk.2] at h; cases h
theorem al_txt {x : ByteArray} (h : gtx x = true) (hs : x.size ≤ 4096) : alF (txtT x) = 0 := by
  have o : (txtT x).odd = false := rfl
  show Tr.alo gtx rt rdN (txtT x) = 0
  unfold Tr.alo
  rw [o, show (txtT x).txt = x from rfl, h]
  rw [if_neg (by rintro (⟨_, q⟩ | ⟨q, _⟩); exact absurd q (by omega); exact absurd (show (5 : Int) = 6 from q) (by decide)), if_neg (by simp), if_neg (fun q => absurd (show (5 : Int) = 2 from q.1) (by decide)), if_neg (fun q => absurd (show (5 : Int) = 3 from q.1) (by decide)), if_neg (by decide)]
theorem al_int {n : Bool} {d : ByteArray} (h : rt d = true) (hz : ¬ (n = true ∧ d = ⟨#[48]⟩)) : alF (intT n d) = 0 := by
  have o : (intT n d).odd = false := by cases n <;> rfl
  show Tr.alo gtx rt rdN (intT n d) = 0
  unfold Tr.alo
  rw [o, show (intT n d).dig = d from rfl, show (intT n d).neg = n from rfl, h]
  rw [if_neg (by rintro (⟨q, _⟩ | ⟨q, _⟩); exact absurd (show (2 : Int) = 5 from q) (by decide); exact absurd (show (2 : Int) = 6 from q) (by decide)), if_neg (fun q => absurd (show (2 : Int) = 5 from q.1) (by decide)), if_neg (by rintro ⟨_, q | q⟩; exact absurd q (by decide); exact hz q), if_neg (fun q => absurd (show (2 : Int) = 3 from q.1) (by decide)), if_neg (by decide)]
theorem al_dec {n : Bool} {d : ByteArray} {x : Int} (h : rdN n d x = true) : alF (decT n d x) = 0 := by
  have o : (decT n d x).odd = false := by cases n <;> rfl
  show Tr.alo gtx rt rdN (decT n d x) = 0
  unfold Tr.alo
  rw [o, show (decT n d x).dig = d from rfl, show (decT n d x).neg = n from rfl, show (decT n d x).exp = x from rfl, h]
  rw [if_neg (by rintro (⟨q, _⟩ | ⟨q, _⟩); exact absurd (show (3 : Int) = 5 from q) (by decide); exact absurd (show (3 : Int) = 6 from q) (by decide)), if_neg (fun q => absurd (show (3 : Int) = 5 from q.1) (by decide)), if_neg (fun q => absurd (show (3 : Int) = 2 from q.1) (by decide)), if_neg (fun q => absurd q.2 (by decide)), if_neg (by decide)]
theorem al_arr (kids : List Tr) : alF (arrT kids) = 0 := by
  have o : (arrT kids).odd = false := by simp [Tr.odd, Tr.clean, arrT, ByteArray.size]
  show Tr.alo gtx rt rdN (arrT kids) = 0
  unfold Tr.alo
  rw [o]
  simp [arrT]
theorem al_map {keys kids : List Tr} (h : keys.length = kids.length) : alF (mapT keys kids) = 0 := by
  have o : (mapT keys kids).odd = false := by simp [Tr.odd, Tr.clean, mapT, ByteArray.size, h]
  show Tr.alo gtx rt rdN (mapT keys kids) = 0
  unfold Tr.alo
  rw [o]
  simp [mapT]
theorem pad_zero {s : ByteArray} {k : Nat} (h : padW s k = ⟨#[48]⟩) : k = 0 ∨ s.size = 0 := by
  have := congrArg ByteArray.size h
  rw [padW_size] at this
  have e : (⟨#[48]⟩ : ByteArray).size = 1 := rfl
  rw [e] at this
  omega
theorem num_al (x : ByteArray) (h : (numA x).2 = 0) : alF (numA x).1 = 0 := by
  unfold numA at h ⊢
  by_cases hp : (parseA x).2.1 ≠ 0
  · rw [if_pos hp] at h; exact absurd (show (11 : Int) = 0 from h) (by decide)
  rw [if_neg hp]
  have hr := parse_ok (s := x) (by simpa using hp)
  generalize parseA x = p at *
  by_cases hw : (wholeA p.1.1 p.1.2.1 p.1.2.2).2 = true
  · rw [if_pos hw]
    show alF (intT p.1.1 (wholeA p.1.1 p.1.2.1 p.1.2.2).1) = 0
    unfold wholeA at hw ⊢
    by_cases hc : rtN p.1.1 p.1.2.1 p.1.2.2 = true ∧ 0 ≤ p.1.2.2 ∧ ((p.1.2.1.size : Nat) : Int) + p.1.2.2 ≤ 800
    · rw [if_pos hc]
      obtain ⟨c1, c2, c3⟩ := hc
      obtain ⟨e, he⟩ : ∃ e : Nat, p.1.2.2 = (e : Int) := ⟨p.1.2.2.toNat, by omega⟩
      rw [he] at c1 c3
      have hrt := rt_padW c1
      show alF (intT p.1.1 (padW p.1.2.1 p.1.2.2.toNat)) = 0
      rw [he, Int.toNat_natCast]
      refine al_int (by rw [hrt]; simp; omega) ?_
      rintro ⟨hn, hz⟩
      have hb := (rtN_iff _ _ _).1 c1
      rcases pad_zero hz with h0 | h0
      · subst h0
        rw [padW_zero] at hz
        unfold rtN at c1
        rw [hz] at c1
        rw [if_pos (by rfl), hn] at c1
        simp at c1
      · unfold rtN at c1
        have hbs : bs p.1.2.1 = [] := List.eq_nil_of_length_eq_zero (by rw [bs_len]; exact h0)
        rw [hbs, if_neg (by simp)] at c1
        simp at c1
        have := (rt_iff _).1 c1.1
        unfold RightS Canon at this
        rw [hbs] at this
        exact absurd rfl this.1.1
    · rw [if_neg hc] at hw; exact absurd hw (by decide)
  · rw [if_neg hw]
    refine al_dec ?_
    unfold rdN
    rw [hr]
    simpa using hw
theorem node_al {k : Nat} {x : ByteArray} (h0 : (nodeA k x).2 = 0) (h3 : k ≠ 3) (h1 : k ≠ 1) (hx : k = 7 → gtx x = true ∧ x.size ≤ 4096) : alF (nodeA k x).1 = 0 := by
  unfold nodeA at h0 ⊢
  rw [if_neg h1, if_neg h3] at h0 ⊢
  by_cases h7 : k = 7
  · rw [if_pos h7]; exact al_txt (hx h7).1 (hx h7).2
  rw [if_neg h7] at h0 ⊢
  by_cases h8 : k = 8
  · rw [if_pos h8] at h0 ⊢; exact num_al x h0
  rw [if_neg h8]
  split
  · rfl
  split
  · rfl
  · rfl
theorem nok_arr {kids : List Tr} (h : ∀ k ∈ kids, NOK k) : NOK (arrT kids) :=
  ⟨(Tr.all_eq _ _).2 ⟨al_arr kids, fun k hk => absurd hk (by simp [arrT]), fun k hk => (h k hk).1⟩, (Tr.all_eq _ _).2 ⟨List.nodup_nil, fun k hk => absurd hk (by simp [arrT]), fun k hk => (h k hk).2⟩⟩
theorem nok_map {keys kids : List Tr} (hl : keys.length = kids.length) (hk : ∀ k ∈ keys, NOK k) (hi : ∀ k ∈ kids, NOK k) (hn : keys.Nodup) : NOK (mapT keys kids) :=
  ⟨(Tr.all_eq _ _).2 ⟨al_map hl, fun k h => (hk k h).1, fun k h => (hi k h).1⟩, (Tr.all_eq _ _).2 ⟨hn, fun k h => (hk k h).2, fun k h => (hi k h).2⟩⟩
/-- A key that was not there is no key that was. -/
theorem twT_not {keys : List Tr} {x : ByteArray} (h : twT keys x = false) : txtT x ∉ keys := fun hm => by
  unfold twT at h
  rw [List.any_eq_false] at h
  have := h _ hm
  simp [txtT] at this
theorem deeps_leq {l : List Tr} {n : Nat} (h : ∀ k ∈ l, k.deep ≤ n) : Tr.deeps l ≤ n := Tr.mx_le fun x hx => by
  obtain ⟨k, hm, rfl⟩ := List.mem_map.1 hx
  exact h k hm
/-- WHAT IS READ WITHIN BOUNDS MAY BE. -/
theorem rd_may : ∀ (k q : Nat), q ≤ 2 → ∀ (d n : Nat) (keys kids : List Tr) (L : List Tk) (t : Tr) (m : Nat) (M : List Tk), rdF k q false d n keys kids L = .inr (t, m, M) → (∀ x ∈ L, TkG x) → n ≤ 1024 →
    (∀ x ∈ M, TkG x) ∧ m ≤ 1024 ∧ (q = 0 → NOK t ∧ t.deep + d ≤ 24) ∧
    (q = 1 → (∀ u ∈ kids, NOK u ∧ u.deep + d ≤ 24) → NOK t ∧ t.deep + d ≤ 25) ∧
    (q = 2 → (∀ u ∈ keys, NOK u ∧ u.deep + d ≤ 24) → (∀ u ∈ kids, NOK u ∧ u.deep + d ≤ 24) → keys.length = kids.length → keys.Nodup → NOK t ∧ t.deep + d ≤ 25) := by
  intro k
  induction k with
  | zero => intro q _ d n keys kids L t m M h; simp [rdF] at h
  | succ k ih =>
    intro q hq d n keys kids L t m M h hL hn
    rcases q with _ | _ | q
    · obtain ⟨a, L', rfl, hb, hg, hz⟩ := rd_inv0 h
      clear h
      have h := hz
      clear hz
      obtain ⟨g1, g2, g3⟩ := begin_zero hg
      have hL' : ∀ x ∈ L', TkG x := fun x hx => hL x (List.mem_cons_of_mem _ hx)
      refine (fun (z : (∀ x ∈ M, TkG x) ∧ m ≤ 1024 ∧ NOK t ∧ t.deep + d ≤ 24) => ⟨z.1, z.2.1, fun _ => z.2.2, fun e => absurd e (by omega), fun e => absurd e (by omega)⟩) ?_
      rcases h with ⟨h3, u, N, rfl, ⟨h4, rfl, rfl, rfl⟩ | ⟨h4, h⟩⟩ | ⟨h1, u, N, rfl, ⟨h4, rfl, rfl, rfl⟩ | ⟨h4, h⟩⟩ | ⟨h3, h1, rfl, rfl, rfl⟩
      · refine ⟨fun x hx => hL' x (List.mem_cons_of_mem _ hx), by omega, nok_arr (fun k hk => absurd hk (by simp)), ?_⟩
        rw [(size_one (t := arrT []) ⟨rfl, rfl⟩).2]; omega
      · obtain ⟨i1, i2, _, i4, _⟩ := ih 1 (by omega) _ _ _ _ _ _ _ _ h hL' (by omega)
        obtain ⟨j1, j2⟩ := i4 rfl (fun u hu => absurd hu (by simp))
        exact ⟨i1, i2, j1, by omega⟩
      · refine ⟨fun x hx => hL' x (List.mem_cons_of_mem _ hx), by omega, nok_map rfl (fun k hk => absurd hk (by simp)) (fun k hk => absurd hk (by simp)) List.nodup_nil, ?_⟩
        rw [(size_one (t := mapT [] []) ⟨rfl, rfl⟩).2]; omega
      · obtain ⟨i1, i2, _, _, i4⟩ := ih 2 (by omega) _ _ _ _ _ _ _ _ h hL' (by omega)
        obtain ⟨j1, j2⟩ := i4 rfl (fun u hu => absurd hu (by simp)) (fun u hu => absurd hu (by simp)) rfl List.nodup_nil
        exact ⟨i1, i2, j1, by omega⟩
      · refine ⟨hL', by omega, nok_leaf (nodeA_one _ _) (node_al g3 h3 h1 fun h7 => hL a List.mem_cons_self h7), ?_⟩
        rw [(size_one (nodeA_one _ _)).2]; omega
    · obtain ⟨u, n', c, N, hr, hz⟩ := rd_inv1 h
      clear h
      have h := hz
      clear hz
      obtain ⟨i1, i2, i3, _⟩ := ih 0 (by omega) _ _ _ _ _ _ _ _ hr hL hn
      obtain ⟨j1, j2⟩ := i3 rfl
      have hN : ∀ x ∈ N, TkG x := fun x hx => i1 x (List.mem_cons_of_mem _ hx)
      rcases h with ⟨h6, h⟩ | ⟨h4, rfl, rfl, rfl⟩
      · obtain ⟨p1, p2, _, p3, _⟩ := ih 1 (by omega) _ _ _ _ _ _ _ _ h hN i2
        refine ⟨p1, p2, fun e => absurd e (by omega), fun _ hk => p3 rfl fun v hv => ?_, fun e => absurd e (by omega)⟩
        rcases List.mem_append.1 hv with hv | hv
        · exact hk v hv
        · rw [List.mem_singleton.1 hv]; exact ⟨j1, j2⟩
      · refine ⟨hN, i2, fun e => absurd e (by omega), fun _ hk => ?_, fun e => absurd e (by omega)⟩
        have hk' : ∀ v ∈ kids ++ [u], NOK v ∧ v.deep + d ≤ 24 := fun v hv => by
          rcases List.mem_append.1 hv with hv | hv
          · exact hk v hv
          · rw [List.mem_singleton.1 hv]; exact ⟨j1, j2⟩
        refine ⟨nok_arr fun v hv => (hk' v hv).1, ?_⟩
        have e : (arrT (kids ++ [u])).deep = 1 + max (Tr.deeps []) (Tr.deeps (kids ++ [u])) := Tr.deep_eq _
        have e0 : Tr.deeps [] = 0 := rfl
        have e1 := deeps_leq (l := kids ++ [u]) (n := 24 - d) fun v hv => by have := (hk' v hv).2; omega
        omega
    · obtain rfl : q = 0 := by omega
      obtain ⟨a, c, L', rfl, h7, hg, h5, u, n', e, N, hr, hz⟩ := rd_inv2 h
      clear h
      have h := hz
      clear hz
      obtain ⟨g1, g2, g3⟩ := begin_zero hg
      have hLa := hL a List.mem_cons_self h7
      have hL' : ∀ x ∈ L', TkG x := fun x hx => hL x (List.mem_cons_of_mem _ (List.mem_cons_of_mem _ hx))
      have htw : twT keys (strOfNums a.txt) = false := by
        cases htw : twT keys (strOfNums a.txt) with
        | false => rfl
        | true => rw [htw, if_pos rfl] at g3; omega
      have kx : NOK (txtT (strOfNums a.txt)) ∧ (txtT (strOfNums a.txt)).deep + d ≤ 24 := ⟨nok_leaf ⟨rfl, rfl⟩ (al_txt hLa.1 hLa.2), by rw [(size_one ⟨rfl, rfl⟩).2]; omega⟩
      obtain ⟨i1, i2, i3, _⟩ := ih 0 (by omega) _ _ _ _ _ _ _ _ hr hL' (by omega)
      obtain ⟨j1, j2⟩ := i3 rfl
      have hN : ∀ x ∈ N, TkG x := fun x hx => i1 x (List.mem_cons_of_mem _ hx)
      have hks : (∀ u ∈ keys, NOK u ∧ u.deep + d ≤ 24) → ∀ v ∈ keys ++ [txtT (strOfNums a.txt)], NOK v ∧ v.deep + d ≤ 24 := fun hk v hv => by
        rcases List.mem_append.1 hv with hv | hv
        · exact hk v hv
        · rw [List.mem_singleton.1 hv]; exact kx
      have his : (∀ u ∈ kids, NOK u ∧ u.deep + d ≤ 24) → ∀ v ∈ kids ++ [u], NOK v ∧ v.deep + d ≤ 24 := fun hk v hv => by
        rcases List.mem_append.1 hv with hv | hv
        · exact hk v hv
        · rw [List.mem_singleton.1 hv]; exact ⟨j1, j2⟩
      have hnd : keys.Nodup → (keys ++ [txtT (strOfNums a.txt)]).Nodup := fun hk => by
        rw [List.nodup_append]
        refine ⟨hk, by simp, fun x hx y hy => ?_⟩
        rw [List.mem_singleton.1 hy]
        intro e
        rw [e] at hx
        exact twT_not htw hx
      rcases h with ⟨h6, h⟩ | ⟨h4, rfl, rfl, rfl⟩
      · obtain ⟨p1, p2, _, _, p3⟩ := ih 2 (by omega) _ _ _ _ _ _ _ _ h hN i2
        exact ⟨p1, p2, fun e => absurd e (by omega), fun e => absurd e (by omega), fun _ hk hi hl hn => p3 rfl (hks hk) (his hi) (by simp [hl]) (hnd hn)⟩
      · refine ⟨hN, i2, fun e => absurd e (by omega), fun e => absurd e (by omega), fun _ hk hi hl hn => ⟨nok_map (by simp [hl]) (fun v hv => (hks hk v hv).1) (fun v hv => (his hi v hv).1) (hnd hn), ?_⟩⟩
        have e : (mapT (keys ++ [txtT (strOfNums a.txt)]) (kids ++ [u])).deep = 1 + max (Tr.deeps (keys ++ [txtT (strOfNums a.txt)])) (Tr.deeps (kids ++ [u])) := Tr.deep_eq _
        have e1 := deeps_leq (l := kids ++ [u]) (n := 24 - d) fun v hv => by have := (his hi v hv).2; omega
        have e2 := deeps_leq (l := keys ++ [txtT (strOfNums a.txt)]) (n := 24 - d) fun v hv => by have := (hks hk v hv).2; omega
        omega
/-- A WHOLE TEXT'S TREE MAY BE. -/
theorem rdW_may {L : List Tk} {t : Tr} {m : Nat} {M : List Tk} (h : rdW false L = .inr (t, m, M)) (hL : ∀ x ∈ L, TkOK 4096 x) : t.size = m ∧ t.May (fun u => alF u = 0) := by
  have hs := (rd_size _ 0 (by omega) _ _ _ _ _ _ _ _ _ h).2.1 rfl
  obtain ⟨_, i2, i3, _⟩ := rd_may _ 0 (by omega) _ _ _ _ _ _ _ _ h (fun x hx => tkG_of (hL x hx)) (by omega)
  obtain ⟨j1, j2⟩ := i3 rfl
  exact ⟨by omega, by omega, by omega, j1.1, j1.2⟩
end Go.Proofs.YtmlacmoembjeoaaGreatDoor
