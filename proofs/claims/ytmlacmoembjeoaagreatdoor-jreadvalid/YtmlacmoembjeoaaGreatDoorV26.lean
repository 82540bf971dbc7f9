/-
  Tokens read by descent, as plain data: what comes of a value, of an Array's and of a Map's rest; the reader with a stack reads the same.
  Tokens read by descent: more tokens behind, tokens at other places, how many nodes there are, no bounds, other bounds.
  When two trees are the same: tree.same.
  Whether a node's number is right, whether its Kind may have such numbers and counts: tree.isInt, isDec, mayBe.
  What is wrong with a node itself: tree.fault (plain part).
  What is read by descent, within bounds, may be.
-/
import Derived.Test.YtmlacmoembjeoaaGreatDoorV23
import Derived.Test.YtmlacmoembjeoaaGreatDoorV2
import Derived.Test.YtmlacmoembjeoaaGreatDoorV25
import Derived.Test.YtmlacmoembjeoaaGreatDoorV14
import Derived.Test.YtmlacmoembjeoaaGreatDoorV9
import Derived.Test.YtmlacmoembjeoaaGreatDoorV24
namespace Go.Proofs.YtmlacmoembjeoaaGreatDoor
open Go.RowKit
set_option linter.unusedVariables false
def arrT (kids : List Tr) : Tr := ⟨7, 0, false, ⟨#[]⟩, 0, ⟨#[]⟩, [], [], kids⟩
def mapT (keys kids : List Tr) : Tr := ⟨8, 0, false, ⟨#[]⟩, 0, ⟨#[]⟩, [], keys, kids⟩
/-- A value (0), the rest of an Array (1), of a Map (2), d open nodes around it, n nodes begun: a fault, and the tokens from it on (none: they ran out); or the tree, the nodes begun then, the tokens behind. -/
def rdF : Nat → Nat → Bool → Nat → Nat → List Tr → List Tr → List Tk → Sum (Int × List Tk) (Tr × Nat × List Tk)
  | 0, _, _, _, _, _, _, _ => .inl (3, [])
  | k + 1, 0, free, d, n, _, _, L => match L with
    | [] => .inl (3, [])
    | t :: M => if bvA t.kind = false then .inl (5, t :: M)
      else if beginA free n d (nodeA t.kind (strOfNums t.txt)).2 ≠ 0 then .inl (beginA free n d (nodeA t.kind (strOfNums t.txt)).2, t :: M)
      else if t.kind = 3 then (match M with
        | [] => .inl (3, [])
        | u :: N => if u.kind = 4 then .inr (arrT [], n + 1, N) else rdF k 1 free (d + 1) (n + 1) [] [] (u :: N))
      else if t.kind = 1 then (match M with
        | [] => .inl (3, [])
        | u :: N => if u.kind = 2 then .inr (mapT [] [], n + 1, N) else rdF k 2 free (d + 1) (n + 1) [] [] (u :: N))
      else .inr ((nodeA t.kind (strOfNums t.txt)).1, n + 1, M)
  | k + 1, 1, free, d, n, _, kids, L => match rdF k 0 free d n [] [] L with
    | .inl f => .inl f
    | .inr (_, _, []) => .inl (3, [])
    | .inr (t, m, c :: M) => if c.kind = 6 then rdF k 1 free d m [] (kids ++ [t]) M else if c.kind = 4 then .inr (arrT (kids ++ [t]), m, M) else .inl (5, c :: M)
  | k + 1, _ + 2, free, d, n, keys, kids, L => match L with
    | [] => .inl (3, [])
    | t :: M => if t.kind ≠ 7 then .inl (5, t :: M)
      else if beginA free n d (if twT keys (strOfNums t.txt) = true then 9 else 0) ≠ 0 then .inl (beginA free n d (if twT keys (strOfNums t.txt) = true then 9 else 0), t :: M)
      else match M with
        | [] => .inl (3, [])
        | c :: M => if c.kind ≠ 5 then .inl (5, c :: M)
          else match rdF k 0 free d (n + 1) [] [] M with
            | .inl f => .inl f
            | .inr (_, _, []) => .inl (3, [])
            | .inr (u, m, c :: M) => if c.kind = 6 then rdF k 2 free d m (keys ++ [txtT (strOfNums t.txt)]) (kids ++ [u]) M
              else if c.kind = 2 then .inr (mapT (keys ++ [txtT (strOfNums t.txt)]) (kids ++ [u]), m, M) else .inl (5, c :: M)
/-- Tokens are taken. -/
theorem rd_len : ∀ (k q : Nat) (free : Bool) (d n : Nat) (keys kids : List Tr) (L : List Tk) (t : Tr) (m : Nat) (M : List Tk), rdF k q free d n keys kids L = .inr (t, m, M) → M.length < L.length := by
  intro k
  induction k with
  | zero => intro q free d n keys kids L t m M h; simp [rdF] at h
  | succ k ih =>
    intro q free d n keys kids L t m M h
    rcases q with _ | _ | q
    · rcases L with _ | ⟨a, L⟩
      · simp [rdF] at h
      · simp only [rdF] at h
        split at h
        · simp at h
        split at h
        · simp at h
        split at h
        · rcases L with _ | ⟨u, N⟩
          · simp at h
          · simp only at h
            split at h
            · simp at h; obtain ⟨_, _, rfl⟩ := h; simp; try omega
            · have := ih _ _ _ _ _ _ _ _ _ _ h; simp at this ⊢; omega
        split at h
        · rcases L with _ | ⟨u, N⟩
          · simp at h
          · simp only at h
            split at h
            · simp at h; obtain ⟨_, _, rfl⟩ := h; simp; try omega
            · have := ih _ _ _ _ _ _ _ _ _ _ h; simp at this ⊢; omega
        · simp at h; obtain ⟨_, _, rfl⟩ := h; simp; try omega
    · simp only [rdF] at h
      split at h
      · simp at h
      · simp at h
      · rename_i u m' c N hr
        have h1 := ih _ _ _ _ _ _ _ _ _ _ hr
        simp at h1
        split at h
        · have := ih _ _ _ _ _ _ _ _ _ _ h; omega
        split at h
        · simp at h; obtain ⟨_, _, rfl⟩ := h; omega
        · simp at h
    · rcases L with _ | ⟨a, L⟩
      · simp [rdF] at h
      · simp only [rdF] at h
        by_cases c1 : a.kind ≠ 7
        · rw [if_pos c1] at h; simp at h
        rw [if_neg c1] at h
        by_cases c2 : beginA free n d (if twT keys (strOfNums a.txt) = true then 9 else 0) ≠ 0
        · rw [if_pos c2] at h; simp at h
        rw [if_neg c2] at h
        rcases L with _ | ⟨c, L⟩
        · simp at h
        · simp only at h
          by_cases c3 : c.kind ≠ 5
          · rw [if_pos c3] at h; simp at h
          rw [if_neg c3] at h
          split at h
          · simp at h
          · simp at h
          · rename_i u m' c' N hr
            have h1 := ih _ _ _ _ _ _ _ _ _ _ hr
            simp at h1
            split at h
            · have := ih _ _ _ _ _ _ _ _ _ _ h; simp; omega
            split at h
            · simp at h; obtain ⟨_, _, rfl⟩ := h; simp; omega
            · simp at h
theorem putA_nx (s : JS) (a : Nat) (t : Tr) : putA { s with nx := a } t = putA s t := by
  rcases List.eq_nil_or_concat s.opn with q | ⟨os, u, q⟩
  · rw [putA_nil (s := { s with nx := a }) t q, putA_nil t q]
  · have q' : s.opn = os ++ [u] := by rw [q]; simp
    rw [putA_snoc (s := { s with nx := a }) t q', putA_snoc t q']
/-- What the reader with a stack does, where descent has this answer. -/
def Sim (r : Sum (Int × List Tk) (Tr × Nat × List Tk)) (s : JS) (L : List Tk) (f : Tr → Nat → JS) : Prop := match r with
  | .inl (_, []) => (readT s L).2 = (0, 0) ∧ (readT s L).1.ended = false
  | .inl (e, t :: _) => e ≠ 0 ∧ (readT s L).2 = (e, t.frm)
  | .inr (t, n, M) => readT s L = readT (f t n) M
theorem Sim.via {r : Sum (Int × List Tk) (Tr × Nat × List Tk)} {s s1 : JS} {L M : List Tk} {f : Tr → Nat → JS} (e : readT s L = readT s1 M) (h : Sim r s1 M f) : Sim r s L f := by
  unfold Sim at *
  rw [e]
  exact h
theorem Sim.bad {s : JS} {t : Tk} {M N : List Tk} {f : Tr → Nat → JS} {e : Int} (he : e ≠ 0) (h : (stepA s t.kind (strOfNums t.txt)).2 = e) : Sim (.inl (e, t :: N)) s (t :: M) f := by
  have := readT_cons_bad (s := s) (t := t) (l := M) (by rw [h]; exact he)
  exact ⟨he, by rw [this, h]⟩
theorem Sim.ok {s : JS} {t : Tk} {M : List Tk} {f : Tr → Nat → JS} {s1 : JS} {r : Sum (Int × List Tk) (Tr × Nat × List Tk)} (h : stepA s t.kind (strOfNums t.txt) = (s1, 0)) (k : Sim r s1 M f) : Sim r s (t :: M) f := by
  refine Sim.via ?_ k
  rw [readT_cons_ok (by rw [h]), h]
theorem Sim.fault {s : JS} {L : List Tk} {f : Int × List Tk} {f1 f2 : Tr → Nat → JS} (h : Sim (.inl f) s L f1) : Sim (.inl f) s L f2 := by
  obtain ⟨e, _ | ⟨t, M⟩⟩ := f
  · exact h
  · exact h
theorem Sim.out {s : JS} {f : Tr → Nat → JS} (e : Int) (h : s.ended = false) : Sim (.inl (e, [])) s [] f := ⟨rfl, h⟩
def VOK (s : JS) (L : List Tk) : Prop := s.nx = 27 ∨ (s.nx = 41 ∧ ∀ t M, L = t :: M → t.kind ≠ 4)
def KOK (s : JS) (L : List Tk) : Prop := s.nx = 66 ∨ (s.nx = 42 ∧ ∀ t M, L = t :: M → t.kind ≠ 2)
theorem step_v {s : JS} {t : Tk} {M : List Tk} (h : VOK s (t :: M)) (x : ByteArray) : stepA s t.kind x = valA s t.kind x := by
  rcases h with h | ⟨h, h4⟩
  · unfold stepA; rw [if_pos h]
  · unfold stepA; rw [if_neg (by rw [h]; decide), if_pos h, if_neg (h4 t M rfl)]
theorem step_k {s : JS} {t : Tk} {M : List Tk} (h : KOK s (t :: M)) (x : ByteArray) : stepA s t.kind x = keyA s t.kind x := by
  rcases h with h | ⟨h, h4⟩
  · unfold stepA; rw [if_neg (by rw [h]; decide), if_neg (by rw [h]; decide), if_neg (by rw [h]; decide), if_pos h]
  · unfold stepA; rw [if_neg (by rw [h]; decide), if_neg (by rw [h]; decide), if_pos h, if_neg (h4 t M rfl)]
theorem step_fv {s : JS} (h : s.nx = 41) (x : ByteArray) : stepA s 4 x = (endA s, 0) := by unfold stepA; rw [if_neg (by rw [h]; decide), if_pos h, if_pos rfl]
theorem step_fk {s : JS} (h : s.nx = 42) (x : ByteArray) : stepA s 2 x = (endA s, 0) := by unfold stepA; rw [if_neg (by rw [h]; decide), if_neg (by rw [h]; decide), if_pos h, if_pos rfl]
theorem step_bk {s : JS} (h : s.nx = 69) (k : Nat) (x : ByteArray) : stepA s k x = if k = 6 then ({ s with nx := 27 }, 0) else if k = 4 then (endA s, 0) else (s, 5) := by
  unfold stepA; rw [if_neg (by rw [h]; decide), if_neg (by rw [h]; decide), if_neg (by rw [h]; decide), if_neg (by rw [h]; decide), if_neg (by rw [h]; decide), if_pos h]
theorem step_bm {s : JS} (h : s.nx = 70) (k : Nat) (x : ByteArray) : stepA s k x = if k = 6 then ({ s with nx := 66 }, 0) else if k = 2 then (endA s, 0) else (s, 5) := by
  unfold stepA; rw [if_neg (by rw [h]; decide), if_neg (by rw [h]; decide), if_neg (by rw [h]; decide), if_neg (by rw [h]; decide), if_neg (by rw [h]; decide), if_neg (by rw [h]; decide), if_pos h]
theorem step_col {s : JS} (h : s.nx = 87) (k : Nat) (x : ByteArray) : stepA s k x = if k = 5 then ({ s with nx := 27 }, 0) else (s, 5) := by
  unfold stepA; rw [if_neg (by rw [h]; decide), if_neg (by rw [h]; decide), if_neg (by rw [h]; decide), if_neg (by rw [h]; decide), if_pos h]
set_option maxHeartbeats 1000000 in
/-- THE READER WITH A STACK READS BY DESCENT. -/
theorem sim_all : ∀ fuel : Nat,
    (∀ (s : JS) (L : List Tk), s.ended = false → VOK s L → 2 * L.length + 1 ≤ fuel → Sim (rdF fuel 0 s.free s.opn.length s.nodes [] [] L) s L (fun t n => putA { s with nodes := n } t)) ∧
    (∀ (s : JS) (os kids : List Tr) (L : List Tk), s.ended = false → VOK s L → s.opn = os ++ [arrT kids] → 2 * L.length + 2 ≤ fuel → Sim (rdF fuel 1 s.free s.opn.length s.nodes [] kids L) s L (fun t n => putA { s with opn := os, nodes := n } t)) ∧
    (∀ (s : JS) (os keys kids : List Tr) (L : List Tk), s.ended = false → KOK s L → s.opn = os ++ [mapT keys kids] → 2 * L.length + 2 ≤ fuel → Sim (rdF fuel 2 s.free s.opn.length s.nodes keys kids L) s L (fun t n => putA { s with opn := os, nodes := n } t)) := by
  intro fuel
  induction fuel with
  | zero => exact ⟨fun s L _ _ h => by omega, fun s os kids L _ _ _ h => by omega, fun s os keys kids L _ _ _ h => by omega⟩
  | succ k ih =>
    obtain ⟨ihV, ihA, ihM⟩ := ih
    refine ⟨?_, ?_, ?_⟩
    · intro s L he hv hf
      rcases L with _ | ⟨t, M⟩
      · exact Sim.out _ he
      have st := step_v hv (strOfNums t.txt)
      simp only [List.length_cons] at hf
      simp only [rdF]
      by_cases h1 : bvA t.kind = false
      · rw [if_pos h1]
        exact Sim.bad (by decide) (by rw [st]; unfold valA; rw [if_pos h1])
      rw [if_neg h1]
      by_cases h2 : beginA s.free s.nodes s.opn.length (nodeA t.kind (strOfNums t.txt)).2 ≠ 0
      · rw [if_pos h2]
        exact Sim.bad h2 (by rw [st]; unfold valA; rw [if_neg h1, if_pos h2])
      rw [if_neg h2]
      by_cases h3 : t.kind = 3
      · rw [if_pos h3]
        refine Sim.ok (s1 := { s with nx := 41, opn := s.opn ++ [kindT 7 0], nodes := s.nodes + 1 }) (by rw [st]; unfold valA; rw [if_neg h1, if_neg h2, if_pos h3]) ?_
        rcases M with _ | ⟨u, N⟩
        · exact Sim.out _ he
        simp only
        by_cases h4 : u.kind = 4
        · rw [if_pos h4]
          refine Sim.ok (by rw [h4]; exact step_fv rfl _) ?_
          show readT _ N = readT _ N
          rw [endA_snoc (os := s.opn) (t := kindT 7 0) rfl]
          exact congrArg (fun z => readT z N) (putA_nx { s with nodes := s.nodes + 1 } 41 (arrT []))
        · rw [if_neg h4]
          have := ihA { s with nx := 41, opn := s.opn ++ [kindT 7 0], nodes := s.nodes + 1 } s.opn [] (u :: N) he (.inr ⟨rfl, fun t M e => by cases e; exact h4⟩) rfl (by simp at hf ⊢; omega)
          simp only [List.length_append, List.length_singleton] at this
          have e : (fun (t : Tr) (n : Nat) => putA { s with nx := 41, opn := s.opn, nodes := n } t) = (fun t n => putA { s with nodes := n } t) := by funext t n; exact putA_nx { s with nodes := n } 41 t
          rw [e] at this
          exact this
      rw [if_neg h3]
      by_cases h1' : t.kind = 1
      · rw [if_pos h1']
        refine Sim.ok (s1 := { s with nx := 42, opn := s.opn ++ [kindT 8 0], nodes := s.nodes + 1 }) (by rw [st]; unfold valA; rw [if_neg h1, if_neg h2, if_neg h3, if_pos h1']) ?_
        rcases M with _ | ⟨u, N⟩
        · exact Sim.out _ he
        simp only
        by_cases h4 : u.kind = 2
        · rw [if_pos h4]
          refine Sim.ok (by rw [h4]; exact step_fk rfl _) ?_
          show readT _ N = readT _ N
          rw [endA_snoc (os := s.opn) (t := kindT 8 0) rfl]
          exact congrArg (fun z => readT z N) (putA_nx { s with nodes := s.nodes + 1 } 42 (mapT [] []))
        · rw [if_neg h4]
          have := ihM { s with nx := 42, opn := s.opn ++ [kindT 8 0], nodes := s.nodes + 1 } s.opn [] [] (u :: N) he (.inr ⟨rfl, fun t M e => by cases e; exact h4⟩) rfl (by simp at hf ⊢; omega)
          simp only [List.length_append, List.length_singleton] at this
          have e : (fun (t : Tr) (n : Nat) => putA { s with nx := 42, opn := s.opn, nodes := n } t) = (fun t n => putA { s with nodes := n } t) := by funext t n; exact putA_nx { s with nodes := n } 42 t
          rw [e] at this
          exact this
      rw [if_neg h1']
      refine Sim.ok (s1 := putA { s with nodes := s.nodes + 1 } (nodeA t.kind (strOfNums t.txt)).1) (by rw [st]; unfold valA; rw [if_neg h1, if_neg h2, if_neg h3, if_neg h1']) ?_
      exact rfl
    · intro s os kids L he hv ho hf
      have hV := ihV s L he hv (by omega)
      simp only [rdF]
      cases hr : rdF k 0 s.free s.opn.length s.nodes [] [] L with
      | inl f => rw [hr] at hV; exact Sim.fault hV
      | inr z =>
        obtain ⟨t, n, M⟩ := z
        rw [hr] at hV
        have hlen := rd_len _ _ _ _ _ _ _ _ _ _ _ hr
        have hp : putA { s with nodes := n } t = { s with opn := os ++ [arrT (kids ++ [t])], nodes := n, nx := 69 } := by
          rw [putA_snoc (s := { s with nodes := n }) t ho]
          rfl
        have hV' : readT s L = readT { s with opn := os ++ [arrT (kids ++ [t])], nodes := n, nx := 69 } M := by rw [← hp]; exact hV
        rcases M with _ | ⟨c, M⟩
        · exact Sim.via hV' (Sim.out _ he)
        refine Sim.via hV' ?_
        have st := step_bk (s := { s with opn := os ++ [arrT (kids ++ [t])], nodes := n, nx := 69 }) rfl c.kind (strOfNums c.txt)
        simp only at st ⊢
        by_cases h6 : c.kind = 6
        · rw [if_pos h6]
          rw [if_pos h6] at st
          refine Sim.ok st ?_
          have hln : s.opn.length = (os ++ [arrT (kids ++ [t])]).length := by rw [ho]; simp
          rw [hln]
          exact ihA { s with opn := os ++ [arrT (kids ++ [t])], nodes := n, nx := 27 } os (kids ++ [t]) M he (.inl rfl) rfl (by simp at hlen; omega) |> fun q => by
            have e : (fun (t : Tr) (m : Nat) => putA { s with opn := os, nodes := m, nx := 27 } t) = (fun t m => putA { s with opn := os, nodes := m } t) := by funext t m; exact putA_nx { s with opn := os, nodes := m } 27 t
            rw [← e]; exact q
        rw [if_neg h6] at st ⊢
        by_cases h4 : c.kind = 4
        · rw [if_pos h4] at st ⊢
          refine Sim.ok st ?_
          show readT _ M = readT _ M
          rw [endA_snoc (os := os) (t := arrT (kids ++ [t])) rfl]
          exact congrArg (fun z => readT z M) (putA_nx { s with opn := os, nodes := n } 69 _)
        · rw [if_neg h4] at st ⊢
          exact Sim.bad (by decide) (by rw [st])
    · intro s os keys kids L he hv ho hf
      rcases L with _ | ⟨t, M⟩
      · exact Sim.out _ he
      have st := step_k hv (strOfNums t.txt)
      simp only [List.length_cons] at hf
      simp only [rdF]
      by_cases h7 : t.kind ≠ 7
      · rw [if_pos h7]
        exact Sim.bad (by decide) (by rw [st]; unfold keyA; rw [if_pos h7])
      rw [if_neg h7]
      have h7' : t.kind = 7 := by omega
      rw [h7', keyA_snoc (strOfNums t.txt) ho] at st
      have ek : (mapT keys kids).keys = keys := rfl
      rw [ek] at st
      by_cases h2 : beginA s.free s.nodes s.opn.length (if twT keys (strOfNums t.txt) = true then 9 else 0) ≠ 0
      · rw [if_pos h2]
        rw [if_pos h2] at st
        exact Sim.bad h2 (by rw [h7', st])
      rw [if_neg h2]
      rw [if_neg h2] at st
      refine Sim.ok (s1 := { s with nx := 87, nodes := s.nodes + 1, opn := os ++ [mapT (keys ++ [txtT (strOfNums t.txt)]) kids] }) (by rw [h7']; exact st) ?_
      rcases M with _ | ⟨c, M⟩
      · exact Sim.out _ he
      have sc := step_col (s := { s with nx := 87, nodes := s.nodes + 1, opn := os ++ [mapT (keys ++ [txtT (strOfNums t.txt)]) kids] }) rfl c.kind (strOfNums c.txt)
      simp only at sc ⊢
      by_cases h5 : c.kind ≠ 5
      · rw [if_pos h5]
        rw [if_neg h5] at sc
        exact Sim.bad (by decide) (by rw [sc])
      rw [if_neg h5]
      rw [if_pos (by omega)] at sc
      refine Sim.ok sc ?_
      have hln : s.opn.length = (os ++ [mapT (keys ++ [txtT (strOfNums t.txt)]) kids]).length := by rw [ho]; simp
      have hV := ihV { s with nx := 27, nodes := s.nodes + 1, opn := os ++ [mapT (keys ++ [txtT (strOfNums t.txt)]) kids] } M he (.inl rfl) (by simp at hf; omega)
      simp only at hV
      rw [← hln] at hV
      cases hr : rdF k 0 s.free s.opn.length (s.nodes + 1) [] [] M with
      | inl f => rw [hr] at hV; exact Sim.fault hV
      | inr z =>
        obtain ⟨u, n, N⟩ := z
        rw [hr] at hV
        have hlen := rd_len _ _ _ _ _ _ _ _ _ _ _ hr
        have hV' : readT { s with nx := 27, nodes := s.nodes + 1, opn := os ++ [mapT (keys ++ [txtT (strOfNums t.txt)]) kids] } M = readT { s with opn := os ++ [mapT (keys ++ [txtT (strOfNums t.txt)]) (kids ++ [u])], nodes := n, nx := 70 } N := by
          refine Eq.trans (show _ = readT (putA { s with nx := 27, nodes := n, opn := os ++ [mapT (keys ++ [txtT (strOfNums t.txt)]) kids] } u) N from hV) ?_
          rw [putA_snoc (s := { s with nx := 27, nodes := n, opn := os ++ [mapT (keys ++ [txtT (strOfNums t.txt)]) kids] }) u rfl]
          rfl
        rcases N with _ | ⟨c', N⟩
        · exact Sim.via hV' (Sim.out _ he)
        refine Sim.via hV' ?_
        have sm := step_bm (s := { s with opn := os ++ [mapT (keys ++ [txtT (strOfNums t.txt)]) (kids ++ [u])], nodes := n, nx := 70 }) rfl c'.kind (strOfNums c'.txt)
        simp only at sm ⊢
        by_cases h6 : c'.kind = 6
        · rw [if_pos h6] at sm ⊢
          refine Sim.ok sm ?_
          have hln2 : s.opn.length = (os ++ [mapT (keys ++ [txtT (strOfNums t.txt)]) (kids ++ [u])]).length := by rw [ho]; simp
          rw [hln2]
          have q := ihM { s with opn := os ++ [mapT (keys ++ [txtT (strOfNums t.txt)]) (kids ++ [u])], nodes := n, nx := 66 } os (keys ++ [txtT (strOfNums t.txt)]) (kids ++ [u]) N he (.inl rfl) rfl (by simp at hf hlen; omega)
          have e : (fun (t : Tr) (m : Nat) => putA { s with opn := os, nodes := m, nx := 66 } t) = (fun t m => putA { s with opn := os, nodes := m } t) := by funext t m; exact putA_nx { s with opn := os, nodes := m } 66 t
          rw [← e]; exact q
        rw [if_neg h6] at sm ⊢
        by_cases h4 : c'.kind = 2
        · rw [if_pos h4] at sm ⊢
          refine Sim.ok sm ?_
          show readT _ N = readT _ N
          rw [endA_snoc (os := os) (t := mapT (keys ++ [txtT (strOfNums t.txt)]) (kids ++ [u])) rfl]
          exact congrArg (fun z => readT z N) (putA_nx { s with opn := os, nodes := n } 70 _)
        · rw [if_neg h4] at sm ⊢
          exact Sim.bad (by decide) (by rw [sm])
/-- ALL TOKENS, BY DESCENT. -/
def rdW (free : Bool) (L : List Tk) : Sum (Int × List Tk) (Tr × Nat × List Tk) := rdF (2 * L.length + 1) 0 free 0 0 [] [] L
def endS' (free : Bool) (n : Nat) (t : Tr) : JS := ⟨free, 67, [], n, t, true⟩
theorem read_whole (free : Bool) (L : List Tk) : match rdW free L with
    | .inl (_, []) => (readT (newS free) L).2 = (0, 0) ∧ (readT (newS free) L).1.ended = false
    | .inl (e, t :: _) => e ≠ 0 ∧ (readT (newS free) L).2 = (e, t.frm)
    | .inr (t, n, []) => readT (newS free) L = (endS' free n t, 0, 0)
    | .inr (t, n, c :: _) => (readT (newS free) L).2 = (10, c.frm) := by
  have h := (sim_all (2 * L.length + 1)).1 (newS free) L rfl (.inl rfl) (Nat.le_refl _)
  have e : rdF (2 * L.length + 1) 0 (newS free).free (newS free).opn.length (newS free).nodes [] [] L = rdW free L := rfl
  rw [e] at h
  generalize rdW free L = r at h ⊢
  rcases r with ⟨e, _ | ⟨t, M⟩⟩ | ⟨t, n, _ | ⟨c, M⟩⟩
  · exact h
  · exact h
  · exact h
  · have h' : readT (newS free) L = readT (endS' free n t) (c :: M) := h
    show (readT (newS free) L).2 = _
    rw [h']
    have hs : stepA (endS' free n t) c.kind (strOfNums c.txt) = (endS' free n t, 10) := by
      unfold stepA
      rw [if_neg (show ¬ (endS' free n t).nx = 27 from (by decide : ¬ 67 = 27)), if_neg (show ¬ (endS' free n t).nx = 41 from (by decide : ¬ 67 = 41)), if_neg (show ¬ (endS' free n t).nx = 42 from (by decide : ¬ 67 = 42)), if_neg (show ¬ (endS' free n t).nx = 66 from (by decide : ¬ 67 = 66)), if_neg (show ¬ (endS' free n t).nx = 87 from (by decide : ¬ 67 = 87)), if_neg (show ¬ (endS' free n t).nx = 69 from (by decide : ¬ 67 = 69)), if_neg (show ¬ (endS' free n t).nx = 70 from (by decide : ¬ 67 = 70))]
    rw [readT_cons_bad (by rw [hs]; simp), hs]
end Go.Proofs.YtmlacmoembjeoaaGreatDoor
namespace Go.Proofs.YtmlacmoembjeoaaGreatDoor
open Go.RowKit
set_option linter.unusedVariables false
section
variable {k : Nat} {free : Bool} {d n : Nat} {keys kids : List Tr} {a : Tk}
end
/-- Tokens of the same kinds and texts. -/
def KT (L M : List Tk) : Prop := L.map (fun t => (t.kind, t.txt)) = M.map (fun t => (t.kind, t.txt))
theorem KT.cons {a : Tk} {L M : List Tk} (h : KT (a :: L) M) : ∃ b N, M = b :: N ∧ b.kind = a.kind ∧ b.txt = a.txt ∧ KT L N := by
  rcases M with _ | ⟨b, N⟩
  · simp [KT] at h
  · simp only [KT, List.map_cons, List.cons.injEq, Prod.mk.injEq] at h
    exact ⟨b, N, rfl, h.1.1.symm, h.1.2.symm, h.2⟩
theorem KT.append {L M X Y : List Tk} (h : KT L M) (k : KT X Y) : KT (L ++ X) (M ++ Y) := by
  unfold KT at *; rw [List.map_append, List.map_append, h, k]
theorem KT.refl (L : List Tk) : KT L L := rfl
end Go.Proofs.YtmlacmoembjeoaaGreatDoor
namespace Go.Proofs.YtmlacmoembjeoaaGreatDoor
open Go.RowKit
set_option linter.unusedVariables false

theorem not_true {v : Bool} {p : Prop} (h : v = true ↔ p) (hp : ¬ p) : v = false := by
  cases v with
  | false => rfl
  | true => exact absurd (h.1 rfl) hp

end Go.Proofs.YtmlacmoembjeoaaGreatDoor
namespace Go.Proofs.YtmlacmoembjeoaaGreatDoor
open Go.RowKit
set_option linter.unusedVariables false

end Go.Proofs.YtmlacmoembjeoaaGreatDoor
namespace Go.Proofs.YtmlacmoembjeoaaGreatDoor
open Go.RowKit
set_option linter.unusedVariables false

end Go.Proofs.YtmlacmoembjeoaaGreatDoor
namespace Go.Proofs.YtmlacmoembjeoaaGreatDoor
open Go.RowKit
set_option linter.unusedVariables false
end Go.Proofs.YtmlacmoembjeoaaGreatDoor
