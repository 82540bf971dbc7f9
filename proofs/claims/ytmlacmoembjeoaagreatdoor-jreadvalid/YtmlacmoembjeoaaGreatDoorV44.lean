/-
  Parts of the proof.
-/
import Derived.Test.YtmlacmoembjeoaaGreatDoorV43
import Derived.Test.YtmlacmoembjeoaaGreatDoorV11
import Derived.Test.YtmlacmoembjeoaaGreatDoorV42
import Derived.Test.YtmlacmoembjeoaaGreatDoorV14
import Derived.Deep.DeepCutAuto
import Derived.Deep.RegionHeld3
namespace Go.Proofs.YtmlacmoembjeoaaGreatDoor
open Go.RowKit

theorem is_lt {l : List Int} {st : St} {c : Int} (h : isR l st c = true) : st.1 < l.length := by
  unfold isR at h
  simp at h
  exact h.2.1
theorem on_le {l : List Int} {st : St} {c : Int} (h : isR l st c = true) : (onR st).1 ≤ l.length := is_lt h
theorem may_le {l : List Int} {st : St} {c : Int} (h : st.1 ≤ l.length) : (mayR l st c).1 ≤ l.length := by
  unfold mayR
  split
  · rename_i h1; exact on_le h1
  · exact h
theorem wrong_place (l : List Int) (st : St) : (wrongR l st).1 = st.1 := by
  unfold wrongR
  split
  · split <;> rfl
  · rfl
theorem span_le {l : List Int} {st : St} (h : st.1 ≤ l.length) : st.1 + (spanR l st).length ≤ l.length := by
  unfold spanR
  split
  · have h1 := (List.takeWhile_sublist isD (l := l.drop st.1)).length_le
    rw [List.length_drop] at h1
    omega
  · simpa using h
theorem dig_leY {l : List Int} {st : St} (h : st.1 ≤ l.length) : (digRY l st).2.1 ≤ l.length ∧ (digRY l st).1.length ≤ l.length := by
  unfold digRY
  split
  · exact ⟨by show (wrongR l st).1 ≤ _; rw [wrong_place]; exact h,by simp⟩
  · have := span_le h
    exact ⟨this,by show (spanR l st).length ≤ _; omega⟩
theorem dig_digs (l : List Int) (st : St) : Digs (digRY l st).1 := by
  unfold digRY
  split
  · intro c hc; cases hc
  · show Digs (spanR l st)
    unfold spanR
    split
    · intro c hc
      have hall : ∀ (q : List Int) (x : Int),x ∈ q.takeWhile isD → isD x = true := by
        intro q
        induction q with
        | nil => intro x hx; cases hx
        | cons y q ih =>
          intro x hx
          by_cases hy : isD y = true
          · rw [List.takeWhile_cons_of_pos hy] at hx
            rcases List.mem_cons.1 hx with h | h
            · rw [h]; exact hy
            · exact ih x h
          · rw [List.takeWhile_cons_of_neg hy] at hx
            cases hx
      exact isD_iff.1 (hall _ _ hc)
    · intro c hc; cases hc
theorem whole_le {l : List Int} {st : St} (h : st.1 ≤ l.length) : (wholeR l st).2.1 ≤ l.length ∧ (wholeR l st).1.length ≤ l.length ∧ Digs (wholeR l st).1 := by
  unfold wholeR
  split
  · rename_i h1
    have := is_lt h1
    exact ⟨this,by show 1 ≤ _; omega,fun c hc => by simp at hc; omega⟩
  · exact ⟨(dig_leY h).1,(dig_leY h).2,dig_digs l st⟩
theorem part_le {l : List Int} {st : St} (h : st.1 ≤ l.length) : (partR l st).2.1 ≤ l.length ∧ (partR l st).1.length ≤ l.length ∧ Digs (partR l st).1 := by
  unfold partR
  split
  · rename_i h1
    have h2 := on_le h1
    exact ⟨(dig_leY h2).1,(dig_leY h2).2,dig_digs l _⟩
  · exact ⟨h,by simp,fun c hc => by cases hc⟩
theorem sign_leY {l : List Int} {st : St} (h : st.1 ≤ l.length) : (signR l st).1 ≤ l.length := by
  unfold signR
  split
  · rename_i h1
    rcases h1 with h1 | h1
    · exact on_le h1
    · exact on_le h1
  · exact h
theorem exp_le {l : List Int} {st : St} (h : st.1 ≤ l.length) : (expR l st).2.1 ≤ l.length ∧ -1000000 ≤ (expR l st).1 ∧ (expR l st).1 ≤ 1000000 := by
  unfold expR
  split
  · rename_i h1
    have h2 : (onR st).1 ≤ l.length := by
      rcases h1 with h1 | h1
      · exact on_le h1
      · exact on_le h1
    have h3 := powY_le (digRY l (signR l (onR st))).1
    refine ⟨(dig_leY (sign_leY h2)).1,?_⟩
    dsimp only
    split <;> omega
  · exact ⟨h,by show (-1000000 : Int) ≤ 0; decide,by show (0 : Int) ≤ 1000000; decide⟩
theorem str_cat {a b : List Int} : strOfNums (a ++ b) = strOfNums a ++ strOfNums b := by
  unfold strOfNums
  rw [List.map_append]
  apply ByteArray.ext
  simp

def PSY (w wx : World) (s : ByteArray) (st : St) : Prop := NRow wx w.heap.size false noS 0 ∧ FRow wx (w.heap.size + 1) 0 0 ∧ RAt wx (w.heap.size + 2) s st ∧ Below w.heap.size w wx
theorem PSY.on {w wx w' : World} {s : ByteArray} {st st' : St} (h : PSY w wx s st) (hr : RAt w' (w.heap.size + 2) s st') (hb : Below (w.heap.size + 2) wx w') : PSY w w' s st' :=
  ⟨h.1.keep hb (by omega),h.2.1.keep hb (by omega),hr,h.2.2.2.trans (hb.mono (by omega))⟩
theorem PSY.goes {w wx : World} {s : ByteArray} {k : Nat} {y f : Int} (h : PSY w wx s (k,y,f)) (k' : Nat) : PSY w (wx.setCell ⟨w.heap.size + 2,1,none⟩ (.int .i64 ((k' : Nat) : Int))) s (k',y,f) := h.on (h.2.2.1.goes k') (bset (Below.refl _ _) 1 _)
theorem PSY.drawn {w wx : World} {s : ByteArray} {st : St} (h : PSY w wx s st) (q : Nat) : PSY w (wx.drewN q) s st := ⟨h.1,h.2.1,h.2.2.1,bdrew h.2.2.2 q⟩
theorem ps0 (w : World) (s : ByteArray) : PSY w (((w.alloc (.cells #[.bool false,.string ⟨#[]⟩,.int .i64 0] 84)).alloc (.cells #[.int .i64 0,.int .i64 0] 29)).alloc (.cells #[.string s,.int .i64 0,.int .i64 0,.int .i64 0] 122)) s st0 := by
  have a1 := alloc_below w (.cells #[.bool false,.string ⟨#[]⟩,.int .i64 0] 84)
  have h1 := row_new w false ⟨#[]⟩ 0
  generalize hw1 : w.alloc (.cells #[.bool false,.string ⟨#[]⟩,.int .i64 0] 84) = w1 at *
  have s1 : w1.heap.size = w.heap.size + 1 := by rw [← hw1]; simp
  have a2 := alloc_below w1 (.cells #[.int .i64 0,.int .i64 0] 29)
  have h2 : FRow (w1.alloc (.cells #[.int .i64 0,.int .i64 0] 29)) (w.heap.size + 1) 0 0 := by rw [← s1]; exact heap_alloc_new w1 _
  generalize hw2 : w1.alloc (.cells #[.int .i64 0,.int .i64 0] 29) = w2 at *
  have s2 : w2.heap.size = w.heap.size + 2 := by rw [← hw2]; simp; omega
  have a3 := alloc_below w2 (.cells #[.string s,.int .i64 0,.int .i64 0,.int .i64 0] 122)
  have h3 : RAt (w2.alloc (.cells #[.string s,.int .i64 0,.int .i64 0,.int .i64 0] 122)) (w.heap.size + 2) s st0 := by rw [← s2]; exact heap_alloc_new w2 _
  exact ⟨(h1.keep a2 (by omega)).keep a3 (by omega),h2.keep a3 (by omega),h3,a1.trans ((a2.mono (by omega)).trans (a3.mono (by omega)))⟩
theorem may_ps {w wx : World} {s : ByteArray} {st : St} (h : PSY w wx s st) (c : Int) (hk : st.1 ≤ (bs s).length) (hs : s.size ≤ 4096) : Calls Tryz.prog 95 #[.pointer (some ⟨w.heap.size + 2,0,none⟩),.int .u8 c] wx fun e w' => e = .returned (.bool (isR (bs s) st c)) ∧ PSY w w' s (mayR (bs s) st c) := by
  obtain ⟨k,y,f⟩ := st
  have hl := bs_len s
  have hk' : k ≤ (bs s).length := hk
  refine (ymay_any (w.heap.size + 2) s k y f c wx h.2.2.1 (by omega)).mono ?_
  rintro e w' ⟨h1,h2,h3⟩
  exact ⟨h1,h.on h2 h3⟩
theorem dig_ps {w wx : World} {s : ByteArray} {st : St} (h : PSY w wx s st) (hk : st.1 ≤ (bs s).length) (hs : s.size ≤ 4096) : Calls Tryz.prog 96 #[.pointer (some ⟨w.heap.size + 2,0,none⟩)] wx fun e w' => e = .returned (.string (strOfNums (digRY (bs s) st).1)) ∧ PSY w w' s (digRY (bs s) st).2 := by
  obtain ⟨k,y,f⟩ := st
  have hl := bs_len s
  have hk' : k ≤ (bs s).length := hk
  refine (ydig_any (w.heap.size + 2) s k y f wx h.2.2.1 (by omega) hs).mono ?_
  rintro e w' ⟨h1,h2,h3⟩
  exact ⟨h1,h.on h2 h3⟩
theorem is_ps {w wx : World} {s : ByteArray} {st : St} (h : PSY w wx s st) (c : Int) : Calls Tryz.prog 97 #[.pointer (some ⟨w.heap.size + 2,0,none⟩),.int .u8 c] wx fun e w' => e = .returned (.bool (isR (bs s) st c)) ∧ PSY w w' s st := by
  obtain ⟨k,y,f⟩ := st
  refine (yis_any (w.heap.size + 2) s k y f c wx h.2.2.1).mono ?_
  rintro e w' ⟨h1,q,hw⟩
  rw [hw]
  exact ⟨h1,h.drawn q⟩
theorem wrong_ps {w wx : World} {s : ByteArray} {st : St} (h : PSY w wx s st) : Calls Tryz.prog 99 #[.pointer (some ⟨w.heap.size + 2,0,none⟩)] wx fun e w' => (∃ u,e = .returned u) ∧ PSY w w' s (wrongR (bs s) st) := by
  obtain ⟨k,y,f⟩ := st
  refine (ywrong_any (w.heap.size + 2) s k y f wx h.2.2.1).mono ?_
  rintro e w' ⟨h1,h2,h3⟩
  exact ⟨h1,h.on h2 h3⟩
theorem ok_ps {w wx : World} {s : ByteArray} {st : St} (h : PSY w wx s st) : Calls Tryz.prog 100 #[.pointer (some ⟨w.heap.size + 2,0,none⟩)] wx fun e w' => e = .returned (.bool (st.2.1 == 0)) ∧ w' = wx := yok_any _ s st wx h.2.2.1
end Go.Proofs.YtmlacmoembjeoaaGreatDoor
namespace Go.Proofs.YtmlacmoembjeoaaGreatDoor
open Go.RowKit
set_option linter.unusedVariables false

theorem or_cases {a b c : Bool} (h : (a || b) = c) : (a = true → c = true) ∧ (a = false → b = c) := by cases a <;> cases b <;> cases c <;> simp_all
theorem whole_yes {l : List Int} {st : St} (h : isR l st 48 = true) : wholeR l st = ([48],mayR l st 48) := by
  unfold wholeR mayR
  rw [if_pos h,if_pos h]
theorem whole_no {l : List Int} {st : St} (h : isR l st 48 = false) : wholeR l st = digRY l st ∧ mayR l st 48 = st := by
  unfold wholeR mayR
  rw [if_neg (by rw [h]; simp),if_neg (by rw [h]; simp)]
  exact ⟨rfl,rfl⟩
theorem part_yes {l : List Int} {st : St} (h : isR l st 46 = true) : partR l st = digRY l (mayR l st 46) := by
  unfold partR mayR
  rw [if_pos h,if_pos h]
theorem part_no {l : List Int} {st : St} (h : isR l st 46 = false) : partR l st = ([],st) ∧ mayR l st 46 = st := by
  unfold partR mayR
  rw [if_neg (by rw [h]; simp),if_neg (by rw [h]; simp)]
  exact ⟨rfl,rfl⟩
theorem exp_no {l : List Int} {st : St} (h : (isR l st 101 || isR l st 69) = false) : expR l st = (0,st) := by
  unfold expR
  rw [if_neg (by rw [← Bool.or_eq_true,h]; simp)]
theorem exp_yes {l : List Int} {st : St} (h : (isR l st 101 || isR l st 69) = true) : expR l st = ((if isR l (onR st) 45 = true then -((powY (digRY l (signR l (onR st))).1 : Nat) : Int) else ((powY (digRY l (signR l (onR st))).1 : Nat) : Int)),(digRY l (signR l (onR st))).2) := by
  unfold expR
  rw [if_pos (by rw [← Bool.or_eq_true]; exact h)]
set_option maxRecDepth 100000 in
set_option maxHeartbeats 4000000 in
theorem yparse_any (s : ByteArray) (w : World) : Calls Tryz.prog 78 #[.string s] w fun e w' => e = .returned (.tuple #[.agg #[.bool (parseA s).1.1,.string (parseA s).1.2.1,.int .i64 (parseA s).1.2.2],.agg #[.int .i64 (parseA s).2.1,.int .i64 (parseA s).2.2]]) ∧ Below w.heap.size w w' := by
  by_cases hbig : 4096 < s.size
  · have hR : parseA s = (noN,11,0) := by unfold parseA; rw [if_pos hbig]
    rw [hR]
    have d1 : decide (4096 < ((s.size : Nat) : Int)) = true := by simp; omega
    clear hR hbig
    unfold noN noS
    go_enter Tryz.func78,Tryz.ntmps78
    go_wp2
    refine bodyPost_ret (v := .tuple #[.agg #[.bool false,.string ⟨#[]⟩,.int .i64 0],.agg #[.int .i64 11,.int .i64 0]]) (by simp [results,Tryz.results78,go_sem]) rfl ⟨rfl,?_⟩
    exact ((Below.refl _ _).alloc (Nat.le_refl _) _).alloc (by simp) _
  have hs : s.size ≤ 4096 := by omega
  have hlen := bs_len s
  have d1 : decide (4096 < ((s.size : Nat) : Int)) = false := by simp; omega
  have hR : parseA s = readR (bs s) := by unfold parseA; rw [if_neg hbig,read_same (by omega),bs_len]
  rw [hR]
  unfold readR
  clear hR hbig
  have hp0 : Hid (PSY w (((w.alloc (.cells #[.bool false,.string ⟨#[]⟩,.int .i64 0] 84)).alloc (.cells #[.int .i64 0,.int .i64 0] 29)).alloc (.cells #[.string s,.int .i64 0,.int .i64 0,.int .i64 0] 122)) s st0) := ps0 w s
  have q0 : st0.1 ≤ (bs s).length := Nat.zero_le _
  have q1 := may_le (l := bs s) (c := 45) q0
  have q1m := may_le (l := bs s) (c := 48) q1
  have q2 := whole_le q1
  have q2m := may_le (l := bs s) (c := 46) q2.1
  have q3 := part_le q2.1
  have q4 := exp_le q3.1
  have k1 : Hid (∀ wx,PSY w wx s st0 → Calls Tryz.prog 95 #[.pointer (some ⟨w.heap.size + 2,0,none⟩),.int .u8 45] wx fun e w' => e = .returned (.bool (isR (bs s) st0 45)) ∧ PSY w w' s (mayR (bs s) st0 45)) := fun wx h => may_ps h 45 q0 hs
  generalize isR (bs s) st0 45 = N0 at *
  generalize mayR (bs s) st0 45 = s1 at *
  have k2 : Hid (∀ wx,PSY w wx s s1 → Calls Tryz.prog 95 #[.pointer (some ⟨w.heap.size + 2,0,none⟩),.int .u8 48] wx fun e w' => e = .returned (.bool (isR (bs s) s1 48)) ∧ PSY w w' s (mayR (bs s) s1 48)) := fun wx h => may_ps h 48 q1 hs
  have k3 : Hid (∀ wx,PSY w wx s s1 → Calls Tryz.prog 96 #[.pointer (some ⟨w.heap.size + 2,0,none⟩)] wx fun e w' => e = .returned (.string (strOfNums (digRY (bs s) s1).1)) ∧ PSY w w' s (digRY (bs s) s1).2) := fun wx h => dig_ps h q1 hs
  have w1y : Hid (isR (bs s) s1 48 = true → wholeR (bs s) s1 = ([48],mayR (bs s) s1 48)) := whole_yes
  have w1n : Hid (isR (bs s) s1 48 = false → wholeR (bs s) s1 = digRY (bs s) s1 ∧ mayR (bs s) s1 48 = s1) := whole_no
  generalize wholeR (bs s) s1 = WW at *
  generalize isR (bs s) s1 48 = B48 at *
  generalize mayR (bs s) s1 48 = s1m at *
  generalize digRY (bs s) s1 = DW at *
  obtain ⟨W,s2⟩ := WW
  dsimp only at *
  have k4 : Hid (∀ wx,PSY w wx s s2 → Calls Tryz.prog 95 #[.pointer (some ⟨w.heap.size + 2,0,none⟩),.int .u8 46] wx fun e w' => e = .returned (.bool (isR (bs s) s2 46)) ∧ PSY w w' s (mayR (bs s) s2 46)) := fun wx h => may_ps h 46 q2.1 hs
  have k5 : Hid (∀ wx,PSY w wx s (mayR (bs s) s2 46) → Calls Tryz.prog 96 #[.pointer (some ⟨w.heap.size + 2,0,none⟩)] wx fun e w' => e = .returned (.string (strOfNums (digRY (bs s) (mayR (bs s) s2 46)).1)) ∧ PSY w w' s (digRY (bs s) (mayR (bs s) s2 46)).2) := fun wx h => dig_ps h q2m hs
  have w2y : Hid (isR (bs s) s2 46 = true → partR (bs s) s2 = digRY (bs s) (mayR (bs s) s2 46)) := part_yes
  have w2n : Hid (isR (bs s) s2 46 = false → partR (bs s) s2 = ([],s2) ∧ mayR (bs s) s2 46 = s2) := part_no
  generalize partR (bs s) s2 = PP at *
  generalize isR (bs s) s2 46 = B46 at *
  generalize digRY (bs s) (mayR (bs s) s2 46) = DP at *
  generalize mayR (bs s) s2 46 = s2m at *
  obtain ⟨Pt,s3⟩ := PP
  dsimp only at *
  have k6 : Hid (∀ wx,PSY w wx s s3 → Calls Tryz.prog 97 #[.pointer (some ⟨w.heap.size + 2,0,none⟩),.int .u8 101] wx fun e w' => e = .returned (.bool (isR (bs s) s3 101)) ∧ PSY w w' s s3) := fun wx h => is_ps h 101
  have k7 : Hid (∀ wx,PSY w wx s s3 → Calls Tryz.prog 97 #[.pointer (some ⟨w.heap.size + 2,0,none⟩),.int .u8 69] wx fun e w' => e = .returned (.bool (isR (bs s) s3 69)) ∧ PSY w w' s s3) := fun wx h => is_ps h 69
  have w3n : Hid ((isR (bs s) s3 101 || isR (bs s) s3 69) = false → expR (bs s) s3 = (0,s3)) := exp_no
  have w3y : Hid ((isR (bs s) s3 101 || isR (bs s) s3 69) = true → expR (bs s) s3 = ((if isR (bs s) (onR s3) 45 = true then -((powY (digRY (bs s) (signR (bs s) (onR s3))).1 : Nat) : Int) else ((powY (digRY (bs s) (signR (bs s) (onR s3))).1 : Nat) : Int)),(digRY (bs s) (signR (bs s) (onR s3))).2)) := exp_yes
  have hon : Hid ((isR (bs s) s3 101 || isR (bs s) s3 69) = true → (onR s3).1 ≤ (bs s).length) := fun h => by
    rcases Bool.or_eq_true _ _ ▸ h with h1 | h1
    · exact on_le h1
    · exact on_le h1
  have k8 : Hid (∀ wx,PSY w wx s (onR s3) → Calls Tryz.prog 97 #[.pointer (some ⟨w.heap.size + 2,0,none⟩),.int .u8 45] wx fun e w' => e = .returned (.bool (isR (bs s) (onR s3) 45)) ∧ PSY w w' s (onR s3)) := fun wx h => is_ps h 45
  have k9 : Hid (∀ wx,PSY w wx s (onR s3) → Calls Tryz.prog 97 #[.pointer (some ⟨w.heap.size + 2,0,none⟩),.int .u8 43] wx fun e w' => e = .returned (.bool (isR (bs s) (onR s3) 43)) ∧ PSY w w' s (onR s3)) := fun wx h => is_ps h 43
  obtain ⟨k3',y3,f3⟩ := s3
  obtain ⟨bE,hbE⟩ : ∃ b,(isR (bs s) (k3',y3,f3) 101 || isR (bs s) (k3',y3,f3) 69) = b := ⟨_,rfl⟩
  rw [hbE] at w3n w3y hon
  have hor : Hid ((isR (bs s) (k3',y3,f3) 101 = true → bE = true) ∧ (isR (bs s) (k3',y3,f3) 101 = false → isR (bs s) (k3',y3,f3) 69 = bE)) := or_cases hbE
  clear hbE
  generalize isR (bs s) (k3',y3,f3) 101 = B101 at *
  generalize isR (bs s) (k3',y3,f3) 69 = B69 at *
  have hdg : Hid (∀ st : St,st.1 ≤ (bs s).length → ∀ wx,PSY w wx s st → Calls Tryz.prog 96 #[.pointer (some ⟨w.heap.size + 2,0,none⟩)] wx fun e w' => e = .returned (.string (strOfNums (digRY (bs s) st).1)) ∧ PSY w w' s (digRY (bs s) st).2) := fun st h wx hp => dig_ps hp h hs
  have hex : Hid (∀ st : St,st.1 ≤ (bs s).length → ∀ wx,Calls Tryz.prog 98 #[.string (strOfNums (digRY (bs s) st).1)] wx fun e w' => e = .returned (.int .i64 ((powY (digRY (bs s) st).1 : Nat) : Int)) ∧ w' = wx) := fun st h wx => by
    have h1 := dig_digs (bs s) st
    have h2 := (dig_leY h).2
    have h3 := yexp_any (strOfNums (digRY (bs s) st).1) wx (by rw [bs_str (digs_bytes h1)]; exact h1) (by rw [strOfNums_size]; omega)
    rw [bs_str (digs_bytes h1)] at h3
    exact h3
  have hsg : Hid (isR (bs s) (onR (k3',y3,f3)) 45 = true → signR (bs s) (onR (k3',y3,f3)) = onR (onR (k3',y3,f3))) := fun h => by unfold signR; rw [if_pos (.inl h)]
  have hsg2 : Hid (isR (bs s) (onR (k3',y3,f3)) 43 = true → signR (bs s) (onR (k3',y3,f3)) = onR (onR (k3',y3,f3))) := fun h => by unfold signR; rw [if_pos (.inr h)]
  have hsg3 : Hid (isR (bs s) (onR (k3',y3,f3)) 45 = false → isR (bs s) (onR (k3',y3,f3)) 43 = false → signR (bs s) (onR (k3',y3,f3)) = onR (k3',y3,f3)) := fun h h1 => by unfold signR; rw [if_neg (by rw [h,h1]; simp)]
  have hsl : Hid ((onR (k3',y3,f3)).1 ≤ (bs s).length → (signR (bs s) (onR (k3',y3,f3))).1 ≤ (bs s).length) := fun h => sign_leY h
  generalize expR (bs s) (k3',y3,f3) = EE at *
  obtain ⟨E,s4⟩ := EE
  dsimp only at *
  have hq2 : Hid (W.length ≤ (bs s).length ∧ Digs W) := q2.2
  have hq3 : Hid (Pt.length ≤ (bs s).length ∧ Digs Pt) := q3.2
  have hq4 : Hid (s4.1 ≤ (bs s).length ∧ -1000000 ≤ E ∧ E ≤ 1000000) := q4
  have hk3 : k3' ≤ 4096 := by have := q3.1; omega
  have hlen' : Hid ((bs s).length = s.size) := hlen
  have hs' : Hid (s.size ≤ 4096) := hs
  have hsw : Hid (s.size ≤ 4096) := hs
  clear q0 q1 q1m q2 q2m q3 q4 hlen hs
  obtain ⟨SW,hSW⟩ : ∃ x,strOfNums W = x := ⟨_,rfl⟩
  obtain ⟨SP,hSP⟩ : ∃ x,strOfNums Pt = x := ⟨_,rfl⟩
  have hSW' : Hid (strOfNums W = SW) := hSW
  have hSP' : Hid (strOfNums Pt = SP) := hSP
  clear hSW hSP
  obtain ⟨FR,hFR⟩ : ∃ x,finR N0 W Pt E (lastR (bs s) s4) = x := ⟨_,rfl⟩
  rw [hFR]
  have hFR' : Hid (finR N0 W Pt E (lastR (bs s) s4) = FR) := hFR
  clear hFR
  go_enter Tryz.func78,Tryz.ntmps78
  go_wp2_with fail
  refine (k1.out _ hp0.out).mono ?_
  rintro e w1 ⟨rfl,p1⟩
  go_wp2_with fail
  refine (k2.out _ p1).mono ?_
  rintro e w2 ⟨rfl,p2⟩
  have p2' : Hid (PSY w w2 s s1m) := p2
  clear p1 p2 k1 k2 hp0
  go_upto_if 20 with fail
  go_cut [6] (fun v wx => v = .string SW ∧ Hid (PSY w wx s s2))
  case first =>
    cases B48 with
    | true =>
      have h1 := w1y.out rfl
      have h2 : W = [48] ∧ s2 = s1m := by injection h1 with a b; exact ⟨a,b⟩
      have h3 : SW = ⟨#[48]⟩ := by rw [← hSW'.out,h2.1]; rfl
      have h4 : Hid (PSY w w2 s s2) := by rw [h2.2]; exact p2'
      subst h3
      clear h1 h2
      go_wp2_with fail
      go_meet
      exact ⟨rfl,h4⟩
    | false =>
      have h1 := w1n.out rfl
      have h2 : PSY w w2 s s1 := by rw [← h1.2]; exact p2'.out
      have k3'' := k3.out _ h2
      rw [← h1.1] at k3''
      dsimp only at k3''
      rw [hSW'.out] at k3''
      clear h1 h2 k3
      go_wp2_with fail
      refine k3''.mono ?_
      rintro e w3 ⟨rfl,p3⟩
      have p3' : Hid (PSY w w3 s s2) := p3
      clear p3
      go_wp2_with fail
      go_meet
      exact ⟨rfl,p3'⟩
  case rest =>
  obtain ⟨rfl,p3⟩ := hcut
  clear p2' w1y w1n k3
  go_wp2_with fail
  refine (k4.out _ p3.out).mono ?_
  rintro e w4 ⟨rfl,p4⟩
  have p4' : Hid (PSY w w4 s s2m) := p4
  clear p4 p3 k4
  go_upto_if 22 with fail
  go_cut [7] (fun v wx => v = .string SP ∧ Hid (PSY w wx s (k3',y3,f3)))
  case first =>
    cases B46 with
    | true =>
      have h1 := w2y.out rfl
      have k5' := k5.out _ p4'.out
      rw [← h1] at k5'
      dsimp only at k5'
      rw [hSP'.out] at k5'
      clear h1
      go_wp2_with fail
      refine k5'.mono ?_
      rintro e w5 ⟨rfl,p5⟩
      have p5' : Hid (PSY w w5 s (k3',y3,f3)) := p5
      clear p5
      go_wp2_with fail
      go_meet
      exact ⟨rfl,p5'⟩
    | false =>
      have h1 := w2n.out rfl
      have h2 : Pt = [] ∧ (k3',y3,f3) = s2 := by obtain ⟨a,-⟩ := h1; injection a with a b; exact ⟨a,b⟩
      have h3 : SP = ⟨#[]⟩ := by rw [← hSP'.out,h2.1]; rfl
      have h4 : Hid (PSY w w4 s (k3',y3,f3)) := by rw [h2.2,← h1.2]; exact p4'
      subst h3
      clear h1 h2
      go_wp2_with fail
      go_meet
      exact ⟨rfl,h4⟩
  case rest =>
  obtain ⟨rfl,p5⟩ := hcut
  clear p4' w2y w2n k5
  go_upto_region 13 with fail
  go_cut [27] (fun v wx => v = .bool bE ∧ Hid (PSY w wx s (k3',y3,f3)))
  case first =>
    have k6' := k6.out _ p5.out
    clear k6
    cases B101 with
    | true =>
      have h1 := hor.out.1 rfl
      subst h1
      go_wp2_with fail
      refine k6'.mono ?_
      rintro e w6 ⟨rfl,p6⟩
      have p6' : Hid (PSY w w6 s (k3',y3,f3)) := p6
      clear p6
      go_wp2_with fail
      go_meet
      exact ⟨rfl,p6'⟩
    | false =>
      have h1 := hor.out.2 rfl
      subst h1
      go_wp2_with fail
      refine k6'.mono ?_
      rintro e w6 ⟨rfl,p6⟩
      have k7' := k7.out _ p6
      clear p6 k7 k6'
      go_wp2_with fail
      refine k7'.mono ?_
      rintro e w7 ⟨rfl,p7⟩
      have p7' : Hid (PSY w w7 s (k3',y3,f3)) := p7
      clear p7
      go_wp2_with fail
      go_meet
      exact ⟨rfl,p7'⟩
  case rest =>
  obtain ⟨rfl,p6⟩ := hcut
  clear p5 k6 k7 hor
  go_upto_if 27 with fail
  go_cut [8] (fun v wx => v = .int .i64 E ∧ Hid (PSY w wx s s4))
  case first =>
    cases bE with
    | false =>
      have h1 := w3n.out rfl
      have h2 : E = 0 ∧ s4 = (k3',y3,f3) := by injection h1 with a b; exact ⟨a,b⟩
      have h4 : Hid (PSY w wc s s4) := by rw [h2.2]; exact p6
      have h5 : Hid (E = 0) := h2.1
      clear h1 h2
      go_wp2_with fail
      go_meet
      exact ⟨by rw [h5.out],h4⟩
    | true =>
      have h1 := w3y.out rfl
      have hon' := hon.out rfl
      have hsl' := hsl.out hon'
      obtain ⟨h1a,h1b⟩ : E = (if isR (bs s) (onR (k3',y3,f3)) 45 = true then -((powY (digRY (bs s) (signR (bs s) (onR (k3',y3,f3)))).1 : Nat) : Int) else ((powY (digRY (bs s) (signR (bs s) (onR (k3',y3,f3)))).1 : Nat) : Int)) ∧ s4 = (digRY (bs s) (signR (bs s) (onR (k3',y3,f3)))).2 := by injection h1 with a b; exact ⟨a,b⟩
      have hE : Hid (E = (if isR (bs s) (onR (k3',y3,f3)) 45 = true then -((powY (digRY (bs s) (signR (bs s) (onR (k3',y3,f3)))).1 : Nat) : Int) else ((powY (digRY (bs s) (signR (bs s) (onR (k3',y3,f3)))).1 : Nat) : Int))) := h1a
      have hpl := powY_le (digRY (bs s) (signR (bs s) (onR (k3',y3,f3)))).1
      have kdg := hdg.out _ hsl'
      have kex := hex.out _ hsl'
      rw [← h1b] at kdg
      have c1 := p6.out.2.2.1.c1
      have z1 := p6.out.2.2.1.fz 1
      dsimp only at c1
      obtain ⟨K1,hK1⟩ : ∃ K,k3' + 1 = K := ⟨_,rfl⟩
      obtain ⟨K2,hK2⟩ : ∃ K,K1 + 1 = K := ⟨_,rfl⟩
      have wk : IntKind.i64.wrap (((k3' : Nat) : Int) + 1) = ((K1 : Nat) : Int) := by rw [IntKind.wrap_i64] <;> omega
      have wk2 : IntKind.i64.wrap (((K1 : Nat) : Int) + 1) = ((K2 : Nat) : Int) := by rw [IntKind.wrap_i64] <;> omega
      have on1 : onR (k3',y3,f3) = (K1,y3,f3) := by rw [← hK1]; rfl
      have on2 : onR (K1,y3,f3) = (K2,y3,f3) := by rw [← hK2]; rfl
      clear hK1 hK2
      rw [on1] at hE kdg kex k8 k9 hsg hsg2 hsg3 hpl
      rw [on2] at hsg hsg2
      have pg : Hid (PSY w (wc.setCell ⟨w.heap.size + 2,1,none⟩ (.int .i64 ((K1 : Nat) : Int))) s (K1,y3,f3)) := p6.out.goes K1
      clear on2
      have k8' := k8.out _ pg.out
      have k9' : Hid _ := k9.out
      generalize signR (bs s) (K1,y3,f3) = sg at *
      generalize powY (digRY (bs s) sg).1 = pw at *
      generalize strOfNums (digRY (bs s) sg).1 = ds at *
      clear h1 h1a h1b hon hsl hon' hsl' hdg hex w3y w3n k8 k9 hk3 on1
      have wn : IntKind.i64.wrap (-((pw : Nat) : Int)) = -((pw : Nat) : Int) := by rw [IntKind.wrap_i64] <;> omega
      clear hpl
      have hkdg : Hid (∀ (wx : World),PSY w wx s sg → Calls Tryz.prog 96 #[.pointer (some ⟨w.heap.size + 2,0,none⟩)] wx fun e w' => e = .returned (.string ds) ∧ PSY w w' s s4) := kdg
      clear kdg
      cases h45 : isR (bs s) (K1,y3,f3) 45 with
      | true =>
        rw [h45] at k8' hE
        have hsgv : (K2,y3,f3) = sg := (hsg.out h45).symm
        have hE' : Hid (E = -((pw : Nat) : Int)) := by have := hE.out; rwa [if_pos rfl] at this
        clear hE hsg hsg2 hsg3 k9' h45
        go_wp2_with fail
        refine k8'.mono ?_
        rintro e w6 ⟨rfl,q6⟩
        have q6' : PSY w w6 s (K1,y3,f3) := q6
        have cc1 := q6'.2.2.1.c1
        have zz1 := q6'.2.2.1.fz 1
        dsimp only at cc1
        have q7 : PSY w (w6.setCell ⟨w.heap.size + 2,1,none⟩ (.int .i64 ((K2 : Nat) : Int))) s sg := by rw [← hsgv]; exact q6'.goes K2
        have kd := hkdg.out _ q7
        clear q7 q6 hsgv hkdg
        go_wp2_with fail
        refine kd.mono ?_
        rintro e w8 ⟨rfl,p8⟩
        have p8' : Hid (PSY w w8 s s4) := p8
        clear p8
        go_wp2_with fail
        refine (kex _).mono ?_
        rintro e w9 ⟨rfl,hw9⟩
        obtain rfl : w8 = w9 := hw9.symm
        go_wp2_with fail
        go_meet
        exact ⟨by rw [hE'.out],p8'⟩
      | false =>
        rw [h45] at k8' hE
        have hE' : Hid (E = ((pw : Nat) : Int)) := by have := hE.out; rwa [if_neg (by simp)] at this
        cases h43 : isR (bs s) (K1,y3,f3) 43 with
        | true =>
          have hsgv : (K2,y3,f3) = sg := (hsg2.out h43).symm
          rw [h43] at k9'
          clear hE hsg hsg2 hsg3 h45 h43
          go_wp2_with fail
          refine k8'.mono ?_
          rintro e w6 ⟨rfl,q6⟩
          have k9a := k9'.out _ q6
          clear q6
          go_wp2_with fail
          refine k9a.mono ?_
          rintro e w7 ⟨rfl,q7⟩
          have q7' : PSY w w7 s (K1,y3,f3) := q7
          have cc1 := q7'.2.2.1.c1
          have zz1 := q7'.2.2.1.fz 1
          dsimp only at cc1
          have q8 : PSY w (w7.setCell ⟨w.heap.size + 2,1,none⟩ (.int .i64 ((K2 : Nat) : Int))) s sg := by rw [← hsgv]; exact q7'.goes K2
          have kd := hkdg.out _ q8
          clear q8 q7 hsgv hkdg k9a k9'
          go_wp2_with fail
          refine kd.mono ?_
          rintro e w8 ⟨rfl,p8⟩
          have p8' : Hid (PSY w w8 s s4) := p8
          clear p8
          go_wp2_with fail
          refine (kex _).mono ?_
          rintro e w9 ⟨rfl,hw9⟩
          obtain rfl : w8 = w9 := hw9.symm
          go_wp2_with fail
          go_meet
          exact ⟨by rw [hE'.out],p8'⟩
        | false =>
          have hsgv : (K1,y3,f3) = sg := (hsg3.out h45 h43).symm
          rw [h43] at k9'
          clear hE hsg hsg2 hsg3 h45 h43
          go_wp2_with fail
          refine k8'.mono ?_
          rintro e w6 ⟨rfl,q6⟩
          have k9a := k9'.out _ q6
          clear q6
          go_wp2_with fail
          refine k9a.mono ?_
          rintro e w7 ⟨rfl,q7⟩
          have q8 : PSY w w7 s sg := by rw [← hsgv]; exact q7
          have kd := hkdg.out _ q8
          clear q8 q7 hsgv hkdg k9a k9'
          go_wp2_with fail
          refine kd.mono ?_
          rintro e w8 ⟨rfl,p8⟩
          have p8' : Hid (PSY w w8 s s4) := p8
          clear p8
          go_wp2_with fail
          refine (kex _).mono ?_
          rintro e w9 ⟨rfl,hw9⟩
          obtain rfl : w8 = w9 := hw9.symm
          go_wp2_with fail
          go_meet
          exact ⟨by rw [hE'.out],p8'⟩
  case rest =>
  obtain ⟨rfl,p7⟩ := hcut
  clear p6 w3y w3n hon k8 k9 hdg hex hsg hsg2 hsg3 hsl
  obtain ⟨s5,hs5⟩ : ∃ x,lastR (bs s) s4 = x := ⟨_,rfl⟩
  have hF5 : Hid (finR N0 W Pt E s5 = FR) := by rw [← hs5]; exact hFR'
  have hl5 : Hid ((s4.1 < (bs s).length → wrongR (bs s) s4 = s5) ∧ (¬ s4.1 < (bs s).length → s4 = s5)) := by
    unfold lastR at hs5
    refine ⟨fun h => ?_,fun h => ?_⟩
    · rwa [if_pos h] at hs5
    · rwa [if_neg h] at hs5
  clear hFR' hs5
  rw [hlen'.out] at hl5
  have hq4' : Hid (s4.1 ≤ s.size ∧ -1000000 ≤ E ∧ E ≤ 1000000) := by rw [← hlen'.out]; exact hq4
  have kw := wrong_ps p7.out
  obtain ⟨k4',y4,f4⟩ := s4
  dsimp only at hl5 hq4'
  have c4 := p7.out.2.2.1.c1
  dsimp only at c4
  go_upto_if 50 with fail
  go_cut [] (fun wx => Hid (PSY w wx s s5))
  case first =>
    by_cases hk : k4' < s.size
    · have h1 := hl5.out.1 hk
      rw [h1] at kw
      have hd : decide (((k4' : Nat) : Int) < ((s.size : Nat) : Int)) = true := by simp; omega
      go_wp2_with fail
      refine kw.mono ?_
      rintro e w8 ⟨⟨u,rfl⟩,p8⟩
      have p8' : Hid (PSY w w8 s s5) := p8
      clear p8
      go_wp2_with fail
      go_meet
      exact p8'
    · have h1 := hl5.out.2 hk
      have hd : decide (((k4' : Nat) : Int) < ((s.size : Nat) : Int)) = false := by simp; omega
      have p8' : Hid (PSY w wc s s5) := by rw [← h1]; exact p7
      clear h1
      go_wp2_with fail
      go_meet
      exact p8'
  case rest =>
  have p8 : Hid (PSY w wc s s5) := hcut
  clear hcut p7 kw hl5 c4
  obtain ⟨k5',y5,f5⟩ := s5
  have hN := p8.out.1
  have hF := p8.out.2.1
  have hRd := p8.out.2.2.1
  have hB := p8.out.2.2.2
  have kO := ok_ps p8.out
  dsimp only at kO
  by_cases hy : y5 = 0
  · have hy' : (y5 == 0) = true := by simpa using hy
    rw [hy'] at kO
    obtain ⟨x',hx'⟩ : ∃ x,E - ((Pt.length : Nat) : Int) = x := ⟨_,rfl⟩
    have hfin := hF5.out
    unfold finR at hfin
    rw [if_neg (by show ¬ y5 ≠ 0; simpa using hy),hx',str_cat,hSW'.out,hSP'.out] at hfin
    have hsz1 : SW.size ≤ 4096 := by have := hq2.out.1; rw [← hSW'.out,strOfNums_size]; have h1 := hlen'.out; have h2 := hs'.out; omega
    have hsz2 : SP.size = Pt.length := by rw [← hSP'.out,strOfNums_size]
    have hsz3 : Pt.length ≤ 4096 := by have := hq3.out.1; have h1 := hlen'.out; have h2 := hs'.out; omega
    have hqe := hq4'.out
    have hfit : ¬ 9223372036854775807 < SW.size + SP.size := by omega
    have wx' : IntKind.i64.wrap (E - ((SP.size : Nat) : Int)) = x' := by rw [IntKind.wrap_i64] <;> omega
    have kM := ymake_any N0 (SW ++ SP) x'
    clear hx' hy hsz1 hsz2 hsz3 hqe hq2 hq3 hq4 hq4' hSW' hSP' hs' hlen' hsw hF5 p8 hy'
    generalize makeA N0 (SW ++ SP) x' = M at *
    obtain ⟨⟨mb,ms,mx⟩,me⟩ := M
    dsimp only at kM hfin
    by_cases hm : me = 0
    · rw [if_neg (by simpa using hm)] at hfin
      subst hfin
      have hm' : (me != 0) = false := by simpa using hm
      clear hm
      go_wp2_with fail
      refine kO.mono ?_
      rintro e w9 ⟨rfl,hw9⟩
      obtain rfl : wc = w9 := hw9.symm
      go_wp2_with fail
      refine (kM _).mono ?_
      rintro e wm ⟨rfl,bm⟩
      have hN2 := hN.keep bm hN.lt
      have hF2 := hF.keep bm hF.lt
      have hB2 := hB.trans (bm.mono hB.size)
      have hN3 := hN2.keep (alloc_below wm (.cells #[.bool mb,.string ms,.int .i64 mx] 84)) hN2.lt
      have hF3 := hF2.keep (alloc_below wm (.cells #[.bool mb,.string ms,.int .i64 mx] 84)) hF2.lt
      have hB3 := hB2.alloc hB2.size (.cells #[.bool mb,.string ms,.int .i64 mx] 84)
      obtain ⟨n0,n1,n2⟩ := hN3.at
      have z0 := hN3.fz 0
      have z1 := hN3.fz 1
      have z2 := hN3.fz 2
      have g0 := hF3.c0
      have g1 := hF3.c1
      have y0 := hF3.fz 0
      have y1 := hF3.fz 1
      go_wp2
      refine bodyPost_ret (v := .tuple #[.agg #[.bool mb,.string ms,.int .i64 mx],.agg #[.int .i64 0,.int .i64 0]]) (by simp [results,Tryz.results78,go_sem, *]) rfl ⟨rfl,?_⟩
      exact ((((hB3.setCell (Nat.le_refl _) _).setCell (Nat.le_refl _) _).setCell (Nat.le_refl _) _).setCell (by simp) _).setCell (by simp) _
    · rw [if_pos (by simpa using hm)] at hfin
      subst hfin
      have hm' : (me != 0) = true := by simpa using hm
      clear hm
      go_wp2_with fail
      refine kO.mono ?_
      rintro e w9 ⟨rfl,hw9⟩
      obtain rfl : wc = w9 := hw9.symm
      go_wp2_with fail
      refine (kM _).mono ?_
      rintro e wm ⟨rfl,bm⟩
      have hN2 := hN.keep bm hN.lt
      have hF2 := hF.keep bm hF.lt
      have hB2 := hB.trans (bm.mono hB.size)
      have hN3 := hN2.keep (alloc_below wm (.cells #[.bool mb,.string ms,.int .i64 mx] 84)) hN2.lt
      have hF3 := hF2.keep (alloc_below wm (.cells #[.bool mb,.string ms,.int .i64 mx] 84)) hF2.lt
      have hB3 := hB2.alloc hB2.size (.cells #[.bool mb,.string ms,.int .i64 mx] 84)
      obtain ⟨n0,n1,n2⟩ := hN3.at
      have z0 := hN3.fz 0
      have z1 := hN3.fz 1
      have z2 := hN3.fz 2
      have g0 := hF3.c0
      have g1 := hF3.c1
      have y0 := hF3.fz 0
      have y1 := hF3.fz 1
      go_wp2
      refine bodyPost_ret (v := .tuple #[.agg #[.bool false,.string ⟨#[]⟩,.int .i64 0],.agg #[.int .i64 11,.int .i64 0]]) (by simp [results,Tryz.results78,go_sem, *]) rfl ⟨rfl,?_⟩
      exact ((((hB3.setCell (Nat.le_refl _) _).setCell (Nat.le_refl _) _).setCell (Nat.le_refl _) _).setCell (by simp) _).setCell (by simp) _
  · have hy' : (y5 == 0) = false := by simpa using hy
    rw [hy'] at kO
    have hfin : FR = (noN,y5,f5) := by
      rw [← hF5.out]
      unfold finR
      rw [if_pos (show y5 ≠ 0 from hy)]
    subst hfin
    obtain ⟨n0,n1,n2⟩ := hN.at
    have z0 := hN.fz 0
    have z1 := hN.fz 1
    have z2 := hN.fz 2
    have g0 := hF.c0
    have g1 := hF.c1
    have y0 := hF.fz 0
    have y1 := hF.fz 1
    have r2 := hRd.c2
    have r3 := hRd.c3
    dsimp only at r2 r3
    clear hy hF5 hq2 hq3 hq4 hq4' hSW' hSP' hs' hlen' hsw p8
    go_wp2_with fail
    refine kO.mono ?_
    rintro e w9 ⟨rfl,hw9⟩
    obtain rfl : wc = w9 := hw9.symm
    go_wp2_with fail
    go_region
    all_goals
      go_wp2
      refine bodyPost_ret (v := .tuple #[.agg #[.bool false,.string ⟨#[]⟩,.int .i64 0],.agg #[.int .i64 y5,.int .i64 f5]]) (by simp [results,Tryz.results78,go_sem, *]) rfl ⟨rfl,?_⟩
      exact (((((hB.setCell (Nat.le_refl _) _).setCell (Nat.le_refl _) _).setCell (Nat.le_refl _) _).setCell (by simp) _).setCell (by simp) _).drew
end Go.Proofs.YtmlacmoembjeoaaGreatDoor
namespace Go.Proofs.YtmlacmoembjeoaaGreatDoor
open Go.RowKit
set_option linter.unusedVariables false
def numT (n : Bool) (s : ByteArray) (x : Int) : Tr := if (wholeA n s x).2 = true then intT n (wholeA n s x).1 else decT n s x
theorem numA_ok {s : ByteArray} (h : (parseA s).2.1 = 0) : numA s = (numT (parseA s).1.1 (parseA s).1.2.1 (parseA s).1.2.2,0) := by
  unfold numA numT
  rw [if_neg (by simp [h])]
  split <;> rfl
set_option maxHeartbeats 2000000 in
set_option maxRecDepth 100000 in
theorem wnumber_any (n : Bool) (s : ByteArray) (x : Int) (w : World) : Calls Tryz.prog 79 #[.agg #[.bool n,.string s,.int .i64 x]] w fun e w' => e = .returned (.agg (leafN (numT n s x)).arr) ∧ Below w.heap.size w w' := by
  have A1 := alloc_below w (.cells #[.bool n,.string s,.int .i64 x] 84)
  have A2 := alloc_below (w.alloc (.cells #[.bool n,.string s,.int .i64 x] 84)) (.cells #[.int .i64 0,.int .u64 0,.bool false,.string ⟨#[]⟩,.int .i64 0,.string ⟨#[]⟩,.slice none 0 0,.slice none 0 0,.slice none 0 0] 26)
  have B2 : Hid (Below w.heap.size w ((w.alloc (.cells #[.bool n,.string s,.int .i64 x] 84)).alloc (.cells #[.int .i64 0,.int .u64 0,.bool false,.string ⟨#[]⟩,.int .i64 0,.string ⟨#[]⟩,.slice none 0 0,.slice none 0 0,.slice none 0 0] 26))) := A1.trans (A2.mono A1.size)
  have K1 : Hid (Blk ((w.alloc (.cells #[.bool n,.string s,.int .i64 x] 84)).alloc (.cells #[.int .i64 0,.int .u64 0,.bool false,.string ⟨#[]⟩,.int .i64 0,.string ⟨#[]⟩,.slice none 0 0,.slice none 0 0,.slice none 0 0] 26)) w.heap.size #[.bool n,.string s,.int .i64 x] 84) := (blk_new w _ _).kept A2 (alloc_lt _ _)
  have N2 : Hid (NBox ((w.alloc (.cells #[.bool n,.string s,.int .i64 x] 84)).alloc (.cells #[.int .i64 0,.int .u64 0,.bool false,.string ⟨#[]⟩,.int .i64 0,.string ⟨#[]⟩,.slice none 0 0,.slice none 0 0,.slice none 0 0] 26)) (w.heap.size + 1) zN) := two_box w _ zN
  have kW := ywhole_any n s x ((w.alloc (.cells #[.bool n,.string s,.int .i64 x] 84)).alloc (.cells #[.int .i64 0,.int .u64 0,.bool false,.string ⟨#[]⟩,.int .i64 0,.string ⟨#[]⟩,.slice none 0 0,.slice none 0 0,.slice none 0 0] 26))
  have c0 : ((w.alloc (.cells #[.bool n,.string s,.int .i64 x] 84)).alloc (.cells #[.int .i64 0,.int .u64 0,.bool false,.string ⟨#[]⟩,.int .i64 0,.string ⟨#[]⟩,.slice none 0 0,.slice none 0 0,.slice none 0 0] 26)).cell? ⟨w.heap.size,0,none⟩ = some (.bool n) := K1.out.cell 0
  have c1 : ((w.alloc (.cells #[.bool n,.string s,.int .i64 x] 84)).alloc (.cells #[.int .i64 0,.int .u64 0,.bool false,.string ⟨#[]⟩,.int .i64 0,.string ⟨#[]⟩,.slice none 0 0,.slice none 0 0,.slice none 0 0] 26)).cell? ⟨w.heap.size,1,none⟩ = some (.string s) := K1.out.cell 1
  have c2 : ((w.alloc (.cells #[.bool n,.string s,.int .i64 x] 84)).alloc (.cells #[.int .i64 0,.int .u64 0,.bool false,.string ⟨#[]⟩,.int .i64 0,.string ⟨#[]⟩,.slice none 0 0,.slice none 0 0,.slice none 0 0] 26)).cell? ⟨w.heap.size,2,none⟩ = some (.int .i64 x) := K1.out.cell 2
  unfold numT
  generalize wholeA n s x = V at *
  obtain ⟨S,b⟩ := V
  clear A1 A2
  dsimp only at kW ⊢
  cases b with
  | true =>
    rw [if_pos rfl]
    go_enter Tryz.func79,Tryz.ntmps79
    go_wp2_with fail
    refine kW.mono ?_
    rintro e w2 ⟨rfl,hb2⟩
    have K2 := K1.out.kept hb2 K1.out.lt
    have e0 : w2.cell? ⟨w.heap.size,0,none⟩ = some (.bool n) := K2.cell 0
    have N4 : Hid (NBox w2 (w.heap.size + 1) zN) := N2.out.kept hb2 N2.out.lt
    have B4 : Hid (Below w.heap.size w w2) := B2.out.trans (hb2.mono B2.out.size)
    obtain ⟨t0,t1,t2,t3,t4,t5,t6,t7,t8⟩ := N4.out.fields
    have qf := N4.out.fz
    clear kW hb2 K2 K1 N2 B2 c0 c1 c2
    go_wp2_with fail
    have x9 := nbox_put N4.out (leafN (intT n S))
    obtain ⟨u0,u1,u2,u3,u4,u5,u6,u7,u8⟩ := x9.1.fields
    refine bodyPost_ret (v := .agg (leafN (intT n S)).arr) (by simp [results,Tryz.results79,go_sem,leafN,intT,Nb.arr] at *; simp [go_sem,u0,u1,u2,u3,u4,u5,u6,u7,u8]) rfl ⟨rfl,?_⟩
    exact B4.out.trans (x9.2.below B4.out.size fun k hk => by omega)
  | false =>
    rw [if_neg (by simp)]
    go_enter Tryz.func79,Tryz.ntmps79
    go_wp2_with fail
    refine kW.mono ?_
    rintro e w2 ⟨rfl,hb2⟩
    have K2 := K1.out.kept hb2 K1.out.lt
    have e0 : w2.cell? ⟨w.heap.size,0,none⟩ = some (.bool n) := K2.cell 0
    have e1 : w2.cell? ⟨w.heap.size,1,none⟩ = some (.string s) := K2.cell 1
    have e2 : w2.cell? ⟨w.heap.size,2,none⟩ = some (.int .i64 x) := K2.cell 2
    have N4 : Hid (NBox w2 (w.heap.size + 1) zN) := N2.out.kept hb2 N2.out.lt
    have B4 : Hid (Below w.heap.size w w2) := B2.out.trans (hb2.mono B2.out.size)
    obtain ⟨t0,t1,t2,t3,t4,t5,t6,t7,t8⟩ := N4.out.fields
    have qf := N4.out.fz
    clear kW hb2 K2 K1 N2 B2 c0 c1 c2
    go_wp2_with fail
    have x9 := nbox_put N4.out (leafN (decT n s x))
    obtain ⟨u0,u1,u2,u3,u4,u5,u6,u7,u8⟩ := x9.1.fields
    refine bodyPost_ret (v := .agg (leafN (decT n s x)).arr) (by simp [results,Tryz.results79,go_sem,leafN,decT,Nb.arr] at *; simp [go_sem,u0,u1,u2,u3,u4,u5,u6,u7,u8]) rfl ⟨rfl,?_⟩
    exact B4.out.trans (x9.2.below B4.out.size fun k hk => by omega)
end Go.Proofs.YtmlacmoembjeoaaGreatDoor
namespace Go.Proofs.YtmlacmoembjeoaaGreatDoor
open Go.RowKit
set_option linter.unusedVariables false
def Nf (W : World) (pn : Bool) (ps : ByteArray) (px fy fa : Int) (wx : World) (g3 g4 : Nat) : Prop := Blk wx g3 #[.bool pn,.string ps,.int .i64 px] 84 ∧ Blk wx g4 #[.int .i64 fy,.int .i64 fa] 29 ∧ Below W.heap.size W wx
theorem nf1 {W w2 : World} (pn : Bool) (ps : ByteArray) (px fy fa : Int) (h : Below W.heap.size W w2) : Nf W pn ps px fy fa ((w2.alloc (.cells #[.bool pn,.string ps,.int .i64 px] 84)).alloc (.cells #[.int .i64 fy,.int .i64 fa] 29)) w2.heap.size (w2.heap.size + 1) := by
  have A := alloc_below w2 (.cells #[.bool pn,.string ps,.int .i64 px] 84)
  have A' := alloc_below (w2.alloc (.cells #[.bool pn,.string ps,.int .i64 px] 84)) (.cells #[.int .i64 fy,.int .i64 fa] 29)
  have k := blk_new (w2.alloc (.cells #[.bool pn,.string ps,.int .i64 px] 84)) #[.int .i64 fy,.int .i64 fa] 29
  rw [show (w2.alloc (.cells #[.bool pn,.string ps,.int .i64 px] 84)).heap.size = w2.heap.size + 1 by simp] at k
  exact ⟨(blk_new w2 _ _).kept A' (alloc_lt _ _),k,(h.trans (A.mono h.size)).trans (A'.mono (Nat.le_trans h.size A.size))⟩
theorem nf2 {W w2 : World} (pn : Bool) (ps : ByteArray) (px fy fa : Int) (h : Below W.heap.size W w2) : Nf W pn ps px fy fa ((w2.alloc (.cells #[.int .i64 fy,.int .i64 fa] 29)).alloc (.cells #[.bool pn,.string ps,.int .i64 px] 84)) (w2.heap.size + 1) w2.heap.size := by
  have A := alloc_below w2 (.cells #[.int .i64 fy,.int .i64 fa] 29)
  have A' := alloc_below (w2.alloc (.cells #[.int .i64 fy,.int .i64 fa] 29)) (.cells #[.bool pn,.string ps,.int .i64 px] 84)
  have k := blk_new (w2.alloc (.cells #[.int .i64 fy,.int .i64 fa] 29)) #[.bool pn,.string ps,.int .i64 px] 84
  rw [show (w2.alloc (.cells #[.int .i64 fy,.int .i64 fa] 29)).heap.size = w2.heap.size + 1 by simp] at k
  exact ⟨k,(blk_new w2 _ _).kept A' (alloc_lt _ _),(h.trans (A.mono h.size)).trans (A'.mono (Nat.le_trans h.size A.size))⟩
theorem set3 {W w : World} {g : Nat} {a b c : Value} {x y z : Value} {T : TypeId} (h : Blk w g #[a,b,c] T) (hB : Below W.heap.size W w) (hg : W.heap.size ≤ g) : Blk (((w.setCell ⟨g,0,none⟩ x).setCell ⟨g,1,none⟩ y).setCell ⟨g,2,none⟩ z) g #[x,y,z] T ∧ Below W.heap.size W (((w.setCell ⟨g,0,none⟩ x).setCell ⟨g,1,none⟩ y).setCell ⟨g,2,none⟩ z) :=
  ⟨Blk.set (Blk.set (Blk.set h 0 x) 1 y) 2 z,((hB.setCell (p := ⟨g,0,none⟩) hg x).setCell (p := ⟨g,1,none⟩) hg y).setCell (p := ⟨g,2,none⟩) hg z⟩
theorem set2 {W w : World} {g : Nat} {a b : Value} {x y : Value} {T : TypeId} (h : Blk w g #[a,b] T) (hB : Below W.heap.size W w) (hg : W.heap.size ≤ g) : Blk ((w.setCell ⟨g,0,none⟩ x).setCell ⟨g,1,none⟩ y) g #[x,y] T ∧ Below W.heap.size W ((w.setCell ⟨g,0,none⟩ x).setCell ⟨g,1,none⟩ y) :=
  ⟨Blk.set (Blk.set h 0 x) 1 y,(hB.setCell (p := ⟨g,0,none⟩) hg x).setCell (p := ⟨g,1,none⟩) hg y⟩
theorem blk_other {w : World} {g k : Nat} {cs : Array Value} {T : TypeId} (h : Blk w k cs T) (hne : k ≠ g) (j : Nat) (v : Value) : Blk (w.setCell ⟨g,j,none⟩ v) k cs T := h.kq (Kq.set g (k + 1) w j v) (Nat.lt_succ_self _) hne
theorem nf3 {W w2 : World} {g : Nat} {a b c : Value} (pn : Bool) (ps : ByteArray) (px fy fa : Int) (h : Below W.heap.size W w2) (k : Blk w2 g #[a,b,c] 84) (hg : W.heap.size ≤ g) : Nf W pn ps px fy fa ((((w2.setCell ⟨g,0,none⟩ (.bool pn)).setCell ⟨g,1,none⟩ (.string ps)).setCell ⟨g,2,none⟩ (.int .i64 px)).alloc (.cells #[.int .i64 fy,.int .i64 fa] 29)) g w2.heap.size := by
  obtain ⟨k1,k2⟩ := set3 (x := .bool pn) (y := .string ps) (z := .int .i64 px) k h hg
  have s : (((w2.setCell ⟨g,0,none⟩ (.bool pn)).setCell ⟨g,1,none⟩ (.string ps)).setCell ⟨g,2,none⟩ (.int .i64 px)).heap.size = w2.heap.size := by simp
  have A := alloc_below (((w2.setCell ⟨g,0,none⟩ (.bool pn)).setCell ⟨g,1,none⟩ (.string ps)).setCell ⟨g,2,none⟩ (.int .i64 px)) (.cells #[.int .i64 fy,.int .i64 fa] 29)
  have kk := blk_new (((w2.setCell ⟨g,0,none⟩ (.bool pn)).setCell ⟨g,1,none⟩ (.string ps)).setCell ⟨g,2,none⟩ (.int .i64 px)) #[.int .i64 fy,.int .i64 fa] 29
  rw [s] at kk
  exact ⟨k1.kept A k1.lt,kk,k2.trans (A.mono k2.size)⟩
theorem nf4 {W w2 : World} {g : Nat} {a b : Value} (pn : Bool) (ps : ByteArray) (px fy fa : Int) (h : Below W.heap.size W w2) (k : Blk w2 g #[a,b] 29) (hg : W.heap.size ≤ g) : Nf W pn ps px fy fa (((w2.setCell ⟨g,0,none⟩ (.int .i64 fy)).setCell ⟨g,1,none⟩ (.int .i64 fa)).alloc (.cells #[.bool pn,.string ps,.int .i64 px] 84)) w2.heap.size g := by
  obtain ⟨k1,k2⟩ := set2 (x := .int .i64 fy) (y := .int .i64 fa) k h hg
  have s : ((w2.setCell ⟨g,0,none⟩ (.int .i64 fy)).setCell ⟨g,1,none⟩ (.int .i64 fa)).heap.size = w2.heap.size := by simp
  have A := alloc_below ((w2.setCell ⟨g,0,none⟩ (.int .i64 fy)).setCell ⟨g,1,none⟩ (.int .i64 fa)) (.cells #[.bool pn,.string ps,.int .i64 px] 84)
  have kk := blk_new ((w2.setCell ⟨g,0,none⟩ (.int .i64 fy)).setCell ⟨g,1,none⟩ (.int .i64 fa)) #[.bool pn,.string ps,.int .i64 px] 84
  rw [s] at kk
  exact ⟨kk,k1.kept A k1.lt,k2.trans (A.mono k2.size)⟩
theorem nf5 {W w2 : World} {g k : Nat} {a b c d e : Value} (pn : Bool) (ps : ByteArray) (px fy fa : Int) (h : Below W.heap.size W w2) (k3 : Blk w2 g #[a,b,c] 84) (k4 : Blk w2 k #[d,e] 29) (hg : W.heap.size ≤ g) (hk : W.heap.size ≤ k) (hne : g ≠ k) : Nf W pn ps px fy fa (((((w2.setCell ⟨g,0,none⟩ (.bool pn)).setCell ⟨g,1,none⟩ (.string ps)).setCell ⟨g,2,none⟩ (.int .i64 px)).setCell ⟨k,0,none⟩ (.int .i64 fy)).setCell ⟨k,1,none⟩ (.int .i64 fa)) g k := by
  obtain ⟨k1,k2⟩ := set3 (x := .bool pn) (y := .string ps) (z := .int .i64 px) k3 h hg
  have k4' := blk_other (blk_other (blk_other k4 hne.symm 0 (.bool pn)) hne.symm 1 (.string ps)) hne.symm 2 (.int .i64 px)
  obtain ⟨m1,m2⟩ := set2 (x := .int .i64 fy) (y := .int .i64 fa) k4' k2 hk
  exact ⟨blk_other (blk_other k1 hne 0 _) hne 1 _,m1,m2⟩
set_option maxHeartbeats 4000000 in
set_option maxRecDepth 100000 in
theorem gnumber {C : RC} {w : World} {p n : Nat} (h : Sg C w p n 0) (hl : p < C.L.length) (hfo : (parseA (strOfNums C.L[p].txt)).2.1 = 0 ∨ C.free = true) : Calls Tryz.prog 50 #[.pointer (some ⟨C.g,0,none⟩)] w fun e w' => (∃ b : Nb,e = .returned (.agg b.arr) ∧ Hid ((parseA (strOfNums C.L[p].txt)).2.1 = 0 → b = leafN (numA (strOfNums C.L[p].txt)).1)) ∧ Below w.heap.size w w' := by
  have A1 := alloc_below w (.cells #[.int .i64 0,.int .u64 0,.bool false,.string ⟨#[]⟩,.int .i64 0,.string ⟨#[]⟩,.slice none 0 0,.slice none 0 0,.slice none 0 0] 26)
  have S1 := h.below A1
  have B1 : Hid (Below w.heap.size w (w.alloc (.cells #[.int .i64 0,.int .u64 0,.bool false,.string ⟨#[]⟩,.int .i64 0,.string ⟨#[]⟩,.slice none 0 0,.slice none 0 0,.slice none 0 0] 26))) := A1
  have N1 : Hid (NBox (w.alloc (.cells #[.int .i64 0,.int .u64 0,.bool false,.string ⟨#[]⟩,.int .i64 0,.string ⟨#[]⟩,.slice none 0 0,.slice none 0 0,.slice none 0 0] 26)) w.heap.size zN) := nbox_new w zN
  have S1' : Hid (Sg C (w.alloc (.cells #[.int .i64 0,.int .u64 0,.bool false,.string ⟨#[]⟩,.int .i64 0,.string ⟨#[]⟩,.slice none 0 0,.slice none 0 0,.slice none 0 0] 26)) p n 0) := S1
  have LG : Hid (C.g < w.heap.size) := h.lt
  obtain ⟨⟨z,hr⟩,hT⟩ := S1
  obtain ⟨gl,cv,hlv,hc,hcm,t0,t1,t3⟩ := hT.at hl
  have c1 := hr.c1
  have c2 := hr.c2
  rw [hlv] at c1
  have LGL : Hid (gl < (w.alloc (.cells #[.int .i64 0,.int .u64 0,.bool false,.string ⟨#[]⟩,.int .i64 0,.string ⟨#[]⟩,.slice none 0 0,.slice none 0 0,.slice none 0 0] 26)).heap.size) := by
    show _ < _
    rcases Nat.lt_or_ge gl (w.alloc (.cells #[.int .i64 0,.int .u64 0,.bool false,.string ⟨#[]⟩,.int .i64 0,.string ⟨#[]⟩,.slice none 0 0,.slice none 0 0,.slice none 0 0] 26)).heap.size with q | q
    · exact q
    · simp [World.cell?,Array.getElem?_eq_none q] at t3
  have hz : (p : Int) < (C.L.length : Int) := by omega
  have hz0 : (0 : Int) ≤ (p : Int) := by omega
  have hq : Hid ((parseA (strOfNums C.L[p].txt)).2.1 = 0 → leafN (numA (strOfNums C.L[p].txt)).1 = leafN (numT (parseA (strOfNums C.L[p].txt)).1.1 (parseA (strOfNums C.L[p].txt)).1.2.1 (parseA (strOfNums C.L[p].txt)).1.2.2)) := fun e => by rw [numA_ok e]
  generalize strOfNums C.L[p].txt = tx at *
  have kP : Hid (∀ wx,Calls Tryz.prog 78 #[.string tx] wx _) := fun wx => yparse_any tx wx
  generalize numA tx = NA at *
  generalize parseA tx = R at *
  obtain ⟨⟨pn,ps,px⟩,fy,fa⟩ := R
  dsimp only at kP hq hfo ⊢
  clear h hr hT hlv
  generalize C.L[p].kind = kd at *
  generalize C.L[p].frm = fr at *
  clear hl
  generalize C.L.length = N at *
  go_enter Tryz.func50,Tryz.ntmps50
  go_upto_region 1 with fail
  generalize w.alloc (.cells #[.int .i64 0,.int .u64 0,.bool false,.string ⟨#[]⟩,.int .i64 0,.string ⟨#[]⟩,.slice none 0 0,.slice none 0 0,.slice none 0 0] 26) = W at *
  go_cut [3,4] (fun s3 s4 wx => ∃ g3 g4,s3 = .pointer (some ⟨g3,0,none⟩) ∧ s4 = .pointer (some ⟨g4,0,none⟩) ∧ Hid (Nf W pn ps px fy fa wx g3 g4))
  case first =>
    have T0 : Hid (W.cell? ⟨C.g,1,none⟩ = some (.slice (some ⟨gl,0,none⟩) N cv) ∧ W.cell? ⟨C.g,2,none⟩ = some (.int .i64 p) ∧ W.cell? ⟨gl,p * 4 + 3,none⟩ = some (.string tx)) := ⟨c1,c2,t3⟩
    have SK : Hid (∀ wx,Below W.heap.size W wx → wx.cell? ⟨C.g,1,none⟩ = some (.slice (some ⟨gl,0,none⟩) N cv) ∧ wx.cell? ⟨C.g,2,none⟩ = some (.int .i64 p) ∧ wx.cell? ⟨gl,p * 4 + 3,none⟩ = some (.string tx)) := fun wx hb => ⟨(hb.cell (p := ⟨C.g,1,none⟩) (Nat.lt_of_lt_of_le LG.out B1.out.size)).trans c1,(hb.cell (p := ⟨C.g,2,none⟩) (Nat.lt_of_lt_of_le LG.out B1.out.size)).trans c2,(hb.cell (p := ⟨gl,p * 4 + 3,none⟩) LGL.out).trans t3⟩
    have a3 : Hid (Below W.heap.size W (W.alloc (.cells #[.bool false,.string ⟨#[]⟩,.int .i64 0] 84))) := alloc_below W _
    have a4 : Hid (Below W.heap.size W (W.alloc (.cells #[.int .i64 0,.int .i64 0] 29))) := alloc_below W _
    have a34 : Hid (Below W.heap.size W ((W.alloc (.cells #[.bool false,.string ⟨#[]⟩,.int .i64 0] 84)).alloc (.cells #[.int .i64 0,.int .i64 0] 29))) := a3.out.trans ((alloc_below _ _).mono a3.out.size)
    have a43 : Hid (Below W.heap.size W ((W.alloc (.cells #[.int .i64 0,.int .i64 0] 29)).alloc (.cells #[.bool false,.string ⟨#[]⟩,.int .i64 0] 84))) := a4.out.trans ((alloc_below _ _).mono a4.out.size)
    have l3 : Hid (Blk (W.alloc (.cells #[.bool false,.string ⟨#[]⟩,.int .i64 0] 84)) W.heap.size #[.bool false,.string ⟨#[]⟩,.int .i64 0] 84) := blk_new W _ _
    have l4 : Hid (Blk (W.alloc (.cells #[.int .i64 0,.int .i64 0] 29)) W.heap.size #[.int .i64 0,.int .i64 0] 29) := blk_new W _ _
    have l34 : Hid (Blk ((W.alloc (.cells #[.bool false,.string ⟨#[]⟩,.int .i64 0] 84)).alloc (.cells #[.int .i64 0,.int .i64 0] 29)) W.heap.size #[.bool false,.string ⟨#[]⟩,.int .i64 0] 84 ∧ Blk ((W.alloc (.cells #[.bool false,.string ⟨#[]⟩,.int .i64 0] 84)).alloc (.cells #[.int .i64 0,.int .i64 0] 29)) (W.heap.size + 1) #[.int .i64 0,.int .i64 0] 29) := ⟨l3.out.kept (alloc_below _ _) l3.out.lt,by have := blk_new (W.alloc (.cells #[.bool false,.string ⟨#[]⟩,.int .i64 0] 84)) #[.int .i64 0,.int .i64 0] 29; simp at this; exact this⟩
    have l43 : Hid (Blk ((W.alloc (.cells #[.int .i64 0,.int .i64 0] 29)).alloc (.cells #[.bool false,.string ⟨#[]⟩,.int .i64 0] 84)) W.heap.size #[.int .i64 0,.int .i64 0] 29 ∧ Blk ((W.alloc (.cells #[.int .i64 0,.int .i64 0] 29)).alloc (.cells #[.bool false,.string ⟨#[]⟩,.int .i64 0] 84)) (W.heap.size + 1) #[.bool false,.string ⟨#[]⟩,.int .i64 0] 84) := ⟨l4.out.kept (alloc_below _ _) l4.out.lt,by have := blk_new (W.alloc (.cells #[.int .i64 0,.int .i64 0] 29)) #[.bool false,.string ⟨#[]⟩,.int .i64 0] 84; simp at this; exact this⟩
    clear c1 c2 t0 t1 t3 S1' N1 hq hfo
    go_region_held3 (fun wx => wx.cell? ⟨C.g,1,none⟩ = some (.slice (some ⟨gl,0,none⟩) N cv) ∧ wx.cell? ⟨C.g,2,none⟩ = some (.int .i64 p) ∧ wx.cell? ⟨gl,p * 4 + 3,none⟩ = some (.string tx)) (((with_reducible refine SK.out _ ?_); (repeat' with_reducible first | exact Below.refl _ _ | exact a3.out | exact a4.out | exact a34.out | exact a43.out | exact b2.out | refine Below.drew ?_ | refine Below.setCell ?_ ?_ _ | refine Below.alloc ?_ ?_ _); (all_goals first | exact Nat.le_refl _ | exact Nat.le_succ _ | exact b2.out.size | exact Nat.le_trans b2.out.size (by simp)))) (first
      | (go_at_call 78; refine (kP.out _).mono ?_; rintro e w2 ⟨rfl,hb2⟩; first
        | (have hX : Below (W.drew).heap.size (W.drew) w2 := (by with_reducible exact hb2); have b2 : Hid (Below W.heap.size W w2) := ⟨hb2.os,hb2.tape,hb2.output,hb2.size,hb2.block⟩; have d3 : Hid (Below W.heap.size W (w2.alloc (.cells #[.bool false,.string ⟨#[]⟩,.int .i64 0] 84))) := b2.out.trans ((alloc_below _ _).mono b2.out.size); have d4 : Hid (Below W.heap.size W (w2.alloc (.cells #[.int .i64 0,.int .i64 0] 29))) := b2.out.trans ((alloc_below _ _).mono b2.out.size); have d34 : Hid (Below W.heap.size W ((w2.alloc (.cells #[.bool false,.string ⟨#[]⟩,.int .i64 0] 84)).alloc (.cells #[.int .i64 0,.int .i64 0] 29))) := d3.out.trans ((alloc_below _ _).mono d3.out.size); have d43 : Hid (Below W.heap.size W ((w2.alloc (.cells #[.int .i64 0,.int .i64 0] 29)).alloc (.cells #[.bool false,.string ⟨#[]⟩,.int .i64 0] 84))) := d4.out.trans ((alloc_below _ _).mono d4.out.size); clear hb2 hX)
        | (have hX : Below ((W.alloc (.cells #[.bool false,.string ⟨#[]⟩,.int .i64 0] 84)).drew).heap.size ((W.alloc (.cells #[.bool false,.string ⟨#[]⟩,.int .i64 0] 84)).drew) w2 := (by with_reducible exact hb2); have b2 : Hid (Below W.heap.size W w2) := a3.out.trans (Below.mono ⟨hb2.os,hb2.tape,hb2.output,hb2.size,hb2.block⟩ a3.out.size); have K3 : Hid (Blk w2 W.heap.size #[.bool false,.string ⟨#[]⟩,.int .i64 0] 84) := (hb2.block _ l3.out.lt).trans l3.out; have d4 : Hid (Below W.heap.size W (w2.alloc (.cells #[.int .i64 0,.int .i64 0] 29))) := b2.out.trans ((alloc_below _ _).mono b2.out.size); have k30 : w2.cell? ⟨W.heap.size,0,none⟩ = some (.bool false) := K3.out.cell 0; have k31 : w2.cell? ⟨W.heap.size,1,none⟩ = some (.string ⟨#[]⟩) := K3.out.cell 1; have k32 : w2.cell? ⟨W.heap.size,2,none⟩ = some (.int .i64 0) := K3.out.cell 2; have k3f0 := Blk.fz K3.out 0; have k3f1 := Blk.fz K3.out 1; have k3f2 := Blk.fz K3.out 2; have ne2 : W.heap.size ≠ w2.heap.size := Nat.ne_of_lt K3.out.lt; have ne3 : W.heap.size < w2.heap.size := K3.out.lt; have K3x : Blk (w2.alloc (.cells #[.int .i64 0,.int .i64 0] 29)) W.heap.size #[.bool false,.string ⟨#[]⟩,.int .i64 0] 84 := K3.out.kept (alloc_below _ _) K3.out.lt; have m30 : (w2.alloc (.cells #[.int .i64 0,.int .i64 0] 29)).cell? ⟨W.heap.size,0,none⟩ = some (.bool false) := K3x.cell 0; have m31 : (w2.alloc (.cells #[.int .i64 0,.int .i64 0] 29)).cell? ⟨W.heap.size,1,none⟩ = some (.string ⟨#[]⟩) := K3x.cell 1; have m32 : (w2.alloc (.cells #[.int .i64 0,.int .i64 0] 29)).cell? ⟨W.heap.size,2,none⟩ = some (.int .i64 0) := K3x.cell 2; have m3f0 := Blk.fz K3x 0; have m3f1 := Blk.fz K3x 1; have m3f2 := Blk.fz K3x 2; clear K3x; clear hb2 hX)
        | (have hX : Below ((W.alloc (.cells #[.int .i64 0,.int .i64 0] 29)).drew).heap.size ((W.alloc (.cells #[.int .i64 0,.int .i64 0] 29)).drew) w2 := (by with_reducible exact hb2); have b2 : Hid (Below W.heap.size W w2) := a4.out.trans (Below.mono ⟨hb2.os,hb2.tape,hb2.output,hb2.size,hb2.block⟩ a4.out.size); have K4 : Hid (Blk w2 W.heap.size #[.int .i64 0,.int .i64 0] 29) := (hb2.block _ l4.out.lt).trans l4.out; have d3 : Hid (Below W.heap.size W (w2.alloc (.cells #[.bool false,.string ⟨#[]⟩,.int .i64 0] 84))) := b2.out.trans ((alloc_below _ _).mono b2.out.size); have k40 : w2.cell? ⟨W.heap.size,0,none⟩ = some (.int .i64 0) := K4.out.cell 0; have k41 : w2.cell? ⟨W.heap.size,1,none⟩ = some (.int .i64 0) := K4.out.cell 1; have k4f0 := Blk.fz K4.out 0; have k4f1 := Blk.fz K4.out 1; have ne2 : W.heap.size ≠ w2.heap.size := Nat.ne_of_lt K4.out.lt; have ne3 : W.heap.size < w2.heap.size := K4.out.lt; have K4x : Blk (w2.alloc (.cells #[.bool pn,.string ps,.int .i64 px] 84)) W.heap.size #[.int .i64 0,.int .i64 0] 29 := K4.out.kept (alloc_below _ _) K4.out.lt; have m40 : (w2.alloc (.cells #[.bool pn,.string ps,.int .i64 px] 84)).cell? ⟨W.heap.size,0,none⟩ = some (.int .i64 0) := K4x.cell 0; have m41 : (w2.alloc (.cells #[.bool pn,.string ps,.int .i64 px] 84)).cell? ⟨W.heap.size,1,none⟩ = some (.int .i64 0) := K4x.cell 1; have m4f0 := Blk.fz K4x 0; have m4f1 := Blk.fz K4x 1; clear K4x; clear hb2 hX)
        | (have hX : Below (((W.alloc (.cells #[.bool false,.string ⟨#[]⟩,.int .i64 0] 84)).alloc (.cells #[.int .i64 0,.int .i64 0] 29)).drew).heap.size (((W.alloc (.cells #[.bool false,.string ⟨#[]⟩,.int .i64 0] 84)).alloc (.cells #[.int .i64 0,.int .i64 0] 29)).drew) w2 := (by with_reducible exact hb2); have b2 : Hid (Below W.heap.size W w2) := a34.out.trans (Below.mono ⟨hb2.os,hb2.tape,hb2.output,hb2.size,hb2.block⟩ a34.out.size); have K3 : Hid (Blk w2 W.heap.size #[.bool false,.string ⟨#[]⟩,.int .i64 0] 84) := (hb2.block _ l34.out.1.lt).trans l34.out.1; have K4 : Hid (Blk w2 (W.heap.size + 1) #[.int .i64 0,.int .i64 0] 29) := (hb2.block _ l34.out.2.lt).trans l34.out.2; have k30 : w2.cell? ⟨W.heap.size,0,none⟩ = some (.bool false) := K3.out.cell 0; have k31 : w2.cell? ⟨W.heap.size,1,none⟩ = some (.string ⟨#[]⟩) := K3.out.cell 1; have k32 : w2.cell? ⟨W.heap.size,2,none⟩ = some (.int .i64 0) := K3.out.cell 2; have k3f0 := Blk.fz K3.out 0; have k3f1 := Blk.fz K3.out 1; have k3f2 := Blk.fz K3.out 2; have k40 : w2.cell? ⟨W.heap.size + 1,0,none⟩ = some (.int .i64 0) := K4.out.cell 0; have k41 : w2.cell? ⟨W.heap.size + 1,1,none⟩ = some (.int .i64 0) := K4.out.cell 1; have k4f0 := Blk.fz K4.out 0; have k4f1 := Blk.fz K4.out 1; clear hb2 hX)
        | (have hX : Below (((W.alloc (.cells #[.int .i64 0,.int .i64 0] 29)).alloc (.cells #[.bool false,.string ⟨#[]⟩,.int .i64 0] 84)).drew).heap.size (((W.alloc (.cells #[.int .i64 0,.int .i64 0] 29)).alloc (.cells #[.bool false,.string ⟨#[]⟩,.int .i64 0] 84)).drew) w2 := (by with_reducible exact hb2); have b2 : Hid (Below W.heap.size W w2) := a43.out.trans (Below.mono ⟨hb2.os,hb2.tape,hb2.output,hb2.size,hb2.block⟩ a43.out.size); have K4 : Hid (Blk w2 W.heap.size #[.int .i64 0,.int .i64 0] 29) := (hb2.block _ l43.out.1.lt).trans l43.out.1; have K3 : Hid (Blk w2 (W.heap.size + 1) #[.bool false,.string ⟨#[]⟩,.int .i64 0] 84) := (hb2.block _ l43.out.2.lt).trans l43.out.2; have k30 : w2.cell? ⟨W.heap.size + 1,0,none⟩ = some (.bool false) := K3.out.cell 0; have k31 : w2.cell? ⟨W.heap.size + 1,1,none⟩ = some (.string ⟨#[]⟩) := K3.out.cell 1; have k32 : w2.cell? ⟨W.heap.size + 1,2,none⟩ = some (.int .i64 0) := K3.out.cell 2; have k3f0 := Blk.fz K3.out 0; have k3f1 := Blk.fz K3.out 1; have k3f2 := Blk.fz K3.out 2; have k40 : w2.cell? ⟨W.heap.size,0,none⟩ = some (.int .i64 0) := K4.out.cell 0; have k41 : w2.cell? ⟨W.heap.size,1,none⟩ = some (.int .i64 0) := K4.out.cell 1; have k4f0 := Blk.fz K4.out 0; have k4f1 := Blk.fz K4.out 1; clear hb2 hX)))
    all_goals
      go_wp2_with fail
      go_meet
      refine ⟨_,_,rfl,rfl,?_⟩
      first
        | (have F : Hid (Nf W pn ps px fy fa _ _ _) := nf1 pn ps px fy fa b2.out; with_reducible exact F)
        | (have F : Hid (Nf W pn ps px fy fa _ _ _) := nf2 pn ps px fy fa b2.out; with_reducible exact F)
        | (have F : Hid (Nf W pn ps px fy fa _ _ _) := nf3 pn ps px fy fa b2.out K3.out (Nat.le_refl _); with_reducible exact F)
        | (have F : Hid (Nf W pn ps px fy fa _ _ _) := nf4 pn ps px fy fa b2.out K4.out (Nat.le_refl _); with_reducible exact F)
        | (have F : Hid (Nf W pn ps px fy fa _ _ _) := nf5 pn ps px fy fa b2.out K3.out K4.out (Nat.le_refl _) (Nat.le_succ _) (Nat.ne_of_lt (Nat.lt_succ_self _)); with_reducible exact F)
        | (have F : Hid (Nf W pn ps px fy fa _ _ _) := nf5 pn ps px fy fa b2.out K3.out K4.out (Nat.le_succ _) (Nat.le_refl _) (Nat.ne_of_gt (Nat.lt_succ_self _)); with_reducible exact F)
  case rest =>
    obtain ⟨g3,g4,rfl,rfl,hN⟩ := hcut
    have S2 : Hid (Sg C wc p n 0) := S1'.out.below hN.out.2.2
    have N2 : Hid (NBox wc w.heap.size zN) := N1.out.kept hN.out.2.2 N1.out.lt
    have B2 : Hid (Below w.heap.size w wc) := B1.out.trans (hN.out.2.2.mono B1.out.size)
    have k0 : wc.cell? ⟨g3,0,none⟩ = some (.bool pn) := hN.out.1.cell 0
    have k1 : wc.cell? ⟨g3,1,none⟩ = some (.string ps) := hN.out.1.cell 1
    have k2 : wc.cell? ⟨g3,2,none⟩ = some (.int .i64 px) := hN.out.1.cell 2
    have k3 : wc.cell? ⟨g4,0,none⟩ = some (.int .i64 fy) := hN.out.2.1.cell 0
    obtain ⟨⟨z',hr'⟩,_⟩ := S2.out
    have c4 := hr'.c4
    clear hN c1 c2 t0 t1 t3 N1 S1' hr' kP B1 S2
    by_cases hy : fy = 0
    · subst hy
      have kN := wnumber_any pn ps px wc
      have hq0 : Hid (leafN NA.1 = leafN (numT pn ps px)) := hq.out rfl
      generalize numT pn ps px = tt at *
      clear hq hfo
      go_wp2_with fail
      refine kN.mono ?_
      rintro e w3 ⟨rfl,hb3⟩
      have N3 : Hid (NBox w3 w.heap.size zN) := N2.out.kept hb3 N2.out.lt
      have B3 : Hid (Below w.heap.size w w3) := B2.out.trans (hb3.mono B2.out.size)
      have qf := N3.out.fz
      obtain ⟨t0,t1,t2,t3,t4,t5,t6,t7,t8⟩ := N3.out.fields
      clear kN hb3 N2 B2 k0 k1 k2 k3 c4
      have x9 := nbox_put N3.out (leafN tt)
      have X9 : Hid (Below w.heap.size w _) := B3.out.trans (x9.2.below B3.out.size fun k hk => by omega)
      obtain ⟨u0,u1,u2,u3,u4,u5,u6,u7,u8⟩ := x9.1.fields
      simp only [leafN,Nb.arr] at *
      go_wp2_with fail
      refine bodyPost_ret (v := .agg (leafN tt).arr) (by simp [results,Tryz.results50,go_sem,leafN,Nb.arr] at *; simp [go_sem,u0,u1,u2,u3,u4,u5,u6,u7,u8]) rfl ⟨⟨leafN tt,rfl,(by first | exact hq0.out.symm | exact fun _ => hq0.out.symm)⟩,?_⟩
      exact X9.out
    · have hf : C.free = true := by rcases hfo with q | q; exact absurd q hy; exact q
      have hy0 : (fy != 0) = true := by simpa using hy
      have hy1 : Hid (fy ≠ 0) := hy
      rw [hf] at c4
      have qf := N2.out.fz
      obtain ⟨t0,t1,t2,t3,t4,t5,t6,t7,t8⟩ := N2.out.fields
      clear hq hfo hy hf
      go_wp2_with fail
      have x9 := nbox_put N2.out zN
      obtain ⟨u0,u1,u2,u3,u4,u5,u6,u7,u8⟩ := x9.1.fields
      refine bodyPost_ret (v := .agg zN.arr) (by simp [results,Tryz.results50,go_sem,zN,Nb.arr] at *; simp [go_sem,u0,u1,u2,u3,u4,u5,u6,u7,u8]) rfl ⟨⟨zN,rfl,fun e => absurd e hy1.out⟩,?_⟩
      exact B2.out.trans (x9.2.below B2.out.size fun k hk => by omega)
end Go.Proofs.YtmlacmoembjeoaaGreatDoor
