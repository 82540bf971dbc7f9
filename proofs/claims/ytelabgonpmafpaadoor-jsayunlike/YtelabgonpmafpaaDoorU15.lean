/-
  Trees that are not the same have unlike texts: the walk.
-/
import Derived.Test.YtelabgonpmafpaaDoorU13
import Derived.Test.YtelabgonpmafpaaDoorU12
import Derived.Test.YtelabgonpmafpaaDoorU14
import Derived.Deep.RegionHeld3
namespace Go.Proofs.YtelabgonpmafpaaDoor
open Go.RowKit
set_option linter.unusedVariables false
theorem str_injB {xs ys : List Int} (hx : ∀ c ∈ xs, 0 ≤ c ∧ c < 256) (hy : ∀ c ∈ ys, 0 ≤ c ∧ c < 256) : ((strOfNums xs).toList == (strOfNums ys).toList) = decide (xs = ys) := by
  rw [Bool.eq_iff_iff, beq_iff_eq, decide_eq_true_iff]
  refine ⟨fun h => ?_, fun h => by rw [h]⟩
  rw [ByteArray.toList_eq, ByteArray.toList_eq] at h
  have e : strOfNums xs = strOfNums ys := by
    have h2 := Array.ext' h
    cases h3 : strOfNums xs; cases h4 : strOfNums ys
    rw [h3, h4] at h2
    simpa using h2
  rw [← bs_str hx, ← bs_str hy, e]
set_option maxHeartbeats 400000 in
theorem sameS_any (a b : Option Addr) (na nb ca cb : Nat) (za zb : List Int) (w : World) (hl : za.length = na) (hm : zb.length = nb) (ha : Bytes w a za) (hb : Bytes w b zb) :
    Calls Tryd.prog 7 #[.slice a na ca, .slice b nb cb] w fun e w' => e = .returned (.bool (decide (za = zb))) ∧ Below w.heap.size w w' := by
  have k1 := conv_str ha na ca hl
  have k2 := conv_str hb nb cb hm
  have he : Hid _ := str_injB ha.1 hb.1
  go_enter Tryd.func7, Tryd.ntmps7
  go_wp2
  go_ret
  exact ⟨by rw [← he.out]; rfl, Below.refl _ _⟩
theorem nd_num : ∀ (D : Nat) {w : World} {b : Nb} {t : Tr}, Nd D w b t → t.All (fun u => 0 ≤ u.num) := by
  intro D
  induction D with
  | zero => intro w b t h; exact h.elim
  | succ D ih =>
    intro w b t h
    rw [Tr.all_eq]
    have row : ∀ {a : Option Addr} {n c : Nat} {l : List Tr}, RowN (Nd D w) w a n c l → ∀ k ∈ l, k.All (fun u => 0 ≤ u.num) := by
      intro a n c l hr k hk
      obtain ⟨i, hi, rfl⟩ := List.getElem_of_mem hk
      rcases hr.2.2 with h0 | ⟨_, _, _, hc⟩
      · subst h0; simp at hi
      · obtain ⟨nb, _, hn⟩ := hc i hi
        exact ih hn
    refine ⟨?_, row h.2.2.2.1, row h.2.2.2.2⟩
    have := h.2.1.2.1
    simp [Lit.wf] at this
    have e : IntKind.u64.min = 0 := by decide
    omega
/-- Two trees' texts are the same just if the trees are. -/
theorem tx_same {D : Nat} {t u : Tr} {s r : ByteArray} (ht : t.May (fun u => alF u = 0)) (hu : u.May (fun u => alF u = 0)) (nt : t.All (fun u => 0 ≤ u.num)) (nu : u.All (fun u => 0 ≤ u.num)) (hs : txT D t = some s) (hr : txT D u = some r) (ls : s.size ≤ 4096) (lr : r.size ≤ 4096) : bs s = bs r ↔ t = u := by
  constructor
  · intro h
    have e : s = r := by rw [← str_bs s, ← str_bs r, h]
    exact (tx_inj D t u s r [] [] ((Tr.all_and t).2 ⟨ht.2.2.1, nt⟩) ((Tr.all_and u).2 ⟨hu.2.2.1, nu⟩) (tx_short hs ls) (tx_short hr lr) (by rw [e]) (.inl rfl) (.inl rfl)).1
  · intro h
    subst h
    rw [hs] at hr
    cases hr
    rfl
set_option maxHeartbeats 4000000 in
set_option maxRecDepth 100000 in
theorem wunlike {D1 D2 : Nat} {t u : Tr} {b1 b2 : Nb} {w : World} (hN1 : Nd D1 w b1 t) (hN2 : Nd D2 w b2 u) (hT : Tab w.heap.size w) :
    Calls Tryd.prog 3 #[.agg b1.arr, .agg b2.arr] w fun e w' => e = .returned (.bool true) ∧ Below w.heap.size w w' := by
  have g1 := hN1.le (Nat.le_max_left D1 D2)
  have g2 := hN2.le (Nat.le_max_right D1 D2)
  have n1 : Hid (t.All (fun u => 0 ≤ u.num) ∧ u.All (fun u => 0 ≤ u.num)) := ⟨nd_num _ g1, nd_num _ g2⟩
  generalize max D1 D2 = D at *
  have A1 := alloc_below w (.cells b1.arr 26)
  have A2 := alloc_below (w.alloc (.cells b1.arr 26)) (.cells b2.arr 26)
  have B2 := A1.trans (A2.mono A1.size)
  have s1 : (w.alloc (.cells b1.arr 26)).heap.size = w.heap.size + 1 := by simp
  have X1 := (nbox_new w b1).kept A2 (by simp)
  have X2 := nbox_new (w.alloc (.cells b1.arr 26)) b2
  rw [s1] at X2
  have G1 : Hid (Nd D ((w.alloc (.cells b1.arr 26)).alloc (.cells b2.arr 26)) b1 t) := g1.kept B2
  have G2 : Hid (Nd D ((w.alloc (.cells b1.arr 26)).alloc (.cells b2.arr 26)) b2 u) := g2.kept B2
  have BW : Hid (Below w.heap.size w ((w.alloc (.cells b1.arr 26)).alloc (.cells b2.arr 26))) := B2
  have TW : Hid (Tab ((w.alloc (.cells b1.arr 26)).alloc (.cells b2.arr 26)).heap.size ((w.alloc (.cells b1.arr 26)).alloc (.cells b2.arr 26))) := (hT.on B2).up B2.size
  have Y1 : Hid (NBox ((w.alloc (.cells b1.arr 26)).alloc (.cells b2.arr 26)) w.heap.size b1) := X1
  have Y2 : Hid (NBox ((w.alloc (.cells b1.arr 26)).alloc (.cells b2.arr 26)) (w.heap.size + 1) b2) := X2
  obtain ⟨f0, f1, f2, f3, f4, f5, f6, f7, f8⟩ := X1.fields
  obtain ⟨h0, h1, h2, h3, h4, h5, h6, h7, h8⟩ := X2.fields
  clear A1 A2 s1 X1 X2 g1 g2 hN1 hN2 hT B2
  go_enter Tryd.func3, Tryd.ntmps3
  go_wp2_with fail
  generalize ((w.alloc (.cells b1.arr 26)).alloc (.cells b2.arr 26)) = W at *
  refine (print_any G1.out TW.out).mono ?_
  rintro e w2 ⟨⟨v, er, rfl, hr⟩, hb2⟩
  have b2' : Hid (Below W.heap.size W w2) := hb2
  have Z2 := Y2.out.kept hb2 Y2.out.lt
  obtain ⟨k0, k1, k2, k3, k4, k5, k6, k7, k8⟩ := Z2.fields
  clear f0 f1 f2 f3 f4 f5 f6 f7 f8 h0 h1 h2 h3 h4 h5 h6 h7 h8 Z2
  go_wp2_with fail
  refine (print_any (G2.out.kept hb2) ((TW.out.on hb2).up hb2.size)).mono ?_
  rintro e w3 ⟨⟨v2, er2, rfl, hr2⟩, hb3⟩
  have b3 : Hid (Below W.heap.size W w3) := hb2.trans (hb3.mono hb2.size)
  have kA : Hid (∀ w', Below W.heap.size W w' → Calls Tryd.prog 6 #[] w' fun e w'' => e = .returned (.bool true) ∧ Below w'.heap.size w' w'') := fun w' h => alive_any w' ((TW.out.on h).up h.size)
  have hb3' : Hid (Below w2.heap.size w2 w3) := hb3
  clear k0 k1 k2 k3 k4 k5 k6 k7 k8 hb2 hb3
  by_cases q1 : er = 0
  · by_cases q2 : er2 = 0
    · subst q1 q2
      obtain ⟨s, a, n, c, rfl, hM, hx, hs, hl, hc, hcm, hca, hby⟩ : ∃ s a n c, v = .slice a n c ∧ t.May (fun u => alF u = 0) ∧ txT D t = some s ∧ s.size ≤ 4096 ∧ (bs s).length = n ∧ n ≤ c ∧ c ≤ 9223372036854775807 ∧ (a = none → c = 0) ∧ Bytes w2 a (bs s) := by
        rcases hr.out with ⟨_, h, _⟩ | ⟨_, h⟩
        · exact absurd rfl h
        · exact h
      obtain ⟨s2, a2, n2, c2, rfl, hM2, hx2, hs2, hl2, hc2, hcm2, hca2, hby2⟩ : ∃ s a n c, v2 = .slice a n c ∧ u.May (fun u => alF u = 0) ∧ txT D u = some s ∧ s.size ≤ 4096 ∧ (bs s).length = n ∧ n ≤ c ∧ c ≤ 9223372036854775807 ∧ (a = none → c = 0) ∧ Bytes w3 a (bs s) := by
        rcases hr2.out with ⟨_, h, _⟩ | ⟨_, h⟩
        · exact absurd rfl h
        · exact h
      have hiff := tx_same hM hM2 n1.out.1 n1.out.2 hx hx2 hs hs2
      have kS0 : Hid (∀ wx, Bytes wx a (bs s) → Bytes wx a2 (bs s2) → Calls Tryd.prog 7 #[.slice a n c, .slice a2 n2 c2] wx fun e w' => e = .returned (.bool (decide (bs s = bs s2))) ∧ Below wx.heap.size wx w') := fun wx p1 p2 => sameS_any a a2 n n2 c c2 (bs s) (bs s2) wx hl hl2 p1 p2
      have kE0 : Hid (∀ wx, Below w3.heap.size w3 wx → Calls Tryd.prog 8 #[.agg #[.int .i64 b1.kind, .int .u64 b1.num, .bool b1.neg, .string b1.dig, .int .i64 b1.exp, .string b1.txt, .slice b1.ab b1.lb b1.cb, .slice b1.ak b1.lk b1.ck, .slice b1.ai b1.li b1.ci], .agg #[.int .i64 b2.kind, .int .u64 b2.num, .bool b2.neg, .string b2.dig, .int .i64 b2.exp, .string b2.txt, .slice b2.ab b2.lb b2.cb, .slice b2.ak b2.lk b2.ck, .slice b2.ai b2.li b2.ci]] wx fun e w' => e = .returned (.bool (decide (bs s = bs s2))) ∧ Below wx.heap.size wx w') := fun wx h => esame_any (((G1.out.kept b3.out).kept h)) (((G2.out.kept b3.out).kept h)) (by rw [decide_eq_true_iff, hiff]; exact ⟨fun e => ⟨hM.1, hM2.1, e⟩, fun e => e.2.2⟩)
      have P1 : Hid (Bytes w3 a (bs s) ∧ Bytes w3 a2 (bs s2)) := ⟨hby.kept hb3'.out, hby2⟩
      have Z1 := Y1.out.kept b3.out Y1.out.lt
      have Z2 := Y2.out.kept b3.out Y2.out.lt
      have L1 : Hid (w.heap.size < w3.heap.size ∧ w.heap.size + 1 < w3.heap.size) := ⟨Z1.lt, Z2.lt⟩
      generalize decide (bs s = bs s2) = V at *
      generalize bs s = zs at *
      generalize bs s2 = ys at *
      have S0 : Hid ((w3.cell? ⟨w.heap.size, 0, none⟩ = some (.int .i64 b1.kind) ∧ w3.cell? ⟨w.heap.size, 1, none⟩ = some (.int .u64 b1.num) ∧ w3.cell? ⟨w.heap.size, 2, none⟩ = some (.bool b1.neg) ∧ w3.cell? ⟨w.heap.size, 3, none⟩ = some (.string b1.dig) ∧ w3.cell? ⟨w.heap.size, 4, none⟩ = some (.int .i64 b1.exp) ∧ w3.cell? ⟨w.heap.size, 5, none⟩ = some (.string b1.txt) ∧ w3.cell? ⟨w.heap.size, 6, none⟩ = some (.slice b1.ab b1.lb b1.cb) ∧ w3.cell? ⟨w.heap.size, 7, none⟩ = some (.slice b1.ak b1.lk b1.ck) ∧ w3.cell? ⟨w.heap.size, 8, none⟩ = some (.slice b1.ai b1.li b1.ci)) ∧ (w3.cell? ⟨w.heap.size + 1, 0, none⟩ = some (.int .i64 b2.kind) ∧ w3.cell? ⟨w.heap.size + 1, 1, none⟩ = some (.int .u64 b2.num) ∧ w3.cell? ⟨w.heap.size + 1, 2, none⟩ = some (.bool b2.neg) ∧ w3.cell? ⟨w.heap.size + 1, 3, none⟩ = some (.string b2.dig) ∧ w3.cell? ⟨w.heap.size + 1, 4, none⟩ = some (.int .i64 b2.exp) ∧ w3.cell? ⟨w.heap.size + 1, 5, none⟩ = some (.string b2.txt) ∧ w3.cell? ⟨w.heap.size + 1, 6, none⟩ = some (.slice b2.ab b2.lb b2.cb) ∧ w3.cell? ⟨w.heap.size + 1, 7, none⟩ = some (.slice b2.ak b2.lk b2.ck) ∧ w3.cell? ⟨w.heap.size + 1, 8, none⟩ = some (.slice b2.ai b2.li b2.ci))) := ⟨Z1.fields, Z2.fields⟩
      have SK : Hid (∀ w', Below w3.heap.size w3 w' → (w'.cell? ⟨w.heap.size, 0, none⟩ = some (.int .i64 b1.kind) ∧ w'.cell? ⟨w.heap.size, 1, none⟩ = some (.int .u64 b1.num) ∧ w'.cell? ⟨w.heap.size, 2, none⟩ = some (.bool b1.neg) ∧ w'.cell? ⟨w.heap.size, 3, none⟩ = some (.string b1.dig) ∧ w'.cell? ⟨w.heap.size, 4, none⟩ = some (.int .i64 b1.exp) ∧ w'.cell? ⟨w.heap.size, 5, none⟩ = some (.string b1.txt) ∧ w'.cell? ⟨w.heap.size, 6, none⟩ = some (.slice b1.ab b1.lb b1.cb) ∧ w'.cell? ⟨w.heap.size, 7, none⟩ = some (.slice b1.ak b1.lk b1.ck) ∧ w'.cell? ⟨w.heap.size, 8, none⟩ = some (.slice b1.ai b1.li b1.ci)) ∧ (w'.cell? ⟨w.heap.size + 1, 0, none⟩ = some (.int .i64 b2.kind) ∧ w'.cell? ⟨w.heap.size + 1, 1, none⟩ = some (.int .u64 b2.num) ∧ w'.cell? ⟨w.heap.size + 1, 2, none⟩ = some (.bool b2.neg) ∧ w'.cell? ⟨w.heap.size + 1, 3, none⟩ = some (.string b2.dig) ∧ w'.cell? ⟨w.heap.size + 1, 4, none⟩ = some (.int .i64 b2.exp) ∧ w'.cell? ⟨w.heap.size + 1, 5, none⟩ = some (.string b2.txt) ∧ w'.cell? ⟨w.heap.size + 1, 6, none⟩ = some (.slice b2.ab b2.lb b2.cb) ∧ w'.cell? ⟨w.heap.size + 1, 7, none⟩ = some (.slice b2.ak b2.lk b2.ck) ∧ w'.cell? ⟨w.heap.size + 1, 8, none⟩ = some (.slice b2.ai b2.li b2.ci))) := fun w' h => ⟨(Z1.kept h Z1.lt).fields, (Z2.kept h Z2.lt).fields⟩
      clear hr hr2 hM hM2 hx hx2 hs hs2 hl hl2 hca hca2 hby hby2 hiff n1 Y1 Y2 Z1 Z2 hb3' b2' TW
      go_wp2_with fail
      go_region_held3 (fun wx => (wx.cell? ⟨w.heap.size, 0, none⟩ = some (.int .i64 b1.kind) ∧ wx.cell? ⟨w.heap.size, 1, none⟩ = some (.int .u64 b1.num) ∧ wx.cell? ⟨w.heap.size, 2, none⟩ = some (.bool b1.neg) ∧ wx.cell? ⟨w.heap.size, 3, none⟩ = some (.string b1.dig) ∧ wx.cell? ⟨w.heap.size, 4, none⟩ = some (.int .i64 b1.exp) ∧ wx.cell? ⟨w.heap.size, 5, none⟩ = some (.string b1.txt) ∧ wx.cell? ⟨w.heap.size, 6, none⟩ = some (.slice b1.ab b1.lb b1.cb) ∧ wx.cell? ⟨w.heap.size, 7, none⟩ = some (.slice b1.ak b1.lk b1.ck) ∧ wx.cell? ⟨w.heap.size, 8, none⟩ = some (.slice b1.ai b1.li b1.ci)) ∧ (wx.cell? ⟨w.heap.size + 1, 0, none⟩ = some (.int .i64 b2.kind) ∧ wx.cell? ⟨w.heap.size + 1, 1, none⟩ = some (.int .u64 b2.num) ∧ wx.cell? ⟨w.heap.size + 1, 2, none⟩ = some (.bool b2.neg) ∧ wx.cell? ⟨w.heap.size + 1, 3, none⟩ = some (.string b2.dig) ∧ wx.cell? ⟨w.heap.size + 1, 4, none⟩ = some (.int .i64 b2.exp) ∧ wx.cell? ⟨w.heap.size + 1, 5, none⟩ = some (.string b2.txt) ∧ wx.cell? ⟨w.heap.size + 1, 6, none⟩ = some (.slice b2.ab b2.lb b2.cb) ∧ wx.cell? ⟨w.heap.size + 1, 7, none⟩ = some (.slice b2.ak b2.lk b2.ck) ∧ wx.cell? ⟨w.heap.size + 1, 8, none⟩ = some (.slice b2.ai b2.li b2.ci))) (first | exact S0.out | exact SK.out _ b4.out | exact SK.out _ b5.out | exact SK.out _ b6.out) (first
        | (go_at_call 7; refine (kS0.out w3.drew P1.out.1 P1.out.2).mono ?_; rintro e w4 ⟨rfl, hb4⟩; have b4 : Hid (Below w3.heap.size w3 w4) := ⟨hb4.os, hb4.tape, hb4.output, hb4.size, hb4.block⟩; clear hb4 kS0)
        | (go_at_call 8; refine (kE0.out _ b4.out).mono ?_; rintro e w5 ⟨rfl, hb5⟩; have b5 : Hid (Below w3.heap.size w3 w5) := b4.out.trans (hb5.mono b4.out.size); clear hb5 kE0)
        | (go_at_call 6; refine (kA.out _ (b3.out.trans (b5.out.mono b3.out.size))).mono ?_; rintro e w6 ⟨rfl, hb6⟩; have b6 : Hid (Below w3.heap.size w3 w6) := b5.out.trans (hb6.mono b5.out.size); clear hb6))
      all_goals
        go_wp2_with fail
        go_ret
        exact ⟨by simp, BW.out.trans ((b3.out.trans (b6.out.mono b3.out.size)).mono BW.out.size)⟩
    · subst q1
      have x2 : (er2 != 0) = true := by simpa using q2
      have kA2 := kA.out w3 b3.out
      clear q2 hr hr2
      go_wp2_with (go_at_call 6; refine kA2.mono ?_; rintro e w4 ⟨rfl, hb4⟩)
      go_ret
      exact ⟨rfl, BW.out.trans ((b3.out.trans (hb4.mono b3.out.size)).mono BW.out.size)⟩
  · have x1 : (er != 0) = true := by simpa using q1
    have kA2 := kA.out w3 b3.out
    clear q1 hr hr2
    go_wp2_with (go_at_call 6; refine kA2.mono ?_; rintro e w4 ⟨rfl, hb4⟩)
    go_ret
    exact ⟨rfl, BW.out.trans ((b3.out.trans (hb4.mono b3.out.size)).mono BW.out.size)⟩
end Go.Proofs.YtelabgonpmafpaaDoor
