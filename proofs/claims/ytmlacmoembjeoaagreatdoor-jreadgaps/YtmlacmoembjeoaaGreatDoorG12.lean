/-
  The number that begins at a place: jlex.numberAt, the walk.
  The word that begins at a place: jlex.wordOf, jlex.wordAt.
  The token that begins at a place: jlex.tokenAt.
  A text's tokens: jlex.Lex.
-/
import Derived.Test.YtmlacmoembjeoaaGreatDoorG11
import Derived.Test.YtmlacmoembjeoaaGreatDoorG3
import Derived.Deep.DeepAppendWide
namespace Go.Proofs.YtmlacmoembjeoaaGreatDoor
open Go.RowKit
set_option linter.unusedVariables false

theorem tok_set {w w3 : World} {g : Nat} (h : TB w w3) (hg : w.heap.size + 1 < g) (u v : Value) : TB w ((w3.setCell ⟨g, 0, none⟩ u).setCell ⟨g, 1, none⟩ v) := by
  have k1 := Kq.set g g w3 0 u
  have k2 := Kq.set g g (w3.setCell ⟨g, 0, none⟩ u) 1 v
  have k := k1.trans k2
  exact ⟨h.tok.kq k (by omega) (by omega), h.flt.kq k (by omega) (by omega), h.bel.trans ((k.below (Nat.le_refl _)).mono (by omega))⟩
set_option maxHeartbeats 8000000 in
set_option maxRecDepth 100000 in
/-- jlex.numberAt. -/
theorem numat_any (s : ByteArray) (p : Nat) (w : World) (hp : p < s.size) (hs : s.size ≤ 4096) :
    Calls Tryz.prog 73 #[.string s, .int .i64 (p : Int)] w fun e w' => e = .returned (tokV (nuT ((bs s).drop p) p)) ∧ Below w.heap.size w w' := by
  have T0 : Hid (TB w ((w.alloc (.cells #[.int .i64 0, .int .i64 0, .int .i64 0, .string ⟨#[]⟩] 40)).alloc (.cells #[.int .i64 0, .int .i64 0] 29))) := tb_new w
  have kA := parse_any (s.extract p s.size) ((w.alloc (.cells #[.int .i64 0, .int .i64 0, .int .i64 0, .string ⟨#[]⟩] 40)).alloc (.cells #[.int .i64 0, .int .i64 0] 29))
  have hsz : (s.extract p s.size).size = s.size - p := ext_size (by omega)
  have hP := parse_of (s.extract p s.size) (by omega)
  rw [bs_from] at hP
  have hbl : ((bs s).drop p).length = s.size - p := by rw [List.length_drop, bs_len]
  have hnb := nu_bounds ((bs s).drop p) 0 0
  obtain ⟨k, hk⟩ : ∃ k, (nuF ((bs s).drop p) 0 0).1 = k := ⟨_, rfl⟩
  obtain ⟨q, hq⟩ : ∃ q, (nuF ((bs s).drop p) 0 0).2 = q := ⟨_, rfl⟩
  have hU : nuT ((bs s).drop p) p = if endS q = true then (⟨8, p, p + k, ((bs s).drop p).take k⟩, 0, 0) else if k = ((bs s).drop p).length then (z0, 3, p + ((bs s).drop p).length) else (z0, 5, p + k) := by unfold nuT; rw [hk, hq]
  rw [hU]
  rw [hk, hq, hbl] at hP
  rw [hk, hbl] at hnb
  obtain ⟨n1, hn1⟩ : ∃ n1, (parseA (s.extract p s.size)).1.1 = n1 := ⟨_, rfl⟩
  obtain ⟨d1, hd1⟩ : ∃ d1, (parseA (s.extract p s.size)).1.2.1 = d1 := ⟨_, rfl⟩
  obtain ⟨x1, hx1⟩ : ∃ x1, (parseA (s.extract p s.size)).1.2.2 = x1 := ⟨_, rfl⟩
  rw [hn1, hd1, hx1] at kA
  clear hU hn1 hd1 hx1
  have y0 : (0 : Int) ≤ (p : Int) := by omega
  have y1 : (p : Int) ≤ ((s.size : Nat) : Int) := by omega
  have e2 : bs (s.extract p (p + k)) = ((bs s).drop p).take k := by
    rw [bs_ext, List.drop_take]
    congr 1
    omega
  have etx : strOfNums (((bs s).drop p).take k) = s.extract p (p + k) := by rw [← e2, str_bs]
  have hV8 : tokV (⟨8, p, p + k, ((bs s).drop p).take k⟩, 0, 0) = .tuple #[.agg #[.int .i64 8, .int .i64 (p : Int), .int .i64 ((p + k : Nat) : Int), .string (s.extract p (p + k))], .agg #[.int .i64 0, .int .i64 0]] := by unfold tokV; rw [← etx]; rfl
  have hVf : ∀ y a : Nat, tokV (z0, y, a) = .tuple #[.agg #[.int .i64 0, .int .i64 0, .int .i64 0, .string ⟨#[]⟩], .agg #[.int .i64 (y : Int), .int .i64 (a : Int)]] := fun y a => rfl
  have hx2 : k ≤ s.size - p → (s.extract p (p + k)).size = k := fun h => by rw [← bs_len, e2, List.length_take, hbl]; omega
  by_cases hlt : k < s.size - p
  · have hY1 : (parseA (s.extract p s.size)).2.1 = 5 := by rw [hP.1 hlt]
    have hY2 : (parseA (s.extract p s.size)).2.2 = (k : Nat) := by rw [hP.1 hlt]
    rw [hY1, hY2] at kA
    have hx3 := hx2 (by omega)
    have hP2 := parse_of (s.extract p (p + k)) (by omega)
    rw [e2] at hP2
    have hnt := nu_take ((bs s).drop p) 0 0
    rw [hk, Nat.sub_zero] at hnt
    rw [hnt, hk, hq] at hP2
    have hl2 : (((bs s).drop p).take k).length = k := by rw [List.length_take, hbl]; omega
    rw [hl2, hx3] at hP2
    have hP3 := hP2.2 rfl
    have hkB := fun w' => parse_any (s.extract p (p + k)) w'
    obtain ⟨n2, hn2⟩ : ∃ n1, (parseA (s.extract p (p + k))).1.1 = n1 := ⟨_, rfl⟩
    obtain ⟨d2, hd2⟩ : ∃ d1, (parseA (s.extract p (p + k))).1.2.1 = d1 := ⟨_, rfl⟩
    obtain ⟨x2, hxx⟩ : ∃ x1, (parseA (s.extract p (p + k))).1.2.2 = x1 := ⟨_, rfl⟩
    rw [hn2, hd2, hxx] at hkB
    have W1 : IntKind.i64.wrap ((p : Int) + (k : Int)) = ((p + k : Nat) : Int) := by rw [IntKind.wrap_i64]; omega
    have y2 : (p : Int) ≤ ((p + k : Nat) : Int) := by omega
    have y3 : ((p + k : Nat) : Int) ≤ ((s.size : Nat) : Int) := by omega
    clear hn2 hd2 hxx hP hP2 hnt hl2 hY1 hY2
    by_cases he : endS q = true
    · obtain ⟨h5, h3⟩ := hP3.1 he
      rw [if_pos he, hV8]
      have kC := fun w' => clone_any (s.extract p (p + k)) w' (by omega)
      obtain ⟨Y, hY⟩ : ∃ Y, (parseA (s.extract p (p + k))).2.1 = Y := ⟨_, rfl⟩
      obtain ⟨Z, hZ⟩ : ∃ Z, (parseA (s.extract p (p + k))).2.2 = Z := ⟨_, rfl⟩
      rw [hY, hZ] at hkB
      rw [hY] at h5 h3
      have a3 : (Y == 3) = false := by simp [h3]
      clear hY hZ h5 h3 hP3 he hx2 hx3 e2 etx hbl hnb hsz hk hq hV8 hVf hlt
      generalize p + k = PK at *
      go_enter Tryz.func73, Tryz.ntmps73
      go_wp2_with (first
        | (go_at_call 84; refine kA.mono ?_; rintro e w1 ⟨rfl, hb1⟩; clear kA; have T1 : Hid (TB w w1) := T0.out.on hb1; have A1 := alloc_below w1 (.cells #[.bool n1, .string d1, .int .i64 x1] 84); have A2 := alloc_below (w1.alloc (.cells #[.bool n1, .string d1, .int .i64 x1] 84)) (.cells #[.int .i64 5, .int .i64 (k : Nat)] 29); have s1 : (w1.alloc (.cells #[.bool n1, .string d1, .int .i64 x1] 84)).heap.size = w1.heap.size + 1 := (by simp); have T2 : Hid (TB w ((w1.alloc (.cells #[.bool n1, .string d1, .int .i64 x1] 84)).alloc (.cells #[.int .i64 5, .int .i64 (k : Nat)] 29))) := T1.out.on (A1.trans (A2.mono (by omega))); have K2 : Hid (Blk ((w1.alloc (.cells #[.bool n1, .string d1, .int .i64 x1] 84)).alloc (.cells #[.int .i64 5, .int .i64 (k : Nat)] 29)) (w1.heap.size + 1) #[.int .i64 5, .int .i64 (k : Nat)] 29) := (by (rw [← s1]; exact blk_new _ _ _)); clear s1 A1 A2)
        | (go_at_call 84; refine (hkB _).mono ?_; rintro e w3 ⟨rfl, hb3⟩; clear hkB; have T3 : Hid (TB w w3) := T2.out.on hb3; have K3 := K2.out.kept hb3 K2.out.lt; have g0 : w3.cell? ⟨w1.heap.size + 1, 0, none⟩ = some (.int .i64 5) := K3.cell 0; have g1 : w3.cell? ⟨w1.heap.size + 1, 1, none⟩ = some (.int .i64 (k : Nat)) := K3.cell 1; have q0 := K3.fz 0; have q1 := K3.fz 1; have N1 : Hid (w.heap.size + 1 < w1.heap.size + 1) := (by have := T1.out.flt.lt; show _ < _; omega); have T4 : Hid (TB w ((w3.setCell ⟨w1.heap.size + 1, 0, none⟩ (.int .i64 Y)).setCell ⟨w1.heap.size + 1, 1, none⟩ (.int .i64 Z))) := tok_set T3.out N1.out _ _; clear K3)
        | (go_at_call 93; refine (kC _).mono ?_; rintro e w5 ⟨rfl, hb5⟩; clear kC; have T5 : Hid (TB w w5) := T4.out.on hb5; obtain ⟨c0, c1, c2, c3, c4, c5⟩ := T5.out.cells; obtain ⟨f0, f1, f2, f3, f4, f5⟩ := T5.out.fz))
      refine bodyPost_ret (v := .tuple #[.agg #[.int .i64 8, .int .i64 (p : Int), .int .i64 (PK : Nat), .string (s.extract p PK)], .agg #[.int .i64 0, .int .i64 0]]) (by simp [results, Tryz.results73, go_sem, *]) rfl ⟨rfl, ?_⟩
      refine Below.setCell (Below.setCell (Below.setCell (Below.setCell (Below.setCell (Below.setCell T5.out.bel ?_ _) ?_ _) ?_ _) ?_ _) ?_ _) ?_ _ <;> simp
    · have he' : endS q = false := by simpa using he
      have hQ := hP3.2 he'
      have hY1 : (parseA (s.extract p (p + k))).2.1 = 3 := by rw [hQ]
      have hY2 : (parseA (s.extract p (p + k))).2.2 = (k : Nat) := by rw [hQ]
      rw [hY1, hY2] at hkB
      rw [if_neg he, if_neg (by rw [hbl]; omega), hVf]
      clear hQ hY1 hY2 hP3 he he' hx2 hx3 e2 etx hbl hnb hsz hk hq hV8 hVf hlt
      generalize p + k = PK at *
      go_enter Tryz.func73, Tryz.ntmps73
      go_wp2_with (first
        | (go_at_call 84; refine kA.mono ?_; rintro e w1 ⟨rfl, hb1⟩; clear kA; have T1 : Hid (TB w w1) := T0.out.on hb1; have A1 := alloc_below w1 (.cells #[.bool n1, .string d1, .int .i64 x1] 84); have A2 := alloc_below (w1.alloc (.cells #[.bool n1, .string d1, .int .i64 x1] 84)) (.cells #[.int .i64 5, .int .i64 (k : Nat)] 29); have s1 : (w1.alloc (.cells #[.bool n1, .string d1, .int .i64 x1] 84)).heap.size = w1.heap.size + 1 := (by simp); have T2 : Hid (TB w ((w1.alloc (.cells #[.bool n1, .string d1, .int .i64 x1] 84)).alloc (.cells #[.int .i64 5, .int .i64 (k : Nat)] 29))) := T1.out.on (A1.trans (A2.mono (by omega))); have K2 : Hid (Blk ((w1.alloc (.cells #[.bool n1, .string d1, .int .i64 x1] 84)).alloc (.cells #[.int .i64 5, .int .i64 (k : Nat)] 29)) (w1.heap.size + 1) #[.int .i64 5, .int .i64 (k : Nat)] 29) := (by (rw [← s1]; exact blk_new _ _ _)); clear s1 A1 A2)
        | (go_at_call 84; refine (hkB _).mono ?_; rintro e w3 ⟨rfl, hb3⟩; clear hkB; have T3 : Hid (TB w w3) := T2.out.on hb3; have K3 := K2.out.kept hb3 K2.out.lt; have g0 : w3.cell? ⟨w1.heap.size + 1, 0, none⟩ = some (.int .i64 5) := K3.cell 0; have g1 : w3.cell? ⟨w1.heap.size + 1, 1, none⟩ = some (.int .i64 (k : Nat)) := K3.cell 1; have q0 := K3.fz 0; have q1 := K3.fz 1; have N1 : Hid (w.heap.size + 1 < w1.heap.size + 1) := (by have := T1.out.flt.lt; show _ < _; omega); have T4 : Hid (TB w ((w3.setCell ⟨w1.heap.size + 1, 0, none⟩ (.int .i64 3)).setCell ⟨w1.heap.size + 1, 1, none⟩ (.int .i64 (k : Nat)))) := tok_set T3.out N1.out _ _; clear K3; obtain ⟨c0, c1, c2, c3, c4, c5⟩ := T4.out.cells; obtain ⟨f0, f1, f2, f3, f4, f5⟩ := T4.out.fz))
      refine bodyPost_ret (v := .tuple #[.agg #[.int .i64 0, .int .i64 0, .int .i64 0, .string ⟨#[]⟩], .agg #[.int .i64 5, .int .i64 (PK : Nat)]]) (by simp [results, Tryz.results73, go_sem, *]) rfl ⟨rfl, ?_⟩
      refine Below.setCell (Below.setCell (Below.setCell (Below.setCell (Below.setCell (Below.setCell T4.out.bel ?_ _) ?_ _) ?_ _) ?_ _) ?_ _) ?_ _ <;> simp
  · have hkl : k = s.size - p := by omega
    have hP1 := hP.2 hkl
    have hpk : p + k = s.size := by omega
    by_cases he : endS q = true
    · obtain ⟨h5, h3⟩ := hP1.1 he
      rw [if_pos he, hV8, hpk]
      have kC := fun w' => clone_any (s.extract p s.size) w' (by omega)
      obtain ⟨Y, hY⟩ : ∃ Y, (parseA (s.extract p s.size)).2.1 = Y := ⟨_, rfl⟩
      obtain ⟨Z, hZ⟩ : ∃ Z, (parseA (s.extract p s.size)).2.2 = Z := ⟨_, rfl⟩
      rw [hY, hZ] at kA
      rw [hY] at h5 h3
      have a3 : (Y == 3) = false := by simp [h3]
      have a5 : (Y == 5) = false := by simp [h5]
      have y4 : ((s.size : Nat) : Int) ≤ ((s.size : Nat) : Int) := by omega
      clear hY hZ h5 h3 hP hP1 he hx2 e2 etx hbl hnb hsz hk hq hV8 hVf hlt hkl hpk
      go_enter Tryz.func73, Tryz.ntmps73
      go_wp2_with (first
        | (go_at_call 84; refine kA.mono ?_; rintro e w1 ⟨rfl, hb1⟩; clear kA; have T1 : Hid (TB w w1) := T0.out.on hb1; have A1 := alloc_below w1 (.cells #[.bool n1, .string d1, .int .i64 x1] 84); have A2 := alloc_below (w1.alloc (.cells #[.bool n1, .string d1, .int .i64 x1] 84)) (.cells #[.int .i64 Y, .int .i64 Z] 29); have s1 : (w1.alloc (.cells #[.bool n1, .string d1, .int .i64 x1] 84)).heap.size = w1.heap.size + 1 := (by simp); have T2 : Hid (TB w ((w1.alloc (.cells #[.bool n1, .string d1, .int .i64 x1] 84)).alloc (.cells #[.int .i64 Y, .int .i64 Z] 29))) := T1.out.on (A1.trans (A2.mono (by omega))); have K2 : Hid (Blk ((w1.alloc (.cells #[.bool n1, .string d1, .int .i64 x1] 84)).alloc (.cells #[.int .i64 Y, .int .i64 Z] 29)) (w1.heap.size + 1) #[.int .i64 Y, .int .i64 Z] 29) := (by (rw [← s1]; exact blk_new _ _ _)); clear s1 A1 A2)
        | (go_at_call 93; refine (kC _).mono ?_; rintro e w5 ⟨rfl, hb5⟩; clear kC; have T5 : Hid (TB w w5) := T2.out.on hb5; obtain ⟨c0, c1, c2, c3, c4, c5⟩ := T5.out.cells; obtain ⟨f0, f1, f2, f3, f4, f5⟩ := T5.out.fz))
      refine bodyPost_ret (v := .tuple #[.agg #[.int .i64 8, .int .i64 (p : Int), .int .i64 (s.size : Nat), .string (s.extract p s.size)], .agg #[.int .i64 0, .int .i64 0]]) (by simp [results, Tryz.results73, go_sem, *]) rfl ⟨rfl, ?_⟩
      refine Below.setCell (Below.setCell (Below.setCell (Below.setCell (Below.setCell (Below.setCell T5.out.bel ?_ _) ?_ _) ?_ _) ?_ _) ?_ _) ?_ _ <;> simp
    · have he' : endS q = false := by simpa using he
      have hQ := hP1.2 he'
      have hY1 : (parseA (s.extract p s.size)).2.1 = 3 := by rw [hQ]
      have hY2 : (parseA (s.extract p s.size)).2.2 = ((s.extract p s.size).size : Nat) := by rw [hQ]
      rw [hY1, hY2] at kA
      rw [if_neg he, if_pos (by rw [hbl]; omega), hVf, hbl, show p + (s.size - p) = s.size from by omega]
      generalize (s.extract p s.size).size = Z at *
      clear hQ hY1 hY2 hP hP1 he he' hx2 e2 etx hbl hnb hsz hk hq hV8 hVf hlt hkl hpk
      go_enter Tryz.func73, Tryz.ntmps73
      go_wp2_with (first
        | (go_at_call 84; refine kA.mono ?_; rintro e w1 ⟨rfl, hb1⟩; clear kA; have T1 : Hid (TB w w1) := T0.out.on hb1; have A1 := alloc_below w1 (.cells #[.bool n1, .string d1, .int .i64 x1] 84); have A2 := alloc_below (w1.alloc (.cells #[.bool n1, .string d1, .int .i64 x1] 84)) (.cells #[.int .i64 3, .int .i64 (Z : Nat)] 29); have s1 : (w1.alloc (.cells #[.bool n1, .string d1, .int .i64 x1] 84)).heap.size = w1.heap.size + 1 := (by simp); have T2 : Hid (TB w ((w1.alloc (.cells #[.bool n1, .string d1, .int .i64 x1] 84)).alloc (.cells #[.int .i64 3, .int .i64 (Z : Nat)] 29))) := T1.out.on (A1.trans (A2.mono (by omega))); have K2 : Hid (Blk ((w1.alloc (.cells #[.bool n1, .string d1, .int .i64 x1] 84)).alloc (.cells #[.int .i64 3, .int .i64 (Z : Nat)] 29)) (w1.heap.size + 1) #[.int .i64 3, .int .i64 (Z : Nat)] 29) := (by (rw [← s1]; exact blk_new _ _ _)); clear s1 A1 A2; obtain ⟨c0, c1, c2, c3, c4, c5⟩ := T2.out.cells; obtain ⟨f0, f1, f2, f3, f4, f5⟩ := T2.out.fz))
      refine bodyPost_ret (v := .tuple #[.agg #[.int .i64 0, .int .i64 0, .int .i64 0, .string ⟨#[]⟩], .agg #[.int .i64 3, .int .i64 (s.size : Nat)]]) (by simp [results, Tryz.results73, go_sem, *]) rfl ⟨rfl, ?_⟩
      refine Below.setCell (Below.setCell (Below.setCell (Below.setCell (Below.setCell (Below.setCell T2.out.bel ?_ _) ?_ _) ?_ _) ?_ _) ?_ _) ?_ _ <;> simp
end Go.Proofs.YtmlacmoembjeoaaGreatDoor
namespace Go.Proofs.YtmlacmoembjeoaaGreatDoor
open Go.RowKit
set_option linter.unusedVariables false

theorem wrd_step {v b : List Int} {i : Nat} (hv : i < v.length) (hb : i < b.length) (k : Nat) : wrdF (v.drop i) (b.drop i) k = if b.getD i 0 = v.getD i 0 then wrdF (v.drop (i + 1)) (b.drop (i + 1)) (k + 1) else (5, k) := by
  rw [List.drop_eq_getElem_cons hv, List.drop_eq_getElem_cons hb, wrdF, List.getD_eq_getElem?_getD, List.getD_eq_getElem?_getD, List.getElem?_eq_getElem hv, List.getElem?_eq_getElem hb]
  rfl
theorem wrd_short {v b : List Int} {i : Nat} (hv : i < v.length) (hb : b.length ≤ i) (k : Nat) : wrdF (v.drop i) (b.drop i) k = (3, k) := by
  rw [List.drop_eq_getElem_cons hv, List.drop_of_length_le hb, wrdF]
theorem wrd_done {v b : List Int} {i : Nat} (hv : v.length ≤ i) (k : Nat) : wrdF (v.drop i) (b.drop i) k = (0, k) := by
  rw [List.drop_of_length_le hv, wrdF]
set_option maxHeartbeats 8000000 in
set_option maxRecDepth 100000 in
theorem wordat_word (s : ByteArray) (p : Nat) (w : World) (hp : p < s.size) (hs : s.size ≤ 4096) (kind : Nat) (v : ByteArray) (hv0 : 0 < v.size) (hv1 : v.size ≤ 10)
    (kO : ∀ w', Calls Tryz.prog 94 #[.int .u8 (((s[p]'hp).toNat : Nat) : Int)] w' fun e w'' => e = .returned (.tuple #[.int .i64 (kind : Nat), .string v]) ∧ w'' = w') :
    Calls Tryz.prog 74 #[.string s, .int .i64 (p : Int)] w fun e w' => e = .returned (tokV (wrdT kind (bs v) ((bs s).drop p) p)) ∧ Below w.heap.size w w' := by
  have T0 : Hid (TB w ((w.alloc (.cells #[.int .i64 0, .int .i64 0, .int .i64 0, .string ⟨#[]⟩] 40)).alloc (.cells #[.int .i64 0, .int .i64 0] 29))) := tb_new w
  have ne := not_empty hv0
  obtain ⟨PV, hPV⟩ : ∃ PV, p + v.size = PV := ⟨_, rfl⟩
  have hbl : Hid (((bs s).drop p).length = s.size - p) := by show _ = _; rw [List.length_drop, bs_len]
  obtain ⟨R, hR⟩ : ∃ R, wrdF (bs v) ((bs s).drop p) 0 = R := ⟨_, rfl⟩
  have hU : wrdT kind (bs v) ((bs s).drop p) p = if R.1 = 0 then (⟨kind, p, PV, []⟩, 0, 0) else (z0, R.1, p + R.2) := by unfold wrdT; rw [hR, bs_len, hPV]
  rw [hU]
  have hVf : Hid (∀ y a : Nat, tokV (z0, y, a) = .tuple #[.agg #[.int .i64 0, .int .i64 0, .int .i64 0, .string ⟨#[]⟩], .agg #[.int .i64 (y : Int), .int .i64 (a : Int)]]) := fun y a => rfl
  have hVk : Hid (tokV (⟨kind, p, PV, []⟩, 0, 0) = .tuple #[.agg #[.int .i64 (kind : Nat), .int .i64 (p : Int), .int .i64 (PV : Nat), .string ⟨#[]⟩], .agg #[.int .i64 0, .int .i64 0]]) := rfl
  obtain ⟨V, hV⟩ : ∃ V, tokV (if R.1 = 0 then (⟨kind, p, PV, []⟩, 0, 0) else (z0, R.1, p + R.2)) = V := ⟨_, rfl⟩
  rw [hV]
  have hV' : Hid (tokV (if R.1 = 0 then (⟨kind, p, PV, []⟩, 0, 0) else (z0, R.1, p + R.2)) = V) := hV
  have hR' : Hid (wrdF ((bs v).drop 0) (((bs s).drop p).drop 0) 0 = R) := hR
  have wS : IntKind.i64.wrap ((p : Int) + ((v.size : Nat) : Int)) = ((PV : Nat) : Int) := by rw [IntKind.wrap_i64]; omega
  clear hU hR hV hv0 hPV
  go_enter Tryz.func74, Tryz.ntmps74
  go_wp2_with (go_at_call 94; refine (kO _).mono ?_; rintro e w1 ⟨rfl, hw1⟩; subst hw1; clear kO)
  go_loopw [23, 8] (fun u _ wr => ∃ i : Nat, i ≤ v.size ∧ u = .int .i64 i ∧ Hid (p + i ≤ s.size) ∧ Hid (TB w wr) ∧ Hid (wrdF ((bs v).drop i) (((bs s).drop p).drop i) i = R)) (fun u _ _ => v.size - (intOf u).toNat)
  case atStart => exact ⟨0, Nat.zero_le _, rfl, Nat.le_of_lt hp, T0, hR'⟩
  case round =>
    clear hR'
    obtain ⟨i, hi, rfl, hpi, hT, hE⟩ := hrel
    obtain ⟨c0, c1, c2, c3, c4, c5⟩ := hT.out.cells
    obtain ⟨f0, f1, f2, f3, f4, f5⟩ := hT.out.fz
    by_cases hlt : i < v.size
    · have hz : (i : Int) < ((v.size : Nat) : Int) := by omega
      have hvl : i < (bs v).length := by rw [bs_len]; exact hlt
      obtain ⟨T, hTT⟩ : ∃ T, T = p + i := ⟨_, rfl⟩
      have wT : IntKind.i64.wrap ((p : Int) + (i : Int)) = ((T : Nat) : Int) := by rw [IntKind.wrap_i64]; omega
      have wi : IntKind.i64.wrap ((i : Int) + 1) = ((i + 1 : Nat) : Int) := by rw [IntKind.wrap_i64]; omega
      by_cases hend : T = s.size
      · have hRR : R = (3, i) := by rw [← hE.out, wrd_short hvl (by rw [hbl.out]; omega)]
        have aE : (((T : Nat) : Int) == ((s.size : Nat) : Int)) = true := by simp; omega
        have hVV : V = .tuple #[.agg #[.int .i64 0, .int .i64 0, .int .i64 0, .string ⟨#[]⟩], .agg #[.int .i64 3, .int .i64 (s.size : Nat)]] := by
          rw [← hV'.out, hRR, if_neg (by simp), hVf.out, ← hend, hTT]; rfl
        clear hV' hE hRR hTT hend hvl
        subst hVV
        have hB : Hid (Below w.heap.size w wr) := hT.out.bel
        go_wp2
        refine bodyPost_ret (v := .tuple #[.agg #[.int .i64 0, .int .i64 0, .int .i64 0, .string ⟨#[]⟩], .agg #[.int .i64 3, .int .i64 (s.size : Nat)]]) (by simp [results, Tryz.results74, go_sem, *]) rfl ⟨rfl, ?_⟩
        refine Below.setCell (Below.setCell (Below.setCell (Below.setCell (Below.setCell (Below.setCell hB.out ?_ _) ?_ _) ?_ _) ?_ _) ?_ _) ?_ _ <;> simp
      · have aE : (((T : Nat) : Int) == ((s.size : Nat) : Int)) = false := by simp; omega
        have hsT : T < s.size := by have := hpi.out; omega
        have hble : i < ((bs s).drop p).length := by rw [hbl.out]; omega
        have hst := wrd_step hvl hble i
        rw [getD_drop, ← hTT, bs_at s hsT, bs_at v hlt, hE.out] at hst
        by_cases heq : (((s[T]'hsT).toNat : Nat) : Int) = (((v[i]'hlt).toNat : Nat) : Int)
        · have aN : ((((s[T]'hsT).toNat : Nat) : Int) != (((v[i]'hlt).toNat : Nat) : Int)) = false := by simp [heq]
          rw [if_pos heq] at hst
          have hE' : Hid (wrdF ((bs v).drop (i + 1)) (((bs s).drop p).drop (i + 1)) (i + 1) = R) := hst.symm
          have hpi' : Hid (p + (i + 1) ≤ s.size) := by show _ ≤ _; omega
          clear hst heq hE hTT hend hvl hble
          go_wp2
          go_quiet (fail)
          go_wp2
          go_roundw
          case rel => exact ⟨i + 1, by omega, by go_num, hpi', hT.out.on ⟨rfl, rfl, rfl, Nat.le_refl _, fun _ _ => rfl⟩, hE'⟩
          case measure => simp [intOf]; omega
        · have aN : ((((s[T]'hsT).toNat : Nat) : Int) != (((v[i]'hlt).toNat : Nat) : Int)) = true := by simp; omega
          rw [if_neg heq] at hst
          have hVV : V = .tuple #[.agg #[.int .i64 0, .int .i64 0, .int .i64 0, .string ⟨#[]⟩], .agg #[.int .i64 5, .int .i64 (T : Nat)]] := by
            rw [← hV'.out, hst, if_neg (by simp), hVf.out, ← hTT]; rfl
          clear hV' hE hst hTT hend hvl hble heq
          subst hVV
          have hB : Hid (Below w.heap.size w wr) := hT.out.bel
          go_wp2
          go_quiet (fail)
          go_wp2
          refine bodyPost_ret (v := .tuple #[.agg #[.int .i64 0, .int .i64 0, .int .i64 0, .string ⟨#[]⟩], .agg #[.int .i64 5, .int .i64 (T : Nat)]]) (by simp [results, Tryz.results74, go_sem, *]) rfl ⟨rfl, ?_⟩
          have hBd := fun n => (⟨hB.out.os, hB.out.tape, hB.out.output, hB.out.size, hB.out.block⟩ : Below w.heap.size w (wr.drewN n))
          first
          | (refine Below.setCell (Below.setCell (Below.setCell (Below.setCell (Below.setCell (Below.setCell (hBd _) ?_ _) ?_ _) ?_ _) ?_ _) ?_ _) ?_ _ <;> simp)
          | (refine below_drewN (Below.setCell (Below.setCell (Below.setCell (Below.setCell (Below.setCell (Below.setCell hB.out ?_ _) ?_ _) ?_ _) ?_ _) ?_ _) ?_ _) _ <;> simp)
          | (refine Below.drew (Below.setCell (Below.setCell (Below.setCell (Below.setCell (Below.setCell (Below.setCell hB.out ?_ _) ?_ _) ?_ _) ?_ _) ?_ _) ?_ _) <;> simp)
    · have hz : ¬ (i : Int) < ((v.size : Nat) : Int) := by omega
      obtain rfl : i = v.size := by omega
      have hRR : R = (0, v.size) := by rw [← hE.out, wrd_done (by rw [bs_len]; exact Nat.le_refl _)]
      have hVV : V = .tuple #[.agg #[.int .i64 (kind : Nat), .int .i64 (p : Int), .int .i64 (PV : Nat), .string ⟨#[]⟩], .agg #[.int .i64 0, .int .i64 0]] := by
        rw [← hV'.out, hRR, if_pos rfl, hVk.out]
      clear hV' hE hRR
      subst hVV
      have hB : Hid (Below w.heap.size w wr) := hT.out.bel
      go_wp2
      refine bodyPost_ret (v := .tuple #[.agg #[.int .i64 (kind : Nat), .int .i64 (p : Int), .int .i64 (PV : Nat), .string ⟨#[]⟩], .agg #[.int .i64 0, .int .i64 0]]) (by simp [results, Tryz.results74, go_sem, *]) rfl ⟨rfl, ?_⟩
      refine Below.setCell (Below.setCell (Below.setCell (Below.setCell (Below.setCell (Below.setCell hB.out ?_ _) ?_ _) ?_ _) ?_ _) ?_ _) ?_ _ <;> simp
set_option maxHeartbeats 1000000 in
/-- jlex.wordOf. -/
theorem wof_any (c : Nat) (w : World) : Calls Tryz.prog 94 #[.int .u8 (c : Int)] w fun e w' => e = .returned (if c = 116 then .tuple #[.int .i64 9, .string ⟨#[116, 114, 117, 101]⟩] else if c = 102 then .tuple #[.int .i64 10, .string ⟨#[102, 97, 108, 115, 101]⟩] else if c = 110 then .tuple #[.int .i64 11, .string ⟨#[110, 117, 108, 108]⟩] else .tuple #[.int .i64 0, .string ⟨#[]⟩]) ∧ w' = w := by
  by_cases h1 : c = 116
  · rw [if_pos h1]
    have a1 : ((c : Int) == 116) = true := by simp; omega
    clear h1
    go_enter Tryz.func94, Tryz.ntmps94
    go_wp2
    go_ret2
    exact ⟨rfl, rfl⟩
  rw [if_neg h1]
  have a1 : ((c : Int) == 116) = false := by simp; omega
  by_cases h2 : c = 102
  · rw [if_pos h2]
    have a2 : ((c : Int) == 102) = true := by simp; omega
    clear h1 h2
    go_enter Tryz.func94, Tryz.ntmps94
    go_wp2
    go_ret2
    exact ⟨rfl, rfl⟩
  rw [if_neg h2]
  have a2 : ((c : Int) == 102) = false := by simp; omega
  by_cases h3 : c = 110
  · rw [if_pos h3]
    have a3 : ((c : Int) == 110) = true := by simp; omega
    clear h1 h2 h3
    go_enter Tryz.func94, Tryz.ntmps94
    go_wp2
    go_ret2
    exact ⟨rfl, rfl⟩
  rw [if_neg h3]
  have a3 : ((c : Int) == 110) = false := by simp; omega
  clear h1 h2 h3
  go_enter Tryz.func94, Tryz.ntmps94
  go_wp2
  go_ret2
  exact ⟨rfl, rfl⟩
/-- What wordAt tells. -/
def wdR (c : Int) (b : List Int) (p : Nat) : Tk × Nat × Nat := if c = 116 then wrdT 9 [116, 114, 117, 101] b p else if c = 102 then wrdT 10 [102, 97, 108, 115, 101] b p else if c = 110 then wrdT 11 [110, 117, 108, 108] b p else (z0, 5, p)
set_option maxHeartbeats 2000000 in
set_option maxRecDepth 100000 in
/-- jlex.wordAt. -/
theorem wordat_any (s : ByteArray) (p : Nat) (w : World) (hp : p < s.size) (hs : s.size ≤ 4096) :
    Calls Tryz.prog 74 #[.string s, .int .i64 (p : Int)] w fun e w' => e = .returned (tokV (wdR (((s[p]'hp).toNat : Nat) : Int) ((bs s).drop p) p)) ∧ Below w.heap.size w w' := by
  have kO := fun w' => wof_any (s[p]'hp).toNat w'
  unfold wdR
  by_cases h1 : (s[p]'hp).toNat = 116
  · rw [if_pos (by omega)]
    rw [if_pos h1] at kO
    exact wordat_word s p w hp hs 9 ⟨#[116, 114, 117, 101]⟩ (by decide) (by decide) kO
  rw [if_neg (by omega)]
  rw [if_neg h1] at kO
  by_cases h2 : (s[p]'hp).toNat = 102
  · rw [if_pos (by omega)]
    rw [if_pos h2] at kO
    exact wordat_word s p w hp hs 10 ⟨#[102, 97, 108, 115, 101]⟩ (by decide) (by decide) kO
  rw [if_neg (by omega)]
  rw [if_neg h2] at kO
  by_cases h3 : (s[p]'hp).toNat = 110
  · rw [if_pos (by omega)]
    rw [if_pos h3] at kO
    exact wordat_word s p w hp hs 11 ⟨#[110, 117, 108, 108]⟩ (by decide) (by decide) kO
  rw [if_neg (by omega)]
  rw [if_neg h3] at kO
  have T0 : Hid (TB w ((w.alloc (.cells #[.int .i64 0, .int .i64 0, .int .i64 0, .string ⟨#[]⟩] 40)).alloc (.cells #[.int .i64 0, .int .i64 0] 29))) := tb_new w
  have hVf : tokV (z0, 5, p) = .tuple #[.agg #[.int .i64 0, .int .i64 0, .int .i64 0, .string ⟨#[]⟩], .agg #[.int .i64 5, .int .i64 (p : Int)]] := rfl
  rw [hVf]
  clear hVf h1 h2 h3
  go_enter Tryz.func74, Tryz.ntmps74
  go_wp2_with (go_at_call 94; refine (kO _).mono ?_; rintro e w1 ⟨rfl, hw1⟩; subst hw1; clear kO; obtain ⟨c0, c1, c2, c3, c4, c5⟩ := T0.out.cells; obtain ⟨f0, f1, f2, f3, f4, f5⟩ := T0.out.fz)
  refine bodyPost_ret (v := .tuple #[.agg #[.int .i64 0, .int .i64 0, .int .i64 0, .string ⟨#[]⟩], .agg #[.int .i64 5, .int .i64 (p : Int)]]) (by simp [results, Tryz.results74, go_sem, *]) rfl ⟨rfl, ?_⟩
  first
  | exact T0.out.bel
  | exact (alloc_below w _).trans ((alloc_below _ _).mono (Nat.le_of_lt (alloc_lt _ _)))
  | (refine Below.setCell (Below.setCell (Below.setCell (Below.setCell (Below.setCell (Below.setCell T0.out.bel ?_ _) ?_ _) ?_ _) ?_ _) ?_ _) ?_ _ <;> simp)
end Go.Proofs.YtmlacmoembjeoaaGreatDoor
namespace Go.Proofs.YtmlacmoembjeoaaGreatDoor
open Go.RowKit
set_option linter.unusedVariables false

set_option maxRecDepth 100000 in
theorem sign_ix : ∀ c : Nat, c < 256 → Lib.indexByte [123, 125, 91, 93, 58, 44] ((c : Int).toNat.toUInt8) = ((signN (c : Int) : Nat) : Int) - 1 := by decide
theorem sign_any (c : Nat) (hc : c < 256) (w : World) : Calls Tryz.prog 71 #[.string ⟨#[123, 125, 91, 93, 58, 44]⟩, .int .u8 (c : Int)] w fun e w' => e = .returned (.int .i64 (((signN (c : Int) : Nat) : Int) - 1)) ∧ w' = w := by
  have k := ib_any ⟨#[123, 125, 91, 93, 58, 44]⟩ (c : Int) w
  have e : (⟨#[123, 125, 91, 93, 58, 44]⟩ : ByteArray).data.toList = [123, 125, 91, 93, 58, 44] := rfl
  rw [e, sign_ix c hc] at k
  exact k
theorem tok_head (s : ByteArray) (p : Nat) (hp : p < s.size) : ((bs s).drop p).getD 0 0 = (((s[p]'hp).toNat : Nat) : Int) := by rw [getD_drop, Nat.add_zero, bs_at s hp]
theorem tok_lit (K F T : Nat) (X : List Int) (Y A : Nat) : tokV (⟨K, F, T, X⟩, Y, A) = .tuple #[.agg #[.int .i64 (K : Nat), .int .i64 (F : Nat), .int .i64 (T : Nat), .string (strOfNums X)], .agg #[.int .i64 (Y : Nat), .int .i64 (A : Nat)]] := rfl
set_option maxHeartbeats 8000000 in
set_option maxRecDepth 100000 in
/-- jlex.tokenAt. -/
theorem tokat_any (s : ByteArray) (p : Nat) (w : World) (hp : p < s.size) (hs : s.size ≤ 4096) :
    Calls Tryz.prog 45 #[.string s, .int .i64 (p : Int)] w fun e w' => e = .returned (tokV (tokR ((bs s).drop p) p)) ∧ Below w.heap.size w w' := by
  have T0 : Hid (TB w ((w.alloc (.cells #[.int .i64 0, .int .i64 0, .int .i64 0, .string ⟨#[]⟩] 40)).alloc (.cells #[.int .i64 0, .int .i64 0] 29))) := tb_new w
  obtain ⟨c0, c1, c2, c3, c4, c5⟩ := T0.out.cells
  obtain ⟨f0, f1, f2, f3, f4, f5⟩ := T0.out.fz
  have hc := UInt8.toNat_lt (s[p]'hp)
  have kI := fun w' => sign_any (s[p]'hp).toNat hc w'
  have hh := tok_head s p hp
  obtain ⟨⟨⟨K, F, T, X⟩, Y, A⟩, hR⟩ : ∃ R, tokR ((bs s).drop p) p = R := ⟨_, rfl⟩
  have hRR := hR
  unfold tokR at hRR
  rw [hh] at hRR
  rw [hR, tok_lit]
  clear hR
  by_cases h1 : signN (((s[p]'hp).toNat : Nat) : Int) ≠ 0
  · rw [if_pos h1] at hRR
    have hle := sign_le (((s[p]'hp).toNat : Nat) : Int)
    generalize signN (((s[p]'hp).toNat : Nat) : Int) = G at *
    simp only [Prod.mk.injEq, Tk.mk.injEq] at hRR
    obtain ⟨⟨rfl, rfl, rfl, rfl⟩, rfl, rfl⟩ := hRR
    obtain ⟨Z, hZ⟩ : ∃ Z, ((G : Nat) : Int) - 1 = Z := ⟨_, rfl⟩
    rw [hZ] at kI
    have a1 : decide ((0 : Int) ≤ Z) = true := by simp; omega
    have W1 : IntKind.i64.wrap (1 + Z) = ((G : Nat) : Int) := by rw [IntKind.wrap_i64]; omega
    clear hZ
    have W2 : IntKind.i64.wrap ((p : Int) + 1) = ((p + 1 : Nat) : Int) := by rw [IntKind.wrap_i64]; omega
    have hB : Hid (Below w.heap.size w ((w.alloc (.cells #[.int .i64 0, .int .i64 0, .int .i64 0, .string ⟨#[]⟩] 40)).alloc (.cells #[.int .i64 0, .int .i64 0] 29))) := T0.out.bel
    generalize p + 1 = P1 at *
    clear h1 hle hh hc
    show Calls _ _ _ _ (fun e w' => e = .returned (.tuple #[.agg #[.int .i64 (G : Nat), .int .i64 (p : Nat), .int .i64 (P1 : Nat), .string ⟨#[]⟩], .agg #[.int .i64 0, .int .i64 0]]) ∧ Below w.heap.size w w')
    go_enter Tryz.func45, Tryz.ntmps45
    go_wp2_with (go_at_call 71; refine (kI _).mono ?_; rintro e w1 ⟨rfl, hw1⟩; subst hw1)
    refine bodyPost_ret (v := .tuple #[.agg #[.int .i64 (G : Nat), .int .i64 (p : Nat), .int .i64 (P1 : Nat), .string ⟨#[]⟩], .agg #[.int .i64 0, .int .i64 0]]) (by simp [results, Tryz.results45, go_sem, *]) rfl ⟨rfl, ?_⟩
    first
    | exact hB.out
    | exact (alloc_below w _).trans ((alloc_below _ _).mono (Nat.le_of_lt (alloc_lt _ _)))
  · rw [if_neg h1] at hRR
    have hG0 : signN (((s[p]'hp).toNat : Nat) : Int) = 0 := by omega
    rw [hG0] at kI
    have kI' : ∀ w', Calls Tryz.prog 71 #[.string ⟨#[123, 125, 91, 93, 58, 44]⟩, .int .u8 (((s[p]'hp).toNat : Nat) : Int)] w' fun e w'' => e = .returned (.int .i64 (-1)) ∧ w'' = w' := kI
    clear kI hG0 h1
    by_cases h2 : (((s[p]'hp).toNat : Nat) : Int) = 34
    · rw [if_pos h2] at hRR
      have a2 : ((((s[p]'hp).toNat : Nat) : Int) == 34) = true := by simp [h2]
      have kS := strat_any s p ((w.alloc (.cells #[.int .i64 0, .int .i64 0, .int .i64 0, .string ⟨#[]⟩] 40)).alloc (.cells #[.int .i64 0, .int .i64 0] 29)) hp (by omega)
      rw [List.drop_drop] at hRR
      have hRR' := hRR
      obtain ⟨⟨x, to, y, a⟩, hS⟩ : ∃ S, strL ((bs s).drop (p + 1)) (p + 1) r0 = S := ⟨_, rfl⟩
      rw [hS] at hRR kS
      simp only [Prod.mk.injEq, Tk.mk.injEq] at hRR
      obtain ⟨⟨rfl, rfl, rfl, rfl⟩, rfl, rfl⟩ := hRR
      unfold strV at kS
      dsimp only at kS
      clear hS hRR' hh hc h2
      go_enter Tryz.func45, Tryz.ntmps45
      go_wp2_with (first
        | (go_at_call 71; refine (kI' _).mono ?_; rintro e w1 ⟨rfl, hw1⟩; subst hw1; clear kI')
        | (go_at_call 72; refine kS.mono ?_; rintro e w2 ⟨rfl, hb2⟩; clear kS c0 c1 c2 c3 c4 c5 f0 f1 f2 f3 f4 f5; have T2 : Hid (TB w w2) := T0.out.on hb2; have T3 : Hid (TB w (w2.alloc (.cells #[.int .i64 (y : Nat), .int .i64 (a : Nat)] 29))) := T2.out.on (alloc_below w2 _); obtain ⟨c0, c1, c2, c3, c4, c5⟩ := T2.out.cells; obtain ⟨f0, f1, f2, f3, f4, f5⟩ := T2.out.fz; have N0 : w.heap.size < w2.heap.size := T2.out.tok.lt; have N1 : w.heap.size + 1 < w2.heap.size := T2.out.flt.lt))
      go_region
      all_goals
        go_wp2
        refine bodyPost_ret (v := .tuple #[.agg #[.int .i64 7, .int .i64 (p : Nat), .int .i64 (to : Nat), .string (strOfNums x)], .agg #[.int .i64 (y : Nat), .int .i64 (a : Nat)]]) (by simp [results, Tryz.results45, go_sem, *]) rfl ⟨rfl, ?_⟩
        have h6 : Below w.heap.size w ((((((w2.setCell ⟨w.heap.size, 0, none⟩ (.int .i64 7)).setCell ⟨w.heap.size, 1, none⟩ (.int .i64 (p : Nat))).setCell ⟨w.heap.size, 2, none⟩ (.int .i64 (to : Nat))).setCell ⟨w.heap.size, 3, none⟩ (.string (strOfNums x))).setCell ⟨w.heap.size + 1, 0, none⟩ (.int .i64 (y : Nat))).setCell ⟨w.heap.size + 1, 1, none⟩ (.int .i64 (a : Nat))) := by
          refine Below.setCell (Below.setCell (Below.setCell (Below.setCell (Below.setCell (Below.setCell T2.out.bel ?_ _) ?_ _) ?_ _) ?_ _) ?_ _) ?_ _ <;> simp
        exact (h6.alloc h6.size _).drew
    · rw [if_neg h2] at hRR
      have a2 : ((((s[p]'hp).toNat : Nat) : Int) == 34) = false := by simp [h2]
      have kN := numat_any s p ((w.alloc (.cells #[.int .i64 0, .int .i64 0, .int .i64 0, .string ⟨#[]⟩] 40)).alloc (.cells #[.int .i64 0, .int .i64 0] 29)) hp hs
      have kW := wordat_any s p ((w.alloc (.cells #[.int .i64 0, .int .i64 0, .int .i64 0, .string ⟨#[]⟩] 40)).alloc (.cells #[.int .i64 0, .int .i64 0] 29)) hp hs
      have fin : ∀ w2, TB w w2 → Below w.heap.size w ((((((w2.setCell ⟨w.heap.size, 0, none⟩ (.int .i64 (K : Nat))).setCell ⟨w.heap.size, 1, none⟩ (.int .i64 (F : Nat))).setCell ⟨w.heap.size, 2, none⟩ (.int .i64 (T : Nat))).setCell ⟨w.heap.size, 3, none⟩ (.string (strOfNums X))).setCell ⟨w.heap.size + 1, 0, none⟩ (.int .i64 (Y : Nat))).setCell ⟨w.heap.size + 1, 1, none⟩ (.int .i64 (A : Nat))) := fun w2 h2 => by
        refine Below.setCell (Below.setCell (Below.setCell (Below.setCell (Below.setCell (Below.setCell h2.bel ?_ _) ?_ _) ?_ _) ?_ _) ?_ _) ?_ _ <;> simp
      by_cases h3 : (((s[p]'hp).toNat : Nat) : Int) = 45 ∨ isD (((s[p]'hp).toNat : Nat) : Int) = true
      · rw [if_pos h3] at hRR
        rw [hRR, tok_lit] at kN
        clear kW hRR hh h2 hc
        by_cases h45 : (((s[p]'hp).toNat : Nat) : Int) = 45
        · have a3 : ((((s[p]'hp).toNat : Nat) : Int) == 45) = true := by simp [h45]
          clear h3 h45
          go_enter Tryz.func45, Tryz.ntmps45
          go_wp2_with (first
            | (go_at_call 71; refine (kI' _).mono ?_; rintro e w1 ⟨rfl, hw1⟩; subst hw1; clear kI')
            | (go_at_call 73; refine kN.mono ?_; rintro e w2 ⟨rfl, hb2⟩; clear kN c0 c1 c2 c3 c4 c5 f0 f1 f2 f3 f4 f5; have T2 : Hid (TB w w2) := T0.out.on hb2; obtain ⟨c0, c1, c2, c3, c4, c5⟩ := T2.out.cells; obtain ⟨f0, f1, f2, f3, f4, f5⟩ := T2.out.fz))
          refine bodyPost_ret (v := .tuple #[.agg #[.int .i64 (K : Nat), .int .i64 (F : Nat), .int .i64 (T : Nat), .string (strOfNums X)], .agg #[.int .i64 (Y : Nat), .int .i64 (A : Nat)]]) (by simp [results, Tryz.results45, go_sem, *]) rfl ⟨rfl, fin w2 T2.out⟩
        · have h3' : isD (((s[p]'hp).toNat : Nat) : Int) = true := by
            rcases h3 with h | h
            · exact absurd h h45
            · exact h
          have hd := isD_iff.1 h3'
          have a3 : ((((s[p]'hp).toNat : Nat) : Int) == 45) = false := by simp [h45]
          have a4 : decide ((48 : Int) ≤ (((s[p]'hp).toNat : Nat) : Int)) = true := by simp; omega
          have a5 : decide ((((s[p]'hp).toNat : Nat) : Int) ≤ 57) = true := by simp; omega
          clear h3 h45 h3' hd
          go_enter Tryz.func45, Tryz.ntmps45
          go_wp2_with (first
            | (go_at_call 71; refine (kI' _).mono ?_; rintro e w1 ⟨rfl, hw1⟩; subst hw1; clear kI')
            | (go_at_call 73; refine kN.mono ?_; rintro e w2 ⟨rfl, hb2⟩; clear kN c0 c1 c2 c3 c4 c5 f0 f1 f2 f3 f4 f5; have T2 : Hid (TB w w2) := T0.out.on hb2; obtain ⟨c0, c1, c2, c3, c4, c5⟩ := T2.out.cells; obtain ⟨f0, f1, f2, f3, f4, f5⟩ := T2.out.fz))
          refine bodyPost_ret (v := .tuple #[.agg #[.int .i64 (K : Nat), .int .i64 (F : Nat), .int .i64 (T : Nat), .string (strOfNums X)], .agg #[.int .i64 (Y : Nat), .int .i64 (A : Nat)]]) (by simp [results, Tryz.results45, go_sem, *]) rfl ⟨rfl, fin w2 T2.out⟩
      · rw [if_neg h3] at hRR
        have hWW : wdR (((s[p]'hp).toNat : Nat) : Int) ((bs s).drop p) p = (⟨K, F, T, X⟩, Y, A) := by rw [← hRR]; rfl
        rw [hWW, tok_lit] at kW
        have h45 : ¬ (((s[p]'hp).toNat : Nat) : Int) = 45 := fun h => h3 (.inl h)
        have hnd : ¬ (48 ≤ (((s[p]'hp).toNat : Nat) : Int) ∧ (((s[p]'hp).toNat : Nat) : Int) ≤ 57) := fun h => h3 (.inr (isD_iff.2 h))
        have a3 : ((((s[p]'hp).toNat : Nat) : Int) == 45) = false := by simp [h45]
        clear kN hRR hWW h3 h45 hh h2 hc
        by_cases h48 : (48 : Int) ≤ (((s[p]'hp).toNat : Nat) : Int)
        · have a4 : decide ((48 : Int) ≤ (((s[p]'hp).toNat : Nat) : Int)) = true := decide_eq_true h48
          have a5 : decide ((((s[p]'hp).toNat : Nat) : Int) ≤ 57) = false := decide_eq_false (fun h => hnd ⟨h48, h⟩)
          clear h48 hnd
          go_enter Tryz.func45, Tryz.ntmps45
          go_wp2_with (first
            | (go_at_call 71; refine (kI' _).mono ?_; rintro e w1 ⟨rfl, hw1⟩; subst hw1; clear kI')
            | (go_at_call 74; refine kW.mono ?_; rintro e w2 ⟨rfl, hb2⟩; clear kW c0 c1 c2 c3 c4 c5 f0 f1 f2 f3 f4 f5; have T2 : Hid (TB w w2) := T0.out.on hb2; obtain ⟨c0, c1, c2, c3, c4, c5⟩ := T2.out.cells; obtain ⟨f0, f1, f2, f3, f4, f5⟩ := T2.out.fz))
          refine bodyPost_ret (v := .tuple #[.agg #[.int .i64 (K : Nat), .int .i64 (F : Nat), .int .i64 (T : Nat), .string (strOfNums X)], .agg #[.int .i64 (Y : Nat), .int .i64 (A : Nat)]]) (by simp [results, Tryz.results45, go_sem, *]) rfl ⟨rfl, fin w2 T2.out⟩
        · have a4 : decide ((48 : Int) ≤ (((s[p]'hp).toNat : Nat) : Int)) = false := decide_eq_false h48
          clear h48 hnd
          go_enter Tryz.func45, Tryz.ntmps45
          go_wp2_with (first
            | (go_at_call 71; refine (kI' _).mono ?_; rintro e w1 ⟨rfl, hw1⟩; subst hw1; clear kI')
            | (go_at_call 74; refine kW.mono ?_; rintro e w2 ⟨rfl, hb2⟩; clear kW c0 c1 c2 c3 c4 c5 f0 f1 f2 f3 f4 f5; have T2 : Hid (TB w w2) := T0.out.on hb2; obtain ⟨c0, c1, c2, c3, c4, c5⟩ := T2.out.cells; obtain ⟨f0, f1, f2, f3, f4, f5⟩ := T2.out.fz))
          refine bodyPost_ret (v := .tuple #[.agg #[.int .i64 (K : Nat), .int .i64 (F : Nat), .int .i64 (T : Nat), .string (strOfNums X)], .agg #[.int .i64 (Y : Nat), .int .i64 (A : Nat)]]) (by simp [results, Tryz.results45, go_sem, *]) rfl ⟨rfl, fin w2 T2.out⟩
end Go.Proofs.YtmlacmoembjeoaaGreatDoor
namespace Go.Proofs.YtmlacmoembjeoaaGreatDoor
open Go.RowKit
set_option linter.unusedVariables false

/-! ### Tokens that a call has made -/
def tkC (t : Tk) : List Value := [.int .i64 (t.kind : Nat), .int .i64 (t.frm : Nat), .int .i64 (t.to : Nat), .string (strOfNums t.txt)]
def tkCs (L : List Tk) : List Value := (L.map tkC).flatten
theorem tkCs_snoc (L : List Tk) (t : Tk) : tkCs (L ++ [t]) = tkCs L ++ tkC t := by simp [tkCs]
/-- The slice v holds these tokens, in new memory. -/
def OwnsT (w : World) (base : Nat) (v : Value) (L : List Tk) : Prop := w.ownsRow base 40 4 v L.length (tkCs L)
theorem ownsT_nil (w : World) (base : Nat) : OwnsT w base (.slice none 0 0) [] := World.ownsRow_nil w base 40 4
theorem info41 : (Tryz.prog.info? 40).map (fun i => (i.zero, i.size, i.bytes)) = some (some (.agg #[.int .i64 0, .int .i64 0, .int .i64 0, .string ⟨#[]⟩]), 4, 40) := by kernel_rfl
theorem OwnsT.kept {w w' : World} {base : Nat} {v : Value} {L : List Tk} (h : OwnsT w base v L) (hb : Below w.heap.size w w') : OwnsT w' base v L := by
  obtain ⟨h1, h2⟩ := h
  refine ⟨h1, ?_⟩
  rcases h2 with h2 | ⟨g, cap, cur, hv, hg, hc, r⟩
  · exact .inl h2
  · exact .inr ⟨g, cap, cur, hv, hg, by rw [hb.block g (Array.getElem?_eq_some_iff.1 hc).1]; exact hc, r⟩
theorem OwnsT.form {w : World} {base : Nat} {v : Value} {L : List Tk} (h : OwnsT w base v L) : ∃ a n cap, v = .slice a n cap ∧ Hid (L.length = n) ∧ n ≤ cap ∧ cap ≤ 9223372036854775807 := by
  rcases h.2 with ⟨hv, hn⟩ | ⟨g, cap, cur, hv, hg, hc, hnc, hcm, r⟩
  · exact ⟨none, 0, 0, hv, hn, by omega, by omega⟩
  · exact ⟨some ⟨g, 0, none⟩, L.length, cap, hv, rfl, hnc, by unfold maxLen at hcm; omega⟩
theorem addr_add0 (g j : Nat) : (⟨g, 0, none⟩ : Addr).add j = ⟨g, j, none⟩ := by simp [Addr.add]; exact fun h => h.symm
theorem OwnsT.move {w w' : World} {base : Nat} {v : Value} {L : List Tk} (h : OwnsT w base v L) (hh : ∀ j, base ≤ j → j < w.heap.size → w'.heap[j]? = w.heap[j]?) : OwnsT w' base v L := by
  obtain ⟨h1, h2⟩ := h
  refine ⟨h1, ?_⟩
  rcases h2 with h2 | ⟨g, cap, cur, hv, hg, hc, r⟩
  · exact .inl h2
  · exact .inr ⟨g, cap, cur, hv, hg, by rw [hh g hg (Array.getElem?_eq_some_iff.1 hc).1]; exact hc, r⟩
/-- What an append to tokens leaves. -/
theorem OwnsT.out {w w3 w4 : World} {base : Nat} {v : Value} {L : List Tk} (h : OwnsT w base v L) (hg : w3.grownBy w4 v.ownBlock) {j : Nat} (hj : j < w3.heap.size) (ho : j < base ∨ w.heap.size ≤ j) : w4.heap[j]? = w3.heap[j]? := by
  refine hg.block j hj ?_
  rcases h.2 with ⟨rfl, _⟩ | ⟨g, cap, cur, rfl, hg', hc, _⟩
  · simp [Value.ownBlock]
  · have := (Array.getElem?_eq_some_iff.1 hc).1
    intro e
    simp [Value.ownBlock] at e
    omega
/-- 'append(v, t)'. -/
theorem wpList_append_tok {w : World} {ops : Array Oper} {rest : List Oper} {o : Oper} {a : Act} {Q : Exit → Act → World → Prop} (hgd : o.guard = none) (s x : Operand)
    (ho : o.op = .call { callee := .builtin .append, args := #[s, x], argTypes := #[36, 36] })
    (base : Nat) (v : Value) (L : List Tk) (t : Tk) (hs : a.eval s = v) (hown : OwnsT w base v L)
    (g : Nat) (hx : a.eval x = .slice (some ⟨g, 0, none⟩) 1 1) (hb : ∀ j, j < 4 → w.cell? ⟨g, j, none⟩ = (tkC t)[j]?)
    (hlen : L.length ≤ 100000) (hbase : base ≤ w.heap.size)
    (h : ∀ v' w', OwnsT w' base v' (L ++ [t]) → w.grownBy w' v.ownBlock → wpList Tryz.prog ops Q rest (a.put o.dst v') w') : wpList Tryz.prog ops Q (o :: rest) a w := by
  obtain ⟨i, hi, hz, hsz, hby⟩ := info_parts info41
  refine wpList_append_own_wide w hgd s x 36 ho base 40 i _ 4 40 Tryz.underlying36 hi hz hsz hby rfl (by decide) v L.length _ hs hown ⟨g, 0, none⟩ 1 1 (tkC t) hx rfl ?_ ?_ (by unfold maxLen; omega) (by omega) hbase ?_
  · intro j u hu
    have hj : j < 4 := (List.getElem?_eq_some_iff.1 hu).1
    rw [addr_add0, hb j hj]; exact hu
  · intro u hu
    simp [tkC] at hu
    rcases hu with rfl | rfl | rfl | rfl <;> rfl
  · intro v' w' h1 h2 _
    refine h v' w' ?_ h2
    unfold OwnsT
    rw [List.length_append, tkCs_snoc]
    exact h1
/-- The worlds of an appended token. -/
theorem tok_append {w2 w4 : World} {B : Nat} {v : Value} {L : List Tk} {C D : Array Value} (O2 : OwnsT w2 (B + 1) v L) (S2 : B + 1 ≤ w2.heap.size)
    (hg : (((w2.alloc (.cells C 40)).alloc (.cells D 29)).alloc (.cells C 40)).grownBy w4 v.ownBlock) :
    Blk w4 w2.heap.size C 40 ∧ (∀ cs T, Blk w2 B cs T → Blk w4 B cs T) ∧ (∀ w, Below B w w2 → Below B w w4) ∧ B + 1 ≤ w4.heap.size := by
  have b1 := alloc_below w2 (.cells C 40)
  have b2 := alloc_below (w2.alloc (.cells C 40)) (.cells D 29)
  have b3 := alloc_below ((w2.alloc (.cells C 40)).alloc (.cells D 29)) (.cells C 40)
  have z1 : (w2.alloc (.cells C 40)).heap.size = w2.heap.size + 1 := by simp
  have z2 : ((w2.alloc (.cells C 40)).alloc (.cells D 29)).heap.size = w2.heap.size + 1 + 1 := by simp
  have z3 : (((w2.alloc (.cells C 40)).alloc (.cells D 29)).alloc (.cells C 40)).heap.size = w2.heap.size + 1 + 1 + 1 := by simp
  have old : ∀ j, j < B + 1 → w4.heap[j]? = w2.heap[j]? := fun j hj => by
    rw [O2.out hg (by omega) (.inl hj), b3.block j (by omega), b2.block j (by omega), b1.block j (by omega)]
  refine ⟨?_, fun cs T h => ?_, fun w h => ⟨hg.os.trans h.os, hg.tape.trans h.tape, hg.output.trans h.output, ?_, fun k hk => ?_⟩, ?_⟩
  · show w4.heap[w2.heap.size]? = _
    rw [O2.out hg (by omega) (.inr (Nat.le_refl _)), b3.block _ (by omega), b2.block _ (by omega)]
    exact blk_new w2 _ _
  · exact (old B (by omega)).trans h
  · have := hg.size; have := h.size; omega
  · exact (old k (by omega)).trans (h.block k hk)
  · have := hg.size; omega
theorem tok_cells (w2 : World) (C D : Array Value) (j : Nat) : (((w2.alloc (.cells C 40)).alloc (.cells D 29)).alloc (.cells C 40)).cell? ⟨w2.heap.size + 1 + 1, j, none⟩ = C[j]? := by
  have h : Blk (((w2.alloc (.cells C 40)).alloc (.cells D 29)).alloc (.cells C 40)) ((w2.alloc (.cells C 40)).alloc (.cells D 29)).heap.size C 40 := blk_new _ _ _
  have z2 : ((w2.alloc (.cells C 40)).alloc (.cells D 29)).heap.size = w2.heap.size + 1 + 1 := by simp
  rw [z2] at h
  exact h.cell j
theorem OwnsT.thrice {w2 : World} {B : Nat} {v : Value} {L : List Tk} {C D : Array Value} (h : OwnsT w2 B v L) : OwnsT (((w2.alloc (.cells C 40)).alloc (.cells D 29)).alloc (.cells C 40)) B v L := ((h.kept (alloc_below _ _)).kept (alloc_below _ _)).kept (alloc_below _ _)
/-- What Lex answers. -/
theorem lex_next {zs : List Int} {p k : Nat} (hk : k = p + gapN (zs.drop p)) (hlt : k < zs.length) : (zs.drop p).drop (gapN (zs.drop p)) = zs.drop k ∧ zs.drop k ≠ [] := by
  refine ⟨by rw [List.drop_drop, hk], ?_⟩
  intro h
  have := congrArg List.length h
  rw [List.length_drop, List.length_nil] at this
  omega
set_option maxHeartbeats 8000000 in
set_option maxRecDepth 100000 in
/-- jlex.Lex. -/
theorem lex_any (a : Option Addr) (n cap : Nat) (zs : List Int) (w : World) (hl : zs.length = n) (hb : Bytes w a zs) (hc : n ≤ cap) (hn : n ≤ 4096) :
    Calls Tryz.prog 28 #[.slice a n cap] w fun e w' => ∃ v, e = .returned (.tuple #[v, .agg #[.int .i64 ((lexA zs 0).2.1 : Nat), .int .i64 ((lexA zs 0).2.2 : Nat)]]) ∧ OwnsT w' (w.heap.size + 1) v (lexA zs 0).1 ∧ Below w.heap.size w w' := by
  have hA := alloc_below w (.cells #[.int .i64 0, .int .i64 0] 29)
  have K0 : Hid (Blk (w.alloc (.cells #[.int .i64 0, .int .i64 0] 29)) w.heap.size #[.int .i64 0, .int .i64 0] 29) := blk_new w _ _
  have B0 : Hid (Below w.heap.size w (w.alloc (.cells #[.int .i64 0, .int .i64 0] 29))) := hA
  have hcv := conv_str (hb.kept hA) n cap hl
  have hz := hb.1
  obtain ⟨s, hs⟩ : ∃ s, strOfNums zs = s := ⟨_, rfl⟩
  rw [hs] at hcv
  have hbs : Hid (bs s = zs) := by show _ = _; rw [← hs, bs_str hz]
  have hss : s.size = n := by rw [← bs_len, hbs.out, hl]
  obtain ⟨⟨LR, YR, AR⟩, hR⟩ : ∃ R, lexA zs 0 = R := ⟨_, rfl⟩
  rw [hR]
  have hR' : Hid (([] : List Tk) ++ (lexA (zs.drop 0) 0).1 = LR ∧ (lexA (zs.drop 0) 0).2 = (YR, AR)) := by
    rw [List.drop_zero, hR]; exact ⟨rfl, rfl⟩
  have kG := fun (p : Nat) (hp : p ≤ s.size) (w' : World) => gaps_any s p w' hp (by omega)
  rw [hbs.out] at kG
  have kG0 : ∀ w', Calls Tryz.prog 44 #[.string s, .int .i64 0] w' fun e w'' => e = .returned (.int .i64 ((0 + gapN (zs.drop 0) : Nat) : Int)) ∧ w'' = w' := fun w' => kG 0 (Nat.zero_le _) w'
  have hg0 : 0 + gapN (zs.drop 0) ≤ s.size := by have := gap_le (zs.drop 0); rw [List.length_drop] at this; omega
  obtain ⟨k0, hk0⟩ : ∃ k0, 0 + gapN (zs.drop 0) = k0 := ⟨_, rfl⟩
  rw [hk0] at kG0 hg0
  have hk0' : Hid (k0 = 0 + gapN (zs.drop 0)) := hk0.symm
  have hlz : Hid (zs.length = s.size) := by show _ = _; omega
  have a1 : decide ((4096 : Int) < (n : Int)) = false := by simp; omega
  have S1 : (w.alloc (.cells #[.int .i64 0, .int .i64 0] 29)).heap.size = w.heap.size + 1 := by simp
  have S1' : Hid (w.heap.size + 1 ≤ (w.alloc (.cells #[.int .i64 0, .int .i64 0] 29)).heap.size) := by show _ ≤ _; omega
  have hs96 : s.size ≤ 4096 := by omega
  clear hs hl hb hA hR hk0 hss hn hz S1
  go_enter Tryz.func28, Tryz.ntmps28
  go_wp2_with (go_at_call 44; refine (kG0 _).mono ?_; rintro e w1 ⟨rfl, hw1⟩; subst hw1; clear kG0)
  go_loopw [5, 6] (fun v u wr => ∃ (k p : Nat) (L : List Tk), k ≤ s.size ∧ u = .int .i64 k ∧ Hid (k = p + gapN (zs.drop p)) ∧ Hid (L.length ≤ k) ∧ Hid (OwnsT wr (w.heap.size + 1) v L) ∧ Hid (Blk wr w.heap.size #[.int .i64 0, .int .i64 0] 29) ∧ Hid (Below w.heap.size w wr) ∧ Hid (w.heap.size + 1 ≤ wr.heap.size) ∧ Hid (L ++ (lexA (zs.drop p) p).1 = LR ∧ (lexA (zs.drop p) p).2 = (YR, AR))) (fun _ u _ => s.size - (intOf u).toNat)
  case atStart => exact ⟨k0, 0, [], hg0, rfl, hk0', Nat.zero_le _, ownsT_nil _ _, K0, B0, S1', hR'⟩
  case round =>
    clear hR' hk0' hg0
    obtain ⟨k, p, L, hk, rfl, hkp, hLk, hO, hK, hB, hS, hE⟩ := hrel
    by_cases hlt : k < s.size
    · have hzl : (k : Int) < ((s.size : Nat) : Int) := by omega
      have kT := tokat_any s k wr hlt hs96
      rw [hbs.out] at kT
      obtain ⟨e1, e2⟩ := lex_next hkp.out (by rw [hlz.out]; exact hlt)
      have hbd := tok_bounds e2 k
      have hlx1 := lex_bad (b := zs.drop p) (p := p) (by rw [e1]; exact e2)
      have hlx2 := lex_tok (b := zs.drop p) (p := p) (by rw [e1]; exact e2)
      rw [e1, ← hkp.out] at hlx1 hlx2
      obtain ⟨⟨⟨K, F, T, X⟩, Y, A⟩, hTK⟩ : ∃ R, tokR (zs.drop k) k = R := ⟨_, rfl⟩
      rw [hTK] at kT hbd hlx1 hlx2
      rw [tok_lit] at kT
      have N0 : Hid (∀ w2, Below wr.heap.size wr w2 → w.heap.size < w2.heap.size) := fun w2 h2 => by have := hS.out; have := h2.size; omega
      by_cases hY : Y = 0
      · have hlx := hlx2 hY
        obtain ⟨q1, q2, q3, q4, q5⟩ := hbd.1 hY
        simp only at q1 q2 q3 hlx
        rw [List.length_drop, hlz.out] at q3
        have hT : T ≤ s.size := by omega
        have hkT : k < T := q2
        have hRR := hE.out
        rw [hlx, List.drop_drop] at hRR
        have eT : p + (T - p) = T := by have := hkp.out; omega
        rw [eT] at hRR
        have hRR' : Hid ((L ++ [⟨K, F, T, X⟩]) ++ (lexA (zs.drop T) T).1 = LR ∧ (lexA (zs.drop T) T).2 = (YR, AR)) := ⟨by rw [← hRR.1]; simp, hRR.2⟩
        have kG1 := kG T hT
        have hgT : T + gapN (zs.drop T) ≤ s.size := by have := gap_le (zs.drop T); rw [List.length_drop, hlz.out] at this; omega
        obtain ⟨k', hk'⟩ : ∃ k', T + gapN (zs.drop T) = k' := ⟨_, rfl⟩
        rw [hk'] at kG1 hgT
        have hk2 : Hid (k' = T + gapN (zs.drop T)) := hk'.symm
        have hTk' : Hid (T ≤ k') := by show _ ≤ _; omega
        have hdec : Hid (s.size - k' < s.size - k) := by show _ < _; have := hTk'.out; omega
        have hL' : Hid ((L ++ [(⟨K, F, T, X⟩ : Tk)]).length ≤ k') := by show _ ≤ _; have := hLk.out; have := hTk'.out; simp; omega
        have hL9 : Hid (L.length ≤ 100000) := by show _ ≤ _; have := hLk.out; omega
        have aY : (((Y : Nat) : Int) != 0) = false := by simp; omega
        obtain ⟨av, nv, cv, rfl, hnv, hcv1, hcv2⟩ := hO.out.form
        have T64 : (T : Int) ≤ 9223372036854775807 := by omega
        clear hRR eT hlx hlx1 hlx2 hE hTK hbd e1 e2 hkp hY kG q1 q2 q3 q4 q5 hk' hkT
        go_wp2_with (first
          | (go_at_call 45; refine kT.mono ?_; rintro e w2 ⟨rfl, hb2⟩; clear kT; have O2 : Hid (OwnsT w2 (w.heap.size + 1) (.slice av nv cv) L) := hO.out.kept hb2; have B2 : Hid (Below w.heap.size w w2) := hB.out.trans (hb2.mono hB.out.size); have S2 : Hid (w.heap.size + 1 ≤ w2.heap.size) := Nat.le_trans hS.out hb2.size; have K2 : Hid (Blk w2 w.heap.size #[.int .i64 0, .int .i64 0] 29) := hK.out.kept hb2 hK.out.lt)
          | (at_builtin; go_loud (refine wpList_append_tok rfl _ _ rfl (w.heap.size + 1) (.slice av nv cv) L ⟨K, F, T, X⟩ rfl O2.out.thrice (w2.heap.size + 1 + 1) rfl (fun j _ => (tok_cells w2 _ _ j).trans Array.getElem?_toList.symm) hL9.out (by have := S2.out; simp; omega) ?_; intro v4 w4 hO4 hg4; obtain ⟨bk4, ks4, bl4, sz4⟩ := tok_append O2.out S2.out hg4; have O4 : Hid (OwnsT w4 (w.heap.size + 1) v4 (L ++ [⟨K, F, T, X⟩])) := hO4; have B4 : Hid (Below w.heap.size w w4) := bl4 w B2.out; have K4 : Hid (Blk w4 w.heap.size #[.int .i64 0, .int .i64 0] 29) := ks4 _ _ K2.out; have S4 : Hid (w.heap.size + 1 ≤ w4.heap.size) := sz4; have d2 : w4.cell? ⟨w2.heap.size, 2, none⟩ = some (.int .i64 (T : Nat)) := bk4.cell 2; have e2 := bk4.fz 2; clear bk4 ks4 bl4 sz4 hO4 hg4))
          | (go_at_call 44; refine (kG1 _).mono ?_; rintro e w5 ⟨rfl, hw5⟩; subst hw5; clear kG1))
        go_roundw
        case rel => exact ⟨k', T, L ++ [⟨K, F, T, X⟩], hgT, rfl, hk2, hL', O4, K4, B4, S4, hRR'⟩
        case measure => simp [intOf]; exact hdec.out
      · have hlx := hlx1 hY
        have hRR := hE.out
        rw [hlx] at hRR
        have aY : (((Y : Nat) : Int) != 0) = true := by simp; omega
        obtain ⟨hL1, hL2⟩ := hRR
        rw [List.append_nil] at hL1
        simp only [Prod.mk.injEq] at hL2
        obtain ⟨rfl, rfl⟩ := hL2
        subst hL1
        obtain ⟨av, nv, cv, rfl, hnv, hcv1, hcv2⟩ := hO.out.form
        clear hlx hlx1 hlx2 hE hTK hbd e1 e2 hkp hY kG
        go_wp2_with (go_at_call 45; refine kT.mono ?_; rintro e w2 ⟨rfl, hb2⟩; clear kT; have K2 := hK.out.kept hb2 hK.out.lt; have c0 : w2.cell? ⟨w.heap.size, 0, none⟩ = some (.int .i64 0) := K2.cell 0; have c1 : w2.cell? ⟨w.heap.size, 1, none⟩ = some (.int .i64 0) := K2.cell 1; have f0 := K2.fz 0; have f1 := K2.fz 1; have N2 := N0.out w2 hb2; have O2 : Hid (OwnsT w2 (w.heap.size + 1) (.slice av nv cv) L) := hO.out.kept hb2; have B2 : Hid (Below w.heap.size w w2) := hB.out.trans (hb2.mono hB.out.size); clear K2)
        go_region
        all_goals
          go_wp2
          have h4 : Below w.heap.size w ((w2.setCell ⟨w.heap.size, 0, none⟩ (.int .i64 (Y : Nat))).setCell ⟨w.heap.size, 1, none⟩ (.int .i64 (A : Nat))) := by
            refine Below.setCell (Below.setCell B2.out ?_ _) ?_ _ <;> simp
          have hh : ∀ j, w.heap.size + 1 ≤ j → ((w2.setCell ⟨w.heap.size, 0, none⟩ (.int .i64 (Y : Nat))).setCell ⟨w.heap.size, 1, none⟩ (.int .i64 (A : Nat))).heap[j]? = w2.heap[j]? := fun j hj => ((Kq.set w.heap.size (j + 1) _ 1 _).block j (by omega) (by omega)).trans ((Kq.set w.heap.size (j + 1) _ 0 _).block j (by omega) (by omega))
          have h5 := (O2.out.move fun j hj _ => hh j hj)
          have h6 := (alloc_below ((w2.setCell ⟨w.heap.size, 0, none⟩ (.int .i64 (Y : Nat))).setCell ⟨w.heap.size, 1, none⟩ (.int .i64 (A : Nat))) (.cells #[.int .i64 (K : Nat), .int .i64 (F : Nat), .int .i64 (T : Nat), .string (strOfNums X)] 40))
          have h7 := alloc_below (((w2.setCell ⟨w.heap.size, 0, none⟩ (.int .i64 (Y : Nat))).setCell ⟨w.heap.size, 1, none⟩ (.int .i64 (A : Nat))).alloc (.cells #[.int .i64 (K : Nat), .int .i64 (F : Nat), .int .i64 (T : Nat), .string (strOfNums X)] 40)) (.cells #[.int .i64 (Y : Nat), .int .i64 (A : Nat)] 29)
          refine bodyPost_ret (v := .tuple #[.slice av nv cv, .agg #[.int .i64 (Y : Nat), .int .i64 (A : Nat)]]) (by simp [results, Tryz.results28, go_sem, *]) rfl ⟨.slice av nv cv, rfl, ?_, ?_⟩
          · exact (((h5.kept h6).kept h7) : OwnsT ((((w2.setCell ⟨w.heap.size, 0, none⟩ (.int .i64 (Y : Nat))).setCell ⟨w.heap.size, 1, none⟩ (.int .i64 (A : Nat))).alloc (.cells #[.int .i64 (K : Nat), .int .i64 (F : Nat), .int .i64 (T : Nat), .string (strOfNums X)] 40)).alloc (.cells #[.int .i64 (Y : Nat), .int .i64 (A : Nat)] 29)) _ _ _).move fun j _ _ => rfl
          · exact (((h4.alloc h4.size _).alloc (h4.alloc h4.size _).size _)).drew
    · have hzl : ¬ (k : Int) < ((s.size : Nat) : Int) := by omega
      have hend : (zs.drop p).drop (gapN (zs.drop p)) = [] := by rw [List.drop_drop, ← hkp.out]; exact List.drop_of_length_le (by rw [hlz.out]; omega)
      have hRR := hE.out
      rw [lex_end hend] at hRR
      obtain ⟨hL1, hL2⟩ := hRR
      rw [List.append_nil] at hL1
      simp only [Prod.mk.injEq] at hL2
      obtain ⟨rfl, rfl⟩ := hL2
      subst hL1
      obtain ⟨av, nv, cv, rfl, hnv, hcv1, hcv2⟩ := hO.out.form
      have c0 : wr.cell? ⟨w.heap.size, 0, none⟩ = some (.int .i64 0) := hK.out.cell 0
      have c1 : wr.cell? ⟨w.heap.size, 1, none⟩ = some (.int .i64 0) := hK.out.cell 1
      have f0 := hK.out.fz 0
      have f1 := hK.out.fz 1
      clear hE hend hkp kG
      go_wp2
      refine bodyPost_ret (v := .tuple #[.slice av nv cv, .agg #[.int .i64 0, .int .i64 0]]) (by simp [results, Tryz.results28, go_sem, *]) rfl ⟨.slice av nv cv, rfl, ?_, ?_⟩
      · have hh : ∀ j, w.heap.size + 1 ≤ j → ((wr.setCell ⟨w.heap.size, 0, none⟩ (.int .i64 0)).setCell ⟨w.heap.size, 1, none⟩ (.int .i64 0)).heap[j]? = wr.heap[j]? := fun j hj => ((Kq.set w.heap.size (j + 1) _ 1 _).block j (by omega) (by omega)).trans ((Kq.set w.heap.size (j + 1) _ 0 _).block j (by omega) (by omega))
        exact hO.out.move fun j hj _ => hh j hj
      · refine Below.setCell (Below.setCell hB.out ?_ _) ?_ _ <;> simp
end Go.Proofs.YtmlacmoembjeoaaGreatDoor
