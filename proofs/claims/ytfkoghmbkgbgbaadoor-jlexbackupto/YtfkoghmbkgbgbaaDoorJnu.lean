/-
  The number that begins at a place: jlex.numberAt, the walk.
-/
import Derived.Test.YtfkoghmbkgbgbaaDoorJnm
namespace Go.Proofs.YtfkoghmbkgbgbaaDoor
open Go.RowKit
set_option linter.unusedVariables false

theorem tok_set {w w3 : World} {g : Nat} (h : TB w w3) (hg : w.heap.size + 1 < g) (u v : Value) : TB w ((w3.setCell ⟨g, 0, none⟩ u).setCell ⟨g, 1, none⟩ v) := by
  have k1 := Kq.set g g w3 0 u
  have k2 := Kq.set g g (w3.setCell ⟨g, 0, none⟩ u) 1 v
  have k := k1.trans k2
  exact ⟨h.tok.kq k (by omega) (by omega), h.flt.kq k (by omega) (by omega), h.bel.trans ((k.below (Nat.le_refl _)).mono (by omega))⟩
set_option maxHeartbeats 8000000 in
set_option maxRecDepth 100000 in
/-- jlex.numberAt. -/
theorem numat_any (s : ByteArray) (p : Nat) (w : World) (hp : p < s.size) (hs : s.size ≤ 4096) :
    Calls Tryd.prog 34 #[.string s, .int .i64 (p : Int)] w fun e w' => e = .returned (tokV (nuT ((bs s).drop p) p)) ∧ Below w.heap.size w w' := by
  have T0 : Hid (TB w ((w.alloc (.cells #[.int .i64 0, .int .i64 0, .int .i64 0, .string ⟨#[]⟩] 41)).alloc (.cells #[.int .i64 0, .int .i64 0] 26))) := tb_new w
  have kA := parse_any (s.extract p s.size) ((w.alloc (.cells #[.int .i64 0, .int .i64 0, .int .i64 0, .string ⟨#[]⟩] 41)).alloc (.cells #[.int .i64 0, .int .i64 0] 26))
  have hsz : (s.extract p s.size).size = s.size - p := ext_size (by omega)
  have hP := parse_of (s.extract p s.size) (by omega)
  rw [bs_from] at hP
  have hbl : ((bs s).drop p).length = s.size - p := by rw [List.length_drop, bs_len]
  have hnb := nu_bounds ((bs s).drop p) 0 0
  obtain ⟨k, hk⟩ : ∃ k, (nuF ((bs s).drop p) 0 0).1 = k := ⟨_, rfl⟩
  obtain ⟨q, hq⟩ : ∃ q, (nuF ((bs s).drop p) 0 0).2 = q := ⟨_, rfl⟩
  have hU : nuT ((bs s).drop p) p = if endS q = true then (⟨8, p, p + k, ((bs s).drop p).take k⟩, 0, 0) else if k = ((bs s).drop p).length then (z0, 3, p + ((bs s).drop p).length) else (z0, 5, p + k) := by unfold nuT; rw [hk, hq]
  rw [hU]
  rw [hk, hq, hbl] at hP
  rw [hk, hbl] at hnb
  obtain ⟨n1, hn1⟩ : ∃ n1, (parseA (s.extract p s.size)).1.1 = n1 := ⟨_, rfl⟩
  obtain ⟨d1, hd1⟩ : ∃ d1, (parseA (s.extract p s.size)).1.2.1 = d1 := ⟨_, rfl⟩
  obtain ⟨x1, hx1⟩ : ∃ x1, (parseA (s.extract p s.size)).1.2.2 = x1 := ⟨_, rfl⟩
  rw [hn1, hd1, hx1] at kA
  clear hU hn1 hd1 hx1
  have y0 : (0 : Int) ≤ (p : Int) := by omega
  have y1 : (p : Int) ≤ ((s.size : Nat) : Int) := by omega
  have e2 : bs (s.extract p (p + k)) = ((bs s).drop p).take k := by
    rw [bs_ext, List.drop_take]
    congr 1
    omega
  have etx : strOfNums (((bs s).drop p).take k) = s.extract p (p + k) := by rw [← e2, str_bs]
  have hV8 : tokV (⟨8, p, p + k, ((bs s).drop p).take k⟩, 0, 0) = .tuple #[.agg #[.int .i64 8, .int .i64 (p : Int), .int .i64 ((p + k : Nat) : Int), .string (s.extract p (p + k))], .agg #[.int .i64 0, .int .i64 0]] := by unfold tokV; rw [← etx]; rfl
  have hVf : ∀ y a : Nat, tokV (z0, y, a) = .tuple #[.agg #[.int .i64 0, .int .i64 0, .int .i64 0, .string ⟨#[]⟩], .agg #[.int .i64 (y : Int), .int .i64 (a : Int)]] := fun y a => rfl
  have hx2 : k ≤ s.size - p → (s.extract p (p + k)).size = k := fun h => by rw [← bs_len, e2, List.length_take, hbl]; omega
  by_cases hlt : k < s.size - p
  · have hY1 : (parseA (s.extract p s.size)).2.1 = 5 := by rw [hP.1 hlt]
    have hY2 : (parseA (s.extract p s.size)).2.2 = (k : Nat) := by rw [hP.1 hlt]
    rw [hY1, hY2] at kA
    have hx3 := hx2 (by omega)
    have hP2 := parse_of (s.extract p (p + k)) (by omega)
    rw [e2] at hP2
    have hnt := nu_take ((bs s).drop p) 0 0
    rw [hk, Nat.sub_zero] at hnt
    rw [hnt, hk, hq] at hP2
    have hl2 : (((bs s).drop p).take k).length = k := by rw [List.length_take, hbl]; omega
    rw [hl2, hx3] at hP2
    have hP3 := hP2.2 rfl
    have hkB := fun w' => parse_any (s.extract p (p + k)) w'
    obtain ⟨n2, hn2⟩ : ∃ n1, (parseA (s.extract p (p + k))).1.1 = n1 := ⟨_, rfl⟩
    obtain ⟨d2, hd2⟩ : ∃ d1, (parseA (s.extract p (p + k))).1.2.1 = d1 := ⟨_, rfl⟩
    obtain ⟨x2, hxx⟩ : ∃ x1, (parseA (s.extract p (p + k))).1.2.2 = x1 := ⟨_, rfl⟩
    rw [hn2, hd2, hxx] at hkB
    have W1 : IntKind.i64.wrap ((p : Int) + (k : Int)) = ((p + k : Nat) : Int) := by rw [IntKind.wrap_i64]; omega
    have y2 : (p : Int) ≤ ((p + k : Nat) : Int) := by omega
    have y3 : ((p + k : Nat) : Int) ≤ ((s.size : Nat) : Int) := by omega
    clear hn2 hd2 hxx hP hP2 hnt hl2 hY1 hY2
    by_cases he : endS q = true
    · obtain ⟨h5, h3⟩ := hP3.1 he
      rw [if_pos he, hV8]
      have kC := fun w' => clone_any (s.extract p (p + k)) w' (by omega)
      obtain ⟨Y, hY⟩ : ∃ Y, (parseA (s.extract p (p + k))).2.1 = Y := ⟨_, rfl⟩
      obtain ⟨Z, hZ⟩ : ∃ Z, (parseA (s.extract p (p + k))).2.2 = Z := ⟨_, rfl⟩
      rw [hY, hZ] at hkB
      rw [hY] at h5 h3
      have a3 : (Y == 3) = false := by simp [h3]
      clear hY hZ h5 h3 hP3 he hx2 hx3 e2 etx hbl hnb hsz hk hq hV8 hVf hlt
      generalize p + k = PK at *
      go_enter Tryd.func34, Tryd.ntmps34
      go_wp2_with (first
        | (go_at_call 53; refine kA.mono ?_; rintro e w1 ⟨rfl, hb1⟩; clear kA; have T1 : Hid (TB w w1) := T0.out.on hb1; have A1 := alloc_below w1 (.cells #[.bool n1, .string d1, .int .i64 x1] 87); have A2 := alloc_below (w1.alloc (.cells #[.bool n1, .string d1, .int .i64 x1] 87)) (.cells #[.int .i64 5, .int .i64 (k : Nat)] 26); have s1 : (w1.alloc (.cells #[.bool n1, .string d1, .int .i64 x1] 87)).heap.size = w1.heap.size + 1 := (by simp); have T2 : Hid (TB w ((w1.alloc (.cells #[.bool n1, .string d1, .int .i64 x1] 87)).alloc (.cells #[.int .i64 5, .int .i64 (k : Nat)] 26))) := T1.out.on (A1.trans (A2.mono (by omega))); have K2 : Hid (Blk ((w1.alloc (.cells #[.bool n1, .string d1, .int .i64 x1] 87)).alloc (.cells #[.int .i64 5, .int .i64 (k : Nat)] 26)) (w1.heap.size + 1) #[.int .i64 5, .int .i64 (k : Nat)] 26) := (by (rw [← s1]; exact blk_new _ _ _)); clear s1 A1 A2)
        | (go_at_call 53; refine (hkB _).mono ?_; rintro e w3 ⟨rfl, hb3⟩; clear hkB; have T3 : Hid (TB w w3) := T2.out.on hb3; have K3 := K2.out.kept hb3 K2.out.lt; have g0 : w3.cell? ⟨w1.heap.size + 1, 0, none⟩ = some (.int .i64 5) := K3.cell 0; have g1 : w3.cell? ⟨w1.heap.size + 1, 1, none⟩ = some (.int .i64 (k : Nat)) := K3.cell 1; have q0 := K3.fz 0; have q1 := K3.fz 1; have N1 : Hid (w.heap.size + 1 < w1.heap.size + 1) := (by have := T1.out.flt.lt; show _ < _; omega); have T4 : Hid (TB w ((w3.setCell ⟨w1.heap.size + 1, 0, none⟩ (.int .i64 Y)).setCell ⟨w1.heap.size + 1, 1, none⟩ (.int .i64 Z))) := tok_set T3.out N1.out _ _; clear K3)
        | (go_at_call 54; refine (kC _).mono ?_; rintro e w5 ⟨rfl, hb5⟩; clear kC; have T5 : Hid (TB w w5) := T4.out.on hb5; obtain ⟨c0, c1, c2, c3, c4, c5⟩ := T5.out.cells; obtain ⟨f0, f1, f2, f3, f4, f5⟩ := T5.out.fz))
      refine bodyPost_ret (v := .tuple #[.agg #[.int .i64 8, .int .i64 (p : Int), .int .i64 (PK : Nat), .string (s.extract p PK)], .agg #[.int .i64 0, .int .i64 0]]) (by simp [results, Tryd.results34, go_sem, *]) rfl ⟨rfl, ?_⟩
      refine Below.setCell (Below.setCell (Below.setCell (Below.setCell (Below.setCell (Below.setCell T5.out.bel ?_ _) ?_ _) ?_ _) ?_ _) ?_ _) ?_ _ <;> simp
    · have he' : endS q = false := by simpa using he
      have hQ := hP3.2 he'
      have hY1 : (parseA (s.extract p (p + k))).2.1 = 3 := by rw [hQ]
      have hY2 : (parseA (s.extract p (p + k))).2.2 = (k : Nat) := by rw [hQ]
      rw [hY1, hY2] at hkB
      rw [if_neg he, if_neg (by rw [hbl]; omega), hVf]
      clear hQ hY1 hY2 hP3 he he' hx2 hx3 e2 etx hbl hnb hsz hk hq hV8 hVf hlt
      generalize p + k = PK at *
      go_enter Tryd.func34, Tryd.ntmps34
      go_wp2_with (first
        | (go_at_call 53; refine kA.mono ?_; rintro e w1 ⟨rfl, hb1⟩; clear kA; have T1 : Hid (TB w w1) := T0.out.on hb1; have A1 := alloc_below w1 (.cells #[.bool n1, .string d1, .int .i64 x1] 87); have A2 := alloc_below (w1.alloc (.cells #[.bool n1, .string d1, .int .i64 x1] 87)) (.cells #[.int .i64 5, .int .i64 (k : Nat)] 26); have s1 : (w1.alloc (.cells #[.bool n1, .string d1, .int .i64 x1] 87)).heap.size = w1.heap.size + 1 := (by simp); have T2 : Hid (TB w ((w1.alloc (.cells #[.bool n1, .string d1, .int .i64 x1] 87)).alloc (.cells #[.int .i64 5, .int .i64 (k : Nat)] 26))) := T1.out.on (A1.trans (A2.mono (by omega))); have K2 : Hid (Blk ((w1.alloc (.cells #[.bool n1, .string d1, .int .i64 x1] 87)).alloc (.cells #[.int .i64 5, .int .i64 (k : Nat)] 26)) (w1.heap.size + 1) #[.int .i64 5, .int .i64 (k : Nat)] 26) := (by (rw [← s1]; exact blk_new _ _ _)); clear s1 A1 A2)
        | (go_at_call 53; refine (hkB _).mono ?_; rintro e w3 ⟨rfl, hb3⟩; clear hkB; have T3 : Hid (TB w w3) := T2.out.on hb3; have K3 := K2.out.kept hb3 K2.out.lt; have g0 : w3.cell? ⟨w1.heap.size + 1, 0, none⟩ = some (.int .i64 5) := K3.cell 0; have g1 : w3.cell? ⟨w1.heap.size + 1, 1, none⟩ = some (.int .i64 (k : Nat)) := K3.cell 1; have q0 := K3.fz 0; have q1 := K3.fz 1; have N1 : Hid (w.heap.size + 1 < w1.heap.size + 1) := (by have := T1.out.flt.lt; show _ < _; omega); have T4 : Hid (TB w ((w3.setCell ⟨w1.heap.size + 1, 0, none⟩ (.int .i64 3)).setCell ⟨w1.heap.size + 1, 1, none⟩ (.int .i64 (k : Nat)))) := tok_set T3.out N1.out _ _; clear K3; obtain ⟨c0, c1, c2, c3, c4, c5⟩ := T4.out.cells; obtain ⟨f0, f1, f2, f3, f4, f5⟩ := T4.out.fz))
      refine bodyPost_ret (v := .tuple #[.agg #[.int .i64 0, .int .i64 0, .int .i64 0, .string ⟨#[]⟩], .agg #[.int .i64 5, .int .i64 (PK : Nat)]]) (by simp [results, Tryd.results34, go_sem, *]) rfl ⟨rfl, ?_⟩
      refine Below.setCell (Below.setCell (Below.setCell (Below.setCell (Below.setCell (Below.setCell T4.out.bel ?_ _) ?_ _) ?_ _) ?_ _) ?_ _) ?_ _ <;> simp
  · have hkl : k = s.size - p := by omega
    have hP1 := hP.2 hkl
    have hpk : p + k = s.size := by omega
    by_cases he : endS q = true
    · obtain ⟨h5, h3⟩ := hP1.1 he
      rw [if_pos he, hV8, hpk]
      have kC := fun w' => clone_any (s.extract p s.size) w' (by omega)
      obtain ⟨Y, hY⟩ : ∃ Y, (parseA (s.extract p s.size)).2.1 = Y := ⟨_, rfl⟩
      obtain ⟨Z, hZ⟩ : ∃ Z, (parseA (s.extract p s.size)).2.2 = Z := ⟨_, rfl⟩
      rw [hY, hZ] at kA
      rw [hY] at h5 h3
      have a3 : (Y == 3) = false := by simp [h3]
      have a5 : (Y == 5) = false := by simp [h5]
      have y4 : ((s.size : Nat) : Int) ≤ ((s.size : Nat) : Int) := by omega
      clear hY hZ h5 h3 hP hP1 he hx2 e2 etx hbl hnb hsz hk hq hV8 hVf hlt hkl hpk
      go_enter Tryd.func34, Tryd.ntmps34
      go_wp2_with (first
        | (go_at_call 53; refine kA.mono ?_; rintro e w1 ⟨rfl, hb1⟩; clear kA; have T1 : Hid (TB w w1) := T0.out.on hb1; have A1 := alloc_below w1 (.cells #[.bool n1, .string d1, .int .i64 x1] 87); have A2 := alloc_below (w1.alloc (.cells #[.bool n1, .string d1, .int .i64 x1] 87)) (.cells #[.int .i64 Y, .int .i64 Z] 26); have s1 : (w1.alloc (.cells #[.bool n1, .string d1, .int .i64 x1] 87)).heap.size = w1.heap.size + 1 := (by simp); have T2 : Hid (TB w ((w1.alloc (.cells #[.bool n1, .string d1, .int .i64 x1] 87)).alloc (.cells #[.int .i64 Y, .int .i64 Z] 26))) := T1.out.on (A1.trans (A2.mono (by omega))); have K2 : Hid (Blk ((w1.alloc (.cells #[.bool n1, .string d1, .int .i64 x1] 87)).alloc (.cells #[.int .i64 Y, .int .i64 Z] 26)) (w1.heap.size + 1) #[.int .i64 Y, .int .i64 Z] 26) := (by (rw [← s1]; exact blk_new _ _ _)); clear s1 A1 A2)
        | (go_at_call 54; refine (kC _).mono ?_; rintro e w5 ⟨rfl, hb5⟩; clear kC; have T5 : Hid (TB w w5) := T2.out.on hb5; obtain ⟨c0, c1, c2, c3, c4, c5⟩ := T5.out.cells; obtain ⟨f0, f1, f2, f3, f4, f5⟩ := T5.out.fz))
      refine bodyPost_ret (v := .tuple #[.agg #[.int .i64 8, .int .i64 (p : Int), .int .i64 (s.size : Nat), .string (s.extract p s.size)], .agg #[.int .i64 0, .int .i64 0]]) (by simp [results, Tryd.results34, go_sem, *]) rfl ⟨rfl, ?_⟩
      refine Below.setCell (Below.setCell (Below.setCell (Below.setCell (Below.setCell (Below.setCell T5.out.bel ?_ _) ?_ _) ?_ _) ?_ _) ?_ _) ?_ _ <;> simp
    · have he' : endS q = false := by simpa using he
      have hQ := hP1.2 he'
      have hY1 : (parseA (s.extract p s.size)).2.1 = 3 := by rw [hQ]
      have hY2 : (parseA (s.extract p s.size)).2.2 = ((s.extract p s.size).size : Nat) := by rw [hQ]
      rw [hY1, hY2] at kA
      rw [if_neg he, if_pos (by rw [hbl]; omega), hVf, hbl, show p + (s.size - p) = s.size from by omega]
      generalize (s.extract p s.size).size = Z at *
      clear hQ hY1 hY2 hP hP1 he he' hx2 e2 etx hbl hnb hsz hk hq hV8 hVf hlt hkl hpk
      go_enter Tryd.func34, Tryd.ntmps34
      go_wp2_with (first
        | (go_at_call 53; refine kA.mono ?_; rintro e w1 ⟨rfl, hb1⟩; clear kA; have T1 : Hid (TB w w1) := T0.out.on hb1; have A1 := alloc_below w1 (.cells #[.bool n1, .string d1, .int .i64 x1] 87); have A2 := alloc_below (w1.alloc (.cells #[.bool n1, .string d1, .int .i64 x1] 87)) (.cells #[.int .i64 3, .int .i64 (Z : Nat)] 26); have s1 : (w1.alloc (.cells #[.bool n1, .string d1, .int .i64 x1] 87)).heap.size = w1.heap.size + 1 := (by simp); have T2 : Hid (TB w ((w1.alloc (.cells #[.bool n1, .string d1, .int .i64 x1] 87)).alloc (.cells #[.int .i64 3, .int .i64 (Z : Nat)] 26))) := T1.out.on (A1.trans (A2.mono (by omega))); have K2 : Hid (Blk ((w1.alloc (.cells #[.bool n1, .string d1, .int .i64 x1] 87)).alloc (.cells #[.int .i64 3, .int .i64 (Z : Nat)] 26)) (w1.heap.size + 1) #[.int .i64 3, .int .i64 (Z : Nat)] 26) := (by (rw [← s1]; exact blk_new _ _ _)); clear s1 A1 A2; obtain ⟨c0, c1, c2, c3, c4, c5⟩ := T2.out.cells; obtain ⟨f0, f1, f2, f3, f4, f5⟩ := T2.out.fz))
      refine bodyPost_ret (v := .tuple #[.agg #[.int .i64 0, .int .i64 0, .int .i64 0, .string ⟨#[]⟩], .agg #[.int .i64 3, .int .i64 (s.size : Nat)]]) (by simp [results, Tryd.results34, go_sem, *]) rfl ⟨rfl, ?_⟩
      refine Below.setCell (Below.setCell (Below.setCell (Below.setCell (Below.setCell (Below.setCell T2.out.bel ?_ _) ?_ _) ?_ _) ?_ _) ?_ _) ?_ _ <;> simp
end Go.Proofs.YtfkoghmbkgbgbaaDoor
