/-
  Stage 15: the walk of the statement: no beginning of a list's bytes is one.
-/
import Derived.Test.YtgfnohgpmmaocaaDoorLwc
namespace Go.Proofs.YtgfnohgpmmaocaaDoor
open Go.RowKit
set_option linter.unusedVariables false
set_option linter.unusedSimpArgs false

theorem rem_fit {x : Int} {r : Nat} (hr : 1 ≤ r) (h4 : r ≤ 2000000) : ∃ c : Nat, c < r ∧ IntKind.i64.wrap (x.tmod r + r) = x.tmod r + r ∧ (x.tmod r + r).tmod r = (c : Int) ∧ wrap64 (x.tmod r + r) = x.tmod r + r := by
  have h1 : -(r : Int) < x.tmod r := by
    have := Int.natAbs_tmod x r
    have h2 : x.natAbs % (r : Int).natAbs < (r : Int).natAbs := Nat.mod_lt _ (by omega)
    omega
  have h2 : x.tmod r < r := by
    have := Int.natAbs_tmod x r
    have h2 : x.natAbs % (r : Int).natAbs < (r : Int).natAbs := Nat.mod_lt _ (by omega)
    omega
  have e2 : IntKind.i64.wrap (x.tmod r + r) = x.tmod r + r := by rw [IntKind.wrap_i64]; omega
  obtain ⟨m, hm⟩ : ∃ m : Nat, x.tmod r + r = (m : Int) := ⟨(x.tmod r + r).toNat, by omega⟩
  refine ⟨m % r, Nat.mod_lt _ (by omega), e2, ?_, by unfold wrap64; omega⟩
  rw [hm]
  simp [Int.tmod]

set_option maxHeartbeats 4000000 in
theorem wheads (a : Option Addr) (n cap : Nat) (L : List Ls) (x : Int) (w : World) (h : LsArg w a n cap L) :
    Calls Tryd.prog 8 #[.slice a n cap, .int .i64 x] w fun e w' => e = .returned (.bool true) ∧ Below w.heap.size w w' := by
  obtain ⟨hl, hnc, hcm, hn, hL⟩ := h
  have k1 := build_any a n cap L w hl hL hn hnc hcm
  have hn64 := lss_n64 hL
  have hbl := bld_len L hn64
  clear hL
  by_cases h0 : (bldA L).2 = 0
  · obtain ⟨e1, _⟩ := par_back L hn64 h0
    have hpos : 1 ≤ (bldA L).1.length := by
      rw [e1, List.length_append]
      have := shortL_pos L.length
      omega
    have hH : Hid ((∀ c ∈ (bldA L).1, 0 ≤ c ∧ c < 256) → ∀ c, c < (bldA L).1.length → parA ((bldA L).1.take c) = ([], 3, c)) := fun hz c hc => par_heads L hn64 h0 hz c hc
    rw [h0] at k1
    clear e1 h0 hn64
    generalize (bldA L).1 = zb at *
    go_enter Tryd.func8, Tryd.ntmps8
    go_wp2_with fail
    refine k1.mono ?_
    rintro e w1 ⟨v1, rfl, hO1, hB1⟩
    clear k1
    obtain ⟨a1, n1, c1, rfl, hl1, hn1, hc1, hm1, hb1⟩ := hO1.out.form
    have hzl := hl1.out
    subst hzl
    obtain ⟨m, hm, q1, q2, q3⟩ := rem_fit (x := x) (r := zb.length) hpos hbl
    obtain ⟨g, off, rfl⟩ := bytes_some hb1.out (by omega)
    have hP := hH.out hb1.out.1 m hm
    have kP : Hid (∀ wx, Below w1.heap.size w1 wx → Calls Tryd.prog 13 #[.slice (some ⟨g, off, none⟩) m c1] wx fun e w' => ∃ (v : Value) (L : List (Value × Ls)), e = .returned (.tuple #[v, .agg #[.int .i64 3, .int .i64 (m : Nat)]]) ∧ Hid (Below wx.heap.size wx w')) := fun wx hx => by
      have k := parse_any (some ⟨g, off, none⟩) m c1 (zb.take m) wx (by rw [List.length_take]; omega) ((hb1.out.kept hx).take m) (fun h => by cases h) (by omega)
      rw [hP] at k
      refine k.mono ?_
      rintro e w' ⟨v, L, rfl, _, hb⟩
      exact ⟨v, L, rfl, hb⟩
    have hr : ¬ (zb.length : Int) = 0 := by omega
    have hr' : ¬ zb.length = 0 := by omega
    have hmc : m ≤ c1 := by omega
    have hmc' : (m : Int) ≤ (c1 : Int) := by omega
    clear hO1 hb1 hH hP
    go_wp2_with (first
      | (go_at_call 13; go_loud (refine (kP.out _ (Below.refl _ _)).mono ?_; rintro e w2 ⟨v2, L2, rfl, hb2⟩; have hBw : Hid (Below w.heap.size w (w2.alloc (.cells #[.int .i64 3, .int .i64 (m : Nat)] 33))) := (hB1.out.trans (hb2.out.mono hB1.out.size)).alloc (Nat.le_trans hB1.out.size hb2.out.size) _))
      | (go_at_call 12; go_loud (refine (alive_any _).mono ?_; rintro e w4 ⟨rfl, hb4⟩)))
    go_ret
    exact ⟨rfl, hBw.out.trans (hb4.out.mono hBw.out.size)⟩
  · generalize (bldA L).2 = y at *
    have hy : ((y : Int) != 0) = true := by rw [bne_iff_ne]; omega
    go_enter Tryd.func8, Tryd.ntmps8
    go_wp2_with fail
    refine k1.mono ?_
    rintro e w1 ⟨v1, rfl, hO1, hB1⟩
    clear k1
    obtain ⟨a1, n1, c1, rfl, hl1, hn1, hc1, hm1, hb1⟩ := hO1.out.form
    clear hO1 hb1
    go_wp2_with (go_at_call 12; go_loud (refine (alive_any w1).mono ?_; rintro e w4 ⟨rfl, hb4⟩))
    go_ret
    exact ⟨rfl, hB1.out.trans (hb4.out.mono hB1.out.size)⟩
end Go.Proofs.YtgfnohgpmmaocaaDoor
