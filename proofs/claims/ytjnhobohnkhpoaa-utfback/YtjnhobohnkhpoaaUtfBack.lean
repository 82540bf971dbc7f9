/-
  For every list of numbers: the bytes of those that are characters, one behind the other, are a text of these, and as many; and a character is read and written, and a wrong byte told; the list stays as it was.
-/
import Derived.Test.YtjnhobohnkhpoaaRows
import Derived.Test.YtjnhobohnkhpoaaCount
import Derived.Test.YtjnhobohnkhpoaaAlive
import Derived.WalkKit
import Derived.ProofKit
import Derived.OpenShut
import Derived.ShutString
import Derived.ChangeOld
import Derived.Below
import Derived.SizedLaws
namespace Go.Proofs.Ytjnhobohnkhpoaa.utfBack
open Go.ChangeShapes Go.WideShapes Go.ChangeAt Go.RowKit
open Go.ChangeMaps (open_string shut_string)
set_option linter.unusedVariables false

theorem own : ownKnob Try.prog.godebug = none := by kernel_rfl
theorem laidOut : laidOutB Try.prog = true := by kernel_rfl
theorem bytes_e : Try.prog.bytesOf 5 = 1 := by kernel_rfl

theorem ints_of_row {w : World} {a : Option Addr} {len cap : Nat} {zs : List Int} (h : IsRow .i32 w a len cap zs) : (zs.take len).length = len ∧ Ints w a (zs.take len) := by
  rcases h with ⟨rfl, rfl, rfl, rfl⟩ | ⟨x, rfl, hl, hm, hz, hcell, hwz⟩
  · exact ⟨rfl, by simp, .inl (by simp)⟩
  · have hlen : (zs.take len).length = len := by rw [List.length_take]; omega
    refine ⟨hlen, by omega, ?_⟩
    by_cases h0 : len = 0
    · left; subst h0; simp
    · right
      obtain ⟨b, off, spot⟩ := x
      have hc := hcell 0 (by omega)
      have hspot : spot = none := by simpa [Addr.add] using World.cell?_spot hc
      subst hspot
      refine ⟨b, off, rfl, fun i hi => ?_⟩
      have hi' : i < len := by omega
      have := hcell i (by omega)
      rw [List.getD_eq_getElem?_getD, List.getElem?_take, if_pos hi', ← List.getD_eq_getElem?_getD]
      by_cases h1 : i = 0
      · subst h1; simpa [Addr.add] using this
      · simpa [Addr.add, h1] using this
theorem irow_le {w : World} {a : Option Addr} {len cap : Nat} {zs : List Int} (h : IsRow .i32 w a len cap zs) : len ≤ cap ∧ cap ≤ maxLen := by
  rcases h with ⟨rfl, rfl, rfl, rfl⟩ | ⟨x, rfl, hl, hm, _⟩
  · exact ⟨Nat.le_refl _, Nat.zero_le _⟩
  · exact ⟨hl, hm⟩
theorem ownsB_base {w : World} {base base' : Nat} {v : Value} {l : List Int} (h : OwnsB w base v l) (hB : base' ≤ base) : OwnsB w base' v l := by
  obtain ⟨⟨hl, hv⟩, hz⟩ := h
  refine ⟨⟨hl, ?_⟩, hz⟩
  rcases hv with ⟨rfl, hn⟩ | ⟨g, cap, cur, rfl, hb, hr⟩
  · exact .inl ⟨rfl, hn⟩
  · exact .inr ⟨g, cap, cur, rfl, by omega, hr⟩
theorem all_snoc (ls : List Nat) (r : Nat) : encAll (ls ++ [r]) = encAll ls ++ encL r := by simp [encAll]
theorem all_len (ls : List Nat) : (encAll ls).length ≤ 4 * ls.length := by
  induction ls with
  | nil => simp [encAll]
  | cons r ls ih =>
    have h := enc_len r
    have e : encAll (r :: ls) = encL r ++ encAll ls := by simp [encAll]
    rw [e, List.length_append, List.length_cons]
    omega
/-- Bytes, and their characters, that were put. -/
def Put2 (w : World) (base : Nat) (v u : Value) (ls : List Nat) : Prop := OwnsB w base v (encAll ls) ∧ OwnsI w base u (ints ls) ∧ ∀ r ∈ ls, Right r

/-- A row of bytes stays where a row of runes grows. -/
theorem own_other {w w' : World} {base base2 : Nat} {v u : Value} {zs ls : List Int} {o : Obj} (h : OwnsB w base v zs) (hu : OwnsI w base2 u ls) (hg : (w.alloc o).grownBy w' u.ownBlock) : OwnsB w' base v zs := by
  refine ⟨(h.alloc o).1.kept hg ?_, h.2⟩
  obtain ⟨_, hv⟩ := h.1
  obtain ⟨_, hw⟩ := hu
  rcases hv with ⟨rfl, _⟩ | ⟨g, cap, cur, rfl, _, hg1, _⟩
  · left; rfl
  · rcases hw with ⟨rfl, _⟩ | ⟨g', cap', cur', rfl, _, hg2, _⟩
    · right; intro h; cases h
    · right
      intro h
      have e : g = g' := by simpa [Value.ownBlock] using h
      subst e
      rw [hg1] at hg2
      simp at hg2
set_option maxHeartbeats 4000000 in
theorem walk (a0 : Option Addr) (len0 cap0 : Nat) (z0 : List Int) (w : World) (w0 : IsRow .i32 w a0 len0 cap0 z0) (r0 : cap0 ≤ 35184372087808) :
    Calls Try.prog 6 #[.slice a0 len0 cap0] w fun e w' => e = .returned (.bool true) ∧ Below w.heap.size w w' := by
  obtain ⟨hl, hb⟩ := ints_of_row w0
  obtain ⟨hlc, hcm⟩ := irow_le w0
  generalize z0.take len0 = zs at *
  have hB : Hid (Ints w a0 zs) := hb
  have hL : Hid (zs.length = len0) := hl
  clear hb hl w0
  unfold maxLen at hcm
  go_enter Try.func6, Try.ntmps6
  go_wp2
  go_loopw [3, 4, 13] (fun v u i wr => ∃ (k : Nat) (ls : List Nat), k ≤ len0 ∧ i = .int .i64 k ∧ Hid (Put2 wr w.heap.size v u ls) ∧ Hid (ls.length ≤ k) ∧ Hid (Below w.heap.size w wr)) (fun _ _ i _ => len0 - (intOf i).toNat)
  case atStart => exact ⟨0, [], Nat.zero_le _, rfl, ⟨ownsB_nil _ _, ownsI_nil _ _, by simp⟩, Nat.zero_le _, Below.refl _ _⟩
  case round =>
    obtain ⟨k, ls, hk, rfl, hP, hmany, hbr⟩ := hrel
    obtain ⟨a3, n3, c3, rfl, hl3, hn3, hc3, hm3, hB3⟩ := hP.out.1.form
    have hlen3 : n3 ≤ 4 * k := by have := all_len ls; have := hmany.out; have := hl3.out; omega
    by_cases hlt : k < len0
    · obtain ⟨b, off, rfl⟩ := ints_some hB.out (by rw [hL.out]; omega)
      have ck : wr.cell? ⟨b, off + k, none⟩ = some (.int .i32 (zs.getD k 0)) := (hB.out.kept hbr.out).cell (by rw [hL.out]; exact hlt)
      have j1 : (k : Int) < (len0 : Int) := by omega
      generalize zs.getD k 0 = r at *
      by_cases hR : RightI r
      · obtain ⟨m, rfl, hm⟩ := right_nat hR
        have k1 := put_ok a3 n3 c3 (encAll ls) m wr hl3.out hB3.out hn3.out (by omega) hm
        have hMm : Hid (Right m) := hm
        clear hR hm
        go_wp2_with fail
        refine k1.mono ?_
        rintro e x1 ⟨v1, rfl, ho1, hb1⟩
        have ho1' : Hid (OwnsB x1 w.heap.size v1 (encAll ls ++ encL m)) := ownsB_base ho1 hbr.out.size
        have hw4 : Hid (OwnsI x1 w.heap.size u4 (ints ls)) := hP.out.2.1.below hb1
        have hbx1 : Below w.heap.size w x1 := hbr.out.trans (hb1.mono hbr.out.size)
        have hs1 := hbx1.size
        have hRs : Hid (∀ r ∈ ls, Right r) := hP.out.2.2
        clear k1 ho1 hb1 hP
        go_wp2_with (at_builtin; refine wpList_append_ints rfl _ (.tmp 28) rfl w.heap.size u4 (ints ls) [((m : Nat) : Int)] rfl (hw4.out.alloc _) (some ⟨x1.heap.size, 0, none⟩) 1 1 rfl rfl (by simp) (one_rune x1 _) (by rw [ints_len]; have := hmany.out; simp; omega) (by simp; omega) ?_; intro v3 x3 ho3 hg3; have hb3 := grownI_below (hbx1.alloc hs1 _) (hw4.out.alloc _) hg3 (by simp; omega); have hO3 : Hid (OwnsB x3 w.heap.size v1 (encAll ls ++ encL m)) := (own_other ho1'.out hw4.out hg3); clear hg3)
        go_roundw
        case rel => exact ⟨k + 1, ls ++ [m], by omega, by go_num, ⟨by rw [all_snoc]; exact hO3.out, by unfold ints; rw [List.map_append]; exact ho3, fun r hr => by rcases List.mem_append.1 hr with h | h; exact hRs.out r h; simp at h; rw [h]; exact hMm.out⟩, (by show _ ≤ _; have := hmany.out; simp only [List.length_append, List.length_cons, List.length_nil]; omega), hb3⟩
        case measure => simp [intOf]; omega
      · have k1 := put_bad (.slice a3 n3 c3) r wr hR
        clear hR
        go_wp2_with (go_at_call 15; refine k1.mono ?_; rintro e w' ⟨rfl, hw⟩; obtain rfl : wr = w' := hw.symm)
        go_roundw
        case rel => exact ⟨k + 1, ls, by omega, by go_num, hP, (by show _ ≤ _; have := hmany.out; omega), hbr⟩
        case measure => simp [intOf]; omega
    · have hall := runes_all ls hP.out.2.2
      obtain ⟨h1, h2, h3⟩ := why_none (zs := encAll ls) (by rw [hall])
      rw [hall] at h3
      have k1 := runes_any a3 n3 c3 (encAll ls) wr hl3.out hB3.out hc3 (by omega)
      rw [h1, h2, h3] at k1
      have kN : Hid (∀ X, Bytes X a3 (encAll ls) → Calls Try.prog 13 #[.slice a3 n3 c3] X fun e w' => e = .returned (.int .i64 (ls.length : Nat)) ∧ Below X.heap.size X w') := fun X h => by
        have h9 := count_any a3 n3 c3 (encAll ls) X hl3.out h hc3 (by omega)
        rw [h3, ints_len] at h9
        exact h9
      clear h1 h2 h3 hall
      obtain ⟨a4, n4, c4, rfl, hl4, hn4, hc4, hm4, hB4⟩ := hP.out.2.1.form
      have hls : ls.length = n4 := by rw [← hl4.out, ints_len]
      rw [hls] at kN
      have hn4b : n4 ≤ 4611686018427387904 := by have := hmany.out; omega
      clear hls hP
      go_wp2_with fail
      refine k1.mono ?_
      rintro e x1 ⟨v1, rfl, ho1, hb1⟩
      have hF : Hid (FAt (x1.alloc (.cells #[.int .i64 0, .int .i64 0] 26)) x1.heap.size 0 0) := heap_alloc_new x1 _
      have hk1 : Below wr.heap.size wr (x1.alloc (.cells #[.int .i64 0, .int .i64 0] 26)) := hb1.alloc hb1.size _
      have hbW : Hid (Below w.heap.size w (x1.alloc (.cells #[.int .i64 0, .int .i64 0] 26))) := hbr.out.trans (hk1.mono hbr.out.size)
      have hB3' : Hid (Bytes (x1.alloc (.cells #[.int .i64 0, .int .i64 0] 26)) a3 (encAll ls)) := hB3.out.kept hk1
      have hB4' : Ints (x1.alloc (.cells #[.int .i64 0, .int .i64 0] 26)) a4 (ints ls) := hB4.out.kept hk1
      have ho1' := ho1.alloc (.cells #[.int .i64 0, .int .i64 0] 26)
      obtain ⟨a5, n5, c5, rfl, hl5, -, -, -, hB5⟩ := ho1'.form
      have kS := sameI_any a5 a4 n5 n4 c5 c4 (ints ls) (ints ls) (x1.alloc (.cells #[.int .i64 0, .int .i64 0] 26)) hl5.out hl4.out hB5.out hB4' (by rw [← hl5.out, hl4.out]; exact hn4b)
      rw [decide_eq_true rfl] at kS
      clear k1 ho1 ho1' hb1 hk1 hB4' hB5 hB3 hB4
      go_wp2_with fail
      refine kS.mono ?_
      rintro e x2 ⟨rfl, q2, hw2⟩
      have hk2 : Below (x1.alloc (.cells #[.int .i64 0, .int .i64 0] 26)).heap.size (x1.alloc (.cells #[.int .i64 0, .int .i64 0] 26)) x2 := by rw [hw2]; exact below_drewN (Below.refl _ _) q2
      have hF2 := hF.out.kept hk2
      have c0 := hF2.c0
      have c1 := hF2.c1
      have hbx2 : Below w.heap.size w x2 := hbW.out.trans (hk2.mono hbW.out.size)
      have kN2 := kN.out x2 (hB3'.out.kept hk2)
      clear hw2 kS hk2
      go_wp2_with fail
      refine kN2.mono ?_
      rintro e x3 ⟨rfl, hb3⟩
      have hbx3 : Below w.heap.size w x3 := hbx2.trans (hb3.mono hbx2.size)
      clear kN2
      go_wp2_with (go_at_call 14; refine (alive_any _).mono ?_; rintro e x9 ⟨rfl, hb9⟩)
      go_ret
      exact ⟨rfl, hbx3.trans (hb9.mono hbx3.size)⟩

set_option maxRecDepth 100000 in
theorem lifted (os : Os) (started : os.Started) (H : Type) (enc : TypeId × Value → H) :
    ReturnsInHanded {} Try.checked os 6 .any (Rows.utfBackSpec.pre6 enc Try.prog Try.f6 Rows.utfBackRow.domain false) (Rows.utfBackSpec.post enc Try.prog Try.f6 false true false false) := by
  refine returnsInHanded_of_change_sized (C := Try.checked) own started (by kernel_rfl) Try.func6
    (ChangeSpec.witness6 (enc := enc) (C := Try.checked) false ⟨#[], #[.slice none 0 0], []⟩ 8 (by kernel_rfl) (by kernel_rfl) (by kernel_rfl) (by kernel_rfl)) ?_
  intro W base args ds gs before hval0 hW hcnd hsz0 _
  have hval : ∀ (j : Nat) t v, Try.f6.params[j]? = some t → args[j]? = some v → Value.okWide Try.prog W .any base t v := hval0
  have hW' := hW
  have hsz : (DataW.weightsEach Try.prog (Try.f6.params.toList ++ Rows.utfBackSpec.plain.varTypes Try.prog) (ds ++ gs)).all (· ≤ reachBytes) = true := hsz0
  obtain ⟨p, q, hA0, hV, rfl, hfz, hnd⟩ := hW
  have hA : DataW.TrodAll enc Try.prog W 0 (fun _ => true) true Try.f6.params.toList args.toList ds p := hA0
  rw [Try.params6] at hA hval hsz
  obtain ⟨v0, vs0, d0, ds0, p0, q0, hargs, rfl, rfl, h0, r0'⟩ := trodAll_cons hA
  obtain ⟨rfl, rfl, rfl⟩ := trodAll_nil r0'
  obtain rfl : args = #[v0] := by cases args; simp_all
  obtain ⟨rfl, rfl⟩ := trodVars_none hV
  obtain ⟨a0, len0, cap0, rfl⟩ := okWide_slice Try.underlying23 (hval 0 23 v0 rfl rfl)
  have k0 := h0
  have lt0 : ∀ x ∈ p0, x.block < W.heap.size := by obtain ⟨m, hm⟩ := k0; exact DataW.trod_lt m _ _ _ hm
  obtain ⟨z0, w0, r0⟩ : ∃ zs, IsRow .i32 W a0 len0 cap0 zs ∧ cap0 ≤ 35184372087808 := by
    obtain ⟨fuel, hf⟩ := h0
    rcases open_ints Try.underlying23 Try.underlying21 (by kernel_rfl) hf with ⟨hcs, hx⟩ | ⟨x, l, c, zs, hcs, _, hl, hm, hz, hx, hcell, hwz⟩
    · simp [Value.cells] at hcs
      obtain ⟨rfl, rfl, rfl⟩ := hcs
      exact ⟨[], .inl ⟨rfl, rfl, rfl, rfl⟩, by omega⟩
    · simp [Value.cells] at hcs
      obtain ⟨rfl, rfl, rfl⟩ := hcs
      have hd : d0 = .slice (lits .i32 (zs.take len0)) (lits .i32 (zs.drop len0)) := (Prod.mk.inj hx).1
      have hz' : zs.length = cap0 := by simpa using hz
      have hr : cap0 ≤ 35184372087808 := by
        have := sized_slice hsz (j := 0) (t := 23) (e := 21) rfl (by rw [← hd]; rfl) Try.underlying23
        rw [show Try.prog.bytesOf 21 = 4 from by kernel_rfl] at this
        simp only [lits, List.length_map, List.length_take, List.length_drop, reachBytes] at this
        omega
      exact ⟨zs, .inr ⟨_, rfl, hl, hm, hz', hcell, hwz⟩, hr⟩
  clear hA0 hval0
  refine (walk a0 len0 cap0 z0 W w0 r0).mono fun e W' ⟨he, bel⟩ => ?_
  subst he
  exact ⟨_, rfl, _, _, _, [], _, [], hW', trodAll_mk1 (shut_bool Try.underlying4 _), (trodAll_cons_mk (Below.trod laidOut (by kernel_rfl) (of_decide_eq_true (by kernel_rfl)) k0 bel lt0) trodAll_mk0), rfl, bel.frame _, fun h => by cases h⟩

theorem over : Rows.utfBackRow.holds Try.pinned (OpenSpec.ofChange Rows.utfBackSpec) :=
  OpenClaim.holds_of_wide 6 Try.f6 rfl rfl rfl rfl rfl rfl rfl ⟨rfl, rfl, rfl, rfl, rfl⟩ rfl rfl rfl rfl rfl (by kernel_rfl) Try.func6 (by kernel_rfl)
    (of_decide_eq_true (by kernel_rfl)) (by unfold Func.isWrapper; first | (rw [if_pos (by decide +kernel)]; kernel_rfl) | (rw [if_neg (by decide +kernel)]; exact ⟨rfl, rfl⟩))
    (fun os started H enc _ => lifted os started H enc)

end Go.Proofs.Ytjnhobohnkhpoaa.utfBack
namespace Go.Proofs.Ytjnhobohnkhpoaa

theorem utfBack_holds : Rows.UtfBackSaid := utfBack.over
#print axioms utfBack_holds
end Go.Proofs.Ytjnhobohnkhpoaa
