/-
  For all bytes, bytes behind and numbers of 64 bits, the bytes no more than 1048576 together: what was put, short and wide, behind the bytes is read back, with the others behind it; and a number is written and read; the bytes stay as they were.
-/
import Derived.Test.YtkmbphgcnppohaaRows
import Derived.Test.YtkmbphgcnppohaaAlive
import Derived.WalkKit
import Derived.ProofKit
import Derived.OpenShut
import Derived.ShutString
import Derived.ChangeOld
import Derived.Below
import Derived.SizedLaws
import Derived.Deep.CondSized
namespace Go.Proofs.Ytkmbphgcnppohaa.curBackUpto
open Go.ChangeShapes Go.WideShapes Go.ChangeAt Go.RowKit
open Go.ChangeMaps (open_string shut_string)
set_option linter.unusedVariables false

theorem own : ownKnob Try.prog.godebug = none := by kernel_rfl
theorem laidOut : laidOutB Try.prog = true := by kernel_rfl
theorem bytes_e : Try.prog.bytesOf 5 = 1 := by kernel_rfl

theorem bulk_lits {H : Type} (k : IntKind) (zs : List Int) : Rows.uptoBulkAll (H := H) (lits k zs) = zs.length := by
  induction zs with
  | nil => rfl
  | cons z zs ih =>
    show Rows.uptoBulk (H := H) (.lit (.int k z)) + Rows.uptoBulkAll (H := H) (lits k zs) = _
    rw [ih, List.length_cons]
    show 1 + zs.length = _
    omega
theorem bulk_row {H : Type} {zs : List Int} {len cap : Nat} (h : cap ≤ zs.length) : cap ≤ Rows.uptoBulk (H := H) (.slice (lits .u8 (zs.take len)) (lits .u8 (zs.drop len))) := by
  simp only [Rows.uptoBulk, bulk_lits, List.length_take, List.length_drop]
  omega

theorem short_read (n : Nat) (hn : n < 18446744073709551616) (zs rest : List Int) : sS (zs ++ (shortL n ++ rest)) zs.length 0 0 = (n, zs.length + cg n, 0, 0) := by
  have h : (zs ++ (shortL n ++ rest)).drop zs.length = shortL n ++ rest := List.drop_left' rfl
  simp [sS, rd_short n hn]

theorem short_at (base g p y f n m p' y' f' : Nat) (a : Option Addr) (zs : List Int) (w : World) (h : Cur w base g a n zs p y f) (hs : sS zs p y f = (m, p', y', f')) :
    Calls Try.prog 18 #[.pointer (some ⟨g, 0, none⟩)] w fun e w' => e = .returned (.int .u64 m) ∧ Cur w' base g a n zs p' y' f' ∧ w.grownBy w' (some g) := by
  by_cases hy : y = 0
  · subst hy
    have h1 := short_go base g p f n a zs w h
    rw [hs] at h1
    exact h1
  · have h1 := short_stop base g p y f n a zs w h hy
    rw [sS, if_pos hy] at hs
    cases hs
    exact h1

theorem wide_read (base g p f n m : Nat) (a : Option Addr) (zs : List Int) (w : World) (h : Cur w base g a n zs p 0 f) (hx : p + 8 ≤ n) (hr : rdW 0 ((zs.drop p).take 8) = m) :
    Calls Try.prog 16 #[.pointer (some ⟨g, 0, none⟩), .int .i64 8] w fun e w' => e = .returned (.int .u64 m) ∧ Cur w' base g a n zs (p + 8) 0 f ∧ w.grownBy w' (some g) := by
  have h1 := wide_ok base g p f n 8 a zs w h (by decide) hx
  rw [hr] at h1
  exact h1

theorem wide_at (zs s ys : List Int) (m : Nat) : ((zs ++ (s ++ (wl m 8 ++ ys))).drop (zs.length + s.length)).take 8 = wl m 8 := by
  rw [← List.append_assoc, List.drop_left' (by simp)]
  exact List.take_left' (wl_length m 8)

theorem left_at (g p y f n q : Nat) (a : Option Addr) (w : World) (h : CurAt w g (.slice a n n) p y f) (hp : p ≤ n) (hn : n ≤ 9223372036854775807) (hq : n - p = q) :
    Calls Try.prog 23 #[.pointer (some ⟨g, 0, none⟩)] w fun e w' => e = .returned (.int .i64 (q : Int)) ∧ Below w.heap.size w w' := by
  subst hq
  exact left_b g p y f n n a w h hp hn

theorem take_all (base g n k : Nat) (a : Option Addr) (zs xs : List Int) (w : World) (h : Cur w base g a n zs 0 0 0) (hk : k ≤ n) (hx : zs.take k = xs) :
    Calls Try.prog 20 #[.pointer (some ⟨g, 0, none⟩), .int .i64 k] w fun e w' => ∃ a', e = .returned (.slice a' k k) ∧ Hid (Bytes w' a' xs) ∧ Hid (∀ x, a' = some x → x.block ≠ g) ∧ Cur w' base g a n zs k 0 0 ∧ w.grownBy w' (some g) := by
  have hg0 := h.1.lt
  refine (take_ok base g 0 0 n k a zs w h (by omega)).mono ?_
  rintro e w' ⟨a', rfl, hR, hB, hc, hg⟩
  rw [List.drop_zero, hx] at hB
  rw [Nat.zero_add] at hc
  exact ⟨a', rfl, hB, (fun x hx => by have := (hR.out.places x hx).1; omega), hc, hg⟩

set_option maxHeartbeats 2000000 in
theorem walk (a0 : Option Addr) (len0 cap0 : Nat) (z0 : List Int) (a1 : Option Addr) (len1 cap1 : Nat) (z1 : List Int) (a2 : Int) (w : World) (w0 : IsRow .u8 w a0 len0 cap0 z0) (r0 : cap0 ≤ 140737488351232) (w1 : IsRow .u8 w a1 len1 cap1 z1) (r1 : cap1 ≤ 140737488351232) (w2 : (Lit.int .u64 a2).wf = true) (small : cap0 + cap1 ≤ 1048576) :
    Calls Try.prog 5 #[.slice a0 len0 cap0, .slice a1 len1 cap1, .int .u64 a2] w fun e w' => e = .returned (.bool true) ∧ Below w.heap.size w w' := by
  obtain ⟨m, rfl, hm⟩ := u64_of w2
  have hn0 : Hid (a0 = none → cap0 = 0) := nil_cap w0
  have hn1 : Hid (a1 = none → cap1 = 0) := nil_cap w1
  obtain ⟨hl0, hb0⟩ := bytes_of_row w0
  obtain ⟨hl1, hb1⟩ := bytes_of_row w1
  have hc0 := (row_le w0).1
  have hc1 := (row_le w1).1
  generalize z0.take len0 = zs at *
  generalize z1.take len1 = ys at *
  have hB0 : Hid (Bytes w a0 zs) := hb0
  have hB1 : Hid (Bytes w a1 ys) := hb1
  have hL0 : Hid (zs.length = len0) := hl0
  have hL1 : Hid (ys.length = len1) := hl1
  clear hb0 hb1 hl0 hl1 w0 w1 w2
  have hcg := cg_le m hm
  have hSl : Hid ((shortL m).length = cg m) := shortL_length m
  have hWl : Hid ((wl m 8).length = 8) := wl_length m 8
  go_enter Try.func5, Try.ntmps5
  go_wp2_with fail
  refine (putShort_any a0 len0 cap0 m zs w hm hL0.out hB0.out hn0.out (by omega)).mono ?_
  rintro e w3 ⟨v3, rfl, ho3, hb3⟩
  obtain ⟨a3, n3, cap3, rfl, hl3, hn3, hc3, hm3, hB3⟩ := ho3.form
  have hn3' : Hid (n3 = len0 + cg m) := by show _ = _; rw [← hl3.out, List.length_append, hL0.out, hSl.out]
  have hx3 : n3 ≤ 1048586 := by have := hn3'.out; omega
  clear ho3
  go_wp2_with fail
  refine (putWide_ok a3 n3 cap3 m 8 (zs ++ shortL m) w3 (by decide) (by omega) hm hl3.out hB3.out hn3.out (by omega)).mono ?_
  rintro e w4 ⟨v4, rfl, ho4, hb4⟩
  obtain ⟨a4, n4, cap4, rfl, hl4, hn4, hc4, hm4, hB4⟩ := ho4.form
  have hn4' : Hid (n4 = len0 + cg m + 8) := by show _ = _; rw [← hl4.out, List.length_append, hl3.out, hWl.out, hn3'.out]
  have hx4 : n4 ≤ 1048594 := by have := hn4'.out; omega
  have bl4 : Below w.heap.size w w4 := trans_kept hb3 hb4
  clear ho4 hb3 hb4 hB3 hn3 hl3
  obtain ⟨xs, hxs⟩ : ∃ xs, Hid (zs ++ shortL m ++ wl m 8 = xs) := ⟨_, rfl⟩
  rw [hxs.out] at hl4 hB4
  have hs4 := bl4.size
  go_wp2_with (first
    | (at_builtin; refine wpList_append_bytes rfl _ (.tmp 21) rfl w4.heap.size (.slice none 0 0) [] xs rfl (ownsB_nil _ _) a4 n4 cap4 rfl hl4.out hn4.out hB4.out (by rw [hl4.out]; simp; omega) (Nat.le_refl _) ?_; intro v5 w5 ho5 hg5; have hb5 := grown_below (Below.refl _ _) (ownsB_nil _ _) hg5 (Nat.le_refl _); have hs5 := hb5.size; simp only [List.nil_append] at ho5; clear hg5)
    | (at_builtin; refine wpList_append_bytes rfl (.tmp 22) (.tmp 23) rfl w4.heap.size v5 xs ys rfl ho5 a1 len1 cap1 rfl hL1.out hn1.out (hB1.out.kept (trans_kept bl4 hb5)) (by rw [hl4.out, hL1.out]; omega) hs5 ?_; intro v6 w6 ho6 hg6; have hb6 := grown_below hb5 ho5 hg6 hs5; clear hg6 ho5)
    | fail)
  have bl6 : Below w.heap.size w w6 := bl4.trans (hb6.mono bl4.size)
  obtain ⟨a6, n6, cap6, rfl, hl6, hn6, hc6, hm6, hB6⟩ := ho6.form
  have hn6' : Hid (n6 = len0 + cg m + 8 + len1) := by show _ = _; rw [← hl6.out, List.length_append, hl4.out, hL1.out, hn4'.out]
  have hx6 : n6 ≤ 2097170 := by have := hn6'.out; omega
  have hx7 : len0 + cg m + 8 ≤ n6 := by have := hn6'.out; omega
  clear ho6 hb6 hb5 hs5 hB4 hl4 hn4
  refine (new_any a6 n6 cap6 _ w6 hl6.out hB6.out hn6.out (by omega)).mono ?_
  rintro e w7 ⟨g, a7, rfl, hc7, hb7⟩
  have bl7 : Below w.heap.size w w7 := bl6.trans (hb7.mono bl6.size)
  have hg0 : Hid (w.heap.size ≤ g) := Nat.le_trans bl6.size hc7.2.2.2.2.2.1
  have hX : Hid (xs ++ ys = zs ++ (shortL m ++ (wl m 8 ++ ys))) := by
    show _ = _
    rw [← hxs.out]
    simp
  rw [hX.out] at hc7
  clear hb7 bl6 hn6 hl6 hB6
  generalize w6.heap.size = base at *
  go_wp2_with fail
  refine (take_all base g n6 len0 a7 _ zs w7 hc7 (by omega) (List.take_left' hL0.out)).mono ?_
  rintro e w8 ⟨a8, rfl, hB8, hne8, hc8, hg8⟩
  have bl8 := below_but bl7 hg8 bl7.size hg0.out
  clear hc7 hg8 bl7
  go_wp2_with fail
  refine (short_at base g len0 0 0 n6 m (len0 + cg m) 0 0 a7 _ w8 hc8 (by rw [← hL0.out]; exact short_read m hm zs _)).mono ?_
  rintro e w9 ⟨rfl, hc9, hg9⟩
  have bl9 := below_but bl8 hg9 bl8.size hg0.out
  have hB9 : Hid (Bytes w9 a8 zs) := hB8.out.but hg9 hne8.out
  clear hc8 hg9 bl8 hB8
  go_wp2_with fail
  refine (wide_read base g (len0 + cg m) 0 n6 m a7 _ w9 hc9 hx7 (by rw [← hL0.out, ← hSl.out, wide_at, rdW_eight m hm])).mono ?_
  rintro e w10 ⟨rfl, hc10, hg10⟩
  have bl10 := below_but bl9 hg10 bl9.size hg0.out
  have hB10 : Hid (Bytes w10 a8 zs) := hB9.out.but hg10 hne8.out
  clear hc9 hg10 bl9 hB9
  go_wp2_with fail
  refine (same_yes _ _ _ _ _ _ zs _ hL0.out hL0.out hB10.out (hB0.out.kept bl10)).mono ?_
  rintro e w11 ⟨rfl, rfl⟩
  go_wp2_with fail
  refine (left_at g _ 0 0 n6 len1 a7 _ hc10.1 hx7 (by omega) (by have := hn6'.out; omega)).mono ?_
  rintro e w12 ⟨rfl, hb12⟩
  have hc12 := hc10.kept hb12
  have bl12 : Below w.heap.size w w12 := bl10.trans (hb12.mono bl10.size)
  clear hc10 bl10 hb12 hB10
  go_wp2_with fail
  refine (fault_any _ _ _ _ _ _ hc12.1).mono ?_
  rintro e w13 ⟨rfl, hb13⟩
  have bl13 : Below w.heap.size w w13 := bl12.trans (hb13.mono bl12.size)
  clear hc12 bl12 hb13
  go_wp2_with fail
  refine (alive_any _).mono ?_
  rintro e w14 ⟨rfl, hb14⟩
  go_wp2_with fail
  go_ret
  exact ⟨rfl, bl13.trans (hb14.mono bl13.size)⟩

set_option maxRecDepth 100000 in
theorem lifted (os : Os) (started : os.Started) (H : Type) (enc : TypeId × Value → H) (F : Stop.Interp) :
    ReturnsInHanded {} Try.checked os 5 .any ((Rows.OpenSpec.upto Rows.curBackSpec).pre6 enc Try.prog Try.f5 Rows.curBackUptoRow.domain false) (((Rows.OpenSpec.upto Rows.curBackSpec).at F).post enc Try.prog Try.f5 false true false false) := by
  refine returnsInHanded_of_cond_sized (C := Try.checked) (s := Rows.OpenSpec.upto Rows.curBackSpec) (k := Rows.uptoSmall) rfl own started (by kernel_rfl) Try.func5
    (OpenSpec.witness (enc := enc) (C := Try.checked) (s := Rows.OpenSpec.upto Rows.curBackSpec) (k := Rows.uptoSmall) rfl false ⟨#[], #[.slice none 0 0, .slice none 0 0, .int .u64 0], []⟩ 8 (by kernel_rfl) (by kernel_rfl) (by kernel_rfl)
      (x := ([.nil, .nil, .lit (.int .u64 0)], [], [])) (by kernel_rfl) rfl (by kernel_rfl)) ?_
  intro W base args ds gs before hval0 hW _ hk hsz0 _
  have hval : ∀ (j : Nat) t v, Try.f5.params[j]? = some t → args[j]? = some v → Value.okWide Try.prog W .any base t v := hval0
  have hW' := hW
  have hsz : (DataW.weightsEach Try.prog (Try.f5.params.toList ++ (Rows.OpenSpec.upto Rows.curBackSpec).bare.plain.varTypes Try.prog) (ds ++ gs)).all (· ≤ reachBytes) = true := hsz0
  obtain ⟨p, q, hA0, hV, rfl, hfz, hnd⟩ := hW
  have hA : DataW.TrodAll enc Try.prog W 0 (fun _ => true) true Try.f5.params.toList args.toList ds p := hA0
  rw [Try.params5] at hA hval hsz
  obtain ⟨v0, vs0, d0, ds0, p0, q0, hargs, rfl, rfl, h0, r0'⟩ := trodAll_cons hA
  obtain ⟨v1, vs1, d1, ds1, p1, q1, rfl, rfl, rfl, h1, r1'⟩ := trodAll_cons r0'
  obtain ⟨v2, vs2, d2, ds2, p2, q2, rfl, rfl, rfl, h2, r2'⟩ := trodAll_cons r1'
  obtain ⟨rfl, rfl, rfl⟩ := trodAll_nil r2'
  obtain rfl : args = #[v0, v1, v2] := by cases args; simp_all
  obtain ⟨rfl, rfl⟩ := trodVars_none hV
  obtain ⟨a0, len0, cap0, rfl⟩ := okWide_slice Try.underlying22 (hval 0 22 v0 rfl rfl)
  have k0 := h0
  have lt0 : ∀ x ∈ p0, x.block < W.heap.size := by obtain ⟨m, hm⟩ := k0; exact DataW.trod_lt m _ _ _ hm
  obtain ⟨z0, w0, r0, bk0⟩ : ∃ zs, IsRow .u8 W a0 len0 cap0 zs ∧ cap0 ≤ 140737488351232 ∧ cap0 ≤ Rows.uptoBulk d0 := by
    obtain ⟨fuel, hf⟩ := h0
    rcases open_ints Try.underlying22 Try.underlying5 (by kernel_rfl) hf with ⟨hcs, hx⟩ | ⟨x, l, c, zs, hcs, _, hl, hm, hz, hx, hcell, hwz⟩
    · simp [Value.cells] at hcs
      obtain ⟨rfl, rfl, rfl⟩ := hcs
      exact ⟨[], .inl ⟨rfl, rfl, rfl, rfl⟩, by omega, by omega⟩
    · simp [Value.cells] at hcs
      obtain ⟨rfl, rfl, rfl⟩ := hcs
      have hd : d0 = .slice (lits .u8 (zs.take len0)) (lits .u8 (zs.drop len0)) := (Prod.mk.inj hx).1
      have hz' : zs.length = cap0 := by simpa using hz
      have hr : cap0 ≤ 140737488351232 := by
        have := sized_slice hsz (j := 0) (t := 22) (e := 5) rfl (by rw [← hd]; rfl) Try.underlying22
        rw [bytes_e] at this
        simp only [lits, List.length_map, List.length_take, List.length_drop, reachBytes] at this
        omega
      exact ⟨zs, .inr ⟨_, rfl, hl, hm, hz', hcell, hwz⟩, hr, by rw [hd]; exact bulk_row (by omega)⟩
  obtain ⟨a1, len1, cap1, rfl⟩ := okWide_slice Try.underlying22 (hval 1 22 v1 rfl rfl)
  have k1 := h1
  have lt1 : ∀ x ∈ p1, x.block < W.heap.size := by obtain ⟨m, hm⟩ := k1; exact DataW.trod_lt m _ _ _ hm
  obtain ⟨z1, w1, r1, bk1⟩ : ∃ zs, IsRow .u8 W a1 len1 cap1 zs ∧ cap1 ≤ 140737488351232 ∧ cap1 ≤ Rows.uptoBulk d1 := by
    obtain ⟨fuel, hf⟩ := h1
    rcases open_ints Try.underlying22 Try.underlying5 (by kernel_rfl) hf with ⟨hcs, hx⟩ | ⟨x, l, c, zs, hcs, _, hl, hm, hz, hx, hcell, hwz⟩
    · simp [Value.cells] at hcs
      obtain ⟨rfl, rfl, rfl⟩ := hcs
      exact ⟨[], .inl ⟨rfl, rfl, rfl, rfl⟩, by omega, by omega⟩
    · simp [Value.cells] at hcs
      obtain ⟨rfl, rfl, rfl⟩ := hcs
      have hd : d1 = .slice (lits .u8 (zs.take len1)) (lits .u8 (zs.drop len1)) := (Prod.mk.inj hx).1
      have hz' : zs.length = cap1 := by simpa using hz
      have hr : cap1 ≤ 140737488351232 := by
        have := sized_slice hsz (j := 1) (t := 22) (e := 5) rfl (by rw [← hd]; rfl) Try.underlying22
        rw [bytes_e] at this
        simp only [lits, List.length_map, List.length_take, List.length_drop, reachBytes] at this
        omega
      exact ⟨zs, .inr ⟨_, rfl, hl, hm, hz', hcell, hwz⟩, hr, by rw [hd]; exact bulk_row (by omega)⟩
  obtain ⟨a2, rfl, rfl, rfl, w2⟩ := open_int Try.underlying23 (hval 2 23 v2 rfl rfl) h2
  have small : cap0 + cap1 ≤ 1048576 := by
    have hu : Rows.uptoBulkAll [d0, d1, DataW.lit (Lit.int .u64 a2)] ≤ 1048576 := of_decide_eq_true hk
    simp only [Rows.uptoBulkAll] at hu
    omega
  clear hA0 hval0
  refine (walk a0 len0 cap0 z0 a1 len1 cap1 z1 a2 W w0 r0 w1 r1 w2 small).mono fun e W' ⟨he, bel⟩ => ?_
  subst he
  exact ⟨_, rfl, _, _, _, [], _, [], hW', trodAll_mk1 (shut_bool Try.underlying4 _), (trodAll_cons_mk (Below.trod laidOut (by kernel_rfl) (of_decide_eq_true (by kernel_rfl)) k0 bel lt0) (trodAll_cons_mk (Below.trod laidOut (by kernel_rfl) (of_decide_eq_true (by kernel_rfl)) k1 bel lt1) (trodAll_cons_mk (shut_int Try.underlying23 w2) trodAll_mk0))), rfl, bel.frame _, fun h => by cases h⟩

theorem over : Rows.curBackUptoRow.holds Try.pinned (Rows.OpenSpec.upto Rows.curBackSpec) :=
  OpenClaim.holds_of_cond 5 Try.f5 rfl rfl rfl rfl rfl rfl rfl ⟨rfl, rfl, rfl, rfl, rfl⟩ rfl rfl rfl rfl rfl (by kernel_rfl) Try.func5 (by kernel_rfl)
    (of_decide_eq_true (by kernel_rfl)) (by unfold Func.isWrapper; first | (rw [if_pos (by decide +kernel)]; kernel_rfl) | (rw [if_neg (by decide +kernel)]; exact ⟨rfl, rfl⟩))
    (fun os started H enc _ F => lifted os started H enc F)

end Go.Proofs.Ytkmbphgcnppohaa.curBackUpto
namespace Go.Proofs.Ytkmbphgcnppohaa

theorem curBackUpto_holds : Rows.CurBackUptoSaid := curBackUpto.over
#print axioms curBackUpto_holds
end Go.Proofs.Ytkmbphgcnppohaa
