/-
  For two lists of bytes, both of bulk at most 1048576: a fault that lies at a byte hangs on the bytes up to it alone; and a character is read and written, and a wrong byte told; the bytes stay as they were.
-/
import Derived.Test.YtjnhobohnkhpoaaRows
import Derived.Test.YtjnhobohnkhpoaaCount
import Derived.Test.YtjnhobohnkhpoaaAlive
import Derived.WalkKit
import Derived.Deep.RegionHeld3
import Derived.ProofKit
import Derived.OpenShut
import Derived.ShutString
import Derived.ChangeOld
import Derived.Below
import Derived.SizedLaws
import Derived.Deep.CondSized
namespace Go.Proofs.Ytjnhobohnkhpoaa.utfFirstUpto
open Go.ChangeShapes Go.WideShapes Go.ChangeAt Go.RowKit
open Go.ChangeMaps (open_string shut_string)
set_option linter.unusedVariables false

theorem own : ownKnob Try.prog.godebug = none := by kernel_rfl
theorem laidOut : laidOutB Try.prog = true := by kernel_rfl
theorem bytes_e : Try.prog.bytesOf 5 = 1 := by kernel_rfl

theorem bulk_lits {H : Type} (k : IntKind) (zs : List Int) : Rows.uptoBulkAll (H := H) (lits k zs) = zs.length := by
  induction zs with
  | nil => rfl
  | cons z zs ih =>
    show Rows.uptoBulk (H := H) (.lit (.int k z)) + Rows.uptoBulkAll (H := H) (lits k zs) = _
    rw [ih, List.length_cons]
    show 1 + zs.length = _
    omega
theorem bulk_row {H : Type} {zs : List Int} {len cap : Nat} (h : cap ≤ zs.length) : cap ≤ Rows.uptoBulk (H := H) (.slice (lits .u8 (zs.take len)) (lits .u8 (zs.drop len))) := by
  simp only [Rows.uptoBulk, bulk_lits, List.length_take, List.length_drop]
  omega

/-- 'append(v, x...)' of bytes, as a step of a region, v the call's own. -/
theorem step_append_bytes {w : World} {ops : Array Oper} {o : Oper} {a : Act} {K : Act → World → Prop} {Q : Exit → Act → World → Prop} {E : Prop} (hgd : o.guard = none) (s x : Operand)
    (ho : o.op = .call { callee := .builtin .append, args := #[s, x], argTypes := #[22, 22] })
    (base : Nat) (v : Value) (ys zs : List Int) (hs : a.eval s = v) (hown : OwnsB w base v ys)
    (ad : Option Addr) (m c : Nat) (hx : a.eval x = .slice ad m c) (hm : zs.length = m) (hn : ad = none → c = 0) (hb : Bytes w ad zs)
    (hbytes : ys.length + zs.length ≤ 140737488355328) (hbase : base ≤ w.heap.size)
    (h : ∀ v' w', OwnsB w' base v' (ys ++ zs) → w.grownBy w' v.ownBlock → K (a.put o.dst v') w') :
    if Region.wanted o (yielded ops a.tmps) = true then Oper.wp Try.prog o a w K Q else E := by
  have hw : Region.wanted o (yielded ops a.tmps) = true := by simp [Region.wanted, hgd]
  rw [if_pos hw]
  subst hm
  obtain ⟨i, hi, hz, hsz, hby⟩ := info_parts info5
  have hall : ∀ c ∈ ys ++ zs, 0 ≤ c ∧ c < 256 := fun c hc => by
    rcases List.mem_append.1 hc with h1 | h1
    · exact hown.2 c h1
    · exact hb.1 c h1
  cases ad with
  | none =>
    have h0 : zs = [] := by
      rcases hb.2.2 with h0 | ⟨_, _, h0, _⟩
      · exact h0
      · cases h0
    subst h0
    rw [hn rfl] at hx
    have hrun := run_append_owned_none (P := Try.prog) (w := w) base 22 o.type 5 i 1 Try.underlying22 hi v ys.length _ hown.1
    have h9 := h v w (by simpa using hown) (World.grownBy.refl _ _)
    simp only [List.length_nil] at hx
    unfold Oper.wp
    simp [execOp, ho, resolve, invoke, builtin, hs, hx, hrun, Result.andThen]
    exact h9
  | some ad =>
    refine wp_append_own w s x 22 ho base 5 i (.int .u8 0) 1 1 Try.underlying22 hi hz hsz hby rfl (by decide) v ys.length _ hs hown.1 ad zs.length c (zs.map (Value.int .u8)) hx (by simp) (bytes_news hb) (bytes_one zs) ?_ (by omega) hbase ?_
    · unfold maxLen; omega
    · intro v' w' ho' hg _
      refine h v' w' ⟨?_, hall⟩ hg
      rw [List.length_append, List.map_append]
      exact ho'

set_option maxHeartbeats 4000000 in
theorem first_a (a0 : Option Addr) (len0 cap0 : Nat) (za : List Int) (a1 : Option Addr) (len1 cap1 : Nat) (zb : List Int) (w : World) (hB : Bytes w a0 za) (hL : za.length = len0) (hN : a0 = none → cap0 = 0) (hB' : Bytes w a1 zb) (hL' : zb.length = len1) (hN' : a1 = none → cap1 = 0) (hlc0 : len0 ≤ cap0) (hlc1 : len1 ≤ cap1) (small : cap0 + cap1 ≤ 1048576) (ha1 : whyL za = 0) (ha2 : atL za = 0) :
    Calls Try.prog 8 #[.slice a0 len0 cap0, .slice a1 len1 cap1] w fun e w' => e = .returned (.bool true) ∧ Below w.heap.size w w' := by
  have hB0 : Hid (Bytes w a0 za) := hB
  have hL0 : Hid (za.length = len0) := hL
  have hN0 : Hid (a0 = none → cap0 = 0) := hN
  have hB1 : Hid (Bytes w a1 zb) := hB'
  have hL1 : Hid (zb.length = len1) := hL'
  have hN1 : Hid (a1 = none → cap1 = 0) := hN'
  clear hB hL hN hB' hL' hN'
  have k1 := check_any a0 len0 cap0 za w hL0.out hB0.out hlc0 (by omega)
  rw [ha1, ha2] at k1
  clear ha1 ha2
  go_enter Try.func8, Try.ntmps8
  go_wp2_with fail
  refine k1.mono ?_
  rintro e x1 ⟨rfl, hb1⟩
  go_wp2_with (go_at_call 14; refine (alive_any _).mono ?_; rintro e x9 ⟨rfl, hb9⟩)
  go_ret
  have hbF := hb1.alloc hb1.size (.cells #[.int .i64 0, .int .i64 0] 26)
  exact ⟨rfl, hbF.trans (hb9.mono hbF.size)⟩
set_option maxHeartbeats 4000000 in
theorem first_b (a0 : Option Addr) (len0 cap0 : Nat) (za : List Int) (a1 : Option Addr) (len1 cap1 : Nat) (zb : List Int) (p : Nat) (w : World) (hB : Bytes w a0 za) (hL : za.length = len0) (hN : a0 = none → cap0 = 0) (hB' : Bytes w a1 zb) (hL' : zb.length = len1) (hN' : a1 = none → cap1 = 0) (hlc0 : len0 ≤ cap0) (hlc1 : len1 ≤ cap1) (small : cap0 + cap1 ≤ 1048576) (ha1 : whyL za = 6) (ha2 : atL za = p) (hp : len0 ≤ p) :
    Calls Try.prog 8 #[.slice a0 len0 cap0, .slice a1 len1 cap1] w fun e w' => e = .returned (.bool true) ∧ Below w.heap.size w w' := by
  have hB0 : Hid (Bytes w a0 za) := hB
  have hL0 : Hid (za.length = len0) := hL
  have hN0 : Hid (a0 = none → cap0 = 0) := hN
  have hB1 : Hid (Bytes w a1 zb) := hB'
  have hL1 : Hid (zb.length = len1) := hL'
  have hN1 : Hid (a1 = none → cap1 = 0) := hN'
  clear hB hL hN hB' hL' hN'
  have k1 := check_any a0 len0 cap0 za w hL0.out hB0.out hlc0 (by omega)
  rw [ha1, ha2] at k1
  clear ha1 ha2
  have d1 : ((p : Int) < 0) = False := eq_false (by omega)
  have d2 : (len0 : Int) ≤ (p : Int) := by omega
  go_enter Try.func8, Try.ntmps8
  go_wp2_with fail
  refine k1.mono ?_
  rintro e x1 ⟨rfl, hb1⟩
  go_wp2_with (go_at_call 14; refine (alive_any _).mono ?_; rintro e x9 ⟨rfl, hb9⟩)
  go_ret
  have hbF := hb1.alloc hb1.size (.cells #[.int .i64 6, .int .i64 (p : Nat)] 26)
  exact ⟨rfl, hbF.trans (hb9.mono hbF.size)⟩
set_option maxHeartbeats 4000000 in
theorem first_c (a0 : Option Addr) (len0 cap0 : Nat) (za : List Int) (a1 : Option Addr) (len1 cap1 : Nat) (zb : List Int) (b off p m : Nat) (w : World) (hB : Bytes w a0 za) (hL : za.length = len0) (hN : a0 = none → cap0 = 0) (hB' : Bytes w a1 zb) (hL' : zb.length = len1) (hN' : a1 = none → cap1 = 0) (hlc0 : len0 ≤ cap0) (hlc1 : len1 ≤ cap1) (small : cap0 + cap1 ≤ 1048576) (ha : a0 = some ⟨b, off, none⟩) (ha1 : whyL za = 6) (ha2 : atL za = p) (hp : p < len0) (hm : m = p + 1) (hc1 : whyL (za.take m ++ zb) = 6) (hc2 : atL (za.take m ++ zb) = p) :
    Calls Try.prog 8 #[.slice a0 len0 cap0, .slice a1 len1 cap1] w fun e w' => e = .returned (.bool true) ∧ Below w.heap.size w w' := by
  have hB0 : Hid (Bytes w a0 za) := hB
  have hL0 : Hid (za.length = len0) := hL
  have hN0 : Hid (a0 = none → cap0 = 0) := hN
  have hB1 : Hid (Bytes w a1 zb) := hB'
  have hL1 : Hid (zb.length = len1) := hL'
  have hN1 : Hid (a1 = none → cap1 = 0) := hN'
  clear hB hL hN hB' hL' hN'
  have hT : Hid ((za.take m).length = m) := by show _ = _; rw [List.length_take, hL0.out]; omega
  have hsum : Hid ((za.take m).length + zb.length ≤ 140737488355328) := by show _ ≤ _; rw [hT.out, hL1.out]; omega
  have hza : Hid ((za.take m).length ≤ 140737488355328) := by show _ ≤ _; rw [hT.out]; omega
  have hlen : Hid ((za.take m ++ zb).length ≤ 4611686018427387904) := by show _ ≤ _; rw [List.length_append, hT.out, hL1.out]; omega
  have kC : Hid (∀ (X : World) (a : Option Addr) (n c : Nat), (za.take m ++ zb).length = n → Bytes X a (za.take m ++ zb) → n ≤ c → Calls Try.prog 12 #[.slice a n c] X fun e w' => e = .returned (.agg #[.int .i64 6, .int .i64 (p : Nat)]) ∧ Below X.heap.size X w') := fun X a n c h1 h2 h3 => by
    have h := check_any a n c (za.take m ++ zb) X h1 h2 h3 (by rw [← h1]; exact hlen.out)
    rw [hc1, hc2] at h
    exact h
  clear hc1 hc2
  have k1 := check_any a0 len0 cap0 za w hL0.out hB0.out hlc0 (by omega)
  rw [ha1, ha2] at k1
  clear ha1 ha2
  subst ha
  have d1 : ((p : Int) < 0) = False := eq_false (by omega)
  have d2 : decide ((len0 : Int) ≤ (p : Int)) = false := by simp; omega
  have e1 : IntKind.i64.wrap ((p : Int) + 1) = (p : Int) + 1 := by rw [IntKind.wrap_i64]; omega
  have i1 : (p : Int) + 1 ≤ (cap0 : Int) := by omega
  have i2 : (0 : Int) ≤ (p : Int) + 1 := by omega
  have hM : Hid (m = p + 1) := hm
  clear hm
  go_enter Try.func8, Try.ntmps8
  go_wp2_with fail
  refine k1.mono ?_
  rintro e x1 ⟨rfl, hb1⟩
  have hF : Hid (FAt (x1.alloc (.cells #[.int .i64 6, .int .i64 (p : Nat)] 26)) x1.heap.size 6 p) := heap_alloc_new x1 _
  have hbW : Hid (Below w.heap.size w (x1.alloc (.cells #[.int .i64 6, .int .i64 (p : Nat)] 26))) := hb1.alloc hb1.size _
  have hTW : Hid (Bytes (x1.alloc (.cells #[.int .i64 6, .int .i64 (p : Nat)] 26)) (some ⟨b, off, none⟩) (za.take m)) := (hB0.out.kept hbW.out).take _
  have hBW : Hid (Bytes (x1.alloc (.cells #[.int .i64 6, .int .i64 (p : Nat)] 26)) a1 zb) := hB1.out.kept hbW.out
  clear k1 hb1
  go_wp2_with fail
  generalize x1.heap.size = g5 at *
  generalize x1.alloc (.cells #[.int .i64 6, .int .i64 (p : Nat)] 26) = W at *
  go_region_held3 (fun w' => w'.cell? ⟨g5, 0, none⟩ = some (.int .i64 6) ∧ w'.cell? ⟨g5, 1, none⟩ = some (.int .i64 (p : Nat)))
    (first | exact ⟨hF.out.c0, hF.out.c1⟩ | exact ⟨hF1.out.c0, hF1.out.c1⟩ | exact ⟨hF2.out.c0, hF2.out.c1⟩ | exact ⟨hF3.out.c0, hF3.out.c1⟩ | exact ⟨hF4.out.c0, hF4.out.c1⟩) (first
    | (refine step_append_bytes (by rfl) _ _ (by rfl) W.heap.size (.slice none 0 0) [] (za.take m) (by rfl) (by exact ownsB_nil _ _) (some ⟨b, off, none⟩) _ _ (by rfl) (by rw [hT.out, hM.out]) (by simp) (by exact hTW.out) (by rw [List.length_nil, Nat.zero_add]; exact hza.out) (by exact Nat.le_refl _) ?_; intro v3 y1 ho3' hg3'; have ho3 : OwnsB y1 W.heap.size v3 (za.take m) := ho3'; have hg3 : W.grownBy y1 none := ⟨hg3'.os, hg3'.tape, hg3'.output, hg3'.size, hg3'.block⟩; have hb3 : Below W.heap.size W y1 := ((Below.refl W.heap.size W).grown hg3 (Nat.le_refl _) (fun k hk => by cases hk)); have hF1 : Hid (FAt y1 g5 6 p) := hF.out.kept hb3; have hB1 : Hid (Bytes y1 a1 zb) := hBW.out.kept hb3; have hO3 : Hid (OwnsB y1 W.heap.size v3 (za.take m)) := ho3; have hb3' : Hid (Below W.heap.size W y1) := hb3; clear hg3' hg3 ho3' ho3 hb3 hTW)
    | (refine step_append_bytes (by rfl) _ _ (by rfl) W.heap.size v3 (za.take m) zb (by rfl) (by exact hO3.out) a1 len1 cap1 (by rfl) (by exact hL1.out) (by exact hN1.out) (by exact hB1.out) (by exact hsum.out) (by exact hb3'.out.size) ?_; intro v4 y2 ho4 hg4'; have hg4 : y1.grownBy y2 v3.ownBlock := ⟨hg4'.os, hg4'.tape, hg4'.output, hg4'.size, hg4'.block⟩; have hb4 : Below W.heap.size W y2 := grown_below hb3'.out hO3.out hg4 hb3'.out.size; have hF2 : Hid (FAt y2 g5 6 p) := hF.out.kept hb4; have hy2 : Hid (Below w.heap.size w y2) := hbW.out.trans (hb4.mono hbW.out.size); obtain ⟨a4, n4, c4, rfl, hl4, -, hc4, hm4, hB4⟩ := ho4.form; clear hg4 hg4' ho4 hb4 hB1)
    | (go_at_call 12; refine (kC.out _ a4 n4 c4 hl4.out (by exact hB4.out) hc4).mono ?_; rintro e y3 ⟨rfl, hb5'⟩; have hb5 : Below y2.heap.size y2 y3 := ⟨hb5'.os, hb5'.tape, hb5'.output, hb5'.size, hb5'.block⟩; have hF3 : Hid (FAt y3 g5 6 p) := hF2.out.kept hb5; have hy3 : Hid (Below w.heap.size w y3) := hy2.out.trans (hb5.mono hy2.out.size); clear hb5 hb5' hB4)
    | (go_at_call 14; refine (alive_any _).mono ?_; rintro e y4 ⟨rfl, hb6'⟩; have hb6 : Below y3.heap.size y3 y4 := ⟨hb6'.os, hb6'.tape, hb6'.output, hb6'.size, hb6'.block⟩; have hF4 : Hid (FAt y4 g5 6 p) := hF3.out.kept hb6; have hy4 : Hid (Below w.heap.size w y4) := hy3.out.trans (hb6.mono hy3.out.size); clear hb6 hb6'))
  all_goals
    go_wp2
    go_ret
    exact ⟨rfl, hy4.out⟩
set_option maxHeartbeats 4000000 in
theorem walk (a0 : Option Addr) (len0 cap0 : Nat) (z0 : List Int) (a1 : Option Addr) (len1 cap1 : Nat) (z1 : List Int) (w : World) (w0 : IsRow .u8 w a0 len0 cap0 z0) (r0 : cap0 ≤ 140737488351232) (w1 : IsRow .u8 w a1 len1 cap1 z1) (r1 : cap1 ≤ 140737488351232) (small : cap0 + cap1 ≤ 1048576) :
    Calls Try.prog 8 #[.slice a0 len0 cap0, .slice a1 len1 cap1] w fun e w' => e = .returned (.bool true) ∧ Below w.heap.size w w' := by
  obtain ⟨hl, hb⟩ := bytes_of_row w0
  obtain ⟨hlc0, hcm0⟩ := row_le w0
  have hn := nil_cap w0
  generalize z0.take len0 = za at *
  have hB0 : Hid (Bytes w a0 za) := hb
  have hL0 : Hid (za.length = len0) := hl
  have hN0 : Hid (a0 = none → cap0 = 0) := hn
  clear hb hl hn w0 r0
  obtain ⟨hl, hb⟩ := bytes_of_row w1
  obtain ⟨hlc1, hcm1⟩ := row_le w1
  have hn := nil_cap w1
  generalize z1.take len1 = zb at *
  have hB1 : Hid (Bytes w a1 zb) := hb
  have hL1 : Hid (zb.length = len1) := hl
  have hN1 : Hid (a1 = none → cap1 = 0) := hn
  clear hb hl hn w1 r1
  unfold maxLen at hcm0 hcm1
  cases hfa : (runesL za).2 with
  | none =>
    obtain ⟨ha1, ha2, -⟩ := why_none hfa
    exact first_a a0 len0 cap0 za a1 len1 cap1 zb w hB0.out hL0.out hN0.out hB1.out hL1.out hN1.out hlc0 hlc1 small ha1 ha2
  | some p =>
    obtain ⟨ha1, ha2, -⟩ := why_some hfa
    by_cases hp : p < len0
    · have hc := fault_local za zb p hfa (by rw [hL0.out]; exact hp)
      obtain ⟨hc1, hc2, -⟩ := why_some hc
      obtain ⟨b, off, ha⟩ := bytes_some hB0.out (by rw [hL0.out]; omega)
      exact first_c a0 len0 cap0 za a1 len1 cap1 zb b off p (p + 1) w hB0.out hL0.out hN0.out hB1.out hL1.out hN1.out hlc0 hlc1 small ha ha1 ha2 hp rfl hc1 hc2
    · exact first_b a0 len0 cap0 za a1 len1 cap1 zb p w hB0.out hL0.out hN0.out hB1.out hL1.out hN1.out hlc0 hlc1 small ha1 ha2 (by omega)

set_option maxRecDepth 100000 in
theorem lifted (os : Os) (started : os.Started) (H : Type) (enc : TypeId × Value → H) (F : Stop.Interp) :
    ReturnsInHanded {} Try.checked os 8 .any ((Rows.OpenSpec.upto Rows.utfFirstSpec).pre6 enc Try.prog Try.f8 Rows.utfFirstUptoRow.domain false) (((Rows.OpenSpec.upto Rows.utfFirstSpec).at F).post enc Try.prog Try.f8 false true false false) := by
  refine returnsInHanded_of_cond_sized (C := Try.checked) (s := Rows.OpenSpec.upto Rows.utfFirstSpec) (k := Rows.uptoSmall) rfl own started (by kernel_rfl) Try.func8
    (OpenSpec.witness (enc := enc) (C := Try.checked) (s := Rows.OpenSpec.upto Rows.utfFirstSpec) (k := Rows.uptoSmall) rfl false ⟨#[], #[.slice none 0 0, .slice none 0 0], []⟩ 8 (by kernel_rfl) (by kernel_rfl) (by kernel_rfl)
      (x := ([.nil, .nil], [], [])) (by kernel_rfl) rfl (by kernel_rfl)) ?_
  intro W base args ds gs before hval0 hW _ hk hsz0 _
  have hval : ∀ (j : Nat) t v, Try.f8.params[j]? = some t → args[j]? = some v → Value.okWide Try.prog W .any base t v := hval0
  have hW' := hW
  have hsz : (DataW.weightsEach Try.prog (Try.f8.params.toList ++ (Rows.OpenSpec.upto Rows.utfFirstSpec).bare.plain.varTypes Try.prog) (ds ++ gs)).all (· ≤ reachBytes) = true := hsz0
  obtain ⟨p, q, hA0, hV, rfl, hfz, hnd⟩ := hW
  have hA : DataW.TrodAll enc Try.prog W 0 (fun _ => true) true Try.f8.params.toList args.toList ds p := hA0
  rw [Try.params8] at hA hval hsz
  obtain ⟨v0, vs0, d0, ds0, p0, q0, hargs, rfl, rfl, h0, r0'⟩ := trodAll_cons hA
  obtain ⟨v1, vs1, d1, ds1, p1, q1, rfl, rfl, rfl, h1, r1'⟩ := trodAll_cons r0'
  obtain ⟨rfl, rfl, rfl⟩ := trodAll_nil r1'
  obtain rfl : args = #[v0, v1] := by cases args; simp_all
  obtain ⟨rfl, rfl⟩ := trodVars_none hV
  obtain ⟨a0, len0, cap0, rfl⟩ := okWide_slice Try.underlying22 (hval 0 22 v0 rfl rfl)
  have k0 := h0
  have lt0 : ∀ x ∈ p0, x.block < W.heap.size := by obtain ⟨m, hm⟩ := k0; exact DataW.trod_lt m _ _ _ hm
  obtain ⟨z0, w0, r0, bk0⟩ : ∃ zs, IsRow .u8 W a0 len0 cap0 zs ∧ cap0 ≤ 140737488351232 ∧ cap0 ≤ Rows.uptoBulk d0 := by
    obtain ⟨fuel, hf⟩ := h0
    rcases open_ints Try.underlying22 Try.underlying5 (by kernel_rfl) hf with ⟨hcs, hx⟩ | ⟨x, l, c, zs, hcs, _, hl, hm, hz, hx, hcell, hwz⟩
    · simp [Value.cells] at hcs
      obtain ⟨rfl, rfl, rfl⟩ := hcs
      exact ⟨[], .inl ⟨rfl, rfl, rfl, rfl⟩, by omega, by omega⟩
    · simp [Value.cells] at hcs
      obtain ⟨rfl, rfl, rfl⟩ := hcs
      have hd : d0 = .slice (lits .u8 (zs.take len0)) (lits .u8 (zs.drop len0)) := (Prod.mk.inj hx).1
      have hz' : zs.length = cap0 := by simpa using hz
      have hr : cap0 ≤ 140737488351232 := by
        have := sized_slice hsz (j := 0) (t := 22) (e := 5) rfl (by rw [← hd]; rfl) Try.underlying22
        rw [bytes_e] at this
        simp only [lits, List.length_map, List.length_take, List.length_drop, reachBytes] at this
        omega
      exact ⟨zs, .inr ⟨_, rfl, hl, hm, hz', hcell, hwz⟩, hr, by rw [hd]; exact bulk_row (by omega)⟩
  obtain ⟨a1, len1, cap1, rfl⟩ := okWide_slice Try.underlying22 (hval 1 22 v1 rfl rfl)
  have k1 := h1
  have lt1 : ∀ x ∈ p1, x.block < W.heap.size := by obtain ⟨m, hm⟩ := k1; exact DataW.trod_lt m _ _ _ hm
  obtain ⟨z1, w1, r1, bk1⟩ : ∃ zs, IsRow .u8 W a1 len1 cap1 zs ∧ cap1 ≤ 140737488351232 ∧ cap1 ≤ Rows.uptoBulk d1 := by
    obtain ⟨fuel, hf⟩ := h1
    rcases open_ints Try.underlying22 Try.underlying5 (by kernel_rfl) hf with ⟨hcs, hx⟩ | ⟨x, l, c, zs, hcs, _, hl, hm, hz, hx, hcell, hwz⟩
    · simp [Value.cells] at hcs
      obtain ⟨rfl, rfl, rfl⟩ := hcs
      exact ⟨[], .inl ⟨rfl, rfl, rfl, rfl⟩, by omega, by omega⟩
    · simp [Value.cells] at hcs
      obtain ⟨rfl, rfl, rfl⟩ := hcs
      have hd : d1 = .slice (lits .u8 (zs.take len1)) (lits .u8 (zs.drop len1)) := (Prod.mk.inj hx).1
      have hz' : zs.length = cap1 := by simpa using hz
      have hr : cap1 ≤ 140737488351232 := by
        have := sized_slice hsz (j := 1) (t := 22) (e := 5) rfl (by rw [← hd]; rfl) Try.underlying22
        rw [bytes_e] at this
        simp only [lits, List.length_map, List.length_take, List.length_drop, reachBytes] at this
        omega
      exact ⟨zs, .inr ⟨_, rfl, hl, hm, hz', hcell, hwz⟩, hr, by rw [hd]; exact bulk_row (by omega)⟩
  have small : cap0 + cap1 ≤ 1048576 := by
    have hu : Rows.uptoBulkAll [d0, d1] ≤ 1048576 := of_decide_eq_true hk
    simp only [Rows.uptoBulkAll] at hu
    omega
  clear hA0 hval0
  refine (walk a0 len0 cap0 z0 a1 len1 cap1 z1 W w0 r0 w1 r1 small).mono fun e W' ⟨he, bel⟩ => ?_
  subst he
  exact ⟨_, rfl, _, _, _, [], _, [], hW', trodAll_mk1 (shut_bool Try.underlying4 _), (trodAll_cons_mk (Below.trod laidOut (by kernel_rfl) (of_decide_eq_true (by kernel_rfl)) k0 bel lt0) (trodAll_cons_mk (Below.trod laidOut (by kernel_rfl) (of_decide_eq_true (by kernel_rfl)) k1 bel lt1) trodAll_mk0)), rfl, bel.frame _, fun h => by cases h⟩

theorem over : Rows.utfFirstUptoRow.holds Try.pinned (Rows.OpenSpec.upto Rows.utfFirstSpec) :=
  OpenClaim.holds_of_cond 8 Try.f8 rfl rfl rfl rfl rfl rfl rfl ⟨rfl, rfl, rfl, rfl, rfl⟩ rfl rfl rfl rfl rfl (by kernel_rfl) Try.func8 (by kernel_rfl)
    (of_decide_eq_true (by kernel_rfl)) (by unfold Func.isWrapper; first | (rw [if_pos (by decide +kernel)]; kernel_rfl) | (rw [if_neg (by decide +kernel)]; exact ⟨rfl, rfl⟩))
    (fun os started H enc _ F => lifted os started H enc F)

end Go.Proofs.Ytjnhobohnkhpoaa.utfFirstUpto
namespace Go.Proofs.Ytjnhobohnkhpoaa

theorem utfFirstUpto_holds : Rows.UtfFirstUptoSaid := utfFirstUpto.over
#print axioms utfFirstUpto_holds
end Go.Proofs.Ytjnhobohnkhpoaa
