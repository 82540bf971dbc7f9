/-
  For two lists of bytes, both of bulk at most 1048576: if both are texts, so are they one behind the other, of both one's characters; and a character is read and written, and a wrong byte told; the bytes stay as they were.
-/
import Derived.Test.YtjnhobohnkhpoaaRows
import Derived.Test.YtjnhobohnkhpoaaCount
import Derived.Test.YtjnhobohnkhpoaaAlive
import Derived.WalkKit
import Derived.ProofKit
import Derived.OpenShut
import Derived.ShutString
import Derived.ChangeOld
import Derived.Below
import Derived.SizedLaws
import Derived.Deep.CondSized
namespace Go.Proofs.Ytjnhobohnkhpoaa.utfBothUpto
open Go.ChangeShapes Go.WideShapes Go.ChangeAt Go.RowKit
open Go.ChangeMaps (open_string shut_string)
set_option linter.unusedVariables false

theorem own : ownKnob Try.prog.godebug = none := by kernel_rfl
theorem laidOut : laidOutB Try.prog = true := by kernel_rfl
theorem bytes_e : Try.prog.bytesOf 5 = 1 := by kernel_rfl

theorem bulk_lits {H : Type} (k : IntKind) (zs : List Int) : Rows.uptoBulkAll (H := H) (lits k zs) = zs.length := by
  induction zs with
  | nil => rfl
  | cons z zs ih =>
    show Rows.uptoBulk (H := H) (.lit (.int k z)) + Rows.uptoBulkAll (H := H) (lits k zs) = _
    rw [ih, List.length_cons]
    show 1 + zs.length = _
    omega
theorem bulk_row {H : Type} {zs : List Int} {len cap : Nat} (h : cap ≤ zs.length) : cap ≤ Rows.uptoBulk (H := H) (.slice (lits .u8 (zs.take len)) (lits .u8 (zs.drop len))) := by
  simp only [Rows.uptoBulk, bulk_lits, List.length_take, List.length_drop]
  omega

theorem txt_many (zs : List Int) : (txtL zs).length ≤ zs.length := by
  cases h : (runesL zs).2 with
  | none => rw [(why_none h).2.2, ints_len]; exact runes_many zs
  | some p => rw [(why_some h).2.2]; simp
/-- 'append(v, x...)' of runes, under a guard that is met. -/
theorem wpList_append_ints_if {w : World} {ops : Array Oper} {rest : List Oper} {o : Oper} {a : Act} {Q : Exit → Act → World → Prop} (hgd : Region.wanted o (yielded ops a.tmps) = true) (s x : Operand)
    (ho : o.op = .call { callee := .builtin .append, args := #[s, x], argTypes := #[23, 23] })
    (base : Nat) (v : Value) (ys zs : List Int) (hs : a.eval s = v) (hown : OwnsI w base v ys)
    (ad : Option Addr) (m c : Nat) (hx : a.eval x = .slice ad m c) (hm : zs.length = m) (hn : ad = none → c = 0) (hb : Ints w ad zs)
    (hbytes : ys.length + zs.length ≤ 52776558133248) (hbase : base ≤ w.heap.size)
    (h : ∀ v' w', OwnsI w' base v' (ys ++ zs) → w.grownBy w' v.ownBlock → wpList Try.prog ops Q rest (a.put o.dst v') w') : wpList Try.prog ops Q (o :: rest) a w := by
  subst hm
  obtain ⟨i, hi, hz, hsz, hby⟩ := info_parts info21
  refine BigFrame.wpList_want hgd fun K hK => ?_
  cases ad with
  | none =>
    have h0 : zs = [] := by
      rcases hb.2 with h0 | ⟨_, _, h0, _⟩
      · exact h0
      · cases h0
    subst h0
    rw [hn rfl] at hx
    have hrun := run_append_owned_none (P := Try.prog) (w := w) base 23 o.type 21 i 1 Try.underlying23 hi v ys.length _ hown
    have h9 := h v w (by simpa using hown) (World.grownBy.refl _ _)
    simp only [List.length_nil] at hx
    unfold Oper.wp
    simp [execOp, ho, resolve, invoke, builtin, hs, hx, hrun, Result.andThen]
    exact hK _ _ h9
  | some ad =>
    refine wp_append_own_wide w s x 23 ho base 21 i (.int .i32 0) 1 4 Try.underlying23 hi hz hsz hby rfl (by decide) v ys.length _ hs hown ad zs.length c (zs.map (Value.int .i32)) hx (by simp) (ints_news hb) (ints_one zs) ?_ (by omega) hbase ?_
    · unfold maxLen; omega
    · intro v' w' ho' hg _
      refine hK _ _ (h v' w' ?_ hg)
      unfold OwnsI
      rw [List.length_append, List.map_append]
      exact ho'
set_option maxHeartbeats 4000000 in
theorem both_a (a0 : Option Addr) (len0 cap0 : Nat) (za : List Int) (a1 : Option Addr) (len1 cap1 : Nat) (zb : List Int) (p : Nat) (TA TB : List Int) (w : World) (hB : Bytes w a0 za) (hL : za.length = len0) (hN : a0 = none → cap0 = 0) (hB' : Bytes w a1 zb) (hL' : zb.length = len1) (hN' : a1 = none → cap1 = 0) (hlc0 : len0 ≤ cap0) (hlc1 : len1 ≤ cap1) (small : cap0 + cap1 ≤ 1048576) (ha1 : whyL za = 6) (ha2 : atL za = p) (ha3 : txtL za = TA) (hb3 : txtL zb = TB) :
    Calls Try.prog 7 #[.slice a0 len0 cap0, .slice a1 len1 cap1] w fun e w' => e = .returned (.bool true) ∧ Below w.heap.size w w' := by
  have hB0 : Hid (Bytes w a0 za) := hB
  have hL0 : Hid (za.length = len0) := hL
  have hN0 : Hid (a0 = none → cap0 = 0) := hN
  have hB1 : Hid (Bytes w a1 zb) := hB'
  have hL1 : Hid (zb.length = len1) := hL'
  have hN1 : Hid (a1 = none → cap1 = 0) := hN'
  clear hB hL hN hB' hL' hN'
  obtain ⟨yb, hyb⟩ : ∃ y, whyL zb = y := ⟨_, rfl⟩
  obtain ⟨fb, hfb⟩ : ∃ y, atL zb = y := ⟨_, rfl⟩
  have k1 := runes_any a0 len0 cap0 za w hL0.out hB0.out hlc0 (by omega)
  rw [ha1, ha2, ha3] at k1
  have k2 := fun (X : World) (h : Bytes X a1 zb) => runes_any a1 len1 cap1 zb X hL1.out h hlc1 (by omega)
  rw [hyb, hfb, hb3] at k2
  have k2' : Hid _ := k2
  have hlen : Hid ((za ++ zb).length ≤ 4611686018427387904) := by show _ ≤ _; rw [List.length_append, hL0.out, hL1.out]; omega
  have hsum : Hid (za.length + zb.length ≤ 140737488355328) := by show _ ≤ _; rw [hL0.out, hL1.out]; omega
  have hza : Hid (za.length ≤ 140737488355328) := by show _ ≤ _; rw [hL0.out]; omega
  clear k2
  go_enter Try.func7, Try.ntmps7
  go_wp2_with fail
  refine k1.mono ?_
  rintro e x1 ⟨v1, rfl, ho1, hb1⟩
  have hK1 : Hid (Below w.heap.size w (x1.alloc (.cells #[.int .i64 6, .int .i64 (p : Nat)] 26))) := hb1.alloc hb1.size _
  have kk2 := k2'.out (x1.alloc (.cells #[.int .i64 6, .int .i64 (p : Nat)] 26)) (hB1.out.kept hK1.out)
  clear k1 k2'
  go_wp2_with fail
  refine kk2.mono ?_
  rintro e x2 ⟨v2, rfl, ho2, hb2⟩
  have hbx2 : Below w.heap.size w x2 := hK1.out.trans (hb2.mono hK1.out.size)
  have hK2 : Hid (Below w.heap.size w (x2.alloc (.cells #[.int .i64 (yb : Nat), .int .i64 (fb : Nat)] 26))) := hbx2.alloc hbx2.size _
  have hF6 : Hid (FAt (x2.alloc (.cells #[.int .i64 (yb : Nat), .int .i64 (fb : Nat)] 26)) x1.heap.size 6 p) := (FAt.kept (w := x1.alloc (.cells #[.int .i64 6, .int .i64 (p : Nat)] 26)) (heap_alloc_new x1 _) hb2).kept ((Below.refl _ _).alloc (Nat.le_refl _) _)
  have hF8 : Hid (FAt (x2.alloc (.cells #[.int .i64 (yb : Nat), .int .i64 (fb : Nat)] 26)) x2.heap.size yb fb) := heap_alloc_new x2 _
  have ho1' : Hid (OwnsI (x2.alloc (.cells #[.int .i64 (yb : Nat), .int .i64 (fb : Nat)] 26)) w.heap.size v1 TA) := (ho1.below (((Below.refl _ _).alloc (Nat.le_refl _) _).trans (hb2.mono (by simp)))).alloc _
  have ho2' : Hid (OwnsI (x2.alloc (.cells #[.int .i64 (yb : Nat), .int .i64 (fb : Nat)] 26)) (x1.alloc (.cells #[.int .i64 6, .int .i64 (p : Nat)] 26)).heap.size v2 TB) := ho2.alloc _
  have hlt1 : x1.heap.size < x2.heap.size := by have := hb2.size; simp at this; omega
  clear ho1 ho2 hb1 hb2 kk2 hbx2
  go_wp2_with (first
    | (at_builtin; refine wpList_append_bytes rfl _ (.tmp 22) rfl (x2.heap.size + 1) (.slice none 0 0) [] za rfl (ownsB_nil _ _) a0 len0 cap0 rfl hL0.out hN0.out (hB0.out.kept hK2.out) (by rw [List.length_nil, Nat.zero_add]; exact hza.out) (by simp) ?_; intro v3 x3 ho3 hg3; rw [List.nil_append] at ho3; have hb3 : Below (x2.heap.size + 1) (x2.alloc (.cells #[.int .i64 (yb : Nat), .int .i64 (fb : Nat)] 26)) x3 := ((Below.refl _ _).grown hg3 (by simp) (fun k hk => by cases hk)); have hs3 : x2.heap.size + 1 ≤ x3.heap.size := (by have := hb3.size; simp at this; omega); have hB13 : Hid (Bytes x3 a1 zb) := (hB1.out.kept (hK2.out.trans (hb3.mono (by have := hK2.out.size; simp at this; omega)))); clear hg3)
    | (at_builtin; refine wpList_append_bytes rfl _ (.tmp 24) rfl (x2.heap.size + 1) v3 za zb rfl ho3 a1 len1 cap1 rfl hL1.out hN1.out hB13.out hsum.out hs3 ?_; intro v4 x4 ho4 hg4; have hb4 := grown_below hb3 ho3 hg4 hs3; clear hg4 ho3 hb3 hB13))
  obtain ⟨a4, n4, c4, rfl, hl4, -, hc4, hm4, hB4⟩ := ho4.form
  have hn4 : n4 ≤ 4611686018427387904 := by rw [← hl4.out]; exact hlen.out
  have k5 := runes_any a4 n4 c4 (za ++ zb) x4 hl4.out hB4.out hc4 hn4
  clear ha1 ha2 ha3 hb3 hyb hfb
  obtain ⟨yc, hyc⟩ : ∃ y, whyL (za ++ zb) = y := ⟨_, rfl⟩
  obtain ⟨fc, hfc⟩ : ∃ y, atL (za ++ zb) = y := ⟨_, rfl⟩
  rw [hyc, hfc] at k5
  clear hyc hfc
  refine k5.mono ?_
  rintro e x5 ⟨v5, rfl, ho5, hb5⟩
  have hk4 : Below (x2.alloc (.cells #[.int .i64 (yb : Nat), .int .i64 (fb : Nat)] 26)).heap.size (x2.alloc (.cells #[.int .i64 (yb : Nat), .int .i64 (fb : Nat)] 26)) x4 := hb4.mono (by simp)
  have hk5 : Below (x2.alloc (.cells #[.int .i64 (yb : Nat), .int .i64 (fb : Nat)] 26)).heap.size (x2.alloc (.cells #[.int .i64 (yb : Nat), .int .i64 (fb : Nat)] 26)) x5 := hk4.trans (hb5.mono hk4.size)
  have G6 := hF6.out.kept hk5
  have G8 := hF8.out.kept hk5
  have c60 := fun o => (G6.kept (w' := x5.alloc o) ((Below.refl _ _).alloc (Nat.le_refl _) _)).c0
  have c61 := fun o => (G6.kept (w' := x5.alloc o) ((Below.refl _ _).alloc (Nat.le_refl _) _)).c1
  have c80 := fun o => (G8.kept (w' := x5.alloc o) ((Below.refl _ _).alloc (Nat.le_refl _) _)).c0
  have c81 := fun o => (G8.kept (w' := x5.alloc o) ((Below.refl _ _).alloc (Nat.le_refl _) _)).c1
  have hlt5 : x2.heap.size < x5.heap.size := by have := hk5.size; simp at this; omega
  have hne6 : ¬ x1.heap.size = x5.heap.size := by omega
  have hne8 : ¬ x2.heap.size = x5.heap.size := by omega
  have hbw5 : Below w.heap.size w x5 := hK2.out.trans (hk5.mono hK2.out.size)
  clear k5 ho4 hB4 hb4 hb5 G6 G8 hlt1 hlt5
  go_wp2_with (go_at_call 14; refine (alive_any _).mono ?_; rintro e x9 ⟨rfl, hb9⟩)
  go_ret
  have hbF := hbw5.alloc hbw5.size (.cells #[.int .i64 (yc : Nat), .int .i64 (fc : Nat)] 26)
  exact ⟨rfl, hbF.trans (hb9.mono hbF.size)⟩
set_option maxHeartbeats 4000000 in
theorem both_b (a0 : Option Addr) (len0 cap0 : Nat) (za : List Int) (a1 : Option Addr) (len1 cap1 : Nat) (zb : List Int) (p : Nat) (TA TB : List Int) (w : World) (hB : Bytes w a0 za) (hL : za.length = len0) (hN : a0 = none → cap0 = 0) (hB' : Bytes w a1 zb) (hL' : zb.length = len1) (hN' : a1 = none → cap1 = 0) (hlc0 : len0 ≤ cap0) (hlc1 : len1 ≤ cap1) (small : cap0 + cap1 ≤ 1048576) (ha1 : whyL za = 0) (ha2 : atL za = 0) (ha3 : txtL za = TA) (hb1 : whyL zb = 6) (hb2 : atL zb = p) (hb3 : txtL zb = TB) :
    Calls Try.prog 7 #[.slice a0 len0 cap0, .slice a1 len1 cap1] w fun e w' => e = .returned (.bool true) ∧ Below w.heap.size w w' := by
  have hB0 : Hid (Bytes w a0 za) := hB
  have hL0 : Hid (za.length = len0) := hL
  have hN0 : Hid (a0 = none → cap0 = 0) := hN
  have hB1 : Hid (Bytes w a1 zb) := hB'
  have hL1 : Hid (zb.length = len1) := hL'
  have hN1 : Hid (a1 = none → cap1 = 0) := hN'
  clear hB hL hN hB' hL' hN'
  have k1 := runes_any a0 len0 cap0 za w hL0.out hB0.out hlc0 (by omega)
  rw [ha1, ha2, ha3] at k1
  have k2 := fun (X : World) (h : Bytes X a1 zb) => runes_any a1 len1 cap1 zb X hL1.out h hlc1 (by omega)
  rw [hb1, hb2, hb3] at k2
  clear hb1 hb2 hb3
  have k2' : Hid _ := k2
  have hlen : Hid ((za ++ zb).length ≤ 4611686018427387904) := by show _ ≤ _; rw [List.length_append, hL0.out, hL1.out]; omega
  have hsum : Hid (za.length + zb.length ≤ 140737488355328) := by show _ ≤ _; rw [hL0.out, hL1.out]; omega
  have hza : Hid (za.length ≤ 140737488355328) := by show _ ≤ _; rw [hL0.out]; omega
  clear k2
  go_enter Try.func7, Try.ntmps7
  go_wp2_with fail
  refine k1.mono ?_
  rintro e x1 ⟨v1, rfl, ho1, hb1⟩
  have hK1 : Hid (Below w.heap.size w (x1.alloc (.cells #[.int .i64 0, .int .i64 0] 26))) := hb1.alloc hb1.size _
  have kk2 := k2'.out (x1.alloc (.cells #[.int .i64 0, .int .i64 0] 26)) (hB1.out.kept hK1.out)
  clear k1 k2'
  go_wp2_with fail
  refine kk2.mono ?_
  rintro e x2 ⟨v2, rfl, ho2, hb2⟩
  have hbx2 : Below w.heap.size w x2 := hK1.out.trans (hb2.mono hK1.out.size)
  have hK2 : Hid (Below w.heap.size w (x2.alloc (.cells #[.int .i64 6, .int .i64 (p : Nat)] 26))) := hbx2.alloc hbx2.size _
  have hF6 : Hid (FAt (x2.alloc (.cells #[.int .i64 6, .int .i64 (p : Nat)] 26)) x1.heap.size 0 0) := (FAt.kept (w := x1.alloc (.cells #[.int .i64 0, .int .i64 0] 26)) (heap_alloc_new x1 _) hb2).kept ((Below.refl _ _).alloc (Nat.le_refl _) _)
  have hF8 : Hid (FAt (x2.alloc (.cells #[.int .i64 6, .int .i64 (p : Nat)] 26)) x2.heap.size 6 p) := heap_alloc_new x2 _
  have ho1' : Hid (OwnsI (x2.alloc (.cells #[.int .i64 6, .int .i64 (p : Nat)] 26)) w.heap.size v1 TA) := (ho1.below (((Below.refl _ _).alloc (Nat.le_refl _) _).trans (hb2.mono (by simp)))).alloc _
  have ho2' : Hid (OwnsI (x2.alloc (.cells #[.int .i64 6, .int .i64 (p : Nat)] 26)) (x1.alloc (.cells #[.int .i64 0, .int .i64 0] 26)).heap.size v2 TB) := ho2.alloc _
  have hlt1 : x1.heap.size < x2.heap.size := by have := hb2.size; simp at this; omega
  clear ho1 ho2 hb1 hb2 kk2 hbx2
  go_wp2_with (first
    | (at_builtin; refine wpList_append_bytes rfl _ (.tmp 22) rfl (x2.heap.size + 1) (.slice none 0 0) [] za rfl (ownsB_nil _ _) a0 len0 cap0 rfl hL0.out hN0.out (hB0.out.kept hK2.out) (by rw [List.length_nil, Nat.zero_add]; exact hza.out) (by simp) ?_; intro v3 x3 ho3 hg3; rw [List.nil_append] at ho3; have hb3 : Below (x2.heap.size + 1) (x2.alloc (.cells #[.int .i64 6, .int .i64 (p : Nat)] 26)) x3 := ((Below.refl _ _).grown hg3 (by simp) (fun k hk => by cases hk)); have hs3 : x2.heap.size + 1 ≤ x3.heap.size := (by have := hb3.size; simp at this; omega); have hB13 : Hid (Bytes x3 a1 zb) := (hB1.out.kept (hK2.out.trans (hb3.mono (by have := hK2.out.size; simp at this; omega)))); clear hg3)
    | (at_builtin; refine wpList_append_bytes rfl _ (.tmp 24) rfl (x2.heap.size + 1) v3 za zb rfl ho3 a1 len1 cap1 rfl hL1.out hN1.out hB13.out hsum.out hs3 ?_; intro v4 x4 ho4 hg4; have hb4 := grown_below hb3 ho3 hg4 hs3; clear hg4 ho3 hb3 hB13))
  obtain ⟨a4, n4, c4, rfl, hl4, -, hc4, hm4, hB4⟩ := ho4.form
  have hn4 : n4 ≤ 4611686018427387904 := by rw [← hl4.out]; exact hlen.out
  have k5 := runes_any a4 n4 c4 (za ++ zb) x4 hl4.out hB4.out hc4 hn4
  clear ha1 ha2 ha3
  obtain ⟨yc, hyc⟩ : ∃ y, whyL (za ++ zb) = y := ⟨_, rfl⟩
  obtain ⟨fc, hfc⟩ : ∃ y, atL (za ++ zb) = y := ⟨_, rfl⟩
  rw [hyc, hfc] at k5
  clear hyc hfc
  refine k5.mono ?_
  rintro e x5 ⟨v5, rfl, ho5, hb5⟩
  have hk4 : Below (x2.alloc (.cells #[.int .i64 6, .int .i64 (p : Nat)] 26)).heap.size (x2.alloc (.cells #[.int .i64 6, .int .i64 (p : Nat)] 26)) x4 := hb4.mono (by simp)
  have hk5 : Below (x2.alloc (.cells #[.int .i64 6, .int .i64 (p : Nat)] 26)).heap.size (x2.alloc (.cells #[.int .i64 6, .int .i64 (p : Nat)] 26)) x5 := hk4.trans (hb5.mono hk4.size)
  have G6 := hF6.out.kept hk5
  have G8 := hF8.out.kept hk5
  have c60 := fun o => (G6.kept (w' := x5.alloc o) ((Below.refl _ _).alloc (Nat.le_refl _) _)).c0
  have c61 := fun o => (G6.kept (w' := x5.alloc o) ((Below.refl _ _).alloc (Nat.le_refl _) _)).c1
  have c80 := fun o => (G8.kept (w' := x5.alloc o) ((Below.refl _ _).alloc (Nat.le_refl _) _)).c0
  have c81 := fun o => (G8.kept (w' := x5.alloc o) ((Below.refl _ _).alloc (Nat.le_refl _) _)).c1
  have hlt5 : x2.heap.size < x5.heap.size := by have := hk5.size; simp at this; omega
  have hne6 : ¬ x1.heap.size = x5.heap.size := by omega
  have hne8 : ¬ x2.heap.size = x5.heap.size := by omega
  have hbw5 : Below w.heap.size w x5 := hK2.out.trans (hk5.mono hK2.out.size)
  clear k5 ho4 hB4 hb4 hb5 G6 G8 hlt1 hlt5
  go_wp2_with (go_at_call 14; refine (alive_any _).mono ?_; rintro e x9 ⟨rfl, hb9⟩)
  go_ret
  have hbF := hbw5.alloc hbw5.size (.cells #[.int .i64 (yc : Nat), .int .i64 (fc : Nat)] 26)
  exact ⟨rfl, hbF.trans (hb9.mono hbF.size)⟩
set_option maxHeartbeats 4000000 in
theorem both_c (a0 : Option Addr) (len0 cap0 : Nat) (za : List Int) (a1 : Option Addr) (len1 cap1 : Nat) (zb : List Int) (TA TB : List Int) (w : World) (hB : Bytes w a0 za) (hL : za.length = len0) (hN : a0 = none → cap0 = 0) (hB' : Bytes w a1 zb) (hL' : zb.length = len1) (hN' : a1 = none → cap1 = 0) (hlc0 : len0 ≤ cap0) (hlc1 : len1 ≤ cap1) (small : cap0 + cap1 ≤ 1048576) (ha1 : whyL za = 0) (ha2 : atL za = 0) (ha3 : txtL za = TA) (hb1 : whyL zb = 0) (hb2 : atL zb = 0) (hb3 : txtL zb = TB) (hc1 : whyL (za ++ zb) = 0) (hc2 : atL (za ++ zb) = 0) (hc3 : txtL (za ++ zb) = TA ++ TB) :
    Calls Try.prog 7 #[.slice a0 len0 cap0, .slice a1 len1 cap1] w fun e w' => e = .returned (.bool true) ∧ Below w.heap.size w w' := by
  have hB0 : Hid (Bytes w a0 za) := hB
  have hL0 : Hid (za.length = len0) := hL
  have hN0 : Hid (a0 = none → cap0 = 0) := hN
  have hB1 : Hid (Bytes w a1 zb) := hB'
  have hL1 : Hid (zb.length = len1) := hL'
  have hN1 : Hid (a1 = none → cap1 = 0) := hN'
  clear hB hL hN hB' hL' hN'
  have htm : Hid (TA.length ≤ 1048576 ∧ TB.length ≤ 1048576) := by
    have h1 := txt_many za
    have h2 := txt_many zb
    have h3 := hL0.out
    have h4 := hL1.out
    rw [ha3] at h1
    rw [hb3] at h2
    exact ⟨by omega, by omega⟩
  have k1 := runes_any a0 len0 cap0 za w hL0.out hB0.out hlc0 (by omega)
  rw [ha1, ha2, ha3] at k1
  have k2 := fun (X : World) (h : Bytes X a1 zb) => runes_any a1 len1 cap1 zb X hL1.out h hlc1 (by omega)
  rw [hb1, hb2, hb3] at k2
  clear hb1 hb2 hb3
  have k2' : Hid _ := k2
  have hlen : Hid ((za ++ zb).length ≤ 4611686018427387904) := by show _ ≤ _; rw [List.length_append, hL0.out, hL1.out]; omega
  have hsum : Hid (za.length + zb.length ≤ 140737488355328) := by show _ ≤ _; rw [hL0.out, hL1.out]; omega
  have hza : Hid (za.length ≤ 140737488355328) := by show _ ≤ _; rw [hL0.out]; omega
  clear k2
  go_enter Try.func7, Try.ntmps7
  go_wp2_with fail
  refine k1.mono ?_
  rintro e x1 ⟨v1, rfl, ho1, hb1⟩
  have hK1 : Hid (Below w.heap.size w (x1.alloc (.cells #[.int .i64 0, .int .i64 0] 26))) := hb1.alloc hb1.size _
  have kk2 := k2'.out (x1.alloc (.cells #[.int .i64 0, .int .i64 0] 26)) (hB1.out.kept hK1.out)
  clear k1 k2'
  go_wp2_with fail
  refine kk2.mono ?_
  rintro e x2 ⟨v2, rfl, ho2, hb2⟩
  have hbx2 : Below w.heap.size w x2 := hK1.out.trans (hb2.mono hK1.out.size)
  have hK2 : Hid (Below w.heap.size w (x2.alloc (.cells #[.int .i64 0, .int .i64 0] 26))) := hbx2.alloc hbx2.size _
  have hF6 : Hid (FAt (x2.alloc (.cells #[.int .i64 0, .int .i64 0] 26)) x1.heap.size 0 0) := (FAt.kept (w := x1.alloc (.cells #[.int .i64 0, .int .i64 0] 26)) (heap_alloc_new x1 _) hb2).kept ((Below.refl _ _).alloc (Nat.le_refl _) _)
  have hF8 : Hid (FAt (x2.alloc (.cells #[.int .i64 0, .int .i64 0] 26)) x2.heap.size 0 0) := heap_alloc_new x2 _
  have ho1' : Hid (OwnsI (x2.alloc (.cells #[.int .i64 0, .int .i64 0] 26)) w.heap.size v1 TA) := (ho1.below (((Below.refl _ _).alloc (Nat.le_refl _) _).trans (hb2.mono (by simp)))).alloc _
  have ho2' : Hid (OwnsI (x2.alloc (.cells #[.int .i64 0, .int .i64 0] 26)) (x1.alloc (.cells #[.int .i64 0, .int .i64 0] 26)).heap.size v2 TB) := ho2.alloc _
  have hlt1 : x1.heap.size < x2.heap.size := by have := hb2.size; simp at this; omega
  clear ho1 ho2 hb1 hb2 kk2 hbx2
  go_wp2_with (first
    | (at_builtin; refine wpList_append_bytes rfl _ (.tmp 22) rfl (x2.heap.size + 1) (.slice none 0 0) [] za rfl (ownsB_nil _ _) a0 len0 cap0 rfl hL0.out hN0.out (hB0.out.kept hK2.out) (by rw [List.length_nil, Nat.zero_add]; exact hza.out) (by simp) ?_; intro v3 x3 ho3 hg3; rw [List.nil_append] at ho3; have hb3 : Below (x2.heap.size + 1) (x2.alloc (.cells #[.int .i64 0, .int .i64 0] 26)) x3 := ((Below.refl _ _).grown hg3 (by simp) (fun k hk => by cases hk)); have hs3 : x2.heap.size + 1 ≤ x3.heap.size := (by have := hb3.size; simp at this; omega); have hB13 : Hid (Bytes x3 a1 zb) := (hB1.out.kept (hK2.out.trans (hb3.mono (by have := hK2.out.size; simp at this; omega)))); clear hg3)
    | (at_builtin; refine wpList_append_bytes rfl _ (.tmp 24) rfl (x2.heap.size + 1) v3 za zb rfl ho3 a1 len1 cap1 rfl hL1.out hN1.out hB13.out hsum.out hs3 ?_; intro v4 x4 ho4 hg4; have hb4 := grown_below hb3 ho3 hg4 hs3; clear hg4 ho3 hb3 hB13))
  obtain ⟨a4, n4, c4, rfl, hl4, -, hc4, hm4, hB4⟩ := ho4.form
  have hn4 : n4 ≤ 4611686018427387904 := by rw [← hl4.out]; exact hlen.out
  have k5 := runes_any a4 n4 c4 (za ++ zb) x4 hl4.out hB4.out hc4 hn4
  clear ha1 ha2 ha3
  rw [hc1, hc2, hc3] at k5
  clear hc1 hc2 hc3
  refine k5.mono ?_
  rintro e x5 ⟨v5, rfl, ho5, hb5⟩
  have hk4 : Below (x2.alloc (.cells #[.int .i64 0, .int .i64 0] 26)).heap.size (x2.alloc (.cells #[.int .i64 0, .int .i64 0] 26)) x4 := hb4.mono (by simp)
  have hk5 : Below (x2.alloc (.cells #[.int .i64 0, .int .i64 0] 26)).heap.size (x2.alloc (.cells #[.int .i64 0, .int .i64 0] 26)) x5 := hk4.trans (hb5.mono hk4.size)
  have G6 := hF6.out.kept hk5
  have G8 := hF8.out.kept hk5
  have c60 := fun o => (G6.kept (w' := x5.alloc o) ((Below.refl _ _).alloc (Nat.le_refl _) _)).c0
  have c61 := fun o => (G6.kept (w' := x5.alloc o) ((Below.refl _ _).alloc (Nat.le_refl _) _)).c1
  have c80 := fun o => (G8.kept (w' := x5.alloc o) ((Below.refl _ _).alloc (Nat.le_refl _) _)).c0
  have c81 := fun o => (G8.kept (w' := x5.alloc o) ((Below.refl _ _).alloc (Nat.le_refl _) _)).c1
  have hlt5 : x2.heap.size < x5.heap.size := by have := hk5.size; simp at this; omega
  have hne6 : ¬ x1.heap.size = x5.heap.size := by omega
  have hne8 : ¬ x2.heap.size = x5.heap.size := by omega
  have hbw5 : Below w.heap.size w x5 := hK2.out.trans (hk5.mono hK2.out.size)
  clear k5 ho4 hB4 hb4 hb5 G6 G8 hlt1 hlt5
  have ho1w : Hid (OwnsI (x5.alloc (.cells #[.int .i64 0, .int .i64 0] 26)) w.heap.size v1 TA) := (ho1'.out.below hk5).alloc _
  have ho2w : Hid (OwnsI (x5.alloc (.cells #[.int .i64 0, .int .i64 0] 26)) (x1.alloc (.cells #[.int .i64 0, .int .i64 0] 26)).heap.size v2 TB) := (ho2'.out.below hk5).alloc _
  have ho5w : Hid (OwnsI (x5.alloc (.cells #[.int .i64 0, .int .i64 0] 26)) x4.heap.size v5 (TA ++ TB)) := ho5.alloc _
  have hbF : Hid (Below w.heap.size w (x5.alloc (.cells #[.int .i64 0, .int .i64 0] 26))) := hbw5.alloc hbw5.size _
  obtain ⟨a7, n7, c7, rfl, hl7, hn7, -, -, hI7⟩ := ho1w.out.form
  obtain ⟨a8, n8, c8, rfl, hl8, hn8, -, -, hI8⟩ := ho2w.out.form
  obtain ⟨a9, n9, c9, rfl, hl9, -, -, -, hI9⟩ := ho5w.out.form
  have hn9 : Hid (n9 ≤ 4611686018427387904) := by show _ ≤ _; rw [← hl9.out, List.length_append]; have := htm.out; omega
  clear ho1w ho2w ho5w ho1' ho2' ho5 hk4 hk5
  go_wp2_with (first
    | (at_builtin; refine wpList_append_ints_if (by rfl) _ (.tmp 43) rfl (x5.heap.size + 1) (.slice none 0 0) [] TA rfl (ownsI_nil _ _) a7 n7 c7 rfl hl7.out hn7.out hI7.out (by rw [List.length_nil, Nat.zero_add]; have := htm.out; omega) (by simp) ?_; intro u1 y1 hp1 hg1; rw [List.nil_append] at hp1; have hd1 : Below (x5.heap.size + 1) (x5.alloc (.cells #[.int .i64 0, .int .i64 0] 26)) y1 := ((Below.refl _ _).grown hg1 (by simp) (fun k hk => by cases hk)); have hs1 : x5.heap.size + 1 ≤ y1.heap.size := (by have := hd1.size; simp at this; omega); have hI8' : Hid (Ints y1 a8 TB) := (hI8.out.kept (hd1.mono (by simp))); clear hg1)
    | (at_builtin; refine wpList_append_ints_if (by rfl) _ (.tmp 45) rfl (x5.heap.size + 1) u1 TA TB rfl hp1 a8 n8 c8 rfl hl8.out hn8.out hI8'.out (by have := htm.out; omega) hs1 ?_; intro u2 y2 hp2 hg2; have hd2 := grownI_below hd1 hp1 hg2 hs1; clear hg2 hp1 hd1 hI8'))
  obtain ⟨a10, n10, c10, rfl, hl10, -, -, -, hI10⟩ := hp2.form
  have kS := sameI_any a9 a10 n9 n10 c9 c10 (TA ++ TB) (TA ++ TB) y2 hl9.out hl10.out (hI9.out.kept (hd2.mono (by simp))) hI10.out hn9.out
  rw [decide_eq_true rfl] at kS
  have hby2 : Below w.heap.size w y2 := hbF.out.trans (hd2.mono (by have := hbF.out.size; simp at this; omega))
  refine kS.mono ?_
  rintro e y3 ⟨rfl, q3, hw3⟩
  have hby3 : Below w.heap.size w y3 := by rw [hw3]; exact below_drewN hby2 q3
  clear hw3 kS hp2 hd2
  go_wp2_with (go_at_call 14; refine (alive_any _).mono ?_; rintro e x9 ⟨rfl, hb9⟩)
  go_ret
  exact ⟨rfl, hby3.trans (hb9.mono hby3.size)⟩
set_option maxHeartbeats 4000000 in
theorem walk (a0 : Option Addr) (len0 cap0 : Nat) (z0 : List Int) (a1 : Option Addr) (len1 cap1 : Nat) (z1 : List Int) (w : World) (w0 : IsRow .u8 w a0 len0 cap0 z0) (r0 : cap0 ≤ 140737488351232) (w1 : IsRow .u8 w a1 len1 cap1 z1) (r1 : cap1 ≤ 140737488351232) (small : cap0 + cap1 ≤ 1048576) :
    Calls Try.prog 7 #[.slice a0 len0 cap0, .slice a1 len1 cap1] w fun e w' => e = .returned (.bool true) ∧ Below w.heap.size w w' := by
  obtain ⟨hl, hb⟩ := bytes_of_row w0
  obtain ⟨hlc0, hcm0⟩ := row_le w0
  have hn := nil_cap w0
  generalize z0.take len0 = za at *
  have hB0 : Hid (Bytes w a0 za) := hb
  have hL0 : Hid (za.length = len0) := hl
  have hN0 : Hid (a0 = none → cap0 = 0) := hn
  clear hb hl hn w0 r0
  obtain ⟨hl, hb⟩ := bytes_of_row w1
  obtain ⟨hlc1, hcm1⟩ := row_le w1
  have hn := nil_cap w1
  generalize z1.take len1 = zb at *
  have hB1 : Hid (Bytes w a1 zb) := hb
  have hL1 : Hid (zb.length = len1) := hl
  have hN1 : Hid (a1 = none → cap1 = 0) := hn
  clear hb hl hn w1 r1
  unfold maxLen at hcm0 hcm1
  obtain ⟨TA, hTA⟩ : ∃ TA, txtL za = TA := ⟨_, rfl⟩
  obtain ⟨TB, hTB⟩ : ∃ TB, txtL zb = TB := ⟨_, rfl⟩
  cases hfa : (runesL za).2 with
  | some p =>
    obtain ⟨ha1, ha2, -⟩ := why_some hfa
    exact both_a a0 len0 cap0 za a1 len1 cap1 zb p TA TB w hB0.out hL0.out hN0.out hB1.out hL1.out hN1.out hlc0 hlc1 small ha1 ha2 hTA hTB
  | none =>
    obtain ⟨ha1, ha2, ha4⟩ := why_none hfa
    cases hfb : (runesL zb).2 with
    | some p =>
      obtain ⟨hb1, hb2, -⟩ := why_some hfb
      exact both_b a0 len0 cap0 za a1 len1 cap1 zb p TA TB w hB0.out hL0.out hN0.out hB1.out hL1.out hN1.out hlc0 hlc1 small ha1 ha2 hTA hb1 hb2 hTB
    | none =>
      obtain ⟨hb1, hb2, hb4⟩ := why_none hfb
      have hap := runes_append za zb hfa
      rw [hfb] at hap
      obtain ⟨hc1, hc2, hc4⟩ := why_none (zs := za ++ zb) (by rw [hap]; rfl)
      have hc3 : txtL (za ++ zb) = TA ++ TB := by
        rw [hc4, hap, ← hTA, ← hTB, ha4, hb4]
        simp [ints]
      exact both_c a0 len0 cap0 za a1 len1 cap1 zb TA TB w hB0.out hL0.out hN0.out hB1.out hL1.out hN1.out hlc0 hlc1 small ha1 ha2 hTA hb1 hb2 hTB hc1 hc2 hc3

set_option maxRecDepth 100000 in
theorem lifted (os : Os) (started : os.Started) (H : Type) (enc : TypeId × Value → H) (F : Stop.Interp) :
    ReturnsInHanded {} Try.checked os 7 .any ((Rows.OpenSpec.upto Rows.utfBothSpec).pre6 enc Try.prog Try.f7 Rows.utfBothUptoRow.domain false) (((Rows.OpenSpec.upto Rows.utfBothSpec).at F).post enc Try.prog Try.f7 false true false false) := by
  refine returnsInHanded_of_cond_sized (C := Try.checked) (s := Rows.OpenSpec.upto Rows.utfBothSpec) (k := Rows.uptoSmall) rfl own started (by kernel_rfl) Try.func7
    (OpenSpec.witness (enc := enc) (C := Try.checked) (s := Rows.OpenSpec.upto Rows.utfBothSpec) (k := Rows.uptoSmall) rfl false ⟨#[], #[.slice none 0 0, .slice none 0 0], []⟩ 8 (by kernel_rfl) (by kernel_rfl) (by kernel_rfl)
      (x := ([.nil, .nil], [], [])) (by kernel_rfl) rfl (by kernel_rfl)) ?_
  intro W base args ds gs before hval0 hW _ hk hsz0 _
  have hval : ∀ (j : Nat) t v, Try.f7.params[j]? = some t → args[j]? = some v → Value.okWide Try.prog W .any base t v := hval0
  have hW' := hW
  have hsz : (DataW.weightsEach Try.prog (Try.f7.params.toList ++ (Rows.OpenSpec.upto Rows.utfBothSpec).bare.plain.varTypes Try.prog) (ds ++ gs)).all (· ≤ reachBytes) = true := hsz0
  obtain ⟨p, q, hA0, hV, rfl, hfz, hnd⟩ := hW
  have hA : DataW.TrodAll enc Try.prog W 0 (fun _ => true) true Try.f7.params.toList args.toList ds p := hA0
  rw [Try.params7] at hA hval hsz
  obtain ⟨v0, vs0, d0, ds0, p0, q0, hargs, rfl, rfl, h0, r0'⟩ := trodAll_cons hA
  obtain ⟨v1, vs1, d1, ds1, p1, q1, rfl, rfl, rfl, h1, r1'⟩ := trodAll_cons r0'
  obtain ⟨rfl, rfl, rfl⟩ := trodAll_nil r1'
  obtain rfl : args = #[v0, v1] := by cases args; simp_all
  obtain ⟨rfl, rfl⟩ := trodVars_none hV
  obtain ⟨a0, len0, cap0, rfl⟩ := okWide_slice Try.underlying22 (hval 0 22 v0 rfl rfl)
  have k0 := h0
  have lt0 : ∀ x ∈ p0, x.block < W.heap.size := by obtain ⟨m, hm⟩ := k0; exact DataW.trod_lt m _ _ _ hm
  obtain ⟨z0, w0, r0, bk0⟩ : ∃ zs, IsRow .u8 W a0 len0 cap0 zs ∧ cap0 ≤ 140737488351232 ∧ cap0 ≤ Rows.uptoBulk d0 := by
    obtain ⟨fuel, hf⟩ := h0
    rcases open_ints Try.underlying22 Try.underlying5 (by kernel_rfl) hf with ⟨hcs, hx⟩ | ⟨x, l, c, zs, hcs, _, hl, hm, hz, hx, hcell, hwz⟩
    · simp [Value.cells] at hcs
      obtain ⟨rfl, rfl, rfl⟩ := hcs
      exact ⟨[], .inl ⟨rfl, rfl, rfl, rfl⟩, by omega, by omega⟩
    · simp [Value.cells] at hcs
      obtain ⟨rfl, rfl, rfl⟩ := hcs
      have hd : d0 = .slice (lits .u8 (zs.take len0)) (lits .u8 (zs.drop len0)) := (Prod.mk.inj hx).1
      have hz' : zs.length = cap0 := by simpa using hz
      have hr : cap0 ≤ 140737488351232 := by
        have := sized_slice hsz (j := 0) (t := 22) (e := 5) rfl (by rw [← hd]; rfl) Try.underlying22
        rw [bytes_e] at this
        simp only [lits, List.length_map, List.length_take, List.length_drop, reachBytes] at this
        omega
      exact ⟨zs, .inr ⟨_, rfl, hl, hm, hz', hcell, hwz⟩, hr, by rw [hd]; exact bulk_row (by omega)⟩
  obtain ⟨a1, len1, cap1, rfl⟩ := okWide_slice Try.underlying22 (hval 1 22 v1 rfl rfl)
  have k1 := h1
  have lt1 : ∀ x ∈ p1, x.block < W.heap.size := by obtain ⟨m, hm⟩ := k1; exact DataW.trod_lt m _ _ _ hm
  obtain ⟨z1, w1, r1, bk1⟩ : ∃ zs, IsRow .u8 W a1 len1 cap1 zs ∧ cap1 ≤ 140737488351232 ∧ cap1 ≤ Rows.uptoBulk d1 := by
    obtain ⟨fuel, hf⟩ := h1
    rcases open_ints Try.underlying22 Try.underlying5 (by kernel_rfl) hf with ⟨hcs, hx⟩ | ⟨x, l, c, zs, hcs, _, hl, hm, hz, hx, hcell, hwz⟩
    · simp [Value.cells] at hcs
      obtain ⟨rfl, rfl, rfl⟩ := hcs
      exact ⟨[], .inl ⟨rfl, rfl, rfl, rfl⟩, by omega, by omega⟩
    · simp [Value.cells] at hcs
      obtain ⟨rfl, rfl, rfl⟩ := hcs
      have hd : d1 = .slice (lits .u8 (zs.take len1)) (lits .u8 (zs.drop len1)) := (Prod.mk.inj hx).1
      have hz' : zs.length = cap1 := by simpa using hz
      have hr : cap1 ≤ 140737488351232 := by
        have := sized_slice hsz (j := 1) (t := 22) (e := 5) rfl (by rw [← hd]; rfl) Try.underlying22
        rw [bytes_e] at this
        simp only [lits, List.length_map, List.length_take, List.length_drop, reachBytes] at this
        omega
      exact ⟨zs, .inr ⟨_, rfl, hl, hm, hz', hcell, hwz⟩, hr, by rw [hd]; exact bulk_row (by omega)⟩
  have small : cap0 + cap1 ≤ 1048576 := by
    have hu : Rows.uptoBulkAll [d0, d1] ≤ 1048576 := of_decide_eq_true hk
    simp only [Rows.uptoBulkAll] at hu
    omega
  clear hA0 hval0
  refine (walk a0 len0 cap0 z0 a1 len1 cap1 z1 W w0 r0 w1 r1 small).mono fun e W' ⟨he, bel⟩ => ?_
  subst he
  exact ⟨_, rfl, _, _, _, [], _, [], hW', trodAll_mk1 (shut_bool Try.underlying4 _), (trodAll_cons_mk (Below.trod laidOut (by kernel_rfl) (of_decide_eq_true (by kernel_rfl)) k0 bel lt0) (trodAll_cons_mk (Below.trod laidOut (by kernel_rfl) (of_decide_eq_true (by kernel_rfl)) k1 bel lt1) trodAll_mk0)), rfl, bel.frame _, fun h => by cases h⟩

theorem over : Rows.utfBothUptoRow.holds Try.pinned (Rows.OpenSpec.upto Rows.utfBothSpec) :=
  OpenClaim.holds_of_cond 7 Try.f7 rfl rfl rfl rfl rfl rfl rfl ⟨rfl, rfl, rfl, rfl, rfl⟩ rfl rfl rfl rfl rfl (by kernel_rfl) Try.func7 (by kernel_rfl)
    (of_decide_eq_true (by kernel_rfl)) (by unfold Func.isWrapper; first | (rw [if_pos (by decide +kernel)]; kernel_rfl) | (rw [if_neg (by decide +kernel)]; exact ⟨rfl, rfl⟩))
    (fun os started H enc _ F => lifted os started H enc F)

end Go.Proofs.Ytjnhobohnkhpoaa.utfBothUpto
namespace Go.Proofs.Ytjnhobohnkhpoaa

theorem utfBothUpto_holds : Rows.UtfBothUptoSaid := utfBothUpto.over
#print axioms utfBothUpto_holds
end Go.Proofs.Ytjnhobohnkhpoaa
