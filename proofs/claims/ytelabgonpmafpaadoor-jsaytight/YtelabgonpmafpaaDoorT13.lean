/-
  A tree's text has no byte of a gap outside of strings, as plain data.
  A text has no byte of a gap outside of strings: the walk.
-/
import Derived.Test.YtelabgonpmafpaaDoorT11
import Derived.Test.YtelabgonpmafpaaDoorT12
namespace Go.Proofs.YtelabgonpmafpaaDoor
open Go.RowKit
set_option linter.unusedVariables false
/-- What a byte does: 0 outside of strings, 1 within, 2 behind a backslash within, 9 a byte that may not be. -/
def tgS (s : Nat) (c : Int) : Nat := if s = 2 then 1 else if s = 1 then (if c = 92 then 2 else if c = 34 then 0 else 1) else if s = 0 then (if c = 34 then 1 else if c ≤ 32 ∨ 126 < c then 9 else 0) else 9
def tgL (s : Nat) (l : List Int) : Nat := l.foldl tgS s
theorem tgL_app (s : Nat) (l m : List Int) : tgL s (l ++ m) = tgL (tgL s l) m := by unfold tgL; rw [List.foldl_append]
theorem tgL_cons (s : Nat) (c : Int) (l : List Int) : tgL s (c :: l) = tgL (tgS s c) l := rfl
theorem tg_nine (l : List Int) : tgL 9 l = 9 := by
  induction l with
  | nil => rfl
  | cons c l ih => rw [tgL_cons]; exact ih
def Tight (x : ByteArray) : Prop := tgL 0 (bs x) = 0
theorem tight_jn (l : List ByteArray) (h : ∀ x ∈ l, Tight x) : ∀ acc, tgL 0 acc = 0 → tgL 0 (jn l acc) = 0 := by
  induction l with
  | nil => intro acc ha; exact ha
  | cons x l ih =>
    intro acc ha
    rw [jn]
    split
    · exact ha
    · refine ih (fun y hy => h y (List.mem_cons_of_mem _ hy)) _ ?_
      rw [tgL_app, ha]
      exact h x List.mem_cons_self
theorem bs_range (x : ByteArray) : ∀ c ∈ bs x, 0 ≤ c ∧ c < 256 := by
  intro c hc
  unfold bs at hc
  obtain ⟨b, _, rfl⟩ := List.mem_map.1 hc
  have := b.toNat_lt
  omega
theorem jn_range (l : List ByteArray) : ∀ acc : List Int, (∀ c ∈ acc, 0 ≤ c ∧ c < 256) → ∀ c ∈ jn l acc, 0 ≤ c ∧ c < 256 := by
  induction l with
  | nil => intro acc h; exact h
  | cons x l ih =>
    intro acc h
    rw [jn]
    split
    · exact h
    · refine ih _ (fun c hc => ?_)
      rcases List.mem_append.1 hc with q | q
      · exact h c q
      · exact bs_range x c q
theorem jnB_bs (l : List ByteArray) : bs (jnB l) = jn l [] := bs_str (jn_range l [] (by simp))
theorem tight_jnB (l : List ByteArray) (h : ∀ x ∈ l, Tight x) : Tight (jnB l) := by
  unfold Tight
  rw [jnB_bs]
  exact tight_jn l h [] rfl
theorem tg_plain (l : List Int) (h : ∀ c ∈ l, 33 ≤ c ∧ c ≤ 126 ∧ c ≠ 34) : tgL 0 l = 0 := by
  induction l with
  | nil => rfl
  | cons c l ih =>
    obtain ⟨h1, h2, h3⟩ := h c List.mem_cons_self
    rw [tgL_cons]
    have e : tgS 0 c = 0 := by
      unfold tgS
      rw [if_neg (by decide), if_neg (by decide), if_pos rfl, if_neg h3, if_neg (by omega)]
    rw [e]
    exact ih fun x hx => h x (List.mem_cons_of_mem _ hx)
theorem tg_in (l : List Int) (h : ∀ c ∈ l, c ≠ 92 ∧ c ≠ 34) : tgL 1 l = 1 := by
  induction l with
  | nil => rfl
  | cons c l ih =>
    obtain ⟨h1, h2⟩ := h c List.mem_cons_self
    rw [tgL_cons]
    have e : tgS 1 c = 1 := by
      unfold tgS
      rw [if_neg (by decide), if_pos rfl, if_neg h1, if_neg h2]
    rw [e]
    exact ih fun x hx => h x (List.mem_cons_of_mem _ hx)
theorem hexN_plain {d : Nat} (h : d < 16) : (hexN d : Int) ≠ 92 ∧ (hexN d : Int) ≠ 34 := by unfold hexN; split <;> omega
theorem enc_plain {r : Nat} (hr : Right r) (h34 : r ≠ 34) (h92 : r ≠ 92) : ∀ c ∈ encL r, c ≠ 92 ∧ c ≠ 34 := by
  intro c hc
  unfold encL at hc
  repeat' split at hc
  all_goals
    simp only [List.mem_cons, List.not_mem_nil, or_false] at hc
    omega
theorem tg_esc {r : Nat} (hr : Right r) : tgL 1 (escR r) = 1 := by
  unfold escR
  by_cases h : 0 ≤ meanI r
  · rw [if_pos h]
    rw [tgL_cons]
    have e : tgS 1 92 = 2 := rfl
    rw [e, tgL_cons]
    rfl
  · rw [if_neg h]
    by_cases h32 : r < 32
    · rw [if_pos h32, tgL_cons]
      have e : tgS 1 92 = 2 := rfl
      rw [e, tgL_cons]
      have e2 : tgS 2 117 = 1 := rfl
      rw [e2]
      refine tg_in _ (fun c hc => ?_)
      simp only [List.mem_cons, List.not_mem_nil, or_false] at hc
      rcases hc with rfl | rfl | rfl | rfl
      · decide
      · decide
      · exact hexN_plain (by omega)
      · exact hexN_plain (by omega)
    · rw [if_neg h32]
      refine tg_in _ (enc_plain hr ?_ ?_)
      · rintro rfl; exact h (by decide)
      · rintro rfl; exact h (by decide)
theorem tg_escs (l : List Nat) (h : ∀ r ∈ l, Right r) : tgL 1 (escAll l) = 1 := by
  induction l with
  | nil => rfl
  | cons r l ih =>
    rw [escAll_cons, tgL_app, tg_esc (h r List.mem_cons_self)]
    exact ih fun x hx => h x (List.mem_cons_of_mem _ hx)
theorem num_digits (n : Nat) : ∀ c ∈ numL n, 48 ≤ c ∧ c ≤ 57 := by
  induction n using Nat.strongRecOn with
  | _ n ih =>
    by_cases h : n < 10
    · rw [num_small h]; intro c hc; simp at hc; omega
    · rw [num_big (by omega)]
      intro c hc
      rcases List.mem_append.1 hc with q | q
      · exact ih (n / 10) (by omega) c q
      · simp at q; omega
theorem rt_digits {s : ByteArray} (h : rt s = true) : ∀ c ∈ bs s, 48 ≤ c ∧ c ≤ 57 := by
  unfold rt rightT at h
  simp only [Bool.and_eq_true, List.all_eq_true, decide_eq_true_eq] at h
  exact h.2.2.2
theorem tight_text (n : Bool) (s : ByteArray) (x : Int) : Tight (textA n s x) := by
  unfold Tight textA
  by_cases h : rtN n s x = true
  · rw [if_pos h]
    have hd : ∀ c ∈ bs s, 48 ≤ c ∧ c ≤ 57 := by
      unfold rtN at h
      by_cases h0 : bs s = [48]
      · rw [h0]; intro c hc; simp at hc; omega
      · rw [if_neg h0] at h
        simp only [Bool.and_eq_true] at h
        exact rt_digits h.1
    have hi : ∀ c ∈ itoaL x, 33 ≤ c ∧ c ≤ 126 ∧ c ≠ 34 := by
      unfold itoaL
      intro c hc
      split at hc
      · rcases List.mem_cons.1 hc with rfl | q
        · omega
        · have := num_digits _ c q; omega
      · have := num_digits _ c hc; omega
    have hp : ∀ c ∈ textL n (bs s) x, 33 ≤ c ∧ c ≤ 126 ∧ c ≠ 34 := by
      unfold textL
      intro c hc
      rcases List.mem_append.1 hc with q | q
      · rcases List.mem_append.1 q with q | q
        · split at q
          · simp at q; omega
          · cases q
        · have := hd c q; omega
      · split at q
        · cases q
        · rcases List.mem_cons.1 q with rfl | q
          · omega
          · exact hi c q
    rw [bs_str (fun c hc => by have := hp c hc; omega)]
    exact tg_plain _ hp
  · rw [if_neg h]; rfl
/-- Characters of a text are right ones. -/
theorem tight_esc (s : ByteArray) : Tight (strOfNums (escA (bs s))) := by
  unfold Tight
  have hR := escA_bytes (bs s) (bs_range s)
  rw [bs_str hR]
  unfold escA
  by_cases h : (runesL (bs s)).2 = none
  · rw [if_pos h, tgL_app, tgL_app]
    have e : tgL 0 [34] = 1 := rfl
    rw [e, tg_escs _ (enc_text (bs s) (bs_range s) h).2]
    rfl
  · rw [if_neg h]; rfl
theorem tight_rowP {l : List ByteArray} (h : ∀ x ∈ l, Tight x) : ∀ x ∈ rowP l, Tight x := by
  intro x hx
  rcases rowP_mem hx with q | rfl
  · exact h x q
  · rfl
/-- A TREE's TEXT IS TIGHT. -/
theorem txT_tight : ∀ (d : Nat) (t : Tr) (s : ByteArray), t.All (fun u => alF u = 0) → txT d t = some s → Tight s := by
  intro d
  induction d with
  | zero => intro t s _ h; cases h
  | succ d ih =>
    intro t s ha h
    obtain ⟨h0, hk, hi⟩ := (Tr.all_eq _ t).1 ha
    rw [txT] at h
    by_cases k0 : t.kind = 0
    · rw [if_pos k0] at h; cases h; rfl
    rw [if_neg k0] at h
    by_cases k1 : t.kind = 1
    · rw [if_pos k1] at h; cases h; split <;> rfl
    rw [if_neg k1] at h
    by_cases k2 : t.kind = 2
    · rw [if_pos k2] at h; cases h
      refine tight_jnB _ (fun x hx => ?_)
      simp at hx
      rcases hx with rfl | rfl
      · unfold sign; split <;> rfl
      · refine tg_plain _ (fun c hc => ?_)
        have := rt_digits (al_dig h0 k2).2 c hc
        omega
    rw [if_neg k2] at h
    by_cases k3 : t.kind = 3
    · rw [if_pos k3] at h; cases h; exact tight_text _ _ _
    rw [if_neg k3] at h
    by_cases k5 : t.kind = 5
    · rw [if_pos k5] at h; cases h; exact tight_esc _
    rw [if_neg k5] at h
    by_cases k7 : t.kind = 7
    · rw [if_pos k7] at h
      cases ho : optAll (t.kids.map (txT d)) with
      | none => rw [ho] at h; cases h
      | some l =>
        rw [ho] at h; simp only [Option.map_some, Option.some.injEq] at h; subst h
        have hm := opt_mem ho
        refine tight_jnB _ (fun x hx => ?_)
        simp at hx
        rcases hx with rfl | rfl | rfl
        · rfl
        · refine tight_jnB _ (tight_rowP fun x hx => ?_)
          have hx' : some x ∈ t.kids.map (txT d) := by rw [hm]; exact List.mem_map_of_mem hx
          obtain ⟨u, hu, hx'⟩ := List.mem_map.1 hx'
          exact ih u x (hi u hu) hx'
        · rfl
    rw [if_neg k7] at h
    by_cases k8 : t.kind = 8
    · rw [if_pos k8] at h
      cases ho : optAll (List.zipWith (memF (txT d)) t.keys t.kids) with
      | none => rw [ho] at h; cases h
      | some l =>
        rw [ho] at h; simp only [Option.map_some, Option.some.injEq] at h; subst h
        have hm := opt_mem ho
        refine tight_jnB _ (fun x hx => ?_)
        simp at hx
        rcases hx with rfl | rfl | rfl
        · rfl
        · refine tight_jnB _ (tight_rowP fun x hx => ?_)
          have hx' : some x ∈ List.zipWith (memF (txT d)) t.keys t.kids := by rw [hm]; exact List.mem_map_of_mem hx
          obtain ⟨k, u, hu1, hu2, hx'⟩ := zip_mem hx'
          have hu' : k ∈ t.keys ∧ u ∈ t.kids := ⟨hu1, hu2⟩
          simp only [memF] at hx'
          by_cases k5 : k.kind = 5
          · rw [if_pos k5] at hx'
            cases hxu : txT d u with
            | none => rw [hxu] at hx'; cases hx'
            | some y =>
              rw [hxu] at hx'; simp only [Option.map_some, Option.some.injEq] at hx'; subst hx'
              refine tight_jnB _ (fun z hz => ?_)
              simp at hz
              rcases hz with rfl | rfl | rfl
              · exact tight_esc _
              · rfl
              · exact ih u z (hi u hu'.2) hxu
          · rw [if_neg k5] at hx'; cases hx'
        · rfl
    rw [if_neg k8] at h
    cases h
end Go.Proofs.YtelabgonpmafpaaDoor
namespace Go.Proofs.YtelabgonpmafpaaDoor
open Go.RowKit
set_option linter.unusedVariables false
theorem tg_step {l : List Int} {i : Nat} (h : i < l.length) : tgL 0 (l.take (i + 1)) = tgS (tgL 0 (l.take i)) l[i] := by
  rw [List.take_succ_eq_append_getElem h, tgL_app]
  rfl
theorem tg_rest (l : List Int) (i : Nat) : tgL 0 l = tgL (tgL 0 (l.take i)) (l.drop i) := by rw [← tgL_app, List.take_append_drop]
theorem tg_in92 {l : List Int} {i : Nat} (h : i < l.length) (hT : tgL 0 l = 0) (hq : tgL 0 (l.take i) = 1) (hc : l[i] = 92) : i + 1 < l.length ∧ tgL 0 (l.take (i + 2)) = 1 := by
  have h1 := tg_step h
  rw [hq, hc] at h1
  have h2 : tgL 0 (l.take (i + 1)) = 2 := h1
  have hlt : i + 1 < l.length := by
    rcases Nat.lt_or_ge (i + 1) l.length with q | q
    · exact q
    · rw [List.take_of_length_le q, hT] at h2; cases h2
  refine ⟨hlt, ?_⟩
  rw [tg_step hlt, h2]
  rfl
theorem tg_in34 {l : List Int} {i : Nat} (h : i < l.length) (hq : tgL 0 (l.take i) = 1) (hc : l[i] = 34) : tgL 0 (l.take (i + 1)) = 0 := by rw [tg_step h, hq, hc]; rfl
theorem tg_inx {l : List Int} {i : Nat} (h : i < l.length) (hq : tgL 0 (l.take i) = 1) (h1 : l[i] ≠ 92) (h2 : l[i] ≠ 34) : tgL 0 (l.take (i + 1)) = 1 := by
  rw [tg_step h, hq]
  unfold tgS
  rw [if_neg (by decide), if_pos rfl, if_neg h1, if_neg h2]
theorem tg_out34 {l : List Int} {i : Nat} (h : i < l.length) (hq : tgL 0 (l.take i) = 0) (hc : l[i] = 34) : tgL 0 (l.take (i + 1)) = 1 := by rw [tg_step h, hq, hc]; rfl
theorem tg_outx {l : List Int} {i : Nat} (h : i < l.length) (hT : tgL 0 l = 0) (hq : tgL 0 (l.take i) = 0) (hc : l[i] ≠ 34) : ¬ (l[i] ≤ 32 ∨ 126 < l[i]) ∧ tgL 0 (l.take (i + 1)) = 0 := by
  have h1 := tg_step h
  rw [hq] at h1
  unfold tgS at h1
  rw [if_neg (by decide), if_neg (by decide), if_pos rfl, if_neg hc] at h1
  by_cases hb : l[i] ≤ 32 ∨ 126 < l[i]
  · rw [if_pos hb] at h1
    have := tg_rest l (i + 1)
    rw [h1, tg_nine, hT] at this
    cases this
  · rw [if_neg hb] at h1
    exact ⟨hb, h1⟩
theorem bytes_get {w : World} {b off : Nat} {zs : List Int} (hb : Bytes w (some ⟨b, off, none⟩) zs) {i : Nat} (hi : i < zs.length) : w.cell? ⟨b, off + i, none⟩ = some (.int .u8 zs[i]) := by
  rcases hb.2.2 with h | ⟨b', off', h, hc⟩
  · subst h; simp at hi
  · cases h
    have := hc i hi
    rw [List.getD_eq_getElem?_getD, List.getElem?_eq_getElem hi] at this
    exact this
set_option maxHeartbeats 4000000 in
set_option maxRecDepth 100000 in
theorem wtight {D : Nat} {t : Tr} {b : Nb} {w : World} (hN : Nd D w b t) (hT : Tab w.heap.size w) :
    Calls Tryd.prog 4 #[.agg b.arr] w fun e w' => e = .returned (.bool true) ∧ Below w.heap.size w w' := by
  have hal := alloc_below w (.cells b.arr 26)
  have B1 : Hid (Below w.heap.size w (w.alloc (.cells b.arr 26))) := hal
  have T1 : Hid (Tab w.heap.size w) := hT
  have kP := print_any (hN.kept hal) ((hT.on hal).up hal.size)
  obtain ⟨f0, f1, f2, f3, f4, f5, f6, f7, f8⟩ := (nbox_new w b).fields
  clear hN hal hT
  go_enter Tryd.func4, Tryd.ntmps4
  go_wp2_with fail
  refine kP.mono ?_
  rintro e w2 ⟨⟨v, er, rfl, hr⟩, hb2⟩
  have b2 : Hid (Below w.heap.size w w2) := B1.out.trans (hb2.mono B1.out.size)
  have kA : Hid (∀ w', Below w.heap.size w w' → Calls Tryd.prog 6 #[] w' fun e w'' => e = .returned (.bool true) ∧ Below w'.heap.size w' w'') := fun w' h => alive_any w' ((T1.out.on h).up h.size)
  clear kP hb2 f0 f1 f2 f3 f4 f5 f6 f7 f8 B1 T1
  rcases hr.out with ⟨rfl, h0, _⟩ | ⟨rfl, s, a, n, c, rfl, hM, hx, hs, hl, hc, hcm, hca, hby⟩
  · have g0 : (er != 0) = true := by simpa using h0
    have kA2 := kA.out w2 b2.out
    clear h0 hr kA
    go_wp2_with (go_at_call 6; refine kA2.mono ?_; rintro e w3 ⟨rfl, hb3⟩)
    go_ret
    exact ⟨rfl, b2.out.trans (hb3.mono b2.out.size)⟩
  · have hTg : Hid (tgL 0 (bs s) = 0) := txT_tight D t s hM.2.2.1 hx
    have hby' : Hid (Bytes w2 a (bs s)) := hby
    have hl' : Hid ((bs s).length = n) := hl
    have hn4 : Hid (n ≤ 4096) := by show _ ≤ _; rw [← hl, bs_len]; exact hs
    obtain ⟨zs, hzs⟩ : ∃ zs, bs s = zs := ⟨_, rfl⟩
    rw [hzs] at hTg hby' hl'
    clear hr hM hx hs hl hca hby hzs
    go_wp2_with fail
    go_loopw [5, 6] (fun s5 s6 wr => ∃ (i : Nat) (q : Bool), i ≤ n ∧ s5 = .bool q ∧ s6 = .int .i64 i ∧ wr = w2 ∧ Hid (tgL 0 (zs.take i) = if q = true then 1 else 0)) (fun _ i _ => n - (intOf i).toNat)
    case atStart => exact ⟨0, false, Nat.zero_le _, rfl, rfl, rfl, rfl⟩
    case round =>
      obtain ⟨i, q, him, rfl, rfl, rfl, hq⟩ := hrel
      by_cases hlt : i < n
      · have hz : (i : Int) < (n : Int) := by omega
        have hz0 : (0 : Int) ≤ (i : Int) := by omega
        have hix : i < zs.length := by rw [hl'.out]; exact hlt
        obtain ⟨bk, ok, rfl⟩ := bytes_some hby'.out (by omega)
        have hck := bytes_get hby'.out hix
        have wi : IntKind.i64.wrap ((i : Int) + 1) = (i : Int) + 1 := by rw [IntKind.wrap_i64]; omega
        have wj : IntKind.i64.wrap ((i : Int) + 1 + 1) = (i : Int) + 1 + 1 := by rw [IntKind.wrap_i64]; have := hn4.out; omega
        cases q with
        | true =>
          have hq1 : tgL 0 (zs.take i) = 1 := hq.out
          by_cases h92 : zs[i] = 92
          · obtain ⟨l1, l2⟩ := tg_in92 hix hTg.out hq1 h92
            have hq2 : Hid (tgL 0 (zs.take (i + 1 + 1)) = if true = true then 1 else 0) := l2
            have l1' : i + 1 < n := by rw [← hl'.out]; exact l1
            have c1 : (zs[i] == 92) = true := by rw [h92]; rfl
            generalize zs[i] = x at *
            clear hq hq1 h92 l1 l2
            go_wp2_with fail
            go_roundw
            case rel => exact ⟨i + 1 + 1, true, by omega, rfl, by go_num, (by first | trivial | rfl), hq2⟩
            case measure => simp [intOf]; omega
          · have c1 : (zs[i] == 92) = false := by simpa using h92
            by_cases h34 : zs[i] = 34
            · have hq2 : Hid (tgL 0 (zs.take (i + 1)) = if false = true then 1 else 0) := tg_in34 hix hq1 h34
              have c2 : (zs[i] == 34) = true := by rw [h34]; rfl
              generalize zs[i] = x at *
              clear hq hq1 h92 h34
              go_wp2_with fail
              go_roundw
              case rel => exact ⟨i + 1, false, by omega, rfl, by go_num, (by first | trivial | rfl), hq2⟩
              case measure => simp [intOf]; omega
            · have hq2 : Hid (tgL 0 (zs.take (i + 1)) = if true = true then 1 else 0) := tg_inx hix hq1 h92 h34
              have c2 : (zs[i] == 34) = false := by simpa using h34
              generalize zs[i] = x at *
              clear hq hq1 h92 h34
              go_wp2_with fail
              go_roundw
              case rel => exact ⟨i + 1, true, by omega, rfl, by go_num, (by first | trivial | rfl), hq2⟩
              case measure => simp [intOf]; omega
        | false =>
          have hq1 : tgL 0 (zs.take i) = 0 := hq.out
          by_cases h34 : zs[i] = 34
          · have hq2 : Hid (tgL 0 (zs.take (i + 1)) = if true = true then 1 else 0) := tg_out34 hix hq1 h34
            have c2 : (zs[i] == 34) = true := by rw [h34]; rfl
            generalize zs[i] = x at *
            clear hq hq1 h34
            go_wp2_with fail
            go_roundw
            case rel => exact ⟨i + 1, true, by omega, rfl, by go_num, (by first | trivial | rfl), hq2⟩
            case measure => simp [intOf]; omega
          · obtain ⟨l1, l2⟩ := tg_outx hix hTg.out hq1 h34
            have hq2 : Hid (tgL 0 (zs.take (i + 1)) = if false = true then 1 else 0) := l2
            have c2 : (zs[i] == 34) = false := by simpa using h34
            have c3 : decide (zs[i] ≤ 32) = false := by simp; omega
            have c4 : decide (126 < zs[i]) = false := by simp; omega
            generalize zs[i] = x at *
            clear hq hq1 h34 l1 l2
            go_wp2_with fail
            go_roundw
            case rel => exact ⟨i + 1, false, by omega, rfl, by go_num, (by first | trivial | rfl), hq2⟩
            case measure => simp [intOf]; omega
      · have hz : ¬ (i : Int) < (n : Int) := by omega
        have hq0 : q = false := by
          have := hq.out
          rw [List.take_of_length_le (by rw [hl'.out]; omega), hTg.out] at this
          cases q with
          | true => cases this
          | false => rfl
        subst hq0
        have g1 : decide ((n : Int) ≤ 4096) = true := by have := hn4.out; simp; omega
        have g2 : decide (n ≤ 4096) = true := by have := hn4.out; simp; omega
        have kA2 := kA.out wr b2.out
        clear hq kA
        go_wp2_with (go_at_call 6; refine kA2.mono ?_; rintro e w3 ⟨rfl, hb3⟩)
        go_ret
        exact ⟨rfl, b2.out.trans (hb3.mono b2.out.size)⟩
end Go.Proofs.YtelabgonpmafpaaDoor
