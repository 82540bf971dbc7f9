/-
  The document's side: the number of digits, each carried on (gantlineref05.text).
-/
import Derived.Test.YtjdceigndleadaaGreatDoorXtext
namespace Go.Proofs.YtjdceigndleadaaGreatDoor
open Go.RowKit

/-- Digits as bytes. -/
def asB (o : List Nat) : List Int := o.map fun d => ((48 + d : Nat) : Int)
theorem asB_len (o : List Nat) : (asB o).length = o.length := by simp [asB]
theorem asB_snoc (o : List Nat) (d : Nat) : asB (o ++ [d]) = asB o ++ [((48 + d : Nat) : Int)] := by simp [asB]
theorem asB_bytes {o : List Nat} (h : ∀ d ∈ o, d < 10) : ∀ c ∈ asB o, 0 ≤ c ∧ c < 256 := fun c hc => by
  obtain ⟨d, hd, rfl⟩ := List.mem_map.1 hc
  have := h d hd
  omega
theorem asB_rev (o : List Nat) : (asB o).reverse = upL o := by simp [asB, upL]
theorem asB_getD {o : List Nat} {k : Nat} (h : k < o.length) : (asB o).getD k 0 = ((48 + o.getD k 0 : Nat) : Int) := by
  unfold asB
  rw [List.getD_eq_getElem?_getD, List.getElem?_map, List.getD_eq_getElem?_getD, List.getElem?_eq_getElem h]
  rfl
theorem low_drop (l : List Nat) {k : Nat} (h : k < l.length) : lowV (l.drop k) = l.getD k 0 + 10 * lowV (l.drop (k + 1)) := by
  rw [List.drop_eq_getElem_cons h, List.getD_eq_getElem?_getD, List.getElem?_eq_getElem h]
  rfl
theorem text_step {o : List Nat} {k c X V T : Nat} (hk : o.length = k) (h : lowV o + 10 ^ k * (c + V) = T) (hV : c + V = X) {r : Nat} (hr : X = 10 * r + X % 10) : lowV (o ++ [X % 10]) + 10 ^ (k + 1) * r = T := by
  rw [low_append, hk, ← h, hV]
  show lowV o + 10 ^ k * (X % 10 + 10 * 0) + 10 ^ (k + 1) * r = _
  rw [Nat.mul_zero, Nat.add_zero, Nat.pow_succ, Nat.mul_assoc, Nat.add_assoc, ← Nat.mul_add]
  congr 2
  omega
theorem below_digits {o : List Nat} (h : ∀ d ∈ o, d < 10) {d : Nat} (hd : d < 10) : ∀ x ∈ o ++ [d], x < 10 := fun x hx => by
  rcases List.mem_append.1 hx with h1 | h1
  · exact h x h1
  · simp only [List.mem_cons, List.not_mem_nil, or_false] at h1
    omega
theorem rest_div {c x V : Nat} : (c + (x + 10 * V)) / 10 = (c + x) / 10 + V := by omega
theorem low_take (l : List Nat) (k : Nat) (h : k < l.length) : lowV (l.take (k + 1)) = lowV (l.take k) + 10 ^ k * l.getD k 0 := by
  rw [List.take_succ_eq_append_getElem h, low_append, List.length_take, Nat.min_eq_left (by omega), List.getD_eq_getElem?_getD, List.getElem?_eq_getElem h]
  show _ + _ * (_ + 10 * 0) = _
  rw [Nat.mul_zero, Nat.add_zero]
  rfl
theorem low_take_zero {o : List Nat} {m : Nat} (hm : o.length = m + 1) (h : o.getD m 0 = 0) : lowV (o.take m) = lowV o := by
  have h1 := low_take o m (by omega)
  rw [← hm, List.take_length, h, Nat.mul_zero, Nat.add_zero] at h1
  exact h1.symm
theorem drop_rev {z : List Int} {m : Nat} (h : m < z.length) : (z.drop m).reverse = (z.drop (m + 1)).reverse ++ [z.getD m 0] := by
  rw [List.drop_eq_getElem_cons h, List.reverse_cons, List.getD_eq_getElem?_getD, List.getElem?_eq_getElem h]
  rfl
theorem txt_zero : txt (lowV []) = ⟨#[48]⟩ := rfl
/-- 10 hundred thousand million at most in a place. -/
def Mod (l : List Nat) : Prop := ∀ x ∈ l, x ≤ 1000000000000
theorem Mod.at {l : List Nat} (h : Mod l) (k : Nat) : l.getD k 0 ≤ 1000000000000 := by
  rw [List.getD_eq_getElem?_getD]
  cases hx : l[k]? with
  | none => exact Nat.zero_le _
  | some y => exact h y (List.mem_of_getElem? hx)

set_option maxRecDepth 100000 in
set_option maxHeartbeats 2000000 in
theorem text_any (a : Option Addr) (n cap : Nat) (l : List Nat) (w : World) (hl : l.length = n) (hI : Ints w a (intsN l)) (hM : Mod l) (hn : n ≤ 100000) :
    Calls Tryz.prog 59 #[.slice a n cap] w fun e w' => e = .returned (.string (txt (lowV l))) ∧ Below w.heap.size w w' := by
  have hA : Hid (Ints w a (intsN l)) := hI
  have hL : Hid (l.length = n) := hl
  have hMl : Hid (Mod l) := hM
  obtain ⟨T, hT⟩ : ∃ T, lowV l = T := ⟨_, rfl⟩
  rw [hT]
  have hT' : Hid (lowV l = T) := hT
  clear hI hl hM hT
  go_enter Tryz.func59, Tryz.ntmps59
  go_wp2
  go_loopw [3, 4, 5] (fun cv v iv wr => ∃ (k c : Nat) (o : List Nat), iv = .int .i64 k ∧ cv = .int .i64 c ∧ Hid (o.length = k) ∧ Hid (∀ d ∈ o, d < 10) ∧ Hid (OwnsB wr w.heap.size v (asB o)) ∧ Hid (lowV o + 10 ^ k * (c + lowV (l.drop k)) = T) ∧ Hid ((k ≤ n ∧ c ≤ 1000000000000) ∨ (n ≤ k ∧ k + c ≤ n + 1000000000000)) ∧ Hid (Below w.heap.size w wr)) (fun cv _ iv _ => (n - (intOf iv).toNat) + ((intOf cv).toNat + lowV (l.drop (intOf iv).toNat)))
  case atStart => exact ⟨0, 0, [], rfl, rfl, rfl, (fun _ h => by cases h), ownsB_nil _ _, (by show lowV [] + 10 ^ 0 * (0 + lowV (l.drop 0)) = T; rw [← hT'.out]; show 0 + 1 * (0 + lowV l) = lowV l; omega), .inl ⟨Nat.zero_le _, Nat.zero_le _⟩, Below.refl _ _⟩
  case round =>
    obtain ⟨k, c, o, rfl, rfl, hk, hd, hO, hv, hbd, hbl⟩ := hrel
    have hbs : w.heap.size ≤ wr.heap.size := hbl.out.size
    by_cases hlt : k < n
    · have hkl : k < l.length := by rw [hL.out]; exact hlt
      obtain ⟨b, off, rfl⟩ := ints_some hA.out (by rw [intsN_len, hL.out]; omega)
      have hcell := (hA.out.kept hbl.out).cell (i := k) (by rw [intsN_len]; exact hkl)
      rw [intsN_getD] at hcell
      have hx := hMl.out.at k
      have hld := low_drop l hkl
      have hb := hbd.out
      have hi1 : (k : Int) < (n : Int) := by omega
      have hms : Hid (n - (k + 1) + ((c + l.getD k 0) / 10 + lowV (l.drop (k + 1))) < n - k + (c + lowV (l.drop k))) := by show _ < _; rw [hld]; omega
      have hv' := hv.out
      rw [hld] at hv'
      have hst : Hid (lowV (o ++ [(c + l.getD k 0) % 10]) + 10 ^ (k + 1) * ((c + l.getD k 0) / 10 + lowV (l.drop (k + 1))) = T) := by
        have h1 := text_step (X := c + (l.getD k 0 + 10 * lowV (l.drop (k + 1)))) (r := (c + l.getD k 0) / 10 + lowV (l.drop (k + 1))) hk.out hv' rfl (by omega)
        have h2 : (c + (l.getD k 0 + 10 * lowV (l.drop (k + 1)))) % 10 = (c + l.getD k 0) % 10 := by omega
        rwa [h2] at h1
      generalize l.getD k 0 = x at *
      have hc' : c ≤ 1000000000000 := by omega
      obtain ⟨X, hX⟩ : ∃ X, c + x = X := ⟨_, rfl⟩
      rw [hX] at hms hst
      have w1 : IntKind.i64.wrap ((c : Int) + (x : Int)) = (X : Int) := by rw [wrap_fit (by omega) (by omega)]; omega
      have q1 : Int.tmod (X : Int) 10 = ((X % 10 : Nat) : Int) := rfl
      have q2 : Int.tdiv (X : Int) 10 = ((X / 10 : Nat) : Int) := rfl
      have hmod : X % 10 < 10 := by omega
      have hdv : X / 10 ≤ 1000000000000 := by omega
      have hd' : Hid (∀ x ∈ o ++ [X % 10], x < 10) := below_digits hd.out hmod
      have e1 : ((X : Nat) : Int) % 10 = ((X % 10 : Nat) : Int) := by omega
      have e2 : ((X : Nat) : Int) / 10 = ((X / 10 : Nat) : Int) := by omega
      generalize X % 10 = D at *
      generalize X / 10 = C at *
      have w2 : IntKind.i64.wrap (48 + (D : Int)) = ((48 + D : Nat) : Int) := by rw [wrap_fit (by omega) (by omega)]; omega
      have w3 : IntKind.u8.wrap ((48 + D : Nat) : Int) = ((48 + D : Nat) : Int) := by rw [IntKind.wrap_u8]; omega
      have w4 : IntKind.i64.wrap (C : Int) = (C : Int) := wrap_fit (by omega) (by omega)
      obtain ⟨by', hby⟩ : ∃ by' : Int, ((48 + D : Nat) : Int) = by' := ⟨_, rfl⟩
      have hbyb : 0 ≤ by' ∧ by' < 256 := by omega
      have hsn : Hid (asB (o ++ [D]) = asB o ++ [by']) := by rw [← hby]; exact asB_snoc o D
      rw [hby] at w2 w3
      have hol : Hid ((asB o).length ≤ 200000) := by show _ ≤ _; rw [asB_len, hk.out]; omega
      clear hx hld hb hv' hX hmod
      go_wp2_with (at_builtin; refine wpList_append_bytes rfl _ _ rfl w.heap.size _ (asB o) [by'] rfl (hO.out.alloc _) _ 1 1 rfl rfl (by intro h; cases h) (one_byte _ _ hbyb.1 hbyb.2) (by have := hol.out; simp; omega) (by simp; omega) ?_; intro v' w9 ho9 hg9)
      go_roundw
      case rel => exact ⟨k + 1, C, o ++ [D], by go_num, rfl, (by show _ = _; rw [List.length_append, hk.out]; rfl), hd', (by show OwnsB _ _ _ _; rw [hsn.out]; exact ho9), hst, .inl ⟨by omega, hdv⟩, grown_below (hbl.out.alloc hbs _) (hO.out.alloc _) hg9 (by simp; omega)⟩
      case measure => have := hms.out; simp [intOf]; exact this
    · have hdr : l.drop k = [] := List.drop_of_length_le (by rw [hL.out]; omega)
      by_cases hc0 : 0 < c
      · have hb := hbd.out
        have hms : Hid (c / 10 + lowV (l.drop (k + 1)) < c + lowV (l.drop k)) := by
          show _ < _
          have h1 : l.drop (k + 1) = [] := List.drop_of_length_le (by rw [hL.out]; omega)
          rw [hdr, h1]
          show c / 10 + 0 < c + 0
          omega
        have hnk : Hid (n - k = 0) := by show _ = _; omega
        have hv' := hv.out
        rw [hdr] at hv'
        have hst : Hid (lowV (o ++ [c % 10]) + 10 ^ (k + 1) * (c / 10 + lowV (l.drop (k + 1))) = T) := by
          have h1 : l.drop (k + 1) = [] := List.drop_of_length_le (by rw [hL.out]; omega)
          rw [h1]
          exact text_step (X := c) (r := c / 10 + 0) hk.out hv' rfl (by omega)
        have hb2 : Hid (n ≤ k + 1 ∧ k + 1 + c / 10 ≤ n + 1000000000000) := by show _ ∧ _; omega
        have hd1 : decide ((k : Int) < (n : Int)) = false := by simp; omega
        have hd2 : decide (0 < (c : Int)) = true := by simp; omega
        have q1 : Int.tmod (c : Int) 10 = ((c % 10 : Nat) : Int) := rfl
        have q2 : Int.tdiv (c : Int) 10 = ((c / 10 : Nat) : Int) := rfl
        have hmod : c % 10 < 10 := by omega
        have hd' : Hid (∀ x ∈ o ++ [c % 10], x < 10) := below_digits hd.out hmod
        have e1 : ((c : Nat) : Int) % 10 = ((c % 10 : Nat) : Int) := by omega
        have e2 : ((c : Nat) : Int) / 10 = ((c / 10 : Nat) : Int) := by omega
        have hcb : c / 10 ≤ 1000000000000 := by omega
        have hkb : k ≤ 1000000100000 := by omega
        generalize c % 10 = D at *
        generalize c / 10 = C at *
        have w2 : IntKind.i64.wrap (48 + (D : Int)) = ((48 + D : Nat) : Int) := by rw [wrap_fit (by omega) (by omega)]; omega
        have w3 : IntKind.u8.wrap ((48 + D : Nat) : Int) = ((48 + D : Nat) : Int) := by rw [IntKind.wrap_u8]; omega
        have w4 : IntKind.i64.wrap (C : Int) = (C : Int) := wrap_fit (by omega) (by omega)
        have w5 : IntKind.i64.wrap ((k : Int) + 1) = (k : Int) + 1 := wrap_fit (by omega) (by omega)
        obtain ⟨by', hby⟩ : ∃ by' : Int, ((48 + D : Nat) : Int) = by' := ⟨_, rfl⟩
        have hbyb : 0 ≤ by' ∧ by' < 256 := by omega
        have hsn : Hid (asB (o ++ [D]) = asB o ++ [by']) := by rw [← hby]; exact asB_snoc o D
        rw [hby] at w2 w3
        have hol : Hid ((asB o).length ≤ 1000000100000) := by show _ ≤ _; rw [asB_len, hk.out]; omega
        clear hb hv' hmod hdr
        go_wp2_with (at_builtin; refine wpList_append_bytes rfl _ _ rfl w.heap.size _ (asB o) [by'] rfl (hO.out.alloc _) _ 1 1 rfl rfl (by intro h; cases h) (one_byte _ _ hbyb.1 hbyb.2) (by have := hol.out; simp; omega) (by simp; omega) ?_; intro v' w9 ho9 hg9)
        go_roundw
        case rel => exact ⟨k + 1, C, o ++ [D], by go_num, rfl, (by show _ = _; rw [List.length_append, hk.out]; rfl), hd', (by show OwnsB _ _ _ _; rw [hsn.out]; exact ho9), hst, .inr hb2.out, grown_below (hbl.out.alloc hbs _) (hO.out.alloc _) hg9 (by simp; omega)⟩
        case measure =>
          have h1 := hms.out
          have h2 := hnk.out
          have h3 : n - (k + 1) = 0 := by omega
          simp [intOf]
          rw [h2, h3]
          omega
      · obtain rfl : c = 0 := by omega
        have hv' : Hid (lowV o = T) := by
          have := hv.out
          rw [hdr] at this
          rw [← this]
          show lowV o = lowV o + 10 ^ k * (0 + 0)
          omega
        have hd1 : decide ((k : Int) < (n : Int)) = false := by simp; omega
        obtain ⟨a2, m, c2, rfl, hm, -, hmc, hmm, hB2⟩ := hO.out.form
        have hob : Hid (o.length ≤ 1000000100000) := by show _ ≤ _; rw [hk.out]; have := hbd.out; omega
        have hom : Hid (o.length = m) := by show _ = _; rw [← hm.out, asB_len]
        clear hdr hv hbd hk hO hm
        generalize wr = W5 at *
        go_wp2
        go_loop [4] (fun v => ∃ (m : Nat) (o : List Nat), v = .slice a2 m c2 ∧ m ≤ c2 ∧ Hid (o.length = m) ∧ Hid (∀ d ∈ o, d < 10) ∧ Hid (Bytes W5 a2 (asB o)) ∧ Hid (lowV o = T) ∧ Hid (o.length ≤ 1000000100000)) (fun v => lenV v)
        case atStart => exact ⟨m, o, rfl, hmc, hom, hd, hB2, hv', hob⟩
        case round =>
          obtain ⟨m, o, rfl, hmc, hom, hd, hB2, hv', hob⟩ := hrel
          by_cases h1 : 1 < m ∧ o.getD (m - 1) 0 = 0
          · obtain ⟨q, rfl⟩ : ∃ q, m = q + 1 := ⟨m - 1, by omega⟩
            have hz : o.getD q 0 = 0 := h1.2
            have hom' := hom.out
            have hql : q < o.length := by omega
            obtain ⟨b2, o2, rfl⟩ := bytes_some hB2.out (by rw [asB_len]; omega)
            have hcell : W5.cell? ⟨b2, o2 + q, none⟩ = some (.int .u8 48) := by
              rcases hB2.out.2.2 with h | ⟨b', o', h, hcc⟩
              · exact absurd (by rw [← asB_len, h]; rfl : o.length = 0) (by omega)
              · cases h
                rw [hcc q (by rw [asB_len]; exact hql), asB_getD hql, hz]
                rfl
            have e1 : ((q + 1 : Nat) : Int) - 1 = (q : Int) := by omega
            have i1 : (q : Int) < ((q + 1 : Nat) : Int) := by omega
            have d1 : decide (1 < ((q + 1 : Nat) : Int)) = true := by simp; omega
            have hv2 : Hid (lowV (o.take q) = T) := by show _ = _; rw [low_take_zero hom.out hz]; exact hv'.out
            have hB3 : Hid (Bytes W5 (some ⟨b2, o2, none⟩) (asB (o.take q))) := by
              have := hB2.out.take q
              unfold asB at this ⊢
              rw [List.map_take]
              exact this
            have hl2 : Hid ((o.take q).length = q) := by show _ = _; rw [List.length_take]; omega
            have hd2 : Hid (∀ d ∈ o.take q, d < 10) := fun d h => hd.out d (List.mem_of_mem_take h)
            have hob2 : Hid ((o.take q).length ≤ 1000000100000) := by show _ ≤ _; rw [hl2.out]; have := hob.out; rw [hom.out] at this; omega
            have hq1 : 0 < q := by omega
            clear h1 hz hql hom'
            go_wp2
            go_round
            case rel => first | exact ⟨q, o.take q, by simp, by omega, hl2, hd2, hB3, hv2, hob2⟩ | exact ⟨by omega, o.take q, hl2, hd2, hB3, hv2, hob2⟩
            case measure => simp [lenV]
          · have hnum : Hid (o = [] ∨ upL o = numL T) := by
              by_cases h0 : o = []
              · exact .inl h0
              · refine .inr ?_
                rw [← hv'.out]
                refine up_num hd.out h0 ?_
                have h2 := List.length_pos_iff.2 h0
                have h3 := hom.out
                by_cases h4 : m = 1
                · exact .inl (by omega)
                · refine .inr fun h5 => h1 ⟨by omega, ?_⟩
                  rw [List.getLast_eq_getElem] at h5
                  rw [List.getD_eq_getElem?_getD, List.getElem?_eq_getElem (by omega)]
                  simp only [h3] at h5
                  exact h5
            have hstop : Hid (¬ (1 < m ∧ o.getD (m - 1) 0 = 0)) := h1
            have hmlen : Hid (m ≤ 1000000100000) := by show _ ≤ _; have := hob.out; rw [hom.out] at this; exact this
            have w0 : IntKind.i64.wrap ((m : Int) - 1) = (m : Int) - 1 := by have := hmlen.out; exact wrap_fit (by omega) (by omega)
            clear h1
            by_cases hm1 : 1 < m
            · obtain ⟨q, rfl⟩ : ∃ q, m = q + 1 := ⟨m - 1, by omega⟩
              have hom' := hom.out
              have hql : q < o.length := by omega
              obtain ⟨b2, o2, rfl⟩ := bytes_some hB2.out (by rw [asB_len]; omega)
              have hcell : W5.cell? ⟨b2, o2 + q, none⟩ = some (.int .u8 ((48 + o.getD q 0 : Nat) : Int)) := by
                rcases hB2.out.2.2 with h | ⟨b', o', h, hcc⟩
                · exact absurd (by rw [← asB_len, h]; rfl : o.length = 0) (by omega)
                · cases h
                  rw [hcc q (by rw [asB_len]; exact hql), asB_getD hql]
              have hnz : o.getD q 0 ≠ 0 := fun h => hstop.out ⟨by omega, h⟩
              have e1 : ((q + 1 : Nat) : Int) - 1 = (q : Int) := by omega
              have i1 : (q : Int) < ((q + 1 : Nat) : Int) := by omega
              have d1 : decide (1 < ((q + 1 : Nat) : Int)) = true := by simp; omega
              have hq1 : 0 < q := by omega
              obtain ⟨Y, hY⟩ : ∃ Y : Int, ((48 + o.getD q 0 : Nat) : Int) = Y := ⟨_, rfl⟩
              rw [hY] at hcell
              have dY : (Y == 48) = false := by rw [beq_eq_false_iff_ne]; omega
              clear hnz hY hql hom' hm1
              go_wp2
              go_loopw [6, 7] (fun v i wr2 => ∃ j : Nat, j ≤ (q + 1) ∧ i = .int .i64 ((j : Int) - 1) ∧ Hid (OwnsB wr2 W5.heap.size v ((asB o).drop j).reverse) ∧ Hid (Below W5.heap.size W5 wr2)) (fun _ i _ => (intOf i + 1).toNat)
              case atStart => exact ⟨(q + 1), Nat.le_refl _, by first | rfl | simp, (by
                show OwnsB _ _ _ _
                rw [List.drop_of_length_le (by rw [asB_len, hom.out]; exact Nat.le_refl _)]
                exact ⟨World.ownsRow_lit W5 #[] 0 (Nat.le_refl _) (by decide) rfl, by simp⟩), (Below.refl _ _).alloc (Nat.le_refl _) _⟩
              case round =>
                obtain ⟨j, hj, rfl, hO6, hb6⟩ := hrel
                cases j with
                | zero =>
                  obtain ⟨a6, n6, c6, rfl, hn6, -, hc6, hm6, hB6⟩ := hO6.out.form
                  have hlen6 : n6 = (q + 1) := by rw [← hn6.out, List.length_reverse, List.length_drop, asB_len, hom.out]; omega
                  rw [List.drop_zero, asB_rev] at hB6
                  have hbe := hbl.out.trans (hb6.out.mono hbl.out.size)
                  by_cases hn0 : n6 = 0
                  · subst hn0
                    have ho0 : o = [] := List.eq_nil_of_length_eq_zero (by rw [hom.out]; omega)
                    have hr : Hid (txt T = ⟨#[48]⟩) := by rw [← hv'.out, ho0]; exact txt_zero
                    clear hlen6 ho0
                    go_wp2
                    go_ret
                    exact ⟨by rw [hr.out]; rfl, hbe⟩
                  · have hr : Hid (txt T = strOfNums (upL o)) := by
                      rcases hnum.out with h | h
                      · exact absurd (by rw [hlen6, ← hom.out, h]; rfl) hn0
                      · rw [h]; rfl
                    have ks := conv_str hB6.out n6 c6 (by rw [up_len, hom.out]; exact hlen6.symm)
                    have d6 : ((n6 : Int) == 0) = false := by rw [beq_eq_false_iff_ne]; omega
                    clear hlen6 hn0
                    go_wp2
                    go_ret
                    exact ⟨by rw [hr.out]; rfl, hbe⟩
                | succ p =>
                  have hpl : p < (asB o).length := by rw [asB_len, hom.out]; omega
                  obtain ⟨b5, o5, ha5⟩ := bytes_some hB2.out (by omega)
                  have hcell6 : W5.cell? ⟨b5, o5 + p, none⟩ = some (.int .u8 ((asB o).getD p 0)) := by
                    rcases hB2.out.2.2 with h | ⟨b', o', h, hcc⟩
                    · rw [h] at hpl; cases hpl
                    · rw [ha5] at h
                      cases h
                      exact hcc p hpl
                  have hcell7 := (hb6.out.cell (p := ⟨b5, o5 + p, none⟩) (by rw [ha5] at hB2; exact hB2.out.lt (by intro h; rw [h] at hpl; cases hpl))).trans hcell6
                  have hYb := asB_bytes hd.out _ (getD_mem hpl)
                  have hdr : Hid _ := drop_rev hpl
                  have hlr : Hid ((((asB o).drop (p + 1)).reverse).length ≤ 1000000100000) := by show _ ≤ _; rw [List.length_reverse, List.length_drop, asB_len]; have := hob.out; omega
                  generalize (asB o).getD p 0 = Y6 at *
                  have e6 : ((p + 1 : Nat) : Int) - 1 = (p : Int) := by omega
                  rw [e6]
                  have i6 : (p : Int) < ((q + 1) : Int) := by omega
                  have w6 : IntKind.i64.wrap ((p : Int) - 1) = (p : Int) - 1 := by have := hob.out; have := hom.out; exact wrap_fit (by omega) (by omega)
                  have hbs6 : W5.heap.size ≤ wr.heap.size := hb6.out.size
                  have hp0 : (0 : Int) ≤ (p : Int) := by omega
                  clear hcell6 hpl e6 hcell
                  cases ha5
                  go_wp2_with (at_builtin; refine wpList_append_bytes rfl _ _ rfl W5.heap.size _ _ [Y6] rfl (hO6.out.alloc _) _ 1 1 rfl rfl (by intro h; cases h) (one_byte _ _ hYb.1 hYb.2) (by have := hlr.out; simp at this ⊢; omega) (by simp; omega) ?_; intro v' w9 ho9 hg9)
                  go_roundw
                  case rel => exact ⟨p, by omega, rfl, (by show OwnsB _ _ _ _; rw [hdr.out]; exact ho9), grown_below (hb6.out.alloc hbs6 _) (hO6.out.alloc _) hg9 (by simp; omega)⟩
                  case measure => simp [intOf]
            · have d1 : decide (1 < (m : Int)) = false := by simp; omega
              go_wp2
              go_loopw [6, 7] (fun v i wr2 => ∃ j : Nat, j ≤ m ∧ i = .int .i64 ((j : Int) - 1) ∧ Hid (OwnsB wr2 W5.heap.size v ((asB o).drop j).reverse) ∧ Hid (Below W5.heap.size W5 wr2)) (fun _ i _ => (intOf i + 1).toNat)
              case atStart => exact ⟨m, Nat.le_refl _, by first | rfl | simp, (by
                show OwnsB _ _ _ _
                rw [List.drop_of_length_le (by rw [asB_len, hom.out]; exact Nat.le_refl _)]
                exact ⟨World.ownsRow_lit W5 #[] 0 (Nat.le_refl _) (by decide) rfl, by simp⟩), (Below.refl _ _).alloc (Nat.le_refl _) _⟩
              case round =>
                obtain ⟨j, hj, rfl, hO6, hb6⟩ := hrel
                cases j with
                | zero =>
                  obtain ⟨a6, n6, c6, rfl, hn6, -, hc6, hm6, hB6⟩ := hO6.out.form
                  have hlen6 : n6 = m := by rw [← hn6.out, List.length_reverse, List.length_drop, asB_len, hom.out]; omega
                  rw [List.drop_zero, asB_rev] at hB6
                  have hbe := hbl.out.trans (hb6.out.mono hbl.out.size)
                  by_cases hn0 : n6 = 0
                  · subst hn0
                    have ho0 : o = [] := List.eq_nil_of_length_eq_zero (by rw [hom.out]; omega)
                    have hr : Hid (txt T = ⟨#[48]⟩) := by rw [← hv'.out, ho0]; exact txt_zero
                    clear hlen6 ho0
                    go_wp2
                    go_ret
                    exact ⟨by rw [hr.out]; rfl, hbe⟩
                  · have hr : Hid (txt T = strOfNums (upL o)) := by
                      rcases hnum.out with h | h
                      · exact absurd (by rw [hlen6, ← hom.out, h]; rfl) hn0
                      · rw [h]; rfl
                    have ks := conv_str hB6.out n6 c6 (by rw [up_len, hom.out]; exact hlen6.symm)
                    have d6 : ((n6 : Int) == 0) = false := by rw [beq_eq_false_iff_ne]; omega
                    clear hlen6 hn0
                    go_wp2
                    go_ret
                    exact ⟨by rw [hr.out]; rfl, hbe⟩
                | succ p =>
                  have hpl : p < (asB o).length := by rw [asB_len, hom.out]; omega
                  obtain ⟨b5, o5, ha5⟩ := bytes_some hB2.out (by omega)
                  have hcell6 : W5.cell? ⟨b5, o5 + p, none⟩ = some (.int .u8 ((asB o).getD p 0)) := by
                    rcases hB2.out.2.2 with h | ⟨b', o', h, hcc⟩
                    · rw [h] at hpl; cases hpl
                    · rw [ha5] at h
                      cases h
                      exact hcc p hpl
                  have hcell7 := (hb6.out.cell (p := ⟨b5, o5 + p, none⟩) (by rw [ha5] at hB2; exact hB2.out.lt (by intro h; rw [h] at hpl; cases hpl))).trans hcell6
                  have hYb := asB_bytes hd.out _ (getD_mem hpl)
                  have hdr : Hid _ := drop_rev hpl
                  have hlr : Hid ((((asB o).drop (p + 1)).reverse).length ≤ 1000000100000) := by show _ ≤ _; rw [List.length_reverse, List.length_drop, asB_len]; have := hob.out; omega
                  generalize (asB o).getD p 0 = Y6 at *
                  have e6 : ((p + 1 : Nat) : Int) - 1 = (p : Int) := by omega
                  rw [e6]
                  have i6 : (p : Int) < (m : Int) := by omega
                  have w6 : IntKind.i64.wrap ((p : Int) - 1) = (p : Int) - 1 := by have := hob.out; have := hom.out; exact wrap_fit (by omega) (by omega)
                  have hbs6 : W5.heap.size ≤ wr.heap.size := hb6.out.size
                  have hp0 : (0 : Int) ≤ (p : Int) := by omega
                  clear hcell6 hpl e6
                  subst ha5
                  go_wp2_with (at_builtin; refine wpList_append_bytes rfl _ _ rfl W5.heap.size _ _ [Y6] rfl (hO6.out.alloc _) _ 1 1 rfl rfl (by intro h; cases h) (one_byte _ _ hYb.1 hYb.2) (by have := hlr.out; simp at this ⊢; omega) (by simp; omega) ?_; intro v' w9 ho9 hg9)
                  go_roundw
                  case rel => exact ⟨p, by omega, rfl, (by show OwnsB _ _ _ _; rw [hdr.out]; exact ho9), grown_below (hb6.out.alloc hbs6 _) (hO6.out.alloc _) hg9 (by simp; omega)⟩
                  case measure => simp [intOf]
end Go.Proofs.YtjdceigndleadaaGreatDoor
