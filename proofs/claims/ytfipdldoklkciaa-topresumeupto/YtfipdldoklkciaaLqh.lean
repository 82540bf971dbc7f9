/-
  The walk of the law on breaks.
-/
import Derived.Test.YtfipdldoklkciaaLqg
import Derived.Deep.DeepAppendWide
namespace Go.Proofs.Ytfipdldoklkciaa
open Go.RowKit
set_option linter.unusedVariables false
/-- A load is put behind the others: what is wanted of it. -/
structure Rq (w0 w : World) (B : Nat) (q : Qb) (v u : Value) (l : List Int) (k : Nat) : Prop where
  ex : ∃ S, S.length ≤ 2199023255552 ∧ (∀ y, Below w.heap.size w y → OwnsO y B v S ∧ LoadO y B u l ∧ B ≤ y.heap.size) ∧
    ∀ y w2 v', Below w.heap.size w y → OwnsO w2 B v' (S ++ [l]) → y.grownBy w2 v.ownBlock → Rs w0 w2 B q v' k
theorem rp_q {w0 w : World} {B : Nat} {q : Qb} {v : Value} {k : Nat} (x : Bl) (hN : w0.heap.size = B) (hV : BlV w0 x) (hk : k ≤ 2199023255552) (h : Rp w0 w B q v x.zs k) : Rq w0 w B q v (.slice x.a x.zs.length x.cap) x.zs k := by
  obtain ⟨L, S, N, h1, h2, h3, h4, h5, h6, h7, h8, h9⟩ := h.ex
  have hB := h3.B_le
  have hO : ∀ y, x.a = some y → x.zs ≠ [] → y.block < B := fun y hy hne => by
    have hb := hV.1
    rw [hy] at hb
    rw [← hN]
    exact hb.lt hne
  exact ⟨S, by omega, fun y hy => ⟨h6.kept hy hB, ⟨x.a, x.cap, rfl, hV.1.below (h4.trans (hy.mono hB)) hO, hV.2.2.2, hV.2.1, hV.2.2.1, hO⟩, Nat.le_trans hB hy.size⟩,
    fun y w2 v' hy hO2 hg => rp_put h1 h2 h3 h4 h5 h6 h7 h8 hy hO2 hg⟩
theorem tm4 {c : Int} (h0 : 0 ≤ c) (h1 : c < 256) : IntKind.u8.wrap (Int.tmod c 4) = Int.tmod c 4 ∧ (Int.tmod c 4 = 0 ∨ Int.tmod c 4 = 1 ∨ Int.tmod c 4 = 2 ∨ Int.tmod c 4 = 3) := by
  rw [Int.tmod_eq_emod_of_nonneg h0]
  refine ⟨?_, by omega⟩
  have e : c % 4 = 0 ∨ c % 4 = 1 ∨ c % 4 = 2 ∨ c % 4 = 3 := by omega
  rcases e with e | e | e | e <;> rw [e] <;> decide
theorem Rs.to {w0 w : World} {B : Nat} {q : Qb} {v : Value} {k k' : Nat} (h : Rs w0 w B q v k) (hk : k ≤ k') : Rs w0 w B q v k' := by
  obtain ⟨m, rfl⟩ := Nat.le.dest hk
  exact h.ups m
theorem Rs.bel {w0 w : World} {B : Nat} {q : Qb} {v : Value} {k : Nat} (h : Rs w0 w B q v k) (hN : w0.heap.size = B) : Below w0.heap.size w0 w := by
  obtain ⟨L, S, N, _, _, h⟩ := h
  rw [hN]
  exact h.bel
theorem Rp.bel {w0 w : World} {B : Nat} {q : Qb} {v : Value} {l : List Int} {k : Nat} (h : Rp w0 w B q v l k) (hN : w0.heap.size = B) : Below w0.heap.size w0 w := by
  obtain ⟨L, S, N, _, _, _, h, _⟩ := h.ex
  rw [hN]
  exact h
/-- 'append(v, l)', the operations in their order. -/
theorem wpList_append_old {w : World} {ops : Array Oper} {rest : List Oper} {o : Oper} {a : Act} {Q : Exit → Act → World → Prop} (hgd : o.guard = none) (s x : Operand)
    (ho : o.op = .call { callee := .builtin .append, args := #[s, x], argTypes := #[44, 44] })
    (B : Nat) (v u : Value) (Ls : List (List Int)) (l : List Int) (hs : a.eval s = v) (hown : OwnsO w B v Ls) (hu : LoadO w B u l)
    (ad : Addr) (hx : a.eval x = .slice (some ad) 1 1) (hc : w.cell? (ad.add 0) = some u)
    (hbytes : Ls.length ≤ 2199023255552) (hbase : B ≤ w.heap.size)
    (h : ∀ v' w', OwnsO w' B v' (Ls ++ [l]) → w.grownBy w' v.ownBlock → wpList Try.prog ops Q rest (a.put o.dst v') w') : wpList Try.prog ops Q (o :: rest) a w := by
  obtain ⟨i, hi, hz, hsz, hby⟩ := info_parts infoB
  obtain ⟨vs, hvs, hl⟩ := hown
  refine wpList_append_own_wide w hgd s x 44 ho B 23 i (.slice none 0 0) 1 24 Try.underlying44 hi hz hsz hby rfl (by decide) v Ls.length _ hs hvs ad 1 1 [u] hx rfl (fun j y hy => ?_) (fun y hy => ?_) ?_ (by omega) hbase ?_
  · have hj : j = 0 := by
      have := (List.getElem?_eq_some_iff.1 hy).1
      simp at this
      omega
    subst hj
    simp only [List.getElem?_cons_zero, Option.some.injEq] at hy
    subst hy
    exact hc
  · simp only [List.mem_cons, List.not_mem_nil, or_false] at hy
    subst hy
    obtain ⟨a', cap', rfl, _⟩ := hu
    rfl
  · unfold maxLen; omega
  · intro v' w' ho' hg _
    have hbel : Below B w w' := (Below.refl B w).grown hg hbase fun k hk => (hvs.lt k hk).1
    refine h v' w' ⟨vs ++ [u], by rw [List.length_append]; exact ho', fun j y hy => ?_⟩ hg
    have hvl : vs.length = Ls.length := by have := hvs.1; omega
    by_cases hj : j < vs.length
    · rw [List.getElem?_append_left hj] at hy
      have := (hl j y hy).below hbel
      rwa [List.getD_eq_getElem?_getD, List.getElem?_append_left (by omega), ← List.getD_eq_getElem?_getD]
    · rw [List.getElem?_append_right (by omega)] at hy
      have hj0 : j - vs.length = 0 := by
        have := (List.getElem?_eq_some_iff.1 hy).1
        simp at this
        omega
      rw [hj0] at hy
      simp only [List.getElem?_cons_zero, Option.some.injEq] at hy
      subst hy
      rw [List.getD_eq_getElem?_getD, List.getElem?_append_right (by omega), ← hvl, hj0]
      exact hu.below hbel
set_option maxRecDepth 100000 in
set_option maxHeartbeats 4000000 in
theorem wresume (a : Option Addr) (len cap : Nat) (Ls : List Bl) (a2 : Option Addr) (len2 cap2 : Nat) (zs2 : List Int) (w : World) (hA : BlArg w a len cap Ls) (hl2 : zs2.length = len2) (hb2 : Bytes w a2 zs2) (hc2 : len2 ≤ cap2) (hm2 : cap2 ≤ 9223372036854775807) (r0 : len ≤ 1048576) (r1 : len2 ≤ 1048576) :
    Calls Try.prog 10 #[.slice a len cap, .slice a2 len2 cap2] w fun e w' => e = .returned (.bool true) ∧ Below w.heap.size w w' := by
  obtain ⟨hlen, hlc, hcm, hnil, hBl⟩ := hA
  have hBl' : Hid (Bls w a Ls) := hBl
  have hby' : Hid (Bytes w a2 zs2) := hb2
  have hlen' : Hid (Ls.length = len) := hlen
  have hlen2' : Hid (zs2.length = len2) := hl2
  have hr : Hid (len ≤ 1048576 ∧ len2 ≤ 1048576) := ⟨r0, r1⟩
  have ew : IntKind.i64.wrap ((len : Int) + (len2 : Int)) = ((len + len2 : Nat) : Int) := by rw [IntKind.wrap_i64]; omega
  generalize hLL : len + len2 = LL at *
  have hLL' : Hid (len + len2 = LL) := hLL
  clear hBl hb2 hlen hl2 r0 r1 hLL
  go_enter Try.func10, Try.ntmps10
  go_wp2_with fail
  refine (knew_yes 5 3 w (by decide) (by decide) (by decide) (by decide)).mono ?_
  rintro e w1 ⟨q, rfl, hL1, hB1⟩
  generalize hrb : w.heap.size = B at *
  have hN : Hid (w.heap.size = B) := hrb
  clear hrb
  have hI1 : Hid (Rs w w1 B q (.slice none 0 0) 0) := ⟨l0 3 5, [], 0, by simp, rfl, hL1.out, hB1.out, inv_start 3 5, ownsO_nil _ _, lv_start 3 5, rfl⟩
  clear hL1 hB1
  go_wp2_with (go_at_call 30; refine (goes_any w1).mono ?_; rintro e w2 ⟨rfl, hb2⟩)
  have hI2 : Hid (Rs w w2 B q (.slice none 0 0) 0) := hI1.out.kept hb2.out
  clear hI1 hb2
  go_loopw [7, 9] (fun s7 s9 wr => ∃ (i : Nat) (va : Option Addr) (vn vc : Nat), i ≤ LL ∧ s9 = .int .i64 (i : Nat) ∧ s7 = .slice va vn vc ∧ Hid (Rs w wr B q (.slice va vn vc) (4 * i))) (fun _ i _ => LL - (intOf i).toNat)
  case atStart => exact ⟨0, none, 0, 0, Nat.zero_le _, rfl, rfl, hI2⟩
  case round =>
    obtain ⟨i, va, vn, vc, hi, rfl, rfl, hI⟩ := hrel
    clear hI2
    by_cases hlt : i < LL
    · have hd : decide ((i : Int) < (LL : Int)) = true := by simp; omega
      have hib : i ≤ 4194304 := by have := hr.out; have := hLL'.out; omega
      have hk' : Hid (4 * i + 4 ≤ 2199023255552) := by show _ ≤ _; omega
      by_cases hj : i < len2
      · have d2 : decide ((i : Int) < (len2 : Int)) = true := by simp; omega
        rcases hby'.out.2.2 with h0 | ⟨b2, off2, rfl, hcb⟩
        · exact absurd hlen2'.out (by rw [h0]; simp; omega)
        obtain ⟨c, e1, c0, c1, _⟩ := next_byte hby'.out.1 hcb (by rw [hlen2'.out]; exact hj)
        have hcell : Hid (∀ y, Below w.heap.size w y → y.cell? ⟨b2, off2 + i, none⟩ = some (.int .u8 c)) := fun y hy => by
          rcases (hby'.out.kept hy).2.2 with h0 | ⟨b3, off3, e3, hc3⟩
          · exact absurd hlen2'.out (by rw [h0]; simp; omega)
          · cases e3
            rw [hc3 i (by rw [hlen2'.out]; exact hj), ← hcb i (by rw [hlen2'.out]; exact hj), e1]
        obtain ⟨hw4, hr4⟩ := tm4 c0 c1
        clear hcb e1
        rcases hr4 with e4 | e4 | e4 | e4
        all_goals
          rw [e4] at hw4
          by_cases hil : i < len
          · have hd1 : decide ((i : Int) < (len : Int)) = true := by simp; omega
            obtain ⟨x, hx⟩ : ∃ x, Ls[i]? = some x := ⟨Ls[i]'(by rw [hlen'.out]; exact hil), List.getElem?_eq_getElem _⟩
            have hx' : Hid (Ls[i]? = some x) := hx
            have hBw : Below w.heap.size w wr := hI.out.bel hN.out
            have hV0 : Hid (BlV w x) := by obtain ⟨_, _, _, _, _, h⟩ := bls_at hBl'.out hx; exact h
            obtain ⟨b, off, rfl, hbl, hc, hV⟩ := bls_at (hBl'.out.kept hBw) hx
            have kS := s_send hI.out (by have := hk'.out; omega) x.a x.zs.length x.cap x.zs rfl hV.2.2.2 hV.1
            clear hV hx hBw hbl hI
            go_wp2_with fail
            refine kS.mono ?_
            rintro e w3 ⟨E, rfl, hE3⟩
            rcases hE3 with ⟨rfl, hE3⟩ | ⟨hne, hI⟩
            · have hq : Hid (Rq w w3 B q (.slice va vn vc) (.slice x.a x.zs.length x.cap) x.zs (4 * i + 1)) := rp_q x hN.out hV0.out (by have := hk'.out; omega) hE3.out
              obtain ⟨S, hS, hAt0, hPu0⟩ := hq.out.ex
              have hfew : Hid (S.length ≤ 2199023255552) := hS
              have hAt : Hid (∀ y, Below w3.heap.size w3 y → OwnsO y B (.slice va vn vc) S ∧ LoadO y B (.slice x.a x.zs.length x.cap) x.zs ∧ B ≤ y.heap.size) := hAt0
              have hPu : Hid (∀ y w2 v', Below w3.heap.size w3 y → OwnsO w2 B v' (S ++ [x.zs]) → y.grownBy w2 (Value.slice va vn vc).ownBlock → Rs w w2 B q v' (4 * i + 1)) := hPu0
              have yA : Hid (Below w3.heap.size w3 (w3.alloc (.cells #[.slice x.a x.zs.length x.cap] 23))) := (Below.refl _ _).alloc (Nat.le_refl _) _
              have hc3 : w3.cell? ⟨b, off + i, none⟩ = some (.slice x.a x.zs.length x.cap) := by
                obtain ⟨b', off', e1, _, h, _⟩ := bls_at (hBl'.out.kept (hE3.out.bel hN.out)) hx'.out
                cases e1
                exact h
              clear hq hE3 hS hAt0 hPu0 hV0 kS hc
              go_wp2_with (first
              | (go_at_call 27; have h0 := hI.out; clear hI; refine (s_tick h0 (by have := hk'.out; omega)).mono ?_; clear h0; rintro e w5 ⟨rfl, hI⟩)
              | (go_at_call 34; have h0 := hI.out; clear hI; refine (s_rec h0 (by have := hk'.out; omega)).mono ?_; clear h0; rintro e w5 ⟨rfl, hI⟩)
              | (go_at_call 33; have h0 := hI.out; clear hI; refine (s_drop h0 (by have := hk'.out; omega) _).mono ?_; clear h0; rintro e w5 ⟨E, rfl, hI⟩)
              | (go_at_call 28; have h0 := hI.out; clear hI; refine (s_del h0 (by have := hk'.out; omega) _).mono ?_; clear h0; rintro e w5 ⟨E, rfl, hI⟩)
              | (at_builtin; refine wpList_append_old (by rfl) (.tmp 50) (.tmp 55) (by rfl) B (.slice va vn vc) (.slice x.a x.zs.length x.cap) S x.zs (by rfl) (hAt.out _ yA.out).1 (hAt.out _ yA.out).2.1 ⟨w3.heap.size, 0, none⟩ (by rfl) ((blk_new w3 #[.slice x.a x.zs.length x.cap] 23).cell 0) hfew.out (hAt.out _ yA.out).2.2 ?_; intro v4 w4 hO4 hg4; obtain ⟨a4, n4, c4, rfl, p1, p2, p3⟩ := hO4.form; clear p1 p2 p3; have hI : Hid (Rs w w4 B q (.slice a4 n4 c4) (4 * i + 1)) := hPu.out _ w4 _ yA.out hO4 hg4; clear hO4 hg4 hPu hAt hfew yA hc3; have ec := hcell.out _ (hI.out.bel hN.out)))
              exact ⟨⟨i + 1, _, _, _, by omega, by simp, rfl, Rs.to hI.out (by omega)⟩, by simp [intOf]; omega⟩
            · have dE : (E == 0) = false := by simpa using hne
              have ec := hcell.out _ (hI.out.bel hN.out)
              clear kS hc hV0 hne
              go_wp2_with (first
              | (go_at_call 27; have h0 := hI.out; clear hI; refine (s_tick h0 (by have := hk'.out; omega)).mono ?_; clear h0; rintro e w5 ⟨rfl, hI⟩)
              | (go_at_call 34; have h0 := hI.out; clear hI; refine (s_rec h0 (by have := hk'.out; omega)).mono ?_; clear h0; rintro e w5 ⟨rfl, hI⟩)
              | (go_at_call 33; have h0 := hI.out; clear hI; refine (s_drop h0 (by have := hk'.out; omega) _).mono ?_; clear h0; rintro e w5 ⟨E, rfl, hI⟩)
              | (go_at_call 28; have h0 := hI.out; clear hI; refine (s_del h0 (by have := hk'.out; omega) _).mono ?_; clear h0; rintro e w5 ⟨E, rfl, hI⟩))
              exact ⟨⟨i + 1, _, _, _, by omega, by simp, rfl, Rs.to hI.out (by omega)⟩, by simp [intOf]; omega⟩
          · have hd1 : decide ((i : Int) < (len : Int)) = false := by simp; omega
            have ec := hcell.out _ (hI.out.bel hN.out)
            go_wp2_with (first
              | (go_at_call 27; have h0 := hI.out; clear hI; refine (s_tick h0 (by have := hk'.out; omega)).mono ?_; clear h0; rintro e w5 ⟨rfl, hI⟩)
              | (go_at_call 34; have h0 := hI.out; clear hI; refine (s_rec h0 (by have := hk'.out; omega)).mono ?_; clear h0; rintro e w5 ⟨rfl, hI⟩)
              | (go_at_call 33; have h0 := hI.out; clear hI; refine (s_drop h0 (by have := hk'.out; omega) _).mono ?_; clear h0; rintro e w5 ⟨E, rfl, hI⟩)
              | (go_at_call 28; have h0 := hI.out; clear hI; refine (s_del h0 (by have := hk'.out; omega) _).mono ?_; clear h0; rintro e w5 ⟨E, rfl, hI⟩))
            exact ⟨⟨i + 1, _, _, _, by omega, by simp, rfl, Rs.to hI.out (by omega)⟩, by simp [intOf]; omega⟩
      · have d2 : decide ((i : Int) < (len2 : Int)) = false := by simp; omega
        have hcell : Hid (∀ y, Below w.heap.size w y → True) := fun _ _ => trivial
        by_cases hil : i < len
        · have hd1 : decide ((i : Int) < (len : Int)) = true := by simp; omega
          obtain ⟨x, hx⟩ : ∃ x, Ls[i]? = some x := ⟨Ls[i]'(by rw [hlen'.out]; exact hil), List.getElem?_eq_getElem _⟩
          have hx' : Hid (Ls[i]? = some x) := hx
          have hBw : Below w.heap.size w wr := hI.out.bel hN.out
          have hV0 : Hid (BlV w x) := by obtain ⟨_, _, _, _, _, h⟩ := bls_at hBl'.out hx; exact h
          obtain ⟨b, off, rfl, hbl, hc, hV⟩ := bls_at (hBl'.out.kept hBw) hx
          have kS := s_send hI.out (by have := hk'.out; omega) x.a x.zs.length x.cap x.zs rfl hV.2.2.2 hV.1
          clear hV hx hBw hbl hI
          go_wp2_with fail
          refine kS.mono ?_
          rintro e w3 ⟨E, rfl, hE3⟩
          rcases hE3 with ⟨rfl, hE3⟩ | ⟨hne, hI⟩
          · have hq : Hid (Rq w w3 B q (.slice va vn vc) (.slice x.a x.zs.length x.cap) x.zs (4 * i + 1)) := rp_q x hN.out hV0.out (by have := hk'.out; omega) hE3.out
            obtain ⟨S, hS, hAt0, hPu0⟩ := hq.out.ex
            have hfew : Hid (S.length ≤ 2199023255552) := hS
            have hAt : Hid (∀ y, Below w3.heap.size w3 y → OwnsO y B (.slice va vn vc) S ∧ LoadO y B (.slice x.a x.zs.length x.cap) x.zs ∧ B ≤ y.heap.size) := hAt0
            have hPu : Hid (∀ y w2 v', Below w3.heap.size w3 y → OwnsO w2 B v' (S ++ [x.zs]) → y.grownBy w2 (Value.slice va vn vc).ownBlock → Rs w w2 B q v' (4 * i + 1)) := hPu0
            have yA : Hid (Below w3.heap.size w3 (w3.alloc (.cells #[.slice x.a x.zs.length x.cap] 23))) := (Below.refl _ _).alloc (Nat.le_refl _) _
            have hc3 : w3.cell? ⟨b, off + i, none⟩ = some (.slice x.a x.zs.length x.cap) := by
              obtain ⟨b', off', e1, _, h, _⟩ := bls_at (hBl'.out.kept (hE3.out.bel hN.out)) hx'.out
              cases e1
              exact h
            clear hq hE3 hS hAt0 hPu0 hV0 kS hc
            go_wp2_with (first
            | (go_at_call 27; have h0 := hI.out; clear hI; refine (s_tick h0 (by have := hk'.out; omega)).mono ?_; clear h0; rintro e w5 ⟨rfl, hI⟩)
            | (go_at_call 34; have h0 := hI.out; clear hI; refine (s_rec h0 (by have := hk'.out; omega)).mono ?_; clear h0; rintro e w5 ⟨rfl, hI⟩)
            | (go_at_call 33; have h0 := hI.out; clear hI; refine (s_drop h0 (by have := hk'.out; omega) _).mono ?_; clear h0; rintro e w5 ⟨E, rfl, hI⟩)
            | (go_at_call 28; have h0 := hI.out; clear hI; refine (s_del h0 (by have := hk'.out; omega) _).mono ?_; clear h0; rintro e w5 ⟨E, rfl, hI⟩)
            | (at_builtin; refine wpList_append_old (by rfl) (.tmp 50) (.tmp 55) (by rfl) B (.slice va vn vc) (.slice x.a x.zs.length x.cap) S x.zs (by rfl) (hAt.out _ yA.out).1 (hAt.out _ yA.out).2.1 ⟨w3.heap.size, 0, none⟩ (by rfl) ((blk_new w3 #[.slice x.a x.zs.length x.cap] 23).cell 0) hfew.out (hAt.out _ yA.out).2.2 ?_; intro v4 w4 hO4 hg4; obtain ⟨a4, n4, c4, rfl, p1, p2, p3⟩ := hO4.form; clear p1 p2 p3; have hI : Hid (Rs w w4 B q (.slice a4 n4 c4) (4 * i + 1)) := hPu.out _ w4 _ yA.out hO4 hg4; clear hO4 hg4 hPu hAt hfew yA hc3; have ec := hcell.out _ (hI.out.bel hN.out)))
            exact ⟨⟨i + 1, _, _, _, by omega, by simp, rfl, Rs.to hI.out (by omega)⟩, by simp [intOf]; omega⟩
          · have dE : (E == 0) = false := by simpa using hne
            have ec := hcell.out _ (hI.out.bel hN.out)
            clear kS hc hV0 hne
            go_wp2_with (first
            | (go_at_call 27; have h0 := hI.out; clear hI; refine (s_tick h0 (by have := hk'.out; omega)).mono ?_; clear h0; rintro e w5 ⟨rfl, hI⟩)
            | (go_at_call 34; have h0 := hI.out; clear hI; refine (s_rec h0 (by have := hk'.out; omega)).mono ?_; clear h0; rintro e w5 ⟨rfl, hI⟩)
            | (go_at_call 33; have h0 := hI.out; clear hI; refine (s_drop h0 (by have := hk'.out; omega) _).mono ?_; clear h0; rintro e w5 ⟨E, rfl, hI⟩)
            | (go_at_call 28; have h0 := hI.out; clear hI; refine (s_del h0 (by have := hk'.out; omega) _).mono ?_; clear h0; rintro e w5 ⟨E, rfl, hI⟩))
            exact ⟨⟨i + 1, _, _, _, by omega, by simp, rfl, Rs.to hI.out (by omega)⟩, by simp [intOf]; omega⟩
        · have hd1 : decide ((i : Int) < (len : Int)) = false := by simp; omega
          have ec := hcell.out _ (hI.out.bel hN.out)
          go_wp2_with (first
            | (go_at_call 27; have h0 := hI.out; clear hI; refine (s_tick h0 (by have := hk'.out; omega)).mono ?_; clear h0; rintro e w5 ⟨rfl, hI⟩)
            | (go_at_call 34; have h0 := hI.out; clear hI; refine (s_rec h0 (by have := hk'.out; omega)).mono ?_; clear h0; rintro e w5 ⟨rfl, hI⟩)
            | (go_at_call 33; have h0 := hI.out; clear hI; refine (s_drop h0 (by have := hk'.out; omega) _).mono ?_; clear h0; rintro e w5 ⟨E, rfl, hI⟩)
            | (go_at_call 28; have h0 := hI.out; clear hI; refine (s_del h0 (by have := hk'.out; omega) _).mono ?_; clear h0; rintro e w5 ⟨E, rfl, hI⟩))
          exact ⟨⟨i + 1, _, _, _, by omega, by simp, rfl, Rs.to hI.out (by omega)⟩, by simp [intOf]; omega⟩
    · have hd : decide ((i : Int) < (LL : Int)) = false := by simp; omega
      have hk' : Hid (4 * i + 4 ≤ 2199023255552) := by have := hr.out; have := hLL'.out; show _ ≤ _; omega
      have hI5 : Hid (4 * i ≤ 2199023255552) := by have := hk'.out; show _ ≤ _; omega
      have kR := s_rec hI.out (by have := hk'.out; omega)
      have hib : Hid (i ≤ 4194304) := by have := hr.out; have := hLL'.out; show _ ≤ _; omega
      clear hI
      go_wp2_with (go_at_call 34; refine kR.mono ?_; rintro e w5 ⟨rfl, hI⟩; clear kR)
      obtain ⟨N, hNk, hR0⟩ := hI.out.rk
      have hNb : Hid (N ≤ 16777217) := by have := hib.out; show _ ≤ _; omega
      have hkk : Hid (4 * i + 1 ≤ 2199023255552) := by have := hib.out; show _ ≤ _; omega
      have hR : Hid (Rk w w5 B q (.slice va vn vc) (4 * i + 1) N 0 0) := hR0
      generalize 4 * i + 1 = k at *
      clear hI hR0 hNk hI5
      go_loopw [8, 92] (fun s8 s92 wr => ∃ (j t : Nat), j ≤ 70 ∧ s92 = .int .i64 (j : Nat) ∧ s8 = .int .i64 (t : Nat) ∧ Hid (Rk w wr B q (.slice va vn vc) k N j t)) (fun _ j _ => 70 - (intOf j).toNat)
      case atStart => exact ⟨0, 0, by omega, rfl, rfl, hR⟩
      case round =>
        obtain ⟨j, t, hj, rfl, rfl, hK⟩ := hrel
        clear hR
        by_cases hjl : j < 70
        · have d3 : decide ((j : Int) < 70) = true := by simp; omega
          have kT := k_tick hK.out hkk.out (by have := hNb.out; omega)
          clear hK
          go_wp2_with (go_at_call 27; refine kT.mono ?_; rintro e w6 ⟨rfl, hC⟩; clear kT)
          go_loopw [96] (fun s96 wr => ∃ i : Nat, i ≤ 2 ∧ s96 = .int .i64 (i : Nat) ∧ Hid (Ck w wr B q (.slice va vn vc) k N j t i)) (fun i _ => 2 - (intOf i).toNat)
          case atStart => exact ⟨0, by omega, rfl, hC⟩
          case round =>
            obtain ⟨m, hm, rfl, hA⟩ := hrel
            clear hC
            rcases (show m = 0 ∨ m = 1 ∨ m = 2 by omega) with rfl | rfl | rfl
            · have kW := k_way0 hA.out
              clear hA
              go_wp2_with (go_at_call 22; refine kW.mono ?_; rintro e w7 ⟨nn, hl, rfl, hF⟩; clear kW)
              go_loopw [11] (fun s11 wx => ∃ n : Nat, n ≤ 256 ∧ s11 = .int .i64 (n : Nat) ∧ Hid (Ck0 w wx B q (.slice va vn vc) k N j t n)) (fun n _ => (intOf n).toNat)
              case atStart => exact ⟨nn, hl, rfl, hF⟩
              case round =>
                obtain ⟨n, hn, rfl, hC⟩ := hrel
                clear hF
                match n, hn with
                | z + 1, hn =>
                  have hd3 : decide ((((z + 1 : Nat) : Nat) : Int) > 0) = true := by rw [decide_eq_true_iff]; omega
                  have kD := k_del0 hC.out
                  have e1 : IntKind.i64.wrap ((((z + 1 : Nat) : Nat) : Int) - 1) = ((z : Nat) : Int) := by rw [IntKind.wrap_i64]; omega
                  clear hC
                  go_wp2_with (go_at_call 28; refine kD.mono ?_; rintro e w8 ⟨⟨E, rfl⟩, hI3⟩; clear kD)
                  exact ⟨⟨z, by omega, rfl, hI3⟩, by first | (simp [intOf]; done) | (simp [intOf]; omega)⟩
                | 0, hn =>
                  have hA1 : Hid (Ck w wr B q (.slice va vn vc) k N j t 1) := hC.out.fin
                  clear hC
                  go_wp2_with fail
                  exact ⟨⟨1, by omega, rfl, hA1⟩, by simp [intOf]⟩
            · have kW := k_way1 hA.out
              clear hA
              go_wp2_with (go_at_call 22; refine kW.mono ?_; rintro e w7 ⟨nn, hl, rfl, hF⟩; clear kW)
              go_loopw [11] (fun s11 wx => ∃ n : Nat, n ≤ 256 ∧ s11 = .int .i64 (n : Nat) ∧ Hid (Ck1 w wx B q (.slice va vn vc) k N j t n)) (fun n _ => (intOf n).toNat)
              case atStart => exact ⟨nn, hl, rfl, hF⟩
              case round =>
                obtain ⟨n, hn, rfl, hC⟩ := hrel
                clear hF
                match n, hn with
                | z + 1, hn =>
                  have hd3 : decide ((((z + 1 : Nat) : Nat) : Int) > 0) = true := by rw [decide_eq_true_iff]; omega
                  have kD := k_del1 hC.out
                  have e1 : IntKind.i64.wrap ((((z + 1 : Nat) : Nat) : Int) - 1) = ((z : Nat) : Int) := by rw [IntKind.wrap_i64]; omega
                  clear hC
                  go_wp2_with (go_at_call 28; refine kD.mono ?_; rintro e w8 ⟨⟨E, rfl⟩, hI3⟩; clear kD)
                  exact ⟨⟨z, by omega, rfl, hI3⟩, by first | (simp [intOf]; done) | (simp [intOf]; omega)⟩
                | 0, hn =>
                  have hA1 : Hid (Ck w wr B q (.slice va vn vc) k N j t 2) := hC.out.fin
                  clear hC
                  go_wp2_with fail
                  exact ⟨⟨2, by omega, rfl, hA1⟩, by simp [intOf]⟩
            · have hE : Hid (Ek w wr B q (.slice va vn vc) k N j t 0) := hA.out.ek
              clear hA
              go_wp2_with fail
              go_loopw [8, 110] (fun s8 s110 wx => ∃ (m t : Nat), m ≤ 6 ∧ s110 = .int .i64 (m : Nat) ∧ s8 = .int .i64 (t : Nat) ∧ Hid (Ek w wx B q (.slice va vn vc) k N j t m)) (fun _ m _ => 6 - (intOf m).toNat)
              case atStart => exact ⟨0, t, by omega, rfl, rfl, hE⟩
              case round =>
                obtain ⟨m, t, hm, rfl, rfl, hF⟩ := hrel
                clear hE
                by_cases hml : m < 6
                · have d4 : decide ((m : Int) < 6) = true := by simp; omega
                  have kP := k_poll hF.out hkk.out
                  clear hF
                  go_wp2_with fail
                  refine kP.mono ?_
                  rintro e w8 ⟨a8, n8, c8, ok, rfl, hO⟩
                  rcases hO with ⟨rfl, hE1, hKp⟩ | ⟨rfl, hE1⟩
                  · obtain ⟨g, vn', cap', a9, c9, b9, e9, ht, cc, hb9, hb8, hl8⟩ := hKp.out.ex
                    cases e9
                    have k8 := fun m => conv_str (hb8.drewN m) n8 c8 hl8
                    have k9 := fun m => conv_str (hb9.drewN m) b9.length c9 rfl
                    have k8' := conv_str hb8 n8 c8 hl8
                    have k9' := conv_str hb9 b9.length c9 rfl
                    have dt : ((t : Int) == (vn : Int)) = false := by simp; omega
                    have dl : (t : Int) < (vn : Int) := by omega
                    have hts : Hid (t ≤ 2199023255552) := by obtain ⟨L, S, h1, _, h3⟩ := hE1.out; have := h1.inv.tk; have := h1.inv.ct; have := hkk.out; show _ ≤ _; omega
                    have wt : IntKind.i64.wrap ((t : Int) + 1) = ((t + 1 : Nat) : Int) := by have := hts.out; rw [IntKind.wrap_i64]; omega
                    clear kP hKp hb8 hb9 hl8 ht
                    go_wp2
                    go_quiet (fail)
                    go_wp2
                    all_goals exact ⟨⟨_, _, _, _, _, _, _, _, _, _, _, _, _, _, _, _, _, _, _, _, _, _, _, _, _, _, _, _, _, _, ⟨m + 1, t + 1, by omega, by simp, by simp, hE1.out.kept (Below.drN (Below.refl _ _) _)⟩, rfl⟩, by simp [intOf]; omega⟩
                  · have hR1 : Hid (Rk w w8 B q (.slice va vn vc) k N (j + 1) t) := hE1.out.rk (by omega)
                    clear kP hE1
                    go_wp2_with fail
                    all_goals exact ⟨⟨j + 1, t, by omega, by simp, rfl, hR1⟩, by simp [intOf]; omega⟩
                · have d4 : decide ((m : Int) < 6) = false := by simp; omega
                  have hR1 : Hid (Rk w wr B q (.slice va vn vc) k N (j + 1) t) := hF.out.rk (by omega)
                  clear hF
                  go_wp2_with fail
                  all_goals exact ⟨⟨j + 1, t, by omega, by simp, rfl, hR1⟩, by simp [intOf]; omega⟩
        · have d3 : decide ((j : Int) < 70) = false := by simp; omega
          obtain rfl : j = 70 := by omega
          obtain ⟨a9, c9, e9, hb9⟩ := k_end hK.out
          cases e9
          have hb9' : Hid (Below B w wr) := hb9
          clear hK hb9
          go_wp2_with fail
          go_ret
          exact ⟨by simp, by rw [hN.out]; exact hb9'.out⟩
end Go.Proofs.Ytfipdldoklkciaa
