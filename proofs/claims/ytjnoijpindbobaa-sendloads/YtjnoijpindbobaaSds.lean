/-
  What is told is told with the load that was pushed: the walk.
-/
import Derived.Test.YtjnoijpindbobaaSdr
namespace Go.Proofs.Ytjnoijpindbobaa
open Go.RowKit
set_option linter.unusedVariables false
/-- What the loop holds. -/
structure LI (w wr : World) (sb len i : Nat) (win : Int) (v : Value) (s : St) (P : List (List Int)) : Prop where
  own : OwnsO wr w.heap.size v P
  few : P.length ≤ i
  pl : PL s P
  sd : Sd wr w.heap.size sb w.heap.size s
  bel : Below w.heap.size w wr
theorem LI.kept {w wr w' : World} {sb len i : Nat} {win : Int} {v : Value} {s : St} {P : List (List Int)} (h : LI w wr sb len i win v s P) (hb : Below wr.heap.size wr w') : LI w w' sb len i win v s P :=
  ⟨h.own.kept hb h.bel.size, h.few, h.pl, h.sd.kept hb, h.bel.trans (hb.mono h.bel.size)⟩
theorem LI.up {w wr : World} {sb len i : Nat} {win : Int} {v : Value} {s : St} {P : List (List Int)} (h : LI w wr sb len i win v s P) : LI w wr sb len (i + 1) win v s P :=
  ⟨h.own, Nat.le_succ_of_le h.few, h.pl, h.sd, h.bel⟩
theorem LI.k2 {w wr w' : World} {sb len i : Nat} {win : Int} {v : Value} {s s' : St} {P : List (List Int)} (h : LI w wr sb len i win v s P) (hs : w.heap.size ≤ sb) (k : K2 sb w.heap.size wr w') (hS : Sd w' w.heap.size sb w.heap.size s') (hb : Sb s s') : LI w w' sb len i win v s' P :=
  ⟨h.own.k2 k h.sd h.bel.size, h.few, h.pl.sb hb, hS, k.below h.bel h.bel.size hs (Nat.le_refl _)⟩
theorem OwnsT.base {w : World} {b b' : Nat} {v : Value} {L : List (Int × Value × List Int)} (h : OwnsT w b v L) (hb : b' ≤ b) : OwnsT w b' v L := by
  obtain ⟨⟨h1, h2⟩, h3⟩ := h
  refine ⟨⟨h1, ?_⟩, fun p hp => (h3 p hp).base hb⟩
  rcases h2 with h2 | ⟨g, cap, cur, hv, hg, r⟩
  · exact .inl h2
  · exact .inr ⟨g, cap, cur, hv, Nat.le_trans hb hg, r⟩
/-- Due, whatever the time. -/
theorem due_any {B sb mb : Nat} {s : St} {w : World} (now : Int) (h : Sd w B sb mb s) :
    Calls Try.prog 16 #[.pointer (some ⟨sb, 0, none⟩), .int .i64 now] w fun e w' => ∃ v L s', e = .returned v ∧ Hid (OwnsT w' w.heap.size v L) ∧ Hid (∀ p ∈ plainT L, s.base ≤ p.1 ∧ p.1 < s.nxt ∧ ∃ e, s.L p.1 = some e ∧ e.zs = p.2) ∧ Hid ((plainT L).Pairwise (fun p q => p.1 < q.1)) ∧ Hid (Sb s s' ∧ s'.base = s.base ∧ 1 ≤ s.base) ∧ Hid (Sd w' B sb mb s') ∧ Hid (K2 sb mb w w') := by
  cases ht : timeB now with
  | false =>
    refine (due_bad now h ht).mono ?_
    rintro e w' ⟨rfl, rfl⟩
    exact ⟨_, [], s, rfl, ownsT_nil _ _, (fun p hp => by simp [plainT] at hp), List.Pairwise.nil, ⟨Sb.refl s, rfl, h.ok.b1⟩, h, K2.refl _ _ _⟩
  | true =>
    refine (due_ok now h ht).mono ?_
    rintro e w' ⟨v, L, rfl, hT, hL, hS, hU, hK⟩
    refine ⟨v, L, _, rfl, hT, ?_, ?_, ⟨sb_due s now, rfl, h.ok.b1⟩, hS, hK⟩
    · show ∀ p ∈ plainT L, _
      rw [hL.out]
      intro p hp
      have := due_mem _ p hp
      have := h.ok.b2
      exact ⟨by omega, by omega, (due_mem _ p hp).2.2⟩
    · show List.Pairwise _ (plainT L)
      rw [hL.out]
      exact due_sorted _
set_option maxRecDepth 20000 in
set_option maxHeartbeats 4000000 in
theorem wloads (win : Int) (a : Option Addr) (len cap : Nat) (L : List Ac) (w : World) (hA : AcArg w a len cap L) (hrl : len ≤ 2199023255552) :
    Calls Try.prog 4 #[.int .i64 win, .slice a len cap] w fun e w' => e = .returned (.bool true) ∧ Below w.heap.size w w' := by
  by_cases hw : 1 ≤ win ∧ win ≤ 32
  · have hwin : Hid (1 ≤ win ∧ win ≤ 32) := hw
    obtain ⟨hlen, hlc, hcm, hnil, hAc⟩ := hA
    have hAc' : Hid (Acs w a L) := hAc
    have hlen' : Hid (L.length = len) := hlen
    have hrl' : Hid (len ≤ 2199023255552) := hrl
    clear hAc hlen hw hrl
    go_enter Try.func4, Try.ntmps4
    go_wp2_with fail
    refine (new_yes win w hwin.out.1 hwin.out.2).mono ?_
    rintro e w1 ⟨rfl, hS1, hB1⟩
    have hS1' : Hid (Sd w1 w.heap.size (w.heap.size + 1) w.heap.size (s0 win 0)) := hS1
    clear hS1
    generalize hsb : w.heap.size + 1 = sb at *
    have hN : Hid (w.heap.size ≤ sb) := by show _ ≤ _; omega
    clear hsb
    go_wp2_with (go_at_call 9; refine (alive_any w1).mono ?_; rintro e w2 ⟨rfl, hb2⟩)
    have hL2 : Hid (LI w w2 sb len 0 win (.slice none 0 0) (s0 win 0) []) := ⟨ownsO_nil _ _, Nat.le_refl _, ⟨rfl, fun z e he => by cases he⟩, hS1'.out.kept hb2.out, hB1.out.trans (hb2.out.mono hB1.out.size)⟩
    clear hS1' hb2 hB1 hwin
    go_loopw [7, 9, 10, 11, 12, 14, 33] (fun s7 _ _ _ _ _ s33 wr => ∃ (i : Nat) (s : St) (P : List (List Int)) (a7 : Option Addr) (n7 c7 : Nat), i ≤ len ∧ s33 = .int .i64 (i : Nat) ∧ s7 = .slice a7 n7 c7 ∧ n7 ≤ c7 ∧ c7 ≤ 9223372036854775807 ∧ Hid (n7 = P.length) ∧ Hid (LI w wr sb len i win (.slice a7 n7 c7) s P)) (fun _ _ _ _ _ _ i _ => len - (intOf i).toNat)
    case atStart => exact ⟨0, s0 win 0, [], none, 0, 0, Nat.zero_le _, rfl, rfl, by omega, by omega, rfl, hL2⟩
    case round =>
      obtain ⟨i, s, P, a7, n7, c7, hi, rfl, rfl, hn7, hc7, hP, hLI⟩ := hrel
      clear hL2
      by_cases hlt : i < len
      · have hd : decide ((i : Int) < (len : Int)) = true := by simp; omega
        obtain ⟨x, hx⟩ : ∃ x, L[i]? = some x := ⟨L[i]'(by rw [hlen'.out]; exact hlt), List.getElem?_eq_getElem _⟩
        obtain ⟨b, off, rfl, hbl, hc, hV⟩ := acs_at (hAc'.out.kept hLI.out.bel) hx
        obtain ⟨b', off', hab, hbl0, _, hV0⟩ := acs_at hAc'.out hx
        have hV0' : Hid (AcV w x) := hV0
        clear hab hbl0 hV0
        have d0 : wr.cell? ⟨b, off + i * 6, none⟩ = some (.int .i64 x.kind) := hc 0 (by decide)
        have d1 : wr.cell? ⟨b, off + i * 6 + 1, none⟩ = some (.int .i64 x.now) := hc 1 (by decide)
        have d2 : wr.cell? ⟨b, off + i * 6 + 2, none⟩ = some (.int .i64 x.n) := hc 2 (by decide)
        have d3 : wr.cell? ⟨b, off + i * 6 + 3, none⟩ = some (.int .i64 x.credit) := hc 3 (by decide)
        have d4 : wr.cell? ⟨b, off + i * 6 + 4, none⟩ = some (.int .u64 x.bits) := hc 4 (by decide)
        have d5 : wr.cell? ⟨b, off + i * 6 + 5, none⟩ = some (.slice x.a x.zs.length x.cap) := hc 5 (by decide)
        have hV' : Hid (AcV wr x) := hV
        have hal : Hid (Below wr.heap.size wr (wr.alloc (.cells #[.int .i64 x.kind, .int .i64 x.now, .int .i64 x.n, .int .i64 x.credit, .int .u64 x.bits, .slice x.a x.zs.length x.cap] 31))) := (Below.refl _ _).alloc (Nat.le_refl _) _
        have hLA : Hid (LI w (wr.alloc (.cells #[.int .i64 x.kind, .int .i64 x.now, .int .i64 x.n, .int .i64 x.credit, .int .u64 x.bits, .slice x.a x.zs.length x.cap] 31)) sb len i win (.slice a7 n7 c7) s P) := hLI.out.kept hal.out
        have hVA : Hid (Bytes (wr.alloc (.cells #[.int .i64 x.kind, .int .i64 x.now, .int .i64 x.n, .int .i64 x.credit, .int .u64 x.bits, .slice x.a x.zs.length x.cap] 31)) x.a x.zs) := hV'.out.1.kept hal.out
        clear hc hV hx
        by_cases q0 : Go.bits .and .i64 x.kind 3 = 0
        · have e0 : (Go.bits .and .i64 x.kind 3 == 0) = true := by simp [q0]
          clear q0
          by_cases hp : pushE s x.zs.length x.now = 0
          · have k := push_ok x.a x.zs.length x.cap x.zs x.now hLA.out.sd hp hLA.out.bel.size rfl hV'.out.2.2.2 hVA.out
            have hnx : Hid (s.nxt = (P.length : Int) + 1) := hLI.out.pl.1
            clear hp
            go_wp2_with fail
            refine k.mono ?_
            rintro e w3 ⟨rfl, en, hen, hS3, hK3⟩
            have hsbl : Hid (sb < wr.heap.size ∧ w.heap.size < wr.heap.size) := ⟨hLI.out.sd.blk.lt, hLI.out.sd.mp.lt⟩
            have hbk3 : Hid (Blk w3 wr.heap.size #[.int .i64 x.kind, .int .i64 x.now, .int .i64 x.n, .int .i64 x.credit, .int .u64 x.bits, .slice x.a x.zs.length x.cap] 31) := (hK3.out.block wr.heap.size (by simp) (by have := hsbl.out; omega) (by have := hsbl.out; omega)).trans (blk_new wr _ _)
            have hO3 : Hid (OwnsO w3 w.heap.size (.slice a7 n7 c7) P) := hLA.out.own.k2 hK3.out hLA.out.sd hLA.out.bel.size
            have hB3 : Hid (Below w.heap.size w w3) := hK3.out.below hLA.out.bel hLA.out.bel.size hN.out (Nat.le_refl _)
            have hu3 : Hid (∀ o : Obj, LoadO (w3.alloc o) w.heap.size (.slice x.a x.zs.length x.cap) x.zs) := fun o => ⟨x.a, x.cap, rfl, hV0'.out.1.kept (hB3.out.alloc hB3.out.size o), hV0'.out.2.2.2, hV0'.out.2.1, by have := hV0'.out.2.2.1; unfold maxLen; exact this, fun y hy hne => by have := hV0'.out.1; rw [hy] at this; exact this.lt hne⟩
            have g5 : w3.cell? ⟨wr.heap.size, 5, none⟩ = some (.slice x.a x.zs.length x.cap) := hbk3.out.cell 5
            have hfew : Hid (P.length ≤ 2199023255552) := by have := hLI.out.few; have := hrl'.out; show _ ≤ _; omega
            have hPi : Hid (P.length ≤ i) := hLI.out.few
            have hPL : Hid (PL (addA s en) (P ++ [x.zs])) := by have := hLI.out.pl.add (e := en) hLI.out.sd.ok; rw [hen.out.1] at this; exact this
            clear k d0 d1 d2 d3 d4 d5 hLA hVA hal hV' hV0' hK3 hbk3 hen hLI
            go_wp2_with (at_builtin; refine wpList_append_old rfl _ _ rfl w.heap.size (.slice a7 n7 c7) (.slice x.a x.zs.length x.cap) P x.zs rfl (hO3.out.kept ((Below.refl _ _).alloc (Nat.le_refl _) _) hB3.out.size) (hu3.out _) ⟨w3.heap.size, 0, none⟩ rfl ((blk_new w3 _ _).cell 0) hfew.out (by have := hB3.out.size; simp; omega) ?_; intro v4 w4 hO4 hg4; obtain ⟨a4, n4, c4, rfl, hn4, hnc4, hcm4⟩ := hO4.form; have hne4 : (s.nxt != ((n4 : Nat) : Int)) = false := (by rw [hnx.out, hn4]; simp); have hL4 : Hid (LI w w4 sb len (i + 1) win (.slice a4 n4 c4) (addA s en) (P ++ [x.zs])) := ⟨hO4, (by have := hPi.out; simp; omega), hPL.out, (hS3.out.alloc _).grow hg4 (fun k hk => by obtain ⟨_, cs, hc⟩ := hO3.out.own k hk; exact ⟨cs, hc.kept ((Below.refl _ _).alloc (Nat.le_refl _) _)⟩), (hB3.out.alloc hB3.out.size _).grown hg4 (by have := hB3.out.size; simp; omega) (fun k hk => (hO3.out.own k hk).1)⟩; have hn4' : Hid (n4 = (P ++ [x.zs]).length) := hn4; clear hO4 hg4 hn4)
            exact ⟨⟨i + 1, _, P ++ [x.zs], a4, n4, c4, by omega, by simp, rfl, hnc4, hcm4, hn4', hL4⟩, by simp [intOf]; omega⟩
          · have k := push_bad x.a x.zs.length x.cap x.now hLA.out.sd hp (by have := hVA.out.2.1; unfold maxLen at this; omega)
            have hE : (pushE s x.zs.length x.now == 0) = false := by simpa using hp
            clear hp
            generalize pushE s x.zs.length x.now = pe at *
            go_wp2_with (go_at_call 15; refine k.mono ?_; rintro e w3 ⟨rfl, hb3⟩; have hL3 : Hid (LI w w3 sb len i win (.slice a7 n7 c7) s P) := hLA.out.kept hb3.out)
            exact ⟨⟨i + 1, s, P, a7, n7, c7, by omega, by simp, rfl, hn7, hc7, hP, hL3.out.up⟩, by simp [intOf]; omega⟩
        · have e0 : (Go.bits .and .i64 x.kind 3 == 0) = false := by simpa using q0
          by_cases q1 : Go.bits .and .i64 x.kind 3 = 1
          · have e1 : (Go.bits .and .i64 x.kind 3 == 1) = true := by simp [q1]
            clear q0 q1
            have k := due_any x.now hLA.out.sd
            go_wp2_with (go_at_call 16; refine k.mono ?_; rintro e w3 ⟨v3, L3, s', rfl, hT3, hM3, hP3, hR3, hS3, hK3⟩; have hL3 : Hid (LI w w3 sb len i win (.slice a7 n7 c7) s' P) := hLA.out.k2 hN.out hK3.out hS3.out hR3.out.1; obtain ⟨a3, n3, c3, rfl, hn3, hc3, hm3⟩ := hT3.out.form; have hn3' : Hid (n3 = L3.length) := hn3; have hPL : Hid (PL s P) := hLI.out.pl; clear hn3 hK3 hS3 k)
            clear d0 d1 d2 d3 d4 d5 hLA hVA hal hV' hV0' hLI
            have hT3' : Hid (OwnsT w3 0 (.slice a3 n3 c3) L3) := hT3.out.base (Nat.zero_le _)
            clear hT3
            go_loopw [12, 14, 72] (fun s12 _ s72 wq => ∃ (j : Nat) (last : Int), j ≤ n3 ∧ s72 = .int .i64 (j : Nat) ∧ s12 = .int .i64 last ∧ Hid (∀ t p, j ≤ t → (plainT L3)[t]? = some p → last < p.1) ∧ Hid (OwnsT wq 0 (.slice a3 n3 c3) L3) ∧ Hid (LI w wq sb len i win (.slice a7 n7 c7) s' P)) (fun _ _ j _ => n3 - (intOf j).toNat)
            case atStart => exact ⟨0, 0, Nat.zero_le _, rfl, rfl, fun t p _ hp => by have := (hM3.out p (List.mem_of_getElem? hp)).1; have := hR3.out.2.2; omega, hT3', hL3⟩
            case round =>
              obtain ⟨j, last, hj, rfl, rfl, hlast, hT4, hL4⟩ := hrel
              clear hT3' hL3
              by_cases hjl : j < n3
              · have hdj : decide ((j : Int) < (n3 : Int)) = true := by simp; omega
                obtain ⟨p, hp⟩ : ∃ p, L3[j]? = some p := ⟨L3[j]'(by rw [← hn3'.out]; exact hjl), List.getElem?_eq_getElem _⟩
                have hpl : (plainT L3)[j]? = some (p.1, p.2.2) := by simp [plainT, hp]
                obtain ⟨h1, h2, en, h3, h4⟩ := hM3.out _ (List.mem_of_getElem? hpl)
                have h5 := hlast.out j _ (Nat.le_refl _) hpl
                have h6 := hPL.out.2 _ en h3
                rw [h4] at h6
                obtain ⟨z, v, zs⟩ := p
                simp only at h1 h2 h3 h4 h5 h6
                obtain ⟨g3, cp3, hv3, _, hg3, hc⟩ := hT4.out.cells hp
                obtain rfl : a3 = some ⟨g3, 0, none⟩ := by injection hv3
                clear hv3
                have ho := hT4.out.2 _ (List.mem_of_getElem? hp)
                simp only at ho
                obtain ⟨az, cz, rfl, hnz, ⟨hlz, hmz⟩, hbz, _⟩ := ho.shape
                obtain ⟨m, rfl⟩ : ∃ m : Nat, z = (m : Int) + 1 := ⟨(z - 1).toNat, by have := hR3.out.2.2; omega⟩
                rw [show ((m : Int) + 1 - 1).toNat = m by omega] at h6
                obtain ⟨g7, cp7, al, cl, hv7, hc7', hbl7⟩ := hL4.out.own.at h6
                obtain rfl : a7 = some ⟨g7, 0, none⟩ := by injection hv7
                clear hv7
                have hml : m < n7 := by rw [hP.out]; exact (List.getElem?_eq_some_iff.1 h6).1
                have hbnd : Hid (n7 ≤ 2199023255552) := by have := hL4.out.few; have := hrl'.out; have := hP.out; show _ ≤ _; omega
                have f1 : decide ((m : Int) + 1 ≤ last) = false := by simp; omega
                have f2 : decide ((m : Int) + 1 < s'.base) = false := by have := hR3.out.2.1; simp; omega
                have f3 : decide ((m : Int) + 1 > (n7 : Int)) = false := by simp; omega
                have f4 : IntKind.i64.wrap ((m : Int) + 1 - 1) = (m : Int) := by have := hbnd.out; rw [IntKind.wrap_i64]; omega
                have m0 : wr.cell? ⟨g3, j * 9, none⟩ = some (.int .i64 1) := hc 0 (by decide)
                have m1 : wr.cell? ⟨g3, j * 9 + 1, none⟩ = some (.int .u64 0) := hc 1 (by decide)
                have m2 : wr.cell? ⟨g3, j * 9 + 2, none⟩ = some (.int .i64 0) := hc 2 (by decide)
                have m3 : wr.cell? ⟨g3, j * 9 + 3, none⟩ = some (.int .i64 ((m : Int) + 1)) := hc 3 (by decide)
                have m4 : wr.cell? ⟨g3, j * 9 + 4, none⟩ = some (.int .i64 0) := hc 4 (by decide)
                have m5 : wr.cell? ⟨g3, j * 9 + 5, none⟩ = some (.int .u64 0) := hc 5 (by decide)
                have m6 : wr.cell? ⟨g3, j * 9 + 6, none⟩ = some (.int .i64 0) := hc 6 (by decide)
                have m7 : wr.cell? ⟨g3, j * 9 + 7, none⟩ = some (.int .i64 0) := hc 7 (by decide)
                have m8 : wr.cell? ⟨g3, j * 9 + 8, none⟩ = some (.slice az zs.length cz) := hc 8 (by decide)
                have hlast2 : Hid (∀ t p, j + 1 ≤ t → (plainT L3)[t]? = some p → (m : Int) + 1 < p.1) := fun t p ht hp2 => by
                  obtain ⟨ht', hp2'⟩ := List.getElem?_eq_some_iff.1 hp2
                  obtain ⟨hj', hpl'⟩ := List.getElem?_eq_some_iff.1 hpl
                  have := List.pairwise_iff_getElem.1 hP3.out j t hj' ht' (by omega)
                  rw [hp2', hpl'] at this
                  exact this
                have hbz' : Hid (Bytes wr az zs) := hbz
                have hbl7' : Hid (Bytes wr al zs) := hbl7
                have c7'' : Hid (wr.cell? ⟨g7, m, none⟩ = some (.slice al zs.length cl)) := hc7'
                have hg7 : Hid (g7 < wr.heap.size) := cell_lt hc7'
                clear hc ho hp hpl h1 h2 h3 h4 h5 h6 hnz hlz hmz hbz hbl7 hc7'
                go_wp2
                have hbx : Hid (Below wr.heap.size wr (wr.alloc (.cells #[.int .i64 1, .int .u64 0, .int .i64 0, .int .i64 ((m : Int) + 1), .int .i64 0, .int .u64 0, .int .i64 0, .int .i64 0, .slice az zs.length cz] 41))) := (Below.refl _ _).alloc (Nat.le_refl _) _
                have hbkx : Hid (Blk (wr.alloc (.cells #[.int .i64 1, .int .u64 0, .int .i64 0, .int .i64 ((m : Int) + 1), .int .i64 0, .int .u64 0, .int .i64 0, .int .i64 0, .slice az zs.length cz] 41)) wr.heap.size #[.int .i64 1, .int .u64 0, .int .i64 0, .int .i64 ((m : Int) + 1), .int .i64 0, .int .u64 0, .int .i64 0, .int .i64 0, .slice az zs.length cz] 41) := blk_new _ _ _
                generalize (wr.alloc (.cells #[.int .i64 1, .int .u64 0, .int .i64 0, .int .i64 ((m : Int) + 1), .int .i64 0, .int .u64 0, .int .i64 0, .int .i64 0, .slice az zs.length cz] 41)) = wx at hbx hbkx ⊢
                have x0 := hbkx.out.cell 0
                have x3 := hbkx.out.cell 3
                have x8 := hbkx.out.cell 8
                have y7 : wx.cell? ⟨g7, m, none⟩ = some (.slice al zs.length cl) := by rw [hbx.out.cell (p := ⟨g7, m, none⟩) hg7.out]; exact c7''.out
                have hLx : Hid (LI w wx sb len i win (.slice (some ⟨g7, 0, none⟩) n7 c7) s' P) := hL4.out.kept hbx.out
                have hTx : Hid (OwnsT wx 0 (.slice (some ⟨g3, 0, none⟩) n3 c3) L3) := hT4.out.kept hbx.out
                have kB : ∀ q, Calls Try.prog 13 #[.pointer (some ⟨sb, 0, none⟩)] (wx.drewN q) fun e w' => e = .returned (.int .i64 s'.base) ∧ w' = wx.drewN q := fun q => base_any (hLx.out.sd.kept (below_drewN _ _))
                have kS : ∀ q, Calls Try.prog 17 #[.slice az zs.length cz, .slice al zs.length cl] (wx.drewN q) fun e w' => e = .returned (.bool true) ∧ w' = wx.drewN q := fun q => by
                  have := same_any az al zs.length zs.length cz cl zs zs (wx.drewN q) (hbz'.out.kept (hbx.out.trans ((below_drewN wx q).mono hbx.out.size))) (hbl7'.out.kept (hbx.out.trans ((below_drewN wx q).mono hbx.out.size))) rfl rfl
                  rwa [show decide (zs = zs) = true by simp] at this
                clear m0 m1 m2 m3 m4 m5 m6 m7 m8
                go_quiet (first | (go_at_call 13; exact Calls.quiet_of_same (kB _)) | (go_at_call 17; exact Calls.quiet_of_same (kS _)))
                go_wp2
                exact ⟨⟨j + 1, (m : Int) + 1, by omega, by simp, rfl, hlast2, hTx.out.kept (below_drewN _ _), hLx.out.kept (below_drewN _ _)⟩, by simp [intOf]; omega⟩
              · have hdj : decide ((j : Int) < (n3 : Int)) = false := by simp; omega
                go_wp2
                exact ⟨⟨i + 1, s', P, a7, n7, c7, by omega, by simp, rfl, hn7, hc7, hP, hL4.out.up⟩, by simp [intOf]; omega⟩
          · have e1 : (Go.bits .and .i64 x.kind 3 == 1) = false := by simpa using q1
            have q0' : Hid (Go.bits .and .i64 x.kind 3 ≠ 0) := q0
            clear q0 q1
            have k := plays_any x.kind x.now x.n x.credit x.bits x.a x.zs.length x.cap x.zs hLA.out.sd hLA.out.bel.size rfl hV'.out.2.2.2 hVA.out
            go_wp2_with (go_at_call 10; refine k.mono ?_; rintro e w3 ⟨rfl, s', hS3, hR3, hK3⟩; have hL3 : Hid (LI w w3 sb len i win (.slice a7 n7 c7) s' P) := hLA.out.k2 hN.out hK3.out hS3.out (hR3.out.2.2 q0'.out))
            exact ⟨⟨i + 1, s', P, a7, n7, c7, by omega, by simp, rfl, hn7, hc7, hP, hL3.out.up⟩, by simp [intOf]; omega⟩
      · have hd : decide ((i : Int) < (len : Int)) = false := by simp; omega
        go_wp2
        go_ret
        exact ⟨rfl, hLI.out.bel⟩
  · have hno : win < 1 ∨ 32 < win := by omega
    clear hA hw
    go_enter Try.func4, Try.ntmps4
    go_wp2_with fail
    refine (new_no win w hno).mono ?_
    rintro e w1 ⟨rfl, hw1⟩
    obtain rfl := hw1.symm
    go_wp2_with (go_at_call 9; refine (alive_any w).mono ?_; rintro e w2 ⟨rfl, hb2⟩)
    go_ret
    exact ⟨rfl, hb2.out⟩
end Go.Proofs.Ytjnoijpindbobaa
