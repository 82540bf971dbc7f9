/-
  One table of a law's own: its steps; nil tables and ones that nobody made; alive.
-/
import Derived.Test.YtmohfblkfdkloaaSsk
namespace Go.Proofs.Ytmohfblkfdkloaa
open Go.RowKit
set_option linter.unusedVariables false
/-- A TABLE OF THE LAW's OWN, k calls after its beginning: all its blocks are of C, from B on. -/
structure TA (w0 : World) (B : Nat) (C : Nat → Prop) (tb mb k : Nat) (wr : World) (T : Tb) : Prop where
  tab : ∃ v, Tab wr C tb mb v T
  new : ∀ q, wr.heap.size ≤ q → C q
  low : ∀ q, C q → B ≤ q
  ok : Ok k T
  bel : Below B w0 wr
  le : B ≤ wr.heap.size
section
variable {w0 : World} {B tb mb k : Nat} {C : Nat → Prop} {wr : World} {T : Tb}
theorem TA.step {w' : World} (h : TA w0 B C tb mb k wr T) (hb : Below wr.heap.size wr w') : TA w0 B C tb mb k w' T :=
  ⟨h.tab.imp fun v hv => hv.kept hb, fun q hq => h.new q (Nat.le_trans hb.size hq), h.low, h.ok, h.bel.trans (hb.mono h.le), Nat.le_trans h.le hb.size⟩
/-- The same; the blocks that are new are none of its. -/
theorem TA.off {w' : World} (h : TA w0 B C tb mb k wr T) (hb : Below wr.heap.size wr w') : ∃ D : Nat → Prop, TA w0 B D tb mb k w' T ∧ (∀ q, D q → C q) ∧ ∀ q, wr.heap.size ≤ q → q < w'.heap.size → ¬ D q :=
  ⟨fun q => C q ∧ (q < wr.heap.size ∨ w'.heap.size ≤ q), ⟨h.tab.imp fun v hv => (hv.to (fun q hq hc => ⟨hc, .inl hq⟩)).kept hb, fun q hq => ⟨h.new q (Nat.le_trans hb.size hq), .inr hq⟩, fun q hq => h.low q hq.1, h.ok, h.bel.trans (hb.mono h.le), Nat.le_trans h.le hb.size⟩, fun q hq => hq.1, fun q h1 h2 h3 => by have := h3.2; omega⟩
theorem TA.turn {w' : World} {T' : Tb} {k' : Nat} {v : Value} (h : TA w0 B C tb mb k wr T) (hT : Tab w' C tb mb v T') (hO : Ok k' T') (hK : KS C wr w') : TA w0 B C tb mb k' w' T' :=
  ⟨⟨v, hT⟩, fun q hq => h.new q (Nat.le_trans hK.size hq), h.low, hO, hK.below h.bel h.le h.low, Nat.le_trans h.le hK.size⟩
theorem TA.hello (m : Mg) (d now : Int) (h : TA w0 B C tb mb k wr T) (hk : k < 70368744177664) (hd : 0 ≤ d ∧ d < 18446744073709551616) :
    Calls Try.prog 12 #[.pointer (some ⟨tb, 0, none⟩), m.val, .int .u64 d, .int .i64 now] wr fun e w' => e = .returned (.tuple #[(helM (goA T now) m d).val, .int .i64 (greE (goA T now) m d)]) ∧ Hid (TA w0 B C tb mb (k + 1) w' (greA (goA T now) m d)) ∧ Hid (KS C wr w') := by
  obtain ⟨v, hv⟩ := h.tab
  refine (hello_any m d now hv h.ok hk h.new hd).mono ?_
  rintro e w' ⟨rfl, v2, hT, hK⟩
  exact ⟨rfl, h.turn hT.out (gre_ok (go_ok h.ok now) hd) hK.out, hK⟩
theorem hea_ok (h : Ok k T) (m : Mg) : Ok k (heaA T m) := by
  unfold heaA
  split
  · exact h
  · rename_i i hi
    split
    · exact h
    · split
      · exact h
      · split
        · exact rem_ok h _
        · obtain ⟨s, hs, -, -⟩ := fiA_some hi
          rw [List.getD_eq_getElem?_getD, hs]
          have hs' := h.ent s (List.mem_of_getElem? hs)
          refine ⟨h.m1, h.m2, h.i1, h.i2, h.t1, h.t2, by show ((T.L.set i _).length : Int) ≤ _; rw [List.length_set]; exact h.few, fun x hx => ?_, ?_, h.cnt⟩
          · rcases List.mem_or_eq_of_mem_set hx with hx | rfl
            · exact h.ent x hx
            · obtain ⟨a, b, c, d1, e, f1, g, u⟩ := hs'
              exact ⟨a, b, c, d1, h.t1, by show T.time ≤ T.time; omega, g, u⟩
          · show ((T.L.set i _).map Se.t).Nodup
            rw [List.map_set, show (hrdS T (Option.getD (some s) zS)).t = s.t from rfl]
            have e : (T.L.map Se.t).set i s.t = T.L.map Se.t := by
              apply List.ext_getElem?
              intro j
              rw [List.getElem?_set]
              split
              · rename_i hij
                subst hij
                split
                · rw [List.getElem?_map, hs]; rfl
                · rename_i hlt
                  simp at hlt
                  rw [List.getElem?_eq_none (by simpa using hlt)]
              · rfl
            rw [e]
            exact h.one
theorem TA.hear (m : Mg) (now : Int) (h : TA w0 B C tb mb k wr T) :
    Calls Try.prog 15 #[.pointer (some ⟨tb, 0, none⟩), m.val, .int .i64 now] wr fun e w' => e = .returned (.int .i64 (heaE (goA T now) m)) ∧ Hid (TA w0 B C tb mb k w' (heaA (goA T now) m)) ∧ Hid (KS C wr w') := by
  obtain ⟨v, hv⟩ := h.tab
  refine (hear_any m now hv h.ok h.new).mono ?_
  rintro e w' ⟨rfl, v2, hT, hK⟩
  exact ⟨rfl, h.turn hT.out (hea_ok (go_ok h.ok now) m) hK.out, hK⟩
theorem TA.close (t now : Int) (h : TA w0 B C tb mb k wr T) :
    Calls Try.prog 17 #[.pointer (some ⟨tb, 0, none⟩), .int .u64 t, .int .i64 now] wr fun e w' => e = .returned (.int .i64 (cloE (goA T now) t)) ∧ Hid (TA w0 B C tb mb k w' (remA (goA T now) t)) ∧ Hid (KS C wr w') := by
  obtain ⟨v, hv⟩ := h.tab
  refine (close_any t now hv h.ok h.new).mono ?_
  rintro e w' ⟨rfl, v2, hT, hK⟩
  exact ⟨rfl, h.turn hT.out (rem_ok (go_ok h.ok now) t) hK.out, hK⟩
theorem TA.tick (now : Int) (h : TA w0 B C tb mb k wr T) :
    Calls Try.prog 20 #[.pointer (some ⟨tb, 0, none⟩), .int .i64 now] wr fun e w' => ∃ v1, e = .returned v1 ∧ Hid (OwnsW w' wr.heap.size v1 (endA T now)) ∧ Hid (TA w0 B C tb mb k w' (goA T now)) ∧ Hid (KS C wr w') := by
  obtain ⟨v, hv⟩ := h.tab
  refine (tick_any now hv h.ok h.new).mono ?_
  rintro e w' ⟨v1, rfl, hW, v2, hT, hK⟩
  exact ⟨v1, rfl, hW, h.turn hT.out (go_ok h.ok now) hK.out, hK⟩
theorem TA.live (h : TA w0 B C tb mb k wr T) : Calls Try.prog 24 #[.pointer (some ⟨tb, 0, none⟩)] wr fun e w' => e = .returned (.int .i64 (T.L.length : Nat)) ∧ w' = wr := by
  obtain ⟨v, hv⟩ := h.tab
  exact live_any hv
theorem TA.find (t : Int) (h : TA w0 B C tb mb k wr T) : Calls Try.prog 22 #[.pointer (some ⟨tb, 0, none⟩), .int .u64 t] wr fun e w' => e = .returned (.tuple #[.int .i64 (findA T.L t).1, .int .i64 (findA T.L t).2.1, .bool (findA T.L t).2.2]) ∧ Hid (TA w0 B C tb mb k w' T) ∧ Hid (Below wr.heap.size wr w') := by
  obtain ⟨v, hv⟩ := h.tab
  refine (find_any t hv).mono ?_
  rintro e w' ⟨rfl, hb⟩
  exact ⟨rfl, h.step hb, hb⟩
end
def t0 (most idle : Int) : Tb := ⟨most, idle, 0, [], fun _ => false, 0⟩
theorem ta_new (most idle : Int) (w : World) (h1 : 1 ≤ most) (h2 : most ≤ 64) (h3 : 1 ≤ idle) (h4 : idle ≤ 1048576) :
    Calls Try.prog 9 #[.int .i64 most, .int .i64 idle] w fun e w' => e = .returned (.tuple #[.pointer (some ⟨w.heap.size + 1, 0, none⟩), .int .i64 0]) ∧ Hid (TA w w.heap.size (fun q => w.heap.size ≤ q) (w.heap.size + 1) w.heap.size 0 w' (t0 most idle)) := by
  refine (new_yes most idle w h1 h2 h3 h4).mono ?_
  rintro e w' ⟨rfl, hT, hb⟩
  exact ⟨rfl, ⟨_, hT.out⟩, fun q hq => Nat.le_trans hb.out.size hq, fun q hq => hq, new_ok h1 h2 h3 h4, hb.out, hb.out.size⟩
/-- A Hello's message. -/
def hlo (t : Int) : Mg := ⟨3, t, 0, 0, 0, 0, 0, 1, none, 0, 0⟩
theorem hello_fn (t : Int) (w : World) : Calls Try.prog 25 #[.int .u64 t] w fun e w' => e = .returned (hlo t).val ∧ Below w.heap.size w w' := by
  unfold hlo Mg.val
  go_enter Try.func25, Try.ntmps25
  go_wp2
  refine bodyPost_ret (v := .agg #[.int .i64 3, .int .u64 t, .int .i64 0, .int .i64 0, .int .i64 0, .int .u64 0, .int .i64 0, .int .i64 1, .slice none 0 0]) (by simp [results, Try.results25, go_sem]) rfl ⟨rfl, ?_⟩
  repeat (refine Below.setCell ?_ (by first | exact Nat.le_refl _ | simp) _)
  exact (Below.refl w.heap.size w).alloc (Nat.le_refl _) _
def tA1 : Tb := greA (goA (t0 2 10) 0) (hlo 0) 7
def tA2 : Tb := greA (goA tA1 1) (hlo 7) 0
theorem al1 : helM (goA (t0 2 10) 0) (hlo 0) 7 = ⟨4, 7, 1, 0, 0, 0, 0, 1, none, 0, 0⟩ := by rfl
theorem al2 : greE (goA (t0 2 10) 0) (hlo 0) 7 = 0 := by rfl
theorem al3 : helM (goA tA1 1) (hlo 7) 0 = ⟨4, 7, 2, 0, 0, 0, 0, 1, none, 0, 0⟩ := by rfl
theorem al4 : greE (goA tA1 1) (hlo 7) 0 = 0 := by rfl
theorem al5 : tA2.L.length = 1 := by rfl
set_option maxHeartbeats 2000000 in
theorem alive_any (w : World) : Calls Try.prog 11 #[] w fun e w' => e = .returned (.bool true) ∧ Hid (Below w.heap.size w w') := by
  go_enter Try.func11, Try.ntmps11
  go_wp2_with fail
  refine (ta_new 2 10 w (by decide) (by decide) (by decide) (by decide)).mono ?_
  rintro e w1 ⟨rfl, hT⟩
  generalize hB : w.heap.size = B at *
  generalize htb : B + 1 = tb at *
  have hB' : Hid (w.heap.size = B) := hB
  have kA : ∀ wx C, Hid (TA w B C tb B 0 wx (t0 2 10)) → Calls Try.prog 12 #[.pointer (some ⟨tb, 0, none⟩), (hlo 0).val, .int .u64 7, .int .i64 0] wx fun e w' => e = .returned (.tuple #[.agg #[.int .i64 4, .int .u64 7, .int .i64 1, .int .i64 0, .int .i64 0, .int .u64 0, .int .i64 0, .int .i64 1, .slice none 0 0], .int .i64 0]) ∧ Hid (TA w B C tb B 1 w' tA1) := fun wx C hx => by
    have := hx.out.hello (hlo 0) 7 0 (by decide) (by decide)
    rw [al1, al2] at this
    refine this.mono ?_
    rintro e w' ⟨rfl, h1, h2⟩
    exact ⟨rfl, h1⟩
  have kB : ∀ wx C, Hid (TA w B C tb B 1 wx tA1) → Calls Try.prog 12 #[.pointer (some ⟨tb, 0, none⟩), (hlo 7).val, .int .u64 0, .int .i64 1] wx fun e w' => e = .returned (.tuple #[.agg #[.int .i64 4, .int .u64 7, .int .i64 2, .int .i64 0, .int .i64 0, .int .u64 0, .int .i64 0, .int .i64 1, .slice none 0 0], .int .i64 0]) ∧ Hid (TA w B C tb B 2 w' tA2) ∧ Hid (KS C wx w') := fun wx C hx => by
    have := hx.out.hello (hlo 7) 0 1 (by decide) (by decide)
    rw [al3, al4] at this
    exact this
  clear hB htb
  go_wp2_with (first | (go_at_call 25; refine (hello_fn _ _).mono ?_; rintro e w2 ⟨rfl, hb⟩; have hT2 : Hid (TA w B (fun q => B ≤ q) tb B 0 w2 (t0 2 10)) := hT.out.step hb; clear hT hb) | (go_at_call 12; refine (kA _ _ hT2).mono ?_; rintro e w3 ⟨rfl, hT3⟩; clear hT2 kA) | fail)
  have hbx := blk_new w3 #[.int .i64 4, .int .u64 7, .int .i64 1, .int .i64 0, .int .i64 0, .int .u64 0, .int .i64 0, .int .i64 1, .slice none 0 0] 37
  obtain ⟨D, hT4, -, hD⟩ := hT3.out.off ((Below.refl _ _).alloc (Nat.le_refl _) (.cells #[.int .i64 4, .int .u64 7, .int .i64 1, .int .i64 0, .int .i64 0, .int .u64 0, .int .i64 0, .int .i64 1, .slice none 0 0] 37))
  have hbx' : Hid (Blk (w3.alloc (.cells #[.int .i64 4, .int .u64 7, .int .i64 1, .int .i64 0, .int .i64 0, .int .u64 0, .int .i64 0, .int .i64 1, .slice none 0 0] 37)) w3.heap.size _ 37) := hbx
  have hD' : Hid (¬ D w3.heap.size) := hD _ (Nat.le_refl _) (by simp)
  have hT4' : Hid (TA w B D tb B 1 (w3.alloc (.cells #[.int .i64 4, .int .u64 7, .int .i64 1, .int .i64 0, .int .i64 0, .int .u64 0, .int .i64 0, .int .i64 1, .slice none 0 0] 37)) tA1) := hT4
  clear hbx hD hT4 hT3
  generalize hga : w3.heap.size = ga at *
  have hga' : Hid (w3.heap.size = ga) := hga
  clear hga
  generalize (w3.alloc (.cells #[.int .i64 4, .int .u64 7, .int .i64 1, .int .i64 0, .int .i64 0, .int .u64 0, .int .i64 0, .int .i64 1, .slice none 0 0] 37)) = w4 at *
  go_wp2_with (first | (go_at_call 25; refine (hello_fn _ _).mono ?_; rintro e w5 ⟨rfl, hb⟩; have hT5 : Hid (TA w B D tb B 1 w5 tA1) := hT4'.out.step hb; have hbx5 : Hid (Blk w5 ga _ 37) := hbx'.out.kept hb; clear hT4' hb hbx') | (go_at_call 12; refine (kB _ _ hT5).mono ?_; rintro e w6 ⟨rfl, hT6, hK6⟩; have hbx6 : Hid (Blk w6 ga _ 37) := hbx5.out.ks hK6.out hD'.out; have u1 := (hbx6.out.kept ((Below.refl _ _).alloc (Nat.le_refl _) (.cells #[.int .i64 4, .int .u64 7, .int .i64 2, .int .i64 0, .int .i64 0, .int .u64 0, .int .i64 0, .int .i64 1, .slice none 0 0] 37))).cell 1; have u2 := (hbx6.out.kept ((Below.refl _ _).alloc (Nat.le_refl _) (.cells #[.int .i64 4, .int .u64 7, .int .i64 2, .int .i64 0, .int .i64 0, .int .u64 0, .int .i64 0, .int .i64 1, .slice none 0 0] 37))).cell 2; have u3 := (blk_new w6 #[.int .i64 4, .int .u64 7, .int .i64 2, .int .i64 0, .int .i64 0, .int .u64 0, .int .i64 0, .int .i64 1, .slice none 0 0] 37).cell 2; clear hT5 kB hbx5 hK6) | (go_at_call 24; have kL := (hT6.out.step ((Below.refl _ _).alloc (Nat.le_refl _) (.cells #[.int .i64 4, .int .u64 7, .int .i64 2, .int .i64 0, .int .i64 0, .int .u64 0, .int .i64 0, .int .i64 1, .slice none 0 0] 37))).live; rw [al5] at kL; refine kL.mono ?_; rintro e w7 ⟨rfl, hw7⟩; obtain rfl := hw7.symm; clear kL))
  go_ret
  refine ⟨rfl, ?_⟩
  show Below w.heap.size w _
  rw [hB'.out]
  exact (hT6.out.step ((Below.refl _ _).alloc (Nat.le_refl _) _)).bel
end Go.Proofs.Ytmohfblkfdkloaa
