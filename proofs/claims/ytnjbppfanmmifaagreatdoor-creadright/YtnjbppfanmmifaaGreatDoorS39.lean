/-
  What is wrong with a node itself: tree.fault, of every other Kind.
  What is wrong with a tree: tree.Check.
  What is wrong with a tree, as the document's call tells it: gantlineref08.Check.
  CBOR as trees: a tree that is decoded may be: the walk.
-/
import Derived.Test.YtnjbppfanmmifaaGreatDoorS8
import Derived.Test.YtnjbppfanmmifaaGreatDoorS30
import Derived.Test.YtnjbppfanmmifaaGreatDoorS36
import Derived.Test.YtnjbppfanmmifaaGreatDoorS37
import Derived.Test.YtnjbppfanmmifaaGreatDoorS38
import Derived.Test.YtnjbppfanmmifaaGreatDoorS35
import Derived.Test.YtnjbppfanmmifaaGreatDoorS29
namespace Go.Proofs.YtnjbppfanmmifaaGreatDoor
open Go.RowKit
set_option linter.unusedVariables false

end Go.Proofs.YtnjbppfanmmifaaGreatDoor
namespace Go.Proofs.YtnjbppfanmmifaaGreatDoor
open Go.RowKit
set_option linter.unusedVariables false

end Go.Proofs.YtnjbppfanmmifaaGreatDoor
namespace Go.Proofs.YtnjbppfanmmifaaGreatDoor
open Go.RowKit
set_option linter.unusedVariables false

set_option maxHeartbeats 4000000 in
set_option maxRecDepth 100000 in
theorem echeck_any {D : Nat} {t : Tr} {b : Nb} {w : World} (hN : Nd D w b t) : Calls Tryz.prog 23 #[.agg b.arr] w fun e w' => (∃ er, e = .returned (.int .i64 er) ∧ Tr.ChkIs alF t er) ∧ Below w.heap.size w w' := by
  have hal := alloc_below w (.cells b.arr 26)
  have Q0 : Hid (NBox (w.alloc (.cells b.arr 26)) w.heap.size b) := nbox_new w b
  have B0 : Hid (Below w.heap.size w (w.alloc (.cells b.arr 26))) := hal
  obtain ⟨a0, a1, a2, a3, a4, a5, a6, a7, a8⟩ := (nbox_new w b).fields
  have kF := efew_any (hN.kept hal)
  have hN' : Hid (Nd D w b t) := hN
  clear hal hN
  by_cases hs : t.size ≤ 1024
  · rw [decide_eq_true hs] at kF
    have hs' : Hid (t.size ≤ 1024) := hs
    have kD : Hid (∀ w2, Below w.heap.size w w2 → Calls Tryz.prog 37 #[.agg b.arr] w2 fun e w' => e = .returned (.int .i64 (t.deep : Nat)) ∧ Below w2.heap.size w2 w') := fun w2 hb => deep_all D t b w2 (hN'.out.kept hb) (by have := hs'.out; omega)
    have kO : Hid (∀ w2, Below w.heap.size w w2 → Calls Tryz.prog 38 #[.agg b.arr] w2 fun e w' => e = .returned (.int .i64 (t.forms alF)) ∧ Below w2.heap.size w2 w') := fun w2 hb => form_all D t b w2 (hN'.out.kept hb)
    obtain ⟨v, hv⟩ := bool_of (¬ t.All (fun u => u.keys.Nodup))
    have kT : Hid (∀ w2, Below w.heap.size w w2 → Calls Tryz.prog 39 #[.agg b.arr] w2 fun e w' => e = .returned (.bool v) ∧ Below w2.heap.size w2 w') := fun w2 hb => etwice_any (hN'.out.kept hb) hv
    have hV : Hid (v = true ↔ ¬ t.All (fun u => u.keys.Nodup)) := hv
    have hF' : Hid (t.forms alF = t.forms alF) := rfl
    have hFx : ∃ A, t.forms alF = A := ⟨_, rfl⟩
    obtain ⟨A, hA⟩ := hFx
    rw [hA] at kO
    have hA' : Hid (t.forms alF = A) := hA
    clear hs hv hF' hA
    by_cases hd : t.deep ≤ 24
    · have hd1 : decide ((24 : Int) < ((t.deep : Nat) : Int)) = false := by simp; omega
      have hd' : Hid (t.deep ≤ 24) := hd
      clear hd
      generalize t.deep = E at kD hd1
      by_cases hz : A = 0
      · subst hz
        cases v with
        | true =>
          go_enter Tryz.func23, Tryz.ntmps23
          go_wp2_with (first
            | (go_at_call 32; refine kF.mono ?_; rintro e w2 ⟨rfl, hb2⟩; clear kF a0 a1 a2 a3 a4 a5 a6 a7 a8; have Q2 : Hid (NBox w2 w.heap.size b) := Q0.out.kept hb2 Q0.out.lt; have B2 : Hid (Below w.heap.size w w2) := B0.out.trans (hb2.mono B0.out.size); obtain ⟨a0, a1, a2, a3, a4, a5, a6, a7, a8⟩ := Q2.out.fields; have kD2 := kD.out w2 B2.out)
            | (go_at_call 37; refine kD2.mono ?_; rintro e w3 ⟨rfl, hb3⟩; clear kD2 a0 a1 a2 a3 a4 a5 a6 a7 a8; have Q3 : Hid (NBox w3 w.heap.size b) := Q2.out.kept hb3 Q2.out.lt; have B3 : Hid (Below w.heap.size w w3) := B2.out.trans (hb3.mono B2.out.size); obtain ⟨a0, a1, a2, a3, a4, a5, a6, a7, a8⟩ := Q3.out.fields; have kO3 := kO.out w3 B3.out)
            | (go_at_call 38; refine kO3.mono ?_; rintro e w4 ⟨rfl, hb4⟩; clear kO3 a0 a1 a2 a3 a4 a5 a6 a7 a8; have Q4 : Hid (NBox w4 w.heap.size b) := Q3.out.kept hb4 Q3.out.lt; have B4 : Hid (Below w.heap.size w w4) := B3.out.trans (hb4.mono B3.out.size); obtain ⟨a0, a1, a2, a3, a4, a5, a6, a7, a8⟩ := Q4.out.fields; have kT4 := kT.out w4 B4.out)
            | (go_at_call 39; refine kT4.mono ?_; rintro e w5 ⟨rfl, hb5⟩))
          go_ret
          exact ⟨⟨9, rfl, .inr (.inr (.inr (.inl ⟨hs'.out, hd'.out, hA'.out, (by simpa using hV.out), rfl⟩)))⟩, B4.out.trans (hb5.mono B4.out.size)⟩
        | false =>
          go_enter Tryz.func23, Tryz.ntmps23
          go_wp2_with (first
            | (go_at_call 32; refine kF.mono ?_; rintro e w2 ⟨rfl, hb2⟩; clear kF a0 a1 a2 a3 a4 a5 a6 a7 a8; have Q2 : Hid (NBox w2 w.heap.size b) := Q0.out.kept hb2 Q0.out.lt; have B2 : Hid (Below w.heap.size w w2) := B0.out.trans (hb2.mono B0.out.size); obtain ⟨a0, a1, a2, a3, a4, a5, a6, a7, a8⟩ := Q2.out.fields; have kD2 := kD.out w2 B2.out)
            | (go_at_call 37; refine kD2.mono ?_; rintro e w3 ⟨rfl, hb3⟩; clear kD2 a0 a1 a2 a3 a4 a5 a6 a7 a8; have Q3 : Hid (NBox w3 w.heap.size b) := Q2.out.kept hb3 Q2.out.lt; have B3 : Hid (Below w.heap.size w w3) := B2.out.trans (hb3.mono B2.out.size); obtain ⟨a0, a1, a2, a3, a4, a5, a6, a7, a8⟩ := Q3.out.fields; have kO3 := kO.out w3 B3.out)
            | (go_at_call 38; refine kO3.mono ?_; rintro e w4 ⟨rfl, hb4⟩; clear kO3 a0 a1 a2 a3 a4 a5 a6 a7 a8; have Q4 : Hid (NBox w4 w.heap.size b) := Q3.out.kept hb4 Q3.out.lt; have B4 : Hid (Below w.heap.size w w4) := B3.out.trans (hb4.mono B3.out.size); obtain ⟨a0, a1, a2, a3, a4, a5, a6, a7, a8⟩ := Q4.out.fields; have kT4 := kT.out w4 B4.out)
            | (go_at_call 39; refine kT4.mono ?_; rintro e w5 ⟨rfl, hb5⟩))
          go_ret
          exact ⟨⟨0, rfl, .inr (.inr (.inr (.inr ⟨hs'.out, hd'.out, hA'.out, (by simpa using hV.out), rfl⟩)))⟩, B4.out.trans (hb5.mono B4.out.size)⟩
      · have hz2 : (A == 0) = false := by simp [hz]
        have hz' : Hid (A ≠ 0) := hz
        clear hz kT
        go_enter Tryz.func23, Tryz.ntmps23
        go_wp2_with (first
          | (go_at_call 32; refine kF.mono ?_; rintro e w2 ⟨rfl, hb2⟩; clear kF a0 a1 a2 a3 a4 a5 a6 a7 a8; have Q2 : Hid (NBox w2 w.heap.size b) := Q0.out.kept hb2 Q0.out.lt; have B2 : Hid (Below w.heap.size w w2) := B0.out.trans (hb2.mono B0.out.size); obtain ⟨a0, a1, a2, a3, a4, a5, a6, a7, a8⟩ := Q2.out.fields; have kD2 := kD.out w2 B2.out)
          | (go_at_call 37; refine kD2.mono ?_; rintro e w3 ⟨rfl, hb3⟩; clear kD2 a0 a1 a2 a3 a4 a5 a6 a7 a8; have Q3 : Hid (NBox w3 w.heap.size b) := Q2.out.kept hb3 Q2.out.lt; have B3 : Hid (Below w.heap.size w w3) := B2.out.trans (hb3.mono B2.out.size); obtain ⟨a0, a1, a2, a3, a4, a5, a6, a7, a8⟩ := Q3.out.fields; have kO3 := kO.out w3 B3.out)
          | (go_at_call 38; refine kO3.mono ?_; rintro e w4 ⟨rfl, hb4⟩; clear kO3 a0 a1 a2 a3 a4 a5 a6 a7 a8))
        go_ret
        exact ⟨⟨A, rfl, .inr (.inr (.inl ⟨hs'.out, hd'.out, by rw [hA'.out]; exact hz'.out, hA'.out.symm⟩))⟩, B3.out.trans (hb4.mono B3.out.size)⟩
    · have hd1 : decide ((24 : Int) < ((t.deep : Nat) : Int)) = true := by simp; omega
      have hd' : Hid (24 < t.deep) := by show _ < _; omega
      clear hd kT kO
      generalize t.deep = E at kD hd1
      go_enter Tryz.func23, Tryz.ntmps23
      go_wp2_with (first
        | (go_at_call 32; refine kF.mono ?_; rintro e w2 ⟨rfl, hb2⟩; clear kF a0 a1 a2 a3 a4 a5 a6 a7 a8; have Q2 : Hid (NBox w2 w.heap.size b) := Q0.out.kept hb2 Q0.out.lt; have B2 : Hid (Below w.heap.size w w2) := B0.out.trans (hb2.mono B0.out.size); obtain ⟨a0, a1, a2, a3, a4, a5, a6, a7, a8⟩ := Q2.out.fields; have kD2 := kD.out w2 B2.out)
        | (go_at_call 37; refine kD2.mono ?_; rintro e w3 ⟨rfl, hb3⟩; clear kD2))
      go_ret
      exact ⟨⟨7, rfl, .inr (.inl ⟨hs'.out, hd'.out, rfl⟩)⟩, B2.out.trans (hb3.mono B2.out.size)⟩
  · rw [decide_eq_false hs] at kF
    have hs' : Hid (1024 < t.size) := by show _ < _; omega
    clear hs
    go_enter Tryz.func23, Tryz.ntmps23
    go_wp2_with (go_at_call 32; refine kF.mono ?_; rintro e w2 ⟨rfl, hb2⟩)
    go_ret
    exact ⟨⟨8, rfl, .inl ⟨hs'.out, rfl⟩⟩, B0.out.trans (hb2.mono B0.out.size)⟩
end Go.Proofs.YtnjbppfanmmifaaGreatDoor
namespace Go.Proofs.YtnjbppfanmmifaaGreatDoor
open Go.RowKit
set_option linter.unusedVariables false
theorem chk_zero {t : Tr} {er : Int} (h : Tr.ChkIs alF t er) : er = 0 ↔ t.May (fun u => alF u = 0) :=
  ⟨fun e => (Tr.chk_may alF_shaped).1 (by rw [e] at h; exact h), fun e => Tr.chk_one h ((Tr.chk_may alF_shaped).2 e)⟩
set_option maxHeartbeats 4000000 in
set_option maxRecDepth 100000 in
theorem wcright (a : Option Addr) (n c : Nat) (zs : List Int) (w : World) {L : Nat} (hl : zs.length = n) (hb : Bytes w a zs) (hc : n ≤ c ∧ c ≤ maxLen ∧ (a = none → c = 0)) (hLw : Lw L w) (hL : L ≤ w.heap.size) : Calls Tryz.prog 5 #[.slice a n c] w fun e w' => e = .returned (.bool true) ∧ Below w.heap.size w w' := by
  have k1 := decode_any a n c zs w hl hb hc hLw hL
  have kA : Hid (∀ wx, Below w.heap.size w wx → Calls Tryz.prog 20 #[] wx fun e w' => e = .returned (.bool true) ∧ Below wx.heap.size wx w') := fun wx hx => calive_any wx (hLw.on (hx.mono hL)) (Nat.le_trans hL hx.size)
  have hE := fun f => @dcd_err zs f
  have hO := fun t (e : dcdA zs = .inr t) => itm_may hb.1 (dcd_ok e)
  unfold DcdIs at k1
  generalize dcdA zs = R at *
  cases R with
  | inl f =>
    obtain ⟨F1, F2⟩ := f
    have hf := hE (F1, F2) rfl
    simp only at hf
    have gf : (F1 == 0) = false := by simpa using hf.1
    have g2 : decide ((F2 : Int) ≤ (n : Int)) = true := by simp; omega
    have g2' : decide (F2 ≤ n) = true := by simp; omega
    simp only at k1
    unfold zN Nb.arr at k1
    simp only at k1
    have kS : Hid (∀ wx, Calls Tryz.prog 19 #[.agg #[.int .i64 0, .int .u64 0, .bool false, .string ⟨#[]⟩, .int .i64 0, .string ⟨#[]⟩, .slice none 0 0, .slice none 0 0, .slice none 0 0], .agg #[.int .i64 0, .int .u64 0, .bool false, .string ⟨#[]⟩, .int .i64 0, .string ⟨#[]⟩, .slice none 0 0, .slice none 0 0, .slice none 0 0]] wx fun e w' => e = .returned (.bool true) ∧ Below wx.heap.size wx w') := fun wx => esame_any (w := wx) (a := zN) (b := zN) (v := true) (nd_zero 0 _) (nd_zero 0 _) (by simp [zT, Tr.size])
    clear hE hO hf hl hb hc hLw hL
    go_enter Tryz.func5, Tryz.ntmps5
    go_wp2_with (first
      | (go_at_call 17; refine k1.mono ?_; rintro e x1 ⟨rfl, hb1⟩; have b1 : Hid (Below w.heap.size w ((x1.alloc (.cells #[.int .i64 0, .int .u64 0, .bool false, .string ⟨#[]⟩, .int .i64 0, .string ⟨#[]⟩, .slice none 0 0, .slice none 0 0, .slice none 0 0] 26)).alloc (.cells #[.int .i64 F1, .int .i64 (F2 : Nat)] 29))) := hb1.trans ((bal2 x1 _ _).mono hb1.size); have FF : Hid (Blk ((x1.alloc (.cells #[.int .i64 0, .int .u64 0, .bool false, .string ⟨#[]⟩, .int .i64 0, .string ⟨#[]⟩, .slice none 0 0, .slice none 0 0, .slice none 0 0] 26)).alloc (.cells #[.int .i64 F1, .int .i64 (F2 : Nat)] 29)) (x1.heap.size + 1) #[.int .i64 F1, .int .i64 (F2 : Nat)] 29) := box_two x1 _ _; clear k1)
      | (go_at_call 19; refine (kS.out _).mono ?_; rintro e x2 ⟨rfl, hb2⟩; have b2 : Hid (Below w.heap.size w x2) := b1.out.trans (hb2.mono b1.out.size); have F3 : Hid (Blk x2 (x1.heap.size + 1) #[.int .i64 F1, .int .i64 (F2 : Nat)] 29) := Blk.kept FF.out hb2 FF.out.lt; have m1 : x2.cell? ⟨x1.heap.size + 1, 1, none⟩ = some (.int .i64 (F2 : Nat)) := F3.out.cell 1; clear hb2)
      | (go_at_call 20; refine (kA.out _ b2.out).mono ?_; rintro e x3 ⟨rfl, hb3⟩))
    go_ret
    exact ⟨rfl, b2.out.trans (hb3.mono b2.out.size)⟩
  | inr t =>
    simp only at k1
    have hM : Hid (t.May (fun u => alF u = 0)) := (Tr.chk_may alF_shaped).1 (chk_of (hO t rfl).1 (hO t rfl).2.1 (hO t rfl).2.2)
    unfold Nb.arr at k1
    clear hE hO hl hb hc hLw hL
    go_enter Tryz.func5, Tryz.ntmps5
    go_wp2_with (first
      | (go_at_call 17; refine k1.mono ?_; rintro e x1 ⟨⟨nb, he1, hn1⟩, hb1⟩; subst he1; have b1 : Hid (Below w.heap.size w ((x1.alloc (.cells #[.int .i64 nb.kind, .int .u64 nb.num, .bool nb.neg, .string nb.dig, .int .i64 nb.exp, .string nb.txt, .slice nb.ab nb.lb nb.cb, .slice nb.ak nb.lk nb.ck, .slice nb.ai nb.li nb.ci] 26)).alloc (.cells #[.int .i64 0, .int .i64 0] 29))) := hb1.trans ((bal2 x1 _ _).mono hb1.size); have kC := echeck_any (hn1.nd.kept (bal2 x1 (.cells #[.int .i64 nb.kind, .int .u64 nb.num, .bool nb.neg, .string nb.dig, .int .i64 nb.exp, .string nb.txt, .slice nb.ab nb.lb nb.cb, .slice nb.ak nb.lk nb.ck, .slice nb.ai nb.li nb.ci] 26) (.cells #[.int .i64 0, .int .i64 0] 29))); clear k1 hn1 hb1)
      | (go_at_call 23; refine kC.mono ?_; rintro e x2 ⟨⟨er, rfl, hE⟩, hb2⟩; have he0 := (chk_zero hE).2 hM.out; subst he0; have b2 : Hid (Below w.heap.size w x2) := b1.out.trans (hb2.mono b1.out.size); clear hb2 hE kC)
      | (go_at_call 20; refine (kA.out _ b2.out).mono ?_; rintro e x3 ⟨rfl, hb3⟩))
    go_ret
    exact ⟨rfl, b2.out.trans (hb3.mono b2.out.size)⟩
end Go.Proofs.YtnjbppfanmmifaaGreatDoor
