/-
  tree.Same.
  The program's reader of CBOR: is a key there already?
  The program's reader of CBOR: a Map's keys and kids, one more.
  The program's reader of CBOR: a Map.
  The program's reader of CBOR: what is behind an item's first bytes.
  The program's reader of CBOR: a wrong byte ends the reading by a panic, which is recovered.
-/
import Derived.Test.YtnjbppfanmmifaaGreatDoorH6
import Derived.Test.YtnjbppfanmmifaaGreatDoorH2
import Derived.Test.YtnjbppfanmmifaaGreatDoorH16
import Derived.Defers
import Derived.Recover
namespace Go.Proofs.YtnjbppfanmmifaaGreatDoor
open Go.RowKit
set_option linter.unusedVariables false
set_option maxHeartbeats 2000000 in
theorem gsame_any {D E : Nat} {t u : Tr} {a b : Nb} {w : World} {v : Bool} (hA : Nd D w a t) (hB : Nd E w b u) (hv : v = true ↔ t.size ≤ 1024 ∧ u.size ≤ 1024 ∧ t = u) : Calls Tryz.prog 42 #[.agg a.arr, .agg b.arr] w fun e w' => e = .returned (.bool v) ∧ Below w.heap.size w w' := by
  have hal := alloc_below w (.cells a.arr 26)
  have hal2 := alloc_below (w.alloc (.cells a.arr 26)) (.cells b.arr 26)
  have hb2 : Hid (Below w.heap.size w ((w.alloc (.cells a.arr 26)).alloc (.cells b.arr 26))) := hal.trans (hal2.mono hal.size)
  have hs2 : Hid (w.heap.size ≤ ((w.alloc (.cells a.arr 26)).alloc (.cells b.arr 26)).heap.size) := Nat.le_trans hal.size hal2.size
  have boxA := (nbox_new w a).kept hal2 (by simp)
  have boxB := nbox_new (w.alloc (.cells a.arr 26)) b
  have s1 : (w.alloc (.cells a.arr 26)).heap.size = w.heap.size + 1 := by simp
  rw [s1] at boxB
  obtain ⟨a0, a1, a2, a3, a4, a5, a6, a7, a8⟩ := boxA.fields
  obtain ⟨b0, b1, b2, b3, b4, b5, b6, b7, b8⟩ := boxB.fields
  have hKa : Hid (NBox ((w.alloc (.cells a.arr 26)).alloc (.cells b.arr 26)) w.heap.size a) := boxA
  have hKb : Hid (NBox ((w.alloc (.cells a.arr 26)).alloc (.cells b.arr 26)) (w.heap.size + 1) b) := boxB
  have hsz : Hid (w.heap.size + 1 < ((w.alloc (.cells a.arr 26)).alloc (.cells b.arr 26)).heap.size) := by show _ < _; simp
  have kA : Hid (∀ w', Below w.heap.size w w' → Calls Tryz.prog 74 #[.agg a.arr] w' _) := fun w' h => few_any (hA.kept h)
  have kB : Hid (∀ w', Below w.heap.size w w' → Calls Tryz.prog 74 #[.agg b.arr] w' _) := fun w' h => few_any (hB.kept h)
  have k1 := kA.out _ hb2.out
  have kS : Hid (∀ (v' : Bool), (v' = true ↔ t = u) → ∀ w', Below w.heap.size w w' → Calls Tryz.prog 75 #[.agg a.arr, .agg b.arr] w' _) := fun v' h w' hb => sam_any (hA.kept hb) (hB.kept hb) h
  have hV : Hid (v = true ↔ t.size ≤ 1024 ∧ u.size ≤ 1024 ∧ t = u) := hv
  clear hal hal2 boxA boxB s1 hv hA hB
  by_cases hf : t.size ≤ 1024
  · rw [decide_eq_true hf] at k1
    by_cases hg : u.size ≤ 1024
    · rw [show decide (u.size ≤ 1024) = true from decide_eq_true hg] at kB
      have hv : v = true ↔ t = u := ⟨fun h => (hV.out.1 h).2.2, fun h => hV.out.2 ⟨hf, hg, h⟩⟩
      have kS' := kS.out v hv
      clear hf hg hv kS
      go_enter Tryz.func42, Tryz.ntmps42
      go_wp2_with (first
        | (go_at_call 74; refine k1.mono ?_; rintro e w1 ⟨rfl, hb1⟩; clear k1; have hbw := hb2.out.trans (hb1.mono hs2.out); have q2 := hKb.out.kept hb1 hsz.out; have q1 := hKa.out.kept hb1 (Nat.lt_of_le_of_lt (Nat.le_succ _) hsz.out); obtain ⟨c0, c1, c2, c3, c4, c5, c6, c7, c8⟩ := q1.fields; obtain ⟨d0, d1, d2, d3, d4, d5, d6, d7, d8⟩ := q2.fields; have k2 := kB.out w1 hbw)
        | (go_at_call 74; refine k2.mono ?_; rintro e w2 ⟨rfl, hb3⟩; clear k2; have hbw2 := hbw.trans (hb3.mono hbw.size); obtain ⟨g0, g1, g2, g3, g4, g5, g6, g7, g8⟩ := (q1.kept hb3 q1.lt).fields; obtain ⟨h0, h1, h2, h3, h4, h5, h6, h7, h8⟩ := (q2.kept hb3 q2.lt).fields; have k3 := kS' w2 hbw2)
        | (go_at_call 75; refine k3.mono ?_; rintro e w3 ⟨rfl, hb4⟩))
      go_ret
      exact ⟨rfl, hbw2.trans (hb4.mono hbw2.size)⟩
    · rw [show decide (u.size ≤ 1024) = false from decide_eq_false hg] at kB
      have hv : v = false := not_true hV.out fun h => hg h.2.1
      subst hv
      clear hf hg kS
      go_enter Tryz.func42, Tryz.ntmps42
      go_wp2_with (first
        | (go_at_call 74; refine k1.mono ?_; rintro e w1 ⟨rfl, hb1⟩; clear k1; have hbw := hb2.out.trans (hb1.mono hs2.out); have q2 := hKb.out.kept hb1 hsz.out; obtain ⟨d0, d1, d2, d3, d4, d5, d6, d7, d8⟩ := q2.fields; have k2 := kB.out w1 hbw)
        | (go_at_call 74; refine k2.mono ?_; rintro e w2 ⟨rfl, hb3⟩))
      go_ret
      exact ⟨rfl, hbw.trans (hb3.mono hbw.size)⟩
  · rw [decide_eq_false hf] at k1
    have hv : v = false := not_true hV.out fun h => hf h.1
    subst hv
    clear hf kS kB
    go_enter Tryz.func42, Tryz.ntmps42
    go_wp2_with (go_at_call 74; refine k1.mono ?_; rintro e w1 ⟨rfl, hb1⟩)
    go_ret
    exact ⟨rfl, hb2.out.trans (hb1.mono hs2.out)⟩
end Go.Proofs.YtnjbppfanmmifaaGreatDoor
namespace Go.Proofs.YtnjbppfanmmifaaGreatDoor
open Go.RowKit
set_option linter.unusedVariables false
set_option maxHeartbeats 2000000 in
/-- The closure: is a node the same as the key? -/
theorem pck_any {D E : Nat} {u t : Tr} {nb kb : Nb} {gk : Nat} {w : World} (hA : Nd D w nb u) (hK : NBox w gk kb) (hB : Nd E w kb t) (v : Bool) (hv : v = true ↔ u.size ≤ 1024 ∧ t.size ≤ 1024 ∧ u = t) :
    Calls Tryz.prog 168 (#[.agg nb.arr] ++ #[.pointer (some ⟨gk, 0, none⟩)]) w fun e w' => e = .returned (.bool v) ∧ Below w.heap.size w w' := by
  show Calls Tryz.prog 168 #[.agg nb.arr, .pointer (some ⟨gk, 0, none⟩)] w _
  have hal := alloc_below w (.cells nb.arr 26)
  have kS := gsame_any (hA.kept hal) (hB.kept hal) hv
  obtain ⟨a0, a1, a2, a3, a4, a5, a6, a7, a8⟩ := (nbox_new w nb).fields
  obtain ⟨b0, b1, b2, b3, b4, b5, b6, b7, b8⟩ := (hK.kept hal hK.lt).fields
  have hW : Hid (Below w.heap.size w (w.alloc (.cells nb.arr 26))) := hal
  unfold Nb.arr at *
  clear hal hK hA hB hv
  go_enter Tryz.func168, Tryz.ntmps168
  go_wp2_with (go_at_call 42; refine kS.mono ?_; rintro e w2 ⟨rfl, hb2⟩)
  go_ret
  exact ⟨rfl, hW.out.trans (hb2.mono hW.out.size)⟩
theorem nine_el {w : World} {a : Option Addr} {bk : List Nb} (h : Nine w a bk) {i : Nat} (hi : i < bk.length) : ∃ b off, a = some ⟨b, off, none⟩ ∧ ∀ j, j < 9 → w.cell? ⟨b, off + (i * 9 + j), none⟩ = (bk[i]).cells[j]? := by
  rcases h with rfl | ⟨b, off, ha, hc⟩
  · cases hi
  · exact ⟨b, off, ha, fun j hj => hc i hi j hj⟩
theorem hasK_snoc {lk : List Tr} {t : Tr} {i : Nat} (h : i < lk.length) : hasK (lk.take (i + 1)) t = (hasK (lk.take i) t || eqF lk[i].deep lk[i] t) := by
  unfold hasK
  rw [List.take_succ_eq_append_getElem h, List.any_append]
  simp
/-- A row of keys in memory. -/
def KR (D : Nat) (w : World) (bk : List Nb) (lk : List Tr) : Prop := bk.length = lk.length ∧ (∀ j (h : j < bk.length) (k : j < lk.length), Nd D w bk[j] lk[j]) ∧ ∀ u ∈ lk, u.size ≤ 1024
set_option maxHeartbeats 4000000 in
set_option maxRecDepth 100000 in
theorem indm_any {D E : Nat} (a : Option Addr) (n c : Nat) (bk : List Nb) (lk : List Tr) (gk : Nat) (kb : Nb) (t : Tr) (w : World) (hKb : NBox w gk kb) (hT : Nd E w kb t) (hsz : t.size ≤ 1024) (hl : bk.length = n) (hN : Nine w a bk) (hR : KR D w bk lk) (hc : n ≤ c) (hcm : c ≤ 9223372036854775807) :
    Calls Tryz.prog 145 #[.slice a n c, .func (.func 168) #[] #[.pointer (some ⟨gk, 0, none⟩)]] w fun e w' => (∃ r : Int, e = .returned (.int .i64 r) ∧ decide (0 ≤ r) = hasK lk t) ∧ Below w.heap.size w w' := by
  have e49 : ∀ args w, (callFunc 168 args).run Tryz.prog w = .ok (.enter 168 args) w := enters_of Tryz.func168 (by kernel_rfl) rfl
  have hx : Hid (bk.length = n) := hl
  have hA : Hid (Nine w a bk) := hN
  have hB : Hid (KR D w bk lk) := hR
  have hK : Hid (NBox w gk kb ∧ Nd E w kb t ∧ t.size ≤ 1024) := ⟨hKb, hT, hsz⟩
  clear hl hKb hN hT hsz hR
  go_enter Tryz.func145, Tryz.ntmps145
  go_wp2
  go_loopw [5, 8] (fun _ s8 wr => ∃ (i : Nat), i ≤ n ∧ s8 = .int .i64 i ∧ Hid (Below w.heap.size w wr) ∧ Hid (hasK (lk.take i) t = false)) (fun _ i _ => n - (intOf i).toNat)
  case atStart => exact ⟨0, Nat.zero_le _, rfl, Below.refl _ _, by show _ = _; rfl⟩
  case round =>
    obtain ⟨i, him, rfl, hbl, hT⟩ := hrel
    by_cases hlt : i < n
    · have hz : (i : Int) < (n : Int) := by omega
      have hix : i < bk.length := by rw [hx.out]; exact hlt
      have hiy : i < lk.length := by rw [← hB.out.1]; exact hix
      obtain ⟨b0, off, rfl, hck⟩ := nine_el (hA.out.kept hbl.out) hix
      obtain ⟨f0, f1, f2, f3, f4, f5, f6, f7, f8⟩ := elem_fields hck
      have hiff : eqF lk[i].deep lk[i] t = true ↔ lk[i].size ≤ 1024 ∧ t.size ≤ 1024 ∧ lk[i] = t := by
        rw [eqF_iff _ _ _ (Nat.le_refl _)]
        exact ⟨fun e => ⟨hB.out.2.2 _ (List.getElem_mem hiy), hK.out.2.2, e⟩, fun e => e.2.2⟩
      have kk := pck_any (((hB.out.2.1 i hix hiy)).kept hbl.out) (hK.out.1.kept hbl.out hK.out.1.lt) (hK.out.2.1.kept hbl.out) _ hiff
      have wi : IntKind.i64.wrap ((i : Int) + 1) = (i : Int) + 1 := by rw [IntKind.wrap_i64]; omega
      have hsn := hasK_snoc (t := t) hiy
      rw [hT.out, Bool.false_or] at hsn
      cases hE : eqF lk[i].deep lk[i] t with
      | true =>
        rw [hE] at kk
        have hm : Hid (hasK lk t = true) := by
          show _ = _
          unfold hasK
          rw [List.any_eq_true]
          exact ⟨lk[i], List.getElem_mem hiy, hE⟩
        generalize bk[i] = nk at *
        clear hck hE hsn hiff
        go_wp2_with (go_at_fn 168; refine kk.mono ?_; rintro e w1 ⟨rfl, hb1⟩)
        go_ret
        exact ⟨⟨_, rfl, by rw [hm.out]; simp⟩, hbl.out.trans (hb1.mono hbl.out.size)⟩
      | false =>
        rw [hE] at kk
        have hT' : Hid (hasK (lk.take (i + 1)) t = false) := by show _ = _; rw [hsn, hE]
        generalize bk[i] = nk at *
        clear hck hE hsn hiff
        go_wp2_with (go_at_fn 168; refine kk.mono ?_; rintro e w1 ⟨rfl, hb1⟩)
        go_roundw
        case rel => exact ⟨i + 1, by omega, by go_num, hbl.out.trans (hb1.mono hbl.out.size), hT'⟩
        case measure => simp [intOf]; omega
    · have hz : ¬ (i : Int) < (n : Int) := by omega
      have hm : Hid (hasK lk t = false) := by
        show _ = _
        have := hT.out
        rwa [List.take_of_length_le (by rw [← hB.out.1, hx.out]; omega)] at this
      go_wp2
      go_ret
      exact ⟨⟨-1, rfl, by rw [hm.out]; rfl⟩, hbl.out⟩
set_option maxHeartbeats 1000000 in
theorem contm_any {D E : Nat} (a : Option Addr) (n c : Nat) (bk : List Nb) (lk : List Tr) (gk : Nat) (kb : Nb) (t : Tr) (w : World) (hKb : NBox w gk kb) (hT : Nd E w kb t) (hsz : t.size ≤ 1024) (hl : bk.length = n) (hN : Nine w a bk) (hR : KR D w bk lk) (hc : n ≤ c) (hcm : c ≤ 9223372036854775807) :
    Calls Tryz.prog 108 #[.slice a n c, .func (.func 168) #[] #[.pointer (some ⟨gk, 0, none⟩)]] w fun e w' => e = .returned (.bool (hasK lk t)) ∧ Below w.heap.size w w' := by
  have ki := indm_any a n c bk lk gk kb t w hKb hT hsz hl hN hR hc hcm
  generalize hasK lk t = v at *
  clear hKb hT hsz hl hN hR hc hcm
  go_enter Tryz.func108, Tryz.ntmps108
  go_wp2_with (go_at_call 145; refine ki.mono ?_; rintro e w1 ⟨⟨r, rfl, hr⟩, hb⟩)
  go_ret
  exact ⟨rfl, hb⟩
end Go.Proofs.YtnjbppfanmmifaaGreatDoor
namespace Go.Proofs.YtnjbppfanmmifaaGreatDoor
open Go.RowKit
set_option linter.unusedVariables false
/-- A Map's node, its items so far. -/
def nbM (ak : Option Addr) (nk ck : Nat) (ai : Option Addr) (ni ci : Nat) : Nb := ⟨8, 0, false, ⟨#[]⟩, 0, ⟨#[]⟩, none, 0, 0, ak, nk, ck, ai, ni, ci⟩
/-- WHERE THE READING OF A MAP STANDS. -/
def MS (C : CX) (w wr : World) (hd : Hd) (D : Nat) (lk li : List Tr) (ak : Option Addr) (nk ck : Nat) (ai : Option Addr) (ni ci p m : Nat) : Prop := RK C w wr p m ∧ Blk wr w.heap.size hd.arr 94 ∧ NBox wr (w.heap.size + 1) zN ∧ NBox wr (w.heap.size + 2) (nbM ak nk ck ai ni ci) ∧ ∃ bk bi S, R2 (w.heap.size + 3) D wr (.slice ak nk ck) (.slice ai ni ci) lk li bk bi S
theorem MS.len {C : CX} {w wr : World} {hd : Hd} {D : Nat} {lk li : List Tr} {ak ai : Option Addr} {nk ck ni ci p m : Nat} (h : MS C w wr hd D lk li ak nk ck ai ni ci p m) : nk = lk.length ∧ ni = li.length := by
  obtain ⟨_, _, _, _, bk, bi, S, h1, h2, h3, h4, _⟩ := h
  obtain ⟨a, c, hv, _⟩ := h1.shape
  obtain ⟨a', c', hv', _⟩ := h2.shape
  simp at hv hv'
  exact ⟨by omega, by omega⟩
theorem nbox_put7 {w : World} {g : Nat} {ak a' ai : Option Addr} {nk ck n' c' ni ci : Nat} (h : NBox w g (nbM ak nk ck ai ni ci)) : NBox (w.setCell ⟨g, 7, none⟩ (.slice a' n' c')) g (nbM a' n' c' ai ni ci) := (heap_setCell_same w g 7 (nbM ak nk ck ai ni ci).arr 26 (.slice a' n' c') h).trans rfl
theorem nbox_put8 {w : World} {g : Nat} {ak a' ai : Option Addr} {nk ck n' c' ni ci : Nat} (h : NBox w g (nbM ak nk ck ai ni ci)) : NBox (w.setCell ⟨g, 8, none⟩ (.slice a' n' c')) g (nbM ak nk ck a' n' c') := (heap_setCell_same w g 8 (nbM ak nk ck ai ni ci).arr 26 (.slice a' n' c') h).trans rfl
theorem mkey_put {C : CX} {w wr w7 w9 : World} {hd : Hd} {D : Nat} {lk li : List Tr} {ak ai : Option Addr} {nk ck ni ci p m r o E : Nat} {b' : Nb} {t : Tr} {bk bi : List Nb} {S : Nat → Prop} {v' : Value} (hA : RK C w wr p m) (hB : Blk wr w.heap.size hd.arr 94) (hZ : NBox wr (w.heap.size + 1) zN) (hN : NBox wr (w.heap.size + 2) (nbM ak nk ck ai ni ci)) (hR : R2 (w.heap.size + 3) D wr (.slice ak nk ck) (.slice ai ni ci) lk li bk bi S)
    (hk : RK C wr w7 r o) (hn5 : NdW (Rg wr.heap.size E) D w7 b' t) (hE : E ≤ w7.heap.size) (ho : OwnsN 26 w9 (w.heap.size + 3) v' (bk ++ [b'])) (hg : (w7.alloc (.cells b'.arr 26)).grownBy w9 (Value.slice ak nk ck).ownBlock) (hnew : ∀ g, v'.ownBlock = some g → (Value.slice ak nk ck).ownBlock = some g ∨ (w7.alloc (.cells b'.arr 26)).heap.size ≤ g) :
    ∃ a' c', v' = .slice a' (lk.length + 1) c' ∧ w9.cell? ⟨w.heap.size + 2, 7, none⟩ = some (.slice ak nk ck) ∧ w9.frozen? ⟨w.heap.size + 2, 7, none⟩ = false ∧ MS C w (w9.setCell ⟨w.heap.size + 2, 7, none⟩ (.slice a' (lk.length + 1) c')) hd D (lk ++ [t]) li a' (lk.length + 1) c' ai ni ci r o := by
  have hG := hA.2.2
  have hw3 : w.heap.size + 3 ≤ wr.heap.size := hN.lt
  have hlt := hR.lt
  have hAl := alloc_below w7 (.cells b'.arr 26)
  have R5 := (hR.kq hk.2.1 (by omega)).flip
  have R6 := R5.kid hn5 hw3 hE (fun k hk => (hlt k hk.symm).2) hAl ho hg hnew
  obtain ⟨a', c', hv, _⟩ := ho.shape
  have hbl : bk.length = lk.length := hR.2.2.1
  rw [List.length_append, List.length_singleton, hbl] at hv
  subst hv
  have s5 : wr.heap.size ≤ w7.heap.size := hk.2.1.size
  have old : ∀ k, k < w.heap.size + 3 → k ≠ C.g → w9.heap[k]? = wr.heap[k]? := fun k h1 h2 => by
    rw [hg.block k (by have := hAl.size; omega) (fun e => by have := (hlt k (.inl e.symm)).1; omega), hAl.block k (by omega), hk.2.1.block k (by omega) h2]
  have N6 : NBox w9 (w.heap.size + 2) (nbM ak nk ck ai ni ci) := hN.same (old _ (by omega) (by omega))
  refine ⟨a', c', rfl, N6.cell 7, N6.fz 7, ?_, ?_, ?_, nbox_put7 N6, bk ++ [b'], bi, _, (R6.flip).keep (by rw [set_size]; exact Nat.le_refl _) fun k h1 _ => setk (by omega) _⟩
  · exact (((hA.next hk).alloc _).grown hg (fun k e => by have := (hlt k (.inl e)).1; omega)).set (by omega)
  · exact (setk (by omega) _).trans ((old _ (by omega) (by omega)).trans hB)
  · exact ((hZ.same (old _ (by omega) (by omega))).same (setk (by omega) _))
theorem mkid_put {C : CX} {w wr w7 w9 : World} {hd : Hd} {D : Nat} {lk li : List Tr} {ak ai : Option Addr} {nk ck ni ci p m r o E : Nat} {b' : Nb} {t : Tr} {bk bi : List Nb} {S : Nat → Prop} {v' : Value} (hA : RK C w wr p m) (hB : Blk wr w.heap.size hd.arr 94) (hZ : NBox wr (w.heap.size + 1) zN) (hN : NBox wr (w.heap.size + 2) (nbM ak nk ck ai ni ci)) (hR : R2 (w.heap.size + 3) D wr (.slice ak nk ck) (.slice ai ni ci) lk li bk bi S)
    (hk : RK C wr w7 r o) (hn5 : NdW (Rg wr.heap.size E) D w7 b' t) (hE : E ≤ w7.heap.size) (ho : OwnsN 26 w9 (w.heap.size + 3) v' (bi ++ [b'])) (hg : (w7.alloc (.cells b'.arr 26)).grownBy w9 (Value.slice ai ni ci).ownBlock) (hnew : ∀ g, v'.ownBlock = some g → (Value.slice ai ni ci).ownBlock = some g ∨ (w7.alloc (.cells b'.arr 26)).heap.size ≤ g) :
    ∃ a' c', v' = .slice a' (li.length + 1) c' ∧ w9.cell? ⟨w.heap.size + 2, 8, none⟩ = some (.slice ai ni ci) ∧ w9.frozen? ⟨w.heap.size + 2, 8, none⟩ = false ∧ MS C w (w9.setCell ⟨w.heap.size + 2, 8, none⟩ (.slice a' (li.length + 1) c')) hd D lk (li ++ [t]) ak nk ck a' (li.length + 1) c' r o := by
  have hG := hA.2.2
  have hw3 : w.heap.size + 3 ≤ wr.heap.size := hN.lt
  have hlt := hR.lt
  have hAl := alloc_below w7 (.cells b'.arr 26)
  have R5 := hR.kq hk.2.1 (by omega)
  have R6 := R5.kid hn5 hw3 hE (fun k hk => (hlt k hk).2) hAl ho hg hnew
  obtain ⟨a', c', hv, _⟩ := ho.shape
  have hbl : bi.length = li.length := hR.2.2.2.1
  rw [List.length_append, List.length_singleton, hbl] at hv
  subst hv
  have s5 : wr.heap.size ≤ w7.heap.size := hk.2.1.size
  have old : ∀ k, k < w.heap.size + 3 → k ≠ C.g → w9.heap[k]? = wr.heap[k]? := fun k h1 h2 => by
    rw [hg.block k (by have := hAl.size; omega) (fun e => by have := (hlt k (.inr e.symm)).1; omega), hAl.block k (by omega), hk.2.1.block k (by omega) h2]
  have N6 : NBox w9 (w.heap.size + 2) (nbM ak nk ck ai ni ci) := hN.same (old _ (by omega) (by omega))
  refine ⟨a', c', rfl, N6.cell 8, N6.fz 8, ?_, ?_, ?_, nbox_put8 N6, bk, bi ++ [b'], _, (R6).keep (by rw [set_size]; exact Nat.le_refl _) fun k h1 _ => setk (by omega) _⟩
  · exact (((hA.next hk).alloc _).grown hg (fun k e => by have := (hlt k (.inr e)).1; omega)).set (by omega)
  · exact (setk (by omega) _).trans ((old _ (by omega) (by omega)).trans hB)
  · exact ((hZ.same (old _ (by omega) (by omega))).same (setk (by omega) _))
theorem MS.kq {C : CX} {w wr wx : World} {hd : Hd} {D : Nat} {lk li : List Tr} {ak ai : Option Addr} {nk ck ni ci p m q o : Nat} (h : MS C w wr hd D lk li ak nk ck ai ni ci p m) (hk : RK C wr wx q o) : MS C w wx hd D lk li ak nk ck ai ni ci q o := by
  obtain ⟨h1, h2, h3, h4, bk, bi, S, hr⟩ := h
  have hg := h1.2.2
  exact ⟨h1.next hk, Blk.kq h2 hk.2.1 h2.lt (by omega), h3.same (hk.2.1.block _ h3.lt (by omega)), h4.same (hk.2.1.block _ h4.lt (by omega)), bk, bi, S, hr.kq hk.2.1 (by omega)⟩
/-- The Map, whole. -/
theorem MS.fin {C : CX} {w wr : World} {hd : Hd} {D : Nat} {lk li : List Tr} {ak ai : Option Addr} {nk ck ni ci p m : Nat} (h : MS C w wr hd D lk li ak nk ck ai ni ci p m) (hk : lk.length ≤ 1024) (hl : li.length ≤ 1024) : JR C w wr p m (D + 1) (nbM ak nk ck ai ni ci) (mapT lk li) := by
  obtain ⟨h1, h2, h3, h4, bk, bi, S, r1, r2, r3, r4, r5, r6, r7, r8⟩ := h
  obtain ⟨f1, f2, f3⟩ := rown_fin r2 r4 r6 (fun k hk => ⟨(r7 k hk).1, (r7 k hk).2.1⟩) (by omega)
  obtain ⟨g1, g2, g3⟩ := rown_fin r1 r3 r5 (fun k hk => ⟨(r7 k hk).1, (r7 k hk).2.1⟩) (by omega)
  have r0 : ∀ k, Room k none 0 0 := fun k => ⟨Nat.le_refl _, Nat.zero_le _, fun _ => rfl, by omega⟩
  refine ⟨h1, ⟨rfl, rfl, rfl, rfl, rfl, rfl⟩, ⟨rfl, rfl, rfl, by show (0 : Nat) ≤ _; omega, by show (0 : Nat) ≤ _; omega⟩, ⟨rfl, r0 1, ⟨by simp [mapT], by simp [mapT], .inl rfl⟩⟩, ⟨wn_zero _ _ _ _, g3, f3⟩, g2, f2⟩
/-- What is left of a Map to be read. -/
def ML (C : CX) (w wr : World) (hd : Hd) (d : Nat) (K : Nat) (done : Nat) (R : Sum (Int × Nat) (Tr × Nat × Nat)) : Prop := ∃ (j p m : Nat) (lk li : List Tr) (ak : Option Addr) (nk ck : Nat) (ai : Option Addr) (ni ci : Nat), MS C w wr hd (26 - d) lk li ak nk ck ai ni ci p m ∧ done = li.length ∧ rcF j C.zs 2 (d + 1) p m ((limA hd).map (· - li.length)) lk li = R ∧ (j ≤ K ∧ m ≤ 1024 ∧ p ≤ C.zs.length ∧ 2 * (C.zs.length - p) + 2 ≤ j ∧ lk.length = li.length ∧ li.length ≤ m) ∧ ∀ u ∈ lk, u.size ≤ 1024
/-- A Map. -/
def MapAt (C : CX) (k : Nat) : Prop := ∀ (w : World) (hd : Hd) (d q m : Nat), RSt C w q m → m ≤ 1024 → d ≤ 24 → q ≤ C.zs.length → 2 * (C.zs.length - q) + 2 ≤ k → Calls Tryz.prog 128 #[.pointer (some ⟨C.g, 0, none⟩), .agg hd.arr, .int .i64 (d : Nat)] w fun x w' => ItmIs C w w' (27 - d) x (rcF k C.zs 2 (d + 1) q m (limA hd) [] [])
theorem wpl_append_node {w : World} {ops : Array Oper} {rest : List Oper} {o : Oper} {a : Act} {Q : Exit → Act → World → Prop} (hgd : o.guard = none) (s x : Operand)
    (ho : o.op = .call { callee := .builtin .append, args := #[s, x], argTypes := #[24, 24] })
    (base : Nat) (v : Value) (ys zs : List Nb) (hs : a.eval s = v) (hown : OwnsN 26 w base v ys)
    (ad : Addr) (m c : Nat) (hx : a.eval x = .slice (some ad) m c) (hm : zs.length = m) (hm0 : 0 < m) (hb : Nine w (some ad) zs)
    (hbytes : ys.length + zs.length ≤ 1000000000) (hbase : base ≤ w.heap.size)
    (h : ∀ v' w', OwnsN 26 w' base v' (ys ++ zs) → w.grownBy w' v.ownBlock → (∀ g, v'.ownBlock = some g → v.ownBlock = some g ∨ w.heap.size ≤ g) → wpList Tryz.prog ops Q rest (a.put o.dst v') w') : wpList Tryz.prog ops Q (o :: rest) a w := by
  have hw : Region.wanted o (yielded ops a.tmps) = true := by simp [Region.wanted, hgd]
  have t := step_append_node (ops := ops) (K := wpList Tryz.prog ops Q rest) (Q := Q) (E := True) hgd s x ho base v ys zs hs hown ad m c hx hm hm0 hb hbytes hbase h
  rw [if_pos hw] at t
  show (if _ then _ else _)
  rw [if_pos hw]
  exact .inl t
end Go.Proofs.YtnjbppfanmmifaaGreatDoor
namespace Go.Proofs.YtnjbppfanmmifaaGreatDoor
open Go.RowKit
set_option linter.unusedVariables false
/-- Behind a key that was read, boxed, and looked for. -/
def MK (C : CX) (w wr X : World) (gk r o D : Nat) (nb : Nb) (t : Tr) (E : Nat) : Prop := RK C wr X r o ∧ NBox X gk nb ∧ NdW (Rg wr.heap.size E) D X nb t ∧ E ≤ X.heap.size
theorem mk_new {C : CX} {w wr w5 : World} {r o D : Nat} {nb : Nb} {t : Tr} (hk : RK C wr w5 r o) (hn : NdW (Rg wr.heap.size w5.heap.size) D w5 nb t) : MK C w wr (w5.alloc (.cells nb.arr 26)) w5.heap.size r o D nb t w5.heap.size :=
  ⟨hk.alloc _, nbox_new w5 nb, hn.stays fun k hk => (alloc_below w5 _).block k hk.2, (alloc_below w5 _).size⟩
theorem MK.call {C : CX} {w wr X Y : World} {gk r o D E : Nat} {nb : Nb} {t : Tr} (h : MK C w wr X gk r o D nb t E) (hb : Below X.heap.size X Y) : MK C w wr Y gk r o D nb t E :=
  ⟨h.1.below hb, h.2.1.kept hb h.2.1.lt, h.2.2.1.stays fun k hk => hb.block k (Nat.lt_of_lt_of_le hk.2 h.2.2.2), Nat.le_trans h.2.2.2 hb.size⟩
set_option maxHeartbeats 16000000 in
set_option maxRecDepth 100000 in
theorem map_step {C : CX} {k : Nat} (ih : ∀ j, j ≤ k → ItmAt C j) : MapAt C k := by
  intro w hd d q m h hm hd24 hq hk
  have hgl : Hid (C.g < w.heap.size) := h.lt
  have hz : Hid (∀ c ∈ C.zs, 0 ≤ c ∧ c < 256) := h.2.1.1.1
  have kG : Hid (∀ wx p m (done : Nat), RSt C wx p m → Calls Tryz.prog 167 #[.pointer (some ⟨C.g, 0, none⟩), .agg hd.arr, .int .u64 (done : Nat)] wx fun x w' => GonIs C wx w' m x (gonA C.zs p ((limA hd).map (· - done)))) := fun wx p m done hx => cgoes_any hx hd done
  obtain ⟨R, hRR⟩ : ∃ R, R = rcF k C.zs 2 (d + 1) q m (limA hd) [] [] := ⟨_, rfl⟩
  rw [← hRR]
  have hIh : Hid (∀ j, j ≤ k → ItmAt C j) := ih
  have wd : IntKind.i64.wrap ((d : Int) + 1) = (d : Int) + 1 := by rw [IntKind.wrap_i64]; omega
  have hdd : Hid (d ≤ 24) := hd24
  have hB0 := blk_new w hd.arr 94
  have hA0 : Hid (ML C w (((w.alloc (.cells hd.arr 94)).alloc (.cells zN.arr 26)).alloc (.cells (nbM none 0 0 none 0 0).arr 26)) hd d k 0 R) := by
    have h1 := alloc_below w (.cells hd.arr 94)
    have h2 := alloc_below (w.alloc (.cells hd.arr 94)) (.cells zN.arr 26)
    have h3 := alloc_below ((w.alloc (.cells hd.arr 94)).alloc (.cells zN.arr 26)) (.cells (nbM none 0 0 none 0 0).arr 26)
    have s1 : (w.alloc (.cells hd.arr 94)).heap.size = w.heap.size + 1 := by simp
    have s2 : ((w.alloc (.cells hd.arr 94)).alloc (.cells zN.arr 26)).heap.size = w.heap.size + 2 := by simp
    refine ⟨k, q, m, [], [], none, 0, 0, none, 0, 0, ⟨((h.rk.alloc _).alloc _).alloc _, Blk.kept (Blk.kept hB0 h2 (by omega)) h3 (by omega), ?_, ?_, [], [], fun _ => False, r2_nil _ _ _⟩, rfl, ?_, ⟨Nat.le_refl _, hm, hq, hk, rfl, Nat.zero_le _⟩, (fun u hu => by cases hu)⟩
    · have := (nbox_new (w.alloc (.cells hd.arr 94)) zN).kept h3 (by omega)
      rwa [s1] at this
    · have := nbox_new ((w.alloc (.cells hd.arr 94)).alloc (.cells zN.arr 26)) (nbM none 0 0 none 0 0)
      rwa [s2] at this
    · rw [hRR]
      congr 1
      cases limA hd <;> simp
  obtain ⟨pl, mj, lo, nn, cut⟩ := hd
  unfold Hd.arr zN nbM Nb.arr at *
  simp only at *
  clear hRR h hm hd24 hq hk ih hB0
  go_enter Tryz.func128, Tryz.ntmps128
  go_wp2_with fail
  rw [show w.heap.size + 1 + 1 = w.heap.size + 2 from rfl]
  go_loopw [8, 9, 10] (fun s8 _ _ wr => ∃ done : Nat, s8 = .int .u64 done ∧ Hid (ML C w wr ⟨pl, mj, lo, nn, cut⟩ d k done R)) (fun _ _ _ wr => C.zs.length + 1 - pAt C wr)
  case atStart => exact ⟨0, rfl, hA0⟩
  case round =>
    obtain ⟨done, rfl, hP⟩ := hrel
    obtain ⟨j, p, m', lk, li, ak, nk, ck, ai, ni, ci, hS', hdn, hF', hJ', hsz'⟩ := hP.out
    subst hdn
    have hS : Hid (MS C w wr ⟨pl, mj, lo, nn, cut⟩ (26 - d) lk li ak nk ck ai ni ci p m') := hS'
    have hnl := hS'.len
    obtain ⟨rfl, rfl⟩ := hnl
    have hF : Hid (rcF j C.zs 2 (d + 1) p m' ((limA ⟨pl, mj, lo, nn, cut⟩).map (· - li.length)) lk li = R) := hF'
    have hJ : Hid (j ≤ k ∧ m' ≤ 1024 ∧ p ≤ C.zs.length ∧ 2 * (C.zs.length - p) + 2 ≤ j ∧ lk.length = li.length ∧ li.length ≤ m') := hJ'
    have hsz : Hid (∀ u ∈ lk, u.size ≤ 1024) := hsz'
    have hpA : Hid (pAt C wr = p) := pAt_of hS'.1.1
    have hx := hS'.2.1
    have b0 := hx.cell 0
    have b1 := hx.cell 1
    have b2 := hx.cell 2
    have b3 := hx.cell 3
    have b4 := hx.cell 4
    unfold Hd.arr at b0 b1 b2 b3 b4
    simp at b0 b1 b2 b3 b4
    have kG1 := kG.out wr p m' li.length hS'.1.1
    obtain ⟨j, rfl⟩ : ∃ j', j = j' + 1 := ⟨j - 1, by have := hJ.out; omega⟩
    have hF2 := hF'
    rw [rc2_eq] at hF2
    clear hS' hF' hJ' hP hx hA0 hsz'
    cases hg : gonA C.zs p ((limA ⟨pl, mj, lo, nn, cut⟩).map (· - li.length)) with
    | inl f =>
      rw [hg] at hF2 kG1
      simp only at hF2
      have hR3 : Hid (R = .inl f) := hF2.symm
      unfold GonIs at kG1
      simp only at kG1
      rw [pn_eq] at kG1
      have kG2 : Hid (Calls Tryz.prog 167 #[.pointer (some ⟨C.g, 0, none⟩), .agg #[.int .i64 (pl : Nat), .int .u8 mj, .int .u8 lo, .int .u64 (nn : Nat), .bool cut], .int .u64 (li.length : Nat)] wr fun x w' => x = .panicked [{ v := .iface 61 (.agg #[.int .i64 f.1, .int .i64 (f.2 : Nat)]), recovered := false }] ∧ Kq C.g wr.heap.size wr w') := kG1
      clear hF2 hg kG1 kG
      go_wp2_with (go_at_call 167; refine kG2.out.mono ?_; rintro e w3 ⟨rfl, hq3⟩)
      show _ ∧ ItmIs C w w3 _ _ R
      rw [hR3.out]
      exact ⟨rfl, rfl, hS.out.1.2.1.next hq3⟩
    | inr bq =>
      obtain ⟨bb, q'⟩ := bq
      rw [hg] at hF2 kG1
      unfold GonIs at kG1
      simp only at kG1
      have kG2 : Hid (Calls Tryz.prog 167 #[.pointer (some ⟨C.g, 0, none⟩), .agg #[.int .i64 (pl : Nat), .int .u8 mj, .int .u8 lo, .int .u64 (nn : Nat), .bool cut], .int .u64 (li.length : Nat)] wr fun x w' => x = .returned (.bool bb) ∧ RK C wr w' q' m') := kG1
      have hgo := gon_ok hg hJ.out.2.2.1
      clear kG1 kG hg
      cases bb with
      | false =>
        simp only at hF2
        have hR3 : Hid (R = .inr (mapT lk li, q', m')) := hF2.symm
        clear hF2 hgo
        go_wp2_with (go_at_call 167; refine kG2.out.mono ?_; rintro e w3 ⟨rfl, hq3⟩; have S3 : Hid (MS C w w3 ⟨pl, mj, lo, nn, cut⟩ (26 - d) lk li ak lk.length ck ai li.length ci q' m') := hS.out.kq hq3; obtain ⟨f0, f1, f2, f3, f4, f5, f6, f7, f8⟩ := S3.out.2.2.2.1.fields; obtain ⟨⟨y0, y1, y2, y3, y4, y5, y6, y7, y8⟩, z0, z1, z2, z3, z4, z5, z6, z7, z8⟩ := zbox S3.out.2.2.1; unfold nbM at f0 f1 f2 f3 f4 f5 f6 f7 f8; simp only at f0 f1 f2 f3 f4 f5 f6 f7 f8; clear hq3)
        refine bodyPost_ret (v := .agg (nbM ak lk.length ck ai li.length ci).arr) (by unfold nbM Nb.arr; simp [results, Tryz.results128, go_sem, *]) rfl ?_
        show ItmIs C w _ _ _ R
        rw [hR3.out]
        have hJR : Hid (JR C w w3 q' m' (27 - d) (nbM ak lk.length ck ai li.length ci) (mapT lk li)) := by have := S3.out.fin (by have := hJ.out; omega) (by have := hJ.out; omega); rw [show 26 - d + 1 = 27 - d by have := hdd.out; omega] at this; exact this
        refine JR.out (nb := nbM ak lk.length ck ai li.length ci) ?_
        repeat (first | with_reducible exact hJR.out | with_reducible refine JR.set ?_ (by omega) (by omega))
      | true =>
        obtain rfl : p = q' := (hgo.2.2 rfl).symm
        clear hgo
        simp only at hF2
        have kI0 : Hid (∀ wx, RSt C wx p m' → Calls Tryz.prog 48 #[.pointer (some ⟨C.g, 0, none⟩), .int .i64 ((d : Int) + 1)] wx fun x w' => ItmIs C wx w' (26 - d) x (rcF j C.zs 0 (d + 1) p m' none [] [])) := fun wx hx => by
          have hJ' := hJ.out
          have := hIh.out j (by omega) wx (d + 1) p m' hx hJ'.2.1 (by have := hdd.out; omega) hJ'.2.2.1 (by omega)
          rw [show 27 - (d + 1) = 26 - d by omega, show (((d + 1 : Nat) : Nat) : Int) = (d : Int) + 1 by omega] at this
          exact this
        have hbn := fun t r o (e : rcF j C.zs 0 (d + 1) p m' none [] [] = .inr (t, r, o)) => rc_bnd C.zs j 0 (by omega) _ _ _ _ _ _ _ _ _ e hJ.out.2.1 hJ.out.2.2.1
        have hmay := fun t r o (e : rcF j C.zs 0 (d + 1) p m' none [] [] = .inr (t, r, o)) => (rc_may C.zs hz.out j 0 (by omega) _ _ _ _ _ _ _ _ _ e hJ.out.2.1 hJ.out.2.2.1 (fun u hu => by cases hu) (fun u hu => by cases hu) (fun z => by cases z)).2.1 rfl
        have hbn' : Hid (∀ t r o, rcF j C.zs 0 (d + 1) p m' none [] [] = .inr (t, r, o) → p < r ∧ r ≤ C.zs.length ∧ m' < o ∧ o ≤ 1024 ∧ t.size ≤ 1024) := fun t r o e => ⟨((hbn t r o e).2.2.2.2 rfl).1, (hbn t r o e).2.1, ((hbn t r o e).2.2.2.2 rfl).2, (hbn t r o e).2.2.2.1, by have := (hmay t r o e).2; have := (hbn t r o e).2.2.2.1; omega⟩
        clear hbn hmay
        generalize hIR : rcF j C.zs 0 (d + 1) p m' none [] [] = IRR at *
        cases IRR with
        | inl f =>
          simp only at hF2
          have hR3 : Hid (R = .inl f) := hF2.symm
          unfold ItmIs at kI0
          simp only at kI0
          rw [pn_eq] at kI0
          clear hF2 hIR hbn'
          go_wp2_with (first
            | (go_at_call 167; refine kG2.out.mono ?_; rintro e w3 ⟨rfl, hq3⟩; have S3 : Hid (MS C w w3 ⟨pl, mj, lo, nn, cut⟩ (26 - d) lk li ak lk.length ck ai li.length ci p m') := hS.out.kq hq3; have r1 : w3.cell? ⟨C.g, 1, none⟩ = some (.int .i64 (p : Nat)) := S3.out.1.1.1.cell 1; clear hq3)
            | (go_at_call 48; refine (kI0.out _ S3.out.1.1).mono ?_; rintro e w5 ⟨rfl, hk5⟩))
          show _ ∧ ItmIs C w w5 _ _ R
          rw [hR3.out]
          exact ⟨rfl, rfl, S3.out.1.2.1.next hk5⟩
        | inr tro =>
          obtain ⟨t, r, o⟩ := tro
          simp only at hF2
          have hN1 : Hid (p < r ∧ r ≤ C.zs.length ∧ m' < o ∧ o ≤ 1024 ∧ t.size ≤ 1024) := hbn'.out t r o rfl
          unfold ItmIs at kI0
          simp only at kI0
          have kC : Hid (∀ wx wy gk nb (E : Nat), MS C w wx ⟨pl, mj, lo, nn, cut⟩ (26 - d) lk li ak lk.length ck ai li.length ci p m' → MK C w wx wy gk r o (26 - d) nb t E → Calls Tryz.prog 108 #[.slice ak lk.length ck, .func (.func 168) #[] #[.pointer (some ⟨gk, 0, none⟩)]] wy fun e w' => e = .returned (.bool (hasK lk t)) ∧ Below wy.heap.size wy w') := fun wx wy gk nb E hM hY => by
            have hMy := hM.kq hY.1
            obtain ⟨_, _, _, _, bk, bi, S, r1, r2, r3, r4, r5, r6, _⟩ := hMy
            obtain ⟨a', c', hv, hc, hnine, _⟩ := r1.shape
            simp at hv
            obtain ⟨rfl, hbl, rfl⟩ := hv
            exact contm_any _ _ _ bk lk gk nb t wy hY.2.1 hY.2.2.1.nd hN1.out.2.2.2.2 r3 hnine ⟨r3, fun i h1 h2 => (r5 i h1 h2).nd, hsz.out⟩ (by rw [← r3]; exact hc.1) (by have := hc.2.1; unfold maxLen at this; omega)
          clear hIR hbn'
          cases hK : hasK lk t with
          | true =>
            rw [hK] at kC hF2
            simp only [if_true] at hF2
            have hR3 : Hid (R = .inl (9, p)) := hF2.symm
            clear hF2 hK
            go_wp2_with (first
              | (go_at_call 167; refine kG2.out.mono ?_; rintro e w3 ⟨rfl, hq3⟩; have S3 : Hid (MS C w w3 ⟨pl, mj, lo, nn, cut⟩ (26 - d) lk li ak lk.length ck ai li.length ci p m') := hS.out.kq hq3; have r1 : w3.cell? ⟨C.g, 1, none⟩ = some (.int .i64 (p : Nat)) := S3.out.1.1.1.cell 1; clear hq3)
              | (go_at_call 48; refine (kI0.out _ S3.out.1.1).mono ?_; rintro e w5 ⟨⟨b', hb', hn5⟩, hk5⟩; rw [Nb.arr] at hb'; subst hb'; have M5 : Hid (MK C w w3 (w5.alloc (.cells b'.arr 26)) w5.heap.size r o (26 - d) b' t w5.heap.size) := mk_new hk5 hn5; have S5 : Hid (MS C w (w5.alloc (.cells b'.arr 26)) ⟨pl, mj, lo, nn, cut⟩ (26 - d) lk li ak lk.length ck ai li.length ci r o) := S3.out.kq M5.out.1; have c7' := S5.out.2.2.2.1.cell 7; unfold Nb.arr at M5 S5 c7'; have c7 : (w5.alloc (.cells #[.int .i64 b'.kind, .int .u64 b'.num, .bool b'.neg, .string b'.dig, .int .i64 b'.exp, .string b'.txt, .slice b'.ab b'.lb b'.cb, .slice b'.ak b'.lk b'.ck, .slice b'.ai b'.li b'.ci] 26)).cell? ⟨w.heap.size + 2, 7, none⟩ = some (.slice ak lk.length ck) := c7'; clear hk5 hn5 c7')
              | (go_at_call 108; refine (kC.out _ _ _ _ _ S3.out M5.out).mono ?_; rintro e w7 ⟨rfl, hb7⟩))
            show _ ∧ ItmIs C w w7 _ _ R
            rw [hR3.out]
            exact ⟨rfl, rfl, ((S3.out.1.next M5.out.1).below hb7).2.1⟩
          | false =>
            rw [hK] at kC hF2
            simp only [Bool.false_eq_true, if_false] at hF2
            have hF3 : Hid ((match rcF j C.zs 0 (d + 1) r o none [] [] with | .inl f => .inl f | .inr (u, s, i) => rcF j C.zs 2 (d + 1) s i (((limA ⟨pl, mj, lo, nn, cut⟩).map (· - li.length)).map (· - 1)) (lk ++ [t]) (li ++ [u])) = R) := hF2
            clear hF2 hK
            go_upto_region 10 with (first
              | (go_at_call 167; refine kG2.out.mono ?_; rintro e w3 ⟨rfl, hq3⟩; have S3 : Hid (MS C w w3 ⟨pl, mj, lo, nn, cut⟩ (26 - d) lk li ak lk.length ck ai li.length ci p m') := hS.out.kq hq3; have r1 : w3.cell? ⟨C.g, 1, none⟩ = some (.int .i64 (p : Nat)) := S3.out.1.1.1.cell 1; clear hq3)
              | (go_at_call 48; refine (kI0.out _ S3.out.1.1).mono ?_; rintro e w5 ⟨⟨b', hb', hn5⟩, hk5⟩; rw [Nb.arr] at hb'; subst hb'; have M5 : Hid (MK C w w3 (w5.alloc (.cells b'.arr 26)) w5.heap.size r o (26 - d) b' t w5.heap.size) := mk_new hk5 hn5; have S5 : Hid (MS C w (w5.alloc (.cells b'.arr 26)) ⟨pl, mj, lo, nn, cut⟩ (26 - d) lk li ak lk.length ck ai li.length ci r o) := S3.out.kq M5.out.1; have c7' := S5.out.2.2.2.1.cell 7; unfold Nb.arr at M5 S5 c7'; have c7 : (w5.alloc (.cells #[.int .i64 b'.kind, .int .u64 b'.num, .bool b'.neg, .string b'.dig, .int .i64 b'.exp, .string b'.txt, .slice b'.ab b'.lb b'.cb, .slice b'.ak b'.lk b'.ck, .slice b'.ai b'.li b'.ci] 26)).cell? ⟨w.heap.size + 2, 7, none⟩ = some (.slice ak lk.length ck) := c7'; clear hk5 hn5 c7')
              | (go_at_call 108; refine (kC.out _ _ _ _ _ S3.out M5.out).mono ?_; rintro e w7 ⟨rfl, hb7⟩; have M7 : Hid (MK C w w3 w7 w5.heap.size r o (26 - d) b' t w5.heap.size) := M5.out.call hb7; have S7 := S3.out.kq M7.out.1; have d7 : w7.cell? ⟨w.heap.size + 2, 7, none⟩ = some (.slice ak lk.length ck) := S7.2.2.2.1.cell 7; obtain ⟨n0, n1, n2, n3, n4, n5, n6, n7, n8⟩ := M7.out.2.1.fields; obtain ⟨bk, bi, S, hR2'⟩ := S3.out.2.2.2.2; have hR2 : Hid (R2 (w.heap.size + 3) (26 - d) w3 (.slice ak lk.length ck) (.slice ai li.length ci) lk li bk bi S) := hR2'; have O7 : Hid (OwnsN 26 w7 (w.heap.size + 3) (.slice ak lk.length ck) bk) := (hR2'.kq M7.out.1.2.1 (by have := hgl.out; omega)).1; have l7 : Hid (w.heap.size + 3 ≤ w7.heap.size) := S7.2.2.2.1.lt; have hbl : Hid (bk.length = lk.length ∧ lk.length ≤ 1024) := ⟨hR2'.2.2.1, by have := hJ.out; omega⟩; clear hb7 S7 hR2')
              | (at_builtin; refine wpl_append_node rfl _ _ rfl (w.heap.size + 3) (.slice ak lk.length ck) bk [b'] (by rfl) (World.ownsRow.kept (row := none) O7.out (⟨(alloc_below w7 _).os, (alloc_below w7 _).tape, (alloc_below w7 _).output, (alloc_below w7 _).size, fun k hk _ => (alloc_below w7 _).block k hk⟩) (by cases hv : (Value.slice ak lk.length ck).ownBlock <;> simp)) ⟨w7.heap.size, 0, none⟩ 1 1 (by rfl) rfl (by decide) (nine1 w7 b') (by have := hbl.out; simp; omega) (Nat.le_trans l7.out (alloc_below w7 _).size) ?_; intro v9 w9 ho9 hg9 hn9; obtain ⟨a9, c9, rfl, e9, f9, F9⟩ := mkey_put S3.out.1 S3.out.2.1 S3.out.2.2.1 S3.out.2.2.2.1 hR2.out M7.out.1 M7.out.2.2.1 M7.out.2.2.2 ho9 hg9 hn9; have F : Hid (MS C w (w9.setCell ⟨w.heap.size + 2, 7, none⟩ (.slice a9 (lk.length + 1) c9)) ⟨pl, mj, lo, nn, cut⟩ (26 - d) (lk ++ [t]) li a9 (lk.length + 1) c9 ai li.length ci r o) := F9; clear ho9 hg9 hn9 F9))
            generalize w9.setCell ⟨w.heap.size + 2, 7, none⟩ (.slice a9 (lk.length + 1) c9) = W at F ⊢
            have kI1 : Hid (∀ wx, RSt C wx r o → Calls Tryz.prog 48 #[.pointer (some ⟨C.g, 0, none⟩), .int .i64 ((d : Int) + 1)] wx fun x w' => ItmIs C wx w' (26 - d) x (rcF j C.zs 0 (d + 1) r o none [] [])) := fun wx hx => by
              have hJ' := hJ.out
              have hN' := hN1.out
              have := hIh.out j (by omega) wx (d + 1) r o hx hN'.2.2.2.1 (by have := hdd.out; omega) hN'.2.1 (by omega)
              rw [show 27 - (d + 1) = 26 - d by omega, show (((d + 1 : Nat) : Nat) : Int) = (d : Int) + 1 by omega] at this
              exact this
            have hbn := fun u s i (e : rcF j C.zs 0 (d + 1) r o none [] [] = .inr (u, s, i)) => rc_bnd C.zs j 0 (by omega) _ _ _ _ _ _ _ _ _ e hN1.out.2.2.2.1 hN1.out.2.1
            have hbn' : Hid (∀ u s i, rcF j C.zs 0 (d + 1) r o none [] [] = .inr (u, s, i) → r < s ∧ s ≤ C.zs.length ∧ o < i ∧ i ≤ 1024) := fun u s i e => ⟨((hbn u s i e).2.2.2.2 rfl).1, (hbn u s i e).2.1, ((hbn u s i e).2.2.2.2 rfl).2, (hbn u s i e).2.2.2.1⟩
            have c8 : W.cell? ⟨w.heap.size + 2, 8, none⟩ = some (.slice ai li.length ci) := F.out.2.2.2.1.cell 8
            have hF4 := hF3.out
            clear hbn S3 r1 M5 S5 c7 M7 d7 n0 n1 n2 n3 n4 n5 n6 n7 n8 hR2 O7 l7 hbl e9 f9 hF3 kI0 kC kG2 hS hF b0 b1 b2 b3 b4
            generalize hIR : rcF j C.zs 0 (d + 1) r o none [] [] = IRR at *
            cases IRR with
            | inl f =>
              simp only at hF4
              have hR3 : Hid (R = .inl f) := hF4.symm
              unfold ItmIs at kI1
              simp only at kI1
              rw [pn_eq] at kI1
              clear hF4 hIR hbn'
              go_region_dies
              all_goals (refine (kI1.out _ F.out.1.1.drew).mono ?_; rintro e w11 ⟨rfl, hk11⟩; show _ ∧ ItmIs C w w11 _ _ R; rw [hR3.out]; exact ⟨rfl, rfl, (kqd F.out.1.2.1).trans (hk11.mono F.out.1.2.1.size)⟩)
            | inr usi =>
              obtain ⟨u, s, i⟩ := usi
              simp only at hF4
              have hN2 : Hid (r < s ∧ s ≤ C.zs.length ∧ o < i ∧ i ≤ 1024) := hbn'.out u s i rfl
              have hR3 : Hid (rcF j C.zs 2 (d + 1) s i ((limA ⟨pl, mj, lo, nn, cut⟩).map (· - (li.length + 1))) (lk ++ [t]) (li ++ [u]) = R) := by show _ = _; rw [← lim_next]; exact hF4
              unfold ItmIs at kI1
              simp only at kI1
              have hcf : ∀ args w, (callFunc 48 args).run Tryz.prog w = .ok (.enter 48 args) w := fun _ _ => rfl
              have kV : Hid (Calls Tryz.prog 48 #[.pointer (some ⟨C.g, 0, none⟩), .int .i64 ((d : Int) + 1)] W.drew fun e w' => ∃ x, e = .returned x ∧ ((∃ nb : Nb, x = .agg nb.arr ∧ NdW (Rg W.drew.heap.size w'.heap.size) (26 - d) w' nb u) ∧ RK C W.drew w' s i)) := (kI1.out _ F.out.1.1.drew).mono fun e w' ⟨⟨nb, he, hn⟩, hk⟩ => ⟨_, he, ⟨nb, rfl, hn⟩, hk⟩
              obtain ⟨bk2, bi2, S2, hR2⟩ := F.out.2.2.2.2
              have hR2' : Hid (R2 (w.heap.size + 3) (26 - d) W.drew (.slice a9 (lk.length + 1) c9) (.slice ai li.length ci) (lk ++ [t]) li bk2 bi2 S2) := hR2.keep (Nat.le_refl _) fun _ _ _ => rfl
              have S3d : Hid (RK C w W.drew r o ∧ Blk W.drew w.heap.size (Hd.arr ⟨pl, mj, lo, nn, cut⟩) 94 ∧ NBox W.drew (w.heap.size + 1) zN ∧ NBox W.drew (w.heap.size + 2) (nbM a9 (lk.length + 1) c9 ai li.length ci)) := ⟨F.out.1.drew, F.out.2.1, F.out.2.2.1, F.out.2.2.2.1⟩
              have hbl : Hid (bi2.length = li.length ∧ li.length ≤ 1024) := ⟨hR2.2.2.2.1, by have := hJ.out; omega⟩
              clear hR2 hIh hF4 hIR hbn' F
              go_region_law (first
                | (refine step_call2 (by rfl) 41 43 50 3 (by rfl) (by rfl) (by rfl) hcf kV.out ?_; rintro x w5 ⟨⟨b', hb', hn5⟩, hk5⟩; rw [Nb.arr] at hb'; subst hb'; have N5 : Hid (NdW (Rg W.drew.heap.size w5.heap.size) (26 - d) w5 b' u) := hn5; have K5 : Hid (RK C W.drew w5 s i) := hk5; have B5 : Hid (NBox w5 (w.heap.size + 2) (nbM a9 (lk.length + 1) c9 ai li.length ci)) := S3d.out.2.2.2.same (hk5.2.1.block _ S3d.out.2.2.2.lt (by have := hgl.out; omega)); have c85 : w5.cell? ⟨w.heap.size + 2, 8, none⟩ = some (.slice ai li.length ci) := B5.out.cell 8; have c8a : (w5.alloc (.cells #[.int .i64 b'.kind, .int .u64 b'.num, .bool b'.neg, .string b'.dig, .int .i64 b'.exp, .string b'.txt, .slice b'.ab b'.lb b'.cb, .slice b'.ak b'.lk b'.ck, .slice b'.ai b'.li b'.ci] 26)).cell? ⟨w.heap.size + 2, 8, none⟩ = some (.slice ai li.length ci) := (B5.out.kept (alloc_below _ _) B5.out.lt).cell 8; have O5 : Hid (OwnsN 26 w5 (w.heap.size + 3) (.slice ai li.length ci) bi2) := (hR2'.out.kq hk5.2.1 (by have := hgl.out; omega)).2.1; have l5 : Hid (w.heap.size + 3 ≤ w5.heap.size) := B5.out.lt; clear hn5 hk5)
                | (refine step_append_node (by rfl) _ _ (by rfl) (w.heap.size + 3) (.slice ai li.length ci) bi2 [b'] (by rfl) (World.ownsRow.kept (row := none) O5.out (⟨(alloc_below w5 _).os, (alloc_below w5 _).tape, (alloc_below w5 _).output, (alloc_below w5 _).size, fun k hk _ => (alloc_below w5 _).block k hk⟩) (by cases hv : (Value.slice ai li.length ci).ownBlock <;> simp)) ⟨w5.heap.size, 0, none⟩ 1 1 (by rfl) rfl (by decide) (nine1 w5 b') (by have := hbl.out; simp; omega) (Nat.le_trans l5.out (alloc_below w5 _).size) ?_; intro v6 w6 ho6 hg6 hn6; obtain ⟨a6, c6, rfl, e6, f6, F6⟩ := mkid_put S3d.out.1 S3d.out.2.1 S3d.out.2.2.1 S3d.out.2.2.2 hR2'.out K5.out N5.out (Nat.le_refl _) ho6 hg6 hn6; have F : Hid (∃ a' c', MS C w (w6.setCell ⟨w.heap.size + 2, 8, none⟩ (.slice a6 (li.length + 1) c6)) ⟨pl, mj, lo, nn, cut⟩ (26 - d) (lk ++ [t]) (li ++ [u]) a9 (lk.length + 1) c9 a' (li.length + 1) c' s i) := ⟨a6, c6, F6⟩; clear ho6 hg6 hn6 F6))
              all_goals
                have wl : IntKind.u64.wrap ((li.length : Int) + 1) = (li.length : Int) + 1 := by rw [IntKind.wrap_u64]; have := hJ.out; omega
                go_wp2_with fail
                go_roundw
                case rel =>
                  obtain ⟨a', c', hMS'⟩ := F.out
                  have hJ' := hJ.out
                  have hN' := hN1.out
                  have hN2' := hN2.out
                  exact ⟨li.length + 1, by go_num, j, s, i, lk ++ [t], li ++ [u], a9, lk.length + 1, c9, a', li.length + 1, c', hMS', by simp, by rw [List.length_append, List.length_singleton]; exact hR3.out, ⟨by omega, hN2'.2.2.2, hN2'.2.1, by omega, by rw [List.length_append, List.length_append, hJ'.2.2.2.2.1]; rfl, by rw [List.length_append, List.length_singleton]; omega⟩, fun v hv => by
                    rcases List.mem_append.1 hv with q | q
                    · exact hsz.out v q
                    · rw [List.mem_singleton.1 q]; exact hN'.2.2.2.2⟩
                case measure =>
                  obtain ⟨a', c', hMS'⟩ := F.out
                  rw [pAt_of hMS'.1.1]
                  have := hpA.out
                  have := hN1.out
                  have := hN2.out
                  omega
end Go.Proofs.YtnjbppfanmmifaaGreatDoor
namespace Go.Proofs.YtnjbppfanmmifaaGreatDoor
open Go.RowKit
set_option linter.unusedVariables false
theorem box2 {C : CX} {w : World} {q m : Nat} (h : RSt C w q m) (hd : Hd) : RK C w ((w.alloc (.cells hd.arr 94)).alloc (.cells zN.arr 26)) q m ∧ Blk ((w.alloc (.cells hd.arr 94)).alloc (.cells zN.arr 26)) w.heap.size hd.arr 94 ∧ NBox ((w.alloc (.cells hd.arr 94)).alloc (.cells zN.arr 26)) (w.heap.size + 1) zN ∧ ((w.alloc (.cells hd.arr 94)).alloc (.cells zN.arr 26)).heap.size = w.heap.size + 2 := by
  have s1 : (w.alloc (.cells hd.arr 94)).heap.size = w.heap.size + 1 := by simp
  have A1 := alloc_below (w.alloc (.cells hd.arr 94)) (.cells zN.arr 26)
  refine ⟨(h.rk.alloc _).alloc _, Blk.kept (blk_new w hd.arr 94) A1 (by omega), ?_, by simp⟩
  have := nbox_new (w.alloc (.cells hd.arr 94)) zN
  rw [s1] at this
  exact this
theorem RK.zbox {C : CX} {w W X : World} {p m q n : Nat} (h : RK C w W p m) (hZ : NBox W (w.heap.size + 1) zN) (hk : RK C W X q n) : NBox X (w.heap.size + 1) zN := hZ.same (hk.2.1.block _ hZ.lt (by have := h.2.2; omega))
theorem txt_room {n : Nat} (h : n < 18446744073709551616) : (txt n).size ≤ 140737488351232 := Nat.le_trans (rt_size (rt_txt (word_top (Nat.le_of_lt h)))).2 (by omega)
/-- Bytes that were read, as a node. -/
theorem byt_nd {B D : Nat} {w : World} {a : Option Addr} {c : Nat} {l : List Int} (h : OwnsB w B (.slice a l.length c) l) (hl : l.length ≤ 4096) : NdW (Rg B w.heap.size) (D + 1) w ⟨6, 0, false, ⟨#[]⟩, 0, ⟨#[]⟩, a, l.length, c, none, 0, 0, none, 0, 0⟩ (bytT l) := by
  have r0 : ∀ k, Room k none 0 0 := fun k => ⟨Nat.le_refl _, Nat.zero_le _, fun _ => rfl, by omega⟩
  obtain ⟨a', c', hv, h1, h2, h3, h4⟩ := h.shape
  simp at hv
  obtain ⟨rfl, rfl⟩ := hv
  refine ⟨⟨rfl, rfl, rfl, rfl, rfl, rfl⟩, ⟨rfl, rfl, rfl, by show (0 : Nat) ≤ _; omega, by show (0 : Nat) ≤ _; omega⟩, ⟨rfl, ⟨h2.1, h2.2, h1, by show l.length * 1 ≤ _; omega⟩, h3⟩, ⟨fun h0 => ?_, wn_zero _ _ _ _, wn_zero _ _ _ _⟩, ⟨rfl, r0 136, .inl rfl⟩, ⟨rfl, r0 136, .inl rfl⟩⟩
  obtain ⟨⟨_, hv⟩, _⟩ := h
  rcases hv with ⟨e, h⟩ | ⟨g, cap, cur, e, hb, hg, _⟩
  · exact absurd h0 (by show ¬ 0 < l.length; omega)
  · simp at e
    exact ⟨g, cur, e.1, ⟨hb, (Array.getElem?_eq_some_iff.1 hg).1⟩, hg⟩
theorem str_len (l : List Int) : (strOfNums l).size = l.length := by simp [strOfNums, ByteArray.size]
theorem oth_leaf {h : Hd} {t : Tr} (hn : h.n < 18446744073709551616) (e : othA h = .inr t) : t.bytes = [] ∧ Lf t ∧ (Lit.int .i64 t.kind).wf = true ∧ (Lit.int .u64 t.num).wf = true ∧ (Lit.int .i64 t.exp).wf = true ∧ t.dig.size ≤ 140737488351232 ∧ t.txt.size ≤ 140737488351232 := by
  have k : ∀ (a b : Int), (Lit.int .i64 a).wf = true → 0 ≤ b → b < 18446744073709551616 → kindT a b = t → t.bytes = [] ∧ Lf t ∧ (Lit.int .i64 t.kind).wf = true ∧ (Lit.int .u64 t.num).wf = true ∧ (Lit.int .i64 t.exp).wf = true ∧ t.dig.size ≤ 140737488351232 ∧ t.txt.size ≤ 140737488351232 := fun a b h1 h2 h3 h4 => by
    subst h4
    refine ⟨rfl, ⟨rfl, rfl⟩, h1, ?_, rfl, by show (0 : Nat) ≤ _; omega, by show (0 : Nat) ≤ _; omega⟩
    show (Lit.int .u64 b).wf = true
    simp [Lit.wf, show IntKind.u64.min = 0 from by decide, show IntKind.u64.max = 18446744073709551615 from by decide]
    omega
  unfold othA at e
  split at e
  · simp at e; exact k 1 0 rfl (by omega) (by omega) e
  split at e
  · simp at e; exact k 1 1 rfl (by omega) (by omega) e
  split at e
  · simp at e; exact k 0 0 rfl (by omega) (by omega) e
  split at e
  · have hw : 0 ≤ (widenA (h.n : Nat) (hwd h.lo : Nat)).1 ∧ (widenA (h.n : Nat) (hwd h.lo : Nat)).1 < 18446744073709551616 := by
      unfold widenA
      split
      · rename_i c; exact widen_room2 ⟨by omega, c.2⟩
      split
      · rename_i c; exact widen_room4 ⟨by omega, c.2⟩
      split
      · show (0 : Int) ≤ (h.n : Nat) ∧ ((h.n : Nat) : Int) < _; omega
      · show (0 : Int) ≤ 0 ∧ (0 : Int) < _; omega
    simp at e; exact k 4 _ rfl hw.1 hw.2 e
  split at e
  · cases e
  · simp at e; exact k 10 _ rfl (by omega) (by omega) e
set_option maxHeartbeats 4000000 in
set_option maxRecDepth 100000 in
theorem body_arr {C : CX} {w : World} {q m : Nat} (h : RSt C w q m) (pl : Nat) (lo : Int) (n : Nat) (cut : Bool) (d : Nat) (hd24 : d ≤ 24) {k : Nat} (ih : ArrAt C k) (hm : m ≤ 1024) (hq : q ≤ C.zs.length) (hk : 2 * (C.zs.length - q) + 2 ≤ k) : Calls Tryz.prog 86 #[.pointer (some ⟨C.g, 0, none⟩), .agg #[.int .i64 (pl : Nat), .int .u8 4, .int .u8 lo, .int .u64 (n : Nat), .bool cut], .int .i64 (d : Nat)] w fun x w' => ItmIs C w w' (27 - d) x (rcF k C.zs 1 (d + 1) q m (limA ⟨pl, 4, lo, n, cut⟩) [] []) := by
  have kA : Hid (∀ wx, RSt C wx q m → Calls Tryz.prog 127 #[.pointer (some ⟨C.g, 0, none⟩), .agg #[.int .i64 (pl : Nat), .int .u8 4, .int .u8 lo, .int .u64 (n : Nat), .bool cut], .int .i64 (d : Nat)] wx fun x w' => ItmIs C wx w' (27 - d) x (rcF k C.zs 1 (d + 1) q m (limA ⟨pl, 4, lo, n, cut⟩) [] [])) := fun wx hx => ih wx ⟨pl, 4, lo, n, cut⟩ d q m hx hm hd24 hq hk
  obtain ⟨K1', B1', Z1', S1'⟩ := box2 h ⟨pl, 4, lo, n, cut⟩
  have K1 : Hid (RK C w ((w.alloc (.cells #[.int .i64 (pl : Nat), .int .u8 4, .int .u8 lo, .int .u64 (n : Nat), .bool cut] 94)).alloc (.cells #[.int .i64 0, .int .u64 0, .bool false, .string ⟨#[]⟩, .int .i64 0, .string ⟨#[]⟩, .slice none 0 0, .slice none 0 0, .slice none 0 0] 26)) q m) := K1'
  have Z1 : Hid (NBox ((w.alloc (.cells #[.int .i64 (pl : Nat), .int .u8 4, .int .u8 lo, .int .u64 (n : Nat), .bool cut] 94)).alloc (.cells #[.int .i64 0, .int .u64 0, .bool false, .string ⟨#[]⟩, .int .i64 0, .string ⟨#[]⟩, .slice none 0 0, .slice none 0 0, .slice none 0 0] 26)) (w.heap.size + 1) zN) := Z1'
  have S1 : Hid (((w.alloc (.cells #[.int .i64 (pl : Nat), .int .u8 4, .int .u8 lo, .int .u64 (n : Nat), .bool cut] 94)).alloc (.cells #[.int .i64 0, .int .u64 0, .bool false, .string ⟨#[]⟩, .int .i64 0, .string ⟨#[]⟩, .slice none 0 0, .slice none 0 0, .slice none 0 0] 26)).heap.size = w.heap.size + 2) := S1'
  obtain ⟨⟨y0, y1, y2, y3, y4, y5, y6, y7, y8⟩, t0, t1, t2, t3, t4, t5, t6, t7, t8⟩ := zbox Z1'
  have c0 : ((w.alloc (.cells #[.int .i64 (pl : Nat), .int .u8 4, .int .u8 lo, .int .u64 (n : Nat), .bool cut] 94)).alloc (.cells #[.int .i64 0, .int .u64 0, .bool false, .string ⟨#[]⟩, .int .i64 0, .string ⟨#[]⟩, .slice none 0 0, .slice none 0 0, .slice none 0 0] 26)).cell? ⟨w.heap.size, 0, none⟩ = some (.int .i64 (pl : Nat)) := B1'.cell 0
  have c1 : ((w.alloc (.cells #[.int .i64 (pl : Nat), .int .u8 4, .int .u8 lo, .int .u64 (n : Nat), .bool cut] 94)).alloc (.cells #[.int .i64 0, .int .u64 0, .bool false, .string ⟨#[]⟩, .int .i64 0, .string ⟨#[]⟩, .slice none 0 0, .slice none 0 0, .slice none 0 0] 26)).cell? ⟨w.heap.size, 1, none⟩ = some (.int .u8 4) := B1'.cell 1
  have c2 : ((w.alloc (.cells #[.int .i64 (pl : Nat), .int .u8 4, .int .u8 lo, .int .u64 (n : Nat), .bool cut] 94)).alloc (.cells #[.int .i64 0, .int .u64 0, .bool false, .string ⟨#[]⟩, .int .i64 0, .string ⟨#[]⟩, .slice none 0 0, .slice none 0 0, .slice none 0 0] 26)).cell? ⟨w.heap.size, 2, none⟩ = some (.int .u8 lo) := B1'.cell 2
  have c3 : ((w.alloc (.cells #[.int .i64 (pl : Nat), .int .u8 4, .int .u8 lo, .int .u64 (n : Nat), .bool cut] 94)).alloc (.cells #[.int .i64 0, .int .u64 0, .bool false, .string ⟨#[]⟩, .int .i64 0, .string ⟨#[]⟩, .slice none 0 0, .slice none 0 0, .slice none 0 0] 26)).cell? ⟨w.heap.size, 3, none⟩ = some (.int .u64 (n : Nat)) := B1'.cell 3
  have c4 : ((w.alloc (.cells #[.int .i64 (pl : Nat), .int .u8 4, .int .u8 lo, .int .u64 (n : Nat), .bool cut] 94)).alloc (.cells #[.int .i64 0, .int .u64 0, .bool false, .string ⟨#[]⟩, .int .i64 0, .string ⟨#[]⟩, .slice none 0 0, .slice none 0 0, .slice none 0 0] 26)).cell? ⟨w.heap.size, 4, none⟩ = some (.bool cut) := B1'.cell 4
  unfold Hd.arr zN Nb.arr at y0 y1 y2 y3 y4 y5 y6 y7 y8 t0 t1 t2 t3 t4 t5 t6 t7 t8
  simp only at y0 y1 y2 y3 y4 y5 y6 y7 y8 t0 t1 t2 t3 t4 t5 t6 t7 t8
  clear K1' B1' Z1' S1'
  generalize (rcF k C.zs 1 (d + 1) q m (limA ⟨pl, 4, lo, n, cut⟩) [] []) = R at *
  clear h
  cases R with
  | inl f =>
    unfold ItmIs at kA ⊢
    simp only at kA ⊢
    rw [pn_eq] at kA
    go_enter Tryz.func86, Tryz.ntmps86
    go_wp2_with (go_at_call 127; refine (kA.out _ K1.out.1).mono ?_; rintro e w3 ⟨rfl, hq3⟩)
    exact ⟨rfl, rfl, K1.out.2.1.next hq3⟩
  | inr tro =>
    obtain ⟨t, r, o⟩ := tro
    unfold ItmIs at kA
    simp only at kA
    go_enter Tryz.func86, Tryz.ntmps86
    go_wp2_with (go_at_call 127; refine (kA.out _ K1.out.1).mono ?_; rintro e w3 ⟨⟨nb, he3, hn3⟩, hk3⟩; rw [Nb.arr] at he3; subst he3; have F : Hid (GR 2 C w w3 r o (27 - d) nb t) := ⟨K1.out.next hk3, by rw [← S1.out]; exact hn3⟩; obtain ⟨⟨f0, f1, f2, f3, f4, f5, f6, f7, f8⟩, z0, z1, z2, z3, z4, z5, z6, z7, z8⟩ := zbox (K1.out.zbox Z1.out hk3); clear hn3 hk3)
    refine bodyPost_ret (v := .agg nb.arr) (by rw [Nb.arr]; simp [results, Tryz.results86, go_sem, *]) rfl ?_
    refine GR.out (b := 2) ?_
    repeat (first | with_reducible exact F.out | with_reducible refine GR.set ?_ (by omega) (by omega))
set_option maxHeartbeats 4000000 in
set_option maxRecDepth 100000 in
theorem body_map {C : CX} {w : World} {q m : Nat} (h : RSt C w q m) (pl : Nat) (lo : Int) (n : Nat) (cut : Bool) (d : Nat) (hd24 : d ≤ 24) {k : Nat} (ih : MapAt C k) (hm : m ≤ 1024) (hq : q ≤ C.zs.length) (hk : 2 * (C.zs.length - q) + 2 ≤ k) : Calls Tryz.prog 86 #[.pointer (some ⟨C.g, 0, none⟩), .agg #[.int .i64 (pl : Nat), .int .u8 5, .int .u8 lo, .int .u64 (n : Nat), .bool cut], .int .i64 (d : Nat)] w fun x w' => ItmIs C w w' (27 - d) x (rcF k C.zs 2 (d + 1) q m (limA ⟨pl, 5, lo, n, cut⟩) [] []) := by
  have kA : Hid (∀ wx, RSt C wx q m → Calls Tryz.prog 128 #[.pointer (some ⟨C.g, 0, none⟩), .agg #[.int .i64 (pl : Nat), .int .u8 5, .int .u8 lo, .int .u64 (n : Nat), .bool cut], .int .i64 (d : Nat)] wx fun x w' => ItmIs C wx w' (27 - d) x (rcF k C.zs 2 (d + 1) q m (limA ⟨pl, 5, lo, n, cut⟩) [] [])) := fun wx hx => ih wx ⟨pl, 5, lo, n, cut⟩ d q m hx hm hd24 hq hk
  obtain ⟨K1', B1', Z1', S1'⟩ := box2 h ⟨pl, 5, lo, n, cut⟩
  have K1 : Hid (RK C w ((w.alloc (.cells #[.int .i64 (pl : Nat), .int .u8 5, .int .u8 lo, .int .u64 (n : Nat), .bool cut] 94)).alloc (.cells #[.int .i64 0, .int .u64 0, .bool false, .string ⟨#[]⟩, .int .i64 0, .string ⟨#[]⟩, .slice none 0 0, .slice none 0 0, .slice none 0 0] 26)) q m) := K1'
  have Z1 : Hid (NBox ((w.alloc (.cells #[.int .i64 (pl : Nat), .int .u8 5, .int .u8 lo, .int .u64 (n : Nat), .bool cut] 94)).alloc (.cells #[.int .i64 0, .int .u64 0, .bool false, .string ⟨#[]⟩, .int .i64 0, .string ⟨#[]⟩, .slice none 0 0, .slice none 0 0, .slice none 0 0] 26)) (w.heap.size + 1) zN) := Z1'
  have S1 : Hid (((w.alloc (.cells #[.int .i64 (pl : Nat), .int .u8 5, .int .u8 lo, .int .u64 (n : Nat), .bool cut] 94)).alloc (.cells #[.int .i64 0, .int .u64 0, .bool false, .string ⟨#[]⟩, .int .i64 0, .string ⟨#[]⟩, .slice none 0 0, .slice none 0 0, .slice none 0 0] 26)).heap.size = w.heap.size + 2) := S1'
  obtain ⟨⟨y0, y1, y2, y3, y4, y5, y6, y7, y8⟩, t0, t1, t2, t3, t4, t5, t6, t7, t8⟩ := zbox Z1'
  have c0 : ((w.alloc (.cells #[.int .i64 (pl : Nat), .int .u8 5, .int .u8 lo, .int .u64 (n : Nat), .bool cut] 94)).alloc (.cells #[.int .i64 0, .int .u64 0, .bool false, .string ⟨#[]⟩, .int .i64 0, .string ⟨#[]⟩, .slice none 0 0, .slice none 0 0, .slice none 0 0] 26)).cell? ⟨w.heap.size, 0, none⟩ = some (.int .i64 (pl : Nat)) := B1'.cell 0
  have c1 : ((w.alloc (.cells #[.int .i64 (pl : Nat), .int .u8 5, .int .u8 lo, .int .u64 (n : Nat), .bool cut] 94)).alloc (.cells #[.int .i64 0, .int .u64 0, .bool false, .string ⟨#[]⟩, .int .i64 0, .string ⟨#[]⟩, .slice none 0 0, .slice none 0 0, .slice none 0 0] 26)).cell? ⟨w.heap.size, 1, none⟩ = some (.int .u8 5) := B1'.cell 1
  have c2 : ((w.alloc (.cells #[.int .i64 (pl : Nat), .int .u8 5, .int .u8 lo, .int .u64 (n : Nat), .bool cut] 94)).alloc (.cells #[.int .i64 0, .int .u64 0, .bool false, .string ⟨#[]⟩, .int .i64 0, .string ⟨#[]⟩, .slice none 0 0, .slice none 0 0, .slice none 0 0] 26)).cell? ⟨w.heap.size, 2, none⟩ = some (.int .u8 lo) := B1'.cell 2
  have c3 : ((w.alloc (.cells #[.int .i64 (pl : Nat), .int .u8 5, .int .u8 lo, .int .u64 (n : Nat), .bool cut] 94)).alloc (.cells #[.int .i64 0, .int .u64 0, .bool false, .string ⟨#[]⟩, .int .i64 0, .string ⟨#[]⟩, .slice none 0 0, .slice none 0 0, .slice none 0 0] 26)).cell? ⟨w.heap.size, 3, none⟩ = some (.int .u64 (n : Nat)) := B1'.cell 3
  have c4 : ((w.alloc (.cells #[.int .i64 (pl : Nat), .int .u8 5, .int .u8 lo, .int .u64 (n : Nat), .bool cut] 94)).alloc (.cells #[.int .i64 0, .int .u64 0, .bool false, .string ⟨#[]⟩, .int .i64 0, .string ⟨#[]⟩, .slice none 0 0, .slice none 0 0, .slice none 0 0] 26)).cell? ⟨w.heap.size, 4, none⟩ = some (.bool cut) := B1'.cell 4
  unfold Hd.arr zN Nb.arr at y0 y1 y2 y3 y4 y5 y6 y7 y8 t0 t1 t2 t3 t4 t5 t6 t7 t8
  simp only at y0 y1 y2 y3 y4 y5 y6 y7 y8 t0 t1 t2 t3 t4 t5 t6 t7 t8
  clear K1' B1' Z1' S1'
  generalize (rcF k C.zs 2 (d + 1) q m (limA ⟨pl, 5, lo, n, cut⟩) [] []) = R at *
  clear h
  cases R with
  | inl f =>
    unfold ItmIs at kA ⊢
    simp only at kA ⊢
    rw [pn_eq] at kA
    go_enter Tryz.func86, Tryz.ntmps86
    go_wp2_with (go_at_call 128; refine (kA.out _ K1.out.1).mono ?_; rintro e w3 ⟨rfl, hq3⟩)
    exact ⟨rfl, rfl, K1.out.2.1.next hq3⟩
  | inr tro =>
    obtain ⟨t, r, o⟩ := tro
    unfold ItmIs at kA
    simp only at kA
    go_enter Tryz.func86, Tryz.ntmps86
    go_wp2_with (go_at_call 128; refine (kA.out _ K1.out.1).mono ?_; rintro e w3 ⟨⟨nb, he3, hn3⟩, hk3⟩; rw [Nb.arr] at he3; subst he3; have F : Hid (GR 2 C w w3 r o (27 - d) nb t) := ⟨K1.out.next hk3, by rw [← S1.out]; exact hn3⟩; obtain ⟨⟨f0, f1, f2, f3, f4, f5, f6, f7, f8⟩, z0, z1, z2, z3, z4, z5, z6, z7, z8⟩ := zbox (K1.out.zbox Z1.out hk3); clear hn3 hk3)
    refine bodyPost_ret (v := .agg nb.arr) (by rw [Nb.arr]; simp [results, Tryz.results86, go_sem, *]) rfl ?_
    refine GR.out (b := 2) ?_
    repeat (first | with_reducible exact F.out | with_reducible refine GR.set ?_ (by omega) (by omega))
set_option maxHeartbeats 4000000 in
set_option maxRecDepth 100000 in
theorem body_tag {C : CX} {w : World} {q m : Nat} (h : RSt C w q m) (pl : Nat) (lo : Int) (n : Nat) (cut : Bool) (d : Nat) (hd24 : d ≤ 24) {k : Nat} (ih : TagAt C k) (hn : n < 18446744073709551616) (hm : m ≤ 1024) (hq : q ≤ C.zs.length) (hk : 2 * (C.zs.length - q) + 1 ≤ k) : Calls Tryz.prog 86 #[.pointer (some ⟨C.g, 0, none⟩), .agg #[.int .i64 (pl : Nat), .int .u8 6, .int .u8 lo, .int .u64 (n : Nat), .bool cut], .int .i64 (d : Nat)] w fun x w' => ItmIs C w w' (27 - d) x (tagR ⟨pl, 6, lo, n, cut⟩ (rcF k C.zs 0 (d + 1) q m none [] [])) := by
  have kA : Hid (∀ wx, RSt C wx q m → Calls Tryz.prog 129 #[.pointer (some ⟨C.g, 0, none⟩), .agg #[.int .i64 (pl : Nat), .int .u8 6, .int .u8 lo, .int .u64 (n : Nat), .bool cut], .int .i64 (d : Nat)] wx fun x w' => ItmIs C wx w' (27 - d) x (tagR ⟨pl, 6, lo, n, cut⟩ (rcF k C.zs 0 (d + 1) q m none [] []))) := fun wx hx => ih wx ⟨pl, 6, lo, n, cut⟩ d q m hx hn hm hd24 hq hk
  obtain ⟨K1', B1', Z1', S1'⟩ := box2 h ⟨pl, 6, lo, n, cut⟩
  have K1 : Hid (RK C w ((w.alloc (.cells #[.int .i64 (pl : Nat), .int .u8 6, .int .u8 lo, .int .u64 (n : Nat), .bool cut] 94)).alloc (.cells #[.int .i64 0, .int .u64 0, .bool false, .string ⟨#[]⟩, .int .i64 0, .string ⟨#[]⟩, .slice none 0 0, .slice none 0 0, .slice none 0 0] 26)) q m) := K1'
  have Z1 : Hid (NBox ((w.alloc (.cells #[.int .i64 (pl : Nat), .int .u8 6, .int .u8 lo, .int .u64 (n : Nat), .bool cut] 94)).alloc (.cells #[.int .i64 0, .int .u64 0, .bool false, .string ⟨#[]⟩, .int .i64 0, .string ⟨#[]⟩, .slice none 0 0, .slice none 0 0, .slice none 0 0] 26)) (w.heap.size + 1) zN) := Z1'
  have S1 : Hid (((w.alloc (.cells #[.int .i64 (pl : Nat), .int .u8 6, .int .u8 lo, .int .u64 (n : Nat), .bool cut] 94)).alloc (.cells #[.int .i64 0, .int .u64 0, .bool false, .string ⟨#[]⟩, .int .i64 0, .string ⟨#[]⟩, .slice none 0 0, .slice none 0 0, .slice none 0 0] 26)).heap.size = w.heap.size + 2) := S1'
  obtain ⟨⟨y0, y1, y2, y3, y4, y5, y6, y7, y8⟩, t0, t1, t2, t3, t4, t5, t6, t7, t8⟩ := zbox Z1'
  have c0 : ((w.alloc (.cells #[.int .i64 (pl : Nat), .int .u8 6, .int .u8 lo, .int .u64 (n : Nat), .bool cut] 94)).alloc (.cells #[.int .i64 0, .int .u64 0, .bool false, .string ⟨#[]⟩, .int .i64 0, .string ⟨#[]⟩, .slice none 0 0, .slice none 0 0, .slice none 0 0] 26)).cell? ⟨w.heap.size, 0, none⟩ = some (.int .i64 (pl : Nat)) := B1'.cell 0
  have c1 : ((w.alloc (.cells #[.int .i64 (pl : Nat), .int .u8 6, .int .u8 lo, .int .u64 (n : Nat), .bool cut] 94)).alloc (.cells #[.int .i64 0, .int .u64 0, .bool false, .string ⟨#[]⟩, .int .i64 0, .string ⟨#[]⟩, .slice none 0 0, .slice none 0 0, .slice none 0 0] 26)).cell? ⟨w.heap.size, 1, none⟩ = some (.int .u8 6) := B1'.cell 1
  have c2 : ((w.alloc (.cells #[.int .i64 (pl : Nat), .int .u8 6, .int .u8 lo, .int .u64 (n : Nat), .bool cut] 94)).alloc (.cells #[.int .i64 0, .int .u64 0, .bool false, .string ⟨#[]⟩, .int .i64 0, .string ⟨#[]⟩, .slice none 0 0, .slice none 0 0, .slice none 0 0] 26)).cell? ⟨w.heap.size, 2, none⟩ = some (.int .u8 lo) := B1'.cell 2
  have c3 : ((w.alloc (.cells #[.int .i64 (pl : Nat), .int .u8 6, .int .u8 lo, .int .u64 (n : Nat), .bool cut] 94)).alloc (.cells #[.int .i64 0, .int .u64 0, .bool false, .string ⟨#[]⟩, .int .i64 0, .string ⟨#[]⟩, .slice none 0 0, .slice none 0 0, .slice none 0 0] 26)).cell? ⟨w.heap.size, 3, none⟩ = some (.int .u64 (n : Nat)) := B1'.cell 3
  have c4 : ((w.alloc (.cells #[.int .i64 (pl : Nat), .int .u8 6, .int .u8 lo, .int .u64 (n : Nat), .bool cut] 94)).alloc (.cells #[.int .i64 0, .int .u64 0, .bool false, .string ⟨#[]⟩, .int .i64 0, .string ⟨#[]⟩, .slice none 0 0, .slice none 0 0, .slice none 0 0] 26)).cell? ⟨w.heap.size, 4, none⟩ = some (.bool cut) := B1'.cell 4
  unfold Hd.arr zN Nb.arr at y0 y1 y2 y3 y4 y5 y6 y7 y8 t0 t1 t2 t3 t4 t5 t6 t7 t8
  simp only at y0 y1 y2 y3 y4 y5 y6 y7 y8 t0 t1 t2 t3 t4 t5 t6 t7 t8
  clear K1' B1' Z1' S1'
  generalize (tagR ⟨pl, 6, lo, n, cut⟩ (rcF k C.zs 0 (d + 1) q m none [] [])) = R at *
  clear h
  cases R with
  | inl f =>
    unfold ItmIs at kA ⊢
    simp only at kA ⊢
    rw [pn_eq] at kA
    go_enter Tryz.func86, Tryz.ntmps86
    go_wp2_with (go_at_call 129; refine (kA.out _ K1.out.1).mono ?_; rintro e w3 ⟨rfl, hq3⟩)
    exact ⟨rfl, rfl, K1.out.2.1.next hq3⟩
  | inr tro =>
    obtain ⟨t, r, o⟩ := tro
    unfold ItmIs at kA
    simp only at kA
    go_enter Tryz.func86, Tryz.ntmps86
    go_wp2_with (go_at_call 129; refine (kA.out _ K1.out.1).mono ?_; rintro e w3 ⟨⟨nb, he3, hn3⟩, hk3⟩; rw [Nb.arr] at he3; subst he3; have F : Hid (GR 2 C w w3 r o (27 - d) nb t) := ⟨K1.out.next hk3, by rw [← S1.out]; exact hn3⟩; obtain ⟨⟨f0, f1, f2, f3, f4, f5, f6, f7, f8⟩, z0, z1, z2, z3, z4, z5, z6, z7, z8⟩ := zbox (K1.out.zbox Z1.out hk3); clear hn3 hk3)
    refine bodyPost_ret (v := .agg nb.arr) (by rw [Nb.arr]; simp [results, Tryz.results86, go_sem, *]) rfl ?_
    refine GR.out (b := 2) ?_
    repeat (first | with_reducible exact F.out | with_reducible refine GR.set ?_ (by omega) (by omega))
set_option maxHeartbeats 4000000 in
set_option maxRecDepth 100000 in
theorem body_oth {C : CX} {w : World} {q m : Nat} (h : RSt C w q m) (pl : Nat) (lo : Int) (n : Nat) (cut : Bool) (d : Nat) (hd24 : d ≤ 24) (hn : n < 18446744073709551616) (hpl : pl ≤ 4096) : Calls Tryz.prog 86 #[.pointer (some ⟨C.g, 0, none⟩), .agg #[.int .i64 (pl : Nat), .int .u8 7, .int .u8 lo, .int .u64 (n : Nat), .bool cut], .int .i64 (d : Nat)] w fun x w' => ItmIs C w w' (27 - d) x (match othA ⟨pl, 7, lo, n, cut⟩ with | .inl e => .inl e | .inr t => .inr (t, q, m)) := by
  have kA : Hid (∀ wx, Calls Tryz.prog 130 #[.pointer (some ⟨C.g, 0, none⟩), .agg #[.int .i64 (pl : Nat), .int .u8 7, .int .u8 lo, .int .u64 (n : Nat), .bool cut]] wx fun x w' => OthIs wx w' x (othA ⟨pl, 7, lo, n, cut⟩)) := fun wx => cother_any C ⟨pl, 7, lo, n, cut⟩ hpl hn wx
  obtain ⟨K1', B1', Z1', S1'⟩ := box2 h ⟨pl, 7, lo, n, cut⟩
  have K1 : Hid (RK C w ((w.alloc (.cells #[.int .i64 (pl : Nat), .int .u8 7, .int .u8 lo, .int .u64 (n : Nat), .bool cut] 94)).alloc (.cells #[.int .i64 0, .int .u64 0, .bool false, .string ⟨#[]⟩, .int .i64 0, .string ⟨#[]⟩, .slice none 0 0, .slice none 0 0, .slice none 0 0] 26)) q m) := K1'
  have Z1 : Hid (NBox ((w.alloc (.cells #[.int .i64 (pl : Nat), .int .u8 7, .int .u8 lo, .int .u64 (n : Nat), .bool cut] 94)).alloc (.cells #[.int .i64 0, .int .u64 0, .bool false, .string ⟨#[]⟩, .int .i64 0, .string ⟨#[]⟩, .slice none 0 0, .slice none 0 0, .slice none 0 0] 26)) (w.heap.size + 1) zN) := Z1'
  have S1 : Hid (((w.alloc (.cells #[.int .i64 (pl : Nat), .int .u8 7, .int .u8 lo, .int .u64 (n : Nat), .bool cut] 94)).alloc (.cells #[.int .i64 0, .int .u64 0, .bool false, .string ⟨#[]⟩, .int .i64 0, .string ⟨#[]⟩, .slice none 0 0, .slice none 0 0, .slice none 0 0] 26)).heap.size = w.heap.size + 2) := S1'
  obtain ⟨⟨y0, y1, y2, y3, y4, y5, y6, y7, y8⟩, t0, t1, t2, t3, t4, t5, t6, t7, t8⟩ := zbox Z1'
  have c0 : ((w.alloc (.cells #[.int .i64 (pl : Nat), .int .u8 7, .int .u8 lo, .int .u64 (n : Nat), .bool cut] 94)).alloc (.cells #[.int .i64 0, .int .u64 0, .bool false, .string ⟨#[]⟩, .int .i64 0, .string ⟨#[]⟩, .slice none 0 0, .slice none 0 0, .slice none 0 0] 26)).cell? ⟨w.heap.size, 0, none⟩ = some (.int .i64 (pl : Nat)) := B1'.cell 0
  have c1 : ((w.alloc (.cells #[.int .i64 (pl : Nat), .int .u8 7, .int .u8 lo, .int .u64 (n : Nat), .bool cut] 94)).alloc (.cells #[.int .i64 0, .int .u64 0, .bool false, .string ⟨#[]⟩, .int .i64 0, .string ⟨#[]⟩, .slice none 0 0, .slice none 0 0, .slice none 0 0] 26)).cell? ⟨w.heap.size, 1, none⟩ = some (.int .u8 7) := B1'.cell 1
  have c2 : ((w.alloc (.cells #[.int .i64 (pl : Nat), .int .u8 7, .int .u8 lo, .int .u64 (n : Nat), .bool cut] 94)).alloc (.cells #[.int .i64 0, .int .u64 0, .bool false, .string ⟨#[]⟩, .int .i64 0, .string ⟨#[]⟩, .slice none 0 0, .slice none 0 0, .slice none 0 0] 26)).cell? ⟨w.heap.size, 2, none⟩ = some (.int .u8 lo) := B1'.cell 2
  have c3 : ((w.alloc (.cells #[.int .i64 (pl : Nat), .int .u8 7, .int .u8 lo, .int .u64 (n : Nat), .bool cut] 94)).alloc (.cells #[.int .i64 0, .int .u64 0, .bool false, .string ⟨#[]⟩, .int .i64 0, .string ⟨#[]⟩, .slice none 0 0, .slice none 0 0, .slice none 0 0] 26)).cell? ⟨w.heap.size, 3, none⟩ = some (.int .u64 (n : Nat)) := B1'.cell 3
  have c4 : ((w.alloc (.cells #[.int .i64 (pl : Nat), .int .u8 7, .int .u8 lo, .int .u64 (n : Nat), .bool cut] 94)).alloc (.cells #[.int .i64 0, .int .u64 0, .bool false, .string ⟨#[]⟩, .int .i64 0, .string ⟨#[]⟩, .slice none 0 0, .slice none 0 0, .slice none 0 0] 26)).cell? ⟨w.heap.size, 4, none⟩ = some (.bool cut) := B1'.cell 4
  unfold Hd.arr zN Nb.arr at y0 y1 y2 y3 y4 y5 y6 y7 y8 t0 t1 t2 t3 t4 t5 t6 t7 t8
  simp only at y0 y1 y2 y3 y4 y5 y6 y7 y8 t0 t1 t2 t3 t4 t5 t6 t7 t8
  clear K1' B1' Z1' S1'
  have hL := @oth_leaf ⟨pl, 7, lo, n, cut⟩
  obtain ⟨D, hD⟩ : ∃ D, d + D = 26 := ⟨26 - d, by omega⟩
  rw [show 27 - d = D + 1 by omega]
  generalize othA ⟨pl, 7, lo, n, cut⟩ = R at *
  unfold OthIs at kA
  cases R with
  | inl f =>
    unfold ItmIs
    simp only at kA ⊢
    rw [pn_eq] at kA
    clear h hL
    go_enter Tryz.func86, Tryz.ntmps86
    go_wp2_with (go_at_call 130; refine (kA.out _).mono ?_; rintro e w3 ⟨rfl, hb3⟩)
    exact ⟨rfl, rfl, (K1.out.below hb3).2.1⟩
  | inr t =>
    obtain ⟨l1, l2, l3, l4, l5, l6, l7⟩ := hL hn rfl
    have F0 : Hid (∀ X, RK C w X q m → GR 2 C w X q m (D + 1) (nbL t) t) := fun X hX => ⟨hX, ndw_leaf _ _ X l1 l2 l3 l4 l5 l6 l7⟩
    simp only at kA ⊢
    unfold nbL Nb.arr at kA
    clear h hL l1 l2 l3 l4 l5 l6 l7
    go_enter Tryz.func86, Tryz.ntmps86
    go_wp2_with (go_at_call 130; refine (kA.out _).mono ?_; rintro e w3 ⟨rfl, hb3⟩; have K3 : Hid (RK C w w3 q m) := K1.out.below hb3; obtain ⟨⟨f0, f1, f2, f3, f4, f5, f6, f7, f8⟩, z0, z1, z2, z3, z4, z5, z6, z7, z8⟩ := zbox (Z1.out.kept hb3 Z1.out.lt); clear hb3)
    refine bodyPost_ret (v := .agg (nbL t).arr) (by unfold nbL Nb.arr; simp [results, Tryz.results86, go_sem, *]) rfl ?_
    refine GR.out (b := 2) (F0.out _ ?_)
    repeat (first | with_reducible exact K3.out | with_reducible refine RK.set ?_ (by omega))
set_option maxHeartbeats 4000000 in
set_option maxRecDepth 100000 in
theorem body_int {C : CX} {w : World} {q m : Nat} (h : RSt C w q m) (pl : Nat) (lo : Int) (n : Nat) (cut : Bool) (d : Nat) (hd24 : d ≤ 24) (hn : n < 18446744073709551616) : Calls Tryz.prog 86 #[.pointer (some ⟨C.g, 0, none⟩), .agg #[.int .i64 (pl : Nat), .int .u8 0, .int .u8 lo, .int .u64 (n : Nat), .bool cut], .int .i64 (d : Nat)] w fun x w' => ItmIs C w w' (27 - d) x (.inr (intT false (txt n), q, m)) := by
  have kA : Hid (∀ wx, RSt C wx q m → Calls Tryz.prog 124 #[.int .u64 (n : Nat)] wx fun e w' => e = .returned (.string (txt n)) ∧ Below wx.heap.size wx w') := fun wx hx => frw_any n hn wx hx.lw.1.here
  obtain ⟨K1', B1', Z1', S1'⟩ := box2 h ⟨pl, 0, lo, n, cut⟩
  have K1 : Hid (RK C w ((w.alloc (.cells #[.int .i64 (pl : Nat), .int .u8 0, .int .u8 lo, .int .u64 (n : Nat), .bool cut] 94)).alloc (.cells #[.int .i64 0, .int .u64 0, .bool false, .string ⟨#[]⟩, .int .i64 0, .string ⟨#[]⟩, .slice none 0 0, .slice none 0 0, .slice none 0 0] 26)) q m) := K1'
  have Z1 : Hid (NBox ((w.alloc (.cells #[.int .i64 (pl : Nat), .int .u8 0, .int .u8 lo, .int .u64 (n : Nat), .bool cut] 94)).alloc (.cells #[.int .i64 0, .int .u64 0, .bool false, .string ⟨#[]⟩, .int .i64 0, .string ⟨#[]⟩, .slice none 0 0, .slice none 0 0, .slice none 0 0] 26)) (w.heap.size + 1) zN) := Z1'
  have S1 : Hid (((w.alloc (.cells #[.int .i64 (pl : Nat), .int .u8 0, .int .u8 lo, .int .u64 (n : Nat), .bool cut] 94)).alloc (.cells #[.int .i64 0, .int .u64 0, .bool false, .string ⟨#[]⟩, .int .i64 0, .string ⟨#[]⟩, .slice none 0 0, .slice none 0 0, .slice none 0 0] 26)).heap.size = w.heap.size + 2) := S1'
  obtain ⟨⟨y0, y1, y2, y3, y4, y5, y6, y7, y8⟩, t0, t1, t2, t3, t4, t5, t6, t7, t8⟩ := zbox Z1'
  have c0 : ((w.alloc (.cells #[.int .i64 (pl : Nat), .int .u8 0, .int .u8 lo, .int .u64 (n : Nat), .bool cut] 94)).alloc (.cells #[.int .i64 0, .int .u64 0, .bool false, .string ⟨#[]⟩, .int .i64 0, .string ⟨#[]⟩, .slice none 0 0, .slice none 0 0, .slice none 0 0] 26)).cell? ⟨w.heap.size, 0, none⟩ = some (.int .i64 (pl : Nat)) := B1'.cell 0
  have c1 : ((w.alloc (.cells #[.int .i64 (pl : Nat), .int .u8 0, .int .u8 lo, .int .u64 (n : Nat), .bool cut] 94)).alloc (.cells #[.int .i64 0, .int .u64 0, .bool false, .string ⟨#[]⟩, .int .i64 0, .string ⟨#[]⟩, .slice none 0 0, .slice none 0 0, .slice none 0 0] 26)).cell? ⟨w.heap.size, 1, none⟩ = some (.int .u8 0) := B1'.cell 1
  have c2 : ((w.alloc (.cells #[.int .i64 (pl : Nat), .int .u8 0, .int .u8 lo, .int .u64 (n : Nat), .bool cut] 94)).alloc (.cells #[.int .i64 0, .int .u64 0, .bool false, .string ⟨#[]⟩, .int .i64 0, .string ⟨#[]⟩, .slice none 0 0, .slice none 0 0, .slice none 0 0] 26)).cell? ⟨w.heap.size, 2, none⟩ = some (.int .u8 lo) := B1'.cell 2
  have c3 : ((w.alloc (.cells #[.int .i64 (pl : Nat), .int .u8 0, .int .u8 lo, .int .u64 (n : Nat), .bool cut] 94)).alloc (.cells #[.int .i64 0, .int .u64 0, .bool false, .string ⟨#[]⟩, .int .i64 0, .string ⟨#[]⟩, .slice none 0 0, .slice none 0 0, .slice none 0 0] 26)).cell? ⟨w.heap.size, 3, none⟩ = some (.int .u64 (n : Nat)) := B1'.cell 3
  have c4 : ((w.alloc (.cells #[.int .i64 (pl : Nat), .int .u8 0, .int .u8 lo, .int .u64 (n : Nat), .bool cut] 94)).alloc (.cells #[.int .i64 0, .int .u64 0, .bool false, .string ⟨#[]⟩, .int .i64 0, .string ⟨#[]⟩, .slice none 0 0, .slice none 0 0, .slice none 0 0] 26)).cell? ⟨w.heap.size, 4, none⟩ = some (.bool cut) := B1'.cell 4
  unfold Hd.arr zN Nb.arr at y0 y1 y2 y3 y4 y5 y6 y7 y8 t0 t1 t2 t3 t4 t5 t6 t7 t8
  simp only at y0 y1 y2 y3 y4 y5 y6 y7 y8 t0 t1 t2 t3 t4 t5 t6 t7 t8
  clear K1' B1' Z1' S1'
  obtain ⟨D, hD⟩ : ∃ D, d + D = 26 := ⟨26 - d, by omega⟩
  rw [show 27 - d = D + 1 by omega]
  have hs := txt_room hn
  generalize txt n = T at *
  have F0 : Hid (∀ X, RK C w X q m → GR 2 C w X q m (D + 1) (nbL (intT false T)) (intT false T)) := fun X hX => ⟨hX, ndw_leaf _ _ X (t := intT false T) rfl ⟨rfl, rfl⟩ rfl rfl rfl hs (by show (0 : Nat) ≤ _; omega)⟩
  clear h hs
  go_enter Tryz.func86, Tryz.ntmps86
  go_wp2_with (go_at_call 124; refine (kA.out _ K1.out.1).mono ?_; rintro e w3 ⟨rfl, hb3⟩; have K3 : Hid (RK C w w3 q m) := K1.out.below hb3; obtain ⟨⟨f0, f1, f2, f3, f4, f5, f6, f7, f8⟩, z0, z1, z2, z3, z4, z5, z6, z7, z8⟩ := zbox (Z1.out.kept hb3 Z1.out.lt); clear hb3)
  refine bodyPost_ret (v := .agg (nbL (intT false T)).arr) (by unfold nbL Nb.arr intT; simp [results, Tryz.results86, go_sem, *]) rfl ?_
  refine GR.out (b := 2) (F0.out _ ?_)
  repeat (first | with_reducible exact K3.out | with_reducible refine RK.set ?_ (by omega))
set_option maxHeartbeats 4000000 in
set_option maxRecDepth 100000 in
theorem body_neg {C : CX} {w : World} {q m : Nat} (h : RSt C w q m) (pl : Nat) (lo : Int) (n : Nat) (cut : Bool) (d : Nat) (hd24 : d ≤ 24) (hn : n < 18446744073709551616) : Calls Tryz.prog 86 #[.pointer (some ⟨C.g, 0, none⟩), .agg #[.int .i64 (pl : Nat), .int .u8 1, .int .u8 lo, .int .u64 (n : Nat), .bool cut], .int .i64 (d : Nat)] w fun x w' => ItmIs C w w' (27 - d) x (.inr ((belA (txt n)).1, q, m)) := by
  have kA : Hid (∀ wx, RSt C wx q m → Calls Tryz.prog 124 #[.int .u64 (n : Nat)] wx fun e w' => e = .returned (.string (txt n)) ∧ Below wx.heap.size wx w') := fun wx hx => frw_any n hn wx hx.lw.1.here
  have kB : Hid (∀ wx, Calls Tryz.prog 125 #[.string (txt n)] wx fun e w' => e = .returned (.tuple #[.agg (nbL (intT true (addA (txt n) oneS).1)).arr, .int .i64 (belA (txt n)).2]) ∧ Below wx.heap.size wx w') := fun wx => cbelow_any (txt n) wx
  obtain ⟨K1', B1', Z1', S1'⟩ := box2 h ⟨pl, 1, lo, n, cut⟩
  have K1 : Hid (RK C w ((w.alloc (.cells #[.int .i64 (pl : Nat), .int .u8 1, .int .u8 lo, .int .u64 (n : Nat), .bool cut] 94)).alloc (.cells #[.int .i64 0, .int .u64 0, .bool false, .string ⟨#[]⟩, .int .i64 0, .string ⟨#[]⟩, .slice none 0 0, .slice none 0 0, .slice none 0 0] 26)) q m) := K1'
  have Z1 : Hid (NBox ((w.alloc (.cells #[.int .i64 (pl : Nat), .int .u8 1, .int .u8 lo, .int .u64 (n : Nat), .bool cut] 94)).alloc (.cells #[.int .i64 0, .int .u64 0, .bool false, .string ⟨#[]⟩, .int .i64 0, .string ⟨#[]⟩, .slice none 0 0, .slice none 0 0, .slice none 0 0] 26)) (w.heap.size + 1) zN) := Z1'
  have S1 : Hid (((w.alloc (.cells #[.int .i64 (pl : Nat), .int .u8 1, .int .u8 lo, .int .u64 (n : Nat), .bool cut] 94)).alloc (.cells #[.int .i64 0, .int .u64 0, .bool false, .string ⟨#[]⟩, .int .i64 0, .string ⟨#[]⟩, .slice none 0 0, .slice none 0 0, .slice none 0 0] 26)).heap.size = w.heap.size + 2) := S1'
  obtain ⟨⟨y0, y1, y2, y3, y4, y5, y6, y7, y8⟩, t0, t1, t2, t3, t4, t5, t6, t7, t8⟩ := zbox Z1'
  have c0 : ((w.alloc (.cells #[.int .i64 (pl : Nat), .int .u8 1, .int .u8 lo, .int .u64 (n : Nat), .bool cut] 94)).alloc (.cells #[.int .i64 0, .int .u64 0, .bool false, .string ⟨#[]⟩, .int .i64 0, .string ⟨#[]⟩, .slice none 0 0, .slice none 0 0, .slice none 0 0] 26)).cell? ⟨w.heap.size, 0, none⟩ = some (.int .i64 (pl : Nat)) := B1'.cell 0
  have c1 : ((w.alloc (.cells #[.int .i64 (pl : Nat), .int .u8 1, .int .u8 lo, .int .u64 (n : Nat), .bool cut] 94)).alloc (.cells #[.int .i64 0, .int .u64 0, .bool false, .string ⟨#[]⟩, .int .i64 0, .string ⟨#[]⟩, .slice none 0 0, .slice none 0 0, .slice none 0 0] 26)).cell? ⟨w.heap.size, 1, none⟩ = some (.int .u8 1) := B1'.cell 1
  have c2 : ((w.alloc (.cells #[.int .i64 (pl : Nat), .int .u8 1, .int .u8 lo, .int .u64 (n : Nat), .bool cut] 94)).alloc (.cells #[.int .i64 0, .int .u64 0, .bool false, .string ⟨#[]⟩, .int .i64 0, .string ⟨#[]⟩, .slice none 0 0, .slice none 0 0, .slice none 0 0] 26)).cell? ⟨w.heap.size, 2, none⟩ = some (.int .u8 lo) := B1'.cell 2
  have c3 : ((w.alloc (.cells #[.int .i64 (pl : Nat), .int .u8 1, .int .u8 lo, .int .u64 (n : Nat), .bool cut] 94)).alloc (.cells #[.int .i64 0, .int .u64 0, .bool false, .string ⟨#[]⟩, .int .i64 0, .string ⟨#[]⟩, .slice none 0 0, .slice none 0 0, .slice none 0 0] 26)).cell? ⟨w.heap.size, 3, none⟩ = some (.int .u64 (n : Nat)) := B1'.cell 3
  have c4 : ((w.alloc (.cells #[.int .i64 (pl : Nat), .int .u8 1, .int .u8 lo, .int .u64 (n : Nat), .bool cut] 94)).alloc (.cells #[.int .i64 0, .int .u64 0, .bool false, .string ⟨#[]⟩, .int .i64 0, .string ⟨#[]⟩, .slice none 0 0, .slice none 0 0, .slice none 0 0] 26)).cell? ⟨w.heap.size, 4, none⟩ = some (.bool cut) := B1'.cell 4
  unfold Hd.arr zN Nb.arr at y0 y1 y2 y3 y4 y5 y6 y7 y8 t0 t1 t2 t3 t4 t5 t6 t7 t8
  simp only at y0 y1 y2 y3 y4 y5 y6 y7 y8 t0 t1 t2 t3 t4 t5 t6 t7 t8
  clear K1' B1' Z1' S1'
  obtain ⟨D, hD⟩ : ∃ D, d + D = 26 := ⟨26 - d, by omega⟩
  rw [show 27 - d = D + 1 by omega, show (belA (txt n)).1 = intT true (addA (txt n) oneS).1 from rfl]
  have hs : (addA (txt n) oneS).1.size ≤ 140737488351232 := Nat.le_trans (bel_size (bel_word hn)) (by omega)
  generalize (addA (txt n) oneS).1 = T at *
  generalize (belA (txt n)).2 = yy at *
  generalize txt n = T0 at *
  have F0 : Hid (∀ X, RK C w X q m → GR 2 C w X q m (D + 1) (nbL (intT true T)) (intT true T)) := fun X hX => ⟨hX, ndw_leaf _ _ X (t := intT true T) rfl ⟨rfl, rfl⟩ rfl rfl rfl hs (by show (0 : Nat) ≤ _; omega)⟩
  unfold nbL Nb.arr intT at kB
  simp only at kB
  clear h hs
  go_enter Tryz.func86, Tryz.ntmps86
  go_wp2_with (first
    | (go_at_call 124; refine (kA.out _ K1.out.1).mono ?_; rintro e w3 ⟨rfl, hb3⟩; have K3 : Hid (RK C w w3 q m) := K1.out.below hb3; have Z3 : Hid (NBox w3 (w.heap.size + 1) zN) := Z1.out.kept hb3 Z1.out.lt; clear hb3)
    | (go_at_call 125; refine (kB.out _).mono ?_; rintro e w4 ⟨rfl, hb4⟩; have K4 : Hid (RK C w w4 q m) := K3.out.below hb4; have Z4' := Z3.out.kept hb4 Z3.out.lt; have l4 : w.heap.size + 1 < w4.heap.size := Z4'.lt; obtain ⟨⟨f0, f1, f2, f3, f4, f5, f6, f7, f8⟩, z0, z1, z2, z3, z4, z5, z6, z7, z8⟩ := zbox (Z4'); clear hb4 Z4'))
  refine bodyPost_ret (v := .agg (nbL (intT true T)).arr) (by unfold nbL Nb.arr intT; simp [results, Tryz.results86, go_sem, *]) rfl ?_
  refine GR.out (b := 2) (F0.out _ ?_)
  repeat (first | with_reducible exact K4.out | with_reducible refine RK.set ?_ (by omega) | with_reducible refine RK.alloc ?_ _)
set_option maxHeartbeats 4000000 in
set_option maxRecDepth 100000 in
theorem body_byt {C : CX} {w : World} {q m : Nat} (h : RSt C w q m) (pl : Nat) (lo : Int) (n : Nat) (cut : Bool) (d : Nat) (hd24 : d ≤ 24) (hn : n ≤ 4096) (hq : q ≤ C.zs.length) (h0 : 0 < C.zs.length) : Calls Tryz.prog 86 #[.pointer (some ⟨C.g, 0, none⟩), .agg #[.int .i64 (pl : Nat), .int .u8 2, .int .u8 lo, .int .u64 (n : Nat), .bool cut], .int .i64 (d : Nat)] w fun x w' => ItmIs C w w' (27 - d) x (match allA C.zs ⟨pl, 2, lo, n, cut⟩ q with | .inl e => .inl e | .inr (l, r) => .inr (bytT l, r, m)) := by
  have kA : Hid (∀ wx, RSt C wx q m → Calls Tryz.prog 126 #[.pointer (some ⟨C.g, 0, none⟩), .agg #[.int .i64 (pl : Nat), .int .u8 2, .int .u8 lo, .int .u64 (n : Nat), .bool cut]] wx fun x w' => AllIs C wx w' m x (allA C.zs ⟨pl, 2, lo, n, cut⟩ q)) := fun wx hx => call_any hx ⟨pl, 2, lo, n, cut⟩ hn hq h0
  obtain ⟨K1', B1', Z1', S1'⟩ := box2 h ⟨pl, 2, lo, n, cut⟩
  have K1 : Hid (RK C w ((w.alloc (.cells #[.int .i64 (pl : Nat), .int .u8 2, .int .u8 lo, .int .u64 (n : Nat), .bool cut] 94)).alloc (.cells #[.int .i64 0, .int .u64 0, .bool false, .string ⟨#[]⟩, .int .i64 0, .string ⟨#[]⟩, .slice none 0 0, .slice none 0 0, .slice none 0 0] 26)) q m) := K1'
  have Z1 : Hid (NBox ((w.alloc (.cells #[.int .i64 (pl : Nat), .int .u8 2, .int .u8 lo, .int .u64 (n : Nat), .bool cut] 94)).alloc (.cells #[.int .i64 0, .int .u64 0, .bool false, .string ⟨#[]⟩, .int .i64 0, .string ⟨#[]⟩, .slice none 0 0, .slice none 0 0, .slice none 0 0] 26)) (w.heap.size + 1) zN) := Z1'
  have S1 : Hid (((w.alloc (.cells #[.int .i64 (pl : Nat), .int .u8 2, .int .u8 lo, .int .u64 (n : Nat), .bool cut] 94)).alloc (.cells #[.int .i64 0, .int .u64 0, .bool false, .string ⟨#[]⟩, .int .i64 0, .string ⟨#[]⟩, .slice none 0 0, .slice none 0 0, .slice none 0 0] 26)).heap.size = w.heap.size + 2) := S1'
  obtain ⟨⟨y0, y1, y2, y3, y4, y5, y6, y7, y8⟩, t0, t1, t2, t3, t4, t5, t6, t7, t8⟩ := zbox Z1'
  have c0 : ((w.alloc (.cells #[.int .i64 (pl : Nat), .int .u8 2, .int .u8 lo, .int .u64 (n : Nat), .bool cut] 94)).alloc (.cells #[.int .i64 0, .int .u64 0, .bool false, .string ⟨#[]⟩, .int .i64 0, .string ⟨#[]⟩, .slice none 0 0, .slice none 0 0, .slice none 0 0] 26)).cell? ⟨w.heap.size, 0, none⟩ = some (.int .i64 (pl : Nat)) := B1'.cell 0
  have c1 : ((w.alloc (.cells #[.int .i64 (pl : Nat), .int .u8 2, .int .u8 lo, .int .u64 (n : Nat), .bool cut] 94)).alloc (.cells #[.int .i64 0, .int .u64 0, .bool false, .string ⟨#[]⟩, .int .i64 0, .string ⟨#[]⟩, .slice none 0 0, .slice none 0 0, .slice none 0 0] 26)).cell? ⟨w.heap.size, 1, none⟩ = some (.int .u8 2) := B1'.cell 1
  have c2 : ((w.alloc (.cells #[.int .i64 (pl : Nat), .int .u8 2, .int .u8 lo, .int .u64 (n : Nat), .bool cut] 94)).alloc (.cells #[.int .i64 0, .int .u64 0, .bool false, .string ⟨#[]⟩, .int .i64 0, .string ⟨#[]⟩, .slice none 0 0, .slice none 0 0, .slice none 0 0] 26)).cell? ⟨w.heap.size, 2, none⟩ = some (.int .u8 lo) := B1'.cell 2
  have c3 : ((w.alloc (.cells #[.int .i64 (pl : Nat), .int .u8 2, .int .u8 lo, .int .u64 (n : Nat), .bool cut] 94)).alloc (.cells #[.int .i64 0, .int .u64 0, .bool false, .string ⟨#[]⟩, .int .i64 0, .string ⟨#[]⟩, .slice none 0 0, .slice none 0 0, .slice none 0 0] 26)).cell? ⟨w.heap.size, 3, none⟩ = some (.int .u64 (n : Nat)) := B1'.cell 3
  have c4 : ((w.alloc (.cells #[.int .i64 (pl : Nat), .int .u8 2, .int .u8 lo, .int .u64 (n : Nat), .bool cut] 94)).alloc (.cells #[.int .i64 0, .int .u64 0, .bool false, .string ⟨#[]⟩, .int .i64 0, .string ⟨#[]⟩, .slice none 0 0, .slice none 0 0, .slice none 0 0] 26)).cell? ⟨w.heap.size, 4, none⟩ = some (.bool cut) := B1'.cell 4
  unfold Hd.arr zN Nb.arr at y0 y1 y2 y3 y4 y5 y6 y7 y8 t0 t1 t2 t3 t4 t5 t6 t7 t8
  simp only at y0 y1 y2 y3 y4 y5 y6 y7 y8 t0 t1 t2 t3 t4 t5 t6 t7 t8
  clear K1' B1' Z1' S1'
  have hL := @all_ok C.zs ⟨pl, 2, lo, n, cut⟩ q
  obtain ⟨D, hD⟩ : ∃ D, d + D = 26 := ⟨26 - d, by omega⟩
  rw [show 27 - d = D + 1 by omega]
  generalize allA C.zs ⟨pl, 2, lo, n, cut⟩ q = R at *
  unfold AllIs at kA
  cases R with
  | inl f =>
    unfold ItmIs
    simp only at kA ⊢
    rw [pn_eq] at kA
    clear h hL
    go_enter Tryz.func86, Tryz.ntmps86
    go_wp2_with (go_at_call 126; refine (kA.out _ K1.out.1).mono ?_; rintro e w3 ⟨rfl, hq3⟩)
    exact ⟨rfl, rfl, K1.out.2.1.next hq3⟩
  | inr lr =>
    obtain ⟨l, r⟩ := lr
    have hl : Hid (l.length ≤ 4096) := (hL rfl).2.2.1 hn
    simp only at kA ⊢
    clear h hL
    go_enter Tryz.func86, Tryz.ntmps86
    go_wp2_with (go_at_call 126; refine (kA.out _ K1.out.1).mono ?_; rintro e w3 ⟨⟨v3, rfl, ho3⟩, hk3⟩; obtain ⟨a3, c3', hv3, hs1, hs2, hs3, hs4⟩ := ho3.shape; subst hv3; have F : Hid (GR 2 C w w3 r m (D + 1) ⟨6, 0, false, ⟨#[]⟩, 0, ⟨#[]⟩, a3, l.length, c3', none, 0, 0, none, 0, 0⟩ (bytT l)) := ⟨K1.out.next hk3, by rw [← S1.out]; exact byt_nd ho3 hl.out⟩; obtain ⟨⟨f0, f1, f2, f3, f4, f5, f6, f7, f8⟩, z0, z1, z2, z3, z4, z5, z6, z7, z8⟩ := zbox (K1.out.zbox Z1.out hk3); clear ho3 hk3 hs1 hs2 hs3 hs4)
    refine bodyPost_ret (v := .agg (Nb.arr ⟨6, 0, false, ⟨#[]⟩, 0, ⟨#[]⟩, a3, l.length, c3', none, 0, 0, none, 0, 0⟩)) (by unfold Nb.arr; simp [results, Tryz.results86, go_sem, *]) rfl ?_
    refine GR.out (b := 2) ?_
    repeat (first | with_reducible exact F.out | with_reducible refine GR.set ?_ (by omega) (by omega))
set_option maxHeartbeats 4000000 in
set_option maxRecDepth 100000 in
theorem body_txt {C : CX} {w : World} {q m : Nat} (h : RSt C w q m) (pl : Nat) (lo : Int) (n : Nat) (cut : Bool) (d : Nat) (hd24 : d ≤ 24) (hn : n ≤ 4096) (hq : q ≤ C.zs.length) (h0 : 0 < C.zs.length) : Calls Tryz.prog 86 #[.pointer (some ⟨C.g, 0, none⟩), .agg #[.int .i64 (pl : Nat), .int .u8 3, .int .u8 lo, .int .u64 (n : Nat), .bool cut], .int .i64 (d : Nat)] w fun x w' => ItmIs C w w' (27 - d) x (match allA C.zs ⟨pl, 3, lo, n, cut⟩ q with | .inl e => .inl e | .inr (l, r) => .inr (txtT (strOfNums l), r, m)) := by
  have kA : Hid (∀ wx, RSt C wx q m → Calls Tryz.prog 126 #[.pointer (some ⟨C.g, 0, none⟩), .agg #[.int .i64 (pl : Nat), .int .u8 3, .int .u8 lo, .int .u64 (n : Nat), .bool cut]] wx fun x w' => AllIs C wx w' m x (allA C.zs ⟨pl, 3, lo, n, cut⟩ q)) := fun wx hx => call_any hx ⟨pl, 3, lo, n, cut⟩ hn hq h0
  obtain ⟨K1', B1', Z1', S1'⟩ := box2 h ⟨pl, 3, lo, n, cut⟩
  have K1 : Hid (RK C w ((w.alloc (.cells #[.int .i64 (pl : Nat), .int .u8 3, .int .u8 lo, .int .u64 (n : Nat), .bool cut] 94)).alloc (.cells #[.int .i64 0, .int .u64 0, .bool false, .string ⟨#[]⟩, .int .i64 0, .string ⟨#[]⟩, .slice none 0 0, .slice none 0 0, .slice none 0 0] 26)) q m) := K1'
  have Z1 : Hid (NBox ((w.alloc (.cells #[.int .i64 (pl : Nat), .int .u8 3, .int .u8 lo, .int .u64 (n : Nat), .bool cut] 94)).alloc (.cells #[.int .i64 0, .int .u64 0, .bool false, .string ⟨#[]⟩, .int .i64 0, .string ⟨#[]⟩, .slice none 0 0, .slice none 0 0, .slice none 0 0] 26)) (w.heap.size + 1) zN) := Z1'
  have S1 : Hid (((w.alloc (.cells #[.int .i64 (pl : Nat), .int .u8 3, .int .u8 lo, .int .u64 (n : Nat), .bool cut] 94)).alloc (.cells #[.int .i64 0, .int .u64 0, .bool false, .string ⟨#[]⟩, .int .i64 0, .string ⟨#[]⟩, .slice none 0 0, .slice none 0 0, .slice none 0 0] 26)).heap.size = w.heap.size + 2) := S1'
  obtain ⟨⟨y0, y1, y2, y3, y4, y5, y6, y7, y8⟩, t0, t1, t2, t3, t4, t5, t6, t7, t8⟩ := zbox Z1'
  have c0 : ((w.alloc (.cells #[.int .i64 (pl : Nat), .int .u8 3, .int .u8 lo, .int .u64 (n : Nat), .bool cut] 94)).alloc (.cells #[.int .i64 0, .int .u64 0, .bool false, .string ⟨#[]⟩, .int .i64 0, .string ⟨#[]⟩, .slice none 0 0, .slice none 0 0, .slice none 0 0] 26)).cell? ⟨w.heap.size, 0, none⟩ = some (.int .i64 (pl : Nat)) := B1'.cell 0
  have c1 : ((w.alloc (.cells #[.int .i64 (pl : Nat), .int .u8 3, .int .u8 lo, .int .u64 (n : Nat), .bool cut] 94)).alloc (.cells #[.int .i64 0, .int .u64 0, .bool false, .string ⟨#[]⟩, .int .i64 0, .string ⟨#[]⟩, .slice none 0 0, .slice none 0 0, .slice none 0 0] 26)).cell? ⟨w.heap.size, 1, none⟩ = some (.int .u8 3) := B1'.cell 1
  have c2 : ((w.alloc (.cells #[.int .i64 (pl : Nat), .int .u8 3, .int .u8 lo, .int .u64 (n : Nat), .bool cut] 94)).alloc (.cells #[.int .i64 0, .int .u64 0, .bool false, .string ⟨#[]⟩, .int .i64 0, .string ⟨#[]⟩, .slice none 0 0, .slice none 0 0, .slice none 0 0] 26)).cell? ⟨w.heap.size, 2, none⟩ = some (.int .u8 lo) := B1'.cell 2
  have c3 : ((w.alloc (.cells #[.int .i64 (pl : Nat), .int .u8 3, .int .u8 lo, .int .u64 (n : Nat), .bool cut] 94)).alloc (.cells #[.int .i64 0, .int .u64 0, .bool false, .string ⟨#[]⟩, .int .i64 0, .string ⟨#[]⟩, .slice none 0 0, .slice none 0 0, .slice none 0 0] 26)).cell? ⟨w.heap.size, 3, none⟩ = some (.int .u64 (n : Nat)) := B1'.cell 3
  have c4 : ((w.alloc (.cells #[.int .i64 (pl : Nat), .int .u8 3, .int .u8 lo, .int .u64 (n : Nat), .bool cut] 94)).alloc (.cells #[.int .i64 0, .int .u64 0, .bool false, .string ⟨#[]⟩, .int .i64 0, .string ⟨#[]⟩, .slice none 0 0, .slice none 0 0, .slice none 0 0] 26)).cell? ⟨w.heap.size, 4, none⟩ = some (.bool cut) := B1'.cell 4
  unfold Hd.arr zN Nb.arr at y0 y1 y2 y3 y4 y5 y6 y7 y8 t0 t1 t2 t3 t4 t5 t6 t7 t8
  simp only at y0 y1 y2 y3 y4 y5 y6 y7 y8 t0 t1 t2 t3 t4 t5 t6 t7 t8
  clear K1' B1' Z1' S1'
  have hL := @all_ok C.zs ⟨pl, 3, lo, n, cut⟩ q
  obtain ⟨D, hD⟩ : ∃ D, d + D = 26 := ⟨26 - d, by omega⟩
  rw [show 27 - d = D + 1 by omega]
  generalize allA C.zs ⟨pl, 3, lo, n, cut⟩ q = R at *
  unfold AllIs at kA
  cases R with
  | inl f =>
    unfold ItmIs
    simp only at kA ⊢
    rw [pn_eq] at kA
    clear h hL
    go_enter Tryz.func86, Tryz.ntmps86
    go_wp2_with (go_at_call 126; refine (kA.out _ K1.out.1).mono ?_; rintro e w3 ⟨rfl, hq3⟩)
    exact ⟨rfl, rfl, K1.out.2.1.next hq3⟩
  | inr lr =>
    obtain ⟨l, r⟩ := lr
    have hl : Hid (l.length ≤ 4096) := (hL rfl).2.2.1 hn
    simp only at kA ⊢
    clear h hL
    have F0 : Hid (∀ X, RK C w X r m → GR 2 C w X r m (D + 1) (nbL (txtT (strOfNums l))) (txtT (strOfNums l))) := fun X hX => ⟨hX, ndw_leaf _ _ X (t := txtT (strOfNums l)) rfl ⟨rfl, rfl⟩ rfl rfl rfl (by show (0 : Nat) ≤ _; omega) (by show (strOfNums l).size ≤ _; rw [str_len]; have := hl.out; omega)⟩
    go_enter Tryz.func86, Tryz.ntmps86
    go_wp2_with (go_at_call 126; refine (kA.out _ K1.out.1).mono ?_; rintro e w3 ⟨⟨v3, rfl, ho3⟩, hk3⟩; obtain ⟨a3, c3', hv3, hs1, hs2, hs3, hs4⟩ := ho3.shape; subst hv3; have cv := conv_str hs3 l.length c3' rfl; have K3 : Hid (RK C w w3 r m) := K1.out.next hk3; obtain ⟨⟨f0, f1, f2, f3, f4, f5, f6, f7, f8⟩, z0, z1, z2, z3, z4, z5, z6, z7, z8⟩ := zbox (K1.out.zbox Z1.out hk3); clear ho3 hk3 hs1 hs2 hs3 hs4)
    refine bodyPost_ret (v := .agg (nbL (txtT (strOfNums l))).arr) (by unfold nbL Nb.arr txtT; simp [results, Tryz.results86, go_sem, *]) rfl ?_
    refine GR.out (b := 2) (F0.out _ ?_)
    repeat (first | with_reducible exact K3.out | with_reducible refine RK.set ?_ (by omega))
theorem body_step {C : CX} {k : Nat} (iA : ArrAt C k) (iM : MapAt C k) (iT : TagAt C k) (d : Nat) : BodyAt C k d := by
  intro w hd p q m h hh hcut hmay hrun hm hd24 hk
  have hz : ∀ c ∈ C.zs, 0 ≤ c ∧ c < 256 := h.2.1.1.1
  obtain ⟨hp, a1, a2, a3, _⟩ := hd_inv hh
  have a3' := a3 hcut
  obtain ⟨w1, w2, w3, w4, w5⟩ := hd_word hz hh
  have h4 := h.2.2.2.1
  obtain ⟨pl, mj, lo, n, cut⟩ := hd
  simp only at *
  unfold bodA
  simp only
  have hmj : mj = 0 ∨ mj = 1 ∨ mj = 2 ∨ mj = 3 ∨ mj = 4 ∨ mj = 5 ∨ mj = 6 ∨ mj = 7 := by omega
  rcases hmj with rfl | rfl | rfl | rfl | rfl | rfl | rfl | rfl
  · exact body_int h pl lo n cut d hd24 w1
  · exact body_neg h pl lo n cut d hd24 w1
  · exact body_byt h pl lo n cut d hd24 (hrun rfl) a3' (by omega)
  · exact body_txt h pl lo n cut d hd24 (hrun rfl) a3' (by omega)
  · exact body_arr h pl lo n cut d hd24 iA hm a3' (by omega)
  · exact body_map h pl lo n cut d hd24 iM hm a3' (by omega)
  · exact body_tag h pl lo n cut d hd24 iT w1 hm a3' (by omega)
  · exact body_oth h pl lo n cut d hd24 w1 (by omega)
/-- EVERY ITEM. -/
theorem itm_all (C : CX) : ∀ k, ItmAt C k := by
  intro k
  induction k using Nat.strongRecOn with
  | _ k ih =>
    match k, ih with
    | 0, _ => intro w d p m h hm hd hp hk; omega
    | k + 1, ih => exact item_step fun d => body_step (array_step fun j hj => ih j (by omega)) (map_step fun j hj => ih j (by omega)) (tag_step (ih k (by omega))) d
end Go.Proofs.YtnjbppfanmmifaaGreatDoor
namespace Go.Proofs.YtnjbppfanmmifaaGreatDoor
open Go.RowKit
set_option linter.unusedVariables false
set_option maxHeartbeats 2000000 in
theorem catch_wrong (g : Nat) (x y a b : Int) (older : List PanicEntry) (w : World) (h0 : w.cell? ⟨g, 0, none⟩ = some (.int .i64 x)) (h1 : w.cell? ⟨g, 1, none⟩ = some (.int .i64 y)) (z0 : w.frozen? ⟨g, 0, none⟩ = false) (z1 : w.frozen? ⟨g, 1, none⟩ = false) :
    CallsD Tryz.prog 47 #[.pointer (some ⟨g, 0, none⟩)] (.panicking ({ v := .iface 61 (.agg #[.int .i64 a, .int .i64 b]), recovered := false } :: older)) w fun e u' w' =>
      e = .returned (.tuple #[]) ∧ u' = .panicking ({ v := .iface 61 (.agg #[.int .i64 a, .int .i64 b]), recovered := true } :: older) ∧ w' = (w.setCell ⟨g, 0, none⟩ (.int .i64 a)).setCell ⟨g, 1, none⟩ (.int .i64 b) := by
  have ta : ∀ w : World, (Instr.typeAssert (.iface 61 (.agg #[.int .i64 a, .int .i64 b])) 20 61 false).run Tryz.prog w = .ok (.agg #[.int .i64 a, .int .i64 b]) w := fun _ => by kernel_rfl
  refine callsD_of_wpS Tryz.func47 rfl fun c₀ cs hu => ?_
  apply wpS_seq
  apply wpS_region
  simp [wpOpsS, go_sem, recoverD, hu, Tryz.ntmps47, Exit.thenS]
  apply wpS_seq
  apply wpS_region
  simp [wpOpsS, go_sem, Exit.thenS, Array.replicate]
  refine wpS_cond (t := true) (by simp [Act.eval]) ?_
  simp only [if_true]
  apply wpS_region
  simp [wpOpsS, go_sem, ta, h0, h1, z0, z1, bodyPostS, results, Tryz.results47]
theorem catch_idle (g : Nat) (w : World) :
    CallsD Tryz.prog 47 #[.pointer (some ⟨g, 0, none⟩)] .returning w fun e u' w' => e = .returned (.tuple #[]) ∧ u' = .returning ∧ w' = w := by
  refine callsD_of_wpS Tryz.func47 rfl fun c₀ cs hu => ?_
  apply wpS_seq
  apply wpS_region
  simp [wpOpsS, go_sem, recoverD, hu, Tryz.ntmps47, Exit.thenS]
  apply wpS_seq
  apply wpS_region
  simp [wpOpsS, go_sem, Exit.thenS, Array.replicate]
  refine wpS_cond (t := false) (by simp [Act.eval]) ?_
  simp only [Bool.false_eq_true, if_false]
  refine wpS_of_wp (wp_skip ?_)
  cases c₀
  simp_all [bodyPostS, results, Tryz.results47]
theorem nd_set {B E D k j : Nat} {X : World} {nb : Nb} {t : Tr} {v : Value} (h : NdW (Rg B E) D X nb t) (hk : k < B) : NdW (Rg B E) D (X.setCell ⟨k, j, none⟩ v) nb t := h.stays fun i hi => setk (by have := hi.1; omega) v
/-- What is answered of a reading. -/
def ReadIs (C : CX) (w w' : World) (x : Ending) (R : Sum (Int × Nat) (Tr × Nat × Nat)) : Prop := match R with
  | .inl f => x = .returned (.tuple #[.agg zN.arr, .agg #[.int .i64 f.1, .int .i64 (f.2 : Nat)]]) ∧ Kq C.g w.heap.size w w'
  | .inr (t, r, n) => (∃ nb : Nb, x = .returned (.tuple #[.agg nb.arr, .agg #[.int .i64 0, .int .i64 0]]) ∧ NdW (Rg w.heap.size w'.heap.size) 26 w' nb t) ∧ RK C w w' r n
/-- Two boxes: a node, a fault. -/
theorem box_nf {C : CX} {w : World} {q m : Nat} (h : RSt C w q m) : RK C w ((w.alloc (.cells zN.arr 26)).alloc (.cells #[.int .i64 0, .int .i64 0] 29)) q m ∧ NBox ((w.alloc (.cells zN.arr 26)).alloc (.cells #[.int .i64 0, .int .i64 0] 29)) w.heap.size zN ∧ Blk ((w.alloc (.cells zN.arr 26)).alloc (.cells #[.int .i64 0, .int .i64 0] 29)) (w.heap.size + 1) #[.int .i64 0, .int .i64 0] 29 ∧ ((w.alloc (.cells zN.arr 26)).alloc (.cells #[.int .i64 0, .int .i64 0] 29)).heap.size = w.heap.size + 2 := by
  have s1 : (w.alloc (.cells zN.arr 26)).heap.size = w.heap.size + 1 := by simp
  have A1 := alloc_below (w.alloc (.cells zN.arr 26)) (.cells #[.int .i64 0, .int .i64 0] 29)
  refine ⟨(h.rk.alloc _).alloc _, (nbox_new w zN).kept A1 (by omega), ?_, by simp⟩
  have := blk_new (w.alloc (.cells zN.arr 26)) #[.int .i64 0, .int .i64 0] 29
  rw [s1] at this
  exact this
set_option maxHeartbeats 4000000 in
set_option maxRecDepth 100000 in
theorem read_any {C : CX} {w : World} {p : Nat} (h : RSt C w p 0) (hp : p ≤ C.zs.length) : Calls Tryz.prog 34 #[.pointer (some ⟨C.g, 0, none⟩)] w fun x w' => ReadIs C w w' x (rcF 10000 C.zs 0 1 p 0 none [] []) := by
  have hmf : ∀ (fn : Fn) (first cap : Array Value) (w : World), (Instr.makeFunc fn first cap).run Tryz.prog w = .ok (.func fn first cap) w := fun _ _ _ _ => rfl
  have h4 := h.2.2.2.1
  have kI : Hid (∀ wx, RSt C wx p 0 → Calls Tryz.prog 48 #[.pointer (some ⟨C.g, 0, none⟩), .int .i64 1] wx fun x w' => ItmIs C wx w' 26 x (rcF 10000 C.zs 0 1 p 0 none [] [])) := fun wx hx => itm_all C 10000 wx 1 p 0 hx (by omega) (by omega) hp (by omega)
  obtain ⟨K1', Z1', B1', S1'⟩ := box_nf h
  have K1 : Hid (RK C w ((w.alloc (.cells zN.arr 26)).alloc (.cells #[.int .i64 0, .int .i64 0] 29)) p 0) := K1'
  have Z1 : Hid (NBox ((w.alloc (.cells zN.arr 26)).alloc (.cells #[.int .i64 0, .int .i64 0] 29)) w.heap.size zN) := Z1'
  have B1 : Hid (Blk ((w.alloc (.cells zN.arr 26)).alloc (.cells #[.int .i64 0, .int .i64 0] 29)) (w.heap.size + 1) #[.int .i64 0, .int .i64 0] 29) := B1'
  have S1 : Hid (((w.alloc (.cells zN.arr 26)).alloc (.cells #[.int .i64 0, .int .i64 0] 29)).heap.size = w.heap.size + 2) := S1'
  have hgl : Hid (C.g < w.heap.size) := h.lt
  generalize rcF 10000 C.zs 0 1 p 0 none [] [] = R at *
  unfold zN Nb.arr at K1 Z1 B1 S1
  simp only at K1 Z1 B1 S1
  clear K1' Z1' B1' S1' h hp h4
  cases R with
  | inl f =>
    unfold ItmIs at kI
    simp only at kI
    rw [pn_eq] at kI
    unfold ReadIs
    simp only
    go_enter_defers Tryz.func34, Tryz.ntmps34
    go_wp2_with (go_at_call 48; refine (kI.out _ K1.out.1).mono ?_; rintro e w3 ⟨rfl, hq3⟩)
    have Z3 := Z1.out.same (hq3.block _ Z1.out.lt (by have := hgl.out; omega))
    have B3 : Blk w3 (w.heap.size + 1) #[.int .i64 0, .int .i64 0] 29 := Blk.kq B1.out hq3 B1.out.lt (by have := hgl.out; omega)
    obtain ⟨⟨f0, f1, f2, f3, f4, f5, f6, f7, f8⟩, _⟩ := zbox Z3
    have F : Hid (Kq C.g w.heap.size w ((w3.setCell ⟨w.heap.size + 1, 0, none⟩ (.int .i64 f.1)).setCell ⟨w.heap.size + 1, 1, none⟩ (.int .i64 (f.2 : Nat)))) := kz_set (kz_set (K1.out.2.1.next hq3) (by omega)) (by omega)
    refine leaves_cons (f := 47) (args := #[.pointer (some ⟨w.heap.size + 1, 0, none⟩)]) (by simp) (by simp [go_sem]) ?_
    refine (catch_wrong (w.heap.size + 1) 0 0 f.1 (f.2 : Nat) [] w3 (B3.cell 0) (B3.cell 1) (B3.fz 0) (B3.fz 1)).mono ?_
    rintro e u' w'' ⟨rfl, rfl, rfl⟩
    have k0 := B3.cell 0
    have k1 := B3.cell 1
    simp at k0 k1
    simp [Leaves, settle, results, Tryz.results34, go_sem, f0, f1, f2, f3, f4, f5, f6, f7, f8, k0, k1]
    exact ⟨rfl, F.out⟩
  | inr tro =>
    obtain ⟨t, r, n⟩ := tro
    unfold ItmIs at kI
    simp only at kI
    unfold ReadIs
    simp only
    go_enter_defers Tryz.func34, Tryz.ntmps34
    go_wp2_with (go_at_call 48; refine (kI.out _ K1.out.1).mono ?_; rintro e w3 ⟨⟨nb, he3, hn3⟩, hk3⟩; rw [Nb.arr] at he3; subst he3; have F : Hid (GR 2 C w w3 r n 26 nb t) := ⟨K1.out.next hk3, by rw [← S1.out]; exact hn3⟩; have Z3 := Z1.out.same (hk3.2.1.block _ Z1.out.lt (by have := hgl.out; omega)); have B3 : Hid (Blk w3 (w.heap.size + 1) #[.int .i64 0, .int .i64 0] 29) := Blk.kq B1.out hk3.2.1 B1.out.lt (by have := hgl.out; omega); obtain ⟨⟨f0, f1, f2, f3, f4, f5, f6, f7, f8⟩, z0, z1, z2, z3, z4, z5, z6, z7, z8⟩ := zbox Z3; have g0 : w3.cell? ⟨w.heap.size + 1, 0, none⟩ = some (.int .i64 0) := B3.out.cell 0; have g1 : w3.cell? ⟨w.heap.size + 1, 1, none⟩ = some (.int .i64 0) := B3.out.cell 1; have y0 := B3.out.fz 0; have y1 := B3.out.fz 1; clear hn3 hk3 Z3)
    refine leaves_cons (f := 47) (args := #[.pointer (some ⟨w.heap.size + 1, 0, none⟩)]) (by simp) (by simp [go_sem]) ?_
    refine (catch_idle (w.heap.size + 1) _).mono ?_
    rintro e u' w'' ⟨rfl, rfl, rfl⟩
    simp [Leaves, settle, results, Tryz.results34, go_sem, f0, f1, f2, f3, f4, f5, f6, f7, f8, g0, g1]
    have F2 : Hid (NdW (Rg (w.heap.size + 2) w3.heap.size) 26 w3 nb t) := F.out.2
    have F1 : Hid (RK C w w3 r n) := F.out.1
    refine ⟨⟨nb, rfl, NdW.mono (S := Rg (w.heap.size + 2) w3.heap.size) (fun k hk => ⟨by have := hk.1; omega, hk.2⟩) ?_⟩, ?_⟩
    · repeat (first | with_reducible exact F2.out | with_reducible refine nd_set ?_ (by omega))
    · repeat (first | with_reducible exact F1.out | with_reducible refine RK.set ?_ (by omega))
end Go.Proofs.YtnjbppfanmmifaaGreatDoor
