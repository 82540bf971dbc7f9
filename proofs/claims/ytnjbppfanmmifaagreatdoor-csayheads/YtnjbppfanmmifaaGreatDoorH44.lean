/-
  CBOR out of trees: csay.Encode.
  CBOR out of trees: the two trees of alive, encoded.
  CBOR out of trees: an item's beginning, as the document makes it.
  CBOR out of trees: the beginning of any item: the walk.
-/
import Derived.Test.YtnjbppfanmmifaaGreatDoorH39
import Derived.Test.YtnjbppfanmmifaaGreatDoorH43
import Derived.Test.YtnjbppfanmmifaaGreatDoorH26
import Derived.Test.YtnjbppfanmmifaaGreatDoorH29
import Derived.Test.YtnjbppfanmmifaaGreatDoorH33
namespace Go.Proofs.YtnjbppfanmmifaaGreatDoor
open Go.RowKit
set_option linter.unusedVariables false
/-- A TREE THAT IS ENCODED. -/
def encA (t : Tr) : Prop := t.May (fun u => alF u = 0) ∧ (encF 24 t).length ≤ 4096 ∧ dcdA (encF 24 t) = .inr t
theorem all_imp {P Q : Tr → Prop} (h : ∀ u, P u → Q u) : ∀ (k : Nat) (t : Tr), t.deep ≤ k → t.All P → t.All Q
  | 0, t, hd, _ => by rw [Tr.deep_eq] at hd; omega
  | k + 1, t, hd, hA => by
    obtain ⟨a, b, c⟩ := (Tr.all_eq P t).1 hA
    exact (Tr.all_eq Q t).2 ⟨h t a, fun u hu => all_imp h k u (by have := Tr.key_deep hu; omega) (b u hu), fun u hu => all_imp h k u (by have := Tr.kid_deep hu; omega) (c u hu)⟩
theorem may_eg {t : Tr} (h : t.May (fun u => alF u = 0)) : t.deep ≤ 24 ∧ t.All EG := ⟨h.2.1, all_imp (fun u hu => eg_of hu) 24 t h.2.1 h.2.2.1⟩
theorem check_ok {t : Tr} {er : Int} (h : Tr.ChkIs alF t er) : er = 0 ↔ t.May (fun u => alF u = 0) :=
  ⟨fun e => (Tr.chk_may alF_shaped).1 (by rw [e] at h; exact h), fun e => Tr.chk_one h ((Tr.chk_may alF_shaped).2 e)⟩
set_option maxHeartbeats 8000000 in
set_option maxRecDepth 100000 in
theorem encode_y {L D : Nat} {t : Tr} {b : Nb} {w : World} (hN : Nd D w b t) (hM : t.May (fun u => alF u = 0)) (hb : (encF 24 t).length ≤ 4096) {u : Tr} (hf : dcdA (encF 24 t) = .inr u) (hu : u = t) (hC : Cv L w) (hL : L ≤ w.heap.size) : Calls Tryz.prog 24 #[.agg b.arr] w fun e w' => (∃ v, e = .returned (.tuple #[v, .int .i64 0]) ∧ OwnsB w' w.heap.size v (encF 24 t)) ∧ Below w.heap.size w w' := by
  have B0 : Hid (Below w.heap.size w (w.alloc (.cells b.arr 26))) := alloc_below w _
  have Q0 : Hid (NBox (w.alloc (.cells b.arr 26)) w.heap.size b) := nbox_new w b
  obtain ⟨a0, a1, a2, a3, a4, a5, a6, a7, a8⟩ := (nbox_new w b).fields
  have hCx : ∀ x, Below w.heap.size w x → Cv L x ∧ L ≤ x.heap.size := fun x hx => ⟨hC.on (hx.mono hL), Nat.le_trans hL hx.size⟩
  have kG : Hid (∀ x, Below w.heap.size w x → Calls Tryz.prog 40 #[.agg b.arr] x fun e w' => (∃ er, e = .returned (.int .i64 er) ∧ Tr.ChkIs alF t er) ∧ Below x.heap.size x w') := fun x hx => gcheck_any (hN.kept hx)
  have kI : Hid (∀ x, Below w.heap.size w x → Calls Tryz.prog 41 #[.agg b.arr] x fun e w' => BytIs x w' e (encF 24 t)) := fun x hx => sitem_any L 24 (by omega) D t b x (hN.kept hx) (may_eg hM).1 (may_eg hM).2 (hCx x hx).1 (hCx x hx).2
  have hM' : Hid (t.May (fun u => alF u = 0)) := hM
  have hb' : Hid ((encF 24 t).length ≤ 4096) := hb
  have hv : true = true ↔ u.size ≤ 1024 ∧ t.size ≤ 1024 ∧ u = t := ⟨fun _ => ⟨by rw [hu]; exact hM.1, hM.1, hu⟩, fun _ => rfl⟩
  generalize encF 24 t = zs at *
  have kD : Hid (∀ x a n c, Below w.heap.size w x → Bytes x a zs → zs.length = n → n ≤ c ∧ c ≤ maxLen ∧ (a = none → c = 0) → Calls Tryz.prog 17 #[.slice a n c] x fun e w' => DcdIs x w' e (.inr u)) := fun x a n c hx hB hl hc => by rw [← hf]; exact decode_any a n c zs x hl hB hc (hCx x hx).1.1 (hCx x hx).2
  have kS : Hid (∀ x nb, Below w.heap.size w x → Nd 26 x nb u → Calls Tryz.prog 42 #[.agg nb.arr, .agg b.arr] ((x.alloc (.cells nb.arr 26)).alloc (.cells #[.int .i64 0, .int .i64 0] 29)) fun e w' => e = .returned (.bool true) ∧ Below w.heap.size w w' ∧ Below x.heap.size x w') := fun x nb hx hn => by
    have A := bal2 x (.cells nb.arr 26) (.cells #[.int .i64 0, .int .i64 0] 29)
    have hx2 := hx.trans (A.mono hx.size)
    exact (gsame_any (hn.kept A) (hN.kept hx2) hv).mono fun e w' h => ⟨h.1, hx2.trans (h.2.mono hx2.size), A.trans (h.2.mono A.size)⟩
  unfold BytIs at kI
  unfold DcdIs at kD
  simp only at kD
  unfold Nb.arr at kD kS
  clear hN hC hL hCx hM hb hf hv
  go_enter Tryz.func24, Tryz.ntmps24
  go_wp2_with (first
    | (go_at_call 40; refine (kG.out _ (by exact B0.out)).mono ?_; rintro e x1 ⟨⟨er, rfl, hE⟩, hb1⟩; have he0 := (check_ok hE).2 hM'.out; subst he0; have b1 : Hid (Below w.heap.size w x1) := B0.out.trans (hb1.mono B0.out.size); have Q1 : Hid (NBox x1 w.heap.size b) := Q0.out.kept hb1 Q0.out.lt; clear a0 a1 a2 a3 a4 a5 a6 a7 a8; obtain ⟨a0, a1, a2, a3, a4, a5, a6, a7, a8⟩ := Q1.out.fields; clear hb1 hE kG Q0)
    | (go_at_call 41; refine (kI.out _ b1.out).mono ?_; rintro e x2 ⟨⟨v2, rfl, hO2⟩, hb2⟩; obtain ⟨a_2, n2, c2, rfl, hl2, hn2, hc2, hm2, hB2⟩ := hO2.form; have gl : ¬ (4096 : Int) < (n2 : Int) := (by have := hl2.out; have := hb'.out; omega); have b2 : Hid (Below w.heap.size w x2) := b1.out.trans (hb2.mono b1.out.size); have O2 : Hid (OwnsB x2 w.heap.size (.slice a_2 n2 c2) zs) := hO2.base b1.out.size; have Q2 : Hid (NBox x2 w.heap.size b) := Q1.out.kept hb2 Q1.out.lt; clear a0 a1 a2 a3 a4 a5 a6 a7 a8; obtain ⟨a0, a1, a2, a3, a4, a5, a6, a7, a8⟩ := Q2.out.fields; have kD' := kD.out x2 a_2 n2 c2 b2.out hB2.out hl2.out ⟨hc2, (by unfold maxLen; omega), (by first | exact hn2.out | exact hn2 | (intro q; cases q))⟩; clear kD hB2; clear hb2 hO2 kI Q1)
    | (go_at_call 17; refine kD'.mono ?_; rintro e x3 ⟨⟨nb, he3, hn3⟩, hb3⟩; subst he3; have b3 : Hid (Below w.heap.size w x3) := b2.out.trans (hb3.mono b2.out.size); have kS' := kS.out x3 nb b3.out hn3.nd; have Q3 : Hid (NBox x3 w.heap.size b) := Q2.out.kept hb3 Q2.out.lt; have l3 : w.heap.size < x3.heap.size := Q3.out.lt; clear a0 a1 a2 a3 a4 a5 a6 a7 a8; obtain ⟨a0, a1, a2, a3, a4, a5, a6, a7, a8⟩ := Q3.out.fields; obtain ⟨d0, d1, d2, d3, d4, d5, d6, d7, d8⟩ := (Q3.out.kept (bal2 x3 (.cells #[.int .i64 nb.kind, .int .u64 nb.num, .bool nb.neg, .string nb.dig, .int .i64 nb.exp, .string nb.txt, .slice nb.ab nb.lb nb.cb, .slice nb.ak nb.lk nb.ck, .slice nb.ai nb.li nb.ci] 26) (.cells #[.int .i64 0, .int .i64 0] 29)) l3).fields; have O3 : Hid (OwnsB x3 w.heap.size (.slice a_2 n2 c2) zs) := O2.out.below hb3; clear hb3 kD' hn3 kS Q2)
    | (go_at_call 42; refine kS'.mono ?_; rintro e x4 ⟨rfl, hb4, hb5⟩; have b4 : Hid (Below w.heap.size w x4) := hb4; have O4 : Hid (OwnsB x4 w.heap.size (.slice a_2 n2 c2) zs) := O3.out.below hb5; clear hb5; clear hb4))
  refine bodyPost_ret (v := .tuple #[.slice a_2 n2 c2, .int .i64 0]) (by simp [results, Tryz.results24, go_sem, *]) rfl ⟨⟨_, rfl, O4.out⟩, b4.out⟩
theorem encode_yes {L D : Nat} {t : Tr} {b : Nb} {w : World} (hN : Nd D w b t) (h : encA t) (hC : Cv L w) (hL : L ≤ w.heap.size) : Calls Tryz.prog 24 #[.agg b.arr] w fun e w' => (∃ v, e = .returned (.tuple #[v, .int .i64 0]) ∧ OwnsB w' w.heap.size v (encF 24 t)) ∧ Below w.heap.size w w' := encode_y hN h.1 h.2.1 h.2.2 rfl hC hL
end Go.Proofs.YtnjbppfanmmifaaGreatDoor
namespace Go.Proofs.YtnjbppfanmmifaaGreatDoor
open Go.RowKit
set_option linter.unusedVariables false
theorem strZ_inj {xs ys : List Int} (hx : ∀ c ∈ xs, 0 ≤ c ∧ c < 256) (hy : ∀ c ∈ ys, 0 ≤ c ∧ c < 256) : ((strOfNums xs).toList == (strOfNums ys).toList) = decide (xs = ys) := by
  rw [Bool.eq_iff_iff, beq_iff_eq, decide_eq_true_iff]
  refine ⟨fun h => ?_, fun h => by rw [h]⟩
  rw [ByteArray.toList_eq, ByteArray.toList_eq] at h
  have e : strOfNums xs = strOfNums ys := by
    have h2 := Array.ext' h
    cases h3 : strOfNums xs; cases h4 : strOfNums ys
    rw [h3, h4] at h2
    simpa using h2
  rw [← bs_str hx, ← bs_str hy, e]
set_option maxHeartbeats 400000 in
theorem sameZ_any (a b : Option Addr) (na nb ca cb : Nat) (za zb : List Int) (w : World) (hl : za.length = na) (hm : zb.length = nb) (ha : Bytes w a za) (hb : Bytes w b zb) :
    Calls Tryz.prog 26 #[.slice a na ca, .slice b nb cb] w fun e w' => e = .returned (.bool (decide (za = zb))) ∧ Below w.heap.size w w' := by
  have k1 := conv_str ha na ca hl
  have k2 := conv_str hb nb cb hm
  have he : Hid _ := strZ_inj ha.1 hb.1
  go_enter Tryz.func26, Tryz.ntmps26
  go_wp2
  go_ret
  exact ⟨by rw [← he.out]; rfl, Below.refl _ _⟩
def saB : List Int := [25, 1, 244]
def sbB : List Int := [196, 130, 32, 24, 25]
theorem sa_is : encF 24 (intT false ⟨#[53, 48, 48]⟩) = saB := by kernel_rfl
theorem sb_is : encF 24 (decT false ⟨#[50, 53]⟩ (-1)) = sbB := by kernel_rfl
theorem sa_dec : dcdA saB = .inr (intT false ⟨#[53, 48, 48]⟩) := by kernel_rfl
theorem sb_dec : dcdA sbB = .inr (decT false ⟨#[50, 53]⟩ (-1)) := by kernel_rfl
theorem dcd_may {zs : List Int} {t : Tr} (hz : ∀ c ∈ zs, 0 ≤ c ∧ c < 256) (e : dcdA zs = .inr t) : t.May (fun u => alF u = 0) :=
  (Tr.chk_may alF_shaped).1 (chk_of (itm_may hz (dcd_ok e)).1 (itm_may hz (dcd_ok e)).2.1 (itm_may hz (dcd_ok e)).2.2)
theorem sa_ok : encA (intT false ⟨#[53, 48, 48]⟩) := ⟨dcd_may (by decide) sa_dec, by rw [sa_is]; decide, by rw [sa_is]; exact sa_dec⟩
theorem sb_ok : encA (decT false ⟨#[50, 53]⟩ (-1)) := ⟨dcd_may (by decide) sb_dec, by rw [sb_is]; decide, by rw [sb_is]; exact sb_dec⟩
theorem nd_live (w : World) {t : Tr} (hb : t.bytes = []) (hl : Lf t) (hk : (Lit.int .i64 t.kind).wf = true) (hn : (Lit.int .u64 t.num).wf = true) (he : (Lit.int .i64 t.exp).wf = true) (hd : t.dig.size ≤ 140737488351232) (hx : t.txt.size ≤ 140737488351232) : Nd 1 w (nbL t) t := (ndw_leaf (fun _ => True) 0 w hb hl hk hn he hd hx).nd
set_option maxHeartbeats 4000000 in
set_option maxRecDepth 100000 in
theorem salive_any (w : World) {L : Nat} (hC : Cv L w) (hL : L ≤ w.heap.size) : Calls Tryz.prog 27 #[] w fun e w' => e = .returned (.bool true) ∧ Below w.heap.size w w' := by
  have kA : Hid (Calls Tryz.prog 24 #[.agg #[.int .i64 2, .int .u64 0, .bool false, .string ⟨#[53, 48, 48]⟩, .int .i64 0, .string ⟨#[]⟩, .slice none 0 0, .slice none 0 0, .slice none 0 0]] w fun e w' => (∃ v, e = .returned (.tuple #[v, .int .i64 0]) ∧ OwnsB w' w.heap.size v saB) ∧ Below w.heap.size w w') := by
    have := encode_yes (nd_live w (t := intT false ⟨#[53, 48, 48]⟩) rfl ⟨rfl, rfl⟩ (by decide) (by decide) (by decide) (by decide) (by decide)) sa_ok hC hL
    rw [sa_is] at this
    exact this
  have kB : Hid (∀ x, Below w.heap.size w x → Calls Tryz.prog 24 #[.agg #[.int .i64 3, .int .u64 0, .bool false, .string ⟨#[50, 53]⟩, .int .i64 (-1), .string ⟨#[]⟩, .slice none 0 0, .slice none 0 0, .slice none 0 0]] x fun e w' => (∃ v, e = .returned (.tuple #[v, .int .i64 0]) ∧ OwnsB w' x.heap.size v sbB) ∧ Below x.heap.size x w') := fun x hx => by
    have := encode_yes (nd_live x (t := decT false ⟨#[50, 53]⟩ (-1)) rfl ⟨rfl, rfl⟩ (by decide) (by decide) (by decide) (by decide) (by decide)) sb_ok (hC.on (hx.mono hL)) (Nat.le_trans hL hx.size)
    rw [sb_is] at this
    exact this
  have kS : Hid (∀ x a n c, saB.length = n → Bytes x a saB → Calls Tryz.prog 26 #[.slice a n c, .slice (some ⟨x.heap.size, 0, none⟩) 3 3] (x.alloc (.cells #[.int .u8 25, .int .u8 1, .int .u8 244] 5)) fun e w' => e = .returned (.bool true) ∧ Below x.heap.size x w') := fun x a n c hl hB => by
    have A := alloc_below x (.cells #[.int .u8 25, .int .u8 1, .int .u8 244] 5)
    exact (sameZ_any a (some ⟨x.heap.size, 0, none⟩) n 3 c 3 saB saB _ hl rfl (hB.kept A) (bytes_lit x saB (by decide) (by decide))).mono fun e w' h => ⟨by rw [h.1, decide_eq_true rfl], A.trans (h.2.mono A.size)⟩
  have kT : Hid (∀ x a n c, sbB.length = n → Bytes x a sbB → Calls Tryz.prog 26 #[.slice a n c, .slice (some ⟨x.heap.size, 0, none⟩) 5 5] (x.alloc (.cells #[.int .u8 196, .int .u8 130, .int .u8 32, .int .u8 24, .int .u8 25] 5)) fun e w' => e = .returned (.bool true) ∧ Below x.heap.size x w') := fun x a n c hl hB => by
    have A := alloc_below x (.cells #[.int .u8 196, .int .u8 130, .int .u8 32, .int .u8 24, .int .u8 25] 5)
    exact (sameZ_any a (some ⟨x.heap.size, 0, none⟩) n 5 c 5 sbB sbB _ hl rfl (hB.kept A) (bytes_lit x sbB (by decide) (by decide))).mono fun e w' h => ⟨by rw [h.1, decide_eq_true rfl], A.trans (h.2.mono A.size)⟩
  clear hC hL
  go_enter Tryz.func27, Tryz.ntmps27
  go_wp2_with (first
    | (go_at_call 24; refine kA.out.mono ?_; rintro e x1 ⟨⟨v1, rfl, hO1⟩, hb1⟩; obtain ⟨a1, n1, c1, rfl, l1, -, -, -, y1⟩ := hO1.form; have b1 : Hid (Below w.heap.size w x1) := hb1; clear kA hb1 hO1)
    | (go_at_call 24; refine (kB.out _ b1.out).mono ?_; rintro e x2 ⟨⟨v2, rfl, hO2⟩, hb2⟩; obtain ⟨a2, n2, c2, rfl, l2, -, -, -, y2⟩ := hO2.form; have z1 : Hid (Bytes x2 a1 saB) := y1.out.kept hb2; have b2 : Hid (Below w.heap.size w x2) := b1.out.trans (hb2.mono b1.out.size); clear hb2 hO2 kB)
    | (go_at_call 26; refine (kS.out x2 a1 n1 c1 l1.out z1.out).mono ?_; rintro e x3 ⟨rfl, hb3⟩; have z2 : Hid (Bytes x3 a2 sbB) := y2.out.kept hb3; have b3 : Hid (Below w.heap.size w x3) := b2.out.trans (hb3.mono b2.out.size); clear hb3 kS)
    | (go_at_call 26; refine (kT.out x3 a2 n2 c2 l2.out z2.out).mono ?_; rintro e x4 ⟨rfl, hb4⟩; have b4 : Hid (Below w.heap.size w x4) := b3.out.trans (hb4.mono b3.out.size); clear hb4 kT))
  go_ret
  exact ⟨rfl, b4.out⟩
end Go.Proofs.YtnjbppfanmmifaaGreatDoor
namespace Go.Proofs.YtnjbppfanmmifaaGreatDoor
open Go.RowKit
set_option linter.unusedVariables false
theorem rwidth_any {W i : Nat} (h : Wd W i) (w : World) : Calls Tryz.prog 120 #[.int .i64 (W : Nat)] w fun e w' => e = .returned (.bool true) ∧ w' = w := by
  rcases h with ⟨rfl, rfl⟩ | ⟨rfl, rfl⟩ | ⟨rfl, rfl⟩ | ⟨rfl, rfl⟩
  all_goals
    go_enter Tryz.func120, Tryz.ntmps120
    go_wp2
    go_ret
    exact ⟨rfl, rfl⟩
set_option maxHeartbeats 4000000 in
set_option maxRecDepth 100000 in
theorem putw_no {W i : Nat} (hW : Wd W i) (h8 : W < 8) (n : Nat) (hn : ¬ n < 256 ^ W) (a : Option Addr) (m c : Nat) (w : World) : Calls Tryz.prog 79 #[.slice a m c, .int .u64 (n : Nat), .int .i64 (W : Nat)] w fun e w' => e = .returned (.tuple #[.slice none 0 0, .int .i64 1]) ∧ w' = w := by
  have kW := rwidth_any hW w
  have g8 : (W : Int) < 8 := by omega
  have wx : IntKind.i64.wrap (8 * (W : Int)) = ((8 * W : Nat) : Int) := by rw [IntKind.wrap_i64]; omega
  have hs := shr8 n W h8
  have hp : 0 < n / 256 ^ W := Nat.div_pos (by omega) (Nat.pow_pos (by omega))
  have gz : (((n / 256 ^ W : Nat) : Int) != 0) = true := by simp only [bne_iff_ne, ne_eq]; omega
  generalize ((8 * W : Nat) : Int) = X at *
  generalize ((n / 256 ^ W : Nat) : Int) = Y at *
  clear hn hp h8 hW
  go_enter Tryz.func79, Tryz.ntmps79
  go_wp2_with (go_at_call 120; refine kW.mono ?_; rintro e x1 ⟨rfl, hx1⟩; obtain rfl := hx1.symm)
  refine bodyPost_ret (v := .tuple #[.slice none 0 0, .int .i64 1]) (by simp [results, Tryz.results79, go_sem, *]) rfl ⟨rfl, rfl⟩
set_option maxHeartbeats 8000000 in
set_option maxRecDepth 100000 in
theorem putw_ok {W i : Nat} (hW : Wd W i) (n : Nat) (hn : n < 256 ^ W) {f : Int} (a : Option Addr) (c : Nat) (w : World) (hb : Bytes w a [f]) (hc : 1 ≤ c ∧ c ≤ 9223372036854775807 ∧ (a = none → c = 0)) : Calls Tryz.prog 79 #[.slice a 1 c, .int .u64 (n : Nat), .int .i64 (W : Nat)] w fun e w' => (∃ v, e = .returned (.tuple #[v, .int .i64 0]) ∧ OwnsB w' w.heap.size v (f :: beB n W)) ∧ Below w.heap.size w w' := by
  have kW := rwidth_any hW w
  have hW8 : W ≤ 8 ∧ i < 4 ∧ 1 ≤ W := by rcases hW with ⟨rfl, rfl⟩ | ⟨rfl, rfl⟩ | ⟨rfl, rfl⟩ | ⟨rfl, rfl⟩ <;> decide
  have w1 : IntKind.i64.wrap ((W : Int) - 1) = (W : Int) - 1 := by rw [IntKind.wrap_i64]; omega
  have wx : IntKind.i64.wrap (8 * (W : Int)) = ((8 * W : Nat) : Int) := by rw [IntKind.wrap_i64]; omega
  have hB : Hid (Bytes w a [f] ∧ (a = none → c = 0)) := ⟨hb, hc.2.2⟩
  have h8 : Hid (W ≤ 8) := hW8.1
  have hcc : 1 ≤ c ∧ c ≤ 9223372036854775807 := ⟨hc.1, hc.2.1⟩
  have hcut : ((W : Int) < 8 ∧ Op.shift .shr .u64 (n : Int) .i64 ((8 * W : Nat) : Int) = pure (.int .u64 0)) ∨ ¬ (W : Int) < 8 := by
    by_cases h : W < 8
    · left
      refine ⟨by omega, ?_⟩
      rw [shr8 n W h, Nat.div_eq_of_lt hn]
      rfl
    · right; omega
  generalize ((8 * W : Nat) : Int) = X at *
  clear hW hW8 hn hb hc
  rcases hcut with ⟨g8, hs0⟩ | g8
  all_goals
    go_enter Tryz.func79, Tryz.ntmps79
    go_wp2_with (first
      | (go_at_call 120; refine kW.mono ?_; rintro e x1 ⟨rfl, hx1⟩; obtain rfl := hx1.symm)
      | (at_builtin; refine wpList_append_bytes rfl _ _ rfl w.heap.size (.slice none 0 0) [] [f] rfl (ownsB_nil _ _) a 1 c rfl rfl hB.out.2 hB.out.1 (by simp) (Nat.le_refl _) ?_; intro v0 x0 hO0 hg0; have A0 : Hid (WB w x0 f n W W v0) := ⟨[], hO0, grown_below (Below.refl _ _) (ownsB_nil _ _) hg0 (Nat.le_refl _), rfl, Nat.le_refl _⟩; clear hO0 hg0))
    go_loopw [8, 9] (fun s7 s8 wr => ∃ (k : Nat) (v : Value) (z : Int), s7 = v ∧ s8 = .int .i64 z ∧ Hid (z = (k : Int) - 1) ∧ Hid (WB w wr f n W k v)) (fun _ z _ => (intOf z + 1).toNat)
    case atStart => exact ⟨W, _, _, rfl, rfl, rfl, A0⟩
    case round =>
      obtain ⟨k, v, z, hv, rfl, hz, hP⟩ := hrel
      have hv' := hv.symm
      subst hv'
      obtain ⟨pre, hO, hB1, hp, hk⟩ := hP.out
      cases k with
      | zero =>
        have z0 : z = -1 := by have := hz.out; omega
        subst z0
        have hO' : Hid (OwnsB wr w.heap.size v (f :: beB n W)) := by have : pre = beB n W := (by simpa [beB] using hp); rw [← this]; exact hO
        have hB' : Hid (Below w.heap.size w wr) := hB1
        clear hO hB1 hp hk hP hz
        go_wp2
        refine bodyPost_ret (v := .tuple #[v, .int .i64 0]) (by simp [results, Tryz.results79, go_sem, *]) rfl ⟨⟨_, rfl, hO'.out⟩, hB'.out⟩
      | succ b =>
        have zb : z = (b : Int) := by have := hz.out; omega
        subst zb
        have hb8 : b < 8 := by have := h8.out; omega
        have wx2 : IntKind.i64.wrap (8 * (b : Int)) = ((8 * b : Nat) : Int) := by rw [IntKind.wrap_i64]; omega
        have hs := shr8 n b hb8
        have wc : IntKind.u8.wrap ((n / 256 ^ b : Nat) : Int) = ((n / 256 ^ b % 256 : Nat) : Int) := by rw [IntKind.wrap_u8]; omega
        have wz : IntKind.i64.wrap ((b : Int) - 1) = (b : Int) - 1 := by rw [IntKind.wrap_i64]; omega
        have hcb : 0 ≤ ((n / 256 ^ b % 256 : Nat) : Int) ∧ ((n / 256 ^ b % 256 : Nat) : Int) < 256 := by omega
        have g0 : (0 : Int) ≤ (b : Int) := by omega
        have hp2 : Hid ((pre ++ [((n / 256 ^ b % 256 : Nat) : Int)]) ++ beB n b = beB n W) := by show _ = _; rw [← hp]; simp [beB]
        have hO' : Hid (OwnsB wr w.heap.size v (f :: pre)) := hO
        have hB' : Hid (Below w.heap.size w wr) := hB1
        have hlen : Hid (pre.length ≤ 8 ∧ b + 1 ≤ W) := ⟨(by have := congrArg List.length hp; simp [beB_len] at this; have := h8.out; omega), hk⟩
        generalize ((8 * b : Nat) : Int) = X2 at *
        generalize ((n / 256 ^ b : Nat) : Int) = Y at *
        generalize ((n / 256 ^ b % 256 : Nat) : Int) = C at *
        have hC : Hid (0 ≤ C ∧ C < 256) := hcb
        clear hO hB1 hp hk hP hz A0 hcb
        go_wp2_with (at_builtin; refine wpList_append_bytes rfl _ _ rfl w.heap.size v (f :: pre) [C] rfl (hO'.out.alloc _) (some ⟨wr.heap.size, 0, none⟩) 1 1 rfl rfl (by simp) (bytes_lit wr [C] (by simpa using hC.out) (by simp [maxLen])) (by have := hlen.out; simp; omega) (Nat.le_trans hB'.out.size (alloc_below wr _).size) ?_; intro v2 x2 hO2 hg2; have b2 : Hid (Below w.heap.size w x2) := grown_below (hB'.out.trans ((alloc_below wr _).mono hB'.out.size)) (hO'.out.alloc _) hg2 (Nat.le_trans hB'.out.size (alloc_below wr _).size); have O2 : Hid (OwnsB x2 w.heap.size v2 (f :: (pre ++ [C]))) := hO2; clear hO2 hg2)
        go_roundw
        case rel => exact ⟨b, v2, (b : Int) - 1, rfl, rfl, rfl, pre ++ [C], O2.out, b2.out, hp2.out, by have := hlen.out; omega⟩
        case measure => simp [intOf]
set_option maxRecDepth 100000 in
theorem or32b : ∀ mj : Nat, mj < 8 → ∀ low : Nat, low < 32 → bits BinOp.or IntKind.u8 ((mj * 32 : Nat) : Int) (low : Int) = ((mj * 32 + low : Nat) : Int) := by decide
set_option maxHeartbeats 8000000 in
set_option maxRecDepth 100000 in
theorem rhd_any (mj n : Nat) (hm : mj < 8) (hn : n < 18446744073709551616) (w : World) : Calls Tryz.prog 45 #[.int .i64 (mj : Nat), .int .u64 (n : Nat)] w fun e w' => BytIs w w' e (hdB mj n) := by
  have h1 : Op.shift .shl .i64 (mj : Int) .u64 5 = pure (.int .i64 ((mj * 32 : Nat) : Int)) := by
    have : mj = 0 ∨ mj = 1 ∨ mj = 2 ∨ mj = 3 ∨ mj = 4 ∨ mj = 5 ∨ mj = 6 ∨ mj = 7 := by omega
    rcases this with rfl | rfl | rfl | rfl | rfl | rfl | rfl | rfl <;> rfl
  have h3 : IntKind.u8.wrap ((mj * 32 : Nat) : Int) = ((mj * 32 : Nat) : Int) := by rw [IntKind.wrap_u8]; omega
  have o0 : bits BinOp.or IntKind.u8 ((mj * 32 : Nat) : Int) 24 = fsB mj 24 := or32b mj hm 24 (by omega)
  have P0 : Hid (n < 256 ^ 1 → ∀ x : World, Below w.heap.size w x → Calls Tryz.prog 79 #[.slice (some ⟨x.heap.size, 0, none⟩) 1 1, .int .u64 (n : Nat), .int .i64 1] (x.alloc (.cells #[.int .u8 (fsB mj 24)] 5)) fun e w' => (∃ v, e = .returned (.tuple #[v, .int .i64 0]) ∧ OwnsB w' w.heap.size v (fsB mj 24 :: beB n 1)) ∧ Below w.heap.size w w') := fun hb x hx => by
    have A := alloc_below x (.cells #[.int .u8 (fsB mj 24)] 5)
    have hx2 := hx.trans (A.mono hx.size)
    exact (putw_ok (W := 1) (i := 0) (by unfold Wd; omega) n hb (f := fsB mj 24) (some ⟨x.heap.size, 0, none⟩) 1 _ (bytes_lit x [fsB mj 24] (by simpa using fsB_byte (mj := mj) (low := 24) hm (by omega)) (by simp [maxLen])) ⟨by omega, by omega, fun q => by cases q⟩).mono fun e w' ⟨⟨v, h1, h2⟩, h3⟩ => ⟨⟨v, h1, h2.base hx2.size⟩, hx2.trans (h3.mono hx2.size)⟩
  have N0 : Hid (¬ n < 256 ^ 1 → ∀ x : World, Calls Tryz.prog 79 #[.slice (some ⟨x.heap.size, 0, none⟩) 1 1, .int .u64 (n : Nat), .int .i64 1] (x.alloc (.cells #[.int .u8 (fsB mj 24)] 5)) fun e w' => e = .returned (.tuple #[.slice none 0 0, .int .i64 1]) ∧ w' = x.alloc (.cells #[.int .u8 (fsB mj 24)] 5)) := fun hb x => putw_no (W := 1) (i := 0) (by unfold Wd; omega) (by omega) n hb _ _ _ _
  have o1 : bits BinOp.or IntKind.u8 ((mj * 32 : Nat) : Int) 25 = fsB mj 25 := or32b mj hm 25 (by omega)
  have P1 : Hid (n < 256 ^ 2 → ∀ x : World, Below w.heap.size w x → Calls Tryz.prog 79 #[.slice (some ⟨x.heap.size, 0, none⟩) 1 1, .int .u64 (n : Nat), .int .i64 2] (x.alloc (.cells #[.int .u8 (fsB mj 25)] 5)) fun e w' => (∃ v, e = .returned (.tuple #[v, .int .i64 0]) ∧ OwnsB w' w.heap.size v (fsB mj 25 :: beB n 2)) ∧ Below w.heap.size w w') := fun hb x hx => by
    have A := alloc_below x (.cells #[.int .u8 (fsB mj 25)] 5)
    have hx2 := hx.trans (A.mono hx.size)
    exact (putw_ok (W := 2) (i := 1) (by unfold Wd; omega) n hb (f := fsB mj 25) (some ⟨x.heap.size, 0, none⟩) 1 _ (bytes_lit x [fsB mj 25] (by simpa using fsB_byte (mj := mj) (low := 25) hm (by omega)) (by simp [maxLen])) ⟨by omega, by omega, fun q => by cases q⟩).mono fun e w' ⟨⟨v, h1, h2⟩, h3⟩ => ⟨⟨v, h1, h2.base hx2.size⟩, hx2.trans (h3.mono hx2.size)⟩
  have N1 : Hid (¬ n < 256 ^ 2 → ∀ x : World, Calls Tryz.prog 79 #[.slice (some ⟨x.heap.size, 0, none⟩) 1 1, .int .u64 (n : Nat), .int .i64 2] (x.alloc (.cells #[.int .u8 (fsB mj 25)] 5)) fun e w' => e = .returned (.tuple #[.slice none 0 0, .int .i64 1]) ∧ w' = x.alloc (.cells #[.int .u8 (fsB mj 25)] 5)) := fun hb x => putw_no (W := 2) (i := 1) (by unfold Wd; omega) (by omega) n hb _ _ _ _
  have o2 : bits BinOp.or IntKind.u8 ((mj * 32 : Nat) : Int) 26 = fsB mj 26 := or32b mj hm 26 (by omega)
  have P2 : Hid (n < 256 ^ 4 → ∀ x : World, Below w.heap.size w x → Calls Tryz.prog 79 #[.slice (some ⟨x.heap.size, 0, none⟩) 1 1, .int .u64 (n : Nat), .int .i64 4] (x.alloc (.cells #[.int .u8 (fsB mj 26)] 5)) fun e w' => (∃ v, e = .returned (.tuple #[v, .int .i64 0]) ∧ OwnsB w' w.heap.size v (fsB mj 26 :: beB n 4)) ∧ Below w.heap.size w w') := fun hb x hx => by
    have A := alloc_below x (.cells #[.int .u8 (fsB mj 26)] 5)
    have hx2 := hx.trans (A.mono hx.size)
    exact (putw_ok (W := 4) (i := 2) (by unfold Wd; omega) n hb (f := fsB mj 26) (some ⟨x.heap.size, 0, none⟩) 1 _ (bytes_lit x [fsB mj 26] (by simpa using fsB_byte (mj := mj) (low := 26) hm (by omega)) (by simp [maxLen])) ⟨by omega, by omega, fun q => by cases q⟩).mono fun e w' ⟨⟨v, h1, h2⟩, h3⟩ => ⟨⟨v, h1, h2.base hx2.size⟩, hx2.trans (h3.mono hx2.size)⟩
  have N2 : Hid (¬ n < 256 ^ 4 → ∀ x : World, Calls Tryz.prog 79 #[.slice (some ⟨x.heap.size, 0, none⟩) 1 1, .int .u64 (n : Nat), .int .i64 4] (x.alloc (.cells #[.int .u8 (fsB mj 26)] 5)) fun e w' => e = .returned (.tuple #[.slice none 0 0, .int .i64 1]) ∧ w' = x.alloc (.cells #[.int .u8 (fsB mj 26)] 5)) := fun hb x => putw_no (W := 4) (i := 2) (by unfold Wd; omega) (by omega) n hb _ _ _ _
  have o3 : bits BinOp.or IntKind.u8 ((mj * 32 : Nat) : Int) 27 = fsB mj 27 := or32b mj hm 27 (by omega)
  have P3 : Hid (n < 256 ^ 8 → ∀ x : World, Below w.heap.size w x → Calls Tryz.prog 79 #[.slice (some ⟨x.heap.size, 0, none⟩) 1 1, .int .u64 (n : Nat), .int .i64 8] (x.alloc (.cells #[.int .u8 (fsB mj 27)] 5)) fun e w' => (∃ v, e = .returned (.tuple #[v, .int .i64 0]) ∧ OwnsB w' w.heap.size v (fsB mj 27 :: beB n 8)) ∧ Below w.heap.size w w') := fun hb x hx => by
    have A := alloc_below x (.cells #[.int .u8 (fsB mj 27)] 5)
    have hx2 := hx.trans (A.mono hx.size)
    exact (putw_ok (W := 8) (i := 3) (by unfold Wd; omega) n hb (f := fsB mj 27) (some ⟨x.heap.size, 0, none⟩) 1 _ (bytes_lit x [fsB mj 27] (by simpa using fsB_byte (mj := mj) (low := 27) hm (by omega)) (by simp [maxLen])) ⟨by omega, by omega, fun q => by cases q⟩).mono fun e w' ⟨⟨v, h1, h2⟩, h3⟩ => ⟨⟨v, h1, h2.base hx2.size⟩, hx2.trans (h3.mono hx2.size)⟩
  by_cases hs : n < 24
  · have hE : hdB mj n = [fsB mj n] := by unfold hdB; rw [if_pos hs]
    have g1 : (n : Int) < 24 := by omega
    have on : bits BinOp.or IntKind.u8 ((mj * 32 : Nat) : Int) (n : Int) = fsB mj n := or32b mj hm n (by omega)
    have wn : IntKind.u8.wrap (n : Int) = (n : Int) := by rw [IntKind.wrap_u8]; omega
    have hfb := fsB_byte (mj := mj) (low := n) hm (by omega)
    rw [hE]
    unfold BytIs
    clear P0 P1 P2 P3 N0 N1 N2 o0 o1 o2 o3 hE
    generalize fsB mj n = f at *
    generalize ((mj * 32 : Nat) : Int) = T at *
    have hO : Hid (OwnsB (w.alloc (.cells #[.int .u8 f] 5)) w.heap.size (.slice (some ⟨w.heap.size, 0, none⟩) 1 1) [f] ∧ Below w.heap.size w (w.alloc (.cells #[.int .u8 f] 5))) := ⟨ownsB_one w hfb, alloc_below w _⟩
    clear hfb hs hm hn
    go_enter Tryz.func45, Tryz.ntmps45
    go_wp2
    go_ret
    exact ⟨⟨_, rfl, hO.out.1⟩, hO.out.2⟩
  have g1 : ¬ (n : Int) < 24 := by omega
  have E0 : Hid (n < 256 ^ 1 → hdB mj n = fsB mj 24 :: beB n 1) := fun h => by unfold hdB; rw [if_neg hs, if_pos (by omega)]
  have E1 : Hid (¬ n < 256 ^ 1 → n < 256 ^ 2 → hdB mj n = fsB mj 25 :: beB n 2) := fun h0 h => by unfold hdB; rw [if_neg hs, if_neg (by omega), if_pos (by omega)]
  have E2 : Hid (¬ n < 256 ^ 2 → n < 256 ^ 4 → hdB mj n = fsB mj 26 :: beB n 4) := fun h0 h => by unfold hdB; rw [if_neg hs, if_neg (by omega), if_neg (by omega), if_pos (by omega)]
  have E3 : Hid (¬ n < 256 ^ 4 → hdB mj n = fsB mj 27 :: beB n 8) := fun h0 => by unfold hdB; rw [if_neg hs, if_neg (by omega), if_neg (by omega), if_neg (by omega)]
  have hn8 : Hid (n < 256 ^ 8) := by show _ < _; omega
  unfold BytIs
  generalize hdB mj n = R at *
  generalize ((mj * 32 : Nat) : Int) = T at *
  generalize fsB mj 24 = f0 at *
  generalize fsB mj 25 = f1 at *
  generalize fsB mj 26 = f2 at *
  generalize fsB mj 27 = f3 at *
  have I0 : Hid (Below w.heap.size w w) := Below.refl _ _
  clear hs hm hn
  go_enter Tryz.func45, Tryz.ntmps45
  go_wp2
  go_loopw [6, 7, 8] (fun s6 _ _ wr => ∃ z : Int, s6 = .int .i64 z ∧ Hid (z = 0 ∨ (z = 1 ∧ ¬ n < 256 ^ 1) ∨ (z = 2 ∧ ¬ n < 256 ^ 2) ∨ (z = 3 ∧ ¬ n < 256 ^ 4)) ∧ Hid (Below w.heap.size w wr)) (fun z _ _ _ => (4 - intOf z).toNat)
  case atStart => exact ⟨0, rfl, .inl rfl, I0⟩
  case round =>
    obtain ⟨z, rfl, hZ, hB⟩ := hrel
    rcases hZ.out with h | ⟨h, c1⟩ | ⟨h, c2⟩ | ⟨h, c3⟩
    · subst h
      by_cases hb : n < 256 ^ 1
      · have hE : Hid (R = f0 :: beB n 1) := E0.out hb
        have kP := P0.out hb wr hB.out
        clear hZ P1 P2 P3 N1 N2 E0 E1 E2 E3  hb
        go_wp2_with (go_at_call 79; refine kP.mono ?_; rintro e x1 ⟨⟨v1, rfl, hO1⟩, hb1⟩; have O1 : Hid (OwnsB x1 w.heap.size v1 R) := (by show OwnsB _ _ _ _; rw [hE.out]; exact hO1); have b1 : Hid (Below w.heap.size w x1) := hb1; clear hO1 hb1)
        go_ret
        exact ⟨⟨_, rfl, O1.out⟩, b1.out⟩
      · have kN := N0.out hb wr
        have hb' : Hid (¬ n < 256 ^ 1) := hb
        have b1 : Hid (Below w.heap.size w (wr.alloc (.cells #[.int .u8 f0] 5))) := hB.out.trans ((alloc_below wr _).mono hB.out.size)
        clear hZ P0 P1 P2 P3 N1 N2 E0 E1 E2 E3  hb
        go_wp2_with (go_at_call 79; refine kN.mono ?_; rintro e x1 ⟨rfl, hx1⟩; obtain rfl := hx1.symm)
        go_roundw
        case rel => exact ⟨1, rfl, .inr (.inl ⟨rfl, hb'.out⟩), b1⟩
        case measure => simp [intOf]
    · subst h
      by_cases hb : n < 256 ^ 2
      · have hE : Hid (R = f1 :: beB n 2) := E1.out c1 hb
        have kP := P1.out hb wr hB.out
        clear hZ P0 P2 P3 N0 N2 E0 E1 E2 E3 c1 hb
        go_wp2_with (go_at_call 79; refine kP.mono ?_; rintro e x1 ⟨⟨v1, rfl, hO1⟩, hb1⟩; have O1 : Hid (OwnsB x1 w.heap.size v1 R) := (by show OwnsB _ _ _ _; rw [hE.out]; exact hO1); have b1 : Hid (Below w.heap.size w x1) := hb1; clear hO1 hb1)
        go_ret
        exact ⟨⟨_, rfl, O1.out⟩, b1.out⟩
      · have kN := N1.out hb wr
        have hb' : Hid (¬ n < 256 ^ 2) := hb
        have b1 : Hid (Below w.heap.size w (wr.alloc (.cells #[.int .u8 f1] 5))) := hB.out.trans ((alloc_below wr _).mono hB.out.size)
        clear hZ P0 P1 P2 P3 N0 N2 E0 E1 E2 E3 c1 hb
        go_wp2_with (go_at_call 79; refine kN.mono ?_; rintro e x1 ⟨rfl, hx1⟩; obtain rfl := hx1.symm)
        go_roundw
        case rel => exact ⟨2, rfl, .inr (.inr (.inl ⟨rfl, hb'.out⟩)), b1⟩
        case measure => simp [intOf]
    · subst h
      by_cases hb : n < 256 ^ 4
      · have hE : Hid (R = f2 :: beB n 4) := E2.out c2 hb
        have kP := P2.out hb wr hB.out
        clear hZ P0 P1 P3 N0 N1 E0 E1 E2 E3 c2 hb
        go_wp2_with (go_at_call 79; refine kP.mono ?_; rintro e x1 ⟨⟨v1, rfl, hO1⟩, hb1⟩; have O1 : Hid (OwnsB x1 w.heap.size v1 R) := (by show OwnsB _ _ _ _; rw [hE.out]; exact hO1); have b1 : Hid (Below w.heap.size w x1) := hb1; clear hO1 hb1)
        go_ret
        exact ⟨⟨_, rfl, O1.out⟩, b1.out⟩
      · have kN := N2.out hb wr
        have hb' : Hid (¬ n < 256 ^ 4) := hb
        have b1 : Hid (Below w.heap.size w (wr.alloc (.cells #[.int .u8 f2] 5))) := hB.out.trans ((alloc_below wr _).mono hB.out.size)
        clear hZ P0 P1 P2 P3 N0 N1 E0 E1 E2 E3 c2 hb
        go_wp2_with (go_at_call 79; refine kN.mono ?_; rintro e x1 ⟨rfl, hx1⟩; obtain rfl := hx1.symm)
        go_roundw
        case rel => exact ⟨3, rfl, .inr (.inr (.inr ⟨rfl, hb'.out⟩)), b1⟩
        case measure => simp [intOf]
    · subst h
      have hE : Hid (R = f3 :: beB n 8) := E3.out c3
      have kP := P3.out hn8.out wr hB.out
      clear hZ P0 P1 P2 N0 N1 N2 E0 E1 E2 E3 c3
      go_wp2_with (go_at_call 79; refine kP.mono ?_; rintro e x1 ⟨⟨v1, rfl, hO1⟩, hb1⟩; have O1 : Hid (OwnsB x1 w.heap.size v1 R) := (by show OwnsB _ _ _ _; rw [hE.out]; exact hO1); have b1 : Hid (Below w.heap.size w x1) := hb1; clear hO1 hb1)
      go_ret
      exact ⟨⟨_, rfl, O1.out⟩, b1.out⟩
end Go.Proofs.YtnjbppfanmmifaaGreatDoor
namespace Go.Proofs.YtnjbppfanmmifaaGreatDoor
open Go.RowKit
set_option linter.unusedVariables false
set_option maxHeartbeats 4000000 in
set_option maxRecDepth 100000 in
theorem shead2_no (m : Int) (h : m < 0 ∨ 6 < m) (n : Nat) (w : World) : Calls Tryz.prog 28 #[.int .i64 m, .int .u64 (n : Nat)] w fun e w' => e = .returned (.tuple #[.slice none 0 0, .int .i64 1]) ∧ w' = w := by
  by_cases h0 : m < 0
  · clear h
    go_enter Tryz.func28, Tryz.ntmps28
    go_wp2
    refine bodyPost_ret (v := .tuple #[.slice none 0 0, .int .i64 1]) (by simp [results, Tryz.results28, go_sem, *]) rfl ⟨rfl, rfl⟩
  · have h6 : (6 : Int) < m := by omega
    clear h
    go_enter Tryz.func28, Tryz.ntmps28
    go_wp2
    refine bodyPost_ret (v := .tuple #[.slice none 0 0, .int .i64 1]) (by simp [results, Tryz.results28, go_sem, *]) rfl ⟨rfl, rfl⟩
set_option maxHeartbeats 4000000 in
set_option maxRecDepth 100000 in
theorem shead2_ok (mj n : Nat) (hm : mj ≤ 6) (hn : n < 18446744073709551616) {L : Nat} {w : World} (hD : Dt L w) (hL : L ≤ w.heap.size) : Calls Tryz.prog 28 #[.int .i64 (mj : Nat), .int .u64 (n : Nat)] w fun e w' => (∃ v, e = .returned (.tuple #[v, .int .i64 0]) ∧ OwnsB w' w.heap.size v (hdB mj n)) ∧ Below w.heap.size w w' := by
  have kH := shead_any mj n (by omega) hn hD hL
  have h0 : ¬ (mj : Int) < 0 := by omega
  have h6 : ¬ (6 : Int) < (mj : Int) := by omega
  generalize hdB mj n = R at *
  unfold BytIs at kH
  clear hm hn hD hL
  go_enter Tryz.func28, Tryz.ntmps28
  go_wp2_with (go_at_call 44; refine kH.mono ?_; rintro e x1 ⟨⟨v1, rfl, hO1⟩, hb1⟩)
  refine bodyPost_ret (v := .tuple #[v1, .int .i64 0]) (by simp [results, Tryz.results28, go_sem, *]) rfl ⟨⟨_, rfl, hO1⟩, hb1⟩
set_option maxHeartbeats 4000000 in
set_option maxRecDepth 100000 in
theorem rhead2_no (m : Int) (h : m < 0 ∨ 6 < m) (n : Nat) (w : World) : Calls Tryz.prog 29 #[.int .i64 m, .int .u64 (n : Nat)] w fun e w' => e = .returned (.tuple #[.slice none 0 0, .int .i64 1]) ∧ w' = w := by
  by_cases h0 : m < 0
  · clear h
    go_enter Tryz.func29, Tryz.ntmps29
    go_wp2
    refine bodyPost_ret (v := .tuple #[.slice none 0 0, .int .i64 1]) (by simp [results, Tryz.results29, go_sem, *]) rfl ⟨rfl, rfl⟩
  · have h6 : (6 : Int) < m := by omega
    clear h
    go_enter Tryz.func29, Tryz.ntmps29
    go_wp2
    refine bodyPost_ret (v := .tuple #[.slice none 0 0, .int .i64 1]) (by simp [results, Tryz.results29, go_sem, *]) rfl ⟨rfl, rfl⟩
set_option maxHeartbeats 4000000 in
set_option maxRecDepth 100000 in
theorem rhead2_ok (mj n : Nat) (hm : mj ≤ 6) (hn : n < 18446744073709551616) {L : Nat} {w : World} (hD : Dt L w) (hL : L ≤ w.heap.size) : Calls Tryz.prog 29 #[.int .i64 (mj : Nat), .int .u64 (n : Nat)] w fun e w' => (∃ v, e = .returned (.tuple #[v, .int .i64 0]) ∧ OwnsB w' w.heap.size v (hdB mj n)) ∧ Below w.heap.size w w' := by
  have kH := rhd_any mj n (by omega) hn w
  have h0 : ¬ (mj : Int) < 0 := by omega
  have h6 : ¬ (6 : Int) < (mj : Int) := by omega
  generalize hdB mj n = R at *
  unfold BytIs at kH
  clear hm hn hD hL
  go_enter Tryz.func29, Tryz.ntmps29
  go_wp2_with (go_at_call 45; refine kH.mono ?_; rintro e x1 ⟨⟨v1, rfl, hO1⟩, hb1⟩)
  refine bodyPost_ret (v := .tuple #[v1, .int .i64 0]) (by simp [results, Tryz.results29, go_sem, *]) rfl ⟨⟨_, rfl, hO1⟩, hb1⟩
set_option maxHeartbeats 8000000 in
set_option maxRecDepth 100000 in
theorem wsheads (m : Int) (n : Nat) (hn : n < 18446744073709551616) {L : Nat} {w : World} (hC : Cv L w) (hL : L ≤ w.heap.size) : Calls Tryz.prog 11 #[.int .i64 m, .int .u64 (n : Nat)] w fun e w' => e = .returned (.bool true) ∧ Below w.heap.size w w' := by
  have kL : Hid (∀ x, Below w.heap.size w x → Calls Tryz.prog 27 #[] x fun e w' => e = .returned (.bool true) ∧ Below x.heap.size x w') := fun x hx => salive_any x (hC.on (hx.mono hL)) (Nat.le_trans hL hx.size)
  by_cases h : m < 0 ∨ 6 < m
  · have k1 := shead2_no m h n w
    have k2 := rhead2_no m h n w
    have kS := sameZ_any none none 0 0 0 0 [] [] w rfl rfl (bytes_nil w) (bytes_nil w)
    rw [decide_eq_true rfl] at kS
    clear h hC hL hn
    go_enter Tryz.func11, Tryz.ntmps11
    go_wp2_with (first
      | (go_at_call 28; refine k1.mono ?_; rintro e x1 ⟨rfl, hx1⟩; obtain rfl := hx1.symm; clear k1)
      | (go_at_call 29; refine k2.mono ?_; rintro e x2 ⟨rfl, hx2⟩; obtain rfl := hx2.symm; clear k2)
      | (go_at_call 26; refine kS.mono ?_; rintro e x3 ⟨rfl, hb3⟩; have b3 : Hid (Below w.heap.size w x3) := hb3; clear hb3 kS)
      | (go_at_call 27; refine (kL.out _ b3.out).mono ?_; rintro e x4 ⟨rfl, hb4⟩; have b4 : Hid (Below w.heap.size w x4) := b3.out.trans (hb4.mono b3.out.size); clear hb4))
    go_ret
    exact ⟨rfl, b4.out⟩
  · obtain ⟨mj, rfl⟩ : ∃ mj : Nat, m = (mj : Int) := ⟨m.toNat, by omega⟩
    have k1 := shead2_ok mj n (by omega) hn hC.2 hL
    have k2 : Hid (∀ x, Below w.heap.size w x → Calls Tryz.prog 29 #[.int .i64 (mj : Nat), .int .u64 (n : Nat)] x fun e w' => (∃ v, e = .returned (.tuple #[v, .int .i64 0]) ∧ OwnsB w' x.heap.size v (hdB mj n)) ∧ Below x.heap.size x w') := fun x hx => rhead2_ok mj n (by omega) hn (hC.on (hx.mono hL)).2 (Nat.le_trans hL hx.size)
    have kS : Hid (∀ x a1 n1 c1 a2 n2 c2, (hdB mj n).length = n1 → (hdB mj n).length = n2 → Bytes x a1 (hdB mj n) → Bytes x a2 (hdB mj n) → Calls Tryz.prog 26 #[.slice a1 n1 c1, .slice a2 n2 c2] x fun e w' => e = .returned (.bool true) ∧ Below x.heap.size x w') := fun x a1 n1 c1 a2 n2 c2 h1 h2 y1 y2 => by
      have := sameZ_any a1 a2 n1 n2 c1 c2 (hdB mj n) (hdB mj n) x h1 h2 y1 y2
      rw [decide_eq_true rfl] at this
      exact this
    generalize hdB mj n = R at *
    clear h hC hL hn
    go_enter Tryz.func11, Tryz.ntmps11
    go_wp2_with (first
      | (go_at_call 28; refine k1.mono ?_; rintro e x1 ⟨⟨v1, rfl, hO1⟩, hb1⟩; obtain ⟨a1, n1, c1, rfl, l1, -, -, -, y1⟩ := hO1.form; have b1 : Hid (Below w.heap.size w x1) := hb1; clear k1 hO1 hb1)
      | (go_at_call 29; refine (k2.out _ b1.out).mono ?_; rintro e x2 ⟨⟨v2, rfl, hO2⟩, hb2⟩; obtain ⟨a2, n2, c2, rfl, l2, -, -, -, y2⟩ := hO2.form; have z1 : Hid (Bytes x2 a1 R) := y1.out.kept hb2; have b2 : Hid (Below w.heap.size w x2) := b1.out.trans (hb2.mono b1.out.size); clear k2 hO2 hb2)
      | (go_at_call 26; refine (kS.out x2 a1 n1 c1 a2 n2 c2 l1.out l2.out z1.out y2.out).mono ?_; rintro e x3 ⟨rfl, hb3⟩; have b3 : Hid (Below w.heap.size w x3) := b2.out.trans (hb3.mono b2.out.size); clear hb3 kS)
      | (go_at_call 27; refine (kL.out _ b3.out).mono ?_; rintro e x4 ⟨rfl, hb4⟩; have b4 : Hid (Below w.heap.size w x4) := b3.out.trans (hb4.mono b3.out.size); clear hb4))
    go_ret
    exact ⟨rfl, b4.out⟩
end Go.Proofs.YtnjbppfanmmifaaGreatDoor
