/-
  Nodes appended to nodes of the call's own: the row stays where it is, or lies in a new block.
  Bytes turned into strings, and compared: they are equal just where the bytes are.
  When two trees are the same: tree.same, with slices.EqualFunc.
  Trees in new memory: what they are; tree.cloneAll.
  The library functions of this program, held against those that the shelf knows.
  Which texts are numbers: nat.Right, and the document's.
-/
import Derived.Test.YtnjbppfanmmifaaGreatDoorP2
import Derived.Test.YtnjbppfanmmifaaGreatDoorP1
import Derived.Test.YtnjbppfanmmifaaGreatDoorProg
import Derived.Shelf.Abstract
import Derived.Shelf.Strings.Trim
import Derived.Shelf.Strconv.Itoa0
import Derived.Shelf.Strconv.Itoa1
import Derived.Shelf.LaysM
import Derived.Shelf.Strconv.Itoa2
import Derived.Shelf.Strconv.Itoa3
import Derived.Shelf.Strconv.Clone
import Derived.Ground.MpProg
import Derived.Shelf.Pu.ParseUintPublic10
import Derived.Shelf.Strings.Prefix
namespace Go.Proofs.YtnjbppfanmmifaaGreatDoor
open Go.RowKit
set_option linter.unusedVariables false
theorem ok_inj {α : Type} {v v' : α} {w w' : World} (h : (Result.ok v w : Result α) = .ok v' w') : v = v' := by cases h; rfl
section
variable {tn : TypeId}
end
theorem infoN : (Tryz.prog.info? 26).map (fun i => (i.zero, i.size, i.bytes)) = some (some (.agg #[.int .i64 0, .int .u64 0, .bool false, .string ⟨#[]⟩, .int .i64 0, .string ⟨#[]⟩, .slice none 0 0, .slice none 0 0, .slice none 0 0]), 9, 136) := by kernel_rfl
end Go.Proofs.YtnjbppfanmmifaaGreatDoor
namespace Go.Proofs.YtnjbppfanmmifaaGreatDoor
open Go.RowKit
theorem conv_str {w : World} {a : Option Addr} {zs : List Int} (hb : Bytes w a zs) (m cap : Nat) (hm : zs.length = m) :
  (convert 22 9 (.slice a m cap)).run Tryz.prog w = .ok (.string (strOfNums zs)) w := by
 subst hm
 rcases hb.2.2 with rfl | ⟨b, off, rfl, hc⟩
 ·cases a with
  | none => rw [run_convert_bytes_nil w 22 5 Tryz.underlying22 Tryz.underlying5 _ cap 9 Tryz.underlying9]; rfl
  | some x =>
   rw [run_convert_bytes_string w 22 9 5 _ _ cap Tryz.underlying22 Tryz.underlying5 Tryz.underlying9]
   have hl := run_loadCells_list (P := Tryz.prog) w x [] (by simp)
   exact run_bytesToString w x 0 cap [] hl
 ·exact run_convert_bytes_arg w 22 5 Tryz.underlying22 Tryz.underlying5 b off zs.length cap zs rfl hc 9 Tryz.underlying9
theorem str_inj {xs ys : List Int} (hx : ∀ c ∈ xs, 0 ≤ c ∧ c < 256) (hy : ∀ c ∈ ys, 0 ≤ c ∧ c < 256)
  (h : (xs.map fun n => UInt8.ofNat n.toNat) = ys.map fun n => UInt8.ofNat n.toNat) : xs = ys := by
 induction xs generalizing ys with
 | nil => cases ys with
  | nil => rfl
  | cons y ys => simp at h
 | cons x xs ih =>
  cases ys with
  | nil => simp at h
  | cons y ys =>
   simp only [List.map_cons, List.cons.injEq] at h
   have h1 := hx x (by simp)
   have h2 := hy y (by simp)
   have h3 : (UInt8.ofNat x.toNat).toNat = (UInt8.ofNat y.toNat).toNat := by rw [h.1]
   rw [UInt8.toNat_ofNat', UInt8.toNat_ofNat'] at h3
   have h4 : x = y := by
    rw [Nat.mod_eq_of_lt (by omega), Nat.mod_eq_of_lt (by omega)] at h3
    omega
   rw [h4, ih (fun c hc => hx c (by simp [hc])) (fun c hc => hy c (by simp [hc])) h.2]
theorem str_eq {xs ys : List Int} (hx : ∀ c ∈ xs, 0 ≤ c ∧ c < 256) (hy : ∀ c ∈ ys, 0 ≤ c ∧ c < 256) :
  ((strOfNums xs).toList == (strOfNums ys).toList) = decide (xs = ys) := by
 rw [ByteArray.toList_eq, ByteArray.toList_eq, strOfNums_data, strOfNums_data, Bool.eq_iff_iff, beq_iff_eq, decide_eq_true_iff]
 exact ⟨str_inj hx hy, fun h => by rw [h]⟩
end Go.Proofs.YtnjbppfanmmifaaGreatDoor
namespace Go.Proofs.YtnjbppfanmmifaaGreatDoor
open Go.RowKit
set_option linter.unusedVariables false
theorem beq_any (a b : Option Addr) (n m ca cb : Nat) (x y : List Int) (w : World) (hx : x.length = n) (hy : y.length = m) (ha : Bytes w a x) (hb : Bytes w b y) (v : Bool) (hv : v = true ↔ x = y) :
  Calls Tryz.prog 114 #[.slice a n ca, .slice b m cb] w fun e w' => e = .returned (.bool v) ∧ w' = w := by
 have c1 := conv_str ha n ca hx
 have c2 := conv_str hb m cb hy
 have hE : ((strOfNums x).toList == (strOfNums y).toList) = v := by
  rw [Bool.eq_iff_iff, hv, str_eq ha.1 hb.1, decide_eq_true_iff]
 clear hx hy ha hb hv
 generalize strOfNums x = p at *
 generalize strOfNums y = q at *
 go_enter Tryz.func114, Tryz.ntmps114
 go_wp2
 go_ret
 exact ⟨rfl, rfl⟩
def SameAt (D : Nat) : Prop := ∀ (t u : Tr) (a b : Nb) (w : World) (v : Bool), Nd D w a t → Nd D w b u → (v = true ↔ t = u) → Calls Tryz.prog 75 #[.agg a.arr, .agg b.arr] w fun e w' => e = .returned (.bool v) ∧ Below w.heap.size w w'
theorem row_el {D : Nat} {w w' : World} {a : Option Addr} {len cap : Nat} {l : List Tr} (h : RowN (Nd D w) w a len cap l) (hb : Below w.heap.size w w') {i : Nat} (hi : i < l.length) :
  ∃ (bk off : Nat) (nb : Nb), a = some ⟨bk, off, none⟩ ∧ (∀ j, j < 9 → w'.cell? ⟨bk, off + (i * 9 + j), none⟩ = nb.cells[j]?) ∧ Nd D w' nb l[i] ∧ bk < w.heap.size := by
 have hk := h.kept (R := Nd D w') hb (fun _ _ _ q => q.kept hb)
 obtain ⟨_, _, h2⟩ := h
 obtain ⟨_, _, h2'⟩ := hk
 rcases h2 with rfl | ⟨b, off, ha, hc⟩
 ·cases hi
 ·rcases h2' with rfl | ⟨b', off', ha', hc'⟩
  ·cases hi
  ·obtain ⟨nb, hn, hQ⟩ := hc' i hi
   rw [ha] at ha'
   cases ha'
   obtain ⟨nb0, hn0, _⟩ := hc i hi
   exact ⟨b, off, nb, ha, hn, hQ, some_block ((hn0 0 (by omega)).trans (List.getElem?_eq_getElem (by simp [Nb.cells])))⟩
set_option maxHeartbeats 4000000 in
set_option maxRecDepth 100000 in
theorem eqf_any {D : Nat} (ih : SameAt D) (a b : Option Addr) (n m ca cb : Nat) (x y : List Tr) (w : World) (ha : RowN (Nd D w) w a n ca x) (hb : RowN (Nd D w) w b m cb y) (v : Bool) (hv : v = true ↔ x = y) :
  Calls Tryz.prog 115 #[.slice a n ca, .slice b m cb, .func (.func 75) #[] #[]] w fun e w' => e = .returned (.bool v) ∧ Below w.heap.size w w' := by
 have e36 : ∀ args w, (callFunc 75 args).run Tryz.prog w = .ok (.enter 75 args) w := enters_of Tryz.func75 (by kernel_rfl) rfl
 have hx : Hid (x.length = n) := ha.1
 have hy : Hid (y.length = m) := hb.1
 have mk := ha.2.1.1
 have mk' := ha.2.1.2.1
 have mi := hb.2.1.1
 have mi' := hb.2.1.2.1
 unfold maxLen at mk' mi'
 have hA : Hid (RowN (Nd D w) w a n ca x) := ha
 have hB : Hid (RowN (Nd D w) w b m cb y) := hb
 have hV : Hid (v = true ↔ x = y) := hv
 clear ha hb hv
 by_cases hnm : n = m
 ·subst hnm
  go_enter Tryz.func115, Tryz.ntmps115
  go_wp2
  go_loopw [7, 8, 9, 17] (fun _ _ _ s17 wr => ∃ (i : Nat), i ≤ n ∧ s17 = .int .i64 i ∧ Hid (Below w.heap.size w wr) ∧ Hid (x.take i = y.take i)) (fun _ _ _ i _ => n - (intOf i).toNat)
  case atStart => exact ⟨0, Nat.zero_le _, rfl, Below.refl _ _, rfl⟩
  case round =>
   obtain ⟨i, him, rfl, hbl, hT⟩ := hrel
   by_cases hlt : i < n
   ·have hz : (i : Int) < (n : Int) := by omega
    have hix : i < x.length := by rw [hx.out]; exact hlt
    have hiy : i < y.length := by rw [hy.out]; exact hlt
    obtain ⟨bk, ok, nk, rfl, hck, hNk, hbk⟩ := row_el hA.out hbl.out hix
    obtain ⟨bi, oi, ni, rfl, hci, hNi, hbi⟩ := row_el hB.out hbl.out hiy
    obtain ⟨f0, f1, f2, f3, f4, f5, f6, f7, f8⟩ := elem_fields hck
    obtain ⟨p0, p1, p2, p3, p4, p5, p6, p7, p8⟩ := elem_fields hci
    have hw : Hid (w.heap.size ≤ wr.heap.size) := hbl.out.size
    have lk : bk < wr.heap.size := Nat.lt_of_lt_of_le hbk hbl.out.size
    have li : bi < wr.heap.size := Nat.lt_of_lt_of_le hbi hbl.out.size
    have b1 := alloc_below wr (.cells nk.arr 26)
    have b2 := alloc_below (wr.alloc (.cells nk.arr 26)) (.cells ni.arr 26)
    have b12 : Hid (Below wr.heap.size wr ((wr.alloc (.cells nk.arr 26)).alloc (.cells ni.arr 26))) := b1.trans (b2.mono b1.size)
    have kk := fun v' => ih x[i] y[i] nk ni ((wr.alloc (.cells nk.arr 26)).alloc (.cells ni.arr 26)) v' ((hNk.kept b1).kept b2) ((hNi.kept b1).kept b2)
    have wi : IntKind.i64.wrap ((i : Int) + 1) = (i : Int) + 1 := by rw [IntKind.wrap_i64]; omega
    by_cases hE : x[i] = y[i]
    ·have k1 := kk true (by simp [hE])
     have hT' : Hid (x.take (i + 1) = y.take (i + 1)) := by
      show _ = _
      rw [List.take_succ_eq_append_getElem hix, List.take_succ_eq_append_getElem hiy, hT.out, hE]
     clear hck hci hNk hNi kk hE b1 b2 hbk hbi ih
     go_wp2_with (go_at_fn 75; refine k1.mono ?_; rintro e w1 ⟨rfl, hb1⟩)
     go_roundw
     case rel => exact ⟨i + 1, by omega, by go_num, (hbl.out.trans (b12.out.mono hw.out)).trans (hb1.mono (Nat.le_trans hw.out b12.out.size)), hT'⟩
     case measure => simp [intOf]; omega
    ·have k1 := kk false (by simp [hE])
     have hv : v = false := by
      cases hv : v with
      | false => rfl
      | true =>
       exfalso
       have := hV.out.1 hv
       subst this
       exact hE rfl
     subst hv
     clear hck hci hNk hNi kk hE b1 b2 hbk hbi ih
     go_wp2_with (go_at_fn 75; refine k1.mono ?_; rintro e w1 ⟨rfl, hb1⟩)
     go_ret
     exact ⟨rfl, (hbl.out.trans (b12.out.mono hw.out)).trans (hb1.mono (Nat.le_trans hw.out b12.out.size))⟩
   ·have hz : ¬ (i : Int) < (n : Int) := by omega
    have hv : v = true := hV.out.2 (by
     have h1 := hT.out
     rwa [List.take_of_length_le (by rw [hx.out]; omega), List.take_of_length_le (by rw [hy.out]; omega)] at h1)
    subst hv
    clear ih
    go_wp2
    go_ret
    exact ⟨rfl, hbl.out⟩
 ·have hv : v = false := by
   cases hv : v with
   | false => rfl
   | true =>
    exfalso
    have h1 := hV.out.1 hv
    apply hnm
    rw [← hx.out, ← hy.out, h1]
  subst hv
  have hz : (n : Int) ≠ (m : Int) := by omega
  clear ih
  go_enter Tryz.func115, Tryz.ntmps115
  go_wp2
  go_ret
  exact ⟨rfl, Below.refl _ _⟩
end Go.Proofs.YtnjbppfanmmifaaGreatDoor
namespace Go.Proofs.YtnjbppfanmmifaaGreatDoor
open Go.RowKit
set_option linter.unusedVariables false
end Go.Proofs.YtnjbppfanmmifaaGreatDoor
namespace Go.Proofs.YtnjbppfanmmifaaGreatDoor
open Go Go.Proofs Go.Shelf
def lays161_ren : Go.Shelf.Ren := ⟨fun | 161 => 234 | 231 => 242 | 227 => 243 | 233 => 244 | 235 => 245 | 228 => 250 | 197 => 251 | 151 => 252 | 260 => 255 | 152 => 256 | 137 => 258 | 119 => 259 | 224 => 260 | 225 => 261 | 217 => 262 | 266 => 263 | n => n, fun | 9 => 9 | 4 => 4 | 3 => 3 | 5 => 5 | 117 => 233 | 116 => 232 | 0 => 0 | 124 => 236 | 105 => 216 | 21 => 21 | 119 => 237 | 46 => 66 | 139 => 240 | 138 => 239 | n => n, fun | 3 => 6 | 4 => 7 | n => n⟩
theorem lays161 : Go.Proofs.Lays.n161 Tryz.prog lays161_ren := {
 mixed := by kernel_rfl
 f119 := Tryz.func259.trans (congrArg some (by kernel_rfl))
 f137 := Tryz.func258.trans (congrArg some (by kernel_rfl))
 f151 := Tryz.func252.trans (congrArg some (by kernel_rfl))
 f152 := Tryz.func256.trans (congrArg some (by kernel_rfl))
 f161 := Tryz.func234.trans (congrArg some (by kernel_rfl))
 f197 := Tryz.func251.trans (congrArg some (by kernel_rfl))
 f217 := Tryz.func262.trans (congrArg some (by kernel_rfl))
 f224 := Tryz.func260.trans (congrArg some (by kernel_rfl))
 f225 := Tryz.func261.trans (congrArg some (by kernel_rfl))
 f227 := Tryz.func243.trans (congrArg some (by kernel_rfl))
 f228 := Tryz.func250.trans (congrArg some (by kernel_rfl))
 f231 := Tryz.func242.trans (congrArg some (by kernel_rfl))
 f233 := Tryz.func244.trans (congrArg some (by kernel_rfl))
 f235 := Tryz.func245.trans (congrArg some (by kernel_rfl))
 f260 := Tryz.func255.trans (congrArg some (by kernel_rfl))
 f266 := Tryz.func263.trans (congrArg some (by kernel_rfl))
 t0 := Tryz.underlying0
 a0 := Tryz.isAgg0
 z0 := Tryz.sizeOf0
 v0 := Tryz.zeroValue0
 t3 := Tryz.underlying3
 a3 := Tryz.isAgg3
 z3 := Tryz.sizeOf3
 v3 := Tryz.zeroValue3
 t4 := Tryz.underlying4
 a4 := Tryz.isAgg4
 z4 := Tryz.sizeOf4
 v4 := Tryz.zeroValue4
 t5 := Tryz.underlying5
 a5 := Tryz.isAgg5
 z5 := Tryz.sizeOf5
 v5 := Tryz.zeroValue5
 t9 := Tryz.underlying9
 a9 := Tryz.isAgg9
 z9 := Tryz.sizeOf9
 v9 := Tryz.zeroValue9
 t21 := Tryz.underlying21
 a21 := Tryz.isAgg21
 z21 := Tryz.sizeOf21
 v21 := Tryz.zeroValue21
 t46 := Tryz.underlying66
 a46 := Tryz.isAgg66
 z46 := Tryz.sizeOf66
 v46 := Tryz.zeroValue66
 t105 := Tryz.underlying216
 a105 := Tryz.isAgg216
 z105 := Tryz.sizeOf216
 v105 := Tryz.zeroValue216
 t116 := Tryz.underlying232
 a116 := Tryz.isAgg232
 z116 := Tryz.sizeOf232
 t117 := Tryz.underlying233
 a117 := Tryz.isAgg233
 z117 := Tryz.sizeOf233
 v117 := Tryz.zeroValue233
 t119 := Tryz.underlying237
 a119 := Tryz.isAgg237
 z119 := Tryz.sizeOf237
 t124 := Tryz.underlying236
 a124 := Tryz.isAgg236
 z124 := Tryz.sizeOf236
 v124 := Tryz.zeroValue236
 t138 := Tryz.underlying239
 a138 := Tryz.isAgg239
 z138 := Tryz.sizeOf239
 v138 := Tryz.zeroValue239
 t139 := Tryz.underlying240
 a139 := Tryz.isAgg240
 z139 := Tryz.sizeOf240
 v139 := Tryz.zeroValue240
 g3 := by kernel_rfl
 g4 := by kernel_rfl }
def lays162_ren : Go.Shelf.Ren := ⟨fun | 162 => 235 | 232 => 246 | 227 => 243 | 234 => 247 | 236 => 248 | 228 => 250 | 271 => 253 | 151 => 252 | 120 => 257 | 197 => 251 | 152 => 256 | 260 => 255 | 137 => 258 | 119 => 259 | 224 => 260 | 225 => 261 | 217 => 262 | 266 => 263 | n => n, fun | 9 => 9 | 4 => 4 | 3 => 3 | 5 => 5 | 117 => 233 | 116 => 232 | 0 => 0 | 124 => 236 | 21 => 21 | 105 => 216 | 46 => 66 | 119 => 237 | 139 => 240 | 138 => 239 | n => n, fun | 3 => 6 | 4 => 7 | n => n⟩
theorem lays162 : Go.Proofs.Lays.n162 Tryz.prog lays162_ren := {
 mixed := by kernel_rfl
 f119 := Tryz.func259.trans (congrArg some (by kernel_rfl))
 f120 := Tryz.func257.trans (congrArg some (by kernel_rfl))
 f137 := Tryz.func258.trans (congrArg some (by kernel_rfl))
 f151 := Tryz.func252.trans (congrArg some (by kernel_rfl))
 f152 := Tryz.func256.trans (congrArg some (by kernel_rfl))
 f162 := Tryz.func235.trans (congrArg some (by kernel_rfl))
 f197 := Tryz.func251.trans (congrArg some (by kernel_rfl))
 f217 := Tryz.func262.trans (congrArg some (by kernel_rfl))
 f224 := Tryz.func260.trans (congrArg some (by kernel_rfl))
 f225 := Tryz.func261.trans (congrArg some (by kernel_rfl))
 f227 := Tryz.func243.trans (congrArg some (by kernel_rfl))
 f228 := Tryz.func250.trans (congrArg some (by kernel_rfl))
 f232 := Tryz.func246.trans (congrArg some (by kernel_rfl))
 f234 := Tryz.func247.trans (congrArg some (by kernel_rfl))
 f236 := Tryz.func248.trans (congrArg some (by kernel_rfl))
 f260 := Tryz.func255.trans (congrArg some (by kernel_rfl))
 f266 := Tryz.func263.trans (congrArg some (by kernel_rfl))
 f271 := Tryz.func253.trans (congrArg some (by kernel_rfl))
 t0 := Tryz.underlying0
 a0 := Tryz.isAgg0
 z0 := Tryz.sizeOf0
 v0 := Tryz.zeroValue0
 t3 := Tryz.underlying3
 a3 := Tryz.isAgg3
 z3 := Tryz.sizeOf3
 v3 := Tryz.zeroValue3
 t4 := Tryz.underlying4
 a4 := Tryz.isAgg4
 z4 := Tryz.sizeOf4
 v4 := Tryz.zeroValue4
 t5 := Tryz.underlying5
 a5 := Tryz.isAgg5
 z5 := Tryz.sizeOf5
 v5 := Tryz.zeroValue5
 t9 := Tryz.underlying9
 a9 := Tryz.isAgg9
 z9 := Tryz.sizeOf9
 v9 := Tryz.zeroValue9
 t21 := Tryz.underlying21
 a21 := Tryz.isAgg21
 z21 := Tryz.sizeOf21
 v21 := Tryz.zeroValue21
 t46 := Tryz.underlying66
 a46 := Tryz.isAgg66
 z46 := Tryz.sizeOf66
 v46 := Tryz.zeroValue66
 t105 := Tryz.underlying216
 a105 := Tryz.isAgg216
 z105 := Tryz.sizeOf216
 v105 := Tryz.zeroValue216
 t116 := Tryz.underlying232
 a116 := Tryz.isAgg232
 z116 := Tryz.sizeOf232
 t117 := Tryz.underlying233
 a117 := Tryz.isAgg233
 z117 := Tryz.sizeOf233
 v117 := Tryz.zeroValue233
 t119 := Tryz.underlying237
 a119 := Tryz.isAgg237
 z119 := Tryz.sizeOf237
 t124 := Tryz.underlying236
 a124 := Tryz.isAgg236
 z124 := Tryz.sizeOf236
 v124 := Tryz.zeroValue236
 t138 := Tryz.underlying239
 a138 := Tryz.isAgg239
 z138 := Tryz.sizeOf239
 v138 := Tryz.zeroValue239
 t139 := Tryz.underlying240
 a139 := Tryz.isAgg240
 z139 := Tryz.sizeOf240
 v139 := Tryz.zeroValue240
 g3 := by kernel_rfl
 g4 := by kernel_rfl }
def lays129_ren : Go.Shelf.Ren := ⟨fun | 129 => 194 | n => n, fun | 53 => 23 | 3 => 3 | 4 => 4 | 46 => 66 | 5 => 5 | 9 => 9 | n => n, fun | n => n⟩
theorem lays129 : Go.Proofs.Lays.n129 Tryz.prog lays129_ren := {
 mixed := by kernel_rfl
 f129 := Tryz.func194.trans (congrArg some (by kernel_rfl))
 t3 := Tryz.underlying3
 a3 := Tryz.isAgg3
 z3 := Tryz.sizeOf3
 v3 := Tryz.zeroValue3
 t4 := Tryz.underlying4
 a4 := Tryz.isAgg4
 z4 := Tryz.sizeOf4
 v4 := Tryz.zeroValue4
 t5 := Tryz.underlying5
 a5 := Tryz.isAgg5
 z5 := Tryz.sizeOf5
 v5 := Tryz.zeroValue5
 t9 := Tryz.underlying9
 a9 := Tryz.isAgg9
 z9 := Tryz.sizeOf9
 v9 := Tryz.zeroValue9
 t46 := Tryz.underlying66
 a46 := Tryz.isAgg66
 z46 := Tryz.sizeOf66
 v46 := Tryz.zeroValue66
 t53 := Tryz.underlying23
 a53 := Tryz.isAgg23
 z53 := Tryz.sizeOf23
 v53 := Tryz.zeroValue23 }
def lays283_ren : Go.Shelf.Ren := ⟨fun | 283 => 213 | n => n, fun | 3 => 3 | 9 => 9 | 4 => 4 | n => n, fun | n => n⟩
theorem lays283 : Go.Proofs.Lays.n283 Tryz.prog lays283_ren := {
 mixed := by kernel_rfl
 f283 := Tryz.func213.trans (congrArg some (by kernel_rfl))
 t3 := Tryz.underlying3
 a3 := Tryz.isAgg3
 z3 := Tryz.sizeOf3
 v3 := Tryz.zeroValue3
 t4 := Tryz.underlying4
 a4 := Tryz.isAgg4
 z4 := Tryz.sizeOf4
 v4 := Tryz.zeroValue4
 t9 := Tryz.underlying9
 a9 := Tryz.isAgg9
 z9 := Tryz.sizeOf9
 v9 := Tryz.zeroValue9 }
def laysM284_ren : Go.Shelf.Ren := ⟨fun | 284 => 214 | 129 => 194 | 317 => 230 | 318 => 231 | n => n, fun | 53 => 23 | 3 => 3 | 212 => 225 | 0 => 0 | 4 => 4 | 46 => 66 | 5 => 5 | 9 => 9 | n => n, fun | 17 => 3 | n => n⟩
theorem laysM284 : Go.Proofs.LaysM.n284 Tryz.prog laysM284_ren := {
 mixed := by kernel_rfl
 f129 := Tryz.func194.trans (congrArg some (by kernel_rfl))
 f284 := Tryz.func214.trans (congrArg some (by kernel_rfl))
 f317 := Tryz.func230.trans (congrArg some (by kernel_rfl))
 f318 := Tryz.func231.trans (congrArg some (by kernel_rfl))
 t0 := Tryz.underlying0
 a0 := Tryz.isAgg0
 z0 := Tryz.sizeOf0
 v0 := Tryz.zeroValue0
 t3 := Tryz.underlying3
 a3 := Tryz.isAgg3
 z3 := Tryz.sizeOf3
 v3 := Tryz.zeroValue3
 t4 := Tryz.underlying4
 a4 := Tryz.isAgg4
 z4 := Tryz.sizeOf4
 v4 := Tryz.zeroValue4
 t5 := Tryz.underlying5
 a5 := Tryz.isAgg5
 z5 := Tryz.sizeOf5
 v5 := Tryz.zeroValue5
 t9 := Tryz.underlying9
 a9 := Tryz.isAgg9
 z9 := Tryz.sizeOf9
 v9 := Tryz.zeroValue9
 t46 := Tryz.underlying66
 a46 := Tryz.isAgg66
 z46 := Tryz.sizeOf66
 v46 := Tryz.zeroValue66
 t53 := Tryz.underlying23
 a53 := Tryz.isAgg23
 z53 := Tryz.sizeOf23
 v53 := Tryz.zeroValue23
 t212 := Tryz.underlying225
 a212 := Tryz.isAgg225
 z212 := Tryz.sizeOf225
 v212 := Tryz.zeroValue225
 g17 := by kernel_rfl
 i0 := by kernel_rfl
 i3 := by kernel_rfl
 i4 := by kernel_rfl
 i5 := by kernel_rfl
 i9 := by kernel_rfl
 i46 := by kernel_rfl
 i53 := by kernel_rfl
 i212 := by kernel_rfl
 m17 := by kernel_rfl }
def lays285_ren : Go.Shelf.Ren := ⟨fun | 285 => 215 | n => n, fun | 37 => 22 | 53 => 23 | 3 => 3 | 4 => 4 | 51 => 161 | 9 => 9 | 5 => 5 | 0 => 0 | n => n, fun | n => n⟩
theorem lays285 : Go.Proofs.Lays.n285 Tryz.prog lays285_ren := {
 mixed := by kernel_rfl
 f285 := Tryz.func215.trans (congrArg some (by kernel_rfl))
 t0 := Tryz.underlying0
 a0 := Tryz.isAgg0
 z0 := Tryz.sizeOf0
 v0 := Tryz.zeroValue0
 t3 := Tryz.underlying3
 a3 := Tryz.isAgg3
 z3 := Tryz.sizeOf3
 v3 := Tryz.zeroValue3
 t4 := Tryz.underlying4
 a4 := Tryz.isAgg4
 z4 := Tryz.sizeOf4
 v4 := Tryz.zeroValue4
 t5 := Tryz.underlying5
 a5 := Tryz.isAgg5
 z5 := Tryz.sizeOf5
 v5 := Tryz.zeroValue5
 t9 := Tryz.underlying9
 a9 := Tryz.isAgg9
 z9 := Tryz.sizeOf9
 v9 := Tryz.zeroValue9
 t37 := Tryz.underlying22
 a37 := Tryz.isAgg22
 z37 := Tryz.sizeOf22
 v37 := Tryz.zeroValue22
 t51 := Tryz.underlying161
 a51 := Tryz.isAgg161
 z51 := Tryz.sizeOf161
 v51 := Tryz.zeroValue161
 t53 := Tryz.underlying23
 a53 := Tryz.isAgg23
 z53 := Tryz.sizeOf23
 v53 := Tryz.zeroValue23 }
def laysM316_ren : Go.Shelf.Ren := ⟨fun | 316 => 238 | n => n, fun | 9 => 9 | 3 => 3 | 4 => 4 | 37 => 22 | 0 => 0 | 127 => 241 | 5 => 5 | n => n, fun | n => n⟩
theorem laysM316 : Go.Proofs.LaysM.n316 Tryz.prog laysM316_ren := {
 mixed := by kernel_rfl
 f316 := Tryz.func238.trans (congrArg some (by kernel_rfl))
 t0 := Tryz.underlying0
 a0 := Tryz.isAgg0
 z0 := Tryz.sizeOf0
 v0 := Tryz.zeroValue0
 t3 := Tryz.underlying3
 a3 := Tryz.isAgg3
 z3 := Tryz.sizeOf3
 v3 := Tryz.zeroValue3
 t4 := Tryz.underlying4
 a4 := Tryz.isAgg4
 z4 := Tryz.sizeOf4
 v4 := Tryz.zeroValue4
 t9 := Tryz.underlying9
 a9 := Tryz.isAgg9
 z9 := Tryz.sizeOf9
 v9 := Tryz.zeroValue9
 t37 := Tryz.underlying22
 a37 := Tryz.isAgg22
 z37 := Tryz.sizeOf22
 v37 := Tryz.zeroValue22
 t127 := Tryz.underlying241
 a127 := Tryz.isAgg241
 z127 := Tryz.sizeOf241
 v127 := Tryz.zeroValue241
 t5 := Tryz.underlying5
 a5 := Tryz.isAgg5
 z5 := Tryz.sizeOf5
 v5 := Tryz.zeroValue5
 i0 := by kernel_rfl
 i3 := by kernel_rfl
 i4 := by kernel_rfl
 i5 := by kernel_rfl
 i9 := by kernel_rfl
 i37 := by kernel_rfl
 i127 := by kernel_rfl }
def laysPu14_ren : Go.Shelf.Ren := ⟨fun | 14 => 184 | 16 => 211 | 17 => 212 | 19 => 224 | 20 => 225 | 21 => 226 | 22 => 227 | 23 => 228 | 24 => 229 | 25 => 238 | 27 => 240 | 26 => 239 | 28 => 249 | 29 => 254 | 30 => 213 | 31 => 214 | 32 => 215 | 33 => 216 | 35 => 194 | 34 => 230 | 36 => 231 | 37 => 232 | 38 => 121 | 39 => 161 | 40 => 162 | n => n, fun | 9 => 9 | 3 => 3 | 22 => 23 | 24 => 182 | 25 => 183 | 4 => 4 | 34 => 219 | 5 => 5 | 36 => 66 | 37 => 22 | 0 => 0 | 39 => 220 | 21 => 21 | 44 => 229 | 47 => 241 | 50 => 244 | 48 => 242 | 2 => 2 | 52 => 208 | 55 => 210 | 59 => 225 | 60 => 161 | 20 => 20 | 61 => 226 | 65 => 193 | 66 => 194 | 67 => 250 | n => n, fun | 0 => 4 | 1 => 5 | 2 => 3 | 3 => 0 | 4 => 1 | n => n⟩
theorem laysPu14 : Go.Proofs.LaysPu.n14 Tryz.prog laysPu14_ren := {
 mixed := by kernel_rfl
 f14 := Tryz.func184.trans (congrArg some (by kernel_rfl))
 f16 := Tryz.func211.trans (congrArg some (by kernel_rfl))
 f17 := Tryz.func212.trans (congrArg some (by kernel_rfl))
 f19 := Tryz.func224.trans (congrArg some (by kernel_rfl))
 f20 := Tryz.func225.trans (congrArg some (by kernel_rfl))
 f21 := Tryz.func226.trans (congrArg some (by kernel_rfl))
 f22 := Tryz.func227.trans (congrArg some (by kernel_rfl))
 f23 := Tryz.func228.trans (congrArg some (by kernel_rfl))
 f24 := Tryz.func229.trans (congrArg some (by kernel_rfl))
 f25 := Tryz.func238.trans (congrArg some (by kernel_rfl))
 f26 := Tryz.func239.trans (congrArg some (by kernel_rfl))
 f27 := Tryz.func240.trans (congrArg some (by kernel_rfl))
 f28 := Tryz.func249.trans (congrArg some (by kernel_rfl))
 f29 := Tryz.func254.trans (congrArg some (by kernel_rfl))
 f30 := Tryz.func213.trans (congrArg some (by kernel_rfl))
 f31 := Tryz.func214.trans (congrArg some (by kernel_rfl))
 f32 := Tryz.func215.trans (congrArg some (by kernel_rfl))
 f33 := Tryz.func216.trans (congrArg some (by kernel_rfl))
 f34 := Tryz.func230.trans (congrArg some (by kernel_rfl))
 f35 := Tryz.func194.trans (congrArg some (by kernel_rfl))
 f36 := Tryz.func231.trans (congrArg some (by kernel_rfl))
 f37 := Tryz.func232.trans (congrArg some (by kernel_rfl))
 f38 := Tryz.func121.trans (congrArg some (by kernel_rfl))
 f39 := Tryz.func161.trans (congrArg some (by kernel_rfl))
 f40 := Tryz.func162.trans (congrArg some (by kernel_rfl))
 t0 := Tryz.underlying0
 a0 := Tryz.isAgg0
 z0 := Tryz.sizeOf0
 v0 := Tryz.zeroValue0
 i0 := by kernel_rfl
 t2 := Tryz.underlying2
 a2 := Tryz.isAgg2
 z2 := Tryz.sizeOf2
 v2 := Tryz.zeroValue2
 i2 := by kernel_rfl
 t3 := Tryz.underlying3
 a3 := Tryz.isAgg3
 z3 := Tryz.sizeOf3
 v3 := Tryz.zeroValue3
 i3 := by kernel_rfl
 t4 := Tryz.underlying4
 a4 := Tryz.isAgg4
 z4 := Tryz.sizeOf4
 v4 := Tryz.zeroValue4
 i4 := by kernel_rfl
 t5 := Tryz.underlying5
 a5 := Tryz.isAgg5
 z5 := Tryz.sizeOf5
 v5 := Tryz.zeroValue5
 i5 := by kernel_rfl
 t9 := Tryz.underlying9
 a9 := Tryz.isAgg9
 z9 := Tryz.sizeOf9
 v9 := Tryz.zeroValue9
 i9 := by kernel_rfl
 t20 := Tryz.underlying20
 a20 := Tryz.isAgg20
 z20 := Tryz.sizeOf20
 v20 := Tryz.zeroValue20
 i20 := by kernel_rfl
 t21 := Tryz.underlying21
 a21 := Tryz.isAgg21
 z21 := Tryz.sizeOf21
 v21 := Tryz.zeroValue21
 i21 := by kernel_rfl
 t22 := Tryz.underlying23
 a22 := Tryz.isAgg23
 z22 := Tryz.sizeOf23
 v22 := Tryz.zeroValue23
 i22 := by kernel_rfl
 t24 := Tryz.underlying182
 a24 := Tryz.isAgg182
 z24 := Tryz.sizeOf182
 v24 := Tryz.zeroValue182
 i24 := by kernel_rfl
 t25 := Tryz.underlying183
 a25 := Tryz.isAgg183
 z25 := Tryz.sizeOf183
 v25 := Tryz.zeroValue183
 i25 := by kernel_rfl
 t34 := Tryz.underlying219
 a34 := Tryz.isAgg219
 z34 := Tryz.sizeOf219
 v34 := Tryz.zeroValue219
 i34 := by kernel_rfl
 c34 := by kernel_rfl
 t36 := Tryz.underlying66
 a36 := Tryz.isAgg66
 z36 := Tryz.sizeOf66
 v36 := Tryz.zeroValue66
 i36 := by kernel_rfl
 t37 := Tryz.underlying22
 a37 := Tryz.isAgg22
 z37 := Tryz.sizeOf22
 v37 := Tryz.zeroValue22
 i37 := by kernel_rfl
 t39 := Tryz.underlying220
 a39 := Tryz.isAgg220
 z39 := Tryz.sizeOf220
 v39 := Tryz.zeroValue220
 i39 := by kernel_rfl
 t44 := Tryz.underlying229
 a44 := Tryz.isAgg229
 z44 := Tryz.sizeOf229
 v44 := Tryz.zeroValue229
 i44 := by kernel_rfl
 t47 := Tryz.underlying241
 a47 := Tryz.isAgg241
 z47 := Tryz.sizeOf241
 v47 := Tryz.zeroValue241
 i47 := by kernel_rfl
 t48 := Tryz.underlying242
 a48 := Tryz.isAgg242
 z48 := Tryz.sizeOf242
 v48 := Tryz.zeroValue242
 i48 := by kernel_rfl
 t50 := Tryz.underlying244
 a50 := Tryz.isAgg244
 z50 := Tryz.sizeOf244
 v50 := Tryz.zeroValue244
 i50 := by kernel_rfl
 t52 := Tryz.underlying208
 a52 := Tryz.isAgg208
 z52 := Tryz.sizeOf208
 v52 := Tryz.zeroValue208
 i52 := by kernel_rfl
 t55 := Tryz.underlying210
 a55 := Tryz.isAgg210
 z55 := Tryz.sizeOf210
 v55 := Tryz.zeroValue210
 i55 := by kernel_rfl
 t59 := Tryz.underlying225
 a59 := Tryz.isAgg225
 z59 := Tryz.sizeOf225
 v59 := Tryz.zeroValue225
 i59 := by kernel_rfl
 t60 := Tryz.underlying161
 a60 := Tryz.isAgg161
 z60 := Tryz.sizeOf161
 v60 := Tryz.zeroValue161
 i60 := by kernel_rfl
 t61 := Tryz.underlying226
 a61 := Tryz.isAgg226
 z61 := Tryz.sizeOf226
 t65 := Tryz.underlying193
 a65 := Tryz.isAgg193
 z65 := Tryz.sizeOf193
 v65 := Tryz.zeroValue193
 i65 := by kernel_rfl
 t66 := Tryz.underlying194
 a66 := Tryz.isAgg194
 z66 := Tryz.sizeOf194
 v66 := Tryz.zeroValue194
 i66 := by kernel_rfl
 t67 := Tryz.underlying250
 a67 := Tryz.isAgg250
 z67 := Tryz.sizeOf250
 v67 := Tryz.zeroValue250
 i67 := by kernel_rfl
 g0 := by kernel_rfl
 m0 := by kernel_rfl
 g1 := by kernel_rfl
 m1 := by kernel_rfl
 g2 := by kernel_rfl
 m2 := by kernel_rfl
 g3 := by kernel_rfl
 m3 := by kernel_rfl
 g4 := by kernel_rfl
 m4 := by kernel_rfl }
def lays100_ren : Go.Shelf.Ren := ⟨fun | 100 => 177 | 207 => 202 | n => n, fun | 9 => 9 | 4 => 4 | 3 => 3 | n => n, fun | n => n⟩
theorem lays100 : Go.Proofs.Lays.n100 Tryz.prog lays100_ren := {
 mixed := by kernel_rfl
 f100 := Tryz.func177.trans (congrArg some (by kernel_rfl))
 f207 := Tryz.func202.trans (congrArg some (by kernel_rfl))
 t3 := Tryz.underlying3
 a3 := Tryz.isAgg3
 z3 := Tryz.sizeOf3
 v3 := Tryz.zeroValue3
 t4 := Tryz.underlying4
 a4 := Tryz.isAgg4
 z4 := Tryz.sizeOf4
 v4 := Tryz.zeroValue4
 t9 := Tryz.underlying9
 a9 := Tryz.isAgg9
 z9 := Tryz.sizeOf9
 v9 := Tryz.zeroValue9 }
end Go.Proofs.YtnjbppfanmmifaaGreatDoor
namespace Go.Proofs.YtnjbppfanmmifaaGreatDoor
open Go.RowKit
theorem bs_at (s : ByteArray) {k : Nat} (h : k < s.size) : (bs s).getD k 0 = (((s[k]'h).toNat : Nat) : Int) := by
 unfold bs
 rw [List.getD_eq_getElem?_getD, List.getElem?_map, Array.getElem?_toList, Array.getElem?_eq_getElem (by exact h)]
 rfl
theorem not_empty {s : ByteArray} (h : 0 < s.size) : s.toList.isEmpty = false := by
 rw [ByteArray.toList_eq]
 cases h1 : s.data.toList with
 | nil =>
  have h2 := congrArg List.length h1
  rw [Array.length_toList] at h2
  have h3 : s.size = 0 := h2
  omega
 | cons a l => rfl
theorem empty_size {s : ByteArray} (h : s.size = 0) : s = noS := by
 have h1 : s.data.toList = [] := List.eq_nil_of_length_eq_zero (by rw [Array.length_toList]; exact h)
 have h2 : bs s = bs noS := by unfold bs; rw [h1]; rfl
 exact bs_inj h2
theorem zero_first {s : ByteArray} (hz : (bs s).getD 0 0 = 48) : (s.toList == [48]) = rt s := by
 have e : s.toList = [48] ↔ s.size = 1 := by
  constructor
  ·intro h
   rw [ByteArray.toList_eq] at h
   have h2 := congrArg List.length h
   rw [Array.length_toList] at h2
   exact h2
  ·intro h
   have h2 : bs s = bs ⟨#[48]⟩ := by
    have hl : (bs s).length = 1 := by rw [bs_len]; exact h
    match hb : bs s, hl with
    | [c], _ =>
     rw [hb] at hz
     have hc : c = 48 := hz
     rw [hc]; rfl
   rw [bs_inj h2, ByteArray.toList_eq]
 rw [Bool.eq_iff_iff, beq_iff_eq, e, rt_iff]
 constructor
 ·intro h
  have hl : (bs s).length = 1 := by rw [bs_len]; exact h
  refine ⟨⟨fun h2 => (by rw [h2] at hl; cases hl), fun c hc => ?_, fun _ => hl⟩, by omega⟩
  match hb : bs s, hl with
  | [x], _ =>
   rw [hb] at hz hc
   have hx : x = 48 := hz
   simp only [List.mem_cons, List.not_mem_nil, or_false] at hc
   omega
 ·intro h
  have := h.1.2.2 hz
  rwa [bs_len] at this
theorem not_digs {s : ByteArray} {k : Nat} (hk : k < s.size) (h : (bs s).getD k 0 < 48 ∨ 57 < (bs s).getD k 0) : rt s = false := by
 refine rt_not fun hr => ?_
 have h1 : k < (bs s).length := by rw [bs_len]; exact hk
 rw [List.getD_eq_getElem?_getD, List.getElem?_eq_getElem h1] at h
 have h2 := hr.1.2.1 _ (List.getElem_mem h1)
 simp only [Option.getD_some] at h
 omega
theorem all_digs {s : ByteArray} (h0 : 0 < s.size) (h1 : s.size ≤ 800) (hz : (bs s).getD 0 0 ≠ 48 ∨ s.size = 1) (h : ∀ c ∈ (bs s).take s.size, 48 ≤ c ∧ c ≤ 57) : rt s = true := by
 rw [rt_iff]
 rw [List.take_of_length_le (by rw [bs_len]; exact Nat.le_refl _)] at h
 refine ⟨⟨fun h2 => ?_, h, fun h2 => ?_⟩, by rw [bs_len]; exact h1⟩
 ·have := bs_len s
  rw [h2, List.length_nil] at this
  omega
 ·rcases hz with h3 | h3
  ·exact absurd h2 h3
  ·rw [bs_len]; exact h3
theorem take_digs {l : List Int} {k : Nat} (h : ∀ c ∈ l.take k, 48 ≤ c ∧ c ≤ 57) (hk : k < l.length) (hc : 48 ≤ l.getD k 0 ∧ l.getD k 0 ≤ 57) : ∀ c ∈ l.take (k + 1), 48 ≤ c ∧ c ≤ 57 := by
 intro c hm
 rw [List.take_succ_eq_append_getElem hk] at hm
 rcases List.mem_append.1 hm with h1 | h1
 ·exact h c h1
 ·simp only [List.mem_cons, List.not_mem_nil, or_false] at h1
  rw [List.getD_eq_getElem?_getD, List.getElem?_eq_getElem hk] at hc
  rw [h1]; exact hc
set_option maxHeartbeats 400000 in
theorem right_any (s : ByteArray) (w : World) : Calls Tryz.prog 142 #[.string s] w fun e w' => e = .returned (.bool (rt s)) ∧ w' = w := by
 by_cases h0 : s.size = 0
 ·obtain rfl := empty_size h0
  have hr : rt noS = false := rfl
  rw [hr]
  unfold noS
  go_enter Tryz.func142, Tryz.ntmps142
  go_wp2
  go_ret
  exact ⟨rfl, rfl⟩
 have he := not_empty (s := s) (by omega)
 by_cases h1 : 800 < s.size
 ·have hr : rt s = false := rt_not fun h => by have := h.2; rw [bs_len] at this; omega
  rw [hr]
  have d1 : decide (800 < ((s.size : Nat) : Int)) = true := by simp; omega
  clear h0 h1
  go_enter Tryz.func142, Tryz.ntmps142
  go_wp2
  go_ret
  exact ⟨rfl, rfl⟩
 have d1 : decide (800 < ((s.size : Nat) : Int)) = false := by simp; omega
 have b0 := bs_at s (k := 0) (by omega)
 have hp : 0 < s.size := by omega
 by_cases hz : (bs s).getD 0 0 = 48
 ·have hr : Hid ((s.toList == [48]) = rt s) := zero_first hz
  have e0 : (((s[0]'hp).toNat : Nat) : Int) = 48 := by rw [← b0, hz]
  clear b0 hz h0 h1
  generalize rt s = R at *
  go_enter Tryz.func142, Tryz.ntmps142
  go_wp2
  go_ret
  exact ⟨by rw [hr.out]; rfl, rfl⟩
 have e0 : ((((s[0]'hp).toNat : Nat) : Int) == 48) = false := by rw [← b0]; simpa using hz
 have hall : Hid (∀ k, k < s.size → (bs s).getD k 0 < 48 ∨ 57 < (bs s).getD k 0 → rt s = false) := fun k hk h => not_digs hk h
 have hend : Hid ((∀ c ∈ (bs s).take s.size, 48 ≤ c ∧ c ≤ 57) → rt s = true) := all_digs (by omega) (by omega) (.inl hz)
 clear b0 hz
 generalize rt s = R at *
 go_enter Tryz.func142, Tryz.ntmps142
 go_wp2
 go_loop [18] (fun v => ∃ k : Nat, k ≤ s.size ∧ v = .int .i64 k ∧ Hid (∀ c ∈ (bs s).take k, 48 ≤ c ∧ c ≤ 57)) (fun v => s.size - (intOf v).toNat)
 case atStart => exact ⟨0, Nat.zero_le _, rfl, (by intro c hc; simp at hc)⟩
 case round =>
  obtain ⟨k, hk, rfl, hd⟩ := hrel
  by_cases hlt : k < s.size
  ·have bk := bs_at s hlt
   have hC : Hid (_ → _ → _) := fun h1 h2 => take_digs hd.out (by rw [bs_len]; exact hlt) ⟨h1, h2⟩
   have hN := hall.out k hlt
   by_cases hA : (bs s).getD k 0 < 48
   ·have d2 : decide ((((s[k]'hlt).toNat : Nat) : Int) < 48) = true := by rw [← bk]; simpa using hA
    obtain rfl := hN (.inl hA)
    clear bk hA
    go_wp2
    go_ret
    exact ⟨rfl, rfl⟩
   by_cases hB : 57 < (bs s).getD k 0
   ·have d2 : decide ((((s[k]'hlt).toNat : Nat) : Int) < 48) = false := by rw [← bk]; simpa using hA
    have d3 : decide (57 < (((s[k]'hlt).toNat : Nat) : Int)) = true := by rw [← bk]; simpa using hB
    obtain rfl := hN (.inr hB)
    clear bk hA hB
    go_wp2
    go_ret
    exact ⟨rfl, rfl⟩
   ·have d2 : decide ((((s[k]'hlt).toNat : Nat) : Int) < 48) = false := by rw [← bk]; simpa using hA
    have d3 : decide (57 < (((s[k]'hlt).toNat : Nat) : Int)) = false := by rw [← bk]; simpa using hB
    have hC' : Hid _ := hC.out (by omega) (by omega)
    clear bk hA hB hN hC
    go_wp2
    go_round
    case rel => exact ⟨k + 1, by omega, by go_num, hC'⟩
    case measure => simp [intOf]; omega
  ·obtain rfl : k = s.size := by omega
   obtain rfl := hend.out hd.out
   go_wp2
   go_ret
   exact ⟨rfl, rfl⟩
end Go.Proofs.YtnjbppfanmmifaaGreatDoor
