/-
  Losses read off an argument.
-/
import Derived.Test.YtgfnohgpmmaocaaDoorLbb
import Derived.Deep.Slices
import Derived.Deep.Strs
import Derived.ChangeReads
import Derived.SizedLaws
namespace Go.Proofs.YtgfnohgpmmaocaaDoor
open Go.RowKit Go.ChangeShapes Go.WideShapes
set_option linter.unusedVariables false
set_option linter.unusedSimpArgs false
section
variable {H : Type} {enc : TypeId × Value → H} {w : World}

/-- A slice of integers, read. -/
theorem open_path {fuel : Nat} {cs : List Value} {x : DataW H × List MemPlace} (h : DataW.trod enc Tryd.prog w 0 (fun _ => true) true fuel 38 cs = some x) :
    ∃ a cap zs, cs = [.slice a zs.length cap] ∧ zs.length ≤ cap ∧ cap ≤ 9223372036854775807 ∧ (a = none → cap = 0) ∧ Ints w a zs ∧ (∀ n ∈ zs, (Lit.int .i64 n).wf = true) := by
  rcases open_ints Tryd.underlying38 Tryd.underlying3 (by kernel_rfl) h with ⟨hcs, hx⟩ | ⟨a, l, c, zs, hcs, _, hl, hm, hz, hx, hcell, hwz⟩
  · exact ⟨none, 0, [], hcs, Nat.le_refl _, by decide, fun _ => rfl, ⟨by simp, .inl rfl⟩, by simp⟩
  · have hz' : zs.length = c := by simpa using hz
    have hlen : (zs.take l).length = l := by rw [List.length_take]; omega
    refine ⟨some a, c, zs.take l, by rw [hlen]; exact hcs, by omega, by unfold maxLen at hm; omega, (fun h => by cases h), ⟨by omega, ?_⟩, fun n hn => hwz n (List.mem_of_mem_take hn)⟩
    by_cases h0 : l = 0
    · left; subst h0; simp
    · right
      obtain ⟨b, off, spot⟩ := a
      have hc := hcell 0 (by omega)
      have hspot : spot = none := by simpa [Addr.add] using World.cell?_spot hc
      subst hspot
      refine ⟨b, off, rfl, fun i hi => ?_⟩
      have hi' : i < l := by omega
      have := hcell i (by omega)
      rw [List.getD_eq_getElem?_getD, List.getElem?_take, if_pos hi', ← List.getD_eq_getElem?_getD]
      by_cases h1 : i = 0
      · subst h1; simpa [Addr.add] using this
      · simpa [Addr.add, h1] using this

/-- A loss that is read: three values. -/
def LsV (w : World) (pa : Option Addr) (pc : Nat) (x : Ls) : Prop := Ints w pa x.path ∧ x.path.length ≤ pc ∧ pc ≤ 9223372036854775807 ∧ x.n < 18446744073709551616 ∧ (∀ n ∈ x.path, (Lit.int .i64 n).wf = true) ∧ (Lit.int .i64 x.kind).wf = true

theorem open_ls {fuel : Nat} {cs : List Value} {x : DataW H × List MemPlace} (h : DataW.trod enc Tryd.prog w 0 (fun _ => true) true fuel 41 cs = some x) :
    ∃ pa pc y, cs = [.slice pa y.path.length pc, .int .i64 y.kind, .int .u64 (y.n : Nat)] ∧ LsV w pa pc y := by
  obtain ⟨fs, hfs, hty⟩ : ∃ fs : Array Field, Tryd.prog.underlying 41 = some (.struct fs) ∧ fs.toList.map (fun f => (f.type, f.offset)) = [(38, 0), (3, 1), (39, 2)] := ⟨_, Tryd.underlying41, rfl⟩
  obtain ⟨xs, n, rfl, hx, hlen, hxl, hf⟩ := DataW.trod_struct hfs h
  rw [show Tryd.prog.cellsOf 41 = 3 by kernel_rfl] at hlen
  have h3 : fs.size = 3 := by have := congrArg List.length hty; simpa using this
  match cs, hlen with
  | [c0, c1, c2], _ =>
  have hF : ∀ i (hi : i < 3), ∃ y, DataW.trod enc Tryd.prog w 0 (fun _ => true) true n (([(38, 0), (3, 1), (39, 2)] : List (TypeId × Nat)).getD i (0, 0)).1
      ((([c0, c1, c2] : List Value).drop (([(38, 0), (3, 1), (39, 2)] : List (TypeId × Nat)).getD i (0, 0)).2).take (Tryd.prog.cellsOf (([(38, 0), (3, 1), (39, 2)] : List (TypeId × Nat)).getD i (0, 0)).1)) = some y := by
    intro i hi
    have hif : i < fs.size := by omega
    have e := hf i fs[i] (Array.getElem?_eq_getElem hif)
    have hy : xs[i]? = some (xs[i]'(by omega)) := List.getElem?_eq_getElem (by omega)
    have ht : ([(38, 0), (3, 1), (39, 2)] : List (TypeId × Nat)).getD i (0, 0) = (fs[i].type, fs[i].offset) := by
      rw [← hty, List.getD_eq_getElem?_getD, List.getElem?_map, Array.getElem?_toList, Array.getElem?_eq_getElem hif]
      rfl
    rw [ht]
    exact ⟨_, e.trans hy⟩
  have k0 : Tryd.prog.cellsOf 38 = 1 := by kernel_rfl
  have k1 : Tryd.prog.cellsOf 3 = 1 := by kernel_rfl
  have k2 : Tryd.prog.cellsOf 39 = 1 := by kernel_rfl
  obtain ⟨y0, e0⟩ := hF 0 (by omega)
  obtain ⟨y1, e1⟩ := hF 1 (by omega)
  obtain ⟨y2, e2⟩ := hF 2 (by omega)
  clear hF hf
  simp only [List.getD_cons_zero, List.getD_cons_succ, k0, k1, k2, List.drop_zero, List.drop_succ_cons, List.take_succ_cons, List.take_zero] at e0 e1 e2
  obtain ⟨kind, q1, _, w1⟩ := DataW.trod_int Tryd.underlying3 e1
  obtain ⟨num, q2, _, w2⟩ := DataW.trod_int Tryd.underlying39 e2
  obtain ⟨pa, pc, zs, q0, g1, g2, g3, g4, g5⟩ := open_path e0
  simp only [List.cons.injEq, and_true] at q0 q1 q2
  have hb : 0 ≤ num ∧ num < 18446744073709551616 := by
    simp [Lit.wf, show IntKind.u64.min = 0 from by decide, show IntKind.u64.max = 18446744073709551615 from by decide] at w2
    omega
  obtain ⟨m, rfl⟩ : ∃ m : Nat, num = (m : Int) := ⟨num.toNat, by omega⟩
  subst q0 q1 q2
  exact ⟨pa, pc, ⟨zs, kind, m⟩, rfl, g4, g1, g2, by show m < _; omega, g5, w1⟩

theorem cells_at {a : Addr} {n : Nat} {cs : List Value} (h : w.cells? 0 a n = some cs) : cs.length = n ∧ ∀ j, j < n → w.cell? (a.add j) = cs[j]? := by
  unfold World.cells? at h
  rw [if_pos (Nat.zero_le _)] at h
  refine ⟨by simpa using mapM_some_length h, fun j hj => ?_⟩
  exact mapM_some_get h j j (by simp [hj])

/-- LOSSES AS AN ARGUMENT. -/
def LsArg (w : World) (a : Option Addr) (n cap : Nat) (L : List Ls) : Prop := L.length = n ∧ n ≤ cap ∧ cap ≤ 9223372036854775807 ∧ (a = none → cap = 0) ∧ Lss w a L
theorem open_lss {fuel : Nat} {c : Value} {y : DataW H × List MemPlace} (e : DataW.trod enc Tryd.prog w 0 (fun _ => true) true fuel 22 [c] = some y) : ∃ a len cap L, c = .slice a len cap ∧ LsArg w a len cap L := by
  rcases DataW.trod_slice Tryd.underlying22 e with ⟨hc, _⟩ | ⟨a, len, cap, elems, rest, m, hn, hc, hyx, _, hl, hm, hel, hat, _, _⟩
  · obtain rfl : c = .slice none 0 0 := by simpa using hc
    exact ⟨none, 0, 0, [], rfl, rfl, Nat.le_refl _, by decide, fun _ => rfl, by simp, .inl rfl⟩
  · obtain rfl : c = .slice (some a) len cap := by simpa using hc
    have each : ∀ i, i < len → ∃ bt : (Option Addr × Nat) × Ls, (∀ j, j < 3 → w.cell? ((a.add (i * 3)).add j) = ([.slice bt.1.1 bt.2.path.length bt.1.2, .int .i64 bt.2.kind, .int .u64 (bt.2.n : Nat)] : List Value)[j]?) ∧ LsV w bt.1.1 bt.1.2 bt.2 := by
      intro i hi
      have e1 := hat i hi
      rw [show Tryd.prog.cellsOf 41 = 3 by kernel_rfl, List.getElem?_eq_getElem (by omega), Option.bind_eq_some_iff] at e1
      obtain ⟨cs', hcs', hr⟩ := e1
      obtain ⟨pa, pc, x, rfl, hx⟩ := open_ls hr
      exact ⟨((pa, pc), x), (cells_at hcs').2, hx⟩
    have hI : Inhabited ((Option Addr × Nat) × Ls) := ⟨((none, 0), ⟨[], 0, 0⟩)⟩
    obtain ⟨g, hg⟩ := Deep.choose_lt each
    refine ⟨some a, len, cap, (List.range len).map fun i => (g i).2, rfl, by simp, hl, by unfold maxLen at hm; omega, (fun h => by cases h), by simp; omega, ?_⟩
    by_cases h0 : len = 0
    · left; subst h0; rfl
    · right
      have hs : a.spot = none := by
        have h1 := (hg 0 (by omega)).1 0 (by omega)
        rw [Nat.zero_mul] at h1
        unfold World.cell? Addr.add at h1
        simp only [if_true, List.getElem?_cons_zero] at h1
        split at h1
        · split at h1
          · cases h1
          · rename_i hsp; cases hh : a.spot with
            | none => rfl
            | some _ => simp [hh] at hsp
        · cases h1
      obtain ⟨b, off, sp⟩ := a
      obtain rfl : sp = none := hs
      refine ⟨b, off, rfl, fun i x hx => ?_⟩
      have hi' : i < len := by have := (List.getElem?_eq_some_iff.1 hx).1; simpa using this
      have hx' : x = (g i).2 := by
        rw [List.getElem?_map, List.getElem?_range hi'] at hx
        simpa using hx.symm
      subst hx'
      obtain ⟨hc, hv⟩ := hg i hi'
      have hcell : ∀ j, j < 3 → w.cell? ⟨b, off + i * 3 + j, none⟩ = ([.slice (g i).1.1 (g i).2.path.length (g i).1.2, .int .i64 (g i).2.kind, .int .u64 ((g i).2.n : Nat)] : List Value)[j]? := fun j hj => by
        rw [← hc j hj, Deep.add_add, Nat.add_assoc]
        congr 1
        unfold Addr.add
        split
        · rename_i hz; rw [hz]; rfl
        · rfl
      refine ⟨(g i).1.1, (g i).1.2, ⟨hcell 0 (by omega), hcell 1 (by omega), hcell 2 (by omega)⟩, hv.1, fun y hy hne => ?_, hv.2.1, hv.2.2.1, hv.2.2.2.1⟩
      have h9 := hv.1
      rw [hy] at h9
      exact h9.lt hne
theorem open_lss_arg {r : Reach} {b0 : Nat} {v : Value} {d : DataW H} {p : List MemPlace} (hv : Value.okWide Tryd.prog w r b0 22 v) (h : DataW.Trod enc Tryd.prog w 0 (fun _ => true) true 22 v d p) :
    ∃ a len cap L, v = .slice a len cap ∧ LsArg w a len cap L := by
  obtain ⟨a, len, cap, rfl⟩ := okWide_slice Tryd.underlying22 hv
  obtain ⟨fuel, hf⟩ := h
  exact open_lss hf
theorem open_ls_arg {r : Reach} {b0 : Nat} {v : Value} {d : DataW H} {p : List MemPlace} (hv : Value.okWide Tryd.prog w r b0 41 v) (h : DataW.Trod enc Tryd.prog w 0 (fun _ => true) true 41 v d p) :
    ∃ pa pc x, v = .agg #[.slice pa x.path.length pc, .int .i64 x.kind, .int .u64 (x.n : Nat)] ∧ LsV w pa pc x := by
  obtain ⟨fs, hfs, hty⟩ : ∃ fs : Array Field, Tryd.prog.underlying 41 = some (.struct fs) ∧ fs.toList.map (fun f => (f.type, f.offset)) = [(38, 0), (3, 1), (39, 2)] := ⟨_, Tryd.underlying41, rfl⟩
  obtain ⟨cs, rfl, _⟩ := okWide_struct hfs hv
  obtain ⟨fuel, hf⟩ := h
  obtain ⟨pa, pc, x, hcs, hx⟩ := open_ls hf
  refine ⟨pa, pc, x, ?_, hx⟩
  have : cs = #[.slice pa x.path.length pc, .int .i64 x.kind, .int .u64 (x.n : Nat)] := by
    have h1 : cs.toList = [.slice pa x.path.length pc, .int .i64 x.kind, .int .u64 (x.n : Nat)] := by rw [← hcs]; simp [Value.cells]
    rw [← Array.toArray_toList (xs := cs), h1]
  rw [this]
end
end Go.Proofs.YtgfnohgpmmaocaaDoor
