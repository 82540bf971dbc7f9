/-
  Whether a key is there already: jread.twice, with slices.ContainsFunc and slices.IndexFunc.
  A call of a function as a step of a region that draws its order.
-/
import Derived.Test.YtmlacmoembjeoaaGreatDoorV15
import Derived.Test.YtmlacmoembjeoaaGreatDoorV12
namespace Go.Proofs.YtmlacmoembjeoaaGreatDoor
open Go.RowKit
set_option linter.unusedVariables false
set_option maxHeartbeats 1000000 in
/-- The closure: has a node this text? -/
theorem twk_any (gk : Nat) (nb : Nb) (s : ByteArray) (w : World) (hk : w.cell? ⟨gk, 0, none⟩ = some (.string s)) (hg : gk < w.heap.size) (v : Bool) (hv : (nb.txt.toList == s.toList) = v) :
    Calls Tryz.prog 114 (#[.agg nb.arr] ++ #[.pointer (some ⟨gk, 0, none⟩)]) w fun e w' => e = .returned (.bool v) ∧ Below w.heap.size w w' := by
  show Calls Tryz.prog 114 #[.agg nb.arr, .pointer (some ⟨gk, 0, none⟩)] w _
  have hal := alloc_below w (.cells nb.arr 26)
  obtain ⟨a0, a1, a2, a3, a4, a5, a6, a7, a8⟩ := (nbox_new w nb).fields
  have b0 : (w.alloc (.cells nb.arr 26)).cell? ⟨gk, 0, none⟩ = some (.string s) := (hal.cell (p := ⟨gk, 0, none⟩) hg).trans hk
  have hB : Hid (Below w.heap.size w (w.alloc (.cells nb.arr 26))) := hal
  clear hal hk
  go_enter Tryz.func114, Tryz.ntmps114
  go_wp2
  go_ret
  exact ⟨rfl, hB.out⟩
theorem nine_el {w : World} {a : Option Addr} {bk : List Nb} (h : Nine w a bk) {i : Nat} (hi : i < bk.length) : ∃ b off, a = some ⟨b, off, none⟩ ∧ ∀ j, j < 9 → w.cell? ⟨b, off + (i * 9 + j), none⟩ = (bk[i]).cells[j]? := by
  rcases h with rfl | ⟨b, off, ha, hc⟩
  · cases hi
  · exact ⟨b, off, ha, fun j hj => hc i hi j hj⟩
def hasT (bk : List Nb) (s : ByteArray) : Bool := bk.any fun b => b.txt.toList == s.toList
theorem hasT_snoc {bk : List Nb} {s : ByteArray} {i : Nat} (h : i < bk.length) : hasT (bk.take (i + 1)) s = (hasT (bk.take i) s || (bk[i].txt.toList == s.toList)) := by
  unfold hasT
  rw [List.take_succ_eq_append_getElem h, List.any_append]
  simp
set_option maxHeartbeats 4000000 in
set_option maxRecDepth 100000 in
theorem indk_any (a : Option Addr) (n c : Nat) (bk : List Nb) (gk : Nat) (s : ByteArray) (w : World) (hk : w.cell? ⟨gk, 0, none⟩ = some (.string s)) (hg : gk < w.heap.size) (hl : bk.length = n) (hN : Nine w a bk) (hc : n ≤ c) (hcm : c ≤ 9223372036854775807) :
    Calls Tryz.prog 134 #[.slice a n c, .func (.func 114) #[] #[.pointer (some ⟨gk, 0, none⟩)]] w fun e w' => (∃ r : Int, e = .returned (.int .i64 r) ∧ decide (0 ≤ r) = hasT bk s) ∧ Below w.heap.size w w' := by
  have e49 : ∀ args w, (callFunc 114 args).run Tryz.prog w = .ok (.enter 114 args) w := enters_of Tryz.func114 (by kernel_rfl) rfl
  have hx : Hid (bk.length = n) := hl
  have hA : Hid (Nine w a bk) := hN
  have hK : Hid (w.cell? ⟨gk, 0, none⟩ = some (.string s) ∧ gk < w.heap.size) := ⟨hk, hg⟩
  clear hl hk hN hg
  go_enter Tryz.func134, Tryz.ntmps134
  go_wp2
  go_loopw [5, 8] (fun _ s8 wr => ∃ (i : Nat), i ≤ n ∧ s8 = .int .i64 i ∧ Hid (Below w.heap.size w wr) ∧ Hid (hasT (bk.take i) s = false)) (fun _ i _ => n - (intOf i).toNat)
  case atStart => exact ⟨0, Nat.zero_le _, rfl, Below.refl _ _, by show _ = _; rfl⟩
  case round =>
    obtain ⟨i, him, rfl, hbl, hT⟩ := hrel
    by_cases hlt : i < n
    · have hz : (i : Int) < (n : Int) := by omega
      have hix : i < bk.length := by rw [hx.out]; exact hlt
      obtain ⟨b0, off, rfl, hck⟩ := nine_el (hA.out.kept hbl.out) hix
      obtain ⟨f0, f1, f2, f3, f4, f5, f6, f7, f8⟩ := elem_fields hck
      have kk := fun (v : Bool) (h : (bk[i].txt.toList == s.toList) = v) => twk_any gk bk[i] s wr ((hbl.out.cell (p := ⟨gk, 0, none⟩) hK.out.2).trans hK.out.1) (Nat.lt_of_lt_of_le hK.out.2 hbl.out.size) v h
      have wi : IntKind.i64.wrap ((i : Int) + 1) = (i : Int) + 1 := by rw [IntKind.wrap_i64]; omega
      have hsn := hasT_snoc (s := s) hix
      rw [hT.out, Bool.false_or] at hsn
      cases hE : (bk[i].txt.toList == s.toList) with
      | true =>
        have k1 := kk true hE
        have hm : Hid (hasT bk s = true) := by
          show _ = _
          unfold hasT
          rw [List.any_eq_true]
          exact ⟨bk[i], List.getElem_mem hix, hE⟩
        generalize bk[i] = nk at *
        clear hck kk hE hsn
        go_wp2_with (go_at_fn 114; refine k1.mono ?_; rintro e w1 ⟨rfl, hb1⟩)
        go_ret
        exact ⟨⟨_, rfl, by rw [hm.out]; simp⟩, hbl.out.trans (hb1.mono hbl.out.size)⟩
      | false =>
        have k1 := kk false hE
        have hT' : Hid (hasT (bk.take (i + 1)) s = false) := by show _ = _; rw [hsn, hE]
        generalize bk[i] = nk at *
        clear hck kk hE hsn
        go_wp2_with (go_at_fn 114; refine k1.mono ?_; rintro e w1 ⟨rfl, hb1⟩)
        go_roundw
        case rel => exact ⟨i + 1, by omega, by go_num, hbl.out.trans (hb1.mono hbl.out.size), hT'⟩
        case measure => simp [intOf]; omega
    · have hz : ¬ (i : Int) < (n : Int) := by omega
      have hm : Hid (hasT bk s = false) := by
        show _ = _
        have := hT.out
        rwa [List.take_of_length_le (by rw [hx.out]; omega)] at this
      go_wp2
      go_ret
      exact ⟨⟨-1, rfl, by rw [hm.out]; rfl⟩, hbl.out⟩
set_option maxHeartbeats 1000000 in
theorem contk_any (a : Option Addr) (n c : Nat) (bk : List Nb) (gk : Nat) (s : ByteArray) (w : World) (hk : w.cell? ⟨gk, 0, none⟩ = some (.string s)) (hg : gk < w.heap.size) (hl : bk.length = n) (hN : Nine w a bk) (hc : n ≤ c) (hcm : c ≤ 9223372036854775807) :
    Calls Tryz.prog 113 #[.slice a n c, .func (.func 114) #[] #[.pointer (some ⟨gk, 0, none⟩)]] w fun e w' => e = .returned (.bool (hasT bk s)) ∧ Below w.heap.size w w' := by
  have ki := indk_any a n c bk gk s w hk hg hl hN hc hcm
  generalize hasT bk s = v at *
  clear hk hg hl hN hc hcm
  go_enter Tryz.func113, Tryz.ntmps113
  go_wp2_with (go_at_call 134; refine ki.mono ?_; rintro e w1 ⟨⟨r, rfl, hr⟩, hb⟩)
  go_ret
  exact ⟨rfl, hb⟩
set_option maxHeartbeats 1000000 in
set_option maxRecDepth 100000 in
/-- jread.twice. -/
theorem twice_any (a : Option Addr) (n c : Nat) (bk : List Nb) (s : ByteArray) (w : World) (hl : bk.length = n) (hN : Nine w a bk) (hc : n ≤ c) (hcm : c ≤ 9223372036854775807) (v : Int) (hv : v = if hasT bk s = true then 9 else 0) :
    Calls Tryz.prog 86 #[.slice a n c, .string s] w fun e w' => e = .returned (.int .i64 v) ∧ Below w.heap.size w w' := by
  have hal := alloc_below w (.cells #[.string s] 9)
  have T1 : Blk (w.alloc (.cells #[.string s] 9)) w.heap.size #[.string s] 9 := blk_new w _ _
  have kc := contk_any a n c bk w.heap.size s (w.alloc (.cells #[.string s] 9)) (T1.cell 0) T1.lt hl (hN.kept hal) hc hcm
  have hB : Hid (Below w.heap.size w (w.alloc (.cells #[.string s] 9))) := hal
  subst hv
  cases hE : hasT bk s with
  | true =>
    rw [hE] at kc
    rw [if_pos rfl]
    clear hal T1 hl hN hc hcm hE
    go_enter Tryz.func86, Tryz.ntmps86
    go_wp2_with (go_at_call 113; refine kc.mono ?_; rintro e w1 ⟨rfl, hb⟩)
    go_ret
    exact ⟨rfl, hB.out.trans (hb.mono hB.out.size)⟩
  | false =>
    rw [hE] at kc
    rw [if_neg (by simp)]
    clear hal T1 hl hN hc hcm hE
    go_enter Tryz.func86, Tryz.ntmps86
    go_wp2_with (go_at_call 113; refine kc.mono ?_; rintro e w1 ⟨rfl, hb⟩)
    go_ret
    exact ⟨rfl, hB.out.trans (hb.mono hB.out.size)⟩
end Go.Proofs.YtmlacmoembjeoaaGreatDoor
namespace Go.Proofs.YtmlacmoembjeoaaGreatDoor
open Go.RowKit
set_option linter.unusedVariables false
set_option maxRecDepth 100000 in
theorem step_call {f : FuncId} {v r : Value} {w : World} {ops : Array Oper} {o : Oper} {a : Act} {K : Act → World → Prop} {Q : Exit → Act → World → Prop} {E : Prop} {R : World → Prop} (hgd : o.guard = none) (n : Nat) (T : TypeId)
    (ho : o.op = .call { callee := .value (.func f), args := #[.tmp n], argTypes := #[T] }) (hx : a.eval (.tmp n) = v) (hcf : ∀ args w, (callFunc f args).run Tryz.prog w = .ok (.enter f args) w)
    (k : Calls Tryz.prog f #[v] w fun e w' => e = .returned r ∧ R w') (h : ∀ w', R w' → K (a.put o.dst r) w') :
    if Region.wanted o (yielded ops a.tmps) = true then Oper.wp Tryz.prog o a w K Q else E := by
  have hw : Region.wanted o (yielded ops a.tmps) = true := by simp [Region.wanted, hgd]
  rw [if_pos hw]
  unfold Oper.wp
  simp [Act.eval] at hx
  simp [execOp, ho, resolve, invoke, hcf, hx, go_sem]
  refine Calls.mono (R := fun e w' => e = .returned r ∧ R w') k ?_
  rintro e w' ⟨he, hr⟩
  subst he
  exact h w' hr
end Go.Proofs.YtmlacmoembjeoaaGreatDoor
