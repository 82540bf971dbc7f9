/-
  For all bytes: they are a text just if a range over them as a string meets no place at which it has no character; and a character is read and written, and a wrong byte told; the bytes stay as they were.
-/
import Derived.Test.YtjnhobohnkhpoabRows
import Derived.Test.YtjnhobohnkhpoabAlive
import Derived.WalkKit
import Derived.ProofKit
import Derived.OpenShut
import Derived.ShutString
import Derived.ChangeOld
import Derived.Below
import Derived.SizedLaws
namespace Go.Proofs.Ytjnhobohnkhpoab.utfGo
open Go.ChangeShapes Go.WideShapes Go.ChangeAt Go.RowKit
open Go.ChangeMaps (open_string shut_string)
set_option linter.unusedVariables false

theorem own : ownKnob Try.prog.godebug = none := by kernel_rfl
theorem laidOut : laidOutB Try.prog = true := by kernel_rfl
theorem bytes_e : Try.prog.bytesOf 5 = 1 := by kernel_rfl

theorem rr_good {zs : List Int} {p : Nat} {ls : List Nat} (h : runesL zs = (ls ++ (runesL (zs.drop p)).1, (runesL (zs.drop p)).2.map (p + ·))) (h0 : zs.drop p ≠ []) (hg : Good (zs.drop p)) :
    runesL zs = ((ls ++ [valB (zs.drop p)]) ++ (runesL (zs.drop (p + lenB (zs.drop p)))).1, (runesL (zs.drop (p + lenB (zs.drop p)))).2.map (p + lenB (zs.drop p) + ·)) := by
  rw [h, runes_good h0 hg, List.drop_drop]
  simp only [List.append_assoc, List.singleton_append, Option.map_map, Prod.mk.injEq, true_and]
  congr 1
  funext x
  simp only [Function.comp_apply]
  omega
theorem rr_bad {zs : List Int} {p : Nat} {ls : List Nat} (h : runesL zs = (ls ++ (runesL (zs.drop p)).1, (runesL (zs.drop p)).2.map (p + ·))) (h0 : zs.drop p ≠ []) (hg : ¬ Good (zs.drop p)) :
    (runesL zs).2 = some (p + badB (zs.drop p)) := by
  rw [h, runes_bad h0 hg]
  rfl
theorem rr_end {zs : List Int} {p : Nat} {ls : List Nat} (h : runesL zs = (ls ++ (runesL (zs.drop p)).1, (runesL (zs.drop p)).2.map (p + ·))) (hp : zs.length ≤ p) :
    runesL zs = (ls, none) := by
  rw [h, List.drop_of_length_le hp, runes_nil]
  simp

theorem next_at (W : World) (G : Nat) (hG : W.heap.size = G) (s : ByteArray) (pos : Nat) (ty : TypeId) (h : pos < s.size) :
    (Instr.next (.pointer (some ⟨G, 0, none⟩)) true ty).run Try.prog (W.iter s pos) = .ok (.tuple #[.bool true, .int .i64 pos, .int .i32 (Utf8.decode s pos).1]) (W.iter s (pos + (Utf8.decode s pos).2)) := by
  subst hG; exact run_next_any W s pos ty h
theorem next_out (W : World) (G : Nat) (hG : W.heap.size = G) (s : ByteArray) (pos : Nat) (ty : TypeId) (h : ¬ pos < s.size) :
    (Instr.next (.pointer (some ⟨G, 0, none⟩)) true ty).run Try.prog (W.iter s pos) = .ok (.tuple #[.bool false]) (W.iter s pos) := by
  subst hG; exact run_next_end W s pos ty h
theorem pos_at (W : World) (G : Nat) (hG : W.heap.size = G) (s : ByteArray) (pos : Nat) : (W.iter s pos).iterPos G = pos := by
  subst hG; exact World.iterPos_iter W s pos
theorem iter_kept (W : World) (s : ByteArray) (pos : Nat) : Below W.heap.size W (W.iter s pos) := iter_below W s pos
/-- Bytes that are no character are not the three of 65533. -/
theorem bad_odd {b : List Int} (h : ¬ Good b) : ¬ (3 ≤ b.length ∧ nth b 0 = 239 ∧ nth b 1 = 191 ∧ nth b 2 = 189) := by
  rintro ⟨h1, h2, h3, h4⟩
  refine h ?_
  unfold Good GoodN ok1 okK
  rw [h2, h3, h4]
  have e : lenN 239 = 3 := rfl
  have e1 : lo2 239 = 128 := rfl
  have e2 : hi2 239 = 191 := rfl
  rw [e, e1, e2]
  exact ⟨by omega, fun _ => by omega, fun _ => by omega, fun h => by omega⟩
theorem at_index {zs : List Int} {pos : Nat} {ls : List Nat} (h : (runesL zs).1 = ls ++ (runesL (zs.drop pos)).1) (h0 : zs.drop pos ≠ []) (hg : Good (zs.drop pos)) : (ints (runesL zs).1).getD ls.length 0 = ((valB (zs.drop pos) : Nat) : Int) ∧ ls.length < (ints (runesL zs).1).length := by
  rw [h, runes_good h0 hg]
  constructor
  · simp [ints, List.getD_eq_getElem?_getD]
  · simp [ints]

set_option maxRecDepth 100000 in
set_option maxHeartbeats 4000000 in
theorem go_text (a0 : Option Addr) (len0 cap0 : Nat) (zs : List Int) (w : World) (hl : zs.length = len0) (hb : Bytes w a0 zs) (hlc : len0 ≤ cap0) (r0 : cap0 ≤ 140737488351232) (hf : (runesL zs).2 = none) (h1 : whyL zs = 0) (h2 : atL zs = 0) (h3 : txtL zs = ints (runesL zs).1) :
    Calls Try.prog 3 #[.slice a0 len0 cap0] w fun e w' => e = .returned (.bool true) ∧ Below w.heap.size w w' := by
  have hfs : Hid ((runesL zs).2 = none) := hf
  clear hf
  have hB : Hid (Bytes w a0 zs) := hb
  have hL : Hid (zs.length = len0) := hl
  clear hb hl
  have k1 := runes_any a0 len0 cap0 zs w hL.out hB.out hlc (by omega)
  rw [h1, h2, h3] at k1
  clear h1 h2 h3
  obtain ⟨s, hS, hsz⟩ : ∃ s, Hid (strOfNums zs = s) ∧ s.size = len0 := ⟨_, rfl, by rw [strOfNums_size, hL.out]⟩
  go_enter Try.func3, Try.ntmps3
  go_wp2_with fail
  refine k1.mono ?_
  rintro e x1 ⟨v1, rfl, ho1, hb1⟩
  have hbW : Hid (Below w.heap.size w (x1.alloc (.cells #[.int .i64 0, .int .i64 0] 26))) := hb1.alloc hb1.size _
  have hF : Hid (FAt (x1.alloc (.cells #[.int .i64 0, .int .i64 0] 26)) x1.heap.size 0 0) := heap_alloc_new x1 _
  have hO := ho1.alloc (.cells #[.int .i64 0, .int .i64 0] 26)
  obtain ⟨a1, n1, c1, rfl, hl1, -, -, -, hI⟩ := hO.form
  have hBW : Hid (Bytes (x1.alloc (.cells #[.int .i64 0, .int .i64 0] 26)) a0 zs) := hB.out.kept hbW.out
  have ks := conv_str hBW.out len0 cap0 hL.out
  rw [hS.out] at ks
  have hG : Hid ((x1.alloc (.cells #[.int .i64 0, .int .i64 0] 26)).heap.size = x1.heap.size + 1) := by show _ = _; simp
  clear ho1 hb1 hO k1
  go_wp2
  generalize x1.heap.size + 1 = G at *
  generalize x1.alloc (.cells #[.int .i64 0, .int .i64 0] 26) = W at *
  generalize x1.heap.size = g4 at *
  clear ks
  go_loopw [5] (fun v wr => ∃ (pos k : Nat) (ls : List Nat), wr = W.iter s pos ∧ v = .int .i64 k ∧ pos ≤ len0 ∧ k ≤ pos ∧ Hid (ls.length = k) ∧ Hid (runesL zs = (ls ++ (runesL (zs.drop pos)).1, (runesL (zs.drop pos)).2.map (pos + ·)))) (fun _ wr => len0 - wr.iterPos G)
  case atStart => exact ⟨0, 0, [], rfl, rfl, Nat.zero_le _, Nat.le_refl _, rfl, (by show _ = _; simp)⟩
  case round =>
    obtain ⟨pos, k, ls, rfl, rfl, hp, hkp, hk, hrn⟩ := hrel
    have c0 : ∀ q, (W.iter s q).cell? ⟨g4, 0, none⟩ = some (.int .i64 0) := fun q => (hF.out.kept (iter_kept W s q)).c0
    have c1 : ∀ q, (W.iter s q).cell? ⟨g4, 1, none⟩ = some (.int .i64 0) := fun q => (hF.out.kept (iter_kept W s q)).c1
    by_cases hlt : pos < len0
    · have h0 : zs.drop pos ≠ [] := by intro h; have := congrArg List.length h; rw [List.length_drop, hL.out] at this; simp at this; omega
      obtain ⟨b, off, rfl⟩ := bytes_some hBW.out (by rw [hL.out]; omega)
      have hcell : Hid (∀ i, i < len0 → ∀ q, (W.iter s q).cell? ⟨b, off + i, none⟩ = some (.int .u8 (nth zs i : Nat))) := fun i hi q => (hBW.out.kept (iter_kept W s q)).nat (by rw [hL.out]; exact hi)
      by_cases hg : Good (zs.drop pos)
      · skip
        have hd := decode_good hB.out.1 hg
        have hne := good_ne hg h0
        rw [List.length_drop, hL.out] at hne
        have hrn2 : Hid _ := rr_good hrn.out h0 hg
        have hodd : Hid _ := good_odd hg
        have hnx : ∀ ty, (Instr.next (.pointer (some ⟨G, 0, none⟩)) true ty).run Try.prog (W.iter s pos) = .ok (.tuple #[.bool true, .int .i64 pos, .int .i32 (valB (zs.drop pos) : Nat)]) (W.iter s (pos + lenB (zs.drop pos))) := fun ty => by
          rw [next_at W G hG.out s pos ty (by omega), ← hS.out, hd]
        have hix := at_index (zs := zs) (pos := pos) (ls := ls) (by rw [hrn.out]) h0 hg
        rw [hk.out, hl1.out] at hix
        obtain ⟨b1, o1, rfl⟩ := ints_some hI.out (by rw [hl1.out]; omega)
        have cl : ∀ q, (W.iter s q).cell? ⟨b1, o1 + k, none⟩ = some (.int .i32 (valB (zs.drop pos) : Nat)) := fun q => by
          rw [← hix.1]
          exact (hI.out.kept (iter_kept W s q)).cell (by rw [hl1.out]; exact hix.2)
        have hkn : k < n1 := hix.2
        have dk : decide ((n1 : Int) ≤ (k : Int)) = false := by simp; omega
        clear hix
        clear hd h0 hg hrn
        by_cases hv : valB (zs.drop pos) = 65533
        · obtain ⟨o1', o2', o3', o4'⟩ := hodd.out.1 hv
          rw [List.length_drop, hL.out] at o1'
          rw [nth_drop] at o2' o3' o4'
          have q0 : ∀ q, (W.iter s q).cell? ⟨b, off + pos, none⟩ = some (.int .u8 239) := fun q => by rw [hcell.out pos (by omega) q, show nth zs pos = 239 from o2']; rfl
          have q1 : ∀ q, (W.iter s q).cell? ⟨b, off + (pos + 1), none⟩ = some (.int .u8 191) := fun q => by rw [hcell.out (pos + 1) (by omega) q, show nth zs (pos + 1) = 191 from o3']; rfl
          have q2 : ∀ q, (W.iter s q).cell? ⟨b, off + (pos + 2), none⟩ = some (.int .u8 189) := fun q => by rw [hcell.out (pos + 2) (by omega) q, show nth zs (pos + 2) = 189 from o4']; rfl
          have d3 : decide ((pos : Int) + 3 ≤ (len0 : Int)) = true := by simp; omega
          have j0 : (pos : Int) < (len0 : Int) := by omega
          have j1 : (pos : Int) + 1 < (len0 : Int) := by omega
          have j2 : (pos : Int) + 2 < (len0 : Int) := by omega
          have hV : Hid (valB (zs.drop pos) = 65533) := hv
          rw [hv] at hnx cl
          rw [hv] at hrn2
          clear hv o1' o2' o3' o4'
          generalize lenB (zs.drop pos) = L at *
          go_wp2
          go_roundw
          case rel => exact ⟨pos + L, k + 1, ls ++ [65533], rfl, by go_num, by omega, by omega, (by show _ = _; rw [List.length_append, hk.out]; rfl), hrn2⟩
          case measure => rw [pos_at W G hG.out, pos_at W G hG.out]; omega
        · have dv : (((valB (zs.drop pos) : Nat) : Int) == 65533) = false := by simp; omega
          clear hv hodd
          generalize valB (zs.drop pos) = V at *
          generalize lenB (zs.drop pos) = L at *
          go_wp2
          go_roundw
          case rel => exact ⟨pos + L, k + 1, ls ++ [V], rfl, by go_num, by omega, by omega, (by show _ = _; rw [List.length_append, hk.out]; rfl), hrn2⟩
          case measure => rw [pos_at W G hG.out, pos_at W G hG.out]; omega
      · have hfl := rr_bad hrn.out h0 hg
        rw [hfs.out] at hfl
        cases hfl
    · have he := rr_end hrn.out (by rw [hL.out]; omega)
      have hn1 : n1 = k := by rw [← hl1.out, he, ints_len]; exact hk.out
      obtain rfl : pos = len0 := by omega
      have hnx : ∀ ty, (Instr.next (.pointer (some ⟨G, 0, none⟩)) true ty).run Try.prog (W.iter s pos) = _ := fun ty => next_out W G hG.out s pos ty (by omega)
      clear he hrn hI hl1
      subst hn1
      go_wp2_with (go_at_call 5; refine (alive_any _).mono ?_; rintro e x9 ⟨rfl, hb9⟩)
      go_ret
      have hbF := hbW.out.trans ((iter_kept W s pos).mono hbW.out.size)
      exact ⟨rfl, hbF.trans (hb9.mono hbF.size)⟩
set_option maxRecDepth 100000 in
set_option maxHeartbeats 4000000 in
theorem go_fault (a0 : Option Addr) (len0 cap0 : Nat) (zs : List Int) (w : World) (hl : zs.length = len0) (hb : Bytes w a0 zs) (hlc : len0 ≤ cap0) (r0 : cap0 ≤ 140737488351232) (p : Nat) (hf : (runesL zs).2 = some p) (h1 : whyL zs = 6) (h2 : atL zs = p) (h3 : txtL zs = []) :
    Calls Try.prog 3 #[.slice a0 len0 cap0] w fun e w' => e = .returned (.bool true) ∧ Below w.heap.size w w' := by
  have hfs : Hid ((runesL zs).2 = some p) := hf
  clear hf
  have hB : Hid (Bytes w a0 zs) := hb
  have hL : Hid (zs.length = len0) := hl
  clear hb hl
  have k1 := runes_any a0 len0 cap0 zs w hL.out hB.out hlc (by omega)
  rw [h1, h2, h3] at k1
  clear h1 h2 h3
  obtain ⟨s, hS, hsz⟩ : ∃ s, Hid (strOfNums zs = s) ∧ s.size = len0 := ⟨_, rfl, by rw [strOfNums_size, hL.out]⟩
  go_enter Try.func3, Try.ntmps3
  go_wp2_with fail
  refine k1.mono ?_
  rintro e x1 ⟨v1, rfl, ho1, hb1⟩
  have hbW : Hid (Below w.heap.size w (x1.alloc (.cells #[.int .i64 6, .int .i64 (p : Nat)] 26))) := hb1.alloc hb1.size _
  have hF : Hid (FAt (x1.alloc (.cells #[.int .i64 6, .int .i64 (p : Nat)] 26)) x1.heap.size 6 p) := heap_alloc_new x1 _
  have hO := ho1.alloc (.cells #[.int .i64 6, .int .i64 (p : Nat)] 26)
  obtain ⟨a1, n1, c1, rfl, hl1, -, -, -, hI⟩ := hO.form
  have hBW : Hid (Bytes (x1.alloc (.cells #[.int .i64 6, .int .i64 (p : Nat)] 26)) a0 zs) := hB.out.kept hbW.out
  have ks := conv_str hBW.out len0 cap0 hL.out
  rw [hS.out] at ks
  have hG : Hid ((x1.alloc (.cells #[.int .i64 6, .int .i64 (p : Nat)] 26)).heap.size = x1.heap.size + 1) := by show _ = _; simp
  clear ho1 hb1 hO k1
  go_wp2
  generalize x1.heap.size + 1 = G at *
  generalize x1.alloc (.cells #[.int .i64 6, .int .i64 (p : Nat)] 26) = W at *
  generalize x1.heap.size = g4 at *
  clear ks
  go_loopw [5] (fun v wr => ∃ (pos k : Nat) (ls : List Nat), wr = W.iter s pos ∧ v = .int .i64 k ∧ pos ≤ len0 ∧ k ≤ pos ∧ Hid (ls.length = k) ∧ Hid (runesL zs = (ls ++ (runesL (zs.drop pos)).1, (runesL (zs.drop pos)).2.map (pos + ·)))) (fun _ wr => len0 - wr.iterPos G)
  case atStart => exact ⟨0, 0, [], rfl, rfl, Nat.zero_le _, Nat.le_refl _, rfl, (by show _ = _; simp)⟩
  case round =>
    obtain ⟨pos, k, ls, rfl, rfl, hp, hkp, hk, hrn⟩ := hrel
    have c0 : ∀ q, (W.iter s q).cell? ⟨g4, 0, none⟩ = some (.int .i64 6) := fun q => (hF.out.kept (iter_kept W s q)).c0
    have c1 : ∀ q, (W.iter s q).cell? ⟨g4, 1, none⟩ = some (.int .i64 (p : Nat)) := fun q => (hF.out.kept (iter_kept W s q)).c1
    by_cases hlt : pos < len0
    · have h0 : zs.drop pos ≠ [] := by intro h; have := congrArg List.length h; rw [List.length_drop, hL.out] at this; simp at this; omega
      obtain ⟨b, off, rfl⟩ := bytes_some hBW.out (by rw [hL.out]; omega)
      have hcell : Hid (∀ i, i < len0 → ∀ q, (W.iter s q).cell? ⟨b, off + i, none⟩ = some (.int .u8 (nth zs i : Nat))) := fun i hi q => (hBW.out.kept (iter_kept W s q)).nat (by rw [hL.out]; exact hi)
      by_cases hg : Good (zs.drop pos)
      · skip
        have hd := decode_good hB.out.1 hg
        have hne := good_ne hg h0
        rw [List.length_drop, hL.out] at hne
        have hrn2 : Hid _ := rr_good hrn.out h0 hg
        have hodd : Hid _ := good_odd hg
        have hnx : ∀ ty, (Instr.next (.pointer (some ⟨G, 0, none⟩)) true ty).run Try.prog (W.iter s pos) = .ok (.tuple #[.bool true, .int .i64 pos, .int .i32 (valB (zs.drop pos) : Nat)]) (W.iter s (pos + lenB (zs.drop pos))) := fun ty => by
          rw [next_at W G hG.out s pos ty (by omega), ← hS.out, hd]
        clear hd h0 hg hrn
        by_cases hv : valB (zs.drop pos) = 65533
        · obtain ⟨o1', o2', o3', o4'⟩ := hodd.out.1 hv
          rw [List.length_drop, hL.out] at o1'
          rw [nth_drop] at o2' o3' o4'
          have q0 : ∀ q, (W.iter s q).cell? ⟨b, off + pos, none⟩ = some (.int .u8 239) := fun q => by rw [hcell.out pos (by omega) q, show nth zs pos = 239 from o2']; rfl
          have q1 : ∀ q, (W.iter s q).cell? ⟨b, off + (pos + 1), none⟩ = some (.int .u8 191) := fun q => by rw [hcell.out (pos + 1) (by omega) q, show nth zs (pos + 1) = 191 from o3']; rfl
          have q2 : ∀ q, (W.iter s q).cell? ⟨b, off + (pos + 2), none⟩ = some (.int .u8 189) := fun q => by rw [hcell.out (pos + 2) (by omega) q, show nth zs (pos + 2) = 189 from o4']; rfl
          have d3 : decide ((pos : Int) + 3 ≤ (len0 : Int)) = true := by simp; omega
          have j0 : (pos : Int) < (len0 : Int) := by omega
          have j1 : (pos : Int) + 1 < (len0 : Int) := by omega
          have j2 : (pos : Int) + 2 < (len0 : Int) := by omega
          have hV : Hid (valB (zs.drop pos) = 65533) := hv
          rw [hv] at hnx
          rw [hv] at hrn2
          clear hv o1' o2' o3' o4'
          generalize lenB (zs.drop pos) = L at *
          go_wp2
          go_roundw
          case rel => exact ⟨pos + L, k + 1, ls ++ [65533], rfl, by go_num, by omega, by omega, (by show _ = _; rw [List.length_append, hk.out]; rfl), hrn2⟩
          case measure => rw [pos_at W G hG.out, pos_at W G hG.out]; omega
        · have dv : (((valB (zs.drop pos) : Nat) : Int) == 65533) = false := by simp; omega
          clear hv hodd
          generalize valB (zs.drop pos) = V at *
          generalize lenB (zs.drop pos) = L at *
          go_wp2
          go_roundw
          case rel => exact ⟨pos + L, k + 1, ls ++ [V], rfl, by go_num, by omega, by omega, (by show _ = _; rw [List.length_append, hk.out]; rfl), hrn2⟩
          case measure => rw [pos_at W G hG.out, pos_at W G hG.out]; omega
      · skip
        have hd := decode_bad hB.out.1 hg
        have hno := bad_odd hg
        rw [List.length_drop, hL.out, nth_drop, nth_drop, nth_drop, Nat.add_zero] at hno
        have hfl := rr_bad hrn.out h0 hg
        rw [hfs.out] at hfl
        have hpp : p = pos + badB (zs.drop pos) := Option.some.inj hfl
        have dp : pos ≤ p := by omega
        have hnx : ∀ ty, (Instr.next (.pointer (some ⟨G, 0, none⟩)) true ty).run Try.prog (W.iter s pos) = .ok (.tuple #[.bool true, .int .i64 pos, .int .i32 65533]) (W.iter s (pos + 1)) := fun ty => by
          rw [next_at W G hG.out s pos ty (by omega), ← hS.out, hd]
          rfl
        have q0 : ∀ q, (W.iter s q).cell? ⟨b, off + pos, none⟩ = some (.int .u8 (nth zs pos : Nat)) := fun q => hcell.out pos (by omega) q
        have j0 : (pos : Int) < (len0 : Int) := by omega
        clear hd h0 hg hrn hfl hpp
        by_cases hA : pos + 3 ≤ len0
        · have d3 : decide ((pos : Int) + 3 ≤ (len0 : Int)) = true := by simp; omega
          have j1 : (pos : Int) + 1 < (len0 : Int) := by omega
          have j2 : (pos : Int) + 2 < (len0 : Int) := by omega
          have q1 : ∀ q, (W.iter s q).cell? ⟨b, off + (pos + 1), none⟩ = some (.int .u8 (nth zs (pos + 1) : Nat)) := fun q => hcell.out (pos + 1) (by omega) q
          have q2 : ∀ q, (W.iter s q).cell? ⟨b, off + (pos + 2), none⟩ = some (.int .u8 (nth zs (pos + 2) : Nat)) := fun q => hcell.out (pos + 2) (by omega) q
          have hno' : Hid (¬ (nth zs pos = 239 ∧ nth zs (pos + 1) = 191 ∧ nth zs (pos + 2) = 189)) := fun h => hno ⟨by omega, h⟩
          clear hno
          generalize nth zs pos = e0 at *
          generalize nth zs (pos + 1) = e1 at *
          generalize nth zs (pos + 2) = e2 at *
          by_cases z0 : e0 = 239
          · subst z0
            by_cases z1 : e1 = 191
            · subst z1
              have z2 : (((e2 : Nat) : Int) == 189) = false := by have := hno'.out; simp; omega
              go_wp2_with (go_at_call 5; refine (alive_any _).mono ?_; rintro e x9 ⟨rfl, hb9⟩)
              go_ret
              have hbF := hbW.out.trans ((iter_kept W s (pos + 1)).mono hbW.out.size)
              exact ⟨rfl, hbF.trans (hb9.mono hbF.size)⟩
            · have z2 : (((e1 : Nat) : Int) == 191) = false := by simp; omega
              clear z1
              go_wp2_with (go_at_call 5; refine (alive_any _).mono ?_; rintro e x9 ⟨rfl, hb9⟩)
              go_ret
              have hbF := hbW.out.trans ((iter_kept W s (pos + 1)).mono hbW.out.size)
              exact ⟨rfl, hbF.trans (hb9.mono hbF.size)⟩
          · have z2 : (((e0 : Nat) : Int) == 239) = false := by simp; omega
            clear z0
            go_wp2_with (go_at_call 5; refine (alive_any _).mono ?_; rintro e x9 ⟨rfl, hb9⟩)
            go_ret
            have hbF := hbW.out.trans ((iter_kept W s (pos + 1)).mono hbW.out.size)
            exact ⟨rfl, hbF.trans (hb9.mono hbF.size)⟩
        · have d3 : decide ((pos : Int) + 3 ≤ (len0 : Int)) = false := by simp; omega
          clear hno
          generalize nth zs pos = e0 at *
          go_wp2_with (go_at_call 5; refine (alive_any _).mono ?_; rintro e x9 ⟨rfl, hb9⟩)
          go_ret
          have hbF := hbW.out.trans ((iter_kept W s (pos + 1)).mono hbW.out.size)
          exact ⟨rfl, hbF.trans (hb9.mono hbF.size)⟩
    · have he := rr_end hrn.out (by rw [hL.out]; omega)
      have hfl := hfs.out
      rw [he] at hfl
      cases hfl
set_option maxHeartbeats 4000000 in
theorem walk (a0 : Option Addr) (len0 cap0 : Nat) (z0 : List Int) (w : World) (w0 : IsRow .u8 w a0 len0 cap0 z0) (r0 : cap0 ≤ 140737488351232) :
    Calls Try.prog 3 #[.slice a0 len0 cap0] w fun e w' => e = .returned (.bool true) ∧ Below w.heap.size w w' := by
  obtain ⟨hl, hb⟩ := bytes_of_row w0
  obtain ⟨hlc, hcm⟩ := row_le w0
  generalize z0.take len0 = zs at *
  cases hf : (runesL zs).2 with
  | none =>
    obtain ⟨h1, h2, h3⟩ := why_none hf
    exact go_text a0 len0 cap0 zs w hl hb hlc r0 hf h1 h2 h3
  | some p =>
    obtain ⟨h1, h2, h3⟩ := why_some hf
    exact go_fault a0 len0 cap0 zs w hl hb hlc r0 p hf h1 h2 h3

set_option maxRecDepth 100000 in
theorem lifted (os : Os) (started : os.Started) (H : Type) (enc : TypeId × Value → H) :
    ReturnsInHanded {} Try.checked os 3 .any (Rows.utfGoSpec.pre6 enc Try.prog Try.f3 Rows.utfGoRow.domain false) (Rows.utfGoSpec.post enc Try.prog Try.f3 false true false false) := by
  refine returnsInHanded_of_change_sized (C := Try.checked) own started (by kernel_rfl) Try.func3
    (ChangeSpec.witness6 (enc := enc) (C := Try.checked) false ⟨#[], #[.slice none 0 0], []⟩ 8 (by kernel_rfl) (by kernel_rfl) (by kernel_rfl) (by kernel_rfl)) ?_
  intro W base args ds gs before hval0 hW hcnd hsz0 _
  have hval : ∀ (j : Nat) t v, Try.f3.params[j]? = some t → args[j]? = some v → Value.okWide Try.prog W .any base t v := hval0
  have hW' := hW
  have hsz : (DataW.weightsEach Try.prog (Try.f3.params.toList ++ Rows.utfGoSpec.plain.varTypes Try.prog) (ds ++ gs)).all (· ≤ reachBytes) = true := hsz0
  obtain ⟨p, q, hA0, hV, rfl, hfz, hnd⟩ := hW
  have hA : DataW.TrodAll enc Try.prog W 0 (fun _ => true) true Try.f3.params.toList args.toList ds p := hA0
  rw [Try.params3] at hA hval hsz
  obtain ⟨v0, vs0, d0, ds0, p0, q0, hargs, rfl, rfl, h0, r0'⟩ := trodAll_cons hA
  obtain ⟨rfl, rfl, rfl⟩ := trodAll_nil r0'
  obtain rfl : args = #[v0] := by cases args; simp_all
  obtain ⟨rfl, rfl⟩ := trodVars_none hV
  obtain ⟨a0, len0, cap0, rfl⟩ := okWide_slice Try.underlying22 (hval 0 22 v0 rfl rfl)
  have k0 := h0
  have lt0 : ∀ x ∈ p0, x.block < W.heap.size := by obtain ⟨m, hm⟩ := k0; exact DataW.trod_lt m _ _ _ hm
  obtain ⟨z0, w0, r0⟩ : ∃ zs, IsRow .u8 W a0 len0 cap0 zs ∧ cap0 ≤ 140737488351232 := by
    obtain ⟨fuel, hf⟩ := h0
    rcases open_ints Try.underlying22 Try.underlying5 (by kernel_rfl) hf with ⟨hcs, hx⟩ | ⟨x, l, c, zs, hcs, _, hl, hm, hz, hx, hcell, hwz⟩
    · simp [Value.cells] at hcs
      obtain ⟨rfl, rfl, rfl⟩ := hcs
      exact ⟨[], .inl ⟨rfl, rfl, rfl, rfl⟩, by omega⟩
    · simp [Value.cells] at hcs
      obtain ⟨rfl, rfl, rfl⟩ := hcs
      have hd : d0 = .slice (lits .u8 (zs.take len0)) (lits .u8 (zs.drop len0)) := (Prod.mk.inj hx).1
      have hz' : zs.length = cap0 := by simpa using hz
      have hr : cap0 ≤ 140737488351232 := by
        have := sized_slice hsz (j := 0) (t := 22) (e := 5) rfl (by rw [← hd]; rfl) Try.underlying22
        rw [bytes_e] at this
        simp only [lits, List.length_map, List.length_take, List.length_drop, reachBytes] at this
        omega
      exact ⟨zs, .inr ⟨_, rfl, hl, hm, hz', hcell, hwz⟩, hr⟩
  clear hA0 hval0
  refine (walk a0 len0 cap0 z0 W w0 r0).mono fun e W' ⟨he, bel⟩ => ?_
  subst he
  exact ⟨_, rfl, _, _, _, [], _, [], hW', trodAll_mk1 (shut_bool Try.underlying4 _), (trodAll_cons_mk (Below.trod laidOut (by kernel_rfl) (of_decide_eq_true (by kernel_rfl)) k0 bel lt0) trodAll_mk0), rfl, bel.frame _, fun h => by cases h⟩

theorem over : Rows.utfGoRow.holds Try.pinned (OpenSpec.ofChange Rows.utfGoSpec) :=
  OpenClaim.holds_of_wide 3 Try.f3 rfl rfl rfl rfl rfl rfl rfl ⟨rfl, rfl, rfl, rfl, rfl⟩ rfl rfl rfl rfl rfl (by kernel_rfl) Try.func3 (by kernel_rfl)
    (of_decide_eq_true (by kernel_rfl)) (by unfold Func.isWrapper; first | (rw [if_pos (by decide +kernel)]; kernel_rfl) | (rw [if_neg (by decide +kernel)]; exact ⟨rfl, rfl⟩))
    (fun os started H enc _ => lifted os started H enc)

end Go.Proofs.Ytjnhobohnkhpoab.utfGo
namespace Go.Proofs.Ytjnhobohnkhpoab

theorem utfGo_holds : Rows.UtfGoSaid := utfGo.over
#print axioms utfGo_holds
end Go.Proofs.Ytjnhobohnkhpoab
