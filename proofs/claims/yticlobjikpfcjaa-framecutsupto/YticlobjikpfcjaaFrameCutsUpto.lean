/-
  For all bytes and all cuts, together of bulk at most 1048576: however the bytes are cut, the same loads are found, as many bytes are lost, and as many wait; and a load is framed and found; what came stays as it was.
-/
import Derived.Test.YticlobjikpfcjaaRows
import Derived.Test.YticlobjikpfcjaaNext
import Derived.WalkKit
import Derived.ProofKit
import Derived.OpenShut
import Derived.ShutString
import Derived.ChangeOld
import Derived.Below
import Derived.SizedLaws
import Derived.Deep.CondSized
namespace Go.Proofs.Yticlobjikpfcjaa.frameCutsUpto
open Go.ChangeShapes Go.WideShapes Go.ChangeAt Go.RowKit
open Go.ChangeMaps (open_string shut_string)
set_option linter.unusedVariables false

theorem own : ownKnob Try.prog.godebug = none := by kernel_rfl
theorem laidOut : laidOutB Try.prog = true := by kernel_rfl
theorem bytes_e : Try.prog.bytesOf 5 = 1 := by kernel_rfl

theorem bulk_lits {H : Type} (k : IntKind) (zs : List Int) : Rows.uptoBulkAll (H := H) (lits k zs) = zs.length := by
  induction zs with
  | nil => rfl
  | cons z zs ih =>
    show Rows.uptoBulk (H := H) (.lit (.int k z)) + Rows.uptoBulkAll (H := H) (lits k zs) = _
    rw [ih, List.length_cons]
    show 1 + zs.length = _
    omega
theorem bulk_row {H : Type} {zs : List Int} {len cap : Nat} (h : cap ≤ zs.length) : cap ≤ Rows.uptoBulk (H := H) (.slice (lits .u8 (zs.take len)) (lits .u8 (zs.drop len))) := by
  simp only [Rows.uptoBulk, bulk_lits, List.length_take, List.length_drop]
  omega

set_option maxHeartbeats 8000000 in
theorem walk (a0 : Option Addr) (len0 cap0 : Nat) (z0 : List Int) (a1 : Option Addr) (len1 cap1 : Nat) (z1 : List Int) (w : World) (w0 : IsRow .u8 w a0 len0 cap0 z0) (r0 : cap0 ≤ 140737488351232) (w1 : IsRow .u8 w a1 len1 cap1 z1) (r1 : cap1 ≤ 140737488351232) (small : cap0 + cap1 ≤ 1048576) :
    Calls Try.prog 6 #[.slice a0 len0 cap0, .slice a1 len1 cap1] w fun e w' => e = .returned (.bool true) ∧ Below w.heap.size w w' := by
  obtain ⟨hl, hb⟩ := bytes_of_row w0
  obtain ⟨hlc, hcm⟩ := row_le w0
  have hn := nil_cap w0
  obtain ⟨hl1, hb1⟩ := bytes_of_row w1
  obtain ⟨hlc1, hcm1⟩ := row_le w1
  have hsp : 0 < cap0 → ∃ b off, a0 = some ⟨b, off, none⟩ := by
    intro h0
    rcases w0 with ⟨rfl, _, h1, _⟩ | ⟨x, rfl, _, _, hz, hc, _⟩
    · omega
    · obtain ⟨b, off, sp⟩ := x
      have h1 := hc 0 (by omega)
      have h2 : sp = none := by simpa [Addr.add] using World.cell?_spot h1
      subst h2
      exact ⟨b, off, rfl⟩
  generalize z0.take len0 = zs at *
  generalize z1.take len1 = cs at *
  have hB : Hid (Bytes w a0 zs) := hb
  have hL : Hid (zs.length = len0) := hl
  have hN : Hid (a0 = none → cap0 = 0) := hn
  have hB1 : Hid (Bytes w a1 cs) := hb1
  have hL1 : Hid (cs.length = len1) := hl1
  clear hb hl hn w0 hb1 hl1 w1 r0 r1
  have hsm : cap0 ≤ 1048576 := by omega
  have hsm1 : cap1 ≤ 1048576 := by omega
  clear small
  go_enter Try.func6, Try.ntmps6
  go_wp2_with fail
  refine (new_any w).mono ?_
  rintro e x1 ⟨gs, rfl, hs1, hgs, hbx1⟩
  have hz1 := hbx1.size
  go_wp2_with fail
  refine (new_any x1).mono ?_
  rintro e x2 ⟨gt, rfl, ht2, hgt, hbx2⟩
  have hs2 := hs1.kept hbx2
  have hlt := hs1.lt
  have hne : gs ≠ gt := by omega
  have hgt' : w.heap.size ≤ gt := by omega
  have hbx : Below w.heap.size w x2 := hbx1.trans (hbx2.mono hz1)
  have hz2 := hbx.size
  clear hbx1 hbx2 hs1
  go_wp2_with (go_at_call 12; refine (alive_any x2).mono ?_; rintro e x3 ⟨rfl, hbx3⟩)
  have hs3 := hs2.kept hbx3
  have ht3 := ht2.kept hbx3
  have hb3 : Below w.heap.size w x3 := hbx.trans (hbx3.mono hz2)
  have hz3 := hb3.size
  clear hs2 ht2 hbx hbx3
  refine (feed_any gs [] 0 a0 len0 cap0 zs x3 hs3 hL.out (hB.out.kept hb3) hN.out (by simp; omega) (by simp)).mono ?_
  rintro e x4 ⟨v4, rfl, ho4, hs4, hg4⟩
  rw [List.nil_append] at ho4 hs4
  obtain ⟨cur3, hcur3⟩ := hs3.block
  have ht4 := ht3.other hg4 hne hcur3 (by decide)
  have hb4 : Below w.heap.size w x4 := hb3.grown hg4 hz3 (fun k hk => by cases hk; omega)
  have hz4 := hb4.size
  have hS4 : Hid (Stm x4 gs (waitS zs) (0 + lostS zs)) := hs4
  have hT4 : Hid (Stm x4 gt (waitS []) (lostS [])) := stm_new ht4
  obtain ⟨a4, n4, c4, rfl, hl4, hn4, -, -, hL4⟩ := ho4.lists
  clear ho4 hs4 ht4 hs3 ht3 hg4 hcur3 hb3 hlt hz1 hz2 hz3 hgs hgt
  have hB4 : Hid (Bytes x4 a0 zs) := hB.out.kept hb4
  have hC4 : Hid (Bytes x4 a1 cs) := hB1.out.kept hb4
  have hne' : Hid (gs ≠ gt) := hne
  clear hB hB1
  go_wp2
  go_loopw [8, 9, 30] (fun v i j wr => ∃ (k p : Nat), k ≤ len1 ∧ p ≤ len0 ∧ j = .int .i64 k ∧ i = .int .i64 p ∧ Hid (OwnsL wr x4.heap.size 0 v (scanL (zs.take p)).1) ∧ Hid (Stm wr gt (waitS (zs.take p)) (lostS (zs.take p))) ∧ Hid (x4.grownBy wr (some gt))) (fun _ _ j _ => len1 - (intOf j).toNat)
  case atStart => exact ⟨0, 0, Nat.zero_le _, Nat.zero_le _, rfl, rfl, (by show OwnsL _ _ _ _ _; rw [List.take_zero, scan_nil]; exact ownsL_nil _ _ _), hT4.out, World.grownBy.refl _ _⟩
  case round =>
    obtain ⟨k, p, hk, hp, rfl, rfl, hown, hstm, hgr⟩ := hrel
    have hBr : Hid (Bytes wr a0 zs) := hB4.out.stm hT4.out hgr.out
    obtain ⟨D, hD⟩ : ∃ D : Nat, (len0 : Int) - (p : Int) = (D : Int) := ⟨len0 - p, by omega⟩
    have hpD : Hid (p + D = len0) := by show _ = _; omega
    by_cases hlt : k < len1
    · have hCr : Hid (Bytes wr a1 cs) := hC4.out.stm hT4.out hgr.out
      obtain ⟨b1, o1, rfl⟩ := bytes_some hCr.out (by rw [hL1.out]; omega)
      obtain ⟨hck, hcb⟩ := byte_at hCr.out (i := k) (by rw [hL1.out]; exact hlt)
      generalize (cs.getD k 0).toNat = c at *
      clear hCr
      have hk1 : (k : Int) < (len1 : Int) := by omega
      by_cases hq : p < cap0
      · obtain ⟨b, off, rfl⟩ := hsp (by omega)
        have q1 : (cap0 = p) = False := by simp; omega
        by_cases hmn : c ≤ D
        · have j1 : (c : Int) ≤ (D : Int) := by omega
          have j2 : (p : Int) + (c : Int) ≤ (cap0 : Int) := by have := hpD.out; omega
          have j3 : (p : Int) ≤ (p : Int) + (c : Int) := by omega
          go_wp2_with fail
          refine (feed_next gt (zs.take p) (some ⟨b, off + p, none⟩) c (cap0 - p) ((zs.drop p).take c) wr hstm.out (by have := hpD.out; rw [List.length_take, List.length_drop, hL.out]; omega) ((hBr.out.drop p).take c) (by first | simp | (intro _; rfl)) (by have := hpD.out; omega) (by rw [List.length_take, hL.out]; omega)).mono ?_
          rintro e y1 ⟨v1, M, rfl, ho1, -, hM, hst1, hg1⟩
          have hO1 : Hid (OwnsL y1 x4.heap.size 0 u8 (scanL (zs.take p)).1) := hown.out.stm hstm.out hg1
          have hgr1 : Hid (x4.grownBy y1 (some gt)) := hgr.out.trans hg1
          have hzy := hgr1.out.size
          obtain ⟨a6, n6, c6, rfl, hl6, hn6, -, -, hL6⟩ := ho1.lists
          have hPe : Hid (zs.take p ++ (zs.drop p).take c = zs.take (p + c)) := (by show _ = _; exact List.take_add.symm)
          rw [hPe.out] at hst1 hM
          have hcount : Hid (((scanL (zs.take p)).1.length + M.length) * 24 ≤ 140737488355328) := by
            show _ ≤ _
            have h1 := found_many (zs.take (p + c))
            rw [hM.out, List.length_append] at h1
            have h2 := List.length_take_le (p + c) zs
            omega
          clear ho1 hg1 hstm hown hgr
          go_wp2_with (at_builtin; refine wpList_append_loads rfl _ (.tmp 49) rfl x4.heap.size 0 (Nat.zero_le _) u8 (scanL (zs.take p)).1 M rfl hO1.out a6 n6 c6 rfl hl6.out hn6.out hL6.out hcount.out hzy ?_; intro v9 y9 ho9 hg9; have hst9 := hst1.row hO1.out hg9; have hgr9 := OwnsL.grown hgr1.out hO1.out hg9; rw [← hM.out] at ho9; clear hg9)
          go_roundw
          case rel => exact ⟨k + 1, p + c, by omega, (by have := hpD.out; omega), by go_num, by go_num, ho9, hst9, hgr9⟩
          case measure => simp [intOf]; omega
        · have j1 : ¬ (c : Int) ≤ (D : Int) := by omega
          have j1' : (D : Int) ≤ (c : Int) := by omega
          have j2 : (p : Int) + (D : Int) ≤ (cap0 : Int) := by have := hpD.out; omega
          have j3 : (p : Int) ≤ (p : Int) + (D : Int) := by omega
          go_wp2_with fail
          refine (feed_next gt (zs.take p) (some ⟨b, off + p, none⟩) D (cap0 - p) ((zs.drop p).take D) wr hstm.out (by have := hpD.out; rw [List.length_take, List.length_drop, hL.out]; omega) ((hBr.out.drop p).take D) (by first | simp | (intro _; rfl)) (by have := hpD.out; omega) (by rw [List.length_take, hL.out]; omega)).mono ?_
          rintro e y1 ⟨v1, M, rfl, ho1, -, hM, hst1, hg1⟩
          have hO1 : Hid (OwnsL y1 x4.heap.size 0 u8 (scanL (zs.take p)).1) := hown.out.stm hstm.out hg1
          have hgr1 : Hid (x4.grownBy y1 (some gt)) := hgr.out.trans hg1
          have hzy := hgr1.out.size
          obtain ⟨a6, n6, c6, rfl, hl6, hn6, -, -, hL6⟩ := ho1.lists
          have hPe : Hid (zs.take p ++ (zs.drop p).take D = zs.take (p + D)) := (by show _ = _; exact List.take_add.symm)
          rw [hPe.out] at hst1 hM
          have hcount : Hid (((scanL (zs.take p)).1.length + M.length) * 24 ≤ 140737488355328) := by
            show _ ≤ _
            have h1 := found_many (zs.take (p + D))
            rw [hM.out, List.length_append] at h1
            have h2 := List.length_take_le (p + D) zs
            omega
          clear ho1 hg1 hstm hown hgr
          go_wp2_with (at_builtin; refine wpList_append_loads rfl _ (.tmp 49) rfl x4.heap.size 0 (Nat.zero_le _) u8 (scanL (zs.take p)).1 M rfl hO1.out a6 n6 c6 rfl hl6.out hn6.out hL6.out hcount.out hzy ?_; intro v9 y9 ho9 hg9; have hst9 := hst1.row hO1.out hg9; have hgr9 := OwnsL.grown hgr1.out hO1.out hg9; rw [← hM.out] at ho9; clear hg9)
          go_roundw
          case rel => exact ⟨k + 1, p + D, by omega, (by have := hpD.out; omega), by go_num, by go_num, ho9, hst9, hgr9⟩
          case measure => simp [intOf]; omega
      · have hpc : p = cap0 := by omega
        have hD0 : D = 0 := by have := hpD.out; omega
        subst hpc
        subst hD0
        obtain rfl : len0 = p := by omega
        have hle : (0 : Int) ≤ (len0 : Int) := by omega
        by_cases hmn : c = 0
        · subst hmn
          cases a0 with
          | none =>
            obtain rfl : len0 = 0 := hN.out rfl
            have hp := hp
            go_wp2_with fail
            refine (feed_next gt (zs.take 0) none 0 0 ([]) wr hstm.out rfl (bytes_none _ _) (by first | simp | (intro _; rfl)) (by have := hpD.out; omega) (by rw [List.length_take, hL.out]; omega)).mono ?_
            rintro e y1 ⟨v1, M, rfl, ho1, -, hM, hst1, hg1⟩
            have hO1 : Hid (OwnsL y1 x4.heap.size 0 u8 (scanL (zs.take 0)).1) := hown.out.stm hstm.out hg1
            have hgr1 : Hid (x4.grownBy y1 (some gt)) := hgr.out.trans hg1
            have hzy := hgr1.out.size
            obtain ⟨a6, n6, c6, rfl, hl6, hn6, -, -, hL6⟩ := ho1.lists
            have hPe : Hid (zs.take 0 ++ [] = zs.take (0)) := (by show _ = _; rw [List.append_nil])
            rw [hPe.out] at hst1 hM
            have hcount : Hid (((scanL (zs.take 0)).1.length + M.length) * 24 ≤ 140737488355328) := by
              show _ ≤ _
              have h1 := found_many (zs.take (0))
              rw [hM.out, List.length_append] at h1
              have h2 := List.length_take_le (0) zs
              omega
            clear ho1 hg1 hstm hown hgr
            go_wp2_with (at_builtin; refine wpList_append_loads rfl _ (.tmp 49) rfl x4.heap.size 0 (Nat.zero_le _) u8 (scanL (zs.take 0)).1 M rfl hO1.out a6 n6 c6 rfl hl6.out hn6.out hL6.out hcount.out hzy ?_; intro v9 y9 ho9 hg9; have hst9 := hst1.row hO1.out hg9; have hgr9 := OwnsL.grown hgr1.out hO1.out hg9; rw [← hM.out] at ho9; clear hg9)
            go_roundw
            case rel => exact ⟨k + 1, 0, by omega, (by have := hpD.out; omega), by go_num, by go_num, ho9, hst9, hgr9⟩
            case measure => simp [intOf]; omega
          | some x =>
            go_wp2_with fail
            refine (feed_next gt (zs.take len0) (some x) 0 0 ([]) wr hstm.out rfl (bytes_none _ _) (by first | simp | (intro _; rfl)) (by have := hpD.out; omega) (by rw [List.length_take, hL.out]; omega)).mono ?_
            rintro e y1 ⟨v1, M, rfl, ho1, -, hM, hst1, hg1⟩
            have hO1 : Hid (OwnsL y1 x4.heap.size 0 u8 (scanL (zs.take len0)).1) := hown.out.stm hstm.out hg1
            have hgr1 : Hid (x4.grownBy y1 (some gt)) := hgr.out.trans hg1
            have hzy := hgr1.out.size
            obtain ⟨a6, n6, c6, rfl, hl6, hn6, -, -, hL6⟩ := ho1.lists
            have hPe : Hid (zs.take len0 ++ [] = zs.take (len0)) := (by show _ = _; rw [List.append_nil])
            rw [hPe.out] at hst1 hM
            have hcount : Hid (((scanL (zs.take len0)).1.length + M.length) * 24 ≤ 140737488355328) := by
              show _ ≤ _
              have h1 := found_many (zs.take (len0))
              rw [hM.out, List.length_append] at h1
              have h2 := List.length_take_le (len0) zs
              omega
            clear ho1 hg1 hstm hown hgr
            go_wp2_with (at_builtin; refine wpList_append_loads rfl _ (.tmp 49) rfl x4.heap.size 0 (Nat.zero_le _) u8 (scanL (zs.take len0)).1 M rfl hO1.out a6 n6 c6 rfl hl6.out hn6.out hL6.out hcount.out hzy ?_; intro v9 y9 ho9 hg9; have hst9 := hst1.row hO1.out hg9; have hgr9 := OwnsL.grown hgr1.out hO1.out hg9; rw [← hM.out] at ho9; clear hg9)
            go_roundw
            case rel => exact ⟨k + 1, len0, by omega, (by have := hpD.out; omega), by go_num, by go_num, ho9, hst9, hgr9⟩
            case measure => simp [intOf]; omega
        · have j1 : ¬ (c : Int) ≤ 0 := by omega
          have j1' : (0 : Int) ≤ (c : Int) := by omega
          cases a0 with
          | none =>
            obtain rfl : len0 = 0 := hN.out rfl
            go_wp2_with fail
            refine (feed_next gt (zs.take 0) none 0 0 ([]) wr hstm.out rfl (bytes_none _ _) (by first | simp | (intro _; rfl)) (by have := hpD.out; omega) (by rw [List.length_take, hL.out]; omega)).mono ?_
            rintro e y1 ⟨v1, M, rfl, ho1, -, hM, hst1, hg1⟩
            have hO1 : Hid (OwnsL y1 x4.heap.size 0 u8 (scanL (zs.take 0)).1) := hown.out.stm hstm.out hg1
            have hgr1 : Hid (x4.grownBy y1 (some gt)) := hgr.out.trans hg1
            have hzy := hgr1.out.size
            obtain ⟨a6, n6, c6, rfl, hl6, hn6, -, -, hL6⟩ := ho1.lists
            have hPe : Hid (zs.take 0 ++ [] = zs.take (0)) := (by show _ = _; rw [List.append_nil])
            rw [hPe.out] at hst1 hM
            have hcount : Hid (((scanL (zs.take 0)).1.length + M.length) * 24 ≤ 140737488355328) := by
              show _ ≤ _
              have h1 := found_many (zs.take (0))
              rw [hM.out, List.length_append] at h1
              have h2 := List.length_take_le (0) zs
              omega
            clear ho1 hg1 hstm hown hgr
            go_wp2_with (at_builtin; refine wpList_append_loads rfl _ (.tmp 49) rfl x4.heap.size 0 (Nat.zero_le _) u8 (scanL (zs.take 0)).1 M rfl hO1.out a6 n6 c6 rfl hl6.out hn6.out hL6.out hcount.out hzy ?_; intro v9 y9 ho9 hg9; have hst9 := hst1.row hO1.out hg9; have hgr9 := OwnsL.grown hgr1.out hO1.out hg9; rw [← hM.out] at ho9; clear hg9)
            go_roundw
            case rel => exact ⟨k + 1, 0, by omega, (by have := hpD.out; omega), by go_num, by go_num, ho9, hst9, hgr9⟩
            case measure => simp [intOf]; omega
          | some x =>
            go_wp2_with fail
            refine (feed_next gt (zs.take len0) (some x) 0 0 ([]) wr hstm.out rfl (bytes_none _ _) (by first | simp | (intro _; rfl)) (by have := hpD.out; omega) (by rw [List.length_take, hL.out]; omega)).mono ?_
            rintro e y1 ⟨v1, M, rfl, ho1, -, hM, hst1, hg1⟩
            have hO1 : Hid (OwnsL y1 x4.heap.size 0 u8 (scanL (zs.take len0)).1) := hown.out.stm hstm.out hg1
            have hgr1 : Hid (x4.grownBy y1 (some gt)) := hgr.out.trans hg1
            have hzy := hgr1.out.size
            obtain ⟨a6, n6, c6, rfl, hl6, hn6, -, -, hL6⟩ := ho1.lists
            have hPe : Hid (zs.take len0 ++ [] = zs.take (len0)) := (by show _ = _; rw [List.append_nil])
            rw [hPe.out] at hst1 hM
            have hcount : Hid (((scanL (zs.take len0)).1.length + M.length) * 24 ≤ 140737488355328) := by
              show _ ≤ _
              have h1 := found_many (zs.take (len0))
              rw [hM.out, List.length_append] at h1
              have h2 := List.length_take_le (len0) zs
              omega
            clear ho1 hg1 hstm hown hgr
            go_wp2_with (at_builtin; refine wpList_append_loads rfl _ (.tmp 49) rfl x4.heap.size 0 (Nat.zero_le _) u8 (scanL (zs.take len0)).1 M rfl hO1.out a6 n6 c6 rfl hl6.out hn6.out hL6.out hcount.out hzy ?_; intro v9 y9 ho9 hg9; have hst9 := hst1.row hO1.out hg9; have hgr9 := OwnsL.grown hgr1.out hO1.out hg9; rw [← hM.out] at ho9; clear hg9)
            go_roundw
            case rel => exact ⟨k + 1, len0, by omega, (by have := hpD.out; omega), by go_num, by go_num, ho9, hst9, hgr9⟩
            case measure => simp [intOf]; omega
    · by_cases hq : p < cap0
      · obtain ⟨b, off, rfl⟩ := hsp (by omega)
        have q1 : (cap0 = p) = False := by simp; omega
        have q2 : len0 - p = D := by have := hpD.out; omega
        have q3 : (p : Int) ≤ (len0 : Int) := by omega
        go_wp2_with fail
        refine (feed_next gt (zs.take p) (some ⟨b, off + p, none⟩) D (cap0 - p) (zs.drop p) wr hstm.out (by have := hpD.out; rw [List.length_drop, hL.out]; omega) (hBr.out.drop p) (by first | simp | (intro _; rfl)) (by have := hpD.out; omega) (by rw [List.length_take, hL.out]; omega)).mono ?_
        rintro e y1 ⟨v1, M, rfl, ho1, -, hM, hst1, hg1⟩
        have hO1 : Hid (OwnsL y1 x4.heap.size 0 u8 (scanL (zs.take p)).1) := hown.out.stm hstm.out hg1
        have hgr1 : Hid (x4.grownBy y1 (some gt)) := hgr.out.trans hg1
        have hzy := hgr1.out.size
        obtain ⟨a6, n6, c6, rfl, hl6, hn6, -, -, hL6⟩ := ho1.lists
        have hPe : Hid (zs.take p ++ zs.drop p = zs) := (List.take_append_drop p zs)
        rw [hPe.out] at hst1 hM
        have hcount : Hid (((scanL (zs.take p)).1.length + M.length) * 24 ≤ 140737488355328) := by
          show _ ≤ _
          have h1 := found_many zs
          rw [hM.out, List.length_append, hL.out] at h1
          omega
        clear ho1 hg1 hstm hown hgr
        go_wp2_with (at_builtin; refine wpList_append_loads rfl _ (.tmp 60) rfl x4.heap.size 0 (Nat.zero_le _) u8 (scanL (zs.take p)).1 M rfl hO1.out a6 n6 c6 rfl hl6.out hn6.out hL6.out hcount.out hzy ?_; intro v9 y9 ho9 hg9; have hst9 := hst1.row hO1.out hg9; have hgr9 := OwnsL.grown hgr1.out hO1.out hg9; rw [← hM.out] at ho9; clear hg9; obtain ⟨a9, n9, c9, rfl, hl9, hn9, -, -, hL9⟩ := ho9.lists)
        have hS9 : Hid (Stm y9 gs (waitS zs) (lostS zs)) := by
          have h1 := hS4.out
          rw [Nat.zero_add] at h1
          exact h1.stm hT4.out hne.symm hgr9
        have hT9 : Hid (Stm y9 gt (waitS zs) (lostS zs)) := hst9
        have hLa : Hid (Lists y9 0 a4 (scanL zs).1) := hL4.out.stm hT4.out hgr9
        have hb9 : Below w.heap.size w y9 := hb4.grown hgr9 hz4 (fun k hk => by cases hk; omega)
        have hyes : decide ((scanL zs).1 = (scanL zs).1) = true := decide_eq_true rfl
        have k1 := sameL_any 0 0 a4 a9 n4 n9 c4 c9 _ _ y9 hl4.out hl9.out hLa.out hL9.out
        rw [hyes] at k1
        clear hO1 hgr1 hL6 ho9 hst9 hgr9 hst1 hM hPe hl6 hn6 hcount hyes
        refine k1.mono ?_
        rintro e y10 ⟨rfl, hb10⟩
        have kl1 := lost_any gs _ _ y10 (hS9.out.kept hb10)
        have kl2 := lost_any gt _ _ y10 (hT9.out.kept hb10)
        have kw1 := waits_any gs _ _ y10 (hS9.out.kept hb10)
        have kw2 := waits_any gt _ _ y10 (hT9.out.kept hb10)
        have hbf : Below w.heap.size w y10 := hb9.trans (hb10.mono hb9.size)
        clear k1
        generalize lostS zs = lz at *
        generalize (waitS zs).length = wz at *
        go_wp2_with fail
        refine kl1.mono ?_
        rintro e y11 ⟨rfl, hw⟩
        obtain rfl : y10 = y11 := hw.symm
        go_wp2_with fail
        refine kl2.mono ?_
        rintro e y11 ⟨rfl, hw⟩
        obtain rfl : y10 = y11 := hw.symm
        go_wp2_with fail
        refine kw1.mono ?_
        rintro e y11 ⟨rfl, hw⟩
        obtain rfl : y10 = y11 := hw.symm
        go_wp2_with fail
        refine kw2.mono ?_
        rintro e y11 ⟨rfl, hw⟩
        obtain rfl : y10 = y11 := hw.symm
        go_wp2
        go_ret
        exact ⟨rfl, hbf⟩
      · have hpc : p = cap0 := by omega
        have hD0 : D = 0 := by have := hpD.out; omega
        subst hpc
        subst hD0
        obtain rfl : len0 = p := by omega
        cases a0 with
        | none =>
          obtain rfl : len0 = 0 := hN.out rfl
          go_wp2_with fail
          refine (feed_next gt (zs.take 0) none 0 0 ([]) wr hstm.out rfl (bytes_none _ _) (by first | simp | (intro _; rfl)) (by have := hpD.out; omega) (by rw [List.length_take, hL.out]; omega)).mono ?_
          rintro e y1 ⟨v1, M, rfl, ho1, -, hM, hst1, hg1⟩
          have hO1 : Hid (OwnsL y1 x4.heap.size 0 u8 (scanL (zs.take 0)).1) := hown.out.stm hstm.out hg1
          have hgr1 : Hid (x4.grownBy y1 (some gt)) := hgr.out.trans hg1
          have hzy := hgr1.out.size
          obtain ⟨a6, n6, c6, rfl, hl6, hn6, -, -, hL6⟩ := ho1.lists
          have hPe : Hid (zs.take 0 ++ [] = zs) := (by show _ = _; rw [List.eq_nil_of_length_eq_zero hL.out]; rfl)
          rw [hPe.out] at hst1 hM
          have hcount : Hid (((scanL (zs.take 0)).1.length + M.length) * 24 ≤ 140737488355328) := by
            show _ ≤ _
            have h1 := found_many zs
            rw [hM.out, List.length_append, hL.out] at h1
            omega
          clear ho1 hg1 hstm hown hgr
          go_wp2_with (at_builtin; refine wpList_append_loads rfl _ (.tmp 60) rfl x4.heap.size 0 (Nat.zero_le _) u8 (scanL (zs.take 0)).1 M rfl hO1.out a6 n6 c6 rfl hl6.out hn6.out hL6.out hcount.out hzy ?_; intro v9 y9 ho9 hg9; have hst9 := hst1.row hO1.out hg9; have hgr9 := OwnsL.grown hgr1.out hO1.out hg9; rw [← hM.out] at ho9; clear hg9; obtain ⟨a9, n9, c9, rfl, hl9, hn9, -, -, hL9⟩ := ho9.lists)
          have hS9 : Hid (Stm y9 gs (waitS zs) (lostS zs)) := by
            have h1 := hS4.out
            rw [Nat.zero_add] at h1
            exact h1.stm hT4.out hne.symm hgr9
          have hT9 : Hid (Stm y9 gt (waitS zs) (lostS zs)) := hst9
          have hLa : Hid (Lists y9 0 a4 (scanL zs).1) := hL4.out.stm hT4.out hgr9
          have hb9 : Below w.heap.size w y9 := hb4.grown hgr9 hz4 (fun k hk => by cases hk; omega)
          have hyes : decide ((scanL zs).1 = (scanL zs).1) = true := decide_eq_true rfl
          have k1 := sameL_any 0 0 a4 a9 n4 n9 c4 c9 _ _ y9 hl4.out hl9.out hLa.out hL9.out
          rw [hyes] at k1
          clear hO1 hgr1 hL6 ho9 hst9 hgr9 hst1 hM hPe hl6 hn6 hcount hyes
          refine k1.mono ?_
          rintro e y10 ⟨rfl, hb10⟩
          have kl1 := lost_any gs _ _ y10 (hS9.out.kept hb10)
          have kl2 := lost_any gt _ _ y10 (hT9.out.kept hb10)
          have kw1 := waits_any gs _ _ y10 (hS9.out.kept hb10)
          have kw2 := waits_any gt _ _ y10 (hT9.out.kept hb10)
          have hbf : Below w.heap.size w y10 := hb9.trans (hb10.mono hb9.size)
          clear k1
          generalize lostS zs = lz at *
          generalize (waitS zs).length = wz at *
          go_wp2_with fail
          refine kl1.mono ?_
          rintro e y11 ⟨rfl, hw⟩
          obtain rfl : y10 = y11 := hw.symm
          go_wp2_with fail
          refine kl2.mono ?_
          rintro e y11 ⟨rfl, hw⟩
          obtain rfl : y10 = y11 := hw.symm
          go_wp2_with fail
          refine kw1.mono ?_
          rintro e y11 ⟨rfl, hw⟩
          obtain rfl : y10 = y11 := hw.symm
          go_wp2_with fail
          refine kw2.mono ?_
          rintro e y11 ⟨rfl, hw⟩
          obtain rfl : y10 = y11 := hw.symm
          go_wp2
          go_ret
          exact ⟨rfl, hbf⟩
        | some x =>
          go_wp2_with fail
          refine (feed_next gt (zs.take len0) (some x) 0 0 ([]) wr hstm.out rfl (bytes_none _ _) (by first | simp | (intro _; rfl)) (by have := hpD.out; omega) (by rw [List.length_take, hL.out]; omega)).mono ?_
          rintro e y1 ⟨v1, M, rfl, ho1, -, hM, hst1, hg1⟩
          have hO1 : Hid (OwnsL y1 x4.heap.size 0 u8 (scanL (zs.take len0)).1) := hown.out.stm hstm.out hg1
          have hgr1 : Hid (x4.grownBy y1 (some gt)) := hgr.out.trans hg1
          have hzy := hgr1.out.size
          obtain ⟨a6, n6, c6, rfl, hl6, hn6, -, -, hL6⟩ := ho1.lists
          have hPe : Hid (zs.take len0 ++ [] = zs) := (by show _ = _; rw [List.append_nil, List.take_of_length_le (by rw [hL.out]; omega)])
          rw [hPe.out] at hst1 hM
          have hcount : Hid (((scanL (zs.take len0)).1.length + M.length) * 24 ≤ 140737488355328) := by
            show _ ≤ _
            have h1 := found_many zs
            rw [hM.out, List.length_append, hL.out] at h1
            omega
          clear ho1 hg1 hstm hown hgr
          go_wp2_with (at_builtin; refine wpList_append_loads rfl _ (.tmp 60) rfl x4.heap.size 0 (Nat.zero_le _) u8 (scanL (zs.take len0)).1 M rfl hO1.out a6 n6 c6 rfl hl6.out hn6.out hL6.out hcount.out hzy ?_; intro v9 y9 ho9 hg9; have hst9 := hst1.row hO1.out hg9; have hgr9 := OwnsL.grown hgr1.out hO1.out hg9; rw [← hM.out] at ho9; clear hg9; obtain ⟨a9, n9, c9, rfl, hl9, hn9, -, -, hL9⟩ := ho9.lists)
          have hS9 : Hid (Stm y9 gs (waitS zs) (lostS zs)) := by
            have h1 := hS4.out
            rw [Nat.zero_add] at h1
            exact h1.stm hT4.out hne.symm hgr9
          have hT9 : Hid (Stm y9 gt (waitS zs) (lostS zs)) := hst9
          have hLa : Hid (Lists y9 0 a4 (scanL zs).1) := hL4.out.stm hT4.out hgr9
          have hb9 : Below w.heap.size w y9 := hb4.grown hgr9 hz4 (fun k hk => by cases hk; omega)
          have hyes : decide ((scanL zs).1 = (scanL zs).1) = true := decide_eq_true rfl
          have k1 := sameL_any 0 0 a4 a9 n4 n9 c4 c9 _ _ y9 hl4.out hl9.out hLa.out hL9.out
          rw [hyes] at k1
          clear hO1 hgr1 hL6 ho9 hst9 hgr9 hst1 hM hPe hl6 hn6 hcount hyes
          refine k1.mono ?_
          rintro e y10 ⟨rfl, hb10⟩
          have kl1 := lost_any gs _ _ y10 (hS9.out.kept hb10)
          have kl2 := lost_any gt _ _ y10 (hT9.out.kept hb10)
          have kw1 := waits_any gs _ _ y10 (hS9.out.kept hb10)
          have kw2 := waits_any gt _ _ y10 (hT9.out.kept hb10)
          have hbf : Below w.heap.size w y10 := hb9.trans (hb10.mono hb9.size)
          clear k1
          generalize lostS zs = lz at *
          generalize (waitS zs).length = wz at *
          go_wp2_with fail
          refine kl1.mono ?_
          rintro e y11 ⟨rfl, hw⟩
          obtain rfl : y10 = y11 := hw.symm
          go_wp2_with fail
          refine kl2.mono ?_
          rintro e y11 ⟨rfl, hw⟩
          obtain rfl : y10 = y11 := hw.symm
          go_wp2_with fail
          refine kw1.mono ?_
          rintro e y11 ⟨rfl, hw⟩
          obtain rfl : y10 = y11 := hw.symm
          go_wp2_with fail
          refine kw2.mono ?_
          rintro e y11 ⟨rfl, hw⟩
          obtain rfl : y10 = y11 := hw.symm
          go_wp2
          go_ret
          exact ⟨rfl, hbf⟩

set_option maxRecDepth 100000 in
theorem lifted (os : Os) (started : os.Started) (H : Type) (enc : TypeId × Value → H) (F : Stop.Interp) :
    ReturnsInHanded {} Try.checked os 6 .any ((Rows.OpenSpec.upto Rows.frameCutsSpec).pre6 enc Try.prog Try.f6 Rows.frameCutsUptoRow.domain false) (((Rows.OpenSpec.upto Rows.frameCutsSpec).at F).post enc Try.prog Try.f6 false true false false) := by
  refine returnsInHanded_of_cond_sized (C := Try.checked) (s := Rows.OpenSpec.upto Rows.frameCutsSpec) (k := Rows.uptoSmall) rfl own started (by kernel_rfl) Try.func6
    (OpenSpec.witness (enc := enc) (C := Try.checked) (s := Rows.OpenSpec.upto Rows.frameCutsSpec) (k := Rows.uptoSmall) rfl false ⟨#[], #[.slice none 0 0, .slice none 0 0], []⟩ 8 (by kernel_rfl) (by kernel_rfl) (by kernel_rfl)
      (x := ([.nil, .nil], [], [])) (by kernel_rfl) rfl (by kernel_rfl)) ?_
  intro W base args ds gs before hval0 hW _ hk hsz0 _
  have hval : ∀ (j : Nat) t v, Try.f6.params[j]? = some t → args[j]? = some v → Value.okWide Try.prog W .any base t v := hval0
  have hW' := hW
  have hsz : (DataW.weightsEach Try.prog (Try.f6.params.toList ++ (Rows.OpenSpec.upto Rows.frameCutsSpec).bare.plain.varTypes Try.prog) (ds ++ gs)).all (· ≤ reachBytes) = true := hsz0
  obtain ⟨p, q, hA0, hV, rfl, hfz, hnd⟩ := hW
  have hA : DataW.TrodAll enc Try.prog W 0 (fun _ => true) true Try.f6.params.toList args.toList ds p := hA0
  rw [Try.params6] at hA hval hsz
  obtain ⟨v0, vs0, d0, ds0, p0, q0, hargs, rfl, rfl, h0, r0'⟩ := trodAll_cons hA
  obtain ⟨v1, vs1, d1, ds1, p1, q1, rfl, rfl, rfl, h1, r1'⟩ := trodAll_cons r0'
  obtain ⟨rfl, rfl, rfl⟩ := trodAll_nil r1'
  obtain rfl : args = #[v0, v1] := by cases args; simp_all
  obtain ⟨rfl, rfl⟩ := trodVars_none hV
  obtain ⟨a0, len0, cap0, rfl⟩ := okWide_slice Try.underlying22 (hval 0 22 v0 rfl rfl)
  have k0 := h0
  have lt0 : ∀ x ∈ p0, x.block < W.heap.size := by obtain ⟨m, hm⟩ := k0; exact DataW.trod_lt m _ _ _ hm
  obtain ⟨z0, w0, r0, bk0⟩ : ∃ zs, IsRow .u8 W a0 len0 cap0 zs ∧ cap0 ≤ 140737488351232 ∧ cap0 ≤ Rows.uptoBulk d0 := by
    obtain ⟨fuel, hf⟩ := h0
    rcases open_ints Try.underlying22 Try.underlying5 (by kernel_rfl) hf with ⟨hcs, hx⟩ | ⟨x, l, c, zs, hcs, _, hl, hm, hz, hx, hcell, hwz⟩
    · simp [Value.cells] at hcs
      obtain ⟨rfl, rfl, rfl⟩ := hcs
      exact ⟨[], .inl ⟨rfl, rfl, rfl, rfl⟩, by omega, by omega⟩
    · simp [Value.cells] at hcs
      obtain ⟨rfl, rfl, rfl⟩ := hcs
      have hd : d0 = .slice (lits .u8 (zs.take len0)) (lits .u8 (zs.drop len0)) := (Prod.mk.inj hx).1
      have hz' : zs.length = cap0 := by simpa using hz
      have hr : cap0 ≤ 140737488351232 := by
        have := sized_slice hsz (j := 0) (t := 22) (e := 5) rfl (by rw [← hd]; rfl) Try.underlying22
        rw [bytes_e] at this
        simp only [lits, List.length_map, List.length_take, List.length_drop, reachBytes] at this
        omega
      exact ⟨zs, .inr ⟨_, rfl, hl, hm, hz', hcell, hwz⟩, hr, by rw [hd]; exact bulk_row (by omega)⟩
  obtain ⟨a1, len1, cap1, rfl⟩ := okWide_slice Try.underlying22 (hval 1 22 v1 rfl rfl)
  have k1 := h1
  have lt1 : ∀ x ∈ p1, x.block < W.heap.size := by obtain ⟨m, hm⟩ := k1; exact DataW.trod_lt m _ _ _ hm
  obtain ⟨z1, w1, r1, bk1⟩ : ∃ zs, IsRow .u8 W a1 len1 cap1 zs ∧ cap1 ≤ 140737488351232 ∧ cap1 ≤ Rows.uptoBulk d1 := by
    obtain ⟨fuel, hf⟩ := h1
    rcases open_ints Try.underlying22 Try.underlying5 (by kernel_rfl) hf with ⟨hcs, hx⟩ | ⟨x, l, c, zs, hcs, _, hl, hm, hz, hx, hcell, hwz⟩
    · simp [Value.cells] at hcs
      obtain ⟨rfl, rfl, rfl⟩ := hcs
      exact ⟨[], .inl ⟨rfl, rfl, rfl, rfl⟩, by omega, by omega⟩
    · simp [Value.cells] at hcs
      obtain ⟨rfl, rfl, rfl⟩ := hcs
      have hd : d1 = .slice (lits .u8 (zs.take len1)) (lits .u8 (zs.drop len1)) := (Prod.mk.inj hx).1
      have hz' : zs.length = cap1 := by simpa using hz
      have hr : cap1 ≤ 140737488351232 := by
        have := sized_slice hsz (j := 1) (t := 22) (e := 5) rfl (by rw [← hd]; rfl) Try.underlying22
        rw [bytes_e] at this
        simp only [lits, List.length_map, List.length_take, List.length_drop, reachBytes] at this
        omega
      exact ⟨zs, .inr ⟨_, rfl, hl, hm, hz', hcell, hwz⟩, hr, by rw [hd]; exact bulk_row (by omega)⟩
  have small : cap0 + cap1 ≤ 1048576 := by
    have hu : Rows.uptoBulkAll [d0, d1] ≤ 1048576 := of_decide_eq_true hk
    simp only [Rows.uptoBulkAll] at hu
    omega
  clear hA0 hval0
  refine (walk a0 len0 cap0 z0 a1 len1 cap1 z1 W w0 r0 w1 r1 small).mono fun e W' ⟨he, bel⟩ => ?_
  subst he
  exact ⟨_, rfl, _, _, _, [], _, [], hW', trodAll_mk1 (shut_bool Try.underlying4 _), (trodAll_cons_mk (Below.trod laidOut (by kernel_rfl) (of_decide_eq_true (by kernel_rfl)) k0 bel lt0) (trodAll_cons_mk (Below.trod laidOut (by kernel_rfl) (of_decide_eq_true (by kernel_rfl)) k1 bel lt1) trodAll_mk0)), rfl, bel.frame _, fun h => by cases h⟩

theorem over : Rows.frameCutsUptoRow.holds Try.pinned (Rows.OpenSpec.upto Rows.frameCutsSpec) :=
  OpenClaim.holds_of_cond 6 Try.f6 rfl rfl rfl rfl rfl rfl rfl ⟨rfl, rfl, rfl, rfl, rfl⟩ rfl rfl rfl rfl rfl (by kernel_rfl) Try.func6 (by kernel_rfl)
    (of_decide_eq_true (by kernel_rfl)) (by unfold Func.isWrapper; first | (rw [if_pos (by decide +kernel)]; kernel_rfl) | (rw [if_neg (by decide +kernel)]; exact ⟨rfl, rfl⟩))
    (fun os started H enc _ F => lifted os started H enc F)

end Go.Proofs.Yticlobjikpfcjaa.frameCutsUpto
namespace Go.Proofs.Yticlobjikpfcjaa

theorem frameCutsUpto_holds : Rows.FrameCutsUptoSaid := frameCutsUpto.over
#print axioms frameCutsUpto_holds
end Go.Proofs.Yticlobjikpfcjaa
