/-
  For all loads and all bytes between them, together of bulk at most 1048576: the frames of the loads that may be framed, with those bytes between them of which none is 165, are all found, and nothing else, as many bytes are lost as stood between them, and none waits; and a load is framed and found; what came stays as it was.
-/
import Derived.Test.YticlobjikpfcjaaRows
import Derived.Test.YticlobjikpfcjaaAmong
import Derived.WalkKit
import Derived.ProofKit
import Derived.OpenShut
import Derived.ShutString
import Derived.ChangeOld
import Derived.Below
import Derived.SizedLaws
import Derived.Deep.CondSized
namespace Go.Proofs.Yticlobjikpfcjaa.frameAmongUpto
open Go.ChangeShapes Go.WideShapes Go.ChangeAt Go.RowKit
open Go.ChangeMaps (open_string shut_string)
set_option linter.unusedVariables false

theorem own : ownKnob Try.prog.godebug = none := by kernel_rfl
theorem laidOut : laidOutB Try.prog = true := by kernel_rfl
theorem bytes_e : Try.prog.bytesOf 5 = 1 := by kernel_rfl

theorem bulk_lits {H : Type} (k : IntKind) (zs : List Int) : Rows.uptoBulkAll (H := H) (lits k zs) = zs.length := by
  induction zs with
  | nil => rfl
  | cons z zs ih =>
    show Rows.uptoBulk (H := H) (.lit (.int k z)) + Rows.uptoBulkAll (H := H) (lits k zs) = _
    rw [ih, List.length_cons]
    show 1 + zs.length = _
    omega
theorem bulk_row {H : Type} {zs : List Int} {len cap : Nat} (h : cap ≤ zs.length) : cap ≤ Rows.uptoBulk (H := H) (.slice (lits .u8 (zs.take len)) (lits .u8 (zs.drop len))) := by
  simp only [Rows.uptoBulk, bulk_lits, List.length_take, List.length_drop]
  omega
theorem bulk_int {H : Type} (A : Option Addr) (L : Nat) (Z : List Int) (hn : A = none → Z = []) : (Z.take L).length + 1 ≤ Rows.uptoBulk (H := H) (Go.Deep.intRow .u8 A L Z) := by
  cases A with
  | none => rw [hn rfl]; simp [Go.Deep.intRow, Rows.uptoBulk]
  | some x =>
    simp only [Go.Deep.intRow, Rows.uptoBulk, bulk_lits]
    omega
theorem bulk_map {H : Type} (f : Nat → DataW H) (F : Nat → List Int) (l : List Nat) (h : ∀ r ∈ l, (F r).length + 1 ≤ Rows.uptoBulk (f r)) : tot (l.map F) + l.length ≤ Rows.uptoBulkAll (l.map f) := by
  induction l with
  | nil => simp [tot, Rows.uptoBulkAll]
  | cons r l ih =>
    have h1 := h r (by simp)
    have h2 := ih fun x hx => h x (by simp [hx])
    simp only [tot, List.map_cons, List.sum_cons, List.length_cons, Rows.uptoBulkAll] at *
    omega
theorem bulk_rows {H : Type} (A : Nat → Option Addr) (L : Nat → Nat) (Z : Nat → List Int) (len : Nat) (spare : List (DataW H)) (hn : ∀ r, r < len → A r = none → Z r = []) :
    tot ((List.range len).map fun r => (Z r).take (L r)) + len ≤ Rows.uptoBulk (H := H) (.slice ((List.range len).map fun r => Go.Deep.intRow .u8 (A r) (L r) (Z r)) spare) := by
  have h := bulk_map (H := H) (fun r => Go.Deep.intRow .u8 (A r) (L r) (Z r)) (fun r => (Z r).take (L r)) (List.range len) fun r hr => bulk_int _ _ _ (hn r (List.mem_range.1 hr))
  simp only [Rows.uptoBulk, List.length_range] at *
  omega

set_option maxHeartbeats 4000000 in
theorem walk (a0 : Option Addr) (len0 cap0 : Nat) (L0 : List (List Int)) (a1 : Option Addr) (len1 cap1 : Nat) (L1 : List (List Int)) (w : World) (w0 : IsRows w a0 len0 cap0 L0) (w1 : IsRows w a1 len1 cap1 L1) (small : (tot L0 + len0) + (tot L1 + len1) ≤ 1048576) :
    Calls Try.prog 7 #[.slice a0 len0 cap0, .slice a1 len1 cap1] w fun e w' => e = .returned (.bool true) ∧ Below w.heap.size w w' := by
  obtain ⟨hl0, hlc0, hcm0, hn0, hI0⟩ := w0
  obtain ⟨hl1, hlc1, hcm1, hn1, hI1⟩ := w1
  have hA : Hid (Lists w w.heap.size a0 L0) := hI0
  have hB : Hid (Lists w w.heap.size a1 L1) := hI1
  have hLA : Hid (L0.length = len0) := hl0
  have hLB : Hid (L1.length = len1) := hl1
  have hS0 : Hid (tot L0 + len0 + (tot L1 + len1) ≤ 1048576) := small
  have hm0 : len0 ≤ 1048576 := by omega
  have hm1 : len1 ≤ 1048576 := by omega
  clear hI0 hI1 hl0 hl1 small hcm0 hcm1 hn0 hn1
  go_enter Try.func7, Try.ntmps7
  go_wp2
  go_loopw [5, 6, 7, 17] (fun vb vw i j wr => ∃ (k lo : Nat) (bs : List Int) (Ls : List (List Int)), k ≤ len0 ∧ j = .int .i64 k ∧ i = .int .i64 lo ∧ Hid (OwnsB wr w.heap.size vb bs) ∧ Hid (OwnsO wr w.heap.size vw Ls) ∧ Hid (Passed bs Ls) ∧ Hid (lo + sz Ls = bs.length) ∧ Hid (bs.length ≤ 8 * k + tot (L0.take k) + tot (L1.take k)) ∧ Hid (Ls.length ≤ k) ∧ Below w.heap.size w wr) (fun _ _ _ j _ => len0 - (intOf j).toNat)
  case atStart => exact ⟨0, 0, [], [], Nat.zero_le _, rfl, rfl, ownsB_nil _ _, ownsO_nil _ _, passed_nil, (by show _ = _; simp [sz]), (by show _ ≤ _; simp), Nat.le_refl _, Below.refl _ _⟩
  case round =>
    obtain ⟨k, lo, bs, Ls, hk, rfl, rfl, hob, how, hpas, hlo, hlen, hcnt, hbr⟩ := hrel
    have hzr := hbr.size
    have hlob : lo ≤ 16777216 := by
      have h1 := hlo.out
      have h2 := hlen.out
      have h3 := hS0.out
      have h4 := tot_take L0 k
      have h5 := tot_take L1 k
      omega
    by_cases hlt : k < len0
    · obtain ⟨l, b, off, a2, n2, c2, rfl, hcell, hl2, hB2, hn2, hc2, hm2, hLo2, ht2, -⟩ := old_load hA.out hbr (k := k) (by rw [hLA.out]; exact hlt)
      have hT2 : Hid (tot (L0.take (k + 1)) = tot (L0.take k) + n2) := by show _ = _; rw [tot_next ht2.out, hl2.out]
      have hT3 := tot_mono L1 k
      by_cases hbig : 1200 < n2
      · have ke := encode_many a2 n2 c2 wr hbig
        have hlen2 : Hid (bs.length ≤ 8 * (k + 1) + tot (L0.take (k + 1)) + tot (L1.take (k + 1))) := by
          show _ ≤ _
          have h1 := hlen.out
          have h2 := hT2.out
          omega
        go_wp2_with (go_at_call 9; refine ke.mono ?_; rintro e w' ⟨rfl, hw⟩; obtain rfl : wr = w' := hw.symm)
        go_roundw
        case rel => exact ⟨k + 1, lo, bs, Ls, by omega, by go_num, rfl, hob, how, hpas, hlo, hlen2, (by show _ ≤ _; have := hcnt.out; omega), hbr⟩
        case measure => simp [intOf]; omega
      · have ke := encode_ok a2 n2 c2 l wr hl2.out (hB2.out.kept hbr) hn2.out (by omega)
        go_wp2_with fail
        refine ke.mono ?_
        rintro e x1 ⟨v1, rfl, ho1, hb1⟩
        obtain ⟨a3, n3, c3, rfl, hl3, hn3, hc3, hm3, hB3⟩ := ho1.form
        have hob1 : Hid (OwnsB x1 w.heap.size u5 bs) := hob.out.below hb1
        have how1 : Hid (OwnsO x1 w.heap.size u6 Ls) := how.out.below hb1 hzr
        have hbx1 : Below w.heap.size w x1 := hbr.trans (hb1.mono hzr)
        have hzx1 := hbx1.size
        have hLo3 : Hid (LoadO x1 w.heap.size (.slice a2 n2 c2) l) := hLo2.out.below hbx1
        have hO3 : Hid (OwnsB x1 wr.heap.size (.slice a3 n3 c3) (frameL l)) := ho1
        have hcnt' : Ls.length ≤ 1048576 := by have := hcnt.out; omega
        have hbs' : bs.length ≤ 16777216 := by
          have h2 := hlen.out
          have h3 := hS0.out
          have h4 := tot_take L0 k
          have h5 := tot_take L1 k
          omega
        have hlf : n3 = n2 + 8 := by rw [← hl3.out, frame_len, hl2.out]
        have hlf' : Hid (n3 = n2 + 8) := hlf
        have hn3' : n3 ≤ 1208 := by omega
        clear hlf ke hob how ho1 hLo2 hB2
        by_cases hlt1 : k < len1
        · obtain ⟨m, b6, off6, a6, n6, c6, rfl, hcell6w, hl6, hB6, hn6, hc6, hm6, -, ht6, -⟩ := old_load hB.out (Below.refl _ _) (k := k) (by rw [hLB.out]; exact hlt1)
          have hblk6 := World.block_lt_of_cell? w ⟨b6, off6 + k, none⟩ hcell6w
          have hT6 : Hid (tot (L1.take (k + 1)) = tot (L1.take k) + n6) := by show _ = _; rw [tot_next ht6.out, hl6.out]
          have j6 : (k : Int) < (len1 : Int) := by omega
          have hn6' : n6 ≤ 1048576 := by
            have h1 := hT6.out
            have h2 := tot_take L1 (k + 1)
            have h3 := hS0.out
            omega
          go_wp2_with (first
            | (at_builtin; refine wpList_append_old rfl _ (.tmp 31) rfl w.heap.size u6 (.slice a2 n2 c2) Ls l rfl (how1.out.below ((Below.refl _ _).alloc (Nat.le_refl _) _) hzx1) (hLo3.out.below ((Below.refl _ _).alloc hzx1 _)) ⟨x1.heap.size, 0, none⟩ rfl (by rw [show (⟨x1.heap.size, 0, none⟩ : Addr).add 0 = ⟨x1.heap.size, 0, none⟩ from rfl, World.cell?_alloc_mark]; rfl) (by omega) (by simp; omega) ?_; intro v4 x4 ho4 hg4; have hal : Below x1.heap.size x1 (x1.alloc (.cells #[.slice a2 n2 c2] 22)) := (Below.refl _ _).alloc (Nat.le_refl _) _; have hob4 : Hid (OwnsB x4 w.heap.size u5 bs) := (hob1.out.below hal).loads (how1.out.below hal hzx1) hg4; have hbx4 : Below w.heap.size w x4 := (hbx1.alloc hzx1 _).grown hg4 (by simp; omega) (fun j hj => by obtain ⟨vs, hvs, _⟩ := how1.out; exact (hvs.lt j hj).1); have hB4 : Hid (Bytes x4 a3 (frameL l)) := owns_bytes ((hO3.out.below hal).loads (how1.out.below hal hzx1) hg4); have ho4' : Hid (OwnsO x4 w.heap.size v4 (Ls ++ [l])) := ho4; have hzx4 := hbx4.size; clear ho4 hg4 hal hob1 how1 hB3 hO3 hLo3)
            | (at_builtin; refine wpList_append_bytes rfl (.tmp 33) (.tmp 34) rfl w.heap.size u5 bs (frameL l) rfl hob4.out a3 n3 c3 rfl hl3.out hn3.out hB4.out (by rw [hl3.out]; omega) hzx4 ?_; intro v5 x5 ho5 hg5; have how5 : Hid (OwnsO x5 w.heap.size v4 (Ls ++ [l])) := ho4'.out.bytes hob4.out hg5 hzx4; have hbx5 := grown_below hbx4 hob4.out hg5 hzx4; have hob5 : Hid (OwnsB x5 w.heap.size v5 (bs ++ frameL l)) := ho5; clear ho5 hg5 ho4' hob4 hB4; have hcell6 : x5.cell? ⟨b6, off6 + k, none⟩ = some (.slice a6 n6 c6) := (hbx5.cell (p := ⟨b6, off6 + k, none⟩) hblk6).trans hcell6w))
          have hpas5 : Hid (Passed (bs ++ frameL l) (Ls ++ [l])) := hpas.out.frame l (by rw [hl2.out]; omega)
          have hlo5 : Hid (lo + sz (Ls ++ [l]) = (bs ++ frameL l).length) := by
            show _ = _
            have h1 := hlo.out
            rw [sz_append, sz_cons, sz_nil, List.length_append, frame_len]
            omega
          have hlen5 : Hid ((bs ++ frameL l).length ≤ 8 * (k + 1) + tot (L0.take (k + 1)) + tot (L1.take k)) := by
            show _ ≤ _
            have h1 := hlen.out
            have h2 := hT2.out
            rw [List.length_append, frame_len, hl2.out]
            omega
          have hcnt5 : Hid ((Ls ++ [l]).length ≤ k + 1) := by show _ ≤ _; have := hcnt.out; rw [List.length_append]; simp; omega
          have hzx5 := hbx5.size
          clear hpas hlo hlen hcnt hl3 hlf'
          generalize bs ++ frameL l = bs5 at *
          generalize Ls ++ [l] = Ls5 at *
          have hbs5 : bs5.length ≤ 16777216 := by
            have h2 := hlen5.out
            have h3 := hS0.out
            have h4 := tot_take L0 (k + 1)
            have h5 := tot_take L1 k
            omega
          go_loopw [5, 7, 45] (fun vb i j wi => ∃ (t lo' : Nat) (bs' : List Int), t ≤ n6 ∧ j = .int .i64 t ∧ i = .int .i64 lo' ∧ Hid (OwnsB wi w.heap.size vb bs') ∧ Hid (OwnsO wi w.heap.size v4 Ls5) ∧ Hid (Passed bs' Ls5) ∧ Hid (lo' + sz Ls5 = bs'.length) ∧ Hid (bs'.length ≤ bs5.length + t) ∧ Below w.heap.size w wi) (fun _ _ j _ => n6 - (intOf j).toNat)
          case atStart => exact ⟨0, lo, bs5, Nat.zero_le _, rfl, rfl, hob5, how5, hpas5, hlo5, Nat.le_refl _, hbx5⟩
          case round =>
            obtain ⟨t, lo', bs', ht, rfl, rfl, hobi, howi, hpasi, hloi, hleni, hbi⟩ := hrel
            have hzi := hbi.size
            have hbs6 : bs'.length ≤ 33554432 := by have := hleni.out; omega
            have hlo6 : lo' ≤ 33554432 := by have := hloi.out; omega
            by_cases htl : t < n6
            · have hBi : Hid (Bytes wr a6 m) := hB6.out.kept hbi
              obtain ⟨b7, o7, rfl⟩ := bytes_some hBi.out (by rw [hl6.out]; omega)
              obtain ⟨hc7, hcb7⟩ := byte_at hBi.out (i := t) (by rw [hl6.out]; exact htl)
              generalize (m.getD t 0).toNat = c at *
              clear hBi
              have j7 : (t : Int) < (n6 : Int) := by omega
              by_cases h165 : c = 165
              · subst h165
                go_wp2
                go_roundw
                case rel => exact ⟨t + 1, lo', bs', by omega, by go_num, rfl, hobi, howi, hpasi, hloi, (by show _ ≤ _; have := hleni.out; omega), hbi⟩
                case measure => simp [intOf]; omega
              · have hne : ((c : Int) != 165) = true := by rw [bne_iff_ne]; omega
                have hlen9 : Hid ((bs' ++ [(c : Int)]).length ≤ bs5.length + (t + 1)) := by show _ ≤ _; have := hleni.out; simp; omega
                have hlo9 : Hid (lo' + 1 + sz Ls5 = (bs' ++ [(c : Int)]).length) := by show _ = _; have := hloi.out; simp; omega
                have hpas9 : Hid (Passed (bs' ++ [(c : Int)]) Ls5) := hpasi.out.other _ (by omega)
                have hlen10 : bs'.length + 1 ≤ 140737488355328 := by omega
                go_wp2_with (at_builtin; refine wpList_append_bytes rfl (.tmp 51) (.tmp 53) rfl w.heap.size u5 bs' [(c : Int)] rfl (hobi.out.alloc _) (some ⟨wr.heap.size, 0, none⟩) 1 1 rfl rfl (by simp) (one_byte wr _ (by omega) (by omega)) hlen10 (by simp; omega) ?_; intro v8 x8 ho8 hg8; have hal : Below wr.heap.size wr (wr.alloc (.cells #[.int .u8 (c : Int)] 5)) := (Below.refl _ _).alloc (Nat.le_refl _) _; have how8 : Hid (OwnsO x8 w.heap.size v4 Ls5) := (howi.out.below hal hzi).bytes (hobi.out.alloc _) hg8 (by simp; omega); have hb8 := grown_below (hbi.alloc hzi _) (hobi.out.alloc _) hg8 (by simp; omega); clear hg8 hal)
                go_roundw
                case rel => exact ⟨t + 1, lo' + 1, bs' ++ [(c : Int)], by omega, by go_num, by go_num, ho8, how8, hpas9, hlo9, hlen9, hb8⟩
                case measure => simp [intOf]; omega
            · have hlen9 : Hid (bs'.length ≤ 8 * (k + 1) + tot (L0.take (k + 1)) + tot (L1.take (k + 1))) := by
                show _ ≤ _
                have h1 := hleni.out
                have h2 := hlen5.out
                have h3 := hT6.out
                omega
              go_wp2
              go_roundw
              case rel => exact ⟨k + 1, lo', bs', Ls5, by omega, by go_num, rfl, hobi, howi, hpasi, hloi, hlen9, hcnt5, hbi⟩
              case measure => simp [intOf]; omega
        · have hlen6 : Hid (tot (L1.take k) ≤ tot (L1.take (k + 1))) := hT3
          have j6 : ¬ (k : Int) < (len1 : Int) := by omega
          go_wp2_with (first
            | (at_builtin; refine wpList_append_old rfl _ (.tmp 31) rfl w.heap.size u6 (.slice a2 n2 c2) Ls l rfl (how1.out.below ((Below.refl _ _).alloc (Nat.le_refl _) _) hzx1) (hLo3.out.below ((Below.refl _ _).alloc hzx1 _)) ⟨x1.heap.size, 0, none⟩ rfl (by rw [show (⟨x1.heap.size, 0, none⟩ : Addr).add 0 = ⟨x1.heap.size, 0, none⟩ from rfl, World.cell?_alloc_mark]; rfl) (by omega) (by simp; omega) ?_; intro v4 x4 ho4 hg4; have hal : Below x1.heap.size x1 (x1.alloc (.cells #[.slice a2 n2 c2] 22)) := (Below.refl _ _).alloc (Nat.le_refl _) _; have hob4 : Hid (OwnsB x4 w.heap.size u5 bs) := (hob1.out.below hal).loads (how1.out.below hal hzx1) hg4; have hbx4 : Below w.heap.size w x4 := (hbx1.alloc hzx1 _).grown hg4 (by simp; omega) (fun j hj => by obtain ⟨vs, hvs, _⟩ := how1.out; exact (hvs.lt j hj).1); have hB4 : Hid (Bytes x4 a3 (frameL l)) := owns_bytes ((hO3.out.below hal).loads (how1.out.below hal hzx1) hg4); have ho4' : Hid (OwnsO x4 w.heap.size v4 (Ls ++ [l])) := ho4; have hzx4 := hbx4.size; clear ho4 hg4 hal hob1 how1 hB3 hO3 hLo3)
            | (at_builtin; refine wpList_append_bytes rfl (.tmp 33) (.tmp 34) rfl w.heap.size u5 bs (frameL l) rfl hob4.out a3 n3 c3 rfl hl3.out hn3.out hB4.out (by rw [hl3.out]; omega) hzx4 ?_; intro v5 x5 ho5 hg5; have how5 : Hid (OwnsO x5 w.heap.size v4 (Ls ++ [l])) := ho4'.out.bytes hob4.out hg5 hzx4; have hbx5 := grown_below hbx4 hob4.out hg5 hzx4; have hob5 : Hid (OwnsB x5 w.heap.size v5 (bs ++ frameL l)) := ho5; clear ho5 hg5 ho4' hob4 hB4))
          have hpas5 : Hid (Passed (bs ++ frameL l) (Ls ++ [l])) := hpas.out.frame l (by rw [hl2.out]; omega)
          have hlo5 : Hid (lo + sz (Ls ++ [l]) = (bs ++ frameL l).length) := by
            show _ = _
            have h1 := hlo.out
            rw [sz_append, sz_cons, sz_nil, List.length_append, frame_len]
            omega
          have hlen5 : Hid ((bs ++ frameL l).length ≤ 8 * (k + 1) + tot (L0.take (k + 1)) + tot (L1.take k)) := by
            show _ ≤ _
            have h1 := hlen.out
            have h2 := hT2.out
            rw [List.length_append, frame_len, hl2.out]
            omega
          have hcnt5 : Hid ((Ls ++ [l]).length ≤ k + 1) := by show _ ≤ _; have := hcnt.out; rw [List.length_append]; simp; omega
          have hzx5 := hbx5.size
          clear hpas hlo hlen hcnt hl3 hlf'
          generalize bs ++ frameL l = bs5 at *
          generalize Ls ++ [l] = Ls5 at *
          have hlen7 : Hid (bs5.length ≤ 8 * (k + 1) + tot (L0.take (k + 1)) + tot (L1.take (k + 1))) := by show _ ≤ _; have h1 := hlen5.out; have h2 := hlen6.out; omega
          go_roundw
          case rel => exact ⟨k + 1, lo, bs5, Ls5, by omega, by go_num, rfl, hob5, how5, hpas5, hlo5, hlen7, hcnt5, hbx5⟩
          case measure => simp [intOf]; omega
    · have hbsm : bs.length ≤ 16777216 := by
        have h2 := hlen.out
        have h3 := hS0.out
        have h4 := tot_take L0 k
        have h5 := tot_take L1 k
        omega
      have hscan := hpas.out.all
      have hj : ¬ (k : Int) < (len0 : Int) := by omega
      go_wp2_with fail
      refine (new_any wr).mono ?_
      rintro e x1 ⟨gs, rfl, hs1, hgs, hb1⟩
      have hob1 := hob.out.below hb1
      have how1 : Hid (OwnsO x1 w.heap.size u6 Ls) := how.out.below hb1 hzr
      have hbx1 : Below w.heap.size w x1 := hbr.trans (hb1.mono hzr)
      have hzx1 := hbx1.size
      obtain ⟨a3, n3, c3, rfl, hl3, hn3, hc3, hm3, hB3⟩ := hob1.form
      have hgs' : w.heap.size ≤ gs := by omega
      go_wp2_with fail
      refine (feed_any gs [] 0 a3 n3 c3 bs x1 hs1 hl3.out hB3.out hn3.out (by have := hl3.out; simp; omega) (by simp)).mono ?_
      rintro e x2 ⟨v2, rfl, ho2, hs2, hg2⟩
      rw [List.nil_append, hscan] at ho2 hs2
      dsimp only at ho2 hs2
      rw [List.drop_length, Nat.zero_add, show bs.length - sz Ls = lo from by have := hlo.out; omega] at hs2
      have hbx2 : Below w.heap.size w x2 := hbx1.grown hg2 hzx1 (fun k hk => by cases hk; omega)
      have how2 : Hid (OwnsO x2 w.heap.size u6 Ls) := how1.out.keep hg2 (fun k hk => by cases hk; omega) (own_not how1.out hs1) hzx1
      obtain ⟨a4, n4, c4, rfl, hl4, -, -, -, hL4⟩ := ho2.lists
      obtain ⟨a5, n5, c5, hv5, hl5, -, -, -, hL5⟩ := how2.out.loads.lists
      have k1 := sameL_any 0 w.heap.size a4 a5 n4 n5 c4 c5 _ _ x2 hl4.out hl5.out hL4.out hL5.out
      rw [decide_eq_true rfl] at k1
      rw [hv5]
      have hS2 : Hid (Stm x2 gs [] lo) := hs2
      clear hscan hob how hob1 how1 hB3 hs1 ho2 hs2 how2 hL4 hL5 hv5 hg2
      go_wp2_with fail
      refine k1.mono ?_
      rintro e x3 ⟨rfl, hb3⟩
      have hbx3 : Below w.heap.size w x3 := hbx2.trans (hb3.mono hbx2.size)
      have kl := lost_any gs [] lo x3 (hS2.out.kept hb3)
      have kw := waits_any gs [] lo x3 (hS2.out.kept hb3)
      clear k1
      go_wp2_with fail
      refine kl.mono ?_
      rintro e x4 ⟨rfl, hw⟩
      obtain rfl : x3 = x4 := hw.symm
      go_wp2_with fail
      refine kw.mono ?_
      rintro e x4 ⟨rfl, hw⟩
      obtain rfl : x3 = x4 := hw.symm
      go_wp2_with (go_at_call 12; refine (alive_any x3).mono ?_; rintro e w9 ⟨rfl, hb9⟩)
      go_ret
      exact ⟨rfl, hbx3.trans (hb9.mono hbx3.size)⟩

set_option maxRecDepth 100000 in
theorem lifted (os : Os) (started : os.Started) (H : Type) (enc : TypeId × Value → H) (F : Stop.Interp) :
    ReturnsInHanded {} Try.checked os 7 .any ((Rows.OpenSpec.upto Rows.frameAmongSpec).pre6 enc Try.prog Try.f7 Rows.frameAmongUptoRow.domain false) (((Rows.OpenSpec.upto Rows.frameAmongSpec).at F).post enc Try.prog Try.f7 false true false false) := by
  refine returnsInHanded_of_cond_sized (C := Try.checked) (s := Rows.OpenSpec.upto Rows.frameAmongSpec) (k := Rows.uptoSmall) rfl own started (by kernel_rfl) Try.func7
    (OpenSpec.witness (enc := enc) (C := Try.checked) (s := Rows.OpenSpec.upto Rows.frameAmongSpec) (k := Rows.uptoSmall) rfl false ⟨#[], #[.slice none 0 0, .slice none 0 0], []⟩ 8 (by kernel_rfl) (by kernel_rfl) (by kernel_rfl)
      (x := ([.nil, .nil], [], [])) (by kernel_rfl) rfl (by kernel_rfl)) ?_
  intro W base args ds gs before hval0 hW _ hk hsz0 _
  have hval : ∀ (j : Nat) t v, Try.f7.params[j]? = some t → args[j]? = some v → Value.okWide Try.prog W .any base t v := hval0
  have hW' := hW
  have hsz : (DataW.weightsEach Try.prog (Try.f7.params.toList ++ (Rows.OpenSpec.upto Rows.frameAmongSpec).bare.plain.varTypes Try.prog) (ds ++ gs)).all (· ≤ reachBytes) = true := hsz0
  obtain ⟨p, q, hA0, hV, rfl, hfz, hnd⟩ := hW
  have hA : DataW.TrodAll enc Try.prog W 0 (fun _ => true) true Try.f7.params.toList args.toList ds p := hA0
  rw [Try.params7] at hA hval hsz
  obtain ⟨v0, vs0, d0, ds0, p0, q0, hargs, rfl, rfl, h0, r0'⟩ := trodAll_cons hA
  obtain ⟨v1, vs1, d1, ds1, p1, q1, rfl, rfl, rfl, h1, r1'⟩ := trodAll_cons r0'
  obtain ⟨rfl, rfl, rfl⟩ := trodAll_nil r1'
  obtain rfl : args = #[v0, v1] := by cases args; simp_all
  obtain ⟨rfl, rfl⟩ := trodVars_none hV
  obtain ⟨a0, len0, cap0, rfl⟩ := okWide_slice Try.underlying31 (hval 0 31 v0 rfl rfl)
  have k0 := h0
  have lt0 : ∀ x ∈ p0, x.block < W.heap.size := by obtain ⟨m, hm⟩ := k0; exact DataW.trod_lt m _ _ _ hm
  obtain ⟨L0, w0, bk0⟩ : ∃ Ls, IsRows W a0 len0 cap0 Ls ∧ tot Ls + len0 ≤ Rows.uptoBulk d0 := by
    obtain ⟨fuel, hf⟩ := h0
    rcases Go.Deep.open_int_rows Try.underlying31 Try.underlying22 Try.underlying5 (by kernel_rfl) (by kernel_rfl) hf with ⟨hcs, hx⟩ | ⟨x, l, c, A, L, C, Z, hcs, _, hl, hm, hx, hall⟩
    · simp [Value.cells] at hcs
      obtain ⟨rfl, rfl, rfl⟩ := hcs
      exact ⟨[], rows_nil W, by simp [tot]⟩
    · simp [Value.cells] at hcs
      obtain ⟨rfl, rfl, rfl⟩ := hcs
      have hd : d0 = _ := (Prod.mk.inj hx).1
      refine ⟨_, rows_in hl hm hall, ?_⟩
      rw [hd]
      exact bulk_rows A L Z len0 _ fun r hr hA => List.eq_nil_of_length_eq_zero ((hall r (by omega)).2.2.2.1.trans ((hall r (by omega)).2.2.2.2.2.1 hA))
  obtain ⟨a1, len1, cap1, rfl⟩ := okWide_slice Try.underlying31 (hval 1 31 v1 rfl rfl)
  have k1 := h1
  have lt1 : ∀ x ∈ p1, x.block < W.heap.size := by obtain ⟨m, hm⟩ := k1; exact DataW.trod_lt m _ _ _ hm
  obtain ⟨L1, w1, bk1⟩ : ∃ Ls, IsRows W a1 len1 cap1 Ls ∧ tot Ls + len1 ≤ Rows.uptoBulk d1 := by
    obtain ⟨fuel, hf⟩ := h1
    rcases Go.Deep.open_int_rows Try.underlying31 Try.underlying22 Try.underlying5 (by kernel_rfl) (by kernel_rfl) hf with ⟨hcs, hx⟩ | ⟨x, l, c, A, L, C, Z, hcs, _, hl, hm, hx, hall⟩
    · simp [Value.cells] at hcs
      obtain ⟨rfl, rfl, rfl⟩ := hcs
      exact ⟨[], rows_nil W, by simp [tot]⟩
    · simp [Value.cells] at hcs
      obtain ⟨rfl, rfl, rfl⟩ := hcs
      have hd : d1 = _ := (Prod.mk.inj hx).1
      refine ⟨_, rows_in hl hm hall, ?_⟩
      rw [hd]
      exact bulk_rows A L Z len1 _ fun r hr hA => List.eq_nil_of_length_eq_zero ((hall r (by omega)).2.2.2.1.trans ((hall r (by omega)).2.2.2.2.2.1 hA))
  have small : (tot L0 + len0) + (tot L1 + len1) ≤ 1048576 := by
    have hu : Rows.uptoBulkAll [d0, d1] ≤ 1048576 := of_decide_eq_true hk
    simp only [Rows.uptoBulkAll] at hu
    omega
  clear hA0 hval0
  refine (walk a0 len0 cap0 L0 a1 len1 cap1 L1 W w0 w1 small).mono fun e W' ⟨he, bel⟩ => ?_
  subst he
  exact ⟨_, rfl, _, _, _, [], _, [], hW', trodAll_mk1 (shut_bool Try.underlying4 _), (trodAll_cons_mk (Below.trod laidOut (by kernel_rfl) (of_decide_eq_true (by kernel_rfl)) k0 bel lt0) (trodAll_cons_mk (Below.trod laidOut (by kernel_rfl) (of_decide_eq_true (by kernel_rfl)) k1 bel lt1) trodAll_mk0)), rfl, bel.frame _, fun h => by cases h⟩

theorem over : Rows.frameAmongUptoRow.holds Try.pinned (Rows.OpenSpec.upto Rows.frameAmongSpec) :=
  OpenClaim.holds_of_cond 7 Try.f7 rfl rfl rfl rfl rfl rfl rfl ⟨rfl, rfl, rfl, rfl, rfl⟩ rfl rfl rfl rfl rfl (by kernel_rfl) Try.func7 (by kernel_rfl)
    (of_decide_eq_true (by kernel_rfl)) (by unfold Func.isWrapper; first | (rw [if_pos (by decide +kernel)]; kernel_rfl) | (rw [if_neg (by decide +kernel)]; exact ⟨rfl, rfl⟩))
    (fun os started H enc _ F => lifted os started H enc F)

end Go.Proofs.Yticlobjikpfcjaa.frameAmongUpto
namespace Go.Proofs.Yticlobjikpfcjaa

theorem frameAmongUpto_holds : Rows.FrameAmongUptoSaid := frameAmongUpto.over
#print axioms frameAmongUpto_holds
end Go.Proofs.Yticlobjikpfcjaa
