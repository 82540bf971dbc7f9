/-
  For all bytes: what comes of them goes back to them, but for bytes 0 ahead; the arguments stay as they were.
-/
import Derived.Test.YtfamenkefmgnoabDoorRows
import Derived.Test.YtfamenkefmgnoabDoorTie
import Derived.Test.YtfamenkefmgnoabDoorCards
import Derived.Test.YtfamenkefmgnoabDoorAlive
import Derived.Test.YtfamenkefmgnoabDoorTob
import Derived.Test.YtfamenkefmgnoabDoorSame
import Derived.WalkKit
import Derived.ProofKit
import Derived.OpenShut
import Derived.ShutString
import Derived.ChangeOld
import Derived.Below
import Derived.SizedLaws
import Derived.LaidMore
import Derived.Lay
import Derived.SevenTiedAt
import Derived.Stop.Joined
namespace Go.Proofs.YtfamenkefmgnoabDoor.natBack
open Go.ChangeShapes Go.WideShapes Go.ChangeAt Go.RowKit
open Go.ChangeMaps (open_string shut_string)
set_option linter.unusedVariables false

theorem own : ownKnob Tryd.prog.godebug = none := by kernel_rfl
theorem laidOut : laidOutB Tryd.prog = true := by kernel_rfl
theorem bytes_e : Tryd.prog.bytesOf 5 = 1 := by kernel_rfl

set_option maxRecDepth 100000 in
set_option maxHeartbeats 2000000 in
theorem walk (a0 : Option Addr) (len0 cap0 : Nat) (z0 : List Int) (w : World) (w0 : IsRow .u8 w a0 len0 cap0 z0) (r0 : cap0 ≤ 140737488351232) :
    Calls Tryd.prog 4 #[.slice a0 len0 cap0] w fun e w' => e = .returned (.bool true) ∧ Below w.heap.size w w' := by
  obtain ⟨hl0, hb0⟩ := bytes_of_row w0
  obtain ⟨hnc, hcm⟩ := row_le w0
  have hcm' : cap0 ≤ 9223372036854775807 := by simpa [maxLen] using hcm
  have k1 := frb_any a0 len0 cap0 _ w hl0 hb0
  clear w0 r0 hcm
  generalize z0.take len0 = zs at *
  have hL : Hid (zs.length = len0) := hl0
  have hB : Hid (Bytes w a0 zs) := hb0
  have hno : frbA zs = (noS, 11) ∨ (frbA zs = (txt (bytV zs), 0) ∧ bytV zs < top) := by
    unfold frbA shortA
    by_cases h1 : zs.length ≤ 400
    · rw [if_pos h1]
      by_cases h2 : bytV zs < top
      · rw [if_pos h2]; exact .inr ⟨rfl, h2⟩
      · rw [if_neg h2]; exact .inl rfl
    · rw [if_neg h1]; exact .inl rfl
  clear hl0 hb0
  rcases hno with hno | ⟨hno, htop⟩
  · rw [hno] at k1
    clear hno
    go_enter Tryd.func4, Tryd.ntmps4
    go_wp2_with fail
    refine k1.mono ?_
    rintro e x1 ⟨rfl, b1⟩
    go_wp2_with (go_at_call 6; refine (alive_any _).mono ?_; rintro e x9 ⟨rfl, b9⟩)
    go_ret
    exact ⟨rfl, b1.trans (b9.mono b1.size)⟩
  · rw [hno] at k1
    have k2 : Hid (∀ w, Calls Tryd.prog 11 #[.string (txt (bytV zs))] w fun e w' => (∃ v, e = .returned (.tuple #[v, .int .i64 0]) ∧ OwnsB w' w.heap.size v (byL (bytV zs))) ∧ Below w.heap.size w w') := fun w => by
      have h := tob_yes (txt (bytV zs)) w (rt_txt htop)
      rw [val_txt] at h
      exact h
    have hz0 : Hid (∀ c ∈ zs, 0 ≤ c ∧ c < 256) := hB.out.1
    clear hno htop
    dsimp only at k1
    obtain ⟨T, hT⟩ : ∃ T, txt (bytV zs) = T := ⟨_, rfl⟩
    rw [hT] at k1 k2
    clear hT
    go_enter Tryd.func4, Tryd.ntmps4
    go_wp2_with fail
    refine k1.mono ?_
    rintro e x1 ⟨rfl, b1⟩
    go_wp2_with fail
    refine (k2.out x1).mono ?_
    rintro e x2 ⟨⟨v2, rfl, o2⟩, c2⟩
    have b2 : Hid (Below w.heap.size w x2) := b1.trans (c2.mono b1.size)
    obtain ⟨ad2, n2, cp2, rfl, hl2, -, -, -, hB2⟩ := o2.form
    have hBx : Hid (Bytes x2 a0 zs) := hB.out.kept b2.out
    clear k1 k2 b1 c2 o2 hB
    go_wp2
    go_loop [0] (fun v => ∃ (a' : Option Addr) (n' c' : Nat) (ys : List Int), v = .slice a' n' c' ∧ Hid (ys.length = n') ∧ Hid (Bytes x2 a' ys) ∧ Hid (bytV ys = bytV zs) ∧ n' ≤ c' ∧ c' ≤ 9223372036854775807) (fun v => lenV v)
    case atStart => exact ⟨a0, len0, cap0, zs, rfl, hL, hBx, rfl, hnc, hcm'⟩
    case round =>
      obtain ⟨a', n', c', ys, rfl, hy, hby, htr, hn', hc'⟩ := hrel
      clear hBx hL hnc hcm'
      cases ys with
      | nil =>
        obtain rfl : n' = 0 := hy.out.symm
        have hT : byL (bytV zs) = [] := by rw [← htr.out]; exact by_zero
        have hB3 := hB2.out
        have hl3 := hl2.out
        rw [hT] at hB3 hl3
        have kS := same_yes a' ad2 0 n2 c' cp2 [] x2 rfl hl3 hby.out hB3
        clear hT hB3 hl3
        go_wp2_with (first
          | (go_at_call 12; refine kS.mono ?_; rintro e x7 ⟨rfl, hx7⟩; obtain rfl : x2 = x7 := hx7.symm)
          | (go_at_call 6; refine (alive_any _).mono ?_; rintro e x9 ⟨rfl, b9⟩))
        go_ret
        exact ⟨rfl, b2.out.trans (b9.mono b2.out.size)⟩
      | cons c ys =>
        obtain ⟨m, rfl⟩ : ∃ m, n' = m + 1 := ⟨ys.length, by rw [← hy.out]; rfl⟩
        obtain ⟨b, off, rfl⟩ := bytes_some hby.out (by simp)
        have hcell : x2.cell? ⟨b, off, none⟩ = some (.int .u8 c) := by
          rcases hby.out.2.2 with h | ⟨b', o', h, hcc⟩
          · cases h
          · cases h
            exact hcc 0 (by simp)
        have hy' : Hid (ys.length = m) := by have := hy.out; simp only [List.length_cons] at this; show _ = _; omega
        by_cases h48 : c = 0
        · subst h48
          have hbt : Hid (Bytes x2 (some ⟨b, off + 1, none⟩) ys) := hby.out.tail
          have htr' : Hid (bytV ys = bytV zs) := by have := htr.out; rwa [byt_zero] at this
          by_cases hc1 : c' = 1
          · subst hc1
            obtain rfl : m = 0 := by omega
            have hys : ys = [] := List.eq_nil_of_length_eq_zero hy'.out
            go_wp2
            go_round
            case rel => exact ⟨_, 0, _, [], rfl, rfl, bytes_none _ _, (by rw [← hys]; exact htr'), by omega, by omega⟩
            case measure => simp [lenV]
          · have hc2 : (c' = 1) = False := by simp; omega
            clear hc1
            go_wp2
            go_round
            case rel => exact ⟨_, m, c' - 1, ys, by simp, hy', hbt, htr', by omega, by omega⟩
            case measure => simp [lenV]
        · have hT : byL (bytV zs) = c :: ys := by
            rw [← htr.out]
            exact by_byt hby.out.1 (fun _ => h48)
          have hB3 := hB2.out
          have hl3 := hl2.out
          rw [hT] at hB3 hl3
          have kS := same_yes _ ad2 (m + 1) n2 c' cp2 (c :: ys) x2 hy.out hl3 hby.out hB3
          have hd : (c == 0) = false := by simpa using h48
          clear h48 hT hB3 hl3
          go_wp2_with (first
            | (go_at_call 12; refine kS.mono ?_; rintro e x7 ⟨rfl, hx7⟩; obtain rfl : x2 = x7 := hx7.symm)
            | (go_at_call 6; refine (alive_any _).mono ?_; rintro e x9 ⟨rfl, b9⟩))
          go_ret
          exact ⟨rfl, b2.out.trans (b9.mono b2.out.size)⟩

set_option maxRecDepth 100000 in
theorem lifted (os : Os) (started : os.Started) (H : Type) (enc : TypeId × Value → H) :
    ReturnsInHanded {} Tryd.checked os 4 .any (fun w args => (Rows.natBackSpec.pre enc Tryd.prog Tryd.f4 Rows.natBackRow.domain false w args ∧ laidMetH Tryd.prog Rows.natBackRow.laid w) ∧ sizedMet enc Tryd.prog Tryd.f4 (OpenSpec.ofChange Rows.natBackSpec) false w args)
      (Rows.natBackSpec.post enc Tryd.prog Tryd.f4 false true false false) := by
  refine returnsInHanded_of_change_and (C := Tryd.checked) (X := fun w _ => laidMetH Tryd.prog Rows.natBackRow.laid w) (fun _ _ _ hh h => h.of_heap hh) own started (by kernel_rfl) Tryd.func4
    (ChangeSpec.witness_shaped (enc := enc) (C := Tryd.checked) (os := os) (X := fun w _ => laidMetH Tryd.prog Rows.natBackRow.laid w) false (World.laidAll Tryd.prog os Rows.natBackRow.laid) #[.slice none 0 0] 8 (World.laidAll_os _ _ _)
      (World.shaped_of_ZipB (by kernel_rfl) (by kernel_rfl)) (by kernel_rfl) (by kernel_rfl) (by kernel_rfl)
      (by rw [MakeChecks.laidMetH_plain _ _ _ (by kernel_rfl)]; exact laidMet_laidAll _ (by kernel_rfl) (by kernel_rfl))) ?_
  intro W base args ds gs before hval0 hW hcnd hsz0 hL _
  have hval : ∀ (j : Nat) t v, Tryd.f4.params[j]? = some t → args[j]? = some v → Value.okWide Tryd.prog W .any base t v := hval0
  have hW' := hW
  have hsz : (DataW.weightsEach Tryd.prog (Tryd.f4.params.toList ++ Rows.natBackSpec.plain.varTypes Tryd.prog) (ds ++ gs)).all (· ≤ reachBytes) = true := hsz0
  obtain ⟨p, q, hA0, hV, rfl, hfz, hnd⟩ := hW
  have hA : DataW.TrodAll enc Tryd.prog W 0 (fun _ => true) true Tryd.f4.params.toList args.toList ds p := hA0
  rw [Tryd.params4] at hA hval hsz
  obtain ⟨v0, vs0, d0, ds0, p0, q0, hargs, rfl, rfl, h0, r0'⟩ := trodAll_cons hA
  obtain ⟨rfl, rfl, rfl⟩ := trodAll_nil r0'
  obtain rfl : args = #[v0] := by cases args; simp_all
  obtain ⟨rfl, rfl⟩ := trodVars_none hV
  obtain ⟨a0, len0, cap0, rfl⟩ := okWide_slice Tryd.underlying31 (hval 0 31 v0 rfl rfl)
  have k0 := h0
  have lt0 : ∀ x ∈ p0, x.block < W.heap.size := by obtain ⟨m, hm⟩ := k0; exact DataW.trod_lt m _ _ _ hm
  obtain ⟨z0, w0, r0⟩ : ∃ zs, IsRow .u8 W a0 len0 cap0 zs ∧ cap0 ≤ 140737488351232 := by
    obtain ⟨fuel, hf⟩ := h0
    rcases open_ints Tryd.underlying31 Tryd.underlying5 (by kernel_rfl) hf with ⟨hcs, hx⟩ | ⟨x, l, c, zs, hcs, _, hl, hm, hz, hx, hcell, hwz⟩
    · simp [Value.cells] at hcs
      obtain ⟨rfl, rfl, rfl⟩ := hcs
      exact ⟨[], .inl ⟨rfl, rfl, rfl, rfl⟩, by omega⟩
    · simp [Value.cells] at hcs
      obtain ⟨rfl, rfl, rfl⟩ := hcs
      have hd : d0 = .slice (lits .u8 (zs.take len0)) (lits .u8 (zs.drop len0)) := (Prod.mk.inj hx).1
      have hz' : zs.length = cap0 := by simpa using hz
      have hr : cap0 ≤ 140737488351232 := by
        have := sized_slice hsz (j := 0) (t := 31) (e := 5) rfl (by rw [← hd]; rfl) Tryd.underlying31
        rw [bytes_e] at this
        simp only [lits, List.length_map, List.length_take, List.length_drop, reachBytes] at this
        omega
      exact ⟨zs, .inr ⟨_, rfl, hl, hm, hz', hcell, hwz⟩, hr⟩
  clear hA0 hval0
  refine (walk a0 len0 cap0 z0 W w0 r0).mono fun e W' ⟨he, bel⟩ => ?_
  subst he
  exact ⟨_, rfl, _, _, _, [], _, [], hW', trodAll_mk1 (shut_bool Tryd.underlying4 _), (trodAll_cons_mk (Below.trod laidOut (by kernel_rfl) (of_decide_eq_true (by kernel_rfl)) k0 bel lt0) trodAll_mk0), rfl, bel.frame _, fun h => by cases h⟩

theorem over : Rows.natBackRow.holds Tryd.pinned (OpenSpec.ofChange Rows.natBackSpec) :=
  OpenClaim.holds_of_wide 4 Tryd.f4 rfl rfl rfl rfl rfl rfl rfl ⟨rfl, rfl, rfl, rfl, rfl⟩ rfl rfl rfl rfl rfl (by kernel_rfl) Tryd.func4 (by kernel_rfl)
    (of_decide_eq_true (by kernel_rfl)) (by unfold Func.isWrapper; first | (rw [if_pos (by decide +kernel)]; kernel_rfl) | (rw [if_neg (by decide +kernel)]; exact ⟨rfl, rfl⟩))
    (fun os started H enc _ => lifted os started H enc)

end Go.Proofs.YtfamenkefmgnoabDoor.natBack
namespace Go.Proofs.YtfamenkefmgnoabDoor
open Go

theorem natBack_holds : Rows.NatBackCardSaid :=
  Claim7.holds_tied_plain_at .later [] [.data, .pinned] true (true, "5ffe5bfa09ea733e7ca02d3ed2c2cadea689c269636c6d308f6f9ae61076ebf4") false
    natBack.over (fun _ h => by cases h) (by kernel_rfl) (fun _ h => by cases h) natBack_row_tie rfl ⟨rfl, rfl⟩ (by kernel_rfl) rfl
    (fun f fn hf hfn => by
      obtain rfl : f = 4 := Option.some.inj ((show Tryd.prog.funcNamed Tryd.f4.name = some 4 by kernel_rfl).symm.trans hf) |>.symm
      obtain rfl : fn = Tryd.f4 := (Option.some.inj (Tryd.func4.symm.trans hfn)).symm
      exact ⟨by kernel_rfl, fun j t ht => by
        rw [Tryd.params4] at ht
        have hm : t ∈ [31] := by simpa using Array.mem_of_getElem? ht
        have hall : ([31].all fun u => !Tryd.prog.wantsStandIn u) = true := by kernel_rfl
        exact (show Tryd.prog.wantsStandIn t = false by simpa using List.all_eq_true.1 hall t hm)⟩)
    (by kernel_rfl)
#print axioms natBack_holds
end Go.Proofs.YtfamenkefmgnoabDoor
