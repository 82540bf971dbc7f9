/-
  Opening, in the program: what was sealed, or nothing.
-/
import Derived.Test.YtfipdldoklkciaaRead
namespace Go.Proofs.Ytfipdldoklkciaa
open Go.RowKit

set_option maxHeartbeats 400000 in
theorem open_short (a : Option Addr) (n cap : Nat) (w : World) (h : n < 4) :
    Calls Try.prog 111 #[.slice a n cap] w fun e w' => e = .returned (.tuple #[.slice none 0 0, .bool false]) ∧ ∃ n, w' = w.drewN n := by
  have hd : decide ((n : Int) - 4 < 0) = true := by simp; omega
  go_enter Try.func111, Try.ntmps111
  go_wp2
  go_quiet (fail)
  go_wp2
  go_ret2
  exact ⟨rfl, nq, rfl⟩

set_option maxHeartbeats 400000 in
theorem open_no (b off n cap : Nat) (zs : List Int) (w : World) (hn : Hid (zs.length = n)) (h4 : 4 ≤ n) (hcap : n ≤ cap) (hm : cap ≤ 9223372036854775807)
    (hB : Hid (Bytes w (some ⟨b, off, none⟩) zs)) (hne : moreL 0 (zs.take (n - 4)) ≠ rd4 (zs.drop (n - 4))) :
    Calls Try.prog 111 #[.slice (some ⟨b, off, none⟩) n cap] w fun e w' => e = .returned (.tuple #[.slice none 0 0, .bool false]) ∧ ∃ n, w' = w.drewN n := by
  have hd : decide ((n : Int) - 4 < 0) = false := by simp; omega
  have hi0 : (0 : Int) ≤ (n : Int) - 4 := by omega
  have hi1 : (n : Int) - 4 ≤ (cap : Int) := by omega
  have hi2 : (4 : Int) ≤ (n : Int) := by omega
  have hi3 : (n : Int) - 4 ≤ (n : Int) := by omega
  have hi4 : (cap = ((n : Int) - 4).toNat) = False := by simp; omega
  have hi5 : n - ((n : Int) - 4).toNat = 4 := by omega
  have hT : Hid ((zs.take (n - 4)).length = ((n : Int) - 4).toNat) := by show _ = _; rw [List.length_take, hn.out]; omega
  have hD : Hid ((zs.drop (n - 4)).length = 4) := by show _ = _; rw [List.length_drop, hn.out]; omega
  have hE : Hid (Bytes w (some ⟨b, off + ((n : Int) - 4).toNat, none⟩) (zs.drop (n - 4))) := by rw [show ((n : Int) - 4).toNat = n - 4 from by omega]; exact hB.out.drop _
  have hq : (((moreL 0 (zs.take (n - 4)) : Nat) : Int) != ((rd4 (zs.drop (n - 4)) : Nat) : Int)) = true := by rw [bne_iff_ne]; omega
  clear hne
  go_enter Try.func111, Try.ntmps111
  go_wp2
  go_quiet (first | (go_at_call 104; exact Calls.quiet_of_same (sum_at _ _ _ (zs.take (n - 4)) _ hT.out ((hB.out.take _).drewN _))) | (go_at_call 114; exact Calls.quiet_of (read_at _ _ _ (zs.drop (n - 4)) _ hD.out (hE.out.drewN _))))
  go_wp2
  go_ret2
  exact ⟨rfl, nq, rfl⟩

set_option maxHeartbeats 400000 in
theorem open_yes (b off n cap : Nat) (zs : List Int) (w : World) (hn : Hid (zs.length = n)) (h4 : 4 ≤ n) (hcap : n ≤ cap) (hm : cap ≤ 9223372036854775807) (hr : n ≤ 140737488355328)
    (hB : Hid (Bytes w (some ⟨b, off, none⟩) zs)) (heq : moreL 0 (zs.take (n - 4)) = rd4 (zs.drop (n - 4))) :
    Calls Try.prog 111 #[.slice (some ⟨b, off, none⟩) n cap] w fun e w' => ∃ v, e = .returned (.tuple #[v, .bool true]) ∧ OwnsB w' w.heap.size v (zs.take (n - 4)) ∧ Below w.heap.size w w' := by
  obtain ⟨i0, hi, hz0, hz1, hz2⟩ := info_parts info5
  have hd : decide ((n : Int) - 4 < 0) = false := by simp; omega
  have hi0 : (0 : Int) ≤ (n : Int) - 4 := by omega
  have hi1 : (n : Int) - 4 ≤ (cap : Int) := by omega
  have hi2 : (4 : Int) ≤ (n : Int) := by omega
  have hi3 : (n : Int) - 4 ≤ (n : Int) := by omega
  have hi4 : (cap = ((n : Int) - 4).toNat) = False := by simp; omega
  have hi5 : n - ((n : Int) - 4).toNat = 4 := by omega
  have hT : Hid ((zs.take (n - 4)).length = ((n : Int) - 4).toNat) := by show _ = _; rw [List.length_take, hn.out]; omega
  have hD : Hid ((zs.drop (n - 4)).length = 4) := by show _ = _; rw [List.length_drop, hn.out]; omega
  have hE : Hid (Bytes w (some ⟨b, off + ((n : Int) - 4).toNat, none⟩) (zs.drop (n - 4))) := by rw [show ((n : Int) - 4).toNat = n - 4 from by omega]; exact hB.out.drop _
  have hq : (((moreL 0 (zs.take (n - 4)) : Nat) : Int) != ((rd4 (zs.drop (n - 4)) : Nat) : Int)) = false := by rw [bne_eq_false_iff_eq]; omega
  clear heq
  go_enter Try.func111, Try.ntmps111
  go_wp2
  go_quiet (first | (go_at_call 104; exact Calls.quiet_of_same (sum_at _ _ _ (zs.take (n - 4)) _ hT.out ((hB.out.take _).drewN _))) | (go_at_call 114; exact Calls.quiet_of (read_at _ _ _ (zs.drop (n - 4)) _ hD.out (hE.out.drewN _))))
  clear hq hd
  go_wp2_with (at_make; refine wpList_make_full _ rfl _ _ 23 rfl w.heap.size 5 i0 (.int .u8 0) 1 Try.underlying23 hi hz0 hz1 .i64 .i64 _ _ (n - 4) rfl rfl (by omega) (by omega) (by rw [hz2]; omega) (by unfold maxLen; omega) (Nat.le_refl _) ?_; intro w2 ho2 hg2; have hb2 : Below w.heap.size w w2 := (below_drewN (Below.refl _ _) nq).grown hg2 (Nat.le_refl _) (by simp); obtain ⟨w3, hcp, ho3, hb3⟩ := copy_into (w0 := w) (g := w.heap.size) ho2 hb2 ⟨b, off, none⟩ n cap zs (hB.out.kept hb2) hn.out (by omega); clear ho2 hg2 hb2)
  go_ret2
  exact ⟨_, rfl, ho3, hb3⟩

/-- BYTES THAT ARE SEALED: the last four are the check sum of the others, so written. -/
def Sealed (zs : List Int) : Prop := 4 ≤ zs.length ∧ zs.drop (zs.length - 4) = le4 (moreL 0 (zs.take (zs.length - 4)))

theorem sealed_iff {zs : List Int} (hz : ∀ c ∈ zs, 0 ≤ c ∧ c < 256) (h4 : 4 ≤ zs.length) : Sealed zs ↔ moreL 0 (zs.take (zs.length - 4)) = rd4 (zs.drop (zs.length - 4)) := by
  rw [rd4_le4 _ _ (by rw [List.length_drop]; omega) (fun c hc => hz c (List.mem_of_mem_drop hc)) (moreL_lt (by decide) (take_bytes hz _))]
  exact ⟨fun h => h.2, fun h => ⟨h4, h⟩⟩

theorem opens_not (a : Option Addr) (n cap : Nat) (zs : List Int) (w : World) (hb : Bytes w a zs) (hl : zs.length = n) (hcap : n ≤ cap) (hm : cap ≤ 9223372036854775807) (hs : ¬ Sealed zs) :
    Calls Try.prog 111 #[.slice a n cap] w fun e w' => e = .returned (.tuple #[.slice none 0 0, .bool false]) ∧ Below w.heap.size w w' := by
  subst hl
  by_cases h4 : 4 ≤ zs.length
  · obtain ⟨b, off, rfl⟩ := bytes_some hb (by omega)
    refine (open_no b off zs.length cap zs w rfl h4 hcap hm hb fun h => hs ((sealed_iff hb.1 h4).2 h)).mono ?_
    rintro e w' ⟨rfl, n, rfl⟩
    exact ⟨rfl, below_drewN (Below.refl _ _) n⟩
  · refine (open_short a zs.length cap w (by omega)).mono ?_
    rintro e w' ⟨rfl, n, rfl⟩
    exact ⟨rfl, below_drewN (Below.refl _ _) n⟩

theorem opens (a : Option Addr) (n cap : Nat) (zs : List Int) (w : World) (hb : Bytes w a zs) (hl : zs.length = n) (hcap : n ≤ cap) (hm : cap ≤ 9223372036854775807) (hr : n ≤ 140737488355328) (hs : Sealed zs) :
    Calls Try.prog 111 #[.slice a n cap] w fun e w' => ∃ v, e = .returned (.tuple #[v, .bool true]) ∧ OwnsB w' w.heap.size v (zs.take (zs.length - 4)) ∧ Below w.heap.size w w' := by
  subst hl
  have h4 := hs.1
  obtain ⟨b, off, rfl⟩ := bytes_some hb (by omega)
  exact open_yes b off zs.length cap zs w rfl h4 hcap hm hr hb ((sealed_iff hb.1 h4).1 hs)

/-- What was sealed is sealed. -/
theorem sealed_seal (zs : List Int) : Sealed (zs ++ le4 (moreL 0 zs)) ∧ (zs ++ le4 (moreL 0 zs)).take ((zs ++ le4 (moreL 0 zs)).length - 4) = zs := by
  have hl : (zs ++ le4 (moreL 0 zs)).length - 4 = zs.length := by simp [le4]
  have ht : (zs ++ le4 (moreL 0 zs)).take ((zs ++ le4 (moreL 0 zs)).length - 4) = zs := by rw [hl]; exact List.take_left' rfl
  refine ⟨⟨by simp [le4], ?_⟩, ht⟩
  rw [ht, hl]
  exact List.drop_left' rfl
end Go.Proofs.Ytfipdldoklkciaa
