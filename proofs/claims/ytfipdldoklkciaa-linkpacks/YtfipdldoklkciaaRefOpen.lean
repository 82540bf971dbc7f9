/-
  Opening, as the document's own answer has it: what was sealed, or nothing.
-/
import Derived.Test.YtfipdldoklkciaaGaa
import Derived.Deep.RegionWith
namespace Go.Proofs.Ytfipdldoklkciaa
open Go.RowKit

set_option maxRecDepth 100000 in
theorem refSeal_at (a : Option Addr) (m cap : Nat) (zs : List Int) (w : World) (hm : zs.length = m) (hb : Bytes w a zs) (hn : a = none → cap = 0) (hl : m + 4 ≤ 140737488355328) :
    Calls Try.prog 80 #[.slice a m cap] w fun e w' => ∃ v, e = .returned v ∧ OwnsB w' w.heap.size v (zs ++ le4 (moreL 0 zs)) ∧ Below w.heap.size w w' := by
  subst hm
  exact refSeal_any a cap zs w hb hn hl

set_option maxHeartbeats 400000 in
set_option maxRecDepth 100000 in
theorem refOpen_short (a : Option Addr) (n cap : Nat) (w : World) (h : n < 4) :
    Calls Try.prog 87 #[.slice a n cap] w fun e w' => e = .returned (.tuple #[.slice none 0 0, .bool false]) ∧ ∃ n, w' = w.drewN n := by
  have hd : decide ((n : Int) - 4 < 0) = true := by simp; omega
  go_enter Try.func87, Try.ntmps87
  go_wp2
  go_quiet (fail)
  go_wp2
  go_ret2
  exact ⟨rfl, nq, rfl⟩

set_option maxHeartbeats 1000000 in
set_option maxRecDepth 100000 in
theorem refOpen_no (b off n cap : Nat) (zs : List Int) (w : World) (hn : Hid (zs.length = n)) (h4 : 4 ≤ n) (hcap : n ≤ cap) (_hm : cap ≤ 9223372036854775807) (hr : n ≤ 140737488355328)
    (hB : Hid (Bytes w (some ⟨b, off, none⟩) zs)) (hne : zs.take (n - 4) ++ le4 (moreL 0 (zs.take (n - 4))) ≠ zs) :
    Calls Try.prog 87 #[.slice (some ⟨b, off, none⟩) n cap] w fun e w' => e = .returned (.tuple #[.slice none 0 0, .bool false]) ∧ Below w.heap.size w w' := by
  have hd : decide ((n : Int) - 4 < 0) = false := by simp; omega
  have hi0 : (0 : Int) ≤ (n : Int) - 4 := by omega
  have hi1 : (n : Int) - 4 ≤ (cap : Int) := by omega
  have hi2 : (4 : Int) ≤ (n : Int) := by omega
  have hT : Hid ((zs.take (n - 4)).length = ((n : Int) - 4).toNat) := by show _ = _; rw [List.length_take, hn.out]; omega
  have hX : ∀ c ∈ zs.take (n - 4) ++ le4 (moreL 0 (zs.take (n - 4))), 0 ≤ c ∧ c < 256 := fun c hc => by
    rcases List.mem_append.1 hc with h1 | h1
    · exact take_bytes hB.out.1 _ c h1
    · exact le4_bytes _ c h1
  have hq : ((strOfNums (zs.take (n - 4) ++ le4 (moreL 0 (zs.take (n - 4))))).toList == (strOfNums zs).toList) = false := by rw [str_eq hX hB.out.1]; simpa using hne
  clear hne hX
  have hcv0 := conv_str (w := w.drew) hB.out n cap hn.out
  go_enter Try.func87, Try.ntmps87
  go_wp2
  go_region_with ((go_at_call 80; refine (refSeal_at _ _ _ (zs.take (n - 4)) _ hT.out (by exact (hB.out.take (n - 4))) (by simp) (by omega)).mono ?_; rintro e w1 ⟨v1, rfl, ho1, hb1'⟩; have hb1 : Below w.heap.size w w1 := ⟨hb1'.os, hb1'.tape, hb1'.output, hb1'.size, hb1'.block⟩; obtain ⟨a1, n1, cap1, rfl, hl1, -, hc1, hm1, hB1⟩ := ho1.form; have hcv1 := conv_str hB1.out n1 cap1 hl1.out; have hcv2 := conv_str (hB.out.kept hb1) n cap hn.out; clear ho1 hb1'))
  all_goals (go_wp2; go_ret2; exact ⟨rfl, hb1⟩)

set_option maxHeartbeats 1000000 in
set_option maxRecDepth 100000 in
theorem refOpen_yes (b off n cap : Nat) (zs : List Int) (w : World) (hn : Hid (zs.length = n)) (h4 : 4 ≤ n) (hcap : n ≤ cap) (_hm : cap ≤ 9223372036854775807) (hr : n ≤ 140737488355328)
    (hB : Hid (Bytes w (some ⟨b, off, none⟩) zs)) (heq : zs.take (n - 4) ++ le4 (moreL 0 (zs.take (n - 4))) = zs) :
    Calls Try.prog 87 #[.slice (some ⟨b, off, none⟩) n cap] w fun e w' => ∃ v, e = .returned (.tuple #[v, .bool true]) ∧ OwnsB w' w.heap.size v (zs.take (n - 4)) ∧ Below w.heap.size w w' := by
  have hd : decide ((n : Int) - 4 < 0) = false := by simp; omega
  have hi0 : (0 : Int) ≤ (n : Int) - 4 := by omega
  have hi1 : (n : Int) - 4 ≤ (cap : Int) := by omega
  have hi2 : (4 : Int) ≤ (n : Int) := by omega
  have hT : Hid ((zs.take (n - 4)).length = ((n : Int) - 4).toNat) := by show _ = _; rw [List.length_take, hn.out]; omega
  have hX : ∀ c ∈ zs.take (n - 4) ++ le4 (moreL 0 (zs.take (n - 4))), 0 ≤ c ∧ c < 256 := fun c hc => by
    rcases List.mem_append.1 hc with h1 | h1
    · exact take_bytes hB.out.1 _ c h1
    · exact le4_bytes _ c h1
  have hq : ((strOfNums (zs.take (n - 4) ++ le4 (moreL 0 (zs.take (n - 4))))).toList == (strOfNums zs).toList) = true := by rw [str_eq hX hB.out.1]; simpa using heq
  clear heq hX
  have hcv0 := conv_str (w := w.drew) hB.out n cap hn.out
  go_enter Try.func87, Try.ntmps87
  go_wp2
  go_region_with ((go_at_call 80; refine (refSeal_at _ _ _ (zs.take (n - 4)) _ hT.out (by exact (hB.out.take (n - 4))) (by simp) (by omega)).mono ?_; rintro e w1 ⟨v1, rfl, ho1, hb1'⟩; have hb1 : Below w.heap.size w w1 := ⟨hb1'.os, hb1'.tape, hb1'.output, hb1'.size, hb1'.block⟩; obtain ⟨a1, n1, cap1, rfl, hl1, -, hc1, hm1, hB1⟩ := ho1.form; have hcv1 := conv_str hB1.out n1 cap1 hl1.out; have hcv2 := conv_str (hB.out.kept hb1) n cap hn.out; clear ho1 hb1'))
  all_goals
    have hs1 := hb1.size
    have hZ : Hid (Bytes w1 (some ⟨b, off, none⟩) (zs.take (n - 4))) := (hB.out.take _).kept hb1
    clear hq hcv0 hcv1 hcv2 hd hB1 hl1
    go_wp2_with (at_builtin; (refine wpList_append_bytes rfl _ (.tmp 22) rfl w.heap.size (.slice none 0 0) [] (zs.take (n - 4)) rfl (ownsB_nil _ _) (some ⟨b, off, none⟩) _ cap rfl (by rw [List.length_take, hn.out]; omega) (by simp) hZ.out (by rw [List.length_take, hn.out]; simp; omega) hs1 ?_); intro v2 w2 ho2 hg2; have hb2 := grown_below hb1 (ownsB_nil _ _) hg2 hs1; simp only [List.nil_append] at ho2; clear hg2)
    go_ret2
    exact ⟨_, rfl, ho2, hb2⟩

set_option maxRecDepth 100000 in
theorem sealed_whole {zs : List Int} (h4 : 4 ≤ zs.length) : Sealed zs ↔ zs.take (zs.length - 4) ++ le4 (moreL 0 (zs.take (zs.length - 4))) = zs := by
  constructor
  · intro h
    rw [← h.2]
    exact List.take_append_drop _ _
  · intro h
    refine ⟨h4, ?_⟩
    have h1 := List.take_append_drop (zs.length - 4) zs
    have h2 := h.trans h1.symm
    exact (List.append_cancel_left h2).symm

set_option maxRecDepth 100000 in
theorem refOpens_not (a : Option Addr) (n cap : Nat) (zs : List Int) (w : World) (hb : Bytes w a zs) (hl : zs.length = n) (hcap : n ≤ cap) (hm : cap ≤ 9223372036854775807) (hr : n ≤ 140737488355328) (hs : ¬ Sealed zs) :
    Calls Try.prog 87 #[.slice a n cap] w fun e w' => e = .returned (.tuple #[.slice none 0 0, .bool false]) ∧ Below w.heap.size w w' := by
  subst hl
  by_cases h4 : 4 ≤ zs.length
  · obtain ⟨b, off, rfl⟩ := bytes_some hb (by omega)
    exact refOpen_no b off zs.length cap zs w rfl h4 hcap hm hr hb fun h => hs ((sealed_whole h4).2 h)
  · refine (refOpen_short a zs.length cap w (by omega)).mono ?_
    rintro e w' ⟨rfl, n, rfl⟩
    exact ⟨rfl, below_drewN (Below.refl _ _) n⟩

set_option maxRecDepth 100000 in
theorem refOpens (a : Option Addr) (n cap : Nat) (zs : List Int) (w : World) (hb : Bytes w a zs) (hl : zs.length = n) (hcap : n ≤ cap) (hm : cap ≤ 9223372036854775807) (hr : n ≤ 140737488355328) (hs : Sealed zs) :
    Calls Try.prog 87 #[.slice a n cap] w fun e w' => ∃ v, e = .returned (.tuple #[v, .bool true]) ∧ OwnsB w' w.heap.size v (zs.take (zs.length - 4)) ∧ Below w.heap.size w w' := by
  subst hl
  have h4 := hs.1
  obtain ⟨b, off, rfl⟩ := bytes_some hb (by omega)
  exact refOpen_yes b off zs.length cap zs w rfl h4 hcap hm hr hb ((sealed_whole h4).1 hs)
end Go.Proofs.Ytfipdldoklkciaa
