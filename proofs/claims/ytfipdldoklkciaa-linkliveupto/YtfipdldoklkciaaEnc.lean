/-
  A load's frame, in the program and in the document's own answer.
-/
import Derived.Test.YtfipdldoklkciaaLoads
namespace Go.Proofs.Ytfipdldoklkciaa
open Go.RowKit

theorem owns_two (w : World) (x y : Int) (hx : 0 ≤ x ∧ x < 256) (hy : 0 ≤ y ∧ y < 256) (base : Nat) (hb : base ≤ w.heap.size) :
    OwnsB (w.alloc (.cells #[.int .u8 x, .int .u8 y] 5)) base (.slice (some ⟨w.heap.size, 0, none⟩) 2 2) [x, y] := by
  refine ⟨⟨rfl, .inr ⟨w.heap.size, 2, _, rfl, hb, heap_alloc_new w _, Nat.le_refl _, by decide, rfl, rfl⟩⟩, ?_⟩
  intro c hc
  simp only [List.mem_cons, List.not_mem_nil, or_false] at hc
  rcases hc with rfl | rfl
  · exact hx
  · exact hy

theorem seal_at (a : Option Addr) (m cap : Nat) (zs : List Int) (w : World) (hm : zs.length = m) (hb : Bytes w a zs) (hn : a = none → cap = 0) (hl : m + 4 ≤ 140737488355328) :
    Calls Try.prog 79 #[.slice a m cap] w fun e w' => ∃ v, e = .returned v ∧ OwnsB w' w.heap.size v (zs ++ le4 (moreL 0 zs)) ∧ Below w.heap.size w w' := by
  subst hm
  exact seal_any a cap zs w hb hn hl

set_option maxHeartbeats 400000 in
theorem encode_many (a : Option Addr) (n cap : Nat) (w : World) (h : 1200 < n) :
    Calls Try.prog 38 #[.slice a n cap] w fun e w' => e = .returned (.tuple #[.slice none 0 0, .int .i64 8]) ∧ w' = w := by
  have hd : decide (1200 < (n : Int)) = true := by simp; omega
  go_enter Try.func38, Try.ntmps38
  go_wp2
  go_ret2
  exact ⟨rfl, rfl⟩

set_option maxHeartbeats 400000 in
theorem encode_ok (a : Option Addr) (n cap : Nat) (zs : List Int) (w : World) (hl : zs.length = n) (hb : Bytes w a zs) (hn : a = none → cap = 0) (h : n ≤ 1200) :
    Calls Try.prog 38 #[.slice a n cap] w fun e w' => ∃ v, e = .returned (.tuple #[v, .int .i64 0]) ∧ OwnsB w' w.heap.size v (frameL zs) ∧ Below w.heap.size w w' := by
  have hd : decide (1200 < (n : Int)) = false := by simp; omega
  have hB : Hid (Bytes w a zs) := hb
  have hL : Hid (zs.length = n) := hl
  have hx : (0 : Int) ≤ (n : Int) / 256 ∧ (n : Int) / 256 < 256 := by omega
  have hy : (0 : Int) ≤ (n : Int) % 256 ∧ (n : Int) % 256 < 256 := by omega
  have hH : Hid ([(n : Int) / 256, (n : Int) % 256] ++ zs = told zs) := by
    show _ = _
    unfold told head2
    rw [hl]
    congr 2
  clear hb hl
  go_enter Try.func38, Try.ntmps38
  go_wp2_with (first
    | (at_builtin; refine wpList_append_bytes rfl _ (.tmp 17) rfl w.heap.size (.slice (some ⟨w.heap.size, 0, none⟩) 2 2) [(n : Int) / 256, (n : Int) % 256] zs rfl (owns_two w _ _ hx hy _ (Nat.le_refl _)) a n cap rfl hL.out hn (hB.out.kept ((Below.refl _ _).alloc (Nat.le_refl _) _)) (by rw [hL.out]; simp; omega) (by simp) ?_; intro v2 w2 ho2 hg2; have hb2 := grown_below ((Below.refl w.heap.size w).alloc (Nat.le_refl _) _) (owns_two w _ _ hx hy _ (Nat.le_refl _)) hg2 (by simp); rw [hH.out] at ho2; clear hg2; obtain ⟨a2, n2, cap2, rfl, hl2, hn2, hc2, hm2, hB2⟩ := ho2.form; have hs2 := hb2.size)
    | (go_at_call 79; refine (seal_at a2 n2 cap2 (told zs) _ hl2.out (hB2.out.kept ((Below.refl _ _).alloc (Nat.le_refl _) _)) hn2.out (by have := hl2.out; simp [told, head2, hL.out] at this; omega)).mono ?_; rintro e w3 ⟨v3, rfl, ho3, hb3⟩; obtain ⟨a3, n3, cap3, rfl, hl3, hn3, hc3, hm3, hB3⟩ := ho3.form; have ho4 : OwnsB w3 w.heap.size (.slice (some ⟨w2.heap.size, 0, none⟩) 2 2) [165, 90] := (owns_two w2 165 90 (by decide) (by decide) _ hs2).below hb3; have hb4 : Below w.heap.size w w3 := (hb2.alloc hs2 _).trans (hb3.mono (by simp; omega)))
    | (at_builtin; refine wpList_append_bytes rfl _ (.tmp 21) rfl w.heap.size (.slice (some ⟨w2.heap.size, 0, none⟩) 2 2) [165, 90] (told zs ++ le4 (moreL 0 (told zs))) rfl ho4 a3 n3 cap3 rfl hl3.out hn3.out hB3.out (by have := hL.out; simp [told, head2, le4]; omega) hb4.size ?_; intro v5 w5 ho5 hg5; have hb5 := grown_below hb4 ho4 hg5 hb4.size; clear hg5))
  go_ret2
  exact ⟨_, rfl, ho5, hb5⟩

theorem refSeal_at' (a : Option Addr) (m cap : Nat) (zs : List Int) (w : World) (hm : zs.length = m) (hb : Bytes w a zs) (hn : a = none → cap = 0) (hl : m + 4 ≤ 140737488355328) :
    Calls Try.prog 80 #[.slice a m cap] w fun e w' => ∃ v, e = .returned v ∧ OwnsB w' w.heap.size v (zs ++ le4 (moreL 0 zs)) ∧ Below w.heap.size w w' := by
  subst hm
  exact refSeal_any a cap zs w hb hn hl

set_option maxHeartbeats 400000 in
theorem refEncode_many (a : Option Addr) (n cap : Nat) (w : World) (h : 1200 < n) :
    Calls Try.prog 41 #[.slice a n cap] w fun e w' => e = .returned (.tuple #[.slice none 0 0, .int .i64 8]) ∧ w' = w := by
  have hd : decide (1200 < (n : Int)) = true := by simp; omega
  go_enter Try.func41, Try.ntmps41
  go_wp2
  go_ret2
  exact ⟨rfl, rfl⟩

set_option maxHeartbeats 400000 in
theorem refEncode_ok (a : Option Addr) (n cap : Nat) (zs : List Int) (w : World) (hl : zs.length = n) (hb : Bytes w a zs) (hn : a = none → cap = 0) (h : n ≤ 1200) :
    Calls Try.prog 41 #[.slice a n cap] w fun e w' => ∃ v, e = .returned (.tuple #[v, .int .i64 0]) ∧ OwnsB w' w.heap.size v (frameL zs) ∧ Below w.heap.size w w' := by
  have hd : decide (1200 < (n : Int)) = false := by simp; omega
  have hB : Hid (Bytes w a zs) := hb
  have hL : Hid (zs.length = n) := hl
  have hx : (0 : Int) ≤ (n : Int) / 256 ∧ (n : Int) / 256 < 256 := by omega
  have hy : (0 : Int) ≤ (n : Int) % 256 ∧ (n : Int) % 256 < 256 := by omega
  have hH : Hid ([(n : Int) / 256, (n : Int) % 256] ++ zs = told zs) := by
    show _ = _
    unfold told head2
    rw [hl]
    congr 2
  clear hb hl
  go_enter Try.func41, Try.ntmps41
  go_wp2_with (first
    | (at_builtin; refine wpList_append_bytes rfl _ (.tmp 17) rfl w.heap.size (.slice (some ⟨w.heap.size, 0, none⟩) 2 2) [(n : Int) / 256, (n : Int) % 256] zs rfl (owns_two w _ _ hx hy _ (Nat.le_refl _)) a n cap rfl hL.out hn (hB.out.kept ((Below.refl _ _).alloc (Nat.le_refl _) _)) (by rw [hL.out]; simp; omega) (by simp) ?_; intro v2 w2 ho2 hg2; have hb2 := grown_below ((Below.refl w.heap.size w).alloc (Nat.le_refl _) _) (owns_two w _ _ hx hy _ (Nat.le_refl _)) hg2 (by simp); rw [hH.out] at ho2; clear hg2; obtain ⟨a2, n2, cap2, rfl, hl2, hn2, hc2, hm2, hB2⟩ := ho2.form; have hs2 := hb2.size)
    | (go_at_call 80; refine (refSeal_at' a2 n2 cap2 (told zs) _ hl2.out (hB2.out.kept ((Below.refl _ _).alloc (Nat.le_refl _) _)) hn2.out (by have := hl2.out; simp [told, head2, hL.out] at this; omega)).mono ?_; rintro e w3 ⟨v3, rfl, ho3, hb3⟩; obtain ⟨a3, n3, cap3, rfl, hl3, hn3, hc3, hm3, hB3⟩ := ho3.form; have ho4 : OwnsB w3 w.heap.size (.slice (some ⟨w2.heap.size, 0, none⟩) 2 2) [165, 90] := (owns_two w2 165 90 (by decide) (by decide) _ hs2).below hb3; have hb4 : Below w.heap.size w w3 := (hb2.alloc hs2 _).trans (hb3.mono (by simp; omega)))
    | (at_builtin; refine wpList_append_bytes rfl _ (.tmp 21) rfl w.heap.size (.slice (some ⟨w2.heap.size, 0, none⟩) 2 2) [165, 90] (told zs ++ le4 (moreL 0 (told zs))) rfl ho4 a3 n3 cap3 rfl hl3.out hn3.out hB3.out (by have := hL.out; simp [told, head2, le4]; omega) hb4.size ?_; intro v5 w5 ho5 hg5; have hb5 := grown_below hb4 ho4 hg5 hb4.size; clear hg5))
  go_ret2
  exact ⟨_, rfl, ho5, hb5⟩
end Go.Proofs.Ytfipdldoklkciaa
