/-
  Numbers of 64 bits as an argument; a token that was there does not come again.
-/
import Derived.Test.YtmohfblkfdkloaaSsm
namespace Go.Proofs.Ytmohfblkfdkloaa
open Go.RowKit
set_option linter.unusedVariables false
/-- A LIST OF NUMBERS OF 64 BITS IN MEMORY. -/
def Wds (w : World) (a : Option Addr) (zs : List Int) : Prop := (∀ c ∈ zs, 0 ≤ c ∧ c < 18446744073709551616) ∧ (zs = [] ∨ ∃ b off, a = some ⟨b, off, none⟩ ∧ b < w.heap.size ∧ ∀ i, i < zs.length → w.cell? ⟨b, off + i, none⟩ = some (.int .u64 (zs.getD i 0)))
theorem wds_of_row {w : World} {a : Option Addr} {len cap : Nat} {zs : List Int} (h : IsRow .u64 w a len cap zs) : (zs.take len).length = len ∧ Wds w a (zs.take len) := by
  rcases h with ⟨rfl, rfl, rfl, rfl⟩ | ⟨x, rfl, hl, hm, hz, hcell, hwz⟩
  · exact ⟨rfl, by simp, .inl (by simp)⟩
  · have hlen : (zs.take len).length = len := by rw [List.length_take]; omega
    refine ⟨hlen, fun c hc => wf_u64 (hwz c (List.mem_of_mem_take hc)), ?_⟩
    by_cases h0 : len = 0
    · left; subst h0; simp
    · right
      obtain ⟨b, off, spot⟩ := x
      have hc := hcell 0 (by omega)
      have hspot : spot = none := by simpa [Addr.add] using World.cell?_spot hc
      subst hspot
      refine ⟨b, off, rfl, cell_lt (by simpa [Addr.add] using hc), fun i hi => ?_⟩
      have hi' : i < len := by omega
      have := hcell i (by omega)
      rw [List.getD_eq_getElem?_getD, List.getElem?_take, if_pos hi', ← List.getD_eq_getElem?_getD]
      by_cases h1 : i = 0
      · subst h1; simpa [Addr.add] using this
      · simpa [Addr.add, h1] using this
theorem Wds.kept {w w' : World} {a : Option Addr} {zs : List Int} (h : Wds w a zs) (hb : Below w.heap.size w w') : Wds w' a zs := by
  refine ⟨h.1, ?_⟩
  rcases h.2 with h | ⟨b, off, rfl, hlt, hc⟩
  · exact .inl h
  · exact .inr ⟨b, off, rfl, Nat.lt_of_lt_of_le hlt hb.size, fun i hi => by rw [hb.cell (p := ⟨b, off + i, none⟩) hlt]; exact hc i hi⟩
theorem Wds.at {w : World} {a : Option Addr} {zs : List Int} (h : Wds w a zs) {i : Nat} (hi : i < zs.length) : ∃ b off z, a = some ⟨b, off, none⟩ ∧ w.cell? ⟨b, off + i, none⟩ = some (.int .u64 z) ∧ 0 ≤ z ∧ z < 18446744073709551616 := by
  rcases h.2 with rfl | ⟨b, off, rfl, hlt, hc⟩
  · cases hi
  · refine ⟨b, off, _, rfl, hc i hi, ?_⟩
    rw [List.getD_eq_getElem?_getD, List.getElem?_eq_getElem hi]
    exact h.1 _ (List.getElem_mem hi)
/-- The map of tokens met, as elements. -/
def mfB (U : Int → Bool) (z : Int) : Option Value := bif U z then some (.bool true) else none
theorem mf_get (U : Int → Bool) (z : Int) : (mfB U z).getD (.bool false) = .bool (U z) := by unfold mfB; cases U z <;> rfl
theorem mf_some (U : Int → Bool) (z : Int) : (mfB U z).isSome = U z := by unfold mfB; cases U z <;> rfl
theorem mfB_put (U : Int → Bool) (z : Int) : mfB (fun x => if x = z then true else U x) = put (mfB U) z (some (.bool true)) := by
  funext x
  unfold put mfB
  by_cases hx : x = z
  · simp [hx]
  · simp [hx]
theorem zero_b (w : World) : (zeroValue 4).run Try.prog w = .ok (.bool false) w := by kernel_rfl
theorem hlo_bad (t : Int) : badB (hlo t) = false := rfl
theorem gre_hlo (T : Tb) (d : Int) : greE T (hlo 0) d = begE T d ∧ greA T (hlo 0) d = begA T d 1 := by
  refine ⟨?_, ?_⟩
  · unfold greE
    rw [hlo_bad, if_neg (by decide), if_pos (show (hlo 0).t = 0 from rfl)]
  · unfold greA
    rw [hlo_bad, if_neg (by decide), if_pos (show (hlo 0).t = 0 from rfl)]
    rfl
section
variable {w0 : World} {B tb mb k : Nat} {C : Nat → Prop} {wr : World} {T : Tb}
/-- A Hello without a token, in its four ways. -/
theorem TA.hello_once (d now : Int) (h : TA w0 B C tb mb k wr T) (hk : k < 70368744177664) (hd : 0 ≤ d ∧ d < 18446744073709551616) :
    Calls Try.prog 12 #[.pointer (some ⟨tb, 0, none⟩), (hlo 0).val, .int .u64 d, .int .i64 now] wr fun e w' => ∃ (k0 t0 e0 s0 a0 b0 c0 f0 : Int) (la : Option Addr) (ln lc : Nat) (E : Int) (T' : Tb), e = .returned (.tuple #[.agg #[.int .i64 k0, .int .u64 t0, .int .i64 e0, .int .i64 s0, .int .i64 a0, .int .u64 b0, .int .i64 c0, .int .i64 f0, .slice la ln lc], .int .i64 E]) ∧
      (((d == 0) = true ∧ E = 1 ∧ T'.U = T.U ∧ T'.n = T.n) ∨ ((d == 0) = false ∧ T.U d = true ∧ E = 9 ∧ T'.U = T.U ∧ T'.n = T.n) ∨ ((d == 0) = false ∧ T.U d = false ∧ E = 14 ∧ T'.U = T.U ∧ T'.n = T.n ∧ (T'.L.length : Int) = T.most) ∨ ((d == 0) = false ∧ T.U d = false ∧ E = 0 ∧ T'.U = (fun x => if x = d then true else T.U x) ∧ T'.n = T.n + 1)) ∧ Hid (TA w0 B C tb mb (k + 1) w' T') ∧ Hid (T'.most = T.most) ∧ Hid (KS C wr w') := by
  refine (h.hello (hlo 0) d now hk hd).mono ?_
  rintro e w' ⟨rfl, h1, h2⟩
  rw [(gre_hlo _ _).2] at h1
  refine ⟨_, _, _, _, _, _, _, _, _, _, _, _, _, rfl, ?_, h1, ?_, h2⟩
  · rw [(gre_hlo _ _).1]
    by_cases h0 : d = 0
    · have e : begE (goA T now) d = 1 := by unfold begE; rw [if_pos h0]
      unfold begA
      rw [e, if_neg (by decide)]
      exact .inl ⟨by simpa using h0, rfl, rfl, rfl⟩
    · have h0' : (d == 0) = false := by simpa using h0
      right
      cases hu : T.U d with
      | true =>
        have e : begE (goA T now) d = 9 := by unfold begE; rw [if_neg h0, if_pos (show (goA T now).U d = true from hu)]
        unfold begA
        rw [e, if_neg (by decide)]
        exact .inl ⟨h0', rfl, rfl, rfl, rfl⟩
      | false =>
        right
        have hu' : ¬ ((goA T now).U d = true) := by show ¬ (T.U d = true); rw [hu]; decide
        by_cases hm : ((goA T now).L.length : Int) = (goA T now).most
        · have e : begE (goA T now) d = 14 := by unfold begE; rw [if_neg h0, if_neg hu', if_pos hm]
          unfold begA
          rw [e, if_neg (by decide)]
          exact .inl ⟨h0', rfl, rfl, rfl, rfl, hm⟩
        · have e : begE (goA T now) d = 0 := by unfold begE; rw [if_neg h0, if_neg hu', if_neg hm]
          unfold begA
          rw [e, if_pos rfl]
          exact .inr ⟨h0', rfl, rfl, rfl, rfl⟩
  · unfold begA
    split <;> rfl
theorem TA.close_once (t now : Int) (h : TA w0 B C tb mb k wr T) :
    Calls Try.prog 17 #[.pointer (some ⟨tb, 0, none⟩), .int .u64 t, .int .i64 now] wr fun e w' => ∃ (E : Int) (T' : Tb), e = .returned (.int .i64 E) ∧ Hid (TA w0 B C tb mb k w' T') ∧ T'.U = T.U ∧ T'.n = T.n ∧ Hid (T'.most = T.most) ∧ Hid (KS C wr w') := by
  refine (h.close t now).mono ?_
  rintro e w' ⟨rfl, h1, h2⟩
  exact ⟨_, _, rfl, h1, rfl, rfl, rfl, h2⟩
theorem TA.away {w' : World} {g : Nat} (h : TA w0 B C tb mb k wr T) (hg : ¬ C g) (hB : B ≤ g) (hK : KS (fun q => q = g) wr w') : TA w0 B C tb mb k w' T :=
  ⟨h.tab.imp fun v hv => hv.keep (fun q hq hc => hK.block q hq (fun e => hg (by rw [← e]; exact hc))), fun q hq => h.new q (Nat.le_trans hK.size hq), h.low, h.ok, hK.below h.bel h.le (fun q e => by rw [e]; exact hB), Nat.le_trans h.le hK.size⟩
theorem MapU.ks {zE : Value} {w w' : World} {b n : Nat} {f : Int → Option Value} {D : Nat → Prop} (h : MapU zE w b f n) (k : KS D w w') (hb : ¬ D b) : MapU zE w' b f n := h.eq (k.block b h.lt hb)
end
set_option maxRecDepth 100000 in
set_option maxHeartbeats 4000000 in
theorem wonce (a : Option Addr) (len cap : Nat) (zs : List Int) (how : Int) (w : World) (hl : zs.length = len) (hlc : len ≤ cap) (hcm : cap ≤ 17592186043904) (hA : Wds w a zs) :
    Calls Try.prog 6 #[.slice a len cap, .int .u8 how] w fun e w' => e = .returned (.bool true) ∧ Below w.heap.size w w' := by
  have hA' : Hid (Wds w a zs) := hA
  have hl' : Hid (zs.length = len) := hl
  have hr' : Hid (len ≤ 17592186043904) := by show len ≤ _; omega
  clear hA hl
  go_enter Try.func6, Try.ntmps6
  go_wp2_with fail
  refine (ta_new 64 5 w (by decide) (by decide) (by decide) (by decide)).mono ?_
  rintro e w1 ⟨rfl, hT1⟩
  generalize hB : w.heap.size = B at *
  have hBB : Hid (w.heap.size = B) := hB
  clear hB
  generalize B + 1 = tb at *
  have hmk : ∀ wx, (Instr.makeMap 57 none).run Try.prog wx = Result.ok (.map (some wx.heap.size)) (wx.alloc (.map #[] 0)) := fun wx => run_makeMap (P := Try.prog) 57 wx
  go_wp2_with (go_at_call 11; refine (alive_any w1).mono ?_; rintro e w2 ⟨rfl, hb2⟩)
  have hm2 := mapU_new (zE := .bool false) w2
  obtain ⟨C, hT3, -, hC3⟩ := (hT1.out.step hb2.out).off ((Below.refl _ _).alloc (Nat.le_refl _) (.map #[] 0))
  have hCg : ¬ C w2.heap.size := hC3 _ (Nat.le_refl _) (by simp)
  have hBg : Hid (B ≤ w2.heap.size) := (hT1.out.step hb2.out).le
  have hT3' : Hid (∃ C : Nat → Prop, TA w B C tb B 0 (w2.alloc (.map #[] 0)) (t0 64 5) ∧ ¬ C w2.heap.size) := ⟨C, hT3, hCg⟩
  have hm3 : Hid (MapU (.bool false) (w2.alloc (.map #[] 0)) w2.heap.size (mfB (t0 64 5).U) (t0 64 5).n) := hm2
  clear hT1 hb2 hT3 hCg hC3 hm2 hmk
  generalize hgm : w2.heap.size = gm at *
  clear hgm
  generalize (w2.alloc (.map #[] 0)) = w3 at *
  go_loopw [8, 9, 10, 11, 12, 13, 31] (fun _ _ _ _ _ _ s31 wr => ∃ (i : Nat) (T : Tb) (C : Nat → Prop), i ≤ len ∧ s31 = .int .i64 (i : Nat) ∧ Hid (TA w B C tb B i wr T) ∧ Hid (¬ C gm) ∧ Hid (MapU (.bool false) wr gm (mfB T.U) T.n) ∧ Hid (T.most = 64)) (fun _ _ _ _ _ _ i _ => len - (intOf i).toNat)
  case atStart =>
    obtain ⟨C, h1, h2⟩ := hT3'.out
    exact ⟨0, _, C, Nat.zero_le _, rfl, h1, h2, hm3, rfl⟩
  case round =>
    obtain ⟨i, T, C, hi, rfl, hT, hCg, hmp, hmo⟩ := hrel
    clear hT3' hm3
    by_cases hlt2 : i < len
    · have hd : decide ((i : Int) < (len : Int)) = true := by simp; omega
      obtain ⟨b, off, z, rfl, hcz, hz1, hz2⟩ := (hA'.out.kept (by rw [hBB.out]; exact hT.out.bel)).at (i := i) (by rw [hl'.out]; exact hlt2)
      have hzz : Hid (0 ≤ z ∧ z < 18446744073709551616) := ⟨hz1, hz2⟩
      have hik : Hid (i < 70368744177664) := by have := hr'.out; show i < _; omega
      have wi : IntKind.i64.wrap ((i : Int) + 1) = (i : Int) + 1 := by rw [IntKind.wrap_i64]; have := hr'.out; omega
      have hnk : Hid (T.n < 140737488351232) := by have := hT.out.ok.cnt; have := hik.out; show T.n < _; omega
      have hh : (Go.bits .and .u8 how 2 != 0) = true ∨ (Go.bits .and .u8 how 2 != 0) = false := by cases (Go.bits .and .u8 how 2 != 0) <;> simp
      clear hz1 hz2
      rcases hh with qh | qh
      all_goals (
        go_wp2_with (first
          | (go_at_call 25; refine (hello_fn _ _).mono ?_; rintro e w4 ⟨rfl, hb4⟩; have hT4 : Hid (TA w B C tb B i w4 T) := hT.out.step hb4; have mp4 : Hid (MapU (.bool false) w4 gm (mfB T.U) T.n) := hmp.out.kept hb4; clear hT hmp hb4)
          | (go_at_call 12; refine (hT4.out.hello_once z _ hik.out hzz.out).mono ?_; rintro e w5 ⟨k0, t0, e0, s0, a0, b0, c0, f0, la, ln, lc, E, T', rfl, hE, hT5, ho5, hK5⟩; have mp5 : Hid (MapU (.bool false) (w5.alloc (.cells #[.int .i64 k0, .int .u64 t0, .int .i64 e0, .int .i64 s0, .int .i64 a0, .int .u64 b0, .int .i64 c0, .int .i64 f0, .slice la ln lc] 37)) gm (mfB T.U) T.n) := (mp4.out.ks hK5.out hCg.out).kept ((Below.refl _ _).alloc (Nat.le_refl _) _); have hT6 : Hid (TA w B C tb B (i + 1) (w5.alloc (.cells #[.int .i64 k0, .int .u64 t0, .int .i64 e0, .int .i64 s0, .int .i64 a0, .int .u64 b0, .int .i64 c0, .int .i64 f0, .slice la ln lc] 37)) T') := hT5.out.step ((Below.refl _ _).alloc (Nat.le_refl _) _); have ho8 : Hid (T'.most = 64) := ho5.out.trans hmo.out; have hlk := mp5.out.look (t := 57) (e := 4) Try.underlying57 (zero_b _) hzz.out; rw [mf_get] at hlk; clear hT4 mp4 hK5 hT5; rcases hE with ⟨q0, rfl, hU, hn⟩ | ⟨q0, hu, rfl, hU, hn⟩ | ⟨q0, hu, rfl, hU, hn, hL⟩ | ⟨q0, hu, rfl, hU, hn⟩; all_goals (first | (rw [hu] at hlk; have mp8 : Hid (MapU (.bool false) (w5.alloc (.cells #[.int .i64 k0, .int .u64 t0, .int .i64 e0, .int .i64 s0, .int .i64 a0, .int .u64 b0, .int .i64 c0, .int .i64 f0, .slice la ln lc] 37)) gm (mfB T'.U) T'.n) := (by show MapU _ _ _ _ _; rw [hU, hn]; exact mp5.out); have hT8 := hT6; have kL := hT6.out.live; rw [hL, hmo.out] at kL; clear hT6 mp5 hU hn hu hL) | (rw [hu] at hlk; obtain ⟨w6, hr6, hm6, hg6⟩ := mp5.out.store (t := 57) (e := 4) Try.underlying57 hnk.out hzz.out (.bool true); have mp8 : Hid (MapU (.bool false) w6 gm (mfB T'.U) T'.n) := (by show MapU _ _ _ _ _; rw [mf_some, hu] at hm6; rw [hU, hn, mfB_put]; exact hm6); have hT8 : Hid (TA w B C tb B (i + 1) w6 T') := hT6.out.away hCg.out hBg.out (KS.of_g hg6 (fun q hq => (Option.some.inj hq).symm)); clear hT6 mp5 hU hn hu hm6 hg6) | (rw [hu] at hlk; have mp8 : Hid (MapU (.bool false) (w5.alloc (.cells #[.int .i64 k0, .int .u64 t0, .int .i64 e0, .int .i64 s0, .int .i64 a0, .int .u64 b0, .int .i64 c0, .int .i64 f0, .slice la ln lc] 37)) gm (mfB T'.U) T'.n) := (by show MapU _ _ _ _ _; rw [hU, hn]; exact mp5.out); have hT8 := hT6; clear hT6 mp5 hU hn hu) | (have mp8 : Hid (MapU (.bool false) (w5.alloc (.cells #[.int .i64 k0, .int .u64 t0, .int .i64 e0, .int .i64 s0, .int .i64 a0, .int .u64 b0, .int .i64 c0, .int .i64 f0, .slice la ln lc] 37)) gm (mfB T'.U) T'.n) := (by show MapU _ _ _ _ _; rw [hU, hn]; exact mp5.out); have hT8 := hT6; clear hT6 mp5 hU hn hlk)))
          | (go_at_call 24; refine kL.mono ?_; rintro e w7 ⟨rfl, hw7⟩; obtain rfl := hw7.symm)
          | (go_at_call 17; refine (hT8.out.close_once z _).mono ?_; rintro e w9 ⟨E9, T9, rfl, hT9, hU9, hn9, ho9, hK9⟩; have mp9 : Hid (MapU (.bool false) w9 gm (mfB T9.U) T9.n) := (by show MapU _ _ _ _ _; rw [hU9, hn9]; exact mp8.out.ks hK9.out hCg.out); have ho9' : Hid (T9.most = 64) := ho9.out.trans ho8.out; clear hK9 hT8 mp8))
        all_goals (first
          | exact ⟨⟨i + 1, _, C, by omega, by simp, hT9, hCg, mp9, ho9'⟩, by simp [intOf]; omega⟩
          | exact ⟨⟨i + 1, _, C, by omega, by simp, hT8, hCg, mp8, ho8⟩, by simp [intOf]; omega⟩))
    · have hd : decide ((i : Int) < (len : Int)) = false := by simp; omega
      go_wp2
      go_ret
      exact ⟨rfl, by rw [hBB.out]; exact hT.out.bel⟩
end Go.Proofs.Ytmohfblkfdkloaa
