/-
  Never more than most; an epoch rises by one with each Hello of its session, and by nothing else.
-/
import Derived.Test.YtmohfblkfdkloaaSsn
namespace Go.Proofs.Ytmohfblkfdkloaa
open Go.RowKit
set_option linter.unusedVariables false
/-- What a table's sessions come from, tokens and epochs. -/
def Sub (L' L : List Se) : Prop := ∀ s' ∈ L', ∃ s ∈ L, s.t = s'.t ∧ s.e = s'.e
theorem fi_one {L : List Se} (h : (L.map Se.t).Nodup) {s : Se} (hs : s ∈ L) : ∃ i, fiA L s.t = some i ∧ L[i]? = some s := by
  cases hf : fiA L s.t with
  | none => rw [fiA_none] at hf; exact absurd rfl (hf s hs)
  | some i =>
    refine ⟨i, rfl, ?_⟩
    obtain ⟨s2, h2, ht, hi⟩ := fiA_some hf
    obtain ⟨j, hj, rfl⟩ := List.getElem_of_mem hs
    have h3 : i = j := by
      have hi' : i < (L.map Se.t).length := by simpa using hi
      have hj' : j < (L.map Se.t).length := by simpa using hj
      have he : (L.map Se.t)[i] = (L.map Se.t)[j] := by
        rw [List.getElem_map, List.getElem_map]
        rw [List.getElem?_eq_getElem hi] at h2
        rw [Option.some.inj h2]
        exact ht
      have hp := List.pairwise_iff_getElem.1 h
      rcases Nat.lt_trichotomy i j with h4 | h4 | h4
      · exact absurd he (hp i j hi' hj' h4)
      · exact h4
      · exact absurd he.symm (hp j i hj' hi' h4)
    rw [h3]
    exact List.getElem?_eq_getElem hj
theorem sub_find {L' L : List Se} (h : Sub L' L) (hn : (L.map Se.t).Nodup) {t p1 p2 : Int} {p3 : Bool} (hp : findA L t = (p1, p2, p3)) : (findA L' t).2.2 = false ∨ ((findA L' t).2.2 = true ∧ p3 = true ∧ (findA L' t).1 = p1) := by
  cases hf : fiA L' t with
  | none => left; rw [findA_none hf]
  | some i =>
    right
    obtain ⟨s', hs', ht', -⟩ := fiA_some hf
    obtain ⟨s, hs, h1, h2⟩ := h s' (List.mem_of_getElem? hs')
    obtain ⟨j, hj, hj2⟩ := fi_one hn hs
    rw [show s.t = t from h1.trans ht'] at hj
    rw [findA_some hj hj2] at hp
    rw [findA_some hf hs']
    cases hp
    exact ⟨rfl, rfl, h2.symm⟩
theorem sub_go (T : Tb) (now : Int) : Sub (goA T now).L T.L := fun s hs => ⟨s, (List.mem_filter.1 hs).1, rfl, rfl⟩
theorem sub_rem (T : Tb) (t : Int) : Sub (remA T t).L T.L := fun s hs => ⟨s, (List.mem_filter.1 hs).1, rfl, rfl⟩
theorem sub_refl (L : List Se) : Sub L L := fun s hs => ⟨s, hs, rfl, rfl⟩
theorem Sub.trans {A B C : List Se} (h : Sub A B) (k : Sub B C) : Sub A C := fun s hs => by
  obtain ⟨s1, h1, h2, h3⟩ := h s hs
  obtain ⟨s2, h4, h5, h6⟩ := k s1 h1
  exact ⟨s2, h4, h5.trans h2, h6.trans h3⟩
theorem sub_hea (T : Tb) (m : Mg) : Sub (heaA T m).L T.L := by
  unfold heaA
  split
  · exact sub_refl _
  · rename_i i hi
    split
    · exact sub_refl _
    · split
      · exact sub_refl _
      · split
        · exact sub_rem _ _
        · obtain ⟨s, hs, -, -⟩ := fiA_some hi
          rw [List.getD_eq_getElem?_getD, hs]
          intro x hx
          rcases List.mem_or_eq_of_mem_set hx with hx | rfl
          · exact ⟨x, hx, rfl, rfl⟩
          · exact ⟨s, List.mem_of_getElem? hs, rfl, rfl⟩
theorem go_most (T : Tb) (now : Int) : (goA T now).most = T.most := rfl
theorem hea_most (T : Tb) (m : Mg) : (heaA T m).most = T.most := by
  unfold heaA
  split
  · rfl
  · split
    · rfl
    · split
      · rfl
      · split <;> rfl
theorem gre_most (T : Tb) (m : Mg) (d : Int) : (greA T m d).most = T.most := by
  unfold greA
  split
  · rfl
  · split
    · unfold begA; split <;> rfl
    · split <;> rfl
/-- What a Hello tells of its session's epoch. -/
theorem hel_epoch {k : Nat} {T : Tb} (hO : Ok k T) {m : Mg} {d now p1 p2 : Int} {p3 : Bool} (hp : findA T.L m.t = (p1, p2, p3)) :
    (greE (goA T now) m d ≠ 0 ∧ (helM (goA T now) m d).k = 5) ∨ (greE (goA T now) m d = 0 ∧ (helM (goA T now) m d).k = 4 ∧ m.t = 0 ∧ (helM (goA T now) m d).e = 1) ∨ (greE (goA T now) m d = 0 ∧ (helM (goA T now) m d).k = 4 ∧ m.t ≠ 0 ∧ (helM (goA T now) m d).e = p1 + 1 ∧ p1 ≤ (k : Int)) := by
  by_cases hE : greE (goA T now) m d = 0
  · right
    have h1 : (helM (goA T now) m d).k = 4 ∧ (helM (goA T now) m d).e = (greS (goA T now) m d).e := by unfold helM; rw [if_pos hE]; exact ⟨rfl, rfl⟩
    rw [h1.1, h1.2]
    have hE' := hE
    unfold greE at hE
    unfold greS
    split at hE
    · omega
    · rename_i hb
      rw [if_neg hb]
      by_cases ht : m.t = 0
      · rw [if_pos ht] at hE
        rw [if_pos ht]
        left
        refine ⟨hE', rfl, ht, ?_⟩
        unfold begS
        rw [if_pos hE]
      · rw [if_neg ht] at hE
        rw [if_neg ht]
        right
        cases hf : fiA (goA T now).L m.t with
        | none => rw [hf] at hE; simp at hE
        | some i =>
          obtain ⟨s, hs, hst, -⟩ := fiA_some hf
          obtain ⟨s0, h0, h2, h3⟩ := sub_go T now s (List.mem_of_getElem? hs)
          obtain ⟨j, hj, hj2⟩ := fi_one hO.one h0
          rw [show s0.t = m.t from h2.trans hst] at hj
          rw [findA_some hj hj2] at hp
          cases hp
          refine ⟨hE', rfl, ht, ?_, (hO.ent s0 h0).2.2.2.1⟩
          show (bumpS (goA T now) m ((goA T now).L.getD i zS)).e = s0.e + 1
          rw [List.getD_eq_getElem?_getD, hs, h3]
          rfl
  · left
    refine ⟨hE, ?_⟩
    unfold helM
    rw [if_neg hE]
section
variable {w0 : World} {B tb mb k : Nat} {C : Nat → Prop} {wr : World} {T : Tb}
def MC (m : Mg) : Array Value := #[.int .i64 m.k, .int .u64 m.t, .int .i64 m.e, .int .i64 m.s, .int .i64 m.a, .int .u64 m.b, .int .i64 m.c, .int .i64 m.f, .slice m.la m.ln m.lc]
theorem TA.find1 (t : Int) (h : TA w0 B C tb mb k wr T) : Calls Try.prog 22 #[.pointer (some ⟨tb, 0, none⟩), .int .u64 t] wr fun e w' => ∃ (p1 p2 : Int) (p3 : Bool), e = .returned (.tuple #[.int .i64 p1, .int .i64 p2, .bool p3]) ∧ Hid (findA T.L t = (p1, p2, p3)) ∧ Hid (TA w0 B C tb mb k w' T) ∧ Hid (Below wr.heap.size wr w') := by
  refine (h.find t).mono ?_
  rintro e w' ⟨rfl, h1, h2⟩
  exact ⟨_, _, _, rfl, rfl, h1, h2⟩
theorem TA.find2 {L0 : List Se} {p1 p2 : Int} {p3 : Bool} (t : Int) (h : TA w0 B C tb mb k wr T) (hs : Sub T.L L0) (hn : (L0.map Se.t).Nodup) (hp : findA L0 t = (p1, p2, p3)) : Calls Try.prog 22 #[.pointer (some ⟨tb, 0, none⟩), .int .u64 t] wr fun e w' => ∃ (q1 q2 : Int) (q3 : Bool), e = .returned (.tuple #[.int .i64 q1, .int .i64 q2, .bool q3]) ∧ (q3 = false ∨ (q3 = true ∧ p3 = true ∧ q1 = p1)) ∧ Hid (TA w0 B C tb mb k w' T) ∧ Hid (Below wr.heap.size wr w') := by
  refine (h.find t).mono ?_
  rintro e w' ⟨rfl, h1, h2⟩
  exact ⟨_, _, _, rfl, sub_find hs hn hp, h1, h2⟩
theorem TA.hello_bounds {p1 p2 : Int} {p3 : Bool} (m : Mg) (d now : Int) (h : TA w0 B C tb mb k wr T) (hk : k < 70368744177664) (hd : 0 ≤ d ∧ d < 18446744073709551616) (hp : findA T.L m.t = (p1, p2, p3)) :
    Calls Try.prog 12 #[.pointer (some ⟨tb, 0, none⟩), m.val, .int .u64 d, .int .i64 now] wr fun e w' => ∃ (k0 t0 e0 s0 a0 b0 c0 f0 : Int) (la : Option Addr) (ln lc : Nat) (E : Int), e = .returned (.tuple #[.agg #[.int .i64 k0, .int .u64 t0, .int .i64 e0, .int .i64 s0, .int .i64 a0, .int .u64 b0, .int .i64 c0, .int .i64 f0, .slice la ln lc], .int .i64 E]) ∧
      (((E == 0) = false ∧ (E != 0) = true ∧ k0 = 5) ∨ (E = 0 ∧ k0 = 4 ∧ m.t = 0 ∧ e0 = 1) ∨ (E = 0 ∧ k0 = 4 ∧ (m.t == 0) = false ∧ (m.t != 0) = true ∧ e0 = p1 + 1 ∧ IntKind.i64.wrap (p1 + 1) = p1 + 1)) ∧ ∃ T', Hid (TA w0 B C tb mb (k + 1) w' T') ∧ Hid (T'.most = T.most) ∧ Hid (KS C wr w') := by
  have hep := hel_epoch h.ok (m := m) (d := d) (now := now) hp
  have hlow : 0 ≤ p1 := by
    cases hf : fiA T.L m.t with
    | none => rw [findA_none hf] at hp; cases hp; omega
    | some i =>
      obtain ⟨s, hs, -, -⟩ := fiA_some hf
      rw [findA_some hf hs] at hp
      cases hp
      have := (h.ok.ent s (List.mem_of_getElem? hs)).2.2.1
      omega
  refine (h.hello m d now hk hd).mono ?_
  rintro e w' ⟨rfl, h1, h2⟩
  refine ⟨_, _, _, _, _, _, _, _, _, _, _, _, rfl, ?_, _, h1, gre_most _ _ _, h2⟩
  rcases hep with ⟨a, b⟩ | ⟨a, b, c, d⟩ | ⟨a, b, c, d, f⟩
  · exact .inl ⟨by simpa using a, by simpa using a, b⟩
  · exact .inr (.inl ⟨a, b, c, d⟩)
  · exact .inr (.inr ⟨a, b, by simpa using c, by simpa using c, d, by rw [IntKind.wrap_i64]; omega⟩)
theorem TA.hear_sub (m : Mg) (now : Int) (h : TA w0 B C tb mb k wr T) :
    Calls Try.prog 15 #[.pointer (some ⟨tb, 0, none⟩), m.val, .int .i64 now] wr fun e w' => ∃ (E : Int) (T' : Tb), e = .returned (.int .i64 E) ∧ Hid (TA w0 B C tb mb (k + 1) w' T') ∧ Hid (Sub T'.L T.L) ∧ Hid (T'.most = T.most) ∧ Hid (KS C wr w') := by
  refine (h.hear m now).mono ?_
  rintro e w' ⟨rfl, h1, h2⟩
  exact ⟨_, _, rfl, ⟨h1.out.tab, h1.out.new, h1.out.low, h1.out.ok.mono (by omega), h1.out.bel, h1.out.le⟩, (sub_hea _ _).trans (sub_go _ _), hea_most _ _, h2⟩
theorem TA.close_sub (t now : Int) (h : TA w0 B C tb mb k wr T) :
    Calls Try.prog 17 #[.pointer (some ⟨tb, 0, none⟩), .int .u64 t, .int .i64 now] wr fun e w' => ∃ (E : Int) (T' : Tb), e = .returned (.int .i64 E) ∧ Hid (TA w0 B C tb mb (k + 1) w' T') ∧ Hid (Sub T'.L T.L) ∧ Hid (T'.most = T.most) ∧ Hid (KS C wr w') := by
  refine (h.close t now).mono ?_
  rintro e w' ⟨rfl, h1, h2⟩
  exact ⟨_, _, rfl, ⟨h1.out.tab, h1.out.new, h1.out.low, h1.out.ok.mono (by omega), h1.out.bel, h1.out.le⟩, (sub_rem _ _).trans (sub_go _ _), rfl, h2⟩
theorem TA.tick_sub (now : Int) (h : TA w0 B C tb mb k wr T) :
    Calls Try.prog 20 #[.pointer (some ⟨tb, 0, none⟩), .int .i64 now] wr fun e w' => ∃ (v : Value) (T' : Tb), e = .returned v ∧ Hid (TA w0 B C tb mb (k + 1) w' T') ∧ Hid (Sub T'.L T.L) ∧ Hid (T'.most = T.most) ∧ Hid (KS C wr w') := by
  refine (h.tick now).mono ?_
  rintro e w' ⟨v1, rfl, -, h1, h2⟩
  exact ⟨_, _, rfl, ⟨h1.out.tab, h1.out.new, h1.out.low, h1.out.ok.mono (by omega), h1.out.bel, h1.out.le⟩, sub_go _ _, rfl, h2⟩
end
set_option maxRecDepth 100000 in
set_option maxHeartbeats 4000000 in
theorem wbounds (most idle : Int) (a : Option Addr) (len cap : Nat) (L : List Ac) (w : World) (hA : AcArg w a len cap L) (hr : len ≤ 2199023255552) :
    Calls Try.prog 4 #[.int .i64 most, .int .i64 idle, .slice a len cap] w fun e w' => e = .returned (.bool true) ∧ Below w.heap.size w w' := by
  by_cases hw : 1 ≤ most ∧ most ≤ 64 ∧ 1 ≤ idle ∧ idle ≤ 1048576
  · obtain ⟨hlen, hlc, hcm, hnil, hAc⟩ := hA
    have hAc' : Hid (Acs w a L) := hAc
    have hlen' : Hid (L.length = len) := hlen
    have hr' : Hid (len ≤ 2199023255552) := hr
    have hw' : Hid (1 ≤ most ∧ most ≤ 64 ∧ 1 ≤ idle ∧ idle ≤ 1048576) := hw
    clear hAc hlen hr hw
    go_enter Try.func4, Try.ntmps4
    go_wp2_with fail
    refine (ta_new most idle w hw'.out.1 hw'.out.2.1 hw'.out.2.2.1 hw'.out.2.2.2).mono ?_
    rintro e w1 ⟨rfl, hT1⟩
    generalize hB : w.heap.size = B at *
    have hBB : Hid (w.heap.size = B) := hB
    clear hB
    generalize B + 1 = tb at *
    go_wp2_with (go_at_call 11; refine (alive_any w1).mono ?_; rintro e w2 ⟨rfl, hb2⟩)
    have hT2 : Hid (TA w B (fun q => B ≤ q) tb B 0 w2 (t0 most idle)) := hT1.out.step hb2.out
    clear hT1 hb2
    go_loopw [10, 11, 12, 13, 14, 15, 16, 17, 18, 38] (fun _ _ _ _ _ _ _ _ _ s38 wr => ∃ (i : Nat) (T : Tb) (C : Nat → Prop), i ≤ len ∧ s38 = .int .i64 (i : Nat) ∧ Hid (TA w B C tb B i wr T) ∧ Hid (T.most = most)) (fun _ _ _ _ _ _ _ _ _ i _ => len - (intOf i).toNat)
    case atStart => exact ⟨0, _, _, Nat.zero_le _, rfl, hT2, rfl⟩
    case round =>
      obtain ⟨i, T, C, hi, rfl, hT, hmo⟩ := hrel
      clear hT2
      by_cases hlt2 : i < len
      · have hd : decide ((i : Int) < (len : Int)) = true := by simp; omega
        obtain ⟨x, hx⟩ : ∃ x, L[i]? = some x := ⟨L[i]'(by rw [hlen'.out]; exact hlt2), List.getElem?_eq_getElem _⟩
        obtain ⟨b, off, rfl, hbl, hc, hV⟩ := acs_at (hAc'.out.kept (by rw [hBB.out]; exact hT.out.bel)) hx
        have d0 : wr.cell? ⟨b, off + i * 12, none⟩ = some (.int .i64 x.kind) := hc 0 (by decide)
        have d1 : wr.cell? ⟨b, off + i * 12 + 1, none⟩ = some (.int .i64 x.now) := hc 1 (by decide)
        have d2 : wr.cell? ⟨b, off + i * 12 + 2, none⟩ = some (.int .i64 x.m.k) := hc 2 (by decide)
        have d3 : wr.cell? ⟨b, off + i * 12 + 3, none⟩ = some (.int .u64 x.m.t) := hc 3 (by decide)
        have d4 : wr.cell? ⟨b, off + i * 12 + 4, none⟩ = some (.int .i64 x.m.e) := hc 4 (by decide)
        have d5 : wr.cell? ⟨b, off + i * 12 + 5, none⟩ = some (.int .i64 x.m.s) := hc 5 (by decide)
        have d6 : wr.cell? ⟨b, off + i * 12 + 6, none⟩ = some (.int .i64 x.m.a) := hc 6 (by decide)
        have d7 : wr.cell? ⟨b, off + i * 12 + 7, none⟩ = some (.int .u64 x.m.b) := hc 7 (by decide)
        have d8 : wr.cell? ⟨b, off + i * 12 + 8, none⟩ = some (.int .i64 x.m.c) := hc 8 (by decide)
        have d9 : wr.cell? ⟨b, off + i * 12 + 9, none⟩ = some (.int .i64 x.m.f) := hc 9 (by decide)
        have d10 : wr.cell? ⟨b, off + i * 12 + 10, none⟩ = some (.slice x.m.la x.m.ln x.m.lc) := hc 10 (by decide)
        have d11 : wr.cell? ⟨b, off + i * 12 + 11, none⟩ = some (.int .u64 x.d) := hc 11 (by decide)
        have hV' : Hid (AcV x) := hV
        obtain ⟨D, hTa, hDC, hDn⟩ := hT.out.off ((Below.refl _ _).alloc (Nat.le_refl _) (.cells #[.int .i64 x.kind, .int .i64 x.now, .int .i64 x.m.k, .int .u64 x.m.t, .int .i64 x.m.e, .int .i64 x.m.s, .int .i64 x.m.a, .int .u64 x.m.b, .int .i64 x.m.c, .int .i64 x.m.f, .slice x.m.la x.m.ln x.m.lc, .int .u64 x.d] 39))
        have hTa' : Hid (TA w B D tb B i (wr.alloc (.cells #[.int .i64 x.kind, .int .i64 x.now, .int .i64 x.m.k, .int .u64 x.m.t, .int .i64 x.m.e, .int .i64 x.m.s, .int .i64 x.m.a, .int .u64 x.m.b, .int .i64 x.m.c, .int .i64 x.m.f, .slice x.m.la x.m.ln x.m.lc, .int .u64 x.d] 39)) T) := hTa
        have hDg : Hid (¬ D wr.heap.size) := hDn _ (Nat.le_refl _) (by simp)
        have hga : Hid (Blk (wr.alloc (.cells #[.int .i64 x.kind, .int .i64 x.now, .int .i64 x.m.k, .int .u64 x.m.t, .int .i64 x.m.e, .int .i64 x.m.s, .int .i64 x.m.a, .int .u64 x.m.b, .int .i64 x.m.c, .int .i64 x.m.f, .slice x.m.la x.m.ln x.m.lc, .int .u64 x.d] 39)) wr.heap.size #[.int .i64 x.kind, .int .i64 x.now, .int .i64 x.m.k, .int .u64 x.m.t, .int .i64 x.m.e, .int .i64 x.m.s, .int .i64 x.m.a, .int .u64 x.m.b, .int .i64 x.m.c, .int .i64 x.m.f, .slice x.m.la x.m.ln x.m.lc, .int .u64 x.d] 39) := blk_new wr _ _
        have hone : Hid ((T.L.map Se.t).Nodup) := hT.out.ok.one
        have hik : Hid (i < 70368744177664) := by have := hr'.out; show i < _; omega
        have wi : IntKind.i64.wrap ((i : Int) + 1) = (i : Int) + 1 := by rw [IntKind.wrap_i64]; have := hr'.out; omega
        clear hc hV hx hbl hTa hDC hDn hT
        have c3 : (wr.alloc (.cells #[.int .i64 x.kind, .int .i64 x.now, .int .i64 x.m.k, .int .u64 x.m.t, .int .i64 x.m.e, .int .i64 x.m.s, .int .i64 x.m.a, .int .u64 x.m.b, .int .i64 x.m.c, .int .i64 x.m.f, .slice x.m.la x.m.ln x.m.lc, .int .u64 x.d] 39)).cell? ⟨wr.heap.size, 3, none⟩ = some (.int .u64 x.m.t) := hga.out.cell 3
        have hkd : ((Go.bits .and .i64 x.kind 3 == 0) = true ∧ (Go.bits .and .i64 x.kind 3 != 0) = false) ∨ ((Go.bits .and .i64 x.kind 3 == 0) = false ∧ (Go.bits .and .i64 x.kind 3 != 0) = true ∧ ((Go.bits .and .i64 x.kind 3 == 1) = true ∨ ((Go.bits .and .i64 x.kind 3 == 1) = false ∧ ((Go.bits .and .i64 x.kind 3 == 2) = true ∨ ((Go.bits .and .i64 x.kind 3 == 2) = false ∧ ((Go.bits .and .i64 x.kind 3 == 3) = true ∨ (Go.bits .and .i64 x.kind 3 == 3) = false)))))) := by
          unfold bne
          cases (Go.bits .and .i64 x.kind 3 == 0) <;> cases (Go.bits .and .i64 x.kind 3 == 1) <;> cases (Go.bits .and .i64 x.kind 3 == 2) <;> cases (Go.bits .and .i64 x.kind 3 == 3) <;> simp
        rcases hkd with ⟨q0, qn⟩ | ⟨q0, qn, q1 | ⟨q1, q2 | ⟨q2, q3 | q3⟩⟩⟩
        all_goals (
          go_wp2_with (first
            | (go_at_call 22; refine (hTa'.out.find1 x.m.t).mono ?_; rintro e w3 ⟨p1, p2, p3, rfl, hp, hT3, hb3⟩; have hg3 : Hid (Blk w3 wr.heap.size #[.int .i64 x.kind, .int .i64 x.now, .int .i64 x.m.k, .int .u64 x.m.t, .int .i64 x.m.e, .int .i64 x.m.s, .int .i64 x.m.a, .int .u64 x.m.b, .int .i64 x.m.c, .int .i64 x.m.f, .slice x.m.la x.m.ln x.m.lc, .int .u64 x.d] 39) := hga.out.kept hb3.out; clear hTa' hga hb3 c3; have e30 : w3.cell? ⟨wr.heap.size, 0, none⟩ = some (.int .i64 x.kind) := hg3.out.cell 0; have e31 : w3.cell? ⟨wr.heap.size, 1, none⟩ = some (.int .i64 x.now) := hg3.out.cell 1; have e32 : w3.cell? ⟨wr.heap.size, 2, none⟩ = some (.int .i64 x.m.k) := hg3.out.cell 2; have e33 : w3.cell? ⟨wr.heap.size, 3, none⟩ = some (.int .u64 x.m.t) := hg3.out.cell 3; have e34 : w3.cell? ⟨wr.heap.size, 4, none⟩ = some (.int .i64 x.m.e) := hg3.out.cell 4; have e35 : w3.cell? ⟨wr.heap.size, 5, none⟩ = some (.int .i64 x.m.s) := hg3.out.cell 5; have e36 : w3.cell? ⟨wr.heap.size, 6, none⟩ = some (.int .i64 x.m.a) := hg3.out.cell 6; have e37 : w3.cell? ⟨wr.heap.size, 7, none⟩ = some (.int .u64 x.m.b) := hg3.out.cell 7; have e38 : w3.cell? ⟨wr.heap.size, 8, none⟩ = some (.int .i64 x.m.c) := hg3.out.cell 8; have e39 : w3.cell? ⟨wr.heap.size, 9, none⟩ = some (.int .i64 x.m.f) := hg3.out.cell 9; have e310 : w3.cell? ⟨wr.heap.size, 10, none⟩ = some (.slice x.m.la x.m.ln x.m.lc) := hg3.out.cell 10; have e311 : w3.cell? ⟨wr.heap.size, 11, none⟩ = some (.int .u64 x.d) := hg3.out.cell 11)
            | (go_at_call 12; refine (hT3.out.hello_bounds x.m x.d x.now hik.out hV'.out.1 hp.out).mono ?_; rintro e w4 ⟨k0, t0, e0, s0, a0, b0, c0, f0, la, ln, lc, E, rfl, hE, T', hT4, hm4, hK4⟩; have hm6 : Hid (T'.most = most) := hm4.out.trans hmo.out; have hg4 : Hid (Blk w4 wr.heap.size #[.int .i64 x.kind, .int .i64 x.now, .int .i64 x.m.k, .int .u64 x.m.t, .int .i64 x.m.e, .int .i64 x.m.s, .int .i64 x.m.a, .int .u64 x.m.b, .int .i64 x.m.c, .int .i64 x.m.f, .slice x.m.la x.m.ln x.m.lc, .int .u64 x.d] 39) := hg3.out.ks hK4.out hDg.out; have e40 : ∀ o, (w4.alloc o).cell? ⟨wr.heap.size, 0, none⟩ = some (.int .i64 x.kind) := fun o => (hg4.out.kept ((Below.refl _ _).alloc (Nat.le_refl _) o)).cell 0; have e43 : ∀ o, (w4.alloc o).cell? ⟨wr.heap.size, 3, none⟩ = some (.int .u64 x.m.t) := fun o => (hg4.out.kept ((Below.refl _ _).alloc (Nat.le_refl _) o)).cell 3; clear hT3 hg3 hK4 e30 e31 e32 e33 e34 e35 e36 e37 e38 e39 e310 e311; rcases hE with ⟨r0, r1, rfl⟩ | ⟨rfl, rfl, r2, rfl⟩ | ⟨rfl, rfl, r2, r3, rfl, r4⟩)
            | (go_at_call 15; refine (hT3.out.hear_sub x.m x.now).mono ?_; rintro e w4 ⟨E, T', rfl, hT4, hs4, hm4, hK4⟩; have hm6 : Hid (T'.most = most) := hm4.out.trans hmo.out; have hg4 : Hid (Blk w4 wr.heap.size #[.int .i64 x.kind, .int .i64 x.now, .int .i64 x.m.k, .int .u64 x.m.t, .int .i64 x.m.e, .int .i64 x.m.s, .int .i64 x.m.a, .int .u64 x.m.b, .int .i64 x.m.c, .int .i64 x.m.f, .slice x.m.la x.m.ln x.m.lc, .int .u64 x.d] 39) := hg3.out.ks hK4.out hDg.out; have e43 : w4.cell? ⟨wr.heap.size, 3, none⟩ = some (.int .u64 x.m.t) := hg4.out.cell 3; clear hT3 hg3 hK4 e30 e31 e32 e33 e34 e35 e36 e37 e38 e39 e310 e311)
            | (go_at_call 17; refine (hT3.out.close_sub x.d x.now).mono ?_; rintro e w4 ⟨E, T', rfl, hT4, hs4, hm4, hK4⟩; have hm6 : Hid (T'.most = most) := hm4.out.trans hmo.out; have hg4 : Hid (Blk w4 wr.heap.size #[.int .i64 x.kind, .int .i64 x.now, .int .i64 x.m.k, .int .u64 x.m.t, .int .i64 x.m.e, .int .i64 x.m.s, .int .i64 x.m.a, .int .u64 x.m.b, .int .i64 x.m.c, .int .i64 x.m.f, .slice x.m.la x.m.ln x.m.lc, .int .u64 x.d] 39) := hg3.out.ks hK4.out hDg.out; have e43 : w4.cell? ⟨wr.heap.size, 3, none⟩ = some (.int .u64 x.m.t) := hg4.out.cell 3; clear hT3 hg3 hK4 e30 e31 e32 e33 e34 e35 e36 e37 e38 e39 e310 e311)
            | (go_at_call 20; refine (hT3.out.tick_sub x.now).mono ?_; rintro e w4 ⟨v4, T', rfl, hT4, hs4, hm4, hK4⟩; have hm6 : Hid (T'.most = most) := hm4.out.trans hmo.out; have hg4 : Hid (Blk w4 wr.heap.size #[.int .i64 x.kind, .int .i64 x.now, .int .i64 x.m.k, .int .u64 x.m.t, .int .i64 x.m.e, .int .i64 x.m.s, .int .i64 x.m.a, .int .u64 x.m.b, .int .i64 x.m.c, .int .i64 x.m.f, .slice x.m.la x.m.ln x.m.lc, .int .u64 x.d] 39) := hg3.out.ks hK4.out hDg.out; have e43 : w4.cell? ⟨wr.heap.size, 3, none⟩ = some (.int .u64 x.m.t) := hg4.out.cell 3; clear hT3 hg3 hK4 e30 e31 e32 e33 e34 e35 e36 e37 e38 e39 e310 e311)
            | (go_at_call 22; refine (hT4.out.find2 x.m.t hs4.out hone.out hp.out).mono ?_; rintro e w6 ⟨z1, z2, z3, rfl, hz, hT6, hb6⟩; have hg6 : Hid (Blk w6 wr.heap.size #[.int .i64 x.kind, .int .i64 x.now, .int .i64 x.m.k, .int .u64 x.m.t, .int .i64 x.m.e, .int .i64 x.m.s, .int .i64 x.m.a, .int .u64 x.m.b, .int .i64 x.m.c, .int .i64 x.m.f, .slice x.m.la x.m.ln x.m.lc, .int .u64 x.d] 39) := hg4.out.kept hb6.out; have e60 : w6.cell? ⟨wr.heap.size, 0, none⟩ = some (.int .i64 x.kind) := hg6.out.cell 0; clear hT4 hg4 hb6 e43; rcases hz with rfl | ⟨rfl, rfl, rfl⟩)
            | (go_at_call 22; refine ((hT4.out.step ((Below.refl _ _).alloc (Nat.le_refl _) _)).find1 _).mono ?_; rintro e w6 ⟨z1, z2, z3, rfl, hz, hT6, hb6⟩; have hg6 : Hid (Blk w6 wr.heap.size #[.int .i64 x.kind, .int .i64 x.now, .int .i64 x.m.k, .int .u64 x.m.t, .int .i64 x.m.e, .int .i64 x.m.s, .int .i64 x.m.a, .int .u64 x.m.b, .int .i64 x.m.c, .int .i64 x.m.f, .slice x.m.la x.m.ln x.m.lc, .int .u64 x.d] 39) := (hg4.out.kept ((Below.refl _ _).alloc (Nat.le_refl _) _)).kept hb6.out; have e60 : w6.cell? ⟨wr.heap.size, 0, none⟩ = some (.int .i64 x.kind) := hg6.out.cell 0; clear hT4 hg4 hb6 e40 e43)
            | (go_at_call 22; refine (hT3.out.find2 x.m.t (sub_refl _) hone.out hp.out).mono ?_; rintro e w6 ⟨z1, z2, z3, rfl, hz, hT6, hb6⟩; have hg6 : Hid (Blk w6 wr.heap.size #[.int .i64 x.kind, .int .i64 x.now, .int .i64 x.m.k, .int .u64 x.m.t, .int .i64 x.m.e, .int .i64 x.m.s, .int .i64 x.m.a, .int .u64 x.m.b, .int .i64 x.m.c, .int .i64 x.m.f, .slice x.m.la x.m.ln x.m.lc, .int .u64 x.d] 39) := hg3.out.kept hb6.out; have e60 : w6.cell? ⟨wr.heap.size, 0, none⟩ = some (.int .i64 x.kind) := hg6.out.cell 0; have hm6 : Hid (T.most = most) := hmo.out; clear hT3 hg3 hb6 e30 e31 e32 e33 e34 e35 e36 e37 e38 e39 e310 e311; rcases hz with rfl | ⟨rfl, rfl, rfl⟩)
            | (go_at_call 24; refine (hT6.out.live).mono ?_; rintro e w7 ⟨rfl, hw7⟩; obtain rfl := hw7.symm; have l2 := hT6.out.ok.few; rw [hm6.out] at l2)
            | fail)
          all_goals (first
            | exact ⟨⟨i + 1, _, D, by omega, by simp, hT6, hm6⟩, by simp [intOf]; omega⟩
            | exact ⟨⟨i + 1, _, D, by omega, by simp, ⟨hT6.out.tab, hT6.out.new, hT6.out.low, hT6.out.ok.mono (by omega), hT6.out.bel, hT6.out.le⟩, hm6⟩, by simp [intOf]; omega⟩))
      · have hd : decide ((i : Int) < (len : Int)) = false := by simp; omega
        go_wp2
        go_ret
        exact ⟨rfl, by rw [hBB.out]; exact hT.out.bel⟩
  · have hno : most < 1 ∨ 64 < most ∨ idle < 1 ∨ 1048576 < idle := by omega
    clear hA hw
    go_enter Try.func4, Try.ntmps4
    go_wp2_with fail
    refine (new_no most idle w hno).mono ?_
    rintro e w1 ⟨rfl, hw1⟩
    obtain rfl := hw1.symm
    go_wp2_with (go_at_call 11; refine (alive_any w).mono ?_; rintro e w2 ⟨rfl, hb2⟩)
    go_ret
    exact ⟨rfl, hb2.out⟩
end Go.Proofs.Ytmohfblkfdkloaa
