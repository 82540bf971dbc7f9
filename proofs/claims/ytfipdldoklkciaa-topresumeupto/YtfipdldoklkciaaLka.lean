/-
  Messages, and how bytes tell them, as plain data.
-/
import Derived.Test.YtfipdldoklkciaaGaa
import Derived.Test.YtfipdldoklkciaaGad
import Derived.Test.YtfipdldoklkciaaGae
namespace Go.Proofs.Ytfipdldoklkciaa
open Go.RowKit
set_option linter.unusedVariables false

/-- A message. -/
structure Mg where
  kind : Int
  tok : Int
  ep : Int
  seq : Int
  ack : Int
  bits : Int
  cred : Int
  fmt : Int
  zs : List Int
def fromB (a n b : Int) : Bool := decide (a ≤ n) && decide (n ≤ b)
theorem fromB_iff {a n b : Int} : fromB a n b = true ↔ a ≤ n ∧ n ≤ b := by simp [fromB]
/-- MAY IT BE TOLD? -/
def mayM (m : Mg) : Bool := fromB 1 m.kind 7 && fromB 0 m.fmt 2 && fromB 0 m.ep 4611686018427387904 && fromB 0 m.seq 4611686018427387904 && fromB 0 m.ack 4611686018427387904 && fromB 0 m.cred 4611686018427387904
theorem mayM_iff {m : Mg} : mayM m = true ↔ (1 ≤ m.kind ∧ m.kind ≤ 7) ∧ (0 ≤ m.fmt ∧ m.fmt ≤ 2) ∧ (0 ≤ m.ep ∧ m.ep ≤ 4611686018427387904) ∧ (0 ≤ m.seq ∧ m.seq ≤ 4611686018427387904) ∧ (0 ≤ m.ack ∧ m.ack ≤ 4611686018427387904) ∧ (0 ≤ m.cred ∧ m.cred ≤ 4611686018427387904) := by
  simp [mayM, fromB, and_assoc]
/-- Its words are words, its bytes are bytes. -/
structure Mok (m : Mg) : Prop where
  t1 : 0 ≤ m.tok
  t2 : m.tok < 18446744073709551616
  b1 : 0 ≤ m.bits
  b2 : m.bits < 18446744073709551616
  by_ : ∀ c ∈ m.zs, 0 ≤ c ∧ c < 256
def nums (m : Mg) : List Nat := [m.kind.toNat, m.tok.toNat, m.ep.toNat, m.seq.toNat, m.ack.toNat, m.bits.toNat, m.cred.toNat, m.fmt.toNat]
/-- The short numbers of the first k. -/
def hdrK (l : List Nat) (k : Nat) : List Int := ((l.take k).map shortL).flatten
def hdr (m : Mg) : List Int := hdrK (nums m) 8
theorem hdrK_zero (l : List Nat) : hdrK l 0 = [] := rfl
theorem hdrK_succ (l : List Nat) {k : Nat} (h : k < l.length) : hdrK l (k + 1) = hdrK l k ++ shortL l[k] := by
  unfold hdrK
  rw [List.take_succ_eq_append_getElem h, List.map_append, List.flatten_append]
  simp only [List.map_cons, List.map_nil, List.flatten_cons, List.flatten_nil, List.append_nil]
theorem nums_lt {m : Mg} (h : mayM m = true) (ho : Mok m) : ∀ n ∈ nums m, n < 18446744073709551616 := by
  have h1 := mayM_iff.1 h
  have h2 := ho.t2
  have h3 := ho.b2
  intro n hn
  simp only [nums, List.mem_cons, List.not_mem_nil, or_false] at hn
  rcases hn with rfl | rfl | rfl | rfl | rfl | rfl | rfl | rfl <;> omega
theorem short_bytes (n : Nat) : ∀ c ∈ shortL n, 0 ≤ c ∧ c < 256 := tl_bytes n _
theorem hdrK_bytes (l : List Nat) (k : Nat) : ∀ c ∈ hdrK l k, 0 ≤ c ∧ c < 256 := by
  intro c hc
  unfold hdrK at hc
  rw [List.mem_flatten] at hc
  obtain ⟨x, hx, hc⟩ := hc
  rw [List.mem_map] at hx
  obtain ⟨n, _, rfl⟩ := hx
  exact short_bytes n c hc
theorem hdrK_len (l : List Nat) (hn : ∀ n ∈ l, n < 18446744073709551616) : ∀ k, k ≤ l.length → (hdrK l k).length ≤ 10 * k
  | 0, _ => by simp [hdrK]
  | k + 1, h => by
    have := hdrK_len l hn k (by omega)
    rw [hdrK_succ l (by omega), List.length_append, shortL_length]
    have := cg_le l[k] (hn _ (List.getElem_mem _))
    omega
theorem hdr_len {m : Mg} (h : mayM m = true) (ho : Mok m) : (hdr m).length ≤ 80 := hdrK_len _ (nums_lt h ho) 8 (by simp [nums])
/-- What becomes of a message that is to be told: its error, its bytes. -/
def pkE (m : Mg) : Int := if mayM m = false then 1 else if 1200 < (hdr m).length + m.zs.length then 8 else 0
def pkB (m : Mg) : List Int := frameL (hdr m ++ m.zs)

/-! ### what bytes tell -/
/-- The reader behind k short numbers: its place, its fault, the fault's place. -/
def uS (zs : List Int) : Nat → Nat × Nat × Nat
  | 0 => (0, 0, 0)
  | k + 1 => (sS zs (uS zs k).1 (uS zs k).2.1 (uS zs k).2.2).2
/-- The k-th number. -/
def uV (zs : List Int) (k : Nat) : Nat := (sS zs (uS zs k).1 (uS zs k).2.1 (uS zs k).2.2).1
def ui (zs : List Int) (k : Nat) : Int := IntKind.i64.wrap (uV zs k : Nat)
def upM (zs : List Int) : Mg := ⟨ui zs 0, uV zs 1, ui zs 2, ui zs 3, ui zs 4, uV zs 5, ui zs 6, ui zs 7, if (uS zs 8).2.1 = 0 then zs.drop (uS zs 8).1 else []⟩
def wfB (b : List Int) : Bool := wholeB b && decide (nAt b + 8 = b.length)
def upE (b : List Int) : Int := if wfB b = false then 4 else if (uS (loadAt b) 8).2.1 = 0 ∧ mayM (upM (loadAt b)) = true then 0 else 5
def upG (b : List Int) : Mg := upM (loadAt b)
theorem wfB_iff {b : List Int} : wfB b = true ↔ Whole b ∧ nAt b + 8 = b.length := by
  unfold wfB
  rw [Bool.and_eq_true, decide_eq_true_iff]
  constructor
  · rintro ⟨h1, h2⟩
    refine ⟨?_, h2⟩
    rcases Classical.em (Whole b) with h | h
    · exact h
    · rw [wholeB_no h] at h1; cases h1
  · rintro ⟨h1, h2⟩
    exact ⟨wholeB_yes h1, h2⟩
theorem wf_frame {b : List Int} (hb : ∀ c ∈ b, 0 ≤ c ∧ c < 256) (h : wfB b = true) : b = frameL (loadAt b) ∧ (loadAt b).length ≤ 1200 := by
  obtain ⟨h1, h2⟩ := wfB_iff.1 h
  have hl := load_len h1.2.1
  refine ⟨in_frame hb (by omega) ⟨0, by rw [List.drop_zero]; exact h1, by rw [List.drop_zero]⟩, ?_⟩
  rw [hl]
  exact h1.1.2
theorem frame_wf {l : List Int} (hl : l.length ≤ 1200) : wfB (frameL l) = true ∧ loadAt (frameL l) = l := by
  have h := frame_whole l [] hl
  have hn := frame_nAt l []
  rw [List.append_nil] at h hn
  exact ⟨wfB_iff.2 ⟨h.1, by rw [hn, frame_len]⟩, h.2.1⟩
theorem us_hdr (ns : List Nat) (hn : ∀ n ∈ ns, n < 18446744073709551616) (r : List Int) : ∀ k, k ≤ ns.length → uS (hdrK ns ns.length ++ r) k = ((hdrK ns k).length, 0, 0)
  | 0, _ => rfl
  | k + 1, h => by
    have ih := us_hdr ns hn r k (by omega)
    have hk : k < ns.length := by omega
    rw [uS, ih]
    have e : (hdrK ns ns.length ++ r).drop (hdrK ns k).length = shortL ns[k] ++ (((ns.drop (k + 1)).map shortL).flatten ++ r) := by
      have e1 : hdrK ns ns.length = hdrK ns (k + 1) ++ ((ns.drop (k + 1)).map shortL).flatten := by
        unfold hdrK
        rw [← List.flatten_append, ← List.map_append, List.take_append_drop, List.take_length]
      rw [e1, hdrK_succ ns hk, List.append_assoc, List.append_assoc, List.drop_left' rfl]
    have hr := rd_short ns[k] (hn _ (List.getElem_mem _)) (((ns.drop (k + 1)).map shortL).flatten ++ r)
    unfold sS
    rw [e, hr, if_neg (by simp), if_pos rfl, hdrK_succ ns hk, List.length_append, shortL_length]
theorem uv_hdr (ns : List Nat) (hn : ∀ n ∈ ns, n < 18446744073709551616) (r : List Int) {k : Nat} (hk : k < ns.length) : uV (hdrK ns ns.length ++ r) k = ns[k] := by
  have ih := us_hdr ns hn r k (by omega)
  unfold uV
  rw [ih]
  have e : (hdrK ns ns.length ++ r).drop (hdrK ns k).length = shortL ns[k] ++ (((ns.drop (k + 1)).map shortL).flatten ++ r) := by
    have e1 : hdrK ns ns.length = hdrK ns (k + 1) ++ ((ns.drop (k + 1)).map shortL).flatten := by
      unfold hdrK
      rw [← List.flatten_append, ← List.map_append, List.take_append_drop, List.take_length]
    rw [e1, hdrK_succ ns hk, List.append_assoc, List.append_assoc, List.drop_left' rfl]
  have hr := rd_short ns[k] (hn _ (List.getElem_mem _)) (((ns.drop (k + 1)).map shortL).flatten ++ r)
  unfold sS
  rw [e, hr, if_neg (by simp), if_pos rfl]
theorem ui_of {zs : List Int} {k : Nat} {n : Int} (h : uV zs k = n.toNat) (h0 : 0 ≤ n) (h1 : n ≤ 4611686018427387904) : ui zs k = n := by
  unfold ui
  rw [h, IntKind.wrap_i64]
  omega
/-- WHAT IS TOLD IS READ. -/
theorem up_hdr {m : Mg} (h : mayM m = true) (ho : Mok m) : (uS (hdr m ++ m.zs) 8).2.1 = 0 ∧ upM (hdr m ++ m.zs) = m := by
  have hn := nums_lt h ho
  have h8 := us_hdr (nums m) hn m.zs 8 (by simp [nums])
  have hv : ∀ (k : Nat) (hk : k < (nums m).length), uV (hdr m ++ m.zs) k = (nums m)[k] := fun k hk => uv_hdr (nums m) hn m.zs hk
  have h8 : uS (hdr m ++ m.zs) 8 = ((hdr m).length, 0, 0) := h8
  have hl : (nums m).length = 8 := rfl
  have h1 := mayM_iff.1 h
  have v0 := hv 0 (by rw [hl]; omega)
  have v1 := hv 1 (by rw [hl]; omega)
  have v2 := hv 2 (by rw [hl]; omega)
  have v3 := hv 3 (by rw [hl]; omega)
  have v4 := hv 4 (by rw [hl]; omega)
  have v5 := hv 5 (by rw [hl]; omega)
  have v6 := hv 6 (by rw [hl]; omega)
  have v7 := hv 7 (by rw [hl]; omega)
  simp only [nums, List.getElem_cons_zero, List.getElem_cons_succ] at v0 v1 v2 v3 v4 v5 v6 v7
  have hd : (hdr m ++ m.zs).drop (hdr m).length = m.zs := List.drop_left' rfl
  refine ⟨by rw [h8], ?_⟩
  unfold upM
  rw [h8, if_pos rfl, hd, ui_of v0 (by omega) (by omega), ui_of v2 (by omega) (by omega), ui_of v3 (by omega) (by omega), ui_of v4 (by omega) (by omega), ui_of v6 (by omega) (by omega), ui_of v7 (by omega) (by omega), v1, v5]
  have t1 := ho.t1
  have t2 := ho.b1
  have e1 : ((m.tok.toNat : Nat) : Int) = m.tok := by omega
  have e2 : ((m.bits.toNat : Nat) : Int) = m.bits := by omega
  rw [e1, e2]
theorem pk_may {m : Mg} (h : pkE m = 0) : mayM m = true ∧ (hdr m ++ m.zs).length ≤ 1200 := by
  unfold pkE at h
  split at h
  · cases h
  split at h
  · cases h
  · rename_i h1 h2
    exact ⟨by simpa using h1, by rw [List.length_append]; omega⟩
theorem up_pk {m : Mg} (h : pkE m = 0) (ho : Mok m) : upE (pkB m) = 0 ∧ upG (pkB m) = m ∧ (pkB m).length ≤ 1208 := by
  obtain ⟨h1, h2⟩ := pk_may h
  obtain ⟨f1, f2⟩ := frame_wf h2
  obtain ⟨u1, u2⟩ := up_hdr h1 ho
  unfold upE upG pkB
  rw [f1, f2, u1, u2, frame_len]
  exact ⟨by rw [if_neg (by decide), if_pos ⟨rfl, h1⟩], rfl, by omega⟩

/-! ### bytes of a frame that are turned -/
def turnL (b : List Int) (t y : Nat) : List Int := match b.drop t with
  | c0 :: c1 :: c2 :: c3 :: r => b.take t ++ (qs c0 c1 c2 c3 y 4 ++ r)
  | _ => b
theorem turnL_of (p r : List Int) (c0 c1 c2 c3 : Int) (y : Nat) : turnL (p ++ ([c0, c1, c2, c3] ++ r)) p.length y = p ++ (qs c0 c1 c2 c3 y 4 ++ r) := by
  unfold turnL
  rw [List.drop_left' rfl, List.take_left' rfl]
  rfl
theorem tn_zero {c : Int} (hc : 0 ≤ c ∧ c < 256) : tn c 0 = c := by
  rw [tn_eq hc (by omega)]
  simp
  omega
theorem turn_bytes {b : List Int} (hb : ∀ c ∈ b, 0 ≤ c ∧ c < 256) (t y : Nat) (hy : y < 4294967296) : ∀ c ∈ turnL b t y, 0 ≤ c ∧ c < 256 := by
  intro c hc
  unfold turnL at hc
  split at hc
  · rename_i c0 c1 c2 c3 r hd
    have hq : ∀ x ∈ c0 :: c1 :: c2 :: c3 :: r, 0 ≤ x ∧ x < 256 := fun x hx => hb x (List.mem_of_mem_drop (i := t) (by rw [hd]; exact hx))
    rcases List.mem_append.1 hc with h | h
    · exact hb c (List.mem_of_mem_take h)
    · rcases List.mem_append.1 h with h | h
      · simp only [qs, List.mem_cons, List.not_mem_nil, or_false] at h
        rcases h with rfl | rfl | rfl | rfl
        · exact tn_byte (hq c0 (by simp)) (by omega)
        · exact tn_byte (hq c1 (by simp)) (by omega)
        · exact tn_byte (hq c2 (by simp)) (by omega)
        · exact tn_byte (hq c3 (by simp)) (by omega)
      · exact hq c (by simp [h])
  · exact hb c hc
theorem turn_len (b : List Int) (t y : Nat) : (turnL b t y).length = b.length := by
  unfold turnL
  split
  · rename_i c0 c1 c2 c3 r hd
    have h1 : (b.drop t).length = r.length + 4 := by rw [hd]; rfl
    rw [List.length_drop] at h1
    rw [List.length_append, List.length_append, List.length_take]
    simp only [qs, List.length_cons, List.length_nil]
    omega
  · rfl
theorem turn_none {b : List Int} (hb : ∀ c ∈ b, 0 ≤ c ∧ c < 256) (t : Nat) : turnL b t 0 = b := by
  unfold turnL
  split
  · rename_i c0 c1 c2 c3 r hd
    have hq : ∀ x ∈ c0 :: c1 :: c2 :: c3 :: r, 0 ≤ x ∧ x < 256 := fun x hx => hb x (List.mem_of_mem_drop (i := t) (by rw [hd]; exact hx))
    have e : qs c0 c1 c2 c3 0 4 = [c0, c1, c2, c3] := by
      show [tn c0 _, tn c1 _, tn c2 _, tn c3 _] = _
      simp only [Int.natCast_zero, Int.zero_emod, Int.zero_ediv]
      rw [tn_zero (hq c0 (by simp)), tn_zero (hq c1 (by simp)), tn_zero (hq c2 (by simp)), tn_zero (hq c3 (by simp))]
    rw [e]
    have := List.take_append_drop t b
    rw [hd] at this
    exact this
  · rfl
theorem frame_sealed (l : List Int) : Sealed ((frameL l).drop 2) := by
  have : (frameL l).drop 2 = told l ++ le4 (moreL 0 (told l)) := by unfold frameL; rfl
  rw [this]
  exact (sealed_seal (told l)).1
set_option maxHeartbeats 1000000 in
/-- WHAT WAS TURNED IS NO FRAME. -/
theorem turn_frame (l : List Int) (hl : l.length ≤ 1200) (hz : ∀ c ∈ l, 0 ≤ c ∧ c < 256) (t y : Nat) (ht : t + 4 ≤ l.length + 8) (hy : y < 4294967296) (h0 : y ≠ 0) : wfB (turnL (frameL l) t y) = false := by
  cases hw : wfB (turnL (frameL l) t y) with
  | false => rfl
  | true =>
  exfalso
  have hfb : ∀ c ∈ frameL l, 0 ≤ c ∧ c < 256 := by
    intro c hc
    unfold frameL at hc
    rcases List.mem_append.1 hc with h | h
    · simp at h; omega
    · rcases List.mem_append.1 h with h | h
      · exact told_bytes hz hl c h
      · exact le4_bytes _ c h
  obtain ⟨e1, e2⟩ := wf_frame (turn_bytes hfb t y hy) hw
  generalize loadAt (turnL (frameL l) t y) = l' at *
  have elen : l'.length = l.length := by
    have := congrArg List.length e1
    rw [turn_len, frame_len, frame_len] at this
    omega
  have s1 := frame_sealed l
  have s2 := frame_sealed l'
  rw [← e1] at s2
  have c1 := frame_cons l
  have c2 := frame_cons l'
  rw [← e1, elen] at c2
  have hlen := frame_len l
  obtain ⟨p, d0, d1, d2, d3, r, hf, hp⟩ := split4 (frameL l) t (by omega)
  rw [hf] at hfb
  have hT : turnL (frameL l) t y = p ++ (qs d0 d1 d2 d3 y 4 ++ r) := by rw [hf, ← hp]; exact turnL_of p r d0 d1 d2 d3 y
  have k0 := hfb d0 (by simp)
  have k1 := hfb d1 (by simp)
  have k2 := hfb d2 (by simp)
  have k3 := hfb d3 (by simp)
  rw [hT] at s2 c2
  rw [hf] at s1 c1 hlen
  have f0 : 0 ≤ (y : Int) % 256 ∧ (y : Int) % 256 < 256 := by omega
  have f1 : 0 ≤ (y : Int) / 256 % 256 ∧ (y : Int) / 256 % 256 < 256 := by omega
  have f2 : 0 ≤ (y : Int) / 65536 % 256 ∧ (y : Int) / 65536 % 256 < 256 := by omega
  have f3 : 0 ≤ (y : Int) / 16777216 ∧ (y : Int) / 16777216 < 256 := by omega
  have hq : qs d0 d1 d2 d3 y 4 = [tn d0 ((y : Int) % 256), tn d1 ((y : Int) / 256 % 256), tn d2 ((y : Int) / 65536 % 256), tn d3 ((y : Int) / 16777216)] := rfl
  rw [hq] at s2 c2
  match p, hp with
  | [], _ =>
    simp only [List.nil_append, List.cons_append, List.cons.injEq] at c1 c2
    have g0 := tn_same k0 f0 (by omega)
    have g1 := tn_same k1 f1 (by omega)
    have g2 := tn_same k2 f2 (by omega)
    have g3 := tn_same k3 f3 (by omega)
    omega
  | [b0], _ =>
    simp only [List.nil_append, List.cons_append, List.cons.injEq] at c1 c2
    have g0 := tn_same k0 f0 (by omega)
    have g1 := tn_same k1 f1 (by omega)
    have g2 := tn_same k2 f2 (by omega)
    have hr4 : r.length = l.length + 3 := by
      simp at hlen
      omega
    match r, hr4 with
    | d4 :: r', _ =>
      have k4 := hfb d4 (by simp)
      have s1' : Sealed ([] ++ ([d1, d2, d3, d4] ++ r')) := s1
      have s2' : Sealed ([] ++ ([tn d1 ((y : Int) / 256 % 256), tn d2 ((y : Int) / 65536 % 256), tn d3 ((y : Int) / 16777216), d4] ++ r')) := s2
      have hne := turned_not [] r' d1 d2 d3 d4 (y / 16777216 * 65536) (by omega) (by omega) (fun c hc => hfb c (show c ∈ b0 :: d0 :: ([] ++ ([d1, d2, d3, d4] ++ r')) from List.mem_cons_of_mem _ (List.mem_cons_of_mem _ hc))) s1'
      refine hne ?_
      have w0 : (((y / 16777216 * 65536 : Nat) : Int)) % 256 = (y : Int) / 256 % 256 := by omega
      have w1 : (((y / 16777216 * 65536 : Nat) : Int)) / 256 % 256 = (y : Int) / 65536 % 256 := by omega
      have w2 : (((y / 16777216 * 65536 : Nat) : Int)) / 65536 % 256 = (y : Int) / 16777216 := by omega
      have w3 : (((y / 16777216 * 65536 : Nat) : Int)) / 16777216 = 0 := by omega
      rw [w0, w1, w2, w3, tn_zero k4]
      exact s2'
  | b0 :: b1 :: p', _ =>
    have s1' : Sealed (p' ++ ([d0, d1, d2, d3] ++ r)) := s1
    have s2' : Sealed (p' ++ ([tn d0 ((y : Int) % 256), tn d1 ((y : Int) / 256 % 256), tn d2 ((y : Int) / 65536 % 256), tn d3 ((y : Int) / 16777216)] ++ r)) := s2
    exact turned_not p' r d0 d1 d2 d3 y hy h0 (fun c hc => hfb c (by
      have : c ∈ b0 :: b1 :: (p' ++ ([d0, d1, d2, d3] ++ r)) := List.mem_cons_of_mem _ (List.mem_cons_of_mem _ hc)
      exact this)) s1' s2'
end Go.Proofs.Ytfipdldoklkciaa
