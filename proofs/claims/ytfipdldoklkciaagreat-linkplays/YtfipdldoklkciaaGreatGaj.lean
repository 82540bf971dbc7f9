/-
  Texts Rce, Lka, Lkb, Lkd, Lkc, Lke.
-/
import Derived.Test.YtfipdldoklkciaaGreatGai
import Derived.Deep.MidRow
import Derived.Test.YtfipdldoklkciaaGreatGab
import Derived.Test.YtfipdldoklkciaaGreatGad
import Derived.Lib.EndianBits
import Derived.Lib.Hide
import Derived.Lib.SliceRun
import Derived.Test.YtfipdldoklkciaaGreatGac
namespace Go.Proofs.YtfipdldoklkciaaGreat
open Go.RowKit
set_option linter.unusedVariables false
/-- How many of the first k. -/
def cnt (g : Nat → Bool) : Nat → Nat
  | 0 => 0
  | k + 1 => if g k = true then cnt g k + 1 else cnt g k
theorem cnt_le (g : Nat → Bool) : ∀ k, cnt g k ≤ k
  | 0 => Nat.le_refl _
  | k + 1 => by
    have := cnt_le g k
    unfold cnt
    split <;> omega
theorem cnt_congr {g h : Nat → Bool} : ∀ k, (∀ j, j < k → g j = h j) → cnt g k = cnt h k
  | 0, _ => rfl
  | k + 1, e => by
    unfold cnt
    rw [cnt_congr k (fun j hj => e j (by omega)), e k (by omega)]
theorem cnt_add (g : Nat → Bool) (a : Nat) : ∀ b, cnt g (a + b) = cnt g a + cnt (fun i => g (a + i)) b
  | 0 => rfl
  | b + 1 => by
    have h1 : cnt g (a + (b + 1)) = if g (a + b) = true then cnt g (a + b) + 1 else cnt g (a + b) := rfl
    have h2 : cnt (fun i => g (a + i)) (b + 1) = if g (a + b) = true then cnt (fun i => g (a + i)) b + 1 else cnt (fun i => g (a + i)) b := rfl
    rw [h1, h2, cnt_add g a b]
    split <;> omega
theorem cnt_all {g : Nat → Bool} : ∀ k, (∀ j, j < k → g j = true) → cnt g k = k
  | 0, _ => rfl
  | k + 1, e => by
    unfold cnt
    rw [if_pos (e k (by omega)), cnt_all k (fun j hj => e j (by omega))]
theorem cnt_none {g : Nat → Bool} : ∀ k, (∀ j, j < k → g j = false) → cnt g k = 0
  | 0, _ => rfl
  | k + 1, e => by
    unfold cnt
    rw [if_neg (by rw [e k (by omega)]; decide), cnt_none k (fun j hj => e j (by omega))]
theorem cnt_turn (g : Nat → Bool) (r : Nat) (hr : r ≤ 32) : cnt (fun p => g ((p + 32 - r) % 32)) 32 = cnt g 32 := by
  have e1 := cnt_add (fun p => g ((p + 32 - r) % 32)) r (32 - r)
  have e2 := cnt_add g (32 - r) r
  rw [show r + (32 - r) = 32 by omega] at e1
  rw [show 32 - r + r = 32 by omega] at e2
  rw [e1, e2, Nat.add_comm (cnt g (32 - r))]
  congr 1
  · refine cnt_congr r (fun j hj => ?_)
    show g ((j + 32 - r) % 32) = g (32 - r + j)
    congr 1
    omega
  · refine cnt_congr (32 - r) (fun j hj => ?_)
    show g ((r + j + 32 - r) % 32) = g j
    congr 1
    omega
/-- HOW MANY ARE HELD. -/
def has (s : Rc) (j : Nat) : Bool := (s.L (s.tk + 1 + (j : Int))).isSome
def hld (s : Rc) : Nat := cnt (has s) 32
theorem hld_ring (s : Rc) (ht : 0 ≤ s.tk) : cnt (fun p => (s.at p).isSome) 32 = hld s := by
  unfold hld
  have hr : ((s.tk + 1) % 32).toNat ≤ 32 := by omega
  rw [← cnt_turn (has s) ((s.tk + 1) % 32).toNat hr]
  refine cnt_congr 32 (fun p hp => ?_)
  show (s.L (s.tk + 1 + ((p : Int) - (s.tk + 1)) % 32)).isSome = (s.L (s.tk + 1 + (((p + 32 - ((s.tk + 1) % 32).toNat) % 32 : Nat) : Int))).isSome
  congr 3
  omega
theorem ext_two {α : Type} (cs : List α) (n : Nat) (u v : α) (h1 : cs[n]? = some u) (h2 : cs[n + 1]? = some v) : cs.toArray.extract n (n + 2) = #[u, v] := by
  apply Array.ext'
  rw [Array.toList_extract]
  simp only [List.extract_eq_take_drop]
  have e1 : cs.drop n = u :: v :: cs.drop (n + 2) := by
    rw [List.drop_eq_getElem_cons (List.getElem?_eq_some_iff.1 h1).1, List.drop_eq_getElem_cons (List.getElem?_eq_some_iff.1 h2).1, (List.getElem?_eq_some_iff.1 h1).2, (List.getElem?_eq_some_iff.1 h2).2]
  rw [e1, show n + 2 - n = 2 by omega]
  rfl
theorem size_pl : (Tryz.prog.info? 88).map (fun i => i.size) = some 2 := by kernel_rfl
theorem agg_pl (W : World) : (isAgg 88).run Tryz.prog W = .ok true W := by kernel_rfl
theorem sz_pl (W : World) : (sizeOf 88).run Tryz.prog W = .ok 2 W := by kernel_rfl
theorem idx_ring (cs : List Value) (p : Nat) (u v : Value) (W : World) (hp : p < 32) (h1 : cs[p * 2]? = some u) (h2 : cs[p * 2 + 1]? = some v) :
    (Instr.index 89 (.agg cs.toArray) (.int .i64 (p : Int))).run Tryz.prog W = .ok (.agg #[u, v]) W := by
  have h3 : (0 : Int) ≤ (p : Int) ∧ (p : Int) < (32 : Nat) := by omega
  unfold Instr.index
  simp only [asIntOf, Sem.run_bind, Sem.run_pure, Result.andThen_ok, run_underlying Tryz.underlying89 W]
  rw [if_pos h3]
  simp only [Sem.run_bind, sz_pl, Result.andThen_ok, part, agg_pl, Int.toNat_natCast, if_true, Sem.run_pure]
  rw [ext_two cs (p * 2) u v h1 h2]
theorem size_rg : (Tryz.prog.info? 89).map (fun i => i.size) = some 64 := by kernel_rfl
set_option maxRecDepth 100000 in
theorem held_any {rb : Nat} {s : Rc} {w : World} (h : Rv w rb s) :
    Calls Tryz.prog 45 #[.pointer (some ⟨rb, 0, none⟩)] w fun e w' => e = .returned (.int .i64 (hld s)) ∧ Hid (Below w.heap.size w w') := by
  have k0 := rmade_yes rb w h.c0
  have hR : Hid (Rv w rb s) := h
  have hH := hld_ring s h.ok.t1
  obtain ⟨cs, hcl, hcr, hcA, hcB⟩ : ∃ cs : List Value, cs.length = 64 ∧ w.rangeAt rb 3 cs ∧ (∀ p, p < 32 → cs[p * 2]? = some (.bool (s.at p).isSome)) ∧ (∀ p, p < 32 → cs[p * 2 + 1]? = some (.string (strOfNums ((s.at p).getD [])))) := by
    obtain ⟨h1, ca, h2, h3, h4, h5, h6, h7⟩ := h
    have hg : ∀ j, (ca.toList.drop 3)[j]? = ca[3 + j]? := fun j => by rw [List.getElem?_drop, Array.getElem?_toList]
    refine ⟨ca.toList.drop 3, by rw [List.length_drop, Array.length_toList, h3], fun j v hv => ?_, fun p hp => ?_, fun p hp => ?_⟩
    · rw [h2.cell, ← hg j]; exact hv
    · rw [hg]; exact (h7 p hp).1
    · rw [hg, ← Nat.add_assoc]; exact (h7 p hp).2
  have hcr' : Hid (w.rangeAt rb 3 cs) := hcr
  have hcz : Hid ((Tryz.prog.info? 89).map (fun i => i.size) = some cs.length) := by rw [hcl]; exact size_rg
  have hN : Hid (∀ k, cnt (fun p => (s.at p).isSome) (k + 1) = if (s.at k).isSome = true then cnt (fun p => (s.at p).isSome) k + 1 else cnt (fun p => (s.at p).isSome) k) := fun k => rfl
  have hHH : Hid (cnt (fun p => (s.at p).isSome) 32 = hld s) := hH
  have hle : Hid (∀ k, cnt (fun p => (s.at p).isSome) k ≤ k) := cnt_le _
  have hI : Hid (∀ (p : Nat) (W : World), p < 32 → (Instr.index 89 (.agg cs.toArray) (.int .i64 (p : Int))).run Tryz.prog W = .ok (.agg #[.bool (s.at p).isSome, .string (strOfNums ((s.at p).getD []))]) W) := fun p W hp => idx_ring cs p _ _ W hp (hcA p hp) (hcB p hp)
  clear h hH hcl hcr hcA hcB
  generalize cnt (fun p => (s.at p).isSome) = C at *
  go_enter Tryz.func45, Tryz.ntmps45
  go_wp2_with (first | (go_at_call 76; refine k0.mono ?_; rintro e w1 ⟨rfl, hw1⟩; obtain rfl := hw1.symm; clear k0 hw1) | (refine wpList_load_mid rfl 89 (.tmp 11) rfl rb 3 rfl cs _ hcr'.out Tryz.underlying89 rfl hcz.out ?_))
  generalize cs.toArray = ca at *
  go_loopw [3, 13] (fun s3 s13 wr => ∃ k : Nat, k ≤ 32 ∧ s3 = .int .i64 (C k : Int) ∧ s13 = .int .i64 (k : Int) ∧ Hid (Below w.heap.size w wr)) (fun _ v _ => 32 - (intOf v).toNat)
  case atStart => exact ⟨0, by omega, by have := hle.out 0; rw [show C 0 = 0 by omega]; rfl, rfl, Below.refl _ _⟩
  case round =>
    obtain ⟨k, hk, rfl, rfl, hB⟩ := hrel
    by_cases hlt : k < 32
    · have hd : decide ((k : Int) < 32) = true := by simp; omega
      have hi := fun W => hI.out k W hlt
      have hn := hN.out k
      have hl := hle.out k
      cases hs : (s.at k).isSome with
      | true =>
        rw [hs] at hi hn
        rw [if_pos rfl] at hn
        go_wp2_with fail
        exact ⟨⟨k + 1, by omega, by rw [hn]; simp, by simp, hB.out.alloc hB.out.size _⟩, by simp [intOf]; omega⟩
      | false =>
        rw [hs] at hi hn
        rw [if_neg (by decide)] at hn
        go_wp2_with fail
        exact ⟨⟨k + 1, by omega, by rw [hn], by simp, hB.out.alloc hB.out.size _⟩, by simp [intOf]; omega⟩
    · have hd : decide ((k : Int) < 32) = false := by simp; omega
      obtain rfl : k = 32 := by omega
      have hx := hHH.out
      go_wp2
      go_ret
      exact ⟨by rw [hx]; rfl, hB⟩
end Go.Proofs.YtfipdldoklkciaaGreat
namespace Go.Proofs.YtfipdldoklkciaaGreat
open Go.RowKit
set_option linter.unusedVariables false

/-- A message. -/
structure Mg where
  kind : Int
  tok : Int
  ep : Int
  seq : Int
  ack : Int
  bits : Int
  cred : Int
  fmt : Int
  zs : List Int
def fromB (a n b : Int) : Bool := decide (a ≤ n) && decide (n ≤ b)
theorem fromB_iff {a n b : Int} : fromB a n b = true ↔ a ≤ n ∧ n ≤ b := by simp [fromB]
/-- MAY IT BE TOLD? -/
def mayM (m : Mg) : Bool := fromB 1 m.kind 7 && fromB 0 m.fmt 2 && fromB 0 m.ep 4611686018427387904 && fromB 0 m.seq 4611686018427387904 && fromB 0 m.ack 4611686018427387904 && fromB 0 m.cred 4611686018427387904
theorem mayM_iff {m : Mg} : mayM m = true ↔ (1 ≤ m.kind ∧ m.kind ≤ 7) ∧ (0 ≤ m.fmt ∧ m.fmt ≤ 2) ∧ (0 ≤ m.ep ∧ m.ep ≤ 4611686018427387904) ∧ (0 ≤ m.seq ∧ m.seq ≤ 4611686018427387904) ∧ (0 ≤ m.ack ∧ m.ack ≤ 4611686018427387904) ∧ (0 ≤ m.cred ∧ m.cred ≤ 4611686018427387904) := by
  simp [mayM, fromB, and_assoc]
/-- Its words are words, its bytes are bytes. -/
structure Mok (m : Mg) : Prop where
  t1 : 0 ≤ m.tok
  t2 : m.tok < 18446744073709551616
  b1 : 0 ≤ m.bits
  b2 : m.bits < 18446744073709551616
  by_ : ∀ c ∈ m.zs, 0 ≤ c ∧ c < 256
def nums (m : Mg) : List Nat := [m.kind.toNat, m.tok.toNat, m.ep.toNat, m.seq.toNat, m.ack.toNat, m.bits.toNat, m.cred.toNat, m.fmt.toNat]
/-- The short numbers of the first k. -/
def hdrK (l : List Nat) (k : Nat) : List Int := ((l.take k).map shortL).flatten
def hdr (m : Mg) : List Int := hdrK (nums m) 8
theorem hdrK_zero (l : List Nat) : hdrK l 0 = [] := rfl
theorem hdrK_succ (l : List Nat) {k : Nat} (h : k < l.length) : hdrK l (k + 1) = hdrK l k ++ shortL l[k] := by
  unfold hdrK
  rw [List.take_succ_eq_append_getElem h, List.map_append, List.flatten_append]
  simp only [List.map_cons, List.map_nil, List.flatten_cons, List.flatten_nil, List.append_nil]
theorem nums_lt {m : Mg} (h : mayM m = true) (ho : Mok m) : ∀ n ∈ nums m, n < 18446744073709551616 := by
  have h1 := mayM_iff.1 h
  have h2 := ho.t2
  have h3 := ho.b2
  intro n hn
  simp only [nums, List.mem_cons, List.not_mem_nil, or_false] at hn
  rcases hn with rfl | rfl | rfl | rfl | rfl | rfl | rfl | rfl <;> omega
theorem short_bytes (n : Nat) : ∀ c ∈ shortL n, 0 ≤ c ∧ c < 256 := tl_bytes n _
theorem hdrK_bytes (l : List Nat) (k : Nat) : ∀ c ∈ hdrK l k, 0 ≤ c ∧ c < 256 := by
  intro c hc
  unfold hdrK at hc
  rw [List.mem_flatten] at hc
  obtain ⟨x, hx, hc⟩ := hc
  rw [List.mem_map] at hx
  obtain ⟨n, _, rfl⟩ := hx
  exact short_bytes n c hc
theorem hdrK_len (l : List Nat) (hn : ∀ n ∈ l, n < 18446744073709551616) : ∀ k, k ≤ l.length → (hdrK l k).length ≤ 10 * k
  | 0, _ => by simp [hdrK]
  | k + 1, h => by
    have := hdrK_len l hn k (by omega)
    rw [hdrK_succ l (by omega), List.length_append, shortL_length]
    have := cg_le l[k] (hn _ (List.getElem_mem _))
    omega
theorem hdr_len {m : Mg} (h : mayM m = true) (ho : Mok m) : (hdr m).length ≤ 80 := hdrK_len _ (nums_lt h ho) 8 (by simp [nums])
/-- What becomes of a message that is to be told: its error, its bytes. -/
def pkE (m : Mg) : Int := if mayM m = false then 1 else if 1200 < (hdr m).length + m.zs.length then 8 else 0
def pkB (m : Mg) : List Int := frameL (hdr m ++ m.zs)

/-! ### what bytes tell -/
/-- The reader behind k short numbers: its place, its fault, the fault's place. -/
def uS (zs : List Int) : Nat → Nat × Nat × Nat
  | 0 => (0, 0, 0)
  | k + 1 => (sS zs (uS zs k).1 (uS zs k).2.1 (uS zs k).2.2).2
/-- The k-th number. -/
def uV (zs : List Int) (k : Nat) : Nat := (sS zs (uS zs k).1 (uS zs k).2.1 (uS zs k).2.2).1
def ui (zs : List Int) (k : Nat) : Int := IntKind.i64.wrap (uV zs k : Nat)
def upM (zs : List Int) : Mg := ⟨ui zs 0, uV zs 1, ui zs 2, ui zs 3, ui zs 4, uV zs 5, ui zs 6, ui zs 7, if (uS zs 8).2.1 = 0 then zs.drop (uS zs 8).1 else []⟩
def wfB (b : List Int) : Bool := wholeB b && decide (nAt b + 8 = b.length)
def upE (b : List Int) : Int := if wfB b = false then 4 else if (uS (loadAt b) 8).2.1 = 0 ∧ mayM (upM (loadAt b)) = true then 0 else 5
def upG (b : List Int) : Mg := upM (loadAt b)
theorem wfB_iff {b : List Int} : wfB b = true ↔ Whole b ∧ nAt b + 8 = b.length := by
  unfold wfB
  rw [Bool.and_eq_true, decide_eq_true_iff]
  constructor
  · rintro ⟨h1, h2⟩
    refine ⟨?_, h2⟩
    rcases Classical.em (Whole b) with h | h
    · exact h
    · rw [wholeB_no h] at h1; cases h1
  · rintro ⟨h1, h2⟩
    exact ⟨wholeB_yes h1, h2⟩
theorem wf_frame {b : List Int} (hb : ∀ c ∈ b, 0 ≤ c ∧ c < 256) (h : wfB b = true) : b = frameL (loadAt b) ∧ (loadAt b).length ≤ 1200 := by
  obtain ⟨h1, h2⟩ := wfB_iff.1 h
  have hl := load_len h1.2.1
  refine ⟨in_frame hb (by omega) ⟨0, by rw [List.drop_zero]; exact h1, by rw [List.drop_zero]⟩, ?_⟩
  rw [hl]
  exact h1.1.2
theorem frame_wf {l : List Int} (hl : l.length ≤ 1200) : wfB (frameL l) = true ∧ loadAt (frameL l) = l := by
  have h := frame_whole l [] hl
  have hn := frame_nAt l []
  rw [List.append_nil] at h hn
  exact ⟨wfB_iff.2 ⟨h.1, by rw [hn, frame_len]⟩, h.2.1⟩
theorem us_hdr (ns : List Nat) (hn : ∀ n ∈ ns, n < 18446744073709551616) (r : List Int) : ∀ k, k ≤ ns.length → uS (hdrK ns ns.length ++ r) k = ((hdrK ns k).length, 0, 0)
  | 0, _ => rfl
  | k + 1, h => by
    have ih := us_hdr ns hn r k (by omega)
    have hk : k < ns.length := by omega
    rw [uS, ih]
    have e : (hdrK ns ns.length ++ r).drop (hdrK ns k).length = shortL ns[k] ++ (((ns.drop (k + 1)).map shortL).flatten ++ r) := by
      have e1 : hdrK ns ns.length = hdrK ns (k + 1) ++ ((ns.drop (k + 1)).map shortL).flatten := by
        unfold hdrK
        rw [← List.flatten_append, ← List.map_append, List.take_append_drop, List.take_length]
      rw [e1, hdrK_succ ns hk, List.append_assoc, List.append_assoc, List.drop_left' rfl]
    have hr := rd_short ns[k] (hn _ (List.getElem_mem _)) (((ns.drop (k + 1)).map shortL).flatten ++ r)
    unfold sS
    rw [e, hr, if_neg (by simp), if_pos rfl, hdrK_succ ns hk, List.length_append, shortL_length]
theorem uv_hdr (ns : List Nat) (hn : ∀ n ∈ ns, n < 18446744073709551616) (r : List Int) {k : Nat} (hk : k < ns.length) : uV (hdrK ns ns.length ++ r) k = ns[k] := by
  have ih := us_hdr ns hn r k (by omega)
  unfold uV
  rw [ih]
  have e : (hdrK ns ns.length ++ r).drop (hdrK ns k).length = shortL ns[k] ++ (((ns.drop (k + 1)).map shortL).flatten ++ r) := by
    have e1 : hdrK ns ns.length = hdrK ns (k + 1) ++ ((ns.drop (k + 1)).map shortL).flatten := by
      unfold hdrK
      rw [← List.flatten_append, ← List.map_append, List.take_append_drop, List.take_length]
    rw [e1, hdrK_succ ns hk, List.append_assoc, List.append_assoc, List.drop_left' rfl]
  have hr := rd_short ns[k] (hn _ (List.getElem_mem _)) (((ns.drop (k + 1)).map shortL).flatten ++ r)
  unfold sS
  rw [e, hr, if_neg (by simp), if_pos rfl]
theorem ui_of {zs : List Int} {k : Nat} {n : Int} (h : uV zs k = n.toNat) (h0 : 0 ≤ n) (h1 : n ≤ 4611686018427387904) : ui zs k = n := by
  unfold ui
  rw [h, IntKind.wrap_i64]
  omega
/-- WHAT IS TOLD IS READ. -/
theorem up_hdr {m : Mg} (h : mayM m = true) (ho : Mok m) : (uS (hdr m ++ m.zs) 8).2.1 = 0 ∧ upM (hdr m ++ m.zs) = m := by
  have hn := nums_lt h ho
  have h8 := us_hdr (nums m) hn m.zs 8 (by simp [nums])
  have hv : ∀ (k : Nat) (hk : k < (nums m).length), uV (hdr m ++ m.zs) k = (nums m)[k] := fun k hk => uv_hdr (nums m) hn m.zs hk
  have h8 : uS (hdr m ++ m.zs) 8 = ((hdr m).length, 0, 0) := h8
  have hl : (nums m).length = 8 := rfl
  have h1 := mayM_iff.1 h
  have v0 := hv 0 (by rw [hl]; omega)
  have v1 := hv 1 (by rw [hl]; omega)
  have v2 := hv 2 (by rw [hl]; omega)
  have v3 := hv 3 (by rw [hl]; omega)
  have v4 := hv 4 (by rw [hl]; omega)
  have v5 := hv 5 (by rw [hl]; omega)
  have v6 := hv 6 (by rw [hl]; omega)
  have v7 := hv 7 (by rw [hl]; omega)
  simp only [nums, List.getElem_cons_zero, List.getElem_cons_succ] at v0 v1 v2 v3 v4 v5 v6 v7
  have hd : (hdr m ++ m.zs).drop (hdr m).length = m.zs := List.drop_left' rfl
  refine ⟨by rw [h8], ?_⟩
  unfold upM
  rw [h8, if_pos rfl, hd, ui_of v0 (by omega) (by omega), ui_of v2 (by omega) (by omega), ui_of v3 (by omega) (by omega), ui_of v4 (by omega) (by omega), ui_of v6 (by omega) (by omega), ui_of v7 (by omega) (by omega), v1, v5]
  have t1 := ho.t1
  have t2 := ho.b1
  have e1 : ((m.tok.toNat : Nat) : Int) = m.tok := by omega
  have e2 : ((m.bits.toNat : Nat) : Int) = m.bits := by omega
  rw [e1, e2]
theorem pk_may {m : Mg} (h : pkE m = 0) : mayM m = true ∧ (hdr m ++ m.zs).length ≤ 1200 := by
  unfold pkE at h
  split at h
  · cases h
  split at h
  · cases h
  · rename_i h1 h2
    exact ⟨by simpa using h1, by rw [List.length_append]; omega⟩
theorem up_pk {m : Mg} (h : pkE m = 0) (ho : Mok m) : upE (pkB m) = 0 ∧ upG (pkB m) = m ∧ (pkB m).length ≤ 1208 := by
  obtain ⟨h1, h2⟩ := pk_may h
  obtain ⟨f1, f2⟩ := frame_wf h2
  obtain ⟨u1, u2⟩ := up_hdr h1 ho
  unfold upE upG pkB
  rw [f1, f2, u1, u2, frame_len]
  exact ⟨by rw [if_neg (by decide), if_pos ⟨rfl, h1⟩], rfl, by omega⟩

/-! ### bytes of a frame that are turned -/
def turnL (b : List Int) (t y : Nat) : List Int := match b.drop t with
  | c0 :: c1 :: c2 :: c3 :: r => b.take t ++ (qs c0 c1 c2 c3 y 4 ++ r)
  | _ => b
theorem turnL_of (p r : List Int) (c0 c1 c2 c3 : Int) (y : Nat) : turnL (p ++ ([c0, c1, c2, c3] ++ r)) p.length y = p ++ (qs c0 c1 c2 c3 y 4 ++ r) := by
  unfold turnL
  rw [List.drop_left' rfl, List.take_left' rfl]
  rfl
theorem tn_zero {c : Int} (hc : 0 ≤ c ∧ c < 256) : tn c 0 = c := by
  rw [tn_eq hc (by omega)]
  simp
  omega
theorem turn_bytes {b : List Int} (hb : ∀ c ∈ b, 0 ≤ c ∧ c < 256) (t y : Nat) (hy : y < 4294967296) : ∀ c ∈ turnL b t y, 0 ≤ c ∧ c < 256 := by
  intro c hc
  unfold turnL at hc
  split at hc
  · rename_i c0 c1 c2 c3 r hd
    have hq : ∀ x ∈ c0 :: c1 :: c2 :: c3 :: r, 0 ≤ x ∧ x < 256 := fun x hx => hb x (List.mem_of_mem_drop (i := t) (by rw [hd]; exact hx))
    rcases List.mem_append.1 hc with h | h
    · exact hb c (List.mem_of_mem_take h)
    · rcases List.mem_append.1 h with h | h
      · simp only [qs, List.mem_cons, List.not_mem_nil, or_false] at h
        rcases h with rfl | rfl | rfl | rfl
        · exact tn_byte (hq c0 (by simp)) (by omega)
        · exact tn_byte (hq c1 (by simp)) (by omega)
        · exact tn_byte (hq c2 (by simp)) (by omega)
        · exact tn_byte (hq c3 (by simp)) (by omega)
      · exact hq c (by simp [h])
  · exact hb c hc
theorem turn_len (b : List Int) (t y : Nat) : (turnL b t y).length = b.length := by
  unfold turnL
  split
  · rename_i c0 c1 c2 c3 r hd
    have h1 : (b.drop t).length = r.length + 4 := by rw [hd]; rfl
    rw [List.length_drop] at h1
    rw [List.length_append, List.length_append, List.length_take]
    simp only [qs, List.length_cons, List.length_nil]
    omega
  · rfl
theorem turn_none {b : List Int} (hb : ∀ c ∈ b, 0 ≤ c ∧ c < 256) (t : Nat) : turnL b t 0 = b := by
  unfold turnL
  split
  · rename_i c0 c1 c2 c3 r hd
    have hq : ∀ x ∈ c0 :: c1 :: c2 :: c3 :: r, 0 ≤ x ∧ x < 256 := fun x hx => hb x (List.mem_of_mem_drop (i := t) (by rw [hd]; exact hx))
    have e : qs c0 c1 c2 c3 0 4 = [c0, c1, c2, c3] := by
      show [tn c0 _, tn c1 _, tn c2 _, tn c3 _] = _
      simp only [Int.natCast_zero, Int.zero_emod, Int.zero_ediv]
      rw [tn_zero (hq c0 (by simp)), tn_zero (hq c1 (by simp)), tn_zero (hq c2 (by simp)), tn_zero (hq c3 (by simp))]
    rw [e]
    have := List.take_append_drop t b
    rw [hd] at this
    exact this
  · rfl
theorem frame_sealed (l : List Int) : Sealed ((frameL l).drop 2) := by
  have : (frameL l).drop 2 = told l ++ le4 (moreL 0 (told l)) := by unfold frameL; rfl
  rw [this]
  exact (sealed_seal (told l)).1
set_option maxHeartbeats 1000000 in
/-- WHAT WAS TURNED IS NO FRAME. -/
theorem turn_frame (l : List Int) (hl : l.length ≤ 1200) (hz : ∀ c ∈ l, 0 ≤ c ∧ c < 256) (t y : Nat) (ht : t + 4 ≤ l.length + 8) (hy : y < 4294967296) (h0 : y ≠ 0) : wfB (turnL (frameL l) t y) = false := by
  cases hw : wfB (turnL (frameL l) t y) with
  | false => rfl
  | true =>
  exfalso
  have hfb : ∀ c ∈ frameL l, 0 ≤ c ∧ c < 256 := by
    intro c hc
    unfold frameL at hc
    rcases List.mem_append.1 hc with h | h
    · simp at h; omega
    · rcases List.mem_append.1 h with h | h
      · exact told_bytes hz hl c h
      · exact le4_bytes _ c h
  obtain ⟨e1, e2⟩ := wf_frame (turn_bytes hfb t y hy) hw
  generalize loadAt (turnL (frameL l) t y) = l' at *
  have elen : l'.length = l.length := by
    have := congrArg List.length e1
    rw [turn_len, frame_len, frame_len] at this
    omega
  have s1 := frame_sealed l
  have s2 := frame_sealed l'
  rw [← e1] at s2
  have c1 := frame_cons l
  have c2 := frame_cons l'
  rw [← e1, elen] at c2
  have hlen := frame_len l
  obtain ⟨p, d0, d1, d2, d3, r, hf, hp⟩ := split4 (frameL l) t (by omega)
  rw [hf] at hfb
  have hT : turnL (frameL l) t y = p ++ (qs d0 d1 d2 d3 y 4 ++ r) := by rw [hf, ← hp]; exact turnL_of p r d0 d1 d2 d3 y
  have k0 := hfb d0 (by simp)
  have k1 := hfb d1 (by simp)
  have k2 := hfb d2 (by simp)
  have k3 := hfb d3 (by simp)
  rw [hT] at s2 c2
  rw [hf] at s1 c1 hlen
  have f0 : 0 ≤ (y : Int) % 256 ∧ (y : Int) % 256 < 256 := by omega
  have f1 : 0 ≤ (y : Int) / 256 % 256 ∧ (y : Int) / 256 % 256 < 256 := by omega
  have f2 : 0 ≤ (y : Int) / 65536 % 256 ∧ (y : Int) / 65536 % 256 < 256 := by omega
  have f3 : 0 ≤ (y : Int) / 16777216 ∧ (y : Int) / 16777216 < 256 := by omega
  have hq : qs d0 d1 d2 d3 y 4 = [tn d0 ((y : Int) % 256), tn d1 ((y : Int) / 256 % 256), tn d2 ((y : Int) / 65536 % 256), tn d3 ((y : Int) / 16777216)] := rfl
  rw [hq] at s2 c2
  match p, hp with
  | [], _ =>
    simp only [List.nil_append, List.cons_append, List.cons.injEq] at c1 c2
    have g0 := tn_same k0 f0 (by omega)
    have g1 := tn_same k1 f1 (by omega)
    have g2 := tn_same k2 f2 (by omega)
    have g3 := tn_same k3 f3 (by omega)
    omega
  | [b0], _ =>
    simp only [List.nil_append, List.cons_append, List.cons.injEq] at c1 c2
    have g0 := tn_same k0 f0 (by omega)
    have g1 := tn_same k1 f1 (by omega)
    have g2 := tn_same k2 f2 (by omega)
    have hr4 : r.length = l.length + 3 := by
      simp at hlen
      omega
    match r, hr4 with
    | d4 :: r', _ =>
      have k4 := hfb d4 (by simp)
      have s1' : Sealed ([] ++ ([d1, d2, d3, d4] ++ r')) := s1
      have s2' : Sealed ([] ++ ([tn d1 ((y : Int) / 256 % 256), tn d2 ((y : Int) / 65536 % 256), tn d3 ((y : Int) / 16777216), d4] ++ r')) := s2
      have hne := turned_not [] r' d1 d2 d3 d4 (y / 16777216 * 65536) (by omega) (by omega) (fun c hc => hfb c (show c ∈ b0 :: d0 :: ([] ++ ([d1, d2, d3, d4] ++ r')) from List.mem_cons_of_mem _ (List.mem_cons_of_mem _ hc))) s1'
      refine hne ?_
      have w0 : (((y / 16777216 * 65536 : Nat) : Int)) % 256 = (y : Int) / 256 % 256 := by omega
      have w1 : (((y / 16777216 * 65536 : Nat) : Int)) / 256 % 256 = (y : Int) / 65536 % 256 := by omega
      have w2 : (((y / 16777216 * 65536 : Nat) : Int)) / 65536 % 256 = (y : Int) / 16777216 := by omega
      have w3 : (((y / 16777216 * 65536 : Nat) : Int)) / 16777216 = 0 := by omega
      rw [w0, w1, w2, w3, tn_zero k4]
      exact s2'
  | b0 :: b1 :: p', _ =>
    have s1' : Sealed (p' ++ ([d0, d1, d2, d3] ++ r)) := s1
    have s2' : Sealed (p' ++ ([tn d0 ((y : Int) % 256), tn d1 ((y : Int) / 256 % 256), tn d2 ((y : Int) / 65536 % 256), tn d3 ((y : Int) / 16777216)] ++ r)) := s2
    exact turned_not p' r d0 d1 d2 d3 y hy h0 (fun c hc => hfb c (by
      have : c ∈ b0 :: b1 :: (p' ++ ([d0, d1, d2, d3] ++ r)) := List.mem_cons_of_mem _ (List.mem_cons_of_mem _ hc)
      exact this)) s1' s2'
end Go.Proofs.YtfipdldoklkciaaGreat
namespace Go.Proofs.YtfipdldoklkciaaGreat
open Go.RowKit
set_option linter.unusedVariables false
theorem w64 (n : Int) : wrap64 n = IntKind.i64.wrap n := by
  rw [IntKind.wrap_i64]
  unfold wrap64
  omega
theorem from_any (a n b : Int) (w : World) : Calls Tryz.prog 115 #[.int .i64 a, .int .i64 n, .int .i64 b] w fun e w' => e = .returned (.bool (fromB a n b)) ∧ w' = w := by
  by_cases h0 : a ≤ n
  · have d0 : decide (a ≤ n) = true := by simpa using h0
    by_cases h1 : n ≤ b
    · have d1 : decide (n ≤ b) = true := by simpa using h1
      have e : fromB a n b = true := by simp [fromB, h0, h1]
      rw [e]
      clear h0 h1 e
      go_enter Tryz.func115, Tryz.ntmps115
      go_wp2
      go_ret
      all_goals simp_all
    · have d1 : decide (n ≤ b) = false := by simpa using h1
      have e : fromB a n b = false := by simp [fromB]; omega
      rw [e]
      clear h0 h1 e
      go_enter Tryz.func115, Tryz.ntmps115
      go_wp2
      go_ret
      all_goals simp_all
  · have d0 : decide (a ≤ n) = false := by simpa using h0
    have e : fromB a n b = false := by simp [fromB]; omega
    rw [e]
    clear h0 e
    go_enter Tryz.func115, Tryz.ntmps115
    go_wp2
    go_ret
    all_goals simp_all
def mval (m : Mg) (a : Option Addr) (n c : Nat) : Value := .agg #[.int .i64 m.kind, .int .u64 m.tok, .int .i64 m.ep, .int .i64 m.seq, .int .i64 m.ack, .int .u64 m.bits, .int .i64 m.cred, .int .i64 m.fmt, .slice a n c]
set_option maxRecDepth 100000 in
theorem may_raw (kd tk ep sq ak bt cr fm : Int) (a : Option Addr) (n c : Nat) (w : World) :
    Calls Tryz.prog 93 #[.agg #[.int .i64 kd, .int .u64 tk, .int .i64 ep, .int .i64 sq, .int .i64 ak, .int .u64 bt, .int .i64 cr, .int .i64 fm, .slice a n c]] w fun e w' => e = .returned (.bool (fromB 1 kd 7 && fromB 0 fm 2 && fromB 0 ep 4611686018427387904 && fromB 0 sq 4611686018427387904 && fromB 0 ak 4611686018427387904 && fromB 0 cr 4611686018427387904)) ∧ Below w.heap.size w w' := by
  have k0 := fun x => from_any 1 kd 7 x
  have k1 := fun x => from_any 0 fm 2 x
  have k2 := fun x => from_any 0 ep 4611686018427387904 x
  have k3 := fun x => from_any 0 sq 4611686018427387904 x
  have k4 := fun x => from_any 0 ak 4611686018427387904 x
  have k5 := fun x => from_any 0 cr 4611686018427387904 x
  cases h0 : fromB 1 kd 7 with
  | false =>
    rw [h0] at k0
    go_enter Tryz.func93, Tryz.ntmps93
    go_wp2_with (first | (go_at_call 115; refine (k0 _).mono ?_; rintro e w1 ⟨rfl, hw1⟩; obtain rfl := hw1.symm; clear hw1 k0) | (go_at_call 115; refine (k1 _).mono ?_; rintro e w1 ⟨rfl, hw1⟩; obtain rfl := hw1.symm; clear hw1 k1) | (go_at_call 115; refine (k2 _).mono ?_; rintro e w1 ⟨rfl, hw1⟩; obtain rfl := hw1.symm; clear hw1 k2) | (go_at_call 115; refine (k3 _).mono ?_; rintro e w1 ⟨rfl, hw1⟩; obtain rfl := hw1.symm; clear hw1 k3) | (go_at_call 115; refine (k4 _).mono ?_; rintro e w1 ⟨rfl, hw1⟩; obtain rfl := hw1.symm; clear hw1 k4) | (go_at_call 115; refine (k5 _).mono ?_; rintro e w1 ⟨rfl, hw1⟩; obtain rfl := hw1.symm; clear hw1 k5))
    go_ret
    exact ⟨rfl, (Below.refl w.heap.size w).alloc (Nat.le_refl _) _⟩
  | true =>
    rw [h0] at k0
    cases h1 : fromB 0 fm 2 with
    | false =>
      rw [h1] at k1
      go_enter Tryz.func93, Tryz.ntmps93
      go_wp2_with (first | (go_at_call 115; refine (k0 _).mono ?_; rintro e w1 ⟨rfl, hw1⟩; obtain rfl := hw1.symm; clear hw1 k0) | (go_at_call 115; refine (k1 _).mono ?_; rintro e w1 ⟨rfl, hw1⟩; obtain rfl := hw1.symm; clear hw1 k1) | (go_at_call 115; refine (k2 _).mono ?_; rintro e w1 ⟨rfl, hw1⟩; obtain rfl := hw1.symm; clear hw1 k2) | (go_at_call 115; refine (k3 _).mono ?_; rintro e w1 ⟨rfl, hw1⟩; obtain rfl := hw1.symm; clear hw1 k3) | (go_at_call 115; refine (k4 _).mono ?_; rintro e w1 ⟨rfl, hw1⟩; obtain rfl := hw1.symm; clear hw1 k4) | (go_at_call 115; refine (k5 _).mono ?_; rintro e w1 ⟨rfl, hw1⟩; obtain rfl := hw1.symm; clear hw1 k5))
      go_ret
      exact ⟨rfl, (Below.refl w.heap.size w).alloc (Nat.le_refl _) _⟩
    | true =>
      rw [h1] at k1
      cases h2 : fromB 0 ep 4611686018427387904 with
      | false =>
        rw [h2] at k2
        go_enter Tryz.func93, Tryz.ntmps93
        go_wp2_with (first | (go_at_call 115; refine (k0 _).mono ?_; rintro e w1 ⟨rfl, hw1⟩; obtain rfl := hw1.symm; clear hw1 k0) | (go_at_call 115; refine (k1 _).mono ?_; rintro e w1 ⟨rfl, hw1⟩; obtain rfl := hw1.symm; clear hw1 k1) | (go_at_call 115; refine (k2 _).mono ?_; rintro e w1 ⟨rfl, hw1⟩; obtain rfl := hw1.symm; clear hw1 k2) | (go_at_call 115; refine (k3 _).mono ?_; rintro e w1 ⟨rfl, hw1⟩; obtain rfl := hw1.symm; clear hw1 k3) | (go_at_call 115; refine (k4 _).mono ?_; rintro e w1 ⟨rfl, hw1⟩; obtain rfl := hw1.symm; clear hw1 k4) | (go_at_call 115; refine (k5 _).mono ?_; rintro e w1 ⟨rfl, hw1⟩; obtain rfl := hw1.symm; clear hw1 k5))
        go_ret
        exact ⟨rfl, (Below.refl w.heap.size w).alloc (Nat.le_refl _) _⟩
      | true =>
        rw [h2] at k2
        cases h3 : fromB 0 sq 4611686018427387904 with
        | false =>
          rw [h3] at k3
          go_enter Tryz.func93, Tryz.ntmps93
          go_wp2_with (first | (go_at_call 115; refine (k0 _).mono ?_; rintro e w1 ⟨rfl, hw1⟩; obtain rfl := hw1.symm; clear hw1 k0) | (go_at_call 115; refine (k1 _).mono ?_; rintro e w1 ⟨rfl, hw1⟩; obtain rfl := hw1.symm; clear hw1 k1) | (go_at_call 115; refine (k2 _).mono ?_; rintro e w1 ⟨rfl, hw1⟩; obtain rfl := hw1.symm; clear hw1 k2) | (go_at_call 115; refine (k3 _).mono ?_; rintro e w1 ⟨rfl, hw1⟩; obtain rfl := hw1.symm; clear hw1 k3) | (go_at_call 115; refine (k4 _).mono ?_; rintro e w1 ⟨rfl, hw1⟩; obtain rfl := hw1.symm; clear hw1 k4) | (go_at_call 115; refine (k5 _).mono ?_; rintro e w1 ⟨rfl, hw1⟩; obtain rfl := hw1.symm; clear hw1 k5))
          go_ret
          exact ⟨rfl, (Below.refl w.heap.size w).alloc (Nat.le_refl _) _⟩
        | true =>
          rw [h3] at k3
          cases h4 : fromB 0 ak 4611686018427387904 with
          | false =>
            rw [h4] at k4
            go_enter Tryz.func93, Tryz.ntmps93
            go_wp2_with (first | (go_at_call 115; refine (k0 _).mono ?_; rintro e w1 ⟨rfl, hw1⟩; obtain rfl := hw1.symm; clear hw1 k0) | (go_at_call 115; refine (k1 _).mono ?_; rintro e w1 ⟨rfl, hw1⟩; obtain rfl := hw1.symm; clear hw1 k1) | (go_at_call 115; refine (k2 _).mono ?_; rintro e w1 ⟨rfl, hw1⟩; obtain rfl := hw1.symm; clear hw1 k2) | (go_at_call 115; refine (k3 _).mono ?_; rintro e w1 ⟨rfl, hw1⟩; obtain rfl := hw1.symm; clear hw1 k3) | (go_at_call 115; refine (k4 _).mono ?_; rintro e w1 ⟨rfl, hw1⟩; obtain rfl := hw1.symm; clear hw1 k4) | (go_at_call 115; refine (k5 _).mono ?_; rintro e w1 ⟨rfl, hw1⟩; obtain rfl := hw1.symm; clear hw1 k5))
            go_ret
            exact ⟨rfl, (Below.refl w.heap.size w).alloc (Nat.le_refl _) _⟩
          | true =>
            rw [h4] at k4
            cases h5 : fromB 0 cr 4611686018427387904 with
            | false =>
              rw [h5] at k5
              go_enter Tryz.func93, Tryz.ntmps93
              go_wp2_with (first | (go_at_call 115; refine (k0 _).mono ?_; rintro e w1 ⟨rfl, hw1⟩; obtain rfl := hw1.symm; clear hw1 k0) | (go_at_call 115; refine (k1 _).mono ?_; rintro e w1 ⟨rfl, hw1⟩; obtain rfl := hw1.symm; clear hw1 k1) | (go_at_call 115; refine (k2 _).mono ?_; rintro e w1 ⟨rfl, hw1⟩; obtain rfl := hw1.symm; clear hw1 k2) | (go_at_call 115; refine (k3 _).mono ?_; rintro e w1 ⟨rfl, hw1⟩; obtain rfl := hw1.symm; clear hw1 k3) | (go_at_call 115; refine (k4 _).mono ?_; rintro e w1 ⟨rfl, hw1⟩; obtain rfl := hw1.symm; clear hw1 k4) | (go_at_call 115; refine (k5 _).mono ?_; rintro e w1 ⟨rfl, hw1⟩; obtain rfl := hw1.symm; clear hw1 k5))
              go_ret
              exact ⟨rfl, (Below.refl w.heap.size w).alloc (Nat.le_refl _) _⟩
            | true =>
              rw [h5] at k5
              go_enter Tryz.func93, Tryz.ntmps93
              go_wp2_with (first | (go_at_call 115; refine (k0 _).mono ?_; rintro e w1 ⟨rfl, hw1⟩; obtain rfl := hw1.symm; clear hw1 k0) | (go_at_call 115; refine (k1 _).mono ?_; rintro e w1 ⟨rfl, hw1⟩; obtain rfl := hw1.symm; clear hw1 k1) | (go_at_call 115; refine (k2 _).mono ?_; rintro e w1 ⟨rfl, hw1⟩; obtain rfl := hw1.symm; clear hw1 k2) | (go_at_call 115; refine (k3 _).mono ?_; rintro e w1 ⟨rfl, hw1⟩; obtain rfl := hw1.symm; clear hw1 k3) | (go_at_call 115; refine (k4 _).mono ?_; rintro e w1 ⟨rfl, hw1⟩; obtain rfl := hw1.symm; clear hw1 k4) | (go_at_call 115; refine (k5 _).mono ?_; rintro e w1 ⟨rfl, hw1⟩; obtain rfl := hw1.symm; clear hw1 k5))
              go_ret
              exact ⟨rfl, (Below.refl w.heap.size w).alloc (Nat.le_refl _) _⟩
theorem may_m (m : Mg) (a : Option Addr) (n c : Nat) (w : World) : Calls Tryz.prog 93 #[mval m a n c] w fun e w' => e = .returned (.bool (mayM m)) ∧ Below w.heap.size w w' := may_raw _ _ _ _ _ _ _ _ a n c w
theorem nums_raw (kd tk ep sq ak bt cr fm : Int) (a : Option Addr) (n c : Nat) (w : World) (h0 : 0 ≤ kd ∧ kd < 18446744073709551616) (h2 : 0 ≤ ep ∧ ep < 18446744073709551616) (h3 : 0 ≤ sq ∧ sq < 18446744073709551616) (h4 : 0 ≤ ak ∧ ak < 18446744073709551616) (h6 : 0 ≤ cr ∧ cr < 18446744073709551616) (h7 : 0 ≤ fm ∧ fm < 18446744073709551616) :
    Calls Tryz.prog 106 #[.agg #[.int .i64 kd, .int .u64 tk, .int .i64 ep, .int .i64 sq, .int .i64 ak, .int .u64 bt, .int .i64 cr, .int .i64 fm, .slice a n c]] w fun e w' => e = .returned (.agg #[.int .u64 kd, .int .u64 tk, .int .u64 ep, .int .u64 sq, .int .u64 ak, .int .u64 bt, .int .u64 cr, .int .u64 fm]) ∧ Below w.heap.size w w' := by
  have e64 : (2 : Int) ^ 64 = 18446744073709551616 := by decide
  have g0 : IntKind.u64.wrap kd = kd := wraps_u64 _ h0.1 (by omega)
  have g2 : IntKind.u64.wrap ep = ep := wraps_u64 _ h2.1 (by omega)
  have g3 : IntKind.u64.wrap sq = sq := wraps_u64 _ h3.1 (by omega)
  have g4 : IntKind.u64.wrap ak = ak := wraps_u64 _ h4.1 (by omega)
  have g6 : IntKind.u64.wrap cr = cr := wraps_u64 _ h6.1 (by omega)
  have g7 : IntKind.u64.wrap fm = fm := wraps_u64 _ h7.1 (by omega)
  clear h0 h2 h3 h4 h6 h7 e64
  go_enter Tryz.func106, Tryz.ntmps106
  go_wp2
  refine bodyPost_ret (v := .agg #[.int .u64 kd, .int .u64 tk, .int .u64 ep, .int .u64 sq, .int .u64 ak, .int .u64 bt, .int .u64 cr, .int .u64 fm]) (by simp [results, Tryz.results106, go_sem]) rfl ⟨rfl, ?_⟩
  repeat (refine Below.setCell ?_ (by first | exact Nat.le_refl _ | simp) _)
  exact ((Below.refl w.heap.size w).alloc (Nat.le_refl _) _).alloc (by simp) _
theorem msgof_raw (n0 n1 n2 n3 n4 n5 n6 n7 : Int) (a : Option Addr) (n c : Nat) (w : World) :
    Calls Tryz.prog 89 #[.agg #[.int .u64 n0, .int .u64 n1, .int .u64 n2, .int .u64 n3, .int .u64 n4, .int .u64 n5, .int .u64 n6, .int .u64 n7], .slice a n c] w fun e w' => e = .returned (.agg #[.int .i64 (IntKind.i64.wrap n0), .int .u64 n1, .int .i64 (IntKind.i64.wrap n2), .int .i64 (IntKind.i64.wrap n3), .int .i64 (IntKind.i64.wrap n4), .int .u64 n5, .int .i64 (IntKind.i64.wrap n6), .int .i64 (IntKind.i64.wrap n7), .slice a n c]) ∧ Below w.heap.size w w' := by
  go_enter Tryz.func89, Tryz.ntmps89
  go_wp2
  refine bodyPost_ret (v := .agg #[.int .i64 (IntKind.i64.wrap n0), .int .u64 n1, .int .i64 (IntKind.i64.wrap n2), .int .i64 (IntKind.i64.wrap n3), .int .i64 (IntKind.i64.wrap n4), .int .u64 n5, .int .i64 (IntKind.i64.wrap n6), .int .i64 (IntKind.i64.wrap n7), .slice a n c]) (by simp [results, Tryz.results89, go_sem, w64]) rfl ⟨rfl, ?_⟩
  repeat (refine Below.setCell ?_ (by first | exact Nat.le_refl _ | simp) _)
  exact ((Below.refl w.heap.size w).alloc (Nat.le_refl _) _).alloc (by simp) _
end Go.Proofs.YtfipdldoklkciaaGreat
namespace Go.Proofs.YtfipdldoklkciaaGreat
open Go.RowKit
set_option linter.unusedVariables false
theorem bown_empty (w : World) (base : Nat) (hb : base ≤ w.heap.size) : OwnsB (w.alloc (.cells #[] 5)) base (.slice (some ⟨w.heap.size, 0, none⟩) 0 0) [] := by
  refine ⟨⟨rfl, .inr ⟨w.heap.size, 0, _, rfl, hb, heap_alloc_new w _, Nat.le_refl _, by decide, rfl, rfl⟩⟩, by simp⟩
theorem clone_any (a : Option Addr) (n c : Nat) (zs : List Int) (w : World) (hn : zs.length = n) (h0 : a = none → c = 0) (hle : n ≤ c) (hb : Bytes w a zs) (hl : n ≤ 100000) :
    Calls Tryz.prog 62 #[.slice a n c] w fun e w' => ∃ v, e = .returned v ∧ Hid (OwnsB w' w.heap.size v zs) ∧ Hid (Below w.heap.size w w') := by
  have q22 : ∀ (w : World) (a : Option Addr) (n c n' c' : Nat), (binOp .eql 42 (.slice a n c) (.slice none n' c')).run Tryz.prog w = .ok (.bool a.isNone) w := fun w a n c n' c' => Lib.run_eql_slice_nil w _ _ a n c n' c' Tryz.underlying42
  cases a with
  | none =>
    have hc := h0 rfl
    have hn0 : n = 0 := by omega
    have hp : zs = [] := List.eq_nil_of_length_eq_zero (by omega)
    subst hp hn0 hc
    clear hb h0
    go_enter Tryz.func62, Tryz.ntmps62
    go_wp2
    go_ret
    exact ⟨_, rfl, ownsB_nil _ _, Below.refl _ _⟩
  | some x =>
    have hO := bown_empty w w.heap.size (Nat.le_refl _)
    have hA : Below w.heap.size w (w.alloc (.cells #[] 5)) := (Below.refl _ _).alloc (Nat.le_refl _) _
    have hP := hb.kept hA
    have hl1 : Hid (zs.length = n) := hn
    have hf : Hid (n ≤ 100000) := hl
    clear hb hn hl h0
    go_enter Tryz.func62, Tryz.ntmps62
    go_wp2_with (at_builtin; refine wpList_append_bytes rfl (.tmp 5) (.tmp 6) rfl w.heap.size (.slice (some ⟨w.heap.size, 0, none⟩) 0 0) [] zs rfl hO (some x) n c rfl hl1.out (by intro h; cases h) hP (by have := hl1.out; have := hf.out; simp; omega) hA.size ?_; intro v w2 ho hg; have hB : Hid (Below w.heap.size w w2) := grown_below hA hO hg hA.size; have hv : Hid (OwnsB w2 w.heap.size v zs) := ho; clear ho hg hO hA hP; obtain ⟨va, vn, vc, rfl, _⟩ := hv.out.form)
    go_ret
    exact ⟨_, rfl, hv, hB⟩
theorem equal_any (a1 a2 : Option Addr) (n1 n2 c1 c2 : Nat) (z1 z2 : List Int) (w : World) (h1 : Bytes w a1 z1) (h2 : Bytes w a2 z2) (hl1 : z1.length = n1) (hl2 : z2.length = n2) :
    Calls Tryz.prog 110 #[.slice a1 n1 c1, .slice a2 n2 c2] w fun e w' => e = .returned (.bool (decide (z1 = z2))) ∧ w' = w := by
  have k1 := conv_str h1 n1 c1 hl1
  have k2 := conv_str h2 n2 c2 hl2
  have k3 := str_eq h1.1 h2.1
  clear h1 h2 hl1 hl2
  go_enter Tryz.func110, Tryz.ntmps110
  go_wp2
  go_ret
  all_goals simp_all
theorem mod_any (n : Int) (m : Nat) (w : World) (hm : 0 < m) (hm2 : m ≤ 100000) (hn : (Lit.int .i64 n).wf = true) :
    Calls Tryz.prog 94 #[.int .i64 n, .int .i64 (m : Nat)] w fun e w' => e = .returned (.int .i64 ((n % (m : Int)).toNat : Nat)) ∧ w' = w := by
  simp [Lit.wf, show IntKind.i64.min = -9223372036854775808 from by decide, show IntKind.i64.max = 9223372036854775807 from by decide] at hn
  have e0 : (m : Int) ≠ 0 := by omega
  have b1 := Int.tmod_lt_of_pos n (show (0 : Int) < (m : Int) by omega)
  have b2 : -(m : Int) < Int.tmod n m := by
    have := Int.lt_tmod_of_pos n (show (0 : Int) < (m : Int) by omega)
    omega
  have w1 : IntKind.i64.wrap (Int.tmod n m) = Int.tmod n m := by rw [IntKind.wrap_i64]; omega
  have w2 : IntKind.i64.wrap (Int.tmod n m + m) = Int.tmod n m + m := by rw [IntKind.wrap_i64]; omega
  have e1 : Int.tmod (Int.tmod n m + m) m = n % (m : Int) := by
    rw [Int.tmod_eq_emod_of_nonneg (by omega), Int.add_emod_right]
    have h := Int.mul_tdiv_add_tmod n m
    have h2 : n = Int.tmod n m + m * Int.tdiv n m := by omega
    conv => rhs; rw [h2]
    rw [Int.add_mul_emod_self_left]
  have p0 := Int.emod_nonneg n e0
  have e2 : n % (m : Int) = (((n % (m : Int)).toNat : Nat) : Int) := by omega
  have p1 := Int.emod_lt_of_pos n (show (0 : Int) < (m : Int) by omega)
  have w3 : IntKind.i64.wrap (n % (m : Int)) = n % (m : Int) := by rw [IntKind.wrap_i64]; omega
  rw [e2] at e1 w3
  have e0' : ((m : Int) == 0) = false := by simp; omega
  have w4 : wrap64 (Int.tmod n m) = Int.tmod n m := (w64 _).trans w1
  have w5 : wrap64 (Int.tmod n m + m) = Int.tmod n m + m := (w64 _).trans w2
  generalize (n % (m : Int)).toNat = r at *
  clear e2 p0 p1 b1 b2 hn hm hm2
  go_enter Tryz.func94, Tryz.ntmps94
  go_wp2
  go_ret
  all_goals simp_all
end Go.Proofs.YtfipdldoklkciaaGreat
namespace Go.Proofs.YtfipdldoklkciaaGreat
open Go.RowKit
set_option linter.unusedVariables false
theorem pack_arg (m : Mg) (a : Option Addr) (n c : Nat) (w : World) (h : mayM m = false) :
    Calls Tryz.prog 84 #[mval m a n c] w fun e w' => e = .returned (.tuple #[.slice none 0 0, .int .i64 1]) ∧ Hid (Below w.heap.size w w') := by
  have k0 := fun x => may_m m a n c x
  rw [h] at k0
  unfold mval at *
  clear h
  go_enter Tryz.func84, Tryz.ntmps84
  go_wp2_with (go_at_call 93; refine (k0 _).mono ?_; rintro e w1 ⟨rfl, hb1⟩; clear k0; have hB : Hid (Below w.heap.size w w1) := ((Below.refl w.heap.size w).alloc (Nat.le_refl _) _).trans (hb1.mono (by simp)); clear hb1)
  go_ret2
  exact ⟨rfl, hB⟩
def PkR (w w' : World) (m : Mg) (v : Value) : Prop := (pkE m = 0 → OwnsB w' w.heap.size v (pkB m)) ∧ (pkE m ≠ 0 → v = .slice none 0 0)
theorem idx8_0 (n0 n1 n2 n3 n4 n5 n6 n7 : Int) (W : World) : (Instr.index 136 (.agg #[.int .u64 n0, .int .u64 n1, .int .u64 n2, .int .u64 n3, .int .u64 n4, .int .u64 n5, .int .u64 n6, .int .u64 n7]) (.int .i64 ((0 : Nat) : Int))).run Tryz.prog W = .ok (.int .u64 n0) W := by kernel_rfl
theorem idx8_1 (n0 n1 n2 n3 n4 n5 n6 n7 : Int) (W : World) : (Instr.index 136 (.agg #[.int .u64 n0, .int .u64 n1, .int .u64 n2, .int .u64 n3, .int .u64 n4, .int .u64 n5, .int .u64 n6, .int .u64 n7]) (.int .i64 ((1 : Nat) : Int))).run Tryz.prog W = .ok (.int .u64 n1) W := by kernel_rfl
theorem idx8_2 (n0 n1 n2 n3 n4 n5 n6 n7 : Int) (W : World) : (Instr.index 136 (.agg #[.int .u64 n0, .int .u64 n1, .int .u64 n2, .int .u64 n3, .int .u64 n4, .int .u64 n5, .int .u64 n6, .int .u64 n7]) (.int .i64 ((2 : Nat) : Int))).run Tryz.prog W = .ok (.int .u64 n2) W := by kernel_rfl
theorem idx8_3 (n0 n1 n2 n3 n4 n5 n6 n7 : Int) (W : World) : (Instr.index 136 (.agg #[.int .u64 n0, .int .u64 n1, .int .u64 n2, .int .u64 n3, .int .u64 n4, .int .u64 n5, .int .u64 n6, .int .u64 n7]) (.int .i64 ((3 : Nat) : Int))).run Tryz.prog W = .ok (.int .u64 n3) W := by kernel_rfl
theorem idx8_4 (n0 n1 n2 n3 n4 n5 n6 n7 : Int) (W : World) : (Instr.index 136 (.agg #[.int .u64 n0, .int .u64 n1, .int .u64 n2, .int .u64 n3, .int .u64 n4, .int .u64 n5, .int .u64 n6, .int .u64 n7]) (.int .i64 ((4 : Nat) : Int))).run Tryz.prog W = .ok (.int .u64 n4) W := by kernel_rfl
theorem idx8_5 (n0 n1 n2 n3 n4 n5 n6 n7 : Int) (W : World) : (Instr.index 136 (.agg #[.int .u64 n0, .int .u64 n1, .int .u64 n2, .int .u64 n3, .int .u64 n4, .int .u64 n5, .int .u64 n6, .int .u64 n7]) (.int .i64 ((5 : Nat) : Int))).run Tryz.prog W = .ok (.int .u64 n5) W := by kernel_rfl
theorem idx8_6 (n0 n1 n2 n3 n4 n5 n6 n7 : Int) (W : World) : (Instr.index 136 (.agg #[.int .u64 n0, .int .u64 n1, .int .u64 n2, .int .u64 n3, .int .u64 n4, .int .u64 n5, .int .u64 n6, .int .u64 n7]) (.int .i64 ((6 : Nat) : Int))).run Tryz.prog W = .ok (.int .u64 n6) W := by kernel_rfl
theorem idx8_7 (n0 n1 n2 n3 n4 n5 n6 n7 : Int) (W : World) : (Instr.index 136 (.agg #[.int .u64 n0, .int .u64 n1, .int .u64 n2, .int .u64 n3, .int .u64 n4, .int .u64 n5, .int .u64 n6, .int .u64 n7]) (.int .i64 ((7 : Nat) : Int))).run Tryz.prog W = .ok (.int .u64 n7) W := by kernel_rfl
theorem idx_nums (m : Mg) (h : mayM m = true) (ho : Mok m) (k : Nat) (hk : k < 8) (W : World) :
    (Instr.index 136 (.agg #[.int .u64 m.kind, .int .u64 m.tok, .int .u64 m.ep, .int .u64 m.seq, .int .u64 m.ack, .int .u64 m.bits, .int .u64 m.cred, .int .u64 m.fmt]) (.int .i64 (k : Nat))).run Tryz.prog W = .ok (.int .u64 (((nums m).getD k 0 : Nat) : Int)) W := by
  have h1 := mayM_iff.1 h
  have h2 := ho.t1
  have h3 := ho.b1
  have e0 : ((m.kind.toNat : Nat) : Int) = m.kind := by omega
  have e1 : ((m.tok.toNat : Nat) : Int) = m.tok := by omega
  have e2 : ((m.ep.toNat : Nat) : Int) = m.ep := by omega
  have e3 : ((m.seq.toNat : Nat) : Int) = m.seq := by omega
  have e4 : ((m.ack.toNat : Nat) : Int) = m.ack := by omega
  have e5 : ((m.bits.toNat : Nat) : Int) = m.bits := by omega
  have e6 : ((m.cred.toNat : Nat) : Int) = m.cred := by omega
  have e7 : ((m.fmt.toNat : Nat) : Int) = m.fmt := by omega
  match k, hk with
  | 0, _ => rw [show (nums m).getD 0 0 = m.kind.toNat from rfl, e0]; exact idx8_0 _ _ _ _ _ _ _ _ W
  | 1, _ => rw [show (nums m).getD 1 0 = m.tok.toNat from rfl, e1]; exact idx8_1 _ _ _ _ _ _ _ _ W
  | 2, _ => rw [show (nums m).getD 2 0 = m.ep.toNat from rfl, e2]; exact idx8_2 _ _ _ _ _ _ _ _ W
  | 3, _ => rw [show (nums m).getD 3 0 = m.seq.toNat from rfl, e3]; exact idx8_3 _ _ _ _ _ _ _ _ W
  | 4, _ => rw [show (nums m).getD 4 0 = m.ack.toNat from rfl, e4]; exact idx8_4 _ _ _ _ _ _ _ _ W
  | 5, _ => rw [show (nums m).getD 5 0 = m.bits.toNat from rfl, e5]; exact idx8_5 _ _ _ _ _ _ _ _ W
  | 6, _ => rw [show (nums m).getD 6 0 = m.cred.toNat from rfl, e6]; exact idx8_6 _ _ _ _ _ _ _ _ W
  | 7, _ => rw [show (nums m).getD 7 0 = m.fmt.toNat from rfl, e7]; exact idx8_7 _ _ _ _ _ _ _ _ W
set_option maxHeartbeats 1000000 in
set_option maxRecDepth 100000 in
theorem pack_may (m : Mg) (a : Option Addr) (n c : Nat) (w : World) (h : mayM m = true) (ho : Mok m) (hn : m.zs.length = n) (h0 : a = none → c = 0) (hb : Bytes w a m.zs) (hl : n + 200 ≤ 140737488355328) :
    Calls Tryz.prog 84 #[mval m a n c] w fun e w' => ∃ v, e = .returned (.tuple #[v, .int .i64 (pkE m)]) ∧ Hid (PkR w w' m v) ∧ Hid (Below w.heap.size w w') := by
  have k0 := fun x => may_m m a n c x
  rw [h] at k0
  have h1 := mayM_iff.1 h
  have k1 := fun x => nums_raw m.kind m.tok m.ep m.seq m.ack m.bits m.cred m.fmt a n c x (by omega) (by omega) (by omega) (by omega) (by omega) (by omega)
  have hI : Hid (∀ (k : Nat) (W : World), k < 8 → _) := fun k W hk => idx_nums m h ho k hk W
  have hnl : Hid (∀ x ∈ nums m, x < 18446744073709551616) := nums_lt h ho
  have hN8 : Hid ((nums m).length = 8) := rfl
  have hB0 : Hid (Bytes w a m.zs) := hb
  have hn' : Hid (m.zs.length = n) := hn
  have h0' : Hid (a = none → c = 0) := h0
  have hl' : Hid (n + 200 ≤ 140737488355328) := hl
  have hE : Hid (pkE m = if 1200 < (hdr m).length + n then 8 else 0) := by
    show _ = _
    unfold pkE
    rw [if_neg (by rw [h]; decide), hn]
  have hlen : Hid ((hdr m).length ≤ 80) := hdr_len h ho
  have hH : Hid (hdr m = hdrK (nums m) 8) := rfl
  unfold mval at *
  clear h h1 ho hb hn h0 hl
  generalize nums m = ns at *
  go_enter Tryz.func84, Tryz.ntmps84
  go_wp2_with fail
  have hbk : Hid (Blk (w.alloc (.cells #[.int .i64 m.kind, .int .u64 m.tok, .int .i64 m.ep, .int .i64 m.seq, .int .i64 m.ack, .int .u64 m.bits, .int .i64 m.cred, .int .i64 m.fmt, .slice a n c] 100)) w.heap.size _ 100) := blk_new w _ _
  have hW : Hid (Below w.heap.size w (w.alloc (.cells #[.int .i64 m.kind, .int .u64 m.tok, .int .i64 m.ep, .int .i64 m.seq, .int .i64 m.ack, .int .u64 m.bits, .int .i64 m.cred, .int .i64 m.fmt, .slice a n c] 100))) := (Below.refl w.heap.size w).alloc (Nat.le_refl _) _
  generalize (w.alloc (.cells #[.int .i64 m.kind, .int .u64 m.tok, .int .i64 m.ep, .int .i64 m.seq, .int .i64 m.ack, .int .u64 m.bits, .int .i64 m.cred, .int .i64 m.fmt, .slice a n c] 100)) = W at *
  generalize hrr : w.heap.size = r at *
  have hr : Hid (w.heap.size = r) := hrr
  clear hrr
  refine (k0 W).mono ?_
  rintro e w1 ⟨rfl, hb1⟩
  have hB1 : Hid (Below W.heap.size W w1) := hb1
  have hbk1 : Hid (Blk w1 r #[.int .i64 m.kind, .int .u64 m.tok, .int .i64 m.ep, .int .i64 m.seq, .int .i64 m.ack, .int .u64 m.bits, .int .i64 m.cred, .int .i64 m.fmt, .slice a n c] 100) := hbk.out.kept hb1
  have c0 : w1.cell? ⟨r, 0, none⟩ = some (.int .i64 m.kind) := hbk1.out.cell 0
  have c1 : w1.cell? ⟨r, 1, none⟩ = some (.int .u64 m.tok) := hbk1.out.cell 1
  have c2 : w1.cell? ⟨r, 2, none⟩ = some (.int .i64 m.ep) := hbk1.out.cell 2
  have c3 : w1.cell? ⟨r, 3, none⟩ = some (.int .i64 m.seq) := hbk1.out.cell 3
  have c4 : w1.cell? ⟨r, 4, none⟩ = some (.int .i64 m.ack) := hbk1.out.cell 4
  have c5 : w1.cell? ⟨r, 5, none⟩ = some (.int .u64 m.bits) := hbk1.out.cell 5
  have c6 : w1.cell? ⟨r, 6, none⟩ = some (.int .i64 m.cred) := hbk1.out.cell 6
  have c7 : w1.cell? ⟨r, 7, none⟩ = some (.int .i64 m.fmt) := hbk1.out.cell 7
  have c8 : w1.cell? ⟨r, 8, none⟩ = some (.slice a n c) := hbk1.out.cell 8
  clear hb1 k0
  go_wp2_with (go_at_call 106; refine (k1 _).mono ?_; rintro e w2 ⟨rfl, hb2⟩; clear k1)
  have hB2 : Hid (Below W.heap.size W w2) := hB1.out.trans (hb2.mono hB1.out.size)
  clear hB1 hb2 c0 c1 c2 c3 c4 c5 c6 c7 c8 hbk1
  go_loopw [4, 12] (fun s4 s12 wr => ∃ (k : Nat) (v : Value), k ≤ 8 ∧ s4 = v ∧ s12 = .int .i64 (k : Nat) ∧ Hid (OwnsB wr W.heap.size v (hdrK ns k)) ∧ Hid (Below W.heap.size W wr)) (fun _ i _ => 8 - (intOf i).toNat)
  case atStart => exact ⟨0, _, by omega, rfl, rfl, ownsB_nil _ _, hB2⟩
  case round =>
    obtain ⟨k, v, hk, rfl, rfl, hO, hB⟩ := hrel
    clear hB2
    obtain ⟨av, nv, cv, rfl, hnv, h0v, hlv, hmv, hbv⟩ := hO.out.form
    by_cases hlt : k < 8
    · have hd : decide ((k : Int) < 8) = true := by simp; omega
      have hi := fun W => hI.out k W hlt
      have hx : ns.getD k 0 < 18446744073709551616 := by
        rw [List.getD_eq_getElem?_getD, List.getElem?_eq_getElem (by rw [hN8.out]; omega)]
        exact hnl.out _ (List.getElem_mem _)
      have hs : hdrK ns (k + 1) = hdrK ns k ++ shortL (ns.getD k 0) := by
        rw [hdrK_succ ns (by rw [hN8.out]; omega), List.getD_eq_getElem?_getD, List.getElem?_eq_getElem (by rw [hN8.out]; omega)]
        rfl
      have hs' : Hid _ := hs
      have hkl := hdrK_len ns hnl.out k (by rw [hN8.out]; omega)
      have k2 := putShort_any av nv cv (ns.getD k 0) (hdrK ns k) wr hx hnv.out hbv.out h0v.out (by have := hnv.out; omega)
      rw [← hs] at k2
      clear hx hs hkl hnv h0v hbv hlv hmv
      generalize ns.getD k 0 = x at *
      go_wp2_with (go_at_call 107; refine k2.mono ?_; rintro e w3 ⟨v3, rfl, hO3, hb3⟩; clear k2)
      exact ⟨⟨k + 1, _, by omega, rfl, by simp, (hO3.base hB.out.size), hB.out.trans (hb3.mono hB.out.size)⟩, by simp [intOf]; omega⟩
    · have hd : decide ((k : Int) < 8) = false := by simp; omega
      obtain rfl : k = 8 := by omega
      rw [← hH.out] at hO
      have hbk3 : Hid (Blk wr r #[.int .i64 m.kind, .int .u64 m.tok, .int .i64 m.ep, .int .i64 m.seq, .int .i64 m.ack, .int .u64 m.bits, .int .i64 m.cred, .int .i64 m.fmt, .slice a n c] 100) := (hB.out.block r hbk.out.lt).trans hbk.out
      have c8 : wr.cell? ⟨r, 8, none⟩ = some (.slice a n c) := hbk3.out.cell 8
      have hBz : Hid (Bytes wr a m.zs) := (hB0.out.below (B := r) hW.out (fun x hx hne => by subst hx; have := hB0.out.lt hne; have := hr.out; omega)).kept hB.out
      clear hlt hI hnv h0v hbv hlv hmv hbk3
      go_wp2_with (at_builtin; refine wpList_append_bytes rfl _ _ rfl W.heap.size _ (hdr m) m.zs rfl hO.out a n c rfl hn'.out h0'.out hBz.out (by have := hlen.out; have := hn'.out; have := hl'.out; omega) hB.out.size ?_; intro v4 w4 hO4 hg4; have hb4 : Hid (Below W.heap.size W w4) := grown_below hB.out hO.out hg4 hB.out.size; have hO4' : Hid (OwnsB w4 W.heap.size v4 (hdr m ++ m.zs)) := hO4; clear hg4 hO4; obtain ⟨a4, n4, c4, rfl, hn4, h04, hl4, hm4, hby4⟩ := hO4'.out.form)
      have hlx : Hid ((hdr m ++ m.zs).length = (hdr m).length + n) := by show _ = _; rw [List.length_append, hn'.out]
      have hBw : Hid (∀ x, Below W.heap.size W x → Below w.heap.size w x) := fun x hx => by
        rw [hr.out]
        exact hW.out.trans (hx.mono (by have := hbk.out.lt; omega))
      by_cases hbig : 1200 < (hdr m).length + n
      · have hE8 : Hid (pkE m = 8) := by show _ = _; rw [hE.out, if_pos hbig]
        refine (encode_many a4 n4 c4 w4 (by have := hn4.out; have := hlx.out; omega)).mono ?_
        rintro e w5 ⟨rfl, hw5⟩
        obtain rfl := hw5.symm
        go_wp2
        refine bodyPost_ret (v := .tuple #[.slice none 0 0, .int .i64 8]) (by simp [results, Tryz.results84, go_sem]) rfl ⟨_, by rw [hE8.out], ⟨fun h => (by rw [hE8.out] at h; cases h), fun _ => rfl⟩, hBw.out _ hb4.out⟩
      · have hE0 : Hid (pkE m = 0) := by show _ = _; rw [hE.out, if_neg hbig]
        refine (encode_ok a4 n4 c4 (hdr m ++ m.zs) w4 hn4.out hby4.out h04.out (by have := hn4.out; have := hlx.out; omega)).mono ?_
        rintro e w5 ⟨v5, rfl, hO5, hb5⟩
        have hb5' : Hid (Below W.heap.size W w5) := hb4.out.trans (hb5.mono hb4.out.size)
        have hO5' : Hid (OwnsB w5 r v5 (pkB m)) := hO5.base (by have := hb4.out.size; have := hbk.out.lt; omega)
        go_wp2
        refine bodyPost_ret (v := .tuple #[v5, .int .i64 0]) (by simp [results, Tryz.results84, go_sem]) rfl ⟨_, by rw [hE0.out], ⟨fun _ => (by rw [hr.out]; exact hO5'.out), fun h => absurd hE0.out h⟩, hBw.out _ hb5'.out⟩
end Go.Proofs.YtfipdldoklkciaaGreat
namespace Go.Proofs.YtfipdldoklkciaaGreat
open Go.RowKit
set_option linter.unusedVariables false
theorem clt {w : World} {a : Addr} {v : Value} (h : w.cell? a = some v) : a.block < w.heap.size := by
  by_cases hb : a.block < w.heap.size
  · exact hb
  · rw [World.cell?, Array.getElem?_eq_none (by omega)] at h
    cases h
theorem scan_short {zs l : List Int} (h : l ∈ (scanL zs).1) : l.length ≤ 1200 := by
  obtain ⟨p, h1, h2⟩ := scan_in zs l h
  have := load_len h1.2.1
  rw [← h2] at this
  rw [this]
  exact h1.1.2
set_option maxHeartbeats 1000000 in
set_option maxRecDepth 100000 in
theorem loadof_small (a : Option Addr) (n cap : Nat) (zs : List Int) (w : World) (hl : zs.length = n) (hb : Bytes w a zs) (hc : n ≤ cap) (hcm : cap ≤ 9223372036854775807) (hn : n ≤ 1208) :
    Calls Tryz.prog 86 #[.slice a n cap] w fun e w' => (wfB zs = true → ∃ a' n' c', e = .returned (.tuple #[.slice a' n' c', .bool true]) ∧ Hid (Bytes w' a' (loadAt zs) ∧ (loadAt zs).length = n' ∧ (a' = none → c' = 0) ∧ n' ≤ 1200)) ∧ (wfB zs = false → ∃ v, e = .returned (.tuple #[v, .bool false])) ∧ Hid (Below w.heap.size w w') := by
  have d0 : decide ((n : Int) > 1208) = false := by simp; omega
  have hB : Hid (Bytes w a zs) := hb
  have hL : Hid (zs.length = n) := hl
  have k0 := scan_any a n cap zs w hl hb hc hcm (by omega)
  clear hl hb hc hcm hn
  go_enter Tryz.func86, Tryz.ntmps86
  go_wp2_with fail
  refine k0.mono ?_
  rintro e w1 ⟨v1, rfl, hO, hb1⟩
  clear k0
  obtain ⟨a1, n1, c1, rfl, hn1, h01, hl1, hm1, hLs⟩ := hO.lists
  have hB1 : Hid (Below w.heap.size w w1) := hb1
  clear hb1 hO
  have hz1 : Hid (Bytes w1 a zs) := hB.out.kept hB1.out
  by_cases h0 : (scanL zs).1 = []
  · have e0 : n1 = 0 := by rw [← hn1.out, h0]; rfl
    have hw : wfB zs = false := by
      cases hw : wfB zs with
      | false => rfl
      | true =>
        have h1 := congrArg Prod.fst (scan_whole (wfB_iff.1 hw).1)
        rw [h0] at h1
        cases h1
    subst e0
    clear hLs h0
    go_wp2
    refine bodyPost_ret (v := .tuple #[.slice none 0 0, .bool false]) (by simp [results, Tryz.results86, go_sem]) rfl ⟨fun h => ?_, fun _ => ⟨_, rfl⟩, hB1⟩
    rw [hw] at h
    cases h
  · obtain ⟨l0, Lr, hcons⟩ : ∃ l0 Lr, (scanL zs).1 = l0 :: Lr := by
      cases hx : (scanL zs).1 with
      | nil => exact absurd hx h0
      | cons x y => exact ⟨x, y, rfl⟩
    have e0 : ((n1 : Int) == 0) = false := by
      have : n1 ≠ 0 := by rw [← hn1.out, hcons]; simp
      simp; exact this
    have hn1p : 0 < n1 := by rw [← hn1.out, hcons]; simp
    have hs0 : Hid (l0.length ≤ 1200) := scan_short (zs := zs) (by rw [hcons]; simp)
    obtain ⟨b, off, vs, rfl, hsafe, hvl, hcel⟩ : ∃ (b off : Nat) (vs : List Value), a1 = some ⟨b, off, none⟩ ∧ Safe w1 0 42 b ∧ vs.length = (scanL zs).1.length ∧ ∀ i u, vs[i]? = some u → w1.cell? ⟨b, off + i, none⟩ = some u ∧ Load w1 0 u ((scanL zs).1.getD i []) := by
      rcases hLs.out.2 with h | ⟨b, off, vs, h1, h2, h3, h4⟩
      · exact absurd h h0
      · exact ⟨b, off, vs, h1, h2, h3, h4⟩
    obtain ⟨l, al, nl, cl, q0, q1, q2, q3, q4, q5, q6, q7, q8⟩ := next_load hvl hcel (k := 0) (by rw [hcons]; simp)
    rw [Nat.add_zero] at q0
    obtain rfl : l = l0 := by
      have := q8.out
      rw [hcons] at this
      simpa using this.symm
    have k1 := encode_ok al nl cl l w1 q1.out q2.out q3.out (by have := q1.out; have := hs0.out; omega)
    have hE : Hid ((wfB zs = true → l = loadAt zs) ∧ decide (frameL l = zs) = wfB zs) := by
      constructor
      · intro hw
        have h1 := congrArg Prod.fst (scan_whole (wfB_iff.1 hw).1)
        rw [hcons] at h1
        simp at h1
        exact h1.1
      · cases hw : wfB zs with
        | true =>
          have h2 := congrArg Prod.fst (scan_whole (wfB_iff.1 hw).1)
          rw [hcons] at h2
          simp at h2
          have h3 := (wf_frame hB.out.1 hw).1
          rw [← h2.1] at h3
          simpa using h3.symm
        | false =>
          have hne : frameL l ≠ zs := fun h => by
            have := (frame_wf hs0.out).1
            rw [h, hw] at this
            cases this
          simpa using hne
    clear hcel hvl hsafe hLs hcons h0 q6 q7 q8
    go_wp2_with (go_at_call 108; refine k1.mono ?_; rintro e w2 ⟨v2, rfl, hO2, hb2⟩; clear k1)
    have hB2 : Hid (Below w.heap.size w w2) := hB1.out.trans (hb2.mono hB1.out.size)
    have hz2 : Hid (Bytes w2 a zs) := hz1.out.kept hb2
    have hlt : b < w1.heap.size := clt q0
    have q02 : w2.cell? ⟨b, off, none⟩ = some (.slice al nl cl) := (hb2.cell (p := ⟨b, off, none⟩) hlt).trans q0
    have q22 : Hid (Bytes w2 al l) := q2.out.kept hb2
    obtain ⟨a2, n2, c2, rfl, hn2, h02, hl2, hm2, hby2⟩ := hO2.form
    have k2 := fun m => equal_any a2 a n2 n c2 cap (frameL l) zs (w2.drewN m) (hby2.out.drewN m) (hz2.out.drewN m) hn2.out hL.out
    rw [hE.out.2] at k2
    clear q0 hO2 hb2 hl2 hm2 hby2 hB1 hz1
    go_wp2
    go_quiet ((go_at_call 110; exact Calls.quiet_of_same (k2 _)))
    go_wp2
    refine bodyPost_ret (v := .tuple #[.slice al nl cl, .bool (wfB zs)]) (by simp [results, Tryz.results86, go_sem]) rfl ⟨fun h => ?_, fun h => ?_, ?_⟩
    · refine ⟨al, nl, cl, by rw [h], ?_⟩
      have e := hE.out.1 h
      rw [← e]
      exact ⟨q22.out.drewN _, q1.out, q3.out, by have := q1.out; have := hs0.out; omega⟩
    · exact ⟨_, by rw [h]⟩
    · exact ⟨hB2.out.os, hB2.out.tape, hB2.out.output, hB2.out.size, hB2.out.block⟩
theorem loadof_big (a : Option Addr) (n cap : Nat) (zs : List Int) (w : World) (hl : zs.length = n) (hn : ¬ n ≤ 1208) :
    Calls Tryz.prog 86 #[.slice a n cap] w fun e w' => wfB zs = false ∧ e = .returned (.tuple #[.slice none 0 0, .bool false]) ∧ w' = w := by
  have d0 : decide ((n : Int) > 1208) = true := by simp; omega
  have hw : Hid (wfB zs = false) := by
    show _ = _
    cases hw : wfB zs with
    | false => rfl
    | true =>
      obtain ⟨h1, h2⟩ := wfB_iff.1 hw
      have := h1.1.2
      omega
  clear hl hn
  go_enter Tryz.func86, Tryz.ntmps86
  go_wp2
  go_ret2
  exact ⟨hw.out, rfl, rfl⟩
def LoR (w' : World) (zs : List Int) (e : Ending) : Prop := (wfB zs = true → ∃ a' n' c', e = .returned (.tuple #[.slice a' n' c', .bool true]) ∧ Hid (Bytes w' a' (loadAt zs) ∧ (loadAt zs).length = n' ∧ (a' = none → c' = 0) ∧ n' ≤ 1200)) ∧ (wfB zs = false → ∃ v, e = .returned (.tuple #[v, .bool false]))
theorem loadof_any (a : Option Addr) (n cap : Nat) (zs : List Int) (w : World) (hl : zs.length = n) (hb : Bytes w a zs) (hc : n ≤ cap) (hcm : cap ≤ 9223372036854775807) :
    Calls Tryz.prog 86 #[.slice a n cap] w fun e w' => Hid (LoR w' zs e) ∧ Hid (Below w.heap.size w w') := by
  by_cases hn : n ≤ 1208
  · refine (loadof_small a n cap zs w hl hb hc hcm hn).mono ?_
    rintro e w' ⟨h1, h2, h3⟩
    exact ⟨⟨h1, h2⟩, h3⟩
  · refine (loadof_big a n cap zs w hl hn).mono ?_
    rintro e w' ⟨h1, rfl, rfl⟩
    exact ⟨⟨fun h => (by rw [h1] at h; cases h), fun _ => ⟨_, rfl⟩⟩, Below.refl _ _⟩
theorem short_y (base g p y f n : Nat) (a : Option Addr) (zs : List Int) (w : World) (h : Cur w base g a n zs p y f) :
    Calls Tryz.prog 88 #[.pointer (some ⟨g, 0, none⟩)] w fun e w' => e = .returned (.int .u64 ((sS zs p y f).1 : Nat)) ∧ Cur w' base g a n zs (sS zs p y f).2.1 (sS zs p y f).2.2.1 (sS zs p y f).2.2.2 ∧ w.grownBy w' (some g) := by
  by_cases hy : y = 0
  · subst hy
    exact short_go base g p f n a zs w h
  · have e : sS zs p y f = (0, p, y, f) := by unfold sS; rw [if_pos hy]
    rw [e]
    exact short_stop base g p y f n a zs w h hy
end Go.Proofs.YtfipdldoklkciaaGreat
