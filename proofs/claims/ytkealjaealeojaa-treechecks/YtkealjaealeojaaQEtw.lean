/-
  Whether a map has two keys that are the same, as the document's call tells it: gantlineref08.twice.
-/
import Derived.Test.YtkealjaealeojaaQEsm
import Derived.Test.YtkealjaealeojaaQTwi
import Derived.Deep.RegionHeld3
namespace Go.Proofs.Ytkealjaealeojaa
open Go.RowKit
set_option linter.unusedVariables false

/-- A node's box, and nothing else turned. -/
def Bo1 (w wx : World) (b : Nb) : Prop := NBox wx w.heap.size b ∧ Below w.heap.size w wx
theorem bo1_new (w : World) (b : Nb) : Bo1 w (w.alloc (.cells b.arr 26)) b := ⟨nbox_new w b, alloc_below w _⟩
theorem Bo1.on {w wx wy : World} {b : Nb} (h : Bo1 w wx b) (hb : Below wx.heap.size wx wy) : Bo1 w wy b := ⟨h.1.kept hb h.1.lt, h.2.trans (hb.mono h.2.size)⟩
theorem Bo1.drew {w wx : World} {b : Nb} (h : Bo1 w wx b) : Bo1 w wx.drew b := h.on (Below.refl _ _).drew
/-- No map in it has two keys that are the same. -/
def Tr.once (t : Tr) : Prop := t.All (fun u => u.keys.Nodup)
theorem once_eq (t : Tr) : t.once ↔ t.keys.Nodup ∧ (∀ k, k ∈ t.keys → k.once) ∧ (∀ k, k ∈ t.kids → k.once) := Tr.all_eq _ t
def TwAt (D : Nat) : Prop := ∀ (t : Tr) (b : Nb) (w : World) (v : Bool), Nd D w b t → (v = true ↔ ¬ t.once) → Calls Try.prog 33 #[.agg b.arr] w fun e w' => e = .returned (.bool v) ∧ Below w.heap.size w w'
theorem tw_el {D : Nat} (ih : TwAt D) {w : World} {a : Option Addr} {len cap : Nat} {l : List Tr} (h : RowN (Nd D w) w a len cap l) {i : Nat} (hi : i < l.length) {v : Bool} (hv : v = true ↔ ¬ (l[i]).once) (w2 : World) (hb : Below w.heap.size w w2) :
    ∃ (bk ok : Nat) (nk : Nb), a = some ⟨bk, ok, none⟩ ∧ (∀ j, j < 9 → w2.cell? ⟨bk, ok + (i * 9 + j), none⟩ = nk.cells[j]?) ∧ Calls Try.prog 33 #[.agg nk.arr] w2 fun e w' => e = .returned (.bool v) ∧ Below w2.heap.size w2 w' := by
  obtain ⟨bk, ok, nk, h1, h2, h3, _⟩ := row_el h hb hi
  exact ⟨bk, ok, nk, h1, h2, ih _ _ _ _ h3 hv⟩
theorem bool_of (p : Prop) : ∃ v : Bool, v = true ↔ p := ⟨@decide p (Classical.propDecidable _), by simp⟩
theorem take_once {l : List Tr} {i : Nat} (hi : i < l.length) (h : ∀ k, k ∈ l.take i → k.once) (h1 : (l[i]).once) : ∀ k, k ∈ l.take (i + 1) → k.once := by
  intro k hk
  rw [List.take_succ_eq_append_getElem hi] at hk
  rcases List.mem_append.1 hk with hk | hk
  · exact h k hk
  · rw [List.mem_singleton] at hk; subst hk; exact h1
/-- So far no key at a place is one of those ahead: k of those ahead of i were held against it. -/
def NotAmong (l : List Tr) (i k : Nat) : Prop := ∀ (h : i < l.length), l[i] ∉ l.take k
theorem not_among_zero (l : List Tr) (i : Nat) : NotAmong l i 0 := fun h => by simp
theorem not_among_next {l : List Tr} {i k : Nat} (hk : k < l.length) (h : NotAmong l i k) (hi : i < l.length) (hne : l[i] ≠ l[k]) : NotAmong l i (k + 1) := fun _ => by
  rw [List.take_succ_eq_append_getElem hk]
  intro hm
  rcases List.mem_append.1 hm with hm | hm
  · exact h hi hm
  · rw [List.mem_singleton] at hm; exact hne hm
theorem nodup_next {l : List Tr} {i : Nat} (hi : i < l.length) (h : (l.take i).Nodup) (hn : NotAmong l i i) : (l.take (i + 1)).Nodup := by
  rw [List.take_succ_eq_append_getElem hi]
  refine List.nodup_append.2 ⟨h, by simp, fun x hx y hy he => ?_⟩
  rw [List.mem_singleton] at hy
  subst hy he
  exact hn hi hx
theorem nodup_not {l : List Tr} {i k : Nat} (hi : i < l.length) (hk : k < i) (he : l[i] = l[k]'(by omega)) : ¬ l.Nodup := by
  intro hn
  have := (List.getElem_inj (h₀ := hi) (h₁ := by omega) hn).1 he
  omega

set_option maxHeartbeats 4000000 in
set_option maxRecDepth 100000 in
theorem tw_step {D : Nat} (ih : TwAt D) : TwAt (D + 1) := by
  intro t b w v hN hv
  have hal := alloc_below w (.cells b.arr 26)
  have Q0 : Hid (NBox (w.alloc (.cells b.arr 26)) w.heap.size b) := nbox_new w b
  have B0 : Hid (Below w.heap.size w (w.alloc (.cells b.arr 26))) := hal
  obtain ⟨a0, a1, a2, a3, a4, a5, a6, a7, a8⟩ := (nbox_new w b).fields
  have hNk : Hid (RowN (Nd D w) w b.ak b.lk b.ck t.keys) := hN.2.2.2.1
  have hNi : Hid (RowN (Nd D w) w b.ai b.li b.ci t.kids) := hN.2.2.2.2
  have hlk : Hid (t.keys.length = b.lk) := hN.2.2.2.1.1
  have hli : Hid (t.kids.length = b.li) := hN.2.2.2.2.1
  have mk := hN.2.2.2.1.2.1.1
  have mk' := hN.2.2.2.1.2.1.2.1
  have mi := hN.2.2.2.2.2.1.1
  have mi' := hN.2.2.2.2.2.1.2.1
  unfold maxLen at mk' mi'
  have hV : Hid (v = true ↔ ¬ t.once) := hv
  clear hal hN hv
  go_enter Try.func33, Try.ntmps33
  go_wp2
  go_loopw [3] (fun s3 wr => ∃ (i : Nat), i ≤ b.lk ∧ s3 = .int .i64 i ∧ Hid (Below (w.alloc (.cells b.arr 26)).heap.size (w.alloc (.cells b.arr 26)) wr) ∧ Hid ((t.keys.take i).Nodup)) (fun i _ => b.lk - (intOf i).toNat)
  case atStart => exact ⟨0, Nat.zero_le _, rfl, Below.refl _ _, by show List.Nodup _; simp⟩
  case round =>
    obtain ⟨i, him, rfl, hbl, hD⟩ := hrel
    clear a0 a1 a2 a3 a4 a5 a6 a7 a8
    have Qr : Hid (NBox wr w.heap.size b) := Q0.out.kept hbl.out Q0.out.lt
    have Br : Hid (Below w.heap.size w wr) := B0.out.trans (hbl.out.mono B0.out.size)
    obtain ⟨a0, a1, a2, a3, a4, a5, a6, a7, a8⟩ := Qr.out.fields
    by_cases hlt : i < b.lk
    · have hz : (i : Int) < (b.lk : Int) := by omega
      have hix : Hid (i < t.keys.length) := by show _ < _; rw [hlk.out]; exact hlt
      have wi : IntKind.i64.wrap ((i : Int) + 1) = (i : Int) + 1 := by rw [IntKind.wrap_i64]; omega
      go_wp2
      go_loopw [4] (fun s4 wr => ∃ (k : Nat), k ≤ i ∧ s4 = .int .i64 k ∧ Hid (Below (w.alloc (.cells b.arr 26)).heap.size (w.alloc (.cells b.arr 26)) wr) ∧ Hid (NotAmong t.keys i k)) (fun k _ => i - (intOf k).toNat)
      case atStart => exact ⟨0, Nat.zero_le _, rfl, hbl, not_among_zero _ _⟩
      case round =>
        obtain ⟨k, hki, rfl, hbs, hA⟩ := hrel
        clear a0 a1 a2 a3 a4 a5 a6 a7 a8
        have Qs : Hid (NBox wr w.heap.size b) := Q0.out.kept hbs.out Q0.out.lt
        have Bs : Hid (Below w.heap.size w wr) := B0.out.trans (hbs.out.mono B0.out.size)
        obtain ⟨a0, a1, a2, a3, a4, a5, a6, a7, a8⟩ := Qs.out.fields
        by_cases hkl : k < i
        · have hkz : (k : Int) < (i : Int) := by omega
          have hkb : (k : Int) < (b.lk : Int) := by omega
          have hkx : Hid (k < t.keys.length) := by show _ < _; rw [hlk.out]; omega
          have wk : IntKind.i64.wrap ((k : Int) + 1) = (k : Int) + 1 := by rw [IntKind.wrap_i64]; omega
          obtain ⟨bk, ok, nk, hak, hck, hNn⟩ := row_sp hNk.out Bs.out hix.out
          obtain ⟨bk', ok', nj, hak', hcj, hNj⟩ := row_sp hNk.out Bs.out hkx.out
          have hae : some (⟨bk, ok, none⟩ : Addr) = some ⟨bk', ok', none⟩ := by rw [← hak, ← hak']
          obtain ⟨rfl, rfl⟩ : bk = bk' ∧ ok = ok' := by simpa using hae
          have hT : Hid (Bo1 w wr b) := ⟨Qs.out, Bs.out⟩
          have hS : Hid (∀ wx, Bo1 w wx b → wx.cell? ⟨w.heap.size, 7, none⟩ = some (.slice (some ⟨bk, ok, none⟩) b.lk b.ck) ∧ (wx.cell? ⟨bk, ok + i * 9, none⟩ = some (.int .i64 nk.kind) ∧ wx.cell? ⟨bk, ok + i * 9 + 1, none⟩ = some (.int .u64 nk.num) ∧ wx.cell? ⟨bk, ok + i * 9 + 2, none⟩ = some (.bool nk.neg) ∧ wx.cell? ⟨bk, ok + i * 9 + 3, none⟩ = some (.string nk.dig) ∧ wx.cell? ⟨bk, ok + i * 9 + 4, none⟩ = some (.int .i64 nk.exp) ∧ wx.cell? ⟨bk, ok + i * 9 + 5, none⟩ = some (.string nk.txt) ∧ wx.cell? ⟨bk, ok + i * 9 + 6, none⟩ = some (.slice nk.ab nk.lb nk.cb) ∧ wx.cell? ⟨bk, ok + i * 9 + 7, none⟩ = some (.slice nk.ak nk.lk nk.ck) ∧ wx.cell? ⟨bk, ok + i * 9 + 8, none⟩ = some (.slice nk.ai nk.li nk.ci)) ∧ (wx.cell? ⟨bk, ok + k * 9, none⟩ = some (.int .i64 nj.kind) ∧ wx.cell? ⟨bk, ok + k * 9 + 1, none⟩ = some (.int .u64 nj.num) ∧ wx.cell? ⟨bk, ok + k * 9 + 2, none⟩ = some (.bool nj.neg) ∧ wx.cell? ⟨bk, ok + k * 9 + 3, none⟩ = some (.string nj.dig) ∧ wx.cell? ⟨bk, ok + k * 9 + 4, none⟩ = some (.int .i64 nj.exp) ∧ wx.cell? ⟨bk, ok + k * 9 + 5, none⟩ = some (.string nj.txt) ∧ wx.cell? ⟨bk, ok + k * 9 + 6, none⟩ = some (.slice nj.ab nj.lb nj.cb) ∧ wx.cell? ⟨bk, ok + k * 9 + 7, none⟩ = some (.slice nj.ak nj.lk nj.ck) ∧ wx.cell? ⟨bk, ok + k * 9 + 8, none⟩ = some (.slice nj.ai nj.li nj.ci))) := fun wx h => ⟨by rw [← hak]; exact h.1.cell 7, elem_fields (hck wx h.2), elem_fields (hcj wx h.2)⟩
          have hS0 := hS.out _ hT.out
          obtain ⟨e0, ⟨f0, f1, f2, f3, f4, f5, f6, f7, f8⟩, ⟨g0, g1, g2, g3, g4, g5, g6, g7, g8⟩⟩ := hS0
          obtain ⟨u, hu⟩ := bool_of (t.keys[i]'hix.out = t.keys[k]'hkx.out)
          have kS : ∀ w', Below w.heap.size w w' → Calls Try.prog 37 #[.agg nk.arr, .agg nj.arr] w' fun e w'' => e = .returned (.bool u) ∧ Below w'.heap.size w' w'' := fun w' hb => esam_any (hNn.kept hb) (hNj.kept hb) hu
          have hU : Hid (u = true ↔ t.keys[i]'hix.out = t.keys[k]'hkx.out) := hu
          clear hak' hae hcj hck hNn hNj hu
          cases u with
          | true =>
            obtain rfl : v = true := hV.out.2 (fun ho => nodup_not hix.out hkl (hU.out.1 rfl) ((once_eq t).1 ho).1)
            go_wp2
            go_region_held3 (fun wx => wx.cell? ⟨w.heap.size, 7, none⟩ = some (.slice (some ⟨bk, ok, none⟩) b.lk b.ck) ∧ (wx.cell? ⟨bk, ok + i * 9, none⟩ = some (.int .i64 nk.kind) ∧ wx.cell? ⟨bk, ok + i * 9 + 1, none⟩ = some (.int .u64 nk.num) ∧ wx.cell? ⟨bk, ok + i * 9 + 2, none⟩ = some (.bool nk.neg) ∧ wx.cell? ⟨bk, ok + i * 9 + 3, none⟩ = some (.string nk.dig) ∧ wx.cell? ⟨bk, ok + i * 9 + 4, none⟩ = some (.int .i64 nk.exp) ∧ wx.cell? ⟨bk, ok + i * 9 + 5, none⟩ = some (.string nk.txt) ∧ wx.cell? ⟨bk, ok + i * 9 + 6, none⟩ = some (.slice nk.ab nk.lb nk.cb) ∧ wx.cell? ⟨bk, ok + i * 9 + 7, none⟩ = some (.slice nk.ak nk.lk nk.ck) ∧ wx.cell? ⟨bk, ok + i * 9 + 8, none⟩ = some (.slice nk.ai nk.li nk.ci)) ∧ (wx.cell? ⟨bk, ok + k * 9, none⟩ = some (.int .i64 nj.kind) ∧ wx.cell? ⟨bk, ok + k * 9 + 1, none⟩ = some (.int .u64 nj.num) ∧ wx.cell? ⟨bk, ok + k * 9 + 2, none⟩ = some (.bool nj.neg) ∧ wx.cell? ⟨bk, ok + k * 9 + 3, none⟩ = some (.string nj.dig) ∧ wx.cell? ⟨bk, ok + k * 9 + 4, none⟩ = some (.int .i64 nj.exp) ∧ wx.cell? ⟨bk, ok + k * 9 + 5, none⟩ = some (.string nj.txt) ∧ wx.cell? ⟨bk, ok + k * 9 + 6, none⟩ = some (.slice nj.ab nj.lb nj.cb) ∧ wx.cell? ⟨bk, ok + k * 9 + 7, none⟩ = some (.slice nj.ak nj.lk nj.ck) ∧ wx.cell? ⟨bk, ok + k * 9 + 8, none⟩ = some (.slice nj.ai nj.li nj.ci))) (first | exact hS.out _ hT.out.drew | exact hS.out _ T1.out) (first
              | (go_at_call 37; refine (kS _ hT.out.drew.2).mono ?_; rintro e w1 ⟨rfl, q1⟩; have T1 : Hid (Bo1 w w1 b) := hT.out.drew.on q1; clear q1))
            go_wp2
            go_ret
            exact ⟨rfl, T1.out.2⟩
          | false =>
            have hA' : Hid (NotAmong t.keys i (k + 1)) := not_among_next hkx.out hA.out hix.out (fun h => by have := hU.out.2 h; cases this)
            go_wp2
            go_region_held3 (fun wx => wx.cell? ⟨w.heap.size, 7, none⟩ = some (.slice (some ⟨bk, ok, none⟩) b.lk b.ck) ∧ (wx.cell? ⟨bk, ok + i * 9, none⟩ = some (.int .i64 nk.kind) ∧ wx.cell? ⟨bk, ok + i * 9 + 1, none⟩ = some (.int .u64 nk.num) ∧ wx.cell? ⟨bk, ok + i * 9 + 2, none⟩ = some (.bool nk.neg) ∧ wx.cell? ⟨bk, ok + i * 9 + 3, none⟩ = some (.string nk.dig) ∧ wx.cell? ⟨bk, ok + i * 9 + 4, none⟩ = some (.int .i64 nk.exp) ∧ wx.cell? ⟨bk, ok + i * 9 + 5, none⟩ = some (.string nk.txt) ∧ wx.cell? ⟨bk, ok + i * 9 + 6, none⟩ = some (.slice nk.ab nk.lb nk.cb) ∧ wx.cell? ⟨bk, ok + i * 9 + 7, none⟩ = some (.slice nk.ak nk.lk nk.ck) ∧ wx.cell? ⟨bk, ok + i * 9 + 8, none⟩ = some (.slice nk.ai nk.li nk.ci)) ∧ (wx.cell? ⟨bk, ok + k * 9, none⟩ = some (.int .i64 nj.kind) ∧ wx.cell? ⟨bk, ok + k * 9 + 1, none⟩ = some (.int .u64 nj.num) ∧ wx.cell? ⟨bk, ok + k * 9 + 2, none⟩ = some (.bool nj.neg) ∧ wx.cell? ⟨bk, ok + k * 9 + 3, none⟩ = some (.string nj.dig) ∧ wx.cell? ⟨bk, ok + k * 9 + 4, none⟩ = some (.int .i64 nj.exp) ∧ wx.cell? ⟨bk, ok + k * 9 + 5, none⟩ = some (.string nj.txt) ∧ wx.cell? ⟨bk, ok + k * 9 + 6, none⟩ = some (.slice nj.ab nj.lb nj.cb) ∧ wx.cell? ⟨bk, ok + k * 9 + 7, none⟩ = some (.slice nj.ak nj.lk nj.ck) ∧ wx.cell? ⟨bk, ok + k * 9 + 8, none⟩ = some (.slice nj.ai nj.li nj.ci))) (first | exact hS.out _ hT.out.drew | exact hS.out _ T1.out) (first
              | (go_at_call 37; refine (kS _ hT.out.drew.2).mono ?_; rintro e w1 ⟨rfl, q1⟩; have T1 : Hid (Bo1 w w1 b) := hT.out.drew.on q1; have hbT : Hid (Below (w.alloc (.cells b.arr 26)).heap.size (w.alloc (.cells b.arr 26)) w1) := hbs.out.drew.trans (q1.mono hbs.out.drew.size); clear q1))
            go_wp2
            try simp only [hak]
            go_roundw
            case rel => exact ⟨k + 1, by omega, by go_num, hbT, hA'⟩
            case measure => simp [intOf]; omega
        · have hkz : ¬ (k : Int) < (i : Int) := by omega
          obtain rfl : k = i := by omega
          have hD' : Hid ((t.keys.take (k + 1)).Nodup) := nodup_next hix.out hD.out hA.out
          go_wp2
          go_roundw
          case rel => exact ⟨k + 1, by omega, by go_num, hbs, hD'⟩
          case measure => simp [intOf]; omega
    · have hz : ¬ (i : Int) < (b.lk : Int) := by omega
      have hDD : Hid (t.keys.Nodup) := by
        have := hD.out
        rwa [List.take_of_length_le (by rw [hlk.out]; omega)] at this
      clear hlt him hD
      go_wp2
      go_loopw [5] (fun s5 wr => ∃ (k : Nat), k ≤ b.lk ∧ s5 = .int .i64 k ∧ Hid (Below (w.alloc (.cells b.arr 26)).heap.size (w.alloc (.cells b.arr 26)) wr) ∧ Hid (∀ x, x ∈ t.keys.take k → x.once)) (fun k _ => b.lk - (intOf k).toNat)
      case atStart => exact ⟨0, Nat.zero_le _, rfl, hbl, by show ∀ x, _; simp⟩
      case round =>
        obtain ⟨k, hki, rfl, hbs, hA⟩ := hrel
        clear a0 a1 a2 a3 a4 a5 a6 a7 a8
        have Qs : Hid (NBox wr w.heap.size b) := Q0.out.kept hbs.out Q0.out.lt
        have Bs : Hid (Below w.heap.size w wr) := B0.out.trans (hbs.out.mono B0.out.size)
        obtain ⟨a0, a1, a2, a3, a4, a5, a6, a7, a8⟩ := Qs.out.fields
        by_cases hkl : k < b.lk
        · have hkz : (k : Int) < (b.lk : Int) := by omega
          have hkx : Hid (k < t.keys.length) := by show _ < _; rw [hlk.out]; omega
          have wk : IntKind.i64.wrap ((k : Int) + 1) = (k : Int) + 1 := by rw [IntKind.wrap_i64]; omega
          obtain ⟨u, hu⟩ := bool_of (¬ (t.keys[k]'hkx.out).once)
          obtain ⟨bk, ok, nk, hak, hck, kT⟩ := tw_el ih hNk.out hkx.out hu wr Bs.out
          obtain ⟨f0, f1, f2, f3, f4, f5, f6, f7, f8⟩ := elem_fields hck
          have hU : Hid (u = true ↔ ¬ (t.keys[k]'hkx.out).once) := hu
          clear hck hu
          cases u with
          | true =>
            obtain rfl : v = true := hV.out.2 (fun ho => hU.out.1 rfl (((once_eq t).1 ho).2.1 _ (List.getElem_mem hkx.out)))
            go_wp2_with (go_at_call 33; refine kT.mono ?_; rintro e w2 ⟨rfl, hb2⟩)
            go_ret
            exact ⟨rfl, Bs.out.trans (hb2.mono Bs.out.size)⟩
          | false =>
            have hA' : Hid (∀ x, x ∈ t.keys.take (k + 1) → x.once) := take_once hkx.out hA.out (Classical.byContradiction fun h => by have := hU.out.2 h; cases this)
            go_wp2_with (go_at_call 33; refine kT.mono ?_; rintro e w2 ⟨rfl, hb2⟩)
            try simp only [hak]
            go_roundw
            case rel => exact ⟨k + 1, by omega, by go_num, hbs.out.trans (hb2.mono hbs.out.size), hA'⟩
            case measure => simp [intOf]; omega
        · have hkz : ¬ (k : Int) < (b.lk : Int) := by omega
          have hKK : Hid (∀ x, x ∈ t.keys → x.once) := by
            have := hA.out
            rwa [List.take_of_length_le (by rw [hlk.out]; omega)] at this
          clear hkl hki hA
          go_wp2
          go_loopw [6] (fun s6 wr => ∃ (j : Nat), j ≤ b.li ∧ s6 = .int .i64 j ∧ Hid (Below (w.alloc (.cells b.arr 26)).heap.size (w.alloc (.cells b.arr 26)) wr) ∧ Hid (∀ x, x ∈ t.kids.take j → x.once)) (fun j _ => b.li - (intOf j).toNat)
          case atStart => exact ⟨0, Nat.zero_le _, rfl, hbs, by show ∀ x, _; simp⟩
          case round =>
            obtain ⟨j, hji, rfl, hbu, hA⟩ := hrel
            clear a0 a1 a2 a3 a4 a5 a6 a7 a8
            have Qu : Hid (NBox wr w.heap.size b) := Q0.out.kept hbu.out Q0.out.lt
            have Bu : Hid (Below w.heap.size w wr) := B0.out.trans (hbu.out.mono B0.out.size)
            obtain ⟨a0, a1, a2, a3, a4, a5, a6, a7, a8⟩ := Qu.out.fields
            by_cases hjl : j < b.li
            · have hjz : (j : Int) < (b.li : Int) := by omega
              have hjx : Hid (j < t.kids.length) := by show _ < _; rw [hli.out]; omega
              have wj : IntKind.i64.wrap ((j : Int) + 1) = (j : Int) + 1 := by rw [IntKind.wrap_i64]; omega
              obtain ⟨u, hu⟩ := bool_of (¬ (t.kids[j]'hjx.out).once)
              obtain ⟨bk, ok, nk, hak, hck, kT⟩ := tw_el ih hNi.out hjx.out hu wr Bu.out
              obtain ⟨f0, f1, f2, f3, f4, f5, f6, f7, f8⟩ := elem_fields hck
              have hU : Hid (u = true ↔ ¬ (t.kids[j]'hjx.out).once) := hu
              clear hck hu
              cases u with
              | true =>
                obtain rfl : v = true := hV.out.2 (fun ho => hU.out.1 rfl (((once_eq t).1 ho).2.2 _ (List.getElem_mem hjx.out)))
                go_wp2_with (go_at_call 33; refine kT.mono ?_; rintro e w2 ⟨rfl, hb2⟩)
                go_ret
                exact ⟨rfl, Bu.out.trans (hb2.mono Bu.out.size)⟩
              | false =>
                have hA' : Hid (∀ x, x ∈ t.kids.take (j + 1) → x.once) := take_once hjx.out hA.out (Classical.byContradiction fun h => by have := hU.out.2 h; cases this)
                go_wp2_with (go_at_call 33; refine kT.mono ?_; rintro e w2 ⟨rfl, hb2⟩)
                try simp only [hak]
                go_roundw
                case rel => exact ⟨j + 1, by omega, by go_num, hbu.out.trans (hb2.mono hbu.out.size), hA'⟩
                case measure => simp [intOf]; omega
            · have hjz : ¬ (j : Int) < (b.li : Int) := by omega
              obtain rfl : v = false := not_true hV.out (fun h => h ((once_eq t).2 ⟨hDD.out, hKK.out, by
                have := hA.out
                rwa [List.take_of_length_le (by rw [hli.out]; omega)] at this⟩))
              go_wp2
              go_ret
              exact ⟨rfl, Bu.out⟩
theorem tw_all : ∀ D, TwAt D := by
  intro D
  induction D with
  | zero => intro t b w v h; exact absurd h id
  | succ D ih => exact tw_step ih
theorem etwice_any {D : Nat} {t : Tr} {b : Nb} {w : World} {v : Bool} (hN : Nd D w b t) (hv : v = true ↔ ¬ t.All (fun u => u.keys.Nodup)) : Calls Try.prog 33 #[.agg b.arr] w fun e w' => e = .returned (.bool v) ∧ Below w.heap.size w w' := tw_all D t b w v hN hv
end Go.Proofs.Ytkealjaealeojaa
