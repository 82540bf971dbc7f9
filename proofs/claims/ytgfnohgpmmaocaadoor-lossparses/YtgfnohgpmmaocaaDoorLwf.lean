/-
  Stage 15: the walk of the statement: any bytes are parsed as the document's losses.
-/
import Derived.Test.YtgfnohgpmmaocaaDoorLwa
import Derived.Test.YtgfnohgpmmaocaaDoorLsm
import Derived.Test.YtgfnohgpmmaocaaDoorLrq
namespace Go.Proofs.YtgfnohgpmmaocaaDoor
open Go.RowKit
set_option linter.unusedVariables false
set_option linter.unusedSimpArgs false

set_option maxHeartbeats 4000000 in
theorem wparses (a : Option Addr) (n cap : Nat) (zs : List Int) (w : World) (hl : zs.length = n) (hb : Bytes w a zs) (hc : n ≤ cap ∧ cap ≤ 9223372036854775807) (hn : a = none → cap = 0) (hm : n ≤ 140737488355328) (hsp : ∀ x, a = some x → 0 < cap → x.spot = none) :
    Calls Tryd.prog 4 #[.slice a n cap] w fun e w' => e = .returned (.bool true) ∧ Below w.heap.size w w' := by
  have k1 := parse_any a n cap zs w hl hb hn hm
  have k2 : Hid (∀ wx, Below w.heap.size w wx → Calls Tryd.prog 14 #[.slice a n cap] wx fun e w' => ∃ (v : Value) (L : List (Value × Ls)), e = .returned (.tuple #[v, .agg #[.int .i64 ((parA zs).2.1 : Nat), .int .i64 ((parA zs).2.2 : Nat)]]) ∧ Hid (OwnsK w' wx.heap.size v L ∧ L.length ≤ 2048 ∧ L.map Prod.snd = (parA zs).1) ∧ Hid (Below wx.heap.size wx w')) := fun wx hx => rparse_any a n cap zs wx hl (hb.kept hx) hc hn hm hsp
  clear hb hn hsp hc
  generalize (parA zs).2.1 = y at *
  generalize (parA zs).2.2 = f at *
  generalize (parA zs).1 = ls at *
  go_enter Tryd.func4, Tryd.ntmps4
  go_wp2_with fail
  refine k1.mono ?_
  rintro e w1 ⟨v1, L1, rfl, hO1, hB1⟩
  clear k1
  have hBa : Hid (Below w.heap.size w (w1.alloc (.cells #[.int .i64 (y : Nat), .int .i64 (f : Nat)] 33))) := hB1.out.alloc hB1.out.size _
  have kR := k2.out _ hBa.out
  have hOa : Hid (OwnsK (w1.alloc (.cells #[.int .i64 (y : Nat), .int .i64 (f : Nat)] 33)) w.heap.size v1 L1 ∧ L1.length ≤ 2048 ∧ L1.map Prod.snd = ls) := ⟨hO1.out.1.alloc _, hO1.out.2⟩
  have hXa : Hid (Blk (w1.alloc (.cells #[.int .i64 (y : Nat), .int .i64 (f : Nat)] 33)) w1.heap.size #[.int .i64 (y : Nat), .int .i64 (f : Nat)] 33) := blk_new _ _ _
  clear hO1 hB1
  go_wp2_with fail
  refine kR.mono ?_
  rintro e w2 ⟨v2, L2, rfl, hO2, hB2⟩
  clear kR k2
  have hO1 : Hid (OwnsK w2 w.heap.size v1 L1) := hOa.out.1.kept hB2.out
  have hB : Hid (Below w.heap.size w w2) := hBa.out.trans (hB2.out.mono hBa.out.size)
  have hX2 : Hid (Blk w2 w1.heap.size #[.int .i64 (y : Nat), .int .i64 (f : Nat)] 33) := hXa.out.kept hB2.out
  have hal := (Below.refl w2.heap.size w2).alloc (Nat.le_refl _) (.cells #[.int .i64 (y : Nat), .int .i64 (f : Nat)] 33)
  have hXb : Hid (Blk (w2.alloc (.cells #[.int .i64 (y : Nat), .int .i64 (f : Nat)] 33)) w1.heap.size #[.int .i64 (y : Nat), .int .i64 (f : Nat)] 33) := hX2.out.kept hal
  obtain ⟨a1, c1, rfl, hn1, hc1, hm1, hL1⟩ := (hO1.out.kept hal).lss hOa.out.2.1
  obtain ⟨a2, c2, rfl, hn2, hc2, hm2, hL2⟩ := (hO2.out.1.kept hal).lss hO2.out.2.1
  have e1 : L1.map Prod.snd = ls := hOa.out.2.2
  have e2 : L2.map Prod.snd = ls := hO2.out.2.2
  rw [e1] at hL1
  rw [e2] at hL2
  have hl1 : Hid (ls.length = L1.length) := by show _ = _; rw [← e1, List.length_map]
  have hl2 : Hid (ls.length = L2.length) := by show _ = _; rw [← e2, List.length_map]
  have hBb : Hid (Below w.heap.size w (w2.alloc (.cells #[.int .i64 (y : Nat), .int .i64 (f : Nat)] 33))) := hB.out.trans (hal.mono hB.out.size)
  clear hO1 hO2 hOa hB2 hBa hXa e1 e2 hal hB hX2
  generalize L1.length = n1 at *
  generalize L2.length = n2 at *
  have kS := samel_yes a1 a2 n1 n2 c1 c2 ls _ hl1.out hl2.out hL1.out hL2.out hc1 hm1 hc2 hm2
  have x0 := hXb.out.cell 0
  have x1 := hXb.out.cell 1
  clear hL1 hL2
  go_wp2_with (first
    | (go_at_call 15; go_loud (refine kS.mono ?_; rintro e w3 ⟨rfl, hb3⟩; clear kS; have hB3 : Hid (Below w.heap.size w w3) := hBb.out.trans (hb3.out.mono hBb.out.size); have hX3 : Hid (Blk w3 w1.heap.size #[.int .i64 (y : Nat), .int .i64 (f : Nat)] 33) := hXb.out.kept hb3.out; have x0 := hX3.out.cell 0; have x1 := hX3.out.cell 1; have hY3 : Hid (Blk w3 w2.heap.size #[.int .i64 (y : Nat), .int .i64 (f : Nat)] 33) := (blk_new w2 _ _).kept hb3.out; have y0 := hY3.out.cell 0; have y1 := hY3.out.cell 1))
    | (go_at_call 12; go_loud (refine (alive_any w3).mono ?_; rintro e w4 ⟨rfl, hb4⟩)))
  go_ret
  exact ⟨rfl, hB3.out.trans (hb4.out.mono hB3.out.size)⟩
end Go.Proofs.YtgfnohgpmmaocaaDoor
