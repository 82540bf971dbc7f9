/-
  A link that nobody made.
-/
import Derived.Test.YtfipdldoklkciaaLkv
namespace Go.Proofs.Ytfipdldoklkciaa
open Go.RowKit
set_option linter.unusedVariables false
/-- A pointer to no link, or to one that nobody made. -/
def Un (w : World) (p : Value) : Prop := p = .pointer none ∨ ∃ lb, p = .pointer (some ⟨lb, 0, none⟩) ∧ w.cell? ⟨lb, 0, none⟩ = some (.bool false) ∧ lb < w.heap.size
theorem Un.kept {w w' : World} {p : Value} (h : Un w p) (hb : Below w.heap.size w w') : Un w' p := by
  rcases h with h | ⟨lb, h1, h2, h3⟩
  · exact .inl h
  · exact .inr ⟨lb, h1, (hb.cell (p := ⟨lb, 0, none⟩) h3).trans h2, Nat.lt_of_lt_of_le h3 hb.size⟩
theorem kmade_un {w : World} {p : Value} (h : Un w p) : Calls Try.prog 58 #[p] w fun e w' => e = .returned (.bool false) ∧ w' = w := by
  rcases h with rfl | ⟨lb, rfl, h, _⟩
  · exact kmade_nil w
  · exact kmade_no lb w h
theorem bl_refl (w : World) : Hid (Below w.heap.size w w) := Below.refl _ _
theorem un_send {w : World} {p : Value} (a : Option Addr) (n c : Nat) (h : Un w p) : Calls Try.prog 26 #[p, .slice a n c] w fun e w' => e = .returned (.int .i64 2) ∧ Hid (Below w.heap.size w w') := by
  have k0 := kmade_un h
  clear h
  go_enter Try.func26, Try.ntmps26
  go_wp2_with (go_at_call 58; refine k0.mono ?_; rintro e w1 ⟨rfl, hw1⟩; obtain rfl := hw1.symm; clear hw1)
  go_ret
  refine ⟨rfl, ?_⟩
  show Below _ _ _
  repeat' with_reducible first | exact Below.refl _ _ | refine Below.drew ?_ | refine Below.drN ?_ _ | refine Below.al ?_ _
theorem un_poll {w : World} {p : Value}  (h : Un w p) : Calls Try.prog 29 #[p] w fun e w' => e = .returned (.tuple #[.slice none 0 0, .bool false]) ∧ Hid (Below w.heap.size w w') := by
  have k0 := kmade_un h
  clear h
  go_enter Try.func29, Try.ntmps29
  go_wp2_with (go_at_call 58; refine k0.mono ?_; rintro e w1 ⟨rfl, hw1⟩; obtain rfl := hw1.symm; clear hw1)
  go_ret2
  refine ⟨rfl, ?_⟩
  show Below _ _ _
  repeat' with_reducible first | exact Below.refl _ _ | refine Below.drew ?_ | refine Below.drN ?_ _ | refine Below.al ?_ _
theorem un_tick {w : World} {p : Value}  (h : Un w p) : Calls Try.prog 27 #[p] w fun e w' => e = .returned (.tuple #[]) ∧ Hid (Below w.heap.size w w') := by
  have k0 := kmade_un h
  clear h
  go_enter Try.func27, Try.ntmps27
  go_wp2_with (go_at_call 58; refine k0.mono ?_; rintro e w1 ⟨rfl, hw1⟩; obtain rfl := hw1.symm; clear hw1)
  refine bodyPost_ret (v := .tuple #[]) (results_none rfl _ _ _) rfl ⟨rfl, ?_⟩
  
  show Below _ _ _
  repeat' with_reducible first | exact Below.refl _ _ | refine Below.drew ?_ | refine Below.drN ?_ _ | refine Below.al ?_ _
theorem un_rec {w : World} {p : Value}  (h : Un w p) : Calls Try.prog 34 #[p] w fun e w' => e = .returned (.tuple #[]) ∧ Hid (Below w.heap.size w w') := by
  have k0 := kmade_un h
  clear h
  go_enter Try.func34, Try.ntmps34
  go_wp2_with (go_at_call 58; refine k0.mono ?_; rintro e w1 ⟨rfl, hw1⟩; obtain rfl := hw1.symm; clear hw1)
  refine bodyPost_ret (v := .tuple #[]) (results_none rfl _ _ _) rfl ⟨rfl, ?_⟩
  
  show Below _ _ _
  repeat' with_reducible first | exact Below.refl _ _ | refine Below.drew ?_ | refine Below.drN ?_ _ | refine Below.al ?_ _
theorem un_can {w : World} {p : Value} (net i : Int) (h : Un w p) : Calls Try.prog 68 #[p, .int .i64 net, .int .i64 i] w fun e w' => e = .returned (.int .i64 2) ∧ Hid (Below w.heap.size w w') := by
  have k0 := kmade_un h
  clear h
  go_enter Try.func68, Try.ntmps68
  go_wp2_with (go_at_call 58; refine k0.mono ?_; rintro e w1 ⟨rfl, hw1⟩; obtain rfl := hw1.symm; clear hw1)
  go_ret
  refine ⟨rfl, ?_⟩
  show Below _ _ _
  repeat' with_reducible first | exact Below.refl _ _ | refine Below.drew ?_ | refine Below.drN ?_ _ | refine Below.al ?_ _
theorem un_forge {w : World} {p : Value} (net : Int) (a : Option Addr) (n c : Nat) (h : Un w p) : Calls Try.prog 31 #[p, .int .i64 net, .slice a n c] w fun e w' => e = .returned (.int .i64 2) ∧ Hid (Below w.heap.size w w') := by
  have k0 := kmade_un h
  clear h
  go_enter Try.func31, Try.ntmps31
  go_wp2_with (go_at_call 58; refine k0.mono ?_; rintro e w1 ⟨rfl, hw1⟩; obtain rfl := hw1.symm; clear hw1)
  go_ret
  refine ⟨rfl, ?_⟩
  show Below _ _ _
  repeat' with_reducible first | exact Below.refl _ _ | refine Below.drew ?_ | refine Below.drN ?_ _ | refine Below.al ?_ _
theorem un_way {w : World} {p : Value} (net : Int) (h : Un w p) : Calls Try.prog 22 #[p, .int .i64 net] w fun e w' => e = .returned (.int .i64 0) ∧ Hid (Below w.heap.size w w') := by
  have k0 := kmade_un h
  clear h
  go_enter Try.func22, Try.ntmps22
  go_wp2_with (go_at_call 58; refine k0.mono ?_; rintro e w1 ⟨rfl, hw1⟩; obtain rfl := hw1.symm; clear hw1)
  go_ret
  refine ⟨rfl, ?_⟩
  show Below _ _ _
  repeat' with_reducible first | exact Below.refl _ _ | refine Below.drew ?_ | refine Below.drN ?_ _ | refine Below.al ?_ _
theorem un_sent {w : World} {p : Value}  (h : Un w p) : Calls Try.prog 20 #[p] w fun e w' => e = .returned (.int .i64 0) ∧ Hid (Below w.heap.size w w') := by
  have k0 := kmade_un h
  clear h
  go_enter Try.func20, Try.ntmps20
  go_wp2_with (go_at_call 58; refine k0.mono ?_; rintro e w1 ⟨rfl, hw1⟩; obtain rfl := hw1.symm; clear hw1)
  go_ret
  refine ⟨rfl, ?_⟩
  show Below _ _ _
  repeat' with_reducible first | exact Below.refl _ _ | refine Below.drew ?_ | refine Below.drN ?_ _ | refine Below.al ?_ _
theorem un_got {w : World} {p : Value}  (h : Un w p) : Calls Try.prog 21 #[p] w fun e w' => e = .returned (.int .i64 0) ∧ Hid (Below w.heap.size w w') := by
  have k0 := kmade_un h
  clear h
  go_enter Try.func21, Try.ntmps21
  go_wp2_with (go_at_call 58; refine k0.mono ?_; rintro e w1 ⟨rfl, hw1⟩; obtain rfl := hw1.symm; clear hw1)
  go_ret
  refine ⟨rfl, ?_⟩
  show Below _ _ _
  repeat' with_reducible first | exact Below.refl _ _ | refine Below.drew ?_ | refine Below.drN ?_ _ | refine Below.al ?_ _
theorem un_held {w : World} {p : Value}  (h : Un w p) : Calls Try.prog 25 #[p] w fun e w' => e = .returned (.int .i64 0) ∧ Hid (Below w.heap.size w w') := by
  have k0 := kmade_un h
  clear h
  go_enter Try.func25, Try.ntmps25
  go_wp2_with (go_at_call 58; refine k0.mono ?_; rintro e w1 ⟨rfl, hw1⟩; obtain rfl := hw1.symm; clear hw1)
  go_ret
  refine ⟨rfl, ?_⟩
  show Below _ _ _
  repeat' with_reducible first | exact Below.refl _ _ | refine Below.drew ?_ | refine Below.drN ?_ _ | refine Below.al ?_ _
theorem un_del {w : World} {p : Value} (net i : Int) (h : Un w p) : Calls Try.prog 28 #[p, .int .i64 net, .int .i64 i] w fun e w' => e = .returned (.int .i64 2) ∧ Hid (Below w.heap.size w w') := by
  have k0 := un_can net i h
  clear h
  go_enter Try.func28, Try.ntmps28
  go_wp2_with (go_at_call 68; refine k0.mono ?_; rintro e w1 ⟨rfl, hb1⟩; clear k0)
  go_ret
  exact ⟨rfl, hb1⟩
theorem un_drop {w : World} {p : Value} (net i : Int) (h : Un w p) : Calls Try.prog 33 #[p, .int .i64 net, .int .i64 i] w fun e w' => e = .returned (.int .i64 2) ∧ Hid (Below w.heap.size w w') := by
  have k0 := un_can net i h
  clear h
  go_enter Try.func33, Try.ntmps33
  go_wp2_with (go_at_call 68; refine k0.mono ?_; rintro e w1 ⟨rfl, hb1⟩; clear k0)
  go_ret
  exact ⟨rfl, hb1⟩
theorem un_twice {w : World} {p : Value} (net i : Int) (h : Un w p) : Calls Try.prog 62 #[p, .int .i64 net, .int .i64 i] w fun e w' => e = .returned (.int .i64 2) ∧ Hid (Below w.heap.size w w') := by
  have k0 := un_can net i h
  clear h
  go_enter Try.func62, Try.ntmps62
  go_wp2_with (go_at_call 68; refine k0.mono ?_; rintro e w1 ⟨rfl, hb1⟩; clear k0)
  go_ret
  exact ⟨rfl, hb1⟩
theorem un_turn {w : World} {p : Value} (net i at_ by_ : Int) (h : Un w p) : Calls Try.prog 32 #[p, .int .i64 net, .int .i64 i, .int .i64 at_, .int .u32 by_] w fun e w' => e = .returned (.int .i64 2) ∧ Hid (Below w.heap.size w w') := by
  have k0 := un_can net i h
  clear h
  go_enter Try.func32, Try.ntmps32
  go_wp2_with (go_at_call 68; refine k0.mono ?_; rintro e w1 ⟨rfl, hb1⟩; clear k0)
  go_ret
  exact ⟨rfl, hb1⟩
set_option maxRecDepth 100000 in
theorem undo0 {w : World} {p : Value} (net i at_ by_ : Int) (a : Option Addr) (n c : Nat) (h : Un w p) :
    Calls Try.prog 24 #[p, .agg #[.int .i64 0, .int .i64 net, .int .i64 i, .int .i64 at_, .int .u32 by_, .slice a n c]] w fun e w' => e = .returned (.tuple #[.slice none 0 0, .bool false, .int .i64 2]) ∧ Hid (Below w.heap.size w w') := by
  have k0 : Hid (∀ x, Below w.heap.size w x → Un x p) := fun x hx => h.kept hx
  clear h
  go_enter Try.func24, Try.ntmps24
  go_wp2_with (go_at_call 26; refine (un_send _ _ _ (k0.out _ (by repeat' with_reducible first | exact Below.refl _ _ | refine Below.drew ?_ | refine Below.drN ?_ _ | refine Below.al ?_ _))).mono ?_; rintro e w1 ⟨rfl, hb1⟩; have hB : Hid (Below w.heap.size w w1) := (show Below w.heap.size w _ from (by repeat' with_reducible first | exact Below.refl _ _ | refine Below.drew ?_ | refine Below.drN ?_ _ | refine Below.al ?_ _)).trans (hb1.out.mono (Below.size (by repeat' with_reducible first | exact Below.refl _ _ | refine Below.drew ?_ | refine Below.drN ?_ _ | refine Below.al ?_ _))); clear hb1 k0)
  refine bodyPost_ret (v := .tuple #[.slice none 0 0, .bool false, .int .i64 2]) (by simp [results, Try.results24, go_sem]) rfl ⟨rfl, hB⟩
set_option maxRecDepth 100000 in
theorem undo1 {w : World} {p : Value} (net i at_ by_ : Int) (a : Option Addr) (n c : Nat) (h : Un w p) :
    Calls Try.prog 24 #[p, .agg #[.int .i64 1, .int .i64 net, .int .i64 i, .int .i64 at_, .int .u32 by_, .slice a n c]] w fun e w' => e = .returned (.tuple #[.slice none 0 0, .bool false, .int .i64 0]) ∧ Hid (Below w.heap.size w w') := by
  have k0 : Hid (∀ x, Below w.heap.size w x → Un x p) := fun x hx => h.kept hx
  clear h
  go_enter Try.func24, Try.ntmps24
  go_wp2_with (go_at_call 29; refine (un_poll (k0.out _ (by repeat' with_reducible first | exact Below.refl _ _ | refine Below.drew ?_ | refine Below.drN ?_ _ | refine Below.al ?_ _))).mono ?_; rintro e w1 ⟨rfl, hb1⟩; have hB : Hid (Below w.heap.size w w1) := (show Below w.heap.size w _ from (by repeat' with_reducible first | exact Below.refl _ _ | refine Below.drew ?_ | refine Below.drN ?_ _ | refine Below.al ?_ _)).trans (hb1.out.mono (Below.size (by repeat' with_reducible first | exact Below.refl _ _ | refine Below.drew ?_ | refine Below.drN ?_ _ | refine Below.al ?_ _))); clear hb1 k0)
  refine bodyPost_ret (v := .tuple #[.slice none 0 0, .bool false, .int .i64 0]) (by simp [results, Try.results24, go_sem]) rfl ⟨rfl, hB⟩
set_option maxRecDepth 100000 in
theorem undo2 {w : World} {p : Value} (net i at_ by_ : Int) (a : Option Addr) (n c : Nat) (h : Un w p) :
    Calls Try.prog 24 #[p, .agg #[.int .i64 2, .int .i64 net, .int .i64 i, .int .i64 at_, .int .u32 by_, .slice a n c]] w fun e w' => e = .returned (.tuple #[.slice none 0 0, .bool false, .int .i64 0]) ∧ Hid (Below w.heap.size w w') := by
  have k0 : Hid (∀ x, Below w.heap.size w x → Un x p) := fun x hx => h.kept hx
  clear h
  go_enter Try.func24, Try.ntmps24
  go_wp2_with (go_at_call 27; refine (un_tick (k0.out _ (by repeat' with_reducible first | exact Below.refl _ _ | refine Below.drew ?_ | refine Below.drN ?_ _ | refine Below.al ?_ _))).mono ?_; rintro e w1 ⟨rfl, hb1⟩; have hB : Hid (Below w.heap.size w w1) := (show Below w.heap.size w _ from (by repeat' with_reducible first | exact Below.refl _ _ | refine Below.drew ?_ | refine Below.drN ?_ _ | refine Below.al ?_ _)).trans (hb1.out.mono (Below.size (by repeat' with_reducible first | exact Below.refl _ _ | refine Below.drew ?_ | refine Below.drN ?_ _ | refine Below.al ?_ _))); clear hb1 k0)
  refine bodyPost_ret (v := .tuple #[.slice none 0 0, .bool false, .int .i64 0]) (by simp [results, Try.results24, go_sem]) rfl ⟨rfl, hB⟩
set_option maxRecDepth 100000 in
theorem undo3 {w : World} {p : Value} (net i at_ by_ : Int) (a : Option Addr) (n c : Nat) (h : Un w p) :
    Calls Try.prog 24 #[p, .agg #[.int .i64 3, .int .i64 net, .int .i64 i, .int .i64 at_, .int .u32 by_, .slice a n c]] w fun e w' => e = .returned (.tuple #[.slice none 0 0, .bool false, .int .i64 2]) ∧ Hid (Below w.heap.size w w') := by
  have k0 : Hid (∀ x, Below w.heap.size w x → Un x p) := fun x hx => h.kept hx
  clear h
  go_enter Try.func24, Try.ntmps24
  go_wp2_with (go_at_call 28; refine (un_del _ _ (k0.out _ (by repeat' with_reducible first | exact Below.refl _ _ | refine Below.drew ?_ | refine Below.drN ?_ _ | refine Below.al ?_ _))).mono ?_; rintro e w1 ⟨rfl, hb1⟩; have hB : Hid (Below w.heap.size w w1) := (show Below w.heap.size w _ from (by repeat' with_reducible first | exact Below.refl _ _ | refine Below.drew ?_ | refine Below.drN ?_ _ | refine Below.al ?_ _)).trans (hb1.out.mono (Below.size (by repeat' with_reducible first | exact Below.refl _ _ | refine Below.drew ?_ | refine Below.drN ?_ _ | refine Below.al ?_ _))); clear hb1 k0)
  refine bodyPost_ret (v := .tuple #[.slice none 0 0, .bool false, .int .i64 2]) (by simp [results, Try.results24, go_sem]) rfl ⟨rfl, hB⟩
set_option maxRecDepth 100000 in
theorem undo4 {w : World} {p : Value} (net i at_ by_ : Int) (a : Option Addr) (n c : Nat) (h : Un w p) :
    Calls Try.prog 24 #[p, .agg #[.int .i64 4, .int .i64 net, .int .i64 i, .int .i64 at_, .int .u32 by_, .slice a n c]] w fun e w' => e = .returned (.tuple #[.slice none 0 0, .bool false, .int .i64 2]) ∧ Hid (Below w.heap.size w w') := by
  have k0 : Hid (∀ x, Below w.heap.size w x → Un x p) := fun x hx => h.kept hx
  clear h
  go_enter Try.func24, Try.ntmps24
  go_wp2_with (go_at_call 33; refine (un_drop _ _ (k0.out _ (by repeat' with_reducible first | exact Below.refl _ _ | refine Below.drew ?_ | refine Below.drN ?_ _ | refine Below.al ?_ _))).mono ?_; rintro e w1 ⟨rfl, hb1⟩; have hB : Hid (Below w.heap.size w w1) := (show Below w.heap.size w _ from (by repeat' with_reducible first | exact Below.refl _ _ | refine Below.drew ?_ | refine Below.drN ?_ _ | refine Below.al ?_ _)).trans (hb1.out.mono (Below.size (by repeat' with_reducible first | exact Below.refl _ _ | refine Below.drew ?_ | refine Below.drN ?_ _ | refine Below.al ?_ _))); clear hb1 k0)
  refine bodyPost_ret (v := .tuple #[.slice none 0 0, .bool false, .int .i64 2]) (by simp [results, Try.results24, go_sem]) rfl ⟨rfl, hB⟩
set_option maxRecDepth 100000 in
theorem undo5 {w : World} {p : Value} (net i at_ by_ : Int) (a : Option Addr) (n c : Nat) (h : Un w p) :
    Calls Try.prog 24 #[p, .agg #[.int .i64 5, .int .i64 net, .int .i64 i, .int .i64 at_, .int .u32 by_, .slice a n c]] w fun e w' => e = .returned (.tuple #[.slice none 0 0, .bool false, .int .i64 2]) ∧ Hid (Below w.heap.size w w') := by
  have k0 : Hid (∀ x, Below w.heap.size w x → Un x p) := fun x hx => h.kept hx
  clear h
  go_enter Try.func24, Try.ntmps24
  go_wp2_with (go_at_call 62; refine (un_twice _ _ (k0.out _ (by repeat' with_reducible first | exact Below.refl _ _ | refine Below.drew ?_ | refine Below.drN ?_ _ | refine Below.al ?_ _))).mono ?_; rintro e w1 ⟨rfl, hb1⟩; have hB : Hid (Below w.heap.size w w1) := (show Below w.heap.size w _ from (by repeat' with_reducible first | exact Below.refl _ _ | refine Below.drew ?_ | refine Below.drN ?_ _ | refine Below.al ?_ _)).trans (hb1.out.mono (Below.size (by repeat' with_reducible first | exact Below.refl _ _ | refine Below.drew ?_ | refine Below.drN ?_ _ | refine Below.al ?_ _))); clear hb1 k0)
  refine bodyPost_ret (v := .tuple #[.slice none 0 0, .bool false, .int .i64 2]) (by simp [results, Try.results24, go_sem]) rfl ⟨rfl, hB⟩
set_option maxRecDepth 100000 in
theorem undo6 {w : World} {p : Value} (net i at_ by_ : Int) (a : Option Addr) (n c : Nat) (h : Un w p) :
    Calls Try.prog 24 #[p, .agg #[.int .i64 6, .int .i64 net, .int .i64 i, .int .i64 at_, .int .u32 by_, .slice a n c]] w fun e w' => e = .returned (.tuple #[.slice none 0 0, .bool false, .int .i64 2]) ∧ Hid (Below w.heap.size w w') := by
  have k0 : Hid (∀ x, Below w.heap.size w x → Un x p) := fun x hx => h.kept hx
  clear h
  go_enter Try.func24, Try.ntmps24
  go_wp2_with (go_at_call 32; refine (un_turn _ _ _ _ (k0.out _ (by repeat' with_reducible first | exact Below.refl _ _ | refine Below.drew ?_ | refine Below.drN ?_ _ | refine Below.al ?_ _))).mono ?_; rintro e w1 ⟨rfl, hb1⟩; have hB : Hid (Below w.heap.size w w1) := (show Below w.heap.size w _ from (by repeat' with_reducible first | exact Below.refl _ _ | refine Below.drew ?_ | refine Below.drN ?_ _ | refine Below.al ?_ _)).trans (hb1.out.mono (Below.size (by repeat' with_reducible first | exact Below.refl _ _ | refine Below.drew ?_ | refine Below.drN ?_ _ | refine Below.al ?_ _))); clear hb1 k0)
  refine bodyPost_ret (v := .tuple #[.slice none 0 0, .bool false, .int .i64 2]) (by simp [results, Try.results24, go_sem]) rfl ⟨rfl, hB⟩
set_option maxRecDepth 100000 in
theorem undo7 {w : World} {p : Value} (net i at_ by_ : Int) (a : Option Addr) (n c : Nat) (h : Un w p) :
    Calls Try.prog 24 #[p, .agg #[.int .i64 7, .int .i64 net, .int .i64 i, .int .i64 at_, .int .u32 by_, .slice a n c]] w fun e w' => e = .returned (.tuple #[.slice none 0 0, .bool false, .int .i64 2]) ∧ Hid (Below w.heap.size w w') := by
  have k0 : Hid (∀ x, Below w.heap.size w x → Un x p) := fun x hx => h.kept hx
  clear h
  go_enter Try.func24, Try.ntmps24
  go_wp2_with (go_at_call 31; refine (un_forge _ _ _ _ (k0.out _ (by repeat' with_reducible first | exact Below.refl _ _ | refine Below.drew ?_ | refine Below.drN ?_ _ | refine Below.al ?_ _))).mono ?_; rintro e w1 ⟨rfl, hb1⟩; have hB : Hid (Below w.heap.size w w1) := (show Below w.heap.size w _ from (by repeat' with_reducible first | exact Below.refl _ _ | refine Below.drew ?_ | refine Below.drN ?_ _ | refine Below.al ?_ _)).trans (hb1.out.mono (Below.size (by repeat' with_reducible first | exact Below.refl _ _ | refine Below.drew ?_ | refine Below.drN ?_ _ | refine Below.al ?_ _))); clear hb1 k0)
  refine bodyPost_ret (v := .tuple #[.slice none 0 0, .bool false, .int .i64 2]) (by simp [results, Try.results24, go_sem]) rfl ⟨rfl, hB⟩
set_option maxRecDepth 100000 in
theorem undo8 {w : World} {p : Value} (net i at_ by_ : Int) (a : Option Addr) (n c : Nat) (h : Un w p) :
    Calls Try.prog 24 #[p, .agg #[.int .i64 8, .int .i64 net, .int .i64 i, .int .i64 at_, .int .u32 by_, .slice a n c]] w fun e w' => e = .returned (.tuple #[.slice none 0 0, .bool false, .int .i64 0]) ∧ Hid (Below w.heap.size w w') := by
  have k0 : Hid (∀ x, Below w.heap.size w x → Un x p) := fun x hx => h.kept hx
  clear h
  go_enter Try.func24, Try.ntmps24
  go_wp2_with (go_at_call 34; refine (un_rec (k0.out _ (by repeat' with_reducible first | exact Below.refl _ _ | refine Below.drew ?_ | refine Below.drN ?_ _ | refine Below.al ?_ _))).mono ?_; rintro e w1 ⟨rfl, hb1⟩; have hB : Hid (Below w.heap.size w w1) := (show Below w.heap.size w _ from (by repeat' with_reducible first | exact Below.refl _ _ | refine Below.drew ?_ | refine Below.drN ?_ _ | refine Below.al ?_ _)).trans (hb1.out.mono (Below.size (by repeat' with_reducible first | exact Below.refl _ _ | refine Below.drew ?_ | refine Below.drN ?_ _ | refine Below.al ?_ _))); clear hb1 k0)
  refine bodyPost_ret (v := .tuple #[.slice none 0 0, .bool false, .int .i64 0]) (by simp [results, Try.results24, go_sem]) rfl ⟨rfl, hB⟩
end Go.Proofs.Ytfipdldoklkciaa
