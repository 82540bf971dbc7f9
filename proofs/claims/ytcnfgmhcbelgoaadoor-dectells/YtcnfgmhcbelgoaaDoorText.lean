/-
  A number's text: dec.Text.
-/
import Derived.Test.YtcnfgmhcbelgoaaDoorNum
import Derived.Lib.AppendStr
import Derived.Deep.RegionHeld3
namespace Go.Proofs.YtcnfgmhcbelgoaaDoor
open Go.RowKit

/-- A number's text, as bytes. -/
def textL (n : Bool) (s : List Int) (x : Int) : List Int := (if n = true then [45] else []) ++ s ++ (if x = 0 then [] else 101 :: itoaL x)
def textA (n : Bool) (s : ByteArray) (x : Int) : ByteArray := if rtN n s x = true then strOfNums (textL n (bs s) x) else noS
theorem cells_bs (t : ByteArray) : Lib.strCells t = (bs t).map (Value.int .u8) := by
  unfold Lib.strCells bs
  rw [List.map_map]
  rfl
/-- 'append(v, t...)', v the call's own bytes, t a string. -/
theorem wpList_append_text {w : World} {ops : Array Oper} {rest : List Oper} {o : Oper} {a : Act} {Q : Exit → Act → World → Prop} (hgd : o.guard = none) (s x : Operand)
    (ho : o.op = .call { callee := .builtin .append, args := #[s, x], argTypes := #[49, 9] })
    (base : Nat) (v : Value) (ys : List Int) (hs : a.eval s = v) (hown : OwnsB w base v ys)
    (t : ByteArray) (hx : a.eval x = .string t) (hbytes : ys.length + t.size ≤ 140737488355328) (hbase : base ≤ w.heap.size)
    (h : ∀ v' w', OwnsB w' base v' (ys ++ bs t) → w.grownBy w' v.ownBlock → wpList Tryd.prog ops Q rest (a.put o.dst v') w') : wpList Tryd.prog ops Q (o :: rest) a w := by
  obtain ⟨i, hi, hz, hsz, hby⟩ := info_parts info5
  refine Lib.wpList_append_own_string w hgd s x 49 9 ho base 5 i Tryd.underlying49 Tryd.underlying9 hi hz hsz hby v ys.length _ hs hown.1 t hx (by unfold maxLen; omega) hbytes hbase ?_
  intro v' w' ho' hg _
  refine h v' w' ⟨?_, fun c hc => ?_⟩ hg
  · rw [List.length_append, List.map_append, bs_len, ← cells_bs]
    exact ho'
  · rcases List.mem_append.1 hc with h1 | h1
    · exact hown.2 c h1
    · exact bs_bytes t c h1
theorem Tab.up {B B' : Nat} {w : World} (h : Tab B w) (hB : B ≤ B') : Tab B' w := fun w' hb => h w' (hb.mono hB)
/-- The same as a step of a region that draws its order, x bytes at an address. -/
theorem step_append_bytes {w : World} {ops : Array Oper} {o : Oper} {a : Act} {K : Act → World → Prop} {Q : Exit → Act → World → Prop} {E : Prop} (hgd : o.guard = none) (s x : Operand)
    (ho : o.op = .call { callee := .builtin .append, args := #[s, x], argTypes := #[49, 49] })
    (base : Nat) (v : Value) (ys zs : List Int) (hs : a.eval s = v) (hown : OwnsB w base v ys)
    (ad : Addr) (m c : Nat) (hx : a.eval x = .slice (some ad) m c) (hm : zs.length = m) (hb : Bytes w (some ad) zs)
    (hbytes : ys.length + zs.length ≤ 140737488355328) (hbase : base ≤ w.heap.size)
    (h : ∀ v' w', OwnsB w' base v' (ys ++ zs) → w.grownBy w' v.ownBlock → K (a.put o.dst v') w') :
    if Region.wanted o (yielded ops a.tmps) = true then Oper.wp Tryd.prog o a w K Q else E := by
  have hw : Region.wanted o (yielded ops a.tmps) = true := by simp [Region.wanted, hgd]
  rw [if_pos hw]
  subst hm
  obtain ⟨i, hi, hz, hsz, hby⟩ := info_parts info5
  refine wp_append_own w s x 49 ho base 5 i (.int .u8 0) 1 1 Tryd.underlying49 hi hz hsz hby rfl (by decide) v ys.length _ hs hown.1 ad zs.length c (zs.map (Value.int .u8)) hx (by simp) (bytes_news hb) (bytes_one zs) ?_ (by omega) hbase ?_
  · unfold maxLen; omega
  · intro v' w' ho' hg _
    refine h v' w' ⟨?_, fun c hc => ?_⟩ hg
    · rw [List.length_append, List.map_append]
      exact ho'
    · rcases List.mem_append.1 hc with h1 | h1
      · exact hown.2 c h1
      · exact hb.1 c h1
set_option maxHeartbeats 2000000 in
set_option maxRecDepth 100000 in
theorem text_a (s : ByteArray) (x : Int) (w : World) (hT : Tab w.heap.size w) (hr : rtN true s x = true) (h0 : x = 0) : Calls Tryd.prog 18 #[.agg #[.bool true, .string s, .int .i64 x]] w fun e w' => e = .returned (.string (textA true s x)) ∧ Below w.heap.size w w' := by
  have hR : Hid (textA true s x = strOfNums ([45] ++ bs s)) := by show _ = _; unfold textA; rw [hr]; simp [textL, h0]
  have hB := box_at w true s x 23
  have kR := dright_any true s x
  rw [hr] at kR
  have hsz := (rt_size (rtN_rt hr)).2
  have hx := rtN_exp hr
  clear hr
  generalize textA true s x = R at *
  have hT' : Hid (Tab w.heap.size w) := hT
  clear hT
  subst h0
  clear hx
  obtain ⟨b0, b1, b2⟩ := id hB
  go_enter Tryd.func18, Tryd.ntmps18
  go_wp2_with (first
    | (go_at_call 16; refine (kR _).mono ?_; rintro e w1 ⟨rfl, hb⟩; obtain ⟨c0, c1, c2⟩ := hB.kept hb (alloc_lt _ _); have hB1 : Hid (NmAt w1 w.heap.size true s 0) := hB.kept hb (alloc_lt _ _); have b1 : Hid (Below w.heap.size w w1) := box_below hb; have s1 : w.heap.size + 1 ≤ w1.heap.size := (by have := hb.size; simpa using this))
    | (at_builtin; refine wpList_append_bytes rfl _ (.tmp 10) rfl (w.heap.size + 1) (.slice none 0 0) [] [45] rfl (ownsB_nil _ _) (some ⟨w1.heap.size, 0, none⟩) 1 1 rfl rfl (by simp) (one_byte w1 45 (by decide) (by decide)) (by simp) (by simp; omega) ?_; intro v2 w2 ho2 hg2; have b2' : Below (w.heap.size + 1) w1 w2 := grown_below ((Below.refl (w.heap.size + 1) w1).alloc (by omega) _) (ownsB_nil _ _) hg2 (by simp; omega); have b2 : Hid (Below w.heap.size w w2) := b1.out.trans (b2'.mono (by omega)); have s2 : w.heap.size + 1 ≤ w2.heap.size := Nat.le_trans s1 b2'.size; have hB2 : Hid (NmAt w2 w.heap.size true s 0) := hB1.out.kept b2' (by omega); obtain ⟨d0, d1, d2⟩ := hB2.out; have hO2 : Hid (OwnsB w2 (w.heap.size + 1) v2 [45]) := ho2; clear ho2 hg2; clear b2')
    | (at_builtin; refine wpList_append_text rfl _ (.tmp 14) rfl (w.heap.size + 1) v2 [45] rfl hO2.out s rfl (by simp; omega) (by omega) ?_; intro v3 w3 ho3 hg3; have b3' : Below (w.heap.size + 1) w2 w3 := grown_below (Below.refl _ _) hO2.out hg3 (by omega); have b3 : Hid (Below w.heap.size w w3) := b2.out.trans (b3'.mono (by omega)); have s3 : w.heap.size + 1 ≤ w3.heap.size := Nat.le_trans s2 b3'.size; have hB3 : Hid (NmAt w3 w.heap.size true s 0) := hB2.out.kept b3' (by omega); obtain ⟨g0, g1, g2⟩ := hB3.out; have hO3 : Hid (OwnsB w3 (w.heap.size + 1) v3 ([45] ++ bs s)) := ho3; clear ho3 hg3; clear b3'; obtain ⟨a3, n3, p3, rfl, l3, -, -, -, y3⟩ := hO3.out.form; have cv := conv_str y3.out n3 p3 l3.out))
  go_ret
  exact ⟨by rw [hR.out]; rfl, b3.out⟩
set_option maxHeartbeats 2000000 in
set_option maxRecDepth 100000 in
theorem text_b (s : ByteArray) (x : Int) (w : World) (hT : Tab w.heap.size w) (hr : rtN true s x = true) (h0 : x ≠ 0) : Calls Tryd.prog 18 #[.agg #[.bool true, .string s, .int .i64 x]] w fun e w' => e = .returned (.string (textA true s x)) ∧ Below w.heap.size w w' := by
  have hR : Hid (textA true s x = strOfNums ([45] ++ bs s ++ 101 :: itoaL x)) := by show _ = _; unfold textA; rw [hr]; simp [textL, h0]
  have hB := box_at w true s x 23
  have kR := dright_any true s x
  rw [hr] at kR
  have hsz := (rt_size (rtN_rt hr)).2
  have hx := rtN_exp hr
  clear hr
  generalize textA true s x = R at *
  have hT' : Hid (Tab w.heap.size w) := hT
  clear hT
  have hx0 : -9223372036854775808 ≤ x := by omega
  have hx1 : x ≤ 9223372036854775807 := by omega
  have d0 : (x != 0) = true := by simpa using h0
  clear hx h0
  obtain ⟨b0, b1, b2⟩ := id hB
  go_enter Tryd.func18, Tryd.ntmps18
  go_wp2_with (first
    | (go_at_call 16; refine (kR _).mono ?_; rintro e w1 ⟨rfl, hb⟩; obtain ⟨c0, c1, c2⟩ := hB.kept hb (alloc_lt _ _); have hB1 : Hid (NmAt w1 w.heap.size true s x) := hB.kept hb (alloc_lt _ _); have b1 : Hid (Below w.heap.size w w1) := box_below hb; have s1 : w.heap.size + 1 ≤ w1.heap.size := (by have := hb.size; simpa using this))
    | (at_builtin; refine wpList_append_bytes rfl _ (.tmp 10) rfl (w.heap.size + 1) (.slice none 0 0) [] [45] rfl (ownsB_nil _ _) (some ⟨w1.heap.size, 0, none⟩) 1 1 rfl rfl (by simp) (one_byte w1 45 (by decide) (by decide)) (by simp) (by simp; omega) ?_; intro v2 w2 ho2 hg2; have b2' : Below (w.heap.size + 1) w1 w2 := grown_below ((Below.refl (w.heap.size + 1) w1).alloc (by omega) _) (ownsB_nil _ _) hg2 (by simp; omega); have b2 : Hid (Below w.heap.size w w2) := b1.out.trans (b2'.mono (by omega)); have s2 : w.heap.size + 1 ≤ w2.heap.size := Nat.le_trans s1 b2'.size; have hB2 : Hid (NmAt w2 w.heap.size true s x) := hB1.out.kept b2' (by omega); obtain ⟨d0, d1, d2⟩ := hB2.out; have hO2 : Hid (OwnsB w2 (w.heap.size + 1) v2 [45]) := ho2; clear ho2 hg2; clear b2')
    | (at_builtin; refine wpList_append_text rfl _ (.tmp 14) rfl (w.heap.size + 1) v2 [45] rfl hO2.out s rfl (by simp; omega) (by omega) ?_; intro v3 w3 ho3 hg3; have b3' : Below (w.heap.size + 1) w2 w3 := grown_below (Below.refl _ _) hO2.out hg3 (by omega); have b3 : Hid (Below w.heap.size w w3) := b2.out.trans (b3'.mono (by omega)); have s3 : w.heap.size + 1 ≤ w3.heap.size := Nat.le_trans s2 b3'.size; have hB3 : Hid (NmAt w3 w.heap.size true s x) := hB2.out.kept b3' (by omega); obtain ⟨g0, g1, g2⟩ := hB3.out; have hO3 : Hid (OwnsB w3 (w.heap.size + 1) v3 ([45] ++ bs s)) := ho3; clear ho3 hg3; clear b3'; obtain ⟨a3, n3, p3, rfl, l3, -, -, -, y3⟩ := hO3.out.form))
  have hby : Hid (Bytes (w3.alloc (.cells #[.int .u8 101] 5)) (some ⟨w3.heap.size, 0, none⟩) [101]) := one_byte w3 101 (by decide) (by decide)
  have hlen : Hid (([45] ++ bs s).length ≤ 1000) := by show _ ≤ _; rw [List.length_append, bs_len]; simp; omega
  go_region_held3 (fun wx => wx.cell? ⟨w.heap.size, 2, none⟩ = some (.int .i64 x)) (first | exact g2 | exact q4.out.2.2 | exact q5.out.2.2 | exact (hB3.out.kept ((Below.refl w3.heap.size w3).alloc (Nat.le_refl _) _) (by omega)).2.2 | exact (NmAt.kept (w := w3.drew) hB3.out ((Below.refl w3.heap.size w3.drew).alloc (Nat.le_refl _) _) (by show _ < w3.heap.size; omega)).2.2) (first
    | (refine step_append_bytes (by rfl) _ _ (by rfl) (w.heap.size + 1) (.slice a3 n3 p3) ([45] ++ bs s) [101] (by rfl) (by exact hO3.out.alloc _) ⟨w3.heap.size, 0, none⟩ 1 1 (by rfl) rfl (by exact hby.out) (by have := hlen.out; rw [List.length_singleton]; omega) (by simp; omega) ?_; intro v4 w4 ho4 hg4; have b4' : Below (w.heap.size + 1) w3 w4 := (by first | exact grown_below ((Below.refl (w.heap.size + 1) w3).alloc (by omega) _) (hO3.out.alloc _) hg4 (by simp; omega) | exact grown_below (((Below.refl (w.heap.size + 1) w3).drew).alloc (by show _ ≤ w3.heap.size; omega) _) (by exact hO3.out.alloc _) hg4 (by simp; omega)); have b4 : Hid (Below w.heap.size w w4) := b3.out.trans (b4'.mono (by omega)); have s4 : w.heap.size + 1 ≤ w4.heap.size := Nat.le_trans s3 b4'.size; have q4 : Hid (NmAt w4 w.heap.size true s x) := hB3.out.kept b4' (by omega); have hO4 : Hid (OwnsB w4 (w.heap.size + 1) v4 ([45] ++ bs s ++ [101])) := ho4; clear ho4 hg4; clear b4'; have t4 : Hid (Tab (w.heap.size + 1) w4) := (hT'.out.on b4.out).up (by omega); have hl4 : Hid (([45] ++ bs s ++ [101]).length + 21 ≤ 140737488355328) := (by have := hlen.out; show _ ≤ _; rw [List.length_append, List.length_singleton]; omega))
    | (go_at_call 42; refine (appi_any (w.heap.size + 1) v4 ([45] ++ bs s ++ [101]) x hx0 hx1 w4 hO4.out s4 hl4.out t4.out).mono ?_; rintro e w5 ⟨v5, rfl, ho5, hb5⟩; have q5 : Hid (NmAt w5 w.heap.size true s x) := q4.out.kept hb5 (by omega)))
  have b5 : Hid (Below w.heap.size w w5) := b4.out.trans (hb5.mono (by omega))
  obtain ⟨a5, n5, p5, rfl, l5, -, -, -, y5⟩ := ho5.form
  have cv := conv_str y5.out n5 p5 l5.out
  clear hB3 q4 q5 hb5 ho5 hO4 t4 hl4 hlen hby
  go_wp2
  go_ret
  exact ⟨by rw [hR.out]; rfl, b5.out⟩
set_option maxHeartbeats 2000000 in
set_option maxRecDepth 100000 in
theorem text_c (s : ByteArray) (x : Int) (w : World) (hT : Tab w.heap.size w) (hr : rtN false s x = true) (h0 : x = 0) : Calls Tryd.prog 18 #[.agg #[.bool false, .string s, .int .i64 x]] w fun e w' => e = .returned (.string (textA false s x)) ∧ Below w.heap.size w w' := by
  have hR : Hid (textA false s x = strOfNums ([] ++ bs s)) := by show _ = _; unfold textA; rw [hr]; simp [textL, h0]
  have hB := box_at w false s x 23
  have kR := dright_any false s x
  rw [hr] at kR
  have hsz := (rt_size (rtN_rt hr)).2
  have hx := rtN_exp hr
  clear hr
  generalize textA false s x = R at *
  have hT' : Hid (Tab w.heap.size w) := hT
  clear hT
  subst h0
  clear hx
  obtain ⟨b0, b1, b2⟩ := id hB
  go_enter Tryd.func18, Tryd.ntmps18
  go_wp2_with (first
    | (go_at_call 16; refine (kR _).mono ?_; rintro e w1 ⟨rfl, hb⟩; obtain ⟨c0, c1, c2⟩ := hB.kept hb (alloc_lt _ _); have hB1 : Hid (NmAt w1 w.heap.size false s 0) := hB.kept hb (alloc_lt _ _); have b1 : Hid (Below w.heap.size w w1) := box_below hb; have s1 : w.heap.size + 1 ≤ w1.heap.size := (by have := hb.size; simpa using this))
    | (at_builtin; refine wpList_append_text rfl _ (.tmp 14) rfl (w.heap.size + 1) (.slice none 0 0) [] rfl (ownsB_nil _ _) s rfl (by simp; omega) (by omega) ?_; intro v3 w3 ho3 hg3; have b3' : Below (w.heap.size + 1) w1 w3 := grown_below (Below.refl _ _) (ownsB_nil _ _) hg3 (by omega); have b3 : Hid (Below w.heap.size w w3) := b1.out.trans (b3'.mono (by omega)); have s3 : w.heap.size + 1 ≤ w3.heap.size := Nat.le_trans s1 b3'.size; have hB3 : Hid (NmAt w3 w.heap.size false s 0) := hB1.out.kept b3' (by omega); obtain ⟨g0, g1, g2⟩ := hB3.out; have hO3 : Hid (OwnsB w3 (w.heap.size + 1) v3 ([] ++ bs s)) := ho3; clear ho3 hg3; clear b3'; obtain ⟨a3, n3, p3, rfl, l3, -, -, -, y3⟩ := hO3.out.form; have cv := conv_str y3.out n3 p3 l3.out))
  go_ret
  exact ⟨by rw [hR.out]; rfl, b3.out⟩
set_option maxHeartbeats 2000000 in
set_option maxRecDepth 100000 in
theorem text_d (s : ByteArray) (x : Int) (w : World) (hT : Tab w.heap.size w) (hr : rtN false s x = true) (h0 : x ≠ 0) : Calls Tryd.prog 18 #[.agg #[.bool false, .string s, .int .i64 x]] w fun e w' => e = .returned (.string (textA false s x)) ∧ Below w.heap.size w w' := by
  have hR : Hid (textA false s x = strOfNums ([] ++ bs s ++ 101 :: itoaL x)) := by show _ = _; unfold textA; rw [hr]; simp [textL, h0]
  have hB := box_at w false s x 23
  have kR := dright_any false s x
  rw [hr] at kR
  have hsz := (rt_size (rtN_rt hr)).2
  have hx := rtN_exp hr
  clear hr
  generalize textA false s x = R at *
  have hT' : Hid (Tab w.heap.size w) := hT
  clear hT
  have hx0 : -9223372036854775808 ≤ x := by omega
  have hx1 : x ≤ 9223372036854775807 := by omega
  have d0 : (x != 0) = true := by simpa using h0
  clear hx h0
  obtain ⟨b0, b1, b2⟩ := id hB
  go_enter Tryd.func18, Tryd.ntmps18
  go_wp2_with (first
    | (go_at_call 16; refine (kR _).mono ?_; rintro e w1 ⟨rfl, hb⟩; obtain ⟨c0, c1, c2⟩ := hB.kept hb (alloc_lt _ _); have hB1 : Hid (NmAt w1 w.heap.size false s x) := hB.kept hb (alloc_lt _ _); have b1 : Hid (Below w.heap.size w w1) := box_below hb; have s1 : w.heap.size + 1 ≤ w1.heap.size := (by have := hb.size; simpa using this))
    | (at_builtin; refine wpList_append_text rfl _ (.tmp 14) rfl (w.heap.size + 1) (.slice none 0 0) [] rfl (ownsB_nil _ _) s rfl (by simp; omega) (by omega) ?_; intro v3 w3 ho3 hg3; have b3' : Below (w.heap.size + 1) w1 w3 := grown_below (Below.refl _ _) (ownsB_nil _ _) hg3 (by omega); have b3 : Hid (Below w.heap.size w w3) := b1.out.trans (b3'.mono (by omega)); have s3 : w.heap.size + 1 ≤ w3.heap.size := Nat.le_trans s1 b3'.size; have hB3 : Hid (NmAt w3 w.heap.size false s x) := hB1.out.kept b3' (by omega); obtain ⟨g0, g1, g2⟩ := hB3.out; have hO3 : Hid (OwnsB w3 (w.heap.size + 1) v3 ([] ++ bs s)) := ho3; clear ho3 hg3; clear b3'; obtain ⟨a3, n3, p3, rfl, l3, -, -, -, y3⟩ := hO3.out.form))
  have hby : Hid (Bytes (w3.alloc (.cells #[.int .u8 101] 5)) (some ⟨w3.heap.size, 0, none⟩) [101]) := one_byte w3 101 (by decide) (by decide)
  have hlen : Hid (([] ++ bs s).length ≤ 1000) := by show _ ≤ _; rw [List.length_append, bs_len]; simp; omega
  go_region_held3 (fun wx => wx.cell? ⟨w.heap.size, 2, none⟩ = some (.int .i64 x)) (first | exact g2 | exact q4.out.2.2 | exact q5.out.2.2 | exact (hB3.out.kept ((Below.refl w3.heap.size w3).alloc (Nat.le_refl _) _) (by omega)).2.2 | exact (NmAt.kept (w := w3.drew) hB3.out ((Below.refl w3.heap.size w3.drew).alloc (Nat.le_refl _) _) (by show _ < w3.heap.size; omega)).2.2) (first
    | (refine step_append_bytes (by rfl) _ _ (by rfl) (w.heap.size + 1) (.slice a3 n3 p3) ([] ++ bs s) [101] (by rfl) (by exact hO3.out.alloc _) ⟨w3.heap.size, 0, none⟩ 1 1 (by rfl) rfl (by exact hby.out) (by have := hlen.out; rw [List.length_singleton]; omega) (by simp; omega) ?_; intro v4 w4 ho4 hg4; have b4' : Below (w.heap.size + 1) w3 w4 := (by first | exact grown_below ((Below.refl (w.heap.size + 1) w3).alloc (by omega) _) (hO3.out.alloc _) hg4 (by simp; omega) | exact grown_below (((Below.refl (w.heap.size + 1) w3).drew).alloc (by show _ ≤ w3.heap.size; omega) _) (by exact hO3.out.alloc _) hg4 (by simp; omega)); have b4 : Hid (Below w.heap.size w w4) := b3.out.trans (b4'.mono (by omega)); have s4 : w.heap.size + 1 ≤ w4.heap.size := Nat.le_trans s3 b4'.size; have q4 : Hid (NmAt w4 w.heap.size false s x) := hB3.out.kept b4' (by omega); have hO4 : Hid (OwnsB w4 (w.heap.size + 1) v4 ([] ++ bs s ++ [101])) := ho4; clear ho4 hg4; clear b4'; have t4 : Hid (Tab (w.heap.size + 1) w4) := (hT'.out.on b4.out).up (by omega); have hl4 : Hid (([] ++ bs s ++ [101]).length + 21 ≤ 140737488355328) := (by have := hlen.out; show _ ≤ _; rw [List.length_append, List.length_singleton]; omega))
    | (go_at_call 42; refine (appi_any (w.heap.size + 1) v4 ([] ++ bs s ++ [101]) x hx0 hx1 w4 hO4.out s4 hl4.out t4.out).mono ?_; rintro e w5 ⟨v5, rfl, ho5, hb5⟩; have q5 : Hid (NmAt w5 w.heap.size false s x) := q4.out.kept hb5 (by omega)))
  have b5 : Hid (Below w.heap.size w w5) := b4.out.trans (hb5.mono (by omega))
  obtain ⟨a5, n5, p5, rfl, l5, -, -, -, y5⟩ := ho5.form
  have cv := conv_str y5.out n5 p5 l5.out
  clear hB3 q4 q5 hb5 ho5 hO4 t4 hl4 hlen hby
  go_wp2
  go_ret
  exact ⟨by rw [hR.out]; rfl, b5.out⟩
set_option maxHeartbeats 1000000 in
theorem text_any (n : Bool) (s : ByteArray) (x : Int) (w : World) (hT : Tab w.heap.size w) : Calls Tryd.prog 18 #[.agg #[.bool n, .string s, .int .i64 x]] w fun e w' => e = .returned (.string (textA n s x)) ∧ Below w.heap.size w w' := by
  cases hr : rtN n s x with
  | false =>
    have hB := box_at w n s x 23
    have kR := dright_any n s x
    rw [hr] at kR
    have hR : textA n s x = noS := by unfold textA; rw [hr]; rfl
    rw [hR]
    clear hR hr hT
    unfold noS
    obtain ⟨b0, b1, b2⟩ := hB
    go_enter Tryd.func18, Tryd.ntmps18
    go_wp2_with (go_at_call 16; refine (kR _).mono ?_; rintro e w1 ⟨rfl, hb⟩)
    go_ret
    exact ⟨rfl, box_below hb⟩
  | true =>
    by_cases h0 : x = 0
    · cases n with
      | true => exact text_a s x w hT hr h0
      | false => exact text_c s x w hT hr h0
    · cases n with
      | true => exact text_b s x w hT hr h0
      | false => exact text_d s x w hT hr h0
end Go.Proofs.YtcnfgmhcbelgoaaDoor
