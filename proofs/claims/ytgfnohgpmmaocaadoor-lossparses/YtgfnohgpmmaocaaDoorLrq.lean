/-
  Losses parsed by the document's own answer.
-/
import Derived.Test.YtgfnohgpmmaocaaDoorLrm
import Derived.Test.YtgfnohgpmmaocaaDoorLmf
import Derived.Deep.RegionHeld3
namespace Go.Proofs.YtgfnohgpmmaocaaDoor
open Go.RowKit
set_option linter.unusedVariables false
set_option linter.unusedSimpArgs false

theorem RCur.low {w w' : World} {r W : Nat} {a : Option Addr} {n cap : Nat} {zs : List Int} {p y f : Nat} (h : RCur w r a n cap zs p y f) (hb : Below W w w') (hr : r < W) (ha : ∀ x, a = some x → zs ≠ [] → x.block < W) : RCur w' r a n cap zs p y f := by
  obtain ⟨h1, h2, h3⟩ := h
  refine ⟨?_, ⟨h2.1, h2.2.1, ?_⟩, h3⟩
  · unfold RAt
    rw [hb.block r hr]
    exact h1
  · rcases h2.2.2 with h0 | ⟨b, off, rfl, hc⟩
    · exact .inl h0
    · by_cases hz : zs = []
      · exact .inl hz
      · refine .inr ⟨b, off, rfl, fun i hi => ?_⟩
        rw [hb.cell (p := ⟨b, off + i, none⟩) (ha ⟨b, off, none⟩ rfl hz)]
        exact hc i hi
theorem RS.low {w w' : World} {r W : Nat} {a : Option Addr} {n cap : Nat} {zs : List Int} {s : St} (h : RS w r a n cap zs s) (hb : Below W w w') (hr : r < W) (ha : ∀ x, a = some x → zs ≠ [] → x.block < W) : RS w' r a n cap zs s := by
  rcases h with ⟨h1, h2, h3⟩ | ⟨h1, p, h3⟩
  · exact .inl ⟨h1, h2, h3.low hb hr ha⟩
  · exact .inr ⟨h1, p, h3.low hb hr ha⟩
theorem K2.set {q g X : Nat} {w w' : World} (k : K2 q g w w') (hX : w.heap.size ≤ X) (j : Nat) (v : Value) : K2 q g w (w'.setCell ⟨X, j, none⟩ v) :=
  ⟨k.os, k.tape, k.output, by simpa [World.setCell] using k.size, fun i hi h1 h2 => by
    rw [Below.heap_setCell _ _ _ _ (show i ≠ X by omega)]
    exact k.block i hi h1 h2⟩
theorem Blk.k2 {q g X : Nat} {w w' : World} {cs : Array Value} {T : TypeId} (h : Blk w X cs T) (k : K2 q g w w') (h1 : X ≠ q) (h2 : X ≠ g) : Blk w' X cs T := (k.block X h.lt h1 h2).trans h

theorem step_call3c {f : FuncId} {v1 : Value} {w : World} {ops : Array Oper} {o : Oper} {a : Act} {K : Act → World → Prop} {Q : Exit → Act → World → Prop} {E : Prop} {R : Value → World → Prop} (hgd : o.guard = none) (n1 : Nat) (c2 c3 : Value) (T1 T2 T3 : TypeId)
    (ho : o.op = .call { callee := .value (.func f), args := #[.tmp n1, .const c2, .const c3], argTypes := #[T1, T2, T3] }) (hx1 : a.eval (.tmp n1) = v1) (hcf : ∀ args w, (callFunc f args).run Tryd.prog w = .ok (.enter f args) w)
    (k : Calls Tryd.prog f #[v1, c2, c3] w fun e w' => ∃ r, e = .returned r ∧ R r w') (h : ∀ r w', R r w' → K (a.put o.dst r) w') :
    if Region.wanted o (yielded ops a.tmps) = true then Oper.wp Tryd.prog o a w K Q else E := by
  have hw : Region.wanted o (yielded ops a.tmps) = true := by simp [Region.wanted, hgd]
  rw [if_pos hw]
  unfold Oper.wp
  simp [Act.eval] at hx1
  simp [execOp, ho, resolve, invoke, hcf, hx1, go_sem]
  refine Calls.mono (R := fun e w' => ∃ r, e = .returned r ∧ R r w') k ?_
  rintro e w' ⟨r, he, hr⟩
  subst he
  exact h r w' hr
/-- 'append(v, x)' of integers, as a step of a region that draws its order. -/
theorem step_append_ints {w : World} {ops : Array Oper} {o : Oper} {a : Act} {K : Act → World → Prop} {Q : Exit → Act → World → Prop} {E : Prop} (hgd : o.guard = none) (s x : Operand)
    (ho : o.op = .call { callee := .builtin .append, args := #[s, x], argTypes := #[38, 38] })
    (base : Nat) (v : Value) (ys zs : List Int) (hs : a.eval s = v) (hown : OwnsI w base v ys)
    (ad : Addr) (m c : Nat) (hx : a.eval x = .slice (some ad) m c) (hm : zs.length = m) (hb : Ints w (some ad) zs)
    (hbytes : ys.length + zs.length ≤ 17592186044416) (hbase : base ≤ w.heap.size)
    (h : ∀ v' w', OwnsI w' base v' (ys ++ zs) → w.grownBy w' v.ownBlock → K (a.put o.dst v') w') :
    if Region.wanted o (yielded ops a.tmps) = true then Oper.wp Tryd.prog o a w K Q else E := by
  have hw : Region.wanted o (yielded ops a.tmps) = true := by simp [Region.wanted, hgd]
  rw [if_pos hw]
  subst hm
  obtain ⟨i, hi, hz, hsz, hby⟩ := info_parts info3
  refine wp_append_own w s x 38 ho base 3 i (.int .i64 0) 1 8 Tryd.underlying38 hi hz hsz hby rfl (by decide) v ys.length _ hs hown ad zs.length c (zs.map (Value.int .i64)) hx (by simp) (ints_news hb) (ints_one zs) ?_ (by omega) hbase ?_
  · unfold maxLen; omega
  · intro v' w' ho' hg _
    refine h v' w' ?_ hg
    unfold OwnsI
    rw [List.length_append, List.map_append]
    exact ho'

/-- A loss that the document reads: its path so far, in new memory; the cursor. -/
def IPd (wo wk : World) (r X : Nat) (a : Option Addr) (n cap : Nat) (zs : List Int) (pv : Value) (kd : Int) (nn : Nat) (l : List Int) (s : St) : Prop :=
  K2 r r wo wk ∧ Blk wk X #[pv, .int .i64 kd, .int .u64 (nn : Nat)] 41 ∧ OwnsI wk (X + 1) pv l ∧ RS wk r a n cap zs s
def IPl (wo : World) (r X : Nat) (a : Option Addr) (zs : List Int) : Prop := wo.heap.size ≤ X ∧ r < wo.heap.size ∧ ∀ x, a = some x → zs ≠ [] → x.block < wo.heap.size
theorem IPd.draw {wo wk : World} {r X : Nat} {a : Option Addr} {n cap : Nat} {zs : List Int} {pv : Value} {kd : Int} {nn : Nat} {l : List Int} {s : St} (h : IPd wo wk r X a n cap zs pv kd nn l s) : IPd wo wk.drew r X a n cap zs pv kd nn l s := by
  obtain ⟨h1, h2, h3, h4⟩ := h
  have hb : Below wk.heap.size wk wk.drew := (Below.refl _ _).drew
  exact ⟨h1.trans (K2.of_below hb), h2.kept hb, h3.below hb, h4.kept hb⟩
theorem IPd.put {wo wk w5 w6 : World} {r X : Nat} {a : Option Addr} {n cap : Nat} {zs : List Int} {pv v6 : Value} {kd : Int} {nn : Nat} {l : List Int} {s s3 : St} {m : Int} {o : Obj} (h : IPd wo wk r X a n cap zs pv kd nn l s) (hl : IPl wo r X a zs) (hg : wk.grownBy w5 (some r)) (hR : RS w5 r a n cap zs s3) (ho : OwnsI w6 (X + 1) v6 (l ++ [m])) (hg6 : (w5.alloc o).grownBy w6 pv.ownBlock) : IPd wo (w6.setCell ⟨X, 0, none⟩ v6) r X a n cap zs v6 kd nn (l ++ [m]) s3 := by
  obtain ⟨h1, h2, h3, h4⟩ := h
  obtain ⟨g1, g2, g3⟩ := hl
  have hK : K2 r r wk w5 := K2.of_g hg
  have hX5 := h2.k2 hK (by omega) (by omega)
  have hO5 := h3.k2 hK (by omega) (by omega)
  have hs5 : X + 1 ≤ w5.heap.size := hX5.lt
  have hb6 : Below (X + 1) w5 w6 := grownI_below ((Below.refl _ _).alloc hs5 o) (hO5.alloc o) hg6 (by simp; omega)
  have hX6 : Blk w6 X #[pv, .int .i64 kd, .int .u64 (nn : Nat)] 41 := (hb6.block X (by omega)).trans hX5
  refine ⟨?_, hX6.set 0 v6, ho.low (a := ⟨X, 0, none⟩) (Nat.lt_succ_self _) v6, ?_⟩
  · exact ((h1.trans hK).low (hb6.mono (by omega))).set g1 0 v6
  · have hR6 := hR.low hb6 (by omega) (fun x hx hz => by have := g3 x hx hz; omega)
    refine hR6.other (g := X) (but_setCell (World.grownBy.refl _ _) 0 v6) (by omega) (fun x hx hz => by have := g3 x hx hz; omega)

theorem kind_most (zs : List Int) (s : St) (h0 : s.1 = 0) (hz : ∀ c ∈ zs, 0 ≤ c ∧ c < 256) : kindS zs s = if (numS zs s 0 6 5).2.1 = 0 ∧ (numS zs s 0 6 5).1 = 0 then (0, (5, s.2.2, 0)) else numS zs s 0 6 5 := by
  unfold kindS
  rw [numS_word' zs s 1 6 5 h0 hz, numS_word' zs s 0 6 5 h0 hz]
  clear hz h0
  generalize wordS zs s = W
  obtain ⟨v, y, f, p⟩ := W
  simp only
  by_cases h1 : y = 0
  · subst h1
    by_cases h2 : 6 < v
    · simp [h2]
    · by_cases h3 : v = 0
      · simp [h3]
      · have h4 : ¬ (v < 1 ∨ 6 < v) := by omega
        have h5 : ¬ (v < 0 ∨ 6 < v) := by omega
        simp only [ne_eq, not_true_eq_false, if_false, if_neg h4, if_neg h5]
        rw [if_neg (by simp [h3])]
  · simp [h1]

/-- What the document has read: the list, the cursor; what has turned since W2: the cursor alone. -/
def OP (w W2 wk : World) (r : Nat) (a : Option Addr) (n cap : Nat) (zs : List Int) (v : Value) (L : List (Value × Ls)) (s : St) : Prop := OwnsK wk W2.heap.size v L ∧ RS wk r a n cap zs s ∧ K2 r r W2 wk
theorem K2.trans' {q g : Nat} {a b c : World} (h : K2 q g a b) (k : K2 q g b c) : K2 q g a c := h.trans k
theorem word_lt (zs : List Int) (s : St) (hz : ∀ c ∈ zs, 0 ≤ c ∧ c < 256) : (wordS zs s).1 < 18446744073709551616 := by
  unfold wordS numS
  have hzd : ∀ c ∈ zs.drop s.2.2, 0 ≤ c ∧ c < 256 := fun c hc => hz c (List.mem_of_mem_drop hc)
  have := rdS_lt (zs.drop s.2.2) 0 0 hzd (by omega) (by simp)
  repeat' split
  all_goals first | exact this | simp

set_option maxHeartbeats 8000000 in
theorem rparse_any (a : Option Addr) (n cap : Nat) (zs : List Int) (w : World) (hl : zs.length = n) (hb : Bytes w a zs) (hc : n ≤ cap ∧ cap ≤ 9223372036854775807) (hn : a = none → cap = 0) (hm : n ≤ 140737488355328) (hsp : ∀ x, a = some x → 0 < cap → x.spot = none) :
    Calls Tryd.prog 14 #[.slice a n cap] w fun e w' => ∃ (v : Value) (L : List (Value × Ls)), e = .returned (.tuple #[v, .agg #[.int .i64 ((parA zs).2.1 : Nat), .int .i64 ((parA zs).2.2 : Nat)]]) ∧ Hid (OwnsK w' w.heap.size v L ∧ L.length ≤ 2048 ∧ L.map Prod.snd = (parA zs).1) ∧ Hid (Below w.heap.size w w') := by
  obtain ⟨R, hRR⟩ : ∃ R, Hid (parA zs = R) := ⟨_, rfl⟩
  rw [hRR.out]
  obtain ⟨W1, hW1⟩ : ∃ W1, Hid (W1 = w.alloc (.cells #[.int .i64 0, .int .i64 0] 33)) := ⟨_, rfl⟩
  have hB1 : Hid (Below w.heap.size w W1) := by show Below _ _ _; rw [hW1.out]; exact al_below _ _
  have hs1 : Hid (W1.heap.size = w.heap.size + 1) := by show _ = _; rw [hW1.out]; simp
  have hX1 : Hid (Blk W1 w.heap.size #[.int .i64 0, .int .i64 0] 33) := by show Blk _ _ _ _; rw [hW1.out]; exact blk_new _ _ _
  obtain ⟨W2, hW2⟩ : ∃ W2, Hid (W2 = W1.alloc (.cells #[.slice a n cap, .int .i64 0, .int .i64 0, .int .i64 0] 54)) := ⟨_, rfl⟩
  have hB12 : Hid (Below W1.heap.size W1 W2) := by show Below _ _ _; rw [hW2.out]; exact al_below _ _
  have hs2 : Hid (W2.heap.size = w.heap.size + 1 + 1) := by show _ = _; rw [hW2.out, ← hs1.out]; simp
  have hX2 : Hid (Blk W2 w.heap.size #[.int .i64 0, .int .i64 0] 33) := hX1.out.kept hB12.out
  have hB2 : Hid (Below w.heap.size w W2) := hB1.out.trans (hB12.out.mono hB1.out.size)
  have ha : Hid (∀ x, a = some x → zs ≠ [] → x.block < w.heap.size) := fun x hx hz => by
    have h := hb
    rw [hx] at h
    exact Bytes.lt h hz
  have hR2 : Hid (RS W2 (w.heap.size + 1) a n cap zs (0, 0, 0)) := .inl ⟨rfl, rfl, by show RAt _ _ _ _ _ _; unfold RAt; rw [hW2.out, ← hs1.out]; exact heap_alloc_new _ _, (hb.kept hB1.out).kept hB12.out, hl, Nat.zero_le _, hm, hc.1, hc.2, hn, fun x hx hz => by have := ha.out x hx hz; omega, hsp⟩
  have k1 := most_any 2048 8 (by decide) (by decide) (by decide) hR2.out
  rw [hW2.out, hW1.out] at k1
  clear hb hn
  go_enter Tryd.func14, Tryd.ntmps14
  go_wp2_with fail
  refine k1.mono ?_
  rintro e w3 ⟨rfl, hR3, hg3⟩
  rw [← hW1.out, ← hW2.out] at hg3
  clear k1
  -- BODY
  have hrr : Hid (w.heap.size + 1 = w.heap.size + 1) := rfl
  have hr : Hid (w.heap.size + 1 = w.heap.size + 1) := rfl
  have hz := hR3.out.zs
  have hK3 : Hid (K2 (w.heap.size + 1) (w.heap.size + 1) W2 w3) := K2.of_g hg3.out
  have hX3 : Hid (Blk w3 w.heap.size #[.int .i64 0, .int .i64 0] 33) := hX2.out.k2 hK3.out (by have := hr.out; omega) (by have := hr.out; omega)
  have hc2 : Hid ((numS zs (0, 0, 0) 0 2048 8).1 ≤ 2048) := by
    show _ ≤ _
    by_cases h0 : (numS zs (0, 0, 0) 0 2048 8).2.1 = 0
    · obtain ⟨m, p, e, _, h2, _⟩ := numS_ok zs hz.1 (0, 0, 0) 0 2048 8 rfl h0 (.inl (by decide))
      rw [e]; exact h2
    · rw [numS_zero zs (0, 0, 0) 0 2048 8 h0]; simp
  obtain ⟨Q, hQ0⟩ : ∃ Q, Hid (allS zs = Q) := ⟨_, rfl⟩
  have hI0 : Hid (lsS zs (numS zs (0, 0, 0) 0 2048 8).1 (numS zs (0, 0, 0) 0 2048 8).2 = Q) := hQ0.out
  clear hg3 hR2 hX1 hB1 hB12
  generalize (numS zs (0, 0, 0) 0 2048 8).1 = N at *
  generalize (numS zs (0, 0, 0) 0 2048 8).2 = s3 at *
  go_wp2_with fail
  go_loopw [5, 7] (fun vv i wr => ∃ (L : List (Value × Ls)) (I k : Nat) (s' : St), i = .int .i64 I ∧ I = L.length ∧ I + k = N ∧ Hid (OP w W2 wr (w.heap.size + 1) a n cap zs vv L s') ∧ Hid (L.map Prod.snd ++ (lsS zs k s').1 = Q.1 ∧ (lsS zs k s').2 = Q.2)) (fun _ i _ => N - (intOf i).toNat)
  case atStart => exact ⟨[], 0, N, s3, rfl, rfl, by omega, ⟨ownsK_nil _ _, hR3.out, hK3.out⟩, by show _ ∧ _; rw [hI0.out]; exact ⟨rfl, rfl⟩⟩
  case round =>
    obtain ⟨L, I, k, s', rfl, rfl, hIk, hOP, hE⟩ := hrel
    obtain ⟨wo, hwo⟩ : ∃ wo, wo = wr := ⟨wr, rfl⟩
    subst hwo
    obtain ⟨hO', hRo', hKo'⟩ := hOP.out
    have hO : Hid (OwnsK wo W2.heap.size u5 L) := hO'
    have hRo : Hid (RS wo (w.heap.size + 1) a n cap zs s') := hRo'
    have hKo : Hid (K2 (w.heap.size + 1) (w.heap.size + 1) W2 wo) := hKo'
    have hLl : Hid (L.length ≤ 2048) := by have := hc2.out; show _ ≤ _; omega
    have hN2 := hc2.out
    clear hO' hRo' hKo' hOP hR3 hK3 hI0
    obtain ⟨p1, f1, hcu, hp1, _⟩ := hRo.out.cur
    have d1 := hcu.1.c1
    have d2 := hcu.1.c2
    have hrwo : Hid ((w.heap.size + 1) < wo.heap.size) := hcu.1.lt
    clear hcu
    by_cases hgo : 0 < k ∧ s'.1 = 0
    · obtain ⟨hk0, hs0⟩ := hgo
      obtain ⟨k, rfl⟩ : ∃ k', k = k' + 1 := ⟨k - 1, by omega⟩
      have hlt : L.length < N := by omega
      rw [hs0] at d2
      obtain ⟨hp1', _⟩ := hp1 hs0
      subst hp1'
      have hE6 : Hid (L.map Prod.snd ++ ((lossS zs s').1 :: (lsS zs k (lossS zs s').2).1) = Q.1 ∧ (lsS zs k (lossS zs s').2).2 = Q.2) := by
        have := hE.out
        unfold lsS at this
        simp only [hs0, ne_eq, not_true_eq_false, if_false] at this
        exact this
      have hKM := kind_most zs s' hs0 hz.1
      have k2 := most_any 6 5 (by decide) (by decide) (by decide) hRo.out
      clear hE hs0 hp1
      go_wp2_with fail
      refine k2.mono ?_
      rintro e w2 ⟨rfl, hR2, hg2⟩
      clear k2 d1 d2
      have hK2 : Hid (K2 (w.heap.size + 1) (w.heap.size + 1) wo w2) := K2.of_g hg2.out
      have hBo : Hid (K2 (w.heap.size + 1) (w.heap.size + 1) W2 wo) := hKo
      have hqq : Hid (w2.heap.size = w2.heap.size) := rfl
      have hwX : Hid (wo.heap.size ≤ w2.heap.size) := by have := hK2.out.size; have := hqq.out; show _ ≤ _; omega
      have hrX : Hid ((w.heap.size + 1) < w2.heap.size) := by have := hwX.out; have := hrwo.out; show _ < _; omega
      obtain ⟨kd, hkd⟩ : ∃ kd, Hid ((numS zs s' 0 6 5).1 = kd) := ⟨_, rfl⟩
      obtain ⟨S3, hS3⟩ : ∃ S3, Hid ((numS zs s' 0 6 5).2 = S3) := ⟨_, rfl⟩
      rw [hS3.out] at hR2
      obtain ⟨W3, hW3⟩ : ∃ W3, Hid (W3 = w2.alloc (.cells #[.slice none 0 0, .int .i64 (kd : Nat), .int .u64 0] 41)) := ⟨_, rfl⟩
      have hb3 : Hid (Below w2.heap.size w2 W3) := by show Below _ _ _; rw [hW3.out]; exact al_below _ _
      have hX3' : Hid (Blk W3 w2.heap.size #[.slice none 0 0, .int .i64 (kd : Nat), .int .u64 0] 41) := by show Blk _ _ _ _; rw [hW3.out]; exact blk_new _ _ _
      have hK3 : Hid (K2 (w.heap.size + 1) (w.heap.size + 1) wo W3) := hK2.out.trans (K2.of_below hb3.out)
      have hR3 : Hid (RS W3 (w.heap.size + 1) a n cap zs S3) := hR2.out.kept hb3.out
      have hkM : Hid (kindS zs s' = if S3.1 = 0 ∧ kd = 0 then (0, (5, s'.2.2, 0)) else (kd, S3)) := by
        show _ = _
        rw [hKM, hS3.out, hkd.out]
        split
        · rfl
        · rw [← hS3.out, ← hkd.out]
      obtain ⟨p3, f3, hcu3, _, _⟩ := hR3.out.cur
      have d2 := hcu3.1.c2
      have d3 := hcu3.1.c3
      have z2 := hcu3.1.fz 2
      have z3 := hcu3.1.fz 3
      have g1 := hX3'.out.cell 1
      rw [hW3.out] at d2 d3 z2 z3 g1
      rw [hkd.out]
      clear hKM hR2 hg2 hK2 hb3 hcu3
      by_cases hlay : S3.1 = 0 ∧ kd = 0
      · obtain ⟨hl1, hl2⟩ := hlay
        obtain ⟨hR4a, hg4a⟩ := hR3.out.fails 5 s'.2.2 (by decide)
        have hy1 : ((S3.1 : Nat) : Int) = 0 := by omega
        rw [hy1] at d2
        obtain ⟨W4, hW4⟩ : ∃ W4, Hid (W4 = (W3.setCell ⟨w.heap.size + 1, 2, none⟩ (.int .i64 ((5 : Nat) : Int))).setCell ⟨w.heap.size + 1, 3, none⟩ (.int .i64 (s'.2.2 : Nat))) := ⟨_, rfl⟩
        obtain ⟨S4, hS4⟩ : ∃ S4 : St, Hid (S4 = (5, s'.2.2, 0)) := ⟨_, rfl⟩
        have hR4 : Hid (RS W4 (w.heap.size + 1) a n cap zs S4) := by show RS _ _ _ _ _ _ _; rw [hW4.out, hS4.out]; exact hR4a
        have hK4 : Hid (K2 (w.heap.size + 1) (w.heap.size + 1) wo W4) := by show K2 _ _ _ _; rw [hW4.out]; exact hK3.out.trans (K2.of_g hg4a)
        have hX4 : Hid (Blk W4 w2.heap.size #[.slice none 0 0, .int .i64 (kd : Nat), .int .u64 0] 41) := by show Blk _ _ _ _; rw [hW4.out]; exact hX3'.out.k2 (K2.of_g hg4a) (Nat.ne_of_gt hrX.out) (Nat.ne_of_gt hrX.out)
        have hk4 : Hid (kindS zs s' = (kd, S4)) := by show _ = _; rw [hkM.out, if_pos ⟨hl1, hl2⟩, hS4.out, hl2]
        clear hR4a hg4a hR3 hK3 hX3' hkM
        have hq0 : ((kd : Int) == 0) = true := by rw [beq_iff_eq]; omega
        have hWW : Hid (W4 = ((w2.alloc (.cells #[.slice none 0 0, .int .i64 (kd : Nat), .int .u64 0] 41)).setCell ⟨w.heap.size + 1, 2, none⟩ (.int .i64 5)).setCell ⟨w.heap.size + 1, 3, none⟩ (.int .i64 (s'.2.2 : Nat))) := by show _ = _; rw [hW4.out, hW3.out]; rfl
        clear hW4 hl1 hl2
        have hKS : Hid (lossS zs s' = (⟨(pathS zs (wordS zs S4).2).1, (kd : Nat), (wordS zs S4).1⟩, (pathS zs (wordS zs S4).2).2)) := by
          show _ = _
          unfold lossS
          rw [hk4.out]
        have hx4 : Hid (w2.heap.size < W4.heap.size) := hX4.out.lt
        clear hk4
        have k5 := rshort_rs hR4.out
        rw [hWW.out] at k5
        go_wp2_with fail
        refine k5.mono ?_
        rintro e w5 ⟨rfl, hR5, hg5⟩
        rw [← hWW.out] at hg5
        clear k5
        have hK5 : Hid (K2 (w.heap.size + 1) (w.heap.size + 1) wo w5) := hK4.out.trans (K2.of_g hg5.out)
        have hX5 : Hid (Blk w5 w2.heap.size #[.slice none 0 0, .int .i64 (kd : Nat), .int .u64 0] 41) := hX4.out.k2 (K2.of_g hg5.out) (Nat.ne_of_gt hrX.out) (Nat.ne_of_gt hrX.out)
        clear hR4 hK4 hX4 hg5
        have e2 := hX5.out.cell 2
        have y2 := hX5.out.fz 2
        obtain ⟨W6, hW6⟩ : ∃ W6, Hid (W6 = w5.setCell ⟨w2.heap.size, 2, none⟩ (.int .u64 ((wordS zs S4).1 : Nat))) := ⟨_, rfl⟩
        have hK6 : Hid (K2 (w.heap.size + 1) (w.heap.size + 1) wo W6) := by show K2 _ _ _ _; rw [hW6.out]; exact hK5.out.set hwX.out 2 _
        have hX6 : Hid (Blk W6 w2.heap.size #[.slice none 0 0, .int .i64 (kd : Nat), .int .u64 ((wordS zs S4).1 : Nat)] 41) := by show Blk _ _ _ _; rw [hW6.out]; exact hX5.out.set 2 _
        have hR6 : Hid (RS W6 (w.heap.size + 1) a n cap zs (wordS zs S4).2) := by show RS _ _ _ _ _ _ _; rw [hW6.out]; exact hR5.out.other (g := w2.heap.size) (but_setCell (World.grownBy.refl _ _) 2 _) (Nat.ne_of_lt hrX.out) (fun x hx hz => by have := ha.out x hx hz; have := hrX.out; omega)
        have k7 := most_any 64 8 (by decide) (by decide) (by decide) hR6.out
        rw [hW6.out] at k7
        clear hR5 hK5 hX5
        generalize hnn : (wordS zs S4).1 = nn at *
        go_wp2_with fail
        refine k7.mono ?_
        rintro e w7 ⟨rfl, hR7, hg7⟩
        rw [← hW6.out] at hg7
        clear k7 e2 y2
        have hIP : Hid (IPd wo w7 (w.heap.size + 1) w2.heap.size a n cap zs (.slice none 0 0) (kd : Nat) nn [] (numS zs (wordS zs S4).2 0 64 8).2) := ⟨hK6.out.trans (K2.of_g hg7.out), hX6.out.k2 (K2.of_g hg7.out) (Nat.ne_of_gt hrX.out) (Nat.ne_of_gt hrX.out), ownsI_nil _ _, hR7.out⟩
        have hc : Hid ((numS zs (wordS zs S4).2 0 64 8).1 ≤ 64) := by
          show _ ≤ _
          by_cases h0 : (numS zs (wordS zs S4).2 0 64 8).2.1 = 0
          · by_cases h1 : (wordS zs S4).2.1 = 0
            · obtain ⟨m, p, e, _, h2, _⟩ := numS_ok zs hz.1 (wordS zs S4).2 0 64 8 h1 h0 (.inl (by decide))
              rw [e]; exact h2
            · rw [numS_bad _ _ _ _ _ h1]; simp
          · rw [numS_zero zs (wordS zs S4).2 0 64 8 h0]; simp
        obtain ⟨P, hP⟩ : ∃ P, Hid (pathS zs (wordS zs S4).2 = P) := ⟨_, rfl⟩
        have hI : Hid (stepsS zs (numS zs (wordS zs S4).2 0 64 8).1 (numS zs (wordS zs S4).2 0 64 8).2 = P) := hP.out
        rw [hP.out] at hKS
        clear hR7 hg7 hK6 hX6 hR6 hW6 hP
        generalize (numS zs (wordS zs S4).2 0 64 8).1 = c at *
        generalize (numS zs (wordS zs S4).2 0 64 8).2 = s7 at *
        have hIL : Hid (IPl wo (w.heap.size + 1) w2.heap.size a zs) := ⟨hwX.out, hrwo.out, fun x hx hz => by have := ha.out x hx hz; have := hrwo.out; have := hrr.out; omega⟩
        go_wp2_with fail
        go_loopw [11] (fun j wk => ∃ (l : List Int) (J K : Nat) (sj : St) (pv : Value), j = .int .i64 J ∧ J = l.length ∧ J + K = c ∧ Hid (IPd wo wk (w.heap.size + 1) w2.heap.size a n cap zs pv (kd : Nat) nn l sj) ∧ Hid (l ++ (stepsS zs K sj).1 = P.1 ∧ (stepsS zs K sj).2 = P.2)) (fun j _ => c - (intOf j).toNat)
        case atStart => exact ⟨[], 0, c, s7, _, rfl, rfl, by omega, hIP, by show _ ∧ _; rw [hI.out]; exact ⟨rfl, rfl⟩⟩
        case round =>
          obtain ⟨l, J, K, sj, pv, rfl, rfl, hJK, hQ, hE⟩ := hrel
          have hc64 := hc.out
          obtain ⟨p8, f8, hc8, _, _⟩ := hQ.out.2.2.2.cur
          have d2 := hc8.1.c2
          clear hc8 hIP hI hc
          by_cases hgo : 0 < K ∧ sj.1 = 0
          · obtain ⟨hK0, hs0⟩ := hgo
            obtain ⟨K, rfl⟩ : ∃ K', K = K' + 1 := ⟨K - 1, by omega⟩
            have hlt : l.length < c := by omega
            rw [hs0] at d2
            have hE3 : Hid (l ++ ((((numS zs sj 0 4095 5).1 : Nat) : Int) :: (stepsS zs K (numS zs sj 0 4095 5).2).1) = P.1 ∧ (stepsS zs K (numS zs sj 0 4095 5).2).2 = P.2) := by
              have := hE.out
              unfold stepsS at this
              simp only [hs0, ne_eq, not_true_eq_false, if_false] at this
              exact this
            obtain ⟨pa', pn', pc', rfl, hpn, hpc, hpm⟩ := hQ.out.2.2.1.form3
            subst hpn
            have hQd : Hid (IPd wo wr.drew (w.heap.size + 1) w2.heap.size a n cap zs (.slice pa' l.length pc') (kd : Nat) nn l sj) := hQ.out.draw
            have kV : Hid (Calls Tryd.prog 27 #[.pointer (some ⟨w.heap.size + 1, 0, none⟩), .int .u64 4095, .int .i64 5] wr.drew fun e w' => ∃ v, e = .returned v ∧ (v = .int .i64 ((numS zs sj 0 4095 5).1 : Nat) ∧ RS w' (w.heap.size + 1) a n cap zs (numS zs sj 0 4095 5).2 ∧ wr.drew.grownBy w' (some (w.heap.size + 1)))) := (most_any 4095 5 (by decide) (by decide) (by decide) hQd.out.2.2.2).mono fun e w' ⟨he, h1, h2⟩ => ⟨_, he, rfl, h1.out, h2.out⟩
            have hcf : ∀ args w, (callFunc 27 args).run Tryd.prog w = .ok (.enter 27 args) w := fun _ _ => rfl
            have c0 : wr.drew.cell? ⟨w2.heap.size, 0, none⟩ = some (.slice pa' l.length pc') := hQd.out.2.1.cell 0
            have c0' : wr.cell? ⟨w2.heap.size, 0, none⟩ = some (.slice pa' l.length pc') := hQ.out.2.1.cell 0
            clear hE hs0
            generalize (numS zs sj 0 4095 5).1 = m at *
            generalize (numS zs sj 0 4095 5).2 = s9 at *
            go_upto_region 16 with fail
            go_region_law (first
              | (refine step_call3c (by rfl) 4 (.int .u64 4095) (.int .i64 5) 56 39 3 (by rfl) (by rfl) hcf kV.out ?_; rintro x w9 ⟨hx9, hR9, hg9⟩; subst hx9; have c9 : w9.cell? ⟨w2.heap.size, 0, none⟩ = some (.slice pa' l.length pc') := (hQd.out.2.1.k2 (K2.of_g hg9) (Nat.ne_of_gt hrX.out) (Nat.ne_of_gt hrX.out)).cell 0; have c9a : (w9.alloc (.cells #[.int .i64 (m : Nat)] 3)).cell? ⟨w2.heap.size, 0, none⟩ = some (.slice pa' l.length pc') := ((hQd.out.2.1.k2 (K2.of_g hg9) (Nat.ne_of_gt hrX.out) (Nat.ne_of_gt hrX.out)).kept (al_below w9 _)).cell 0; have hR9' : Hid (RS w9 (w.heap.size + 1) a n cap zs s9) := hR9; have hg9' : Hid (wr.drew.grownBy w9 (some (w.heap.size + 1))) := hg9; have hO9 : Hid (OwnsI w9 (w2.heap.size + 1) (.slice pa' l.length pc') l) := hQd.out.2.2.1.k2 (K2.of_g (q := w.heap.size + 1) hg9) (by have := hrX.out; omega) (by have := hrX.out; omega); have hs9 : Hid (w2.heap.size + 1 ≤ w9.heap.size) := (hQd.out.2.1.k2 (K2.of_g hg9) (Nat.ne_of_gt hrX.out) (Nat.ne_of_gt hrX.out)).lt; clear hR9 hg9)
              | (refine step_append_ints (by rfl) _ _ (by rfl) (w2.heap.size + 1) (.slice pa' l.length pc') l [((m : Nat) : Int)] (by rfl) (hO9.out.alloc _) ⟨w9.heap.size, 0, none⟩ 1 1 (by rfl) rfl (one_int w9 _) (by have := hc64; simp; omega) (by have := hs9.out; simp; omega) ?_; intro v10 w10 ho10 hg10; have hN : Hid (IPd wo (w10.setCell ⟨w2.heap.size, 0, none⟩ v10) (w.heap.size + 1) w2.heap.size a n cap zs v10 (kd : Nat) nn (l ++ [((m : Nat) : Int)]) s9) := hQd.out.put hIL.out hg9'.out hR9'.out ho10 hg10; have hX10 : Hid (Blk w10 w2.heap.size #[.slice pa' l.length pc', .int .i64 (kd : Nat), .int .u64 (nn : Nat)] 41) := ((grownI_below ((Below.refl _ _).alloc hs9.out _) (hO9.out.alloc _) hg10 (by have := hs9.out; simp; omega)).block w2.heap.size (Nat.lt_succ_self _)).trans (hQd.out.2.1.k2 (K2.of_g hg9'.out) (Nat.ne_of_gt hrX.out) (Nat.ne_of_gt hrX.out)); obtain ⟨pa10, pn10, pc10, rfl, -, -, -⟩ := ho10.form3; have c10 := hX10.out.cell 0; have y10 := hX10.out.fz 0; clear ho10 hg10 hX10))
            all_goals
              clear hQ hQd c0 c0'
              go_wp2_with fail
              go_roundw
              case rel => exact ⟨l ++ [((m : Nat) : Int)], l.length + 1, K, s9, _, by go_num, by rw [List.length_append]; rfl, by omega, hN, by show _ ∧ _; rw [List.append_assoc]; exact hE3.out⟩
              case measure => simp [intOf]; omega
          · have hE' : Hid (P = (l, sj)) := by
              show _ = _
              obtain ⟨h1, h2⟩ := hE.out
              by_cases hK0 : K = 0
              · subst hK0
                simp only [stepsS, List.append_nil] at h1 h2
                rw [h1, h2]
              · have hs0 : sj.1 ≠ 0 := fun h => hgo ⟨by omega, h⟩
                rw [stepsS_bad _ _ _ hs0] at h1 h2
                simp only [List.append_nil] at h1 h2
                rw [h1, h2]
            obtain ⟨pa', pn', pc', rfl, hpn, hpc, hpm⟩ := hQ.out.2.2.1.form3
            subst hpn
            have c0 := hQ.out.2.1.cell 0
            have c1 := hQ.out.2.1.cell 1
            have c2 := hQ.out.2.1.cell 2
            have hOo : Hid (OwnsK wr W2.heap.size u5 L) := hO.out.k2 hQ.out.1 (by have := hs2.out; have := hrr.out; omega) (by have := hs2.out; have := hrr.out; omega)
            have hT : Hid (OwnsI wr W2.heap.size (.slice pa' l.length pc') l ∧ nn < 18446744073709551616) := ⟨hQ.out.2.2.1.base (by have := hwX.out; have := hBo.out.size; omega), by rw [← hnn]; exact word_lt zs S4 hz.1⟩
            have hszr : Hid (W2.heap.size ≤ wr.heap.size) := Nat.le_trans hBo.out.size hQ.out.1.size
            have hN5 : Hid (lossS zs s' = (⟨l, (kd : Nat), nn⟩, sj)) := by show _ = _; rw [hKS.out, hE'.out]
            have hRj : Hid (RS wr (w.heap.size + 1) a n cap zs sj) := hQ.out.2.2.2
            have hKw : Hid (K2 (w.heap.size + 1) (w.heap.size + 1) wo wr) := hQ.out.1
            have fin : Hid (∀ (v4 : Value) (w4 : World), OwnsK w4 W2.heap.size v4 (L ++ [(.slice pa' l.length pc', (⟨l, (kd : Nat), nn⟩ : Ls))]) → (wr.alloc (.cells #[.slice pa' l.length pc', .int .i64 (kd : Nat), .int .u64 (nn : Nat)] 41)).grownBy w4 (u5 : Value).ownBlock → Hid (OP w W2 w4 (w.heap.size + 1) a n cap zs v4 (L ++ [(.slice pa' l.length pc', (⟨l, (kd : Nat), nn⟩ : Ls))]) sj)) := fun v4 w4 h1 h2 => by
              have hb4 : Below W2.heap.size wr w4 := grownK_below ((Below.refl _ _).alloc hszr.out _) (hOo.out.alloc _) h2 (by have := hszr.out; simp; omega)
              exact ⟨h1, hRj.out.low hb4 (by have := hs2.out; have := hrr.out; omega) (fun x hx hz => by have := ha.out x hx hz; have := hs2.out; omega), (hKo.out.trans' hKw.out).low hb4⟩
            by_cases hJc : l.length < c
            · have hs0 : sj.1 ≠ 0 := fun h => hgo ⟨by omega, h⟩
              have hy : (((sj.1 : Nat) : Int) == 0) = false := by rw [beq_eq_false_iff_ne]; omega
              clear hQ hE hIL
              go_wp2_with (at_builtin; go_loud (refine wpList_append_loss rfl _ _ rfl W2.heap.size _ L (.slice pa' l.length pc', ⟨l, (kd : Nat), nn⟩) rfl (hOo.out.alloc _) ⟨hT.out.1.alloc _, hT.out.2⟩ wr.heap.size rfl (fun j _ => ((blk_new wr _ _).cell j).trans Array.getElem?_toList.symm) (by have := hLl.out; omega) (by have := hszr.out; simp; omega) ?_; intro v4 w4 hO4 hg4; have hF4 := fin.out v4 w4 hO4 hg4; clear hO4 hg4))
              go_roundw
              case rel =>
                refine ⟨L ++ [(.slice pa' l.length pc', ⟨l, (kd : Nat), nn⟩)], L.length + 1, k, sj, by go_num, by rw [List.length_append]; rfl, by omega, hF4, ?_⟩
                show _ ∧ _
                rw [hN5.out] at hE6
                rw [List.map_append, List.append_assoc]
                exact hE6.out
              case measure => simp [intOf]; omega
            · have e : l.length = c := by omega
              subst e
              clear hQ hE hIL
              go_wp2_with (at_builtin; go_loud (refine wpList_append_loss rfl _ _ rfl W2.heap.size _ L (.slice pa' l.length pc', ⟨l, (kd : Nat), nn⟩) rfl (hOo.out.alloc _) ⟨hT.out.1.alloc _, hT.out.2⟩ wr.heap.size rfl (fun j _ => ((blk_new wr _ _).cell j).trans Array.getElem?_toList.symm) (by have := hLl.out; omega) (by have := hszr.out; simp; omega) ?_; intro v4 w4 hO4 hg4; have hF4 := fin.out v4 w4 hO4 hg4; clear hO4 hg4))
              go_roundw
              case rel =>
                refine ⟨L ++ [(.slice pa' l.length pc', ⟨l, (kd : Nat), nn⟩)], L.length + 1, k, sj, by go_num, by rw [List.length_append]; rfl, by omega, hF4, ?_⟩
                show _ ∧ _
                rw [hN5.out] at hE6
                rw [List.map_append, List.append_assoc]
                exact hE6.out
              case measure => simp [intOf]; omega
      · by_cases hl1 : S3.1 = 0
        · have hl2 : kd ≠ 0 := fun h => hlay ⟨hl1, h⟩
          have hy1 : ((S3.1 : Nat) : Int) = 0 := by omega
          rw [hy1] at d2
          obtain ⟨W4, hW4⟩ : ∃ W4, Hid (W4 = W3) := ⟨_, rfl⟩
          obtain ⟨S4, hS4⟩ : ∃ S4 : St, Hid (S4 = S3) := ⟨_, rfl⟩
          have hR4 : Hid (RS W4 (w.heap.size + 1) a n cap zs S4) := by show RS _ _ _ _ _ _ _; rw [hW4.out, hS4.out]; exact hR3.out
          have hK4 : Hid (K2 (w.heap.size + 1) (w.heap.size + 1) wo W4) := by show K2 _ _ _ _; rw [hW4.out]; exact hK3.out
          have hX4 : Hid (Blk W4 w2.heap.size #[.slice none 0 0, .int .i64 (kd : Nat), .int .u64 0] 41) := by show Blk _ _ _ _; rw [hW4.out]; exact hX3'.out
          have hk4 : Hid (kindS zs s' = (kd, S4)) := by show _ = _; rw [hkM.out, if_neg hlay, hS4.out]
          have hWW : Hid (W4 = w2.alloc (.cells #[.slice none 0 0, .int .i64 (kd : Nat), .int .u64 0] 41)) := by show _ = _; rw [hW4.out, hW3.out]
          have hq0 : ((kd : Int) == 0) = false := by rw [beq_eq_false_iff_ne]; omega
          clear hR3 hK3 hX3' hkM hW4 hlay hl1 hl2
          have hKS : Hid (lossS zs s' = (⟨(pathS zs (wordS zs S4).2).1, (kd : Nat), (wordS zs S4).1⟩, (pathS zs (wordS zs S4).2).2)) := by
            show _ = _
            unfold lossS
            rw [hk4.out]
          have hx4 : Hid (w2.heap.size < W4.heap.size) := hX4.out.lt
          clear hk4
          have k5 := rshort_rs hR4.out
          rw [hWW.out] at k5
          go_wp2_with fail
          refine k5.mono ?_
          rintro e w5 ⟨rfl, hR5, hg5⟩
          rw [← hWW.out] at hg5
          clear k5
          have hK5 : Hid (K2 (w.heap.size + 1) (w.heap.size + 1) wo w5) := hK4.out.trans (K2.of_g hg5.out)
          have hX5 : Hid (Blk w5 w2.heap.size #[.slice none 0 0, .int .i64 (kd : Nat), .int .u64 0] 41) := hX4.out.k2 (K2.of_g hg5.out) (Nat.ne_of_gt hrX.out) (Nat.ne_of_gt hrX.out)
          clear hR4 hK4 hX4 hg5
          have e2 := hX5.out.cell 2
          have y2 := hX5.out.fz 2
          obtain ⟨W6, hW6⟩ : ∃ W6, Hid (W6 = w5.setCell ⟨w2.heap.size, 2, none⟩ (.int .u64 ((wordS zs S4).1 : Nat))) := ⟨_, rfl⟩
          have hK6 : Hid (K2 (w.heap.size + 1) (w.heap.size + 1) wo W6) := by show K2 _ _ _ _; rw [hW6.out]; exact hK5.out.set hwX.out 2 _
          have hX6 : Hid (Blk W6 w2.heap.size #[.slice none 0 0, .int .i64 (kd : Nat), .int .u64 ((wordS zs S4).1 : Nat)] 41) := by show Blk _ _ _ _; rw [hW6.out]; exact hX5.out.set 2 _
          have hR6 : Hid (RS W6 (w.heap.size + 1) a n cap zs (wordS zs S4).2) := by show RS _ _ _ _ _ _ _; rw [hW6.out]; exact hR5.out.other (g := w2.heap.size) (but_setCell (World.grownBy.refl _ _) 2 _) (Nat.ne_of_lt hrX.out) (fun x hx hz => by have := ha.out x hx hz; have := hrX.out; omega)
          have k7 := most_any 64 8 (by decide) (by decide) (by decide) hR6.out
          rw [hW6.out] at k7
          clear hR5 hK5 hX5
          generalize hnn : (wordS zs S4).1 = nn at *
          go_wp2_with fail
          refine k7.mono ?_
          rintro e w7 ⟨rfl, hR7, hg7⟩
          rw [← hW6.out] at hg7
          clear k7 e2 y2
          have hIP : Hid (IPd wo w7 (w.heap.size + 1) w2.heap.size a n cap zs (.slice none 0 0) (kd : Nat) nn [] (numS zs (wordS zs S4).2 0 64 8).2) := ⟨hK6.out.trans (K2.of_g hg7.out), hX6.out.k2 (K2.of_g hg7.out) (Nat.ne_of_gt hrX.out) (Nat.ne_of_gt hrX.out), ownsI_nil _ _, hR7.out⟩
          have hc : Hid ((numS zs (wordS zs S4).2 0 64 8).1 ≤ 64) := by
            show _ ≤ _
            by_cases h0 : (numS zs (wordS zs S4).2 0 64 8).2.1 = 0
            · by_cases h1 : (wordS zs S4).2.1 = 0
              · obtain ⟨m, p, e, _, h2, _⟩ := numS_ok zs hz.1 (wordS zs S4).2 0 64 8 h1 h0 (.inl (by decide))
                rw [e]; exact h2
              · rw [numS_bad _ _ _ _ _ h1]; simp
            · rw [numS_zero zs (wordS zs S4).2 0 64 8 h0]; simp
          obtain ⟨P, hP⟩ : ∃ P, Hid (pathS zs (wordS zs S4).2 = P) := ⟨_, rfl⟩
          have hI : Hid (stepsS zs (numS zs (wordS zs S4).2 0 64 8).1 (numS zs (wordS zs S4).2 0 64 8).2 = P) := hP.out
          rw [hP.out] at hKS
          clear hR7 hg7 hK6 hX6 hR6 hW6 hP
          generalize (numS zs (wordS zs S4).2 0 64 8).1 = c at *
          generalize (numS zs (wordS zs S4).2 0 64 8).2 = s7 at *
          have hIL : Hid (IPl wo (w.heap.size + 1) w2.heap.size a zs) := ⟨hwX.out, hrwo.out, fun x hx hz => by have := ha.out x hx hz; have := hrwo.out; have := hrr.out; omega⟩
          go_wp2_with fail
          go_loopw [11] (fun j wk => ∃ (l : List Int) (J K : Nat) (sj : St) (pv : Value), j = .int .i64 J ∧ J = l.length ∧ J + K = c ∧ Hid (IPd wo wk (w.heap.size + 1) w2.heap.size a n cap zs pv (kd : Nat) nn l sj) ∧ Hid (l ++ (stepsS zs K sj).1 = P.1 ∧ (stepsS zs K sj).2 = P.2)) (fun j _ => c - (intOf j).toNat)
          case atStart => exact ⟨[], 0, c, s7, _, rfl, rfl, by omega, hIP, by show _ ∧ _; rw [hI.out]; exact ⟨rfl, rfl⟩⟩
          case round =>
            obtain ⟨l, J, K, sj, pv, rfl, rfl, hJK, hQ, hE⟩ := hrel
            have hc64 := hc.out
            obtain ⟨p8, f8, hc8, _, _⟩ := hQ.out.2.2.2.cur
            have d2 := hc8.1.c2
            clear hc8 hIP hI hc
            by_cases hgo : 0 < K ∧ sj.1 = 0
            · obtain ⟨hK0, hs0⟩ := hgo
              obtain ⟨K, rfl⟩ : ∃ K', K = K' + 1 := ⟨K - 1, by omega⟩
              have hlt : l.length < c := by omega
              rw [hs0] at d2
              have hE3 : Hid (l ++ ((((numS zs sj 0 4095 5).1 : Nat) : Int) :: (stepsS zs K (numS zs sj 0 4095 5).2).1) = P.1 ∧ (stepsS zs K (numS zs sj 0 4095 5).2).2 = P.2) := by
                have := hE.out
                unfold stepsS at this
                simp only [hs0, ne_eq, not_true_eq_false, if_false] at this
                exact this
              obtain ⟨pa', pn', pc', rfl, hpn, hpc, hpm⟩ := hQ.out.2.2.1.form3
              subst hpn
              have hQd : Hid (IPd wo wr.drew (w.heap.size + 1) w2.heap.size a n cap zs (.slice pa' l.length pc') (kd : Nat) nn l sj) := hQ.out.draw
              have kV : Hid (Calls Tryd.prog 27 #[.pointer (some ⟨w.heap.size + 1, 0, none⟩), .int .u64 4095, .int .i64 5] wr.drew fun e w' => ∃ v, e = .returned v ∧ (v = .int .i64 ((numS zs sj 0 4095 5).1 : Nat) ∧ RS w' (w.heap.size + 1) a n cap zs (numS zs sj 0 4095 5).2 ∧ wr.drew.grownBy w' (some (w.heap.size + 1)))) := (most_any 4095 5 (by decide) (by decide) (by decide) hQd.out.2.2.2).mono fun e w' ⟨he, h1, h2⟩ => ⟨_, he, rfl, h1.out, h2.out⟩
              have hcf : ∀ args w, (callFunc 27 args).run Tryd.prog w = .ok (.enter 27 args) w := fun _ _ => rfl
              have c0 : wr.drew.cell? ⟨w2.heap.size, 0, none⟩ = some (.slice pa' l.length pc') := hQd.out.2.1.cell 0
              have c0' : wr.cell? ⟨w2.heap.size, 0, none⟩ = some (.slice pa' l.length pc') := hQ.out.2.1.cell 0
              clear hE hs0
              generalize (numS zs sj 0 4095 5).1 = m at *
              generalize (numS zs sj 0 4095 5).2 = s9 at *
              go_upto_region 16 with fail
              go_region_law (first
                | (refine step_call3c (by rfl) 4 (.int .u64 4095) (.int .i64 5) 56 39 3 (by rfl) (by rfl) hcf kV.out ?_; rintro x w9 ⟨hx9, hR9, hg9⟩; subst hx9; have c9 : w9.cell? ⟨w2.heap.size, 0, none⟩ = some (.slice pa' l.length pc') := (hQd.out.2.1.k2 (K2.of_g hg9) (Nat.ne_of_gt hrX.out) (Nat.ne_of_gt hrX.out)).cell 0; have c9a : (w9.alloc (.cells #[.int .i64 (m : Nat)] 3)).cell? ⟨w2.heap.size, 0, none⟩ = some (.slice pa' l.length pc') := ((hQd.out.2.1.k2 (K2.of_g hg9) (Nat.ne_of_gt hrX.out) (Nat.ne_of_gt hrX.out)).kept (al_below w9 _)).cell 0; have hR9' : Hid (RS w9 (w.heap.size + 1) a n cap zs s9) := hR9; have hg9' : Hid (wr.drew.grownBy w9 (some (w.heap.size + 1))) := hg9; have hO9 : Hid (OwnsI w9 (w2.heap.size + 1) (.slice pa' l.length pc') l) := hQd.out.2.2.1.k2 (K2.of_g (q := w.heap.size + 1) hg9) (by have := hrX.out; omega) (by have := hrX.out; omega); have hs9 : Hid (w2.heap.size + 1 ≤ w9.heap.size) := (hQd.out.2.1.k2 (K2.of_g hg9) (Nat.ne_of_gt hrX.out) (Nat.ne_of_gt hrX.out)).lt; clear hR9 hg9)
                | (refine step_append_ints (by rfl) _ _ (by rfl) (w2.heap.size + 1) (.slice pa' l.length pc') l [((m : Nat) : Int)] (by rfl) (hO9.out.alloc _) ⟨w9.heap.size, 0, none⟩ 1 1 (by rfl) rfl (one_int w9 _) (by have := hc64; simp; omega) (by have := hs9.out; simp; omega) ?_; intro v10 w10 ho10 hg10; have hN : Hid (IPd wo (w10.setCell ⟨w2.heap.size, 0, none⟩ v10) (w.heap.size + 1) w2.heap.size a n cap zs v10 (kd : Nat) nn (l ++ [((m : Nat) : Int)]) s9) := hQd.out.put hIL.out hg9'.out hR9'.out ho10 hg10; have hX10 : Hid (Blk w10 w2.heap.size #[.slice pa' l.length pc', .int .i64 (kd : Nat), .int .u64 (nn : Nat)] 41) := ((grownI_below ((Below.refl _ _).alloc hs9.out _) (hO9.out.alloc _) hg10 (by have := hs9.out; simp; omega)).block w2.heap.size (Nat.lt_succ_self _)).trans (hQd.out.2.1.k2 (K2.of_g hg9'.out) (Nat.ne_of_gt hrX.out) (Nat.ne_of_gt hrX.out)); obtain ⟨pa10, pn10, pc10, rfl, -, -, -⟩ := ho10.form3; have c10 := hX10.out.cell 0; have y10 := hX10.out.fz 0; clear ho10 hg10 hX10))
              all_goals
                clear hQ hQd c0 c0'
                go_wp2_with fail
                go_roundw
                case rel => exact ⟨l ++ [((m : Nat) : Int)], l.length + 1, K, s9, _, by go_num, by rw [List.length_append]; rfl, by omega, hN, by show _ ∧ _; rw [List.append_assoc]; exact hE3.out⟩
                case measure => simp [intOf]; omega
            · have hE' : Hid (P = (l, sj)) := by
                show _ = _
                obtain ⟨h1, h2⟩ := hE.out
                by_cases hK0 : K = 0
                · subst hK0
                  simp only [stepsS, List.append_nil] at h1 h2
                  rw [h1, h2]
                · have hs0 : sj.1 ≠ 0 := fun h => hgo ⟨by omega, h⟩
                  rw [stepsS_bad _ _ _ hs0] at h1 h2
                  simp only [List.append_nil] at h1 h2
                  rw [h1, h2]
              obtain ⟨pa', pn', pc', rfl, hpn, hpc, hpm⟩ := hQ.out.2.2.1.form3
              subst hpn
              have c0 := hQ.out.2.1.cell 0
              have c1 := hQ.out.2.1.cell 1
              have c2 := hQ.out.2.1.cell 2
              have hOo : Hid (OwnsK wr W2.heap.size u5 L) := hO.out.k2 hQ.out.1 (by have := hs2.out; have := hrr.out; omega) (by have := hs2.out; have := hrr.out; omega)
              have hT : Hid (OwnsI wr W2.heap.size (.slice pa' l.length pc') l ∧ nn < 18446744073709551616) := ⟨hQ.out.2.2.1.base (by have := hwX.out; have := hBo.out.size; omega), by rw [← hnn]; exact word_lt zs S4 hz.1⟩
              have hszr : Hid (W2.heap.size ≤ wr.heap.size) := Nat.le_trans hBo.out.size hQ.out.1.size
              have hN5 : Hid (lossS zs s' = (⟨l, (kd : Nat), nn⟩, sj)) := by show _ = _; rw [hKS.out, hE'.out]
              have hRj : Hid (RS wr (w.heap.size + 1) a n cap zs sj) := hQ.out.2.2.2
              have hKw : Hid (K2 (w.heap.size + 1) (w.heap.size + 1) wo wr) := hQ.out.1
              have fin : Hid (∀ (v4 : Value) (w4 : World), OwnsK w4 W2.heap.size v4 (L ++ [(.slice pa' l.length pc', (⟨l, (kd : Nat), nn⟩ : Ls))]) → (wr.alloc (.cells #[.slice pa' l.length pc', .int .i64 (kd : Nat), .int .u64 (nn : Nat)] 41)).grownBy w4 (u5 : Value).ownBlock → Hid (OP w W2 w4 (w.heap.size + 1) a n cap zs v4 (L ++ [(.slice pa' l.length pc', (⟨l, (kd : Nat), nn⟩ : Ls))]) sj)) := fun v4 w4 h1 h2 => by
                have hb4 : Below W2.heap.size wr w4 := grownK_below ((Below.refl _ _).alloc hszr.out _) (hOo.out.alloc _) h2 (by have := hszr.out; simp; omega)
                exact ⟨h1, hRj.out.low hb4 (by have := hs2.out; have := hrr.out; omega) (fun x hx hz => by have := ha.out x hx hz; have := hs2.out; omega), (hKo.out.trans' hKw.out).low hb4⟩
              by_cases hJc : l.length < c
              · have hs0 : sj.1 ≠ 0 := fun h => hgo ⟨by omega, h⟩
                have hy : (((sj.1 : Nat) : Int) == 0) = false := by rw [beq_eq_false_iff_ne]; omega
                clear hQ hE hIL
                go_wp2_with (at_builtin; go_loud (refine wpList_append_loss rfl _ _ rfl W2.heap.size _ L (.slice pa' l.length pc', ⟨l, (kd : Nat), nn⟩) rfl (hOo.out.alloc _) ⟨hT.out.1.alloc _, hT.out.2⟩ wr.heap.size rfl (fun j _ => ((blk_new wr _ _).cell j).trans Array.getElem?_toList.symm) (by have := hLl.out; omega) (by have := hszr.out; simp; omega) ?_; intro v4 w4 hO4 hg4; have hF4 := fin.out v4 w4 hO4 hg4; clear hO4 hg4))
                go_roundw
                case rel =>
                  refine ⟨L ++ [(.slice pa' l.length pc', ⟨l, (kd : Nat), nn⟩)], L.length + 1, k, sj, by go_num, by rw [List.length_append]; rfl, by omega, hF4, ?_⟩
                  show _ ∧ _
                  rw [hN5.out] at hE6
                  rw [List.map_append, List.append_assoc]
                  exact hE6.out
                case measure => simp [intOf]; omega
              · have e : l.length = c := by omega
                subst e
                clear hQ hE hIL
                go_wp2_with (at_builtin; go_loud (refine wpList_append_loss rfl _ _ rfl W2.heap.size _ L (.slice pa' l.length pc', ⟨l, (kd : Nat), nn⟩) rfl (hOo.out.alloc _) ⟨hT.out.1.alloc _, hT.out.2⟩ wr.heap.size rfl (fun j _ => ((blk_new wr _ _).cell j).trans Array.getElem?_toList.symm) (by have := hLl.out; omega) (by have := hszr.out; simp; omega) ?_; intro v4 w4 hO4 hg4; have hF4 := fin.out v4 w4 hO4 hg4; clear hO4 hg4))
                go_roundw
                case rel =>
                  refine ⟨L ++ [(.slice pa' l.length pc', ⟨l, (kd : Nat), nn⟩)], L.length + 1, k, sj, by go_num, by rw [List.length_append]; rfl, by omega, hF4, ?_⟩
                  show _ ∧ _
                  rw [hN5.out] at hE6
                  rw [List.map_append, List.append_assoc]
                  exact hE6.out
                case measure => simp [intOf]; omega
        · have hy1 : (((S3.1 : Nat) : Int) == 0) = false := by rw [beq_eq_false_iff_ne]; omega
          obtain ⟨W4, hW4⟩ : ∃ W4, Hid (W4 = W3) := ⟨_, rfl⟩
          obtain ⟨S4, hS4⟩ : ∃ S4 : St, Hid (S4 = S3) := ⟨_, rfl⟩
          have hR4 : Hid (RS W4 (w.heap.size + 1) a n cap zs S4) := by show RS _ _ _ _ _ _ _; rw [hW4.out, hS4.out]; exact hR3.out
          have hK4 : Hid (K2 (w.heap.size + 1) (w.heap.size + 1) wo W4) := by show K2 _ _ _ _; rw [hW4.out]; exact hK3.out
          have hX4 : Hid (Blk W4 w2.heap.size #[.slice none 0 0, .int .i64 (kd : Nat), .int .u64 0] 41) := by show Blk _ _ _ _; rw [hW4.out]; exact hX3'.out
          have hk4 : Hid (kindS zs s' = (kd, S4)) := by show _ = _; rw [hkM.out, if_neg hlay, hS4.out]
          have hWW : Hid (W4 = w2.alloc (.cells #[.slice none 0 0, .int .i64 (kd : Nat), .int .u64 0] 41)) := by show _ = _; rw [hW4.out, hW3.out]
          clear hR3 hK3 hX3' hkM hW4 hlay hl1
          have hKS : Hid (lossS zs s' = (⟨(pathS zs (wordS zs S4).2).1, (kd : Nat), (wordS zs S4).1⟩, (pathS zs (wordS zs S4).2).2)) := by
            show _ = _
            unfold lossS
            rw [hk4.out]
          have hx4 : Hid (w2.heap.size < W4.heap.size) := hX4.out.lt
          clear hk4
          have k5 := rshort_rs hR4.out
          rw [hWW.out] at k5
          go_wp2_with fail
          refine k5.mono ?_
          rintro e w5 ⟨rfl, hR5, hg5⟩
          rw [← hWW.out] at hg5
          clear k5
          have hK5 : Hid (K2 (w.heap.size + 1) (w.heap.size + 1) wo w5) := hK4.out.trans (K2.of_g hg5.out)
          have hX5 : Hid (Blk w5 w2.heap.size #[.slice none 0 0, .int .i64 (kd : Nat), .int .u64 0] 41) := hX4.out.k2 (K2.of_g hg5.out) (Nat.ne_of_gt hrX.out) (Nat.ne_of_gt hrX.out)
          clear hR4 hK4 hX4 hg5
          have e2 := hX5.out.cell 2
          have y2 := hX5.out.fz 2
          obtain ⟨W6, hW6⟩ : ∃ W6, Hid (W6 = w5.setCell ⟨w2.heap.size, 2, none⟩ (.int .u64 ((wordS zs S4).1 : Nat))) := ⟨_, rfl⟩
          have hK6 : Hid (K2 (w.heap.size + 1) (w.heap.size + 1) wo W6) := by show K2 _ _ _ _; rw [hW6.out]; exact hK5.out.set hwX.out 2 _
          have hX6 : Hid (Blk W6 w2.heap.size #[.slice none 0 0, .int .i64 (kd : Nat), .int .u64 ((wordS zs S4).1 : Nat)] 41) := by show Blk _ _ _ _; rw [hW6.out]; exact hX5.out.set 2 _
          have hR6 : Hid (RS W6 (w.heap.size + 1) a n cap zs (wordS zs S4).2) := by show RS _ _ _ _ _ _ _; rw [hW6.out]; exact hR5.out.other (g := w2.heap.size) (but_setCell (World.grownBy.refl _ _) 2 _) (Nat.ne_of_lt hrX.out) (fun x hx hz => by have := ha.out x hx hz; have := hrX.out; omega)
          have k7 := most_any 64 8 (by decide) (by decide) (by decide) hR6.out
          rw [hW6.out] at k7
          clear hR5 hK5 hX5
          generalize hnn : (wordS zs S4).1 = nn at *
          go_wp2_with fail
          refine k7.mono ?_
          rintro e w7 ⟨rfl, hR7, hg7⟩
          rw [← hW6.out] at hg7
          clear k7 e2 y2
          have hIP : Hid (IPd wo w7 (w.heap.size + 1) w2.heap.size a n cap zs (.slice none 0 0) (kd : Nat) nn [] (numS zs (wordS zs S4).2 0 64 8).2) := ⟨hK6.out.trans (K2.of_g hg7.out), hX6.out.k2 (K2.of_g hg7.out) (Nat.ne_of_gt hrX.out) (Nat.ne_of_gt hrX.out), ownsI_nil _ _, hR7.out⟩
          have hc : Hid ((numS zs (wordS zs S4).2 0 64 8).1 ≤ 64) := by
            show _ ≤ _
            by_cases h0 : (numS zs (wordS zs S4).2 0 64 8).2.1 = 0
            · by_cases h1 : (wordS zs S4).2.1 = 0
              · obtain ⟨m, p, e, _, h2, _⟩ := numS_ok zs hz.1 (wordS zs S4).2 0 64 8 h1 h0 (.inl (by decide))
                rw [e]; exact h2
              · rw [numS_bad _ _ _ _ _ h1]; simp
            · rw [numS_zero zs (wordS zs S4).2 0 64 8 h0]; simp
          obtain ⟨P, hP⟩ : ∃ P, Hid (pathS zs (wordS zs S4).2 = P) := ⟨_, rfl⟩
          have hI : Hid (stepsS zs (numS zs (wordS zs S4).2 0 64 8).1 (numS zs (wordS zs S4).2 0 64 8).2 = P) := hP.out
          rw [hP.out] at hKS
          clear hR7 hg7 hK6 hX6 hR6 hW6 hP
          generalize (numS zs (wordS zs S4).2 0 64 8).1 = c at *
          generalize (numS zs (wordS zs S4).2 0 64 8).2 = s7 at *
          have hIL : Hid (IPl wo (w.heap.size + 1) w2.heap.size a zs) := ⟨hwX.out, hrwo.out, fun x hx hz => by have := ha.out x hx hz; have := hrwo.out; have := hrr.out; omega⟩
          go_wp2_with fail
          go_loopw [11] (fun j wk => ∃ (l : List Int) (J K : Nat) (sj : St) (pv : Value), j = .int .i64 J ∧ J = l.length ∧ J + K = c ∧ Hid (IPd wo wk (w.heap.size + 1) w2.heap.size a n cap zs pv (kd : Nat) nn l sj) ∧ Hid (l ++ (stepsS zs K sj).1 = P.1 ∧ (stepsS zs K sj).2 = P.2)) (fun j _ => c - (intOf j).toNat)
          case atStart => exact ⟨[], 0, c, s7, _, rfl, rfl, by omega, hIP, by show _ ∧ _; rw [hI.out]; exact ⟨rfl, rfl⟩⟩
          case round =>
            obtain ⟨l, J, K, sj, pv, rfl, rfl, hJK, hQ, hE⟩ := hrel
            have hc64 := hc.out
            obtain ⟨p8, f8, hc8, _, _⟩ := hQ.out.2.2.2.cur
            have d2 := hc8.1.c2
            clear hc8 hIP hI hc
            by_cases hgo : 0 < K ∧ sj.1 = 0
            · obtain ⟨hK0, hs0⟩ := hgo
              obtain ⟨K, rfl⟩ : ∃ K', K = K' + 1 := ⟨K - 1, by omega⟩
              have hlt : l.length < c := by omega
              rw [hs0] at d2
              have hE3 : Hid (l ++ ((((numS zs sj 0 4095 5).1 : Nat) : Int) :: (stepsS zs K (numS zs sj 0 4095 5).2).1) = P.1 ∧ (stepsS zs K (numS zs sj 0 4095 5).2).2 = P.2) := by
                have := hE.out
                unfold stepsS at this
                simp only [hs0, ne_eq, not_true_eq_false, if_false] at this
                exact this
              obtain ⟨pa', pn', pc', rfl, hpn, hpc, hpm⟩ := hQ.out.2.2.1.form3
              subst hpn
              have hQd : Hid (IPd wo wr.drew (w.heap.size + 1) w2.heap.size a n cap zs (.slice pa' l.length pc') (kd : Nat) nn l sj) := hQ.out.draw
              have kV : Hid (Calls Tryd.prog 27 #[.pointer (some ⟨w.heap.size + 1, 0, none⟩), .int .u64 4095, .int .i64 5] wr.drew fun e w' => ∃ v, e = .returned v ∧ (v = .int .i64 ((numS zs sj 0 4095 5).1 : Nat) ∧ RS w' (w.heap.size + 1) a n cap zs (numS zs sj 0 4095 5).2 ∧ wr.drew.grownBy w' (some (w.heap.size + 1)))) := (most_any 4095 5 (by decide) (by decide) (by decide) hQd.out.2.2.2).mono fun e w' ⟨he, h1, h2⟩ => ⟨_, he, rfl, h1.out, h2.out⟩
              have hcf : ∀ args w, (callFunc 27 args).run Tryd.prog w = .ok (.enter 27 args) w := fun _ _ => rfl
              have c0 : wr.drew.cell? ⟨w2.heap.size, 0, none⟩ = some (.slice pa' l.length pc') := hQd.out.2.1.cell 0
              have c0' : wr.cell? ⟨w2.heap.size, 0, none⟩ = some (.slice pa' l.length pc') := hQ.out.2.1.cell 0
              clear hE hs0
              generalize (numS zs sj 0 4095 5).1 = m at *
              generalize (numS zs sj 0 4095 5).2 = s9 at *
              go_upto_region 16 with fail
              go_region_law (first
                | (refine step_call3c (by rfl) 4 (.int .u64 4095) (.int .i64 5) 56 39 3 (by rfl) (by rfl) hcf kV.out ?_; rintro x w9 ⟨hx9, hR9, hg9⟩; subst hx9; have c9 : w9.cell? ⟨w2.heap.size, 0, none⟩ = some (.slice pa' l.length pc') := (hQd.out.2.1.k2 (K2.of_g hg9) (Nat.ne_of_gt hrX.out) (Nat.ne_of_gt hrX.out)).cell 0; have c9a : (w9.alloc (.cells #[.int .i64 (m : Nat)] 3)).cell? ⟨w2.heap.size, 0, none⟩ = some (.slice pa' l.length pc') := ((hQd.out.2.1.k2 (K2.of_g hg9) (Nat.ne_of_gt hrX.out) (Nat.ne_of_gt hrX.out)).kept (al_below w9 _)).cell 0; have hR9' : Hid (RS w9 (w.heap.size + 1) a n cap zs s9) := hR9; have hg9' : Hid (wr.drew.grownBy w9 (some (w.heap.size + 1))) := hg9; have hO9 : Hid (OwnsI w9 (w2.heap.size + 1) (.slice pa' l.length pc') l) := hQd.out.2.2.1.k2 (K2.of_g (q := w.heap.size + 1) hg9) (by have := hrX.out; omega) (by have := hrX.out; omega); have hs9 : Hid (w2.heap.size + 1 ≤ w9.heap.size) := (hQd.out.2.1.k2 (K2.of_g hg9) (Nat.ne_of_gt hrX.out) (Nat.ne_of_gt hrX.out)).lt; clear hR9 hg9)
                | (refine step_append_ints (by rfl) _ _ (by rfl) (w2.heap.size + 1) (.slice pa' l.length pc') l [((m : Nat) : Int)] (by rfl) (hO9.out.alloc _) ⟨w9.heap.size, 0, none⟩ 1 1 (by rfl) rfl (one_int w9 _) (by have := hc64; simp; omega) (by have := hs9.out; simp; omega) ?_; intro v10 w10 ho10 hg10; have hN : Hid (IPd wo (w10.setCell ⟨w2.heap.size, 0, none⟩ v10) (w.heap.size + 1) w2.heap.size a n cap zs v10 (kd : Nat) nn (l ++ [((m : Nat) : Int)]) s9) := hQd.out.put hIL.out hg9'.out hR9'.out ho10 hg10; have hX10 : Hid (Blk w10 w2.heap.size #[.slice pa' l.length pc', .int .i64 (kd : Nat), .int .u64 (nn : Nat)] 41) := ((grownI_below ((Below.refl _ _).alloc hs9.out _) (hO9.out.alloc _) hg10 (by have := hs9.out; simp; omega)).block w2.heap.size (Nat.lt_succ_self _)).trans (hQd.out.2.1.k2 (K2.of_g hg9'.out) (Nat.ne_of_gt hrX.out) (Nat.ne_of_gt hrX.out)); obtain ⟨pa10, pn10, pc10, rfl, -, -, -⟩ := ho10.form3; have c10 := hX10.out.cell 0; have y10 := hX10.out.fz 0; clear ho10 hg10 hX10))
              all_goals
                clear hQ hQd c0 c0'
                go_wp2_with fail
                go_roundw
                case rel => exact ⟨l ++ [((m : Nat) : Int)], l.length + 1, K, s9, _, by go_num, by rw [List.length_append]; rfl, by omega, hN, by show _ ∧ _; rw [List.append_assoc]; exact hE3.out⟩
                case measure => simp [intOf]; omega
            · have hE' : Hid (P = (l, sj)) := by
                show _ = _
                obtain ⟨h1, h2⟩ := hE.out
                by_cases hK0 : K = 0
                · subst hK0
                  simp only [stepsS, List.append_nil] at h1 h2
                  rw [h1, h2]
                · have hs0 : sj.1 ≠ 0 := fun h => hgo ⟨by omega, h⟩
                  rw [stepsS_bad _ _ _ hs0] at h1 h2
                  simp only [List.append_nil] at h1 h2
                  rw [h1, h2]
              obtain ⟨pa', pn', pc', rfl, hpn, hpc, hpm⟩ := hQ.out.2.2.1.form3
              subst hpn
              have c0 := hQ.out.2.1.cell 0
              have c1 := hQ.out.2.1.cell 1
              have c2 := hQ.out.2.1.cell 2
              have hOo : Hid (OwnsK wr W2.heap.size u5 L) := hO.out.k2 hQ.out.1 (by have := hs2.out; have := hrr.out; omega) (by have := hs2.out; have := hrr.out; omega)
              have hT : Hid (OwnsI wr W2.heap.size (.slice pa' l.length pc') l ∧ nn < 18446744073709551616) := ⟨hQ.out.2.2.1.base (by have := hwX.out; have := hBo.out.size; omega), by rw [← hnn]; exact word_lt zs S4 hz.1⟩
              have hszr : Hid (W2.heap.size ≤ wr.heap.size) := Nat.le_trans hBo.out.size hQ.out.1.size
              have hN5 : Hid (lossS zs s' = (⟨l, (kd : Nat), nn⟩, sj)) := by show _ = _; rw [hKS.out, hE'.out]
              have hRj : Hid (RS wr (w.heap.size + 1) a n cap zs sj) := hQ.out.2.2.2
              have hKw : Hid (K2 (w.heap.size + 1) (w.heap.size + 1) wo wr) := hQ.out.1
              have fin : Hid (∀ (v4 : Value) (w4 : World), OwnsK w4 W2.heap.size v4 (L ++ [(.slice pa' l.length pc', (⟨l, (kd : Nat), nn⟩ : Ls))]) → (wr.alloc (.cells #[.slice pa' l.length pc', .int .i64 (kd : Nat), .int .u64 (nn : Nat)] 41)).grownBy w4 (u5 : Value).ownBlock → Hid (OP w W2 w4 (w.heap.size + 1) a n cap zs v4 (L ++ [(.slice pa' l.length pc', (⟨l, (kd : Nat), nn⟩ : Ls))]) sj)) := fun v4 w4 h1 h2 => by
                have hb4 : Below W2.heap.size wr w4 := grownK_below ((Below.refl _ _).alloc hszr.out _) (hOo.out.alloc _) h2 (by have := hszr.out; simp; omega)
                exact ⟨h1, hRj.out.low hb4 (by have := hs2.out; have := hrr.out; omega) (fun x hx hz => by have := ha.out x hx hz; have := hs2.out; omega), (hKo.out.trans' hKw.out).low hb4⟩
              by_cases hJc : l.length < c
              · have hs0 : sj.1 ≠ 0 := fun h => hgo ⟨by omega, h⟩
                have hy : (((sj.1 : Nat) : Int) == 0) = false := by rw [beq_eq_false_iff_ne]; omega
                clear hQ hE hIL
                go_wp2_with (at_builtin; go_loud (refine wpList_append_loss rfl _ _ rfl W2.heap.size _ L (.slice pa' l.length pc', ⟨l, (kd : Nat), nn⟩) rfl (hOo.out.alloc _) ⟨hT.out.1.alloc _, hT.out.2⟩ wr.heap.size rfl (fun j _ => ((blk_new wr _ _).cell j).trans Array.getElem?_toList.symm) (by have := hLl.out; omega) (by have := hszr.out; simp; omega) ?_; intro v4 w4 hO4 hg4; have hF4 := fin.out v4 w4 hO4 hg4; clear hO4 hg4))
                go_roundw
                case rel =>
                  refine ⟨L ++ [(.slice pa' l.length pc', ⟨l, (kd : Nat), nn⟩)], L.length + 1, k, sj, by go_num, by rw [List.length_append]; rfl, by omega, hF4, ?_⟩
                  show _ ∧ _
                  rw [hN5.out] at hE6
                  rw [List.map_append, List.append_assoc]
                  exact hE6.out
                case measure => simp [intOf]; omega
              · have e : l.length = c := by omega
                subst e
                clear hQ hE hIL
                go_wp2_with (at_builtin; go_loud (refine wpList_append_loss rfl _ _ rfl W2.heap.size _ L (.slice pa' l.length pc', ⟨l, (kd : Nat), nn⟩) rfl (hOo.out.alloc _) ⟨hT.out.1.alloc _, hT.out.2⟩ wr.heap.size rfl (fun j _ => ((blk_new wr _ _).cell j).trans Array.getElem?_toList.symm) (by have := hLl.out; omega) (by have := hszr.out; simp; omega) ?_; intro v4 w4 hO4 hg4; have hF4 := fin.out v4 w4 hO4 hg4; clear hO4 hg4))
                go_roundw
                case rel =>
                  refine ⟨L ++ [(.slice pa' l.length pc', ⟨l, (kd : Nat), nn⟩)], L.length + 1, k, sj, by go_num, by rw [List.length_append]; rfl, by omega, hF4, ?_⟩
                  show _ ∧ _
                  rw [hN5.out] at hE6
                  rw [List.map_append, List.append_assoc]
                  exact hE6.out
                case measure => simp [intOf]; omega
    · have hQ1 : Hid (Q.1 = L.map Prod.snd ∧ Q.2 = s') := by
        show _ ∧ _
        obtain ⟨h1, h2⟩ := hE.out
        by_cases hk0 : k = 0
        · subst hk0
          simp only [lsS, List.append_nil] at h1 h2
          exact ⟨h1.symm, h2.symm⟩
        · have hs0 : s'.1 ≠ 0 := fun h => hgo ⟨by omega, h⟩
          rw [lsS_bad _ _ _ hs0] at h1 h2
          simp only [List.append_nil] at h1 h2
          exact ⟨h1.symm, h2.symm⟩
      have hPar : Hid (R = if (endS zs s').1 ≠ 0 then ([], (endS zs s').1, (endS zs s').2.1) else (L.map Prod.snd, 0, 0)) := by
        show _ = _
        rw [← hRR.out]
        unfold parA
        rw [hQ0.out, hQ1.out.1, hQ1.out.2]
      have hXr : Hid (Blk wo w.heap.size #[.int .i64 0, .int .i64 0] 33) := hX2.out.k2 hKo.out (by omega) (by omega)
      have hBw : Hid (Below w.heap.size w wo) := hKo.out.below hB2.out hB2.out.size (by omega) (by omega)
      obtain ⟨p1, f1, hcu, hp1, hf1⟩ := hRo.out.cur
      have d3 := hcu.1.c3
      have z2 := hcu.1.fz 2
      have z3 := hcu.1.fz 3
      have d1' := hcu.1.c1
      have d2' := hcu.1.c2
      have g0 := hXr.out.cell 0
      have g1 := hXr.out.cell 1
      have x0 := hXr.out.fz 0
      have x1 := hXr.out.fz 1
      have hzl : Hid (zs.length = n) := hz.2.1
      have hpn : p1 ≤ n := hcu.2.2.2.1
      clear hE hX3 d1 d2 hcu
      by_cases hs0 : s'.1 = 0
      · have hk0 : k = 0 := by
          by_cases h : k = 0
          · exact h
          · exact absurd ⟨by omega, hs0⟩ hgo
        subst hk0
        obtain ⟨hp1', hf0⟩ := hp1 hs0
        subst hp1' hf0
        rw [hs0] at d2'
        have hIN : L.length = N := by omega
        by_cases hmore : s'.2.2 < n
        · have hR' : Hid (R = ([], 10, s'.2.2)) := by
            show _ = _
            have hend : endS zs s' = (10, s'.2.2, 0) := by unfold endS; rw [if_pos ⟨hs0, by rw [hzl.out]; exact hmore⟩]
            rw [hPar.out, hend]
            simp
          obtain ⟨hR4, hg4⟩ := hRo.out.fails 10 s'.2.2 (by decide)
          obtain ⟨p4, f4, hcu4, _, hf4⟩ := hR4.cur
          have b2 : ((wo.setCell ⟨w.heap.size + 1, 2, none⟩ (.int .i64 10)).setCell ⟨w.heap.size + 1, 3, none⟩ (.int .i64 (s'.2.2 : Nat))).cell? ⟨w.heap.size + 1, 2, none⟩ = some (.int .i64 10) := hcu4.1.c2
          have hf4' : f4 = s'.2.2 := hf4 (by simp)
          subst hf4'
          have b3 : ((wo.setCell ⟨w.heap.size + 1, 2, none⟩ (.int .i64 10)).setCell ⟨w.heap.size + 1, 3, none⟩ (.int .i64 (s'.2.2 : Nat))).cell? ⟨w.heap.size + 1, 3, none⟩ = some (.int .i64 (s'.2.2 : Nat)) := hcu4.1.c3
          have hXv : Hid (Blk ((wo.setCell ⟨w.heap.size + 1, 2, none⟩ (.int .i64 10)).setCell ⟨w.heap.size + 1, 3, none⟩ (.int .i64 (s'.2.2 : Nat))) w.heap.size #[.int .i64 0, .int .i64 0] 33) := hXr.out.k2 (K2.of_g (q := w.heap.size + 1) hg4) (by omega) (by omega)
          have hBv : Hid (Below w.heap.size w ((wo.setCell ⟨w.heap.size + 1, 2, none⟩ (.int .i64 10)).setCell ⟨w.heap.size + 1, 3, none⟩ (.int .i64 (s'.2.2 : Nat)))) := (hBw.out.setCell (p := ⟨w.heap.size + 1, 2, none⟩) (Nat.le_succ _) _).setCell (p := ⟨w.heap.size + 1, 3, none⟩) (Nat.le_succ _) _
          have hmore' : (s'.2.2 : Int) < (n : Int) := by omega
          clear hPar hRo hO hR4 hcu4 hs0 hg4 hf4 hXr hBw
          go_wp2_with fail
          clear g0 g1 x0 x1
          generalize (wo.setCell ⟨w.heap.size + 1, 2, none⟩ (.int .i64 10)).setCell ⟨w.heap.size + 1, 3, none⟩ (.int .i64 (s'.2.2 : Nat)) = V at *
          have g0 := hXv.out.cell 0
          have g1 := hXv.out.cell 1
          have x0 := hXv.out.fz 0
          have x1 := hXv.out.fz 1
          go_region
          go_wp2
          have K1 := hXv.out.set 0 (.int .i64 10)
          have K2' := K1.set 1 (.int .i64 (s'.2.2 : Nat))
          have e0 := K1.cell 0
          have e1 := K2'.cell 1
          simp at e0 e1
          refine bodyPost_ret (v := .tuple #[.slice none 0 0, .agg #[.int .i64 10, .int .i64 (s'.2.2 : Nat)]]) (by simp [results, Tryd.results14, go_sem, e0, e1]) rfl ⟨.slice none 0 0, [], by (rw [hR'.out]) <;> rfl, ⟨ownsK_nil _ _, by simp, by (rw [hR'.out]) <;> rfl⟩, ((hBv.out.setCell (p := ⟨w.heap.size, 0, none⟩) (Nat.le_refl _) _).setCell (p := ⟨w.heap.size, 1, none⟩) (Nat.le_refl _) _).drew⟩
        · have hR' : Hid (R = (L.map Prod.snd, 0, 0)) := by
            show _ = _
            have hend : endS zs s' = s' := by unfold endS; rw [if_neg (by rw [hzl.out]; omega)]
            rw [hPar.out, hend, if_neg (by omega)]
          have hmore' : ¬ (s'.2.2 : Int) < (n : Int) := by omega
          have hpe : s'.2.2 = n := by omega
          clear hPar hRo hs0
          go_wp2
          have K1 := hXr.out.set 0 (.int .i64 0)
          have K2' := K1.set 1 (.int .i64 0)
          have e0 := K1.cell 0
          have e1 := K2'.cell 1
          simp at e0 e1
          refine bodyPost_ret (v := .tuple #[u5, .agg #[.int .i64 0, .int .i64 0]]) (by simp [results, Tryd.results14, go_sem, e0, e1]) rfl ⟨u5, by (rw [hR'.out]) <;> rfl, ⟨L, ((hO.out.set (a := ⟨w.heap.size, 0, none⟩) (by have := hs2.out; show w.heap.size < _; omega) _).set (a := ⟨w.heap.size, 1, none⟩) (by have := hs2.out; show w.heap.size < _; omega) _).base hB2.out.size, hLl.out, by rw [hR'.out]⟩, (hBw.out.setCell (p := ⟨w.heap.size, 0, none⟩) (Nat.le_refl _) _).setCell (p := ⟨w.heap.size, 1, none⟩) (Nat.le_refl _) _⟩
      · have hf1' := hf1 hs0
        subst hf1'
        have hR' : Hid (R = ([], s'.1, s'.2.1)) := by
          show _ = _
          have hend : endS zs s' = s' := by unfold endS; rw [if_neg (by simp [hs0])]
          rw [hPar.out, hend, if_pos hs0]
        have hy : (((s'.1 : Nat) : Int) == 0) = false := by rw [beq_eq_false_iff_ne]; omega
        have hy' : (((s'.1 : Nat) : Int) != 0) = true := by rw [bne_iff_ne]; omega
        have hXv : Hid (Blk wo w.heap.size #[.int .i64 0, .int .i64 0] 33) := hXr
        have hBv : Hid (Below w.heap.size w wo) := hBw
        clear hPar hRo hO hXr hBw
        by_cases hIN : L.length < N
        · go_wp2_with fail
          go_region
          go_wp2
          have K1 := hXv.out.set 0 (.int .i64 (s'.1 : Nat))
          have K2' := K1.set 1 (.int .i64 (s'.2.1 : Nat))
          have e0 := K1.cell 0
          have e1 := K2'.cell 1
          simp at e0 e1
          refine bodyPost_ret (v := .tuple #[.slice none 0 0, .agg #[.int .i64 (s'.1 : Nat), .int .i64 (s'.2.1 : Nat)]]) (by simp [results, Tryd.results14, go_sem, e0, e1]) rfl ⟨.slice none 0 0, [], by (rw [hR'.out]) <;> rfl, ⟨ownsK_nil _ _, by simp, by (rw [hR'.out]) <;> rfl⟩, ((hBv.out.setCell (p := ⟨w.heap.size, 0, none⟩) (Nat.le_refl _) _).setCell (p := ⟨w.heap.size, 1, none⟩) (Nat.le_refl _) _).drew⟩
        · have hIN' : L.length = N := by omega
          go_wp2_with fail
          go_region
          go_wp2
          have K1 := hXv.out.set 0 (.int .i64 (s'.1 : Nat))
          have K2' := K1.set 1 (.int .i64 (s'.2.1 : Nat))
          have e0 := K1.cell 0
          have e1 := K2'.cell 1
          simp at e0 e1
          refine bodyPost_ret (v := .tuple #[.slice none 0 0, .agg #[.int .i64 (s'.1 : Nat), .int .i64 (s'.2.1 : Nat)]]) (by simp [results, Tryd.results14, go_sem, e0, e1]) rfl ⟨.slice none 0 0, [], by (rw [hR'.out]) <;> rfl, ⟨ownsK_nil _ _, by simp, by (rw [hR'.out]) <;> rfl⟩, ((hBv.out.setCell (p := ⟨w.heap.size, 0, none⟩) (Nat.le_refl _) _).setCell (p := ⟨w.heap.size, 1, none⟩) (Nat.le_refl _) _).drew⟩
end Go.Proofs.YtgfnohgpmmaocaaDoor
