/-
  CBOR out of trees: csay.Encode.
  CBOR out of trees: the two trees of alive, encoded.
  CBOR out of trees: unlike trees have unlike bytes: the walks.
  CBOR out of trees: unlike trees have unlike bytes: the walk of beginnings.
-/
import Derived.Test.YtnjbppfanmmifaaGreatDoorP39
import Derived.Test.YtnjbppfanmmifaaGreatDoorP43
import Derived.Test.YtnjbppfanmmifaaGreatDoorP26
import Derived.Test.YtnjbppfanmmifaaGreatDoorP29
import Derived.Test.YtnjbppfanmmifaaGreatDoorP33
import Derived.Deep.RegionLaw
namespace Go.Proofs.YtnjbppfanmmifaaGreatDoor
open Go.RowKit
set_option linter.unusedVariables false
def encA (t : Tr) : Prop:=t.May (fun u => alF u = 0)∧(encF 24 t).length ≤ 4096∧dcdA (encF 24 t) = .inr t
theorem all_imp {P Q : Tr→Prop} (h : ∀ u,P u→Q u) : ∀ (k : Nat) (t : Tr),t.deep ≤ k→t.All P→t.All Q
 | 0,t,hd,_ => by rw [Tr.deep_eq] at hd; omega
 | k + 1,t,hd,hA => by
  obtain ⟨a,b,c⟩:=(Tr.all_eq P t).1 hA
  exact (Tr.all_eq Q t).2 ⟨h t a,fun u hu => all_imp h k u (by have:=Tr.key_deep hu; omega) (b u hu),fun u hu => all_imp h k u (by have:=Tr.kid_deep hu; omega) (c u hu)⟩
theorem may_eg {t : Tr} (h : t.May (fun u => alF u = 0)) : t.deep ≤ 24∧t.All EG:=⟨h.2.1,all_imp (fun u hu => eg_of hu) 24 t h.2.1 h.2.2.1⟩
theorem check_ok {t : Tr} {er : Int} (h : Tr.ChkIs alF t er) : er = 0↔t.May (fun u => alF u = 0) :=
 ⟨fun e => (Tr.chk_may alF_shaped).1 (by rw [e] at h; exact h),fun e => Tr.chk_one h ((Tr.chk_may alF_shaped).2 e)⟩
set_option maxHeartbeats 8000000 in
set_option maxRecDepth 100000 in
theorem encode_a {L D : Nat} {t : Tr} {b : Nb} {w : World} (hN : Nd D w b t) (hM : ¬ t.May (fun u => alF u = 0)) (hC : Cv L w) (hL : L ≤ w.heap.size) : Calls Tryz.prog 24 #[.agg b.arr] w fun e w' => (∃ er : Int,(er == 0) = false∧e = .returned (.tuple #[.slice none 0 0,.int .i64 er]))∧Below w.heap.size w w':=by
 have B0 : Hid (Below w.heap.size w (w.alloc (.cells b.arr 26))):=alloc_below w _
 have Q0 : Hid (NBox (w.alloc (.cells b.arr 26)) w.heap.size b):=nbox_new w b
 obtain ⟨a0,a1,a2,a3,a4,a5,a6,a7,a8⟩:=(nbox_new w b).fields
 have hCx : ∀ x,Below w.heap.size w x→Cv L x∧L ≤ x.heap.size:=fun x hx => ⟨hC.on (hx.mono hL),Nat.le_trans hL hx.size⟩
 have kG : Hid (∀ x,Below w.heap.size w x→Calls Tryz.prog 40 #[.agg b.arr] x fun e w' => (∃ er,e = .returned (.int .i64 er)∧Tr.ChkIs alF t er)∧Below x.heap.size x w'):=fun x hx => gcheck_any (hN.kept hx)
 have hM' : Hid (¬ t.May (fun u => alF u = 0)):=hM
 clear hN hC hL hCx hM
 go_enter Tryz.func24,Tryz.ntmps24
 go_wp2_with (go_at_call 40; refine (kG.out _ (by exact B0.out)).mono ?_; rintro e x1 ⟨⟨er,rfl,hE⟩,hb1⟩; have ge : (er != 0) = true:=(by simp only [bne_iff_ne,ne_eq]; exact fun q => hM'.out ((check_ok hE).1 q)); have ge' : Hid ((er == 0) = false):=(by show _ = _; simpa using ge); have b1 : Hid (Below w.heap.size w x1):=B0.out.trans (hb1.mono B0.out.size); have Q1 : Hid (NBox x1 w.heap.size b):=Q0.out.kept hb1 Q0.out.lt; clear a0 a1 a2 a3 a4 a5 a6 a7 a8; obtain ⟨a0,a1,a2,a3,a4,a5,a6,a7,a8⟩:=Q1.out.fields; clear hb1 hE kG Q0)
 refine bodyPost_ret (v:=.tuple #[.slice none 0 0,.int .i64 er]) (by simp [results,Tryz.results24,go_sem, *]) rfl ⟨⟨er,ge'.out,rfl⟩,b1.out⟩
set_option maxHeartbeats 8000000 in
set_option maxRecDepth 100000 in
theorem encode_b {L D : Nat} {t : Tr} {b : Nb} {w : World} (hN : Nd D w b t) (hM : t.May (fun u => alF u = 0)) (hb : ¬ (encF 24 t).length ≤ 4096) (hC : Cv L w) (hL : L ≤ w.heap.size) : Calls Tryz.prog 24 #[.agg b.arr] w fun e w' => (∃ er : Int,(er == 0) = false∧e = .returned (.tuple #[.slice none 0 0,.int .i64 er]))∧Below w.heap.size w w':=by
 have B0 : Hid (Below w.heap.size w (w.alloc (.cells b.arr 26))):=alloc_below w _
 have Q0 : Hid (NBox (w.alloc (.cells b.arr 26)) w.heap.size b):=nbox_new w b
 obtain ⟨a0,a1,a2,a3,a4,a5,a6,a7,a8⟩:=(nbox_new w b).fields
 have hCx : ∀ x,Below w.heap.size w x→Cv L x∧L ≤ x.heap.size:=fun x hx => ⟨hC.on (hx.mono hL),Nat.le_trans hL hx.size⟩
 have kG : Hid (∀ x,Below w.heap.size w x→Calls Tryz.prog 40 #[.agg b.arr] x fun e w' => (∃ er,e = .returned (.int .i64 er)∧Tr.ChkIs alF t er)∧Below x.heap.size x w'):=fun x hx => gcheck_any (hN.kept hx)
 have kI : Hid (∀ x,Below w.heap.size w x→Calls Tryz.prog 41 #[.agg b.arr] x fun e w' => BytIs x w' e (encF 24 t)):=fun x hx => sitem_any L 24 (by omega) D t b x (hN.kept hx) (may_eg hM).1 (may_eg hM).2 (hCx x hx).1 (hCx x hx).2
 have hM' : Hid (t.May (fun u => alF u = 0)):=hM
 have hb' : Hid (4096 < (encF 24 t).length):=by show _ < _; omega
 generalize encF 24 t = zs at *
 unfold BytIs at kI
 clear hN hC hL hCx hM hb
 go_enter Tryz.func24,Tryz.ntmps24
 go_wp2_with (first
  | (go_at_call 40; refine (kG.out _ (by exact B0.out)).mono ?_; rintro e x1 ⟨⟨er,rfl,hE⟩,hb1⟩; have he0:=(check_ok hE).2 hM'.out; subst he0; have b1 : Hid (Below w.heap.size w x1):=B0.out.trans (hb1.mono B0.out.size); have Q1 : Hid (NBox x1 w.heap.size b):=Q0.out.kept hb1 Q0.out.lt; clear a0 a1 a2 a3 a4 a5 a6 a7 a8; obtain ⟨a0,a1,a2,a3,a4,a5,a6,a7,a8⟩:=Q1.out.fields; clear hb1 hE kG Q0)
  | (go_at_call 41; refine (kI.out _ b1.out).mono ?_; rintro e x2 ⟨⟨v2,rfl,hO2⟩,hb2⟩; obtain ⟨a_2,n2,c2,rfl,hl2,hn2,hc2,hm2,hB2⟩:=hO2.form; have gl : (4096 : Int) < (n2 : Int):=(by have:=hl2.out; have:=hb'.out; omega); have b2 : Hid (Below w.heap.size w x2):=b1.out.trans (hb2.mono b1.out.size); have O2 : Hid (OwnsB x2 w.heap.size (.slice a_2 n2 c2) zs):=hO2.base b1.out.size; have Q2 : Hid (NBox x2 w.heap.size b):=Q1.out.kept hb2 Q1.out.lt; clear a0 a1 a2 a3 a4 a5 a6 a7 a8; obtain ⟨a0,a1,a2,a3,a4,a5,a6,a7,a8⟩:=Q2.out.fields;  clear hb2 hO2 kI Q1))
 refine bodyPost_ret (v:=.tuple #[.slice none 0 0,.int .i64 8]) (by simp [results,Tryz.results24,go_sem, *]) rfl ⟨⟨8,rfl,rfl⟩,b2.out⟩
set_option maxHeartbeats 8000000 in
set_option maxRecDepth 100000 in
theorem encode_c {L D : Nat} {t : Tr} {b : Nb} {w : World} (hN : Nd D w b t) (hM : t.May (fun u => alF u = 0)) (hb : (encF 24 t).length ≤ 4096) {f : Int × Nat} (hf : dcdA (encF 24 t) = .inl f) (hC : Cv L w) (hL : L ≤ w.heap.size) : Calls Tryz.prog 24 #[.agg b.arr] w fun e w' => (∃ er : Int,(er == 0) = false∧e = .returned (.tuple #[.slice none 0 0,.int .i64 er]))∧Below w.heap.size w w':=by
 have B0 : Hid (Below w.heap.size w (w.alloc (.cells b.arr 26))):=alloc_below w _
 have Q0 : Hid (NBox (w.alloc (.cells b.arr 26)) w.heap.size b):=nbox_new w b
 obtain ⟨a0,a1,a2,a3,a4,a5,a6,a7,a8⟩:=(nbox_new w b).fields
 have hCx : ∀ x,Below w.heap.size w x→Cv L x∧L ≤ x.heap.size:=fun x hx => ⟨hC.on (hx.mono hL),Nat.le_trans hL hx.size⟩
 have kG : Hid (∀ x,Below w.heap.size w x→Calls Tryz.prog 40 #[.agg b.arr] x fun e w' => (∃ er,e = .returned (.int .i64 er)∧Tr.ChkIs alF t er)∧Below x.heap.size x w'):=fun x hx => gcheck_any (hN.kept hx)
 have kI : Hid (∀ x,Below w.heap.size w x→Calls Tryz.prog 41 #[.agg b.arr] x fun e w' => BytIs x w' e (encF 24 t)):=fun x hx => sitem_any L 24 (by omega) D t b x (hN.kept hx) (may_eg hM).1 (may_eg hM).2 (hCx x hx).1 (hCx x hx).2
 have hM' : Hid (t.May (fun u => alF u = 0)):=hM
 have hb' : Hid ((encF 24 t).length ≤ 4096):=hb
 have gf : (f.1 == 0) = false:=by simpa using (dcd_err hf).1
 have gf' : (f.1 != 0) = true:=by simpa using (dcd_err hf).1
 generalize encF 24 t = zs at *
 have kD : Hid (∀ x a n c,Below w.heap.size w x→Bytes x a zs→zs.length = n→n ≤ c∧c ≤ maxLen∧(a = none→c = 0)→Calls Tryz.prog 17 #[.slice a n c] x fun e w' => DcdIs x w' e (.inl f)):=fun x a n c hx hB hl hc => by rw [← hf]; exact decode_any a n c zs x hl hB hc (hCx x hx).1.1 (hCx x hx).2
 unfold BytIs at kI
 unfold DcdIs zN Nb.arr at kD
 simp only at kD
 clear hN hC hL hCx hM hb hf
 go_enter Tryz.func24,Tryz.ntmps24
 go_wp2_with (first
  | (go_at_call 40; refine (kG.out _ (by exact B0.out)).mono ?_; rintro e x1 ⟨⟨er,rfl,hE⟩,hb1⟩; have he0:=(check_ok hE).2 hM'.out; subst he0; have b1 : Hid (Below w.heap.size w x1):=B0.out.trans (hb1.mono B0.out.size); have Q1 : Hid (NBox x1 w.heap.size b):=Q0.out.kept hb1 Q0.out.lt; clear a0 a1 a2 a3 a4 a5 a6 a7 a8; obtain ⟨a0,a1,a2,a3,a4,a5,a6,a7,a8⟩:=Q1.out.fields; clear hb1 hE kG Q0)
  | (go_at_call 41; refine (kI.out _ b1.out).mono ?_; rintro e x2 ⟨⟨v2,rfl,hO2⟩,hb2⟩; obtain ⟨a_2,n2,c2,rfl,hl2,hn2,hc2,hm2,hB2⟩:=hO2.form; have gl : ¬ (4096 : Int) < (n2 : Int):=(by have:=hl2.out; have:=hb'.out; omega); have b2 : Hid (Below w.heap.size w x2):=b1.out.trans (hb2.mono b1.out.size); have O2 : Hid (OwnsB x2 w.heap.size (.slice a_2 n2 c2) zs):=hO2.base b1.out.size; have Q2 : Hid (NBox x2 w.heap.size b):=Q1.out.kept hb2 Q1.out.lt; clear a0 a1 a2 a3 a4 a5 a6 a7 a8; obtain ⟨a0,a1,a2,a3,a4,a5,a6,a7,a8⟩:=Q2.out.fields; have kD':=kD.out x2 a_2 n2 c2 b2.out hB2.out hl2.out ⟨hc2,(by unfold maxLen; omega),(by first | exact hn2.out | exact hn2 | (intro q; cases q))⟩; clear kD hB2; clear hb2 hO2 kI Q1)
  | (go_at_call 17; refine kD'.mono ?_; rintro e x3 ⟨rfl,hb3⟩; have b3 : Hid (Below w.heap.size w x3):=b2.out.trans (hb3.mono b2.out.size); clear hb3 kD'))
 refine bodyPost_ret (v:=.tuple #[.slice none 0 0,.int .i64 12]) (by simp [results,Tryz.results24,go_sem, *]) rfl ⟨⟨12,rfl,rfl⟩,b3.out.trans ((bal2 x3 _ _).mono b3.out.size)⟩
set_option maxHeartbeats 8000000 in
set_option maxRecDepth 100000 in
theorem encode_d {L D : Nat} {t : Tr} {b : Nb} {w : World} (hN : Nd D w b t) (hM : t.May (fun u => alF u = 0)) (hb : (encF 24 t).length ≤ 4096) {u : Tr} (hf : dcdA (encF 24 t) = .inr u) (hu : u ≠ t) (hC : Cv L w) (hL : L ≤ w.heap.size) : Calls Tryz.prog 24 #[.agg b.arr] w fun e w' => (∃ er : Int,(er == 0) = false∧e = .returned (.tuple #[.slice none 0 0,.int .i64 er]))∧Below w.heap.size w w':=by
 have B0 : Hid (Below w.heap.size w (w.alloc (.cells b.arr 26))):=alloc_below w _
 have Q0 : Hid (NBox (w.alloc (.cells b.arr 26)) w.heap.size b):=nbox_new w b
 obtain ⟨a0,a1,a2,a3,a4,a5,a6,a7,a8⟩:=(nbox_new w b).fields
 have hCx : ∀ x,Below w.heap.size w x→Cv L x∧L ≤ x.heap.size:=fun x hx => ⟨hC.on (hx.mono hL),Nat.le_trans hL hx.size⟩
 have kG : Hid (∀ x,Below w.heap.size w x→Calls Tryz.prog 40 #[.agg b.arr] x fun e w' => (∃ er,e = .returned (.int .i64 er)∧Tr.ChkIs alF t er)∧Below x.heap.size x w'):=fun x hx => gcheck_any (hN.kept hx)
 have kI : Hid (∀ x,Below w.heap.size w x→Calls Tryz.prog 41 #[.agg b.arr] x fun e w' => BytIs x w' e (encF 24 t)):=fun x hx => sitem_any L 24 (by omega) D t b x (hN.kept hx) (may_eg hM).1 (may_eg hM).2 (hCx x hx).1 (hCx x hx).2
 have hM' : Hid (t.May (fun u => alF u = 0)):=hM
 have hb' : Hid ((encF 24 t).length ≤ 4096):=hb
 have hv : false = true↔u.size ≤ 1024∧t.size ≤ 1024∧u = t:=⟨fun h => (by cases h),fun h => absurd h.2.2 hu⟩
 generalize encF 24 t = zs at *
 have kD : Hid (∀ x a n c,Below w.heap.size w x→Bytes x a zs→zs.length = n→n ≤ c∧c ≤ maxLen∧(a = none→c = 0)→Calls Tryz.prog 17 #[.slice a n c] x fun e w' => DcdIs x w' e (.inr u)):=fun x a n c hx hB hl hc => by rw [← hf]; exact decode_any a n c zs x hl hB hc (hCx x hx).1.1 (hCx x hx).2
 have kS : Hid (∀ x nb,Below w.heap.size w x→Nd 26 x nb u→Calls Tryz.prog 42 #[.agg nb.arr,.agg b.arr] ((x.alloc (.cells nb.arr 26)).alloc (.cells #[.int .i64 0,.int .i64 0] 29)) fun e w' => e = .returned (.bool false)∧Below w.heap.size w w'):=fun x nb hx hn => by
  have A:=bal2 x (.cells nb.arr 26) (.cells #[.int .i64 0,.int .i64 0] 29)
  have hx2:=hx.trans (A.mono hx.size)
  exact (gsame_any (hn.kept A) (hN.kept hx2) hv).mono fun e w' h => ⟨h.1,hx2.trans (h.2.mono hx2.size)⟩
 unfold BytIs at kI
 unfold DcdIs at kD
 simp only at kD
 unfold Nb.arr at kD kS
 clear hN hC hL hCx hM hb hf hv
 go_enter Tryz.func24,Tryz.ntmps24
 go_wp2_with (first
  | (go_at_call 40; refine (kG.out _ (by exact B0.out)).mono ?_; rintro e x1 ⟨⟨er,rfl,hE⟩,hb1⟩; have he0:=(check_ok hE).2 hM'.out; subst he0; have b1 : Hid (Below w.heap.size w x1):=B0.out.trans (hb1.mono B0.out.size); have Q1 : Hid (NBox x1 w.heap.size b):=Q0.out.kept hb1 Q0.out.lt; clear a0 a1 a2 a3 a4 a5 a6 a7 a8; obtain ⟨a0,a1,a2,a3,a4,a5,a6,a7,a8⟩:=Q1.out.fields; clear hb1 hE kG Q0)
  | (go_at_call 41; refine (kI.out _ b1.out).mono ?_; rintro e x2 ⟨⟨v2,rfl,hO2⟩,hb2⟩; obtain ⟨a_2,n2,c2,rfl,hl2,hn2,hc2,hm2,hB2⟩:=hO2.form; have gl : ¬ (4096 : Int) < (n2 : Int):=(by have:=hl2.out; have:=hb'.out; omega); have b2 : Hid (Below w.heap.size w x2):=b1.out.trans (hb2.mono b1.out.size); have O2 : Hid (OwnsB x2 w.heap.size (.slice a_2 n2 c2) zs):=hO2.base b1.out.size; have Q2 : Hid (NBox x2 w.heap.size b):=Q1.out.kept hb2 Q1.out.lt; clear a0 a1 a2 a3 a4 a5 a6 a7 a8; obtain ⟨a0,a1,a2,a3,a4,a5,a6,a7,a8⟩:=Q2.out.fields; have kD':=kD.out x2 a_2 n2 c2 b2.out hB2.out hl2.out ⟨hc2,(by unfold maxLen; omega),(by first | exact hn2.out | exact hn2 | (intro q; cases q))⟩; clear kD hB2; clear hb2 hO2 kI Q1)
  | (go_at_call 17; refine kD'.mono ?_; rintro e x3 ⟨⟨nb,he3,hn3⟩,hb3⟩; subst he3; have b3 : Hid (Below w.heap.size w x3):=b2.out.trans (hb3.mono b2.out.size); have kS':=kS.out x3 nb b3.out hn3.nd; have Q3 : Hid (NBox x3 w.heap.size b):=Q2.out.kept hb3 Q2.out.lt; have l3 : w.heap.size < x3.heap.size:=Q3.out.lt; clear a0 a1 a2 a3 a4 a5 a6 a7 a8; obtain ⟨a0,a1,a2,a3,a4,a5,a6,a7,a8⟩:=Q3.out.fields; obtain ⟨d0,d1,d2,d3,d4,d5,d6,d7,d8⟩:=(Q3.out.kept (bal2 x3 (.cells #[.int .i64 nb.kind,.int .u64 nb.num,.bool nb.neg,.string nb.dig,.int .i64 nb.exp,.string nb.txt,.slice nb.ab nb.lb nb.cb,.slice nb.ak nb.lk nb.ck,.slice nb.ai nb.li nb.ci] 26) (.cells #[.int .i64 0,.int .i64 0] 29)) l3).fields; have O3 : Hid (OwnsB x3 w.heap.size (.slice a_2 n2 c2) zs):=O2.out.below hb3; clear hb3 kD' hn3 kS Q2)
  | (go_at_call 42; refine kS'.mono ?_; rintro e x4 ⟨rfl,hb4⟩; have b4 : Hid (Below w.heap.size w x4):=hb4; clear hb4))
 refine bodyPost_ret (v:=.tuple #[.slice none 0 0,.int .i64 12]) (by simp [results,Tryz.results24,go_sem, *]) rfl ⟨⟨12,rfl,rfl⟩,b4.out⟩
set_option maxHeartbeats 8000000 in
set_option maxRecDepth 100000 in
theorem encode_y {L D : Nat} {t : Tr} {b : Nb} {w : World} (hN : Nd D w b t) (hM : t.May (fun u => alF u = 0)) (hb : (encF 24 t).length ≤ 4096) {u : Tr} (hf : dcdA (encF 24 t) = .inr u) (hu : u = t) (hC : Cv L w) (hL : L ≤ w.heap.size) : Calls Tryz.prog 24 #[.agg b.arr] w fun e w' => (∃ v,e = .returned (.tuple #[v,.int .i64 0])∧OwnsB w' w.heap.size v (encF 24 t))∧Below w.heap.size w w':=by
 have B0 : Hid (Below w.heap.size w (w.alloc (.cells b.arr 26))):=alloc_below w _
 have Q0 : Hid (NBox (w.alloc (.cells b.arr 26)) w.heap.size b):=nbox_new w b
 obtain ⟨a0,a1,a2,a3,a4,a5,a6,a7,a8⟩:=(nbox_new w b).fields
 have hCx : ∀ x,Below w.heap.size w x→Cv L x∧L ≤ x.heap.size:=fun x hx => ⟨hC.on (hx.mono hL),Nat.le_trans hL hx.size⟩
 have kG : Hid (∀ x,Below w.heap.size w x→Calls Tryz.prog 40 #[.agg b.arr] x fun e w' => (∃ er,e = .returned (.int .i64 er)∧Tr.ChkIs alF t er)∧Below x.heap.size x w'):=fun x hx => gcheck_any (hN.kept hx)
 have kI : Hid (∀ x,Below w.heap.size w x→Calls Tryz.prog 41 #[.agg b.arr] x fun e w' => BytIs x w' e (encF 24 t)):=fun x hx => sitem_any L 24 (by omega) D t b x (hN.kept hx) (may_eg hM).1 (may_eg hM).2 (hCx x hx).1 (hCx x hx).2
 have hM' : Hid (t.May (fun u => alF u = 0)):=hM
 have hb' : Hid ((encF 24 t).length ≤ 4096):=hb
 have hv : true = true↔u.size ≤ 1024∧t.size ≤ 1024∧u = t:=⟨fun _ => ⟨by rw [hu]; exact hM.1,hM.1,hu⟩,fun _ => rfl⟩
 generalize encF 24 t = zs at *
 have kD : Hid (∀ x a n c,Below w.heap.size w x→Bytes x a zs→zs.length = n→n ≤ c∧c ≤ maxLen∧(a = none→c = 0)→Calls Tryz.prog 17 #[.slice a n c] x fun e w' => DcdIs x w' e (.inr u)):=fun x a n c hx hB hl hc => by rw [← hf]; exact decode_any a n c zs x hl hB hc (hCx x hx).1.1 (hCx x hx).2
 have kS : Hid (∀ x nb,Below w.heap.size w x→Nd 26 x nb u→Calls Tryz.prog 42 #[.agg nb.arr,.agg b.arr] ((x.alloc (.cells nb.arr 26)).alloc (.cells #[.int .i64 0,.int .i64 0] 29)) fun e w' => e = .returned (.bool true)∧Below w.heap.size w w'∧Below x.heap.size x w'):=fun x nb hx hn => by
  have A:=bal2 x (.cells nb.arr 26) (.cells #[.int .i64 0,.int .i64 0] 29)
  have hx2:=hx.trans (A.mono hx.size)
  exact (gsame_any (hn.kept A) (hN.kept hx2) hv).mono fun e w' h => ⟨h.1,hx2.trans (h.2.mono hx2.size),A.trans (h.2.mono A.size)⟩
 unfold BytIs at kI
 unfold DcdIs at kD
 simp only at kD
 unfold Nb.arr at kD kS
 clear hN hC hL hCx hM hb hf hv
 go_enter Tryz.func24,Tryz.ntmps24
 go_wp2_with (first
  | (go_at_call 40; refine (kG.out _ (by exact B0.out)).mono ?_; rintro e x1 ⟨⟨er,rfl,hE⟩,hb1⟩; have he0:=(check_ok hE).2 hM'.out; subst he0; have b1 : Hid (Below w.heap.size w x1):=B0.out.trans (hb1.mono B0.out.size); have Q1 : Hid (NBox x1 w.heap.size b):=Q0.out.kept hb1 Q0.out.lt; clear a0 a1 a2 a3 a4 a5 a6 a7 a8; obtain ⟨a0,a1,a2,a3,a4,a5,a6,a7,a8⟩:=Q1.out.fields; clear hb1 hE kG Q0)
  | (go_at_call 41; refine (kI.out _ b1.out).mono ?_; rintro e x2 ⟨⟨v2,rfl,hO2⟩,hb2⟩; obtain ⟨a_2,n2,c2,rfl,hl2,hn2,hc2,hm2,hB2⟩:=hO2.form; have gl : ¬ (4096 : Int) < (n2 : Int):=(by have:=hl2.out; have:=hb'.out; omega); have b2 : Hid (Below w.heap.size w x2):=b1.out.trans (hb2.mono b1.out.size); have O2 : Hid (OwnsB x2 w.heap.size (.slice a_2 n2 c2) zs):=hO2.base b1.out.size; have Q2 : Hid (NBox x2 w.heap.size b):=Q1.out.kept hb2 Q1.out.lt; clear a0 a1 a2 a3 a4 a5 a6 a7 a8; obtain ⟨a0,a1,a2,a3,a4,a5,a6,a7,a8⟩:=Q2.out.fields; have kD':=kD.out x2 a_2 n2 c2 b2.out hB2.out hl2.out ⟨hc2,(by unfold maxLen; omega),(by first | exact hn2.out | exact hn2 | (intro q; cases q))⟩; clear kD hB2; clear hb2 hO2 kI Q1)
  | (go_at_call 17; refine kD'.mono ?_; rintro e x3 ⟨⟨nb,he3,hn3⟩,hb3⟩; subst he3; have b3 : Hid (Below w.heap.size w x3):=b2.out.trans (hb3.mono b2.out.size); have kS':=kS.out x3 nb b3.out hn3.nd; have Q3 : Hid (NBox x3 w.heap.size b):=Q2.out.kept hb3 Q2.out.lt; have l3 : w.heap.size < x3.heap.size:=Q3.out.lt; clear a0 a1 a2 a3 a4 a5 a6 a7 a8; obtain ⟨a0,a1,a2,a3,a4,a5,a6,a7,a8⟩:=Q3.out.fields; obtain ⟨d0,d1,d2,d3,d4,d5,d6,d7,d8⟩:=(Q3.out.kept (bal2 x3 (.cells #[.int .i64 nb.kind,.int .u64 nb.num,.bool nb.neg,.string nb.dig,.int .i64 nb.exp,.string nb.txt,.slice nb.ab nb.lb nb.cb,.slice nb.ak nb.lk nb.ck,.slice nb.ai nb.li nb.ci] 26) (.cells #[.int .i64 0,.int .i64 0] 29)) l3).fields; have O3 : Hid (OwnsB x3 w.heap.size (.slice a_2 n2 c2) zs):=O2.out.below hb3; clear hb3 kD' hn3 kS Q2)
  | (go_at_call 42; refine kS'.mono ?_; rintro e x4 ⟨rfl,hb4,hb5⟩; have b4 : Hid (Below w.heap.size w x4):=hb4; have O4 : Hid (OwnsB x4 w.heap.size (.slice a_2 n2 c2) zs):=O3.out.below hb5; clear hb5; clear hb4))
 refine bodyPost_ret (v:=.tuple #[.slice a_2 n2 c2,.int .i64 0]) (by simp [results,Tryz.results24,go_sem, *]) rfl ⟨⟨_,rfl,O4.out⟩,b4.out⟩
theorem encode_yes {L D : Nat} {t : Tr} {b : Nb} {w : World} (hN : Nd D w b t) (h : encA t) (hC : Cv L w) (hL : L ≤ w.heap.size) : Calls Tryz.prog 24 #[.agg b.arr] w fun e w' => (∃ v,e = .returned (.tuple #[v,.int .i64 0])∧OwnsB w' w.heap.size v (encF 24 t))∧Below w.heap.size w w':=encode_y hN h.1 h.2.1 h.2.2 rfl hC hL
theorem encode_no {L D : Nat} {t : Tr} {b : Nb} {w : World} (hN : Nd D w b t) (h : ¬ encA t) (hC : Cv L w) (hL : L ≤ w.heap.size) : Calls Tryz.prog 24 #[.agg b.arr] w fun e w' => (∃ er : Int,(er == 0) = false∧e = .returned (.tuple #[.slice none 0 0,.int .i64 er]))∧Below w.heap.size w w':=by
 by_cases hM : t.May (fun u => alF u = 0)
 ·by_cases hb : (encF 24 t).length ≤ 4096
  ·cases hf : dcdA (encF 24 t) with
   | inl f => exact encode_c hN hM hb hf hC hL
   | inr u =>
    by_cases hu : u = t
    ·exact absurd ⟨hM,hb,by rw [hf,hu]⟩ h
    ·exact encode_d hN hM hb hf hu hC hL
  ·exact encode_b hN hM hb hC hL
 ·exact encode_a hN hM hC hL
end Go.Proofs.YtnjbppfanmmifaaGreatDoor
namespace Go.Proofs.YtnjbppfanmmifaaGreatDoor
open Go.RowKit
set_option linter.unusedVariables false
theorem strZ_inj {xs ys : List Int} (hx : ∀ c ∈ xs,0 ≤ c∧c < 256) (hy : ∀ c ∈ ys,0 ≤ c∧c < 256) : ((strOfNums xs).toList == (strOfNums ys).toList) = decide (xs = ys):=by
 rw [Bool.eq_iff_iff,beq_iff_eq,decide_eq_true_iff]
 refine ⟨fun h => ?_,fun h => by rw [h]⟩
 rw [ByteArray.toList_eq,ByteArray.toList_eq] at h
 have e : strOfNums xs = strOfNums ys:=by
  have h2:=Array.ext' h
  cases h3 : strOfNums xs; cases h4 : strOfNums ys
  rw [h3,h4] at h2
  simpa using h2
 rw [← bs_str hx,← bs_str hy,e]
set_option maxHeartbeats 400000 in
theorem sameZ_any (a b : Option Addr) (na nb ca cb : Nat) (za zb : List Int) (w : World) (hl : za.length = na) (hm : zb.length = nb) (ha : Bytes w a za) (hb : Bytes w b zb) :
  Calls Tryz.prog 26 #[.slice a na ca,.slice b nb cb] w fun e w' => e = .returned (.bool (decide (za = zb)))∧Below w.heap.size w w':=by
 have k1:=conv_str ha na ca hl
 have k2:=conv_str hb nb cb hm
 have he : Hid _:=strZ_inj ha.1 hb.1
 go_enter Tryz.func26,Tryz.ntmps26
 go_wp2
 go_ret
 exact ⟨by rw [← he.out]; rfl,Below.refl _ _⟩
def saB : List Int:=[25,1,244]
def sbB : List Int:=[196,130,32,24,25]
theorem sa_is : encF 24 (intT false ⟨#[53,48,48]⟩) = saB:=by kernel_rfl
theorem sb_is : encF 24 (decT false ⟨#[50,53]⟩ (-1)) = sbB:=by kernel_rfl
theorem sa_dec : dcdA saB = .inr (intT false ⟨#[53,48,48]⟩):=by kernel_rfl
theorem sb_dec : dcdA sbB = .inr (decT false ⟨#[50,53]⟩ (-1)):=by kernel_rfl
theorem dcd_may {zs : List Int} {t : Tr} (hz : ∀ c ∈ zs,0 ≤ c∧c < 256) (e : dcdA zs = .inr t) : t.May (fun u => alF u = 0) :=
 (Tr.chk_may alF_shaped).1 (chk_of (itm_may hz (dcd_ok e)).1 (itm_may hz (dcd_ok e)).2.1 (itm_may hz (dcd_ok e)).2.2)
theorem sa_ok : encA (intT false ⟨#[53,48,48]⟩):=⟨dcd_may (by decide) sa_dec,by rw [sa_is]; decide,by rw [sa_is]; exact sa_dec⟩
theorem sb_ok : encA (decT false ⟨#[50,53]⟩ (-1)):=⟨dcd_may (by decide) sb_dec,by rw [sb_is]; decide,by rw [sb_is]; exact sb_dec⟩
theorem nd_live (w : World) {t : Tr} (hb : t.bytes = []) (hl : Lf t) (hk : (Lit.int .i64 t.kind).wf = true) (hn : (Lit.int .u64 t.num).wf = true) (he : (Lit.int .i64 t.exp).wf = true) (hd : t.dig.size ≤ 140737488351232) (hx : t.txt.size ≤ 140737488351232) : Nd 1 w (nbL t) t:=(ndw_leaf (fun _ => True) 0 w hb hl hk hn he hd hx).nd
set_option maxHeartbeats 4000000 in
set_option maxRecDepth 100000 in
theorem salive_any (w : World) {L : Nat} (hC : Cv L w) (hL : L ≤ w.heap.size) : Calls Tryz.prog 27 #[] w fun e w' => e = .returned (.bool true)∧Below w.heap.size w w':=by
 have kA : Hid (Calls Tryz.prog 24 #[.agg #[.int .i64 2,.int .u64 0,.bool false,.string ⟨#[53,48,48]⟩,.int .i64 0,.string ⟨#[]⟩,.slice none 0 0,.slice none 0 0,.slice none 0 0]] w fun e w' => (∃ v,e = .returned (.tuple #[v,.int .i64 0])∧OwnsB w' w.heap.size v saB)∧Below w.heap.size w w'):=by
  have:=encode_yes (nd_live w (t:=intT false ⟨#[53,48,48]⟩) rfl ⟨rfl,rfl⟩ (by decide) (by decide) (by decide) (by decide) (by decide)) sa_ok hC hL
  rw [sa_is] at this
  exact this
 have kB : Hid (∀ x,Below w.heap.size w x→Calls Tryz.prog 24 #[.agg #[.int .i64 3,.int .u64 0,.bool false,.string ⟨#[50,53]⟩,.int .i64 (-1),.string ⟨#[]⟩,.slice none 0 0,.slice none 0 0,.slice none 0 0]] x fun e w' => (∃ v,e = .returned (.tuple #[v,.int .i64 0])∧OwnsB w' x.heap.size v sbB)∧Below x.heap.size x w'):=fun x hx => by
  have:=encode_yes (nd_live x (t:=decT false ⟨#[50,53]⟩ (-1)) rfl ⟨rfl,rfl⟩ (by decide) (by decide) (by decide) (by decide) (by decide)) sb_ok (hC.on (hx.mono hL)) (Nat.le_trans hL hx.size)
  rw [sb_is] at this
  exact this
 have kS : Hid (∀ x a n c,saB.length = n→Bytes x a saB→Calls Tryz.prog 26 #[.slice a n c,.slice (some ⟨x.heap.size,0,none⟩) 3 3] (x.alloc (.cells #[.int .u8 25,.int .u8 1,.int .u8 244] 5)) fun e w' => e = .returned (.bool true)∧Below x.heap.size x w'):=fun x a n c hl hB => by
  have A:=alloc_below x (.cells #[.int .u8 25,.int .u8 1,.int .u8 244] 5)
  exact (sameZ_any a (some ⟨x.heap.size,0,none⟩) n 3 c 3 saB saB _ hl rfl (hB.kept A) (bytes_lit x saB (by decide) (by decide))).mono fun e w' h => ⟨by rw [h.1,decide_eq_true rfl],A.trans (h.2.mono A.size)⟩
 have kT : Hid (∀ x a n c,sbB.length = n→Bytes x a sbB→Calls Tryz.prog 26 #[.slice a n c,.slice (some ⟨x.heap.size,0,none⟩) 5 5] (x.alloc (.cells #[.int .u8 196,.int .u8 130,.int .u8 32,.int .u8 24,.int .u8 25] 5)) fun e w' => e = .returned (.bool true)∧Below x.heap.size x w'):=fun x a n c hl hB => by
  have A:=alloc_below x (.cells #[.int .u8 196,.int .u8 130,.int .u8 32,.int .u8 24,.int .u8 25] 5)
  exact (sameZ_any a (some ⟨x.heap.size,0,none⟩) n 5 c 5 sbB sbB _ hl rfl (hB.kept A) (bytes_lit x sbB (by decide) (by decide))).mono fun e w' h => ⟨by rw [h.1,decide_eq_true rfl],A.trans (h.2.mono A.size)⟩
 clear hC hL
 go_enter Tryz.func27,Tryz.ntmps27
 go_wp2_with (first
  | (go_at_call 24; refine kA.out.mono ?_; rintro e x1 ⟨⟨v1,rfl,hO1⟩,hb1⟩; obtain ⟨a1,n1,c1,rfl,l1,-,-,-,y1⟩:=hO1.form; have b1 : Hid (Below w.heap.size w x1):=hb1; clear kA hb1 hO1)
  | (go_at_call 24; refine (kB.out _ b1.out).mono ?_; rintro e x2 ⟨⟨v2,rfl,hO2⟩,hb2⟩; obtain ⟨a2,n2,c2,rfl,l2,-,-,-,y2⟩:=hO2.form; have z1 : Hid (Bytes x2 a1 saB):=y1.out.kept hb2; have b2 : Hid (Below w.heap.size w x2):=b1.out.trans (hb2.mono b1.out.size); clear hb2 hO2 kB)
  | (go_at_call 26; refine (kS.out x2 a1 n1 c1 l1.out z1.out).mono ?_; rintro e x3 ⟨rfl,hb3⟩; have z2 : Hid (Bytes x3 a2 sbB):=y2.out.kept hb3; have b3 : Hid (Below w.heap.size w x3):=b2.out.trans (hb3.mono b2.out.size); clear hb3 kS)
  | (go_at_call 26; refine (kT.out x3 a2 n2 c2 l2.out z2.out).mono ?_; rintro e x4 ⟨rfl,hb4⟩; have b4 : Hid (Below w.heap.size w x4):=b3.out.trans (hb4.mono b3.out.size); clear hb4 kT))
 go_ret
 exact ⟨rfl,b4.out⟩
end Go.Proofs.YtnjbppfanmmifaaGreatDoor
namespace Go.Proofs.YtnjbppfanmmifaaGreatDoor
open Go.RowKit
set_option linter.unusedVariables false
theorem encode_any {L D : Nat} {t : Tr} {b : Nb} {w : World} (hN : Nd D w b t) (hC : Cv L w) (hL : L ≤ w.heap.size) : Calls Tryz.prog 24 #[.agg b.arr] w fun e w' => (∃ (v : Value) (er : Int),e = .returned (.tuple #[v,.int .i64 er]))∧Below w.heap.size w w':=by
 by_cases h : encA t
 ·exact (encode_yes hN h hC hL).mono fun e w' ⟨⟨v,h1,_⟩,h2⟩ => ⟨⟨v,0,h1⟩,h2⟩
 ·exact (encode_no hN h hC hL).mono fun e w' ⟨⟨er,_,h1⟩,h2⟩ => ⟨⟨_,er,h1⟩,h2⟩
theorem enc_inj {t u : Tr} (ht : encA t) (hu : encA u) : encF 24 t = encF 24 u↔t = u :=
 ⟨fun h => by have h1:=ht.2.2; rw [h,hu.2.2] at h1; exact (Sum.inr.inj h1).symm,fun h => by rw [h]⟩
theorem enc_pre {t u : Tr} (ht : encA t) (hu : encA u) (hl : (encF 24 t).length ≤ (encF 24 u).length) : encF 24 t = (encF 24 u).take (encF 24 t).length↔t = u:=by
 refine ⟨fun h => ?_,fun h => by rw [h,List.take_length]⟩
 rcases Nat.lt_or_ge (encF 24 t).length (encF 24 u).length with hlt | hge
 ·obtain ⟨f,hf⟩:=dcd_heads (dcd_ok hu.2.2) hlt
  rw [← h,ht.2.2] at hf
  cases hf
 ·rw [List.take_of_length_le hge] at h
  exact (enc_inj ht hu).1 h
theorem two_boxes (w : World) (a b : Nb) : Below w.heap.size w ((w.alloc (.cells a.arr 26)).alloc (.cells b.arr 26))∧NBox ((w.alloc (.cells a.arr 26)).alloc (.cells b.arr 26)) w.heap.size a∧NBox ((w.alloc (.cells a.arr 26)).alloc (.cells b.arr 26)) (w.heap.size + 1) b:=by
 have s1 : (w.alloc (.cells a.arr 26)).heap.size = w.heap.size + 1:=by simp
 have A1:=alloc_below (w.alloc (.cells a.arr 26)) (.cells b.arr 26)
 refine ⟨bal2 w _ _,(nbox_new w a).kept A1 (by omega),?_⟩
 have:=nbox_new (w.alloc (.cells a.arr 26)) b
 rw [s1] at this
 exact this
end Go.Proofs.YtnjbppfanmmifaaGreatDoor
namespace Go.Proofs.YtnjbppfanmmifaaGreatDoor
open Go.RowKit
set_option linter.unusedVariables false
set_option maxHeartbeats 8000000 in
set_option maxRecDepth 100000 in
theorem wspre_i {L D E : Nat} {t u : Tr} {a b : Nb} {w : World} (hN : Nd D w a t) (hM : Nd E w b u) (ht : ¬ encA t) (hC : Cv L w) (hL : L ≤ w.heap.size) : Calls Tryz.prog 16 #[.agg a.arr,.agg b.arr] w fun e w' => e = .returned (.bool true)∧Below w.heap.size w w':=by
 obtain ⟨B0',Qa',Qb'⟩:=two_boxes w a b
 have B0 : Hid (Below w.heap.size w ((w.alloc (.cells a.arr 26)).alloc (.cells b.arr 26))):=B0'
 have Qa : Hid (NBox ((w.alloc (.cells a.arr 26)).alloc (.cells b.arr 26)) w.heap.size a):=Qa'
 have Qb : Hid (NBox ((w.alloc (.cells a.arr 26)).alloc (.cells b.arr 26)) (w.heap.size + 1) b):=Qb'
 obtain ⟨a0,a1,a2,a3,a4,a5,a6,a7,a8⟩:=Qa'.fields
 obtain ⟨d0,d1,d2,d3,d4,d5,d6,d7,d8⟩:=Qb'.fields
 have hCx : ∀ x,Below w.heap.size w x→Cv L x∧L ≤ x.heap.size:=fun x hx => ⟨hC.on (hx.mono hL),Nat.le_trans hL hx.size⟩
 have kL : Hid (∀ x,Below w.heap.size w x→Calls Tryz.prog 27 #[] x fun e w' => e = .returned (.bool true)∧Below x.heap.size x w'):=fun x hx => salive_any x (hCx x hx).1 (hCx x hx).2
 have kA : Hid (∀ x,Below w.heap.size w x→Calls Tryz.prog 24 #[.agg a.arr] x fun e w' => (∃ er : Int,(er == 0) = false∧e = .returned (.tuple #[.slice none 0 0,.int .i64 er]))∧Below x.heap.size x w'):=fun x hx => encode_no (hN.kept hx) ht (hCx x hx).1 (hCx x hx).2
 have kB : Hid (∀ x,Below w.heap.size w x→Calls Tryz.prog 24 #[.agg b.arr] x fun e w' => (∃ (v : Value) (er : Int),e = .returned (.tuple #[v,.int .i64 er]))∧Below x.heap.size x w'):=fun x hx => encode_any (hM.kept hx) (hCx x hx).1 (hCx x hx).2
 clear hN hM hC hL hCx B0' Qa' Qb' ht
 go_enter Tryz.func16,Tryz.ntmps16
 go_wp2_with (first
  | (go_at_call 24; refine (kA.out _ (by exact B0.out)).mono ?_; rintro e x1 ⟨⟨er,ge,rfl⟩,hb1⟩; have ge' : (er != 0) = true:=(by simpa using ge); have b1 : Hid (Below w.heap.size w x1):=B0.out.trans (hb1.mono B0.out.size); have Q1a : Hid (NBox x1 w.heap.size a):=Qa.out.kept hb1 Qa.out.lt; have Q1b : Hid (NBox x1 (w.heap.size + 1) b):=Qb.out.kept hb1 Qb.out.lt; clear a0 a1 a2 a3 a4 a5 a6 a7 a8 d0 d1 d2 d3 d4 d5 d6 d7 d8; obtain ⟨a0,a1,a2,a3,a4,a5,a6,a7,a8⟩:=Q1a.out.fields; obtain ⟨d0,d1,d2,d3,d4,d5,d6,d7,d8⟩:=Q1b.out.fields; clear hb1 kA Qa Qb)
  | (go_at_call 24; refine (kB.out _ b1.out).mono ?_; rintro e x2 ⟨⟨v2,er2,rfl⟩,hb2⟩; have b2 : Hid (Below w.heap.size w x2):=b1.out.trans (hb2.mono b1.out.size); clear hb2 kB)
  | (go_at_call 27; refine (kL.out _ b2.out).mono ?_; rintro e x3 ⟨rfl,hb3⟩; have b3 : Hid (Below w.heap.size w x3):=b2.out.trans (hb3.mono b2.out.size); clear hb3))
 go_ret
 exact ⟨rfl,b3.out⟩
set_option maxHeartbeats 8000000 in
set_option maxRecDepth 100000 in
theorem wspre_j {L D E : Nat} {t u : Tr} {a b : Nb} {w : World} (hN : Nd D w a t) (hM : Nd E w b u) (ht : encA t) (hu : ¬ encA u) (hC : Cv L w) (hL : L ≤ w.heap.size) : Calls Tryz.prog 16 #[.agg a.arr,.agg b.arr] w fun e w' => e = .returned (.bool true)∧Below w.heap.size w w':=by
 obtain ⟨B0',Qa',Qb'⟩:=two_boxes w a b
 have B0 : Hid (Below w.heap.size w ((w.alloc (.cells a.arr 26)).alloc (.cells b.arr 26))):=B0'
 have Qa : Hid (NBox ((w.alloc (.cells a.arr 26)).alloc (.cells b.arr 26)) w.heap.size a):=Qa'
 have Qb : Hid (NBox ((w.alloc (.cells a.arr 26)).alloc (.cells b.arr 26)) (w.heap.size + 1) b):=Qb'
 obtain ⟨a0,a1,a2,a3,a4,a5,a6,a7,a8⟩:=Qa'.fields
 obtain ⟨d0,d1,d2,d3,d4,d5,d6,d7,d8⟩:=Qb'.fields
 have hCx : ∀ x,Below w.heap.size w x→Cv L x∧L ≤ x.heap.size:=fun x hx => ⟨hC.on (hx.mono hL),Nat.le_trans hL hx.size⟩
 have kL : Hid (∀ x,Below w.heap.size w x→Calls Tryz.prog 27 #[] x fun e w' => e = .returned (.bool true)∧Below x.heap.size x w'):=fun x hx => salive_any x (hCx x hx).1 (hCx x hx).2
 have kA : Hid (∀ x,Below w.heap.size w x→Calls Tryz.prog 24 #[.agg a.arr] x fun e w' => (∃ v,e = .returned (.tuple #[v,.int .i64 0])∧OwnsB w' x.heap.size v (encF 24 t))∧Below x.heap.size x w'):=fun x hx => encode_yes (hN.kept hx) ht (hCx x hx).1 (hCx x hx).2
 have kB : Hid (∀ x,Below w.heap.size w x→Calls Tryz.prog 24 #[.agg b.arr] x fun e w' => (∃ er : Int,(er == 0) = false∧e = .returned (.tuple #[.slice none 0 0,.int .i64 er]))∧Below x.heap.size x w'):=fun x hx => encode_no (hM.kept hx) hu (hCx x hx).1 (hCx x hx).2
 clear hN hM hC hL hCx B0' Qa' Qb' ht hu
 go_enter Tryz.func16,Tryz.ntmps16
 go_wp2_with (first
  | (go_at_call 24; refine (kA.out _ (by exact B0.out)).mono ?_; rintro e x1 ⟨⟨v1,rfl,hO1⟩,hb1⟩; obtain ⟨a_1,n1,c1,rfl,-,-,-,-,-⟩:=hO1.form; have b1 : Hid (Below w.heap.size w x1):=B0.out.trans (hb1.mono B0.out.size); have Q1a : Hid (NBox x1 w.heap.size a):=Qa.out.kept hb1 Qa.out.lt; have Q1b : Hid (NBox x1 (w.heap.size + 1) b):=Qb.out.kept hb1 Qb.out.lt; clear a0 a1 a2 a3 a4 a5 a6 a7 a8 d0 d1 d2 d3 d4 d5 d6 d7 d8; obtain ⟨a0,a1,a2,a3,a4,a5,a6,a7,a8⟩:=Q1a.out.fields; obtain ⟨d0,d1,d2,d3,d4,d5,d6,d7,d8⟩:=Q1b.out.fields; clear hb1 kA Qa Qb hO1)
  | (go_at_call 24; refine (kB.out _ b1.out).mono ?_; rintro e x2 ⟨⟨er,ge,rfl⟩,hb2⟩; have ge' : (er != 0) = true:=(by simpa using ge); have b2 : Hid (Below w.heap.size w x2):=b1.out.trans (hb2.mono b1.out.size); clear hb2 kB)
  | (go_at_call 27; refine (kL.out _ b2.out).mono ?_; rintro e x3 ⟨rfl,hb3⟩; have b3 : Hid (Below w.heap.size w x3):=b2.out.trans (hb3.mono b2.out.size); clear hb3))
 go_ret
 exact ⟨rfl,b3.out⟩
set_option maxHeartbeats 8000000 in
set_option maxRecDepth 100000 in
theorem wspre_l {L D E : Nat} {t u : Tr} {a b : Nb} {w : World} (hN : Nd D w a t) (hM : Nd E w b u) (ht : encA t) (hu : encA u) (hl : (encF 24 u).length < (encF 24 t).length) (hC : Cv L w) (hL : L ≤ w.heap.size) : Calls Tryz.prog 16 #[.agg a.arr,.agg b.arr] w fun e w' => e = .returned (.bool true)∧Below w.heap.size w w':=by
 obtain ⟨B0',Qa',Qb'⟩:=two_boxes w a b
 have B0 : Hid (Below w.heap.size w ((w.alloc (.cells a.arr 26)).alloc (.cells b.arr 26))):=B0'
 have Qa : Hid (NBox ((w.alloc (.cells a.arr 26)).alloc (.cells b.arr 26)) w.heap.size a):=Qa'
 have Qb : Hid (NBox ((w.alloc (.cells a.arr 26)).alloc (.cells b.arr 26)) (w.heap.size + 1) b):=Qb'
 obtain ⟨a0,a1,a2,a3,a4,a5,a6,a7,a8⟩:=Qa'.fields
 obtain ⟨d0,d1,d2,d3,d4,d5,d6,d7,d8⟩:=Qb'.fields
 have hCx : ∀ x,Below w.heap.size w x→Cv L x∧L ≤ x.heap.size:=fun x hx => ⟨hC.on (hx.mono hL),Nat.le_trans hL hx.size⟩
 have kL : Hid (∀ x,Below w.heap.size w x→Calls Tryz.prog 27 #[] x fun e w' => e = .returned (.bool true)∧Below x.heap.size x w'):=fun x hx => salive_any x (hCx x hx).1 (hCx x hx).2
 have kA : Hid (∀ x,Below w.heap.size w x→Calls Tryz.prog 24 #[.agg a.arr] x fun e w' => (∃ v,e = .returned (.tuple #[v,.int .i64 0])∧OwnsB w' x.heap.size v (encF 24 t))∧Below x.heap.size x w'):=fun x hx => encode_yes (hN.kept hx) ht (hCx x hx).1 (hCx x hx).2
 have kB : Hid (∀ x,Below w.heap.size w x→Calls Tryz.prog 24 #[.agg b.arr] x fun e w' => (∃ v,e = .returned (.tuple #[v,.int .i64 0])∧OwnsB w' x.heap.size v (encF 24 u))∧Below x.heap.size x w'):=fun x hx => encode_yes (hM.kept hx) hu (hCx x hx).1 (hCx x hx).2
 have hl' : Hid ((encF 24 u).length < (encF 24 t).length):=hl
 generalize encF 24 t = za at *
 generalize encF 24 u = zb at *
 clear hN hM hC hL hCx B0' Qa' Qb' ht hu hl
 go_enter Tryz.func16,Tryz.ntmps16
 go_wp2_with (first
  | (go_at_call 24; refine (kA.out _ (by exact B0.out)).mono ?_; rintro e x1 ⟨⟨v1,rfl,hO1⟩,hb1⟩; obtain ⟨a_1,n1,c1,rfl,l1,-,-,-,y1⟩:=hO1.form; have b1 : Hid (Below w.heap.size w x1):=B0.out.trans (hb1.mono B0.out.size); have Q1a : Hid (NBox x1 w.heap.size a):=Qa.out.kept hb1 Qa.out.lt; have Q1b : Hid (NBox x1 (w.heap.size + 1) b):=Qb.out.kept hb1 Qb.out.lt; clear a0 a1 a2 a3 a4 a5 a6 a7 a8 d0 d1 d2 d3 d4 d5 d6 d7 d8; obtain ⟨a0,a1,a2,a3,a4,a5,a6,a7,a8⟩:=Q1a.out.fields; obtain ⟨d0,d1,d2,d3,d4,d5,d6,d7,d8⟩:=Q1b.out.fields; clear hb1 kA Qa Qb hO1)
  | (go_at_call 24; refine (kB.out _ b1.out).mono ?_; rintro e x2 ⟨⟨v2,rfl,hO2⟩,hb2⟩; obtain ⟨a_2,n2,c2,rfl,l2,m2,p2,q2,y2⟩:=hO2.form; have z1 : Hid (Bytes x2 a_1 za):=y1.out.kept hb2; have b2 : Hid (Below w.heap.size w x2):=b1.out.trans (hb2.mono b1.out.size); have Q2a : Hid (NBox x2 w.heap.size a):=Q1a.out.kept hb2 Q1a.out.lt; have Q2b : Hid (NBox x2 (w.heap.size + 1) b):=Q1b.out.kept hb2 Q1b.out.lt; clear a0 a1 a2 a3 a4 a5 a6 a7 a8 d0 d1 d2 d3 d4 d5 d6 d7 d8; obtain ⟨a0,a1,a2,a3,a4,a5,a6,a7,a8⟩:=Q2a.out.fields; obtain ⟨d0,d1,d2,d3,d4,d5,d6,d7,d8⟩:=Q2b.out.fields; have gl : (n2 : Int) < (n1 : Int):=(by have:=l1.out; have:=l2.out; have:=hl'.out; omega); clear hb2 kB hO2)
  | (go_at_call 27; refine (kL.out _ b2.out).mono ?_; rintro e x3 ⟨rfl,hb3⟩; have b3 : Hid (Below w.heap.size w x3):=b2.out.trans (hb3.mono b2.out.size); clear hb3))
 go_ret
 exact ⟨rfl,b3.out⟩
set_option maxHeartbeats 8000000 in
set_option maxRecDepth 100000 in
theorem wspre_k {L D E : Nat} {t u : Tr} {a b : Nb} {w : World} (hN : Nd D w a t) (hM : Nd E w b u) (ht : encA t) (hu : encA u) (hl : (encF 24 t).length ≤ (encF 24 u).length) (hC : Cv L w) (hL : L ≤ w.heap.size) : Calls Tryz.prog 16 #[.agg a.arr,.agg b.arr] w fun e w' => e = .returned (.bool true)∧Below w.heap.size w w':=by
 obtain ⟨B0',Qa',Qb'⟩:=two_boxes w a b
 have B0 : Hid (Below w.heap.size w ((w.alloc (.cells a.arr 26)).alloc (.cells b.arr 26))):=B0'
 have Qa : Hid (NBox ((w.alloc (.cells a.arr 26)).alloc (.cells b.arr 26)) w.heap.size a):=Qa'
 have Qb : Hid (NBox ((w.alloc (.cells a.arr 26)).alloc (.cells b.arr 26)) (w.heap.size + 1) b):=Qb'
 obtain ⟨a0,a1,a2,a3,a4,a5,a6,a7,a8⟩:=Qa'.fields
 obtain ⟨d0,d1,d2,d3,d4,d5,d6,d7,d8⟩:=Qb'.fields
 have hCx : ∀ x,Below w.heap.size w x→Cv L x∧L ≤ x.heap.size:=fun x hx => ⟨hC.on (hx.mono hL),Nat.le_trans hL hx.size⟩
 have kL : Hid (∀ x,Below w.heap.size w x→Calls Tryz.prog 27 #[] x fun e w' => e = .returned (.bool true)∧Below x.heap.size x w'):=fun x hx => salive_any x (hCx x hx).1 (hCx x hx).2
 have kA : Hid (∀ x,Below w.heap.size w x→Calls Tryz.prog 24 #[.agg a.arr] x fun e w' => (∃ v,e = .returned (.tuple #[v,.int .i64 0])∧OwnsB w' x.heap.size v (encF 24 t))∧Below x.heap.size x w'):=fun x hx => encode_yes (hN.kept hx) ht (hCx x hx).1 (hCx x hx).2
 have kB : Hid (∀ x,Below w.heap.size w x→Calls Tryz.prog 24 #[.agg b.arr] x fun e w' => (∃ v,e = .returned (.tuple #[v,.int .i64 0])∧OwnsB w' x.heap.size v (encF 24 u))∧Below x.heap.size x w'):=fun x hx => encode_yes (hM.kept hx) hu (hCx x hx).1 (hCx x hx).2
 have hi:=enc_pre ht hu hl
 obtain ⟨B,hB⟩ : ∃ B : Bool,B = true↔t = u:=by
  by_cases h : t = u
  ·exact ⟨true,fun _ => h,fun _ => rfl⟩
  ·exact ⟨false,fun q => (by cases q),fun q => absurd q h⟩
 have hv : B = true↔t.size ≤ 1024∧u.size ≤ 1024∧t = u:=hB.trans ⟨fun h => ⟨ht.1.1,hu.1.1,h⟩,fun h => h.2.2⟩
 have hz : decide (encF 24 t = (encF 24 u).take (encF 24 t).length) = B:=by
  cases B with
  | true => exact decide_eq_true (hi.2 (hB.1 rfl))
  | false => exact decide_eq_false fun h => by have:=hB.2 (hi.1 h); cases this
 have kE : Hid (∀ x,Below w.heap.size w x→Calls Tryz.prog 19 #[.agg a.arr,.agg b.arr] x fun e w' => e = .returned (.bool B)∧Below x.heap.size x w'):=fun x hx => esame_any (hN.kept hx) (hM.kept hx) hv
 have hl' : Hid ((encF 24 t).length ≤ (encF 24 u).length):=hl
 generalize encF 24 t = za at *
 generalize encF 24 u = zb at *
 have kS : Hid (∀ x a1 n1 c1 a2 n2 c2,za.length = n1→zb.length = n2→Bytes x a1 za→Bytes x a2 zb→Calls Tryz.prog 26 #[.slice a1 n1 c1,.slice a2 n1 c2] x fun e w' => e = .returned (.bool B)∧Below x.heap.size x w'):=fun x a1 n1 c1 a2 n2 c2 h1 h2 y1 y2 => by
  rw [← hz]
  exact sameZ_any a1 a2 n1 n1 c1 c2 za (zb.take za.length) x h1 (by rw [List.length_take,h1]; have:=hl'.out; omega) y1 (y2.take _)
 clear hN hM hC hL hCx B0' Qa' Qb' ht hu hi hB hv hz hl
 go_enter Tryz.func16,Tryz.ntmps16
 go_upto_region 5 with (first
  | (go_at_call 24; refine (kA.out _ (by exact B0.out)).mono ?_; rintro e x1 ⟨⟨v1,rfl,hO1⟩,hb1⟩; obtain ⟨a_1,n1,c1,rfl,l1,-,-,-,y1⟩:=hO1.form; have b1 : Hid (Below w.heap.size w x1):=B0.out.trans (hb1.mono B0.out.size); have Q1a : Hid (NBox x1 w.heap.size a):=Qa.out.kept hb1 Qa.out.lt; have Q1b : Hid (NBox x1 (w.heap.size + 1) b):=Qb.out.kept hb1 Qb.out.lt; clear a0 a1 a2 a3 a4 a5 a6 a7 a8 d0 d1 d2 d3 d4 d5 d6 d7 d8; obtain ⟨a0,a1,a2,a3,a4,a5,a6,a7,a8⟩:=Q1a.out.fields; obtain ⟨d0,d1,d2,d3,d4,d5,d6,d7,d8⟩:=Q1b.out.fields; clear hb1 kA Qa Qb hO1)
  | (go_at_call 24; refine (kB.out _ b1.out).mono ?_; rintro e x2 ⟨⟨v2,rfl,hO2⟩,hb2⟩; obtain ⟨a_2,n2,c2,rfl,l2,m2,p2,q2,y2⟩:=hO2.form; have z1 : Hid (Bytes x2 a_1 za):=y1.out.kept hb2; have b2 : Hid (Below w.heap.size w x2):=b1.out.trans (hb2.mono b1.out.size); have Q2a : Hid (NBox x2 w.heap.size a):=Q1a.out.kept hb2 Q1a.out.lt; have Q2b : Hid (NBox x2 (w.heap.size + 1) b):=Q1b.out.kept hb2 Q1b.out.lt; clear a0 a1 a2 a3 a4 a5 a6 a7 a8 d0 d1 d2 d3 d4 d5 d6 d7 d8; obtain ⟨a0,a1,a2,a3,a4,a5,a6,a7,a8⟩:=Q2a.out.fields; obtain ⟨d0,d1,d2,d3,d4,d5,d6,d7,d8⟩:=Q2b.out.fields; have gl : ¬ (n2 : Int) < (n1 : Int):=(by have:=l1.out; have:=l2.out; have:=hl'.out; omega); have gm : n1 ≤ c2:=(by have:=l1.out; have:=l2.out; have:=hl'.out; omega); clear hb2 kB hO2))
 have SK : Hid (∀ x,Below x2.heap.size x2 x→x.cell? ⟨w.heap.size,0,none⟩ = some (.int .i64 a.kind)∧x.cell? ⟨w.heap.size,1,none⟩ = some (.int .u64 a.num)∧x.cell? ⟨w.heap.size,2,none⟩ = some (.bool a.neg)∧x.cell? ⟨w.heap.size,3,none⟩ = some (.string a.dig)∧x.cell? ⟨w.heap.size,4,none⟩ = some (.int .i64 a.exp)∧x.cell? ⟨w.heap.size,5,none⟩ = some (.string a.txt)∧x.cell? ⟨w.heap.size,6,none⟩ = some (.slice a.ab a.lb a.cb)∧x.cell? ⟨w.heap.size,7,none⟩ = some (.slice a.ak a.lk a.ck)∧x.cell? ⟨w.heap.size,8,none⟩ = some (.slice a.ai a.li a.ci)∧x.cell? ⟨w.heap.size + 1,0,none⟩ = some (.int .i64 b.kind)∧x.cell? ⟨w.heap.size + 1,1,none⟩ = some (.int .u64 b.num)∧x.cell? ⟨w.heap.size + 1,2,none⟩ = some (.bool b.neg)∧x.cell? ⟨w.heap.size + 1,3,none⟩ = some (.string b.dig)∧x.cell? ⟨w.heap.size + 1,4,none⟩ = some (.int .i64 b.exp)∧x.cell? ⟨w.heap.size + 1,5,none⟩ = some (.string b.txt)∧x.cell? ⟨w.heap.size + 1,6,none⟩ = some (.slice b.ab b.lb b.cb)∧x.cell? ⟨w.heap.size + 1,7,none⟩ = some (.slice b.ak b.lk b.ck)∧x.cell? ⟨w.heap.size + 1,8,none⟩ = some (.slice b.ai b.li b.ci)):=fun x hx => by
  obtain ⟨a0,a1,a2,a3,a4,a5,a6,a7,a8⟩:=(Q2a.out.kept hx Q2a.out.lt).fields
  obtain ⟨d0,d1,d2,d3,d4,d5,d6,d7,d8⟩:=(Q2b.out.kept hx Q2b.out.lt).fields
  exact ⟨a0,a1,a2,a3,a4,a5,a6,a7,a8,d0,d1,d2,d3,d4,d5,d6,d7,d8⟩
 have bd : Hid (Below x2.heap.size x2 x2.drew):=(Below.refl _ _).drew
 have up : Hid (∀ x,Below x2.heap.size x2 x→Below w.heap.size w x):=fun x hx => b2.out.trans (hx.mono b2.out.size)
 have kS' : Hid (∀ x,Below x2.heap.size x2 x→_):=fun x hx => kS.out x a_1 n1 c1 a_2 n2 c2 l1.out l2.out (z1.out.kept hx) (y2.out.kept hx)
 clear kS
 cases B
 all_goals
  go_region_held3 (fun x => x.cell? ⟨w.heap.size,0,none⟩ = some (.int .i64 a.kind)∧x.cell? ⟨w.heap.size,1,none⟩ = some (.int .u64 a.num)∧x.cell? ⟨w.heap.size,2,none⟩ = some (.bool a.neg)∧x.cell? ⟨w.heap.size,3,none⟩ = some (.string a.dig)∧x.cell? ⟨w.heap.size,4,none⟩ = some (.int .i64 a.exp)∧x.cell? ⟨w.heap.size,5,none⟩ = some (.string a.txt)∧x.cell? ⟨w.heap.size,6,none⟩ = some (.slice a.ab a.lb a.cb)∧x.cell? ⟨w.heap.size,7,none⟩ = some (.slice a.ak a.lk a.ck)∧x.cell? ⟨w.heap.size,8,none⟩ = some (.slice a.ai a.li a.ci)∧x.cell? ⟨w.heap.size + 1,0,none⟩ = some (.int .i64 b.kind)∧x.cell? ⟨w.heap.size + 1,1,none⟩ = some (.int .u64 b.num)∧x.cell? ⟨w.heap.size + 1,2,none⟩ = some (.bool b.neg)∧x.cell? ⟨w.heap.size + 1,3,none⟩ = some (.string b.dig)∧x.cell? ⟨w.heap.size + 1,4,none⟩ = some (.int .i64 b.exp)∧x.cell? ⟨w.heap.size + 1,5,none⟩ = some (.string b.txt)∧x.cell? ⟨w.heap.size + 1,6,none⟩ = some (.slice b.ab b.lb b.cb)∧x.cell? ⟨w.heap.size + 1,7,none⟩ = some (.slice b.ak b.lk b.ck)∧x.cell? ⟨w.heap.size + 1,8,none⟩ = some (.slice b.ai b.li b.ci)) (((with_reducible refine SK.out _ ?_); (all_goals first | with_reducible exact bd.out | with_reducible exact Below.refl _ _ | with_reducible exact r3.out | with_reducible exact r4.out | with_reducible exact r5.out | fail))) (first
   | (go_at_call 26; refine (kS'.out _ (by first | with_reducible exact bd.out | with_reducible exact Below.refl _ _)).mono ?_; rintro e x3 ⟨rfl,hb3⟩; have r3 : Hid (Below x2.heap.size x2 x3):=(by first | with_reducible exact hb3 | exact bd.out.trans hb3); clear hb3 kS')
   | (go_at_call 19; refine (kE.out _ (up.out _ r3.out)).mono ?_; rintro e x4 ⟨rfl,hb4⟩; have r4 : Hid (Below x2.heap.size x2 x4):=r3.out.trans (hb4.mono r3.out.size); clear hb4 kE)
   | (go_at_call 27; refine (kL.out _ (up.out _ r4.out)).mono ?_; rintro e x5 ⟨rfl,hb5⟩; have r5 : Hid (Below x2.heap.size x2 x5):=r4.out.trans (hb5.mono r4.out.size); clear hb5 kL))
  all_goals
   go_wp2_with fail
   go_ret
   exact ⟨rfl,up.out _ r5.out⟩
theorem wspre {L D E : Nat} {t u : Tr} {a b : Nb} {w : World} (hN : Nd D w a t) (hM : Nd E w b u) (hC : Cv L w) (hL : L ≤ w.heap.size) : Calls Tryz.prog 16 #[.agg a.arr,.agg b.arr] w fun e w' => e = .returned (.bool true)∧Below w.heap.size w w':=by
 by_cases ht : encA t
 ·by_cases hu : encA u
  ·rcases Nat.lt_or_ge (encF 24 u).length (encF 24 t).length with hl | hl
   ·exact wspre_l hN hM ht hu hl hC hL
   ·exact wspre_k hN hM ht hu hl hC hL
  ·exact wspre_j hN hM ht hu hC hL
 ·exact wspre_i hN hM ht hC hL
end Go.Proofs.YtnjbppfanmmifaaGreatDoor
