/- Part. -/
import Derived.Test.YtnkhmgmganejmaaGreatDoorT23
import Derived.Test.YtnkhmgmganejmaaGreatDoorT25
set_option maxRecDepth 100000
set_option maxHeartbeats 16000000
namespace Go.Proofs.YtnkhmgmganejmaaGreatDoor
open Go Go.RowKit
attribute [local go_sem] Oper.semAt_some Grows
theorem refBelow_top (a : Nat)  :
  Ret Tryz.prog 79 #[.agg #[.int .u64 (lim a 0), .int .u64 (lim a 1), .int .u64 (lim a 2), .int .u64 (lim a 3)]] (.bool (decide (9223372036854775808 ≤ lim a 3))) := by
 intro w
 go_enter Tryz.func79, Tryz.ntmps79
 have LX := Has.new w 24 (w4 (lim a))
 obtain ⟨k1, k2, k3, k4⟩ := c4 LX
 have Q := (Below.refl w.heap.size w)
 have Q := Q.alloc Q.size (.cells (w4 (lim a)) 24)
 go_wp2
 clear k1 k2 k3 k4
 obtain ⟨W1, hW1⟩ : ∃ W1, (w.alloc (.cells (w4 (lim a)) 24)) = W1 := ⟨_, rfl⟩
 rw [hW1] at LX Q ⊢
 clear hW1
 go_ret
 exact ⟨rfl, Q⟩
theorem refBelow_ret (a : Nat) (ha : W256 a) : Ret Tryz.prog 79 #[wv a] (.bool (negN a)) := by
 rw [← top_of a ha]
 exact refBelow_top a
theorem refMinus_core (a s : Nat) (hs : Ret Tryz.prog 39 #[.agg #[.int .u64 0, .int .u64 0, .int .u64 0, .int .u64 0], .agg #[.int .u64 (lim a 0), .int .u64 (lim a 1), .int .u64 (lim a 2), .int .u64 (lim a 3)]] (.agg #[.int .u64 (lim s 0), .int .u64 (lim s 1), .int .u64 (lim s 2), .int .u64 (lim s 3)])) :
  Ret Tryz.prog 80 #[.agg #[.int .u64 (lim a 0), .int .u64 (lim a 1), .int .u64 (lim a 2), .int .u64 (lim a 3)]] (.agg #[.int .u64 (lim s 0), .int .u64 (lim s 1), .int .u64 (lim s 2), .int .u64 (lim s 3)]) := by
 intro w
 have Hhs := hid hs
 clear hs
 go_enter Tryz.func80, Tryz.ntmps80
 obtain ⟨⟨⟨k5, k6, k7, k8⟩, ⟨k9, k10, k11, k12⟩⟩, W1, hW1, LX, LR, Q⟩ := pwz w 24 (lim a)
 go_wp2_with fail
 clear k5 k6 k7 k8 k9 k10 k11 k12
 rw [hW1.out]
 clear hW1
 refine (Hhs.out _).mono ?_
 rintro e v13 ⟨rfl, q⟩
 have LX := LX.later q
 have LR := LR.later q
 have Q := Q.trans (q.mono Q.size)
 clear q
 obtain ⟨r0, r1, r2, r3⟩ := c4 LR
 obtain ⟨z0, z1, z2, z3⟩ := f4 LR
 obtain ⟨k14, k15, k16, k17⟩ := c4 LX
 have HR := hid ((s4 LR (lim s)))
 have HQ := hid ((q4 (w.heap.size + 1) Q (by omega) (lim s)))
 clear Q LX LR
 go_wp2
 refine bodyPost_ret (results_word (m := lim s) rfl rfl HR.out) rfl ⟨rfl, HQ.out⟩
theorem refMinus_ret (a : Nat) (ha : W256 a) : Ret Tryz.prog 80 #[wv a] (wv (wsub 0 a)) :=
 refMinus_core a (wsub 0 a) ((refSub_ret 0 a (by unfold W256; omega) ha).of_eq (by rw [show wv 0 = .agg #[.int .u64 0, .int .u64 0, .int .u64 0, .int .u64 0] from wv_of ⟨by decide, by decide, by decide, by decide⟩]; rfl) rfl)
theorem refSize_pos (a s : Nat) (hb : Ret Tryz.prog 79 #[.agg #[.int .u64 (lim a 0), .int .u64 (lim a 1), .int .u64 (lim a 2), .int .u64 (lim a 3)]] (.bool false)) :
  Ret Tryz.prog 78 #[.agg #[.int .u64 (lim a 0), .int .u64 (lim a 1), .int .u64 (lim a 2), .int .u64 (lim a 3)]] (.agg #[.int .u64 (lim a 0), .int .u64 (lim a 1), .int .u64 (lim a 2), .int .u64 (lim a 3)]) := by
 intro w
 have Hhb := hid hb
 clear hb
 go_enter Tryz.func78, Tryz.ntmps78
 obtain ⟨⟨⟨k5, k6, k7, k8⟩, ⟨k9, k10, k11, k12⟩⟩, W1, hW1, LX, LR, Q⟩ := pwz w 24 (lim a)
 go_wp2_with fail
 clear k5 k6 k7 k8 k9 k10 k11 k12
 rw [hW1.out]
 clear hW1
 refine (Hhb.out _).mono ?_
 rintro e v13 ⟨rfl, q⟩
 have LX := LX.later q
 have LR := LR.later q
 have Q := Q.trans (q.mono Q.size)
 clear q
 obtain ⟨r0, r1, r2, r3⟩ := c4 LR
 obtain ⟨z0, z1, z2, z3⟩ := f4 LR
 obtain ⟨k14, k15, k16, k17⟩ := c4 LX
 have HR := hid ((s4 LR (lim a)))
 have HQ := hid ((q4 (w.heap.size + 1) Q (by omega) (lim a)))
 clear Q LX LR
 go_wp2
 refine bodyPost_ret (results_word (m := lim a) rfl rfl HR.out) rfl ⟨rfl, HQ.out⟩
theorem refSize_neg (a s : Nat) (hb : Ret Tryz.prog 79 #[.agg #[.int .u64 (lim a 0), .int .u64 (lim a 1), .int .u64 (lim a 2), .int .u64 (lim a 3)]] (.bool true)) (hm : Ret Tryz.prog 80 #[.agg #[.int .u64 (lim a 0), .int .u64 (lim a 1), .int .u64 (lim a 2), .int .u64 (lim a 3)]] (.agg #[.int .u64 (lim s 0), .int .u64 (lim s 1), .int .u64 (lim s 2), .int .u64 (lim s 3)])) :
  Ret Tryz.prog 78 #[.agg #[.int .u64 (lim a 0), .int .u64 (lim a 1), .int .u64 (lim a 2), .int .u64 (lim a 3)]] (.agg #[.int .u64 (lim s 0), .int .u64 (lim s 1), .int .u64 (lim s 2), .int .u64 (lim s 3)]) := by
 intro w
 have Hhb := hid hb
 have Hhm := hid hm
 clear hb hm
 go_enter Tryz.func78, Tryz.ntmps78
 obtain ⟨⟨⟨k5, k6, k7, k8⟩, ⟨k9, k10, k11, k12⟩⟩, W1, hW1, LX, LR, Q⟩ := pwz w 24 (lim a)
 go_wp2_with fail
 clear k5 k6 k7 k8 k9 k10 k11 k12
 rw [hW1.out]
 clear hW1
 refine (Hhb.out _).mono ?_
 rintro e v13 ⟨rfl, q⟩
 have LX := LX.later q
 have LR := LR.later q
 have Q := Q.trans (q.mono Q.size)
 clear q
 obtain ⟨k14, k15, k16, k17⟩ := c4 LX
 obtain ⟨k18, k19, k20, k21⟩ := c4 LR
 go_wp2_with fail
 clear k14 k15 k16 k17 k18 k19 k20 k21
 refine (Hhm.out _).mono ?_
 rintro e v22 ⟨rfl, q⟩
 have LX := LX.later q
 have LR := LR.later q
 have Q := Q.trans (q.mono Q.size)
 clear q
 obtain ⟨r0, r1, r2, r3⟩ := c4 LR
 obtain ⟨z0, z1, z2, z3⟩ := f4 LR
 obtain ⟨k23, k24, k25, k26⟩ := c4 LX
 have HR := hid ((s4 LR (lim s)))
 have HQ := hid ((q4 (w.heap.size + 1) Q (by omega) (lim s)))
 clear Q LX LR
 go_wp2
 refine bodyPost_ret (results_word (m := lim s) rfl rfl HR.out) rfl ⟨rfl, HQ.out⟩
theorem refSize_ret (a : Nat) (ha : W256 a) : Ret Tryz.prog 78 #[wv a] (wv (szN a)) := by
 have hb := refBelow_ret a ha
 unfold szN sgN
 cases h : negN a with
 | true => rw [h] at hb; exact refSize_neg a (wsub 0 a) hb (refMinus_ret a ha)
 | false => rw [h] at hb; exact refSize_pos a 0 hb
theorem refSdiv_true_true (a b x y q s : Nat) (hx : Ret Tryz.prog 78 #[.agg #[.int .u64 (lim a 0), .int .u64 (lim a 1), .int .u64 (lim a 2), .int .u64 (lim a 3)]] (.agg #[.int .u64 (lim x 0), .int .u64 (lim x 1), .int .u64 (lim x 2), .int .u64 (lim x 3)])) (hy : Ret Tryz.prog 78 #[.agg #[.int .u64 (lim b 0), .int .u64 (lim b 1), .int .u64 (lim b 2), .int .u64 (lim b 3)]] (.agg #[.int .u64 (lim y 0), .int .u64 (lim y 1), .int .u64 (lim y 2), .int .u64 (lim y 3)])) (hd : Ret Tryz.prog 40 #[.agg #[.int .u64 (lim x 0), .int .u64 (lim x 1), .int .u64 (lim x 2), .int .u64 (lim x 3)], .agg #[.int .u64 (lim y 0), .int .u64 (lim y 1), .int .u64 (lim y 2), .int .u64 (lim y 3)]] (.agg #[.int .u64 (lim q 0), .int .u64 (lim q 1), .int .u64 (lim q 2), .int .u64 (lim q 3)])) (ba : Ret Tryz.prog 79 #[.agg #[.int .u64 (lim a 0), .int .u64 (lim a 1), .int .u64 (lim a 2), .int .u64 (lim a 3)]] (.bool true)) (bb : Ret Tryz.prog 79 #[.agg #[.int .u64 (lim b 0), .int .u64 (lim b 1), .int .u64 (lim b 2), .int .u64 (lim b 3)]] (.bool true)) :
  Ret Tryz.prog 41 #[.agg #[.int .u64 (lim a 0), .int .u64 (lim a 1), .int .u64 (lim a 2), .int .u64 (lim a 3)], .agg #[.int .u64 (lim b 0), .int .u64 (lim b 1), .int .u64 (lim b 2), .int .u64 (lim b 3)]] (.agg #[.int .u64 (lim q 0), .int .u64 (lim q 1), .int .u64 (lim q 2), .int .u64 (lim q 3)]) := by
 intro w
 have Hhx := hid hx
 have Hhy := hid hy
 have Hhd := hid hd
 have Hba := hid ba
 have Hbb := hid bb
 clear hx hy hd ba bb
 go_enter Tryz.func41, Tryz.ntmps41
 obtain ⟨⟨⟨k13, k14, k15, k16⟩, ⟨k17, k18, k19, k20⟩, ⟨k21, k22, k23, k24⟩⟩, W1, hW1, LX, LN, LR, Q⟩ := pwwz w 24 (lim a) (lim b)
 go_wp2_with fail
 clear k13 k14 k15 k16 k17 k18 k19 k20 k21 k22 k23 k24
 rw [hW1.out]
 clear hW1
 refine wp_region_ghost [some (.agg #[.int .u64 (lim a 0), .int .u64 (lim a 1), .int .u64 (lim a 2), .int .u64 (lim a 3)]), some (.agg #[.int .u64 (lim x 0), .int .u64 (lim x 1), .int .u64 (lim x 2), .int .u64 (lim x 3)]), some (.agg #[.int .u64 (lim b 0), .int .u64 (lim b 1), .int .u64 (lim b 2), .int .u64 (lim b 3)]), some (.agg #[.int .u64 (lim y 0), .int .u64 (lim y 1), .int .u64 (lim y 2), .int .u64 (lim y 3)]), some (.agg #[.int .u64 (lim q 0), .int .u64 (lim q 1), .int .u64 (lim q 2), .int .u64 (lim q 3)]), none, none] [[], [0], [], [0, 1, 2], [0, 1, 2, 3], [], [0, 1, 2, 3, 4, 5]] (fun f g w' => Below W1.heap.size W1 w' ∧ (f 5 = true → ∃ B, g 5 = .pointer (some ⟨B, 0, none⟩) ∧ W1.heap.size ≤ B ∧ Has w' B 24 (cellsIf (f 6) #[.int .u64 (lim q 0), .int .u64 (lim q 1), .int .u64 (lim q 2), .int .u64 (lim q 3)] #[.int .u64 0, .int .u64 0, .int .u64 0, .int .u64 0])))
  (by kernel_rfl) (by kernel_rfl) (by kernel_rfl) ?_ ?_ ?_ ?_
 ·rintro f g wa wb ⟨h1, h2⟩ hb
  exact ⟨h1.trans (hb.mono h1.size), fun h => let ⟨B, e, hB, hL⟩ := h2 h; ⟨B, e, hB, hL.later hb⟩⟩
 ·intro f f' g g' wa h
  have ha := h 5 rfl
  have hs := h 6 rfl
  simp only [ha.1, ha.2, hs.1]
  exact id
 ·exact ⟨(Below.refl _ _).drew, by simp⟩
 rintro f g y25 ⟨h1, h2⟩ Dn
 have LX := LX.later h1
 have LN := LN.later h1
 have LR := LR.later h1
 obtain ⟨k26, k27, k28, k29⟩ := c4 LX
 obtain ⟨k30, k31, k32, k33⟩ := c4 LN
 obtain ⟨k34, k35, k36, k37⟩ := c4 LR
 refine GW.known _ rfl (fun hd hf => ?_) ?_
 ·go_wp2
  exact ⟨rfl, rfl, Below.refl _ _⟩
 simp only [Act.put, sT, sS, sZ]
 refine GW.known _ rfl (fun hd hf => ?_) ?_
 ·go_wp2_with fail
  refine (Hhx.out _).mono ?_
  rintro e u ⟨rfl, hb⟩
  go_wp2
  exact ⟨rfl, rfl, hb⟩
 simp only [Act.put, sT, sS, sZ]
 refine GW.known _ rfl (fun hd hf => ?_) ?_
 ·go_wp2
  exact ⟨rfl, rfl, Below.refl _ _⟩
 simp only [Act.put, sT, sS, sZ]
 refine GW.known _ rfl (fun hd hf => ?_) ?_
 ·go_wp2_with fail
  refine (Hhy.out _).mono ?_
  rintro e u ⟨rfl, hb⟩
  go_wp2
  exact ⟨rfl, rfl, hb⟩
 simp only [Act.put, sT, sS, sZ]
 refine GW.known _ rfl (fun hd hf => ?_) ?_
 ·go_wp2_with fail
  refine (Hhd.out _).mono ?_
  rintro e u ⟨rfl, hb⟩
  go_wp2
  exact ⟨rfl, rfl, hb⟩
 simp only [Act.put, sT, sS, sZ]
 refine GW.open rfl (fun hd hf => ?_) ?_
 ·have fs : f 6 = false := by
   cases h : f 6 with
   | false => rfl
   | true => have := Dn 6 h 5 (by decide); rw [hf] at this; cases this
  have fu : upd f 5 true 6 = false := (upd_ne f true (show (6 : Nat) ≠ 5 by decide)).trans fs
  go_wp2
  refine ⟨rfl, h1.alloc h1.size _, fun _ => ⟨_, rfl, h1.size, ?_⟩⟩
  show Has _ _ 24 (cellsIf (upd f 5 true 6) #[.int .u64 (lim q 0), .int .u64 (lim q 1), .int .u64 (lim q 2), .int .u64 (lim q 3)] #[.int .u64 0, .int .u64 0, .int .u64 0, .int .u64 0])
  rw [fu, cellsIf_false]
  exact Has.new _ _ _
 simp only [Act.put, sT, sS, sZ]
 refine GW.open rfl (fun hd hf => ?_) ?_
 ·obtain ⟨B, eB, hB, LB⟩ := h2 (hd 5 (by decide))
  rw [hf, cellsIf_false] at LB
  rw [eB]
  obtain ⟨c0, c1, c2, c3⟩ := c4 LB
  obtain ⟨z0, z1, z2, z3⟩ := f4 LB
  go_wp2
  refine ⟨rfl, ((((h1.setCell (p := ⟨B, 0, none⟩) hB (.int .u64 (lim q 0))).setCell (p := ⟨B, 1, none⟩) hB (.int .u64 (lim q 1))).setCell (p := ⟨B, 2, none⟩) hB (.int .u64 (lim q 2))).setCell (p := ⟨B, 3, none⟩) hB (.int .u64 (lim q 3))), fun _ => ⟨B, eB, hB, ?_⟩⟩
  show Has _ B 24 (cellsIf (upd f 6 true 6) #[.int .u64 (lim q 0), .int .u64 (lim q 1), .int .u64 (lim q 2), .int .u64 (lim q 3)] #[.int .u64 0, .int .u64 0, .int .u64 0, .int .u64 0])
  rw [upd_self, cellsIf_true]
  exact (s4 LB (lim q))
 simp only [Act.put, sT, sS, sZ]
 refine GW.nil (fun hall => ?_)
 obtain ⟨b25, eB, hB, LS⟩ := h2 (hall 5 (by omega))
 rw [hall 6 (by omega), cellsIf_true] at LS
 have Q := Q.trans (h1.mono Q.size)
 clear h2 Dn hall k26 k27 k28 k29 k30 k31 k32 k33 k34 k35 k36 k37
 rw [eB]
 clear eB hB h1
 obtain ⟨k38, k39, k40, k41⟩ := c4 LX
 obtain ⟨k42, k43, k44, k45⟩ := c4 LN
 obtain ⟨k46, k47, k48, k49⟩ := c4 LR
 obtain ⟨k50, k51, k52, k53⟩ := c4 LS
 go_wp2_with fail
 clear k38 k39 k40 k41 k42 k43 k44 k45 k46 k47 k48 k49 k50 k51 k52 k53
 obtain ⟨k54, k55, k56, k57⟩ := e4 LX
 obtain ⟨k58, k59, k60, k61⟩ := e4 LN
 obtain ⟨k62, k63, k64, k65⟩ := e4 LR
 obtain ⟨k66, k67, k68, k69⟩ := e4 LS
 refine wp_region_quick (C := Grows y25) (by kernel_rfl) (by kernel_rfl) (by kernel_rfl) (grows_refl y25) ?_
 repeat (go_big_quiet_step (first | (with_reducible exact Ret.at Hba.out _) | (with_reducible exact Ret.at Hbb.out _)))
 refine wpQuiet_nil ?_
 rintro _ ⟨x70, rfl⟩
 clear k54 k55 k56 k57 k58 k59 k60 k61 k62 k63 k64 k65 k66 k67 k68 k69
 have LX := LX.later x70.below
 have LN := LN.later x70.below
 have LR := LR.later x70.below
 have LS := LS.later x70.below
 have Q := Q.trans (x70.below.mono Q.size)
 obtain ⟨r0, r1, r2, r3⟩ := c4 LR
 obtain ⟨z0, z1, z2, z3⟩ := f4 LR
 obtain ⟨k71, k72, k73, k74⟩ := c4 LX
 obtain ⟨k75, k76, k77, k78⟩ := c4 LN
 obtain ⟨k79, k80, k81, k82⟩ := c4 LS
 have HR := hid ((s4 LR (lim q)))
 have HQ := hid ((q4 (w.heap.size + 1 + 1) Q (by omega) (lim q)))
 clear Q LX LN LR LS
 go_wp2
 refine bodyPost_ret (results_word (m := lim q) rfl rfl HR.out) rfl ⟨rfl, HQ.out⟩
theorem refSdiv_true_false (a b x y q s : Nat) (hx : Ret Tryz.prog 78 #[.agg #[.int .u64 (lim a 0), .int .u64 (lim a 1), .int .u64 (lim a 2), .int .u64 (lim a 3)]] (.agg #[.int .u64 (lim x 0), .int .u64 (lim x 1), .int .u64 (lim x 2), .int .u64 (lim x 3)])) (hy : Ret Tryz.prog 78 #[.agg #[.int .u64 (lim b 0), .int .u64 (lim b 1), .int .u64 (lim b 2), .int .u64 (lim b 3)]] (.agg #[.int .u64 (lim y 0), .int .u64 (lim y 1), .int .u64 (lim y 2), .int .u64 (lim y 3)])) (hd : Ret Tryz.prog 40 #[.agg #[.int .u64 (lim x 0), .int .u64 (lim x 1), .int .u64 (lim x 2), .int .u64 (lim x 3)], .agg #[.int .u64 (lim y 0), .int .u64 (lim y 1), .int .u64 (lim y 2), .int .u64 (lim y 3)]] (.agg #[.int .u64 (lim q 0), .int .u64 (lim q 1), .int .u64 (lim q 2), .int .u64 (lim q 3)])) (ba : Ret Tryz.prog 79 #[.agg #[.int .u64 (lim a 0), .int .u64 (lim a 1), .int .u64 (lim a 2), .int .u64 (lim a 3)]] (.bool true)) (bb : Ret Tryz.prog 79 #[.agg #[.int .u64 (lim b 0), .int .u64 (lim b 1), .int .u64 (lim b 2), .int .u64 (lim b 3)]] (.bool false)) (hm : Ret Tryz.prog 80 #[.agg #[.int .u64 (lim q 0), .int .u64 (lim q 1), .int .u64 (lim q 2), .int .u64 (lim q 3)]] (.agg #[.int .u64 (lim s 0), .int .u64 (lim s 1), .int .u64 (lim s 2), .int .u64 (lim s 3)])) :
  Ret Tryz.prog 41 #[.agg #[.int .u64 (lim a 0), .int .u64 (lim a 1), .int .u64 (lim a 2), .int .u64 (lim a 3)], .agg #[.int .u64 (lim b 0), .int .u64 (lim b 1), .int .u64 (lim b 2), .int .u64 (lim b 3)]] (.agg #[.int .u64 (lim s 0), .int .u64 (lim s 1), .int .u64 (lim s 2), .int .u64 (lim s 3)]) := by
 intro w
 have Hhx := hid hx
 have Hhy := hid hy
 have Hhd := hid hd
 have Hba := hid ba
 have Hbb := hid bb
 have Hhm := hid hm
 clear hx hy hd ba bb hm
 go_enter Tryz.func41, Tryz.ntmps41
 obtain ⟨⟨⟨k13, k14, k15, k16⟩, ⟨k17, k18, k19, k20⟩, ⟨k21, k22, k23, k24⟩⟩, W1, hW1, LX, LN, LR, Q⟩ := pwwz w 24 (lim a) (lim b)
 go_wp2_with fail
 clear k13 k14 k15 k16 k17 k18 k19 k20 k21 k22 k23 k24
 rw [hW1.out]
 clear hW1
 refine wp_region_ghost [some (.agg #[.int .u64 (lim a 0), .int .u64 (lim a 1), .int .u64 (lim a 2), .int .u64 (lim a 3)]), some (.agg #[.int .u64 (lim x 0), .int .u64 (lim x 1), .int .u64 (lim x 2), .int .u64 (lim x 3)]), some (.agg #[.int .u64 (lim b 0), .int .u64 (lim b 1), .int .u64 (lim b 2), .int .u64 (lim b 3)]), some (.agg #[.int .u64 (lim y 0), .int .u64 (lim y 1), .int .u64 (lim y 2), .int .u64 (lim y 3)]), some (.agg #[.int .u64 (lim q 0), .int .u64 (lim q 1), .int .u64 (lim q 2), .int .u64 (lim q 3)]), none, none] [[], [0], [], [0, 1, 2], [0, 1, 2, 3], [], [0, 1, 2, 3, 4, 5]] (fun f g w' => Below W1.heap.size W1 w' ∧ (f 5 = true → ∃ B, g 5 = .pointer (some ⟨B, 0, none⟩) ∧ W1.heap.size ≤ B ∧ Has w' B 24 (cellsIf (f 6) #[.int .u64 (lim q 0), .int .u64 (lim q 1), .int .u64 (lim q 2), .int .u64 (lim q 3)] #[.int .u64 0, .int .u64 0, .int .u64 0, .int .u64 0])))
  (by kernel_rfl) (by kernel_rfl) (by kernel_rfl) ?_ ?_ ?_ ?_
 ·rintro f g wa wb ⟨h1, h2⟩ hb
  exact ⟨h1.trans (hb.mono h1.size), fun h => let ⟨B, e, hB, hL⟩ := h2 h; ⟨B, e, hB, hL.later hb⟩⟩
 ·intro f f' g g' wa h
  have ha := h 5 rfl
  have hs := h 6 rfl
  simp only [ha.1, ha.2, hs.1]
  exact id
 ·exact ⟨(Below.refl _ _).drew, by simp⟩
 rintro f g y25 ⟨h1, h2⟩ Dn
 have LX := LX.later h1
 have LN := LN.later h1
 have LR := LR.later h1
 obtain ⟨k26, k27, k28, k29⟩ := c4 LX
 obtain ⟨k30, k31, k32, k33⟩ := c4 LN
 obtain ⟨k34, k35, k36, k37⟩ := c4 LR
 refine GW.known _ rfl (fun hd hf => ?_) ?_
 ·go_wp2
  exact ⟨rfl, rfl, Below.refl _ _⟩
 simp only [Act.put, sT, sS, sZ]
 refine GW.known _ rfl (fun hd hf => ?_) ?_
 ·go_wp2_with fail
  refine (Hhx.out _).mono ?_
  rintro e u ⟨rfl, hb⟩
  go_wp2
  exact ⟨rfl, rfl, hb⟩
 simp only [Act.put, sT, sS, sZ]
 refine GW.known _ rfl (fun hd hf => ?_) ?_
 ·go_wp2
  exact ⟨rfl, rfl, Below.refl _ _⟩
 simp only [Act.put, sT, sS, sZ]
 refine GW.known _ rfl (fun hd hf => ?_) ?_
 ·go_wp2_with fail
  refine (Hhy.out _).mono ?_
  rintro e u ⟨rfl, hb⟩
  go_wp2
  exact ⟨rfl, rfl, hb⟩
 simp only [Act.put, sT, sS, sZ]
 refine GW.known _ rfl (fun hd hf => ?_) ?_
 ·go_wp2_with fail
  refine (Hhd.out _).mono ?_
  rintro e u ⟨rfl, hb⟩
  go_wp2
  exact ⟨rfl, rfl, hb⟩
 simp only [Act.put, sT, sS, sZ]
 refine GW.open rfl (fun hd hf => ?_) ?_
 ·have fs : f 6 = false := by
   cases h : f 6 with
   | false => rfl
   | true => have := Dn 6 h 5 (by decide); rw [hf] at this; cases this
  have fu : upd f 5 true 6 = false := (upd_ne f true (show (6 : Nat) ≠ 5 by decide)).trans fs
  go_wp2
  refine ⟨rfl, h1.alloc h1.size _, fun _ => ⟨_, rfl, h1.size, ?_⟩⟩
  show Has _ _ 24 (cellsIf (upd f 5 true 6) #[.int .u64 (lim q 0), .int .u64 (lim q 1), .int .u64 (lim q 2), .int .u64 (lim q 3)] #[.int .u64 0, .int .u64 0, .int .u64 0, .int .u64 0])
  rw [fu, cellsIf_false]
  exact Has.new _ _ _
 simp only [Act.put, sT, sS, sZ]
 refine GW.open rfl (fun hd hf => ?_) ?_
 ·obtain ⟨B, eB, hB, LB⟩ := h2 (hd 5 (by decide))
  rw [hf, cellsIf_false] at LB
  rw [eB]
  obtain ⟨c0, c1, c2, c3⟩ := c4 LB
  obtain ⟨z0, z1, z2, z3⟩ := f4 LB
  go_wp2
  refine ⟨rfl, ((((h1.setCell (p := ⟨B, 0, none⟩) hB (.int .u64 (lim q 0))).setCell (p := ⟨B, 1, none⟩) hB (.int .u64 (lim q 1))).setCell (p := ⟨B, 2, none⟩) hB (.int .u64 (lim q 2))).setCell (p := ⟨B, 3, none⟩) hB (.int .u64 (lim q 3))), fun _ => ⟨B, eB, hB, ?_⟩⟩
  show Has _ B 24 (cellsIf (upd f 6 true 6) #[.int .u64 (lim q 0), .int .u64 (lim q 1), .int .u64 (lim q 2), .int .u64 (lim q 3)] #[.int .u64 0, .int .u64 0, .int .u64 0, .int .u64 0])
  rw [upd_self, cellsIf_true]
  exact (s4 LB (lim q))
 simp only [Act.put, sT, sS, sZ]
 refine GW.nil (fun hall => ?_)
 obtain ⟨b25, eB, hB, LS⟩ := h2 (hall 5 (by omega))
 rw [hall 6 (by omega), cellsIf_true] at LS
 have Q := Q.trans (h1.mono Q.size)
 clear h2 Dn hall k26 k27 k28 k29 k30 k31 k32 k33 k34 k35 k36 k37
 rw [eB]
 clear eB hB h1
 obtain ⟨k38, k39, k40, k41⟩ := c4 LX
 obtain ⟨k42, k43, k44, k45⟩ := c4 LN
 obtain ⟨k46, k47, k48, k49⟩ := c4 LR
 obtain ⟨k50, k51, k52, k53⟩ := c4 LS
 go_wp2_with fail
 clear k38 k39 k40 k41 k42 k43 k44 k45 k46 k47 k48 k49 k50 k51 k52 k53
 obtain ⟨k54, k55, k56, k57⟩ := e4 LX
 obtain ⟨k58, k59, k60, k61⟩ := e4 LN
 obtain ⟨k62, k63, k64, k65⟩ := e4 LR
 obtain ⟨k66, k67, k68, k69⟩ := e4 LS
 refine wp_region_quick (C := Grows y25) (by kernel_rfl) (by kernel_rfl) (by kernel_rfl) (grows_refl y25) ?_
 repeat (go_big_quiet_step (first | (with_reducible exact Ret.at Hba.out _) | (with_reducible exact Ret.at Hbb.out _)))
 refine wpQuiet_nil ?_
 rintro _ ⟨x70, rfl⟩
 clear k54 k55 k56 k57 k58 k59 k60 k61 k62 k63 k64 k65 k66 k67 k68 k69
 have LX := LX.later x70.below
 have LN := LN.later x70.below
 have LR := LR.later x70.below
 have LS := LS.later x70.below
 have Q := Q.trans (x70.below.mono Q.size)
 obtain ⟨k71, k72, k73, k74⟩ := c4 LX
 obtain ⟨k75, k76, k77, k78⟩ := c4 LN
 obtain ⟨k79, k80, k81, k82⟩ := c4 LR
 obtain ⟨k83, k84, k85, k86⟩ := c4 LS
 go_wp2_with fail
 clear k71 k72 k73 k74 k75 k76 k77 k78 k79 k80 k81 k82 k83 k84 k85 k86
 refine (Hhm.out _).mono ?_
 rintro e v87 ⟨rfl, q⟩
 have LX := LX.later q
 have LN := LN.later q
 have LR := LR.later q
 have LS := LS.later q
 have Q := Q.trans (q.mono Q.size)
 clear q
 obtain ⟨r0, r1, r2, r3⟩ := c4 LR
 obtain ⟨z0, z1, z2, z3⟩ := f4 LR
 obtain ⟨k88, k89, k90, k91⟩ := c4 LX
 obtain ⟨k92, k93, k94, k95⟩ := c4 LN
 obtain ⟨k96, k97, k98, k99⟩ := c4 LS
 have HR := hid ((s4 LR (lim s)))
 have HQ := hid ((q4 (w.heap.size + 1 + 1) Q (by omega) (lim s)))
 clear Q LX LN LR LS
 go_wp2
 refine bodyPost_ret (results_word (m := lim s) rfl rfl HR.out) rfl ⟨rfl, HQ.out⟩
theorem refSdiv_false_true (a b x y q s : Nat) (hx : Ret Tryz.prog 78 #[.agg #[.int .u64 (lim a 0), .int .u64 (lim a 1), .int .u64 (lim a 2), .int .u64 (lim a 3)]] (.agg #[.int .u64 (lim x 0), .int .u64 (lim x 1), .int .u64 (lim x 2), .int .u64 (lim x 3)])) (hy : Ret Tryz.prog 78 #[.agg #[.int .u64 (lim b 0), .int .u64 (lim b 1), .int .u64 (lim b 2), .int .u64 (lim b 3)]] (.agg #[.int .u64 (lim y 0), .int .u64 (lim y 1), .int .u64 (lim y 2), .int .u64 (lim y 3)])) (hd : Ret Tryz.prog 40 #[.agg #[.int .u64 (lim x 0), .int .u64 (lim x 1), .int .u64 (lim x 2), .int .u64 (lim x 3)], .agg #[.int .u64 (lim y 0), .int .u64 (lim y 1), .int .u64 (lim y 2), .int .u64 (lim y 3)]] (.agg #[.int .u64 (lim q 0), .int .u64 (lim q 1), .int .u64 (lim q 2), .int .u64 (lim q 3)])) (ba : Ret Tryz.prog 79 #[.agg #[.int .u64 (lim a 0), .int .u64 (lim a 1), .int .u64 (lim a 2), .int .u64 (lim a 3)]] (.bool false)) (bb : Ret Tryz.prog 79 #[.agg #[.int .u64 (lim b 0), .int .u64 (lim b 1), .int .u64 (lim b 2), .int .u64 (lim b 3)]] (.bool true)) (hm : Ret Tryz.prog 80 #[.agg #[.int .u64 (lim q 0), .int .u64 (lim q 1), .int .u64 (lim q 2), .int .u64 (lim q 3)]] (.agg #[.int .u64 (lim s 0), .int .u64 (lim s 1), .int .u64 (lim s 2), .int .u64 (lim s 3)])) :
  Ret Tryz.prog 41 #[.agg #[.int .u64 (lim a 0), .int .u64 (lim a 1), .int .u64 (lim a 2), .int .u64 (lim a 3)], .agg #[.int .u64 (lim b 0), .int .u64 (lim b 1), .int .u64 (lim b 2), .int .u64 (lim b 3)]] (.agg #[.int .u64 (lim s 0), .int .u64 (lim s 1), .int .u64 (lim s 2), .int .u64 (lim s 3)]) := by
 intro w
 have Hhx := hid hx
 have Hhy := hid hy
 have Hhd := hid hd
 have Hba := hid ba
 have Hbb := hid bb
 have Hhm := hid hm
 clear hx hy hd ba bb hm
 go_enter Tryz.func41, Tryz.ntmps41
 obtain ⟨⟨⟨k13, k14, k15, k16⟩, ⟨k17, k18, k19, k20⟩, ⟨k21, k22, k23, k24⟩⟩, W1, hW1, LX, LN, LR, Q⟩ := pwwz w 24 (lim a) (lim b)
 go_wp2_with fail
 clear k13 k14 k15 k16 k17 k18 k19 k20 k21 k22 k23 k24
 rw [hW1.out]
 clear hW1
 refine wp_region_ghost [some (.agg #[.int .u64 (lim a 0), .int .u64 (lim a 1), .int .u64 (lim a 2), .int .u64 (lim a 3)]), some (.agg #[.int .u64 (lim x 0), .int .u64 (lim x 1), .int .u64 (lim x 2), .int .u64 (lim x 3)]), some (.agg #[.int .u64 (lim b 0), .int .u64 (lim b 1), .int .u64 (lim b 2), .int .u64 (lim b 3)]), some (.agg #[.int .u64 (lim y 0), .int .u64 (lim y 1), .int .u64 (lim y 2), .int .u64 (lim y 3)]), some (.agg #[.int .u64 (lim q 0), .int .u64 (lim q 1), .int .u64 (lim q 2), .int .u64 (lim q 3)]), none, none] [[], [0], [], [0, 1, 2], [0, 1, 2, 3], [], [0, 1, 2, 3, 4, 5]] (fun f g w' => Below W1.heap.size W1 w' ∧ (f 5 = true → ∃ B, g 5 = .pointer (some ⟨B, 0, none⟩) ∧ W1.heap.size ≤ B ∧ Has w' B 24 (cellsIf (f 6) #[.int .u64 (lim q 0), .int .u64 (lim q 1), .int .u64 (lim q 2), .int .u64 (lim q 3)] #[.int .u64 0, .int .u64 0, .int .u64 0, .int .u64 0])))
  (by kernel_rfl) (by kernel_rfl) (by kernel_rfl) ?_ ?_ ?_ ?_
 ·rintro f g wa wb ⟨h1, h2⟩ hb
  exact ⟨h1.trans (hb.mono h1.size), fun h => let ⟨B, e, hB, hL⟩ := h2 h; ⟨B, e, hB, hL.later hb⟩⟩
 ·intro f f' g g' wa h
  have ha := h 5 rfl
  have hs := h 6 rfl
  simp only [ha.1, ha.2, hs.1]
  exact id
 ·exact ⟨(Below.refl _ _).drew, by simp⟩
 rintro f g y25 ⟨h1, h2⟩ Dn
 have LX := LX.later h1
 have LN := LN.later h1
 have LR := LR.later h1
 obtain ⟨k26, k27, k28, k29⟩ := c4 LX
 obtain ⟨k30, k31, k32, k33⟩ := c4 LN
 obtain ⟨k34, k35, k36, k37⟩ := c4 LR
 refine GW.known _ rfl (fun hd hf => ?_) ?_
 ·go_wp2
  exact ⟨rfl, rfl, Below.refl _ _⟩
 simp only [Act.put, sT, sS, sZ]
 refine GW.known _ rfl (fun hd hf => ?_) ?_
 ·go_wp2_with fail
  refine (Hhx.out _).mono ?_
  rintro e u ⟨rfl, hb⟩
  go_wp2
  exact ⟨rfl, rfl, hb⟩
 simp only [Act.put, sT, sS, sZ]
 refine GW.known _ rfl (fun hd hf => ?_) ?_
 ·go_wp2
  exact ⟨rfl, rfl, Below.refl _ _⟩
 simp only [Act.put, sT, sS, sZ]
 refine GW.known _ rfl (fun hd hf => ?_) ?_
 ·go_wp2_with fail
  refine (Hhy.out _).mono ?_
  rintro e u ⟨rfl, hb⟩
  go_wp2
  exact ⟨rfl, rfl, hb⟩
 simp only [Act.put, sT, sS, sZ]
 refine GW.known _ rfl (fun hd hf => ?_) ?_
 ·go_wp2_with fail
  refine (Hhd.out _).mono ?_
  rintro e u ⟨rfl, hb⟩
  go_wp2
  exact ⟨rfl, rfl, hb⟩
 simp only [Act.put, sT, sS, sZ]
 refine GW.open rfl (fun hd hf => ?_) ?_
 ·have fs : f 6 = false := by
   cases h : f 6 with
   | false => rfl
   | true => have := Dn 6 h 5 (by decide); rw [hf] at this; cases this
  have fu : upd f 5 true 6 = false := (upd_ne f true (show (6 : Nat) ≠ 5 by decide)).trans fs
  go_wp2
  refine ⟨rfl, h1.alloc h1.size _, fun _ => ⟨_, rfl, h1.size, ?_⟩⟩
  show Has _ _ 24 (cellsIf (upd f 5 true 6) #[.int .u64 (lim q 0), .int .u64 (lim q 1), .int .u64 (lim q 2), .int .u64 (lim q 3)] #[.int .u64 0, .int .u64 0, .int .u64 0, .int .u64 0])
  rw [fu, cellsIf_false]
  exact Has.new _ _ _
 simp only [Act.put, sT, sS, sZ]
 refine GW.open rfl (fun hd hf => ?_) ?_
 ·obtain ⟨B, eB, hB, LB⟩ := h2 (hd 5 (by decide))
  rw [hf, cellsIf_false] at LB
  rw [eB]
  obtain ⟨c0, c1, c2, c3⟩ := c4 LB
  obtain ⟨z0, z1, z2, z3⟩ := f4 LB
  go_wp2
  refine ⟨rfl, ((((h1.setCell (p := ⟨B, 0, none⟩) hB (.int .u64 (lim q 0))).setCell (p := ⟨B, 1, none⟩) hB (.int .u64 (lim q 1))).setCell (p := ⟨B, 2, none⟩) hB (.int .u64 (lim q 2))).setCell (p := ⟨B, 3, none⟩) hB (.int .u64 (lim q 3))), fun _ => ⟨B, eB, hB, ?_⟩⟩
  show Has _ B 24 (cellsIf (upd f 6 true 6) #[.int .u64 (lim q 0), .int .u64 (lim q 1), .int .u64 (lim q 2), .int .u64 (lim q 3)] #[.int .u64 0, .int .u64 0, .int .u64 0, .int .u64 0])
  rw [upd_self, cellsIf_true]
  exact (s4 LB (lim q))
 simp only [Act.put, sT, sS, sZ]
 refine GW.nil (fun hall => ?_)
 obtain ⟨b25, eB, hB, LS⟩ := h2 (hall 5 (by omega))
 rw [hall 6 (by omega), cellsIf_true] at LS
 have Q := Q.trans (h1.mono Q.size)
 clear h2 Dn hall k26 k27 k28 k29 k30 k31 k32 k33 k34 k35 k36 k37
 rw [eB]
 clear eB hB h1
 obtain ⟨k38, k39, k40, k41⟩ := c4 LX
 obtain ⟨k42, k43, k44, k45⟩ := c4 LN
 obtain ⟨k46, k47, k48, k49⟩ := c4 LR
 obtain ⟨k50, k51, k52, k53⟩ := c4 LS
 go_wp2_with fail
 clear k38 k39 k40 k41 k42 k43 k44 k45 k46 k47 k48 k49 k50 k51 k52 k53
 obtain ⟨k54, k55, k56, k57⟩ := e4 LX
 obtain ⟨k58, k59, k60, k61⟩ := e4 LN
 obtain ⟨k62, k63, k64, k65⟩ := e4 LR
 obtain ⟨k66, k67, k68, k69⟩ := e4 LS
 refine wp_region_quick (C := Grows y25) (by kernel_rfl) (by kernel_rfl) (by kernel_rfl) (grows_refl y25) ?_
 repeat (go_big_quiet_step (first | (with_reducible exact Ret.at Hba.out _) | (with_reducible exact Ret.at Hbb.out _)))
 refine wpQuiet_nil ?_
 rintro _ ⟨x70, rfl⟩
 clear k54 k55 k56 k57 k58 k59 k60 k61 k62 k63 k64 k65 k66 k67 k68 k69
 have LX := LX.later x70.below
 have LN := LN.later x70.below
 have LR := LR.later x70.below
 have LS := LS.later x70.below
 have Q := Q.trans (x70.below.mono Q.size)
 obtain ⟨k71, k72, k73, k74⟩ := c4 LX
 obtain ⟨k75, k76, k77, k78⟩ := c4 LN
 obtain ⟨k79, k80, k81, k82⟩ := c4 LR
 obtain ⟨k83, k84, k85, k86⟩ := c4 LS
 go_wp2_with fail
 clear k71 k72 k73 k74 k75 k76 k77 k78 k79 k80 k81 k82 k83 k84 k85 k86
 refine (Hhm.out _).mono ?_
 rintro e v87 ⟨rfl, q⟩
 have LX := LX.later q
 have LN := LN.later q
 have LR := LR.later q
 have LS := LS.later q
 have Q := Q.trans (q.mono Q.size)
 clear q
 obtain ⟨r0, r1, r2, r3⟩ := c4 LR
 obtain ⟨z0, z1, z2, z3⟩ := f4 LR
 obtain ⟨k88, k89, k90, k91⟩ := c4 LX
 obtain ⟨k92, k93, k94, k95⟩ := c4 LN
 obtain ⟨k96, k97, k98, k99⟩ := c4 LS
 have HR := hid ((s4 LR (lim s)))
 have HQ := hid ((q4 (w.heap.size + 1 + 1) Q (by omega) (lim s)))
 clear Q LX LN LR LS
 go_wp2
 refine bodyPost_ret (results_word (m := lim s) rfl rfl HR.out) rfl ⟨rfl, HQ.out⟩
theorem refSdiv_false_false (a b x y q s : Nat) (hx : Ret Tryz.prog 78 #[.agg #[.int .u64 (lim a 0), .int .u64 (lim a 1), .int .u64 (lim a 2), .int .u64 (lim a 3)]] (.agg #[.int .u64 (lim x 0), .int .u64 (lim x 1), .int .u64 (lim x 2), .int .u64 (lim x 3)])) (hy : Ret Tryz.prog 78 #[.agg #[.int .u64 (lim b 0), .int .u64 (lim b 1), .int .u64 (lim b 2), .int .u64 (lim b 3)]] (.agg #[.int .u64 (lim y 0), .int .u64 (lim y 1), .int .u64 (lim y 2), .int .u64 (lim y 3)])) (hd : Ret Tryz.prog 40 #[.agg #[.int .u64 (lim x 0), .int .u64 (lim x 1), .int .u64 (lim x 2), .int .u64 (lim x 3)], .agg #[.int .u64 (lim y 0), .int .u64 (lim y 1), .int .u64 (lim y 2), .int .u64 (lim y 3)]] (.agg #[.int .u64 (lim q 0), .int .u64 (lim q 1), .int .u64 (lim q 2), .int .u64 (lim q 3)])) (ba : Ret Tryz.prog 79 #[.agg #[.int .u64 (lim a 0), .int .u64 (lim a 1), .int .u64 (lim a 2), .int .u64 (lim a 3)]] (.bool false)) (bb : Ret Tryz.prog 79 #[.agg #[.int .u64 (lim b 0), .int .u64 (lim b 1), .int .u64 (lim b 2), .int .u64 (lim b 3)]] (.bool false)) :
  Ret Tryz.prog 41 #[.agg #[.int .u64 (lim a 0), .int .u64 (lim a 1), .int .u64 (lim a 2), .int .u64 (lim a 3)], .agg #[.int .u64 (lim b 0), .int .u64 (lim b 1), .int .u64 (lim b 2), .int .u64 (lim b 3)]] (.agg #[.int .u64 (lim q 0), .int .u64 (lim q 1), .int .u64 (lim q 2), .int .u64 (lim q 3)]) := by
 intro w
 have Hhx := hid hx
 have Hhy := hid hy
 have Hhd := hid hd
 have Hba := hid ba
 have Hbb := hid bb
 clear hx hy hd ba bb
 go_enter Tryz.func41, Tryz.ntmps41
 obtain ⟨⟨⟨k13, k14, k15, k16⟩, ⟨k17, k18, k19, k20⟩, ⟨k21, k22, k23, k24⟩⟩, W1, hW1, LX, LN, LR, Q⟩ := pwwz w 24 (lim a) (lim b)
 go_wp2_with fail
 clear k13 k14 k15 k16 k17 k18 k19 k20 k21 k22 k23 k24
 rw [hW1.out]
 clear hW1
 refine wp_region_ghost [some (.agg #[.int .u64 (lim a 0), .int .u64 (lim a 1), .int .u64 (lim a 2), .int .u64 (lim a 3)]), some (.agg #[.int .u64 (lim x 0), .int .u64 (lim x 1), .int .u64 (lim x 2), .int .u64 (lim x 3)]), some (.agg #[.int .u64 (lim b 0), .int .u64 (lim b 1), .int .u64 (lim b 2), .int .u64 (lim b 3)]), some (.agg #[.int .u64 (lim y 0), .int .u64 (lim y 1), .int .u64 (lim y 2), .int .u64 (lim y 3)]), some (.agg #[.int .u64 (lim q 0), .int .u64 (lim q 1), .int .u64 (lim q 2), .int .u64 (lim q 3)]), none, none] [[], [0], [], [0, 1, 2], [0, 1, 2, 3], [], [0, 1, 2, 3, 4, 5]] (fun f g w' => Below W1.heap.size W1 w' ∧ (f 5 = true → ∃ B, g 5 = .pointer (some ⟨B, 0, none⟩) ∧ W1.heap.size ≤ B ∧ Has w' B 24 (cellsIf (f 6) #[.int .u64 (lim q 0), .int .u64 (lim q 1), .int .u64 (lim q 2), .int .u64 (lim q 3)] #[.int .u64 0, .int .u64 0, .int .u64 0, .int .u64 0])))
  (by kernel_rfl) (by kernel_rfl) (by kernel_rfl) ?_ ?_ ?_ ?_
 ·rintro f g wa wb ⟨h1, h2⟩ hb
  exact ⟨h1.trans (hb.mono h1.size), fun h => let ⟨B, e, hB, hL⟩ := h2 h; ⟨B, e, hB, hL.later hb⟩⟩
 ·intro f f' g g' wa h
  have ha := h 5 rfl
  have hs := h 6 rfl
  simp only [ha.1, ha.2, hs.1]
  exact id
 ·exact ⟨(Below.refl _ _).drew, by simp⟩
 rintro f g y25 ⟨h1, h2⟩ Dn
 have LX := LX.later h1
 have LN := LN.later h1
 have LR := LR.later h1
 obtain ⟨k26, k27, k28, k29⟩ := c4 LX
 obtain ⟨k30, k31, k32, k33⟩ := c4 LN
 obtain ⟨k34, k35, k36, k37⟩ := c4 LR
 refine GW.known _ rfl (fun hd hf => ?_) ?_
 ·go_wp2
  exact ⟨rfl, rfl, Below.refl _ _⟩
 simp only [Act.put, sT, sS, sZ]
 refine GW.known _ rfl (fun hd hf => ?_) ?_
 ·go_wp2_with fail
  refine (Hhx.out _).mono ?_
  rintro e u ⟨rfl, hb⟩
  go_wp2
  exact ⟨rfl, rfl, hb⟩
 simp only [Act.put, sT, sS, sZ]
 refine GW.known _ rfl (fun hd hf => ?_) ?_
 ·go_wp2
  exact ⟨rfl, rfl, Below.refl _ _⟩
 simp only [Act.put, sT, sS, sZ]
 refine GW.known _ rfl (fun hd hf => ?_) ?_
 ·go_wp2_with fail
  refine (Hhy.out _).mono ?_
  rintro e u ⟨rfl, hb⟩
  go_wp2
  exact ⟨rfl, rfl, hb⟩
 simp only [Act.put, sT, sS, sZ]
 refine GW.known _ rfl (fun hd hf => ?_) ?_
 ·go_wp2_with fail
  refine (Hhd.out _).mono ?_
  rintro e u ⟨rfl, hb⟩
  go_wp2
  exact ⟨rfl, rfl, hb⟩
 simp only [Act.put, sT, sS, sZ]
 refine GW.open rfl (fun hd hf => ?_) ?_
 ·have fs : f 6 = false := by
   cases h : f 6 with
   | false => rfl
   | true => have := Dn 6 h 5 (by decide); rw [hf] at this; cases this
  have fu : upd f 5 true 6 = false := (upd_ne f true (show (6 : Nat) ≠ 5 by decide)).trans fs
  go_wp2
  refine ⟨rfl, h1.alloc h1.size _, fun _ => ⟨_, rfl, h1.size, ?_⟩⟩
  show Has _ _ 24 (cellsIf (upd f 5 true 6) #[.int .u64 (lim q 0), .int .u64 (lim q 1), .int .u64 (lim q 2), .int .u64 (lim q 3)] #[.int .u64 0, .int .u64 0, .int .u64 0, .int .u64 0])
  rw [fu, cellsIf_false]
  exact Has.new _ _ _
 simp only [Act.put, sT, sS, sZ]
 refine GW.open rfl (fun hd hf => ?_) ?_
 ·obtain ⟨B, eB, hB, LB⟩ := h2 (hd 5 (by decide))
  rw [hf, cellsIf_false] at LB
  rw [eB]
  obtain ⟨c0, c1, c2, c3⟩ := c4 LB
  obtain ⟨z0, z1, z2, z3⟩ := f4 LB
  go_wp2
  refine ⟨rfl, ((((h1.setCell (p := ⟨B, 0, none⟩) hB (.int .u64 (lim q 0))).setCell (p := ⟨B, 1, none⟩) hB (.int .u64 (lim q 1))).setCell (p := ⟨B, 2, none⟩) hB (.int .u64 (lim q 2))).setCell (p := ⟨B, 3, none⟩) hB (.int .u64 (lim q 3))), fun _ => ⟨B, eB, hB, ?_⟩⟩
  show Has _ B 24 (cellsIf (upd f 6 true 6) #[.int .u64 (lim q 0), .int .u64 (lim q 1), .int .u64 (lim q 2), .int .u64 (lim q 3)] #[.int .u64 0, .int .u64 0, .int .u64 0, .int .u64 0])
  rw [upd_self, cellsIf_true]
  exact (s4 LB (lim q))
 simp only [Act.put, sT, sS, sZ]
 refine GW.nil (fun hall => ?_)
 obtain ⟨b25, eB, hB, LS⟩ := h2 (hall 5 (by omega))
 rw [hall 6 (by omega), cellsIf_true] at LS
 have Q := Q.trans (h1.mono Q.size)
 clear h2 Dn hall k26 k27 k28 k29 k30 k31 k32 k33 k34 k35 k36 k37
 rw [eB]
 clear eB hB h1
 obtain ⟨k38, k39, k40, k41⟩ := c4 LX
 obtain ⟨k42, k43, k44, k45⟩ := c4 LN
 obtain ⟨k46, k47, k48, k49⟩ := c4 LR
 obtain ⟨k50, k51, k52, k53⟩ := c4 LS
 go_wp2_with fail
 clear k38 k39 k40 k41 k42 k43 k44 k45 k46 k47 k48 k49 k50 k51 k52 k53
 obtain ⟨k54, k55, k56, k57⟩ := e4 LX
 obtain ⟨k58, k59, k60, k61⟩ := e4 LN
 obtain ⟨k62, k63, k64, k65⟩ := e4 LR
 obtain ⟨k66, k67, k68, k69⟩ := e4 LS
 refine wp_region_quick (C := Grows y25) (by kernel_rfl) (by kernel_rfl) (by kernel_rfl) (grows_refl y25) ?_
 repeat (go_big_quiet_step (first | (with_reducible exact Ret.at Hba.out _) | (with_reducible exact Ret.at Hbb.out _)))
 refine wpQuiet_nil ?_
 rintro _ ⟨x70, rfl⟩
 clear k54 k55 k56 k57 k58 k59 k60 k61 k62 k63 k64 k65 k66 k67 k68 k69
 have LX := LX.later x70.below
 have LN := LN.later x70.below
 have LR := LR.later x70.below
 have LS := LS.later x70.below
 have Q := Q.trans (x70.below.mono Q.size)
 obtain ⟨r0, r1, r2, r3⟩ := c4 LR
 obtain ⟨z0, z1, z2, z3⟩ := f4 LR
 obtain ⟨k71, k72, k73, k74⟩ := c4 LX
 obtain ⟨k75, k76, k77, k78⟩ := c4 LN
 obtain ⟨k79, k80, k81, k82⟩ := c4 LS
 have HR := hid ((s4 LR (lim q)))
 have HQ := hid ((q4 (w.heap.size + 1 + 1) Q (by omega) (lim q)))
 clear Q LX LN LR LS
 go_wp2
 refine bodyPost_ret (results_word (m := lim q) rfl rfl HR.out) rfl ⟨rfl, HQ.out⟩
theorem refSmod_true (a b x y q s : Nat) (hx : Ret Tryz.prog 78 #[.agg #[.int .u64 (lim a 0), .int .u64 (lim a 1), .int .u64 (lim a 2), .int .u64 (lim a 3)]] (.agg #[.int .u64 (lim x 0), .int .u64 (lim x 1), .int .u64 (lim x 2), .int .u64 (lim x 3)])) (hy : Ret Tryz.prog 78 #[.agg #[.int .u64 (lim b 0), .int .u64 (lim b 1), .int .u64 (lim b 2), .int .u64 (lim b 3)]] (.agg #[.int .u64 (lim y 0), .int .u64 (lim y 1), .int .u64 (lim y 2), .int .u64 (lim y 3)])) (hd : Ret Tryz.prog 42 #[.agg #[.int .u64 (lim x 0), .int .u64 (lim x 1), .int .u64 (lim x 2), .int .u64 (lim x 3)], .agg #[.int .u64 (lim y 0), .int .u64 (lim y 1), .int .u64 (lim y 2), .int .u64 (lim y 3)]] (.agg #[.int .u64 (lim q 0), .int .u64 (lim q 1), .int .u64 (lim q 2), .int .u64 (lim q 3)])) (ba : Ret Tryz.prog 79 #[.agg #[.int .u64 (lim a 0), .int .u64 (lim a 1), .int .u64 (lim a 2), .int .u64 (lim a 3)]] (.bool true)) (hm : Ret Tryz.prog 80 #[.agg #[.int .u64 (lim q 0), .int .u64 (lim q 1), .int .u64 (lim q 2), .int .u64 (lim q 3)]] (.agg #[.int .u64 (lim s 0), .int .u64 (lim s 1), .int .u64 (lim s 2), .int .u64 (lim s 3)])) :
  Ret Tryz.prog 43 #[.agg #[.int .u64 (lim a 0), .int .u64 (lim a 1), .int .u64 (lim a 2), .int .u64 (lim a 3)], .agg #[.int .u64 (lim b 0), .int .u64 (lim b 1), .int .u64 (lim b 2), .int .u64 (lim b 3)]] (.agg #[.int .u64 (lim s 0), .int .u64 (lim s 1), .int .u64 (lim s 2), .int .u64 (lim s 3)]) := by
 intro w
 have Hhx := hid hx
 have Hhy := hid hy
 have Hhd := hid hd
 have Hba := hid ba
 have Hhm := hid hm
 clear hx hy hd ba hm
 go_enter Tryz.func43, Tryz.ntmps43
 obtain ⟨⟨⟨k13, k14, k15, k16⟩, ⟨k17, k18, k19, k20⟩, ⟨k21, k22, k23, k24⟩⟩, W1, hW1, LX, LN, LR, Q⟩ := pwwz w 24 (lim a) (lim b)
 go_wp2_with fail
 clear k13 k14 k15 k16 k17 k18 k19 k20 k21 k22 k23 k24
 rw [hW1.out]
 clear hW1
 refine wp_region_ghost [some (.agg #[.int .u64 (lim a 0), .int .u64 (lim a 1), .int .u64 (lim a 2), .int .u64 (lim a 3)]), some (.agg #[.int .u64 (lim x 0), .int .u64 (lim x 1), .int .u64 (lim x 2), .int .u64 (lim x 3)]), some (.agg #[.int .u64 (lim b 0), .int .u64 (lim b 1), .int .u64 (lim b 2), .int .u64 (lim b 3)]), some (.agg #[.int .u64 (lim y 0), .int .u64 (lim y 1), .int .u64 (lim y 2), .int .u64 (lim y 3)]), some (.agg #[.int .u64 (lim q 0), .int .u64 (lim q 1), .int .u64 (lim q 2), .int .u64 (lim q 3)]), none, none] [[], [0], [], [0, 1, 2], [0, 1, 2, 3], [], [0, 1, 2, 3, 4, 5]] (fun f g w' => Below W1.heap.size W1 w' ∧ (f 5 = true → ∃ B, g 5 = .pointer (some ⟨B, 0, none⟩) ∧ W1.heap.size ≤ B ∧ Has w' B 24 (cellsIf (f 6) #[.int .u64 (lim q 0), .int .u64 (lim q 1), .int .u64 (lim q 2), .int .u64 (lim q 3)] #[.int .u64 0, .int .u64 0, .int .u64 0, .int .u64 0])))
  (by kernel_rfl) (by kernel_rfl) (by kernel_rfl) ?_ ?_ ?_ ?_
 ·rintro f g wa wb ⟨h1, h2⟩ hb
  exact ⟨h1.trans (hb.mono h1.size), fun h => let ⟨B, e, hB, hL⟩ := h2 h; ⟨B, e, hB, hL.later hb⟩⟩
 ·intro f f' g g' wa h
  have ha := h 5 rfl
  have hs := h 6 rfl
  simp only [ha.1, ha.2, hs.1]
  exact id
 ·exact ⟨(Below.refl _ _).drew, by simp⟩
 rintro f g y25 ⟨h1, h2⟩ Dn
 have LX := LX.later h1
 have LN := LN.later h1
 have LR := LR.later h1
 obtain ⟨k26, k27, k28, k29⟩ := c4 LX
 obtain ⟨k30, k31, k32, k33⟩ := c4 LN
 obtain ⟨k34, k35, k36, k37⟩ := c4 LR
 refine GW.known _ rfl (fun hd hf => ?_) ?_
 ·go_wp2
  exact ⟨rfl, rfl, Below.refl _ _⟩
 simp only [Act.put, sT, sS, sZ]
 refine GW.known _ rfl (fun hd hf => ?_) ?_
 ·go_wp2_with fail
  refine (Hhx.out _).mono ?_
  rintro e u ⟨rfl, hb⟩
  go_wp2
  exact ⟨rfl, rfl, hb⟩
 simp only [Act.put, sT, sS, sZ]
 refine GW.known _ rfl (fun hd hf => ?_) ?_
 ·go_wp2
  exact ⟨rfl, rfl, Below.refl _ _⟩
 simp only [Act.put, sT, sS, sZ]
 refine GW.known _ rfl (fun hd hf => ?_) ?_
 ·go_wp2_with fail
  refine (Hhy.out _).mono ?_
  rintro e u ⟨rfl, hb⟩
  go_wp2
  exact ⟨rfl, rfl, hb⟩
 simp only [Act.put, sT, sS, sZ]
 refine GW.known _ rfl (fun hd hf => ?_) ?_
 ·go_wp2_with fail
  refine (Hhd.out _).mono ?_
  rintro e u ⟨rfl, hb⟩
  go_wp2
  exact ⟨rfl, rfl, hb⟩
 simp only [Act.put, sT, sS, sZ]
 refine GW.open rfl (fun hd hf => ?_) ?_
 ·have fs : f 6 = false := by
   cases h : f 6 with
   | false => rfl
   | true => have := Dn 6 h 5 (by decide); rw [hf] at this; cases this
  have fu : upd f 5 true 6 = false := (upd_ne f true (show (6 : Nat) ≠ 5 by decide)).trans fs
  go_wp2
  refine ⟨rfl, h1.alloc h1.size _, fun _ => ⟨_, rfl, h1.size, ?_⟩⟩
  show Has _ _ 24 (cellsIf (upd f 5 true 6) #[.int .u64 (lim q 0), .int .u64 (lim q 1), .int .u64 (lim q 2), .int .u64 (lim q 3)] #[.int .u64 0, .int .u64 0, .int .u64 0, .int .u64 0])
  rw [fu, cellsIf_false]
  exact Has.new _ _ _
 simp only [Act.put, sT, sS, sZ]
 refine GW.open rfl (fun hd hf => ?_) ?_
 ·obtain ⟨B, eB, hB, LB⟩ := h2 (hd 5 (by decide))
  rw [hf, cellsIf_false] at LB
  rw [eB]
  obtain ⟨c0, c1, c2, c3⟩ := c4 LB
  obtain ⟨z0, z1, z2, z3⟩ := f4 LB
  go_wp2
  refine ⟨rfl, ((((h1.setCell (p := ⟨B, 0, none⟩) hB (.int .u64 (lim q 0))).setCell (p := ⟨B, 1, none⟩) hB (.int .u64 (lim q 1))).setCell (p := ⟨B, 2, none⟩) hB (.int .u64 (lim q 2))).setCell (p := ⟨B, 3, none⟩) hB (.int .u64 (lim q 3))), fun _ => ⟨B, eB, hB, ?_⟩⟩
  show Has _ B 24 (cellsIf (upd f 6 true 6) #[.int .u64 (lim q 0), .int .u64 (lim q 1), .int .u64 (lim q 2), .int .u64 (lim q 3)] #[.int .u64 0, .int .u64 0, .int .u64 0, .int .u64 0])
  rw [upd_self, cellsIf_true]
  exact (s4 LB (lim q))
 simp only [Act.put, sT, sS, sZ]
 refine GW.nil (fun hall => ?_)
 obtain ⟨b25, eB, hB, LS⟩ := h2 (hall 5 (by omega))
 rw [hall 6 (by omega), cellsIf_true] at LS
 have Q := Q.trans (h1.mono Q.size)
 clear h2 Dn hall k26 k27 k28 k29 k30 k31 k32 k33 k34 k35 k36 k37
 rw [eB]
 clear eB hB h1
 obtain ⟨k38, k39, k40, k41⟩ := c4 LX
 obtain ⟨k42, k43, k44, k45⟩ := c4 LN
 obtain ⟨k46, k47, k48, k49⟩ := c4 LR
 obtain ⟨k50, k51, k52, k53⟩ := c4 LS
 go_wp2_with fail
 clear k38 k39 k40 k41 k42 k43 k44 k45 k46 k47 k48 k49 k50 k51 k52 k53
 refine (Hba.out _).mono ?_
 rintro e v54 ⟨rfl, q⟩
 have LX := LX.later q
 have LN := LN.later q
 have LR := LR.later q
 have LS := LS.later q
 have Q := Q.trans (q.mono Q.size)
 clear q
 obtain ⟨k55, k56, k57, k58⟩ := c4 LX
 obtain ⟨k59, k60, k61, k62⟩ := c4 LN
 obtain ⟨k63, k64, k65, k66⟩ := c4 LR
 obtain ⟨k67, k68, k69, k70⟩ := c4 LS
 go_wp2_with fail
 clear k55 k56 k57 k58 k59 k60 k61 k62 k63 k64 k65 k66 k67 k68 k69 k70
 refine (Hhm.out _).mono ?_
 rintro e v71 ⟨rfl, q⟩
 have LX := LX.later q
 have LN := LN.later q
 have LR := LR.later q
 have LS := LS.later q
 have Q := Q.trans (q.mono Q.size)
 clear q
 obtain ⟨r0, r1, r2, r3⟩ := c4 LR
 obtain ⟨z0, z1, z2, z3⟩ := f4 LR
 obtain ⟨k72, k73, k74, k75⟩ := c4 LX
 obtain ⟨k76, k77, k78, k79⟩ := c4 LN
 obtain ⟨k80, k81, k82, k83⟩ := c4 LS
 have HR := hid ((s4 LR (lim s)))
 have HQ := hid ((q4 (w.heap.size + 1 + 1) Q (by omega) (lim s)))
 clear Q LX LN LR LS
 go_wp2
 refine bodyPost_ret (results_word (m := lim s) rfl rfl HR.out) rfl ⟨rfl, HQ.out⟩
theorem refSmod_false (a b x y q s : Nat) (hx : Ret Tryz.prog 78 #[.agg #[.int .u64 (lim a 0), .int .u64 (lim a 1), .int .u64 (lim a 2), .int .u64 (lim a 3)]] (.agg #[.int .u64 (lim x 0), .int .u64 (lim x 1), .int .u64 (lim x 2), .int .u64 (lim x 3)])) (hy : Ret Tryz.prog 78 #[.agg #[.int .u64 (lim b 0), .int .u64 (lim b 1), .int .u64 (lim b 2), .int .u64 (lim b 3)]] (.agg #[.int .u64 (lim y 0), .int .u64 (lim y 1), .int .u64 (lim y 2), .int .u64 (lim y 3)])) (hd : Ret Tryz.prog 42 #[.agg #[.int .u64 (lim x 0), .int .u64 (lim x 1), .int .u64 (lim x 2), .int .u64 (lim x 3)], .agg #[.int .u64 (lim y 0), .int .u64 (lim y 1), .int .u64 (lim y 2), .int .u64 (lim y 3)]] (.agg #[.int .u64 (lim q 0), .int .u64 (lim q 1), .int .u64 (lim q 2), .int .u64 (lim q 3)])) (ba : Ret Tryz.prog 79 #[.agg #[.int .u64 (lim a 0), .int .u64 (lim a 1), .int .u64 (lim a 2), .int .u64 (lim a 3)]] (.bool false)) :
  Ret Tryz.prog 43 #[.agg #[.int .u64 (lim a 0), .int .u64 (lim a 1), .int .u64 (lim a 2), .int .u64 (lim a 3)], .agg #[.int .u64 (lim b 0), .int .u64 (lim b 1), .int .u64 (lim b 2), .int .u64 (lim b 3)]] (.agg #[.int .u64 (lim q 0), .int .u64 (lim q 1), .int .u64 (lim q 2), .int .u64 (lim q 3)]) := by
 intro w
 have Hhx := hid hx
 have Hhy := hid hy
 have Hhd := hid hd
 have Hba := hid ba
 clear hx hy hd ba
 go_enter Tryz.func43, Tryz.ntmps43
 obtain ⟨⟨⟨k13, k14, k15, k16⟩, ⟨k17, k18, k19, k20⟩, ⟨k21, k22, k23, k24⟩⟩, W1, hW1, LX, LN, LR, Q⟩ := pwwz w 24 (lim a) (lim b)
 go_wp2_with fail
 clear k13 k14 k15 k16 k17 k18 k19 k20 k21 k22 k23 k24
 rw [hW1.out]
 clear hW1
 refine wp_region_ghost [some (.agg #[.int .u64 (lim a 0), .int .u64 (lim a 1), .int .u64 (lim a 2), .int .u64 (lim a 3)]), some (.agg #[.int .u64 (lim x 0), .int .u64 (lim x 1), .int .u64 (lim x 2), .int .u64 (lim x 3)]), some (.agg #[.int .u64 (lim b 0), .int .u64 (lim b 1), .int .u64 (lim b 2), .int .u64 (lim b 3)]), some (.agg #[.int .u64 (lim y 0), .int .u64 (lim y 1), .int .u64 (lim y 2), .int .u64 (lim y 3)]), some (.agg #[.int .u64 (lim q 0), .int .u64 (lim q 1), .int .u64 (lim q 2), .int .u64 (lim q 3)]), none, none] [[], [0], [], [0, 1, 2], [0, 1, 2, 3], [], [0, 1, 2, 3, 4, 5]] (fun f g w' => Below W1.heap.size W1 w' ∧ (f 5 = true → ∃ B, g 5 = .pointer (some ⟨B, 0, none⟩) ∧ W1.heap.size ≤ B ∧ Has w' B 24 (cellsIf (f 6) #[.int .u64 (lim q 0), .int .u64 (lim q 1), .int .u64 (lim q 2), .int .u64 (lim q 3)] #[.int .u64 0, .int .u64 0, .int .u64 0, .int .u64 0])))
  (by kernel_rfl) (by kernel_rfl) (by kernel_rfl) ?_ ?_ ?_ ?_
 ·rintro f g wa wb ⟨h1, h2⟩ hb
  exact ⟨h1.trans (hb.mono h1.size), fun h => let ⟨B, e, hB, hL⟩ := h2 h; ⟨B, e, hB, hL.later hb⟩⟩
 ·intro f f' g g' wa h
  have ha := h 5 rfl
  have hs := h 6 rfl
  simp only [ha.1, ha.2, hs.1]
  exact id
 ·exact ⟨(Below.refl _ _).drew, by simp⟩
 rintro f g y25 ⟨h1, h2⟩ Dn
 have LX := LX.later h1
 have LN := LN.later h1
 have LR := LR.later h1
 obtain ⟨k26, k27, k28, k29⟩ := c4 LX
 obtain ⟨k30, k31, k32, k33⟩ := c4 LN
 obtain ⟨k34, k35, k36, k37⟩ := c4 LR
 refine GW.known _ rfl (fun hd hf => ?_) ?_
 ·go_wp2
  exact ⟨rfl, rfl, Below.refl _ _⟩
 simp only [Act.put, sT, sS, sZ]
 refine GW.known _ rfl (fun hd hf => ?_) ?_
 ·go_wp2_with fail
  refine (Hhx.out _).mono ?_
  rintro e u ⟨rfl, hb⟩
  go_wp2
  exact ⟨rfl, rfl, hb⟩
 simp only [Act.put, sT, sS, sZ]
 refine GW.known _ rfl (fun hd hf => ?_) ?_
 ·go_wp2
  exact ⟨rfl, rfl, Below.refl _ _⟩
 simp only [Act.put, sT, sS, sZ]
 refine GW.known _ rfl (fun hd hf => ?_) ?_
 ·go_wp2_with fail
  refine (Hhy.out _).mono ?_
  rintro e u ⟨rfl, hb⟩
  go_wp2
  exact ⟨rfl, rfl, hb⟩
 simp only [Act.put, sT, sS, sZ]
 refine GW.known _ rfl (fun hd hf => ?_) ?_
 ·go_wp2_with fail
  refine (Hhd.out _).mono ?_
  rintro e u ⟨rfl, hb⟩
  go_wp2
  exact ⟨rfl, rfl, hb⟩
 simp only [Act.put, sT, sS, sZ]
 refine GW.open rfl (fun hd hf => ?_) ?_
 ·have fs : f 6 = false := by
   cases h : f 6 with
   | false => rfl
   | true => have := Dn 6 h 5 (by decide); rw [hf] at this; cases this
  have fu : upd f 5 true 6 = false := (upd_ne f true (show (6 : Nat) ≠ 5 by decide)).trans fs
  go_wp2
  refine ⟨rfl, h1.alloc h1.size _, fun _ => ⟨_, rfl, h1.size, ?_⟩⟩
  show Has _ _ 24 (cellsIf (upd f 5 true 6) #[.int .u64 (lim q 0), .int .u64 (lim q 1), .int .u64 (lim q 2), .int .u64 (lim q 3)] #[.int .u64 0, .int .u64 0, .int .u64 0, .int .u64 0])
  rw [fu, cellsIf_false]
  exact Has.new _ _ _
 simp only [Act.put, sT, sS, sZ]
 refine GW.open rfl (fun hd hf => ?_) ?_
 ·obtain ⟨B, eB, hB, LB⟩ := h2 (hd 5 (by decide))
  rw [hf, cellsIf_false] at LB
  rw [eB]
  obtain ⟨c0, c1, c2, c3⟩ := c4 LB
  obtain ⟨z0, z1, z2, z3⟩ := f4 LB
  go_wp2
  refine ⟨rfl, ((((h1.setCell (p := ⟨B, 0, none⟩) hB (.int .u64 (lim q 0))).setCell (p := ⟨B, 1, none⟩) hB (.int .u64 (lim q 1))).setCell (p := ⟨B, 2, none⟩) hB (.int .u64 (lim q 2))).setCell (p := ⟨B, 3, none⟩) hB (.int .u64 (lim q 3))), fun _ => ⟨B, eB, hB, ?_⟩⟩
  show Has _ B 24 (cellsIf (upd f 6 true 6) #[.int .u64 (lim q 0), .int .u64 (lim q 1), .int .u64 (lim q 2), .int .u64 (lim q 3)] #[.int .u64 0, .int .u64 0, .int .u64 0, .int .u64 0])
  rw [upd_self, cellsIf_true]
  exact (s4 LB (lim q))
 simp only [Act.put, sT, sS, sZ]
 refine GW.nil (fun hall => ?_)
 obtain ⟨b25, eB, hB, LS⟩ := h2 (hall 5 (by omega))
 rw [hall 6 (by omega), cellsIf_true] at LS
 have Q := Q.trans (h1.mono Q.size)
 clear h2 Dn hall k26 k27 k28 k29 k30 k31 k32 k33 k34 k35 k36 k37
 rw [eB]
 clear eB hB h1
 obtain ⟨k38, k39, k40, k41⟩ := c4 LX
 obtain ⟨k42, k43, k44, k45⟩ := c4 LN
 obtain ⟨k46, k47, k48, k49⟩ := c4 LR
 obtain ⟨k50, k51, k52, k53⟩ := c4 LS
 go_wp2_with fail
 clear k38 k39 k40 k41 k42 k43 k44 k45 k46 k47 k48 k49 k50 k51 k52 k53
 refine (Hba.out _).mono ?_
 rintro e v54 ⟨rfl, q⟩
 have LX := LX.later q
 have LN := LN.later q
 have LR := LR.later q
 have LS := LS.later q
 have Q := Q.trans (q.mono Q.size)
 clear q
 obtain ⟨r0, r1, r2, r3⟩ := c4 LR
 obtain ⟨z0, z1, z2, z3⟩ := f4 LR
 obtain ⟨k55, k56, k57, k58⟩ := c4 LX
 obtain ⟨k59, k60, k61, k62⟩ := c4 LN
 obtain ⟨k63, k64, k65, k66⟩ := c4 LS
 have HR := hid ((s4 LR (lim q)))
 have HQ := hid ((q4 (w.heap.size + 1 + 1) Q (by omega) (lim q)))
 clear Q LX LN LR LS
 go_wp2
 refine bodyPost_ret (results_word (m := lim q) rfl rfl HR.out) rfl ⟨rfl, HQ.out⟩
theorem szN_w (a : Nat) (ha : W256 a) : W256 (szN a) := by
 have := szN_le a ha
 unfold W256
 omega
theorem refSdiv_ret (a b : Nat) (ha : W256 a) (hb : W256 b) : Ret Tryz.prog 41 #[wv a, wv b] (wv (sgN (szN a / szN b) (negN a != negN b))) := by
 have hx := refSize_ret a ha
 have hy := refSize_ret b hb
 have hd := refDiv_ret (szN a) (szN b) (szN_w a ha) (szN_w b hb)
 have hm := refMinus_ret (szN a / szN b) (by have := szN_w a ha; unfold W256 at *; exact Nat.lt_of_le_of_lt (Nat.div_le_self _ _) this)
 have h1 := refBelow_ret a ha
 have h2 := refBelow_ret b hb
 unfold sgN
 cases ea : negN a <;> cases eb : negN b <;> rw [ea] at h1 <;> rw [eb] at h2
 ·exact refSdiv_false_false a b _ _ _ 0 hx hy hd h1 h2
 ·exact refSdiv_false_true a b _ _ _ _ hx hy hd h1 h2 hm
 ·exact refSdiv_true_false a b _ _ _ _ hx hy hd h1 h2 hm
 ·exact refSdiv_true_true a b _ _ _ 0 hx hy hd h1 h2
theorem refSmod_ret (a b : Nat) (ha : W256 a) (hb : W256 b) : Ret Tryz.prog 43 #[wv a, wv b] (wv (sgN (if szN b = 0 then 0 else szN a % szN b) (negN a))) := by
 have hx := refSize_ret a ha
 have hy := refSize_ret b hb
 have hd := refMod_ret (szN a) (szN b) (szN_w a ha) (szN_w b hb)
 have hw : W256 (if szN b = 0 then 0 else szN a % szN b) := by
  have := szN_w a ha
  unfold W256 at *
  split
  ·omega
  ·exact Nat.lt_of_le_of_lt (Nat.mod_le _ _) this
 have hm := refMinus_ret _ hw
 have h1 := refBelow_ret a ha
 unfold sgN
 cases ea : negN a <;> rw [ea] at h1
 ·exact refSmod_false a b _ _ _ 0 hx hy hd h1
 ·exact refSmod_true a b _ _ _ _ hx hy hd h1 hm
end Go.Proofs.YtnkhmgmganejmaaGreatDoor
