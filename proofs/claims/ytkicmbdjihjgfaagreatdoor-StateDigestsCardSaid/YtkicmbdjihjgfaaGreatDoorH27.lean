/- Part. -/
import Derived.Test.YtkicmbdjihjgfaaGreatDoorH26
import Derived.Test.YtkicmbdjihjgfaaGreatDoorH24
import Derived.Test.YtkicmbdjihjgfaaGreatDoorH04
import Derived.Test.YtkicmbdjihjgfaaGreatDoorH09
import Derived.Test.YtkicmbdjihjgfaaGreatDoorH16
set_option maxRecDepth 100000
set_option maxHeartbeats 16000000
namespace Go.Proofs.YtkicmbdjihjgfaaGreatDoor
section
open Go Go.RowKit
attribute [local go_sem] Oper.semAt_some Grows wide_fn
theorem KeepS.cell {w : World} {sv : Value} {l : List Sl} (h : KeepS w sv l) {B : Nat} {t : TypeId} {cs : Array Value} (hB : Has w B t cs) (ht : t ≠ 63) (k : Nat) (u : Value) : KeepS (w.setCell ⟨B, k, none⟩ u) sv l := by
 obtain ⟨lo, h⟩ := h
 exact ⟨lo, h.keep fun b c _ hb => (Below.heap_setCell w ⟨B, k, none⟩ u b (fun e => by
  subst e
  have := hB.symm.trans hb
  injection this with this
  injection this with _ this _
  exact absurd this ht)).trans hb⟩
theorem refDo_good (W : World) (sv : Value) (l : List Ac) (hs : StAt W sv l) (hsl : ∀ y ∈ l, y.slots.length ≤ 100000) (c : Ch) (hc : ChOk c) (hdo : doE l c = 0) :
  Calls Tryz.prog 24 #[sv, .agg (chC c)] W fun e w' => ∃ v, e = .returned (.tuple #[v, .agg (chC (doU l c)), .int .i64 0]) ∧ StK w' v (doL l c) ∧ Below W.heap.size W w' := by
 have hmx : Tryz.prog.follows .mixedOrders = true := by kernel_rfl
 obtain ⟨hr, hce, hmay, hput, hdl, hdu⟩ := do_parts hdo
 rw [hdl, hdu]
 clear hdl hdu hdo
 obtain ⟨cc, hcc⟩ : ∃ cc, chC c = cc := ⟨_, rfl⟩
 rw [hcc]
 have h10 := Has.new W 33 cc
 have q1 := newA W (.cells cc 33)
 obtain ⟨W1, hW1⟩ : ∃ W1, W.alloc (.cells cc 33) = W1 := ⟨_, rfl⟩
 rw [hW1] at h10 q1
 obtain ⟨W2, hW2, h21, q2⟩ := newK1 W1
 have HLT := hid (show W.heap.size < W1.heap.size ∧ W1.heap.size < W2.heap.size from ⟨h10.lt, h21.lt⟩)
 have Q2 := hid (q1.trans (q2.mono q1.size))
 have HC := hid (show Has W2 W.heap.size 33 (chC c) by rw [hcc]; exact h10.later q2)
 have HZ := hid h21
 have KR := hid (show Calls Tryz.prog 11 #[sv] W2 (fun e w' => e = .returned (.bool true) ∧ Below W2.heap.size W2 w') from by
  have h := refRight_any8 W2 sv l (hs.later Q2.out)
  rw [hr] at h
  exact h)
 obtain ⟨a, cap, rfl, hnc, hcm⟩ := hs.shape
 have HS := hid (hs.later Q2.out)
 have FI := hid (fun (X : World) (hX : Below W2.heap.size W2 X) => refFind_any8 X _ l ((hs.later Q2.out).later hX) c.at_ hc.at_ hsl)
 have HXO := hid (findA_ok (t := c.at_) (show ∀ x ∈ l, AcOk x from fun x hx => by
  obtain ⟨i, hi⟩ := List.getElem?_of_mem hx
  exact hs.ok hi) hc.at_)
 have HXL := hid (findA_slots hsl c.at_)
 have HR := hid hr
 have HSL := hid hsl
 have HCO := hid hc
 have HMAY := hid hmay
 have HPUT := hid hput
 have HCE := hid hce
 have HKD := hid (chg_kind hce)
 obtain ⟨n, hn⟩ : ∃ n, l.length = n := ⟨_, rfl⟩
 rw [hn] at HS KR FI ⊢
 generalize findA l c.at_ = x at *
 obtain ⟨kd, hkd⟩ : ∃ kd, c.kind = kd := ⟨_, rfl⟩
 have HK := hid hkd
 rw [hkd] at HKD
 have BC := hid (built_ch kd c.at_)
 have ECB := hid (show chC ⟨kd, c.at_, 0, 0, 0, ⟨#[]⟩⟩ = chC (chgB c) from by unfold chgB; rw [hkd])
 rw [ECB.out] at BC
 have c0 : W2.cell? ⟨W.heap.size, 0, none⟩ = some (.int .i64 kd) := by
  have := HC.out.ch.1
  rwa [hkd] at this
 have HC0 := hid c0
 clear h10 q1 h21 q2 hs hnc hcm hsl hr hc hmay hput hce hkd hn hcc c0
 obtain ⟨Post, hPost⟩ : ∃ Post : Ending → World → Prop, (fun (e : Ending) (w' : World) => ∃ v, e = .returned (.tuple #[v, .agg (chC (chgU x c)), .int .i64 0]) ∧ StK w' v (putA l (chgX x c)) ∧ Below W.heap.size W w') = Post := ⟨_, rfl⟩
 have HF := hid (show ∀ w' v u x', chgU x c = u → chgX x c = x' → StK w' v (putA l x') → Below W.heap.size W w' → Post (.returned (.tuple #[v, .agg (chC u), .int .i64 0])) w' from fun w' v u x' e2 e3 h1 h2 => by
  rw [← hPost]
  subst e2 e3
  exact ⟨_, rfl, h1, h2⟩)
 rw [hPost]
 clear hPost
 have hkk : kd = 1 ∨ kd = 2 ∨ kd = 3 ∨ kd = 4 := HKD.out
 have hk1 : ¬ kd < 1 := by omega
 have hk4 : ¬ 4 < kd := by omega
 clear HKD
 replace hkk := hid hkk
 go_enter Tryz.func24, Tryz.ntmps24
 go_wp2_with fail
 clear hW1 hW2
 refine KR.out.mono ?_
 rintro _ w3 ⟨rfl, hb⟩
 have Q3 := hid hb
 have c0 := cell_below Q3.out _ _ HC0.out
 have LAD := (HC.out.later Q3.out).chAdLoad
 have CC := hid (FI.out w3 Q3.out)
 clear hb KR
 go_wp2_with (refine wpList_load_known rfl _ (.tmp 30) rfl _ rfl _ LAD ?_)
 refine CC.out.mono ?_
 rintro _ w4 ⟨sx, rfl, hrow, hwide, hb⟩
 obtain ⟨xa, xc, rfl⟩ := hrow.shape
 have HWD := hid hwide
 have KS4 := hid (show KeepS w4 (.slice xa x.slots.length xc) x.slots from ⟨_, hrow⟩)
 have Q4 := hid (Q3.out.trans (hb.mono Q3.out.size))
 clear hb CC c0 LAD hrow hwide FI
 obtain ⟨V4, hV4, h7, q7⟩ := newK0 w4
 have hi7 := accRow x (.slice xa x.slots.length xc) rfl
 have k7 : Has (V4.setRow w4.heap.size (acC x (.slice xa x.slots.length xc))) w4.heap.size 31 (acC x (.slice xa x.slots.length xc)) := setRow_heap _ _ _ _ _ _ h7
 have p7 := below_rowAc q7 (g := w4.heap.size) (Nat.le_refl _) (acC x (.slice xa x.slots.length xc))
 obtain ⟨P1, hP1⟩ : ∃ P1, V4.setRow w4.heap.size (acC x (.slice xa x.slots.length xc)) = P1 := ⟨_, rfl⟩
 rw [hP1] at k7 p7
 obtain ⟨V5, hV5, h8, q8⟩ := newK1 P1
 have hi8 := chRow (chgB c)
 have k8 : Has (V5.setRow P1.heap.size (chC (chgB c))) P1.heap.size 33 (chC (chgB c)) := setRow_heap _ _ _ _ _ _ h8
 have p8 := below_rowAc q8 (g := P1.heap.size) (Nat.le_refl _) (chC (chgB c))
 obtain ⟨P2, hP2⟩ : ∃ P2, V5.setRow P1.heap.size (chC (chgB c)) = P2 := ⟨_, rfl⟩
 rw [hP2] at k8 p8
 have HD := hid (show W.heap.size < W1.heap.size ∧ W1.heap.size < w4.heap.size ∧ w4.heap.size < P1.heap.size from ⟨HLT.out.1, Nat.lt_of_lt_of_le HLT.out.2 Q4.out.size, k7.lt⟩)
 have Q5 := hid (show Below W2.heap.size W2 P1 from Q4.out.trans (p7.mono Q4.out.size))
 have Q6 := hid (show Below W2.heap.size W2 P2 from Q5.out.trans (p8.mono Q5.out.size))
 have KX := hid (k7.later p8)
 have KC := hid k8
 have KS := hid ((KS4.out.later p7).later p8)
 have c5 := cell_below Q5.out _ _ HC0.out
 have c6 := cell_below Q6.out _ _ HC0.out
 have LAD := (HC.out.later Q5.out).chAdLoad
 have Q4S := hid Q4.out.size
 clear k7 p7 q7 q8 k8 p8 Q3 Q4 KS4
 go_upto_region 12 with (first | (refine wpList_store_row rfl _ (.tmp 7) (.tmp 32) rfl _ _ rfl rfl _ _ h7 hi7.1 hi7.2.1 hi7.2.2 ?_; rw [hP1]) | (refine wpList_load_known rfl _ (.tmp 35) rfl _ rfl _ LAD ?_) | (refine wpList_build_two rfl (.tmp 34) (.tmp 36) rfl _ _ _ BC.out rfl rfl ?_) | (refine wpList_store_row rfl _ (.tmp 8) (.tmp 37) rfl _ _ rfl rfl _ _ h8 hi8.1 hi8.2.1 hi8.2.2 ?_; rw [hP2]))
 clear h7 hi7 hV4 hP1 h8 hi8 hV5 hP2 LAD c5 c6 hk1 hk4
 replace hkk := hkk.out
 rcases hkk with rfl | rfl | rfl | rfl
 ·have EX := hid (show chgX x c = { x with bal := c.val } from by unfold chgX; rw [if_pos HK.out])
  have EU := hid (show chgU x c = { chgB c with val := x.bal } from by unfold chgU; rw [if_pos HK.out])
  obtain ⟨g0, g21, g22, g23, g24, g25, g26, g27, g28, g29, g30⟩ := KC.out.ch
  have z25 := KC.out.frozen 25
  have z26 := KC.out.frozen 26
  have z27 := KC.out.frozen 27
  have z28 := KC.out.frozen 28
  obtain ⟨m20, m21, m22, m23, m24, m25, m26⟩ := KX.out.acc
  clear g0
  go_upto_region 14 with fail
  clear g21 g22 g23 g24 g25 g26 g27 g28 g29 g30 z25 z26 z27 z28 m20 m21 m22 m23 m24 m25 m26
  have hX := (((KX.out.other (p := ⟨P1.heap.size, 25, none⟩) (by have := HD.out; simp; omega) (.int .u64 (lim x.bal 0))).other (p := ⟨P1.heap.size, 26, none⟩) (by have := HD.out; simp; omega) (.int .u64 (lim x.bal 1))).other (p := ⟨P1.heap.size, 27, none⟩) (by have := HD.out; simp; omega) (.int .u64 (lim x.bal 2))).other (p := ⟨P1.heap.size, 28, none⟩) (by have := HD.out; simp; omega) (.int .u64 (lim x.bal 3))
  have hU := KC.out.chVal x.bal
  have hQ := (((Q6.out.setCell (p := ⟨P1.heap.size, 25, none⟩) Q5.out.size (.int .u64 (lim x.bal 0))).setCell (p := ⟨P1.heap.size, 26, none⟩) Q5.out.size (.int .u64 (lim x.bal 1))).setCell (p := ⟨P1.heap.size, 27, none⟩) Q5.out.size (.int .u64 (lim x.bal 2))).setCell (p := ⟨P1.heap.size, 28, none⟩) Q5.out.size (.int .u64 (lim x.bal 3))
  have hK := (((KS.out.cell KC.out (by decide) 25 (.int .u64 (lim x.bal 0))).cell (KC.out.set 25 _) (by decide) 26 (.int .u64 (lim x.bal 1))).cell ((KC.out.set 25 _).set 26 _) (by decide) 27 (.int .u64 (lim x.bal 2))).cell (((KC.out.set 25 _).set 26 _).set 27 _) (by decide) 28 (.int .u64 (lim x.bal 3))
  obtain ⟨P3, hP3⟩ : ∃ P3, (((P2.setCell ⟨P1.heap.size, 25, none⟩ (.int .u64 (lim x.bal 0))).setCell ⟨P1.heap.size, 26, none⟩ (.int .u64 (lim x.bal 1))).setCell ⟨P1.heap.size, 27, none⟩ (.int .u64 (lim x.bal 2))).setCell ⟨P1.heap.size, 28, none⟩ (.int .u64 (lim x.bal 3)) = P3 := ⟨_, rfl⟩
  rw [hP3] at hX hU hQ hK ⊢
  clear hP3
  have KX3 := hid hX
  have KC3 := hid hU
  have Q7 := hid hQ
  have KS3 := hid hK
  clear hX hU hQ hK KX KC KS
  obtain ⟨m0, m21, m22, m23, m24, m25, m26, m27, m28, m29, m30⟩ := (HC.out.later Q7.out).ch
  obtain ⟨g20, g21, g22, g23, g24, g25, g26⟩ := KX3.out.acc
  have z20 := KX3.out.frozen 20
  have z21 := KX3.out.frozen 21
  have z22 := KX3.out.frozen 22
  have z23 := KX3.out.frozen 23
  clear m0
  go_upto_region 21 with fail
  clear m21 m22 m23 m24 m25 m26 m27 m28 m29 m30 g20 g21 g22 g23 g24 g25 g26 z20 z21 z22 z23
  have hX := KX3.out.accBal c.val
  have hU := (((KC3.out.other (p := ⟨w4.heap.size, 20, none⟩) (by have := HD.out; simp; omega) (.int .u64 (lim c.val 0))).other (p := ⟨w4.heap.size, 21, none⟩) (by have := HD.out; simp; omega) (.int .u64 (lim c.val 1))).other (p := ⟨w4.heap.size, 22, none⟩) (by have := HD.out; simp; omega) (.int .u64 (lim c.val 2))).other (p := ⟨w4.heap.size, 23, none⟩) (by have := HD.out; simp; omega) (.int .u64 (lim c.val 3))
  have HW4 := hid (show W2.heap.size ≤ w4.heap.size from Q4S.out)
  have hQ := (((Q7.out.setCell (p := ⟨w4.heap.size, 20, none⟩) HW4.out (.int .u64 (lim c.val 0))).setCell (p := ⟨w4.heap.size, 21, none⟩) HW4.out (.int .u64 (lim c.val 1))).setCell (p := ⟨w4.heap.size, 22, none⟩) HW4.out (.int .u64 (lim c.val 2))).setCell (p := ⟨w4.heap.size, 23, none⟩) HW4.out (.int .u64 (lim c.val 3))
  have hK := (((KS3.out.cell KX3.out (by decide) 20 (.int .u64 (lim c.val 0))).cell (KX3.out.set 20 _) (by decide) 21 (.int .u64 (lim c.val 1))).cell ((KX3.out.set 20 _).set 21 _) (by decide) 22 (.int .u64 (lim c.val 2))).cell (((KX3.out.set 20 _).set 21 _).set 22 _) (by decide) 23 (.int .u64 (lim c.val 3))
  obtain ⟨P4, hP4⟩ : ∃ P4, (((P3.setCell ⟨w4.heap.size, 20, none⟩ (.int .u64 (lim c.val 0))).setCell ⟨w4.heap.size, 21, none⟩ (.int .u64 (lim c.val 1))).setCell ⟨w4.heap.size, 22, none⟩ (.int .u64 (lim c.val 2))).setCell ⟨w4.heap.size, 23, none⟩ (.int .u64 (lim c.val 3)) = P4 := ⟨_, rfl⟩
  rw [hP4] at hX hU hQ hK ⊢
  clear hP4
  have KX4 := hid hX
  have KC4 := hid hU
  have Q7b := hid hQ
  have KS4 := hid hK
  clear hX hU hQ hK KX3 KC3 KS3
  have LXX := KX4.out.accLoad
  have CC := hid (refSet_good P4 (.slice a n cap) l (HS.out.later Q7b.out) HR.out HSL.out ({ x with bal := c.val }) (.slice xa x.slots.length xc) (show AcOk ({ x with bal := c.val }) from by rw [← EX.out]; exact chgX_ok HXO.out HCO.out) (by rw [← EX.out]; exact HMAY.out) (by obtain ⟨lo, h⟩ := KS4.out; exact h.slots (by have := chgX_wide HCO.out HWD.out; rw [EX.out] at this; exact this)) (by have := chgX_slots (c := c) HXL.out; rw [EX.out] at this; exact this) (by rw [← EX.out]; exact HPUT.out))
  go_wp2_with (refine wpList_load_known rfl _ (.tmp 7) rfl _ rfl _ LXX ?_)
  refine CC.out.mono ?_
  rintro _ w8 ⟨v8, rfl, hst, hb⟩
  have Q8 := hid (Q7b.out.trans (hb.mono Q7b.out.size))
  have KC8 := hid (KC4.out.later hb)
  have ST8 := hid hst
  clear hb CC LXX hst KX4 KC4 KS4
  have LC := hid (show ∀ z : World, Grows w8 z → (loadVar 33 ⟨P1.heap.size, 0, none⟩).run Tryz.prog z = .ok (.agg (chC ({ chgB c with val := x.bal }))) z from fun z hz => by obtain ⟨q, rfl⟩ := hz; exact (KC8.out.later q.below).chLoad)
  go_wp2_with fail
  refine wp_region_mix (C := Grows w8) [some false, some true, some false, none, none] hmx (by kernel_rfl) (by kernel_rfl) (grows_refl w8) ?_
  simp only [headOf, tailOf]
  repeat (first | (with_reducible refine wpQuiet_load rfl 33 _ rfl _ rfl _ LC.out ?_; simp only [Act.put, sT, sS, sZ]) | (go_big_quiet_step (fail)))
  refine wpQuiet_nil ?_
  rintro _ ⟨z, rfl⟩
  have hz9 := (HZ.out.later Q8.out).later z.below
  have hi9 := chRow ({ chgB c with val := x.bal })
  have Q9 := hid (below_rowAc ((Q2.out.trans (Q8.out.mono Q2.out.size)).trans (z.below.mono (Nat.le_trans Q2.out.size Q8.out.size))) (g := W1.heap.size) (Nat.le_of_lt HLT.out.1) (chC ({ chgB c with val := x.bal })))
  have hB9 : Has (z.w.setRow W1.heap.size (chC ({ chgB c with val := x.bal }))) W1.heap.size 33 (chC ({ chgB c with val := x.bal })) := setRow_heap _ _ _ _ _ _ hz9
  have ST9 := hid ((ST8.out.later z.below).row hz9 (by decide) (chC ({ chgB c with val := x.bal })))
  clear LC
  go_wp2_with (refine wpList_store_row rfl _ (.tmp 5) (.tmp 104) rfl _ _ rfl rfl _ _ hz9 hi9.1 hi9.2.1 hi9.2.2 ?_)
  rw [calmPost_normal]
  go_wp2
  refine bodyPost_ret (results_three rfl rfl rfl rfl hB9) rfl ?_
  exact HF.out _ _ _ _ EU.out EX.out ST9.out Q9.out
 ·have EX := hid (show chgX x c = { x with non := c.non } from by unfold chgX; rw [if_neg (show ¬ c.kind = 1 by rw [HK.out]; decide), if_pos HK.out])
  have EU := hid (show chgU x c = { chgB c with non := x.non } from by unfold chgU; rw [if_neg (show ¬ c.kind = 1 by rw [HK.out]; decide), if_pos HK.out])
  obtain ⟨g0, g21, g22, g23, g24, g25, g26, g27, g28, g29, g30⟩ := KC.out.ch
  have z1 := KC.out.frozen 29
  obtain ⟨m20, m21, m22, m23, m24, m25, m26⟩ := KX.out.acc
  clear g0
  go_upto_region 17 with fail
  clear g21 g22 g23 g24 g25 g26 g27 g28 g29 g30 z1 m20 m21 m22 m23 m24 m25 m26
  have hX := KX.out.other (p := ⟨P1.heap.size, 29, none⟩) (by have := HD.out; simp; omega) (.int .i64 x.non)
  have hU := KC.out.chNon x.non
  have hQ := Q6.out.setCell (p := ⟨P1.heap.size, 29, none⟩) Q5.out.size (.int .i64 x.non)
  have hK := KS.out.cell KC.out (by decide) 29 (.int .i64 x.non)
  obtain ⟨P3, hP3⟩ : ∃ P3, P2.setCell ⟨P1.heap.size, 29, none⟩ (.int .i64 x.non) = P3 := ⟨_, rfl⟩
  rw [hP3] at hX hU hQ hK ⊢
  clear hP3
  have KX3 := hid hX
  have KC3 := hid hU
  have Q7 := hid hQ
  have KS3 := hid hK
  clear hX hU hQ hK KX KC KS
  obtain ⟨m0, m21, m22, m23, m24, m25, m26, m27, m28, m29, m30⟩ := (HC.out.later Q7.out).ch
  obtain ⟨g20, g21, g22, g23, g24, g25, g26⟩ := KX3.out.acc
  have z1 := KX3.out.frozen 24
  clear m0
  go_upto_region 21 with fail
  clear m21 m22 m23 m24 m25 m26 m27 m28 m29 m30 g20 g21 g22 g23 g24 g25 g26 z1
  have hX := KX3.out.accNon c.non
  have hU := KC3.out.other (p := ⟨w4.heap.size, 24, none⟩) (by have := HD.out; simp; omega) (.int .i64 c.non)
  have hQ := Q7.out.setCell (p := ⟨w4.heap.size, 24, none⟩) Q4S.out (.int .i64 c.non)
  have hK := KS3.out.cell KX3.out (by decide) 24 (.int .i64 c.non)
  obtain ⟨P4, hP4⟩ : ∃ P4, P3.setCell ⟨w4.heap.size, 24, none⟩ (.int .i64 c.non) = P4 := ⟨_, rfl⟩
  rw [hP4] at hX hU hQ hK ⊢
  clear hP4
  have KX4 := hid hX
  have KC4 := hid hU
  have Q7b := hid hQ
  have KS4 := hid hK
  clear hX hU hQ hK KX3 KC3 KS3
  have LXX := KX4.out.accLoad
  have CC := hid (refSet_good P4 (.slice a n cap) l (HS.out.later Q7b.out) HR.out HSL.out ({ x with non := c.non }) (.slice xa x.slots.length xc) (show AcOk ({ x with non := c.non }) from by rw [← EX.out]; exact chgX_ok HXO.out HCO.out) (by rw [← EX.out]; exact HMAY.out) (by obtain ⟨lo, h⟩ := KS4.out; exact h.slots (by have := chgX_wide HCO.out HWD.out; rw [EX.out] at this; exact this)) (by have := chgX_slots (c := c) HXL.out; rw [EX.out] at this; exact this) (by rw [← EX.out]; exact HPUT.out))
  go_wp2_with (refine wpList_load_known rfl _ (.tmp 7) rfl _ rfl _ LXX ?_)
  refine CC.out.mono ?_
  rintro _ w8 ⟨v8, rfl, hst, hb⟩
  have Q8 := hid (Q7b.out.trans (hb.mono Q7b.out.size))
  have KC8 := hid (KC4.out.later hb)
  have ST8 := hid hst
  clear hb CC LXX hst KX4 KC4 KS4
  have LC := hid (show ∀ z : World, Grows w8 z → (loadVar 33 ⟨P1.heap.size, 0, none⟩).run Tryz.prog z = .ok (.agg (chC ({ chgB c with non := x.non }))) z from fun z hz => by obtain ⟨q, rfl⟩ := hz; exact (KC8.out.later q.below).chLoad)
  go_wp2_with fail
  refine wp_region_mix (C := Grows w8) [some false, some true, some false, none, none] hmx (by kernel_rfl) (by kernel_rfl) (grows_refl w8) ?_
  simp only [headOf, tailOf]
  repeat (first | (with_reducible refine wpQuiet_load rfl 33 _ rfl _ rfl _ LC.out ?_; simp only [Act.put, sT, sS, sZ]) | (go_big_quiet_step (fail)))
  refine wpQuiet_nil ?_
  rintro _ ⟨z, rfl⟩
  have hz9 := (HZ.out.later Q8.out).later z.below
  have hi9 := chRow ({ chgB c with non := x.non })
  have Q9 := hid (below_rowAc ((Q2.out.trans (Q8.out.mono Q2.out.size)).trans (z.below.mono (Nat.le_trans Q2.out.size Q8.out.size))) (g := W1.heap.size) (Nat.le_of_lt HLT.out.1) (chC ({ chgB c with non := x.non })))
  have hB9 : Has (z.w.setRow W1.heap.size (chC ({ chgB c with non := x.non }))) W1.heap.size 33 (chC ({ chgB c with non := x.non })) := setRow_heap _ _ _ _ _ _ hz9
  have ST9 := hid ((ST8.out.later z.below).row hz9 (by decide) (chC ({ chgB c with non := x.non })))
  clear LC
  go_wp2_with (refine wpList_store_row rfl _ (.tmp 5) (.tmp 104) rfl _ _ rfl rfl _ _ hz9 hi9.1 hi9.2.1 hi9.2.2 ?_)
  rw [calmPost_normal]
  go_wp2
  refine bodyPost_ret (results_three rfl rfl rfl rfl hB9) rfl ?_
  exact HF.out _ _ _ _ EU.out EX.out ST9.out Q9.out
 ·have EX := hid (show chgX x c = { x with code := c.code } from by unfold chgX; rw [if_neg (show ¬ c.kind = 1 by rw [HK.out]; decide), if_neg (show ¬ c.kind = 2 by rw [HK.out]; decide), if_pos HK.out])
  have EU := hid (show chgU x c = { chgB c with code := x.code } from by unfold chgU; rw [if_neg (show ¬ c.kind = 1 by rw [HK.out]; decide), if_neg (show ¬ c.kind = 2 by rw [HK.out]; decide), if_pos HK.out])
  obtain ⟨g0, g21, g22, g23, g24, g25, g26, g27, g28, g29, g30⟩ := KC.out.ch
  have z1 := KC.out.frozen 30
  obtain ⟨m20, m21, m22, m23, m24, m25, m26⟩ := KX.out.acc
  clear g0
  go_upto_region 20 with fail
  clear g21 g22 g23 g24 g25 g26 g27 g28 g29 g30 z1 m20 m21 m22 m23 m24 m25 m26
  have hX := KX.out.other (p := ⟨P1.heap.size, 30, none⟩) (by have := HD.out; simp; omega) (.string x.code)
  have hU := KC.out.chCode x.code
  have hQ := Q6.out.setCell (p := ⟨P1.heap.size, 30, none⟩) Q5.out.size (.string x.code)
  have hK := KS.out.cell KC.out (by decide) 30 (.string x.code)
  obtain ⟨P3, hP3⟩ : ∃ P3, P2.setCell ⟨P1.heap.size, 30, none⟩ (.string x.code) = P3 := ⟨_, rfl⟩
  rw [hP3] at hX hU hQ hK ⊢
  clear hP3
  have KX3 := hid hX
  have KC3 := hid hU
  have Q7 := hid hQ
  have KS3 := hid hK
  clear hX hU hQ hK KX KC KS
  obtain ⟨m0, m21, m22, m23, m24, m25, m26, m27, m28, m29, m30⟩ := (HC.out.later Q7.out).ch
  obtain ⟨g20, g21, g22, g23, g24, g25, g26⟩ := KX3.out.acc
  have z1 := KX3.out.frozen 25
  clear m0
  go_upto_region 21 with fail
  clear m21 m22 m23 m24 m25 m26 m27 m28 m29 m30 g20 g21 g22 g23 g24 g25 g26 z1
  have hX := KX3.out.accCode c.code
  have hU := KC3.out.other (p := ⟨w4.heap.size, 25, none⟩) (by have := HD.out; simp; omega) (.string c.code)
  have hQ := Q7.out.setCell (p := ⟨w4.heap.size, 25, none⟩) Q4S.out (.string c.code)
  have hK := KS3.out.cell KX3.out (by decide) 25 (.string c.code)
  obtain ⟨P4, hP4⟩ : ∃ P4, P3.setCell ⟨w4.heap.size, 25, none⟩ (.string c.code) = P4 := ⟨_, rfl⟩
  rw [hP4] at hX hU hQ hK ⊢
  clear hP4
  have KX4 := hid hX
  have KC4 := hid hU
  have Q7b := hid hQ
  have KS4 := hid hK
  clear hX hU hQ hK KX3 KC3 KS3
  have LXX := KX4.out.accLoad
  have CC := hid (refSet_good P4 (.slice a n cap) l (HS.out.later Q7b.out) HR.out HSL.out ({ x with code := c.code }) (.slice xa x.slots.length xc) (show AcOk ({ x with code := c.code }) from by rw [← EX.out]; exact chgX_ok HXO.out HCO.out) (by rw [← EX.out]; exact HMAY.out) (by obtain ⟨lo, h⟩ := KS4.out; exact h.slots (by have := chgX_wide HCO.out HWD.out; rw [EX.out] at this; exact this)) (by have := chgX_slots (c := c) HXL.out; rw [EX.out] at this; exact this) (by rw [← EX.out]; exact HPUT.out))
  go_wp2_with (refine wpList_load_known rfl _ (.tmp 7) rfl _ rfl _ LXX ?_)
  refine CC.out.mono ?_
  rintro _ w8 ⟨v8, rfl, hst, hb⟩
  have Q8 := hid (Q7b.out.trans (hb.mono Q7b.out.size))
  have KC8 := hid (KC4.out.later hb)
  have ST8 := hid hst
  clear hb CC LXX hst KX4 KC4 KS4
  have LC := hid (show ∀ z : World, Grows w8 z → (loadVar 33 ⟨P1.heap.size, 0, none⟩).run Tryz.prog z = .ok (.agg (chC ({ chgB c with code := x.code }))) z from fun z hz => by obtain ⟨q, rfl⟩ := hz; exact (KC8.out.later q.below).chLoad)
  go_wp2_with fail
  refine wp_region_mix (C := Grows w8) [some false, some true, some false, none, none] hmx (by kernel_rfl) (by kernel_rfl) (grows_refl w8) ?_
  simp only [headOf, tailOf]
  repeat (first | (with_reducible refine wpQuiet_load rfl 33 _ rfl _ rfl _ LC.out ?_; simp only [Act.put, sT, sS, sZ]) | (go_big_quiet_step (fail)))
  refine wpQuiet_nil ?_
  rintro _ ⟨z, rfl⟩
  have hz9 := (HZ.out.later Q8.out).later z.below
  have hi9 := chRow ({ chgB c with code := x.code })
  have Q9 := hid (below_rowAc ((Q2.out.trans (Q8.out.mono Q2.out.size)).trans (z.below.mono (Nat.le_trans Q2.out.size Q8.out.size))) (g := W1.heap.size) (Nat.le_of_lt HLT.out.1) (chC ({ chgB c with code := x.code })))
  have hB9 : Has (z.w.setRow W1.heap.size (chC ({ chgB c with code := x.code }))) W1.heap.size 33 (chC ({ chgB c with code := x.code })) := setRow_heap _ _ _ _ _ _ hz9
  have ST9 := hid ((ST8.out.later z.below).row hz9 (by decide) (chC ({ chgB c with code := x.code })))
  clear LC
  go_wp2_with (refine wpList_store_row rfl _ (.tmp 5) (.tmp 104) rfl _ _ rfl rfl _ _ hz9 hi9.1 hi9.2.1 hi9.2.2 ?_)
  rw [calmPost_normal]
  go_wp2
  refine bodyPost_ret (results_three rfl rfl rfl rfl hB9) rfl ?_
  exact HF.out _ _ _ _ EU.out EX.out ST9.out Q9.out
 ·have hput4 : rightB' x.slots = true ∧ (mergeL x.slots [(c.key, c.val)]).length ≤ 1000 := by
   have h := HCE.out
   unfold chgE at h
   rw [if_neg (show ¬ c.kind = 1 by rw [HK.out]; decide), if_neg (show ¬ c.kind = 2 by rw [HK.out]; decide), if_neg (show ¬ c.kind = 3 by rw [HK.out]; decide), if_pos HK.out] at h
   split at h
   ·rename_i h1
    split at h
    ·rename_i h2; exact ⟨h1, h2⟩
    ·exact absurd h (by decide)
   ·exact absurd h (by decide)
  have HP4 := hid hput4
  have EX := hid (show chgX x c = { x with slots := mergeL x.slots [(c.key, c.val)] } from by unfold chgX; rw [if_neg (show ¬ c.kind = 1 by rw [HK.out]; decide), if_neg (show ¬ c.kind = 2 by rw [HK.out]; decide), if_neg (show ¬ c.kind = 3 by rw [HK.out]; decide), if_pos HK.out, if_pos hput4.1, if_pos hput4.2])
  have EU := hid (show chgU x c = { ({ chgB c with key := c.key } : Ch) with val := look x.slots c.key } from by unfold chgU; rw [if_neg (show ¬ c.kind = 1 by rw [HK.out]; decide), if_neg (show ¬ c.kind = 2 by rw [HK.out]; decide), if_neg (show ¬ c.kind = 3 by rw [HK.out]; decide), if_pos HK.out])
  clear hput4
  obtain ⟨g0, g21, g22, g23, g24, g25, g26, g27, g28, g29, g30⟩ := KC.out.ch
  have z21 := KC.out.frozen 21
  have z22 := KC.out.frozen 22
  have z23 := KC.out.frozen 23
  have z24 := KC.out.frozen 24
  obtain ⟨m0, m21, m22, m23, m24, m25, m26, m27, m28, m29, m30⟩ := (HC.out.later Q6.out).ch
  clear g0 m0
  go_upto_region 7 with fail
  clear g21 g22 g23 g24 g25 g26 g27 g28 g29 g30 z21 z22 z23 z24
  clear m21 m22 m23 m24 m25 m26 m27 m28 m29 m30
  have hX := ((((KX.out.other (p := ⟨P1.heap.size, 21, none⟩) (by have := HD.out; simp; omega) (.int .u64 (lim c.key 0))).other (p := ⟨P1.heap.size, 22, none⟩) (by have := HD.out; simp; omega) (.int .u64 (lim c.key 1))).other (p := ⟨P1.heap.size, 23, none⟩) (by have := HD.out; simp; omega) (.int .u64 (lim c.key 2))).other (p := ⟨P1.heap.size, 24, none⟩) (by have := HD.out; simp; omega) (.int .u64 (lim c.key 3)))
  have hU := KC.out.chKey c.key
  have hQ := ((((Q6.out.setCell (p := ⟨P1.heap.size, 21, none⟩) Q5.out.size (.int .u64 (lim c.key 0))).setCell (p := ⟨P1.heap.size, 22, none⟩) Q5.out.size (.int .u64 (lim c.key 1))).setCell (p := ⟨P1.heap.size, 23, none⟩) Q5.out.size (.int .u64 (lim c.key 2))).setCell (p := ⟨P1.heap.size, 24, none⟩) Q5.out.size (.int .u64 (lim c.key 3)))
  have hK := ((((KS.out.cell KC.out (by decide) 21 (.int .u64 (lim c.key 0))).cell (KC.out.set 21 _) (by decide) 22 (.int .u64 (lim c.key 1))).cell ((KC.out.set 21 _).set 22 _) (by decide) 23 (.int .u64 (lim c.key 2))).cell (((KC.out.set 21 _).set 22 _).set 23 _) (by decide) 24 (.int .u64 (lim c.key 3)))
  obtain ⟨P3, hP3⟩ : ∃ P3, ((((P2.setCell ⟨P1.heap.size, 21, none⟩ (.int .u64 (lim c.key 0))).setCell ⟨P1.heap.size, 22, none⟩ (.int .u64 (lim c.key 1))).setCell ⟨P1.heap.size, 23, none⟩ (.int .u64 (lim c.key 2))).setCell ⟨P1.heap.size, 24, none⟩ (.int .u64 (lim c.key 3))) = P3 := ⟨_, rfl⟩
  rw [hP3] at hX hU hQ hK ⊢
  clear hP3
  have KX3 := hid hX
  have KC3 := hid hU
  have Q3 := hid hQ
  have KS3 := hid hK
  clear hX hU hQ hK KX KC KS
  obtain ⟨m0, m21, m22, m23, m24, m25, m26, m27, m28, m29, m30⟩ := (HC.out.later Q3.out).ch
  obtain ⟨g20, g21, g22, g23, g24, g25, g26⟩ := KX3.out.acc
  have hs3 := (show SlotsAt P3 (.slice xa x.slots.length xc) x.slots from by obtain ⟨lo, h⟩ := KS3.out; exact h.slots HWD.out)
  have CC := hid (show Calls Tryz.prog 43 #[(.slice xa x.slots.length xc), .agg #[.int .u64 (lim c.key 0), .int .u64 (lim c.key 1), .int .u64 (lim c.key 2), .int .u64 (lim c.key 3)]] P3 (fun e w' => e = .returned (.agg #[.int .u64 (lim (look x.slots c.key) 0), .int .u64 (lim (look x.slots c.key) 1), .int .u64 (lim (look x.slots c.key) 2), .int .u64 (lim (look x.slots c.key) 3)]) ∧ Below P3.heap.size P3 w') from refGet_any P3 (.slice xa x.slots.length xc) x.slots hs3 c.key HCO.out.key)
  clear m0 hs3
  go_wp2_with fail
  clear g20 g21 g22 g23 g24 g25 g26
  clear m21 m22 m23 m24 m25 m26 m27 m28 m29 m30
  refine CC.out.mono ?_
  rintro _ P4 ⟨rfl, hb⟩
  have KX4 := hid (KX3.out.later hb)
  have KC4 := hid (KC3.out.later hb)
  have KS4 := hid (KS3.out.later hb)
  have Q7 := hid (Q3.out.trans (hb.mono Q3.out.size))
  clear hb CC KX3 KC3 KS3
  obtain ⟨g0, g21, g22, g23, g24, g25, g26, g27, g28, g29, g30⟩ := KC4.out.ch
  have z25 := KC4.out.frozen 25
  have z26 := KC4.out.frozen 26
  have z27 := KC4.out.frozen 27
  have z28 := KC4.out.frozen 28
  clear g0
  generalize hlk : look x.slots c.key = lk at *
  replace hlk := hid hlk
  go_upto_region 8 with fail
  clear g21 g22 g23 g24 g25 g26 g27 g28 g29 g30 z25 z26 z27 z28
  have hX := ((((KX4.out.other (p := ⟨P1.heap.size, 25, none⟩) (by have := HD.out; simp; omega) (.int .u64 (lim lk 0))).other (p := ⟨P1.heap.size, 26, none⟩) (by have := HD.out; simp; omega) (.int .u64 (lim lk 1))).other (p := ⟨P1.heap.size, 27, none⟩) (by have := HD.out; simp; omega) (.int .u64 (lim lk 2))).other (p := ⟨P1.heap.size, 28, none⟩) (by have := HD.out; simp; omega) (.int .u64 (lim lk 3)))
  have hU := KC4.out.chVal lk
  have hQ := ((((Q7.out.setCell (p := ⟨P1.heap.size, 25, none⟩) Q5.out.size (.int .u64 (lim lk 0))).setCell (p := ⟨P1.heap.size, 26, none⟩) Q5.out.size (.int .u64 (lim lk 1))).setCell (p := ⟨P1.heap.size, 27, none⟩) Q5.out.size (.int .u64 (lim lk 2))).setCell (p := ⟨P1.heap.size, 28, none⟩) Q5.out.size (.int .u64 (lim lk 3)))
  have hK := ((((KS4.out.cell KC4.out (by decide) 25 (.int .u64 (lim lk 0))).cell (KC4.out.set 25 _) (by decide) 26 (.int .u64 (lim lk 1))).cell ((KC4.out.set 25 _).set 26 _) (by decide) 27 (.int .u64 (lim lk 2))).cell (((KC4.out.set 25 _).set 26 _).set 27 _) (by decide) 28 (.int .u64 (lim lk 3)))
  obtain ⟨P5, hP5⟩ : ∃ P5, ((((P4.setCell ⟨P1.heap.size, 25, none⟩ (.int .u64 (lim lk 0))).setCell ⟨P1.heap.size, 26, none⟩ (.int .u64 (lim lk 1))).setCell ⟨P1.heap.size, 27, none⟩ (.int .u64 (lim lk 2))).setCell ⟨P1.heap.size, 28, none⟩ (.int .u64 (lim lk 3))) = P5 := ⟨_, rfl⟩
  rw [hP5] at hX hU hQ hK ⊢
  clear hP5
  have KX5 := hid hX
  have KC5 := hid hU
  have Q8 := hid hQ
  have KS5 := hid hK
  clear hX hU hQ hK KX4 KC4 KS4
  obtain ⟨m0, m21, m22, m23, m24, m25, m26, m27, m28, m29, m30⟩ := (HC.out.later Q8.out).ch
  obtain ⟨g20, g21, g22, g23, g24, g25, g26⟩ := KX5.out.acc
  have hs5 := (show SlotsAt P5 (.slice xa x.slots.length xc) x.slots from by obtain ⟨lo, h⟩ := KS5.out; exact h.slots HWD.out)
  have CC := hid (show Calls Tryz.prog 44 #[(.slice xa x.slots.length xc), .agg #[.int .u64 (lim c.key 0), .int .u64 (lim c.key 1), .int .u64 (lim c.key 2), .int .u64 (lim c.key 3)], .agg #[.int .u64 (lim c.val 0), .int .u64 (lim c.val 1), .int .u64 (lim c.val 2), .int .u64 (lim c.val 3)]] P5 (fun e w' => ∃ sv', e = .returned (.tuple #[sv', .int .i64 0]) ∧ RowT w' P5.heap.size sv' (mergeL x.slots [(c.key, c.val)]) ∧ Below P5.heap.size P5 w') from (refPut_any P5 (.slice xa x.slots.length xc) x.slots hs5 c.key c.val HCO.out.key HCO.out.val).mono fun e w' h => by
   obtain ⟨sv', er, sl, h1, h2, h3, h4, h5⟩ := done_put h
   rw [if_pos HP4.out.1, if_pos HP4.out.2] at h3 h4
   subst h3 h4
   exact ⟨sv', h1, h2, h5⟩)
  clear m0 hs5
  go_wp2_with fail
  clear g20 g21 g22 g23 g24 g25 g26
  clear m21 m22 m23 m24 m25 m26 m27 m28 m29 m30
  refine CC.out.mono ?_
  rintro _ P6 ⟨sv6, rfl, hrow, hb⟩
  obtain ⟨a6, c6, rfl⟩ := hrow.shape
  have KX6 := hid (KX5.out.later hb)
  have KC6 := hid (KC5.out.later hb)
  have KS6 := hid (show KeepS P6 _ _ from ⟨_, hrow⟩)
  have Q9 := hid (Q8.out.trans (hb.mono Q8.out.size))
  have HML := hid (show (mergeL x.slots [(c.key, c.val)]).length ≤ 100000 by have := HP4.out.2; omega)
  clear hb CC KX5 KC5 KS5 hrow
  generalize mergeL x.slots [(c.key, c.val)] = ml at *
  obtain ⟨mn, hmn⟩ : ∃ mn, ml.length = mn := ⟨_, rfl⟩
  rw [hmn] at KS6 ⊢
  clear hmn
  obtain ⟨g20, g21, g22, g23, g24, g25, g26⟩ := KX6.out.acc
  have z26 := KX6.out.frozen 26
  go_upto_region 21 with fail
  clear g20 g21 g22 g23 g24 g25 g26 z26
  have hX := KX6.out.set 26 (.slice a6 mn c6)
  rw [acC_slots x (.slice xa x.slots.length xc) (.slice a6 mn c6) ml] at hX
  have hU := KC6.out.other (p := ⟨w4.heap.size, 26, none⟩) (by have := HD.out; simp; omega) (.slice a6 mn c6)
  have hQ := Q9.out.setCell (p := ⟨w4.heap.size, 26, none⟩) Q4S.out (.slice a6 mn c6)
  have hK := KS6.out.cell KX6.out (by decide) 26 (.slice a6 mn c6)
  obtain ⟨P7, hP7⟩ : ∃ P7, P6.setCell ⟨w4.heap.size, 26, none⟩ (.slice a6 mn c6) = P7 := ⟨_, rfl⟩
  rw [hP7] at hX hU hQ hK ⊢
  clear hP7
  have KX7 := hid hX
  have KC7 := hid hU
  have Q7b := hid hQ
  have KS7 := hid hK
  clear hX hU hQ hK KX6 KC6 KS6
  have LXX := KX7.out.accLoad
  have CC := hid (refSet_good P7 (.slice a n cap) l (HS.out.later Q7b.out) HR.out HSL.out ({ x with slots := ml }) (.slice a6 mn c6) (show AcOk ({ x with slots := ml }) from by rw [← EX.out]; exact chgX_ok HXO.out HCO.out) (by rw [← EX.out]; exact HMAY.out) (by obtain ⟨lo, h⟩ := KS7.out; exact h.slots (by have := chgX_wide HCO.out HWD.out; rw [EX.out] at this; exact this)) (by have := chgX_slots (c := c) HXL.out; rw [EX.out] at this; exact this) (by rw [← EX.out]; exact HPUT.out))
  go_wp2_with (refine wpList_load_known rfl _ (.tmp 7) rfl _ rfl _ LXX ?_)
  refine CC.out.mono ?_
  rintro _ w8 ⟨v8, rfl, hst, hb⟩
  have Q8 := hid (Q7b.out.trans (hb.mono Q7b.out.size))
  have KC8 := hid (KC7.out.later hb)
  have ST8 := hid hst
  clear hb CC LXX hst KX7 KC7 KS7
  have LC := hid (show ∀ z : World, Grows w8 z → (loadVar 33 ⟨P1.heap.size, 0, none⟩).run Tryz.prog z = .ok (.agg (chC ({ ({ chgB c with key := c.key } : Ch) with val := lk }))) z from fun z hz => by obtain ⟨q, rfl⟩ := hz; exact (KC8.out.later q.below).chLoad)
  go_wp2_with fail
  refine wp_region_mix (C := Grows w8) [some false, some true, some false, none, none] hmx (by kernel_rfl) (by kernel_rfl) (grows_refl w8) ?_
  simp only [headOf, tailOf]
  repeat (first | (with_reducible refine wpQuiet_load rfl 33 _ rfl _ rfl _ LC.out ?_; simp only [Act.put, sT, sS, sZ]) | (go_big_quiet_step (fail)))
  refine wpQuiet_nil ?_
  rintro _ ⟨z, rfl⟩
  have hz9 := (HZ.out.later Q8.out).later z.below
  have hi9 := chRow ({ ({ chgB c with key := c.key } : Ch) with val := lk })
  have Q9 := hid (below_rowAc ((Q2.out.trans (Q8.out.mono Q2.out.size)).trans (z.below.mono (Nat.le_trans Q2.out.size Q8.out.size))) (g := W1.heap.size) (Nat.le_of_lt HLT.out.1) (chC ({ ({ chgB c with key := c.key } : Ch) with val := lk })))
  have hB9 : Has (z.w.setRow W1.heap.size (chC ({ ({ chgB c with key := c.key } : Ch) with val := lk }))) W1.heap.size 33 (chC ({ ({ chgB c with key := c.key } : Ch) with val := lk })) := setRow_heap _ _ _ _ _ _ hz9
  have ST9 := hid ((ST8.out.later z.below).row hz9 (by decide) (chC ({ ({ chgB c with key := c.key } : Ch) with val := lk })))
  clear LC
  go_wp2_with (refine wpList_store_row rfl _ (.tmp 5) (.tmp 104) rfl _ _ rfl rfl _ _ hz9 hi9.1 hi9.2.1 hi9.2.2 ?_)
  rw [calmPost_normal]
  go_wp2
  refine bodyPost_ret (results_three rfl rfl rfl rfl hB9) rfl ?_
  exact HF.out _ _ _ _ EU.out EX.out ST9.out Q9.out
end
section
open Go Go.RowKit
def RowF (N : Nat) (W : World) (v : Value) (zs : List (Nat → Int)) : Prop :=
 ∃ a cap, v = .slice a zs.length cap ∧ zs.length ≤ cap ∧ cap ≤ 9223372036854775807 ∧ ∀ (i : Nat) (p : Nat → Int), zs[i]? = some p → ∃ b, a = some b ∧ ∀ j, j < N → I64 (p j) ∧ W.cell? ((b.add (i * N)).add j) = some (.int .i64 (p j))
theorem RowF.keep {N : Nat} {W X : World} {v : Value} {zs : List (Nat → Int)} (h : RowF N W v zs) (hk : ∀ (a : Addr) (u : Value), W.cell? a = some u → X.cell? a = some u) : RowF N X v zs := by
 obtain ⟨a, cap, h1, h2, h3, h4⟩ := h
 refine ⟨a, cap, h1, h2, h3, fun i p hp => ?_⟩
 obtain ⟨b, e, c⟩ := h4 i p hp
 exact ⟨b, e, fun j hj => ⟨(c j hj).1, hk _ _ (c j hj).2⟩⟩
theorem RowF.later {N : Nat} {W X : World} {v : Value} {zs : List (Nat → Int)} (h : RowF N W v zs) (hb : Below W.heap.size W X) : RowF N X v zs := h.keep (cell_below hb)
theorem RowF.shape {N : Nat} {W : World} {v : Value} {zs : List (Nat → Int)} (h : RowF N W v zs) : ∃ a cap, v = .slice a zs.length cap ∧ zs.length ≤ cap ∧ cap ≤ 9223372036854775807 := by
 obtain ⟨a, cap, h1, h2, h3, _⟩ := h
 exact ⟨a, cap, h1, h2, h3⟩
def RowsIn (N : Nat) (W : World) (p : Addr) (f : Nat → Int) : Prop := ∀ j, j < N → I64 (f j) ∧ W.cell? (p.add j) = some (.int .i64 (f j))
theorem RowF.at {N : Nat} {W : World} {a : Option Addr} {n cap : Nat} {zs : List (Nat → Int)} (h : RowF N W (.slice a n cap) zs) {i : Nat} {p : Nat → Int} (hp : zs[i]? = some p) : ∃ b, a = some b ∧ RowsIn N W (b.add (i * N)) p := by
 obtain ⟨a', cap', h1, h2, h3, h4⟩ := h
 injection h1 with e1 e2 e3
 subst e1
 exact h4 i p hp
def rowL (N : Nat) (f : Nat → Int) : List Value := (List.range N).map fun j => .int .i64 (f j)
theorem rowL_len (N : Nat) (f : Nat → Int) : (rowL N f).length = N := by simp [rowL]
theorem RowsIn.load {N : Nat} {W : World} {p : Addr} {f : Nat → Int} (h : RowsIn N W p f) {P : Program} {ty : TypeId} {d : TypeDesc} (hu : P.underlying ty = some d) (hd : d.isRow = true) (hi : (P.info? ty).map (·.size) = some N) :
  (loadVar ty p).run P W = .ok (.agg (rowL N f).toArray) W :=
 run_loadVar_at W p ty (rowL N f) d (fun j v hj => by
  have hjN : j < N := by
   have := (List.getElem?_eq_some_iff.1 hj).1
   rwa [rowL_len] at this
  have e : (rowL N f)[j]? = some (.int .i64 (f j)) := by simp [rowL, hjN]
  rw [e] at hj
  injection hj with hj
  subst hj
  exact (h j hjN).2) hu hd (by rw [rowL_len]; exact hi)
end
section
open Go Go.RowKit
attribute [local go_sem] Oper.semAt_some Grows wide_fn
theorem StK.nil (w : World) : StK w (.slice none 0 0) [] := ⟨0, [], rfl, RowA.nil _ _, fun p hp => by cases hp⟩
theorem info4 : (Tryz.prog.info? 34).map (·.size) = some 4 := by kernel_rfl
theorem RowsIn.load4 {W : World} {q : Addr} {p : Nat → Int} (h : RowsIn 4 W q p) : (loadVar 34 q).run Tryz.prog W = .ok (.agg #[.int .i64 (p 0), .int .i64 (p 1), .int .i64 (p 2), .int .i64 (p 3)]) W := h.load Tryz.underlying34 rfl info4
theorem state8_any (W : World) (v : Value) (zs : List Q4) (hr : RowF 4 W v zs) :
  Calls Tryz.prog 8 #[v] W fun e w' => ∃ v', e = .returned v' ∧ StK w' v' (stN zs) ∧ Below W.heap.size W w' := by
 have HR := hid hr
 obtain ⟨a, cap, rfl, hnc, hcm⟩ := hr.shape
 obtain ⟨n, hn⟩ : ∃ n, zs.length = n := ⟨_, rfl⟩
 rw [hn] at HR hnc ⊢
 have HN := hid hn
 have hlc := hid (Nat.le_trans hnc hcm)
 have HF := hid (show ∀ j, (j = 30 ∨ (j = n ∧ n ≤ 30)) → (zs.take j).foldl stepS [] = stN zs from fun j h => by
  unfold stN
  rcases h with rfl | ⟨rfl, h⟩
  ·rfl
  ·rw [List.take_of_length_le (by omega), List.take_of_length_le (by omega)])
 clear hnc hcm hn hr
 go_enter Tryz.func8, Tryz.ntmps8
 go_wp2_with fail
 go_loopw [3, 4] (fun ov i wr => ∃ k : Nat, i = .int .i64 (k : Int) ∧ k ≤ n ∧ k ≤ 30 ∧ StK wr ov ((zs.take k).foldl stepS []) ∧ Below W.heap.size W wr) (fun _ i _ => n - (intOf i).toNat)
 case atStart => exact ⟨0, rfl, by omega, by omega, StK.nil _, Below.refl _ _⟩
 case round =>
  obtain ⟨k, rfl, hkn, hk30, hrow, hq⟩ := hrel
  obtain ⟨ov, hov⟩ : ∃ ov, ov = u3 := ⟨_, rfl⟩
  subst hov
  obtain ⟨w0, hw0⟩ : ∃ w0, w0 = wr := ⟨_, rfl⟩
  subst hw0
  have HQ := hid hq
  have HROW := hid hrow
  have HK := hid (And.intro hkn hk30)
  clear hq hrow
  by_cases hk : k < n ∧ k < 30
  ·have hknI : (k : Int) < (n : Int) := by omega
   have hk30I : (k : Int) < 30 := by omega
   have hk0 : (0 : Int) ≤ (k : Int) := by omega
   obtain ⟨p, hp⟩ : ∃ p, zs[k]? = some p := ⟨_, List.getElem?_eq_getElem (by have := HN.out; omega)⟩
   obtain ⟨b, rfl, hrin⟩ := (HR.out.later HQ.out).at hp
   have LR := hrin.load4
   have CH := hid (change8_any w0 (p 0) (p 1) (p 2) (p 3) (hrin 0 (by decide)).1 (hrin 1 (by decide)).1 (hrin 2 (by decide)).1 (hrin 3 (by decide)).1)
   have HNX := hid (show (zs.take (k + 1)).foldl stepS [] = stepS ((zs.take k).foldl stepS []) p by
    rw [List.take_add_one, hp, List.foldl_append]
    rfl)
   have HIV := hid (show StI k ((zs.take k).foldl stepS []) by
    have h := stepS_inv (zs.take k) [] 0 StI.nil (by have := List.length_take_le k zs; omega)
    have := HN.out
    rwa [show 0 + (zs.take k).length = k by rw [List.length_take]; omega] at h)
   have hkk := hid hk
   clear hk hkn hk30 hp hrin
   have HST := hid (show stepS ((zs.take k).foldl stepS []) p = doL ((zs.take k).foldl stepS []) (chN (p 0) (p 1) (p 2) (p 3)) from rfl)
   generalize (zs.take k).foldl stepS [] = l at *
   go_wp2_with (refine wpList_load_known rfl _ (.tmp 22) rfl _ rfl _ LR ?_)
   refine CH.out.mono ?_
   rintro _ w1 ⟨rfl, q1⟩
   have hdo := (HIV.out.do (by have := hkk.out; omega) (p 0) (p 1) (p 2) (p 3)).1
   have DD := hid (refDo_good w1 ov l ((HROW.out.later q1).st) (fun y hy => by have := HIV.out.slots y hy; have := hkk.out; omega) (chN (p 0) (p 1) (p 2) (p 3)) (chN_ok _ _ _ _) hdo)
   have Q1 := hid (HQ.out.trans (q1.mono HQ.out.size))
   clear LR CH q1 hdo
   generalize chN (p 0) (p 1) (p 2) (p 3) = c at *
   go_wp2_with fail
   refine DD.out.mono ?_
   rintro _ w2 ⟨v2, rfl, hst, q2⟩
   have Q2 := hid (Q1.out.trans (q2.mono Q1.out.size))
   obtain ⟨V2, hV2, h6, q6⟩ := newK1 w2
   have hi6 := chRow (doU l c)
   have p6 := below_rowAc q6 (g := w2.heap.size) (Nat.le_refl _) (chC (doU l c))
   have ST := hid ((hst.later q6).row h6 (by decide) (chC (doU l c)))
   have QF := hid (Q2.out.trans (p6.mono Q2.out.size))
   clear DD hst q2 q6 p6
   go_wp2_with (refine wpList_store_row rfl _ (.tmp 6) (.tmp 27) rfl _ _ rfl rfl _ _ h6 hi6.1 hi6.2.1 hi6.2.2 ?_)
   go_roundw
   case rel => exact ⟨k + 1, by simp, by have := hkk.out; omega, by have := hkk.out; omega, by rw [HNX.out, HST.out]; exact ST.out, QF.out⟩
   case measure => have := hkk.out; simp [intOf]; omega
  ·by_cases h1 : k < n
   ·obtain rfl : k = 30 := by have := HK.out; omega
    have hI : (30 : Int) < (n : Int) := by omega
    have R := hid (show StK w0 ov (stN zs) from by have h := HROW.out; rw [HF.out 30 (.inl rfl)] at h; exact h)
    go_wp2_with fail
    go_ret
    exact ⟨_, rfl, R.out, HQ.out⟩
   ·obtain rfl : k = n := by have := HK.out; omega
    have hnn : ¬ (k : Int) < (k : Int) := by omega
    have R := hid (show StK w0 ov (stN zs) from by have h := HROW.out; rw [HF.out k (.inr ⟨rfl, HK.out.2⟩)] at h; exact h)
    go_wp2_with fail
    go_ret
    exact ⟨_, rfl, R.out, HQ.out⟩
end
section
open Go Go.RowKit
attribute [local go_sem] Oper.semAt_some Grows wide_fn eq4
theorem refAlike_any8 (W : World) (x y : Ac) (sx sy : Value) (hx : AcOk x) (hy : AcOk y) (hsx : SlotsAt W sx x.slots) (hsy : SlotsAt W sy y.slots) :
  Calls Tryz.prog 17 #[.agg (acC x sx), .agg (acC y sy)] W fun e w' => e = .returned (.bool (sameA x y)) ∧ Below W.heap.size W w' := by
 obtain ⟨a1, c1, rfl, _, _⟩ := hsx.shape
 obtain ⟨a2, c2, rfl, _, _⟩ := hsy.shape
 obtain ⟨cx, hcx⟩ : ∃ cx, acC x (.slice a1 x.slots.length c1) = cx := ⟨_, rfl⟩
 obtain ⟨cy, hcy⟩ : ∃ cy, acC y (.slice a2 y.slots.length c2) = cy := ⟨_, rfl⟩
 rw [hcx, hcy]
 have h10 := Has.new W 31 cx
 have q1 := newA W (.cells cx 31)
 obtain ⟨W1, hW1⟩ : ∃ W1, W.alloc (.cells cx 31) = W1 := ⟨_, rfl⟩
 rw [hW1] at h10 q1
 have h21 := Has.new W1 31 cy
 have q2 := newA W1 (.cells cy 31)
 obtain ⟨W2, hW2⟩ : ∃ W2, W1.alloc (.cells cy 31) = W2 := ⟨_, rfl⟩
 rw [hW2] at h21 q2
 have HX := (show Has W2 W.heap.size 31 (acC x (.slice a1 x.slots.length c1)) by rw [hcx]; exact h10.later q2)
 have HY := (show Has W2 W1.heap.size 31 (acC y (.slice a2 y.slots.length c2)) by rw [hcy]; exact h21)
 have Q2 := hid (q1.trans (q2.mono q1.size))
 have HEQ := hid (same_any W2 _ _ x.slots y.slots (hsx.later Q2.out) (hsy.later Q2.out))
 have hax := HX.accAdLoad
 have hay := HY.accAdLoad
 obtain ⟨x20, x21, x22, x23, x24, x25, x26⟩ := HX.acc
 obtain ⟨y20, y21, y22, y23, y24, y25, y26⟩ := HY.acc
 have he := fun X => eq20 x.at_ y.at_ hx.at_ hy.at_ X
 have hw := eqv_w x.bal y.bal hx.bal hy.bal
 have hcode := same_code x.code y.code
 have HT := hid (fun (h1 : x.at_ = y.at_) (h2 : x.bal = y.bal) (h3 : x.non = y.non) (h4 : x.code = y.code) (h5 : x.slots = y.slots) => sameA_true (show x = y by cases x; cases y; simp_all))
 have HN := hid (fun (h : x ≠ y) => sameA_false h)
 have N1 := hid (fun (h : ¬ x.at_ = y.at_) => sameA_false (show x ≠ y from fun e => h (by rw [e])))
 have N2 := hid (fun (h : ¬ x.bal = y.bal) => sameA_false (show x ≠ y from fun e => h (by rw [e])))
 have N3 := hid (fun (h : ¬ x.non = y.non) => sameA_false (show x ≠ y from fun e => h (by rw [e])))
 have N4 := hid (fun (h : ¬ x.code = y.code) => sameA_false (show x ≠ y from fun e => h (by rw [e])))
 have N5 := hid (fun (h : ¬ x.slots = y.slots) => sameA_false (show x ≠ y from fun e => h (by rw [e])))
 obtain ⟨res, hres⟩ : ∃ res, sameA x y = res := ⟨_, rfl⟩
 rw [hres] at HT HN N1 N2 N3 N4 N5
 rw [hres]
 clear HN HX HY hcx hcy h10 h21 q1 q2 hx hy hsx hsy hres
 generalize adC x.at_ = ax at *
 generalize adC y.at_ = ay at *
 generalize lim x.bal 0 = l0 at *
 generalize lim x.bal 1 = l1 at *
 generalize lim x.bal 2 = l2 at *
 generalize lim x.bal 3 = l3 at *
 generalize lim y.bal 0 = m0 at *
 generalize lim y.bal 1 = m1 at *
 generalize lim y.bal 2 = m2 at *
 generalize lim y.bal 3 = m3 at *
 replace hcode := hid hcode
 by_cases h1 : x.at_ = y.at_
 ·rw [decide_eq_true h1] at he
  have H1 := hid h1
  clear h1 N1
  by_cases h2 : x.bal = y.bal
  ·rw [decide_eq_true h2] at hw
   have H2 := hid h2
   clear h2 N2
   by_cases h3 : x.non = y.non
   ·have h3I : (x.non == y.non) = true := by simp [h3]
    have H3 := hid h3
    clear h3 N3
    generalize x.non = n1 at *
    generalize y.non = n2 at *
    by_cases h4 : x.code = y.code
    ·have h4I : (x.code.toList == y.code.toList) = true := hcode.out.2 h4
     have H4 := hid h4
     clear h4 N4
     generalize x.code = d1 at *
     generalize y.code = d2 at *
     generalize x.slots.length = k1 at *
     generalize y.slots.length = k2 at *
     go_enter Tryz.func17, Tryz.ntmps17
     go_wp2_with (first | (refine wpList_load_known rfl _ (.tmp 5) rfl _ rfl _ hax ?_) | (refine wpList_load_known rfl _ (.tmp 7) rfl _ rfl _ hay ?_))
     refine HEQ.out.mono ?_
     rintro _ w3 ⟨rfl, q3⟩
     have Q3 := hid (Q2.out.trans (q3.mono Q2.out.size))
     by_cases h5 : x.slots = y.slots
     ·have E := hid (HT.out H1.out H2.out H3.out H4.out h5)
      rw [decide_eq_true h5]
      clear h5 q3 HEQ hW1 hW2
      go_wp2_with fail
      go_ret
      exact ⟨by rw [E.out]; rfl, Q3.out⟩
     ·have E := hid (N5.out h5)
      rw [decide_eq_false h5]
      clear h5 q3 HEQ hW1 hW2
      go_wp2_with fail
      go_ret
      exact ⟨by rw [E.out]; rfl, Q3.out⟩
    ·have h4I : (x.code.toList == y.code.toList) = false := by
      cases hb : (x.code.toList == y.code.toList) with
      | false => rfl
      | true => exact absurd (hcode.out.1 hb) h4
     have E := hid (N4.out h4)
     clear h4 N4
     generalize x.code = d1 at *
     generalize y.code = d2 at *
     generalize x.slots.length = k1 at *
     generalize y.slots.length = k2 at *
     go_enter Tryz.func17, Tryz.ntmps17
     go_wp2_with (first | (refine wpList_load_known rfl _ (.tmp 5) rfl _ rfl _ hax ?_) | (refine wpList_load_known rfl _ (.tmp 7) rfl _ rfl _ hay ?_))
     go_ret
     exact ⟨by rw [E.out]; rfl, Q2.out⟩
   ·have h3I : (x.non == y.non) = false := by simpa using h3
    have E := hid (N3.out h3)
    clear h3 N3
    generalize x.non = n1 at *
    generalize y.non = n2 at *
    go_enter Tryz.func17, Tryz.ntmps17
    go_wp2_with (first | (refine wpList_load_known rfl _ (.tmp 5) rfl _ rfl _ hax ?_) | (refine wpList_load_known rfl _ (.tmp 7) rfl _ rfl _ hay ?_))
    go_ret
    exact ⟨by rw [E.out]; rfl, Q2.out⟩
  ·rw [decide_eq_false h2] at hw
   have E := hid (N2.out h2)
   clear h2 N2
   go_enter Tryz.func17, Tryz.ntmps17
   go_wp2_with (first | (refine wpList_load_known rfl _ (.tmp 5) rfl _ rfl _ hax ?_) | (refine wpList_load_known rfl _ (.tmp 7) rfl _ rfl _ hay ?_))
   go_ret
   exact ⟨by rw [E.out]; rfl, Q2.out⟩
 ·rw [decide_eq_false h1] at he
  have E := hid (N1.out h1)
  clear h1 N1
  go_enter Tryz.func17, Tryz.ntmps17
  go_wp2_with (first | (refine wpList_load_known rfl _ (.tmp 5) rfl _ rfl _ hax ?_) | (refine wpList_load_known rfl _ (.tmp 7) rfl _ rfl _ hay ?_))
  go_ret
  exact ⟨by rw [E.out]; rfl, Q2.out⟩
theorem sameS_len {l m : List Ac} (h : l.length ≠ m.length) : sameS l m = false := sameS_false fun e => h (by rw [e])
theorem sameS_at {l m : List Ac} {k : Nat} {x y : Ac} (hx : l[k]? = some x) (hy : m[k]? = some y) (h : sameA x y = false) : sameS l m = false := sameS_false fun e => by
 subst e
 rw [hx] at hy
 injection hy with hy
 rw [sameA_true hy] at h
 cases h
theorem sameA_eq {x y : Ac} (h : sameA x y = true) : x = y := Classical.byContradiction fun hn => by rw [sameA_false hn] at h; cases h
theorem refSame_any8 (W : World) (sa sb : Value) (la lb : List Ac) (ha : StAt W sa la) (hb : StAt W sb lb) :
  Calls Tryz.prog 13 #[sa, sb] W fun e w' => e = .returned (.bool (sameS la lb)) ∧ Below W.heap.size W w' := by
 have hmx : Tryz.prog.follows .mixedOrders = true := by kernel_rfl
 obtain ⟨a, cap, rfl, hnc, hcm⟩ := ha.shape
 obtain ⟨a', cap', rfl, hnc', hcm'⟩ := hb.shape
 have HA := hid ha
 have HB := hid hb
 obtain ⟨n, hn⟩ : ∃ n, la.length = n := ⟨_, rfl⟩
 obtain ⟨m, hm⟩ : ∃ m, lb.length = m := ⟨_, rfl⟩
 rw [hn] at HA hnc ⊢
 rw [hm] at HB ⊢
 have HN := hid hn
 have HM := hid hm
 have hlc := hid (Nat.le_trans hnc hcm)
 clear ha hb hnc hcm hn hm hnc' hcm'
 have hfin := hid (show ∀ X v, Below W.heap.size W X → sameS la lb = v → (Ending.returned (.bool v) = .returned (.bool (sameS la lb)) ∧ Below W.heap.size W X) from fun X v hX h => ⟨by rw [h], hX⟩)
 obtain ⟨Post, hPost⟩ : ∃ Post : Ending → World → Prop, (fun (e : Ending) (w' : World) => e = .returned (.bool (sameS la lb)) ∧ Below W.heap.size W w') = Post := ⟨_, rfl⟩
 replace hfin := hid (show ∀ X v, Below W.heap.size W X → sameS la lb = v → Post (.returned (.bool v)) X by rw [← hPost]; exact hfin.out)
 rw [hPost]
 clear hPost
 by_cases hnm : n = m
 ·subst hnm
  go_enter Tryz.func13, Tryz.ntmps13
  go_wp2_with fail
  go_loopw [5] (fun i wr => ∃ k : Nat, k ≤ n ∧ i = .int .i64 (k : Int) ∧ (∀ (j : Nat) (x y : Ac), j < k → la[j]? = some x → lb[j]? = some y → x = y) ∧ Below W.heap.size W wr) (fun i _ => n - (intOf i).toNat)
  case atStart => exact ⟨0, by omega, rfl, fun j x y h => absurd h (by omega), Below.refl _ _⟩
  case round =>
   obtain ⟨k, hk, rfl, hlt, hq⟩ := hrel
   have HLT := hid hlt
   have HQ := hid hq
   clear hlt hq
   by_cases hkn : k < n
   ·have hknI : (k : Int) < (n : Int) := by omega
    have hk0 : (0 : Int) ≤ (k : Int) := by omega
    have hkb : (k : Int) ≤ 9223372036854775806 := by have := hlc.out; omega
    obtain ⟨x, hx⟩ : ∃ x, la[k]? = some x := ⟨_, List.getElem?_eq_getElem (by have := HN.out; omega)⟩
    obtain ⟨y, hy⟩ : ∃ y, lb[k]? = some y := ⟨_, List.getElem?_eq_getElem (by have := HM.out; omega)⟩
    obtain ⟨b, sx, rfl, ax⟩ := (HA.out.later HQ.out).at hx
    obtain ⟨b', sy, rfl, ay⟩ := (HB.out.later HQ.out).at hy
    have LX := hid (show ∀ z : World, Grows wr z → (loadVar 31 (b.add (k * 27))).run Tryz.prog z = .ok (.agg (acC x sx)) z from fun z hz => by obtain ⟨q, rfl⟩ := hz; exact (ax.later q.below).load)
    have LY := hid (show ∀ z : World, Grows wr z → (loadVar 31 (b'.add (k * 27))).run Tryz.prog z = .ok (.agg (acC y sy)) z from fun z hz => by obtain ⟨q, rfl⟩ := hz; exact (ay.later q.below).load)
    have KA := hid (fun z : Ext wr => Ext.at (refAlike_any8 z.w x y sx sy (HA.out.ok hx) (HB.out.ok hy) (ax.later z.below).slots (ay.later z.below).slots))
    have HX := hid (And.intro hx hy)
    have HK := hid hkn
    clear hx hy hk hkn ax ay
    generalize acC x sx = cx at *
    generalize acC y sy = cy at *
    obtain ⟨r, hr⟩ : ∃ r, sameA x y = r := ⟨_, rfl⟩
    rw [hr] at KA
    have HR := hid hr
    clear hr
    cases r with
    | false =>
     have hno := hid (show sameS la lb = false from sameS_at HX.out.1 HX.out.2 HR.out)
     go_wp2_with fail
     refine wp_region_quietL (C := Grows wr) hmx (by kernel_rfl) (grows_refl wr) ?_
     repeat (first | (with_reducible refine wpQuiet_load rfl 31 _ rfl _ rfl _ LX.out ?_; simp only [Act.put, sT, sS, sZ]) | (with_reducible refine wpQuiet_load rfl 31 _ rfl _ rfl _ LY.out ?_; simp only [Act.put, sT, sS, sZ]) | (go_big_quiet_step (with_reducible exact KA.out _)))
     refine wpQuiet_nil ?_
     rintro _ ⟨z, rfl⟩
     have HE := hid (HQ.out.trans (z.below.mono HQ.out.size))
     clear LX LY KA
     go_wp2_with fail
     exact hfin.out _ _ HE.out hno.out
    | true =>
     have HXY := hid (sameA_eq HR.out)
     go_wp2_with fail
     refine wp_region_quietL (C := Grows wr) hmx (by kernel_rfl) (grows_refl wr) ?_
     repeat (first | (with_reducible refine wpQuiet_load rfl 31 _ rfl _ rfl _ LX.out ?_; simp only [Act.put, sT, sS, sZ]) | (with_reducible refine wpQuiet_load rfl 31 _ rfl _ rfl _ LY.out ?_; simp only [Act.put, sT, sS, sZ]) | (go_big_quiet_step (with_reducible exact KA.out _)))
     refine wpQuiet_nil ?_
     rintro _ ⟨z, rfl⟩
     have HE := hid (HQ.out.trans (z.below.mono HQ.out.size))
     clear LX LY KA
     go_wp2_with fail
     go_roundw
     case rel =>
      refine ⟨k + 1, by have := HK.out; omega, by simp, fun j x' y' hj h1 h2 => ?_, HE.out⟩
      by_cases hjk : j < k
      ·exact HLT.out j x' y' hjk h1 h2
      ·obtain rfl : j = k := by omega
       rw [HX.out.1] at h1
       rw [HX.out.2] at h2
       injection h1 with h1
       injection h2 with h2
       subst h1 h2
       exact HXY.out
     case measure => have := HK.out; simp [intOf]; omega
   ·obtain rfl : k = n := by omega
    have hkk : ¬ (k : Int) < (k : Int) := by omega
    have hyes := hid (show sameS la lb = true from sameS_true (list_same HN.out HM.out fun j x y hx hy => HLT.out j x y (by have := (List.getElem?_eq_some_iff.1 hx).1; have := HN.out; omega) hx hy))
    clear hk hkn
    go_wp2_with fail
    exact hfin.out _ _ HQ.out hyes.out
 ·have hnI : ((n : Int) == (m : Int)) = false := by rw [beq_eq_false_iff_ne]; omega
  have hno := hid (show sameS la lb = false from sameS_len (by rw [HN.out, HM.out]; exact hnm))
  clear hnm
  go_enter Tryz.func13, Tryz.ntmps13
  go_wp2_with fail
  exact hfin.out _ _ (Below.refl _ _) hno.out
end
section
open Go Go.RowKit
attribute [local go_sem] Oper.semAt_some Grows wide_fn
def c0B : ByteArray := ⟨#[192]⟩
theorem enc_nil : encE (.mk true ⟨#[]⟩ []) = 0 ∧ encS (.mk true ⟨#[]⟩ []) = [192] := by
 have h1 : okI (.mk true ⟨#[]⟩ []) = true := by
  unfold okI
  rw [(rightB_iff 16 _).2 ⟨fun _ => rfl, fun h => by simp [It.list] at h, fun k hk => by simp [It.kids] at hk⟩]
  decide +kernel
 have h2 : encI (.mk true ⟨#[]⟩ []) = [192] := by decide +kernel
 have h3 : encE (.mk true ⟨#[]⟩ []) = 0 := encE_good h1 (by rw [h2]; decide)
 exact ⟨h3, by rw [encS_good h3, h2]⟩
theorem digest_nil (W : World) (hT : Tab W) :
  Calls Tryz.prog 25 #[.slice none 0 0] W fun e w' => e = .returned (.tuple #[.string (sumS c0B), .int .i64 0]) ∧ Below W.heap.size W w' := by
 have h := digest_any W hT (.slice none 0 0) [] (StAt.nil W)
 have he : digE [] = 0 := by unfold digE; rw [if_pos rightS_nil0]; exact enc_nil.1
 have hs : digS [] = sumS c0B := by
  unfold digS
  rw [if_pos he, show encI (stI []) = [192] from by rw [← encS_good (t := stI []) enc_nil.1]; exact enc_nil.2]
  rfl
 rw [he, hs] at h
 exact h
theorem c0_0 : blkN (padS c0B) 1 0 = 0x7a5dc7dee84dcc1d := by
 rw [one_block c0B 0 (by omega)]
 exact Nat.eq_of_beq_eq_true (by decide +kernel)
theorem c0_head : (sumS c0B).extract 0 6 = ⟨#[29, 204, 77, 232, 222, 199]⟩ := by
 unfold sumS
 rw [sqS_head, show c0B.size / 136 + 1 = 1 from rfl, c0_0]
 decide
end
end Go.Proofs.YtkicmbdjihjgfaaGreatDoor
