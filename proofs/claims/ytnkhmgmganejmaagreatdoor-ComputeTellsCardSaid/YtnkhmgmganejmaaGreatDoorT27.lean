/- Part. -/
import Derived.Test.YtnkhmgmganejmaaGreatDoorT20
import Derived.Test.YtnkhmgmganejmaaGreatDoorT24
import Derived.Test.YtnkhmgmganejmaaGreatDoorT25
import Derived.Test.YtnkhmgmganejmaaGreatDoorT26
import Derived.Test.YtnkhmgmganejmaaGreatDoorT22
import Derived.Test.YtnkhmgmganejmaaGreatDoorT21
set_option maxRecDepth 100000
set_option maxHeartbeats 16000000
namespace Go.Proofs.YtnkhmgmganejmaaGreatDoor
open Go Go.RowKit
attribute [local go_sem] Oper.semAt_some Grows wide_fn eq4
theorem ris_any (op : Nat) (ho : op < 256) (w : World) : Calls Tryz.prog 15 #[.int .u8 (op : Int)] w fun e w' => e = .returned (.bool (isOp op)) ∧ w' = w := by
 have o0 : (0 : Int) ≤ (op : Int) := by omega
 have key : ((op : Int) < 1 ∧ isOp op = false) ∨ ((1 : Int) ≤ op ∧ (op : Int) ≤ 11 ∧ isOp op = true) ∨ ((11 : Int) < op ∧ (op : Int) < 16 ∧ isOp op = false) ∨ ((16 : Int) ≤ op ∧ (op : Int) ≤ 29 ∧ isOp op = true) ∨ ((29 : Int) < op ∧ (op : Int) < 80 ∧ isOp op = false) ∨ (op = 80 ∧ isOp op = true) ∨ ((80 : Int) < op ∧ (op : Int) < 128 ∧ isOp op = false) ∨ ((128 : Int) ≤ op ∧ (op : Int) ≤ 159 ∧ isOp op = true) ∨ ((159 : Int) < op ∧ isOp op = false) := by
  unfold isOp
  simp only [decide_eq_true_eq, decide_eq_false_iff_not]
  omega
 have HK := hid key
 clear key
 obtain ⟨b, hb⟩ : ∃ b, isOp op = b := ⟨_, rfl⟩
 have HB := hid hb
 rw [hb] at HK ⊢
 clear hb
 rcases HK.out with ⟨h1, rfl⟩ | ⟨h1, h2, rfl⟩ | ⟨h1, h2, rfl⟩ | ⟨h1, h2, rfl⟩ | ⟨h1, h2, rfl⟩ | ⟨rfl, rfl⟩ | ⟨h1, h2, rfl⟩ | ⟨h1, h2, rfl⟩ | ⟨h1, rfl⟩
 ·clear HK HB
  have a0 : ¬ (1 : Int) ≤ (op : Int) := by omega
  have a1 : ¬ (16 : Int) ≤ (op : Int) := by omega
  have a2 : ¬ (128 : Int) ≤ (op : Int) := by omega
  have b0 : (op : Int) ≤ 11 := by omega
  have b1 : (op : Int) ≤ 29 := by omega
  have b2 : (op : Int) ≤ 159 := by omega
  have c0 : ¬ (op : Int) = 80 := by omega
  have c1 : ((op : Int) == 80) = false := by simpa using c0
  go_enter Tryz.func15, Tryz.ntmps15
  go_wp2
  go_ret
  exact ⟨rfl, rfl⟩
 ·clear HK HB
  have a0 : (1 : Int) ≤ (op : Int) := by omega
  have a1 : ¬ (16 : Int) ≤ (op : Int) := by omega
  have a2 : ¬ (128 : Int) ≤ (op : Int) := by omega
  have b0 : (op : Int) ≤ 11 := by omega
  have b1 : (op : Int) ≤ 29 := by omega
  have b2 : (op : Int) ≤ 159 := by omega
  have c0 : ¬ (op : Int) = 80 := by omega
  have c1 : ((op : Int) == 80) = false := by simpa using c0
  go_enter Tryz.func15, Tryz.ntmps15
  go_wp2
  go_ret
  exact ⟨rfl, rfl⟩
 ·clear HK HB
  have a0 : (1 : Int) ≤ (op : Int) := by omega
  have a1 : ¬ (16 : Int) ≤ (op : Int) := by omega
  have a2 : ¬ (128 : Int) ≤ (op : Int) := by omega
  have b0 : ¬ (op : Int) ≤ 11 := by omega
  have b1 : (op : Int) ≤ 29 := by omega
  have b2 : (op : Int) ≤ 159 := by omega
  have c0 : ¬ (op : Int) = 80 := by omega
  have c1 : ((op : Int) == 80) = false := by simpa using c0
  go_enter Tryz.func15, Tryz.ntmps15
  go_wp2
  go_ret
  exact ⟨rfl, rfl⟩
 ·clear HK HB
  have a0 : (1 : Int) ≤ (op : Int) := by omega
  have a1 : (16 : Int) ≤ (op : Int) := by omega
  have a2 : ¬ (128 : Int) ≤ (op : Int) := by omega
  have b0 : ¬ (op : Int) ≤ 11 := by omega
  have b1 : (op : Int) ≤ 29 := by omega
  have b2 : (op : Int) ≤ 159 := by omega
  have c0 : ¬ (op : Int) = 80 := by omega
  have c1 : ((op : Int) == 80) = false := by simpa using c0
  go_enter Tryz.func15, Tryz.ntmps15
  go_wp2
  go_ret
  exact ⟨rfl, rfl⟩
 ·clear HK HB
  have a0 : (1 : Int) ≤ (op : Int) := by omega
  have a1 : (16 : Int) ≤ (op : Int) := by omega
  have a2 : ¬ (128 : Int) ≤ (op : Int) := by omega
  have b0 : ¬ (op : Int) ≤ 11 := by omega
  have b1 : ¬ (op : Int) ≤ 29 := by omega
  have b2 : (op : Int) ≤ 159 := by omega
  have c0 : ¬ (op : Int) = 80 := by omega
  have c1 : ((op : Int) == 80) = false := by simpa using c0
  go_enter Tryz.func15, Tryz.ntmps15
  go_wp2
  go_ret
  exact ⟨rfl, rfl⟩
 ·clear HK HB
  go_enter Tryz.func15, Tryz.ntmps15
  go_wp2
  go_ret
  exact ⟨rfl, rfl⟩
 ·clear HK HB
  have a0 : (1 : Int) ≤ (op : Int) := by omega
  have a1 : (16 : Int) ≤ (op : Int) := by omega
  have a2 : ¬ (128 : Int) ≤ (op : Int) := by omega
  have b0 : ¬ (op : Int) ≤ 11 := by omega
  have b1 : ¬ (op : Int) ≤ 29 := by omega
  have b2 : (op : Int) ≤ 159 := by omega
  have c0 : ¬ (op : Int) = 80 := by omega
  have c1 : ((op : Int) == 80) = false := by simpa using c0
  go_enter Tryz.func15, Tryz.ntmps15
  go_wp2
  go_ret
  exact ⟨rfl, rfl⟩
 ·clear HK HB
  have a0 : (1 : Int) ≤ (op : Int) := by omega
  have a1 : (16 : Int) ≤ (op : Int) := by omega
  have a2 : (128 : Int) ≤ (op : Int) := by omega
  have b0 : ¬ (op : Int) ≤ 11 := by omega
  have b1 : ¬ (op : Int) ≤ 29 := by omega
  have b2 : (op : Int) ≤ 159 := by omega
  have c0 : ¬ (op : Int) = 80 := by omega
  have c1 : ((op : Int) == 80) = false := by simpa using c0
  go_enter Tryz.func15, Tryz.ntmps15
  go_wp2
  go_ret
  exact ⟨rfl, rfl⟩
 ·clear HK HB
  have a0 : (1 : Int) ≤ (op : Int) := by omega
  have a1 : (16 : Int) ≤ (op : Int) := by omega
  have a2 : (128 : Int) ≤ (op : Int) := by omega
  have b0 : ¬ (op : Int) ≤ 11 := by omega
  have b1 : ¬ (op : Int) ≤ 29 := by omega
  have b2 : ¬ (op : Int) ≤ 159 := by omega
  have c0 : ¬ (op : Int) = 80 := by omega
  have c1 : ((op : Int) == 80) = false := by simpa using c0
  go_enter Tryz.func15, Tryz.ntmps15
  go_wp2
  go_ret
  exact ⟨rfl, rfl⟩
theorem flag_t (z : Nat → Int) (h : Ret Tryz.prog 10 #[.int .i64 1] (.agg #[.int .u64 (z 0), .int .u64 (z 1), .int .u64 (z 2), .int .u64 (z 3)])) :
  Ret Tryz.prog 48 #[.bool true] (.agg #[.int .u64 (z 0), .int .u64 (z 1), .int .u64 (z 2), .int .u64 (z 3)]) := by
 intro w
 have Hh := hid h
 clear h
 go_enter Tryz.func48, Tryz.ntmps48
 have LR := Has.new w 24 z4
 obtain ⟨k1, k2, k3, k4⟩ := c4 LR
 have Q := (Below.refl w.heap.size w)
 have Q := Q.alloc Q.size (.cells z4 24)
 go_wp2_with fail
 clear k1 k2 k3 k4
 obtain ⟨W1, hW1⟩ : ∃ W1, (w.alloc (.cells z4 24)) = W1 := ⟨_, rfl⟩
 rw [hW1] at LR Q ⊢
 clear hW1
 refine (Hh.out _).mono ?_
 rintro e v5 ⟨rfl, q⟩
 have LR := LR.later q
 have Q := Q.trans (q.mono Q.size)
 clear q
 obtain ⟨r0, r1, r2, r3⟩ := c4 LR
 obtain ⟨z0, z1, z2, z3⟩ := f4 LR
 have HR := hid ((s4 LR z))
 have HQ := hid ((q4 (w.heap.size) Q (by omega) z))
 clear Q LR
 go_wp2
 refine bodyPost_ret (results_word (m := z) rfl rfl HR.out) rfl ⟨rfl, HQ.out⟩
theorem flag_f : Ret Tryz.prog 48 #[.bool false] (.agg #[.int .u64 0, .int .u64 0, .int .u64 0, .int .u64 0]) := by
 intro w
 have HR := hid (Has.new w 24 z4)
 obtain ⟨r0, r1, r2, r3⟩ := c4 HR.out
 have z0 := HR.out.frozen 0
 have z1 := HR.out.frozen 1
 have z2 := HR.out.frozen 2
 have z3 := HR.out.frozen 3
 go_enter Tryz.func48, Tryz.ntmps48
 go_wp2
 exact bodyPost_ret (results_word (m := fun _ => 0) rfl rfl HR.out) rfl ⟨rfl, (Below.refl _ w).alloc (Nat.le_refl _) _⟩
theorem flag_ret (b : Bool) : Ret Tryz.prog 48 #[.bool b] (wv (truN b)) := by
 cases b
 ·exact flag_f.of_eq rfl wv_0.symm
 ·exact flag_t (lim 1) (refOf_ret 1 (by unfold I64; omega))
theorem sums_1 (za zb zc z : Nat → Int) (h : Ret Tryz.prog 37 #[.agg #[.int .u64 (za 0), .int .u64 (za 1), .int .u64 (za 2), .int .u64 (za 3)], .agg #[.int .u64 (zb 0), .int .u64 (zb 1), .int .u64 (zb 2), .int .u64 (zb 3)]] (.agg #[.int .u64 (z 0), .int .u64 (z 1), .int .u64 (z 2), .int .u64 (z 3)])) :
  Ret Tryz.prog 25 #[.int .u8 1, .agg #[.int .u64 (za 0), .int .u64 (za 1), .int .u64 (za 2), .int .u64 (za 3)], .agg #[.int .u64 (zb 0), .int .u64 (zb 1), .int .u64 (zb 2), .int .u64 (zb 3)], .agg #[.int .u64 (zc 0), .int .u64 (zc 1), .int .u64 (zc 2), .int .u64 (zc 3)]] (.agg #[.int .u64 (z 0), .int .u64 (z 1), .int .u64 (z 2), .int .u64 (z 3)]) := by
 intro w
 have Hh := hid h
 clear h
 go_enter Tryz.func25, Tryz.ntmps25
 obtain ⟨⟨⟨k25, k26, k27, k28⟩, ⟨k29, k30, k31, k32⟩, ⟨k33, k34, k35, k36⟩, ⟨k37, k38, k39, k40⟩⟩, W1, hW1, LA, LB, LC, LR, Q⟩ := pwwwz w 24 za zb zc
 go_wp2_with fail
 clear k25 k26 k27 k28 k29 k30 k31 k32 k33 k34 k35 k36 k37 k38 k39 k40
 rw [hW1.out]
 clear hW1
 refine (Hh.out _).mono ?_
 rintro e v41 ⟨rfl, q⟩
 have LA := LA.later q
 have LB := LB.later q
 have LC := LC.later q
 have LR := LR.later q
 have Q := Q.trans (q.mono Q.size)
 clear q
 obtain ⟨r0, r1, r2, r3⟩ := c4 LR
 obtain ⟨z0, z1, z2, z3⟩ := f4 LR
 obtain ⟨k42, k43, k44, k45⟩ := c4 LA
 obtain ⟨k46, k47, k48, k49⟩ := c4 LB
 obtain ⟨k50, k51, k52, k53⟩ := c4 LC
 have HR := hid ((s4 LR z))
 have HQ := hid ((q4 (w.heap.size + 1 + 1 + 1) Q (by omega) z))
 clear Q LA LB LC LR
 go_wp2
 refine bodyPost_ret (results_word (m := z) rfl rfl HR.out) rfl ⟨rfl, HQ.out⟩
theorem sums_2 (za zb zc z : Nat → Int) (h : Ret Tryz.prog 38 #[.agg #[.int .u64 (za 0), .int .u64 (za 1), .int .u64 (za 2), .int .u64 (za 3)], .agg #[.int .u64 (zb 0), .int .u64 (zb 1), .int .u64 (zb 2), .int .u64 (zb 3)]] (.agg #[.int .u64 (z 0), .int .u64 (z 1), .int .u64 (z 2), .int .u64 (z 3)])) :
  Ret Tryz.prog 25 #[.int .u8 2, .agg #[.int .u64 (za 0), .int .u64 (za 1), .int .u64 (za 2), .int .u64 (za 3)], .agg #[.int .u64 (zb 0), .int .u64 (zb 1), .int .u64 (zb 2), .int .u64 (zb 3)], .agg #[.int .u64 (zc 0), .int .u64 (zc 1), .int .u64 (zc 2), .int .u64 (zc 3)]] (.agg #[.int .u64 (z 0), .int .u64 (z 1), .int .u64 (z 2), .int .u64 (z 3)]) := by
 intro w
 have Hh := hid h
 clear h
 go_enter Tryz.func25, Tryz.ntmps25
 obtain ⟨⟨⟨k25, k26, k27, k28⟩, ⟨k29, k30, k31, k32⟩, ⟨k33, k34, k35, k36⟩, ⟨k37, k38, k39, k40⟩⟩, W1, hW1, LA, LB, LC, LR, Q⟩ := pwwwz w 24 za zb zc
 go_wp2_with fail
 clear k25 k26 k27 k28 k29 k30 k31 k32 k33 k34 k35 k36 k37 k38 k39 k40
 rw [hW1.out]
 clear hW1
 refine (Hh.out _).mono ?_
 rintro e v41 ⟨rfl, q⟩
 have LA := LA.later q
 have LB := LB.later q
 have LC := LC.later q
 have LR := LR.later q
 have Q := Q.trans (q.mono Q.size)
 clear q
 obtain ⟨r0, r1, r2, r3⟩ := c4 LR
 obtain ⟨z0, z1, z2, z3⟩ := f4 LR
 obtain ⟨k42, k43, k44, k45⟩ := c4 LA
 obtain ⟨k46, k47, k48, k49⟩ := c4 LB
 obtain ⟨k50, k51, k52, k53⟩ := c4 LC
 have HR := hid ((s4 LR z))
 have HQ := hid ((q4 (w.heap.size + 1 + 1 + 1) Q (by omega) z))
 clear Q LA LB LC LR
 go_wp2
 refine bodyPost_ret (results_word (m := z) rfl rfl HR.out) rfl ⟨rfl, HQ.out⟩
theorem sums_3 (za zb zc z : Nat → Int) (h : Ret Tryz.prog 39 #[.agg #[.int .u64 (za 0), .int .u64 (za 1), .int .u64 (za 2), .int .u64 (za 3)], .agg #[.int .u64 (zb 0), .int .u64 (zb 1), .int .u64 (zb 2), .int .u64 (zb 3)]] (.agg #[.int .u64 (z 0), .int .u64 (z 1), .int .u64 (z 2), .int .u64 (z 3)])) :
  Ret Tryz.prog 25 #[.int .u8 3, .agg #[.int .u64 (za 0), .int .u64 (za 1), .int .u64 (za 2), .int .u64 (za 3)], .agg #[.int .u64 (zb 0), .int .u64 (zb 1), .int .u64 (zb 2), .int .u64 (zb 3)], .agg #[.int .u64 (zc 0), .int .u64 (zc 1), .int .u64 (zc 2), .int .u64 (zc 3)]] (.agg #[.int .u64 (z 0), .int .u64 (z 1), .int .u64 (z 2), .int .u64 (z 3)]) := by
 intro w
 have Hh := hid h
 clear h
 go_enter Tryz.func25, Tryz.ntmps25
 obtain ⟨⟨⟨k25, k26, k27, k28⟩, ⟨k29, k30, k31, k32⟩, ⟨k33, k34, k35, k36⟩, ⟨k37, k38, k39, k40⟩⟩, W1, hW1, LA, LB, LC, LR, Q⟩ := pwwwz w 24 za zb zc
 go_wp2_with fail
 clear k25 k26 k27 k28 k29 k30 k31 k32 k33 k34 k35 k36 k37 k38 k39 k40
 rw [hW1.out]
 clear hW1
 refine (Hh.out _).mono ?_
 rintro e v41 ⟨rfl, q⟩
 have LA := LA.later q
 have LB := LB.later q
 have LC := LC.later q
 have LR := LR.later q
 have Q := Q.trans (q.mono Q.size)
 clear q
 obtain ⟨r0, r1, r2, r3⟩ := c4 LR
 obtain ⟨z0, z1, z2, z3⟩ := f4 LR
 obtain ⟨k42, k43, k44, k45⟩ := c4 LA
 obtain ⟨k46, k47, k48, k49⟩ := c4 LB
 obtain ⟨k50, k51, k52, k53⟩ := c4 LC
 have HR := hid ((s4 LR z))
 have HQ := hid ((q4 (w.heap.size + 1 + 1 + 1) Q (by omega) z))
 clear Q LA LB LC LR
 go_wp2
 refine bodyPost_ret (results_word (m := z) rfl rfl HR.out) rfl ⟨rfl, HQ.out⟩
theorem sums_4 (za zb zc z : Nat → Int) (h : Ret Tryz.prog 40 #[.agg #[.int .u64 (za 0), .int .u64 (za 1), .int .u64 (za 2), .int .u64 (za 3)], .agg #[.int .u64 (zb 0), .int .u64 (zb 1), .int .u64 (zb 2), .int .u64 (zb 3)]] (.agg #[.int .u64 (z 0), .int .u64 (z 1), .int .u64 (z 2), .int .u64 (z 3)])) :
  Ret Tryz.prog 25 #[.int .u8 4, .agg #[.int .u64 (za 0), .int .u64 (za 1), .int .u64 (za 2), .int .u64 (za 3)], .agg #[.int .u64 (zb 0), .int .u64 (zb 1), .int .u64 (zb 2), .int .u64 (zb 3)], .agg #[.int .u64 (zc 0), .int .u64 (zc 1), .int .u64 (zc 2), .int .u64 (zc 3)]] (.agg #[.int .u64 (z 0), .int .u64 (z 1), .int .u64 (z 2), .int .u64 (z 3)]) := by
 intro w
 have Hh := hid h
 clear h
 go_enter Tryz.func25, Tryz.ntmps25
 obtain ⟨⟨⟨k25, k26, k27, k28⟩, ⟨k29, k30, k31, k32⟩, ⟨k33, k34, k35, k36⟩, ⟨k37, k38, k39, k40⟩⟩, W1, hW1, LA, LB, LC, LR, Q⟩ := pwwwz w 24 za zb zc
 go_wp2_with fail
 clear k25 k26 k27 k28 k29 k30 k31 k32 k33 k34 k35 k36 k37 k38 k39 k40
 rw [hW1.out]
 clear hW1
 refine (Hh.out _).mono ?_
 rintro e v41 ⟨rfl, q⟩
 have LA := LA.later q
 have LB := LB.later q
 have LC := LC.later q
 have LR := LR.later q
 have Q := Q.trans (q.mono Q.size)
 clear q
 obtain ⟨r0, r1, r2, r3⟩ := c4 LR
 obtain ⟨z0, z1, z2, z3⟩ := f4 LR
 obtain ⟨k42, k43, k44, k45⟩ := c4 LA
 obtain ⟨k46, k47, k48, k49⟩ := c4 LB
 obtain ⟨k50, k51, k52, k53⟩ := c4 LC
 have HR := hid ((s4 LR z))
 have HQ := hid ((q4 (w.heap.size + 1 + 1 + 1) Q (by omega) z))
 clear Q LA LB LC LR
 go_wp2
 refine bodyPost_ret (results_word (m := z) rfl rfl HR.out) rfl ⟨rfl, HQ.out⟩
theorem sums_5 (za zb zc z : Nat → Int) (h : Ret Tryz.prog 41 #[.agg #[.int .u64 (za 0), .int .u64 (za 1), .int .u64 (za 2), .int .u64 (za 3)], .agg #[.int .u64 (zb 0), .int .u64 (zb 1), .int .u64 (zb 2), .int .u64 (zb 3)]] (.agg #[.int .u64 (z 0), .int .u64 (z 1), .int .u64 (z 2), .int .u64 (z 3)])) :
  Ret Tryz.prog 25 #[.int .u8 5, .agg #[.int .u64 (za 0), .int .u64 (za 1), .int .u64 (za 2), .int .u64 (za 3)], .agg #[.int .u64 (zb 0), .int .u64 (zb 1), .int .u64 (zb 2), .int .u64 (zb 3)], .agg #[.int .u64 (zc 0), .int .u64 (zc 1), .int .u64 (zc 2), .int .u64 (zc 3)]] (.agg #[.int .u64 (z 0), .int .u64 (z 1), .int .u64 (z 2), .int .u64 (z 3)]) := by
 intro w
 have Hh := hid h
 clear h
 go_enter Tryz.func25, Tryz.ntmps25
 obtain ⟨⟨⟨k25, k26, k27, k28⟩, ⟨k29, k30, k31, k32⟩, ⟨k33, k34, k35, k36⟩, ⟨k37, k38, k39, k40⟩⟩, W1, hW1, LA, LB, LC, LR, Q⟩ := pwwwz w 24 za zb zc
 go_wp2_with fail
 clear k25 k26 k27 k28 k29 k30 k31 k32 k33 k34 k35 k36 k37 k38 k39 k40
 rw [hW1.out]
 clear hW1
 refine (Hh.out _).mono ?_
 rintro e v41 ⟨rfl, q⟩
 have LA := LA.later q
 have LB := LB.later q
 have LC := LC.later q
 have LR := LR.later q
 have Q := Q.trans (q.mono Q.size)
 clear q
 obtain ⟨r0, r1, r2, r3⟩ := c4 LR
 obtain ⟨z0, z1, z2, z3⟩ := f4 LR
 obtain ⟨k42, k43, k44, k45⟩ := c4 LA
 obtain ⟨k46, k47, k48, k49⟩ := c4 LB
 obtain ⟨k50, k51, k52, k53⟩ := c4 LC
 have HR := hid ((s4 LR z))
 have HQ := hid ((q4 (w.heap.size + 1 + 1 + 1) Q (by omega) z))
 clear Q LA LB LC LR
 go_wp2
 refine bodyPost_ret (results_word (m := z) rfl rfl HR.out) rfl ⟨rfl, HQ.out⟩
theorem sums_6 (za zb zc z : Nat → Int) (h : Ret Tryz.prog 42 #[.agg #[.int .u64 (za 0), .int .u64 (za 1), .int .u64 (za 2), .int .u64 (za 3)], .agg #[.int .u64 (zb 0), .int .u64 (zb 1), .int .u64 (zb 2), .int .u64 (zb 3)]] (.agg #[.int .u64 (z 0), .int .u64 (z 1), .int .u64 (z 2), .int .u64 (z 3)])) :
  Ret Tryz.prog 25 #[.int .u8 6, .agg #[.int .u64 (za 0), .int .u64 (za 1), .int .u64 (za 2), .int .u64 (za 3)], .agg #[.int .u64 (zb 0), .int .u64 (zb 1), .int .u64 (zb 2), .int .u64 (zb 3)], .agg #[.int .u64 (zc 0), .int .u64 (zc 1), .int .u64 (zc 2), .int .u64 (zc 3)]] (.agg #[.int .u64 (z 0), .int .u64 (z 1), .int .u64 (z 2), .int .u64 (z 3)]) := by
 intro w
 have Hh := hid h
 clear h
 go_enter Tryz.func25, Tryz.ntmps25
 obtain ⟨⟨⟨k25, k26, k27, k28⟩, ⟨k29, k30, k31, k32⟩, ⟨k33, k34, k35, k36⟩, ⟨k37, k38, k39, k40⟩⟩, W1, hW1, LA, LB, LC, LR, Q⟩ := pwwwz w 24 za zb zc
 go_wp2_with fail
 clear k25 k26 k27 k28 k29 k30 k31 k32 k33 k34 k35 k36 k37 k38 k39 k40
 rw [hW1.out]
 clear hW1
 refine (Hh.out _).mono ?_
 rintro e v41 ⟨rfl, q⟩
 have LA := LA.later q
 have LB := LB.later q
 have LC := LC.later q
 have LR := LR.later q
 have Q := Q.trans (q.mono Q.size)
 clear q
 obtain ⟨r0, r1, r2, r3⟩ := c4 LR
 obtain ⟨z0, z1, z2, z3⟩ := f4 LR
 obtain ⟨k42, k43, k44, k45⟩ := c4 LA
 obtain ⟨k46, k47, k48, k49⟩ := c4 LB
 obtain ⟨k50, k51, k52, k53⟩ := c4 LC
 have HR := hid ((s4 LR z))
 have HQ := hid ((q4 (w.heap.size + 1 + 1 + 1) Q (by omega) z))
 clear Q LA LB LC LR
 go_wp2
 refine bodyPost_ret (results_word (m := z) rfl rfl HR.out) rfl ⟨rfl, HQ.out⟩
theorem sums_7 (za zb zc z : Nat → Int) (h : Ret Tryz.prog 43 #[.agg #[.int .u64 (za 0), .int .u64 (za 1), .int .u64 (za 2), .int .u64 (za 3)], .agg #[.int .u64 (zb 0), .int .u64 (zb 1), .int .u64 (zb 2), .int .u64 (zb 3)]] (.agg #[.int .u64 (z 0), .int .u64 (z 1), .int .u64 (z 2), .int .u64 (z 3)])) :
  Ret Tryz.prog 25 #[.int .u8 7, .agg #[.int .u64 (za 0), .int .u64 (za 1), .int .u64 (za 2), .int .u64 (za 3)], .agg #[.int .u64 (zb 0), .int .u64 (zb 1), .int .u64 (zb 2), .int .u64 (zb 3)], .agg #[.int .u64 (zc 0), .int .u64 (zc 1), .int .u64 (zc 2), .int .u64 (zc 3)]] (.agg #[.int .u64 (z 0), .int .u64 (z 1), .int .u64 (z 2), .int .u64 (z 3)]) := by
 intro w
 have Hh := hid h
 clear h
 go_enter Tryz.func25, Tryz.ntmps25
 obtain ⟨⟨⟨k25, k26, k27, k28⟩, ⟨k29, k30, k31, k32⟩, ⟨k33, k34, k35, k36⟩, ⟨k37, k38, k39, k40⟩⟩, W1, hW1, LA, LB, LC, LR, Q⟩ := pwwwz w 24 za zb zc
 go_wp2_with fail
 clear k25 k26 k27 k28 k29 k30 k31 k32 k33 k34 k35 k36 k37 k38 k39 k40
 rw [hW1.out]
 clear hW1
 refine (Hh.out _).mono ?_
 rintro e v41 ⟨rfl, q⟩
 have LA := LA.later q
 have LB := LB.later q
 have LC := LC.later q
 have LR := LR.later q
 have Q := Q.trans (q.mono Q.size)
 clear q
 obtain ⟨r0, r1, r2, r3⟩ := c4 LR
 obtain ⟨z0, z1, z2, z3⟩ := f4 LR
 obtain ⟨k42, k43, k44, k45⟩ := c4 LA
 obtain ⟨k46, k47, k48, k49⟩ := c4 LB
 obtain ⟨k50, k51, k52, k53⟩ := c4 LC
 have HR := hid ((s4 LR z))
 have HQ := hid ((q4 (w.heap.size + 1 + 1 + 1) Q (by omega) z))
 clear Q LA LB LC LR
 go_wp2
 refine bodyPost_ret (results_word (m := z) rfl rfl HR.out) rfl ⟨rfl, HQ.out⟩
theorem sums_8 (za zb zc z : Nat → Int) (h : Ret Tryz.prog 44 #[.agg #[.int .u64 (za 0), .int .u64 (za 1), .int .u64 (za 2), .int .u64 (za 3)], .agg #[.int .u64 (zb 0), .int .u64 (zb 1), .int .u64 (zb 2), .int .u64 (zb 3)], .agg #[.int .u64 (zc 0), .int .u64 (zc 1), .int .u64 (zc 2), .int .u64 (zc 3)]] (.agg #[.int .u64 (z 0), .int .u64 (z 1), .int .u64 (z 2), .int .u64 (z 3)])) :
  Ret Tryz.prog 25 #[.int .u8 8, .agg #[.int .u64 (za 0), .int .u64 (za 1), .int .u64 (za 2), .int .u64 (za 3)], .agg #[.int .u64 (zb 0), .int .u64 (zb 1), .int .u64 (zb 2), .int .u64 (zb 3)], .agg #[.int .u64 (zc 0), .int .u64 (zc 1), .int .u64 (zc 2), .int .u64 (zc 3)]] (.agg #[.int .u64 (z 0), .int .u64 (z 1), .int .u64 (z 2), .int .u64 (z 3)]) := by
 intro w
 have Hh := hid h
 clear h
 go_enter Tryz.func25, Tryz.ntmps25
 obtain ⟨⟨⟨k25, k26, k27, k28⟩, ⟨k29, k30, k31, k32⟩, ⟨k33, k34, k35, k36⟩, ⟨k37, k38, k39, k40⟩⟩, W1, hW1, LA, LB, LC, LR, Q⟩ := pwwwz w 24 za zb zc
 go_wp2_with fail
 clear k25 k26 k27 k28 k29 k30 k31 k32 k33 k34 k35 k36 k37 k38 k39 k40
 rw [hW1.out]
 clear hW1
 refine (Hh.out _).mono ?_
 rintro e v41 ⟨rfl, q⟩
 have LA := LA.later q
 have LB := LB.later q
 have LC := LC.later q
 have LR := LR.later q
 have Q := Q.trans (q.mono Q.size)
 clear q
 obtain ⟨r0, r1, r2, r3⟩ := c4 LR
 obtain ⟨z0, z1, z2, z3⟩ := f4 LR
 obtain ⟨k42, k43, k44, k45⟩ := c4 LA
 obtain ⟨k46, k47, k48, k49⟩ := c4 LB
 obtain ⟨k50, k51, k52, k53⟩ := c4 LC
 have HR := hid ((s4 LR z))
 have HQ := hid ((q4 (w.heap.size + 1 + 1 + 1) Q (by omega) z))
 clear Q LA LB LC LR
 go_wp2
 refine bodyPost_ret (results_word (m := z) rfl rfl HR.out) rfl ⟨rfl, HQ.out⟩
theorem sums_9 (za zb zc z : Nat → Int) (h : Ret Tryz.prog 45 #[.agg #[.int .u64 (za 0), .int .u64 (za 1), .int .u64 (za 2), .int .u64 (za 3)], .agg #[.int .u64 (zb 0), .int .u64 (zb 1), .int .u64 (zb 2), .int .u64 (zb 3)], .agg #[.int .u64 (zc 0), .int .u64 (zc 1), .int .u64 (zc 2), .int .u64 (zc 3)]] (.agg #[.int .u64 (z 0), .int .u64 (z 1), .int .u64 (z 2), .int .u64 (z 3)])) :
  Ret Tryz.prog 25 #[.int .u8 9, .agg #[.int .u64 (za 0), .int .u64 (za 1), .int .u64 (za 2), .int .u64 (za 3)], .agg #[.int .u64 (zb 0), .int .u64 (zb 1), .int .u64 (zb 2), .int .u64 (zb 3)], .agg #[.int .u64 (zc 0), .int .u64 (zc 1), .int .u64 (zc 2), .int .u64 (zc 3)]] (.agg #[.int .u64 (z 0), .int .u64 (z 1), .int .u64 (z 2), .int .u64 (z 3)]) := by
 intro w
 have Hh := hid h
 clear h
 go_enter Tryz.func25, Tryz.ntmps25
 obtain ⟨⟨⟨k25, k26, k27, k28⟩, ⟨k29, k30, k31, k32⟩, ⟨k33, k34, k35, k36⟩, ⟨k37, k38, k39, k40⟩⟩, W1, hW1, LA, LB, LC, LR, Q⟩ := pwwwz w 24 za zb zc
 go_wp2_with fail
 clear k25 k26 k27 k28 k29 k30 k31 k32 k33 k34 k35 k36 k37 k38 k39 k40
 rw [hW1.out]
 clear hW1
 refine (Hh.out _).mono ?_
 rintro e v41 ⟨rfl, q⟩
 have LA := LA.later q
 have LB := LB.later q
 have LC := LC.later q
 have LR := LR.later q
 have Q := Q.trans (q.mono Q.size)
 clear q
 obtain ⟨r0, r1, r2, r3⟩ := c4 LR
 obtain ⟨z0, z1, z2, z3⟩ := f4 LR
 obtain ⟨k42, k43, k44, k45⟩ := c4 LA
 obtain ⟨k46, k47, k48, k49⟩ := c4 LB
 obtain ⟨k50, k51, k52, k53⟩ := c4 LC
 have HR := hid ((s4 LR z))
 have HQ := hid ((q4 (w.heap.size + 1 + 1 + 1) Q (by omega) z))
 clear Q LA LB LC LR
 go_wp2
 refine bodyPost_ret (results_word (m := z) rfl rfl HR.out) rfl ⟨rfl, HQ.out⟩
theorem sums_10 (za zb zc z : Nat → Int) (h : Ret Tryz.prog 46 #[.agg #[.int .u64 (za 0), .int .u64 (za 1), .int .u64 (za 2), .int .u64 (za 3)], .agg #[.int .u64 (zb 0), .int .u64 (zb 1), .int .u64 (zb 2), .int .u64 (zb 3)]] (.agg #[.int .u64 (z 0), .int .u64 (z 1), .int .u64 (z 2), .int .u64 (z 3)])) :
  Ret Tryz.prog 25 #[.int .u8 10, .agg #[.int .u64 (za 0), .int .u64 (za 1), .int .u64 (za 2), .int .u64 (za 3)], .agg #[.int .u64 (zb 0), .int .u64 (zb 1), .int .u64 (zb 2), .int .u64 (zb 3)], .agg #[.int .u64 (zc 0), .int .u64 (zc 1), .int .u64 (zc 2), .int .u64 (zc 3)]] (.agg #[.int .u64 (z 0), .int .u64 (z 1), .int .u64 (z 2), .int .u64 (z 3)]) := by
 intro w
 have Hh := hid h
 clear h
 go_enter Tryz.func25, Tryz.ntmps25
 obtain ⟨⟨⟨k25, k26, k27, k28⟩, ⟨k29, k30, k31, k32⟩, ⟨k33, k34, k35, k36⟩, ⟨k37, k38, k39, k40⟩⟩, W1, hW1, LA, LB, LC, LR, Q⟩ := pwwwz w 24 za zb zc
 go_wp2_with fail
 clear k25 k26 k27 k28 k29 k30 k31 k32 k33 k34 k35 k36 k37 k38 k39 k40
 rw [hW1.out]
 clear hW1
 refine (Hh.out _).mono ?_
 rintro e v41 ⟨rfl, q⟩
 have LA := LA.later q
 have LB := LB.later q
 have LC := LC.later q
 have LR := LR.later q
 have Q := Q.trans (q.mono Q.size)
 clear q
 obtain ⟨r0, r1, r2, r3⟩ := c4 LR
 obtain ⟨z0, z1, z2, z3⟩ := f4 LR
 obtain ⟨k42, k43, k44, k45⟩ := c4 LA
 obtain ⟨k46, k47, k48, k49⟩ := c4 LB
 obtain ⟨k50, k51, k52, k53⟩ := c4 LC
 have HR := hid ((s4 LR z))
 have HQ := hid ((q4 (w.heap.size + 1 + 1 + 1) Q (by omega) z))
 clear Q LA LB LC LR
 go_wp2
 refine bodyPost_ret (results_word (m := z) rfl rfl HR.out) rfl ⟨rfl, HQ.out⟩
theorem sums_11 (za zb zc z : Nat → Int) (h : Ret Tryz.prog 47 #[.agg #[.int .u64 (za 0), .int .u64 (za 1), .int .u64 (za 2), .int .u64 (za 3)], .agg #[.int .u64 (zb 0), .int .u64 (zb 1), .int .u64 (zb 2), .int .u64 (zb 3)]] (.agg #[.int .u64 (z 0), .int .u64 (z 1), .int .u64 (z 2), .int .u64 (z 3)])) :
  Ret Tryz.prog 25 #[.int .u8 11, .agg #[.int .u64 (za 0), .int .u64 (za 1), .int .u64 (za 2), .int .u64 (za 3)], .agg #[.int .u64 (zb 0), .int .u64 (zb 1), .int .u64 (zb 2), .int .u64 (zb 3)], .agg #[.int .u64 (zc 0), .int .u64 (zc 1), .int .u64 (zc 2), .int .u64 (zc 3)]] (.agg #[.int .u64 (z 0), .int .u64 (z 1), .int .u64 (z 2), .int .u64 (z 3)]) := by
 intro w
 have Hh := hid h
 clear h
 go_enter Tryz.func25, Tryz.ntmps25
 obtain ⟨⟨⟨k25, k26, k27, k28⟩, ⟨k29, k30, k31, k32⟩, ⟨k33, k34, k35, k36⟩, ⟨k37, k38, k39, k40⟩⟩, W1, hW1, LA, LB, LC, LR, Q⟩ := pwwwz w 24 za zb zc
 go_wp2_with fail
 clear k25 k26 k27 k28 k29 k30 k31 k32 k33 k34 k35 k36 k37 k38 k39 k40
 rw [hW1.out]
 clear hW1
 refine (Hh.out _).mono ?_
 rintro e v41 ⟨rfl, q⟩
 have LA := LA.later q
 have LB := LB.later q
 have LC := LC.later q
 have LR := LR.later q
 have Q := Q.trans (q.mono Q.size)
 clear q
 obtain ⟨r0, r1, r2, r3⟩ := c4 LR
 obtain ⟨z0, z1, z2, z3⟩ := f4 LR
 obtain ⟨k42, k43, k44, k45⟩ := c4 LA
 obtain ⟨k46, k47, k48, k49⟩ := c4 LB
 obtain ⟨k50, k51, k52, k53⟩ := c4 LC
 have HR := hid ((s4 LR z))
 have HQ := hid ((q4 (w.heap.size + 1 + 1 + 1) Q (by omega) z))
 clear Q LA LB LC LR
 go_wp2
 refine bodyPost_ret (results_word (m := z) rfl rfl HR.out) rfl ⟨rfl, HQ.out⟩
def sumN (op a b c : Nat) : Nat := if op = 8 ∨ op = 9 then threeN op a b c else twoN op a b
theorem sums_ret (op a b c : Nat) (h : 1 ≤ op ∧ op ≤ 11) (ha : W256 a) (hb : W256 b) (hc : W256 c) : Ret Tryz.prog 25 #[.int .u8 (op : Int), wv a, wv b, wv c] (wv (sumN op a b c)) := by
 obtain rfl | rfl | rfl | rfl | rfl | rfl | rfl | rfl | rfl | rfl | rfl : op = 1 ∨ op = 2 ∨ op = 3 ∨ op = 4 ∨ op = 5 ∨ op = 6 ∨ op = 7 ∨ op = 8 ∨ op = 9 ∨ op = 10 ∨ op = 11 := by omega
 ·exact sums_1 (lim a) (lim b) (lim c) (lim _) (refAdd_ret a b ha hb)
 ·exact sums_2 (lim a) (lim b) (lim c) (lim _) (refMul_ret a b ha hb)
 ·exact sums_3 (lim a) (lim b) (lim c) (lim _) (refSub_ret a b ha hb)
 ·exact sums_4 (lim a) (lim b) (lim c) (lim _) (refDiv_ret a b ha hb)
 ·exact sums_5 (lim a) (lim b) (lim c) (lim _) (refSdiv_ret a b ha hb)
 ·exact sums_6 (lim a) (lim b) (lim c) (lim _) (refMod_ret a b ha hb)
 ·exact sums_7 (lim a) (lim b) (lim c) (lim _) (refSmod_ret a b ha hb)
 ·exact sums_8 (lim a) (lim b) (lim c) (lim _) (refAddmod_ret a b c ha hb hc)
 ·exact sums_9 (lim a) (lim b) (lim c) (lim _) (refMulmod_ret a b c ha hb hc)
 ·exact sums_10 (lim a) (lim b) (lim c) (lim _) (refExp_ret a b ha hb)
 ·exact sums_11 (lim a) (lim b) (lim c) (lim _) (refSign_ret a b ha hb)
theorem bits_16 (za zb z : Nat → Int) (c : Int) (h1 : Ret Tryz.prog 49 #[.agg #[.int .u64 (za 0), .int .u64 (za 1), .int .u64 (za 2), .int .u64 (za 3)], .agg #[.int .u64 (zb 0), .int .u64 (zb 1), .int .u64 (zb 2), .int .u64 (zb 3)]] (.int .i64 c)) (h2 : Ret Tryz.prog 48 #[.bool (decide (c < 0))] (.agg #[.int .u64 (z 0), .int .u64 (z 1), .int .u64 (z 2), .int .u64 (z 3)])) :
  Ret Tryz.prog 26 #[.int .u8 16, .agg #[.int .u64 (za 0), .int .u64 (za 1), .int .u64 (za 2), .int .u64 (za 3)], .agg #[.int .u64 (zb 0), .int .u64 (zb 1), .int .u64 (zb 2), .int .u64 (zb 3)]] (.agg #[.int .u64 (z 0), .int .u64 (z 1), .int .u64 (z 2), .int .u64 (z 3)]) := by
 intro w
 have Hh1 := hid h1
 have Hh2 := hid h2
 clear h1 h2
 go_enter Tryz.func26, Tryz.ntmps26
 obtain ⟨⟨⟨k13, k14, k15, k16⟩, ⟨k17, k18, k19, k20⟩, ⟨k21, k22, k23, k24⟩⟩, W1, hW1, LA, LB, LR, Q⟩ := pwwz w 24 za zb
 go_wp2_with fail
 clear k13 k14 k15 k16 k17 k18 k19 k20 k21 k22 k23 k24
 rw [hW1.out]
 clear hW1
 refine (Hh1.out _).mono ?_
 rintro e v25 ⟨rfl, q⟩
 have LA := LA.later q
 have LB := LB.later q
 have LR := LR.later q
 have Q := Q.trans (q.mono Q.size)
 clear q
 obtain ⟨k26, k27, k28, k29⟩ := c4 LA
 obtain ⟨k30, k31, k32, k33⟩ := c4 LB
 obtain ⟨k34, k35, k36, k37⟩ := c4 LR
 go_wp2_with fail
 clear k26 k27 k28 k29 k30 k31 k32 k33 k34 k35 k36 k37
 refine (Hh2.out _).mono ?_
 rintro e v38 ⟨rfl, q⟩
 have LA := LA.later q
 have LB := LB.later q
 have LR := LR.later q
 have Q := Q.trans (q.mono Q.size)
 clear q
 obtain ⟨r0, r1, r2, r3⟩ := c4 LR
 obtain ⟨z0, z1, z2, z3⟩ := f4 LR
 obtain ⟨k39, k40, k41, k42⟩ := c4 LA
 obtain ⟨k43, k44, k45, k46⟩ := c4 LB
 have HR := hid ((s4 LR z))
 have HQ := hid ((q4 (w.heap.size + 1 + 1) Q (by omega) z))
 clear Q LA LB LR
 go_wp2
 refine bodyPost_ret (results_word (m := z) rfl rfl HR.out) rfl ⟨rfl, HQ.out⟩
theorem bits_17 (za zb z : Nat → Int) (c : Int) (h1 : Ret Tryz.prog 49 #[.agg #[.int .u64 (za 0), .int .u64 (za 1), .int .u64 (za 2), .int .u64 (za 3)], .agg #[.int .u64 (zb 0), .int .u64 (zb 1), .int .u64 (zb 2), .int .u64 (zb 3)]] (.int .i64 c)) (h2 : Ret Tryz.prog 48 #[.bool (decide (0 < c))] (.agg #[.int .u64 (z 0), .int .u64 (z 1), .int .u64 (z 2), .int .u64 (z 3)])) :
  Ret Tryz.prog 26 #[.int .u8 17, .agg #[.int .u64 (za 0), .int .u64 (za 1), .int .u64 (za 2), .int .u64 (za 3)], .agg #[.int .u64 (zb 0), .int .u64 (zb 1), .int .u64 (zb 2), .int .u64 (zb 3)]] (.agg #[.int .u64 (z 0), .int .u64 (z 1), .int .u64 (z 2), .int .u64 (z 3)]) := by
 intro w
 have Hh1 := hid h1
 have Hh2 := hid h2
 clear h1 h2
 go_enter Tryz.func26, Tryz.ntmps26
 obtain ⟨⟨⟨k13, k14, k15, k16⟩, ⟨k17, k18, k19, k20⟩, ⟨k21, k22, k23, k24⟩⟩, W1, hW1, LA, LB, LR, Q⟩ := pwwz w 24 za zb
 go_wp2_with fail
 clear k13 k14 k15 k16 k17 k18 k19 k20 k21 k22 k23 k24
 rw [hW1.out]
 clear hW1
 refine (Hh1.out _).mono ?_
 rintro e v25 ⟨rfl, q⟩
 have LA := LA.later q
 have LB := LB.later q
 have LR := LR.later q
 have Q := Q.trans (q.mono Q.size)
 clear q
 obtain ⟨k26, k27, k28, k29⟩ := c4 LA
 obtain ⟨k30, k31, k32, k33⟩ := c4 LB
 obtain ⟨k34, k35, k36, k37⟩ := c4 LR
 go_wp2_with fail
 clear k26 k27 k28 k29 k30 k31 k32 k33 k34 k35 k36 k37
 refine (Hh2.out _).mono ?_
 rintro e v38 ⟨rfl, q⟩
 have LA := LA.later q
 have LB := LB.later q
 have LR := LR.later q
 have Q := Q.trans (q.mono Q.size)
 clear q
 obtain ⟨r0, r1, r2, r3⟩ := c4 LR
 obtain ⟨z0, z1, z2, z3⟩ := f4 LR
 obtain ⟨k39, k40, k41, k42⟩ := c4 LA
 obtain ⟨k43, k44, k45, k46⟩ := c4 LB
 have HR := hid ((s4 LR z))
 have HQ := hid ((q4 (w.heap.size + 1 + 1) Q (by omega) z))
 clear Q LA LB LR
 go_wp2
 refine bodyPost_ret (results_word (m := z) rfl rfl HR.out) rfl ⟨rfl, HQ.out⟩
theorem bits_18 (za zb z : Nat → Int) (c : Bool) (h1 : Ret Tryz.prog 50 #[.agg #[.int .u64 (za 0), .int .u64 (za 1), .int .u64 (za 2), .int .u64 (za 3)], .agg #[.int .u64 (zb 0), .int .u64 (zb 1), .int .u64 (zb 2), .int .u64 (zb 3)]] (.bool c)) (h2 : Ret Tryz.prog 48 #[.bool (c)] (.agg #[.int .u64 (z 0), .int .u64 (z 1), .int .u64 (z 2), .int .u64 (z 3)])) :
  Ret Tryz.prog 26 #[.int .u8 18, .agg #[.int .u64 (za 0), .int .u64 (za 1), .int .u64 (za 2), .int .u64 (za 3)], .agg #[.int .u64 (zb 0), .int .u64 (zb 1), .int .u64 (zb 2), .int .u64 (zb 3)]] (.agg #[.int .u64 (z 0), .int .u64 (z 1), .int .u64 (z 2), .int .u64 (z 3)]) := by
 intro w
 have Hh1 := hid h1
 have Hh2 := hid h2
 clear h1 h2
 go_enter Tryz.func26, Tryz.ntmps26
 obtain ⟨⟨⟨k13, k14, k15, k16⟩, ⟨k17, k18, k19, k20⟩, ⟨k21, k22, k23, k24⟩⟩, W1, hW1, LA, LB, LR, Q⟩ := pwwz w 24 za zb
 go_wp2_with fail
 clear k13 k14 k15 k16 k17 k18 k19 k20 k21 k22 k23 k24
 rw [hW1.out]
 clear hW1
 refine (Hh1.out _).mono ?_
 rintro e v25 ⟨rfl, q⟩
 have LA := LA.later q
 have LB := LB.later q
 have LR := LR.later q
 have Q := Q.trans (q.mono Q.size)
 clear q
 obtain ⟨k26, k27, k28, k29⟩ := c4 LA
 obtain ⟨k30, k31, k32, k33⟩ := c4 LB
 obtain ⟨k34, k35, k36, k37⟩ := c4 LR
 go_wp2_with fail
 clear k26 k27 k28 k29 k30 k31 k32 k33 k34 k35 k36 k37
 refine (Hh2.out _).mono ?_
 rintro e v38 ⟨rfl, q⟩
 have LA := LA.later q
 have LB := LB.later q
 have LR := LR.later q
 have Q := Q.trans (q.mono Q.size)
 clear q
 obtain ⟨r0, r1, r2, r3⟩ := c4 LR
 obtain ⟨z0, z1, z2, z3⟩ := f4 LR
 obtain ⟨k39, k40, k41, k42⟩ := c4 LA
 obtain ⟨k43, k44, k45, k46⟩ := c4 LB
 have HR := hid ((s4 LR z))
 have HQ := hid ((q4 (w.heap.size + 1 + 1) Q (by omega) z))
 clear Q LA LB LR
 go_wp2
 refine bodyPost_ret (results_word (m := z) rfl rfl HR.out) rfl ⟨rfl, HQ.out⟩
theorem bits_19 (za zb z : Nat → Int) (c : Bool) (h1 : Ret Tryz.prog 50 #[.agg #[.int .u64 (zb 0), .int .u64 (zb 1), .int .u64 (zb 2), .int .u64 (zb 3)], .agg #[.int .u64 (za 0), .int .u64 (za 1), .int .u64 (za 2), .int .u64 (za 3)]] (.bool c)) (h2 : Ret Tryz.prog 48 #[.bool (c)] (.agg #[.int .u64 (z 0), .int .u64 (z 1), .int .u64 (z 2), .int .u64 (z 3)])) :
  Ret Tryz.prog 26 #[.int .u8 19, .agg #[.int .u64 (za 0), .int .u64 (za 1), .int .u64 (za 2), .int .u64 (za 3)], .agg #[.int .u64 (zb 0), .int .u64 (zb 1), .int .u64 (zb 2), .int .u64 (zb 3)]] (.agg #[.int .u64 (z 0), .int .u64 (z 1), .int .u64 (z 2), .int .u64 (z 3)]) := by
 intro w
 have Hh1 := hid h1
 have Hh2 := hid h2
 clear h1 h2
 go_enter Tryz.func26, Tryz.ntmps26
 obtain ⟨⟨⟨k13, k14, k15, k16⟩, ⟨k17, k18, k19, k20⟩, ⟨k21, k22, k23, k24⟩⟩, W1, hW1, LA, LB, LR, Q⟩ := pwwz w 24 za zb
 go_wp2_with fail
 clear k13 k14 k15 k16 k17 k18 k19 k20 k21 k22 k23 k24
 rw [hW1.out]
 clear hW1
 refine (Hh1.out _).mono ?_
 rintro e v25 ⟨rfl, q⟩
 have LA := LA.later q
 have LB := LB.later q
 have LR := LR.later q
 have Q := Q.trans (q.mono Q.size)
 clear q
 obtain ⟨k26, k27, k28, k29⟩ := c4 LA
 obtain ⟨k30, k31, k32, k33⟩ := c4 LB
 obtain ⟨k34, k35, k36, k37⟩ := c4 LR
 go_wp2_with fail
 clear k26 k27 k28 k29 k30 k31 k32 k33 k34 k35 k36 k37
 refine (Hh2.out _).mono ?_
 rintro e v38 ⟨rfl, q⟩
 have LA := LA.later q
 have LB := LB.later q
 have LR := LR.later q
 have Q := Q.trans (q.mono Q.size)
 clear q
 obtain ⟨r0, r1, r2, r3⟩ := c4 LR
 obtain ⟨z0, z1, z2, z3⟩ := f4 LR
 obtain ⟨k39, k40, k41, k42⟩ := c4 LA
 obtain ⟨k43, k44, k45, k46⟩ := c4 LB
 have HR := hid ((s4 LR z))
 have HQ := hid ((q4 (w.heap.size + 1 + 1) Q (by omega) z))
 clear Q LA LB LR
 go_wp2
 refine bodyPost_ret (results_word (m := z) rfl rfl HR.out) rfl ⟨rfl, HQ.out⟩
theorem bits_20 (za zb z : Nat → Int) (h2 : Ret Tryz.prog 48 #[.bool (za 0 == zb 0 && za 1 == zb 1 && za 2 == zb 2 && za 3 == zb 3)] (.agg #[.int .u64 (z 0), .int .u64 (z 1), .int .u64 (z 2), .int .u64 (z 3)])) :
  Ret Tryz.prog 26 #[.int .u8 20, .agg #[.int .u64 (za 0), .int .u64 (za 1), .int .u64 (za 2), .int .u64 (za 3)], .agg #[.int .u64 (zb 0), .int .u64 (zb 1), .int .u64 (zb 2), .int .u64 (zb 3)]] (.agg #[.int .u64 (z 0), .int .u64 (z 1), .int .u64 (z 2), .int .u64 (z 3)]) := by
 intro w
 have Hh2 := hid h2
 clear h2
 go_enter Tryz.func26, Tryz.ntmps26
 obtain ⟨⟨⟨k13, k14, k15, k16⟩, ⟨k17, k18, k19, k20⟩, ⟨k21, k22, k23, k24⟩⟩, W1, hW1, LA, LB, LR, Q⟩ := pwwz w 24 za zb
 go_wp2_with fail
 clear k13 k14 k15 k16 k17 k18 k19 k20 k21 k22 k23 k24
 rw [hW1.out]
 clear hW1
 refine (Hh2.out _).mono ?_
 rintro e v25 ⟨rfl, q⟩
 have LA := LA.later q
 have LB := LB.later q
 have LR := LR.later q
 have Q := Q.trans (q.mono Q.size)
 clear q
 obtain ⟨r0, r1, r2, r3⟩ := c4 LR
 obtain ⟨z0, z1, z2, z3⟩ := f4 LR
 obtain ⟨k26, k27, k28, k29⟩ := c4 LA
 obtain ⟨k30, k31, k32, k33⟩ := c4 LB
 have HR := hid ((s4 LR z))
 have HQ := hid ((q4 (w.heap.size + 1 + 1) Q (by omega) z))
 clear Q LA LB LR
 go_wp2
 refine bodyPost_ret (results_word (m := z) rfl rfl HR.out) rfl ⟨rfl, HQ.out⟩
theorem bits_21 (za zb z : Nat → Int) (h2 : Ret Tryz.prog 48 #[.bool (za 0 == 0 && za 1 == 0 && za 2 == 0 && za 3 == 0)] (.agg #[.int .u64 (z 0), .int .u64 (z 1), .int .u64 (z 2), .int .u64 (z 3)])) :
  Ret Tryz.prog 26 #[.int .u8 21, .agg #[.int .u64 (za 0), .int .u64 (za 1), .int .u64 (za 2), .int .u64 (za 3)], .agg #[.int .u64 (zb 0), .int .u64 (zb 1), .int .u64 (zb 2), .int .u64 (zb 3)]] (.agg #[.int .u64 (z 0), .int .u64 (z 1), .int .u64 (z 2), .int .u64 (z 3)]) := by
 intro w
 have Hh2 := hid h2
 clear h2
 go_enter Tryz.func26, Tryz.ntmps26
 obtain ⟨⟨⟨k13, k14, k15, k16⟩, ⟨k17, k18, k19, k20⟩, ⟨k21, k22, k23, k24⟩⟩, W1, hW1, LA, LB, LR, Q⟩ := pwwz w 24 za zb
 go_wp2_with fail
 clear k13 k14 k15 k16 k17 k18 k19 k20 k21 k22 k23 k24
 rw [hW1.out]
 clear hW1
 refine (Hh2.out _).mono ?_
 rintro e v25 ⟨rfl, q⟩
 have LA := LA.later q
 have LB := LB.later q
 have LR := LR.later q
 have Q := Q.trans (q.mono Q.size)
 clear q
 obtain ⟨r0, r1, r2, r3⟩ := c4 LR
 obtain ⟨z0, z1, z2, z3⟩ := f4 LR
 obtain ⟨k26, k27, k28, k29⟩ := c4 LA
 obtain ⟨k30, k31, k32, k33⟩ := c4 LB
 have HR := hid ((s4 LR z))
 have HQ := hid ((q4 (w.heap.size + 1 + 1) Q (by omega) z))
 clear Q LA LB LR
 go_wp2
 refine bodyPost_ret (results_word (m := z) rfl rfl HR.out) rfl ⟨rfl, HQ.out⟩
theorem bits_22 (za zb z : Nat → Int) (h1 : Ret Tryz.prog 51 #[.agg #[.int .u64 (za 0), .int .u64 (za 1), .int .u64 (za 2), .int .u64 (za 3)], .agg #[.int .u64 (zb 0), .int .u64 (zb 1), .int .u64 (zb 2), .int .u64 (zb 3)]] (.agg #[.int .u64 (z 0), .int .u64 (z 1), .int .u64 (z 2), .int .u64 (z 3)])) :
  Ret Tryz.prog 26 #[.int .u8 22, .agg #[.int .u64 (za 0), .int .u64 (za 1), .int .u64 (za 2), .int .u64 (za 3)], .agg #[.int .u64 (zb 0), .int .u64 (zb 1), .int .u64 (zb 2), .int .u64 (zb 3)]] (.agg #[.int .u64 (z 0), .int .u64 (z 1), .int .u64 (z 2), .int .u64 (z 3)]) := by
 intro w
 have Hh1 := hid h1
 clear h1
 go_enter Tryz.func26, Tryz.ntmps26
 obtain ⟨⟨⟨k13, k14, k15, k16⟩, ⟨k17, k18, k19, k20⟩, ⟨k21, k22, k23, k24⟩⟩, W1, hW1, LA, LB, LR, Q⟩ := pwwz w 24 za zb
 go_wp2_with fail
 clear k13 k14 k15 k16 k17 k18 k19 k20 k21 k22 k23 k24
 rw [hW1.out]
 clear hW1
 refine (Hh1.out _).mono ?_
 rintro e v25 ⟨rfl, q⟩
 have LA := LA.later q
 have LB := LB.later q
 have LR := LR.later q
 have Q := Q.trans (q.mono Q.size)
 clear q
 obtain ⟨r0, r1, r2, r3⟩ := c4 LR
 obtain ⟨z0, z1, z2, z3⟩ := f4 LR
 obtain ⟨k26, k27, k28, k29⟩ := c4 LA
 obtain ⟨k30, k31, k32, k33⟩ := c4 LB
 have HR := hid ((s4 LR z))
 have HQ := hid ((q4 (w.heap.size + 1 + 1) Q (by omega) z))
 clear Q LA LB LR
 go_wp2
 refine bodyPost_ret (results_word (m := z) rfl rfl HR.out) rfl ⟨rfl, HQ.out⟩
theorem bits_23 (za zb z : Nat → Int) (h1 : Ret Tryz.prog 52 #[.agg #[.int .u64 (za 0), .int .u64 (za 1), .int .u64 (za 2), .int .u64 (za 3)], .agg #[.int .u64 (zb 0), .int .u64 (zb 1), .int .u64 (zb 2), .int .u64 (zb 3)]] (.agg #[.int .u64 (z 0), .int .u64 (z 1), .int .u64 (z 2), .int .u64 (z 3)])) :
  Ret Tryz.prog 26 #[.int .u8 23, .agg #[.int .u64 (za 0), .int .u64 (za 1), .int .u64 (za 2), .int .u64 (za 3)], .agg #[.int .u64 (zb 0), .int .u64 (zb 1), .int .u64 (zb 2), .int .u64 (zb 3)]] (.agg #[.int .u64 (z 0), .int .u64 (z 1), .int .u64 (z 2), .int .u64 (z 3)]) := by
 intro w
 have Hh1 := hid h1
 clear h1
 go_enter Tryz.func26, Tryz.ntmps26
 obtain ⟨⟨⟨k13, k14, k15, k16⟩, ⟨k17, k18, k19, k20⟩, ⟨k21, k22, k23, k24⟩⟩, W1, hW1, LA, LB, LR, Q⟩ := pwwz w 24 za zb
 go_wp2_with fail
 clear k13 k14 k15 k16 k17 k18 k19 k20 k21 k22 k23 k24
 rw [hW1.out]
 clear hW1
 refine (Hh1.out _).mono ?_
 rintro e v25 ⟨rfl, q⟩
 have LA := LA.later q
 have LB := LB.later q
 have LR := LR.later q
 have Q := Q.trans (q.mono Q.size)
 clear q
 obtain ⟨r0, r1, r2, r3⟩ := c4 LR
 obtain ⟨z0, z1, z2, z3⟩ := f4 LR
 obtain ⟨k26, k27, k28, k29⟩ := c4 LA
 obtain ⟨k30, k31, k32, k33⟩ := c4 LB
 have HR := hid ((s4 LR z))
 have HQ := hid ((q4 (w.heap.size + 1 + 1) Q (by omega) z))
 clear Q LA LB LR
 go_wp2
 refine bodyPost_ret (results_word (m := z) rfl rfl HR.out) rfl ⟨rfl, HQ.out⟩
theorem bits_24 (za zb z : Nat → Int) (h1 : Ret Tryz.prog 53 #[.agg #[.int .u64 (za 0), .int .u64 (za 1), .int .u64 (za 2), .int .u64 (za 3)], .agg #[.int .u64 (zb 0), .int .u64 (zb 1), .int .u64 (zb 2), .int .u64 (zb 3)]] (.agg #[.int .u64 (z 0), .int .u64 (z 1), .int .u64 (z 2), .int .u64 (z 3)])) :
  Ret Tryz.prog 26 #[.int .u8 24, .agg #[.int .u64 (za 0), .int .u64 (za 1), .int .u64 (za 2), .int .u64 (za 3)], .agg #[.int .u64 (zb 0), .int .u64 (zb 1), .int .u64 (zb 2), .int .u64 (zb 3)]] (.agg #[.int .u64 (z 0), .int .u64 (z 1), .int .u64 (z 2), .int .u64 (z 3)]) := by
 intro w
 have Hh1 := hid h1
 clear h1
 go_enter Tryz.func26, Tryz.ntmps26
 obtain ⟨⟨⟨k13, k14, k15, k16⟩, ⟨k17, k18, k19, k20⟩, ⟨k21, k22, k23, k24⟩⟩, W1, hW1, LA, LB, LR, Q⟩ := pwwz w 24 za zb
 go_wp2_with fail
 clear k13 k14 k15 k16 k17 k18 k19 k20 k21 k22 k23 k24
 rw [hW1.out]
 clear hW1
 refine (Hh1.out _).mono ?_
 rintro e v25 ⟨rfl, q⟩
 have LA := LA.later q
 have LB := LB.later q
 have LR := LR.later q
 have Q := Q.trans (q.mono Q.size)
 clear q
 obtain ⟨r0, r1, r2, r3⟩ := c4 LR
 obtain ⟨z0, z1, z2, z3⟩ := f4 LR
 obtain ⟨k26, k27, k28, k29⟩ := c4 LA
 obtain ⟨k30, k31, k32, k33⟩ := c4 LB
 have HR := hid ((s4 LR z))
 have HQ := hid ((q4 (w.heap.size + 1 + 1) Q (by omega) z))
 clear Q LA LB LR
 go_wp2
 refine bodyPost_ret (results_word (m := z) rfl rfl HR.out) rfl ⟨rfl, HQ.out⟩
theorem bits_25 (za zb z : Nat → Int) (h1 : Ret Tryz.prog 54 #[.agg #[.int .u64 (za 0), .int .u64 (za 1), .int .u64 (za 2), .int .u64 (za 3)]] (.agg #[.int .u64 (z 0), .int .u64 (z 1), .int .u64 (z 2), .int .u64 (z 3)])) :
  Ret Tryz.prog 26 #[.int .u8 25, .agg #[.int .u64 (za 0), .int .u64 (za 1), .int .u64 (za 2), .int .u64 (za 3)], .agg #[.int .u64 (zb 0), .int .u64 (zb 1), .int .u64 (zb 2), .int .u64 (zb 3)]] (.agg #[.int .u64 (z 0), .int .u64 (z 1), .int .u64 (z 2), .int .u64 (z 3)]) := by
 intro w
 have Hh1 := hid h1
 clear h1
 go_enter Tryz.func26, Tryz.ntmps26
 obtain ⟨⟨⟨k13, k14, k15, k16⟩, ⟨k17, k18, k19, k20⟩, ⟨k21, k22, k23, k24⟩⟩, W1, hW1, LA, LB, LR, Q⟩ := pwwz w 24 za zb
 go_wp2_with fail
 clear k13 k14 k15 k16 k17 k18 k19 k20 k21 k22 k23 k24
 rw [hW1.out]
 clear hW1
 refine (Hh1.out _).mono ?_
 rintro e v25 ⟨rfl, q⟩
 have LA := LA.later q
 have LB := LB.later q
 have LR := LR.later q
 have Q := Q.trans (q.mono Q.size)
 clear q
 obtain ⟨r0, r1, r2, r3⟩ := c4 LR
 obtain ⟨z0, z1, z2, z3⟩ := f4 LR
 obtain ⟨k26, k27, k28, k29⟩ := c4 LA
 obtain ⟨k30, k31, k32, k33⟩ := c4 LB
 have HR := hid ((s4 LR z))
 have HQ := hid ((q4 (w.heap.size + 1 + 1) Q (by omega) z))
 clear Q LA LB LR
 go_wp2
 refine bodyPost_ret (results_word (m := z) rfl rfl HR.out) rfl ⟨rfl, HQ.out⟩
theorem bits_26 (za zb z : Nat → Int) (h1 : Ret Tryz.prog 55 #[.agg #[.int .u64 (za 0), .int .u64 (za 1), .int .u64 (za 2), .int .u64 (za 3)], .agg #[.int .u64 (zb 0), .int .u64 (zb 1), .int .u64 (zb 2), .int .u64 (zb 3)]] (.agg #[.int .u64 (z 0), .int .u64 (z 1), .int .u64 (z 2), .int .u64 (z 3)])) :
  Ret Tryz.prog 26 #[.int .u8 26, .agg #[.int .u64 (za 0), .int .u64 (za 1), .int .u64 (za 2), .int .u64 (za 3)], .agg #[.int .u64 (zb 0), .int .u64 (zb 1), .int .u64 (zb 2), .int .u64 (zb 3)]] (.agg #[.int .u64 (z 0), .int .u64 (z 1), .int .u64 (z 2), .int .u64 (z 3)]) := by
 intro w
 have Hh1 := hid h1
 clear h1
 go_enter Tryz.func26, Tryz.ntmps26
 obtain ⟨⟨⟨k13, k14, k15, k16⟩, ⟨k17, k18, k19, k20⟩, ⟨k21, k22, k23, k24⟩⟩, W1, hW1, LA, LB, LR, Q⟩ := pwwz w 24 za zb
 go_wp2_with fail
 clear k13 k14 k15 k16 k17 k18 k19 k20 k21 k22 k23 k24
 rw [hW1.out]
 clear hW1
 refine (Hh1.out _).mono ?_
 rintro e v25 ⟨rfl, q⟩
 have LA := LA.later q
 have LB := LB.later q
 have LR := LR.later q
 have Q := Q.trans (q.mono Q.size)
 clear q
 obtain ⟨r0, r1, r2, r3⟩ := c4 LR
 obtain ⟨z0, z1, z2, z3⟩ := f4 LR
 obtain ⟨k26, k27, k28, k29⟩ := c4 LA
 obtain ⟨k30, k31, k32, k33⟩ := c4 LB
 have HR := hid ((s4 LR z))
 have HQ := hid ((q4 (w.heap.size + 1 + 1) Q (by omega) z))
 clear Q LA LB LR
 go_wp2
 refine bodyPost_ret (results_word (m := z) rfl rfl HR.out) rfl ⟨rfl, HQ.out⟩
theorem bits_27 (za zb z : Nat → Int) (h1 : Ret Tryz.prog 56 #[.agg #[.int .u64 (za 0), .int .u64 (za 1), .int .u64 (za 2), .int .u64 (za 3)], .agg #[.int .u64 (zb 0), .int .u64 (zb 1), .int .u64 (zb 2), .int .u64 (zb 3)]] (.agg #[.int .u64 (z 0), .int .u64 (z 1), .int .u64 (z 2), .int .u64 (z 3)])) :
  Ret Tryz.prog 26 #[.int .u8 27, .agg #[.int .u64 (za 0), .int .u64 (za 1), .int .u64 (za 2), .int .u64 (za 3)], .agg #[.int .u64 (zb 0), .int .u64 (zb 1), .int .u64 (zb 2), .int .u64 (zb 3)]] (.agg #[.int .u64 (z 0), .int .u64 (z 1), .int .u64 (z 2), .int .u64 (z 3)]) := by
 intro w
 have Hh1 := hid h1
 clear h1
 go_enter Tryz.func26, Tryz.ntmps26
 obtain ⟨⟨⟨k13, k14, k15, k16⟩, ⟨k17, k18, k19, k20⟩, ⟨k21, k22, k23, k24⟩⟩, W1, hW1, LA, LB, LR, Q⟩ := pwwz w 24 za zb
 go_wp2_with fail
 clear k13 k14 k15 k16 k17 k18 k19 k20 k21 k22 k23 k24
 rw [hW1.out]
 clear hW1
 refine (Hh1.out _).mono ?_
 rintro e v25 ⟨rfl, q⟩
 have LA := LA.later q
 have LB := LB.later q
 have LR := LR.later q
 have Q := Q.trans (q.mono Q.size)
 clear q
 obtain ⟨r0, r1, r2, r3⟩ := c4 LR
 obtain ⟨z0, z1, z2, z3⟩ := f4 LR
 obtain ⟨k26, k27, k28, k29⟩ := c4 LA
 obtain ⟨k30, k31, k32, k33⟩ := c4 LB
 have HR := hid ((s4 LR z))
 have HQ := hid ((q4 (w.heap.size + 1 + 1) Q (by omega) z))
 clear Q LA LB LR
 go_wp2
 refine bodyPost_ret (results_word (m := z) rfl rfl HR.out) rfl ⟨rfl, HQ.out⟩
theorem bits_28 (za zb z : Nat → Int) (h1 : Ret Tryz.prog 57 #[.agg #[.int .u64 (za 0), .int .u64 (za 1), .int .u64 (za 2), .int .u64 (za 3)], .agg #[.int .u64 (zb 0), .int .u64 (zb 1), .int .u64 (zb 2), .int .u64 (zb 3)]] (.agg #[.int .u64 (z 0), .int .u64 (z 1), .int .u64 (z 2), .int .u64 (z 3)])) :
  Ret Tryz.prog 26 #[.int .u8 28, .agg #[.int .u64 (za 0), .int .u64 (za 1), .int .u64 (za 2), .int .u64 (za 3)], .agg #[.int .u64 (zb 0), .int .u64 (zb 1), .int .u64 (zb 2), .int .u64 (zb 3)]] (.agg #[.int .u64 (z 0), .int .u64 (z 1), .int .u64 (z 2), .int .u64 (z 3)]) := by
 intro w
 have Hh1 := hid h1
 clear h1
 go_enter Tryz.func26, Tryz.ntmps26
 obtain ⟨⟨⟨k13, k14, k15, k16⟩, ⟨k17, k18, k19, k20⟩, ⟨k21, k22, k23, k24⟩⟩, W1, hW1, LA, LB, LR, Q⟩ := pwwz w 24 za zb
 go_wp2_with fail
 clear k13 k14 k15 k16 k17 k18 k19 k20 k21 k22 k23 k24
 rw [hW1.out]
 clear hW1
 refine (Hh1.out _).mono ?_
 rintro e v25 ⟨rfl, q⟩
 have LA := LA.later q
 have LB := LB.later q
 have LR := LR.later q
 have Q := Q.trans (q.mono Q.size)
 clear q
 obtain ⟨r0, r1, r2, r3⟩ := c4 LR
 obtain ⟨z0, z1, z2, z3⟩ := f4 LR
 obtain ⟨k26, k27, k28, k29⟩ := c4 LA
 obtain ⟨k30, k31, k32, k33⟩ := c4 LB
 have HR := hid ((s4 LR z))
 have HQ := hid ((q4 (w.heap.size + 1 + 1) Q (by omega) z))
 clear Q LA LB LR
 go_wp2
 refine bodyPost_ret (results_word (m := z) rfl rfl HR.out) rfl ⟨rfl, HQ.out⟩
theorem bits_29 (za zb z : Nat → Int) (h1 : Ret Tryz.prog 58 #[.agg #[.int .u64 (za 0), .int .u64 (za 1), .int .u64 (za 2), .int .u64 (za 3)], .agg #[.int .u64 (zb 0), .int .u64 (zb 1), .int .u64 (zb 2), .int .u64 (zb 3)]] (.agg #[.int .u64 (z 0), .int .u64 (z 1), .int .u64 (z 2), .int .u64 (z 3)])) :
  Ret Tryz.prog 26 #[.int .u8 29, .agg #[.int .u64 (za 0), .int .u64 (za 1), .int .u64 (za 2), .int .u64 (za 3)], .agg #[.int .u64 (zb 0), .int .u64 (zb 1), .int .u64 (zb 2), .int .u64 (zb 3)]] (.agg #[.int .u64 (z 0), .int .u64 (z 1), .int .u64 (z 2), .int .u64 (z 3)]) := by
 intro w
 have Hh1 := hid h1
 clear h1
 go_enter Tryz.func26, Tryz.ntmps26
 obtain ⟨⟨⟨k13, k14, k15, k16⟩, ⟨k17, k18, k19, k20⟩, ⟨k21, k22, k23, k24⟩⟩, W1, hW1, LA, LB, LR, Q⟩ := pwwz w 24 za zb
 go_wp2_with fail
 clear k13 k14 k15 k16 k17 k18 k19 k20 k21 k22 k23 k24
 rw [hW1.out]
 clear hW1
 refine (Hh1.out _).mono ?_
 rintro e v25 ⟨rfl, q⟩
 have LA := LA.later q
 have LB := LB.later q
 have LR := LR.later q
 have Q := Q.trans (q.mono Q.size)
 clear q
 obtain ⟨r0, r1, r2, r3⟩ := c4 LR
 obtain ⟨z0, z1, z2, z3⟩ := f4 LR
 obtain ⟨k26, k27, k28, k29⟩ := c4 LA
 obtain ⟨k30, k31, k32, k33⟩ := c4 LB
 have HR := hid ((s4 LR z))
 have HQ := hid ((q4 (w.heap.size + 1 + 1) Q (by omega) z))
 clear Q LA LB LR
 go_wp2
 refine bodyPost_ret (results_word (m := z) rfl rfl HR.out) rfl ⟨rfl, HQ.out⟩
theorem wcmp_posC (x y : Nat) : decide (0 < wcmp x y) = decide (y < x) := by
 unfold wcmp
 by_cases h : x < y
 ·have : ¬ y < x := by omega
  simp [h, this]
 ·by_cases h2 : y < x
  ·simp [h, h2]
  ·simp [h, h2]
def bitN (op a b : Nat) : Nat := if op = 21 ∨ op = 25 then oneN op a else twoN op a b
theorem bits_ret (op a b : Nat) (h : 16 ≤ op ∧ op ≤ 29) (ha : W256 a) (hb : W256 b) : Ret Tryz.prog 26 #[.int .u8 (op : Int), wv a, wv b] (wv (bitN op a b)) := by
 obtain rfl | rfl | rfl | rfl | rfl | rfl | rfl | rfl | rfl | rfl | rfl | rfl | rfl | rfl : op = 16 ∨ op = 17 ∨ op = 18 ∨ op = 19 ∨ op = 20 ∨ op = 21 ∨ op = 22 ∨ op = 23 ∨ op = 24 ∨ op = 25 ∨ op = 26 ∨ op = 27 ∨ op = 28 ∨ op = 29 := by omega
 ·exact bits_16 (lim a) (lim b) (lim _) _ (refCmp_ret a b ha hb) (by rw [wcmp_negC]; exact flag_ret _)
 ·exact bits_17 (lim a) (lim b) (lim _) _ (refCmp_ret a b ha hb) (by rw [wcmp_posC]; exact flag_ret _)
 ·exact bits_18 (lim a) (lim b) (lim _) _ (refLess3_ret a b ha hb) (flag_ret _)
 ·exact bits_19 (lim a) (lim b) (lim _) _ (refLess3_ret b a hb ha) (flag_ret _)
 ·exact bits_20 (lim a) (lim b) (lim _) (by rw [lim_same a b ha hb]; exact flag_ret _)
 ·exact bits_21 (lim a) (lim b) (lim _) (by
   have := lim_same a 0 ha (by unfold W256; omega)
   rw [show (lim a 0 == 0 && lim a 1 == 0 && lim a 2 == 0 && lim a 3 == 0) = decide (a = 0) from this]
   exact flag_ret _)
 ·exact bits_22 (lim a) (lim b) (lim _) (refAnd_ret a b ha hb)
 ·exact bits_23 (lim a) (lim b) (lim _) (refOr_ret a b ha hb)
 ·exact bits_24 (lim a) (lim b) (lim _) (refXor_ret a b ha hb)
 ·exact bits_25 (lim a) (lim b) (lim _) (refNot_ret a ha)
 ·exact bits_26 (lim a) (lim b) (lim _) (refByte_ret a b ha hb)
 ·exact bits_27 (lim a) (lim b) (lim _) (refShl_ret a b ha hb)
 ·exact bits_28 (lim a) (lim b) (lim _) (refShr_ret a b ha hb)
 ·exact bits_29 (lim a) (lim b) (lim _) (refSar_ret a b ha hb)
end Go.Proofs.YtnkhmgmganejmaaGreatDoor
