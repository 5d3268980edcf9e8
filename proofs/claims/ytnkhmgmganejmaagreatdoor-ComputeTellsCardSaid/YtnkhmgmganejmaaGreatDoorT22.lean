/- Part. -/
import Derived.Test.YtnkhmgmganejmaaGreatDoorT21
import Derived.Test.YtnkhmgmganejmaaGreatDoorT07
import Derived.Test.YtnkhmgmganejmaaGreatDoorT06
set_option maxRecDepth 100000
set_option maxHeartbeats 16000000
namespace Go.Proofs.YtnkhmgmganejmaaGreatDoor
section
open Go Go.RowKit
attribute [local go_sem] Oper.semAt_some Grows eq4
theorem zeroP (a : Nat) (ha : W256 a) : (lim a 0 == 0 && lim a 1 == 0 && lim a 2 == 0 && lim a 3 == 0) = decide (a = 0) := by
 by_cases h : a = 0
 ·subst h; simp [lim_zero]
 ·rw [decide_eq_false h]
  rw [Bool.eq_false_iff]
  intro hc
  simp only [Bool.and_eq_true, beq_iff_eq] at hc
  obtain ⟨⟨⟨h0, h1⟩, h2⟩, h3⟩ := hc
  refine h (lim_ext ha (by unfold W256; omega) fun k hk => ?_)
  rw [lim_zero]
  rcases (show k = 0 ∨ k = 1 ∨ k = 2 ∨ k = 3 by omega) with rfl | rfl | rfl | rfl <;> assumption
theorem results_wordB {fn : Func} {t u : Tmp} {tmps : Array Value} {W : World} {B : Nat} {m : Nat → Int} (h : fn.results = #[ResultVar.cell t 24, ResultVar.tmp u]) (ht : tmps.getD t undef = .pointer (some ⟨B, 0, none⟩)) (hA : Has W B 24 #[.int .u64 (m 0), .int .u64 (m 1), .int .u64 (m 2), .int .u64 (m 3)]) :
  (results fn tmps).run Tryz.prog W = .ok (.tuple #[.agg #[.int .u64 (m 0), .int .u64 (m 1), .int .u64 (m 2), .int .u64 (m 3)], tmps.getD u undef]) W := by
 obtain ⟨e0, e1, e2, e3⟩ := c4 hA
 simp at ht
 simp [results, h, ht, go_sem, e0, e1, e2, e3]
theorem refNone_ret (a : Nat) (ha : W256 a) : Ret Tryz.prog 76 #[wv a] (.bool (decide (a = 0))) := by
 intro w
 rw [← zeroP a ha]
 unfold wv
 go_enter Tryz.func76, Tryz.ntmps76
 go_wp2
 go_ret
 exact ⟨rfl, (Below.refl _ w).alloc (Nat.le_refl _) _⟩
theorem less_over (x n s : Nat) (c : Int) (hs : Ret Tryz.prog 39 #[.agg #[.int .u64 (lim x 0), .int .u64 (lim x 1), .int .u64 (lim x 2), .int .u64 (lim x 3)], .agg #[.int .u64 (lim n 0), .int .u64 (lim n 1), .int .u64 (lim n 2), .int .u64 (lim n 3)]] (.agg #[.int .u64 (lim s 0), .int .u64 (lim s 1), .int .u64 (lim s 2), .int .u64 (lim s 3)])) :
  Ret Tryz.prog 81 #[.agg #[.int .u64 (lim x 0), .int .u64 (lim x 1), .int .u64 (lim x 2), .int .u64 (lim x 3)], .bool true, .agg #[.int .u64 (lim n 0), .int .u64 (lim n 1), .int .u64 (lim n 2), .int .u64 (lim n 3)]] (.tuple #[.agg #[.int .u64 (lim s 0), .int .u64 (lim s 1), .int .u64 (lim s 2), .int .u64 (lim s 3)], .bool true]) := by
 intro w
 have Hhs := hid hs
 clear hs
 go_enter Tryz.func81, Tryz.ntmps81
 obtain ⟨⟨⟨k13, k14, k15, k16⟩, ⟨k17, k18, k19, k20⟩, ⟨k21, k22, k23, k24⟩⟩, W1, hW1, LX, LN, LR, Q⟩ := pwwz w 24 (lim x) (lim n)
 go_wp2_with fail
 clear k13 k14 k15 k16 k17 k18 k19 k20 k21 k22 k23 k24
 rw [hW1.out]
 clear hW1
 refine (Hhs.out _).mono ?_
 rintro e v25 ⟨rfl, q⟩
 have LX := LX.later q
 have LN := LN.later q
 have LR := LR.later q
 have Q := Q.trans (q.mono Q.size)
 clear q
 obtain ⟨r0, r1, r2, r3⟩ := c4 LR
 obtain ⟨z0, z1, z2, z3⟩ := f4 LR
 have HR := hid ((s4 LR (lim s)))
 have HQ := hid ((q4 (w.heap.size + 1 + 1) Q (by omega) (lim s)))
 obtain ⟨k26, k27, k28, k29⟩ := c4 LX
 obtain ⟨k30, k31, k32, k33⟩ := c4 LN
 clear Q LX LN LR
 go_wp2
 refine bodyPost_ret (results_wordB (m := lim s) rfl rfl HR.out) rfl ⟨rfl, HQ.out⟩
theorem less_take (x n s : Nat) (c : Int) (hc : Ret Tryz.prog 49 #[.agg #[.int .u64 (lim x 0), .int .u64 (lim x 1), .int .u64 (lim x 2), .int .u64 (lim x 3)], .agg #[.int .u64 (lim n 0), .int .u64 (lim n 1), .int .u64 (lim n 2), .int .u64 (lim n 3)]] (.int .i64 c)) (hs : Ret Tryz.prog 39 #[.agg #[.int .u64 (lim x 0), .int .u64 (lim x 1), .int .u64 (lim x 2), .int .u64 (lim x 3)], .agg #[.int .u64 (lim n 0), .int .u64 (lim n 1), .int .u64 (lim n 2), .int .u64 (lim n 3)]] (.agg #[.int .u64 (lim s 0), .int .u64 (lim s 1), .int .u64 (lim s 2), .int .u64 (lim s 3)])) (hge : 0 ≤ c) :
  Ret Tryz.prog 81 #[.agg #[.int .u64 (lim x 0), .int .u64 (lim x 1), .int .u64 (lim x 2), .int .u64 (lim x 3)], .bool false, .agg #[.int .u64 (lim n 0), .int .u64 (lim n 1), .int .u64 (lim n 2), .int .u64 (lim n 3)]] (.tuple #[.agg #[.int .u64 (lim s 0), .int .u64 (lim s 1), .int .u64 (lim s 2), .int .u64 (lim s 3)], .bool true]) := by
 intro w
 have Hhc := hid hc
 have Hhs := hid hs
 clear hc hs
 go_enter Tryz.func81, Tryz.ntmps81
 obtain ⟨⟨⟨k13, k14, k15, k16⟩, ⟨k17, k18, k19, k20⟩, ⟨k21, k22, k23, k24⟩⟩, W1, hW1, LX, LN, LR, Q⟩ := pwwz w 24 (lim x) (lim n)
 go_wp2_with fail
 clear k13 k14 k15 k16 k17 k18 k19 k20 k21 k22 k23 k24
 rw [hW1.out]
 clear hW1
 refine (Hhc.out _).mono ?_
 rintro e v25 ⟨rfl, q⟩
 have LX := LX.later q
 have LN := LN.later q
 have LR := LR.later q
 have Q := Q.trans (q.mono Q.size)
 clear q
 obtain ⟨k26, k27, k28, k29⟩ := c4 LX
 obtain ⟨k30, k31, k32, k33⟩ := c4 LN
 obtain ⟨k34, k35, k36, k37⟩ := c4 LR
 go_wp2_with fail
 clear k26 k27 k28 k29 k30 k31 k32 k33 k34 k35 k36 k37
 refine (Hhs.out _).mono ?_
 rintro e v38 ⟨rfl, q⟩
 have LX := LX.later q
 have LN := LN.later q
 have LR := LR.later q
 have Q := Q.trans (q.mono Q.size)
 clear q
 obtain ⟨r0, r1, r2, r3⟩ := c4 LR
 obtain ⟨z0, z1, z2, z3⟩ := f4 LR
 have HR := hid ((s4 LR (lim s)))
 have HQ := hid ((q4 (w.heap.size + 1 + 1) Q (by omega) (lim s)))
 obtain ⟨k39, k40, k41, k42⟩ := c4 LX
 obtain ⟨k43, k44, k45, k46⟩ := c4 LN
 clear Q LX LN LR
 go_wp2
 refine bodyPost_ret (results_wordB (m := lim s) rfl rfl HR.out) rfl ⟨rfl, HQ.out⟩
theorem less_keep (x n s : Nat) (c : Int) (hc : Ret Tryz.prog 49 #[.agg #[.int .u64 (lim x 0), .int .u64 (lim x 1), .int .u64 (lim x 2), .int .u64 (lim x 3)], .agg #[.int .u64 (lim n 0), .int .u64 (lim n 1), .int .u64 (lim n 2), .int .u64 (lim n 3)]] (.int .i64 c)) (hlt : ¬ 0 ≤ c) :
  Ret Tryz.prog 81 #[.agg #[.int .u64 (lim x 0), .int .u64 (lim x 1), .int .u64 (lim x 2), .int .u64 (lim x 3)], .bool false, .agg #[.int .u64 (lim n 0), .int .u64 (lim n 1), .int .u64 (lim n 2), .int .u64 (lim n 3)]] (.tuple #[.agg #[.int .u64 (lim x 0), .int .u64 (lim x 1), .int .u64 (lim x 2), .int .u64 (lim x 3)], .bool false]) := by
 intro w
 have Hhc := hid hc
 clear hc
 go_enter Tryz.func81, Tryz.ntmps81
 obtain ⟨⟨⟨k13, k14, k15, k16⟩, ⟨k17, k18, k19, k20⟩, ⟨k21, k22, k23, k24⟩⟩, W1, hW1, LX, LN, LR, Q⟩ := pwwz w 24 (lim x) (lim n)
 go_wp2_with fail
 clear k13 k14 k15 k16 k17 k18 k19 k20 k21 k22 k23 k24
 rw [hW1.out]
 clear hW1
 refine (Hhc.out _).mono ?_
 rintro e v25 ⟨rfl, q⟩
 have LX := LX.later q
 have LN := LN.later q
 have LR := LR.later q
 have Q := Q.trans (q.mono Q.size)
 clear q
 obtain ⟨r0, r1, r2, r3⟩ := c4 LR
 obtain ⟨z0, z1, z2, z3⟩ := f4 LR
 have HR := hid ((s4 LR (lim x)))
 have HQ := hid ((q4 (w.heap.size + 1 + 1) Q (by omega) (lim x)))
 obtain ⟨k26, k27, k28, k29⟩ := c4 LX
 obtain ⟨k30, k31, k32, k33⟩ := c4 LN
 clear Q LX LN LR
 go_wp2
 refine bodyPost_ret (results_wordB (m := lim x) rfl rfl HR.out) rfl ⟨rfl, HQ.out⟩
theorem refLess_ret (x n : Nat) (o : Bool) (hx : W256 x) (hn : W256 n) : Ret Tryz.prog 81 #[wv x, .bool o, wv n] (.tuple #[wv (if o = true ∨ n ≤ x then wsub x n else x), .bool (decide (o = true ∨ n ≤ x))]) := by
 have hc : (0 ≤ wcmp x n) ↔ n ≤ x := by unfold wcmp; by_cases h : x < n <;> by_cases h2 : n < x <;> simp [h, h2] <;> omega
 cases o with
 | true =>
  simp only [true_or, if_true, decide_true]
  exact less_over x n (wsub x n) 0 (refSub_ret x n hx hn)
 | false =>
  have hor : (false = true ∨ n ≤ x) = (n ≤ x) := by simp
  simp only [hor]
  by_cases h : n ≤ x
  ·simp only [h, if_true, decide_true]
   exact less_take x n (wsub x n) (wcmp x n) (refCmp_ret x n hx hn) (refSub_ret x n hx hn) (hc.2 h)
  ·simp only [h, if_false, decide_false]
   exact less_keep x n 0 (wcmp x n) (refCmp_ret x n hx hn) (fun h' => h (hc.1 h'))
theorem double_plain (x n s s2 r : Nat) (t : Bool) (ha : Ret Tryz.prog 37 #[.agg #[.int .u64 (lim x 0), .int .u64 (lim x 1), .int .u64 (lim x 2), .int .u64 (lim x 3)], .agg #[.int .u64 (lim x 0), .int .u64 (lim x 1), .int .u64 (lim x 2), .int .u64 (lim x 3)]] (.agg #[.int .u64 (lim s 0), .int .u64 (lim s 1), .int .u64 (lim s 2), .int .u64 (lim s 3)])) (hl : Ret Tryz.prog 81 #[.agg #[.int .u64 (lim s 0), .int .u64 (lim s 1), .int .u64 (lim s 2), .int .u64 (lim s 3)], .bool (decide (9223372036854775808 ≤ lim x 3)), .agg #[.int .u64 (lim n 0), .int .u64 (lim n 1), .int .u64 (lim n 2), .int .u64 (lim n 3)]] (.tuple #[.agg #[.int .u64 (lim r 0), .int .u64 (lim r 1), .int .u64 (lim r 2), .int .u64 (lim r 3)], .bool t])) :
  Ret Tryz.prog 83 #[.agg #[.int .u64 (lim x 0), .int .u64 (lim x 1), .int .u64 (lim x 2), .int .u64 (lim x 3)], .bool false, .agg #[.int .u64 (lim n 0), .int .u64 (lim n 1), .int .u64 (lim n 2), .int .u64 (lim n 3)]] (.tuple #[.agg #[.int .u64 (lim r 0), .int .u64 (lim r 1), .int .u64 (lim r 2), .int .u64 (lim r 3)], .bool t]) := by
 intro w
 have Hha := hid ha
 have Hhl := hid hl
 clear ha hl
 go_enter Tryz.func83, Tryz.ntmps83
 obtain ⟨⟨⟨k13, k14, k15, k16⟩, ⟨k17, k18, k19, k20⟩, ⟨k21, k22, k23, k24⟩⟩, W1, hW1, LX, LN, LR, Q⟩ := pwwz w 24 (lim x) (lim n)
 go_wp2_with fail
 clear k13 k14 k15 k16 k17 k18 k19 k20 k21 k22 k23 k24
 rw [hW1.out]
 clear hW1
 refine (Hha.out _).mono ?_
 rintro e v25 ⟨rfl, q⟩
 have LX := LX.later q
 have LN := LN.later q
 have LR := LR.later q
 have Q := Q.trans (q.mono Q.size)
 clear q
 obtain ⟨k26, k27, k28, k29⟩ := c4 LX
 obtain ⟨k30, k31, k32, k33⟩ := c4 LN
 obtain ⟨k34, k35, k36, k37⟩ := c4 LR
 have LX := LX.alloc (.cells (w4 (lim s)) 24)
 have LN := LN.alloc (.cells (w4 (lim s)) 24)
 have LR := LR.alloc (.cells (w4 (lim s)) 24)
 have LS := Has.new v25 24 (w4 (lim s))
 obtain ⟨k38, k39, k40, k41⟩ := c4 LX
 obtain ⟨k42, k43, k44, k45⟩ := c4 LN
 obtain ⟨k46, k47, k48, k49⟩ := c4 LR
 obtain ⟨k50, k51, k52, k53⟩ := c4 LS
 have Q := Q.alloc Q.size (.cells (w4 (lim s)) 24)
 go_wp2_with fail
 clear k26 k27 k28 k29 k30 k31 k32 k33 k34 k35 k36 k37 k38 k39 k40 k41 k42 k43 k44 k45 k46 k47 k48 k49 k50 k51 k52 k53
 obtain ⟨W2, hW2⟩ : ∃ W2, (v25.alloc (.cells (w4 (lim s)) 24)) = W2 := ⟨_, rfl⟩
 rw [hW2] at LX LN LR LS Q ⊢
 clear hW2
 generalize v25.heap.size = b2 at *
 refine (Hhl.out _).mono ?_
 rintro e v54 ⟨rfl, q⟩
 have LX := LX.later q
 have LN := LN.later q
 have LR := LR.later q
 have LS := LS.later q
 have Q := Q.trans (q.mono Q.size)
 clear q
 obtain ⟨r0, r1, r2, r3⟩ := c4 LR
 obtain ⟨z0, z1, z2, z3⟩ := f4 LR
 have HR := hid ((s4 LR (lim r)))
 have HQ := hid ((q4 (w.heap.size + 1 + 1) Q (by omega) (lim r)))
 obtain ⟨k55, k56, k57, k58⟩ := c4 LX
 obtain ⟨k59, k60, k61, k62⟩ := c4 LN
 obtain ⟨k63, k64, k65, k66⟩ := c4 LS
 clear Q LX LN LR LS
 go_wp2
 refine bodyPost_ret (results_wordB (m := lim r) rfl rfl HR.out) rfl ⟨rfl, HQ.out⟩
theorem double_one (x n s s2 r : Nat) (t : Bool) (ha : Ret Tryz.prog 37 #[.agg #[.int .u64 (lim x 0), .int .u64 (lim x 1), .int .u64 (lim x 2), .int .u64 (lim x 3)], .agg #[.int .u64 (lim x 0), .int .u64 (lim x 1), .int .u64 (lim x 2), .int .u64 (lim x 3)]] (.agg #[.int .u64 (lim s 0), .int .u64 (lim s 1), .int .u64 (lim s 2), .int .u64 (lim s 3)])) (ho : Ret Tryz.prog 10 #[.int .i64 1] (.agg #[.int .u64 1, .int .u64 0, .int .u64 0, .int .u64 0])) (ha2 : Ret Tryz.prog 37 #[.agg #[.int .u64 (lim s 0), .int .u64 (lim s 1), .int .u64 (lim s 2), .int .u64 (lim s 3)], .agg #[.int .u64 1, .int .u64 0, .int .u64 0, .int .u64 0]] (.agg #[.int .u64 (lim s2 0), .int .u64 (lim s2 1), .int .u64 (lim s2 2), .int .u64 (lim s2 3)])) (hl : Ret Tryz.prog 81 #[.agg #[.int .u64 (lim s2 0), .int .u64 (lim s2 1), .int .u64 (lim s2 2), .int .u64 (lim s2 3)], .bool (decide (9223372036854775808 ≤ lim x 3)), .agg #[.int .u64 (lim n 0), .int .u64 (lim n 1), .int .u64 (lim n 2), .int .u64 (lim n 3)]] (.tuple #[.agg #[.int .u64 (lim r 0), .int .u64 (lim r 1), .int .u64 (lim r 2), .int .u64 (lim r 3)], .bool t])) :
  Ret Tryz.prog 83 #[.agg #[.int .u64 (lim x 0), .int .u64 (lim x 1), .int .u64 (lim x 2), .int .u64 (lim x 3)], .bool true, .agg #[.int .u64 (lim n 0), .int .u64 (lim n 1), .int .u64 (lim n 2), .int .u64 (lim n 3)]] (.tuple #[.agg #[.int .u64 (lim r 0), .int .u64 (lim r 1), .int .u64 (lim r 2), .int .u64 (lim r 3)], .bool t]) := by
 intro w
 have Hha := hid ha
 have Hho := hid ho
 have Hha2 := hid ha2
 have Hhl := hid hl
 clear ha ho ha2 hl
 go_enter Tryz.func83, Tryz.ntmps83
 obtain ⟨⟨⟨k13, k14, k15, k16⟩, ⟨k17, k18, k19, k20⟩, ⟨k21, k22, k23, k24⟩⟩, W1, hW1, LX, LN, LR, Q⟩ := pwwz w 24 (lim x) (lim n)
 go_wp2_with fail
 clear k13 k14 k15 k16 k17 k18 k19 k20 k21 k22 k23 k24
 rw [hW1.out]
 clear hW1
 refine (Hha.out _).mono ?_
 rintro e v25 ⟨rfl, q⟩
 have LX := LX.later q
 have LN := LN.later q
 have LR := LR.later q
 have Q := Q.trans (q.mono Q.size)
 clear q
 have aX := LX.lt
 have aN := LN.lt
 have aR := LR.lt
 obtain ⟨k26, k27, k28, k29⟩ := c4 LX
 obtain ⟨k30, k31, k32, k33⟩ := c4 LN
 obtain ⟨k34, k35, k36, k37⟩ := c4 LR
 have LX := LX.alloc (.cells (w4 (lim s)) 24)
 have LN := LN.alloc (.cells (w4 (lim s)) 24)
 have LR := LR.alloc (.cells (w4 (lim s)) 24)
 have LS := Has.new v25 24 (w4 (lim s))
 obtain ⟨k38, k39, k40, k41⟩ := c4 LX
 obtain ⟨k42, k43, k44, k45⟩ := c4 LN
 obtain ⟨k46, k47, k48, k49⟩ := c4 LR
 obtain ⟨k50, k51, k52, k53⟩ := c4 LS
 have Q := Q.alloc Q.size (.cells (w4 (lim s)) 24)
 go_wp2_with fail
 clear k26 k27 k28 k29 k30 k31 k32 k33 k34 k35 k36 k37 k38 k39 k40 k41 k42 k43 k44 k45 k46 k47 k48 k49 k50 k51 k52 k53
 obtain ⟨W2, hW2⟩ : ∃ W2, (v25.alloc (.cells (w4 (lim s)) 24)) = W2 := ⟨_, rfl⟩
 rw [hW2] at LX LN LR LS Q ⊢
 clear hW2
 generalize v25.heap.size = b2 at *
 obtain ⟨k54, k55, k56, k57⟩ := e4 LX
 obtain ⟨k58, k59, k60, k61⟩ := e4 LN
 obtain ⟨k62, k63, k64, k65⟩ := e4 LR
 obtain ⟨k66, k67, k68, k69⟩ := e4 LS
 have hmx : Tryz.prog.follows .mixedOrders = true := by kernel_rfl
 refine wp_region_mix (C := Grows W2) [some true, some true, some true, none] hmx (by kernel_rfl) (by kernel_rfl) (grows_refl W2) ?_
 simp only [headOf, tailOf]
 repeat (go_big_quiet_step (first | (with_reducible exact Ret.at Hho.out _) | (with_reducible exact Ret.at Hha2.out _)))
 refine wpQuiet_nil ?_
 rintro _ ⟨x70, rfl⟩
 clear hmx k54 k55 k56 k57 k58 k59 k60 k61 k62 k63 k64 k65 k66 k67 k68 k69
 have LX := LX.later x70.below
 have LN := LN.later x70.below
 have LR := LR.later x70.below
 have LS := LS.later x70.below
 have Q := Q.trans (x70.below.mono Q.size)
 obtain ⟨k71, k72, k73, k74⟩ := c4 LS
 obtain ⟨f71, f72, f73, f74⟩ := f4 LS
 have LX := ((((LX.other (p := ⟨b2, 0, none⟩) (show w.heap.size ≠ b2 by omega) (.int .u64 (lim s2 0))).other (p := ⟨b2, 1, none⟩) (show w.heap.size ≠ b2 by omega) (.int .u64 (lim s2 1))).other (p := ⟨b2, 2, none⟩) (show w.heap.size ≠ b2 by omega) (.int .u64 (lim s2 2))).other (p := ⟨b2, 3, none⟩) (show w.heap.size ≠ b2 by omega) (.int .u64 (lim s2 3)))
 have LN := ((((LN.other (p := ⟨b2, 0, none⟩) (show w.heap.size + 1 ≠ b2 by omega) (.int .u64 (lim s2 0))).other (p := ⟨b2, 1, none⟩) (show w.heap.size + 1 ≠ b2 by omega) (.int .u64 (lim s2 1))).other (p := ⟨b2, 2, none⟩) (show w.heap.size + 1 ≠ b2 by omega) (.int .u64 (lim s2 2))).other (p := ⟨b2, 3, none⟩) (show w.heap.size + 1 ≠ b2 by omega) (.int .u64 (lim s2 3)))
 have LR := ((((LR.other (p := ⟨b2, 0, none⟩) (show w.heap.size + 1 + 1 ≠ b2 by omega) (.int .u64 (lim s2 0))).other (p := ⟨b2, 1, none⟩) (show w.heap.size + 1 + 1 ≠ b2 by omega) (.int .u64 (lim s2 1))).other (p := ⟨b2, 2, none⟩) (show w.heap.size + 1 + 1 ≠ b2 by omega) (.int .u64 (lim s2 2))).other (p := ⟨b2, 3, none⟩) (show w.heap.size + 1 + 1 ≠ b2 by omega) (.int .u64 (lim s2 3)))
 have LS := (s4 LS (lim s2))
 replace LS : Has ((((x70.w.setCell ⟨b2, 0, none⟩ (.int .u64 (lim s2 0))).setCell ⟨b2, 1, none⟩ (.int .u64 (lim s2 1))).setCell ⟨b2, 2, none⟩ (.int .u64 (lim s2 2))).setCell ⟨b2, 3, none⟩ (.int .u64 (lim s2 3))) b2 24 #[.int .u64 (lim s2 0), .int .u64 (lim s2 1), .int .u64 (lim s2 2), .int .u64 (lim s2 3)] := LS
 have Q := (q4 (b2) Q (by omega) (lim s2))
 go_wp2
 rw [calmPost_normal]
 clear k71 f71 k72 f72 k73 f73 k74 f74
 obtain ⟨W3, hW3⟩ : ∃ W3, ((((x70.w.setCell ⟨b2, 0, none⟩ (.int .u64 (lim s2 0))).setCell ⟨b2, 1, none⟩ (.int .u64 (lim s2 1))).setCell ⟨b2, 2, none⟩ (.int .u64 (lim s2 2))).setCell ⟨b2, 3, none⟩ (.int .u64 (lim s2 3))) = W3 := ⟨_, rfl⟩
 rw [hW3] at Q LX LN LR LS ⊢
 clear hW3
 obtain ⟨k75, k76, k77, k78⟩ := c4 LX
 obtain ⟨k79, k80, k81, k82⟩ := c4 LN
 obtain ⟨k83, k84, k85, k86⟩ := c4 LR
 obtain ⟨k87, k88, k89, k90⟩ := c4 LS
 go_wp2_with fail
 clear k75 k76 k77 k78 k79 k80 k81 k82 k83 k84 k85 k86 k87 k88 k89 k90
 refine (Hhl.out _).mono ?_
 rintro e v91 ⟨rfl, q⟩
 have LX := LX.later q
 have LN := LN.later q
 have LR := LR.later q
 have LS := LS.later q
 have Q := Q.trans (q.mono Q.size)
 clear q
 obtain ⟨r0, r1, r2, r3⟩ := c4 LR
 obtain ⟨z0, z1, z2, z3⟩ := f4 LR
 have HR := hid ((s4 LR (lim r)))
 have HQ := hid ((q4 (w.heap.size + 1 + 1) Q (by omega) (lim r)))
 obtain ⟨k92, k93, k94, k95⟩ := c4 LX
 obtain ⟨k96, k97, k98, k99⟩ := c4 LN
 obtain ⟨k100, k101, k102, k103⟩ := c4 LS
 clear Q LX LN LR LS
 go_wp2
 refine bodyPost_ret (results_wordB (m := lim r) rfl rfl HR.out) rfl ⟨rfl, HQ.out⟩
theorem one_ret : Ret Tryz.prog 10 #[.int .i64 1] (.agg #[.int .u64 1, .int .u64 0, .int .u64 0, .int .u64 0]) := (refOf_ret 1 (by unfold I64; omega)).of_eq rfl (wv_of ⟨by decide, by decide, by decide, by decide⟩)
theorem wv_one : wv 1 = .agg #[.int .u64 1, .int .u64 0, .int .u64 0, .int .u64 0] := wv_of ⟨by decide, by decide, by decide, by decide⟩
theorem topP (a : Nat) (ha : W256 a) : decide (9223372036854775808 ≤ lim a 3) = decide (57896044618658097711785492504343953926634992332820282019728792003956564819968 ≤ a) := by
 unfold W256 at ha
 rw [decide_eq_decide]
 show (9223372036854775808 : Int) ≤ ((a / 6277101735386680763835789423207666416102355444464034512896 % 18446744073709551616 : Nat) : Int) ↔ _
 omega
theorem refDouble_ret (x n t : Nat) (hx : W256 x) (hn : W256 n) (ht : t < 2) (hlt : x < n) : Ret Tryz.prog 83 #[wv x, .bool (decide (t = 1)), wv n] (.tuple #[wv (if n ≤ 2 * x + t then 2 * x + t - n else 2 * x + t), .bool (decide (n ≤ 2 * x + t))]) := by
 have hs : wmod (x + x) < 115792089237316195423570985008687907853269984665640564039457584007913129639936 := Nat.mod_lt _ (by decide)
 have tp := topP x hx
 have key : ∀ s2, W256 s2 → s2 = wmod (2 * x + t) → ((decide (57896044618658097711785492504343953926634992332820282019728792003956564819968 ≤ x) = true ∨ n ≤ s2) ↔ n ≤ 2 * x + t) ∧ (n ≤ 2 * x + t → wsub s2 n = 2 * x + t - n) ∧ (¬ n ≤ 2 * x + t → s2 = 2 * x + t) := by
  intro s2 h2 he
  unfold W256 at *
  rw [decide_eq_true_eq]
  unfold wsub wmod at *
  refine ⟨?_, fun _ => ?_, fun _ => ?_⟩
  ·omega
  ·omega
  ·omega
 have fin : ∀ s2, W256 s2 → s2 = wmod (2 * x + t) → Ret Tryz.prog 81 #[wv s2, .bool (decide (9223372036854775808 ≤ lim x 3)), wv n] (.tuple #[wv (if n ≤ 2 * x + t then 2 * x + t - n else 2 * x + t), .bool (decide (n ≤ 2 * x + t))]) := by
  intro s2 h2 he
  obtain ⟨k1, k2, k3⟩ := key s2 h2 he
  rw [tp]
  refine (refLess_ret s2 n _ h2 hn).of_eq rfl ?_
  by_cases h : n ≤ 2 * x + t
  ·rw [if_pos (k1.2 h), if_pos h, k2 h, decide_eq_true (k1.2 h), decide_eq_true h]
  ·rw [if_neg (fun h' => h (k1.1 h')), if_neg h, ← k3 h, decide_eq_false (fun h' => h (k1.1 h')), decide_eq_false (by rw [k3 h]; exact h)]
 rcases (show t = 0 ∨ t = 1 by omega) with rfl | rfl
 ·exact double_plain x n (wmod (x + x)) 0 _ _ (refAdd_ret x x hx hx) (fin _ hs (by rw [Nat.two_mul, Nat.add_zero]))
 ·have h2 : wmod (wmod (x + x) + 1) < 115792089237316195423570985008687907853269984665640564039457584007913129639936 := Nat.mod_lt _ (by decide)
  exact double_one x n (wmod (x + x)) (wmod (wmod (x + x) + 1)) _ _ (refAdd_ret x x hx hx) one_ret ((refAdd_ret (wmod (x + x)) 1 hs (by unfold W256; omega)).of_eq (by rw [wv_one]; rfl) rfl) (fin _ h2 (by unfold wmod; omega))
theorem dv_step (a b k : Nat) (hb : b ≠ 0) : (a / 2 ^ k) % b = (if b ≤ 2 * (a / 2 ^ (k + 1) % b) + bt a k then 2 * (a / 2 ^ (k + 1) % b) + bt a k - b else 2 * (a / 2 ^ (k + 1) % b) + bt a k) ∧ bt (a / b) k = if b ≤ 2 * (a / 2 ^ (k + 1) % b) + bt a k then 1 else 0 := by
 have e1 : a / 2 ^ (k + 1) = a / 2 ^ k / 2 := by rw [Nat.pow_succ, Nat.div_div_eq_div_mul]
 have e2 : bt (a / b) k = a / 2 ^ k / b % 2 := by unfold bt; rw [Nat.div_div_eq_div_mul, Nat.div_div_eq_div_mul, Nat.mul_comm]
 have e3 : bt a k = a / 2 ^ k % 2 := rfl
 rw [e1, e2, e3]
 generalize a / 2 ^ k = A
 have hq := Nat.div_add_mod (A / 2) b
 have hr := Nat.mod_lt (A / 2) (Nat.pos_of_ne_zero hb)
 have hA : A = b * (2 * (A / 2 / b)) + (2 * (A / 2 % b) + A % 2) := by
  have e : b * (2 * (A / 2 / b)) = 2 * (b * (A / 2 / b)) := Nat.mul_left_comm _ _ _
  omega
 have ht : A % 2 < 2 := Nat.mod_lt _ (by decide)
 have hp := Nat.pos_of_ne_zero hb
 generalize A / 2 / b = q at *
 generalize A / 2 % b = r at *
 generalize A % 2 = t at *
 rw [hA, Nat.mul_add_mod, Nat.mul_add_div hp]
 by_cases h : b ≤ 2 * r + t
 ·rw [if_pos h, if_pos h]
  have e1 : (2 * r + t) / b = 1 := by
   rw [Nat.div_eq_sub_div hp h, Nat.div_eq_of_lt (by omega)]
  have e2 : (2 * r + t) % b = 2 * r + t - b := by
   rw [Nat.mod_eq_sub_mod h, Nat.mod_eq_of_lt (by omega)]
  rw [e1, e2]
  omega
 ·rw [if_neg h, if_neg h, Nat.div_eq_of_lt (by omega), Nat.mod_eq_of_lt (by omega)]
  omega
end
section
open Go Go.RowKit
attribute [local go_sem] Oper.semAt_some Grows
theorem run_mkB (W : World) : (Instr.makeSlice 93 (.int .i64 256) (.int .i64 256)).run Tryz.prog W = .ok (.slice (some ⟨W.heap.size, 0, none⟩) 256 256) (W.alloc (.cells (madeCells #[.int .i64 0] 256) 3)) := by
 obtain ⟨i0, hi, hz0, hz1, hz2⟩ := info_parts infoI
 have h := run_make (P := Tryz.prog) W 93 3 i0 (.int .i64 0) Tryz.underlying93 hi hz0 .i64 .i64 256 256 (by decide) (by decide) (by rw [hz2]; decide) (by decide)
 rw [hz1] at h
 exact h
def dq (N k j : Nat) : Int := if j < k then 0 else (bt N j : Int)
theorem dq_zero (N j : Nat) : dq N 0 j = (bt N j : Int) := if_neg (Nat.not_lt_zero j)
theorem dq_top (N j : Nat) (h : j < 256) : dq N 256 j = 0 := if_pos h
def rdN (a b k : Nat) : Nat := a / 2 ^ k % b
theorem rdN_zero (a b : Nat) : rdN a b 0 = a % b := by unfold rdN; rw [Nat.pow_zero, Nat.div_one]
theorem rdN_top (a b : Nat) (ha : W256 a) : rdN a b 256 = 0 := by
 unfold rdN
 rw [Nat.div_eq_of_lt (show a < 2 ^ 256 from ha), Nat.zero_mod]
theorem rd_take (a b m : Nat) (hb : b ≠ 0) (h : b ≤ 2 * rdN a b (m + 1) + bt a m) : 2 * rdN a b (m + 1) + bt a m - b = rdN a b m ∧ (fun j => if j = m then (1 : Int) else dq (a / b) (m + 1) j) = dq (a / b) m := by
 obtain ⟨h1, h2⟩ := dv_step a b m hb
 unfold rdN at h
 rw [if_pos h] at h1 h2
 refine ⟨h1.symm, funext fun j => ?_⟩
 unfold dq
 by_cases e : j = m
 ·subst e; rw [if_pos rfl, if_neg (Nat.lt_irrefl _), h2]; rfl
 ·rw [if_neg e]
  by_cases e2 : j < m
  ·rw [if_pos (by omega), if_pos e2]
  ·rw [if_neg (by omega), if_neg e2]
theorem rd_keep (a b m : Nat) (hb : b ≠ 0) (h : ¬ b ≤ 2 * rdN a b (m + 1) + bt a m) : 2 * rdN a b (m + 1) + bt a m = rdN a b m ∧ dq (a / b) (m + 1) = dq (a / b) m := by
 obtain ⟨h1, h2⟩ := dv_step a b m hb
 unfold rdN at h
 rw [if_neg h] at h1 h2
 refine ⟨h1.symm, funext fun j => ?_⟩
 unfold dq
 by_cases e : j = m
 ·subst e; rw [if_pos (by omega), if_neg (Nat.lt_irrefl _), h2]; rfl
 ·by_cases e2 : j < m
  ·rw [if_pos (by omega), if_pos e2]
  ·rw [if_neg (by omega), if_neg e2]
theorem results_two {fn : Func} {t u : Tmp} {tmps : Array Value} {W : World} {B B' : Nat} {m m' : Nat → Int} (h : fn.results = #[ResultVar.cell t 24, ResultVar.cell u 24]) (ht : tmps.getD t undef = .pointer (some ⟨B, 0, none⟩)) (hu : tmps.getD u undef = .pointer (some ⟨B', 0, none⟩)) (hA : Has W B 24 #[.int .u64 (m 0), .int .u64 (m 1), .int .u64 (m 2), .int .u64 (m 3)]) (hA' : Has W B' 24 #[.int .u64 (m' 0), .int .u64 (m' 1), .int .u64 (m' 2), .int .u64 (m' 3)]) :
  (results fn tmps).run Tryz.prog W = .ok (.tuple #[.agg #[.int .u64 (m 0), .int .u64 (m 1), .int .u64 (m 2), .int .u64 (m 3)], .agg #[.int .u64 (m' 0), .int .u64 (m' 1), .int .u64 (m' 2), .int .u64 (m' 3)]]) W := by
 obtain ⟨e0, e1, e2, e3⟩ := c4 hA
 obtain ⟨f0, f1, f2, f3⟩ := c4 hA'
 simp at ht hu
 simp [results, h, ht, hu, go_sem, e0, e1, e2, e3, f0, f1, f2, f3]
theorem refDivided_ret (a b : Nat) (ha : W256 a) (hb : W256 b) (h0 : b ≠ 0) :
  Ret Tryz.prog 77 #[wv a, wv b] (.tuple #[wv (a / b), wv (a % b)]) := by
 intro w
 have HB := hid (bits_any a)
 have HF := hid (fromBits_any (a / b) (by unfold W256 at *; exact Nat.lt_of_le_of_lt (Nat.div_le_self a b) ha))
 have HD := hid (fun r t hr ht hl => refDouble_ret r b t hr hb ht hl)
 have HT0 := rdN_top a b ha
 have HE0 := hid (rdN_zero a b)
 have HL := hid (fun k : Nat => show rdN a b k < b from Nat.mod_lt _ (Nat.pos_of_ne_zero h0))
 have H0 := hid h0
 have HWb := hid hb
 clear ha hb h0
 unfold wv at HB HF HD ⊢
 go_enter Tryz.func77, Tryz.ntmps77
 obtain ⟨⟨⟨k25, k26, k27, k28⟩, ⟨k29, k30, k31, k32⟩, ⟨k33, k34, k35, k36⟩, ⟨k37, k38, k39, k40⟩⟩, W1, hW1, LX, LN, LR, LT, Q⟩ := pwwzz w 24 (lim a) (lim b)
 go_wp2_with fail
 clear k25 k26 k27 k28 k29 k30 k31 k32 k33 k34 k35 k36 k37 k38 k39 k40
 rw [hW1.out]
 clear hW1
 refine (HB.out _).mono ?_
 rintro e v41 ⟨g, cap, rfl, hg, hI, q⟩
 have LX := LX.later q
 have LN := LN.later q
 have LR := LR.later q
 have LT := LT.later q
 have Q := Q.trans (q.mono Q.size)
 clear q
 clear hg HB LX
 have aN := LN.lt
 have aR := LR.lt
 have aT := LT.lt
 have aI := hI.lt
 have LN := (LN.alloc (.cells z4 24)).alloc (.cells (madeCells #[.int .i64 0] 256) 3)
 have LR := (LR.alloc (.cells z4 24)).alloc (.cells (madeCells #[.int .i64 0] 256) 3)
 have LT := (LT.alloc (.cells z4 24)).alloc (.cells (madeCells #[.int .i64 0] 256) 3)
 have LS := (Has.new v41 24 z4).alloc (.cells (madeCells #[.int .i64 0] 256) 3)
 have hI := (hI.alloc (.cells z4 24)).alloc (.cells (madeCells #[.int .i64 0] 256) 3)
 have IQ := zero_ints (v41.alloc (.cells z4 24)) 256
 simp only [World.size_alloc] at IQ
 have Q := (Q.alloc Q.size (.cells z4 24)).alloc (by have := Q.size; simp; omega) (.cells (madeCells #[.int .i64 0] 256) 3)
 have hmk := run_mkB
 go_wp2
 obtain ⟨W3, hW3⟩ : ∃ W3, (v41.alloc (.cells z4 24)).alloc (.cells (madeCells #[.int .i64 0] 256) 3) = W3 := ⟨_, rfl⟩
 rw [hW3] at LN LR LT LS hI IQ Q ⊢
 clear hW3 hmk
 generalize v41.heap.size = c at *
 go_loopw [9] (fun i wr => ∃ (k : Nat) (z : Int), k ≤ 256 ∧ z = (k : Int) - 1 ∧ i = .int .i64 z ∧ IntsAt wr g 256 (fun j => (bt a j : Int)) ∧ IntsAt wr (c + 1) 256 (dq (a / b) k) ∧ Has wr (w.heap.size + 1) 24 #[.int .u64 (lim b 0), .int .u64 (lim b 1), .int .u64 (lim b 2), .int .u64 (lim b 3)] ∧ Has wr (w.heap.size + 1 + 1) 24 #[.int .u64 0, .int .u64 0, .int .u64 0, .int .u64 0] ∧ Has wr (w.heap.size + 1 + 1 + 1) 24 #[.int .u64 0, .int .u64 0, .int .u64 0, .int .u64 0] ∧ Has wr (c) 24 #[.int .u64 (lim (rdN a b k) 0), .int .u64 (lim (rdN a b k) 1), .int .u64 (lim (rdN a b k) 2), .int .u64 (lim (rdN a b k) 3)] ∧ Below w.heap.size w wr) (fun i _ => (intOf i + 1).toNat)
 case atStart => exact ⟨256, 255, by omega, by omega, rfl, hI, IQ.congr (fun j hj => (dq_top (a / b) j hj).symm), LN, LR, LT, by rw [HT0]; exact LS, Q⟩
 case round =>
  obtain ⟨k, z, hk, hz, rfl, hI, IQ, LN, LR, LT, LS, Q⟩ := hrel
  clear HT0
  by_cases hk0 : k = 0
  ·obtain rfl : z = -1 := by omega
   subst hk0
   have IB := IQ.congr (fun j _ => dq_zero (a / b) j)
   rw [HE0.out] at LS
   have nQR : c + 1 ≠ w.heap.size + 1 + 1 := by omega
   have nQT : c + 1 ≠ w.heap.size + 1 + 1 + 1 := by omega
   have nSR : c ≠ w.heap.size + 1 + 1 := by omega
   have nST : c ≠ w.heap.size + 1 + 1 + 1 := by omega
   clear hk hz hI IQ LN aN aI HE0 HL HD H0 HWb
   go_wp2
   refine wp_region_ghost [some (.slice (some ⟨c + 1, 0, none⟩) 256 256), some (.agg #[.int .u64 (lim (a / b) 0), .int .u64 (lim (a / b) 1), .int .u64 (lim (a / b) 2), .int .u64 (lim (a / b) 3)]), some (.agg #[.int .u64 (lim (a % b) 0), .int .u64 (lim (a % b) 1), .int .u64 (lim (a % b) 2), .int .u64 (lim (a % b) 3)]), none, none] [[], [0], [], [0, 1], [0, 1, 2, 3]] (fun f g' w' => Below w.heap.size w w' ∧ IntsAt w' (c + 1) 256 (fun j => (bt (a / b) j : Int)) ∧ Has w' (c) 24 #[.int .u64 (lim (a % b) 0), .int .u64 (lim (a % b) 1), .int .u64 (lim (a % b) 2), .int .u64 (lim (a % b) 3)] ∧ Has w' (w.heap.size + 1 + 1) 24 (cellsIf (f 3) #[.int .u64 (lim (a / b) 0), .int .u64 (lim (a / b) 1), .int .u64 (lim (a / b) 2), .int .u64 (lim (a / b) 3)] #[.int .u64 0, .int .u64 0, .int .u64 0, .int .u64 0]) ∧ Has w' (w.heap.size + 1 + 1 + 1) 24 (cellsIf (f 4) #[.int .u64 (lim (a % b) 0), .int .u64 (lim (a % b) 1), .int .u64 (lim (a % b) 2), .int .u64 (lim (a % b) 3)] #[.int .u64 0, .int .u64 0, .int .u64 0, .int .u64 0]))
    (by kernel_rfl) (by kernel_rfl) (by kernel_rfl) ?_ ?_ ?_ ?_
   ·rintro f g' wa wb ⟨h1, h2, h3, h4, h5⟩ hb
    exact ⟨h1.trans (hb.mono h1.size), h2.later hb, h3.later hb, h4.later hb, h5.later hb⟩
   ·intro f f' g1 g1' wa h
    have ha := h 3 rfl
    have hs := h 4 rfl
    simp only [ha.1, hs.1]
    exact id
   ·exact ⟨Q.drew, IB, LS, LR, LT⟩
   rintro f g' y ⟨h1, h2, h3, h4, h5⟩ Dn
   clear Q IB LS LR LT
   refine GW.known _ rfl (fun hd hf => ?_) ?_
   ·go_wp2
    exact ⟨rfl, rfl, Below.refl _ _⟩
   simp only [Act.put, sT, sS, sZ]
   refine GW.known _ rfl (fun hd hf => ?_) ?_
   ·go_wp2_with fail
    refine (HF.out _ _ _ h2).mono ?_
    rintro e u ⟨rfl, hb⟩
    go_wp2
    exact ⟨rfl, rfl, hb⟩
   simp only [Act.put, sT, sS, sZ]
   refine GW.known _ rfl (fun hd hf => ?_) ?_
   ·have s0 := h3.cell 0 _ rfl
    have s1 := h3.cell 1 _ rfl
    have s2 := h3.cell 2 _ rfl
    have s3 := h3.cell 3 _ rfl
    go_wp2
    exact ⟨rfl, rfl, Below.refl _ _⟩
   simp only [Act.put, sT, sS, sZ]
   refine GW.open rfl (fun hd hf => ?_) ?_
   ·rw [hf, cellsIf_false] at h4
    obtain ⟨c0, c1, c2, c3⟩ := c4 h4
    have z0 := h4.frozen 0
    have z1 := h4.frozen 1
    have z2 := h4.frozen 2
    have z3 := h4.frozen 3
    go_wp2
    refine ⟨rfl, (q4 (w.heap.size + 1 + 1) h1 (show w.heap.size ≤ w.heap.size + 1 + 1 by omega) (lim (a / b))), ((((h2.other (p := ⟨w.heap.size + 1 + 1, 0, none⟩) nQR (.int .u64 (lim (a / b) 0))).other (p := ⟨w.heap.size + 1 + 1, 1, none⟩) nQR (.int .u64 (lim (a / b) 1))).other (p := ⟨w.heap.size + 1 + 1, 2, none⟩) nQR (.int .u64 (lim (a / b) 2))).other (p := ⟨w.heap.size + 1 + 1, 3, none⟩) nQR (.int .u64 (lim (a / b) 3))), ((((h3.other (p := ⟨w.heap.size + 1 + 1, 0, none⟩) nSR (.int .u64 (lim (a / b) 0))).other (p := ⟨w.heap.size + 1 + 1, 1, none⟩) nSR (.int .u64 (lim (a / b) 1))).other (p := ⟨w.heap.size + 1 + 1, 2, none⟩) nSR (.int .u64 (lim (a / b) 2))).other (p := ⟨w.heap.size + 1 + 1, 3, none⟩) nSR (.int .u64 (lim (a / b) 3))), ?_, ?_⟩
    ·show Has _ (w.heap.size + 1 + 1) 24 (cellsIf (upd f 3 true 3) #[.int .u64 (lim (a / b) 0), .int .u64 (lim (a / b) 1), .int .u64 (lim (a / b) 2), .int .u64 (lim (a / b) 3)] #[.int .u64 0, .int .u64 0, .int .u64 0, .int .u64 0])
     rw [upd_self, cellsIf_true]
     exact (s4 h4 (lim (a / b)))
    ·show Has _ (w.heap.size + 1 + 1 + 1) 24 (cellsIf (upd f 3 true 4) #[.int .u64 (lim (a % b) 0), .int .u64 (lim (a % b) 1), .int .u64 (lim (a % b) 2), .int .u64 (lim (a % b) 3)] #[.int .u64 0, .int .u64 0, .int .u64 0, .int .u64 0])
     rw [upd_ne f true (show (4 : Nat) ≠ 3 by decide)]
     exact ((((h5.other (p := ⟨w.heap.size + 1 + 1, 0, none⟩) (show w.heap.size + 1 + 1 + 1 ≠ w.heap.size + 1 + 1 by omega) (.int .u64 (lim (a / b) 0))).other (p := ⟨w.heap.size + 1 + 1, 1, none⟩) (show w.heap.size + 1 + 1 + 1 ≠ w.heap.size + 1 + 1 by omega) (.int .u64 (lim (a / b) 1))).other (p := ⟨w.heap.size + 1 + 1, 2, none⟩) (show w.heap.size + 1 + 1 + 1 ≠ w.heap.size + 1 + 1 by omega) (.int .u64 (lim (a / b) 2))).other (p := ⟨w.heap.size + 1 + 1, 3, none⟩) (show w.heap.size + 1 + 1 + 1 ≠ w.heap.size + 1 + 1 by omega) (.int .u64 (lim (a / b) 3)))
   simp only [Act.put, sT, sS, sZ]
   refine GW.open rfl (fun hd hf => ?_) ?_
   ·rw [hf, cellsIf_false] at h5
    obtain ⟨c0, c1, c2, c3⟩ := c4 h5
    have z0 := h5.frozen 0
    have z1 := h5.frozen 1
    have z2 := h5.frozen 2
    have z3 := h5.frozen 3
    go_wp2
    refine ⟨rfl, (q4 (w.heap.size + 1 + 1 + 1) h1 (show w.heap.size ≤ w.heap.size + 1 + 1 + 1 by omega) (lim (a % b))), ((((h2.other (p := ⟨w.heap.size + 1 + 1 + 1, 0, none⟩) nQT (.int .u64 (lim (a % b) 0))).other (p := ⟨w.heap.size + 1 + 1 + 1, 1, none⟩) nQT (.int .u64 (lim (a % b) 1))).other (p := ⟨w.heap.size + 1 + 1 + 1, 2, none⟩) nQT (.int .u64 (lim (a % b) 2))).other (p := ⟨w.heap.size + 1 + 1 + 1, 3, none⟩) nQT (.int .u64 (lim (a % b) 3))), ((((h3.other (p := ⟨w.heap.size + 1 + 1 + 1, 0, none⟩) nST (.int .u64 (lim (a % b) 0))).other (p := ⟨w.heap.size + 1 + 1 + 1, 1, none⟩) nST (.int .u64 (lim (a % b) 1))).other (p := ⟨w.heap.size + 1 + 1 + 1, 2, none⟩) nST (.int .u64 (lim (a % b) 2))).other (p := ⟨w.heap.size + 1 + 1 + 1, 3, none⟩) nST (.int .u64 (lim (a % b) 3))), ?_, ?_⟩
    ·show Has _ (w.heap.size + 1 + 1) 24 (cellsIf (upd f 4 true 3) #[.int .u64 (lim (a / b) 0), .int .u64 (lim (a / b) 1), .int .u64 (lim (a / b) 2), .int .u64 (lim (a / b) 3)] #[.int .u64 0, .int .u64 0, .int .u64 0, .int .u64 0])
     rw [upd_ne f true (show (3 : Nat) ≠ 4 by decide)]
     exact ((((h4.other (p := ⟨w.heap.size + 1 + 1 + 1, 0, none⟩) (show w.heap.size + 1 + 1 ≠ w.heap.size + 1 + 1 + 1 by omega) (.int .u64 (lim (a % b) 0))).other (p := ⟨w.heap.size + 1 + 1 + 1, 1, none⟩) (show w.heap.size + 1 + 1 ≠ w.heap.size + 1 + 1 + 1 by omega) (.int .u64 (lim (a % b) 1))).other (p := ⟨w.heap.size + 1 + 1 + 1, 2, none⟩) (show w.heap.size + 1 + 1 ≠ w.heap.size + 1 + 1 + 1 by omega) (.int .u64 (lim (a % b) 2))).other (p := ⟨w.heap.size + 1 + 1 + 1, 3, none⟩) (show w.heap.size + 1 + 1 ≠ w.heap.size + 1 + 1 + 1 by omega) (.int .u64 (lim (a % b) 3)))
    ·show Has _ (w.heap.size + 1 + 1 + 1) 24 (cellsIf (upd f 4 true 4) #[.int .u64 (lim (a % b) 0), .int .u64 (lim (a % b) 1), .int .u64 (lim (a % b) 2), .int .u64 (lim (a % b) 3)] #[.int .u64 0, .int .u64 0, .int .u64 0, .int .u64 0])
     rw [upd_self, cellsIf_true]
     exact (s4 h5 (lim (a % b)))
   simp only [Act.put, sT, sS, sZ]
   refine GW.nil (fun hall => ?_)
   rw [hall 3 (by omega), cellsIf_true] at h4
   rw [hall 4 (by omega), cellsIf_true] at h5
   have HR := hid h4
   have HS := hid h5
   have HQ := hid h1
   clear h1 h2 h3 h4 h5 Dn hall
   go_wp2
   refine bodyPost_ret (results_two (m := lim (a / b)) (m' := lim (a % b)) rfl rfl rfl HR.out HS.out) rfl ⟨rfl, HQ.out⟩
  ·obtain ⟨m, rfl⟩ : ∃ m, k = m + 1 := ⟨k - 1, by omega⟩
   obtain rfl : z = (m : Int) := by omega
   have hm0 : (0 : Int) ≤ (m : Int) := by omega
   have hm1 : (m : Int) < 256 := by omega
   have hm : m < 256 := by omega
   have HM := hid hm
   clear hk0 hz hk hm
   have hbit := bt_lt a m
   have hd := HD.out (rdN a b (m + 1)) (bt a m) (by have h1 := HL.out (m + 1); have h2 := HWb.out; unfold W256 at *; omega) hbit (HL.out (m + 1))
   rw [show decide (bt a m = 1) = ((bt a m : Int) == 1) by rcases (show bt a m = 0 ∨ bt a m = 1 by omega) with e | e <;> rw [e] <;> rfl] at hd
   have cI : ∀ y : Ext wr, y.w.cell? ⟨g, m, none⟩ = some (.int .i64 (bt a m : Int)) := fun y => (hI.later y.below).cell HM.out
   have nS : c ≠ g := by omega
   have nSq : c ≠ c + 1 := by omega
   have sN : w.heap.size + 1 ≠ c := by omega
   have sR : w.heap.size + 1 + 1 ≠ c := by omega
   have sT : w.heap.size + 1 + 1 + 1 ≠ c := by omega
   have sN' : w.heap.size + 1 ≠ c + 1 := by omega
   have sR' : w.heap.size + 1 + 1 ≠ c + 1 := by omega
   have sT' : w.heap.size + 1 + 1 + 1 ≠ c + 1 := by omega
   have gq : g ≠ c + 1 := by omega
   have gs : g ≠ c := by omega
   have qs : c + 1 ≠ c := by omega
   have hwc : w.heap.size ≤ c := by omega
   have hwc' : w.heap.size ≤ c + 1 := by omega
   have hmx : Tryz.prog.follows .mixedOrders = true := by kernel_rfl
   clear aN aR aT aI
   by_cases hle : b ≤ 2 * rdN a b (m + 1) + bt a m
   ·rw [if_pos hle, decide_eq_true hle, (rd_take a b m H0.out hle).1] at hd
    have HQ := hid (rd_take a b m H0.out hle).2
    have Hd := hid hd
    clear hd hle hbit
    obtain ⟨kN0, kN1, kN2, kN3⟩ := e4 LN
    obtain ⟨kS0, kS1, kS2, kS3⟩ := e4 LS
    go_wp2
    refine wp_region_mix (C := Grows wr) [some true, some true, some true, some true, some true, some true, some true, some true, some true, some true, some false, none, none] hmx (by kernel_rfl) (by kernel_rfl) (grows_refl wr) ?_
    simp only [headOf, tailOf]
    repeat (go_big_quiet_step (first | (with_reducible exact Ret.at Hd.out _)))
    refine wpQuiet_nil ?_
    rintro _ ⟨x, rfl⟩
    clear cI kN0 kN1 kN2 kN3 kS0 kS1 kS2 kS3
    have LS := LS.later x.below
    have fS0 := LS.frozen 0
    have fS1 := LS.frozen 1
    have fS2 := LS.frozen 2
    have fS3 := LS.frozen 3
    obtain ⟨cS0, cS1, cS2, cS3⟩ := c4 LS
    have LS := (s4 LS (lim (rdN a b m)))
    replace LS : Has ((((x.w.setCell ⟨c, 0, none⟩ (.int .u64 (lim (rdN a b m) 0))).setCell ⟨c, 1, none⟩ (.int .u64 (lim (rdN a b m) 1))).setCell ⟨c, 2, none⟩ (.int .u64 (lim (rdN a b m) 2))).setCell ⟨c, 3, none⟩ (.int .u64 (lim (rdN a b m) 3))) c 24 #[.int .u64 (lim (rdN a b m) 0), .int .u64 (lim (rdN a b m) 1), .int .u64 (lim (rdN a b m) 2), .int .u64 (lim (rdN a b m) 3)] := LS
    have LN := (((((LN.later x.below).other (p := ⟨c, 0, none⟩) sN (.int .u64 (lim (rdN a b m) 0))).other (p := ⟨c, 1, none⟩) sN (.int .u64 (lim (rdN a b m) 1))).other (p := ⟨c, 2, none⟩) sN (.int .u64 (lim (rdN a b m) 2))).other (p := ⟨c, 3, none⟩) sN (.int .u64 (lim (rdN a b m) 3)))
    have LR := (((((LR.later x.below).other (p := ⟨c, 0, none⟩) sR (.int .u64 (lim (rdN a b m) 0))).other (p := ⟨c, 1, none⟩) sR (.int .u64 (lim (rdN a b m) 1))).other (p := ⟨c, 2, none⟩) sR (.int .u64 (lim (rdN a b m) 2))).other (p := ⟨c, 3, none⟩) sR (.int .u64 (lim (rdN a b m) 3)))
    have LT := (((((LT.later x.below).other (p := ⟨c, 0, none⟩) sT (.int .u64 (lim (rdN a b m) 0))).other (p := ⟨c, 1, none⟩) sT (.int .u64 (lim (rdN a b m) 1))).other (p := ⟨c, 2, none⟩) sT (.int .u64 (lim (rdN a b m) 2))).other (p := ⟨c, 3, none⟩) sT (.int .u64 (lim (rdN a b m) 3)))
    have hI := (((((hI.later x.below).other (p := ⟨c, 0, none⟩) gs (.int .u64 (lim (rdN a b m) 0))).other (p := ⟨c, 1, none⟩) gs (.int .u64 (lim (rdN a b m) 1))).other (p := ⟨c, 2, none⟩) gs (.int .u64 (lim (rdN a b m) 2))).other (p := ⟨c, 3, none⟩) gs (.int .u64 (lim (rdN a b m) 3)))
    have IQ := (((((IQ.later x.below).other (p := ⟨c, 0, none⟩) qs (.int .u64 (lim (rdN a b m) 0))).other (p := ⟨c, 1, none⟩) qs (.int .u64 (lim (rdN a b m) 1))).other (p := ⟨c, 2, none⟩) qs (.int .u64 (lim (rdN a b m) 2))).other (p := ⟨c, 3, none⟩) qs (.int .u64 (lim (rdN a b m) 3)))
    have Q := (((((Q.trans (x.below.mono Q.size)).setCell (p := ⟨c, 0, none⟩) hwc (.int .u64 (lim (rdN a b m) 0))).setCell (p := ⟨c, 1, none⟩) hwc (.int .u64 (lim (rdN a b m) 1))).setCell (p := ⟨c, 2, none⟩) hwc (.int .u64 (lim (rdN a b m) 2))).setCell (p := ⟨c, 3, none⟩) hwc (.int .u64 (lim (rdN a b m) 3)))
    go_wp2
    rw [calmPost_normal]
    clear fS0 fS1 fS2 fS3 cS0 cS1 cS2 cS3
    obtain ⟨W4, hW4⟩ : ∃ W4, ((((x.w.setCell ⟨c, 0, none⟩ (.int .u64 (lim (rdN a b m) 0))).setCell ⟨c, 1, none⟩ (.int .u64 (lim (rdN a b m) 1))).setCell ⟨c, 2, none⟩ (.int .u64 (lim (rdN a b m) 2))).setCell ⟨c, 3, none⟩ (.int .u64 (lim (rdN a b m) 3))) = W4 := ⟨_, rfl⟩
    rw [hW4] at LS LN LR LT hI IQ Q ⊢
    clear hW4
    have fq := IQ.frozen m
    have cq := IQ.cell HM.out
    have N1 := hid (hI.other (p := ⟨c + 1, m, none⟩) gq (.int .i64 1))
    have N2 := IQ.set HM.out 1
    rw [HQ.out] at N2
    have N2 := hid N2
    have N3 := hid (LN.other (p := ⟨c + 1, m, none⟩) sN' (.int .i64 1))
    have N4 := hid (LR.other (p := ⟨c + 1, m, none⟩) sR' (.int .i64 1))
    have N5 := hid (LT.other (p := ⟨c + 1, m, none⟩) sT' (.int .i64 1))
    have N6 := hid (LS.other (p := ⟨c + 1, m, none⟩) nSq (.int .i64 1))
    have N7 := hid (Q.setCell (p := ⟨c + 1, m, none⟩) hwc' (.int .i64 1))
    clear hI IQ LN LR LT LS Q
    go_wp2
    go_roundw
    case rel => exact ⟨m, (m : Int) - 1, by have := HM.out; omega, rfl, rfl, N1.out, N2.out, N3.out, N4.out, N5.out, N6.out, N7.out⟩
    case measure => simp [intOf]
   ·rw [if_neg hle, decide_eq_false hle, (rd_keep a b m H0.out hle).1] at hd
    have HQ := hid (rd_keep a b m H0.out hle).2
    have Hd := hid hd
    clear hd hle hbit
    obtain ⟨kN0, kN1, kN2, kN3⟩ := e4 LN
    obtain ⟨kS0, kS1, kS2, kS3⟩ := e4 LS
    go_wp2
    refine wp_region_mix (C := Grows wr) [some true, some true, some true, some true, some true, some true, some true, some true, some true, some true, some false, none, none] hmx (by kernel_rfl) (by kernel_rfl) (grows_refl wr) ?_
    simp only [headOf, tailOf]
    repeat (go_big_quiet_step (first | (with_reducible exact Ret.at Hd.out _)))
    refine wpQuiet_nil ?_
    rintro _ ⟨x, rfl⟩
    clear cI kN0 kN1 kN2 kN3 kS0 kS1 kS2 kS3
    have LS := LS.later x.below
    have fS0 := LS.frozen 0
    have fS1 := LS.frozen 1
    have fS2 := LS.frozen 2
    have fS3 := LS.frozen 3
    obtain ⟨cS0, cS1, cS2, cS3⟩ := c4 LS
    have LS := (s4 LS (lim (rdN a b m)))
    replace LS : Has ((((x.w.setCell ⟨c, 0, none⟩ (.int .u64 (lim (rdN a b m) 0))).setCell ⟨c, 1, none⟩ (.int .u64 (lim (rdN a b m) 1))).setCell ⟨c, 2, none⟩ (.int .u64 (lim (rdN a b m) 2))).setCell ⟨c, 3, none⟩ (.int .u64 (lim (rdN a b m) 3))) c 24 #[.int .u64 (lim (rdN a b m) 0), .int .u64 (lim (rdN a b m) 1), .int .u64 (lim (rdN a b m) 2), .int .u64 (lim (rdN a b m) 3)] := LS
    have LN := (((((LN.later x.below).other (p := ⟨c, 0, none⟩) sN (.int .u64 (lim (rdN a b m) 0))).other (p := ⟨c, 1, none⟩) sN (.int .u64 (lim (rdN a b m) 1))).other (p := ⟨c, 2, none⟩) sN (.int .u64 (lim (rdN a b m) 2))).other (p := ⟨c, 3, none⟩) sN (.int .u64 (lim (rdN a b m) 3)))
    have LR := (((((LR.later x.below).other (p := ⟨c, 0, none⟩) sR (.int .u64 (lim (rdN a b m) 0))).other (p := ⟨c, 1, none⟩) sR (.int .u64 (lim (rdN a b m) 1))).other (p := ⟨c, 2, none⟩) sR (.int .u64 (lim (rdN a b m) 2))).other (p := ⟨c, 3, none⟩) sR (.int .u64 (lim (rdN a b m) 3)))
    have LT := (((((LT.later x.below).other (p := ⟨c, 0, none⟩) sT (.int .u64 (lim (rdN a b m) 0))).other (p := ⟨c, 1, none⟩) sT (.int .u64 (lim (rdN a b m) 1))).other (p := ⟨c, 2, none⟩) sT (.int .u64 (lim (rdN a b m) 2))).other (p := ⟨c, 3, none⟩) sT (.int .u64 (lim (rdN a b m) 3)))
    have hI := (((((hI.later x.below).other (p := ⟨c, 0, none⟩) gs (.int .u64 (lim (rdN a b m) 0))).other (p := ⟨c, 1, none⟩) gs (.int .u64 (lim (rdN a b m) 1))).other (p := ⟨c, 2, none⟩) gs (.int .u64 (lim (rdN a b m) 2))).other (p := ⟨c, 3, none⟩) gs (.int .u64 (lim (rdN a b m) 3)))
    have IQ := (((((IQ.later x.below).other (p := ⟨c, 0, none⟩) qs (.int .u64 (lim (rdN a b m) 0))).other (p := ⟨c, 1, none⟩) qs (.int .u64 (lim (rdN a b m) 1))).other (p := ⟨c, 2, none⟩) qs (.int .u64 (lim (rdN a b m) 2))).other (p := ⟨c, 3, none⟩) qs (.int .u64 (lim (rdN a b m) 3)))
    have Q := (((((Q.trans (x.below.mono Q.size)).setCell (p := ⟨c, 0, none⟩) hwc (.int .u64 (lim (rdN a b m) 0))).setCell (p := ⟨c, 1, none⟩) hwc (.int .u64 (lim (rdN a b m) 1))).setCell (p := ⟨c, 2, none⟩) hwc (.int .u64 (lim (rdN a b m) 2))).setCell (p := ⟨c, 3, none⟩) hwc (.int .u64 (lim (rdN a b m) 3)))
    go_wp2
    rw [calmPost_normal]
    clear fS0 fS1 fS2 fS3 cS0 cS1 cS2 cS3
    obtain ⟨W4, hW4⟩ : ∃ W4, ((((x.w.setCell ⟨c, 0, none⟩ (.int .u64 (lim (rdN a b m) 0))).setCell ⟨c, 1, none⟩ (.int .u64 (lim (rdN a b m) 1))).setCell ⟨c, 2, none⟩ (.int .u64 (lim (rdN a b m) 2))).setCell ⟨c, 3, none⟩ (.int .u64 (lim (rdN a b m) 3))) = W4 := ⟨_, rfl⟩
    rw [hW4] at LS LN LR LT hI IQ Q ⊢
    clear hW4
    rw [HQ.out] at IQ
    have N1 := hid hI
    have N2 := hid IQ
    have N3 := hid LN
    have N4 := hid LR
    have N5 := hid LT
    have N6 := hid LS
    have N7 := hid Q
    clear hI IQ LN LR LT LS Q
    go_wp2
    go_roundw
    case rel => exact ⟨m, (m : Int) - 1, by have := HM.out; omega, rfl, rfl, N1.out, N2.out, N3.out, N4.out, N5.out, N6.out, N7.out⟩
    case measure => simp [intOf]
def xrN (a b k : Nat) : Nat := wmod (a ^ (b / 2 ^ k))
theorem xrN_zero (a b : Nat) : xrN a b 0 = wmod (a ^ b) := by unfold xrN; rw [Nat.pow_zero, Nat.div_one]
theorem xrN_top (a b : Nat) (hb : W256 b) : xrN a b 256 = 1 := by
 unfold xrN
 rw [Nat.div_eq_of_lt (show b < 2 ^ 256 from hb), Nat.pow_zero]
 decide
theorem xrN_lt (a b k : Nat) : W256 (xrN a b k) := by unfold xrN wmod W256; exact Nat.mod_lt _ (by decide)
theorem xr_square (a b m : Nat) (h : bt b m = 0) : wmod (xrN a b (m + 1) * xrN a b (m + 1)) = xrN a b m := by
 have e : b / 2 ^ m = b / 2 ^ (m + 1) + b / 2 ^ (m + 1) := by
  unfold bt at h
  rw [Nat.pow_succ, ← Nat.div_div_eq_div_mul]
  omega
 unfold xrN wmod
 rw [← Nat.mul_mod, ← Nat.pow_add, ← e]
theorem xr_more (a b m : Nat) (h : bt b m = 1) : wmod (wmod (xrN a b (m + 1) * xrN a b (m + 1)) * a) = xrN a b m := by
 have e : b / 2 ^ m = b / 2 ^ (m + 1) + b / 2 ^ (m + 1) + 1 := by
  unfold bt at h
  rw [Nat.pow_succ, ← Nat.div_div_eq_div_mul]
  omega
 unfold xrN wmod
 rw [e]
 generalize b / 2 ^ (m + 1) = q
 rw [← Nat.mul_mod, ← Nat.pow_add, Nat.mod_mul_mod, Nat.pow_succ]
theorem refExp_ret (a b : Nat) (ha : W256 a) (hb : W256 b) :
  Ret Tryz.prog 46 #[wv a, wv b] (wv (wmod (a ^ b))) := by
 intro w
 have HB := hid (bits_any b)
 have HO := hid one_ret
 have HM := hid (fun x y hx hy => refMul_ret x y hx hy)
 have HT0 := xrN_top a b hb
 have HE0 := hid (xrN_zero a b)
 have HL := hid (xrN_lt a b)
 have HS1 := hid (xr_more a b)
 have HS0 := hid (xr_square a b)
 have Ha := hid ha
 have H1 : lim 1 0 = 1 ∧ lim 1 1 = 0 ∧ lim 1 2 = 0 ∧ lim 1 3 = 0 := ⟨by decide, by decide, by decide, by decide⟩
 clear ha hb
 unfold wv at HB HM ⊢
 go_enter Tryz.func46, Tryz.ntmps46
 obtain ⟨⟨⟨k13, k14, k15, k16⟩, ⟨k17, k18, k19, k20⟩, ⟨k21, k22, k23, k24⟩⟩, W1, hW1, LX, LN, LR, Q⟩ := pwwz w 24 (lim a) (lim b)
 go_wp2_with fail
 clear k13 k14 k15 k16 k17 k18 k19 k20 k21 k22 k23 k24
 rw [hW1.out]
 clear hW1
 refine (HB.out _).mono ?_
 rintro e v25 ⟨g, cap, rfl, hg, hI, q⟩
 have LX := LX.later q
 have LN := LN.later q
 have LR := LR.later q
 have Q := Q.trans (q.mono Q.size)
 clear q
 clear hg HB LN
 obtain ⟨k26, k27, k28, k29⟩ := c4 LX
 obtain ⟨k30, k31, k32, k33⟩ := c4 LR
 go_wp2_with fail
 clear k26 k27 k28 k29 k30 k31 k32 k33
 refine (HO.out _).mono ?_
 rintro e v34 ⟨rfl, q⟩
 have LX := LX.later q
 have LR := LR.later q
 have Q := Q.trans (q.mono Q.size)
 have hI := hI.later q
 clear q
 clear HO
 have aX := LX.lt
 have aR := LR.lt
 have aI := hI.lt
 have aQ := Q.size
 have LX := LX.alloc (.cells #[.int .u64 1, .int .u64 0, .int .u64 0, .int .u64 0] 24)
 have LR := LR.alloc (.cells #[.int .u64 1, .int .u64 0, .int .u64 0, .int .u64 0] 24)
 have LS := Has.new v34 24 #[.int .u64 1, .int .u64 0, .int .u64 0, .int .u64 0]
 have hI := hI.alloc (.cells #[.int .u64 1, .int .u64 0, .int .u64 0, .int .u64 0] 24)
 have Q := Q.alloc Q.size (.cells #[.int .u64 1, .int .u64 0, .int .u64 0, .int .u64 0] 24)
 go_wp2
 obtain ⟨W3, hW3⟩ : ∃ W3, v34.alloc (.cells #[.int .u64 1, .int .u64 0, .int .u64 0, .int .u64 0] 24) = W3 := ⟨_, rfl⟩
 rw [hW3] at LX LR LS hI Q ⊢
 clear hW3
 generalize v34.heap.size = c at *
 go_loopw [7] (fun i wr => ∃ (k : Nat) (z : Int), k ≤ 256 ∧ z = (k : Int) - 1 ∧ i = .int .i64 z ∧ IntsAt wr g 256 (fun j => (bt b j : Int)) ∧ Has wr (w.heap.size) 24 #[.int .u64 (lim a 0), .int .u64 (lim a 1), .int .u64 (lim a 2), .int .u64 (lim a 3)] ∧ Has wr (w.heap.size + 1 + 1) 24 #[.int .u64 0, .int .u64 0, .int .u64 0, .int .u64 0] ∧ Has wr (c) 24 #[.int .u64 (lim (xrN a b k) 0), .int .u64 (lim (xrN a b k) 1), .int .u64 (lim (xrN a b k) 2), .int .u64 (lim (xrN a b k) 3)] ∧ Below w.heap.size w wr) (fun i _ => (intOf i + 1).toNat)
 case atStart => exact ⟨256, 255, by omega, by omega, rfl, hI, LX, LR, by rw [HT0, H1.1, H1.2.1, H1.2.2.1, H1.2.2.2]; exact LS, Q⟩
 case round =>
  obtain ⟨k, z, hk, hz, rfl, hI, LX, LR, LS, Q⟩ := hrel
  clear HT0 H1
  by_cases hk0 : k = 0
  ·obtain rfl : z = -1 := by omega
   subst hk0
   rw [HE0.out] at LS
   obtain ⟨c0, c1, c2, c3⟩ := c4 LS
   obtain ⟨r0, r1, r2, r3⟩ := c4 LR
   have z0 := LR.frozen 0
   have z1 := LR.frozen 1
   have z2 := LR.frozen 2
   have z3 := LR.frozen 3
   have HR := hid (s4 LR (lim (wmod (a ^ b))))
   have HQ := hid (q4 (w.heap.size + 1 + 1) Q (show w.heap.size ≤ w.heap.size + 1 + 1 by omega) (lim (wmod (a ^ b))))
   clear Q LX LR LS hI hk hz HM HE0 HL HS1 HS0 aX aR aI aQ
   go_wp2
   refine bodyPost_ret (results_word (m := lim (wmod (a ^ b))) rfl rfl HR.out) rfl ⟨rfl, HQ.out⟩
  ·obtain ⟨m, rfl⟩ : ∃ m, k = m + 1 := ⟨k - 1, by omega⟩
   obtain rfl : z = (m : Int) := by omega
   have hm0 : (0 : Int) ≤ (m : Int) := by omega
   have hm1 : (m : Int) < 256 := by omega
   have hm : m < 256 := by omega
   have HMm := hid hm
   have hm1' := HM.out _ _ (HL.out (m + 1)) (HL.out (m + 1))
   have hm2' := HM.out (wmod (xrN a b (m + 1) * xrN a b (m + 1))) a (by unfold wmod W256; exact Nat.mod_lt _ (by decide)) Ha.out
   have sX : w.heap.size ≠ c := by omega
   have sR : w.heap.size + 1 + 1 ≠ c := by omega
   have gs : g ≠ c := by omega
   have hwc : w.heap.size ≤ c := by omega
   have hb2 : bt b m = 0 ∨ bt b m = 1 := by have := bt_lt b m; omega
   clear hk0 hz hk hm HM HE0 HL aX aR aI aQ
   rcases hb2 with hbit | hbit
   ·have e := HS0.out m hbit
    rw [e] at hm1' 
    have Hm1 := hid hm1'
    clear hm1' hm2' e HS1 HS0
    obtain ⟨cS0, cS1, cS2, cS3⟩ := c4 LS
    obtain ⟨cX0, cX1, cX2, cX3⟩ := c4 LX
    go_wp2_with fail
    refine (Hm1.out _).mono ?_
    rintro e v1 ⟨rfl, q⟩
    clear cS0 cS1 cS2 cS3 cX0 cX1 cX2 cX3 Hm1
    have hI := hI.later q
    have LX := LX.later q
    have LR := LR.later q
    have LS := LS.later q
    have Q := Q.trans (q.mono Q.size)
    clear q
    obtain ⟨d0, d1, d2, d3⟩ := c4 LS
    obtain ⟨f0, f1, f2, f3⟩ := f4 LS
    have hI := ((((hI.other (p := ⟨c, 0, none⟩) gs (.int .u64 (lim (xrN a b m) 0))).other (p := ⟨c, 1, none⟩) gs (.int .u64 (lim (xrN a b m) 1))).other (p := ⟨c, 2, none⟩) gs (.int .u64 (lim (xrN a b m) 2))).other (p := ⟨c, 3, none⟩) gs (.int .u64 (lim (xrN a b m) 3)))
    have LX := ((((LX.other (p := ⟨c, 0, none⟩) sX (.int .u64 (lim (xrN a b m) 0))).other (p := ⟨c, 1, none⟩) sX (.int .u64 (lim (xrN a b m) 1))).other (p := ⟨c, 2, none⟩) sX (.int .u64 (lim (xrN a b m) 2))).other (p := ⟨c, 3, none⟩) sX (.int .u64 (lim (xrN a b m) 3)))
    have LR := ((((LR.other (p := ⟨c, 0, none⟩) sR (.int .u64 (lim (xrN a b m) 0))).other (p := ⟨c, 1, none⟩) sR (.int .u64 (lim (xrN a b m) 1))).other (p := ⟨c, 2, none⟩) sR (.int .u64 (lim (xrN a b m) 2))).other (p := ⟨c, 3, none⟩) sR (.int .u64 (lim (xrN a b m) 3)))
    have LS := (s4 LS (lim (xrN a b m)))
    have Q := ((((Q.setCell (p := ⟨c, 0, none⟩) hwc (.int .u64 (lim (xrN a b m) 0))).setCell (p := ⟨c, 1, none⟩) hwc (.int .u64 (lim (xrN a b m) 1))).setCell (p := ⟨c, 2, none⟩) hwc (.int .u64 (lim (xrN a b m) 2))).setCell (p := ⟨c, 3, none⟩) hwc (.int .u64 (lim (xrN a b m) 3)))
    have cI := hI.cell HMm.out
    rw [hbit] at cI
    have N1 := hid hI
    have N2 := hid LX
    have N3 := hid LR
    have N4 := hid LS
    have N5 := hid Q
    clear hI LX LR LS Q
    go_wp2
    go_roundw
    case rel => exact ⟨m, (m : Int) - 1, by have := HMm.out; omega, rfl, rfl, N1.out, N2.out, N3.out, N4.out, N5.out⟩
    case measure => simp [intOf]
   ·have e := HS1.out m hbit
    rw [e] at hm2'
    have Hm2 := hid hm2' 
    have Hm1 := hid hm1'
    clear hm1' hm2' e HS1 HS0
    generalize wmod (xrN a b (m + 1) * xrN a b (m + 1)) = u at *
    obtain ⟨cS0, cS1, cS2, cS3⟩ := c4 LS
    obtain ⟨cX0, cX1, cX2, cX3⟩ := c4 LX
    go_wp2_with fail
    refine (Hm1.out _).mono ?_
    rintro e v1 ⟨rfl, q⟩
    clear cS0 cS1 cS2 cS3 cX0 cX1 cX2 cX3 Hm1
    have hI := hI.later q
    have LX := LX.later q
    have LR := LR.later q
    have LS := LS.later q
    have Q := Q.trans (q.mono Q.size)
    clear q
    obtain ⟨d0, d1, d2, d3⟩ := c4 LS
    obtain ⟨f0, f1, f2, f3⟩ := f4 LS
    have hI := ((((hI.other (p := ⟨c, 0, none⟩) gs (.int .u64 (lim u 0))).other (p := ⟨c, 1, none⟩) gs (.int .u64 (lim u 1))).other (p := ⟨c, 2, none⟩) gs (.int .u64 (lim u 2))).other (p := ⟨c, 3, none⟩) gs (.int .u64 (lim u 3)))
    have LX := ((((LX.other (p := ⟨c, 0, none⟩) sX (.int .u64 (lim u 0))).other (p := ⟨c, 1, none⟩) sX (.int .u64 (lim u 1))).other (p := ⟨c, 2, none⟩) sX (.int .u64 (lim u 2))).other (p := ⟨c, 3, none⟩) sX (.int .u64 (lim u 3)))
    have LR := ((((LR.other (p := ⟨c, 0, none⟩) sR (.int .u64 (lim u 0))).other (p := ⟨c, 1, none⟩) sR (.int .u64 (lim u 1))).other (p := ⟨c, 2, none⟩) sR (.int .u64 (lim u 2))).other (p := ⟨c, 3, none⟩) sR (.int .u64 (lim u 3)))
    have LS := (s4 LS (lim u))
    have Q := ((((Q.setCell (p := ⟨c, 0, none⟩) hwc (.int .u64 (lim u 0))).setCell (p := ⟨c, 1, none⟩) hwc (.int .u64 (lim u 1))).setCell (p := ⟨c, 2, none⟩) hwc (.int .u64 (lim u 2))).setCell (p := ⟨c, 3, none⟩) hwc (.int .u64 (lim u 3)))
    have cI := hI.cell HMm.out
    rw [hbit] at cI
    obtain ⟨cS0, cS1, cS2, cS3⟩ := c4 LS
    obtain ⟨cX0, cX1, cX2, cX3⟩ := c4 LX
    go_wp2_with fail
    replace LS : Has ((((v1.setCell ⟨c, 0, none⟩ (.int .u64 (lim u 0))).setCell ⟨c, 1, none⟩ (.int .u64 (lim u 1))).setCell ⟨c, 2, none⟩ (.int .u64 (lim u 2))).setCell ⟨c, 3, none⟩ (.int .u64 (lim u 3))) c 24 #[.int .u64 (lim u 0), .int .u64 (lim u 1), .int .u64 (lim u 2), .int .u64 (lim u 3)] := LS
    obtain ⟨W5, hW5⟩ : ∃ W5, ((((v1.setCell ⟨c, 0, none⟩ (.int .u64 (lim u 0))).setCell ⟨c, 1, none⟩ (.int .u64 (lim u 1))).setCell ⟨c, 2, none⟩ (.int .u64 (lim u 2))).setCell ⟨c, 3, none⟩ (.int .u64 (lim u 3))) = W5 := ⟨_, rfl⟩
    rw [hW5] at hI LX LR LS Q ⊢
    clear hW5 cS0 cS1 cS2 cS3 cX0 cX1 cX2 cX3 cI d0 d1 d2 d3 f0 f1 f2 f3
    refine (Hm2.out _).mono ?_
    rintro e v2 ⟨rfl, q⟩
    clear Hm2
    have hI := hI.later q
    have LX := LX.later q
    have LR := LR.later q
    have LS := LS.later q
    have Q := Q.trans (q.mono Q.size)
    clear q
    obtain ⟨d0, d1, d2, d3⟩ := c4 LS
    obtain ⟨f0, f1, f2, f3⟩ := f4 LS
    have hI := ((((hI.other (p := ⟨c, 0, none⟩) gs (.int .u64 (lim (xrN a b m) 0))).other (p := ⟨c, 1, none⟩) gs (.int .u64 (lim (xrN a b m) 1))).other (p := ⟨c, 2, none⟩) gs (.int .u64 (lim (xrN a b m) 2))).other (p := ⟨c, 3, none⟩) gs (.int .u64 (lim (xrN a b m) 3)))
    have LX := ((((LX.other (p := ⟨c, 0, none⟩) sX (.int .u64 (lim (xrN a b m) 0))).other (p := ⟨c, 1, none⟩) sX (.int .u64 (lim (xrN a b m) 1))).other (p := ⟨c, 2, none⟩) sX (.int .u64 (lim (xrN a b m) 2))).other (p := ⟨c, 3, none⟩) sX (.int .u64 (lim (xrN a b m) 3)))
    have LR := ((((LR.other (p := ⟨c, 0, none⟩) sR (.int .u64 (lim (xrN a b m) 0))).other (p := ⟨c, 1, none⟩) sR (.int .u64 (lim (xrN a b m) 1))).other (p := ⟨c, 2, none⟩) sR (.int .u64 (lim (xrN a b m) 2))).other (p := ⟨c, 3, none⟩) sR (.int .u64 (lim (xrN a b m) 3)))
    have LS := (s4 LS (lim (xrN a b m)))
    have Q := ((((Q.setCell (p := ⟨c, 0, none⟩) hwc (.int .u64 (lim (xrN a b m) 0))).setCell (p := ⟨c, 1, none⟩) hwc (.int .u64 (lim (xrN a b m) 1))).setCell (p := ⟨c, 2, none⟩) hwc (.int .u64 (lim (xrN a b m) 2))).setCell (p := ⟨c, 3, none⟩) hwc (.int .u64 (lim (xrN a b m) 3)))
    have N1 := hid hI
    have N2 := hid LX
    have N3 := hid LR
    have N4 := hid LS
    have N5 := hid Q
    clear hI LX LR LS Q
    go_wp2
    go_roundw
    case rel => exact ⟨m, (m : Int) - 1, by have := HMm.out; omega, rfl, rfl, N1.out, N2.out, N3.out, N4.out, N5.out⟩
    case measure => simp [intOf]
end
end Go.Proofs.YtnkhmgmganejmaaGreatDoor
