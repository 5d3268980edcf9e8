/- Part. -/
import Derived.Test.YtnkhmgmganejmaaGreatDoorT22
import Derived.Test.YtnkhmgmganejmaaGreatDoorT21
import Derived.Test.YtnkhmgmganejmaaGreatDoorT06
import Derived.Test.YtnkhmgmganejmaaGreatDoorT08
import Derived.Laws.MakeOwn
import Derived.Laws.AppendOwn
import Derived.OwnWalk
import Derived.WalkSmall
import Derived.Test.YtnkhmgmganejmaaGreatDoorT09
set_option maxRecDepth 100000
set_option maxHeartbeats 16000000
namespace Go.Proofs.YtnkhmgmganejmaaGreatDoor
section
open Go Go.RowKit
attribute [local go_sem] Oper.semAt_some Grows
theorem refDiv_zero (a b : Nat) (hn : Ret Tryz.prog 76 #[.agg #[.int .u64 (lim b 0), .int .u64 (lim b 1), .int .u64 (lim b 2), .int .u64 (lim b 3)]] (.bool true)) :
  Ret Tryz.prog 40 #[.agg #[.int .u64 (lim a 0), .int .u64 (lim a 1), .int .u64 (lim a 2), .int .u64 (lim a 3)], .agg #[.int .u64 (lim b 0), .int .u64 (lim b 1), .int .u64 (lim b 2), .int .u64 (lim b 3)]] (.agg #[.int .u64 (lim b 0), .int .u64 (lim b 1), .int .u64 (lim b 2), .int .u64 (lim b 3)]) := by
 intro w
 have Hhn := hid hn
 clear hn
 go_enter Tryz.func40, Tryz.ntmps40
 obtain ⟨⟨⟨k13, k14, k15, k16⟩, ⟨k17, k18, k19, k20⟩, ⟨k21, k22, k23, k24⟩⟩, W1, hW1, LX, LN, LR, Q⟩ := pwwz w 24 (lim a) (lim b)
 go_wp2_with fail
 clear k13 k14 k15 k16 k17 k18 k19 k20 k21 k22 k23 k24
 rw [hW1.out]
 clear hW1
 refine (Hhn.out _).mono ?_
 rintro e v25 ⟨rfl, q⟩
 have LX := LX.later q
 have LN := LN.later q
 have LR := LR.later q
 have Q := Q.trans (q.mono Q.size)
 clear q
 obtain ⟨r0, r1, r2, r3⟩ := c4 LR
 obtain ⟨z0, z1, z2, z3⟩ := f4 LR
 obtain ⟨k26, k27, k28, k29⟩ := c4 LX
 obtain ⟨k30, k31, k32, k33⟩ := c4 LN
 have HR := hid ((s4 LR (lim b)))
 have HQ := hid ((q4 (w.heap.size + 1 + 1) Q (by omega) (lim b)))
 clear Q LX LN LR
 go_wp2
 refine bodyPost_ret (results_word (m := lim b) rfl rfl HR.out) rfl ⟨rfl, HQ.out⟩
theorem refDiv_some (a b q r : Nat) (hn : Ret Tryz.prog 76 #[.agg #[.int .u64 (lim b 0), .int .u64 (lim b 1), .int .u64 (lim b 2), .int .u64 (lim b 3)]] (.bool false)) (hd : Ret Tryz.prog 77 #[.agg #[.int .u64 (lim a 0), .int .u64 (lim a 1), .int .u64 (lim a 2), .int .u64 (lim a 3)], .agg #[.int .u64 (lim b 0), .int .u64 (lim b 1), .int .u64 (lim b 2), .int .u64 (lim b 3)]] (.tuple #[.agg #[.int .u64 (lim q 0), .int .u64 (lim q 1), .int .u64 (lim q 2), .int .u64 (lim q 3)], .agg #[.int .u64 (lim r 0), .int .u64 (lim r 1), .int .u64 (lim r 2), .int .u64 (lim r 3)]])) :
  Ret Tryz.prog 40 #[.agg #[.int .u64 (lim a 0), .int .u64 (lim a 1), .int .u64 (lim a 2), .int .u64 (lim a 3)], .agg #[.int .u64 (lim b 0), .int .u64 (lim b 1), .int .u64 (lim b 2), .int .u64 (lim b 3)]] (.agg #[.int .u64 (lim q 0), .int .u64 (lim q 1), .int .u64 (lim q 2), .int .u64 (lim q 3)]) := by
 intro w
 have Hhn := hid hn
 have Hhd := hid hd
 clear hn hd
 go_enter Tryz.func40, Tryz.ntmps40
 obtain ⟨⟨⟨k13, k14, k15, k16⟩, ⟨k17, k18, k19, k20⟩, ⟨k21, k22, k23, k24⟩⟩, W1, hW1, LX, LN, LR, Q⟩ := pwwz w 24 (lim a) (lim b)
 go_wp2_with fail
 clear k13 k14 k15 k16 k17 k18 k19 k20 k21 k22 k23 k24
 rw [hW1.out]
 clear hW1
 refine (Hhn.out _).mono ?_
 rintro e v25 ⟨rfl, q⟩
 have LX := LX.later q
 have LN := LN.later q
 have LR := LR.later q
 have Q := Q.trans (q.mono Q.size)
 clear q
 obtain ⟨k26, k27, k28, k29⟩ := c4 LX
 obtain ⟨k30, k31, k32, k33⟩ := c4 LN
 obtain ⟨k34, k35, k36, k37⟩ := c4 LR
 go_wp2_with fail
 clear k26 k27 k28 k29 k30 k31 k32 k33 k34 k35 k36 k37
 refine (Hhd.out _).mono ?_
 rintro e v38 ⟨rfl, q⟩
 have LX := LX.later q
 have LN := LN.later q
 have LR := LR.later q
 have Q := Q.trans (q.mono Q.size)
 clear q
 have aR := LR.lt
 have aQ := Q.size
 have LR := (LR.alloc (.cells (w4 (lim q)) 24)).alloc (.cells (w4 (lim r)) 24)
 have LA := (Has.new v38 24 (w4 (lim q))).alloc (.cells (w4 (lim r)) 24)
 have LB := Has.new (v38.alloc (.cells (w4 (lim q)) 24)) 24 (w4 (lim r))
 simp only [World.size_alloc] at LB
 have Q := (Q.alloc Q.size (.cells (w4 (lim q)) 24)).alloc (by simp; omega) (.cells (w4 (lim r)) 24)
 clear LX LN
 obtain ⟨cR0, cR1, cR2, cR3⟩ := c4 LR
 obtain ⟨cA0, cA1, cA2, cA3⟩ := c4 LA
 obtain ⟨cB0, cB1, cB2, cB3⟩ := c4 LB
 have f0 := LR.frozen 0
 have f1 := LR.frozen 1
 have f2 := LR.frozen 2
 have f3 := LR.frozen 3
 have HR := hid ((s4 LR (lim q)))
 have HQ := hid ((q4 (w.heap.size + 1 + 1) Q (show w.heap.size ≤ w.heap.size + 1 + 1 by omega) (lim q)))
 clear Q LR LA LB aR aQ
 go_wp2
 refine bodyPost_ret (results_word (m := lim q) rfl rfl HR.out) rfl ⟨rfl, HQ.out⟩
theorem refDiv_ret (a b : Nat) (ha : W256 a) (hb : W256 b) : Ret Tryz.prog 40 #[wv a, wv b] (wv (a / b)) := by
 have hn := refNone_ret b hb
 by_cases h : b = 0
 ·rw [decide_eq_true h] at hn
  rw [show a / b = b by rw [h, Nat.div_zero]]
  exact refDiv_zero a b hn
 ·rw [decide_eq_false h] at hn
  exact refDiv_some a b (a / b) (a % b) hn (refDivided_ret a b ha hb h)
theorem refMod_zero (a b : Nat) (hn : Ret Tryz.prog 76 #[.agg #[.int .u64 (lim b 0), .int .u64 (lim b 1), .int .u64 (lim b 2), .int .u64 (lim b 3)]] (.bool true)) :
  Ret Tryz.prog 42 #[.agg #[.int .u64 (lim a 0), .int .u64 (lim a 1), .int .u64 (lim a 2), .int .u64 (lim a 3)], .agg #[.int .u64 (lim b 0), .int .u64 (lim b 1), .int .u64 (lim b 2), .int .u64 (lim b 3)]] (.agg #[.int .u64 (lim b 0), .int .u64 (lim b 1), .int .u64 (lim b 2), .int .u64 (lim b 3)]) := by
 intro w
 have Hhn := hid hn
 clear hn
 go_enter Tryz.func42, Tryz.ntmps42
 obtain ⟨⟨⟨k13, k14, k15, k16⟩, ⟨k17, k18, k19, k20⟩, ⟨k21, k22, k23, k24⟩⟩, W1, hW1, LX, LN, LR, Q⟩ := pwwz w 24 (lim a) (lim b)
 go_wp2_with fail
 clear k13 k14 k15 k16 k17 k18 k19 k20 k21 k22 k23 k24
 rw [hW1.out]
 clear hW1
 refine (Hhn.out _).mono ?_
 rintro e v25 ⟨rfl, q⟩
 have LX := LX.later q
 have LN := LN.later q
 have LR := LR.later q
 have Q := Q.trans (q.mono Q.size)
 clear q
 obtain ⟨r0, r1, r2, r3⟩ := c4 LR
 obtain ⟨z0, z1, z2, z3⟩ := f4 LR
 obtain ⟨k26, k27, k28, k29⟩ := c4 LX
 obtain ⟨k30, k31, k32, k33⟩ := c4 LN
 have HR := hid ((s4 LR (lim b)))
 have HQ := hid ((q4 (w.heap.size + 1 + 1) Q (by omega) (lim b)))
 clear Q LX LN LR
 go_wp2
 refine bodyPost_ret (results_word (m := lim b) rfl rfl HR.out) rfl ⟨rfl, HQ.out⟩
theorem refMod_some (a b q r : Nat) (hn : Ret Tryz.prog 76 #[.agg #[.int .u64 (lim b 0), .int .u64 (lim b 1), .int .u64 (lim b 2), .int .u64 (lim b 3)]] (.bool false)) (hd : Ret Tryz.prog 77 #[.agg #[.int .u64 (lim a 0), .int .u64 (lim a 1), .int .u64 (lim a 2), .int .u64 (lim a 3)], .agg #[.int .u64 (lim b 0), .int .u64 (lim b 1), .int .u64 (lim b 2), .int .u64 (lim b 3)]] (.tuple #[.agg #[.int .u64 (lim q 0), .int .u64 (lim q 1), .int .u64 (lim q 2), .int .u64 (lim q 3)], .agg #[.int .u64 (lim r 0), .int .u64 (lim r 1), .int .u64 (lim r 2), .int .u64 (lim r 3)]])) :
  Ret Tryz.prog 42 #[.agg #[.int .u64 (lim a 0), .int .u64 (lim a 1), .int .u64 (lim a 2), .int .u64 (lim a 3)], .agg #[.int .u64 (lim b 0), .int .u64 (lim b 1), .int .u64 (lim b 2), .int .u64 (lim b 3)]] (.agg #[.int .u64 (lim r 0), .int .u64 (lim r 1), .int .u64 (lim r 2), .int .u64 (lim r 3)]) := by
 intro w
 have Hhn := hid hn
 have Hhd := hid hd
 clear hn hd
 go_enter Tryz.func42, Tryz.ntmps42
 obtain ⟨⟨⟨k13, k14, k15, k16⟩, ⟨k17, k18, k19, k20⟩, ⟨k21, k22, k23, k24⟩⟩, W1, hW1, LX, LN, LR, Q⟩ := pwwz w 24 (lim a) (lim b)
 go_wp2_with fail
 clear k13 k14 k15 k16 k17 k18 k19 k20 k21 k22 k23 k24
 rw [hW1.out]
 clear hW1
 refine (Hhn.out _).mono ?_
 rintro e v25 ⟨rfl, q⟩
 have LX := LX.later q
 have LN := LN.later q
 have LR := LR.later q
 have Q := Q.trans (q.mono Q.size)
 clear q
 obtain ⟨k26, k27, k28, k29⟩ := c4 LX
 obtain ⟨k30, k31, k32, k33⟩ := c4 LN
 obtain ⟨k34, k35, k36, k37⟩ := c4 LR
 go_wp2_with fail
 clear k26 k27 k28 k29 k30 k31 k32 k33 k34 k35 k36 k37
 refine (Hhd.out _).mono ?_
 rintro e v38 ⟨rfl, q⟩
 have LX := LX.later q
 have LN := LN.later q
 have LR := LR.later q
 have Q := Q.trans (q.mono Q.size)
 clear q
 have aR := LR.lt
 have aQ := Q.size
 have LR := (LR.alloc (.cells (w4 (lim q)) 24)).alloc (.cells (w4 (lim r)) 24)
 have LA := (Has.new v38 24 (w4 (lim q))).alloc (.cells (w4 (lim r)) 24)
 have LB := Has.new (v38.alloc (.cells (w4 (lim q)) 24)) 24 (w4 (lim r))
 simp only [World.size_alloc] at LB
 have Q := (Q.alloc Q.size (.cells (w4 (lim q)) 24)).alloc (by simp; omega) (.cells (w4 (lim r)) 24)
 clear LX LN
 obtain ⟨cR0, cR1, cR2, cR3⟩ := c4 LR
 obtain ⟨cA0, cA1, cA2, cA3⟩ := c4 LA
 obtain ⟨cB0, cB1, cB2, cB3⟩ := c4 LB
 have f0 := LR.frozen 0
 have f1 := LR.frozen 1
 have f2 := LR.frozen 2
 have f3 := LR.frozen 3
 have HR := hid ((s4 LR (lim r)))
 have HQ := hid ((q4 (w.heap.size + 1 + 1) Q (show w.heap.size ≤ w.heap.size + 1 + 1 by omega) (lim r)))
 clear Q LR LA LB aR aQ
 go_wp2
 refine bodyPost_ret (results_word (m := lim r) rfl rfl HR.out) rfl ⟨rfl, HQ.out⟩
theorem refMod_ret (a b : Nat) (ha : W256 a) (hb : W256 b) : Ret Tryz.prog 42 #[wv a, wv b] (wv (if b = 0 then 0 else a % b)) := by
 have hn := refNone_ret b hb
 by_cases h : b = 0
 ·rw [decide_eq_true h] at hn
  rw [if_pos h]; conv => rhs; rw [← h]
  exact refMod_zero a b hn
 ·rw [decide_eq_false h] at hn
  rw [if_neg h]
  exact refMod_some a b (a / b) (a % b) hn (refDivided_ret a b ha hb h)
end
section
open Go Go.RowKit
attribute [local go_sem] Oper.semAt_some Grows wide_fn eq4


end
section
open Go Go.RowKit
theorem P256 : (2 : Nat) ^ 256 = 115792089237316195423570985008687907853269984665640564039457584007913129639936 := by decide
theorem half_bit (v : Nat) (hv : W256 v) : v.testBit 255 = decide (S1 ≤ v) := by
 rw [Nat.testBit_eq_decide_div_mod_eq]
 refine decide_eq_decide.2 ?_
 rw [show (2 : Nat) ^ 255 = S1 by decide]
 unfold W256 at hv
 unfold S1
 omega
theorem less_bit (a : Nat) (ha : W256 a) : lessN a 0 = a.testBit 255 := by
 have hx := xor_lt a S1 ha S1_lt
 have hb := half_bit (a ^^^ S1) hx
 rw [Nat.testBit_xor, show S1.testBit 255 = true by decide +kernel, Bool.xor_true] at hb
 unfold lessN wcmp
 rw [Nat.zero_xor]
 generalize a ^^^ S1 = v at *
 by_cases h : S1 ≤ v
 ·rw [decide_eq_true h] at hb
  rw [if_neg (by omega)]
  cases ht : a.testBit 255 with
  | true => rw [ht] at hb; cases hb
  | false => split <;> rfl
 ·rw [decide_eq_false h] at hb
  rw [if_pos (by omega)]
  cases ht : a.testBit 255 with
  | true => rfl
  | false => rw [ht] at hb; cases hb
theorem bit_far (a z : Nat) (ha : W256 a) (hz : 256 ≤ z) : a.testBit z = false :=
 Nat.testBit_lt_two_pow (Nat.lt_of_lt_of_le (show a < 2 ^ 256 by rw [P256]; exact ha) (Nat.pow_le_pow_right (by omega) hz))
theorem m1_bit (z : Nat) (hz : z < 256) : M1.testBit z = true := by
 rw [show M1 = 2 ^ 256 - 1 by decide, Nat.testBit_two_pow_sub_one, decide_eq_true hz]
theorem sar_bit (b a z : Nat) (ha : W256 a) (hz : z < 256) : (sarN b a).testBit z = if z + b < 256 then a.testBit (z + b) else a.testBit 255 := by
 unfold sarN
 rw [less_bit a ha]
 have hx := xor_lt a M1 ha M1_lt
 cases h : a.testBit 255 with
 | true =>
  rw [if_pos rfl, Nat.testBit_xor, Nat.testBit_div_two_pow, m1_bit z hz]
  split
  ·rename_i hl
   rw [Nat.testBit_xor, m1_bit _ hl]
   cases a.testBit (z + b) <;> rfl
  ·rw [bit_far _ _ hx (by omega)]; rfl
 | false =>
  rw [if_neg (by simp), Nat.testBit_div_two_pow]
  split
  ·rfl
  ·exact bit_far _ _ ha (by omega)
theorem shl_bit (a s z : Nat) (hz : z < 256) : (wmod (a * 2 ^ s)).testBit z = (decide (s ≤ z) && a.testBit (z - s)) := by
 unfold wmod
 rw [← P256, Nat.testBit_mod_two_pow, decide_eq_true hz, Bool.true_and, Nat.mul_comm, Nat.testBit_two_pow_mul]
theorem sign_bit (i a z : Nat) (ha : W256 a) (hz : z < 256) : (signN i a).testBit z = a.testBit (min z (8 * i + 7)) := by
 unfold signN
 split
 ·rename_i hi
  rw [sar_bit _ _ z (show W256 (wmod (a * 2 ^ (256 - 8 * (i + 1)))) from Nat.mod_lt _ (by decide)) hz]
  split
  ·rename_i hl
   rw [shl_bit _ _ _ hl, decide_eq_true (by omega), Bool.true_and]
   congr 1
   omega
  ·rw [shl_bit _ _ _ (by omega), decide_eq_true (by omega), Bool.true_and]
   congr 1
   omega
 ·congr 1
  omega
theorem sign_same (i a : Nat) (h : 31 ≤ i) : signN i a = a := by unfold signN; rw [if_neg (by omega)]
end
section
open Go Go.RowKit
attribute [local go_sem] Oper.semAt_some Grows
def dx (a R k j : Nat) : Int := if j < k then (bt R j : Int) else (bt a j : Int)
theorem dx_zero (a R j : Nat) : dx a R 0 j = (bt a j : Int) := if_neg (Nat.not_lt_zero j)
theorem dx_top (a R j : Nat) (h : j < 256) : dx a R 256 j = (bt R j : Int) := if_pos h
theorem dx_at (a R k : Nat) : dx a R k k = (bt a k : Int) := if_neg (Nat.lt_irrefl k)
theorem dx_step (a R k : Nat) : (fun j => if j = k then (bt R k : Int) else dx a R k j) = dx a R (k + 1) := by
 funext j
 unfold dx
 by_cases e : j = k
 ·subst e; rw [if_pos rfl, if_pos (Nat.lt_succ_self j)]
 ·rw [if_neg e]
  by_cases e2 : j < k
  ·rw [if_pos e2, if_pos (by omega)]
  ·rw [if_neg e2, if_neg (by omega)]
theorem refBoth_ret (a b R : Nat) (t : Nat → Int) (hR : W256 R) (hT : ∀ j, j < 256 → t (2 * bt a j + bt b j) = (bt R j : Int)) :
  Ret Tryz.prog 86 #[wv a, wv b, .agg #[.int .i64 (t 0), .int .i64 (t 1), .int .i64 (t 2), .int .i64 (t 3)]] (wv R) := by
 intro w
 have HA := hid (bits_any a)
 have HB := hid (bits_any b)
 have HF := hid (fromBits_any R hR)
 have HT := hid hT
 clear hR hT
 unfold wv at HA HB HF ⊢
 go_enter Tryz.func86, Tryz.ntmps86
 have LX := Has.new w 24 (w4 (lim a))
 obtain ⟨k1, k2, k3, k4⟩ := c4 LX
 have LX := LX.alloc (.cells (w4 (lim b)) 24)
 have LY := Has.new (w.alloc (.cells (w4 (lim a)) 24)) 24 (w4 (lim b))
 simp only [World.size_alloc] at LY
 obtain ⟨k5, k6, k7, k8⟩ := c4 LX
 obtain ⟨k9, k10, k11, k12⟩ := c4 LY
 have LX := LX.alloc (.cells #[.int .i64 (t 0), .int .i64 (t 1), .int .i64 (t 2), .int .i64 (t 3)] 103)
 have LY := LY.alloc (.cells #[.int .i64 (t 0), .int .i64 (t 1), .int .i64 (t 2), .int .i64 (t 3)] 103)
 have LT := Has.new ((w.alloc (.cells (w4 (lim a)) 24)).alloc (.cells (w4 (lim b)) 24)) 103 #[.int .i64 (t 0), .int .i64 (t 1), .int .i64 (t 2), .int .i64 (t 3)]
 simp only [World.size_alloc] at LT
 obtain ⟨k13, k14, k15, k16⟩ := c4 LX
 obtain ⟨k17, k18, k19, k20⟩ := c4 LY
 obtain ⟨k21, k22, k23, k24⟩ := c4 LT
 have LX := LX.alloc (.cells z4 24)
 have LY := LY.alloc (.cells z4 24)
 have LT := LT.alloc (.cells z4 24)
 have LR := Has.new (((w.alloc (.cells (w4 (lim a)) 24)).alloc (.cells (w4 (lim b)) 24)).alloc (.cells #[.int .i64 (t 0), .int .i64 (t 1), .int .i64 (t 2), .int .i64 (t 3)] 103)) 24 z4
 simp only [World.size_alloc] at LR
 obtain ⟨k25, k26, k27, k28⟩ := c4 LX
 obtain ⟨k29, k30, k31, k32⟩ := c4 LY
 obtain ⟨k33, k34, k35, k36⟩ := c4 LT
 obtain ⟨k37, k38, k39, k40⟩ := c4 LR
 have Q := (Below.refl w.heap.size w)
 have Q := Q.alloc Q.size (.cells (w4 (lim a)) 24)
 have Q := Q.alloc Q.size (.cells (w4 (lim b)) 24)
 have Q := Q.alloc Q.size (.cells #[.int .i64 (t 0), .int .i64 (t 1), .int .i64 (t 2), .int .i64 (t 3)] 103)
 have Q := Q.alloc Q.size (.cells z4 24)
 go_wp2_with fail
 clear k1 k2 k3 k4 k5 k6 k7 k8 k9 k10 k11 k12 k13 k14 k15 k16 k17 k18 k19 k20 k21 k22 k23 k24 k25 k26 k27 k28 k29 k30 k31 k32 k33 k34 k35 k36 k37 k38 k39 k40
 obtain ⟨W1, hW1⟩ : ∃ W1, ((((w.alloc (.cells (w4 (lim a)) 24)).alloc (.cells (w4 (lim b)) 24)).alloc (.cells #[.int .i64 (t 0), .int .i64 (t 1), .int .i64 (t 2), .int .i64 (t 3)] 103)).alloc (.cells z4 24)) = W1 := ⟨_, rfl⟩
 rw [hW1] at LX LY LT LR Q ⊢
 clear hW1
 have aT := LT.lt
 have aR := LR.lt
 have aW := Q.size
 refine (HA.out _).mono ?_
 rintro e v41 ⟨g, cap, rfl, hg, hI, q⟩
 have LX := LX.later q
 have LY := LY.later q
 have LT := LT.later q
 have LR := LR.later q
 have Q := Q.trans (q.mono Q.size)
 clear q
 have gI := hI.lt
 have gT : w.heap.size + 1 + 1 ≠ g := by omega
 have gR : w.heap.size + 1 + 1 + 1 ≠ g := by omega
 have hwg : w.heap.size ≤ g := by omega
 clear hg HA LX aT aR aW
 obtain ⟨k42, k43, k44, k45⟩ := c4 LY
 obtain ⟨k46, k47, k48, k49⟩ := c4 LT
 obtain ⟨k50, k51, k52, k53⟩ := c4 LR
 go_wp2_with fail
 clear k42 k43 k44 k45 k46 k47 k48 k49 k50 k51 k52 k53
 refine (HB.out _).mono ?_
 rintro e v54 ⟨g2, cap2, rfl, hg2, hJ, q⟩
 have LY := LY.later q
 have LT := LT.later q
 have LR := LR.later q
 have Q := Q.trans (q.mono Q.size)
 have hI := hI.later q
 clear q
 have gg : g2 ≠ g := by omega
 clear hg2 HB LY gI
 go_wp2
 go_loopw [9] (fun i wr => ∃ k : Nat, k ≤ 256 ∧ i = .int .i64 (k : Int) ∧ IntsAt wr g 256 (dx a R k) ∧ IntsAt wr g2 256 (fun j => (bt b j : Int)) ∧ Has wr (w.heap.size + 1 + 1) 103 #[.int .i64 (t 0), .int .i64 (t 1), .int .i64 (t 2), .int .i64 (t 3)] ∧ Has wr (w.heap.size + 1 + 1 + 1) 24 #[.int .u64 0, .int .u64 0, .int .u64 0, .int .u64 0] ∧ Below w.heap.size w wr) (fun i _ => 256 - (intOf i).toNat)
 case atStart => exact ⟨0, by omega, rfl, hI.congr (fun j _ => (dx_zero a R j).symm), hJ, LT, LR, Q⟩
 case round =>
  clear hI hJ LT LR Q
  obtain ⟨k, hk, rfl, hI, hJ, LT, LR, Q⟩ := hrel
  by_cases hlt : k < 256
  ·have hk0 : (0 : Int) ≤ (k : Int) := by omega
   have hk1 : (k : Int) < 256 := by omega
   have HK := hid hlt
   have hTk := HT.out k hlt
   have cx : ∀ y : Ext wr, y.w.cell? ⟨g, k, none⟩ = some (.int .i64 (bt a k : Int)) := fun y => by rw [(hI.later y.below).cell HK.out, dx_at]
   have cy : ∀ y : Ext wr, y.w.cell? ⟨g2, k, none⟩ = some (.int .i64 (bt b k : Int)) := fun y => (hJ.later y.below).cell HK.out
   have ha2 : bt a k = 0 ∨ bt a k = 1 := by have := bt_lt a k; omega
   have hb2 : bt b k = 0 ∨ bt b k = 1 := by have := bt_lt b k; omega
   obtain ⟨ct0, ct1, ct2, ct3⟩ := e4 LT
   have hmx : Tryz.prog.follows .mixedOrders = true := by kernel_rfl
   clear hk hlt HF HT
   rcases ha2 with ea | ea <;> rcases hb2 with eb | eb
   ·rw [ea] at cx
    rw [eb] at cy
    have hv : t 0 = (bt R k : Int) := by rw [ea, eb] at hTk; exact hTk
    clear hTk ea eb
    go_wp2
    refine wp_region_mix (C := Grows wr) [some true, some true, some true, some true, some true, some true, some true, some true, some true, some true, some true, some true, some true, some true, some true, none] hmx (by kernel_rfl) (by kernel_rfl) (grows_refl wr) ?_
    simp only [headOf, tailOf]
    repeat (go_big_quiet_step (fail))
    refine wpQuiet_nil ?_
    rintro _ ⟨y, rfl⟩
    clear cx cy ct0 ct1 ct2 ct3
    have fg := (hI.later y.below).frozen k
    have cg := (hI.later y.below).cell HK.out
    have N1 := (hI.later y.below).set HK.out (bt R k : Int)
    rw [dx_step a R k] at N1
    have N1 := hid N1
    have N2 := hid ((hJ.later y.below).other (p := ⟨g, k, none⟩) gg (.int .i64 (bt R k : Int)))
    have N3 := hid ((LT.later y.below).other (p := ⟨g, k, none⟩) gT (.int .i64 (bt R k : Int)))
    have N4 := hid ((LR.later y.below).other (p := ⟨g, k, none⟩) gR (.int .i64 (bt R k : Int)))
    have N5 := hid ((Q.trans (y.below.mono Q.size)).setCell (p := ⟨g, k, none⟩) hwg (.int .i64 (bt R k : Int)))
    clear hI hJ LT LR Q
    go_wp2
    rw [calmPost_normal]
    go_wp2
    go_roundw
    case rel => exact ⟨k + 1, by have := HK.out; omega, by simp, N1.out, N2.out, N3.out, N4.out, N5.out⟩
    case measure => have := HK.out; simp [intOf]; omega
   ·rw [ea] at cx
    rw [eb] at cy
    have hv : t 1 = (bt R k : Int) := by rw [ea, eb] at hTk; exact hTk
    clear hTk ea eb
    go_wp2
    refine wp_region_mix (C := Grows wr) [some true, some true, some true, some true, some true, some true, some true, some true, some true, some true, some true, some true, some true, some true, some true, none] hmx (by kernel_rfl) (by kernel_rfl) (grows_refl wr) ?_
    simp only [headOf, tailOf]
    repeat (go_big_quiet_step (fail))
    refine wpQuiet_nil ?_
    rintro _ ⟨y, rfl⟩
    clear cx cy ct0 ct1 ct2 ct3
    have fg := (hI.later y.below).frozen k
    have cg := (hI.later y.below).cell HK.out
    have N1 := (hI.later y.below).set HK.out (bt R k : Int)
    rw [dx_step a R k] at N1
    have N1 := hid N1
    have N2 := hid ((hJ.later y.below).other (p := ⟨g, k, none⟩) gg (.int .i64 (bt R k : Int)))
    have N3 := hid ((LT.later y.below).other (p := ⟨g, k, none⟩) gT (.int .i64 (bt R k : Int)))
    have N4 := hid ((LR.later y.below).other (p := ⟨g, k, none⟩) gR (.int .i64 (bt R k : Int)))
    have N5 := hid ((Q.trans (y.below.mono Q.size)).setCell (p := ⟨g, k, none⟩) hwg (.int .i64 (bt R k : Int)))
    clear hI hJ LT LR Q
    go_wp2
    rw [calmPost_normal]
    go_wp2
    go_roundw
    case rel => exact ⟨k + 1, by have := HK.out; omega, by simp, N1.out, N2.out, N3.out, N4.out, N5.out⟩
    case measure => have := HK.out; simp [intOf]; omega
   ·rw [ea] at cx
    rw [eb] at cy
    have hv : t 2 = (bt R k : Int) := by rw [ea, eb] at hTk; exact hTk
    clear hTk ea eb
    go_wp2
    refine wp_region_mix (C := Grows wr) [some true, some true, some true, some true, some true, some true, some true, some true, some true, some true, some true, some true, some true, some true, some true, none] hmx (by kernel_rfl) (by kernel_rfl) (grows_refl wr) ?_
    simp only [headOf, tailOf]
    repeat (go_big_quiet_step (fail))
    refine wpQuiet_nil ?_
    rintro _ ⟨y, rfl⟩
    clear cx cy ct0 ct1 ct2 ct3
    have fg := (hI.later y.below).frozen k
    have cg := (hI.later y.below).cell HK.out
    have N1 := (hI.later y.below).set HK.out (bt R k : Int)
    rw [dx_step a R k] at N1
    have N1 := hid N1
    have N2 := hid ((hJ.later y.below).other (p := ⟨g, k, none⟩) gg (.int .i64 (bt R k : Int)))
    have N3 := hid ((LT.later y.below).other (p := ⟨g, k, none⟩) gT (.int .i64 (bt R k : Int)))
    have N4 := hid ((LR.later y.below).other (p := ⟨g, k, none⟩) gR (.int .i64 (bt R k : Int)))
    have N5 := hid ((Q.trans (y.below.mono Q.size)).setCell (p := ⟨g, k, none⟩) hwg (.int .i64 (bt R k : Int)))
    clear hI hJ LT LR Q
    go_wp2
    rw [calmPost_normal]
    go_wp2
    go_roundw
    case rel => exact ⟨k + 1, by have := HK.out; omega, by simp, N1.out, N2.out, N3.out, N4.out, N5.out⟩
    case measure => have := HK.out; simp [intOf]; omega
   ·rw [ea] at cx
    rw [eb] at cy
    have hv : t 3 = (bt R k : Int) := by rw [ea, eb] at hTk; exact hTk
    clear hTk ea eb
    go_wp2
    refine wp_region_mix (C := Grows wr) [some true, some true, some true, some true, some true, some true, some true, some true, some true, some true, some true, some true, some true, some true, some true, none] hmx (by kernel_rfl) (by kernel_rfl) (grows_refl wr) ?_
    simp only [headOf, tailOf]
    repeat (go_big_quiet_step (fail))
    refine wpQuiet_nil ?_
    rintro _ ⟨y, rfl⟩
    clear cx cy ct0 ct1 ct2 ct3
    have fg := (hI.later y.below).frozen k
    have cg := (hI.later y.below).cell HK.out
    have N1 := (hI.later y.below).set HK.out (bt R k : Int)
    rw [dx_step a R k] at N1
    have N1 := hid N1
    have N2 := hid ((hJ.later y.below).other (p := ⟨g, k, none⟩) gg (.int .i64 (bt R k : Int)))
    have N3 := hid ((LT.later y.below).other (p := ⟨g, k, none⟩) gT (.int .i64 (bt R k : Int)))
    have N4 := hid ((LR.later y.below).other (p := ⟨g, k, none⟩) gR (.int .i64 (bt R k : Int)))
    have N5 := hid ((Q.trans (y.below.mono Q.size)).setCell (p := ⟨g, k, none⟩) hwg (.int .i64 (bt R k : Int)))
    clear hI hJ LT LR Q
    go_wp2
    rw [calmPost_normal]
    go_wp2
    go_roundw
    case rel => exact ⟨k + 1, by have := HK.out; omega, by simp, N1.out, N2.out, N3.out, N4.out, N5.out⟩
    case measure => have := HK.out; simp [intOf]; omega
  ·obtain rfl : k = 256 := by omega
   have hI := hI.congr (fun j hj => dx_top a R j hj)
   clear hk hlt HT hJ LT
   go_wp2_with fail
   refine (HF.out _ _ _ hI).mono ?_
   rintro e v9 ⟨rfl, q⟩
   have LR := LR.later q
   have Q := Q.trans (q.mono Q.size)
   clear q hI HF
   obtain ⟨r0, r1, r2, r3⟩ := c4 LR
   obtain ⟨z0, z1, z2, z3⟩ := f4 LR
   have HR := hid ((s4 LR (lim R)))
   have HQ := hid ((q4 (w.heap.size + 1 + 1 + 1) Q (show w.heap.size ≤ w.heap.size + 1 + 1 + 1 by omega) (lim R)))
   clear Q LR
   go_wp2
   refine bodyPost_ret (results_word (m := lim R) rfl rfl HR.out) rfl ⟨rfl, HQ.out⟩
theorem bt_test (a j : Nat) : bt a j = (a.testBit j).toNat := by
 unfold bt
 rw [Nat.testBit_eq_decide_div_mod_eq]
 rcases (show a / 2 ^ j % 2 = 0 ∨ a / 2 ^ j % 2 = 1 by omega) with h | h <;> simp [h]
def tAnd (j : Nat) : Int := if j = 3 then 1 else 0
def tOr (j : Nat) : Int := if j = 0 then 0 else 1
def tXor (j : Nat) : Int := if j = 1 ∨ j = 2 then 1 else 0
def tNot (j : Nat) : Int := if j < 2 then 1 else 0
theorem refAnd_walk (a b r : Nat) (h : Ret Tryz.prog 86 #[.agg #[.int .u64 (lim a 0), .int .u64 (lim a 1), .int .u64 (lim a 2), .int .u64 (lim a 3)], .agg #[.int .u64 (lim b 0), .int .u64 (lim b 1), .int .u64 (lim b 2), .int .u64 (lim b 3)], .agg #[.int .i64 0, .int .i64 0, .int .i64 0, .int .i64 1]] (.agg #[.int .u64 (lim r 0), .int .u64 (lim r 1), .int .u64 (lim r 2), .int .u64 (lim r 3)])) :
  Ret Tryz.prog 51 #[.agg #[.int .u64 (lim a 0), .int .u64 (lim a 1), .int .u64 (lim a 2), .int .u64 (lim a 3)], .agg #[.int .u64 (lim b 0), .int .u64 (lim b 1), .int .u64 (lim b 2), .int .u64 (lim b 3)]] (.agg #[.int .u64 (lim r 0), .int .u64 (lim r 1), .int .u64 (lim r 2), .int .u64 (lim r 3)]) := by
 intro w
 have Hh := hid h
 clear h
 go_enter Tryz.func51, Tryz.ntmps51
 obtain ⟨⟨⟨k13, k14, k15, k16⟩, ⟨k17, k18, k19, k20⟩, ⟨k21, k22, k23, k24⟩⟩, W1, hW1, LX, LY, LR, Q⟩ := pwwz w 24 (lim a) (lim b)
 go_wp2_with fail
 clear k13 k14 k15 k16 k17 k18 k19 k20 k21 k22 k23 k24
 rw [hW1.out]
 clear hW1
 refine (Hh.out _).mono ?_
 rintro e v25 ⟨rfl, q⟩
 have LX := LX.later q
 have LY := LY.later q
 have LR := LR.later q
 have Q := Q.trans (q.mono Q.size)
 clear q
 obtain ⟨r0, r1, r2, r3⟩ := c4 LR
 obtain ⟨z0, z1, z2, z3⟩ := f4 LR
 obtain ⟨k26, k27, k28, k29⟩ := c4 LX
 obtain ⟨k30, k31, k32, k33⟩ := c4 LY
 have HR := hid ((s4 LR (lim r)))
 have HQ := hid ((q4 (w.heap.size + 1 + 1) Q (by omega) (lim r)))
 clear Q LX LY LR
 go_wp2
 refine bodyPost_ret (results_word (m := lim r) rfl rfl HR.out) rfl ⟨rfl, HQ.out⟩
theorem refAnd_ret (a b : Nat) (ha : W256 a) (hb : W256 b) : Ret Tryz.prog 51 #[wv a, wv b] (wv (a &&& b)) :=
 refAnd_walk a b (a &&& b) (refBoth_ret a b (a &&& b) tAnd (and_lt a b hb) (fun j _ => by
  rw [bt_test, bt_test, bt_test, Nat.testBit_and]
  cases a.testBit j <;> cases b.testBit j <;> rfl))
theorem refOr_walk (a b r : Nat) (h : Ret Tryz.prog 86 #[.agg #[.int .u64 (lim a 0), .int .u64 (lim a 1), .int .u64 (lim a 2), .int .u64 (lim a 3)], .agg #[.int .u64 (lim b 0), .int .u64 (lim b 1), .int .u64 (lim b 2), .int .u64 (lim b 3)], .agg #[.int .i64 0, .int .i64 1, .int .i64 1, .int .i64 1]] (.agg #[.int .u64 (lim r 0), .int .u64 (lim r 1), .int .u64 (lim r 2), .int .u64 (lim r 3)])) :
  Ret Tryz.prog 52 #[.agg #[.int .u64 (lim a 0), .int .u64 (lim a 1), .int .u64 (lim a 2), .int .u64 (lim a 3)], .agg #[.int .u64 (lim b 0), .int .u64 (lim b 1), .int .u64 (lim b 2), .int .u64 (lim b 3)]] (.agg #[.int .u64 (lim r 0), .int .u64 (lim r 1), .int .u64 (lim r 2), .int .u64 (lim r 3)]) := by
 intro w
 have Hh := hid h
 clear h
 go_enter Tryz.func52, Tryz.ntmps52
 obtain ⟨⟨⟨k13, k14, k15, k16⟩, ⟨k17, k18, k19, k20⟩, ⟨k21, k22, k23, k24⟩⟩, W1, hW1, LX, LY, LR, Q⟩ := pwwz w 24 (lim a) (lim b)
 go_wp2_with fail
 clear k13 k14 k15 k16 k17 k18 k19 k20 k21 k22 k23 k24
 rw [hW1.out]
 clear hW1
 refine (Hh.out _).mono ?_
 rintro e v25 ⟨rfl, q⟩
 have LX := LX.later q
 have LY := LY.later q
 have LR := LR.later q
 have Q := Q.trans (q.mono Q.size)
 clear q
 obtain ⟨r0, r1, r2, r3⟩ := c4 LR
 obtain ⟨z0, z1, z2, z3⟩ := f4 LR
 obtain ⟨k26, k27, k28, k29⟩ := c4 LX
 obtain ⟨k30, k31, k32, k33⟩ := c4 LY
 have HR := hid ((s4 LR (lim r)))
 have HQ := hid ((q4 (w.heap.size + 1 + 1) Q (by omega) (lim r)))
 clear Q LX LY LR
 go_wp2
 refine bodyPost_ret (results_word (m := lim r) rfl rfl HR.out) rfl ⟨rfl, HQ.out⟩
theorem refOr_ret (a b : Nat) (ha : W256 a) (hb : W256 b) : Ret Tryz.prog 52 #[wv a, wv b] (wv (a ||| b)) :=
 refOr_walk a b (a ||| b) (refBoth_ret a b (a ||| b) tOr (or_lt a b ha hb) (fun j _ => by
  rw [bt_test, bt_test, bt_test, Nat.testBit_or]
  cases a.testBit j <;> cases b.testBit j <;> rfl))
theorem refXor_walk (a b r : Nat) (h : Ret Tryz.prog 86 #[.agg #[.int .u64 (lim a 0), .int .u64 (lim a 1), .int .u64 (lim a 2), .int .u64 (lim a 3)], .agg #[.int .u64 (lim b 0), .int .u64 (lim b 1), .int .u64 (lim b 2), .int .u64 (lim b 3)], .agg #[.int .i64 0, .int .i64 1, .int .i64 1, .int .i64 0]] (.agg #[.int .u64 (lim r 0), .int .u64 (lim r 1), .int .u64 (lim r 2), .int .u64 (lim r 3)])) :
  Ret Tryz.prog 53 #[.agg #[.int .u64 (lim a 0), .int .u64 (lim a 1), .int .u64 (lim a 2), .int .u64 (lim a 3)], .agg #[.int .u64 (lim b 0), .int .u64 (lim b 1), .int .u64 (lim b 2), .int .u64 (lim b 3)]] (.agg #[.int .u64 (lim r 0), .int .u64 (lim r 1), .int .u64 (lim r 2), .int .u64 (lim r 3)]) := by
 intro w
 have Hh := hid h
 clear h
 go_enter Tryz.func53, Tryz.ntmps53
 obtain ⟨⟨⟨k13, k14, k15, k16⟩, ⟨k17, k18, k19, k20⟩, ⟨k21, k22, k23, k24⟩⟩, W1, hW1, LX, LY, LR, Q⟩ := pwwz w 24 (lim a) (lim b)
 go_wp2_with fail
 clear k13 k14 k15 k16 k17 k18 k19 k20 k21 k22 k23 k24
 rw [hW1.out]
 clear hW1
 refine (Hh.out _).mono ?_
 rintro e v25 ⟨rfl, q⟩
 have LX := LX.later q
 have LY := LY.later q
 have LR := LR.later q
 have Q := Q.trans (q.mono Q.size)
 clear q
 obtain ⟨r0, r1, r2, r3⟩ := c4 LR
 obtain ⟨z0, z1, z2, z3⟩ := f4 LR
 obtain ⟨k26, k27, k28, k29⟩ := c4 LX
 obtain ⟨k30, k31, k32, k33⟩ := c4 LY
 have HR := hid ((s4 LR (lim r)))
 have HQ := hid ((q4 (w.heap.size + 1 + 1) Q (by omega) (lim r)))
 clear Q LX LY LR
 go_wp2
 refine bodyPost_ret (results_word (m := lim r) rfl rfl HR.out) rfl ⟨rfl, HQ.out⟩
theorem refXor_ret (a b : Nat) (ha : W256 a) (hb : W256 b) : Ret Tryz.prog 53 #[wv a, wv b] (wv (a ^^^ b)) :=
 refXor_walk a b (a ^^^ b) (refBoth_ret a b (a ^^^ b) tXor (xor_lt a b ha hb) (fun j _ => by
  rw [bt_test, bt_test, bt_test, Nat.testBit_xor]
  cases a.testBit j <;> cases b.testBit j <;> rfl))
theorem refNot_walk (a r : Nat) (h : Ret Tryz.prog 86 #[.agg #[.int .u64 (lim a 0), .int .u64 (lim a 1), .int .u64 (lim a 2), .int .u64 (lim a 3)], .agg #[.int .u64 (lim a 0), .int .u64 (lim a 1), .int .u64 (lim a 2), .int .u64 (lim a 3)], .agg #[.int .i64 1, .int .i64 1, .int .i64 0, .int .i64 0]] (.agg #[.int .u64 (lim r 0), .int .u64 (lim r 1), .int .u64 (lim r 2), .int .u64 (lim r 3)])) :
  Ret Tryz.prog 54 #[.agg #[.int .u64 (lim a 0), .int .u64 (lim a 1), .int .u64 (lim a 2), .int .u64 (lim a 3)]] (.agg #[.int .u64 (lim r 0), .int .u64 (lim r 1), .int .u64 (lim r 2), .int .u64 (lim r 3)]) := by
 intro w
 have Hh := hid h
 clear h
 go_enter Tryz.func54, Tryz.ntmps54
 obtain ⟨⟨⟨k5, k6, k7, k8⟩, ⟨k9, k10, k11, k12⟩⟩, W1, hW1, LX, LR, Q⟩ := pwz w 24 (lim a)
 go_wp2_with fail
 clear k5 k6 k7 k8 k9 k10 k11 k12
 rw [hW1.out]
 clear hW1
 refine (Hh.out _).mono ?_
 rintro e v13 ⟨rfl, q⟩
 have LX := LX.later q
 have LR := LR.later q
 have Q := Q.trans (q.mono Q.size)
 clear q
 obtain ⟨r0, r1, r2, r3⟩ := c4 LR
 obtain ⟨z0, z1, z2, z3⟩ := f4 LR
 obtain ⟨k14, k15, k16, k17⟩ := c4 LX
 have HR := hid ((s4 LR (lim r)))
 have HQ := hid ((q4 (w.heap.size + 1) Q (by omega) (lim r)))
 clear Q LX LR
 go_wp2
 refine bodyPost_ret (results_word (m := lim r) rfl rfl HR.out) rfl ⟨rfl, HQ.out⟩
theorem refNot_ret (a : Nat) (ha : W256 a) : Ret Tryz.prog 54 #[wv a] (wv (a ^^^ M1)) :=
 refNot_walk a (a ^^^ M1) (refBoth_ret a a (a ^^^ M1) tNot (xor_lt a M1 ha M1_lt) (fun j hj => by
  rw [bt_test, bt_test, Nat.testBit_xor, m1_bit j hj]
  cases a.testBit j <;> rfl))
end
section
open Go Go.RowKit Go.Shelf
attribute [local go_sem] Oper.semAt_some Grows wide_fn
theorem infoB : (Tryz.prog.info? 5).map (fun i => (i.zero, i.size, i.bytes)) = some (some (.int .u8 0), 1, 1) := by kernel_rfl
def byteL (a : Nat) : List Nat := (List.range 32).map fun j => byteN a (31 - j)
theorem bytesOf_list (a : Nat) : (bytesOf a).data.toList = (byteL a).map UInt8.ofNat := by
 unfold bytesOf strOfNums byteL
 simp [Function.comp_def]
theorem bytesOf_size (a : Nat) : (bytesOf a).size = 32 := by
 have : (bytesOf a).data.toList.length = 32 := by rw [bytesOf_list]; simp [byteL]
 simpa using this
theorem refInt_ret (a : Nat) (ha : W256 a) : Ret Tryz.prog 132 #[wv a] (intV a) := by
 intro w
 have hn := num_lim a ha
 have l0 := lim_u64 a 0
 have l1 := lim_u64 a 1
 have l2 := lim_u64 a 2
 have l3 := lim_u64 a 3
 unfold U64 at l0 l1 l2 l3
 unfold num at hn
 obtain ⟨p0, q0⟩ := l0
 obtain ⟨p1, q1⟩ := l1
 obtain ⟨p2, q2⟩ := l2
 obtain ⟨p3, q3⟩ := l3
 unfold wv
 have HB := hid ((Below.refl _ w).alloc (Nat.le_refl _) (.cells #[.int .u64 (lim a 0), .int .u64 (lim a 1), .int .u64 (lim a 2), .int .u64 (lim a 3)] 24))
 by_cases c1 : 0 < lim a 1
 ·have e : intV a = .tuple #[.int .i64 0, .bool false] := by unfold intV maxI; rw [if_neg (by omega)]
  rw [e]
  clear hn e ha
  generalize lim a 0 = z0 at *; generalize lim a 1 = z1 at *; generalize lim a 2 = z2 at *; generalize lim a 3 = z3 at *
  go_enter Tryz.func132, Tryz.ntmps132
  go_wp2
  go_ret2
  exact ⟨rfl, HB.out⟩
 ·by_cases c2 : 0 < lim a 2
  ·have e : intV a = .tuple #[.int .i64 0, .bool false] := by unfold intV maxI; rw [if_neg (by omega)]
   rw [e]
   clear hn e ha
   generalize lim a 0 = z0 at *; generalize lim a 1 = z1 at *; generalize lim a 2 = z2 at *; generalize lim a 3 = z3 at *
   go_enter Tryz.func132, Tryz.ntmps132
   go_wp2
   go_ret2
   exact ⟨rfl, HB.out⟩
  ·by_cases c3 : 0 < lim a 3
   ·have e : intV a = .tuple #[.int .i64 0, .bool false] := by unfold intV maxI; rw [if_neg (by omega)]
    rw [e]
    clear hn e ha
    generalize lim a 0 = z0 at *; generalize lim a 1 = z1 at *; generalize lim a 2 = z2 at *; generalize lim a 3 = z3 at *
    go_enter Tryz.func132, Tryz.ntmps132
    go_wp2
    go_ret2
    exact ⟨rfl, HB.out⟩
   ·by_cases c0 : 4611686018427387903 < lim a 0
    ·have e : intV a = .tuple #[.int .i64 0, .bool false] := by unfold intV maxI; rw [if_neg (by omega)]
     rw [e]
     clear hn e ha
     generalize lim a 0 = z0 at *; generalize lim a 1 = z1 at *; generalize lim a 2 = z2 at *; generalize lim a 3 = z3 at *
     go_enter Tryz.func132, Tryz.ntmps132
     go_wp2
     go_ret2
     exact ⟨rfl, HB.out⟩
    ·have e : intV a = .tuple #[.int .i64 (lim a 0), .bool true] := by
      unfold intV maxI
      rw [if_pos (by omega), show (a : Int) = lim a 0 by omega]
     rw [e]
     clear hn e ha
     generalize lim a 0 = z0 at *; generalize lim a 1 = z1 at *; generalize lim a 2 = z2 at *; generalize lim a 3 = z3 at *
     go_enter Tryz.func132, Tryz.ntmps132
     go_wp2
     go_ret2
     exact ⟨rfl, HB.out⟩
def bytV (a n : Nat) : List Value := (List.range n).map fun j => Value.int .u8 (dg a (31 - j) : Int)
theorem bytV_succ (a n : Nat) : bytV a (n + 1) = bytV a n ++ [.int .u8 (dg a (31 - n) : Int)] := by simp [bytV, List.range_succ]
theorem bytes_back (a : Nat) : (⟨((byteL a).map UInt8.ofNat).toArray⟩ : ByteArray) = bytesOf a := by
 have h := bytesOf_list a
 cases hb : bytesOf a with
 | mk data =>
  rw [hb] at h
  simp only [] at h
  rw [← h]
theorem refBytes_ret (a : Nat) : Ret Tryz.prog 87 #[wv a] (.string (bytesOf a)) := by
 intro w
 have B0 := (Below.refl _ w).alloc (Nat.le_refl _) (.cells (w4 (lim a)) 24)
 have s0 : w.heap.size + 1 ≤ (w.alloc (.cells (w4 (lim a)) 24)).heap.size := by simp
 have DA := digits_any a
 unfold wv at DA ⊢
 go_enter Tryz.func87, Tryz.ntmps87
 go_wp2_with fail
 obtain ⟨W0, hW0⟩ : ∃ W0, w.alloc (.cells (w4 (lim a)) 24) = W0 := ⟨_, rfl⟩
 rw [hW0] at B0 s0 ⊢
 clear hW0
 refine (DA _).mono ?_
 rintro e w1 ⟨g, cap, rfl, hg, X1, q⟩
 have B1 := B0.trans (q.mono B0.size)
 have hgl := X1.lt
 have R0 := World.ownsRow_nil w1 w1.heap.size 5 1
 have hs1 : w.heap.size ≤ w1.heap.size := B1.size
 clear q B0 DA s0 hg
 go_wp2
 go_loopw [4, 5] (fun t i wr => ∃ (z : Int) (k : Nat), i = .int .i64 z ∧ k ≤ 32 ∧ z = 31 - (k : Int) ∧ wr.ownsRow w1.heap.size 5 1 t k (bytV a k) ∧ IntsAt wr g 32 (fun j => (dg a j : Int)) ∧ Below w.heap.size w wr ∧ w1.heap.size ≤ wr.heap.size) (fun _ i _ => (intOf i + 1).toNat)
 case atStart => exact ⟨31, 0, rfl, by omega, by omega, R0, X1, B1, Nat.le_refl _⟩
 case round =>
  obtain ⟨z, k, rfl, hk, hz, hown, xx, hB, hsz⟩ := hrel
  clear R0 X1 B1
  by_cases hlt : k < 32
  ·obtain ⟨i, hi⟩ : ∃ i : Nat, z = i := ⟨31 - k, by omega⟩
   subst hi
   have hik : i = 31 - k := by omega
   have hi0 : (0 : Int) ≤ (i : Int) := by omega
   have hi9 : (i : Int) < 32 := by omega
   have cd := xx.cell (j := i) (by omega)
   have db := dg_lt a i
   have HV := hid (bytV_succ a k)
   rw [← hik] at HV
   have HK := hid hlt
   have HIK := hid hik
   have HX := hid xx
   have HO := hid hown
   have HB := hid hB
   have HZ := hid hsz
   have b0 : (0 : Int) ≤ (dg a i : Int) := by omega
   have b1 : (dg a i : Int) < 256 := by omega
   obtain ⟨i0, hi, hz0, hz1, hz2⟩ := info_parts infoB
   clear hk hz hlt hik hown xx hB hsz db
   generalize (dg a i : Int) = b at *
   go_wp2_with (at_builtin; refine wpList_append_own _ rfl _ _ 42 rfl w1.heap.size 5 i0 (.int .u8 0) 1 1 Tryz.underlying42 hi hz0 hz1 hz2 rfl (by decide) _ _ _ rfl (HO.out.alloc _) ⟨wr.heap.size, 0, none⟩ 1 1 [.int .u8 b] rfl rfl (cell_one _ _ _) (by simp [Value.oneCell']) (by unfold maxLen; have := HK.out; omega) (by have := HK.out; omega) (by have := HZ.out; simp; omega) ?_; intro v' w3 hown' hgrow hnil)
   clear hi hz0 hz1 hz2
   go_wp2
   go_roundw
   case rel =>
    have hxs3 := hgrow.size
    have hzz := HZ.out
    refine ⟨(i : Int) - 1, k + 1, by simp, HK.out, by have := HIK.out; have := HK.out; omega, ?_, ?_, ?_, by simp at hxs3; omega⟩
    ·rw [HV.out]; exact hown'
    ·exact (HX.out.alloc _).kept hgrow (fun e => by have := (HO.out.alloc (.cells #[.int .u8 b] 5)).lt _ e.symm; omega)
    ·exact (HB.out.alloc (by omega) _).grown hgrow (by simp; omega) (fun j e => by have := (HO.out.alloc (.cells #[.int .u8 b] 5)).lt j e; omega)
   case measure => first | (simp [intOf]; done) | (simp [intOf]; omega)
  ·obtain rfl : k = 32 := by omega
   obtain rfl : z = -1 := by omega
   obtain ⟨g', cap', rfl⟩ := ownsRow_succ (k := 31) hown
   have hback : (convert 42 9 (.slice (some ⟨g', 0, none⟩) 32 cap')).run Tryz.prog wr = .ok (.string (bytesOf a)) wr := by
    have hl : ((byteL a).map UInt8.ofNat).length = 32 := by simp [byteL]
    have h := run_convert_bytes_back (P := Tryz.prog) wr 42 9 5 ⟨g', 0, none⟩ cap' ((byteL a).map UInt8.ofNat) Tryz.underlying42 Tryz.underlying5 Tryz.underlying9 (fun j hj => by
     have hj2 : j < 32 := by omega
     have hcell := hown.cells (g := g') rfl j (.int .u8 (dg a (31 - j) : Int)) (by simp [bytV, hj2])
     rw [hcell]
     congr 2
     have hgt : ((byteL a).map UInt8.ofNat)[j] = UInt8.ofNat (byteN a (31 - j)) := by simp [byteL]
     refine Eq.trans ?_ (congrArg (fun c : UInt8 => (c.toNat : Int)) hgt).symm
     show (dg a (31 - j) : Int) = ((UInt8.ofNat (byteN a (31 - j))).toNat : Int)
     rw [UInt8.toNat_ofNat', Nat.mod_eq_of_lt (show byteN a (31 - j) < 2 ^ 8 from byteN_lt a _)]
     rfl)
    rw [hl, bytes_back] at h
    exact h
   have HB := hid hB
   clear hk hz hlt hown xx hB hsz
   go_wp2
   go_ret
   exact ⟨rfl, HB.out⟩
end
section
open Go Go.RowKit
attribute [local go_sem] Oper.semAt_some Grows
theorem less3_same (a b : Nat) (c : Int) (hc : Ret Tryz.prog 49 #[.agg #[.int .u64 (lim a 0), .int .u64 (lim a 1), .int .u64 (lim a 2), .int .u64 (lim a 3)], .agg #[.int .u64 (lim b 0), .int .u64 (lim b 1), .int .u64 (lim b 2), .int .u64 (lim b 3)]] (.int .i64 c)) (he : bt a 255 = bt b 255) :
  Ret Tryz.prog 50 #[.agg #[.int .u64 (lim a 0), .int .u64 (lim a 1), .int .u64 (lim a 2), .int .u64 (lim a 3)], .agg #[.int .u64 (lim b 0), .int .u64 (lim b 1), .int .u64 (lim b 2), .int .u64 (lim b 3)]] (.bool (decide (c < 0))) := by
 intro w
 have Hhc := hid hc
 clear hc
 have HA := hid (bits_any a)
 have HB := hid (bits_any b)
 have HE := hid he
 clear he
 unfold wv at HA HB
 go_enter Tryz.func50, Tryz.ntmps50
 obtain ⟨⟨⟨k5, k6, k7, k8⟩, ⟨k9, k10, k11, k12⟩⟩, W1, hW1, LX, LY, Q⟩ := pww w 24 (lim a) (lim b)
 go_wp2_with fail
 clear k5 k6 k7 k8 k9 k10 k11 k12
 rw [hW1.out]
 clear hW1
 refine (HA.out _).mono ?_
 rintro e v13 ⟨g, cap, rfl, hg, hI, q⟩
 have LX := LX.later q
 have LY := LY.later q
 have Q := Q.trans (q.mono Q.size)
 clear q
 have cA : v13.cell? ⟨g, 255, none⟩ = some (.int .i64 (bt a 255 : Int)) := hI.cell (by omega)
 clear HA hg
 obtain ⟨k14, k15, k16, k17⟩ := c4 LX
 obtain ⟨k18, k19, k20, k21⟩ := c4 LY
 go_wp2_with fail
 clear k14 k15 k16 k17 k18 k19 k20 k21
 refine (HB.out _).mono ?_
 rintro e v22 ⟨g2, cap2, rfl, hg2, hJ, q⟩
 have LX := LX.later q
 have LY := LY.later q
 have Q := Q.trans (q.mono Q.size)
 clear q
 have cB : v22.cell? ⟨g2, 255, none⟩ = some (.int .i64 (bt b 255 : Int)) := hJ.cell (by omega)
 clear HB hg2 hJ hI cA
 rw [HE.out]
 clear HE
 generalize (bt b 255 : Int) = x at *
 obtain ⟨k23, k24, k25, k26⟩ := c4 LX
 obtain ⟨k27, k28, k29, k30⟩ := c4 LY
 go_wp2_with fail
 clear k23 k24 k25 k26 k27 k28 k29 k30
 refine (Hhc.out _).mono ?_
 rintro e v31 ⟨rfl, q⟩
 have LX := LX.later q
 have LY := LY.later q
 have Q := Q.trans (q.mono Q.size)
 clear q
 obtain ⟨k32, k33, k34, k35⟩ := c4 LX
 obtain ⟨k36, k37, k38, k39⟩ := c4 LY
 go_wp2
 clear k32 k33 k34 k35 k36 k37 k38 k39
 go_ret
 exact ⟨rfl, Q⟩
theorem less3_other (a b : Nat) (he : bt a 255 ≠ bt b 255) :
  Ret Tryz.prog 50 #[.agg #[.int .u64 (lim a 0), .int .u64 (lim a 1), .int .u64 (lim a 2), .int .u64 (lim a 3)], .agg #[.int .u64 (lim b 0), .int .u64 (lim b 1), .int .u64 (lim b 2), .int .u64 (lim b 3)]] (.bool (decide (bt b 255 < bt a 255))) := by
 intro w
 have HA := hid (bits_any a)
 have HB := hid (bits_any b)
 have HE := hid he
 clear he
 unfold wv at HA HB
 go_enter Tryz.func50, Tryz.ntmps50
 obtain ⟨⟨⟨k5, k6, k7, k8⟩, ⟨k9, k10, k11, k12⟩⟩, W1, hW1, LX, LY, Q⟩ := pww w 24 (lim a) (lim b)
 go_wp2_with fail
 clear k5 k6 k7 k8 k9 k10 k11 k12
 rw [hW1.out]
 clear hW1
 refine (HA.out _).mono ?_
 rintro e v13 ⟨g, cap, rfl, hg, hI, q⟩
 have LX := LX.later q
 have LY := LY.later q
 have Q := Q.trans (q.mono Q.size)
 clear q
 have cA : v13.cell? ⟨g, 255, none⟩ = some (.int .i64 (bt a 255 : Int)) := hI.cell (by omega)
 clear HA hg
 obtain ⟨k14, k15, k16, k17⟩ := c4 LX
 obtain ⟨k18, k19, k20, k21⟩ := c4 LY
 go_wp2_with fail
 clear k14 k15 k16 k17 k18 k19 k20 k21
 refine (HB.out _).mono ?_
 rintro e v22 ⟨g2, cap2, rfl, hg2, hJ, q⟩
 have LX := LX.later q
 have LY := LY.later q
 have Q := Q.trans (q.mono Q.size)
 clear q
 have cB : v22.cell? ⟨g2, 255, none⟩ = some (.int .i64 (bt b 255 : Int)) := hJ.cell (by omega)
 clear HB hg2 hJ hI cA
 have hn : ¬ (bt a 255 : Int) = (bt b 255 : Int) := fun h => HE.out (by omega)
 clear HE
 obtain ⟨k23, k24, k25, k26⟩ := c4 LX
 obtain ⟨k27, k28, k29, k30⟩ := c4 LY
 go_wp2
 clear k23 k24 k25 k26 k27 k28 k29 k30
 go_ret
 exact ⟨rfl, Q⟩
theorem small_far (a : Nat) (m n : Int) (h : Ret Tryz.prog 132 #[.agg #[.int .u64 (lim a 0), .int .u64 (lim a 1), .int .u64 (lim a 2), .int .u64 (lim a 3)]] (.tuple #[.int .i64 0, .bool false])) :
  Ret Tryz.prog 84 #[.agg #[.int .u64 (lim a 0), .int .u64 (lim a 1), .int .u64 (lim a 2), .int .u64 (lim a 3)], .int .i64 m] (.int .i64 m) := by
 intro w
 have Hh := hid h
 clear h
 go_enter Tryz.func84, Tryz.ntmps84
 have LX := Has.new w 24 (w4 (lim a))
 obtain ⟨k1, k2, k3, k4⟩ := c4 LX
 have Q := (Below.refl w.heap.size w)
 have Q := Q.alloc Q.size (.cells (w4 (lim a)) 24)
 go_wp2_with fail
 clear k1 k2 k3 k4
 obtain ⟨W1, hW1⟩ : ∃ W1, (w.alloc (.cells (w4 (lim a)) 24)) = W1 := ⟨_, rfl⟩
 rw [hW1] at LX Q ⊢
 clear hW1
 refine (Hh.out _).mono ?_
 rintro e v5 ⟨rfl, q⟩
 have LX := LX.later q
 have Q := Q.trans (q.mono Q.size)
 clear q
 obtain ⟨k6, k7, k8, k9⟩ := c4 LX
 go_wp2
 clear k6 k7 k8 k9
 go_ret
 exact ⟨rfl, Q⟩
theorem small_over (a : Nat) (m n : Int) (h : Ret Tryz.prog 132 #[.agg #[.int .u64 (lim a 0), .int .u64 (lim a 1), .int .u64 (lim a 2), .int .u64 (lim a 3)]] (.tuple #[.int .i64 n, .bool true])) (hlt : m < n) :
  Ret Tryz.prog 84 #[.agg #[.int .u64 (lim a 0), .int .u64 (lim a 1), .int .u64 (lim a 2), .int .u64 (lim a 3)], .int .i64 m] (.int .i64 m) := by
 intro w
 have Hh := hid h
 clear h
 have hd : decide (m < n) = true := decide_eq_true hlt
 go_enter Tryz.func84, Tryz.ntmps84
 have LX := Has.new w 24 (w4 (lim a))
 obtain ⟨k1, k2, k3, k4⟩ := c4 LX
 have Q := (Below.refl w.heap.size w)
 have Q := Q.alloc Q.size (.cells (w4 (lim a)) 24)
 go_wp2_with fail
 clear k1 k2 k3 k4
 obtain ⟨W1, hW1⟩ : ∃ W1, (w.alloc (.cells (w4 (lim a)) 24)) = W1 := ⟨_, rfl⟩
 rw [hW1] at LX Q ⊢
 clear hW1
 refine (Hh.out _).mono ?_
 rintro e v5 ⟨rfl, q⟩
 have LX := LX.later q
 have Q := Q.trans (q.mono Q.size)
 clear q
 obtain ⟨k6, k7, k8, k9⟩ := c4 LX
 go_wp2
 clear k6 k7 k8 k9
 go_ret
 exact ⟨rfl, Q⟩
theorem small_in (a : Nat) (m n : Int) (h : Ret Tryz.prog 132 #[.agg #[.int .u64 (lim a 0), .int .u64 (lim a 1), .int .u64 (lim a 2), .int .u64 (lim a 3)]] (.tuple #[.int .i64 n, .bool true])) (hlt : ¬ m < n) :
  Ret Tryz.prog 84 #[.agg #[.int .u64 (lim a 0), .int .u64 (lim a 1), .int .u64 (lim a 2), .int .u64 (lim a 3)], .int .i64 m] (.int .i64 n) := by
 intro w
 have Hh := hid h
 clear h
 have hd : decide (m < n) = false := decide_eq_false hlt
 go_enter Tryz.func84, Tryz.ntmps84
 have LX := Has.new w 24 (w4 (lim a))
 obtain ⟨k1, k2, k3, k4⟩ := c4 LX
 have Q := (Below.refl w.heap.size w)
 have Q := Q.alloc Q.size (.cells (w4 (lim a)) 24)
 go_wp2_with fail
 clear k1 k2 k3 k4
 obtain ⟨W1, hW1⟩ : ∃ W1, (w.alloc (.cells (w4 (lim a)) 24)) = W1 := ⟨_, rfl⟩
 rw [hW1] at LX Q ⊢
 clear hW1
 refine (Hh.out _).mono ?_
 rintro e v5 ⟨rfl, q⟩
 have LX := LX.later q
 have Q := Q.trans (q.mono Q.size)
 clear q
 obtain ⟨k6, k7, k8, k9⟩ := c4 LX
 go_wp2
 clear k6 k7 k8 k9
 go_ret
 exact ⟨rfl, Q⟩
theorem refSmall_ret (a m : Nat) (ha : W256 a) (hm : m < 1000) : Ret Tryz.prog 84 #[wv a, .int .i64 (m : Int)] (.int .i64 ((if a ≤ m then a else m : Nat) : Int)) := by
 have h := refInt_ret a ha
 unfold intV at h
 by_cases h1 : a ≤ m
 ·rw [if_pos h1]
  rw [if_pos (show a ≤ maxI by unfold maxI; omega)] at h
  exact small_in a m a h (by omega)
 ·rw [if_neg h1]
  by_cases h2 : a ≤ maxI
  ·rw [if_pos h2] at h
   exact small_over a m a h (by omega)
  ·rw [if_neg h2] at h
   exact small_far a m 0 h
def rowI (R k : Nat) : List Value := (List.range k).map fun j => Value.int .i64 (bt R j : Int)
theorem rowI_succ (R k : Nat) : rowI R (k + 1) = rowI R k ++ [.int .i64 (bt R k : Int)] := by simp [rowI, List.range_succ]
theorem row_form3 {w : World} {base : Nat} {e : TypeId} {size : Nat} {v : Value} {n : Nat} {xs : List Value} (h : w.ownsRow base e size v n xs) : ∃ o cap, v = .slice o n cap := by
 rcases h.2 with ⟨rfl, rfl⟩ | ⟨g, cap, cur, rfl, _⟩
 ·exact ⟨none, 0, rfl⟩
 ·exact ⟨_, _, rfl⟩
theorem rowI_nil (R : Nat) : rowI R 0 = [] := rfl
theorem refMoved_ret (a R : Nat) (m s : Int) (hR : W256 R) (hm : -256 ≤ m ∧ m ≤ 256) (hin : ∀ k j : Nat, k < 256 → j < 256 → (k : Int) - m = (j : Int) → bt R k = bt a j) (hout : ∀ k : Nat, k < 256 → ((k : Int) - m < 0 ∨ 256 ≤ (k : Int) - m) → (bt R k : Int) = s) :
  Ret Tryz.prog 88 #[wv a, .int .i64 m, .int .i64 s] (wv R) := by
 intro w
 obtain ⟨hm0, hm1⟩ := hm
 have HA := hid (bits_any a)
 have HF := hid (fromBits_any R hR)
 have HI := hid hin
 have HO := hid hout
 clear hR hin hout
 unfold wv at HA HF ⊢
 go_enter Tryz.func88, Tryz.ntmps88
 obtain ⟨⟨⟨k5, k6, k7, k8⟩, ⟨k9, k10, k11, k12⟩⟩, W1, hW1, LX, LR, Q⟩ := pwz w 24 (lim a)
 go_wp2_with fail
 clear k5 k6 k7 k8 k9 k10 k11 k12
 rw [hW1.out]
 clear hW1
 refine (HA.out _).mono ?_
 rintro e v13 ⟨g, cap, rfl, hg, hI, q⟩
 have LX := LX.later q
 have LR := LR.later q
 have Q := Q.trans (q.mono Q.size)
 clear q
 clear LX
 clear HA hg
 have aI := hI.lt
 have aR := LR.lt
 have aW := Q.size
 have RN := World.ownsRow_nil v13 v13.heap.size 3 1
 have hbs : v13.heap.size ≤ v13.heap.size := Nat.le_refl _
 rw [← rowI_nil R] at RN
 go_wp2
 generalize hbase : v13.heap.size = base at aI aR aW RN hbs
 go_loopw [8, 9] (fun t i wr => ∃ k : Nat, i = .int .i64 (k : Int) ∧ k ≤ 256 ∧ wr.ownsRow base 3 1 t k (rowI R k) ∧ IntsAt wr g 256 (fun j => (bt a j : Int)) ∧ Has wr (w.heap.size + 1) 24 #[.int .u64 0, .int .u64 0, .int .u64 0, .int .u64 0] ∧ Below w.heap.size w wr ∧ base ≤ wr.heap.size) (fun _ i _ => 256 - (intOf i).toNat)
 case atStart => exact ⟨0, rfl, by omega, RN, hI, LR, Q, by omega⟩
 case round =>
  clear hI LR Q RN hbs hbase
  obtain ⟨k, rfl, hk, hown, hI, LR, Q, hbs⟩ := hrel
  obtain ⟨o, cap2, rfl⟩ := row_form3 hown
  by_cases hlt : k < 256
  ·have hk0 : (0 : Int) ≤ (k : Int) := by omega
   have hk1 : (k : Int) < 256 := by omega
   have HK := hid hlt
   have HRow := hid hown
   have HX := hid hI
   have HLR := hid LR
   have HQ := hid Q
   have HZ := hid hbs
   have HG := hid (And.intro aI (And.intro aR aW))
   obtain ⟨i0, hi, hz0, hz1, hz2⟩ := info_parts infoI
   clear hk hown hI LR Q hbs aI aR aW HF
   have hc : (∃ j : Nat, (k : Int) - m = (j : Int) ∧ j < 256) ∨ (k : Int) - m < 0 ∨ 256 ≤ (k : Int) - m := by
    rcases Int.lt_or_le ((k : Int) - m) 0 with h | h
    ·exact .inr (.inl h)
    ·rcases Int.lt_or_le ((k : Int) - m) 256 with h2 | h2
     ·exact .inl ⟨((k : Int) - m).toNat, by omega, by omega⟩
     ·exact .inr (.inr h2)
   rcases hc with ⟨j, hj, hj2⟩ | hc | hc
   ·have HV := hid (HI.out k j hlt hj2 hj)
    have cI : wr.cell? ⟨g, j, none⟩ = some (.int .i64 (bt a j : Int)) := HX.out.cell hj2
    have hj0 : (0 : Int) ≤ (j : Int) := by omega
    have hj1 : (j : Int) < 256 := by omega
    clear HI HO hlt hj2
    go_wp2_with (at_builtin; refine wpList_append_own _ rfl _ _ 93 rfl base 3 i0 (.int .i64 0) 1 8 Tryz.underlying93 hi hz0 hz1 hz2 rfl (by decide) _ _ _ rfl (HRow.out.alloc _) ⟨wr.heap.size, 0, none⟩ 1 1 [.int .i64 (bt a j : Int)] rfl rfl (cell_one _ _ _) (by simp [Value.oneCell']) (by unfold maxLen; have := HK.out; omega) (by have := HK.out; omega) (by have := HZ.out; simp; omega) ?_; intro v' w3 hown' hgrow hnil)
    clear hi hz0 hz1 hz2
    go_wp2
    go_roundw
    case rel =>
     have hxs3 := hgrow.size
     have hzz := HZ.out
     obtain ⟨aI, aR, aW⟩ := HG.out
     have hne := fun (r : Nat) e => ((HRow.out.alloc (.cells #[.int .i64 (bt a j : Int)] 3)).lt r e).1
     refine ⟨k + 1, by simp, by have := HK.out; omega, ?_, ?_, ?_, ?_, by simp at hxs3; omega⟩
     ·rw [rowI_succ, HV.out]; exact hown'
     ·exact (HX.out.alloc _).kept hgrow (fun e => by have := hne _ e.symm; omega)
     ·exact (hgrow.block _ (by have := HLR.out.lt; simp; omega) (fun e => by have := hne _ e.symm; omega)).trans (HLR.out.alloc _)
     ·exact (HQ.out.alloc HQ.out.size _).grown hgrow (by simp; omega) (fun j e => by have := hne j e; omega)
    case measure => have := HK.out; first | (simp [intOf]; done) | (simp [intOf]; omega)
   ·have HV := hid (HO.out k hlt (.inl hc))
    clear HI HO hlt
    go_wp2_with (at_builtin; refine wpList_append_own _ rfl _ _ 93 rfl base 3 i0 (.int .i64 0) 1 8 Tryz.underlying93 hi hz0 hz1 hz2 rfl (by decide) _ _ _ rfl (HRow.out.alloc _) ⟨wr.heap.size, 0, none⟩ 1 1 [.int .i64 s] rfl rfl (cell_one _ _ _) (by simp [Value.oneCell']) (by unfold maxLen; have := HK.out; omega) (by have := HK.out; omega) (by have := HZ.out; simp; omega) ?_; intro v' w3 hown' hgrow hnil)
    clear hi hz0 hz1 hz2
    go_wp2
    go_roundw
    case rel =>
     have hxs3 := hgrow.size
     have hzz := HZ.out
     obtain ⟨aI, aR, aW⟩ := HG.out
     have hne := fun (r : Nat) e => ((HRow.out.alloc (.cells #[.int .i64 s] 3)).lt r e).1
     refine ⟨k + 1, by simp, by have := HK.out; omega, ?_, ?_, ?_, ?_, by simp at hxs3; omega⟩
     ·rw [rowI_succ, HV.out]; exact hown'
     ·exact (HX.out.alloc _).kept hgrow (fun e => by have := hne _ e.symm; omega)
     ·exact (hgrow.block _ (by have := HLR.out.lt; simp; omega) (fun e => by have := hne _ e.symm; omega)).trans (HLR.out.alloc _)
     ·exact (HQ.out.alloc HQ.out.size _).grown hgrow (by simp; omega) (fun j e => by have := hne j e; omega)
    case measure => have := HK.out; first | (simp [intOf]; done) | (simp [intOf]; omega)
   ·have HV := hid (HO.out k hlt (.inr hc))
    clear HI HO hlt
    go_wp2_with (at_builtin; refine wpList_append_own _ rfl _ _ 93 rfl base 3 i0 (.int .i64 0) 1 8 Tryz.underlying93 hi hz0 hz1 hz2 rfl (by decide) _ _ _ rfl (HRow.out.alloc _) ⟨wr.heap.size, 0, none⟩ 1 1 [.int .i64 s] rfl rfl (cell_one _ _ _) (by simp [Value.oneCell']) (by unfold maxLen; have := HK.out; omega) (by have := HK.out; omega) (by have := HZ.out; simp; omega) ?_; intro v' w3 hown' hgrow hnil)
    clear hi hz0 hz1 hz2
    go_wp2
    go_roundw
    case rel =>
     have hxs3 := hgrow.size
     have hzz := HZ.out
     obtain ⟨aI, aR, aW⟩ := HG.out
     have hne := fun (r : Nat) e => ((HRow.out.alloc (.cells #[.int .i64 s] 3)).lt r e).1
     refine ⟨k + 1, by simp, by have := HK.out; omega, ?_, ?_, ?_, ?_, by simp at hxs3; omega⟩
     ·rw [rowI_succ, HV.out]; exact hown'
     ·exact (HX.out.alloc _).kept hgrow (fun e => by have := hne _ e.symm; omega)
     ·exact (hgrow.block _ (by have := HLR.out.lt; simp; omega) (fun e => by have := hne _ e.symm; omega)).trans (HLR.out.alloc _)
     ·exact (HQ.out.alloc HQ.out.size _).grown hgrow (by simp; omega) (fun j e => by have := hne j e; omega)
    case measure => have := HK.out; first | (simp [intOf]; done) | (simp [intOf]; omega)
  ·obtain rfl : k = 256 := by omega
   clear hk hlt HI HO aI aR aW
   rcases hown.2 with ⟨h1, h2⟩ | ⟨g3, cap3, cur, h1, hb, hg, _⟩
   ·cases h1
   ·cases h1
    have hx := IntsAt.of_row (d := fun j => (bt R j : Int)) hown (fun j hj => by simp [rowI, hj])
    have hx := hx.2
    clear hown hb hg hI
    go_wp2_with fail
    refine (HF.out _ _ _ hx).mono ?_
    rintro e v9 ⟨rfl, q⟩
    have LR := LR.later q
    have Q := Q.trans (q.mono Q.size)
    clear q hx HF
    obtain ⟨r0, r1, r2, r3⟩ := c4 LR
    obtain ⟨z0, z1, z2, z3⟩ := f4 LR
    have HR := hid ((s4 LR (lim R)))
    have HQ := hid ((q4 (w.heap.size + 1) Q (show w.heap.size ≤ w.heap.size + 1 by omega) (lim R)))
    clear Q LR
    go_wp2
    refine bodyPost_ret (results_word (m := lim R) rfl rfl HR.out) rfl ⟨rfl, HQ.out⟩
end
end Go.Proofs.YtnkhmgmganejmaaGreatDoor
