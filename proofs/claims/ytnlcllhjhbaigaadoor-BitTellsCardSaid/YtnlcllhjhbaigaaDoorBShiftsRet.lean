/- What BitShifts answers, at all words and numbers. -/
import Derived.Test.YtnlcllhjhbaigaaDoorBShiftsN
import Derived.Test.YtnlcllhjhbaigaaDoorBShiftsP
import Derived.Test.YtnlcllhjhbaigaaDoorBPartsRet
namespace Go.Proofs.YtnlcllhjhbaigaaDoor
open Go Go.RowKit

theorem eqvB (a b : Nat) (ha : W256 a) (hb : W256 b) (h : a ≠ b) : (lim a 0 == lim b 0 && lim a 1 == lim b 1 && lim a 2 == lim b 2 && lim a 3 == lim b 3) = false := by
  refine Bool.eq_false_iff.2 fun e => h ?_
  simp only [Bool.and_eq_true, beq_iff_eq] at e
  exact lim_ext ha hb fun k hk => by
    rcases (show k = 0 ∨ k = 1 ∨ k = 2 ∨ k = 3 by omega) with rfl | rfl | rfl | rfl
    · exact e.1.1.1
    · exact e.1.1.2
    · exact e.1.2
    · exact e.2
theorem P256 : (2 : Nat) ^ 256 = 115792089237316195423570985008687907853269984665640564039457584007913129639936 := by decide
theorem pow_small (x : Nat) (hx : x < 256) : wmod (2 ^ x) = 2 ^ x ∧ W256 (2 ^ x) := by
  have h : 2 ^ x < 2 ^ 256 := Nat.pow_lt_pow_right (by omega) hx
  rw [P256] at h
  exact ⟨Nat.mod_eq_of_lt h, h⟩
theorem wm_twice (a x y : Nat) : wmod (wmod (a * 2 ^ x) * 2 ^ y) = wmod (a * 2 ^ (x + y)) := by
  unfold wmod
  rw [Nat.mod_mul_mod, Nat.pow_add, Nat.mul_assoc]
theorem dv_twice (a x y : Nat) : a / 2 ^ x / 2 ^ y = a / 2 ^ (x + y) := by rw [Nat.div_div_eq_div_mul, Nat.pow_add]
theorem back_shift (a x : Nat) (hx : x < 256) : wmod (a * 2 ^ x) / 2 ^ x = a % 2 ^ (256 - x) := by
  have e : (115792089237316195423570985008687907853269984665640564039457584007913129639936 : Nat) = 2 ^ (256 - x) * 2 ^ x := by rw [← Nat.pow_add, show 256 - x + x = 256 by omega, P256]
  unfold wmod
  rw [e, Nat.mul_mod_mul_right, Nat.mul_div_cancel _ (Nat.two_pow_pos x)]
/-- The sign is the highest bit. -/
theorem half_bit (v : Nat) (hv : W256 v) : v.testBit 255 = decide (S1 ≤ v) := by
  rw [Nat.testBit_eq_decide_div_mod_eq]
  refine decide_eq_decide.2 ?_
  rw [show (2 : Nat) ^ 255 = S1 by decide]
  unfold W256 at hv
  unfold S1
  omega
theorem less_bit (a : Nat) (ha : W256 a) : lessN a 0 = a.testBit 255 := by
  have hx := xor_lt a S1 ha S1_lt
  have hb := half_bit (a ^^^ S1) hx
  rw [Nat.testBit_xor, show S1.testBit 255 = true by decide +kernel, Bool.xor_true] at hb
  unfold lessN wcmp
  rw [Nat.zero_xor]
  generalize a ^^^ S1 = v at *
  by_cases h : S1 ≤ v
  · rw [decide_eq_true h] at hb
    rw [if_neg (by omega)]
    cases ht : a.testBit 255 with
    | true => rw [ht] at hb; cases hb
    | false => split <;> rfl
  · rw [decide_eq_false h] at hb
    rw [if_pos (by omega)]
    cases ht : a.testBit 255 with
    | true => rfl
    | false => rw [ht] at hb; cases hb
theorem m1_255 : M1.testBit 255 = true := by decide +kernel
theorem sar_sign (x a : Nat) (ha : W256 a) : (sarN x a).testBit 255 = a.testBit 255 := by
  unfold sarN
  rw [less_bit a ha]
  have big : ∀ v, W256 v → v.testBit (255 + x) = true → x = 0 := fun v hv h => by
    rcases Nat.eq_zero_or_pos x with h0 | h0
    · exact h0
    · rw [Nat.testBit_lt_two_pow (Nat.lt_of_lt_of_le (show v < 2 ^ 256 by rw [P256]; exact hv) (Nat.pow_le_pow_right (by omega) (by omega)))] at h
      cases h
  cases h : a.testBit 255 with
  | true =>
    rw [if_pos rfl, Nat.testBit_xor, Nat.testBit_div_two_pow, m1_255, Bool.xor_true]
    cases h2 : (a ^^^ M1).testBit (255 + x) with
    | false => rfl
    | true =>
      have h0 := big _ (xor_lt a M1 ha M1_lt) h2
      rw [h0, Nat.add_zero, Nat.testBit_xor, h, m1_255] at h2
      cases h2
  | false =>
    rw [if_neg (by simp), Nat.testBit_div_two_pow]
    cases h2 : a.testBit (255 + x) with
    | false => rfl
    | true =>
      have h0 := big _ ha h2
      rw [h0, Nat.add_zero, h] at h2
      cases h2
theorem sar_twice (x y a : Nat) (ha : W256 a) : sarN y (sarN x a) = sarN (x + y) a := by
  have h1 := sar_sign x a ha
  have h2 := sarN_lt x a ha
  rw [← less_bit a ha, ← less_bit _ h2] at h1
  have e : ∀ v b, sarN b v = if lessN v 0 = true then ((v ^^^ M1) / 2 ^ b) ^^^ M1 else v / 2 ^ b := fun v b => rfl
  rw [e (sarN x a) y, h1, e a x, e a (x + y)]
  split
  · rw [Nat.xor_assoc, Nat.xor_self, Nat.xor_zero, dv_twice]
  · rw [dv_twice]

set_option maxHeartbeats 1000000 in
theorem bitShifts_ret (a : Nat) (m n : Int) (ha : W256 a) (hm : I64 m) (hn : I64 n) : RetT Tryd.prog 4 #[wv a, .int .i64 m, .int .i64 n] (.bool true) := by
  have p1 := pick_ret m hm 256 (by omega) (by omega)
  have p2 := pick_ret n hn 200 (by omega) (by omega)
  have r1 := pickN_range m 256 (by omega)
  have r2 := pickN_range n 200 (by omega)
  obtain ⟨x, ex⟩ := Int.eq_ofNat_of_zero_le r1.1
  obtain ⟨y, ey⟩ := Int.eq_ofNat_of_zero_le r2.1
  rw [ex] at p1 r1
  rw [ey] at p2 r2
  have hx : x < 256 := by omega
  have hy : y < 200 := by omega
  have wx : W256 x := by unfold W256; omega
  have wy : W256 y := by unfold W256; omega
  have wxy : W256 (x + y) := by unfold W256; omega
  have w2 : W256 2 := by unfold W256; omega
  have wd : W256 (256 - x) := by unfold W256; omega
  obtain ⟨hp, wp⟩ := pow_small x hx
  have wU : W256 (wmod (a * 2 ^ x)) := Nat.mod_lt _ (by decide)
  have wD := div_lt a (2 ^ x) ha
  have o2 : Ret Tryd.prog 18 #[.int .i64 2] (.agg #[.int .u64 2, .int .u64 0, .int .u64 0, .int .u64 0]) := (refOf_ret 2 (by unfold I64; omega)).of_eq rfl (wv_small 2 (by omega))
  have ox : Ret Tryd.prog 18 #[.int .i64 (x : Int)] (wv x) := (refOf_ret x (by unfold I64; omega)).of_eq rfl (by rw [ofN_nat])
  have oy : Ret Tryd.prog 18 #[.int .i64 (y : Int)] (wv y) := (refOf_ret y (by unfold I64; omega)).of_eq rfl (by rw [ofN_nat])
  have oz : Ret Tryd.prog 18 #[.int .i64 ((x : Int) + (y : Int))] (wv (x + y)) := (refOf_ret ((x + y : Nat) : Int) (by unfold I64; omega)).of_eq rfl (by rw [ofN_nat])
  have o3 : Ret Tryd.prog 18 #[.int .i64 (256 - (x : Int))] (wv (256 - x)) := (refOf_ret ((256 - x : Nat) : Int) (by unfold I64; omega)).of_eq (by rw [show ((256 - x : Nat) : Int) = 256 - (x : Int) by omega]) (by rw [ofN_nat])
  have exq : Ret Tryd.prog 30 #[.agg #[.int .u64 2, .int .u64 0, .int .u64 0, .int .u64 0], wv x] (wv (2 ^ x)) := (refExp_ret 2 x w2 wx).of_eq (by rw [wv_small 2 (by omega)]; rfl) (by rw [hp])
  have s1 := shl_ret x a wx ha
  have s2 := shr_ret x a wx ha
  have lo : RetT Tryd.prog 22 #[wv x, wv (wmod (a * 2 ^ x))] (wv (a % 2 ^ (256 - x))) := (shr_ret x _ wx wU).of_eq rfl (by rw [back_shift a x hx])
  have hi := shr_ret (256 - x) a wd ha
  have mu : Ret Tryd.prog 31 #[wv a, wv (2 ^ x)] (wv (wmod (a * 2 ^ x))) := refMul_ret a _ ha wp
  have di := refDiv_ret a (2 ^ x) ha wp
  have s3 : RetT Tryd.prog 20 #[wv y, wv (wmod (a * 2 ^ x))] (wv (wmod (a * 2 ^ (x + y)))) := (shl_ret y _ wy wU).of_eq rfl (by rw [wm_twice])
  have s4 := shl_ret (x + y) a wxy ha
  have s5 : RetT Tryd.prog 22 #[wv y, wv (a / 2 ^ x)] (wv (a / 2 ^ (x + y))) := (shr_ret y _ wy wD).of_eq rfl (by rw [dv_twice])
  have s6 := shr_ret (x + y) a wxy ha
  have a1 := sar_ret x a wx ha
  have a2 : RetT Tryd.prog 24 #[wv y, wv (sarN x a)] (wv (sarN (x + y) a)) := (sar_ret y _ wy (sarN_lt x a ha)).of_eq rfl (by rw [sar_twice x y a ha])
  have a3 := sar_ret (x + y) a wxy ha
  by_cases h : a < 2 ^ (256 - x)
  · rw [Nat.mod_eq_of_lt h] at lo
    rw [Nat.div_eq_of_lt h] at hi
    have hi' : RetT Tryd.prog 22 #[wv (256 - x), wv a] (.agg #[.int .u64 0, .int .u64 0, .int .u64 0, .int .u64 0]) := hi.of_eq rfl wv_0
    exact shifts_kept (lim a) (lim x) (lim (2 ^ x)) (lim _) (lim _) (fun _ => 0) (lim (256 - x)) (fun _ => 0) (lim y) (lim _) (lim (x + y)) (lim _) (lim (sarN x a)) (lim (sarN (x + y) a)) m n x y ⟨by omega, by omega⟩ ⟨by omega, by omega⟩ p1 p2 o2 ox exq s1 s2 lo o3 hi' mu di oy s3 oz s4 s5 s6 a1 a2 a3
  · have hl : a % 2 ^ (256 - x) ≠ a := fun e => h (by rw [← e]; exact Nat.mod_lt _ (Nat.two_pow_pos _))
    have hh : a / 2 ^ (256 - x) ≠ 0 := fun e => by
      rcases Nat.div_eq_zero_iff.1 e with e' | e'
      · have := Nat.two_pow_pos (256 - x); omega
      · exact h e'
    have wl : W256 (a % 2 ^ (256 - x)) := Nat.lt_of_le_of_lt (Nat.mod_le _ _) ha
    exact shifts_lost (lim a) (lim x) (lim (2 ^ x)) (lim _) (lim _) (lim _) (lim (256 - x)) (lim _) (lim y) (lim _) (lim (x + y)) (lim _) (lim (sarN x a)) (lim (sarN (x + y) a)) m n x y ⟨by omega, by omega⟩ ⟨by omega, by omega⟩ (eqvB _ _ wl ha hl)
      (by rw [zeroP _ (div_lt a _ ha)]; exact decide_eq_false hh) p1 p2 o2 ox exq s1 s2 lo o3 hi mu di oy s3 oz s4 s5 s6 a1 a2 a3
end Go.Proofs.YtnlcllhjhbaigaaDoor
