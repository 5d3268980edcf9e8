/- What BitSigned answers, at all words and numbers. -/
import Derived.Test.YtfnhjnjklibkhaaDoorBSignedN
import Derived.Test.YtfnhjnjklibkhaaDoorBSignedP
import Derived.Test.YtfnhjnjklibkhaaDoorBApartRet
namespace Go.Proofs.YtfnhjnjklibkhaaDoor
open Go Go.RowKit

theorem top_bit (a : Nat) (ha : W256 a) : a.testBit 255 = decide (S1 ≤ a) := by
  rw [Nat.testBit_eq_decide_div_mod_eq]
  refine decide_eq_decide.2 ?_
  rw [show (2 : Nat) ^ 255 = S1 by decide]
  unfold W256 at ha
  unfold S1
  omega
theorem and_pow (a n : Nat) : a &&& 2 ^ n = (a.testBit n).toNat * 2 ^ n := by
  refine Nat.eq_of_testBit_eq fun i => ?_
  rw [Nat.testBit_and, Nat.testBit_two_pow]
  cases h : a.testBit n with
  | false =>
    simp only [Bool.toNat_false, Nat.zero_mul, Nat.zero_testBit]
    by_cases e : n = i
    · subst e; rw [h]; rfl
    · rw [decide_eq_false e, Bool.and_false]
  | true =>
    simp only [Bool.toNat_true, Nat.one_mul]
    rw [Nat.testBit_two_pow]
    by_cases e : n = i
    · subst e; rw [h]; simp
    · rw [decide_eq_false e, Bool.and_false]
theorem xor_S1 (a : Nat) (ha : W256 a) : a ^^^ S1 = if S1 ≤ a then a - S1 else a + S1 := by
  have h := xor_and_add a S1
  have e : a &&& S1 = (a.testBit 255).toNat * S1 := by
    rw [show S1 = 2 ^ 255 by decide]
    exact and_pow a 255
  rw [e, top_bit a ha] at h
  split
  · rename_i hs
    rw [decide_eq_true hs] at h
    simp only [Bool.toNat_true] at h
    omega
  · rename_i hs
    rw [decide_eq_false hs] at h
    simp only [Bool.toNat_false] at h
    omega
theorem less_zero (a : Nat) (ha : W256 a) : lessN a 0 = decide (S1 ≤ a) := by
  unfold lessN wcmp
  rw [xor_S1 a ha, xor_S1 0 (by unfold W256; omega)]
  unfold W256 at ha
  by_cases h : S1 ≤ a
  · rw [if_pos h, if_neg (show ¬ S1 ≤ 0 by unfold S1; omega), if_pos (by unfold S1 at *; omega), decide_eq_true h]; rfl
  · rw [if_neg h, if_neg (show ¬ S1 ≤ 0 by unfold S1; omega), if_neg (by omega), decide_eq_false h]
    split <;> rfl
theorem top_lim (a : Nat) (ha : W256 a) : decide (9223372036854775808 ≤ lim a 3) = decide (S1 ≤ a) := by
  refine decide_eq_decide.2 ?_
  rw [lim_ln a 3 (by omega)]
  unfold ln S1
  unfold W256 at ha
  rw [show (2 : Nat) ^ (64 * 3) = 6277101735386680763835789423207666416102355444464034512896 by decide, show (2 : Nat) ^ 64 = 18446744073709551616 by decide]
  omega

theorem sar_bits (a k : Nat) (ha : W256 a) : ((a ^^^ M1) / 2 ^ k) ^^^ M1 = a / 2 ^ k ||| (M1 / 2 ^ k ^^^ M1) := by
  refine Nat.eq_of_testBit_eq fun i => ?_
  have h1 := bit_M1 a ha (i + k)
  have h2 : M1.testBit (i + k) = true → M1.testBit i = true := fun h => by
    rw [M1_bit, decide_eq_true_eq] at h ⊢; omega
  simp only [Nat.testBit_xor, Nat.testBit_or, Nat.testBit_div_two_pow]
  generalize a.testBit (i + k) = x at *
  generalize M1.testBit (i + k) = m at *
  generalize M1.testBit i = p at *
  cases x <;> cases m <;> cases p <;> simp_all

theorem wv_31 : wv 31 = .agg #[.int .u64 31, .int .u64 0, .int .u64 0, .int .u64 0] := wv_of ⟨by decide, by decide, by decide, by decide⟩
theorem bitSigned_ret (a b : Nat) (n : Int) (ha : W256 a) (hb : W256 b) (hn : I64 n) : RetT Tryd.prog 8 #[wv a, wv b, .int .i64 n] (.bool true) := by
  have hp := pickN_range n 256 (by omega)
  have g := pick_ret n hn 256 (by omega) (by omega)
  obtain ⟨k, ek⟩ := Int.eq_ofNat_of_zero_le hp.1
  rw [ek] at g hp
  have wk : W256 k := by unfold W256; omega
  have w0 : W256 0 := by unfold W256; omega
  have w31 : W256 31 := by unfold W256; omega
  have o1 : Ret Tryd.prog 21 #[.int .i64 (k : Int)] (wv k) := (refOf_ret k (by unfold I64; omega)).of_eq rfl (by rw [ofN_nat])
  have o2 : Ret Tryd.prog 21 #[.int .i64 31] (.agg #[.int .u64 31, .int .u64 0, .int .u64 0, .int .u64 0]) := (refOf_ret 31 (by unfold I64; omega)).of_eq rfl wv_31
  have n1 : Ret Tryd.prog 17 #[.agg #[.int .u64 0, .int .u64 0, .int .u64 0, .int .u64 0]] (wv M1) := (not_ret 0 w0).of_eq (by rw [wv_0]) (by rw [Nat.zero_xor])
  have h1 := shr_ret k M1 wk M1_lt
  have l1 := less_ret a b ha hb
  have x1 : Ret Tryd.prog 15 #[wv a, .agg #[.int .u64 0, .int .u64 0, .int .u64 0, .int .u64 9223372036854775808]] (wv (a ^^^ S1)) := (xor_ret a S1 ha S1_lt).of_eq (by rw [wv_S1]) rfl
  have x2 : Ret Tryd.prog 15 #[wv b, .agg #[.int .u64 0, .int .u64 0, .int .u64 0, .int .u64 9223372036854775808]] (wv (b ^^^ S1)) := (xor_ret b S1 hb S1_lt).of_eq (by rw [wv_S1]) rfl
  have c1 := refCmp_ret _ _ (xor_lt a S1 ha S1_lt) (xor_lt b S1 hb S1_lt)
  have g1 : RetT Tryd.prog 31 #[.agg #[.int .u64 31, .int .u64 0, .int .u64 0, .int .u64 0], wv a] (wv a) := (sign_ret 31 a w31 ha).of_eq (by rw [wv_31]) rfl
  have l2 : Ret Tryd.prog 19 #[wv a, .agg #[.int .u64 0, .int .u64 0, .int .u64 0, .int .u64 0]] (.bool (decide (S1 ≤ a))) := (less_ret a 0 ha w0).of_eq (by rw [wv_0]) (by rw [less_zero a ha])
  have s1 := sar_ret k a wk ha
  have h2 := shr_ret k a wk ha
  unfold sarN at s1
  rw [less_zero a ha] at s1
  by_cases h : S1 ≤ a
  · rw [decide_eq_true h] at l2 s1
    rw [if_pos rfl, sar_bits a k ha] at s1
    have n2 := not_ret (M1 / 2 ^ k) (div_lt _ _ M1_lt)
    have q1 := or_ret _ _ (div_lt a (2 ^ k) ha) (xor_lt (M1 / 2 ^ k) M1 (div_lt _ _ M1_lt) M1_lt)
    exact signed_neg (lim a) (lim b) (lim k) (lim _) (lim M1) (lim _) (lim _) (lim _) (lim _) (lim _) k n _ (by rw [top_lim a ha]; exact decide_eq_true h) o1 s1 n1 h1 l1 x1 x2 c1 o2 g1 l2 g h2 n2 q1
  · rw [decide_eq_false h] at l2 s1
    rw [if_neg (by simp)] at s1
    exact signed_pos (lim a) (lim b) (lim k) (lim _) (lim M1) (lim _) (lim _) (lim _) (fun _ => 0) (fun _ => 0) k n _ (by rw [top_lim a ha]; exact decide_eq_false h) o1 s1 n1 h1 l1 x1 x2 c1 o2 g1 l2 g h2
end Go.Proofs.YtfnhjnjklibkhaaDoor
