/- The bits of a word whose sign goes on from a byte. -/
import Derived.Test.YtnlcllhjhbaigaaDoorBShiftsRet
namespace Go.Proofs.YtnlcllhjhbaigaaDoor
open Go Go.RowKit

theorem bit_far (a z : Nat) (ha : W256 a) (hz : 256 ≤ z) : a.testBit z = false :=
  Nat.testBit_lt_two_pow (Nat.lt_of_lt_of_le (show a < 2 ^ 256 by rw [P256]; exact ha) (Nat.pow_le_pow_right (by omega) hz))
theorem ext256 {a b : Nat} (ha : W256 a) (hb : W256 b) (h : ∀ z, z < 256 → a.testBit z = b.testBit z) : a = b :=
  Nat.eq_of_testBit_eq fun z => by
    rcases Nat.lt_or_ge z 256 with hz | hz
    · exact h z hz
    · rw [bit_far a z ha hz, bit_far b z hb hz]
theorem m1_bit (z : Nat) (hz : z < 256) : M1.testBit z = true := by
  rw [show M1 = 2 ^ 256 - 1 by decide, Nat.testBit_two_pow_sub_one, decide_eq_true hz]
theorem sar_bit (b a z : Nat) (ha : W256 a) (hz : z < 256) : (sarN b a).testBit z = if z + b < 256 then a.testBit (z + b) else a.testBit 255 := by
  unfold sarN
  rw [less_bit a ha]
  have hx := xor_lt a M1 ha M1_lt
  cases h : a.testBit 255 with
  | true =>
    rw [if_pos rfl, Nat.testBit_xor, Nat.testBit_div_two_pow, m1_bit z hz]
    split
    · rename_i hl
      rw [Nat.testBit_xor, m1_bit _ hl]
      cases a.testBit (z + b) <;> rfl
    · rw [bit_far _ _ hx (by omega)]; rfl
  | false =>
    rw [if_neg (by simp), Nat.testBit_div_two_pow]
    split
    · rfl
    · exact bit_far _ _ ha (by omega)
theorem shl_bit (a s z : Nat) (hz : z < 256) : (wmod (a * 2 ^ s)).testBit z = (decide (s ≤ z) && a.testBit (z - s)) := by
  unfold wmod
  rw [← P256, Nat.testBit_mod_two_pow, decide_eq_true hz, Bool.true_and, Nat.mul_comm, Nat.testBit_two_pow_mul]
theorem sign_bit (i a z : Nat) (ha : W256 a) (hz : z < 256) : (signN i a).testBit z = a.testBit (min z (8 * i + 7)) := by
  unfold signN
  split
  · rename_i hi
    rw [sar_bit _ _ z (show W256 (wmod (a * 2 ^ (256 - 8 * (i + 1)))) from Nat.mod_lt _ (by decide)) hz]
    split
    · rename_i hl
      rw [shl_bit _ _ _ hl, decide_eq_true (by omega), Bool.true_and]
      congr 1
      omega
    · rw [shl_bit _ _ _ (by omega), decide_eq_true (by omega), Bool.true_and]
      congr 1
      omega
  · congr 1
    omega
theorem sign_twice (i a : Nat) (ha : W256 a) : signN i (signN i a) = signN i a := by
  have h := signN_lt i a ha
  refine ext256 (signN_lt i _ h) h fun z hz => ?_
  rw [sign_bit i _ z h hz, sign_bit i a _ ha (by omega), sign_bit i a z ha hz]
  congr 1
  omega
theorem sign_127 (i a : Nat) (ha : W256 a) : signN i a &&& 127 = a &&& 127 := by
  have h := signN_lt i a ha
  have w127 : W256 127 := by unfold W256; omega
  refine ext256 (and_lt _ _ w127) (and_lt _ _ w127) fun z hz => ?_
  rw [Nat.testBit_and, Nat.testBit_and]
  rcases Nat.lt_or_ge z 7 with h7 | h7
  · rw [sign_bit i a z ha hz, Nat.min_eq_left (by omega)]
  · rw [show (127 : Nat) = 2 ^ 7 - 1 from rfl, Nat.testBit_two_pow_sub_one, decide_eq_false (by omega), Bool.and_false, Bool.and_false]
/-- A small number's word is the same bit from the eighth one on. -/
theorem small_bit (v : Int) (hv : -128 ≤ v ∧ v < 128) (p z : Nat) (hp : 7 ≤ p) (hpz : p ≤ z) (hz : z < 256) : (ofN v).testBit p = (ofN v).testBit z := by
  rcases Int.lt_or_le v 0 with h | h
  · have e : ofN v = (-v - 1).toNat ^^^ M1 := by
      have ht : (-v - 1).toNat < 2 ^ 7 := by omega
      have hs : (-v - 1).toNat ^^^ M1 = M1 - (-v - 1).toNat := by
        refine ext256 (xor_lt _ _ (by unfold W256; omega) M1_lt) (by unfold W256 M1; omega) fun y hy => ?_
        rw [Nat.testBit_xor, m1_bit y hy, show M1 = 2 ^ 256 - 1 by decide, show 2 ^ 256 - 1 - (-v - 1).toNat = 2 ^ 256 - ((-v - 1).toNat + 1) by omega, Nat.testBit_two_pow_sub_succ (by rw [P256]; omega), decide_eq_true hy]
        cases (-v - 1).toNat.testBit y <;> rfl
      rw [hs]
      unfold ofN
      rw [if_pos h]
      unfold M1
      omega
    have ht : ∀ y, 7 ≤ y → (-v - 1).toNat.testBit y = false := fun y hy => Nat.testBit_lt_two_pow (Nat.lt_of_lt_of_le (show (-v - 1).toNat < 2 ^ 7 by omega) (Nat.pow_le_pow_right (by omega) hy))
    rw [e, Nat.testBit_xor, Nat.testBit_xor, m1_bit p (by omega), m1_bit z hz, ht p hp, ht z (by omega)]
  · have ht : ∀ y, 7 ≤ y → (ofN v).testBit y = false := fun y hy => Nat.testBit_lt_two_pow (Nat.lt_of_lt_of_le (show ofN v < 2 ^ 7 by unfold ofN; rw [if_neg (by omega)]; omega) (Nat.pow_le_pow_right (by omega) hy))
    rw [ht p hp, ht z (by omega)]
theorem ofN_w (v : Int) (hv : -128 ≤ v ∧ v < 128) : W256 (ofN v) := by
  unfold ofN W256
  split <;> omega
theorem sign_small (i : Nat) (v : Int) (hv : -128 ≤ v ∧ v < 128) : signN i (ofN v) = ofN v := by
  have hw := ofN_w v hv
  refine ext256 (signN_lt i _ hw) hw fun z hz => ?_
  rw [sign_bit i _ z hw hz]
  rcases Nat.le_total z (8 * i + 7) with h | h
  · rw [Nat.min_eq_left h]
  · rw [Nat.min_eq_right h]
    exact small_bit v hv _ z (by omega) h hz
theorem sign_same (i a : Nat) (h : 31 ≤ i) : signN i a = a := by unfold signN; rw [if_neg (by omega)]
end Go.Proofs.YtnlcllhjhbaigaaDoor
