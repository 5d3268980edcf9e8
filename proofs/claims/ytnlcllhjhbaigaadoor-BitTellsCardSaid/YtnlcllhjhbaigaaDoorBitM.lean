/- Words bit by bit, in numbers: what the parts of a bitwise result are. -/
import Derived.Test.YtnlcllhjhbaigaaDoorMath
import Derived.Laws.Bits64b
import Derived.Laws.BitsAll
namespace Go.Proofs.YtnlcllhjhbaigaaDoor
open Go Go.RowKit

/-- A part of a number, as a number. -/
def ln (n k : Nat) : Nat := n / 2 ^ (64 * k) % 2 ^ 64
theorem ln_lt (n k : Nat) : ln n k < 18446744073709551616 := Nat.mod_lt _ (by decide)
theorem lim_ln (n k : Nat) (hk : k < 4) : lim n k = (ln n k : Int) := by
  rcases (show k = 0 ∨ k = 1 ∨ k = 2 ∨ k = 3 by omega) with rfl | rfl | rfl | rfl <;> unfold lim ln <;> simp
theorem ln_bit (n k i : Nat) : (ln n k).testBit i = (decide (i < 64) && n.testBit (64 * k + i)) := by
  unfold ln
  rw [Nat.testBit_mod_two_pow, Nat.testBit_div_two_pow, Nat.add_comm i]
theorem ln_and (a b k : Nat) : ln (a &&& b) k = ln a k &&& ln b k := by
  refine Nat.eq_of_testBit_eq fun i => ?_
  rw [Nat.testBit_and, ln_bit, ln_bit, ln_bit, Nat.testBit_and]
  cases decide (i < 64) <;> simp
theorem ln_or (a b k : Nat) : ln (a ||| b) k = ln a k ||| ln b k := by
  refine Nat.eq_of_testBit_eq fun i => ?_
  rw [Nat.testBit_or, ln_bit, ln_bit, ln_bit, Nat.testBit_or]
  cases decide (i < 64) <;> simp
theorem ln_xor (a b k : Nat) : ln (a ^^^ b) k = ln a k ^^^ ln b k := by
  refine Nat.eq_of_testBit_eq fun i => ?_
  rw [Nat.testBit_xor, ln_bit, ln_bit, ln_bit, Nat.testBit_xor]
  cases decide (i < 64) <;> simp
theorem w256_pow (n : Nat) : W256 n ↔ n < 2 ^ 256 := by unfold W256; rw [show (2 : Nat) ^ 256 = 115792089237316195423570985008687907853269984665640564039457584007913129639936 by decide]
theorem and_lt (a b : Nat) (hb : W256 b) : W256 (a &&& b) := (w256_pow _).2 (Nat.and_lt_two_pow _ ((w256_pow b).1 hb))
theorem or_lt (a b : Nat) (ha : W256 a) (hb : W256 b) : W256 (a ||| b) := (w256_pow _).2 (Nat.or_lt_two_pow ((w256_pow a).1 ha) ((w256_pow b).1 hb))
theorem xor_lt (a b : Nat) (ha : W256 a) (hb : W256 b) : W256 (a ^^^ b) := (w256_pow _).2 (Nat.xor_lt_two_pow ((w256_pow a).1 ha) ((w256_pow b).1 hb))
theorem bits_and_lim (a b k : Nat) (hk : k < 4) : bits .and .u64 (lim a k) (lim b k) = lim (a &&& b) k := by
  rw [lim_ln _ _ hk, lim_ln _ _ hk, lim_ln _ _ hk, ln_and]
  exact bits_and_u64_nat _ _ (ln_lt _ _) (ln_lt _ _)
theorem bits_or_lim (a b k : Nat) (hk : k < 4) : bits .or .u64 (lim a k) (lim b k) = lim (a ||| b) k := by
  rw [lim_ln _ _ hk, lim_ln _ _ hk, lim_ln _ _ hk, ln_or]
  exact bits_or_u64_nat _ _ (ln_lt _ _) (ln_lt _ _)
theorem bits_xor_lim (a b k : Nat) (hk : k < 4) : bits .xor .u64 (lim a k) (lim b k) = lim (a ^^^ b) k := by
  have hx : ln a k ^^^ ln b k < 2 ^ 64 := Nat.xor_lt_two_pow (ln_lt a k) (ln_lt b k)
  rw [lim_ln _ _ hk, lim_ln _ _ hk, lim_ln _ _ hk, ln_xor]
  have e := u64_xor (ln a k) (ln b k) (by omega) (by have := ln_lt a k; omega) (by omega) (by have := ln_lt b k; omega)
  rw [e, Int.toNat_natCast, Int.toNat_natCast]
end Go.Proofs.YtnlcllhjhbaigaaDoor
