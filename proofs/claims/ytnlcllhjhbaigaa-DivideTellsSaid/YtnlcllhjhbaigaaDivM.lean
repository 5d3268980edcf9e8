/- A rest that is doubled, and what is taken off it; the length of numbers: plain arithmetic. -/
import Derived.Test.YtnlcllhjhbaigaaMath
import Derived.Lib.BitFns
import Derived.Lib.ItoaNum
namespace Go.Proofs.Ytnlcllhjhbaigaa
open Go

/-! ### One more bit behind a rest -/
def dcA (r bit : Nat) : Nat → Int
  | 0 => (bit : Int)
  | k + 1 => addN r r k (dcA r bit k)
theorem dcA_bit (r bit : Nat) (hb : bit ≤ 1) : ∀ k, Bit (dcA r bit k)
  | 0 => by unfold Bit dcA; omega
  | k + 1 => addN_bit r r k _ (dcA_bit r bit hb k)
theorem dbl_all (r bit : Nat) (hr : W256 r) (hb : bit ≤ 1) : (∀ k, k < 4 → addO r r k (dcA r bit k) = lim (wmod (2 * r + bit)) k) ∧
    dcA r bit 4 = (((2 * r + bit) / 115792089237316195423570985008687907853269984665640564039457584007913129639936 : Nat) : Int) := by
  have e := num_lim r hr
  have k0 : addO r r 0 (dcA r bit 0) + 18446744073709551616 * dcA r bit 1 = lim r 0 + lim r 0 + dcA r bit 0 := add_step ..
  have k1 : addO r r 1 (dcA r bit 1) + 18446744073709551616 * dcA r bit 2 = lim r 1 + lim r 1 + dcA r bit 1 := add_step ..
  have k2 : addO r r 2 (dcA r bit 2) + 18446744073709551616 * dcA r bit 3 = lim r 2 + lim r 2 + dcA r bit 2 := add_step ..
  have k3 : addO r r 3 (dcA r bit 3) + 18446744073709551616 * dcA r bit 4 = lim r 3 + lim r 3 + dcA r bit 3 := add_step ..
  have h0 : dcA r bit 0 = (bit : Int) := rfl
  obtain ⟨z, hz⟩ : ∃ z : Nat → Int, z = fun k => addO r r k (dcA r bit k) := ⟨_, rfl⟩
  have z0 : z 0 = addO r r 0 (dcA r bit 0) := by rw [hz]
  have z1 : z 1 = addO r r 1 (dcA r bit 1) := by rw [hz]
  have z2 : z 2 = addO r r 2 (dcA r bit 2) := by rw [hz]
  have z3 : z 3 = addO r r 3 (dcA r bit 3) := by rw [hz]
  have u : ∀ k, U64 (z k) := fun k => by rw [hz]; exact addO_u64 ..
  obtain ⟨n0, n1⟩ := num_lt z (u 0) (u 1) (u 2) (u 3)
  have key : num z + 115792089237316195423570985008687907853269984665640564039457584007913129639936 * dcA r bit 4 = ((2 * r + bit : Nat) : Int) := by
    have e2 : ((2 * r + bit : Nat) : Int) = (r : Int) + (r : Int) + (bit : Int) := by omega
    rw [e2, ← e, ← h0]
    rw [← z0] at k0; rw [← z1] at k1; rw [← z2] at k2; rw [← z3] at k3
    unfold num
    clear e e2 h0 hz z0 z1 z2 z3 u n0 n1
    omega
  have hq : num z = ((wmod (2 * r + bit) : Nat) : Int) ∧ dcA r bit 4 = (((2 * r + bit) / 115792089237316195423570985008687907853269984665640564039457584007913129639936 : Nat) : Int) := by
    unfold wmod
    clear e k0 k1 k2 k3 z0 z1 z2 z3 u h0 hz
    generalize num z = x at *
    generalize dcA r bit 4 = c at *
    generalize 2 * r + bit = N at *
    constructor <;> omega
  refine ⟨fun k hk => ?_, hq.2⟩
  obtain ⟨l0, l1, l2, l3⟩ := lim_num z _ (u 0) (u 1) (u 2) (u 3) hq.1
  rcases (show k = 0 ∨ k = 1 ∨ k = 2 ∨ k = 3 by omega) with rfl | rfl | rfl | rfl
  · rw [l0, z0]
  · rw [l1, z1]
  · rw [l2, z2]
  · rw [l3, z3]

/-! ### What is taken off -/
def sbA (t b : Nat) : Nat → Int
  | 0 => 0
  | k + 1 => subN t b k (sbA t b k)
theorem sbA_bit (t b : Nat) : ∀ k, Bit (sbA t b k)
  | 0 => bit_zero
  | k + 1 => subN_bit t b k _
theorem sub_all (t b : Nat) (ht : W256 t) (hb : W256 b) : (∀ k, k < 4 → subO t b k (sbA t b k) = lim (wsub t b) k) ∧ sbA t b 4 = if t < b then 1 else 0 := by
  have et := num_lim t ht
  have eb := num_lim b hb
  have st : ∀ k, subO t b k (sbA t b k) = lim t k - lim b k - sbA t b k + 18446744073709551616 * sbA t b (k + 1) := fun k => sub_step _ _ _ (lim_u64 t k) (lim_u64 b k) (sbA_bit t b k)
  have k0 : subO t b 0 (sbA t b 0) = lim t 0 - lim b 0 - sbA t b 0 + 18446744073709551616 * sbA t b 1 := st 0
  have k1 : subO t b 1 (sbA t b 1) = lim t 1 - lim b 1 - sbA t b 1 + 18446744073709551616 * sbA t b 2 := st 1
  have k2 : subO t b 2 (sbA t b 2) = lim t 2 - lim b 2 - sbA t b 2 + 18446744073709551616 * sbA t b 3 := st 2
  have k3 : subO t b 3 (sbA t b 3) = lim t 3 - lim b 3 - sbA t b 3 + 18446744073709551616 * sbA t b 4 := st 3
  have h0 : sbA t b 0 = 0 := rfl
  rw [h0] at k0
  obtain ⟨z, hz⟩ : ∃ z : Nat → Int, z = fun k => subO t b k (sbA t b k) := ⟨_, rfl⟩
  have z0 : z 0 = subO t b 0 (sbA t b 0) := by rw [hz]
  have z1 : z 1 = subO t b 1 (sbA t b 1) := by rw [hz]
  have z2 : z 2 = subO t b 2 (sbA t b 2) := by rw [hz]
  have z3 : z 3 = subO t b 3 (sbA t b 3) := by rw [hz]
  rw [h0] at z0
  have u : ∀ k, U64 (z k) := fun k => by rw [hz]; exact subO_u64 ..
  obtain ⟨n0, n1⟩ := num_lt z (u 0) (u 1) (u 2) (u 3)
  have hbit := sbA_bit t b 4
  have key : num z = (t : Int) - (b : Int) + 115792089237316195423570985008687907853269984665640564039457584007913129639936 * sbA t b 4 := by
    rw [← et, ← eb]
    rw [← z0] at k0; rw [← z1] at k1; rw [← z2] at k2; rw [← z3] at k3
    unfold num
    clear et eb hz z0 z1 z2 z3 u n0 n1 hbit st
    omega
  have hq : num z = ((wsub t b : Nat) : Int) ∧ sbA t b 4 = if t < b then 1 else 0 := by
    unfold wsub wmod
    unfold Bit at hbit
    unfold W256 at ht hb
    clear et eb k0 k1 k2 k3 z0 z1 z2 z3 u st h0 hz
    generalize num z = x at *
    generalize sbA t b 4 = c at *
    by_cases h : t < b
    · rw [if_pos h]; constructor <;> omega
    · rw [if_neg h]; constructor <;> omega
  refine ⟨fun k hk => ?_, hq.2⟩
  obtain ⟨l0, l1, l2, l3⟩ := lim_num z _ (u 0) (u 1) (u 2) (u 3) hq.1
  rcases (show k = 0 ∨ k = 1 ∨ k = 2 ∨ k = 3 by omega) with rfl | rfl | rfl | rfl
  · rw [l0, z0]; rfl
  · rw [l1, z1]
  · rw [l2, z2]
  · rw [l3, z3]
/-- The rest behind one more bit. -/
def bdR (r b bit : Nat) : Nat := if b ≤ 2 * r + bit then 2 * r + bit - b else 2 * r + bit
theorem bd_short (r b bit : Nat) (hb : W256 b) (hr : r < b) (h1 : bit ≤ 1) (h : ¬ b ≤ 2 * r + bit) : wmod (2 * r + bit) = bdR r b bit ∧ dcA r bit 4 < sbA (wmod (2 * r + bit)) b 4 := by
  have hr' : W256 r := by unfold W256 at *; omega
  have e := (dbl_all r bit hr' h1).2
  have e2 := (sub_all (wmod (2 * r + bit)) b (wmod_lt _) hb).2
  rw [e, e2]
  unfold bdR
  rw [if_neg h]
  unfold W256 at hb
  have e3 : wmod (2 * r + bit) = 2 * r + bit := by unfold wmod; omega
  rw [e3, if_pos (by omega)]
  exact ⟨rfl, by omega⟩
theorem bd_long (r b bit : Nat) (hb : W256 b) (hr : r < b) (h1 : bit ≤ 1) (h : b ≤ 2 * r + bit) : wsub (wmod (2 * r + bit)) b = bdR r b bit ∧ ¬ dcA r bit 4 < sbA (wmod (2 * r + bit)) b 4 := by
  have hr' : W256 r := by unfold W256 at *; omega
  have e := (dbl_all r bit hr' h1).2
  have e2 := (sub_all (wmod (2 * r + bit)) b (wmod_lt _) hb).2
  rw [e, e2]
  unfold bdR
  rw [if_pos h]
  unfold W256 at hb
  constructor
  · unfold wsub wmod; omega
  · unfold wmod
    split <;> omega
theorem bdR_lt (r b bit : Nat) (hr : r < b) (h1 : bit ≤ 1) : bdR r b bit < b := by unfold bdR; split <;> omega
/-- A rest of a number, brought down by one more bit. -/
theorem bd_mod (N b : Nat) (hb : 0 < b) (k : Nat) : bdR (N / 2 ^ (k + 1) % b) b (N / 2 ^ k % 2) = N / 2 ^ k % b ∧ (b ≤ 2 * (N / 2 ^ (k + 1) % b) + N / 2 ^ k % 2 ↔ N / 2 ^ k / b = 2 * (N / 2 ^ (k + 1) / b) + 1) ∧
    (¬ b ≤ 2 * (N / 2 ^ (k + 1) % b) + N / 2 ^ k % 2 ↔ N / 2 ^ k / b = 2 * (N / 2 ^ (k + 1) / b)) := by
  have e : N / 2 ^ (k + 1) = N / 2 ^ k / 2 := by rw [Nat.pow_succ, Nat.div_div_eq_div_mul]
  rw [e]
  generalize N / 2 ^ k = M
  have h1 := Nat.div_add_mod (M / 2) b
  have h2 := Nat.mod_lt (M / 2) hb
  have h3 := Nat.div_add_mod M 2
  generalize M / 2 / b = q at *
  generalize M / 2 % b = r at *
  have hM : M = b * (2 * q) + (2 * r + M % 2) := by
    have : 2 * (b * q + r) + M % 2 = M := by rw [h1]; omega
    rw [Nat.mul_add] at this
    rw [Nat.mul_left_comm]
    omega
  have hbit : M % 2 < 2 := Nat.mod_lt _ (by decide)
  generalize M % 2 = c at *
  by_cases h : b ≤ 2 * r + c
  · have hM2 : M = (2 * r + c - b) + b * (2 * q + 1) := by rw [Nat.mul_add, Nat.mul_one]; omega
    have hd : M / b = 2 * q + 1 := by rw [hM2, Nat.add_mul_div_left _ _ hb, Nat.div_eq_of_lt (by omega), Nat.zero_add]
    have hm : M % b = 2 * r + c - b := by rw [hM2, Nat.add_mul_mod_self_left, Nat.mod_eq_of_lt (by omega)]
    unfold bdR
    rw [if_pos h, hd, hm]
    exact ⟨rfl, ⟨fun _ => rfl, fun _ => h⟩, ⟨fun h' => absurd h h', fun h' => by omega⟩⟩
  · have hM2 : M = (2 * r + c) + b * (2 * q) := by omega
    have hd : M / b = 2 * q := by rw [hM2, Nat.add_mul_div_left _ _ hb, Nat.div_eq_of_lt (by omega), Nat.zero_add]
    have hm : M % b = 2 * r + c := by rw [hM2, Nat.add_mul_mod_self_left, Nat.mod_eq_of_lt (by omega)]
    unfold bdR
    rw [if_neg h, hd, hm]
    exact ⟨rfl, ⟨fun h' => absurd h' h, fun h' => by omega⟩, ⟨fun _ => rfl, fun _ => h⟩⟩

/-! ### Lengths -/
/-- L is how many bits N has. -/
def LenOk (N L : Nat) : Prop := N < 2 ^ L ∧ (N = 0 → L = 0) ∧ (N ≠ 0 → 1 ≤ L ∧ 2 ^ (L - 1) ≤ N)
theorem lenOk_zero : LenOk 0 0 := ⟨by decide, fun _ => rfl, fun h => absurd rfl h⟩
theorem lenOk_part (N p x : Nat) (hx : x < 18446744073709551616) (h0 : x ≠ 0) (hN : N / 18446744073709551616 ^ p = x) : LenOk N (p * 64 + Lib.bitLen x) := by
  obtain ⟨h1, h2, h3⟩ := Lib.bitLenAux_bounds 64 x hx h0
  have e : 2 ^ (p * 64) = 18446744073709551616 ^ p := by rw [Nat.mul_comm, Nat.pow_mul]
  have hp : 0 < 18446744073709551616 ^ p := Nat.pow_pos (by decide)
  have g1 : x * 18446744073709551616 ^ p ≤ N := by rw [← hN]; exact Nat.div_mul_le_self _ _
  have g2 : N < (x + 1) * 18446744073709551616 ^ p := by
    rw [← hN]
    exact (Nat.div_lt_iff_lt_mul hp).1 (Nat.lt_succ_self _)
  unfold Lib.bitLen
  generalize Lib.bitLenAux 64 x = L at *
  refine ⟨?_, fun h => ?_, fun _ => ⟨by omega, ?_⟩⟩
  · rw [Nat.pow_add, e, Nat.mul_comm]
    exact Nat.lt_of_lt_of_le g2 (Nat.mul_le_mul_right _ h3)
  · subst h
    rw [Nat.zero_div] at hN
    exact absurd hN.symm h0
  · rw [show p * 64 + L - 1 = p * 64 + (L - 1) by omega, Nat.pow_add, e, Nat.mul_comm]
    exact Nat.le_trans (Nat.mul_le_mul_right _ h2) g1
theorem lenOk_low (N b La Lb : Nat) (hb : b ≠ 0) (ha : LenOk N La) (hl : LenOk b Lb) : N / 2 ^ (La + 1 - Lb) < b := by
  obtain ⟨g1, g2⟩ := hl.2.2 hb
  have h1 := ha.1
  by_cases h : La + 1 ≤ Lb
  · rw [show La + 1 - Lb = 0 by omega, Nat.pow_zero, Nat.div_one]
    have : 2 ^ La ≤ 2 ^ (Lb - 1) := Nat.pow_le_pow_right (by decide) (by omega)
    omega
  · refine Nat.lt_of_lt_of_le ?_ g2
    rw [Nat.div_lt_iff_lt_mul (Nat.pow_pos (by decide)), ← Nat.pow_add, show Lb - 1 + (La + 1 - Lb) = La by omega]
    exact h1
end Go.Proofs.Ytnlcllhjhbaigaa
