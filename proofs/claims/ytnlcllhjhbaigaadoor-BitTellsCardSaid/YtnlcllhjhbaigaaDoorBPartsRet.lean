/- What BitParts answers, at all words. -/
import Derived.Test.YtnlcllhjhbaigaaDoorBParts
import Derived.Test.YtnlcllhjhbaigaaDoorPick
namespace Go.Proofs.YtnlcllhjhbaigaaDoor
open Go Go.RowKit

theorem pt_step (a k : Nat) : a % 2 ^ k ||| (a / 2 ^ k % 2) * 2 ^ k = a % 2 ^ (k + 1) := by
  rw [Nat.mod_pow_succ, Nat.or_comm, Nat.mul_comm, ← Nat.two_pow_add_eq_or_of_lt (Nat.mod_lt _ (Nat.two_pow_pos k)), Nat.add_comm]
theorem wv_small (k : Nat) (hk : k < 18446744073709551616) : wv k = .agg #[.int .u64 (k : Int), .int .u64 0, .int .u64 0, .int .u64 0] := by
  have h0 : lim k 0 = (k : Int) := by rw [lim_ln k 0 (by omega)]; unfold ln; rw [Nat.mul_zero, Nat.pow_zero, Nat.div_one, Nat.mod_eq_of_lt (show k < 2 ^ 64 from hk)]
  have hz : ∀ j, 0 < j → j < 4 → lim k j = 0 := fun j h1 h2 => by
    rw [lim_ln k j h2]; unfold ln
    rw [Nat.div_eq_of_lt (Nat.lt_of_lt_of_le (show k < 2 ^ 64 from hk) (Nat.pow_le_pow_right (by omega) (by omega)))]
    rfl
  unfold wv
  rw [h0, hz 1 (by omega) (by omega), hz 2 (by omega) (by omega), hz 3 (by omega) (by omega)]
theorem and_one' (x : Nat) : x &&& 1 = x % 2 := by simp
theorem bitParts_ret (a : Nat) (ha : W256 a) : RetT Tryd.prog 6 #[wv a] (.bool true) := by
  have w1 : W256 1 := by unfold W256; omega
  have e1 := wv_small 1 (by omega)
  refine parts_walk (lim a) (fun k => lim (a / 2 ^ k)) (fun k => lim ((a / 2 ^ k % 2) * 2 ^ k)) (fun k => lim (a % 2 ^ k)) (fun k => ((a / 2 ^ k % 2 : Nat) : Int)) ?_ ?_ ?_ ?_ ?_ ?_ ?_
  · intro k; omega
  · intro k hk
    exact (shr_ret k a (by unfold W256; omega) ha).of_eq (by rw [wv_small k (by omega)]; rfl) rfl
  · intro k hk
    exact (and_ret (a / 2 ^ k) 1 (div_lt a _ ha) w1).of_eq (by rw [e1]; rfl) (by rw [and_one', wv_small _ (by omega)])
  · intro k hk
    have hb : a / 2 ^ k % 2 < 2 := Nat.mod_lt _ (by omega)
    refine (shl_ret k (a / 2 ^ k % 2) (by unfold W256; omega) (by unfold W256; omega)).of_eq (by rw [wv_small k (by omega), wv_small (a / 2 ^ k % 2) (by omega)]) ?_
    have hp : 2 ^ k ≤ 2 ^ 255 := Nat.pow_le_pow_right (by omega) (by omega)
    have hm : wmod ((a / 2 ^ k % 2) * 2 ^ k) = (a / 2 ^ k % 2) * 2 ^ k := by
      unfold wmod
      refine Nat.mod_eq_of_lt ?_
      have : (a / 2 ^ k % 2) * 2 ^ k ≤ 1 * 2 ^ k := Nat.mul_le_mul_right _ (by omega)
      have e : (2 : Nat) ^ 255 < 115792089237316195423570985008687907853269984665640564039457584007913129639936 := by decide
      omega
    rw [hm]
    rfl
  · intro k hk
    have hb : a / 2 ^ k % 2 < 2 := Nat.mod_lt _ (by omega)
    have hp : 2 ^ k ≤ 2 ^ 255 := Nat.pow_le_pow_right (by omega) (by omega)
    have hx : W256 ((a / 2 ^ k % 2) * 2 ^ k) := by
      unfold W256
      have : (a / 2 ^ k % 2) * 2 ^ k ≤ 1 * 2 ^ k := Nat.mul_le_mul_right _ (by omega)
      have e : (2 : Nat) ^ 255 < 115792089237316195423570985008687907853269984665640564039457584007913129639936 := by decide
      omega
    have hy : W256 (a % 2 ^ k) := Nat.lt_of_le_of_lt (Nat.mod_le _ _) ha
    exact (or_ret _ _ hy hx).of_eq rfl (by rw [pt_step]; rfl)
  · intro j
    show lim (a % 2 ^ 0) j = 0
    rw [Nat.pow_zero, Nat.mod_one]
    unfold lim
    split <;> simp
  · show lim (a % 2 ^ 256) = lim a
    rw [Nat.mod_eq_of_lt (show a < 2 ^ 256 from ha)]
end Go.Proofs.YtnlcllhjhbaigaaDoor
