/- What WordDoubles answers, at all words. -/
import Derived.Test.YtgejdkiehcpinaaDoorDoubles
import Derived.Test.YtgejdkiehcpinaaDoorLawO
namespace Go.Proofs.YtgejdkiehcpinaaDoor
open Go Go.RowKit

theorem lim_nought : lim 0 = fun _ => 0 := by funext k; exact lim_zero k
theorem wv_low (p : Nat) (hp : p < 18446744073709551616) : wv p = .agg #[.int .u64 (p : Int), .int .u64 0, .int .u64 0, .int .u64 0] := by
  refine wv_of (lim_num (fun k => if k = 0 then (p : Int) else 0) p ?_ ?_ ?_ ?_ ?_)
  · unfold U64; simp; omega
  · unfold U64; simp
  · unfold U64; simp
  · unfold U64; simp
  · unfold num; simp
theorem doubles_ret (a : Nat) (ha : W256 a) : Ret Tryd.prog 8 #[wv a] (.bool true) := by
  refine doubles_walk (lim a) (fun t => lim (wmod (a * 2 ^ t))) (fun s k => lim (wmod (topN a s * 2 ^ k))) ?_ ?_ ?_ ?_ ?_ ?_ ?_
  · show lim (wmod (a * 2 ^ 0)) = lim a
    rw [Nat.pow_zero, Nat.mul_one, wmod_of ha]
  · show lim (wmod (topN a 0 * 2 ^ 0)) = _
    rw [show wmod (topN a 0 * 2 ^ 0) = 0 from rfl]
    exact lim_nought
  · show lim (wmod (a * 2 ^ 256)) = _
    rw [dbl_end]
    exact lim_nought
  · show lim (wmod (topN a 4 * 2 ^ 0)) = lim a
    rw [topN_four a ha, Nat.pow_zero, Nat.mul_one, wmod_of ha]
  · intro t _
    have h := add_ret (wmod (a * 2 ^ t)) (wmod (a * 2 ^ t)) (wmod_lt _) (wmod_lt _)
    rw [dbl_x] at h
    exact h
  · intro s k _ _
    have h := add_ret (wmod (topN a s * 2 ^ k)) (wmod (topN a s * 2 ^ k)) (wmod_lt _) (wmod_lt _)
    rw [dbl_x] at h
    exact h
  · intro s q hqs
    have hp : (lim a q).toNat < 18446744073709551616 := by have := lim_hi a q; have := lim_lo a q; omega
    have h := add_ret (wmod (topN a s * 2 ^ 64)) (lim a q).toNat (wmod_lt _) (by unfold W256; omega)
    rw [wv_low _ hp, Int.toNat_of_nonneg (lim_lo a q), wmod_add_l, pow64] at h
    have e : topN a (s + 1) * 2 ^ 0 = topN a s * 18446744073709551616 + (lim a q).toNat := by
      rw [Nat.pow_zero, Nat.mul_one]
      show topN a s * 18446744073709551616 + (lim a (3 - s)).toNat = _
      rw [show 3 - s = q by omega]
    show Ret _ _ #[.agg #[.int .u64 (lim (wmod (topN a s * 2 ^ 64)) 0), .int .u64 (lim (wmod (topN a s * 2 ^ 64)) 1), .int .u64 (lim (wmod (topN a s * 2 ^ 64)) 2), .int .u64 (lim (wmod (topN a s * 2 ^ 64)) 3)], _] (wv (wmod (topN a (s + 1) * 2 ^ 0)))
    rw [e, pow64]
    exact h
end Go.Proofs.YtgejdkiehcpinaaDoor
