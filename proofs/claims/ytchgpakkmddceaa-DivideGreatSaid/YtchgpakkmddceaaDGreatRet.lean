/- What DivideGreat answers, at all parts. -/
import Derived.Test.YtchgpakkmddceaaDGreat
import Derived.Test.YtchgpakkmddceaaDSumsRet
namespace Go.Proofs.Ytchgpakkmddceaa
open Go Go.RowKit

theorem pair_wv (a0 a1 : Int) (h0 : U64 a0) (h1 : U64 a1) : ∃ n : Nat, n < 2 ^ 128 ∧ (.agg #[.int .u64 a0, .int .u64 a1, .int .u64 0, .int .u64 0] : Value) = wv n ∧ ((n = 0) ↔ (a0 = 0 ∧ a1 = 0)) := by
  unfold U64 at h0 h1
  obtain ⟨x, rfl⟩ := Int.eq_ofNat_of_zero_le h0.1
  obtain ⟨y, rfl⟩ := Int.eq_ofNat_of_zero_le h1.1
  refine ⟨x + y * 18446744073709551616, by omega, (wv_of ⟨?_, ?_, ?_, ?_⟩).symm, by omega⟩
  · rw [lim_0]; omega
  · rw [lim_1]; omega
  · rw [lim_2]; omega
  · rw [lim_3]; omega

theorem divideGreat_ret (a0 a1 b0 b1 c0 c1 : Int) (ha0 : U64 a0) (ha1 : U64 a1) (hb0 : U64 b0) (hb1 : U64 b1) (hc0 : U64 c0) (hc1 : U64 c1) :
    Ret Try.prog 8 #[.agg #[.int .u64 a0, .int .u64 a1], .agg #[.int .u64 b0, .int .u64 b1], .agg #[.int .u64 c0, .int .u64 c1]] (.bool true) := by
  obtain ⟨x, hx, ex, _⟩ := pair_wv a0 a1 ha0 ha1
  obtain ⟨y, hy, ey, hy0⟩ := pair_wv b0 b1 hb0 hb1
  obtain ⟨z, hz, ez, _⟩ := pair_wv c0 c1 hc0 hc1
  have wx : W256 x := by unfold W256; omega
  have wy : W256 y := by unfold W256; omega
  have wz : W256 z := by unfold W256; omega
  have hp : x * y ≤ (2 ^ 128 - 1) * (2 ^ 128 - 1) := Nat.mul_le_mul (by omega) (by omega)
  have wp : W256 (x * y) := by unfold W256; omega
  by_cases h : y = 0
  · obtain ⟨rfl, rfl⟩ := hy0.1 h
    subst h
    refine great_zero a0 a1 c0 c1 ?_ ?_
    · rw [ex]
      exact (refMul_ret x 0 wx wy).of_eq (by rw [wvzero]) (by rw [wmod_of wp, Nat.mul_zero, wvzero])
    · exact (div_ret 0 0 wy wy).of_eq (by rw [wvzero]) (by rw [Nat.div_zero, wvzero])
  · have hr : z % y < y := Nat.mod_lt _ (by omega)
    have wr : W256 (z % y) := by unfold W256; omega
    have ws : W256 (x * y + z % y) := by unfold W256; omega
    have hne : (b0 == 0 && b1 == 0) = false := by
      refine Bool.eq_false_iff.2 fun e => h (hy0.2 ?_)
      simpa using e
    have M := fun v hv => mod_ret v y hv wy
    simp only [if_neg h] at M
    refine great_walk a0 a1 b0 b1 c0 c1 (lim (x * y)) (lim (z % y)) (lim (x * y + z % y)) hne ?_ ?_ ?_ ?_ (wcmp (x * y + z % y) (x * y)) ?_ (refCmp_ret _ _ ws wp) ?_ ?_ ?_ ?_
    · rw [ex, ey]; exact (refMul_ret x y wx wy).of_eq rfl (by rw [wmod_of wp]; rfl)
    · rw [ez, ey]; exact M z wz
    · exact (refAdd_ret _ _ wp wr).of_eq rfl (by rw [wmod_of ws]; rfl)
    · rw [ex, ey]
      exact (div_ret _ _ ws wy).of_eq rfl (by rw [Nat.mul_comm x y, Nat.mul_add_div (by omega), Nat.div_eq_of_lt hr, Nat.add_zero])
    · unfold wcmp; rw [if_neg (by omega)]; split <;> decide
    · rw [ex, ey]; exact (div_ret _ _ wp wy).of_eq rfl (by rw [Nat.mul_div_cancel _ (by omega)])
    · rw [ey]; exact (M _ wp).of_eq rfl (by rw [Nat.mul_mod_left, wvzero])
    · rw [ey]; exact (M _ ws).of_eq rfl (by rw [Nat.mul_comm x y, Nat.mul_add_mod, Nat.mod_mod]; rfl)
    · rw [ex, ey]
      have := mulmod_ret x y y wx wy wy
      rw [if_neg h, Nat.mul_mod_left] at this
      exact this.of_eq rfl (by rw [wvzero])
end Go.Proofs.Ytchgpakkmddceaa
