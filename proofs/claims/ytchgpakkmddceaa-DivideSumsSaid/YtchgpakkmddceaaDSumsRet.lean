/- What DivideSums answers, at all words. -/
import Derived.Test.YtchgpakkmddceaaDSums
import Derived.Test.YtchgpakkmddceaaLawQ
namespace Go.Proofs.Ytchgpakkmddceaa
open Go Go.RowKit

theorem half_wv (a : Nat) (ha : W256 a) : (.agg #[.int .u64 (lim a 0), .int .u64 (lim a 1), .int .u64 0, .int .u64 0] : Value) = wv (a % 2 ^ 128) := by
  obtain ⟨⟨h0, h1, h2, h3⟩, _⟩ := half_lims a ha
  unfold wv
  rw [h0, h1, h2, h3]

theorem wvone : wv 1 = .agg #[.int .u64 1, .int .u64 0, .int .u64 0, .int .u64 0] := wv_of ⟨by decide, by decide, by decide, by decide⟩
theorem wvzero : wv 0 = .agg #[.int .u64 0, .int .u64 0, .int .u64 0, .int .u64 0] := wv_of ⟨by decide, by decide, by decide, by decide⟩

/-- A remainder by n; by 0 it is 0. -/
def rem (a n : Nat) : Nat := if n = 0 then 0 else a % n
theorem rem_lt (a n : Nat) (hn : W256 n) : W256 (rem a n) := by
  unfold rem W256 at *
  split
  · omega
  · have := Nat.mod_lt a (show 0 < n by omega)
    omega
theorem rem_rem (a n : Nat) : rem (rem a n) n = rem a n := by
  unfold rem
  split
  · rfl
  · exact Nat.mod_mod a n
theorem rem_mul (a b n : Nat) : rem (rem a n * rem b n) n = rem (a * b) n := by
  unfold rem
  split
  · rfl
  · exact (Nat.mul_mod a b n).symm

theorem divideSums_ret (a b n : Nat) (ha : W256 a) (hb : W256 b) (hn : W256 n) : Ret Try.prog 5 #[wv a, wv b, wv n] (.bool true) := by
  have wx : W256 (a % 2 ^ 128) := by unfold W256 at *; omega
  have wy : W256 (b % 2 ^ 128) := by unfold W256 at *; omega
  have ws : W256 (a % 2 ^ 128 + b % 2 ^ 128) := by unfold W256; omega
  have wp : W256 (a % 2 ^ 128 * (b % 2 ^ 128)) := by
    have : a % 2 ^ 128 * (b % 2 ^ 128) ≤ (2 ^ 128 - 1) * (2 ^ 128 - 1) := Nat.mul_le_mul (by omega) (by omega)
    unfold W256; omega
  have w1 : W256 1 := by unfold W256; omega
  have w0 : W256 0 := by unfold W256; omega
  have S := fun x y hx hy => addmod_ret x y n hx hy hn
  have P := fun x y hx hy => mulmod_ret x y n hx hy hn
  have M := fun x hx => mod_ret x n hx hn
  refine sums_walk (lim a) (lim b) (lim n) (lim (rem (a + b) n)) (lim (rem (a * b) n)) (lim (rem (a % 2 ^ 128 + b % 2 ^ 128) n)) (lim (a % 2 ^ 128 + b % 2 ^ 128)) (lim (rem (a % 2 ^ 128 * (b % 2 ^ 128)) n)) (lim (a % 2 ^ 128 * (b % 2 ^ 128))) (lim (rem a n)) (lim (rem b n))
    ?_ (S a b ha hb) (P a b ha hb) ?_ ?_ ?_ ?_ (M _ ws) ?_ ?_ (M _ wp) ?_ ?_ ?_ (M a ha) ?_ (M b hb) ?_
  · exact wvone ▸ refOf_ret 1 (by unfold I64; omega)
  · exact (S b a hb ha).of_eq rfl (by rw [Nat.add_comm]; rfl)
  · exact (P b a hb ha).of_eq rfl (by rw [Nat.mul_comm]; rfl)
  · rw [half_wv a ha, half_wv b hb]; exact S _ _ wx wy
  · rw [half_wv a ha, half_wv b hb]; exact (refAdd_ret _ _ wx wy).of_eq rfl (by rw [wmod_of ws]; rfl)
  · rw [half_wv a ha, half_wv b hb]; exact P _ _ wx wy
  · rw [half_wv a ha, half_wv b hb]; exact (refMul_ret _ _ wx wy).of_eq rfl (by rw [wmod_of wp]; rfl)
  · exact (M _ (rem_lt _ n hn)).of_eq rfl (congrArg wv (rem_rem (a + b) n))
  · exact (M _ (rem_lt _ n hn)).of_eq rfl (congrArg wv (rem_rem (a * b) n))
  · exact (P a 1 ha w1).of_eq (by rw [wvone]; rfl) (by rw [Nat.mul_one]; rfl)
  · exact (S a 0 ha w0).of_eq (by rw [wvzero]; rfl) (by rw [Nat.add_zero]; rfl)
  · exact (P _ _ (rem_lt a n hn) (rem_lt b n hn)).of_eq rfl (congrArg wv (rem_mul a b n))
end Go.Proofs.Ytchgpakkmddceaa
