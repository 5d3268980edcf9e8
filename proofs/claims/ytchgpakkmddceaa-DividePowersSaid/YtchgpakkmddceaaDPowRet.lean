/- What DividePowers answers, at all words and numbers. -/
import Derived.Test.YtchgpakkmddceaaDPow0
import Derived.Test.YtchgpakkmddceaaDPow1
import Derived.Test.YtchgpakkmddceaaDPow2
import Derived.Test.YtchgpakkmddceaaDPow3
import Derived.Test.YtchgpakkmddceaaDPow4
import Derived.Test.YtchgpakkmddceaaDSumsRet
import Derived.Test.YtchgpakkmddceaaPick
namespace Go.Proofs.Ytchgpakkmddceaa
open Go Go.RowKit

theorem two_parts : ∀ x : Fin 256, (lim (wmod (2 ^ x.val)) 0 = if x.val / 64 = 0 then IntKind.u64.wrap (2 ^ (x.val % 64)) else 0) ∧ (lim (wmod (2 ^ x.val)) 1 = if x.val / 64 = 1 then IntKind.u64.wrap (2 ^ (x.val % 64)) else 0) ∧ (lim (wmod (2 ^ x.val)) 2 = if x.val / 64 = 2 then IntKind.u64.wrap (2 ^ (x.val % 64)) else 0) ∧ (lim (wmod (2 ^ x.val)) 3 = if x.val / 64 = 3 then IntKind.u64.wrap (2 ^ (x.val % 64)) else 0) := by decide +kernel
theorem two_great (x : Nat) (h : 256 ≤ x) : wmod (2 ^ x) = 0 := by
  unfold wmod
  obtain ⟨k, rfl⟩ : ∃ k, x = 256 + k := ⟨x - 256, by omega⟩
  rw [Nat.pow_add, show (2 : Nat) ^ 256 = 115792089237316195423570985008687907853269984665640564039457584007913129639936 by decide]
  exact Nat.mul_mod_right _ _

theorem dividePowers_ret (a : Nat) (m n : Int) (ha : W256 a) (hm : I64 m) (hn : I64 n) : Ret Try.prog 6 #[wv a, .int .i64 m, .int .i64 n] (.bool true) := by
  have hpx := pickN_range m 400 (by omega)
  have hpy := pickN_range n 400 (by omega)
  have g1 := pick_ret m hm 400 (by omega) (by omega)
  have g2 := pick_ret n hn 400 (by omega) (by omega)
  obtain ⟨x, ex⟩ := Int.eq_ofNat_of_zero_le hpx.1
  obtain ⟨y, ey⟩ := Int.eq_ofNat_of_zero_le hpy.1
  rw [ex] at g1 hpx
  rw [ey] at g2 hpy
  have hx : x < 400 := by omega
  have hy : y < 400 := by omega
  have wx : W256 x := by unfold W256; omega
  have wy : W256 y := by unfold W256; omega
  have wxy : W256 (x + y) := by unfold W256; omega
  have w1 : W256 1 := by unfold W256; omega
  have w2 : W256 2 := by unfold W256; omega
  have O : ∀ k : Nat, k < 1000 → Ret Try.prog 27 #[.int .i64 (k : Int)] (wv k) := fun k hk => (refOf_ret k (by unfold I64; omega)).of_eq rfl (by rw [ofN_nat])
  have o4 : Ret Try.prog 27 #[.int .i64 ((x : Int) + y)] (wv (x + y)) := by
    have := O (x + y) (by omega)
    rwa [Int.natCast_add] at this
  have c3 := exp_ret 2 x w2 wx
  have c4 := exp_ret a (x + y) ha wxy
  have c5 : Ret Try.prog 25 #[wv (wmod (a ^ x)), wv (wmod (a ^ y))] (wv (wmod (a ^ (x + y)))) := (refMul_ret _ _ (wmod_lt _) (wmod_lt _)).of_eq rfl (by rw [wmod_mull, wmod_mulr, Nat.pow_add])
  have c6 : Ret Try.prog 22 #[wv 1, wv a] (wv 1) := (exp_ret 1 a w1 ha).of_eq rfl (by rw [Nat.one_pow, wmod_of w1])
  have c7 : Ret Try.prog 22 #[wv a, wv 1] (wv a) := (exp_ret a 1 ha w1).of_eq rfl (by rw [Nat.pow_one, wmod_of ha])
  have c8 := exp_ret (wmod (a ^ x)) 2 (wmod_lt _) w2
  have c9 : Ret Try.prog 25 #[wv (wmod (a ^ x)), wv (wmod (a ^ x))] (wv (wmod (wmod (a ^ x) ^ 2))) := (refMul_ret _ _ (wmod_lt _) (wmod_lt _)).of_eq rfl (by rw [Nat.pow_two])
  have hxI : 0 ≤ (x : Int) ∧ (x : Int) < 400 := by omega
  have hyI : 0 ≤ (y : Int) ∧ (y : Int) < 400 := by omega
  by_cases h : x < 256
  · have T := two_parts ⟨x, h⟩
    simp only [] at T
    have et : (x : Int).tdiv 64 = ((x / 64 : Nat) : Int) := by rw [Int.tdiv_eq_ediv_of_nonneg (by omega)]; omega
    have er : (x : Int).tmod 64 = ((x % 64 : Nat) : Int) := by rw [Int.tmod_eq_emod_of_nonneg (by omega)]; omega
    have hw : ∀ i : Nat, x / 64 = i → (x : Int).tdiv 64 = i ∧ (x : Int) < 256 ∧ 0 ≤ (x : Int).tmod 64 ∧ (x : Int).tmod 64 < 64 ∧ (x : Int).tmod 64 = ((x % 64 : Nat) : Int) ∧ IntKind.u64.wrap (2 ^ ((x % 64 : Nat) : Int).toNat) = IntKind.u64.wrap (2 ^ (x % 64)) := fun i hi => by
      rw [et, er, Int.toNat_natCast]
      refine ⟨by omega, by omega, by omega, by omega, rfl, rfl⟩
    rcases (show x / 64 = 0 ∨ x / 64 = 1 ∨ x / 64 = 2 ∨ x / 64 = 3 by omega) with hi | hi | hi | hi
    · rw [hi] at T
      exact powers_walk0 x y m n ((x % 64 : Nat) : Int) (IntKind.u64.wrap (2 ^ (x % 64))) (lim a) (lim x) (lim y) (lim 2) (lim (x + y)) (lim 1) (lim (wmod (a ^ x))) (lim (wmod (a ^ y))) (lim (wmod (a ^ (x + y)))) (lim (wmod (wmod (a ^ x) ^ 2))) hxI hyI (hw 0 hi) g1 g2 (O x (by omega)) (O y (by omega)) (O 2 (by omega)) o4 (O 1 (by omega))
        (exp_ret a x ha wx) (exp_ret a y ha wy) (c3.of_eq rfl (wv_of ⟨T.1, T.2.1, T.2.2.1, T.2.2.2⟩)) c4 c5 c6 c7 c8 c9
    · rw [hi] at T
      exact powers_walk1 x y m n ((x % 64 : Nat) : Int) (IntKind.u64.wrap (2 ^ (x % 64))) (lim a) (lim x) (lim y) (lim 2) (lim (x + y)) (lim 1) (lim (wmod (a ^ x))) (lim (wmod (a ^ y))) (lim (wmod (a ^ (x + y)))) (lim (wmod (wmod (a ^ x) ^ 2))) hxI hyI (hw 1 hi) g1 g2 (O x (by omega)) (O y (by omega)) (O 2 (by omega)) o4 (O 1 (by omega))
        (exp_ret a x ha wx) (exp_ret a y ha wy) (c3.of_eq rfl (wv_of ⟨T.1, T.2.1, T.2.2.1, T.2.2.2⟩)) c4 c5 c6 c7 c8 c9
    · rw [hi] at T
      exact powers_walk2 x y m n ((x % 64 : Nat) : Int) (IntKind.u64.wrap (2 ^ (x % 64))) (lim a) (lim x) (lim y) (lim 2) (lim (x + y)) (lim 1) (lim (wmod (a ^ x))) (lim (wmod (a ^ y))) (lim (wmod (a ^ (x + y)))) (lim (wmod (wmod (a ^ x) ^ 2))) hxI hyI (hw 2 hi) g1 g2 (O x (by omega)) (O y (by omega)) (O 2 (by omega)) o4 (O 1 (by omega))
        (exp_ret a x ha wx) (exp_ret a y ha wy) (c3.of_eq rfl (wv_of ⟨T.1, T.2.1, T.2.2.1, T.2.2.2⟩)) c4 c5 c6 c7 c8 c9
    · rw [hi] at T
      exact powers_walk3 x y m n ((x % 64 : Nat) : Int) (IntKind.u64.wrap (2 ^ (x % 64))) (lim a) (lim x) (lim y) (lim 2) (lim (x + y)) (lim 1) (lim (wmod (a ^ x))) (lim (wmod (a ^ y))) (lim (wmod (a ^ (x + y)))) (lim (wmod (wmod (a ^ x) ^ 2))) hxI hyI (hw 3 hi) g1 g2 (O x (by omega)) (O y (by omega)) (O 2 (by omega)) o4 (O 1 (by omega))
        (exp_ret a x ha wx) (exp_ret a y ha wy) (c3.of_eq rfl (wv_of ⟨T.1, T.2.1, T.2.2.1, T.2.2.2⟩)) c4 c5 c6 c7 c8 c9
  · rw [two_great x (by omega)] at c3
    exact powers_walk4 x y m n 0 0 (lim a) (lim x) (lim y) (lim 2) (lim (x + y)) (lim 1) (lim (wmod (a ^ x))) (lim (wmod (a ^ y))) (lim (wmod (a ^ (x + y)))) (lim (wmod (wmod (a ^ x) ^ 2))) hxI hyI (by omega) g1 g2 (O x (by omega)) (O y (by omega)) (O 2 (by omega)) o4 (O 1 (by omega))
      (exp_ret a x ha wx) (exp_ret a y ha wy) (c3.of_eq rfl wvzero) c4 c5 c6 c7 c8 c9
end Go.Proofs.Ytchgpakkmddceaa
