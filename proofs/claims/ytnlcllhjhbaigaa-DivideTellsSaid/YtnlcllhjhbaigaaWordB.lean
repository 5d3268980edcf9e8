/- Products of words: two parts, a row, and all rows. For every word. -/
import Derived.Test.YtnlcllhjhbaigaaWordA
import Derived.Lib.Mul64
import Derived.Shelf.Bits.Mul64
namespace Go.Proofs.Ytnlcllhjhbaigaa
open Go Go.RowKit Go.Shelf
attribute [local go_sem] Oper.semAt_some Grows wide_fn

set_option maxHeartbeats 1000000 in
theorem mul64_any (x y : Nat) (hx : x < 18446744073709551616) (hy : y < 18446744073709551616) (w : World) :
    Calls Try.prog 67 #[.int .u64 x, .int .u64 y] w fun e w' => e = .returned (.tuple #[.int .u64 ((x * y / 18446744073709551616 : Nat) : Int), .int .u64 ((x * y % 18446744073709551616 : Nat) : Int)]) ∧ w = w' := by
  obtain ⟨bd, bt, bw, hhi⟩ := Lib.mul64_hi x y hx hy
  have ba := Lib.half_mul_le (a := x / 4294967296) (b := y / 4294967296) (by omega) (by omega)
  have bb := Lib.half_mul_le (a := x / 4294967296) (b := y % 4294967296) (by omega) (by omega)
  have bc := Lib.half_mul_le (a := x % 4294967296) (b := y / 4294967296) (by omega) (by omega)
  have ba' : x / 4294967296 * (y / 4294967296) < 18446744073709551616 := by omega
  have bb' : x / 4294967296 * (y % 4294967296) < 18446744073709551616 := by omega
  have bc' : x % 4294967296 * (y / 4294967296) < 18446744073709551616 := by omega
  have bh1 : x / 4294967296 * (y / 4294967296) + (x / 4294967296 * (y % 4294967296) + x % 4294967296 * (y % 4294967296) / 4294967296) / 4294967296 < 18446744073709551616 := by omega
  have bh : x / 4294967296 * (y / 4294967296) + (x / 4294967296 * (y % 4294967296) + x % 4294967296 * (y % 4294967296) / 4294967296) / 4294967296 + ((x / 4294967296 * (y % 4294967296) + x % 4294967296 * (y % 4294967296) / 4294967296) % 4294967296 + x % 4294967296 * (y / 4294967296)) / 4294967296 < 18446744073709551616 := by omega
  go_enter Try.func67, Try.ntmps67
  go_wp2
  simp only [Mul64.maskN x hx, Mul64.maskN y hy, Mul64.divN, Mul64.mulN, Mul64.addN, Mul64.wrapN _ bd, Mul64.wrapN _ bb', Mul64.wrapN _ bt, Mul64.maskN _ bt, Mul64.wrapN _ bc', Mul64.wrapN _ bw, Mul64.wrapN _ ba', Mul64.wrapN _ bh1, Mul64.wrapN _ bh, Mul64.wrapM (x * y)]
  rw [hhi]
  go_ret2
  exact ⟨rfl, rfl⟩

def tpLo (x y p q : Int) : Int := (x * y + p + q) % 18446744073709551616
def tpHi (x y p q : Int) : Int := (x * y + p + q) / 18446744073709551616
theorem tp_bound (x y p q : Int) (hx : U64 x) (hy : U64 y) (hp : U64 p) (hq : U64 q) : U64 (tpLo x y p q) ∧ U64 (tpHi x y p q) := by
  unfold U64 tpLo tpHi at *
  have h1 : 0 ≤ x * y := Int.mul_nonneg hx.1 hy.1
  have h2 : x * y ≤ 18446744073709551615 * 18446744073709551615 := Int.mul_le_mul (by omega) (by omega) hy.1 (by omega)
  generalize x * y = t at *
  omega
/-- Two carries added to the high part do not go beyond it. -/
theorem tp_join (x y p q : Int) (hx : U64 x) (hy : U64 y) (hp : U64 p) (_hq : U64 q) :
    ((x * y % 18446744073709551616 + p) % 18446744073709551616 + q) % 18446744073709551616 = tpLo x y p q ∧
    x * y / 18446744073709551616 + (x * y % 18446744073709551616 + p) / 18446744073709551616 + ((x * y % 18446744073709551616 + p) % 18446744073709551616 + q) / 18446744073709551616 = tpHi x y p q ∧
    U64 (x * y / 18446744073709551616 + (x * y % 18446744073709551616 + p) / 18446744073709551616) ∧ U64 (x * y % 18446744073709551616) ∧ U64 ((x * y % 18446744073709551616 + p) % 18446744073709551616) ∧ U64 (x * y / 18446744073709551616) := by
  unfold U64 tpLo tpHi at *
  have h1 : 0 ≤ x * y := Int.mul_nonneg hx.1 hy.1
  have h2 : x * y ≤ 18446744073709551615 * 18446744073709551615 := Int.mul_le_mul (by omega) (by omega) hy.1 (by omega)
  generalize x * y = t at *
  omega

set_option maxHeartbeats 1000000 in
theorem timesPlus_any (x y p q : Int) (hx : U64 x) (hy : U64 y) (hp : U64 p) (hq : U64 q) (w : World) :
    Calls Try.prog 66 #[.int .u64 x, .int .u64 y, .int .u64 p, .int .u64 q] w fun e w' => e = .returned (.tuple #[.int .u64 (tpLo x y p q), .int .u64 (tpHi x y p q)]) ∧ w = w' := by
  obtain ⟨e1, e2, u1, u2, u3, u4⟩ := tp_join x y p q hx hy hp hq
  obtain ⟨b1, b2⟩ := tp_bound x y p q hx hy hp hq
  have hm : ∀ w, Calls Try.prog 67 #[.int .u64 x, .int .u64 y] w fun e w' => e = .returned (.tuple #[.int .u64 (x * y / 18446744073709551616), .int .u64 (x * y % 18446744073709551616)]) ∧ w = w' := by
    intro w
    obtain ⟨x, rfl⟩ := Int.eq_ofNat_of_zero_le hx.1
    obtain ⟨y, rfl⟩ := Int.eq_ofNat_of_zero_le hy.1
    exact mul64_any x y (by have := hx.2; omega) (by have := hy.2; omega) w
  rw [← e2]
  rw [← e2] at b2
  rw [← e1]
  clear e1 e2 b1
  generalize x * y / 18446744073709551616 = hi at *
  generalize x * y % 18446744073709551616 = lo at *
  have r1 := fun W => run_addc lo p 0 u2 hp bit_zero W
  have r2 := fun W => run_addc ((lo + p) % 18446744073709551616) q 0 u3 hq bit_zero W
  simp only [Int.add_zero] at r1 r2
  generalize (lo + p) % 18446744073709551616 = s1 at *
  generalize (lo + p) / 18446744073709551616 = c1 at *
  generalize (s1 + q) % 18446744073709551616 = s2 at *
  generalize (s1 + q) / 18446744073709551616 = c2 at *
  have w1 : IntKind.u64.wrap (hi + c1) = hi + c1 := by rw [IntKind.wrap_u64]; unfold U64 at u1; omega
  have w2 : IntKind.u64.wrap (hi + c1 + c2) = hi + c1 + c2 := by rw [IntKind.wrap_u64]; unfold U64 at b2; omega
  have HM := Lib.hid hm
  clear hm u1 u2 u3 u4 b2 hx hy hp hq
  go_enter Try.func66, Try.ntmps66
  go_wp2_with fail
  refine (HM.out _).mono ?_
  rintro e w' ⟨rfl, rfl⟩
  go_wp2
  go_ret2
  exact ⟨rfl, rfl⟩
end Go.Proofs.Ytnlcllhjhbaigaa
