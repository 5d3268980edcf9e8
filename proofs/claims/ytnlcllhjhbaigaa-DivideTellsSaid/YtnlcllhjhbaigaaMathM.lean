/- Products of words, row by row: plain arithmetic. -/
import Derived.Test.YtnlcllhjhbaigaaWordC
namespace Go.Proofs.Ytnlcllhjhbaigaa
open Go Go.RowKit

theorem num_mul (z : Nat → Int) (f : Int) : num z * f = z 0 * f + z 1 * f * 18446744073709551616 + z 2 * f * 340282366920938463463374607431768211456 + z 3 * f * 6277101735386680763835789423207666416102355444464034512896 := by
  unfold num
  rw [Int.add_mul, Int.add_mul, Int.add_mul, Int.mul_right_comm (z 1), Int.mul_right_comm (z 2), Int.mul_right_comm (z 3)]
theorem tp_step (x y p q : Int) : tpLo x y p q + 18446744073709551616 * tpHi x y p q = x * y + p + q := Int.emod_add_mul_ediv ..
theorem row_num0 (z : Nat → Int) (f : Int) (M : Nat → Int) : ∃ c, num (rowAt z f M 0 4) + 115792089237316195423570985008687907853269984665640564039457584007913129639936 * c = num M + num z * f * 1 := by
  rw [num_mul]
  have k0 : ro z f (fun i => M (0 + i)) 0 + 18446744073709551616 * rc z f (fun i => M (0 + i)) 1 = z 0 * f + M 0 + rc z f (fun i => M (0 + i)) 0 := tp_step ..
  have k1 : ro z f (fun i => M (0 + i)) 1 + 18446744073709551616 * rc z f (fun i => M (0 + i)) 2 = z 1 * f + M 1 + rc z f (fun i => M (0 + i)) 1 := tp_step ..
  have k2 : ro z f (fun i => M (0 + i)) 2 + 18446744073709551616 * rc z f (fun i => M (0 + i)) 3 = z 2 * f + M 2 + rc z f (fun i => M (0 + i)) 2 := tp_step ..
  have k3 : ro z f (fun i => M (0 + i)) 3 + 18446744073709551616 * rc z f (fun i => M (0 + i)) 4 = z 3 * f + M 3 + rc z f (fun i => M (0 + i)) 3 := tp_step ..
  have kz : rc z f (fun i => M (0 + i)) 0 = 0 := rfl
  have r0 : rowAt z f M 0 4 0 = ro z f (fun i => M (0 + i)) 0 := rfl
  have r1 : rowAt z f M 0 4 1 = ro z f (fun i => M (0 + i)) 1 := rfl
  have r2 : rowAt z f M 0 4 2 = ro z f (fun i => M (0 + i)) 2 := rfl
  have r3 : rowAt z f M 0 4 3 = ro z f (fun i => M (0 + i)) 3 := rfl
  refine ⟨rc z f (fun i => M (0 + i)) 4, ?_⟩
  unfold num
  rw [r0, r1, r2, r3]
  clear r0 r1 r2 r3
  rw [kz] at k0
  clear kz
  generalize ro z f (fun i => M (0 + i)) 0 = o0 at *
  generalize ro z f (fun i => M (0 + i)) 1 = o1 at *
  generalize ro z f (fun i => M (0 + i)) 2 = o2 at *
  generalize ro z f (fun i => M (0 + i)) 3 = o3 at *
  generalize rc z f (fun i => M (0 + i)) 1 = c1 at *
  generalize rc z f (fun i => M (0 + i)) 2 = c2 at *
  generalize rc z f (fun i => M (0 + i)) 3 = c3 at *
  generalize rc z f (fun i => M (0 + i)) 4 = c4 at *
  generalize z 0 * f = p0 at *
  generalize M 0 = m0 at *
  generalize z 1 * f = p1 at *
  generalize M 1 = m1 at *
  generalize z 2 * f = p2 at *
  generalize M 2 = m2 at *
  generalize z 3 * f = p3 at *
  generalize M 3 = m3 at *
  omega
theorem row_num1 (z : Nat → Int) (f : Int) (M : Nat → Int) : ∃ c, num (rowAt z f M 1 3) + 115792089237316195423570985008687907853269984665640564039457584007913129639936 * c = num M + num z * f * 18446744073709551616 := by
  rw [num_mul]
  have k0 : ro z f (fun i => M (1 + i)) 0 + 18446744073709551616 * rc z f (fun i => M (1 + i)) 1 = z 0 * f + M 1 + rc z f (fun i => M (1 + i)) 0 := tp_step ..
  have k1 : ro z f (fun i => M (1 + i)) 1 + 18446744073709551616 * rc z f (fun i => M (1 + i)) 2 = z 1 * f + M 2 + rc z f (fun i => M (1 + i)) 1 := tp_step ..
  have k2 : ro z f (fun i => M (1 + i)) 2 + 18446744073709551616 * rc z f (fun i => M (1 + i)) 3 = z 2 * f + M 3 + rc z f (fun i => M (1 + i)) 2 := tp_step ..
  have kz : rc z f (fun i => M (1 + i)) 0 = 0 := rfl
  have r0 : rowAt z f M 1 3 0 = M 0 := rfl
  have r1 : rowAt z f M 1 3 1 = ro z f (fun i => M (1 + i)) 0 := rfl
  have r2 : rowAt z f M 1 3 2 = ro z f (fun i => M (1 + i)) 1 := rfl
  have r3 : rowAt z f M 1 3 3 = ro z f (fun i => M (1 + i)) 2 := rfl
  refine ⟨rc z f (fun i => M (1 + i)) 3 + z 3 * f * 1, ?_⟩
  unfold num
  rw [r0, r1, r2, r3]
  clear r0 r1 r2 r3
  rw [kz] at k0
  clear kz
  generalize ro z f (fun i => M (1 + i)) 0 = o0 at *
  generalize ro z f (fun i => M (1 + i)) 1 = o1 at *
  generalize ro z f (fun i => M (1 + i)) 2 = o2 at *
  generalize rc z f (fun i => M (1 + i)) 1 = c1 at *
  generalize rc z f (fun i => M (1 + i)) 2 = c2 at *
  generalize rc z f (fun i => M (1 + i)) 3 = c3 at *
  generalize z 0 * f = p0 at *
  generalize M 0 = m0 at *
  generalize z 1 * f = p1 at *
  generalize M 1 = m1 at *
  generalize z 2 * f = p2 at *
  generalize M 2 = m2 at *
  generalize z 3 * f = p3 at *
  generalize M 3 = m3 at *
  omega
theorem row_num2 (z : Nat → Int) (f : Int) (M : Nat → Int) : ∃ c, num (rowAt z f M 2 2) + 115792089237316195423570985008687907853269984665640564039457584007913129639936 * c = num M + num z * f * 340282366920938463463374607431768211456 := by
  rw [num_mul]
  have k0 : ro z f (fun i => M (2 + i)) 0 + 18446744073709551616 * rc z f (fun i => M (2 + i)) 1 = z 0 * f + M 2 + rc z f (fun i => M (2 + i)) 0 := tp_step ..
  have k1 : ro z f (fun i => M (2 + i)) 1 + 18446744073709551616 * rc z f (fun i => M (2 + i)) 2 = z 1 * f + M 3 + rc z f (fun i => M (2 + i)) 1 := tp_step ..
  have kz : rc z f (fun i => M (2 + i)) 0 = 0 := rfl
  have r0 : rowAt z f M 2 2 0 = M 0 := rfl
  have r1 : rowAt z f M 2 2 1 = M 1 := rfl
  have r2 : rowAt z f M 2 2 2 = ro z f (fun i => M (2 + i)) 0 := rfl
  have r3 : rowAt z f M 2 2 3 = ro z f (fun i => M (2 + i)) 1 := rfl
  refine ⟨rc z f (fun i => M (2 + i)) 2 + z 2 * f * 1 + z 3 * f * 18446744073709551616, ?_⟩
  unfold num
  rw [r0, r1, r2, r3]
  clear r0 r1 r2 r3
  rw [kz] at k0
  clear kz
  generalize ro z f (fun i => M (2 + i)) 0 = o0 at *
  generalize ro z f (fun i => M (2 + i)) 1 = o1 at *
  generalize rc z f (fun i => M (2 + i)) 1 = c1 at *
  generalize rc z f (fun i => M (2 + i)) 2 = c2 at *
  generalize z 0 * f = p0 at *
  generalize M 0 = m0 at *
  generalize z 1 * f = p1 at *
  generalize M 1 = m1 at *
  generalize z 2 * f = p2 at *
  generalize M 2 = m2 at *
  generalize z 3 * f = p3 at *
  generalize M 3 = m3 at *
  omega
theorem row_num3 (z : Nat → Int) (f : Int) (M : Nat → Int) : ∃ c, num (rowAt z f M 3 1) + 115792089237316195423570985008687907853269984665640564039457584007913129639936 * c = num M + num z * f * 6277101735386680763835789423207666416102355444464034512896 := by
  rw [num_mul]
  have k0 : ro z f (fun i => M (3 + i)) 0 + 18446744073709551616 * rc z f (fun i => M (3 + i)) 1 = z 0 * f + M 3 + rc z f (fun i => M (3 + i)) 0 := tp_step ..
  have kz : rc z f (fun i => M (3 + i)) 0 = 0 := rfl
  have r0 : rowAt z f M 3 1 0 = M 0 := rfl
  have r1 : rowAt z f M 3 1 1 = M 1 := rfl
  have r2 : rowAt z f M 3 1 2 = M 2 := rfl
  have r3 : rowAt z f M 3 1 3 = ro z f (fun i => M (3 + i)) 0 := rfl
  refine ⟨rc z f (fun i => M (3 + i)) 1 + z 1 * f * 1 + z 2 * f * 18446744073709551616 + z 3 * f * 340282366920938463463374607431768211456, ?_⟩
  unfold num
  rw [r0, r1, r2, r3]
  clear r0 r1 r2 r3
  rw [kz] at k0
  clear kz
  generalize ro z f (fun i => M (3 + i)) 0 = o0 at *
  generalize rc z f (fun i => M (3 + i)) 1 = c1 at *
  generalize z 0 * f = p0 at *
  generalize M 0 = m0 at *
  generalize z 1 * f = p1 at *
  generalize M 1 = m1 at *
  generalize z 2 * f = p2 at *
  generalize M 2 = m2 at *
  generalize z 3 * f = p3 at *
  generalize M 3 = m3 at *
  omega

/-- The places when k rows have been added. -/
def mulAt (a b : Nat → Int) : Nat → Nat → Int
  | 0 => fun _ => 0
  | k + 1 => rowAt a (b k) (mulAt a b k) k (4 - k)
theorem mulAt_u64 (a b : Nat → Int) (ha : ∀ k, U64 (a k)) (hb : ∀ k, U64 (b k)) : ∀ k j, U64 (mulAt a b k j)
  | 0, j => ⟨by simp [mulAt], by simp [mulAt]⟩
  | k + 1, j => by
    have ih := mulAt_u64 a b ha hb k
    show U64 (rowAt a (b k) (mulAt a b k) k (4 - k) j)
    unfold rowAt
    split
    · exact ro_u64 _ _ _ ha (hb k) (fun i => ih _) _
    · exact ih j
theorem mul_parts (a b : Nat) (ha : W256 a) (hb : W256 b) : ∀ k, k < 4 → mulAt (lim a) (lim b) 4 k = lim (wmod (a * b)) k := by
  have u := fun k => mulAt_u64 (lim a) (lim b) (lim_u64 a) (lim_u64 b) 4 k
  obtain ⟨c0, h0⟩ := row_num0 (lim a) (lim b 0) (mulAt (lim a) (lim b) 0)
  obtain ⟨c1, h1⟩ := row_num1 (lim a) (lim b 1) (mulAt (lim a) (lim b) 1)
  obtain ⟨c2, h2⟩ := row_num2 (lim a) (lim b 2) (mulAt (lim a) (lim b) 2)
  obtain ⟨c3, h3⟩ := row_num3 (lim a) (lim b 3) (mulAt (lim a) (lim b) 3)
  have e0 : num (mulAt (lim a) (lim b) 0) = 0 := rfl
  have e1 : num (rowAt (lim a) (lim b 0) (mulAt (lim a) (lim b) 0) 0 4) = num (mulAt (lim a) (lim b) 1) := rfl
  have e2 : num (rowAt (lim a) (lim b 1) (mulAt (lim a) (lim b) 1) 1 3) = num (mulAt (lim a) (lim b) 2) := rfl
  have e3 : num (rowAt (lim a) (lim b 2) (mulAt (lim a) (lim b) 2) 2 2) = num (mulAt (lim a) (lim b) 3) := rfl
  have e4 : num (rowAt (lim a) (lim b 3) (mulAt (lim a) (lim b) 3) 3 1) = num (mulAt (lim a) (lim b) 4) := rfl
  rw [e1, e0] at h0
  rw [e2] at h1
  rw [e3] at h2
  rw [e4] at h3
  have ea := num_lim a ha
  have eb := num_lim b hb
  rw [ea] at h0 h1 h2 h3
  have hab : ((a * b : Nat) : Int) = a * lim b 0 + a * lim b 1 * 18446744073709551616 + a * lim b 2 * 340282366920938463463374607431768211456 + a * lim b 3 * 6277101735386680763835789423207666416102355444464034512896 := by
    rw [Int.natCast_mul, ← eb]
    unfold num
    rw [Int.mul_add, Int.mul_add, Int.mul_add, Int.mul_assoc, Int.mul_assoc, Int.mul_assoc]
  obtain ⟨n0, n1⟩ := num_lt (mulAt (lim a) (lim b) 4) (u 0) (u 1) (u 2) (u 3)
  have key : num (mulAt (lim a) (lim b) 4) = ((wmod (a * b) : Nat) : Int) := by
    unfold wmod
    rw [Int.natCast_emod, hab]
    clear ea eb hab e0 e1 e2 e3 e4 u
    generalize num (mulAt (lim a) (lim b) 4) = t4 at *
    generalize num (mulAt (lim a) (lim b) 3) = t3 at *
    generalize num (mulAt (lim a) (lim b) 2) = t2 at *
    generalize num (mulAt (lim a) (lim b) 1) = t1 at *
    generalize (a : Int) * lim b 0 = p0 at *
    generalize (a : Int) * lim b 1 = p1 at *
    generalize (a : Int) * lim b 2 = p2 at *
    generalize (a : Int) * lim b 3 = p3 at *
    have e : p0 + p1 * 18446744073709551616 + p2 * 340282366920938463463374607431768211456 + p3 * 6277101735386680763835789423207666416102355444464034512896 = t4 + 115792089237316195423570985008687907853269984665640564039457584007913129639936 * (c0 + c1 + c2 + c3) := by omega
    rw [e]
    show t4 = (t4 + 115792089237316195423570985008687907853269984665640564039457584007913129639936 * (c0 + c1 + c2 + c3)) % 115792089237316195423570985008687907853269984665640564039457584007913129639936
    rw [Int.add_mul_emod_self_left, Int.emod_eq_of_lt n0 n1]
  obtain ⟨g0, g1, g2, g3⟩ := lim_num _ _ (u 0) (u 1) (u 2) (u 3) key
  intro k hk
  match k, hk with
  | 0, _ => exact g0.symm
  | 1, _ => exact g1.symm
  | 2, _ => exact g2.symm
  | 3, _ => exact g3.symm
end Go.Proofs.Ytnlcllhjhbaigaa
