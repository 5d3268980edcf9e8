/- Numbers of 256 bits as four parts of 64: plain arithmetic, no Go. -/
import Derived.Lib.Hide
namespace Go.Proofs.Ytbkgipggblphlaa

/-- Part k of a number, as an integer. -/
def lim (n : Nat) : Nat → Int
  | 0 => ((n % 18446744073709551616 : Nat) : Int)
  | 1 => ((n / 18446744073709551616 % 18446744073709551616 : Nat) : Int)
  | 2 => ((n / 340282366920938463463374607431768211456 % 18446744073709551616 : Nat) : Int)
  | _ => ((n / 6277101735386680763835789423207666416102355444464034512896 % 18446744073709551616 : Nat) : Int)

/-- A number of 64 bits. -/
def U64 (x : Int) : Prop := 0 ≤ x ∧ x < 18446744073709551616
def W256 (n : Nat) : Prop := n < 115792089237316195423570985008687907853269984665640564039457584007913129639936
/-- The number modulo 2^256. -/
def wmod (n : Nat) : Nat := n % 115792089237316195423570985008687907853269984665640564039457584007913129639936
/-- The number of four parts. -/
def num (z : Nat → Int) : Int := z 0 + z 1 * 18446744073709551616 + z 2 * 340282366920938463463374607431768211456 + z 3 * 6277101735386680763835789423207666416102355444464034512896

theorem lim_u64 (n k : Nat) : U64 (lim n k) := by
  unfold U64 lim
  split <;> constructor <;> omega
theorem lim_lo (n k : Nat) : 0 ≤ lim n k := (lim_u64 n k).1
theorem lim_hi (n k : Nat) : lim n k < 18446744073709551616 := (lim_u64 n k).2
theorem lim_zero (k : Nat) : lim 0 k = 0 := by unfold lim; split <;> rfl
theorem wmod_lt (n : Nat) : W256 (wmod n) := by unfold W256 wmod; omega
theorem wmod_of {n : Nat} (h : W256 n) : wmod n = n := by unfold W256 at h; unfold wmod; omega

theorem num_lim (n : Nat) (h : W256 n) : num (lim n) = n := by
  unfold W256 at h
  have e1 : n / 340282366920938463463374607431768211456 = n / 18446744073709551616 / 18446744073709551616 := by rw [Nat.div_div_eq_div_mul]
  have e2 : n / 6277101735386680763835789423207666416102355444464034512896 = n / 18446744073709551616 / 18446744073709551616 / 18446744073709551616 := by rw [Nat.div_div_eq_div_mul, Nat.div_div_eq_div_mul]
  unfold num lim
  rw [e1, e2]
  have h4 : n / 18446744073709551616 / 18446744073709551616 / 18446744073709551616 < 18446744073709551616 := by rw [← e2]; exact Nat.div_lt_of_lt_mul h
  generalize h1 : n / 18446744073709551616 = q1 at *
  generalize h2 : q1 / 18446744073709551616 = q2 at *
  generalize h3 : q2 / 18446744073709551616 = q3 at *
  have k0 : n % 18446744073709551616 + 18446744073709551616 * q1 = n := by rw [← h1]; exact Nat.mod_add_div n _
  have k1 : q1 % 18446744073709551616 + 18446744073709551616 * q2 = q1 := by rw [← h2]; exact Nat.mod_add_div q1 _
  have k2 : q2 % 18446744073709551616 + 18446744073709551616 * q3 = q2 := by rw [← h3]; exact Nat.mod_add_div q2 _
  have k3 : q3 % 18446744073709551616 = q3 := Nat.mod_eq_of_lt h4
  rw [k3]
  generalize n % 18446744073709551616 = r0 at *
  generalize q1 % 18446744073709551616 = r1 at *
  generalize q2 % 18446744073709551616 = r2 at *
  clear h e1 e2 h1 h2 h3 h4 k3
  show (r0 : Int) + (r1 : Int) * 18446744073709551616 + (r2 : Int) * 340282366920938463463374607431768211456 + (q3 : Int) * 6277101735386680763835789423207666416102355444464034512896 = n
  omega
theorem modOf (r q n : Nat) (hr : r < 18446744073709551616) (h : r + 18446744073709551616 * q = n) : n % 18446744073709551616 = r ∧ n / 18446744073709551616 = q := by
  subst h
  exact ⟨by rw [Nat.add_mul_mod_self_left]; exact Nat.mod_eq_of_lt hr, by rw [Nat.add_mul_div_left _ _ (by decide), Nat.div_eq_of_lt hr, Nat.zero_add]⟩
theorem lim_num (z : Nat → Int) (n : Nat) (h0 : U64 (z 0)) (h1 : U64 (z 1)) (h2 : U64 (z 2)) (h3 : U64 (z 3)) (h : num z = n) : lim n 0 = z 0 ∧ lim n 1 = z 1 ∧ lim n 2 = z 2 ∧ lim n 3 = z 3 := by
  obtain ⟨z0, e0⟩ := Int.eq_ofNat_of_zero_le h0.1
  obtain ⟨z1, e1⟩ := Int.eq_ofNat_of_zero_le h1.1
  obtain ⟨z2, e2⟩ := Int.eq_ofNat_of_zero_le h2.1
  obtain ⟨z3, e3⟩ := Int.eq_ofNat_of_zero_le h3.1
  have b0 : z0 < 18446744073709551616 := by have := h0.2; rw [e0] at this; omega
  have b1 : z1 < 18446744073709551616 := by have := h1.2; rw [e1] at this; omega
  have b2 : z2 < 18446744073709551616 := by have := h2.2; rw [e2] at this; omega
  have b3 : z3 < 18446744073709551616 := by have := h3.2; rw [e3] at this; omega
  have hn : z0 + 18446744073709551616 * (z1 + 18446744073709551616 * (z2 + 18446744073709551616 * z3)) = n := by
    unfold num at h; rw [e0, e1, e2, e3] at h; omega
  obtain ⟨m0, d0⟩ := modOf _ _ _ b0 hn
  obtain ⟨m1, d1⟩ := modOf _ _ _ b1 rfl
  obtain ⟨m2, d2⟩ := modOf _ _ _ b2 rfl
  have f1 : n / 340282366920938463463374607431768211456 = n / 18446744073709551616 / 18446744073709551616 := by rw [Nat.div_div_eq_div_mul]
  have f2 : n / 6277101735386680763835789423207666416102355444464034512896 = n / 18446744073709551616 / 18446744073709551616 / 18446744073709551616 := by rw [Nat.div_div_eq_div_mul, Nat.div_div_eq_div_mul]
  simp only [lim]
  rw [f1, f2, d0, d1, d2, m0, m1, m2, Nat.mod_eq_of_lt b3, e0, e1, e2, e3]
  exact ⟨rfl, rfl, rfl, rfl⟩
theorem num_lt (z : Nat → Int) (h0 : U64 (z 0)) (h1 : U64 (z 1)) (h2 : U64 (z 2)) (h3 : U64 (z 3)) : 0 ≤ num z ∧ num z < 115792089237316195423570985008687907853269984665640564039457584007913129639936 := by
  unfold U64 at *; unfold num; constructor <;> omega
/-- Four parts are a number's. -/
theorem num_pos (z : Nat → Int) (h0 : U64 (z 0)) (h1 : U64 (z 1)) (h2 : U64 (z 2)) (h3 : U64 (z 3)) : ∃ n : Nat, W256 n ∧ num z = n := by
  obtain ⟨a, b⟩ := num_lt z h0 h1 h2 h3
  refine ⟨(num z).toNat, ?_, (Int.toNat_of_nonneg a).symm⟩
  unfold W256; omega
theorem lim_ext {a b : Nat} (ha : W256 a) (hb : W256 b) (h : ∀ k, k < 4 → lim a k = lim b k) : a = b := by
  have e1 := num_lim a ha
  have e2 := num_lim b hb
  have : num (lim a) = num (lim b) := by unfold num; rw [h 0 (by omega), h 1 (by omega), h 2 (by omega), h 3 (by omega)]
  omega

/-! ### Sums and differences, part by part -/
def addO (a b : Nat) (k : Nat) (l : Int) : Int := (lim a k + lim b k + l) % 18446744073709551616
def addN (a b : Nat) (k : Nat) (l : Int) : Int := (lim a k + lim b k + l) / 18446744073709551616
def subO (a b : Nat) (k : Nat) (l : Int) : Int := (lim a k - lim b k - l) % 18446744073709551616
def subN (a b : Nat) (k : Nat) (l : Int) : Int := if lim a k < lim b k + l then 1 else 0
/-- A carry. -/
def Bit (l : Int) : Prop := 0 ≤ l ∧ l ≤ 1
theorem bit_zero : Bit 0 := ⟨by omega, by omega⟩
theorem addN_bit (a b k : Nat) (l : Int) (h : Bit l) : Bit (addN a b k l) := by
  have ha := lim_u64 a k; have hb := lim_u64 b k
  unfold U64 at *; unfold Bit at *; unfold addN; omega
theorem subN_bit (a b k : Nat) (l : Int) : Bit (subN a b k l) := by unfold Bit subN; split <;> omega
theorem addO_u64 (a b k : Nat) (l : Int) : U64 (addO a b k l) := by unfold U64 addO; omega
theorem subO_u64 (a b k : Nat) (l : Int) : U64 (subO a b k l) := by unfold U64 subO; omega

theorem add_step (x y l : Int) : (x + y + l) % 18446744073709551616 + 18446744073709551616 * ((x + y + l) / 18446744073709551616) = x + y + l := Int.emod_add_mul_ediv ..
theorem add_parts (a b : Nat) (ha : W256 a) (hb : W256 b) (z : Nat → Int) (l1 l2 l3 : Int) (h0 : z 0 = addO a b 0 0) (hl1 : l1 = addN a b 0 0) (h1 : z 1 = addO a b 1 l1) (hl2 : l2 = addN a b 1 l1)
    (h2 : z 2 = addO a b 2 l2) (hl3 : l3 = addN a b 2 l2) (h3 : z 3 = addO a b 3 l3) : lim (wmod (a + b)) 0 = z 0 ∧ lim (wmod (a + b)) 1 = z 1 ∧ lim (wmod (a + b)) 2 = z 2 ∧ lim (wmod (a + b)) 3 = z 3 := by
  have u0 : U64 (z 0) := by rw [h0]; exact addO_u64 ..
  have u1 : U64 (z 1) := by rw [h1]; exact addO_u64 ..
  have u2 : U64 (z 2) := by rw [h2]; exact addO_u64 ..
  have u3 : U64 (z 3) := by rw [h3]; exact addO_u64 ..
  refine lim_num z _ u0 u1 u2 u3 ?_
  have ea := num_lim a ha
  have eb := num_lim b hb
  have k0 : z 0 + 18446744073709551616 * l1 = lim a 0 + lim b 0 + 0 := by rw [h0, hl1]; exact add_step ..
  have k1 : z 1 + 18446744073709551616 * l2 = lim a 1 + lim b 1 + l1 := by rw [h1, hl2]; exact add_step ..
  have k2 : z 2 + 18446744073709551616 * l3 = lim a 2 + lim b 2 + l2 := by rw [h2, hl3]; exact add_step ..
  have k3 : z 3 + 18446744073709551616 * addN a b 3 l3 = lim a 3 + lim b 3 + l3 := by rw [h3]; exact add_step ..
  obtain ⟨n0, n1⟩ := num_lt z u0 u1 u2 u3
  have key : num z + 115792089237316195423570985008687907853269984665640564039457584007913129639936 * addN a b 3 l3 = ((a + b : Nat) : Int) := by
    rw [Int.natCast_add, ← ea, ← eb]
    unfold num
    clear ea eb h0 h1 h2 h3 hl1 hl2 hl3 u0 u1 u2 u3 n0 n1
    omega
  unfold wmod
  rw [Int.natCast_emod, ← key]
  generalize num z = t at *
  generalize addN a b 3 l3 = c at *
  show t = (t + 115792089237316195423570985008687907853269984665640564039457584007913129639936 * c) % 115792089237316195423570985008687907853269984665640564039457584007913129639936
  rw [Int.add_mul_emod_self_left, Int.emod_eq_of_lt n0 n1]

/-- The difference modulo 2^256. -/
def wsub (a b : Nat) : Nat := wmod (a + (115792089237316195423570985008687907853269984665640564039457584007913129639936 - b))
theorem sub_step (x y l : Int) (hx : U64 x) (hy : U64 y) (hl : Bit l) : (x - y - l) % 18446744073709551616 = x - y - l + 18446744073709551616 * (if x < y + l then 1 else 0) := by
  unfold U64 at *; unfold Bit at *
  split <;> omega
theorem sub_parts (a b : Nat) (ha : W256 a) (hb : W256 b) (z : Nat → Int) (l1 l2 l3 : Int) (h0 : z 0 = subO a b 0 0) (hl1 : l1 = subN a b 0 0) (h1 : z 1 = subO a b 1 l1) (hl2 : l2 = subN a b 1 l1)
    (h2 : z 2 = subO a b 2 l2) (hl3 : l3 = subN a b 2 l2) (h3 : z 3 = subO a b 3 l3) : lim (wsub a b) 0 = z 0 ∧ lim (wsub a b) 1 = z 1 ∧ lim (wsub a b) 2 = z 2 ∧ lim (wsub a b) 3 = z 3 := by
  have u0 : U64 (z 0) := by rw [h0]; exact subO_u64 ..
  have u1 : U64 (z 1) := by rw [h1]; exact subO_u64 ..
  have u2 : U64 (z 2) := by rw [h2]; exact subO_u64 ..
  have u3 : U64 (z 3) := by rw [h3]; exact subO_u64 ..
  have v1 : Bit l1 := by rw [hl1]; exact subN_bit ..
  have v2 : Bit l2 := by rw [hl2]; exact subN_bit ..
  have v3 : Bit l3 := by rw [hl3]; exact subN_bit ..
  refine lim_num z _ u0 u1 u2 u3 ?_
  have ea := num_lim a ha
  have eb := num_lim b hb
  have k0 : z 0 = lim a 0 - lim b 0 - 0 + 18446744073709551616 * l1 := by rw [h0, hl1]; exact sub_step _ _ _ (lim_u64 ..) (lim_u64 ..) bit_zero
  have k1 : z 1 = lim a 1 - lim b 1 - l1 + 18446744073709551616 * l2 := by rw [h1, hl2]; exact sub_step _ _ _ (lim_u64 ..) (lim_u64 ..) v1
  have k2 : z 2 = lim a 2 - lim b 2 - l2 + 18446744073709551616 * l3 := by rw [h2, hl3]; exact sub_step _ _ _ (lim_u64 ..) (lim_u64 ..) v2
  have k3 : z 3 = lim a 3 - lim b 3 - l3 + 18446744073709551616 * subN a b 3 l3 := by rw [h3]; exact sub_step _ _ _ (lim_u64 ..) (lim_u64 ..) v3
  obtain ⟨n0, n1⟩ := num_lt z u0 u1 u2 u3
  have key : num z = (a : Int) - b + 115792089237316195423570985008687907853269984665640564039457584007913129639936 * subN a b 3 l3 := by
    rw [← ea, ← eb]
    unfold num
    clear ea eb h0 h1 h2 h3 hl1 hl2 hl3 u0 u1 u2 u3 n0 n1 v1 v2 v3
    omega
  unfold wsub wmod
  rw [Int.natCast_emod, Int.natCast_add, Int.natCast_sub (by unfold W256 at hb; omega)]
  generalize num z = t at *
  generalize subN a b 3 l3 = c at *
  show t = ((a : Int) + (115792089237316195423570985008687907853269984665640564039457584007913129639936 - b)) % 115792089237316195423570985008687907853269984665640564039457584007913129639936
  have e : (a : Int) + (115792089237316195423570985008687907853269984665640564039457584007913129639936 - b) = t + 115792089237316195423570985008687907853269984665640564039457584007913129639936 * (1 - c) := by omega
  rw [e, Int.add_mul_emod_self_left, Int.emod_eq_of_lt n0 n1]

/-! ### The order -/
def cmpO (l : Int) (x y : Int) : Int := if x < y then -1 else if y < x then 1 else l
def cmpN (a b : Nat) (k : Nat) (l : Int) : Int := cmpO l (lim a k) (lim b k)
def Tri (l : Int) : Prop := l = -1 ∨ l = 0 ∨ l = 1
theorem cmpN_tri (a b k : Nat) (l : Int) (h : Tri l) : Tri (cmpN a b k l) := by unfold cmpN cmpO Tri at *; split <;> (try split) <;> simp_all
/-- The order of two numbers. -/
def wcmp (a b : Nat) : Int := if a < b then -1 else if b < a then 1 else 0
theorem cmp_parts (a b : Nat) (ha : W256 a) (hb : W256 b) : cmpN a b 3 (cmpN a b 2 (cmpN a b 1 (cmpN a b 0 0))) = wcmp a b := by
  have ea := num_lim a ha
  have eb := num_lim b hb
  have a0 := lim_u64 a 0; have a1 := lim_u64 a 1; have a2 := lim_u64 a 2; have a3 := lim_u64 a 3
  have b0 := lim_u64 b 0; have b1 := lim_u64 b 1; have b2 := lim_u64 b 2; have b3 := lim_u64 b 3
  unfold num at *; unfold cmpN cmpO wcmp; unfold U64 at *
  generalize lim a 0 = x0 at *; generalize lim a 1 = x1 at *; generalize lim a 2 = x2 at *; generalize lim a 3 = x3 at *
  generalize lim b 0 = y0 at *; generalize lim b 1 = y1 at *; generalize lim b 2 = y2 at *; generalize lim b 3 = y3 at *
  by_cases h3 : x3 < y3
  · rw [if_pos h3, if_pos (by omega)]
  · by_cases h3' : y3 < x3
    · rw [if_neg h3, if_pos h3', if_neg (by omega), if_pos (by omega)]
    · obtain rfl : x3 = y3 := by omega
      rw [if_neg h3, if_neg h3]
      by_cases h2 : x2 < y2
      · rw [if_pos h2, if_pos (by omega)]
      · by_cases h2' : y2 < x2
        · rw [if_neg h2, if_pos h2', if_neg (by omega), if_pos (by omega)]
        · obtain rfl : x2 = y2 := by omega
          rw [if_neg h2, if_neg h2]
          by_cases h1 : x1 < y1
          · rw [if_pos h1, if_pos (by omega)]
          · by_cases h1' : y1 < x1
            · rw [if_neg h1, if_pos h1', if_neg (by omega), if_pos (by omega)]
            · obtain rfl : x1 = y1 := by omega
              rw [if_neg h1, if_neg h1]
              by_cases h0 : x0 < y0
              · rw [if_pos h0, if_pos (by omega)]
              · by_cases h0' : y0 < x0
                · rw [if_neg h0, if_pos h0', if_neg (by omega), if_pos (by omega)]
                · rw [if_neg h0, if_neg h0', if_neg (by omega), if_neg (by omega)]
end Go.Proofs.Ytbkgipggblphlaa
