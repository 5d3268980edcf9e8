/- Digits to the base 256, what is carried, and numbers made of digits: plain arithmetic. -/
import Derived.Test.YtbkgipggblphlaaMath
namespace Go.Proofs.Ytbkgipggblphlaa

/-- Digit t of a number. -/
def dg (a t : Nat) : Nat := a / 256 ^ t % 256
theorem dg_lt (a t : Nat) : dg a t < 256 := Nat.mod_lt _ (by decide)
theorem dg_lim (a k i : Nat) (hk : k < 4) (hi : i < 8) : (lim a k / 256 ^ i) % 256 = (dg a (8 * k + i) : Int) := by
  unfold dg
  have h : ∀ x : Nat, ((x % 18446744073709551616 : Nat) : Int) / 256 ^ i % 256 = ((x / 256 ^ i % 256 : Nat) : Int) := by
    intro x
    have : i = 0 ∨ i = 1 ∨ i = 2 ∨ i = 3 ∨ i = 4 ∨ i = 5 ∨ i = 6 ∨ i = 7 := by omega
    rcases this with rfl | rfl | rfl | rfl | rfl | rfl | rfl | rfl <;> simp only [Nat.reducePow, Int.reducePow] <;> omega
  match k, hk with
  | 0, _ =>
    show ((a % 18446744073709551616 : Nat) : Int) / 256 ^ i % 256 = _
    rw [h a, Nat.mul_zero, Nat.zero_add]
  | 1, _ =>
    show ((a / 18446744073709551616 % 18446744073709551616 : Nat) : Int) / 256 ^ i % 256 = _
    rw [h, show (18446744073709551616 : Nat) = 256 ^ (8 * 1) by decide, Nat.div_div_eq_div_mul, ← Nat.pow_add]
  | 2, _ =>
    show ((a / 340282366920938463463374607431768211456 % 18446744073709551616 : Nat) : Int) / 256 ^ i % 256 = _
    rw [h, show (340282366920938463463374607431768211456 : Nat) = 256 ^ (8 * 2) by decide, Nat.div_div_eq_div_mul, ← Nat.pow_add]
  | 3, _ =>
    show ((a / 6277101735386680763835789423207666416102355444464034512896 % 18446744073709551616 : Nat) : Int) / 256 ^ i % 256 = _
    rw [h, show (6277101735386680763835789423207666416102355444464034512896 : Nat) = 256 ^ (8 * 3) by decide, Nat.div_div_eq_div_mul, ← Nat.pow_add]

theorem pow_le256 {m n : Nat} (h : m ≤ n) : (256 : Int) ^ m ≤ 256 ^ n := by
  have h1 : 256 ^ m ≤ 256 ^ n := Nat.pow_le_pow_right (by decide) h
  have h2 := Int.ofNat_le.2 h1
  rw [Int.natCast_pow, Int.natCast_pow] at h2
  exact h2
/-- The number of n digits, the lowest one first. -/
def valI (d : Nat → Int) : Nat → Int
  | 0 => 0
  | n + 1 => valI d n + d n * 256 ^ n
theorem valI_congr (d e : Nat → Int) : ∀ n, (∀ j, j < n → d j = e j) → valI d n = valI e n
  | 0, _ => rfl
  | n + 1, h => by rw [valI, valI, valI_congr d e n (fun j hj => h j (by omega)), h n (by omega)]
theorem valI_add (d : Nat → Int) (m : Nat) : ∀ n, valI d (m + n) = valI d m + valI (fun j => d (m + j)) n * 256 ^ m
  | 0 => by simp [valI]
  | n + 1 => by
    rw [← Nat.add_assoc, valI, valI, valI_add d m n, Int.pow_add, Int.add_mul, ← Int.add_assoc, Int.mul_assoc (d (m + n)), Int.mul_comm ((256 : Int) ^ m) (256 ^ n)]
theorem valI_sum (d e : Nat → Int) : ∀ n, valI (fun j => d j + e j) n = valI d n + valI e n
  | 0 => rfl
  | n + 1 => by rw [valI, valI, valI, valI_sum d e n, Int.add_mul]; omega
theorem valI_sub (d e : Nat → Int) : ∀ n, valI (fun j => d j - e j) n = valI d n - valI e n
  | 0 => rfl
  | n + 1 => by rw [valI, valI, valI, valI_sub d e n, Int.sub_mul]; omega
theorem valI_zero : ∀ n, valI (fun _ => 0) n = 0
  | 0 => rfl
  | n + 1 => by rw [valI, valI_zero n]; simp
theorem valI_set (d : Nat → Int) (k : Nat) (v : Int) : ∀ n, k < n → valI (fun j => if j = k then v else d j) n = valI d n + (v - d k) * 256 ^ k
  | 0, h => by omega
  | n + 1, h => by
    rw [valI, valI]
    by_cases e : n = k
    · subst e
      rw [valI_congr (fun j => if j = n then v else d j) d n (fun j hj => if_neg (by omega)), if_pos rfl, Int.sub_mul]
      omega
    · rw [valI_set d k v n (by omega), if_neg e]
      omega
theorem valI_dg (a : Nat) : ∀ n, valI (fun j => (dg a j : Int)) n = ((a % 256 ^ n : Nat) : Int)
  | 0 => by simp [valI, Nat.mod_one]
  | n + 1 => by
    rw [valI, valI_dg a n, Nat.pow_succ, Nat.mod_mul]
    unfold dg
    rw [Int.natCast_add, Int.natCast_mul, Int.natCast_pow, Int.mul_comm]
    rfl
theorem p256 : (256 : Int) ^ 32 = 115792089237316195423570985008687907853269984665640564039457584007913129639936 := by decide
theorem n256 : (256 : Nat) ^ 32 = 115792089237316195423570985008687907853269984665640564039457584007913129639936 := by decide
theorem valI_word (a : Nat) (ha : W256 a) : valI (fun j => (dg a j : Int)) 32 = (a : Int) := by
  rw [valI_dg, n256]
  unfold W256 at ha
  rw [Nat.mod_eq_of_lt ha]
theorem valI_bound (d : Nat → Int) (h : ∀ j, 0 ≤ d j ∧ d j < 256) : ∀ n, 0 ≤ valI d n ∧ valI d n < 256 ^ n
  | 0 => by simp [valI]
  | n + 1 => by
    obtain ⟨h1, h2⟩ := valI_bound d h n
    obtain ⟨h3, h4⟩ := h n
    have hp : (0 : Int) < 256 ^ n := Int.pow_pos (by decide)
    rw [valI, Int.pow_succ]
    generalize (256 : Int) ^ n = M at *
    have e1 : 0 ≤ d n * M := Int.mul_nonneg h3 (Int.le_of_lt hp)
    have e2 : (d n + 1) * M ≤ 256 * M := Int.mul_le_mul_of_nonneg_right (by omega) (Int.le_of_lt hp)
    rw [Int.add_mul] at e2
    constructor <;> omega

/-! ### Carried -/
def cyD (d : Nat → Int) : Nat → Int
  | 0 => 0
  | j + 1 => (d j + cyD d j) / 256
def rD (d : Nat → Int) (j : Nat) : Int := (d j + cyD d j) % 256
theorem rD_range (d : Nat → Int) (j : Nat) : 0 ≤ rD d j ∧ rD d j < 256 := by unfold rD; constructor <;> omega
theorem cyD_bound (d : Nat → Int) (h : ∀ j, -4194304 ≤ d j ∧ d j ≤ 4194304) : ∀ j, -4194304 ≤ cyD d j ∧ cyD d j ≤ 4194304
  | 0 => by simp [cyD]
  | j + 1 => by
    have h1 := h j
    have h2 := cyD_bound d h j
    unfold cyD
    constructor <;> omega
theorem carry_sum (d : Nat → Int) : ∀ n, valI (rD d) n + cyD d n * 256 ^ n = valI d n
  | 0 => by simp [valI, cyD]
  | n + 1 => by
    have ih := carry_sum d n
    have h : rD d n = d n + cyD d n - 256 * cyD d (n + 1) := by
      show (d n + cyD d n) % 256 = d n + cyD d n - 256 * ((d n + cyD d n) / 256)
      omega
    rw [valI, valI, h, ← ih, Int.pow_succ, Int.sub_mul, Int.add_mul]
    generalize (256 : Int) ^ n = M
    have e : cyD d (n + 1) * (M * 256) = 256 * cyD d (n + 1) * M := by
      rw [Int.mul_comm M 256, ← Int.mul_assoc, Int.mul_comm (cyD d (n + 1)) 256]
    rw [e]
    omega
/-- The number that carried digits tell. -/
theorem carried_num (d : Nat → Int) (N : Nat) (q : Int) (h : valI d 32 = (N : Int) + q * 115792089237316195423570985008687907853269984665640564039457584007913129639936) : (valI (rD d) 32).toNat = wmod N := by
  have h1 := carry_sum d 32
  obtain ⟨h2, h3⟩ := valI_bound (rD d) (rD_range d) 32
  rw [p256] at h1 h3
  unfold wmod
  generalize valI (rD d) 32 = v at *
  generalize cyD d 32 = c at *
  omega

/-! ### Made of digits -/
/-- Part p after m of its digits, from the highest one on. -/
def hor (d : Nat → Int) (p : Nat) : Nat → Int
  | 0 => 0
  | m + 1 => hor d p m * 256 + d (8 * p + 7 - m)
theorem hor_bound (d : Nat → Int) (p : Nat) (h : ∀ j, 0 ≤ d j ∧ d j < 256) : ∀ m, 0 ≤ hor d p m ∧ hor d p m < 256 ^ m
  | 0 => by simp [hor]
  | m + 1 => by
    obtain ⟨h1, h2⟩ := hor_bound d p h m
    obtain ⟨h3, h4⟩ := h (8 * p + 7 - m)
    rw [hor, Int.pow_succ]
    constructor <;> omega
theorem hor_none (d : Nat → Int) (p n : Nat) (hz : ∀ j, n ≤ j → d j = 0) : ∀ m, m ≤ 8 → n + m ≤ 8 * p + 8 → hor d p m = 0
  | 0, _, _ => rfl
  | m + 1, h, h2 => by rw [hor, hor_none d p n hz m (by omega) (by omega), hz _ (by omega)]; rfl
theorem hor_eight (d : Nat → Int) (p : Nat) : hor d p 8 = valI (fun j => d (8 * p + j)) 8 := by
  simp only [hor, valI, Nat.sub_zero, Int.pow_zero, Int.reducePow, Nat.reduceSub]
  rw [show 8 * p + 7 - 1 = 8 * p + 6 by omega, show 8 * p + 7 - 2 = 8 * p + 5 by omega, show 8 * p + 7 - 3 = 8 * p + 4 by omega, show 8 * p + 7 - 4 = 8 * p + 3 by omega, show 8 * p + 7 - 5 = 8 * p + 2 by omega, show 8 * p + 7 - 6 = 8 * p + 1 by omega, show 8 * p + 7 - 7 = 8 * p by omega]
  simp only [Nat.add_zero]
  omega
/-- The parts when the places from k on have been gone through. -/
def fdAt (d : Nat → Int) (k p : Nat) : Int := hor d p (min 8 (8 * p + 8 - k))
theorem fdAt_step (d : Nat → Int) (i : Nat) (p : Nat) (hp : p = i / 8) : fdAt d i = fun j => if j = p then fdAt d (i + 1) p * 256 + d i else fdAt d (i + 1) j := by
  funext j
  unfold fdAt
  by_cases h : j = p
  · subst h
    rw [if_pos rfl, show min 8 (8 * j + 8 - i) = (8 * j + 7 - i) + 1 by omega, show min 8 (8 * j + 8 - (i + 1)) = 8 * j + 7 - i by omega, hor, show 8 * j + 7 - (8 * j + 7 - i) = i by omega]
  · rw [if_neg h]
    congr 1
    omega
theorem fdAt_start (d : Nat → Int) (n : Nat) (hz : ∀ j, n ≤ j → d j = 0) (p : Nat) (hp : p < 4) : fdAt d (min n 32) p = 0 := by
  unfold fdAt
  by_cases h : n ≤ 8 * p + 8
  · by_cases h2 : min 8 (8 * p + 8 - min n 32) = 8
    · rw [h2]
      exact hor_none d p n hz 8 (by omega) (by omega)
    · exact hor_none d p n hz _ (by omega) (by omega)
  · rw [show min 8 (8 * p + 8 - min n 32) = 0 by omega]; rfl
theorem fdAt_u64 (d : Nat → Int) (h : ∀ j, 0 ≤ d j ∧ d j < 256) (k p : Nat) : U64 (fdAt d k p) := by
  unfold fdAt U64
  obtain ⟨h1, h2⟩ := hor_bound d p h (min 8 (8 * p + 8 - k))
  refine ⟨h1, Int.lt_of_lt_of_le h2 ?_⟩
  have : (256 : Int) ^ (min 8 (8 * p + 8 - k)) ≤ 256 ^ 8 := pow_le256 (by omega)
  exact this
theorem fdAt_room (d : Nat → Int) (h : ∀ j, 0 ≤ d j ∧ d j < 256) (i p : Nat) (hp : p = i / 8) : 0 ≤ fdAt d (i + 1) p ∧ fdAt d (i + 1) p < 72057594037927936 := by
  unfold fdAt
  obtain ⟨h1, h2⟩ := hor_bound d p h (min 8 (8 * p + 8 - (i + 1)))
  refine ⟨h1, Int.lt_of_lt_of_le h2 ?_⟩
  have : (256 : Int) ^ (min 8 (8 * p + 8 - (i + 1))) ≤ 256 ^ 7 := pow_le256 (by omega)
  exact this
theorem fd_parts (d : Nat → Int) (h : ∀ j, 0 ≤ d j ∧ d j < 256) : lim (valI d 32).toNat 0 = fdAt d 0 0 ∧ lim (valI d 32).toNat 1 = fdAt d 0 1 ∧ lim (valI d 32).toNat 2 = fdAt d 0 2 ∧ lim (valI d 32).toNat 3 = fdAt d 0 3 := by
  refine lim_num (fdAt d 0) _ (fdAt_u64 d h 0 0) (fdAt_u64 d h 0 1) (fdAt_u64 d h 0 2) (fdAt_u64 d h 0 3) ?_
  rw [Int.toNat_of_nonneg (valI_bound d h 32).1]
  have e0 : fdAt d 0 0 = valI (fun j => d (8 * 0 + j)) 8 := hor_eight d 0
  have e1 : fdAt d 0 1 = valI (fun j => d (8 * 1 + j)) 8 := hor_eight d 1
  have e2 : fdAt d 0 2 = valI (fun j => d (8 * 2 + j)) 8 := hor_eight d 2
  have e3 : fdAt d 0 3 = valI (fun j => d (8 * 3 + j)) 8 := hor_eight d 3
  have f1 := valI_add d 24 8
  have f2 := valI_add d 16 8
  have f3 := valI_add d 8 8
  have f4 : valI d 8 = fdAt d 0 0 := by
    rw [e0]; exact valI_congr _ _ 8 (fun j _ => by rw [Nat.mul_zero, Nat.zero_add])
  unfold num
  rw [show valI d 32 = valI d (24 + 8) from rfl, f1, show valI d 24 = valI d (16 + 8) from rfl, f2, show valI d 16 = valI d (8 + 8) from rfl, f3, f4, e1, e2, e3]
  rfl
theorem fd_low (d : Nat → Int) (h : ∀ j, 0 ≤ d j ∧ d j < 256) : W256 (valI d 32).toNat := by
  obtain ⟨h1, h2⟩ := valI_bound d h 32
  rw [p256] at h2
  unfold W256
  omega

/-! ### Products -/
theorem mul_end (x y i : Nat) (hy : W256 y) (hi : i ≤ 32) (M : Int) : ∃ q : Int, M * 256 ^ i * valI (fun j => (dg y j : Int)) (32 - i) = M * 256 ^ i * y + q * 115792089237316195423570985008687907853269984665640564039457584007913129639936 := by
  have h := valI_add (fun j => (dg y j : Int)) (32 - i) i
  rw [show 32 - i + i = 32 by omega, valI_word y hy] at h
  refine ⟨- (M * valI (fun j => (dg y (32 - i + j) : Int)) i), ?_⟩
  rw [h, Int.mul_add]
  have e : M * 256 ^ i * (valI (fun j => (dg y (32 - i + j) : Int)) i * 256 ^ (32 - i)) = M * valI (fun j => (dg y (32 - i + j) : Int)) i * 115792089237316195423570985008687907853269984665640564039457584007913129639936 := by
    rw [← p256, show (256 : Int) ^ 32 = 256 ^ i * 256 ^ (32 - i) by rw [← Int.pow_add]; congr 1; omega]
    generalize valI (fun j => (dg y (32 - i + j) : Int)) i = v
    generalize (256 : Int) ^ i = A
    generalize (256 : Int) ^ (32 - i) = B
    rw [Int.mul_assoc M A, ← Int.mul_assoc A v B, Int.mul_comm A v, Int.mul_assoc v A B, ← Int.mul_assoc M v]
  rw [e, Int.neg_mul]
  omega
end Go.Proofs.Ytbkgipggblphlaa
