/- The lowest bit of a number, and all its bits one behind the other. -/
import Derived.Test.YtnlcllhjhbaigaaDoorBitM
namespace Go.Proofs.YtnlcllhjhbaigaaDoor
open Go Go.RowKit

def tzF : Nat → Nat → Nat
  | 0, _ => 0
  | f + 1, p => if p % 2 = 1 then 0 else tzF f (p / 2) + 1
/-- The place of a number's lowest bit. -/
def tz (p : Nat) : Nat := tzF 64 p
theorem tzF_split : ∀ (f p : Nat), p ≠ 0 → p < 2 ^ f → ∃ m, p = 2 ^ tzF f p * (2 * m + 1) ∧ tzF f p < f
  | 0, p, h0, hp => by simp at hp; omega
  | f + 1, p, h0, hp => by
    unfold tzF
    by_cases h : p % 2 = 1
    · rw [if_pos h]; exact ⟨p / 2, by simp; omega, by omega⟩
    · rw [if_neg h]
      rw [Nat.pow_succ] at hp
      obtain ⟨m, hm, hf⟩ := tzF_split f (p / 2) (by omega) (by omega)
      refine ⟨m, ?_, by omega⟩
      have h2 : p = 2 * (p / 2) := by omega
      rw [Nat.pow_succ, Nat.mul_right_comm, ← hm]
      omega
theorem tz_split (p : Nat) (h0 : p ≠ 0) (hp : p < 18446744073709551616) : ∃ m, p = 2 ^ tz p * (2 * m + 1) ∧ tz p < 64 := tzF_split 64 p h0 (by omega)

theorem odd_bit (m j : Nat) : (2 * m + 1).testBit j = (decide (j = 0) || (decide (1 ≤ j) && m.testBit (j - 1))) := by
  cases j with
  | zero => simp
  | succ j =>
    rw [Nat.testBit_succ, show (2 * m + 1) / 2 = m by omega]
    simp
theorem split_bit (t m j : Nat) : (2 ^ t * (2 * m + 1)).testBit j = (decide (j = t) || (decide (t + 1 ≤ j) && m.testBit (j - t - 1))) := by
  rw [Nat.testBit_two_pow_mul, odd_bit]
  by_cases h1 : j < t
  · rw [decide_eq_false (show ¬ j ≥ t by omega), decide_eq_false (show ¬ j = t by omega), decide_eq_false (show ¬ t + 1 ≤ j by omega)]; rfl
  · by_cases h2 : j = t
    · subst h2; simp
    · rw [decide_eq_true (show j ≥ t by omega), decide_eq_false (show ¬ j - t = 0 by omega), decide_eq_true (show 1 ≤ j - t by omega), decide_eq_false h2, decide_eq_true (show t + 1 ≤ j by omega)]; rfl

/-- Without its lowest bit. -/
def clr (p : Nat) : Nat := p - 2 ^ tz p
theorem clr_lt (p : Nat) (h0 : p ≠ 0) : clr p < p := by
  unfold clr
  have := Nat.two_pow_pos (tz p)
  omega
theorem clr_bit (p : Nat) (h0 : p ≠ 0) (hp : p < 18446744073709551616) (j : Nat) : (clr p).testBit j = (p.testBit j && decide (j ≠ tz p)) := by
  obtain ⟨m, hm, _⟩ := tz_split p h0 hp
  have e : clr p = 2 ^ tz p * (2 * m) := by unfold clr; rw [Nat.mul_add, Nat.mul_one] at hm; omega
  rw [e]
  generalize tz p = t at *
  rw [hm, split_bit, Nat.testBit_two_pow_mul]
  by_cases h1 : j < t
  · rw [decide_eq_false (show ¬ j ≥ t by omega), decide_eq_false (show ¬ j = t by omega), decide_eq_false (show ¬ t + 1 ≤ j by omega)]; rfl
  · by_cases h2 : j = t
    · subst h2; simp
    · rw [decide_eq_true (show j ≥ t by omega), decide_eq_false h2, decide_eq_true (show t + 1 ≤ j by omega), decide_eq_true (show j ≠ t from h2)]
      obtain ⟨i, hi⟩ : ∃ i, j - t = i + 1 := ⟨j - t - 1, by omega⟩
      rw [hi, Nat.testBit_succ, show 2 * m / 2 = m by omega]
      simp
theorem and_pred (p : Nat) (h0 : p ≠ 0) (hp : p < 18446744073709551616) : p &&& (p - 1) = clr p := by
  refine Nat.eq_of_testBit_eq fun j => ?_
  rw [Nat.testBit_and, clr_bit p h0 hp]
  obtain ⟨m, hm, _⟩ := tz_split p h0 hp
  have e : p - 1 = 2 ^ tz p * (2 * m) + (2 ^ tz p - 1) := by
    have := Nat.two_pow_pos (tz p)
    rw [Nat.mul_add, Nat.mul_one] at hm; omega
  rw [e]
  generalize tz p = t at *
  rw [Nat.testBit_two_pow_mul_add _ (by have := Nat.two_pow_pos t; omega), hm, split_bit]
  by_cases h1 : j < t
  · rw [if_pos h1, decide_eq_false (show ¬ j = t by omega), decide_eq_false (show ¬ t + 1 ≤ j by omega)]; rfl
  · rw [if_neg h1]
    by_cases h2 : j = t
    · subst h2; simp
    · rw [decide_eq_false h2, decide_eq_true (show t + 1 ≤ j by omega), decide_eq_true (show j ≠ t from h2)]
      obtain ⟨i, hi⟩ : ∃ i, j - t = i + 1 := ⟨j - t - 1, by omega⟩
      rw [hi, Nat.testBit_succ, show 2 * m / 2 = m by omega]
      simp
theorem and_neg (p : Nat) (h0 : p ≠ 0) (hp : p < 18446744073709551616) : p &&& (18446744073709551616 - p) = 2 ^ tz p := by
  obtain ⟨m, hm, ht⟩ := tz_split p h0 hp
  generalize tz p = t at *
  have e64 : (18446744073709551616 : Nat) = 2 ^ t * (2 * 2 ^ (63 - t)) := by
    rw [← Nat.pow_succ', ← Nat.pow_add, show t + (63 - t + 1) = 64 by omega]
  have hmt : m < 2 ^ (63 - t) := by
    have h1 : 2 ^ t * (2 * m + 1) < 2 ^ t * (2 * 2 ^ (63 - t)) := by rw [← hm, ← e64]; exact hp
    have := Nat.lt_of_mul_lt_mul_left h1
    omega
  have e : 18446744073709551616 - p = 2 ^ t * (2 * (2 ^ (63 - t) - (m + 1)) + 1) := by
    rw [hm, e64, ← Nat.mul_sub]
    congr 1
    omega
  rw [e, hm]
  refine Nat.eq_of_testBit_eq fun j => ?_
  rw [Nat.testBit_and, split_bit, split_bit, Nat.testBit_two_pow, Nat.testBit_two_pow_sub_succ hmt]
  by_cases h2 : j = t
  · subst h2; simp
  · rw [decide_eq_false h2, decide_eq_false (show ¬ t = j from fun h => h2 h.symm)]
    cases decide (t + 1 ≤ j) <;> cases m.testBit (j - t - 1) <;> simp

/-- The places of a number's bits, the lowest one first. -/
def onesL (p : Nat) : List Nat := if h : p = 0 then [] else tz p :: onesL (clr p)
termination_by p
decreasing_by exact clr_lt p h
theorem onesL_zero : onesL 0 = [] := by rw [onesL]; simp
theorem onesL_succ (p : Nat) (h : p ≠ 0) : onesL p = tz p :: onesL (clr p) := by rw [onesL, dif_neg h]
theorem onesL_mem (p : Nat) : p < 18446744073709551616 → ∀ j, j ∈ onesL p ↔ p.testBit j = true := by
  induction p using Nat.strongRecOn with
  | _ p ih =>
    intro hp j
    by_cases h : p = 0
    · subst h; rw [onesL_zero]; simp
    · rw [onesL_succ p h, List.mem_cons, ih (clr p) (clr_lt p h) (by have := clr_lt p h; omega), clr_bit p h hp]
      obtain ⟨m, hm, _⟩ := tz_split p h hp
      have ht : p.testBit (tz p) = true := by
        generalize tz p = t at *
        rw [hm, split_bit]; simp
      by_cases e : j = tz p
      · rw [e, ht]; simp
      · simp [e]

/-- The places of the bits of a word's last n parts. -/
def restF (a : Nat) : Nat → Nat → List Nat
  | 0, _ => []
  | n + 1, i => (onesL (ln a i)).map (64 * i + ·) ++ restF a n (i + 1)
/-- All of them. -/
def allOnes (a : Nat) : List Nat := restF a 4 0
theorem restF_mem (a : Nat) : ∀ (n i q : Nat), q ∈ restF a n i ↔ (64 * i ≤ q ∧ q < 64 * (i + n) ∧ a.testBit q = true)
  | 0, i, q => by unfold restF; simp; omega
  | n + 1, i, q => by
    unfold restF
    rw [List.mem_append, restF_mem a n (i + 1) q, List.mem_map]
    constructor
    · rintro (⟨j, hj, rfl⟩ | ⟨h1, h2, h3⟩)
      · rw [onesL_mem _ (ln_lt a i), ln_bit] at hj
        simp only [Bool.and_eq_true, decide_eq_true_eq] at hj
        exact ⟨by omega, by omega, hj.2⟩
      · exact ⟨by omega, by omega, h3⟩
    · rintro ⟨h1, h2, h3⟩
      by_cases h : q < 64 * (i + 1)
      · refine .inl ⟨q - 64 * i, ?_, by omega⟩
        rw [onesL_mem _ (ln_lt a i), ln_bit, show 64 * i + (q - 64 * i) = q by omega, h3]
        simp; omega
      · exact .inr ⟨by omega, by omega, h3⟩
theorem allOnes_mem (a : Nat) (ha : W256 a) (q : Nat) : q ∈ allOnes a ↔ a.testBit q = true := by
  unfold allOnes
  rw [restF_mem]
  refine ⟨fun h => h.2.2, fun h => ⟨by omega, ?_, h⟩⟩
  rcases Nat.lt_or_ge q 256 with h' | h'
  · omega
  · have : a.testBit q = false := Nat.testBit_lt_two_pow (Nat.lt_of_lt_of_le ((w256_pow a).1 ha) (Nat.pow_le_pow_right (by omega) h'))
    rw [this] at h; cases h
theorem allOnes_lt (a q : Nat) (h : q ∈ allOnes a) : q < 256 := by
  have := ((restF_mem a 4 0 q).1 h).2.1
  omega
end Go.Proofs.YtnlcllhjhbaigaaDoor
