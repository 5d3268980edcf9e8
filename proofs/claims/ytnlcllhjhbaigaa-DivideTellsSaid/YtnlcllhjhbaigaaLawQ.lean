/- Words compared by their parts; the top bit; signed quotients and remainders. -/
import Derived.Test.YtnlcllhjhbaigaaDivG
namespace Go.Proofs.Ytnlcllhjhbaigaa
open Go Go.RowKit

theorem eqv_of (a b : Nat) (ha : W256 a) (hb : W256 b) : (lim a 0 == lim b 0 && lim a 1 == lim b 1 && lim a 2 == lim b 2 && lim a 3 == lim b 3) = decide (a = b) := by
  by_cases h : a = b
  · subst h; simp
  · rw [decide_eq_false h]
    refine Bool.eq_false_iff.2 fun e => h ?_
    simp only [Bool.and_eq_true, beq_iff_eq] at e
    exact lim_ext ha hb fun k hk => by
      rcases (show k = 0 ∨ k = 1 ∨ k = 2 ∨ k = 3 by omega) with rfl | rfl | rfl | rfl
      · exact e.1.1.1
      · exact e.1.1.2
      · exact e.1.2
      · exact e.2
theorem zero_of (a : Nat) (ha : W256 a) : (lim a 0 == 0 && lim a 1 == 0 && lim a 2 == 0 && lim a 3 == 0) = decide (a = 0) := by
  have h := eqv_of a 0 ha (by unfold W256; omega)
  simpa only [lim_zero] using h

theorem top_of (a : Nat) (ha : W256 a) : decide (9223372036854775808 ≤ lim a 3) = negN a := by
  unfold negN
  refine decide_eq_decide.2 ?_
  have h : lim a 3 = ((a / 6277101735386680763835789423207666416102355444464034512896 % 18446744073709551616 : Nat) : Int) := rfl
  rw [h]
  unfold W256 at ha
  constructor <;> intro h' <;> omega

theorem wsub_zero (a : Nat) (ha : W256 a) (h : a ≠ 0) : wsub 0 a = 115792089237316195423570985008687907853269984665640564039457584007913129639936 - a := by
  unfold W256 at ha; unfold wsub wmod; omega
theorem wsub_zero_zero : wsub 0 0 = 0 := by decide

theorem szN_pos (a : Nat) (h : negN a = false) : szN a = a := by unfold szN sgN; rw [h]; rfl
theorem szN_neg (a : Nat) (ha : W256 a) (h : negN a = true) : szN a = 115792089237316195423570985008687907853269984665640564039457584007913129639936 - a ∧ 0 < szN a := by
  have hk : 57896044618658097711785492504343953926634992332820282019728792003956564819968 ≤ a := by unfold negN at h; simpa using h
  have e : szN a = wsub 0 a := by unfold szN sgN; rw [h]; rfl
  rw [e, wsub_zero a ha (by omega)]
  unfold W256 at ha
  omega
theorem szN_le (a : Nat) (ha : W256 a) : szN a ≤ 57896044618658097711785492504343953926634992332820282019728792003956564819968 := by
  cases h : negN a with
  | false =>
    rw [szN_pos a h]
    unfold negN at h
    simp at h
    omega
  | true =>
    have hk : 57896044618658097711785492504343953926634992332820282019728792003956564819968 ≤ a := by unfold negN at h; simpa using h
    have := (szN_neg a ha h).1
    omega
theorem szN_zero (a : Nat) (ha : W256 a) : szN a = 0 ↔ a = 0 := by
  cases h : negN a with
  | false => rw [szN_pos a h]
  | true =>
    have := szN_neg a ha h
    have hk : 57896044618658097711785492504343953926634992332820282019728792003956564819968 ≤ a := by unfold negN at h; simpa using h
    omega

/-- A word is a signed number of that size, but for some times 2^256. -/
theorem sg_int (a : Nat) (s : Bool) (ha : W256 a) : ∃ k : Int, (sgN a s : Int) = (if s = true then -(a : Int) else a) + k * 115792089237316195423570985008687907853269984665640564039457584007913129639936 := by
  cases s with
  | false => exact ⟨0, by unfold sgN; simp⟩
  | true =>
    by_cases h0 : a = 0
    · subst h0; exact ⟨0, by unfold sgN; simp [wsub_zero_zero]⟩
    · refine ⟨1, ?_⟩
      unfold sgN
      simp only [if_true]
      rw [wsub_zero a ha h0]
      unfold W256 at ha
      omega
theorem sz_int (a : Nat) (ha : W256 a) : ∃ k : Int, (a : Int) = (if negN a = true then -(szN a : Int) else szN a) + k * 115792089237316195423570985008687907853269984665640564039457584007913129639936 := by
  cases h : negN a with
  | false => exact ⟨0, by rw [szN_pos a h]; simp⟩
  | true =>
    refine ⟨1, ?_⟩
    have := (szN_neg a ha h).1
    unfold W256 at ha
    simp only [if_true]
    omega

theorem wmod_int (x y : Nat) (k : Int) (h : (x : Int) = y + k * 115792089237316195423570985008687907853269984665640564039457584007913129639936) : wmod x = wmod y := by
  unfold wmod; omega

/-- Signed: the quotient's times the divisor, and the remainder, is what was divided. -/
theorem sback (a b : Nat) (ha : W256 a) (hb : W256 b) : wmod (wmod (sgN (szN a / szN b) (negN a != negN b) * b) + sgN (szN a % szN b) (negN a)) = a := by
  have hA := szN_le a ha
  have hq : W256 (szN a / szN b) := by unfold W256; have := Nat.div_le_self (szN a) (szN b); omega
  have hr : W256 (szN a % szN b) := by unfold W256; have := Nat.mod_le (szN a) (szN b); omega
  obtain ⟨k1, e1⟩ := sg_int (szN a / szN b) (negN a != negN b) hq
  obtain ⟨k2, e2⟩ := sz_int b hb
  obtain ⟨k3, e3⟩ := sg_int (szN a % szN b) (negN a) hr
  obtain ⟨k4, e4⟩ := sz_int a ha
  have hd := Nat.div_add_mod (szN a) (szN b)
  generalize sgN (szN a / szN b) (negN a != negN b) = s at *
  generalize sgN (szN a % szN b) (negN a) = t at *
  generalize hq' : szN a / szN b = q at *
  generalize hr' : szN a % szN b = r at *
  have hd' : ((szN a : Nat) : Int) = (szN b : Int) * q + r := by rw [← hd]; simp
  rw [← wmod_of ha]
  have e0 : wmod (wmod (s * b) + t) = wmod (s * b + t) := by unfold wmod; omega
  rw [e0, wmod_of ha]
  have key : ∃ k : Int, ((s * b + t : Nat) : Int) = a + k * 115792089237316195423570985008687907853269984665640564039457584007913129639936 := by
    have hsb : ((s * b + t : Nat) : Int) = (s : Int) * b + t := by simp
    rw [hsb]
    generalize (s : Int) = S at *
    generalize (b : Int) = Bb at *
    generalize (t : Int) = T at *
    generalize ((a : Nat) : Int) = Aa at *
    generalize ((szN a : Nat) : Int) = A at *
    generalize ((szN b : Nat) : Int) = B at *
    generalize (q : Int) = Q at *
    generalize (r : Int) = R at *
    have hs1 : S * Bb = (if (negN a != negN b) = true then -Q else Q) * Bb + k1 * Bb * 115792089237316195423570985008687907853269984665640564039457584007913129639936 := by
      rw [e1, Int.add_mul, Int.mul_right_comm k1]
    have hs2 : Q * Bb = Q * (if negN b = true then -B else B) + Q * k2 * 115792089237316195423570985008687907853269984665640564039457584007913129639936 := by
      rw [e2, Int.mul_add, Int.mul_assoc]
    have hc := Int.mul_comm B Q
    cases hna : negN a <;> cases hnb : negN b <;> rw [hna] at hs1 e3 e4 <;> rw [hnb] at hs1 hs2 <;> simp only [Bool.true_bne, Bool.false_bne, Bool.not_true, Bool.not_false, if_true, Bool.false_eq_true, if_false, Int.neg_mul, Int.mul_neg] at hs1 hs2 e3 e4
    · exact ⟨k1 * Bb + Q * k2 + k3 - k4, by omega⟩
    · exact ⟨k1 * Bb - Q * k2 + k3 - k4, by omega⟩
    · exact ⟨k1 * Bb - Q * k2 + k3 - k4, by omega⟩
    · exact ⟨k1 * Bb + Q * k2 + k3 - k4, by omega⟩
  obtain ⟨k, hk⟩ := key
  have := wmod_int _ _ k hk
  rw [this, wmod_of ha]

/-- The remainder is 0, or has the sign of what was divided. -/
theorem sign_of_rest (a b : Nat) (ha : W256 a) (hb : W256 b) (h0 : b ≠ 0) : sgN (szN a % szN b) (negN a) = 0 ∨ sgN (szN a % szN b) (negN a) ≠ 0 ∧ negN (sgN (szN a % szN b) (negN a)) = negN a := by
  have hB := szN_le b hb
  have hB0 : szN b ≠ 0 := fun e => h0 ((szN_zero b hb).1 e)
  have hr : szN a % szN b < szN b := Nat.mod_lt _ (by omega)
  generalize szN a % szN b = r at *
  by_cases hr0 : r = 0
  · subst hr0
    refine .inl ?_
    unfold sgN
    split
    · exact wsub_zero_zero
    · rfl
  · refine .inr ?_
    cases hna : negN a with
    | false =>
      unfold sgN
      simp only [Bool.false_eq_true, if_false]
      exact ⟨hr0, by unfold negN; exact decide_eq_false (by omega)⟩
    | true =>
      unfold sgN
      simp only [if_true]
      rw [wsub_zero r (by unfold W256; omega) hr0]
      exact ⟨by omega, by unfold negN; exact decide_eq_true (by omega)⟩
end Go.Proofs.Ytnlcllhjhbaigaa
