/- What BitApart answers, at all words. -/
import Derived.Test.YtfnhjnjklibkhaaDoorBApart
import Derived.Test.YtfnhjnjklibkhaaDoorBLogicRet
namespace Go.Proofs.YtfnhjnjklibkhaaDoor
open Go Go.RowKit

theorem half_and (a b : Nat) : (a &&& b) / 2 = a / 2 &&& b / 2 ∧ (a ||| b) / 2 = a / 2 ||| b / 2 ∧ (a ^^^ b) / 2 = a / 2 ^^^ b / 2 := by
  refine ⟨Nat.eq_of_testBit_eq fun i => ?_, Nat.eq_of_testBit_eq fun i => ?_, Nat.eq_of_testBit_eq fun i => ?_⟩ <;>
    simp only [← Nat.testBit_succ, Nat.testBit_and, Nat.testBit_or, Nat.testBit_xor]
theorem low_bits (n : Nat) : n % 2 = (n.testBit 0).toNat := by
  rw [Nat.testBit_zero]
  rcases Nat.mod_two_eq_zero_or_one n with h | h <;> rw [h] <;> rfl
theorem and_or_add (a : Nat) : ∀ b, (a &&& b) + (a ||| b) = a + b := by
  induction a using Nat.strongRecOn with
  | _ a ih =>
    intro b
    by_cases h : a = 0
    · subst h; simp
    · have hi := ih (a / 2) (by omega) (b / 2)
      obtain ⟨h1, h2, _⟩ := half_and a b
      rw [← h1, ← h2] at hi
      have l1 := low_bits (a &&& b)
      have l2 := low_bits (a ||| b)
      have l3 := low_bits a
      have l4 := low_bits b
      rw [Nat.testBit_and] at l1
      rw [Nat.testBit_or] at l2
      generalize a.testBit 0 = x at *
      generalize b.testBit 0 = y at *
      cases x <;> cases y <;> simp only [Bool.true_and, Bool.false_and, Bool.true_or, Bool.false_or, Bool.true_xor, Bool.false_xor, Bool.not_true, Bool.not_false, Bool.toNat_true, Bool.toNat_false] at l1 l2 l3 l4 <;> omega
theorem xor_and_add (a : Nat) : ∀ b, (a ^^^ b) + 2 * (a &&& b) = a + b := by
  induction a using Nat.strongRecOn with
  | _ a ih =>
    intro b
    by_cases h : a = 0
    · subst h; simp
    · have hi := ih (a / 2) (by omega) (b / 2)
      obtain ⟨h1, _, h2⟩ := half_and a b
      rw [← h1, ← h2] at hi
      have l1 := low_bits (a &&& b)
      have l2 := low_bits (a ^^^ b)
      have l3 := low_bits a
      have l4 := low_bits b
      rw [Nat.testBit_and] at l1
      rw [Nat.testBit_xor] at l2
      generalize a.testBit 0 = x at *
      generalize b.testBit 0 = y at *
      cases x <;> cases y <;> simp only [Bool.true_and, Bool.false_and, Bool.true_or, Bool.false_or, Bool.true_xor, Bool.false_xor, Bool.not_true, Bool.not_false, Bool.toNat_true, Bool.toNat_false] at l1 l2 l3 l4 <;> omega
theorem not_sub (a : Nat) (ha : W256 a) : a ^^^ M1 = M1 - a := by
  have h1 := xor_and_add a M1
  have h2 : a &&& M1 = a := by
    refine Nat.eq_of_testBit_eq fun i => ?_
    have h3 := bit_M1 a ha i
    rw [Nat.testBit_and]
    cases hx : a.testBit i with
    | false => rfl
    | true => rw [h3 hx]; rfl
  rw [h2] at h1
  unfold W256 at ha
  unfold M1 at *
  omega

theorem wv_1 : wv 1 = .agg #[.int .u64 1, .int .u64 0, .int .u64 0, .int .u64 0] := wv_of ⟨by decide, by decide, by decide, by decide⟩
theorem bitApart_ret (a b : Nat) (ha : W256 a) (hb : W256 b) : RetT Tryd.prog 9 #[wv a, wv b] (.bool true) := by
  have wc := and_lt a b hb
  have wo := or_lt a b ha hb
  have wx := xor_lt a b ha hb
  have wn := xor_lt a M1 ha M1_lt
  have w1 : W256 1 := by unfold W256; omega
  have w0 : W256 0 := by unfold W256; omega
  have e1 := and_or_add a b
  have e2 := xor_and_add a b
  have e3 := not_sub a ha
  refine apart_walk (lim a) (lim b) (lim (wmod (a + b))) (lim (a &&& b)) (lim (a ||| b)) (lim (a ^^^ b)) (lim (wmod ((a &&& b) + (a &&& b)))) (lim (a ^^^ M1)) (lim (wsub 0 a))
    (refAdd_ret a b ha hb) (and_ret a b ha hb) (or_ret a b ha hb) ((refAdd_ret _ _ wc wo).of_eq rfl (by rw [e1]; rfl)) (xor_ret a b ha hb) (refAdd_ret _ _ wc wc)
    ((refAdd_ret _ _ wx (wmod_lt _)).of_eq rfl (congrArg wv ?_)) (not_ret a ha) ((refAdd_ret _ 1 wn w1).of_eq (by rw [wv_1]; rfl) (congrArg wv ?_)) ((refSub_ret 0 a w0 ha).of_eq (by rw [wv_0]; rfl) rfl)
  · rw [← e2]
    unfold wmod
    omega
  · rw [e3]
    unfold W256 at ha
    unfold wsub wmod M1
    omega
end Go.Proofs.YtfnhjnjklibkhaaDoor
