/- What BitLogic answers, at all words. -/
import Derived.Test.YtfnhjnjklibkhaaDoorBLogic
namespace Go.Proofs.YtfnhjnjklibkhaaDoor
open Go Go.RowKit

theorem M1_bit (i : Nat) : M1.testBit i = decide (i < 256) := by
  have e : M1 = 2 ^ 256 - 1 := by decide
  rw [e, Nat.testBit_two_pow_sub_one]
theorem bit_M1 (a : Nat) (ha : W256 a) (i : Nat) : a.testBit i = true → M1.testBit i = true := fun h => by
  rw [M1_bit, decide_eq_true_eq]
  rcases Nat.lt_or_ge i 256 with h' | h'
  · exact h'
  · have : a.testBit i = false := Nat.testBit_lt_two_pow (Nat.lt_of_lt_of_le ((w256_pow a).1 ha) (Nat.pow_le_pow_right (by omega) h'))
    rw [this] at h; cases h

theorem bitLogic_ret (a b c : Nat) (ha : W256 a) (hb : W256 b) (hc : W256 c) : RetT Tryd.prog 4 #[wv a, wv b, wv c] (.bool true) := by
  have na := xor_lt a M1 ha M1_lt
  have nb := xor_lt b M1 hb M1_lt
  have wc := and_lt a b hb
  have wg := and_lt a c hc
  have wo := or_lt a b ha hb
  have we := or_lt b c hb hc
  have wx := xor_lt a b ha hb
  have wu := and_lt a (b ^^^ M1) nb
  have wvv := and_lt b (a ^^^ M1) na
  refine logic_walk (lim a) (lim b) (lim c) (lim (a ^^^ M1)) (lim (b ^^^ M1)) (lim (a &&& b)) (lim ((a &&& b) ^^^ M1)) (lim (a ^^^ b)) (lim (a ||| b)) (lim (b ||| c)) (lim (a &&& (b ||| c))) (lim (a &&& c)) (lim (a &&& (b ^^^ M1))) (lim (b &&& (a ^^^ M1)))
    (not_ret a ha) ((not_ret _ na).of_eq rfl (congrArg wv ?_)) (and_ret a b ha hb) (not_ret _ wc) (not_ret b hb) ((or_ret _ _ na nb).of_eq rfl (congrArg wv ?_)) (xor_ret a b ha hb) ((xor_ret _ _ wx hb).of_eq rfl (congrArg wv ?_)) (or_ret a b ha hb) ((and_ret _ _ ha wo).of_eq rfl (congrArg wv ?_)) ((or_ret _ _ ha wc).of_eq rfl (congrArg wv ?_))
    (or_ret b c hb hc) (and_ret _ _ ha we) (and_ret a c ha hc) ((or_ret _ _ wc wg).of_eq rfl (congrArg wv ?_)) (and_ret _ _ ha nb) (and_ret _ _ hb na) ((or_ret _ _ wu wvv).of_eq rfl (congrArg wv ?_))
  all_goals
    refine Nat.eq_of_testBit_eq fun i => ?_
    have h1 := bit_M1 a ha i
    have h2 := bit_M1 b hb i
    have h3 := bit_M1 c hc i
    simp only [Nat.testBit_xor, Nat.testBit_and, Nat.testBit_or]
    generalize a.testBit i = x at *
    generalize b.testBit i = y at *
    generalize c.testBit i = z at *
    generalize M1.testBit i = m at *
    cases x <;> cases y <;> cases z <;> cases m <;> simp_all
end Go.Proofs.YtfnhjnjklibkhaaDoor
