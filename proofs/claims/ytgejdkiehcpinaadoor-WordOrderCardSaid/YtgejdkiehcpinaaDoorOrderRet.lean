/- What WordOrder answers, at all words. -/
import Derived.Test.YtgejdkiehcpinaaDoorOrder
import Derived.Test.YtgejdkiehcpinaaDoorBackRet
import Derived.Test.YtgejdkiehcpinaaDoorLawO
namespace Go.Proofs.YtgejdkiehcpinaaDoor
open Go Go.RowKit

theorem eqv_of (a b : Nat) (ha : W256 a) (hb : W256 b) : (lim a 0 == lim b 0 && lim a 1 == lim b 1 && lim a 2 == lim b 2 && lim a 3 == lim b 3) = decide (a = b) := by
  by_cases h : a = b
  · subst h; simp
  · rw [decide_eq_false h]
    refine Bool.eq_false_iff.2 fun e => h (lim_ext ha hb fun k hk => ?_)
    simp only [Bool.and_eq_true, beq_iff_eq] at e
    obtain ⟨⟨⟨e0, e1⟩, e2⟩, e3⟩ := e
    rcases (show k = 0 ∨ k = 1 ∨ k = 2 ∨ k = 3 by omega) with rfl | rfl | rfl | rfl
    · exact e0
    · exact e1
    · exact e2
    · exact e3
theorem hexStr_size (a : Nat) : (⟨(hexStr a).toArray⟩ : ByteArray).size = (hexStr a).length := by
  show (hexStr a).toArray.size = _
  rw [List.size_toArray]
theorem order_ret (a b c : Nat) (ha : W256 a) (hb : W256 b) (hc : W256 c) : Ret Tryd.prog 6 #[wv a, wv b, wv c] (.bool true) := by
  have wx := wmod_lt (a + c)
  have wy := wmod_lt (b + c)
  have la := hexStr_length a
  have lb := hexStr_length b
  refine order_walk (lim a) (lim b) (lim c) (lim (wmod (a + c))) (lim (wmod (b + c))) (bytesOf a) (bytesOf b) ⟨(hexStr a).toArray⟩ ⟨(hexStr b).toArray⟩ (wcmp a b) (wcmp b a) (wcmp (wmod (a + c)) a) (wcmp (wmod (b + c)) b) (decide (a = b)) (decide (a < b))
    ?_ (eqv_of a b ha hb) (less_bytes a b ha hb) (by rw [hexStr_size]; exact la) (by rw [hexStr_size]; exact lb) (cmp_ret a b ha hb) (cmp_ret b a hb ha) (bytes_ret a ha) (bytes_ret b hb) (add_ret a c ha hc) (add_ret b c hb hc)
    (cmp_ret _ a wx ha) (cmp_ret _ b wy hb) (hex_ret a ha) (hex_ret b hb) ?_
  · rw [hexStr_size, hexStr_size]
    unfold wcmp
    by_cases h1 : a < b
    · refine .inl ⟨if_pos h1, ?_, decide_eq_false (by omega), decide_eq_true h1⟩
      rw [if_neg (by omega), if_pos h1]
    · have hm := hexStr_mono a b ha hb (by omega)
      by_cases h2 : b < a
      · refine .inr (.inr ⟨?_, if_pos h2, decide_eq_false (by omega), decide_eq_false h1, hm⟩)
        rw [if_neg h1, if_pos h2]
      · obtain rfl : a = b := by omega
        refine .inr (.inl ⟨?_, ?_, decide_eq_true rfl, decide_eq_false h1, hm⟩)
        · rw [if_neg h1, if_neg h1]
        · rw [if_neg h1, if_neg h1]
  · intro h1 h2
    have h := cmp_ret _ _ wx wy
    have e : wcmp (wmod (a + c)) (wmod (b + c)) = wcmp a b := by
      have g1 : ¬ wmod (a + c) < a := fun h => h1 (by unfold wcmp; rw [if_pos h]; decide)
      have g2 : ¬ wmod (b + c) < b := fun h => h2 (by unfold wcmp; rw [if_pos h]; decide)
      have e1 : wmod (a + c) = a + c := by unfold wmod W256 at *; omega
      have e2 : wmod (b + c) = b + c := by unfold wmod W256 at *; omega
      rw [e1, e2]
      unfold wcmp
      by_cases k1 : a < b
      · rw [if_pos k1, if_pos (by omega)]
      · rw [if_neg k1, if_neg (by omega)]
        by_cases k2 : b < a
        · rw [if_pos k2, if_pos (by omega)]
        · rw [if_neg k2, if_neg (by omega)]
    rw [e] at h
    exact h
end Go.Proofs.YtgejdkiehcpinaaDoor
