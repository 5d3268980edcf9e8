/- Sums and products of words may be turned: what the law answers, at all words. -/
import Derived.Test.YtgejdkiehcpinaaDoorTurns
namespace Go.Proofs.YtgejdkiehcpinaaDoor
open Go Go.RowKit

theorem turns_ret (a b c : Nat) (ha : W256 a) (hb : W256 b) (hc : W256 c) : Ret Tryd.prog 5 #[wv a, wv b, wv c] (.bool true) := by
  have ws := wmod_lt (a + b)
  have wp := wmod_lt (a * b)
  have wq := wmod_lt (b + c)
  have wv' := wmod_lt (b * c)
  have wy := wmod_lt (a * c)
  refine turns_walk (lim a) (lim b) (lim c) (lim (wmod (a + b))) (lim (wmod (a * b))) (lim (wmod (a + b + c))) (lim (wmod (b + c))) (lim (wmod (a * b * c))) (lim (wmod (b * c))) (lim (wmod ((a + b) * c))) (lim (wmod (a * c))) (lim (wsub 0 a)) ?_ ?_ ?_ ?_ ?_ ?_ ?_ ?_ ?_ ?_ ?_ ?_ ?_ ?_ ?_ ?_ ?_
  · exact add_ret a b ha hb
  · have h := add_ret b a hb ha
    rwa [Nat.add_comm b a] at h
  · exact mul_ret a b ha hb
  · have h := mul_ret b a hb ha
    rwa [Nat.mul_comm b a] at h
  · have h := add_ret _ c ws hc
    rwa [wmod_add_l] at h
  · exact add_ret b c hb hc
  · have h := add_ret a _ ha wq
    rwa [wmod_add_r, ← Nat.add_assoc] at h
  · have h := mul_ret _ c wp hc
    rwa [wmod_mul_l] at h
  · exact mul_ret b c hb hc
  · have h := mul_ret a _ ha wv'
    rwa [wmod_mul_r, ← Nat.mul_assoc] at h
  · have h := mul_ret _ c ws hc
    rwa [wmod_mul_l] at h
  · exact mul_ret a c ha hc
  · have h := add_ret _ _ wy wv'
    rwa [wmod_add_l, wmod_add_r, ← Nat.add_mul] at h
  · have h := mul_ret a (ofN 1) ha (ofN_lt _ (by unfold I64; omega))
    have e : wmod (a * ofN 1) = a := by
      have : ofN 1 = 1 := by decide
      rw [this, Nat.mul_one]; exact wmod_of ha
    rw [e, wv_1] at h
    exact h
  · have h := add_ret a 0 ha (by unfold W256; omega)
    have e : wmod (a + 0) = a := wmod_of ha
    have e0 : wv 0 = W4 0 0 0 0 := wv_of ⟨by decide, by decide, by decide, by decide⟩
    rw [e, e0] at h
    exact h
  · have h := mul_ret a (ofN (-1)) ha (ofN_lt _ (by unfold I64; omega))
    have e : ofN (-1) = 115792089237316195423570985008687907853269984665640564039457584007913129639935 := by decide
    rw [wv_m1, e, mul_ones a ha] at h
    exact h
  · have h := sub_ret 0 a (by unfold W256; omega) ha
    have e0 : wv 0 = W4 0 0 0 0 := wv_of ⟨by decide, by decide, by decide, by decide⟩
    rw [e0] at h
    exact h
end Go.Proofs.YtgejdkiehcpinaaDoor
