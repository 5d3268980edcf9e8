/- What DivideBack answers, at all words. -/
import Derived.Test.YtchgpakkmddceaaDBack
import Derived.Test.YtchgpakkmddceaaLawQ
namespace Go.Proofs.Ytchgpakkmddceaa
open Go Go.RowKit

theorem wv0 : wv 0 = .agg #[.int .u64 0, .int .u64 0, .int .u64 0, .int .u64 0] := by unfold wv; simp only [lim_zero]

theorem divideBack_ret (a b : Nat) (ha : W256 a) (hb : W256 b) : Ret Try.prog 4 #[wv a, wv b] (.bool true) := by
  by_cases h0 : b = 0
  · subst h0
    have e1 := div_ret a 0 ha hb
    have e2 := mod_ret a 0 ha hb
    have e3 := sdiv_ret a 0 ha hb
    have e4 := smod_ret a 0 ha hb
    have z0 : szN 0 = 0 := (szN_zero 0 hb).2 rfl
    have z1 : ∀ s, sgN 0 s = 0 := fun s => by cases s with
      | false => rfl
      | true => exact wsub_zero_zero
    rw [Nat.div_zero, wv0] at e1
    rw [if_pos rfl, wv0] at e2
    rw [z0, Nat.div_zero, z1, wv0] at e3
    rw [z0, if_pos rfl, z1, wv0] at e4
    rw [wv0]
    exact back_zero (lim a) e1 e2 e3 e4
  · have hq : a / b ≤ a := Nat.div_le_self a b
    have hr : a % b < b := Nat.mod_lt _ (by omega)
    have wq : W256 (a / b) := by unfold W256 at *; omega
    have wr : W256 (a % b) := by unfold W256 at *; omega
    have hqb : a / b * b ≤ a := Nat.div_mul_le_self a b
    have wqb : W256 (a / b * b) := by unfold W256 at *; omega
    have hB0 : szN b ≠ 0 := fun e => h0 ((szN_zero b hb).1 e)
    have hA := szN_le a ha
    have ws : W256 (sgN (szN a / szN b) (negN a != negN b)) := sgN_lt _ _ (by unfold W256; have := Nat.div_le_self (szN a) (szN b); omega)
    have wt : W256 (sgN (szN a % szN b) (negN a)) := sgN_lt _ _ (by unfold W256; have := Nat.mod_le (szN a) (szN b); omega)
    refine back_walk (lim a) (lim b) (lim (a / b)) (lim (a % b)) (lim (sgN (szN a / szN b) (negN a != negN b))) (lim (sgN (szN a % szN b) (negN a))) (lim (a / b * b)) (lim (wmod (sgN (szN a / szN b) (negN a != negN b) * b)))
      ?_ (div_ret a b ha hb) ?_ (sdiv_ret a b ha hb) ?_ ?_ ?_ (wcmp (a % b) b) (wcmp (a / b) a) ?_ ?_ (refCmp_ret _ _ wr hb) (refCmp_ret _ _ wq ha) (refMul_ret _ _ ws hb) ?_ ?_
    · rw [zero_of b hb]; exact decide_eq_false h0
    · have := mod_ret a b ha hb
      rwa [if_neg h0] at this
    · have := smod_ret a b ha hb
      rwa [if_neg hB0] at this
    · have := refMul_ret (a / b) b wq hb
      rwa [wmod_of wqb] at this
    · have := refAdd_ret (a / b * b) (a % b) wqb wr
      have e : wmod (a / b * b + a % b) = a := by rw [Nat.mul_comm, Nat.div_add_mod]; exact wmod_of ha
      rwa [e] at this
    · unfold wcmp; rw [if_pos hr]; decide
    · unfold wcmp
      split
      · decide
      · rw [if_neg (by omega)]; decide
    · have := refAdd_ret (wmod (sgN (szN a / szN b) (negN a != negN b) * b)) (sgN (szN a % szN b) (negN a)) (wmod_lt _) wt
      rwa [sback a b ha hb] at this
    · rw [zero_of _ wt, top_of _ wt, top_of a ha]
      rcases sign_of_rest a b ha hb h0 with h | ⟨h, h'⟩
      · exact .inl (decide_eq_true h)
      · exact .inr ⟨decide_eq_false h, by rw [h']; simp⟩
end Go.Proofs.Ytchgpakkmddceaa
