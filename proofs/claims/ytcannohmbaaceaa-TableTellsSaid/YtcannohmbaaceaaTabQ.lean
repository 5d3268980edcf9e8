/- '==' of slots. Conditions: none. -/
import Derived.Test.YtcannohmbaaceaaTabH
import Derived.Laws.StructEq
namespace Go.Proofs.Ytcannohmbaaceaa
open Go Go.RowKit
theorem eq4d (k : Nat) (a b c d a' b' c' d' : Int) (w : World) : (Op.equalIn (k + 2) 26 (.agg #[.int .u64 a, .int .u64 b, .int .u64 c, .int .u64 d]) (.agg #[.int .u64 a', .int .u64 b', .int .u64 c', .int .u64 d'])).run Try.prog w = .ok (a == a' && b == b' && c == c' && d == d') w := by
  have u3 := Try.underlying24
  have a3 := Try.isAgg24
  have z3 := Try.sizeOf24
  rw [Op.equalIn]
  simp only [Sem.run_bind, run_underlying Try.underlying26, Result.andThen_ok]
  simp only [Std.Legacy.Range.forIn_eq_forIn_range', Std.Legacy.Range.size, Nat.sub_zero, Nat.add_sub_cancel, Nat.div_one, List.range'_succ, List.range'_zero, List.forIn_cons, List.forIn_nil]
  go_simp
  by_cases h1 : a = a' <;> by_cases h2 : b = b' <;> by_cases h3 : c = c' <;> by_cases h4 : d = d' <;> simp [h1, h2, h3, h4]
theorem eq8 (a b c d e f g h a' b' c' d' e' f' g' h' : Int) (w : World) : (Op.equalIn 10000 31 (.agg #[.int .u64 a, .int .u64 b, .int .u64 c, .int .u64 d, .int .u64 e, .int .u64 f, .int .u64 g, .int .u64 h]) (.agg #[.int .u64 a', .int .u64 b', .int .u64 c', .int .u64 d', .int .u64 e', .int .u64 f', .int .u64 g', .int .u64 h'])).run Try.prog w = .ok ((a == a' && b == b' && c == c' && d == d') && (e == e' && f == f' && g == g' && h == h')) w := by
  have a3 := Try.isAgg26
  have z3 := Try.sizeOf26
  rw [show (10000 : Nat) = 9999 + 1 from rfl, run_equalIn_struct (P := Try.prog) w 9999 31 _ _ (by kernel_rfl) (by kernel_rfl)]
  have hf : (Try.prog.fieldsOf 31).toList.map (fun f => (f.name, f.type, f.offset)) = [("Key", 26, 0), ("Value", 26, 4)] := by kernel_rfl
  generalize (Try.prog.fieldsOf 31).toList = l at hf
  rcases l with _ | ⟨x, _ | ⟨y, _ | ⟨z, l⟩⟩⟩
  · cases hf
  · simp at hf
  · simp only [List.map_cons, List.map_nil, List.cons.injEq, Prod.mk.injEq, and_true] at hf
    obtain ⟨⟨h1, h2, h3⟩, h4, h5, h6⟩ := hf
    have e1 := eq4d 9997 a b c d a' b' c' d' w
    have e2 := eq4d 9997 e f g h e' f' g' h' w
    simp only [Nat.reduceAdd] at e1 e2
    generalize (a == a' && b == b' && c == c' && d == d') = p at *
    generalize (e == e' && f == f' && g == g' && h == h') = q at *
    unfold Op.eqFields Op.eqFields Op.eqFields
    simp [h1, h2, h3, h4, h5, h6, part, go_sem, a3, z3, e1, e2]
    cases p <;> cases q <;> simp
  · simp at hf
theorem eq_slot (x y : Sl) (hx : W256 x.1 ∧ W256 x.2) (hy : W256 y.1 ∧ W256 y.2) : ((lim x.1 0 == lim y.1 0 && lim x.1 1 == lim y.1 1 && lim x.1 2 == lim y.1 2 && lim x.1 3 == lim y.1 3) && (lim x.2 0 == lim y.2 0 && lim x.2 1 == lim y.2 1 && lim x.2 2 == lim y.2 2 && lim x.2 3 == lim y.2 3)) = decide (x = y) := by
  rw [eqv_w x.1 y.1 hx.1 hy.1, eqv_w x.2 y.2 hx.2 hy.2]
  by_cases h : x = y
  · subst h; simp
  · rw [decide_eq_false h]
    refine Bool.eq_false_iff.2 fun e => h ?_
    rw [Bool.and_eq_true, decide_eq_true_eq, decide_eq_true_eq] at e
    exact Prod.ext e.1 e.2
end Go.Proofs.Ytcannohmbaaceaa
