/- '==' of lanes. For all lanes. -/
import Derived.Test.YtobdjakflknlcaaDoorKecQ
import Derived.Laws.StructEq
import Derived.Laws.Cover2
namespace Go.Proofs.YtobdjakflknlcaaDoor
open Go Go.RowKit

def eqL (A B : Nat → Nat) : Bool := (List.range 25).all fun j => A j == B j
theorem eqL_iff (A B : Nat → Nat) : eqL A B = true ↔ ∀ j, j < 25 → A j = B j := by
  unfold eqL
  rw [List.all_eq_true]
  simp
theorem part25 (A : Nat → Nat) (i : Nat) (hi : i < 25) (w : World) : (part 22 (luC 25 A) i).run Tryd.prog w = .ok (.int .u64 ((A i : Nat) : Int)) w := by
  have a3 := Tryd.isAgg22
  have hg := luC_get 25 A i hi
  unfold part
  simp [go_sem, a3, hg]
theorem equal_u64 (d : Nat) (x y : Int) (w : World) : (Op.equalIn (d + 1) 22 (.int .u64 x) (.int .u64 y)).run Tryd.prog w = .ok (x == y) w := by
  rw [Op.equalIn]
  simp only [Sem.run_bind, run_underlying Tryd.underlying22, Result.andThen_ok]
  simp [go_sem]
theorem eq_loop (A B : Nat → Nat) (w : World) : ∀ l : List Nat, (∀ i, i ∈ l → i < 25) →
    (forIn (m := Sem) l ((none : Option Bool), ()) fun i _ => do
      let x ← part 22 (luC 25 A) i
      let y ← part 22 (luC 25 B) i
      let r ← Op.equalIn 9999 22 x y
      if (!r) = true then pure (ForInStep.done (some false, ())) else pure (ForInStep.yield (none, ()))).run Tryd.prog w = .ok (if l.all (fun j => A j == B j) = true then (none, ()) else (some false, ())) w
  | [], _ => by simp [go_sem]
  | i :: l, hl => by
    have hi := hl i (by simp)
    have ih := eq_loop A B w l (fun j hj => hl j (by simp [hj]))
    rw [List.forIn_cons]
    simp only [Sem.run_bind, part25 A i hi, part25 B i hi, equal_u64 9998, Result.andThen_ok]
    by_cases h : A i = B i
    · have hb : (((A i : Nat) : Int) == ((B i : Nat) : Int)) = true := by rw [h]; exact beq_self_eq_true _
      have hn : (A i == B i) = true := by rw [h]; exact beq_self_eq_true _
      simp only [hb, Bool.not_true, Bool.false_eq_true, if_false, Sem.run_pure, Result.andThen_ok, List.all_cons, hn, Bool.true_and]
      exact ih
    · have hb : (((A i : Nat) : Int) == ((B i : Nat) : Int)) = false := beq_eq_false_iff_ne.2 (by omega)
      have hn : (A i == B i) = false := beq_eq_false_iff_ne.2 h
      simp only [hb, Bool.not_false, if_true, Sem.run_pure, Result.andThen_ok, List.all_cons, hn, Bool.false_and, Bool.false_eq_true, if_false]
theorem eq25 (A B : Nat → Nat) (w : World) : (Op.equalIn 10000 24 (.agg (luC 25 A)) (.agg (luC 25 B))).run Tryd.prog w = .ok (eqL A B) w := by
  have z3 := Tryd.sizeOf22
  rw [show (10000 : Nat) = 9999 + 1 from rfl, Op.equalIn]
  simp only [Sem.run_bind, run_underlying Tryd.underlying24, Result.andThen_ok, z3]
  simp only [Std.Legacy.Range.forIn_eq_forIn_range', Std.Legacy.Range.size, Nat.sub_zero, Nat.add_sub_cancel, Nat.div_one, Nat.mul_one]
  rw [eq_loop A B w (List.range' 0 25) (fun i hi => by rw [List.mem_range'_1] at hi; omega)]
  rw [show List.range' 0 25 = List.range 25 from rfl]
  show Result.andThen (.ok (if eqL A B = true then (none, ()) else (some false, ())) w) _ = _
  cases h : eqL A B <;> simp [go_sem]
end Go.Proofs.YtobdjakflknlcaaDoor
