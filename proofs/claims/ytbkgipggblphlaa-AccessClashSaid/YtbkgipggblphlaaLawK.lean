/- What the walks of the laws share: blocks of known cells, '==' of words, regions of calls with contracts. -/
import Derived.Test.YtbkgipggblphlaaQuick
import Derived.Test.YtbkgipggblphlaaWordE
import Derived.Laws.StructEq
import Derived.Laws.Cover2
import Derived.Lib.Hide
namespace Go.Proofs.Ytbkgipggblphlaa
open Go Go.RowKit

/-- Four parts, as a value. -/
abbrev W4 (a b c d : Int) : Value := .agg #[.int .u64 a, .int .u64 b, .int .u64 c, .int .u64 d]

theorem eq4 (a b c d a' b' c' d' : Int) (w : World) : (Op.equalIn 10000 29 (.agg #[.int .u64 a, .int .u64 b, .int .u64 c, .int .u64 d]) (.agg #[.int .u64 a', .int .u64 b', .int .u64 c', .int .u64 d'])).run Try.prog w = .ok (a == a' && b == b' && c == c' && d == d') w := by
  have u3 := Try.underlying27
  have a3 := Try.isAgg27
  have z3 := Try.sizeOf27
  rw [show (10000 : Nat) = 9999 + 1 from rfl, Op.equalIn]
  simp only [Sem.run_bind, run_underlying Try.underlying29, Result.andThen_ok]
  simp only [Std.Legacy.Range.forIn_eq_forIn_range', Std.Legacy.Range.size, Nat.sub_zero, Nat.add_sub_cancel, Nat.div_one, List.range'_succ, List.range'_zero, List.forIn_cons, List.forIn_nil]
  go_simp
  by_cases h1 : a = a' <;> by_cases h2 : b = b' <;> by_cases h3 : c = c' <;> by_cases h4 : d = d' <;> simp [h1, h2, h3, h4]

/-- A block of known cells. -/
def Has (W : World) (B : Nat) (t : TypeId) (cs : Array Value) : Prop := W.heap[B]? = some (.cells cs t (0, 0))
theorem Has.lt {W : World} {B : Nat} {t : TypeId} {cs : Array Value} (h : Has W B t cs) : B < W.heap.size := (Array.getElem?_eq_some_iff.1 h).1
theorem Has.cell {W : World} {B : Nat} {t : TypeId} {cs : Array Value} (h : Has W B t cs) (j : Nat) (v : Value) (hj : cs[j]? = some v) : W.cell? ⟨B, j, none⟩ = some v := by
  unfold Has at h
  simp [World.cell?, h, hj]
theorem Has.frozen {W : World} {B : Nat} {t : TypeId} {cs : Array Value} (h : Has W B t cs) (j : Nat) : W.frozen? ⟨B, j, none⟩ = false := by
  unfold Has at h
  simp [World.frozen?, h]
theorem Has.new (W : World) (t : TypeId) (cs : Array Value) : Has (W.alloc (.cells cs t)) W.heap.size t cs := World.alloc_heap_new W _
theorem Has.below {W W' : World} {B n : Nat} {t : TypeId} {cs : Array Value} (h : Has W B t cs) (hb : Below n W W') (hn : B < n) : Has W' B t cs := (hb.block B hn).trans h
theorem Has.later {W W' : World} {B : Nat} {t : TypeId} {cs : Array Value} (h : Has W B t cs) (hb : Below W.heap.size W W') : Has W' B t cs := h.below hb h.lt
theorem Has.alloc {W : World} {B : Nat} {t : TypeId} {cs : Array Value} (h : Has W B t cs) (o : Obj) : Has (W.alloc o) B t cs := h.later ((Below.refl _ W).alloc (Nat.le_refl _) o)
theorem Has.other {W : World} {B : Nat} {t : TypeId} {cs : Array Value} (h : Has W B t cs) {p : Addr} (hne : B ≠ p.block) (v : Value) : Has (W.setCell p v) B t cs := (Below.heap_setCell W p v B hne).trans h
theorem Has.set {W : World} {B : Nat} {t : TypeId} {cs : Array Value} (h : Has W B t cs) (k : Nat) (v : Value) : Has (W.setCell ⟨B, k, none⟩ v) B t (cs.setIfInBounds k v) := by
  obtain ⟨hlt, he⟩ := Array.getElem?_eq_some_iff.1 h
  show (W.heap.modify B _)[B]? = _
  rw [Array.getElem?_eq_getElem (by rw [Array.size_modify]; exact hlt), Array.getElem_modify_self, he]
  rfl

/-- A region of quiet operations, for a list of them. -/
theorem wp_region_quietL {P : Program} {C : World → Prop} {id : Nat} {Q : Exit → Act → World → Prop} {a : Act} {w : World} {l : List Oper} (hm : P.follows .mixedOrders = true) (hB : Region.lexB .any l.toArray = true)
    (hC : C { w with drawn := w.drawn + 1 }) (h : wpQuiet P l.toArray C (fun a' => ∀ w', C w' → Q .normal a' w') l a) : (Code.region id l.toArray true).wp P Q a w :=
  wp_region_quiet (C := C) hm hB hC (by simpa using h)

/-- The one cells, or the other ones. -/
def cellsIf (b : Bool) (x y : Array Value) : Array Value := if b = true then x else y
theorem cellsIf_true (x y : Array Value) : cellsIf true x y = x := rfl
theorem cellsIf_false (x y : Array Value) : cellsIf false x y = y := rfl

theorem Ret.of_eq {P : Program} {f : FuncId} {args args' : Array Value} {v v' : Value} (h : Ret P f args v) (ha : args = args') (hv : v = v') : Ret P f args' v' := by subst ha; subst hv; exact h
end Go.Proofs.Ytbkgipggblphlaa
