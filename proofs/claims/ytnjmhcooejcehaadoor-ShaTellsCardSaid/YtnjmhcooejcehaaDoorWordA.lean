/- Sums, differences and the order of words. For every word. -/
import Derived.Test.YtnjmhcooejcehaaDoorJoin
import Derived.Test.YtnjmhcooejcehaaDoorMath
import Derived.Shelf.Spec.BitsCarry
import Derived.Shelf.Bits.Mul64
namespace Go.Proofs.YtnjmhcooejcehaaDoor
open Go Go.RowKit Go.Shelf
attribute [local go_sem] Oper.semAt_some Grows wide_fn

/-- A word, by its number. -/
def wv (n : Nat) : Value := .agg #[.int .u64 (lim n 0), .int .u64 (lim n 1), .int .u64 (lim n 2), .int .u64 (lim n 3)]
theorem wv_of {n : Nat} {x0 x1 x2 x3 : Int} (h : lim n 0 = x0 ∧ lim n 1 = x1 ∧ lim n 2 = x2 ∧ lim n 3 = x3) : wv n = .agg #[.int .u64 x0, .int .u64 x1, .int .u64 x2, .int .u64 x3] := by
  obtain ⟨rfl, rfl, rfl, rfl⟩ := h; rfl

/-- What was there before reads as it did. -/
theorem bcell {W w1 : World} (hb : Below W.heap.size W w1) : (∀ b o, b < W.heap.size → w1.cell? ⟨b, o, none⟩ = W.cell? ⟨b, o, none⟩) ∧ (∀ b o, b < W.heap.size → w1.frozen? ⟨b, o, none⟩ = W.frozen? ⟨b, o, none⟩) :=
  ⟨fun b o h => hb.cell (p := ⟨b, o, none⟩) h, fun b o h => hb.frozen (p := ⟨b, o, none⟩) h⟩

/-- A new block that holds a word. -/
theorem Arr4.word (W : World) (t : TypeId) (n : Nat) : Arr4 (W.alloc (.cells #[.int .u64 (lim n 0), .int .u64 (lim n 1), .int .u64 (lim n 2), .int .u64 (lim n 3)] t)) W.heap.size t (lim n) := World.alloc_heap_new W _

theorem Arr4.store {W : World} {B : Nat} {t : TypeId} {m : Nat → Int} (h : Arr4 W B t m) (m' : Nat → Int) :
    Arr4 ((((W.setCell ⟨B, 0, none⟩ (.int .u64 (m' 0))).setCell ⟨B, 1, none⟩ (.int .u64 (m' 1))).setCell ⟨B, 2, none⟩ (.int .u64 (m' 2))).setCell ⟨B, 3, none⟩ (.int .u64 (m' 3))) B t m' := by
  have h := Arr4.set (Arr4.set (Arr4.set (Arr4.set h (k := 0) (by omega) (m' 0)) (k := 1) (by omega) (m' 1)) (k := 2) (by omega) (m' 2)) (k := 3) (by omega) (m' 3)
  exact h

/-- A word handed back out of its variable. -/
theorem results_word {fn : Func} {t : Tmp} {tmps : Array Value} {W : World} {B : Nat} {m : Nat → Int} (h : fn.results = #[ResultVar.cell t 24]) (ht : tmps.getD t undef = .pointer (some ⟨B, 0, none⟩)) (hA : Arr4 W B 24 m) :
    (results fn tmps).run Tryd.prog W = .ok (.agg #[.int .u64 (m 0), .int .u64 (m 1), .int .u64 (m 2), .int .u64 (m 3)]) W := by
  have e0 := hA.cell (j := 0) (by omega)
  have e1 := hA.cell (j := 1) (by omega)
  have e2 := hA.cell (j := 2) (by omega)
  have e3 := hA.cell (j := 3) (by omega)
  simp at ht
  simp [results, h, ht, go_sem, e0, e1, e2, e3]


end Go.Proofs.YtnjmhcooejcehaaDoor
