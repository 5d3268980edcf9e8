/- Two ints as an argument. Conditions: none. -/
import Derived.Test.YtfnkmafdmfljmaaOpenP
import Derived.Test.YtfnkmafdmfljmaaRawO
namespace Go.Proofs.Ytfnkmafdmfljmaa
open Go Go.ChangeShapes Go.WideShapes Go.ChangeAt Go.RowKit Go.Deep
set_option maxRecDepth 100000
theorem open_pairI {H : Type} {enc : TypeId × Value → H} {W : World} {base b : Nat} {sp : Nat → Bool} {held : Bool} {v : Value} {d : DataW H} {ps : List MemPlace}
    (hval : Value.okWide Try.prog W .any base 52 v) (hd : DataW.Trod enc Try.prog W b sp held 52 v d ps) : ∃ p q, v = .agg #[.int .i64 p, .int .i64 q] ∧ I64 p ∧ I64 q := by
  obtain ⟨cs, rfl, hsz, _⟩ : ∃ cs, v = .agg cs ∧ cs.size = Try.prog.cellsOf 52 ∧ Row.okWide Try.prog W .any base 52 cs := by
    simpa [Value.okWide, Try.underlying52] using hval
  rw [cellsPairI] at hsz
  obtain ⟨l⟩ := cs
  obtain ⟨fuel, hf⟩ := hd
  obtain ⟨c0, c1, y0, y1, n', e, t0, t1⟩ := trod_pairI (cs := l) Try.underlying52 cellsI64 hsz hf
  subst e
  obtain ⟨x0, e0, rfl, w0⟩ := DataW.trod_int Try.underlying3 t0
  obtain ⟨x1, e1, rfl, w1⟩ := DataW.trod_int Try.underlying3 t1
  simp at e0 e1
  subst e0 e1
  exact ⟨x0, x1, rfl, i64_of_wf w0, i64_of_wf w1⟩
end Go.Proofs.Ytfnkmafdmfljmaa
