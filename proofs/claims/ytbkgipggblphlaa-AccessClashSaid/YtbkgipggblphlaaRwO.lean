/- Two lists of raw numbers as an argument. Conditions: none. -/
import Derived.Test.YtbkgipggblphlaaOpenP
import Derived.Test.YtbkgipggblphlaaRawO
namespace Go.Proofs.Ytbkgipggblphlaa
open Go Go.ChangeShapes Go.WideShapes Go.ChangeAt Go.RowKit Go.Deep
set_option maxRecDepth 100000

theorem cellsRaws : Try.prog.cellsOf 32 = 1 := by kernel_rfl
theorem cellsRaw2 : Try.prog.cellsOf 50 = 2 := by kernel_rfl
theorem raw_of_trod {H : Type} {enc : TypeId × Value → H} {W : World} {b : Nat} {sp : Nat → Bool} {held : Bool} {fuel : Nat} {v : Value} {x : DataW H × List MemPlace}
    (hf : DataW.trod enc Try.prog W b sp held fuel 32 [v] = some x) : ∃ zs, RawAt W v zs := by
  rcases open_slice Try.underlying32 hf with ⟨hcs, _⟩ | ⟨a, len, cap, m, n, D, Pl, hcs, _, hl, hm, hmm, _, hi⟩
  · injection hcs with hcs _
    subst hcs
    exact ⟨[], none, 0, rfl, by simp, by simp, fun i p hp => by simp at hp⟩
  · injection hcs with hcs _
    subst hcs
    have hlm : len ≤ m := by rw [hmm]; split <;> omega
    have key : ∀ i, i < len → ∃ p : Int × Int, I64 p.1 ∧ I64 p.2 ∧ W.cell? (a.add (i * 2)) = some (.int .i64 p.1) ∧ W.cell? ((a.add (i * 2)).add 1) = some (.int .i64 p.2) := by
      intro i hil
      obtain ⟨cs', hc, ht⟩ := hi i (by omega)
      rw [cellsPairI] at hc
      obtain ⟨_, hcl, hat⟩ := World.cells?_some hc
      obtain ⟨c0, c1, y0, y1, n', rfl, t0, t1⟩ := trod_pairI Try.underlying51 cellsI64 hcl ht
      obtain ⟨x0, e0, rfl, w0⟩ := DataW.trod_int Try.underlying3 t0
      obtain ⟨x1, e1, rfl, w1⟩ := DataW.trod_int Try.underlying3 t1
      simp at e0 e1
      subst e0 e1
      have b0 := bounds_i64 w0
      have b1 := bounds_i64 w1
      refine ⟨(x0, x1), by unfold I64; omega, by unfold I64; omega, ?_, ?_⟩
      · have := hat 0 (by simp)
        simpa [Addr.add] using this
      · have := hat 1 (by simp)
        simpa using this
    have hch : ∃ f : Nat → Int × Int, ∀ i, i < len → I64 (f i).1 ∧ I64 (f i).2 ∧ W.cell? (a.add (i * 2)) = some (.int .i64 (f i).1) ∧ W.cell? ((a.add (i * 2)).add 1) = some (.int .i64 (f i).2) := by
      refine ⟨fun i => if h : i < len then Classical.choose (key i h) else (0, 0), fun i h => ?_⟩
      simp only [dif_pos h]
      exact Classical.choose_spec (key i h)
    obtain ⟨f, hf'⟩ := hch
    have hmax : maxLen ≤ 9223372036854775807 := by decide
    refine ⟨(List.range len).map f, some a, cap, by simp, by simpa using hl, by omega, fun i p hp => ?_⟩
    obtain ⟨hlt, he⟩ := List.getElem?_eq_some_iff.1 hp
    simp at hlt he
    subst he
    obtain ⟨g1, g2, g3, g4⟩ := hf' i hlt
    exact ⟨g1, g2, a, rfl, g3, g4⟩
/-- What the row's reading gives of two such lists. -/
theorem open_raw2 {H : Type} {enc : TypeId × Value → H} {W : World} {base b : Nat} {sp : Nat → Bool} {held : Bool} {v : Value} {d : DataW H} {ps : List MemPlace}
    (hval : Value.okWide Try.prog W .any base 50 v) (hd : DataW.Trod enc Try.prog W b sp held 50 v d ps) : ∃ v0 v1 z0 z1, v = .agg #[v0, v1] ∧ RawAt W v0 z0 ∧ RawAt W v1 z1 := by
  obtain ⟨cs, rfl, hsz, _⟩ : ∃ cs, v = .agg cs ∧ cs.size = Try.prog.cellsOf 50 ∧ Row.okWide Try.prog W .any base 50 cs := by
    simpa [Value.okWide, Try.underlying50] using hval
  rw [cellsRaw2] at hsz
  obtain ⟨l⟩ := cs
  obtain ⟨v0, v1, rfl⟩ : ∃ a b, l = [a, b] := by
    match l, hsz with
    | [a, b], _ => exact ⟨a, b, rfl⟩
  obtain ⟨fuel, hf⟩ := hd
  obtain ⟨xs, m, rfl, hx, hlen, hxl, hi⟩ := DataW.trod_array Try.underlying50 hf
  have h0 := hi 0 (by omega)
  have h1 := hi 1 (by omega)
  rw [cellsRaws] at h0 h1
  rw [List.getElem?_eq_getElem (by omega)] at h0 h1
  obtain ⟨z0, k0⟩ := raw_of_trod (v := v0) h0
  obtain ⟨z1, k1⟩ := raw_of_trod (v := v1) h1
  exact ⟨v0, v1, z0, z1, rfl, k0, k1⟩
end Go.Proofs.Ytbkgipggblphlaa

namespace Go.Proofs.Ytbkgipggblphlaa
open Go Go.ChangeShapes Go.WideShapes Go.ChangeAt Go.RowKit Go.Deep
set_option maxRecDepth 100000
theorem open_pairI {H : Type} {enc : TypeId × Value → H} {W : World} {base b : Nat} {sp : Nat → Bool} {held : Bool} {v : Value} {d : DataW H} {ps : List MemPlace}
    (hval : Value.okWide Try.prog W .any base 51 v) (hd : DataW.Trod enc Try.prog W b sp held 51 v d ps) : ∃ p q, v = .agg #[.int .i64 p, .int .i64 q] ∧ I64 p ∧ I64 q := by
  obtain ⟨cs, rfl, hsz, _⟩ : ∃ cs, v = .agg cs ∧ cs.size = Try.prog.cellsOf 51 ∧ Row.okWide Try.prog W .any base 51 cs := by
    simpa [Value.okWide, Try.underlying51] using hval
  rw [cellsPairI] at hsz
  obtain ⟨l⟩ := cs
  obtain ⟨fuel, hf⟩ := hd
  obtain ⟨c0, c1, y0, y1, n', e, t0, t1⟩ := trod_pairI (cs := l) Try.underlying51 cellsI64 hsz hf
  subst e
  obtain ⟨x0, e0, rfl, w0⟩ := DataW.trod_int Try.underlying3 t0
  obtain ⟨x1, e1, rfl, w1⟩ := DataW.trod_int Try.underlying3 t1
  simp at e0 e1
  subst e0 e1
  exact ⟨x0, x1, rfl, i64_of_wf w0, i64_of_wf w1⟩
end Go.Proofs.Ytbkgipggblphlaa
