/- Slots as an argument. Conditions: none. -/
import Derived.Test.YtcannohmbaaceaaTabU
import Derived.Test.YtcannohmbaaceaaOpenP
import Derived.Test.YtcannohmbaaceaaRawO
namespace Go.Proofs.Ytcannohmbaaceaa
open Go Go.ChangeShapes Go.WideShapes Go.ChangeAt Go.RowKit Go.Deep

theorem cellsSlot : Try.prog.cellsOf 31 = 8 := by kernel_rfl
theorem list8 {α : Type} (l : List α) (h : l.length = 8) : ∃ a b c d e f g i, l = [a, b, c, d, e, f, g, i] := by
  match l, h with
  | [a, b, c, d, e, f, g, i], _ => exact ⟨a, b, c, d, e, f, g, i, rfl⟩
/-- What a word's reading gives. -/
theorem trod_word {H : Type} {enc : TypeId × Value → H} {w : World} {base : Nat} {sp : Nat → Bool} {held : Bool} {fuel : Nat} {c0 c1 c2 c3 : Value} {x : DataW H × List MemPlace}
    (h : DataW.trod enc Try.prog w base sp held fuel 26 [c0, c1, c2, c3] = some x) : ∃ n, W256 n ∧ c0 = .int .u64 (lim n 0) ∧ c1 = .int .u64 (lim n 1) ∧ c2 = .int .u64 (lim n 2) ∧ c3 = .int .u64 (lim n 3) := by
  obtain ⟨y0, y1, y2, y3, m, hx, hy0, hy1, hy2, hy3⟩ := trod_array4 Try.underlying26 cellsU64 h
  obtain ⟨x0, e0, rfl, w0⟩ := DataW.trod_int Try.underlying24 hy0
  obtain ⟨x1, e1, rfl, w1⟩ := DataW.trod_int Try.underlying24 hy1
  obtain ⟨x2, e2, rfl, w2⟩ := DataW.trod_int Try.underlying24 hy2
  obtain ⟨x3, e3, rfl, w3⟩ := DataW.trod_int Try.underlying24 hy3
  simp at e0 e1 e2 e3
  subst e0 e1 e2 e3
  obtain ⟨n, hn, h0, h1, h2, h3⟩ := four x0 x1 x2 x3 (u64_of_wf w0) (u64_of_wf w1) (u64_of_wf w2) (u64_of_wf w3)
  exact ⟨n, hn, by rw [h0], by rw [h1], by rw [h2], by rw [h3]⟩
set_option maxRecDepth 100000 in
/-- What a slot's reading gives. -/
theorem trod_slot {H : Type} {enc : TypeId × Value → H} {w : World} {base : Nat} {sp : Nat → Bool} {held : Bool} {fuel : Nat} {cs : List Value} {x : DataW H × List MemPlace}
    (h : DataW.trod enc Try.prog w base sp held fuel 31 cs = some x) (hl : cs.length = 8) : ∃ y : Sl, W256 y.1 ∧ W256 y.2 ∧ cs = slC y := by
  obtain ⟨c0, c1, c2, c3, c4, c5, c6, c7, rfl⟩ := list8 cs hl
  obtain ⟨ys, n, _, _, _, hyl, hg⟩ := DataW.trod_struct Try.underlying31 h
  have h0 := hg 0 _ rfl
  have h1 := hg 1 _ rfl
  have hw : Try.prog.cellsOf 26 = 4 := cellsWord
  have h0 : DataW.trod enc Try.prog w base sp held n 26 (([c0, c1, c2, c3, c4, c5, c6, c7].drop 0).take (Try.prog.cellsOf 26)) = ys[0]? := h0
  have h1 : DataW.trod enc Try.prog w base sp held n 26 (([c0, c1, c2, c3, c4, c5, c6, c7].drop 4).take (Try.prog.cellsOf 26)) = ys[1]? := h1
  rw [hw] at h0 h1
  obtain ⟨a, b, rfl⟩ : ∃ a b, ys = [a, b] := by
    match ys, hyl with
    | [a, b], _ => exact ⟨a, b, rfl⟩
  obtain ⟨k, hk, rfl, rfl, rfl, rfl⟩ := trod_word h0
  obtain ⟨v, hv, rfl, rfl, rfl, rfl⟩ := trod_word h1
  exact ⟨(k, v), hk, hv, rfl⟩
set_option maxRecDepth 100000 in
/-- What the row's reading gives of such an argument. -/
theorem open_slots {H : Type} {enc : TypeId × Value → H} {W : World} {base b : Nat} {sp : Nat → Bool} {held : Bool} {v : Value} {d : DataW H} {ps : List MemPlace}
    (hval : Value.okWide Try.prog W .any base 22 v) (hd : DataW.Trod enc Try.prog W b sp held 22 v d ps) : ∃ l, SlotsAt W v l := by
  obtain ⟨a0, len, cap, rfl⟩ := okWide_slice Try.underlying22 hval
  obtain ⟨fuel, hf⟩ := hd
  rcases open_slice Try.underlying22 hf with ⟨hcs, _⟩ | ⟨a, len', cap', m, n, D, Pl, hcs, _, hl, hm, hmm, _, hi⟩
  · simp [Value.cells] at hcs
    obtain ⟨rfl, rfl, rfl⟩ := hcs
    exact ⟨[], SlotsAt.nil W⟩
  · simp [Value.cells] at hcs
    obtain ⟨rfl, rfl, rfl⟩ := hcs
    have hlm : len ≤ m := by rw [hmm]; split <;> omega
    have key : ∀ i, i < len → ∃ y : Sl, W256 y.1 ∧ W256 y.2 ∧ ∀ j : Nat, j < 8 → W.cell? ((a.add (i * 8)).add j) = some (.int .u64 (slP y j)) := by
      intro i hil
      obtain ⟨cs', hc, ht⟩ := hi i (by omega)
      rw [cellsSlot] at hc
      obtain ⟨_, hcl, hat⟩ := World.cells?_some hc
      obtain ⟨y, h1, h2, rfl⟩ := trod_slot ht hcl
      refine ⟨y, h1, h2, fun j hj => ?_⟩
      have := hat j hj
      rw [this]
      exact slC_at y j hj
    have hch : ∃ f : Nat → Sl, ∀ i, i < len → W256 (f i).1 ∧ W256 (f i).2 ∧ ∀ j : Nat, j < 8 → W.cell? ((a.add (i * 8)).add j) = some (.int .u64 (slP (f i) j)) := by
      refine ⟨fun i => if h : i < len then Classical.choose (key i h) else (0, 0), fun i h => ?_⟩
      simp only [dif_pos h]
      exact Classical.choose_spec (key i h)
    obtain ⟨f, hf'⟩ := hch
    have hmax : maxLen ≤ 9223372036854775807 := by decide
    refine ⟨(List.range len).map f, some a, cap, by simp, by simpa using hl, by omega, fun x hx => ?_, fun i p hp => ?_⟩
    · obtain ⟨i, hi', rfl⟩ := List.mem_map.1 hx
      have := hf' i (List.mem_range.1 hi')
      exact ⟨this.1, this.2.1⟩
    · obtain ⟨hlt, he⟩ := List.getElem?_eq_some_iff.1 hp
      simp at hlt he
      subst he
      exact ⟨a, rfl, (hf' i hlt).2.2⟩
end Go.Proofs.Ytcannohmbaaceaa
