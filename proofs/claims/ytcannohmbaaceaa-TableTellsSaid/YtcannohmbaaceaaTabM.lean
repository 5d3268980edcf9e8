/- How slots lie in memory. Conditions: none. -/
import Derived.Test.YtcannohmbaaceaaTabI
import Derived.Test.YtcannohmbaaceaaRawA
import Derived.Test.YtcannohmbaaceaaRefC
namespace Go.Proofs.Ytcannohmbaaceaa
open Go Go.RowKit

/-- A slot's eight parts. -/
def slP (x : Sl) (j : Nat) : Int := if j < 4 then lim x.1 j else lim x.2 (j - 4)
def slC (x : Sl) : List Value := [.int .u64 (lim x.1 0), .int .u64 (lim x.1 1), .int .u64 (lim x.1 2), .int .u64 (lim x.1 3), .int .u64 (lim x.2 0), .int .u64 (lim x.2 1), .int .u64 (lim x.2 2), .int .u64 (lim x.2 3)]
abbrev slV (x : Sl) : Value := .agg #[.int .u64 (lim x.1 0), .int .u64 (lim x.1 1), .int .u64 (lim x.1 2), .int .u64 (lim x.1 3), .int .u64 (lim x.2 0), .int .u64 (lim x.2 1), .int .u64 (lim x.2 2), .int .u64 (lim x.2 3)]
/-- Slots, one behind the other. -/
def SlotsAt (W : World) (v : Value) (l : List Sl) : Prop :=
  ∃ a cap, v = .slice a l.length cap ∧ l.length ≤ cap ∧ cap ≤ 9223372036854775807 ∧ (∀ x ∈ l, W256 x.1 ∧ W256 x.2) ∧ ∀ (i : Nat) (x : Sl), l[i]? = some x → ∃ b, a = some b ∧ ∀ j : Nat, j < 8 → W.cell? ((b.add (i * 8)).add j) = some (.int .u64 (slP x j))
theorem SlotsAt.keep {W X : World} {v : Value} {l : List Sl} (h : SlotsAt W v l) (hk : ∀ (a : Addr) (u : Value), W.cell? a = some u → X.cell? a = some u) : SlotsAt X v l := by
  obtain ⟨a, cap, h1, h2, h3, h4, h5⟩ := h
  refine ⟨a, cap, h1, h2, h3, h4, fun i x hx => ?_⟩
  obtain ⟨b, e, hc⟩ := h5 i x hx
  exact ⟨b, e, fun j hj => hk _ _ (hc j hj)⟩
theorem SlotsAt.later {W X : World} {v : Value} {l : List Sl} (h : SlotsAt W v l) (hb : Below W.heap.size W X) : SlotsAt X v l := h.keep (cell_below hb)
theorem SlotsAt.nil (W : World) : SlotsAt W (.slice none 0 0) [] := ⟨none, 0, rfl, by simp, by omega, (fun x hx => by cases hx), fun i x hx => by simp at hx⟩
theorem SlotsAt.shape {W : World} {v : Value} {l : List Sl} (h : SlotsAt W v l) : ∃ a cap, v = .slice a l.length cap ∧ l.length ≤ cap ∧ cap ≤ 9223372036854775807 := by
  obtain ⟨a, cap, h1, h2, h3, _⟩ := h
  exact ⟨a, cap, h1, h2, h3⟩
theorem SlotsAt.wide {W : World} {v : Value} {l : List Sl} (h : SlotsAt W v l) {i : Nat} {x : Sl} (hx : l[i]? = some x) : W256 x.1 ∧ W256 x.2 := by
  obtain ⟨a, cap, h1, h2, h3, h4, _⟩ := h
  exact h4 x (List.mem_of_getElem? hx)
/-- A slot's parts, as a walk finds them. -/
theorem SlotsAt.at {W : World} {a : Option Addr} {n cap : Nat} {l : List Sl} (h : SlotsAt W (.slice a n cap) l) {i : Nat} {x : Sl} (hx : l[i]? = some x) :
    ∃ b, a = some b ∧ W.cell? (b.add (i * 8)) = some (.int .u64 (lim x.1 0)) ∧ W.cell? ⟨(b.add (i * 8)).block, (b.add (i * 8)).off + 1, none⟩ = some (.int .u64 (lim x.1 1)) ∧ W.cell? ⟨(b.add (i * 8)).block, (b.add (i * 8)).off + 2, none⟩ = some (.int .u64 (lim x.1 2)) ∧ W.cell? ⟨(b.add (i * 8)).block, (b.add (i * 8)).off + 3, none⟩ = some (.int .u64 (lim x.1 3)) ∧
      W.cell? ⟨(b.add (i * 8)).block, (b.add (i * 8)).off + 4, none⟩ = some (.int .u64 (lim x.2 0)) ∧ W.cell? ⟨(b.add (i * 8)).block, (b.add (i * 8)).off + 5, none⟩ = some (.int .u64 (lim x.2 1)) ∧ W.cell? ⟨(b.add (i * 8)).block, (b.add (i * 8)).off + 6, none⟩ = some (.int .u64 (lim x.2 2)) ∧ W.cell? ⟨(b.add (i * 8)).block, (b.add (i * 8)).off + 7, none⟩ = some (.int .u64 (lim x.2 3)) := by
  obtain ⟨a', cap', h1, h2, h3, h4, h5⟩ := h
  injection h1 with e1 e2 e3
  subst e1
  obtain ⟨b, e, hc⟩ := h5 i x hx
  refine ⟨b, e, ?_, hc 1 (by decide), hc 2 (by decide), hc 3 (by decide), hc 4 (by decide), hc 5 (by decide), hc 6 (by decide), hc 7 (by decide)⟩
  have h0 := hc 0 (by decide)
  rw [Addr.add_add, Nat.add_zero] at h0
  exact h0
theorem SlotsAt.take {W : World} {a : Option Addr} {n cap : Nat} {l : List Sl} (h : SlotsAt W (.slice a n cap) l) (k : Nat) (hk : k ≤ n) : SlotsAt W (.slice a k cap) (l.take k) := by
  obtain ⟨a', cap', h1, h2, h3, h4, h5⟩ := h
  injection h1 with e1 e2 e3
  subst e1 e3
  refine ⟨a, cap, by rw [List.length_take, Nat.min_eq_left (by omega)], by rw [List.length_take]; omega, h3, fun x hx => h4 x (List.mem_of_mem_take hx), fun i x hx => ?_⟩
  rw [List.getElem?_take] at hx
  split at hx
  · exact h5 i x hx
  · cases hx
end Go.Proofs.Ytcannohmbaaceaa
