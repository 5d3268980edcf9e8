/- Raw numbers, two by two: how they lie in memory. Conditions: none. -/
import Derived.Test.YtbkgipggblphlaaLawK
namespace Go.Proofs.Ytbkgipggblphlaa
open Go Go.RowKit

/-- Pairs of numbers, one behind the other. -/
def RawAt (W : World) (v : Value) (zs : List (Int × Int)) : Prop :=
  ∃ a cap, v = .slice a zs.length cap ∧ zs.length ≤ cap ∧ cap ≤ 9223372036854775807 ∧ ∀ (i : Nat) (p : Int × Int), zs[i]? = some p → I64 p.1 ∧ I64 p.2 ∧ ∃ b, a = some b ∧ W.cell? (b.add (i * 2)) = some (.int .i64 p.1) ∧ W.cell? ((b.add (i * 2)).add 1) = some (.int .i64 p.2)
theorem Addr.add_add (b : Addr) (i j : Nat) : (b.add i).add j = b.add (i + j) := by
  unfold Addr.add
  by_cases hi : i = 0
  · subst hi; simp
  · by_cases hj : j = 0
    · subst hj; simp [hi]
    · simp only [hi, hj, if_false]
      rw [if_neg (by omega)]
      simp [Nat.add_assoc]
theorem RawAt.keep {W X : World} {v : Value} {zs : List (Int × Int)} (h : RawAt W v zs) (hk : ∀ (a : Addr) (u : Value), W.cell? a = some u → X.cell? a = some u) : RawAt X v zs := by
  obtain ⟨a, cap, h1, h2, h3, h4⟩ := h
  refine ⟨a, cap, h1, h2, h3, fun i p hp => ?_⟩
  obtain ⟨g1, g2, b, e, c0, c1⟩ := h4 i p hp
  exact ⟨g1, g2, b, e, hk _ _ c0, hk _ _ c1⟩
theorem cell_lt {W : World} {a : Addr} {u : Value} (h : W.cell? a = some u) : a.block < W.heap.size := by
  unfold World.cell? at h
  rcases Nat.lt_or_ge a.block W.heap.size with h' | h'
  · exact h'
  · rw [Array.getElem?_eq_none h'] at h
    cases h
theorem cell_below {W X : World} (hb : Below W.heap.size W X) (a : Addr) (u : Value) (h : W.cell? a = some u) : X.cell? a = some u := by
  exact (World.cell?_of_block (hb.block _ (cell_lt h))).trans h
theorem RawAt.later {W X : World} {v : Value} {zs : List (Int × Int)} (h : RawAt W v zs) (hb : Below W.heap.size W X) : RawAt X v zs := h.keep (cell_below hb)
/-- The first k of them. -/
theorem RawAt.take {W : World} {a : Option Addr} {n cap : Nat} {zs : List (Int × Int)} (h : RawAt W (.slice a n cap) zs) (k : Nat) (hk : k ≤ n) : RawAt W (.slice a k cap) (zs.take k) := by
  obtain ⟨a', cap', h1, h2, h3, h4⟩ := h
  injection h1 with e1 e2 e3
  subst e1 e3
  refine ⟨a, cap, by rw [List.length_take, Nat.min_eq_left (by omega)], by rw [List.length_take]; omega, h3, fun i p hp => ?_⟩
  rw [List.getElem?_take] at hp
  split at hp
  · exact h4 i p hp
  · cases hp
/-- Those behind the first k. -/
theorem RawAt.drop {W : World} {a : Option Addr} {n cap : Nat} {zs : List (Int × Int)} (h : RawAt W (.slice a n cap) zs) (k : Nat) (hk : k ≤ n) : RawAt W (.slice (if cap = k then a else a.map (·.add (k * 2))) (n - k) (cap - k)) (zs.drop k) := by
  obtain ⟨a', cap', h1, h2, h3, h4⟩ := h
  injection h1 with e1 e2 e3
  subst e1 e3
  refine ⟨_, _, by rw [List.length_drop, e2], by rw [List.length_drop]; omega, by omega, fun i p hp => ?_⟩
  rw [List.getElem?_drop] at hp
  have hlt := (List.getElem?_eq_some_iff.1 hp).1
  obtain ⟨g1, g2, b, e, c0, c1⟩ := h4 (k + i) p hp
  refine ⟨g1, g2, b.add (k * 2), ?_, ?_, ?_⟩
  · rw [if_neg (by omega), e]; rfl
  · rw [Addr.add_add, ← Nat.add_mul]; exact c0
  · rw [Addr.add_add] at c1
    rw [Addr.add_add, Addr.add_add, show k * 2 + (i * 2 + 1) = (k + i) * 2 + 1 by omega]; exact c1
theorem RawAt.len {W : World} {v : Value} {zs : List (Int × Int)} (h : RawAt W v zs) : zs.length ≤ 9223372036854775807 := by
  obtain ⟨a, cap, h1, h2, h3, h4⟩ := h
  omega
end Go.Proofs.Ytbkgipggblphlaa
