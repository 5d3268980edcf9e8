/- TableBack. Conditions: the raw numbers lie in memory. -/
import Derived.Test.YtcannohmbaaceaaTabU
import Derived.Test.YtcannohmbaaceaaTabV
namespace Go.Proofs.Ytcannohmbaaceaa
open Go Go.RowKit
attribute [local go_sem] Oper.semAt_some Grows wide_fn

theorem listF_wide (w : Pr → Option Nat) (hw : ∀ p v, w p = some v → v = p.fst ∨ v = p.snd) (a b : List Sl) (ha : ∀ x ∈ a, W256 x.1 ∧ W256 x.2) (hb : ∀ x ∈ b, W256 x.1 ∧ W256 x.2) : ∀ x ∈ listF w (bothL a b), W256 x.1 ∧ W256 x.2 := by
  intro x hx
  unfold listF at hx
  obtain ⟨p, hp, e⟩ := List.mem_filterMap.1 hx
  have h := bothL_wide a b ha hb p hp
  rcases hv : w p with _ | v
  · rw [hv] at e; cases e
  · rw [hv] at e
    injection e with e
    subst e
    refine ⟨h.1, ?_⟩
    rcases hw p v hv with rfl | rfl
    · exact h.2.1
    · exact h.2.2
theorem diffL_wide (a b : List Sl) (ha : ∀ x ∈ a, W256 x.1 ∧ W256 x.2) (hb : ∀ x ∈ b, W256 x.1 ∧ W256 x.2) : ∀ x ∈ diffL a b, W256 x.1 ∧ W256 x.2 :=
  listF_wide _ (fun p v h => by unfold unlikeF at h; split at h <;> simp at h; exact .inr h.symm) a b ha hb
theorem mergeL_wide (a b : List Sl) (ha : ∀ x ∈ a, W256 x.1 ∧ W256 x.2) (hb : ∀ x ∈ b, W256 x.1 ∧ W256 x.2) : ∀ x ∈ mergeL a b, W256 x.1 ∧ W256 x.2 :=
  listF_wide _ (fun p v h => by
    rcases p with ⟨k, f, s, i⟩
    cases i
    · simp [behindF] at h
      exact .inl h.2.symm
    · simp [behindF] at h
      exact .inr h.2.symm) a b ha hb
theorem diffL_len (a b : List Sl) : (diffL a b).length ≤ a.length + b.length := Nat.le_trans (listF_len _ _) (bothL_len a b)
theorem mergeL_len (a b : List Sl) : (mergeL a b).length ≤ a.length + b.length := Nat.le_trans (listF_len _ _) (bothL_len a b)
end Go.Proofs.Ytcannohmbaaceaa
