/- Tables: how long a table is behind Put; the even keys. Conditions: none. -/
import Derived.Test.YtcannohmbaaceaaTabI
namespace Go.Proofs.Ytcannohmbaaceaa

theorem merge_nil {l : List Sl} (h : ∀ x ∈ l, x.2 ≠ 0) : mergeL l [] = l := by
  induction l with
  | nil => simp [mergeL, bothL, listF]
  | cons x r ih =>
    have h0 := h x (by simp)
    have ih' := ih (fun y hy => h y (by simp [hy]))
    unfold mergeL listF at ih' ⊢
    have hb : behindF ⟨x.1, x.2, 0, false⟩ = some x.2 := by simp [behindF, h0]
    rw [bothL, List.filterMap_cons, hb, ih']
    rfl
theorem merge_one_len {l : List Sl} (hl : Kept l) (k v : Nat) : (mergeL l [(k, v)]).length = match lk l k with | some _ => (if v = 0 then l.length - 1 else l.length) | none => (if v = 0 then l.length else l.length + 1) := by
  induction l with
  | nil =>
    by_cases hv : v = 0 <;> simp [mergeL, bothL, listF, behindF, lk, hv]
  | cons x r ih =>
    have h0 : x.2 ≠ 0 := hl.2 x (by simp)
    have hr := kept_cons hl
    have ih' := ih hr
    have hn := merge_nil hr.2
    have hn2 := merge_nil hl.2
    unfold mergeL listF at ih' hn hn2 ⊢
    rw [bothL]
    by_cases h1 : x.1 < k
    · have hb : behindF ⟨x.1, x.2, 0, false⟩ = some x.2 := by simp [behindF, h0]
      rw [if_pos h1, List.filterMap_cons, lk, if_neg (by omega), hb]
      simp only [Option.map_some]
      rw [List.length_cons]
      rcases hk : lk r k with _ | u
      · rw [hk] at ih'
        simp only at ih' ⊢
        rw [ih']
        by_cases hv : v = 0 <;> simp [hv]
      · rw [hk] at ih'
        simp only at ih' ⊢
        rw [ih']
        have hpos : 0 < r.length := by
          have := List.length_pos_of_mem (lk_mem hk)
          exact this
        by_cases hv : v = 0
        · simp [hv]; omega
        · simp [hv]
    · rw [if_neg h1]
      by_cases h2 : k < x.1
      · rw [if_pos h2, List.filterMap_cons, hn2]
        have hno : lk (x :: r) k = none := by
          rw [lk, if_neg (by omega)]
          exact rise_lt hl.1 (by omega)
        rw [hno]
        by_cases hv : v = 0 <;> simp [behindF, hv]
      · rw [if_neg h2, List.filterMap_cons, hn, lk, if_pos (by omega)]
        by_cases hv : v = 0 <;> simp [behindF, hv]
def evL (n : Nat) : List Sl := (List.range n).map (fun i => (2 * i, 1))
theorem evL_len (n : Nat) : (evL n).length = n := by simp [evL]
theorem evL_succ (n : Nat) : evL (n + 1) = evL n ++ [(2 * n, 1)] := by simp [evL, List.range_succ]
theorem evL_mem {n : Nat} {x : Sl} : x ∈ evL n ↔ ∃ i, i < n ∧ x = (2 * i, 1) := by
  simp only [evL, List.mem_map, List.mem_range]
  exact ⟨fun ⟨i, h, e⟩ => ⟨i, h, e.symm⟩, fun ⟨i, h, e⟩ => ⟨i, h, e.symm⟩⟩
theorem evL_kept (n : Nat) : Kept (evL n) := by
  refine ⟨?_, fun x hx => by obtain ⟨i, _, rfl⟩ := evL_mem.1 hx; simp⟩
  unfold Rise evL
  rw [List.pairwise_map]
  exact List.pairwise_lt_range.imp (fun h => by show 2 * _ < 2 * _; omega)
theorem evL_lk (n k : Nat) : lk (evL n) k = if k % 2 = 0 ∧ k / 2 < n then some 1 else none := by
  by_cases h : k % 2 = 0 ∧ k / 2 < n
  · rw [if_pos h]
    have hm : ((2 * (k / 2), 1) : Sl) ∈ evL n := evL_mem.2 ⟨k / 2, h.2, rfl⟩
    have := lk_of_mem (evL_kept n).1 hm
    rw [show 2 * (k / 2) = k by omega] at this
    exact this
  · rw [if_neg h]
    refine lk_none (fun x hx e => h ?_)
    obtain ⟨i, hi, rfl⟩ := evL_mem.1 hx
    have e' : 2 * i = k := e
    omega
end Go.Proofs.Ytcannohmbaaceaa
