import Derived.Test.YtadfkiebblmfkaaGreatDoorS37
/- What StateSorts makes: accounts in the order of their addresses. Conditions: none. -/
namespace Go.Proofs.YtadfkiebblmfkaaGreatDoor
open Go Go.RowKit

def aS (k : Nat) : Nat := k * 256 ^ 19
def acS (k v : Nat) : Ac := ⟨aS k, 0, (v : Int), ⟨#[]⟩, []⟩
def oneS (nv : Nat → Nat) (k : Nat) : Option Ac := if nv k = 0 then none else some (acS k (nv k))
def partS (nv : Nat → Nat) (lo n : Nat) : List Ac := (List.range' lo n).filterMap (oneS nv)
def sL (nv : Nat → Nat) : List Ac := partS nv 0 256
theorem aS_lt {k : Nat} (h : k < 256) : aS k < 256 ^ 20 := by unfold aS; omega
theorem aS_mono {i j : Nat} (h : i < j) : aS i < aS j := by unfold aS; omega
theorem partS_mem {nv : Nat → Nat} {lo n : Nat} {x : Ac} (h : x ∈ partS nv lo n) : ∃ j, lo ≤ j ∧ j < lo + n ∧ nv j ≠ 0 ∧ x = acS j (nv j) := by
  unfold partS at h
  obtain ⟨j, hj, e⟩ := List.mem_filterMap.1 h
  rw [List.mem_range'_1] at hj
  unfold oneS at e
  split at e
  · cases e
  · rename_i h0
    injection e with e
    exact ⟨j, hj.1, hj.2, h0, e.symm⟩
theorem partS_split (nv : Nat → Nat) (lo a b : Nat) : partS nv lo (a + b) = partS nv lo a ++ partS nv (lo + a) b := by
  unfold partS
  rw [← List.filterMap_append, List.range'_append_1]
theorem partS_one (nv : Nat → Nat) (k : Nat) : partS nv k 1 = if nv k = 0 then [] else [acS k (nv k)] := by
  unfold partS
  rw [List.range'_one]
  unfold oneS
  by_cases h : nv k = 0
  · simp [h]
  · simp [h]
theorem sL_split (nv : Nat → Nat) {k : Nat} (hk : k < 256) : sL nv = partS nv 0 k ++ (if nv k = 0 then [] else [acS k (nv k)]) ++ partS nv (k + 1) (255 - k) := by
  unfold sL
  have e : partS nv 0 256 = partS nv 0 (k + (1 + (255 - k))) := by rw [show k + (1 + (255 - k)) = 256 by omega]
  rw [e, partS_split, partS_split, Nat.zero_add, partS_one, List.append_assoc]
def updN (nv : Nat → Nat) (k v : Nat) : Nat → Nat := fun j => if j = k then v else nv j
theorem fm_congr {α β : Type} {f g : α → Option β} : ∀ (l : List α), (∀ x ∈ l, f x = g x) → l.filterMap f = l.filterMap g
  | [], _ => rfl
  | x :: l, h => by
    rw [List.filterMap_cons, List.filterMap_cons, h x (by simp), fm_congr l (fun y hy => h y (by simp [hy]))]
theorem partS_upd (nv : Nat → Nat) (k v lo n : Nat) (h : k < lo ∨ lo + n ≤ k) : partS (updN nv k v) lo n = partS nv lo n := by
  unfold partS
  refine fm_congr _ fun j hj => ?_
  rw [List.mem_range'_1] at hj
  unfold oneS updN
  rw [if_neg (show ¬ j = k by omega)]
theorem empty_acS (k v : Nat) : emptyB (acS k v) = decide (v = 0) := by
  unfold emptyB acS
  by_cases h : v = 0
  · subst h; rfl
  · simp [h]
theorem filt_lo (nv : Nat → Nat) (k lo n : Nat) (h : lo + n ≤ k) : (partS nv lo n).filter (fun y => decide (y.at_ < aS k)) = partS nv lo n ∧ (partS nv lo n).filter (fun y => decide (aS k < y.at_)) = [] := by
  refine ⟨List.filter_eq_self.2 fun x hx => ?_, List.filter_eq_nil_iff.2 fun x hx => ?_⟩
  · obtain ⟨j, _, h2, _, rfl⟩ := partS_mem hx
    exact decide_eq_true (aS_mono (show j < k by omega))
  · obtain ⟨j, _, h2, _, rfl⟩ := partS_mem hx
    have h3 := aS_mono (show j < k by omega)
    have h4 : ¬ aS k < aS j := by omega
    show ¬ decide (aS k < aS j) = true
    rw [decide_eq_true_eq]
    exact h4
theorem filt_hi (nv : Nat → Nat) (k lo n : Nat) (h : k < lo) : (partS nv lo n).filter (fun y => decide (y.at_ < aS k)) = [] ∧ (partS nv lo n).filter (fun y => decide (aS k < y.at_)) = partS nv lo n := by
  refine ⟨List.filter_eq_nil_iff.2 fun x hx => ?_, List.filter_eq_self.2 fun x hx => ?_⟩
  · obtain ⟨j, h1, _, _, rfl⟩ := partS_mem hx
    have h3 := aS_mono (show k < j by omega)
    have h4 : ¬ aS j < aS k := by omega
    show ¬ decide (aS j < aS k) = true
    rw [decide_eq_true_eq]
    exact h4
  · obtain ⟨j, h1, _, _, rfl⟩ := partS_mem hx
    exact decide_eq_true (aS_mono (show k < j by omega))
theorem putA_sL (nv : Nat → Nat) {k : Nat} (hk : k < 256) (v : Nat) : putA (sL nv) (acS k v) = sL (updN nv k v) := by
  unfold putA
  rw [show (acS k v).at_ = aS k from rfl, sL_split nv hk, sL_split (updN nv k v) hk, partS_upd nv k v 0 k (by omega), partS_upd nv k v (k + 1) _ (by omega)]
  have hm1 : ∀ l : List Ac, (l = [] ∨ l = [acS k (nv k)]) → l.filter (fun y => decide (y.at_ < aS k)) = [] ∧ l.filter (fun y => decide (aS k < y.at_)) = [] := fun l h => by
    rcases h with rfl | rfl
    · exact ⟨rfl, rfl⟩
    · simp [acS]
  have hm := hm1 (if nv k = 0 then [] else [acS k (nv k)]) (by split <;> simp)
  simp only [List.filter_append, (filt_lo nv k 0 k (by omega)).1, (filt_lo nv k 0 k (by omega)).2, (filt_hi nv k (k + 1) (255 - k) (by omega)).1, (filt_hi nv k (k + 1) (255 - k) (by omega)).2, hm.1, hm.2, List.append_nil, List.nil_append]
  rw [empty_acS, show updN nv k v k = v by simp [updN]]
  by_cases h : v = 0
  · simp [h]
  · simp [h]
theorem filt_two (l : List Ac) (t : Nat) : (l.filter (fun y => decide (y.at_ < t))).length + (l.filter (fun y => decide (t < y.at_))).length ≤ l.length := by
  induction l with
  | nil => simp
  | cons x r ih =>
    simp only [List.filter_cons, List.length_cons]
    by_cases h1 : x.at_ < t
    · rw [if_pos (decide_eq_true h1), if_neg (by simp; omega)]
      simp only [List.length_cons]
      omega
    · rw [if_neg (by simp; omega)]
      split
      · simp only [List.length_cons]; omega
      · omega
theorem putA_le (l : List Ac) (x : Ac) : (putA l x).length ≤ l.length + 1 := by
  unfold putA
  have := filt_two l x.at_
  simp only [List.length_append]
  split <;> simp <;> omega
theorem sL_ups (nv : Nat → Nat) : Ups (sL nv) := by
  unfold Ups sL partS
  refine List.Pairwise.filterMap (oneS nv) (R := fun a b : Nat => a < b) (fun a b hab x hx y hy => ?_) ?_
  · unfold oneS at hx hy
    split at hx
    · cases hx
    · split at hy
      · cases hy
      · simp at hx hy
        rw [← hx, ← hy]
        exact aS_mono hab
  · exact List.pairwise_lt_range'
theorem acS_stray {k v : Nat} (h0 : v ≠ 0) (h : v < 3) : strayB (acS k v) = false := by
  unfold strayB
  rw [empty_acS, show mayB (acS k v) = true from may_ac _ _ _ _ rightB_none (by omega) (by omega)]
  simp [h0]
theorem sL_right (nv : Nat → Nat) (hv : ∀ k, nv k < 3) (hl : (sL nv).length ≤ 200) : rightS (sL nv) = true := by
  unfold rightS
  rw [(upsB_iff _).2 (sL_ups nv), decide_eq_true hl]
  rw [Bool.true_and, Bool.true_and, List.all_eq_true]
  intro x hx
  obtain ⟨j, _, _, h0, rfl⟩ := partS_mem hx
  rw [acS_stray h0 (hv j)]
  rfl
theorem acS_ok {k v : Nat} (hk : k < 256) (hv : v < 3) : AcOk (acS k v) := ⟨aS_lt hk, show W256 0 by unfold W256; decide, show I64 (v : Int) by unfold I64; omega, show (⟨#[]⟩ : ByteArray).size ≤ 140737488355328 by decide⟩
theorem sL_slots (nv : Nat → Nat) : ∀ y ∈ sL nv, y.slots.length ≤ 100000 := by
  intro x hx
  obtain ⟨j, _, _, _, rfl⟩ := partS_mem hx
  exact Nat.zero_le _
theorem set_sL (nv : Nat → Nat) (hv : ∀ k, nv k < 3) (hl : (sL nv).length ≤ 30) {k v : Nat} (hk : k < 256) (h : v < 3) : setE (sL nv) (acS k v) = 0 := by
  unfold setE
  have := putA_le (sL nv) (acS k v)
  rw [if_neg (by rw [sL_right nv hv (by omega)]; decide), if_neg (by rw [show mayB (acS k v) = true from may_ac _ _ _ _ rightB_none (by omega) (by omega)]; decide), if_pos (by omega)]
theorem sL_at (nv : Nat → Nat) {k : Nat} (hk : k < 256) (h : nv k ≠ 0) : (sL nv)[(partS nv 0 k).length]? = some (acS k (nv k)) := by
  rw [sL_split nv hk, if_neg h, List.append_assoc, List.getElem?_append_right (Nat.le_refl _), Nat.sub_self]
  rfl
theorem part_succ (nv : Nat → Nat) (k : Nat) : (partS nv 0 (k + 1)).length = (partS nv 0 k).length + (if nv k = 0 then 0 else 1) := by
  rw [partS_split, Nat.zero_add, partS_one, List.length_append]
  split <;> simp
theorem part_le (nv : Nat → Nat) {k : Nat} (hk : k ≤ 256) : (partS nv 0 k).length ≤ (sL nv).length := by
  unfold sL
  rw [show 256 = k + (256 - k) by omega, partS_split, List.length_append]
  omega
def hadL (nv : Nat → Nat) : List Value := (List.range 256).map fun k => .bool (decide (0 < nv k))
def hadC (nv : Nat → Nat) : Array Value := (hadL nv).toArray
theorem hadC_at (nv : Nat → Nat) {k : Nat} (hk : k < 256) : (hadC nv)[k]? = some (.bool (decide (0 < nv k))) := by simp [hadC, hadL, hk]
theorem hadC_set (nv : Nat → Nat) {k : Nat} (hk : k < 256) (v : Nat) : (hadC nv).setIfInBounds k (.bool (decide (0 < v))) = hadC (updN nv k v) := by
  refine Array.ext_getElem? fun j => ?_
  rw [Array.getElem?_setIfInBounds]
  have hs : (hadC nv).size = 256 := by simp [hadC, hadL]
  by_cases hj : j < 256
  · rw [hadC_at _ hj]
    by_cases e : k = j
    · subst e
      rw [if_pos rfl, if_pos (by omega), hadC_at _ hj]
      simp [updN]
    · rw [if_neg e, hadC_at _ hj]
      unfold updN
      rw [if_neg (fun h => e h.symm)]
  · have hs2 : (hadC (updN nv k v)).size = 256 := by simp [hadC, hadL]
    rw [if_neg (by omega), Array.getElem?_eq_none (by omega), Array.getElem?_eq_none (by omega)]
theorem hadC_zero : hadC (fun _ => 0) = Array.replicate 256 (.bool false) := by
  refine Array.ext_getElem? fun j => ?_
  by_cases hj : j < 256
  · rw [hadC_at _ hj]
    simp [hj]
  · rw [Array.getElem?_eq_none (by simp [hadC, hadL]; omega), Array.getElem?_eq_none (by simp; omega)]
theorem sL_zero : sL (fun _ => 0) = [] := by
  unfold sL partS oneS
  simp
end Go.Proofs.YtadfkiebblmfkaaGreatDoor
