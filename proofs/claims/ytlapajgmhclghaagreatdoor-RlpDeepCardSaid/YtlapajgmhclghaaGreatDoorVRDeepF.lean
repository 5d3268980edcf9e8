import Derived.Test.YtlapajgmhclghaaGreatDoorU18
/- Lists within lists, their bytes, and how they are read. Conditions: none. -/
namespace Go.Proofs.YtlapajgmhclghaaGreatDoor
open Go Go.RowKit

def deepI : Nat → It
  | 0 => .mk true ⟨#[]⟩ []
  | n + 1 => .mk true ⟨#[]⟩ [deepI n]
def deepS : Nat → List UInt8
  | 0 => [192]
  | n + 1 => UInt8.ofNat (192 + (deepS n).length) :: deepS n
theorem deepS_len : ∀ n, (deepS n).length = n + 1
  | 0 => rfl
  | n + 1 => by rw [deepS, List.length_cons, deepS_len n]
theorem encI_deep : ∀ n, n ≤ 54 → encI (deepI n) = deepS n
  | 0, _ => by simp [encI, encL, deepI, deepS, headL]
  | n + 1, h => by
    rw [deepI, encI, if_pos rfl, encL, encL, List.append_nil, encI_deep n (by omega), deepS, headL, deepS_len, if_pos (by omega)]
    rfl
theorem countI_deep : ∀ n, countI (deepI n) = n + 1
  | 0 => by simp [countI, countL, deepI]
  | n + 1 => by
    rw [deepI, countI, countL, countL, countI_deep n]
    omega
theorem right_deep : ∀ (d n : Nat), RightI d (deepI n) ↔ n < d
  | 0, n => by simp [RightI]
  | d + 1, 0 => by simp [RightI, deepI, It.list, It.bytes, It.kids]
  | d + 1, n + 1 => by
    rw [RightI]
    have := right_deep d n
    simp [deepI, It.list, It.bytes, It.kids, this]
theorem ok_deep (n : Nat) (h : n < 24) : okI (deepI n) = decide (n < 16) := by
  unfold okI
  rw [countI_deep, decide_eq_true (by omega : n + 1 ≤ 5000), Bool.true_and]
  by_cases hn : n < 16
  · rw [(rightB_iff 16 _).2 ((right_deep 16 n).2 hn), decide_eq_true hn]
  · rw [rightB_false (fun h => hn ((right_deep 16 n).1 h)), decide_eq_false hn]
theorem encE_deep (n : Nat) (h : n < 16) : encE (deepI n) = 0 := encE_good (by rw [ok_deep n (by omega), decide_eq_true h]) (by rw [encI_deep n (by omega), deepS_len]; omega)
theorem encE_deep_no (n : Nat) (h : 16 ≤ n) (h2 : n < 24) : encE (deepI n) = 1 := encE_bad (by rw [ok_deep n h2, decide_eq_false (by omega)])
set_option maxRecDepth 100000 in
theorem dec_deep (k : Nat) (h : k < 16) : decR ⟨(deepS k).toArray⟩ = .ok (deepI k) (k + 1) (k + 1) := by
  obtain rfl | rfl | rfl | rfl | rfl | rfl | rfl | rfl | rfl | rfl | rfl | rfl | rfl | rfl | rfl | rfl : k = 0 ∨ k = 1 ∨ k = 2 ∨ k = 3 ∨ k = 4 ∨ k = 5 ∨ k = 6 ∨ k = 7 ∨ k = 8 ∨ k = 9 ∨ k = 10 ∨ k = 11 ∨ k = 12 ∨ k = 13 ∨ k = 14 ∨ k = 15 := by omega
  all_goals kernel_rfl
set_option maxRecDepth 100000 in
theorem dec_deep_no (j : Nat) (h : j < 8) : decR ⟨(deepS (16 + j)).toArray⟩ = .no 13 16 := by
  obtain rfl | rfl | rfl | rfl | rfl | rfl | rfl | rfl : j = 0 ∨ j = 1 ∨ j = 2 ∨ j = 3 ∨ j = 4 ∨ j = 5 ∨ j = 6 ∨ j = 7 := by omega
  all_goals kernel_rfl
end Go.Proofs.YtlapajgmhclghaaGreatDoor
