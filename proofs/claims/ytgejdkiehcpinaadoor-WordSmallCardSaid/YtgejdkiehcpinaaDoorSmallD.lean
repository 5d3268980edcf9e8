/- The law's own digits of a small number. -/
import Derived.Test.YtgejdkiehcpinaaDoorAwake
namespace Go.Proofs.YtgejdkiehcpinaaDoor
open Go Go.RowKit
attribute [local go_sem] Oper.semAt_some Grows wide_fn eq4

/-- A number's digits in base ten. -/
def decStr (n : Nat) : ByteArray := if n < 10 then ⟨#[UInt8.ofNat (48 + n)]⟩ else decStr (n / 10) ++ ⟨#[UInt8.ofNat (48 + n % 10)]⟩
termination_by n

theorem digit_cut : ∀ n : Fin 10, (⟨#[48, 49, 50, 51, 52, 53, 54, 55, 56, 57]⟩ : ByteArray).extract n.val (n.val + 1) = ⟨#[UInt8.ofNat (48 + n.val)]⟩ := by decide

set_option maxRecDepth 100000 in
theorem decimal_low (n : Nat) (hn : n < 10) : Ret Tryd.prog 32 #[.int .i64 (n : Int)] (.string ⟨#[UInt8.ofNat (48 + n)]⟩) := by
  refine Ret.of_same fun w => ?_
  rcases (show n = 0 ∨ n = 1 ∨ n = 2 ∨ n = 3 ∨ n = 4 ∨ n = 5 ∨ n = 6 ∨ n = 7 ∨ n = 8 ∨ n = 9 by omega) with rfl | rfl | rfl | rfl | rfl | rfl | rfl | rfl | rfl | rfl
  all_goals
    go_enter Tryd.func32, Tryd.ntmps32
    go_wp2
    go_ret
    exact ⟨rfl, rfl⟩
theorem decStr_step (n : Nat) (h : ¬ n < 10) : decStr n = decStr (n / 10) ++ ⟨#[UInt8.ofNat (48 + n % 10)]⟩ := by rw [decStr]; exact if_neg h
theorem decStr_size (n : Nat) : (decStr n).size ≤ n + 1 := by
  induction n using Nat.strongRecOn with
  | _ n ih =>
    by_cases h : n < 10
    · rw [decStr, if_pos h]; show 1 ≤ n + 1; omega
    · rw [decStr_step n h, ByteArray.size_append]
      have := ih (n / 10) (by omega)
      show (decStr (n / 10)).size + 1 ≤ n + 1
      omega

end Go.Proofs.YtgejdkiehcpinaaDoor
