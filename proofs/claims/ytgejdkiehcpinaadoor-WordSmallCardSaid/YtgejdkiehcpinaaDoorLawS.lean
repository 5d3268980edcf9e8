/- Small numbers' digits to the base ten are read as the number; plain lists. -/
import Derived.Test.YtgejdkiehcpinaaDoorSmallD
namespace Go.Proofs.YtgejdkiehcpinaaDoor
open Go Go.RowKit

theorem ofN_nat (n : Nat) : ofN (n : Int) = n := by unfold ofN; rw [if_neg (by omega)]; omega
theorem decD_digit : ∀ v : Fin 10, decD (UInt8.ofNat (48 + v.val)) = some v.val := by decide
theorem digit_range : ∀ v : Fin 10, 48 ≤ (UInt8.ofNat (48 + v.val)).toNat ∧ (UInt8.ofNat (48 + v.val)).toNat ≤ 57 := by decide
theorem digit_nought : ∀ v : Fin 10, v.val ≠ 0 → UInt8.ofNat (48 + v.val) ≠ 48 := by decide

theorem decStr_list (n : Nat) (h : ¬ n < 10) : (decStr n).data.toList = (decStr (n / 10)).data.toList ++ [UInt8.ofNat (48 + n % 10)] := by
  rw [decStr_step n h, ByteArray.data_append]; simp
theorem decStr_one (n : Nat) (h : n < 10) : (decStr n).data.toList = [UInt8.ofNat (48 + n)] := by
  rw [decStr, if_pos h]
theorem numFrom_decStr (n : Nat) : numFrom decK 0 (decStr n).data.toList = some n := by
  induction n using Nat.strongRecOn with
  | _ n ih =>
    by_cases h : n < 10
    · rw [decStr_one n h]
      have e := decD_digit ⟨n, h⟩
      simp only [numFrom]
      show (match decD (UInt8.ofNat (48 + n)) with | some v => some (0 * 10 + v) | none => none) = some n
      rw [show decD (UInt8.ofNat (48 + n)) = some n from e]
      simp
    · rw [decStr_list n h, numFrom_append, ih (n / 10) (by omega)]
      have e := decD_digit ⟨n % 10, by omega⟩
      simp only [Option.bind_some, numFrom]
      show (match decD (UInt8.ofNat (48 + n % 10)) with | some v => some (n / 10 * 10 + v) | none => none) = some n
      rw [show decD (UInt8.ofNat (48 + n % 10)) = some (n % 10) from e]
      simp only [Option.some.injEq]
      omega
theorem decStr_digits (n : Nat) : ∀ c ∈ (decStr n).data.toList, 48 ≤ c.toNat ∧ c.toNat ≤ 57 := by
  induction n using Nat.strongRecOn with
  | _ n ih =>
    by_cases h : n < 10
    · rw [decStr_one n h]
      intro c hc
      rw [List.mem_singleton] at hc
      subst hc
      exact digit_range ⟨n, h⟩
    · rw [decStr_list n h]
      intro c hc
      rcases List.mem_append.1 hc with h1 | h1
      · exact ih (n / 10) (by omega) c h1
      · rw [List.mem_singleton] at h1
        subst h1
        exact digit_range ⟨n % 10, by omega⟩
theorem decStr_head (n : Nat) : (decStr n).data.toList ≠ [] ∧ (n ≠ 0 → (decStr n).data.toList.head? ≠ some 48) := by
  induction n using Nat.strongRecOn with
  | _ n ih =>
    by_cases h : n < 10
    · rw [decStr_one n h]
      refine ⟨by simp, fun hn => ?_⟩
      have := digit_nought ⟨n, h⟩ hn
      simpa using this
    · rw [decStr_list n h]
      obtain ⟨h1, h2⟩ := ih (n / 10) (by omega)
      refine ⟨by simp, fun _ => ?_⟩
      have h3 := h2 (by omega)
      cases hl : (decStr (n / 10)).data.toList with
      | nil => exact absurd hl h1
      | cons c r => rw [hl] at h3; simpa using h3
theorem parse_decStr (n : Nat) (hn : W256 n) : parseV (decStr n).data.toList = .tuple #[wv n, .int .i64 0] := by
  have hx : isHex (decStr n).data.toList = false := by
    have hd := decStr_digits n
    generalize (decStr n).data.toList = l at *
    unfold isHex
    split
    · have := hd 120 (by simp)
      simp at this
    · rfl
  have hr : restOf (decStr n).data.toList = (decStr n).data.toList := by unfold restOf; rw [hx]; rfl
  obtain ⟨h1, h2⟩ := decStr_head n
  unfold parseV
  rw [hr, if_neg ?_, hx]
  · show wordIf (numFrom decK 0 _) = _
    rw [numFrom_decStr]
    unfold wordIf
    exact if_pos hn
  · rintro (h | ⟨h, h3⟩)
    · exact h1 h
    · by_cases hn0 : n = 0
      · subst hn0
        exact h3 (decStr_one 0 (by omega))
      · exact h2 hn0 h
end Go.Proofs.YtgejdkiehcpinaaDoor
