/- What WordSmall answers, at all numbers. -/
import Derived.Test.YtgejdkiehcpinaaDoorSmall
import Derived.Test.YtgejdkiehcpinaaDoorBackRet
import Derived.Test.YtgejdkiehcpinaaDoorLawS
namespace Go.Proofs.YtgejdkiehcpinaaDoor
open Go Go.RowKit

theorem small_ret (m n : Int) (hm : I64 m) (hn : I64 n) : Ret Tryd.prog 7 #[.int .i64 m, .int .i64 n] (.bool true) := by
  have hpm := pickN_range m 1073741824 (by omega)
  have hpn := pickN_range n 1073741824 (by omega)
  obtain ⟨a, ea⟩ := Int.eq_ofNat_of_zero_le hpm.1
  obtain ⟨b, eb⟩ := Int.eq_ofNat_of_zero_le hpn.1
  have ha : a < 1073741824 := by have := hpm.2; rw [ea] at this; omega
  have hb : b < 1073741824 := by have := hpn.2; rw [eb] at this; omega
  have hab : a * b ≤ 1073741823 * 1073741823 := Nat.mul_le_mul (by omega) (by omega)
  have wa : W256 a := by unfold W256; omega
  have wb : W256 b := by unfold W256; omega
  have wab : W256 (a + b) := by unfold W256; omega
  have wm : W256 (a * b) := by unfold W256; omega
  have Ia : I64 (a : Int) := by unfold I64; omega
  have Ib : I64 (b : Int) := by unfold I64; omega
  have Id : I64 ((a : Int) - b) := by unfold I64; omega
  have hoa := of_ret (a : Int) Ia
  have hob := of_ret (b : Int) Ib
  rw [ofN_nat] at hoa hob
  have hsz := decStr_size a
  have hpI : 0 ≤ (a : Int) * b ∧ (a : Int) * b ≤ 1152921502459363329 := by rw [← Int.natCast_mul]; omega
  refine small_walk (lim a) (lim b) (lim (a + b)) (lim (a * b)) (lim (ofN ((a : Int) - b))) (decStr a) ⟨(hexStr a).toArray⟩ m n a b (a * b) (wcmp a b) ⟨by omega, by omega⟩ ⟨by omega, by omega⟩ hpI rfl ?_ ?_ ?_ hoa hob ?_ ?_ ?_ ?_ ?_ ?_ ?_ ?_ ?_ ?_ ?_
  · unfold wcmp
    by_cases h1 : a < b
    · exact .inl ⟨by omega, if_pos h1⟩
    · by_cases h2 : b < a
      · exact .inr (.inl ⟨by omega, by rw [if_neg h1, if_pos h2]⟩)
      · exact .inr (.inr ⟨by omega, by rw [if_neg h1, if_neg h2]⟩)
  · have h := pick_ret m hm 1073741824 (by omega) (by omega)
    rwa [ea] at h
  · have h := pick_ret n hn 1073741824 (by omega) (by omega)
    rwa [eb] at h
  · have h := add_ret a b wa wb
    rwa [wmod_of wab] at h
  · have h := int_ret (a + b) wab
    have e : intV (a + b) = .tuple #[.int .i64 ((a : Int) + b), .bool true] := by
      unfold intV
      rw [if_pos (by unfold maxI; omega), Int.natCast_add]
    rwa [e] at h
  · have h := mul_ret a b wa wb
    rwa [wmod_of wm] at h
  · have h := int_ret (a * b) wm
    have e : intV (a * b) = .tuple #[.int .i64 ((a : Int) * b), .bool true] := by
      unfold intV
      rw [if_pos (by unfold maxI; omega), Int.natCast_mul]
    rwa [e] at h
  · have h := sub_ret a b wa wb
    have e : wsub a b = ofN ((a : Int) - b) := by
      unfold wsub wmod ofN
      split <;> omega
    rwa [e] at h
  · exact decimal_ret a ha
  · have h := parse_ret (decStr a) (by omega)
    rw [parse_decStr a wa] at h
    exact h
  · exact hex_ret a wa
  · have hl := hexStr_length a
    have h := parse_ret ⟨(hexStr a).toArray⟩ (show (hexStr a).toArray.size ≤ 140737488355328 by rw [List.size_toArray]; omega)
    rw [show (⟨(hexStr a).toArray⟩ : ByteArray).data.toList = hexStr a from rfl, parse_hexStr a wa] at h
    exact h
  · exact of_ret _ Id
  · exact cmp_ret a b wa wb
end Go.Proofs.YtgejdkiehcpinaaDoor
