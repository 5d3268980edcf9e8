/- The order of words, of their bytes, and of the lengths of their texts; bytes put behind bytes. Plain lists. -/
import Derived.Test.YtgejdkiehcpinaaDoorLawM
namespace Go.Proofs.YtgejdkiehcpinaaDoor
open Go Go.RowKit

theorem octVal_from : ∀ (l : List UInt8) (n : Nat), octVal n l = n * 256 ^ l.length + octVal 0 l
  | [], n => by simp [octVal]
  | c :: r, n => by
    simp only [octVal, List.length_cons]
    rw [octVal_from r (n * 256 + c.toNat), octVal_from r (0 * 256 + c.toNat), Nat.pow_succ]
    rw [Nat.add_mul, Nat.add_mul, Nat.mul_assoc, Nat.mul_comm 256, Nat.zero_mul]
    omega
theorem octVal_append (a b : List UInt8) (n : Nat) : octVal n (a ++ b) = octVal (octVal n a) b := by
  induction a generalizing n with
  | nil => rfl
  | cons c r ih => exact ih _
theorem pow32 : (256 : Nat) ^ 32 = 115792089237316195423570985008687907853269984665640564039457584007913129639936 := by decide
/-- The last 32 bytes' number is that of all of them, modulo 2^256. -/
theorem fromB_wmod (l : List UInt8) : fromB l = wmod (octVal 0 l) := by
  unfold fromB wmod
  by_cases h : l.length ≤ 32
  · rw [show l.length - 32 = 0 by omega, List.drop_zero]
    have h1 := octVal_lt l
    have h2 : 256 ^ l.length ≤ 256 ^ 32 := Nat.pow_le_pow_right (by decide) h
    rw [pow32] at h2
    omega
  · have h1 := octVal_lt (l.drop (l.length - 32))
    have hl : (l.drop (l.length - 32)).length = 32 := by rw [List.length_drop]; omega
    have h2 := octVal_append (l.take (l.length - 32)) (l.drop (l.length - 32)) 0
    rw [List.take_append_drop, octVal_from (l.drop (l.length - 32)), hl, pow32] at h2
    rw [hl, pow32] at h1
    rw [h2]
    omega
theorem fromB_nought (l : List UInt8) : fromB (0 :: l) = fromB l := by
  rw [fromB_wmod, fromB_wmod]; rfl
/-- Bytes one by one: each one is 256 times what was there, and the byte. -/
def cutV (w : Nat) (l : List UInt8) : Nat := wmod (octVal w l)
theorem cutV_nil (w : Nat) (hw : W256 w) : cutV w [] = w := wmod_of hw
theorem octVal_wmod (l : List UInt8) (n : Nat) : wmod (octVal (wmod n) l) = wmod (octVal n l) := by
  rw [octVal_from l (wmod n), octVal_from l n, ← wmod_add_l, wmod_mul_l, wmod_add_l]
theorem cutV_snoc (w : Nat) (l : List UInt8) (c : UInt8) : cutV w (l ++ [c]) = wmod (wmod (cutV w l * 256) + c.toNat) := by
  unfold cutV
  rw [octVal_append, wmod_add_l]
  show wmod (octVal w l * 256 + c.toNat) = _
  rw [← wmod_add_l, ← wmod_mul_l, wmod_add_l]
theorem cutV_all (w : Nat) (hw : W256 w) (l : List UInt8) : fromB ((bytesOf w).data.toList ++ l) = cutV w l := by
  rw [fromB_wmod, octVal_append, cutV]
  have h := octVal_bytes w hw
  rw [← bytesOf_list] at h
  rw [h]

/-! ### The order -/
theorem less_val : ∀ (a b : List UInt8), a.length = b.length → (Op.bytesLess a b = true ↔ octVal 0 a < octVal 0 b)
  | [], [], _ => by simp [Op.bytesLess, octVal]
  | [], _ :: _, h => by simp at h
  | _ :: _, [], h => by simp at h
  | x :: r, y :: s, h => by
    have hl : r.length = s.length := by simpa using h
    have ih := less_val r s hl
    have h1 := octVal_lt r
    have h2 := octVal_lt s
    have e : Op.bytesLess (x :: r) (y :: s) = (decide (x < y) || (x == y && Op.bytesLess r s)) := rfl
    rw [e, Bool.or_eq_true, Bool.and_eq_true, decide_eq_true_iff, beq_iff_eq, ih, UInt8.lt_iff_toNat_lt, ← UInt8.toNat_inj]
    have e1 : octVal 0 (x :: r) = x.toNat * 256 ^ r.length + octVal 0 r := by
      show octVal (0 * 256 + x.toNat) r = _
      rw [octVal_from r (0 * 256 + x.toNat), Nat.zero_mul, Nat.zero_add]
    have e2 : octVal 0 (y :: s) = y.toNat * 256 ^ r.length + octVal 0 s := by
      show octVal (0 * 256 + y.toNat) s = _
      rw [octVal_from s (0 * 256 + y.toNat), Nat.zero_mul, Nat.zero_add, ← hl]
    rw [e1, e2]
    rw [← hl] at h2
    clear e1 e2
    generalize octVal 0 r = p at *
    generalize octVal 0 s = q at *
    generalize 256 ^ r.length = M at *
    generalize x.toNat = u at *
    generalize y.toNat = v at *
    clear ih e h hl
    constructor
    · rintro (h | ⟨rfl, h⟩)
      · have : u * M + M ≤ v * M := by rw [← Nat.succ_mul]; exact Nat.mul_le_mul_right _ h
        omega
      · omega
    · intro h
      by_cases c1 : u < v
      · exact .inl c1
      · by_cases c2 : v < u
        · exfalso
          have : v * M + M ≤ u * M := by rw [← Nat.succ_mul]; exact Nat.mul_le_mul_right _ c2
          omega
        · obtain rfl : u = v := by omega
          exact .inr ⟨rfl, by omega⟩
theorem less_bytes (a b : Nat) (ha : W256 a) (hb : W256 b) : Op.bytesLess (bytesOf a).toList (bytesOf b).toList = decide (a < b) := by
  rw [ByteArray.toList_eq, ByteArray.toList_eq]
  have h := less_val (bytesOf a).data.toList (bytesOf b).data.toList (by rw [bytesOf_list, bytesOf_list]; simp [byteL_length])
  have e1 : octVal 0 (bytesOf a).data.toList = a := by rw [bytesOf_list]; exact octVal_bytes a ha
  have e2 : octVal 0 (bytesOf b).data.toList = b := by rw [bytesOf_list]; exact octVal_bytes b hb
  rw [e1, e2] at h
  by_cases c : a < b
  · rw [h.2 c]; simp [c]
  · have : ¬ Op.bytesLess (bytesOf a).data.toList (bytesOf b).data.toList = true := fun e => c (h.1 e)
    simp [c, Bool.eq_false_iff.2 this]
theorem hexVal_lt (l : List UInt8) (m : Nat) (h : numFrom hexK 0 l = some m) : m < 16 ^ l.length := by
  have := numFrom_lt hexK l 0 m h
  rw [show hexK.base = 16 from rfl] at this
  simpa using this
theorem hexVal_ge : ∀ (l : List UInt8) (m : Nat), numFrom hexK 0 l = some m → l ≠ [] → l.head? ≠ some 48 → 16 ^ (l.length - 1) ≤ m
  | [], _, _, h, _ => absurd rfl h
  | c :: r, m, h, _, h3 => by
    simp only [numFrom] at h
    have hc : ∀ v, hexK.dig c = some v → v ≠ 0 := by
      intro v hv h0
      subst h0
      have h4 : c = 48 := by
        have : hexD c = some 0 := hv
        unfold hexD at this
        split at this
        · simp only [Option.some.injEq] at this
          exact UInt8.toNat_inj.1 (by simp; omega)
        · split at this
          · simp only [Option.some.injEq] at this; omega
          · cases this
      subst h4
      exact h3 rfl
    cases hd : hexK.dig c with
    | none => rw [hd] at h; cases h
    | some v =>
      rw [hd] at h
      have hv := hc v hd
      simp only [] at h
      rw [numFrom_zero] at h
      cases hr : numFrom hexK 0 r with
      | none => rw [hr] at h; cases h
      | some k =>
        rw [hr] at h
        simp only [Option.map_some, Option.some.injEq, Nat.zero_mul, Nat.zero_add] at h
        simp only [List.length_cons, Nat.add_sub_cancel]
        have : hexK.base = 16 := rfl
        rw [this] at h
        have h5 : 1 * 16 ^ r.length ≤ v * 16 ^ r.length := Nat.mul_le_mul_right _ (by omega)
        omega
theorem noNoughts_le (a b : Nat) (ha : W256 a) (hb : W256 b) (h : b ≤ a) : (noNoughts (hexText b)).length ≤ (noNoughts (hexText a)).length := by
  refine Nat.le_of_not_lt fun hlt => ?_
  have va := numFrom_hexText a ha
  have vb := numFrom_hexText b hb
  rw [← numFrom_noNoughts] at va vb
  have h1 := hexVal_lt _ _ va
  have hne : noNoughts (hexText b) ≠ [] := fun e => by rw [e] at hlt; simp at hlt
  have h2 := hexVal_ge _ _ vb hne (noNoughts_head _)
  have h3 : 16 ^ (noNoughts (hexText a)).length ≤ 16 ^ ((noNoughts (hexText b)).length - 1) := Nat.pow_le_pow_right (by decide) (by omega)
  omega
theorem hexStr_mono (a b : Nat) (ha : W256 a) (hb : W256 b) (h : b ≤ a) : (hexStr b).length ≤ (hexStr a).length := by
  have hm := noNoughts_le a b ha hb h
  unfold hexStr
  simp only [List.length_append]
  by_cases e1 : noNoughts (hexText b) = []
  · rw [if_pos e1]
    by_cases e2 : noNoughts (hexText a) = []
    · rw [if_pos e2]; exact Nat.le_refl _
    · rw [if_neg e2]
      have : 0 < (noNoughts (hexText a)).length := List.length_pos_iff.2 e2
      simp only [List.length_cons, List.length_nil]; omega
  · rw [if_neg e1, if_neg ?_]
    · omega
    · intro e2
      rw [e2] at hm
      exact e1 (List.length_eq_zero_iff.1 (by simpa using hm))

/-! ### Doubling -/
theorem dbl_x (w t : Nat) : wmod (wmod (w * 2 ^ t) + wmod (w * 2 ^ t)) = wmod (w * 2 ^ (t + 1)) := by
  rw [wmod_add_l, wmod_add_r, Nat.pow_succ, ← Nat.mul_assoc]
  congr 1
  omega
theorem dbl_end (w : Nat) : wmod (w * 2 ^ 256) = 0 := by
  unfold wmod
  rw [show (2 : Nat) ^ 256 = 115792089237316195423570985008687907853269984665640564039457584007913129639936 by decide]
  exact Nat.mul_mod_left _ _
/-- The upper s parts of a word. -/
def topN (w : Nat) : Nat → Nat
  | 0 => 0
  | s + 1 => topN w s * 18446744073709551616 + (lim w (3 - s)).toNat
theorem pow64 : (2 : Nat) ^ 64 = 18446744073709551616 := by decide
theorem topN_four (w : Nat) (hw : W256 w) : topN w 4 = w := by
  have h := num_lim w hw
  have e0 := lim_lo w 0
  have e1 := lim_lo w 1
  have e2 := lim_lo w 2
  have e3 := lim_lo w 3
  unfold num at h
  simp only [topN]
  show (((0 * 18446744073709551616 + (lim w 3).toNat) * 18446744073709551616 + (lim w 2).toNat) * 18446744073709551616 + (lim w 1).toNat) * 18446744073709551616 + (lim w 0).toNat = w
  generalize lim w 0 = p0 at *
  generalize lim w 1 = p1 at *
  generalize lim w 2 = p2 at *
  generalize lim w 3 = p3 at *
  omega
end Go.Proofs.YtgejdkiehcpinaaDoor
