/- What the laws of words say of numbers: plain arithmetic and lists. -/
import Derived.Test.YtgejdkiehcpinaaDoorWordN
namespace Go.Proofs.YtgejdkiehcpinaaDoor
open Go Go.RowKit

/-! ### Bytes and letters of a number -/
theorem byte_step (a t : Nat) : a / 256 ^ (t + 1) * 256 + byteN a t = a / 256 ^ t := by
  unfold byteN
  rw [Nat.pow_succ, ← Nat.div_div_eq_div_mul]
  omega
theorem byteL_take (a : Nat) : ∀ k, k ≤ 32 → octVal 0 (((List.range k).map fun j => byteN a (31 - j)).map UInt8.ofNat) = a / 256 ^ (32 - k) % 256 ^ k
  | 0, _ => by simp [octVal, Nat.mod_one]
  | k + 1, hk => by
    rw [List.range_succ, List.map_append, List.map_append]
    have h : ∀ (l : List UInt8) (n : Nat) (c : UInt8), octVal n (l ++ [c]) = octVal n l * 256 + c.toNat := by
      intro l
      induction l with
      | nil => intro n c; rfl
      | cons x r ih => intro n c; exact ih _ c
    simp only [List.map_cons, List.map_nil]
    rw [h, byteL_take a k (by omega), UInt8.toNat_ofNat', Nat.mod_eq_of_lt (show byteN a (31 - k) < 2 ^ 8 from byteN_lt a _)]
    have e1 : 32 - k = (31 - k) + 1 := by omega
    have e2 : 32 - (k + 1) = 31 - k := by omega
    have hs := byte_step a (31 - k)
    rw [e1, e2]
    rw [← hs]
    clear hs h e1 e2
    generalize a / 256 ^ (31 - k + 1) = q
    have hb := byteN_lt a (31 - k)
    generalize byteN a (31 - k) = b at *
    rw [Nat.pow_succ, Nat.mul_comm (256 ^ k) 256, Nat.mod_mul]
    have e3 : (q * 256 + b) % 256 = b := by omega
    have e4 : (q * 256 + b) / 256 = q := by omega
    rw [e3, e4]
    exact (Nat.add_comm _ _).trans (congrArg (b + ·) (Nat.mul_comm _ _)) |>.symm ▸ rfl
theorem octVal_bytes (a : Nat) (ha : W256 a) : octVal 0 ((byteL a).map UInt8.ofNat) = a := by
  have h := byteL_take a 32 (Nat.le_refl _)
  have e : (256 : Nat) ^ 32 = 115792089237316195423570985008687907853269984665640564039457584007913129639936 := by decide
  rw [e, Nat.sub_self, Nat.pow_zero, Nat.div_one, Nat.mod_eq_of_lt ha] at h
  exact h
theorem fromB_bytes (a : Nat) (ha : W256 a) : fromB (bytesOf a).data.toList = a := by
  unfold fromB
  rw [bytesOf_list]
  simp only [List.length_map, byteL_length, Nat.sub_self, List.drop_zero]
  exact octVal_bytes a ha
theorem fromB_behind (p : List UInt8) (a : Nat) (ha : W256 a) : fromB (p ++ (bytesOf a).data.toList) = a := by
  unfold fromB
  rw [bytesOf_list]
  have : (p ++ (byteL a).map UInt8.ofNat).length - 32 = p.length := by simp [byteL_length]
  rw [this, List.drop_left]
  exact octVal_bytes a ha

theorem hexD_letter : ∀ v : Fin 16, hexD (UInt8.ofNat (letter v.val)) = some v.val := by decide
theorem numFrom_hexL : ∀ (l : List Nat) (n : Nat), (∀ b ∈ l, b < 256) → numFrom hexK n ((hexL l).map fun x => UInt8.ofNat x.toNat) = some (octVal n (l.map UInt8.ofNat))
  | [], _, _ => rfl
  | b :: r, n, h => by
    have hb := h b (by simp)
    have h1 := hexD_letter ⟨b / 16, by omega⟩
    have h2 := hexD_letter ⟨b % 16, by omega⟩
    simp only [hexL, List.map_cons, numFrom, Int.toNat_natCast]
    show (match hexD (UInt8.ofNat (letter (b / 16))) with | some v => _ | none => none) = _
    rw [h1]
    simp only []
    show (match hexD (UInt8.ofNat (letter (b % 16))) with | some v => _ | none => none) = _
    rw [h2]
    simp only []
    rw [numFrom_hexL r _ (fun x hx => h x (by simp [hx]))]
    simp only [octVal]
    rw [UInt8.toNat_ofNat', Nat.mod_eq_of_lt (show b < 2 ^ 8 from hb)]
    show some (octVal ((n * 16 + b / 16) * 16 + b % 16) _) = _
    rw [show (n * 16 + b / 16) * 16 + b % 16 = n * 256 + b by omega]
theorem byteL_lt (a : Nat) : ∀ b ∈ byteL a, b < 256 := by
  intro b hb
  obtain ⟨j, _, rfl⟩ := List.mem_map.1 hb
  exact byteN_lt _ _
theorem numFrom_hexText (a : Nat) (ha : W256 a) : numFrom hexK 0 (hexText a) = some a := by
  unfold hexText
  rw [numFrom_hexL _ _ (byteL_lt a), octVal_bytes a ha]
theorem numFrom_noNoughts : ∀ l : List UInt8, numFrom hexK 0 (noNoughts l) = numFrom hexK 0 l
  | [] => rfl
  | c :: r => by
    unfold noNoughts
    by_cases h : c = 48
    · subst h
      rw [if_pos rfl, numFrom_noNoughts r]
      rfl
    · rw [if_neg h]
theorem noNoughts_head : ∀ l : List UInt8, (noNoughts l).head? ≠ some 48
  | [] => by simp [noNoughts]
  | c :: r => by
    unfold noNoughts
    by_cases h : c = 48
    · rw [if_pos h]; exact noNoughts_head r
    · rw [if_neg h]; simpa using h
theorem parse_hexStr (a : Nat) (ha : W256 a) : parseV (hexStr a) = .tuple #[wv a, .int .i64 0] := by
  have hn := numFrom_hexText a ha
  rw [← numFrom_noNoughts] at hn
  have key : ∀ d : List UInt8, numFrom hexK 0 d = some a → ¬ badDigits d → parseV ([48, 120] ++ d) = .tuple #[wv a, .int .i64 0] := by
    intro d hd hb
    have e1 : isHex ([48, 120] ++ d) = true := rfl
    have e2 : restOf ([48, 120] ++ d) = d := by unfold restOf; rw [e1]; rfl
    unfold parseV
    rw [e2, if_neg hb, e1]
    show wordIf (numFrom hexK 0 d) = _
    rw [hd]
    unfold wordIf
    exact if_pos ha
  unfold hexStr
  by_cases h0 : noNoughts (hexText a) = []
  · rw [if_pos h0]
    rw [h0] at hn
    have : a = 0 := by cases hn; rfl
    subst this
    exact key [48] rfl (by rintro (h | ⟨_, h⟩) <;> simp at h)
  · rw [if_neg h0]
    refine key _ hn ?_
    rintro (h | ⟨h, _⟩)
    · exact h0 h
    · exact noNoughts_head _ h

/-! ### Sums and products modulo 2^256 -/
theorem wmod_add_l (a b : Nat) : wmod (wmod a + b) = wmod (a + b) := by unfold wmod; exact Nat.mod_add_mod _ _ _
theorem wmod_add_r (a b : Nat) : wmod (a + wmod b) = wmod (a + b) := by unfold wmod; exact Nat.add_mod_mod _ _ _
theorem wmod_mul_l (a b : Nat) : wmod (wmod a * b) = wmod (a * b) := by unfold wmod; exact Nat.mod_mul_mod _ _ _
theorem wmod_mul_r (a b : Nat) : wmod (a * wmod b) = wmod (a * b) := by unfold wmod; exact Nat.mul_mod_mod _ _ _
theorem wsub_wmod (a b : Nat) (ha : W256 a) (hb : W256 b) : wsub (wmod (a + b)) b = a := by
  unfold W256 at *; unfold wsub wmod; omega
theorem wadd_wsub (a b : Nat) (ha : W256 a) (hb : W256 b) : wmod (wsub a b + b) = a := by
  unfold W256 at *; unfold wsub wmod; omega
theorem wsub_self (a : Nat) (ha : W256 a) : wsub a a = 0 := by unfold W256 at *; unfold wsub wmod; omega
theorem mul_ones (a : Nat) (ha : W256 a) : wmod (a * 115792089237316195423570985008687907853269984665640564039457584007913129639935) = wsub 0 a := by
  unfold W256 at *; unfold wsub wmod; omega
end Go.Proofs.YtgejdkiehcpinaaDoor
