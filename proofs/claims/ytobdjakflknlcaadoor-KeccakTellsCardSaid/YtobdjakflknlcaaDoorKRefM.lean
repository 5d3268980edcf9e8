/- What the reference makes of bits is what is made of lanes. Conditions: lanes of 64 bits. -/
import Derived.Test.YtobdjakflknlcaaDoorKRefG
import Derived.Test.YtobdjakflknlcaaDoorKRefC
namespace Go.Proofs.YtobdjakflknlcaaDoor

/-- A bit, as a number. -/
def tb (x i : Nat) : Nat := (x.testBit i).toNat
theorem tb_eq (x i : Nat) : x / 2 ^ i % 2 = tb x i := by
  unfold tb
  rw [Nat.testBit_eq_decide_div_mod_eq]
  rcases Nat.mod_two_eq_zero_or_one (x / 2 ^ i) with h | h <;> simp [h]
theorem tb_xor (x y i : Nat) : tb (x ^^^ y) i = (tb x i + tb y i) % 2 := by
  unfold tb
  rw [Nat.testBit_xor]
  cases x.testBit i <;> cases y.testBit i <;> rfl
theorem tb_le (x i : Nat) : tb x i ≤ 1 := by unfold tb; cases x.testBit i <;> decide
theorem tb_and_not (x y i : Nat) (hi : i < 64) : tb (x &&& (18446744073709551615 ^^^ y)) i = (tb y i + 1) % 2 * tb x i := by
  unfold tb
  have h : Nat.testBit 18446744073709551615 i = true := by
    rw [show 18446744073709551615 = 2 ^ 64 - 1 from rfl, Nat.testBit_two_pow_sub_one, decide_eq_true hi]
  rw [Nat.testBit_and, Nat.testBit_xor, h]
  cases x.testBit i <;> cases y.testBit i <;> rfl
theorem tb_rotl (x s i : Nat) (hx : x < 2 ^ 64) (hs : s < 64) (hi : i < 64) : tb (rotl x s) i = tb x ((i + (64 - s)) % 64) := by
  unfold tb
  rw [rotl_bit x s i hx hs hi]
theorem bitN_tb (L : Nat → Nat) (j : Nat) : bitN L j = tb (L (j / 64)) (j % 64) := tb_eq _ _
theorem bitN_pos (L : Nat → Nat) (l z : Nat) (hz : z < 64) : bitN L (64 * l + z) = tb (L l) z := by
  rw [bitN_tb, show (64 * l + z) / 64 = l by omega, show (64 * l + z) % 64 = z by omega]
theorem col_tb (A : Nat → Nat) (x z : Nat) (hx : x < 5) : tb (colK A 25 x) z = (tb (A x) z + tb (A (5 + x)) z + tb (A (10 + x)) z + tb (A (15 + x)) z + tb (A (20 + x)) z) % 2 := by
  have e : colK A 25 x = A x ^^^ A (5 + x) ^^^ A (10 + x) ^^^ A (15 + x) ^^^ A (20 + x) := by
    rcases (show x = 0 ∨ x = 1 ∨ x = 2 ∨ x = 3 ∨ x = 4 by omega) with rfl | rfl | rfl | rfl | rfl
    · exact col_0 A
    · exact col_1 A
    · exact col_2 A
    · exact col_3 A
    · exact col_4 A
  rw [e, tb_xor, tb_xor, tb_xor, tb_xor]
  have := tb_le (A x) z
  omega
theorem colB_tb (A : Nat → Nat) (x z : Nat) (hx : x < 5) (hz : z < 64) : colB (bitN A) (64 * x + z) = tb (colK A 25 x) z := by
  rw [colB_at _ _ _ hz, col_tb A x z hx]
  show ((((0 + bitN A (64 * (5 * 0 + x) + z)) + bitN A (64 * (5 * 1 + x) + z)) + bitN A (64 * (5 * 2 + x) + z)) + bitN A (64 * (5 * 3 + x) + z) + bitN A (64 * (5 * 4 + x) + z)) % 2 = _
  rw [bitN_pos _ _ _ hz, bitN_pos _ _ _ hz, bitN_pos _ _ _ hz, bitN_pos _ _ _ hz, bitN_pos _ _ _ hz, show 5 * 0 + x = x by omega, show 5 * 1 + x = 5 + x by omega, show 5 * 2 + x = 10 + x by omega, show 5 * 3 + x = 15 + x by omega, show 5 * 4 + x = 20 + x by omega]
  omega
theorem theN_bits (A : Nat → Nat) (hA : ∀ j, A j < 2 ^ 64) (j : Nat) (hj : j < 1600) : theN (bitN A) j = bitN (thetaN A) j := by
  have hz : j % 64 < 64 := Nat.mod_lt _ (by omega)
  have h4 : (j / 64 % 5 + 4) % 5 < 5 := Nat.mod_lt _ (by omega)
  have h1 : (j / 64 % 5 + 1) % 5 < 5 := Nat.mod_lt _ (by omega)
  have h63 : (j % 64 + 63) % 64 < 64 := Nat.mod_lt _ (by omega)
  unfold theN
  rw [colB_tb A _ _ h4 hz, colB_tb A _ _ h1 h63, bitN_tb, bitN_tb]
  show _ = tb (A (j / 64) ^^^ (colK A 25 ((j / 64 % 5 + 4) % 5) ^^^ rotl (colK A 25 ((j / 64 % 5 + 1) % 5)) 1)) (j % 64)
  rw [tb_xor, tb_xor, tb_rotl _ 1 _ (colK_lt A hA 25 _) (by omega) hz, show (j % 64 + (64 - 1)) % 64 = (j % 64 + 63) % 64 by omega]
  omega
theorem chiN_bits (A : Nat → Nat) (j : Nat) (hj : j < 1600) : chiN (bitN A) j = bitN (mixN A) j := by
  have hz : j % 64 < 64 := Nat.mod_lt _ (by omega)
  unfold chiN
  have e : j / 64 / 5 = j / 320 := by omega
  rw [bitN_tb, bitN_pos _ _ _ hz, bitN_pos _ _ _ hz, bitN_tb]
  show _ = tb (A (j / 64) ^^^ (A (5 * (j / 64 / 5) + (j / 64 % 5 + 2) % 5) &&& (18446744073709551615 ^^^ A (5 * (j / 64 / 5) + (j / 64 % 5 + 1) % 5)))) (j % 64)
  rw [tb_xor, tb_and_not _ _ _ hz, e]

/-- The places that the walk comes by: all but the first one, each once. -/
theorem rhoK_at (A : Nat → Nat) (l z : Nat) (hz : z < 64) : ∀ t, rhoK A t (64 * l + z) = if l ∈ (List.range t).map wl then rhoK A t (64 * l + z) else A (64 * l + z)
  | 0 => by simp [rhoK]
  | t + 1 => by
    by_cases h : l ∈ (List.range (t + 1)).map wl
    · rw [if_pos h]
    · rw [if_neg h]
      have h1 : l ≠ wl t := fun e => h (List.mem_map.2 ⟨t, List.mem_range.2 (by omega), e.symm⟩)
      have h2 : ¬ l ∈ (List.range t).map wl := fun e => h (by
        obtain ⟨s, hs, he⟩ := List.mem_map.1 e
        exact List.mem_map.2 ⟨s, List.mem_range.2 (by have := List.mem_range.1 hs; omega), he⟩)
      show (if (64 * l + z) / 64 = wl t then _ else rhoK A t (64 * l + z)) = _
      rw [if_neg (by omega), rhoK_at A l z hz t, if_neg h2]
theorem rhoK_last (A : Nat → Nat) (s z : Nat) (hz : z < 64) : ∀ t, s < t → (∀ u, s < u → u < t → wl u ≠ wl s) → rhoK A t (64 * wl s + z) = A (64 * wl s + (z + 64 - (s + 1) * (s + 2) / 2 % 64) % 64)
  | 0, h, _ => by omega
  | t + 1, h, hu => by
    show (if (64 * wl s + z) / 64 = wl t then A (64 * wl t + ((64 * wl s + z) % 64 + 64 - (t + 1) * (t + 2) / 2 % 64) % 64) else rhoK A t (64 * wl s + z)) = _
    by_cases e : s = t
    · subst e
      rw [if_pos (by omega), show (64 * wl s + z) % 64 = z by omega]
    · have := hu t (by omega) (by omega)
      rw [if_neg (by omega)]
      exact rhoK_last A s z hz t (by omega) (fun u h1 h2 => hu u h1 (by omega))
theorem wl_next (t : Nat) : wl (t + 1) = 5 * ((2 * (wx t).1 + 3 * (wx t).2) % 5) + (wx t).2 := rfl
theorem wl_once : ∀ s : Fin 24, ∀ u : Fin 24, s < u → wl u.val ≠ wl s.val := by decide
theorem wl_zero : ∀ s : Fin 24, wl s.val ≠ 0 := by decide
theorem wl_again : ∀ s : Fin 24, ∀ u : Fin 25, s.val + 1 < u.val → wl u.val ≠ wl (s.val + 1) := by decide
theorem turnK_zero (A : Nat → Nat) : ∀ t, t ≤ 24 → turnK A t 0 = A 0
  | 0, _ => rfl
  | t + 1, h => by
    show (if 0 = wl (t + 1) then _ else turnK A t 0) = _
    rw [if_neg (fun e => by
      have : ∀ s : Fin 24, wl (s.val + 1) ≠ 0 := by decide
      exact this ⟨t, by omega⟩ e.symm)]
    exact turnK_zero A t (by omega)
theorem turnK_last (A : Nat → Nat) (s : Nat) (hs : s < 24) : ∀ t, s < t → t ≤ 24 → turnK A t (wl (s + 1)) = rotl (A (wl s)) ((s + 1) * (s + 2) / 2 % 64)
  | 0, h, _ => by omega
  | t + 1, h, ht => by
    show (if wl (s + 1) = wl (t + 1) then rotl (A (wl t)) ((t + 1) * (t + 2) / 2 % 64) else turnK A t (wl (s + 1))) = _
    by_cases e : s = t
    · subst e
      rw [if_pos rfl]
    · rw [if_neg (fun e2 => wl_again ⟨s, hs⟩ ⟨t + 1, by omega⟩ (by show s + 1 < t + 1; omega) e2.symm)]
      exact turnK_last A s hs t (by omega) (by omega)
/-- Each lane but the first one is come by from one. -/
theorem lane_from : ∀ l : Fin 25, l.val = 0 ∨ ∃ s : Fin 24, wl (s.val + 1) = l.val ∧ 5 * (l.val % 5) + (l.val % 5 + 3 * (l.val / 5)) % 5 = wl s.val := by decide
theorem turned_bits (A : Nat → Nat) (hA : ∀ j, A j < 2 ^ 64) (j : Nat) (hj : j < 1600) : piN (rhoK (bitN A) 24) j = bitN (turnK A 24) j := by
  have hz : j % 64 < 64 := Nat.mod_lt _ (by omega)
  have e : j / 320 = j / 64 / 5 := by omega
  unfold piN
  rw [e, bitN_tb]
  generalize hl : j / 64 = l at *
  generalize j % 64 = z at *
  rcases lane_from ⟨l, by omega⟩ with h0 | ⟨s, h1, h2⟩
  · have h0 : l = 0 := h0
    subst h0
    rw [turnK_zero A 24 (by omega), show 64 * (5 * (0 % 5) + (0 % 5 + 3 * (0 / 5)) % 5) + z = 64 * 0 + z by omega, rhoK_at _ 0 z hz 24, if_neg (fun h => by
      obtain ⟨u, hu, he⟩ := List.mem_map.1 h
      exact wl_zero ⟨u, List.mem_range.1 hu⟩ he), bitN_pos _ _ _ hz]
  · have h1 : wl (s.val + 1) = l := h1
    have h2 : 5 * (l % 5) + (l % 5 + 3 * (l / 5)) % 5 = wl s.val := h2
    rw [h2, rhoK_last _ s.val z hz 24 s.isLt (fun u hu1 hu2 => wl_once s ⟨u, hu2⟩ hu1), ← h1, turnK_last A s.val s.isLt 24 s.isLt (Nat.le_refl _)]
    have hr : (s.val + 1) * (s.val + 2) / 2 % 64 < 64 := Nat.mod_lt _ (by omega)
    generalize (s.val + 1) * (s.val + 2) / 2 % 64 = r at *
    rw [tb_rotl _ r z (hA _) hr hz, bitN_pos _ _ _ (Nat.mod_lt _ (by omega)), show (z + (64 - r)) % 64 = (z + 64 - r) % 64 by omega]

/-- The bits behind j of those that a round's number turns. -/
def ioN (M : Nat → Nat) (i : Nat) : Nat → Nat → Nat
  | 0, p => bitN M p
  | j + 1, p => if p = 2 ^ j - 1 then (ioN M i j p + rcN (j + 7 * i)) % 2 else ioN M i j p
theorem ioN_le (M : Nat → Nat) (i : Nat) : ∀ j p, ioN M i j p ≤ 1
  | 0, p => bitN_le M p
  | j + 1, p => by unfold ioN; split; omega; exact ioN_le M i j p
def rcb (i p : Nat) : Nat := if p = 63 then rcN (6 + 7 * i) else if p = 31 then rcN (5 + 7 * i) else if p = 15 then rcN (4 + 7 * i) else if p = 7 then rcN (3 + 7 * i) else if p = 3 then rcN (2 + 7 * i) else if p = 1 then rcN (1 + 7 * i) else if p = 0 then rcN (0 + 7 * i) else 0
set_option maxRecDepth 100000 in
theorem rcb_bits : ∀ i : Fin 24, ∀ p : Fin 64, rcL.getD i.val 0 / 2 ^ p.val % 2 = rcb i.val p.val := by decide +kernel
theorem ioN_rcb (M : Nat → Nat) (i p : Nat) : ioN M i 7 p = (bitN M p + rcb i p) % 2 := by
  have hb := bitN_le M p
  unfold rcb
  simp only [ioN, show 2 ^ 6 - 1 = 63 from rfl, show 2 ^ 5 - 1 = 31 from rfl, show 2 ^ 4 - 1 = 15 from rfl, show 2 ^ 3 - 1 = 7 from rfl, show 2 ^ 2 - 1 = 3 from rfl, show 2 ^ 1 - 1 = 1 from rfl, show 2 ^ 0 - 1 = 0 from rfl]
  by_cases h6 : p = 63
  · subst h6; simp
  · by_cases h5 : p = 31
    · subst h5; simp
    · by_cases h4 : p = 15
      · subst h4; simp
      · by_cases h3 : p = 7
        · subst h3; simp
        · by_cases h2 : p = 3
          · subst h2; simp
          · by_cases h1 : p = 1
            · subst h1; simp
            · by_cases h0 : p = 0
              · subst h0; simp
              · simp [h0, h1, h2, h3, h4, h5, h6]; omega
theorem io_bits (A : Nat → Nat) (i : Nat) (hi : i < 24) (p : Nat) (hp : p < 1600) : ioN (mixN (turnK (thetaN A) 24)) i 7 p = bitN (rndN A (rcL.getD i 0)) p := by
  have hz : p % 64 < 64 := Nat.mod_lt _ (by omega)
  rw [ioN_rcb, bitN_tb, bitN_tb]
  unfold rndN
  by_cases h : p / 64 = 0
  · have hb : rcL.getD i 0 / 2 ^ (p % 64) % 2 = rcb i (p % 64) := rcb_bits ⟨i, hi⟩ ⟨p % 64, hz⟩
    rw [if_pos h, h, tb_xor, ← tb_eq (rcL.getD i 0), hb, show p % 64 = p by omega]
  · rw [if_neg h]
    have hr : rcb i p = 0 := by
      unfold rcb
      rw [if_neg (by omega), if_neg (by omega), if_neg (by omega), if_neg (by omega), if_neg (by omega), if_neg (by omega), if_neg (by omega)]
    rw [hr, Nat.add_zero, Nat.mod_eq_of_lt (by have := tb_le (mixN (turnK (thetaN A) 24) (p / 64)) (p % 64); omega)]
end Go.Proofs.YtobdjakflknlcaaDoor
