/- A word's bits moved up or down, in numbers; blocks in worlds that grow. -/
import Derived.Test.YtnlcllhjhbaigaaDoorBitS
namespace Go.Proofs.YtnlcllhjhbaigaaDoor
open Go Go.RowKit

theorem ln_pow (t j : Nat) (ht : t < 256) : ln (2 ^ t) j = if j = t / 64 then 2 ^ (t % 64) else 0 := by
  refine Nat.eq_of_testBit_eq fun i => ?_
  rw [ln_bit, Nat.testBit_two_pow]
  split
  · rename_i h
    rw [Nat.testBit_two_pow, ← Bool.decide_and]
    exact decide_eq_decide.2 (by omega)
  · rename_i h
    rw [Nat.zero_testBit, ← Bool.decide_and]
    exact decide_eq_false (by omega)
theorem wrap_pow (r : Nat) (hr : r < 64) : IntKind.u64.wrap (2 ^ r) = ((2 ^ r : Nat) : Int) := by
  have : 2 ^ r < 2 ^ 64 := Nat.pow_lt_pow_right (by omega) hr
  have e : (2 : Int) ^ r = ((2 ^ r : Nat) : Int) := by simp
  rw [e, IntKind.wrap_u64]
  generalize 2 ^ r = x at *
  omega
theorem lim_put (m t : Nat) (ht : t < 256) : bits .or .u64 (lim m (t / 64)) (IntKind.u64.wrap (2 ^ (t % 64))) = lim (m ||| 2 ^ t) (t / 64) ∧ ∀ j, j < 4 → j ≠ t / 64 → lim (m ||| 2 ^ t) j = lim m j := by
  constructor
  · have := bits_or_lim m (2 ^ t) (t / 64) (by omega)
    rw [lim_ln (2 ^ t) _ (by omega), ln_pow t _ ht, if_pos rfl] at this
    rw [wrap_pow _ (by omega)]
    exact this
  · intro j hj hne
    rw [lim_ln _ _ hj, lim_ln _ _ hj, ln_or, ln_pow t j ht, if_neg hne, Nat.or_zero]

/-- One bit more, where it falls within a word. -/
def putB (up : Int) (m p : Nat) : Nat := if 0 ≤ (p : Int) + up ∧ (p : Int) + up < 256 then m ||| 2 ^ ((p : Int) + up).toNat else m
/-- The bits of a list of places, moved. -/
def mvL (up : Int) (l : List Nat) : Nat := l.foldl (putB up) 0
theorem mvL_take (up : Int) (L : List Nat) (k : Nat) (hk : k < L.length) : mvL up (L.take (k + 1)) = putB up (mvL up (L.take k)) (L.getD k 0) := by
  unfold mvL
  rw [List.take_add_one, List.foldl_append, List.getElem?_eq_getElem hk, List.getD_eq_getElem?_getD, List.getElem?_eq_getElem hk]
  rfl
theorem putB_lt (up : Int) (m p : Nat) (hm : W256 m) : W256 (putB up m p) := by
  unfold putB
  split
  · rename_i h
    exact or_lt _ _ hm ((w256_pow _).2 (Nat.pow_lt_pow_right (by omega) (by omega)))
  · exact hm
theorem foldB_lt (up : Int) : ∀ (l : List Nat) (m : Nat), W256 m → W256 (l.foldl (putB up) m)
  | [], _, h => h
  | p :: l, m, h => foldB_lt up l _ (putB_lt up m p h)
theorem foldB_bit (up : Int) (i : Nat) : ∀ (l : List Nat) (m : Nat), (l.foldl (putB up) m).testBit i = true ↔ (m.testBit i = true ∨ ∃ p ∈ l, (p : Int) + up = i ∧ i < 256)
  | [], m => by simp
  | p :: l, m => by
    rw [List.foldl_cons, foldB_bit up i l]
    unfold putB
    constructor
    · rintro (h | ⟨q, hq, h⟩)
      · split at h
        · rename_i hr
          rw [Nat.testBit_or, Bool.or_eq_true, Nat.testBit_two_pow, decide_eq_true_eq] at h
          rcases h with h | h
          · exact .inl h
          · exact .inr ⟨p, by simp, by omega, by omega⟩
        · exact .inl h
      · exact .inr ⟨q, by simp [hq], h⟩
    · rintro (h | ⟨q, hq, h1, h2⟩)
      · refine .inl ?_
        split
        · rw [Nat.testBit_or, h]; rfl
        · exact h
      · rcases List.mem_cons.1 hq with rfl | hq
        · refine .inl ?_
          rw [if_pos (by omega), Nat.testBit_or, Nat.testBit_two_pow, decide_eq_true (show ((q : Int) + up).toNat = i by omega)]
          simp
        · exact .inr ⟨q, hq, h1, h2⟩

/-- A word's bits, moved. -/
def mvN (a : Nat) (up : Int) : Nat := mvL up (allOnes a)
theorem mvN_lt (a : Nat) (up : Int) : W256 (mvN a up) := foldB_lt up _ 0 (by unfold W256; omega)
theorem mvN_bit (a : Nat) (up : Int) (ha : W256 a) (i : Nat) : (mvN a up).testBit i = true ↔ (i < 256 ∧ ∃ p : Nat, a.testBit p = true ∧ (p : Int) + up = i) := by
  unfold mvN mvL
  rw [foldB_bit, Nat.zero_testBit]
  simp only [Bool.false_eq_true, false_or]
  constructor
  · rintro ⟨p, hp, h1, h2⟩; exact ⟨h2, p, (allOnes_mem a ha p).1 hp, h1⟩
  · rintro ⟨h2, p, hp, h1⟩; exact ⟨p, (allOnes_mem a ha p).2 hp, h1, h2⟩
theorem mvN_up (a n : Nat) (ha : W256 a) : mvN a (n : Int) = wmod (a * 2 ^ n) := by
  refine Nat.eq_of_testBit_eq fun i => Bool.eq_iff_iff.2 ?_
  rw [mvN_bit a _ ha]
  have e : wmod (a * 2 ^ n) = (a * 2 ^ n) % 2 ^ 256 := by unfold wmod; rw [show (2 : Nat) ^ 256 = 115792089237316195423570985008687907853269984665640564039457584007913129639936 by decide]
  rw [e, Nat.testBit_mod_two_pow, Nat.testBit_mul_two_pow, Bool.and_eq_true, Bool.and_eq_true, decide_eq_true_eq, decide_eq_true_eq]
  constructor
  · rintro ⟨h1, p, hp, h2⟩
    exact ⟨h1, by omega, by rw [show i - n = p by omega]; exact hp⟩
  · rintro ⟨h1, h2, h3⟩
    exact ⟨h1, i - n, h3, by omega⟩
theorem mvN_down (a n : Nat) (ha : W256 a) : mvN a (-(n : Int)) = a / 2 ^ n := by
  refine Nat.eq_of_testBit_eq fun i => Bool.eq_iff_iff.2 ?_
  rw [mvN_bit a _ ha, Nat.testBit_div_two_pow]
  constructor
  · rintro ⟨h1, p, hp, h2⟩
    rw [show i + n = p by omega]; exact hp
  · intro h
    refine ⟨?_, i + n, h, by omega⟩
    rcases Nat.lt_or_ge i 256 with h' | h'
    · exact h'
    · have : a.testBit (i + n) = false := Nat.testBit_lt_two_pow (Nat.lt_of_lt_of_le ((w256_pow a).1 ha) (Nat.pow_le_pow_right (by omega) (by omega)))
      rw [this] at h; cases h

/-- A word's cells. -/
def limC (m : Nat) : Array Value := #[.int .u64 (lim m 0), .int .u64 (lim m 1), .int .u64 (lim m 2), .int .u64 (lim m 3)]
theorem limC_get (m j : Nat) (hj : j < 4) : (limC m)[j]? = some (.int .u64 (lim m j)) := by
  rcases (show j = 0 ∨ j = 1 ∨ j = 2 ∨ j = 3 by omega) with rfl | rfl | rfl | rfl <;> rfl
theorem limC_set (m m' j : Nat) (hj : j < 4) (h : ∀ i, i < 4 → i ≠ j → lim m' i = lim m i) : (limC m).setIfInBounds j (.int .u64 (lim m' j)) = limC m' := by
  unfold limC
  rcases (show j = 0 ∨ j = 1 ∨ j = 2 ∨ j = 3 by omega) with rfl | rfl | rfl | rfl
  · rw [h 1 (by omega) (by omega), h 2 (by omega) (by omega), h 3 (by omega) (by omega)]; rfl
  · rw [h 0 (by omega) (by omega), h 2 (by omega) (by omega), h 3 (by omega) (by omega)]; rfl
  · rw [h 0 (by omega) (by omega), h 1 (by omega) (by omega), h 3 (by omega) (by omega)]; rfl
  · rw [h 0 (by omega) (by omega), h 1 (by omega) (by omega), h 2 (by omega) (by omega)]; rfl

theorem Has.grown {A X : World} {row : Option Nat} {B : Nat} {t : TypeId} {cs : Array Value} (h : Has A B t cs) (hg : A.grownBy X row) (hr : ∀ r, row = some r → ∃ o : Obj, A.heap[r]? = some o ∧ o.isCells = false) : Has X B t cs := by
  refine (hg.block B h.lt (fun e => ?_)).trans h
  obtain ⟨o, ho, hc⟩ := hr B e.symm
  unfold Has at h
  rw [h] at ho
  injection ho with ho
  rw [← ho] at hc
  cases hc
theorem Tab.grown {A X : World} {row : Option Nat} {n : Nat} (h : Tab A) (hg : A.grownBy X row) (hn : 0 < n) (hr : ∀ r, row = some r → n ≤ r) : Tab X := by
  have hb : X.heap[0]? = A.heap[0]? := hg.block 0 h.lt (fun e => by have := hr 0 e.symm; omega)
  exact ⟨Nat.lt_of_lt_of_le h.lt hg.size, fun i hi => (World.cell?_of_block (w := A) (w' := X) (a := ⟨0, i, none⟩) hb).trans (h.cell i hi)⟩
end Go.Proofs.YtnlcllhjhbaigaaDoor
