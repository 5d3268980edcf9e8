/- Permute of unlike lanes is unlike. -/
import Derived.Test.YtcjdcalfndicbaaDoorKecM
namespace Go.Proofs.YtcjdcalfndicbaaDoor

theorem eq_of_bits {a b : Nat} (ha : a < 2 ^ 64) (hb : b < 2 ^ 64) (h : ∀ z, z < 64 → a.testBit z = b.testBit z) : a = b :=
  Nat.eq_of_testBit_eq fun z => by
    rcases Nat.lt_or_ge z 64 with hz | hz
    · exact h z hz
    · rw [Nat.testBit_lt_two_pow (Nat.lt_of_lt_of_le ha (Nat.pow_le_pow_right (by omega) hz)), Nat.testBit_lt_two_pow (Nat.lt_of_lt_of_le hb (Nat.pow_le_pow_right (by omega) hz))]
theorem rotl_inj {a b : Nat} (s : Nat) (hs : s < 64) (ha : a < 2 ^ 64) (hb : b < 2 ^ 64) (h : rotl a s = rotl b s) : a = b :=
  eq_of_bits ha hb fun z hz => by
    have e := congrArg (fun n => Nat.testBit n ((z + s) % 64)) h
    simp only [rotl_bit _ s _ ha hs (Nat.mod_lt _ (by omega : 0 < 64)), rotl_bit _ s _ hb hs (Nat.mod_lt _ (by omega : 0 < 64))] at e
    rwa [show ((z + s) % 64 + (64 - s)) % 64 = z by omega] at e
theorem xor_cancel {a b c : Nat} (h : a ^^^ c = b ^^^ c) : a = b := by
  have := congrArg (· ^^^ c) h
  simpa [Nat.xor_assoc] using this

/-! ### chi -/
theorem chi_bits : ∀ a0 a1 a2 a3 a4 b0 b1 b2 b3 b4 : Bool, (a0 ^^ (a2 && !a1)) = (b0 ^^ (b2 && !b1)) → (a1 ^^ (a3 && !a2)) = (b1 ^^ (b3 && !b2)) → (a2 ^^ (a4 && !a3)) = (b2 ^^ (b4 && !b3)) → (a3 ^^ (a0 && !a4)) = (b3 ^^ (b0 && !b4)) → (a4 ^^ (a1 && !a0)) = (b4 ^^ (b1 && !b0)) →
    a0 = b0 ∧ a1 = b1 ∧ a2 = b2 ∧ a3 = b3 ∧ a4 = b4 := by decide
theorem mix_bit (A : Nat → Nat) (j z : Nat) (hz : z < 64) : (mixN A j).testBit z = ((A j).testBit z ^^ ((A (5 * (j / 5) + (j % 5 + 2) % 5)).testBit z && !(A (5 * (j / 5) + (j % 5 + 1) % 5)).testBit z)) := by
  unfold mixN
  rw [Nat.testBit_xor, Nat.testBit_and, Nat.testBit_xor, show (18446744073709551615 : Nat) = 2 ^ 64 - 1 from rfl, Nat.testBit_two_pow_sub_one, decide_eq_true hz, Bool.true_xor]
theorem mix_inj (A B : Nat → Nat) (hA : ∀ j, A j < 2 ^ 64) (hB : ∀ j, B j < 2 ^ 64) (h : ∀ j, j < 25 → mixN A j = mixN B j) : ∀ j, j < 25 → A j = B j := fun j hj =>
  eq_of_bits (hA j) (hB j) fun z hz => by
    obtain ⟨y, x, hy, hx, rfl⟩ : ∃ y x, y < 5 ∧ x < 5 ∧ j = 5 * y + x := ⟨j / 5, j % 5, by omega, by omega, by omega⟩
    have f : ∀ i, i < 5 → ((A (5 * y + i)).testBit z ^^ ((A (5 * y + (i + 2) % 5)).testBit z && !(A (5 * y + (i + 1) % 5)).testBit z)) = ((B (5 * y + i)).testBit z ^^ ((B (5 * y + (i + 2) % 5)).testBit z && !(B (5 * y + (i + 1) % 5)).testBit z)) := fun i hi => by
      have e := congrArg (fun n => Nat.testBit n z) (h (5 * y + i) (by omega))
      simp only [mix_bit _ _ z hz] at e
      rwa [show (5 * y + i) / 5 = y by omega, show (5 * y + i) % 5 = i by omega] at e
    have g := chi_bits _ _ _ _ _ _ _ _ _ _ (f 0 (by omega)) (f 1 (by omega)) (f 2 (by omega)) (f 3 (by omega)) (f 4 (by omega))
    match x, hx with
    | 0, _ => exact g.1
    | 1, _ => exact g.2.1
    | 2, _ => exact g.2.2.1
    | 3, _ => exact g.2.2.2.1
    | 4, _ => exact g.2.2.2.2

/-! ### rho and pi -/
theorem turn_inj (A B : Nat → Nat) (hA : ∀ j, A j < 2 ^ 64) (hB : ∀ j, B j < 2 ^ 64) (h : ∀ j, j < 25 → turnK A 24 j = turnK B 24 j) : ∀ j, j < 25 → A j = B j := by
  intro j hj
  have hc : j = 0 ∨ j = 1 ∨ j = 2 ∨ j = 3 ∨ j = 4 ∨ j = 5 ∨ j = 6 ∨ j = 7 ∨ j = 8 ∨ j = 9 ∨ j = 10 ∨ j = 11 ∨ j = 12 ∨ j = 13 ∨ j = 14 ∨ j = 15 ∨ j = 16 ∨ j = 17 ∨ j = 18 ∨ j = 19 ∨ j = 20 ∨ j = 21 ∨ j = 22 ∨ j = 23 ∨ j = 24 := by omega
  rcases hc with rfl | rfl | rfl | rfl | rfl | rfl | rfl | rfl | rfl | rfl | rfl | rfl | rfl | rfl | rfl | rfl | rfl | rfl | rfl | rfl | rfl | rfl | rfl | rfl | rfl
  · have e := h 0 (by omega)
    rw [turn_0, turn_0] at e
    exact e
  · have e := h 10 (by omega)
    rw [turn_10, turn_10] at e
    exact rotl_inj 1 (by omega) (hA 1) (hB 1) e
  · have e := h 20 (by omega)
    rw [turn_20, turn_20] at e
    exact rotl_inj 62 (by omega) (hA 2) (hB 2) e
  · have e := h 5 (by omega)
    rw [turn_5, turn_5] at e
    exact rotl_inj 28 (by omega) (hA 3) (hB 3) e
  · have e := h 15 (by omega)
    rw [turn_15, turn_15] at e
    exact rotl_inj 27 (by omega) (hA 4) (hB 4) e
  · have e := h 16 (by omega)
    rw [turn_16, turn_16] at e
    exact rotl_inj 36 (by omega) (hA 5) (hB 5) e
  · have e := h 1 (by omega)
    rw [turn_1, turn_1] at e
    exact rotl_inj 44 (by omega) (hA 6) (hB 6) e
  · have e := h 11 (by omega)
    rw [turn_11, turn_11] at e
    exact rotl_inj 6 (by omega) (hA 7) (hB 7) e
  · have e := h 21 (by omega)
    rw [turn_21, turn_21] at e
    exact rotl_inj 55 (by omega) (hA 8) (hB 8) e
  · have e := h 6 (by omega)
    rw [turn_6, turn_6] at e
    exact rotl_inj 20 (by omega) (hA 9) (hB 9) e
  · have e := h 7 (by omega)
    rw [turn_7, turn_7] at e
    exact rotl_inj 3 (by omega) (hA 10) (hB 10) e
  · have e := h 17 (by omega)
    rw [turn_17, turn_17] at e
    exact rotl_inj 10 (by omega) (hA 11) (hB 11) e
  · have e := h 2 (by omega)
    rw [turn_2, turn_2] at e
    exact rotl_inj 43 (by omega) (hA 12) (hB 12) e
  · have e := h 12 (by omega)
    rw [turn_12, turn_12] at e
    exact rotl_inj 25 (by omega) (hA 13) (hB 13) e
  · have e := h 22 (by omega)
    rw [turn_22, turn_22] at e
    exact rotl_inj 39 (by omega) (hA 14) (hB 14) e
  · have e := h 23 (by omega)
    rw [turn_23, turn_23] at e
    exact rotl_inj 41 (by omega) (hA 15) (hB 15) e
  · have e := h 8 (by omega)
    rw [turn_8, turn_8] at e
    exact rotl_inj 45 (by omega) (hA 16) (hB 16) e
  · have e := h 18 (by omega)
    rw [turn_18, turn_18] at e
    exact rotl_inj 15 (by omega) (hA 17) (hB 17) e
  · have e := h 3 (by omega)
    rw [turn_3, turn_3] at e
    exact rotl_inj 21 (by omega) (hA 18) (hB 18) e
  · have e := h 13 (by omega)
    rw [turn_13, turn_13] at e
    exact rotl_inj 8 (by omega) (hA 19) (hB 19) e
  · have e := h 14 (by omega)
    rw [turn_14, turn_14] at e
    exact rotl_inj 18 (by omega) (hA 20) (hB 20) e
  · have e := h 24 (by omega)
    rw [turn_24, turn_24] at e
    exact rotl_inj 2 (by omega) (hA 21) (hB 21) e
  · have e := h 9 (by omega)
    rw [turn_9, turn_9] at e
    exact rotl_inj 61 (by omega) (hA 22) (hB 22) e
  · have e := h 19 (by omega)
    rw [turn_19, turn_19] at e
    exact rotl_inj 56 (by omega) (hA 23) (hB 23) e
  · have e := h 4 (by omega)
    rw [turn_4, turn_4] at e
    exact rotl_inj 14 (by omega) (hA 24) (hB 24) e

/-! ### theta -/
/-- A bit of the columns' sums. -/
def cb (A : Nat → Nat) (x z : Nat) : Bool := (colK A 25 (x % 5)).testBit (z % 64)
theorem cb_x (A : Nat → Nat) (x z : Nat) : cb A (x + 5) z = cb A x z := by unfold cb; rw [Nat.add_mod_right]
theorem theta_bit (A : Nat → Nat) (hA : ∀ j, A j < 2 ^ 64) (j z : Nat) (hz : z < 64) : (thetaN A j).testBit z = ((A j).testBit z ^^ (cb A (j + 4) z ^^ cb A (j + 1) (z + 63))) := by
  unfold thetaN cb
  rw [Nat.testBit_xor, Nat.testBit_xor, rotl_bit _ 1 z (colK_lt A hA _ _) (by omega) hz, show (j % 5 + 4) % 5 = (j + 4) % 5 by omega, show (j % 5 + 1) % 5 = (j + 1) % 5 by omega, Nat.mod_eq_of_lt hz]
theorem col_bits (A : Nat → Nat) (x z : Nat) (hx : x < 5) : (colK A 25 x).testBit z = ((A x).testBit z ^^ (A (x + 5)).testBit z ^^ (A (x + 10)).testBit z ^^ (A (x + 15)).testBit z ^^ (A (x + 20)).testBit z) := by
  match x, hx with
  | 0, _ => rw [col_0]; simp only [Nat.testBit_xor, Nat.zero_add]
  | 1, _ => rw [col_1]; simp only [Nat.testBit_xor]
  | 2, _ => rw [col_2]; simp only [Nat.testBit_xor]
  | 3, _ => rw [col_3]; simp only [Nat.testBit_xor]
  | 4, _ => rw [col_4]; simp only [Nat.testBit_xor]
theorem five_xor : ∀ a b c d e p q r s t f : Bool, (a ^^ f) = p → (b ^^ f) = q → (c ^^ f) = r → (d ^^ f) = s → (e ^^ f) = t → ((a ^^ b ^^ c ^^ d ^^ e) ^^ f) = (p ^^ q ^^ r ^^ s ^^ t) := by decide

/-- The difference of the columns' sums. -/
def dc (A B : Nat → Nat) (x z : Nat) : Bool := cb A x z ^^ cb B x z
theorem dc_step (A B : Nat → Nat) (hA : ∀ j, A j < 2 ^ 64) (hB : ∀ j, B j < 2 ^ 64) (h : ∀ j, j < 25 → thetaN A j = thetaN B j) (x z : Nat) :
    (dc A B x z ^^ dc A B (x + 4) z ^^ dc A B (x + 1) (z + 63)) = false := by
  have hz : z % 64 < 64 := Nat.mod_lt _ (by omega)
  have hx : x % 5 < 5 := Nat.mod_lt _ (by omega)
  have e : ∀ y, y < 5 → ((A (x % 5 + 5 * y)).testBit (z % 64) ^^ (cb A (x + 4) z ^^ cb A (x + 1) (z + 63))) = ((B (x % 5 + 5 * y)).testBit (z % 64) ^^ (cb B (x + 4) z ^^ cb B (x + 1) (z + 63))) := fun y hy => by
    have e := congrArg (fun n => Nat.testBit n (z % 64)) (h (x % 5 + 5 * y) (by omega))
    simp only [theta_bit A hA _ _ hz, theta_bit B hB _ _ hz] at e
    have c4 : ∀ C : Nat → Nat, cb C (x % 5 + 5 * y + 4) (z % 64) = cb C (x + 4) z := fun C => by unfold cb; rw [show (x % 5 + 5 * y + 4) % 5 = (x + 4) % 5 by omega, Nat.mod_mod]
    have c1 : ∀ C : Nat → Nat, cb C (x % 5 + 5 * y + 1) (z % 64 + 63) = cb C (x + 1) (z + 63) := fun C => by unfold cb; rw [show (x % 5 + 5 * y + 1) % 5 = (x + 1) % 5 by omega, show (z % 64 + 63) % 64 = (z + 63) % 64 by omega]
    rwa [c4 A, c4 B, c1 A, c1 B] at e
  have a := col_bits A (x % 5) (z % 64) hx
  have b := col_bits B (x % 5) (z % 64) hx
  have e0 := e 0 (by omega)
  have e1 := e 1 (by omega)
  have e2 := e 2 (by omega)
  have e3 := e 3 (by omega)
  have e4 := e 4 (by omega)
  simp only [Nat.mul_zero, Nat.add_zero, Nat.mul_one, Nat.reduceMul] at e0 e1 e2 e3 e4
  unfold dc
  rw [show cb A x z = _ from a, show cb B x z = _ from b]
  generalize (A (x % 5)).testBit (z % 64) = a0 at *
  generalize (A (x % 5 + 5)).testBit (z % 64) = a1 at *
  generalize (A (x % 5 + 10)).testBit (z % 64) = a2 at *
  generalize (A (x % 5 + 15)).testBit (z % 64) = a3 at *
  generalize (A (x % 5 + 20)).testBit (z % 64) = a4 at *
  generalize (B (x % 5)).testBit (z % 64) = b0 at *
  generalize (B (x % 5 + 5)).testBit (z % 64) = b1 at *
  generalize (B (x % 5 + 10)).testBit (z % 64) = b2 at *
  generalize (B (x % 5 + 15)).testBit (z % 64) = b3 at *
  generalize (B (x % 5 + 20)).testBit (z % 64) = b4 at *
  generalize cb A (x + 4) z = p at *
  generalize cb A (x + 1) (z + 63) = q at *
  generalize cb B (x + 4) z = r at *
  generalize cb B (x + 1) (z + 63) = s at *
  clear a b e h hA hB
  cases a0 <;> cases p <;> cases q <;> cases r <;> cases s <;> cases b0 <;> simp_all
theorem dc_x (A B : Nat → Nat) (x z : Nat) : dc A B (x + 5) z = dc A B x z := by unfold dc; rw [cb_x, cb_x]
theorem dc_xk (A B : Nat → Nat) (x z : Nat) : ∀ k, dc A B (x + 5 * k) z = dc A B x z
  | 0 => rfl
  | k + 1 => by rw [show x + 5 * (k + 1) = x + 5 * k + 5 by omega, dc_x, dc_xk A B x z k]
theorem dc_z (A B : Nat → Nat) (x z : Nat) (k : Nat) : dc A B x (z + 64 * k) = dc A B x z := by unfold dc cb; rw [Nat.add_mul_mod_self_left]
theorem xor3 : ∀ a b c d e f g h i : Bool, (a ^^ b ^^ c) = false → (b ^^ d ^^ e) = false → (c ^^ e ^^ f) = false → (a ^^ d ^^ f) = false := by decide
theorem dc_pow (A B : Nat → Nat) (hA : ∀ j, A j < 2 ^ 64) (hB : ∀ j, B j < 2 ^ 64) (h : ∀ j, j < 25 → thetaN A j = thetaN B j) : ∀ (k x z : Nat),
    (dc A B x z ^^ dc A B (x + 4 * 2 ^ k) z ^^ dc A B (x + 2 ^ k) (z + 63 * 2 ^ k)) = false
  | 0, x, z => dc_step A B hA hB h x z
  | k + 1, x, z => by
    have h1 := dc_pow A B hA hB h k x z
    have h2 := dc_pow A B hA hB h k (x + 4 * 2 ^ k) z
    have h3 := dc_pow A B hA hB h k (x + 2 ^ k) (z + 63 * 2 ^ k)
    rw [Nat.pow_succ]
    generalize 2 ^ k = K at *
    rw [show x + 4 * K + 4 * K = x + 4 * (K * 2) by omega, show x + 4 * K + K = x + 5 * K by omega] at h2
    rw [show x + K + 4 * K = x + 5 * K by omega, show x + K + K = x + K * 2 by omega, show z + 63 * K + 63 * K = z + 63 * (K * 2) by omega] at h3
    have := xor3 _ _ _ _ _ _ false false false h1 h2 h3
    exact this
theorem five_zero : ∀ a b c d e : Bool, (a ^^ b ^^ e) = false → (b ^^ c ^^ a) = false → (c ^^ d ^^ b) = false → (d ^^ e ^^ c) = false → (e ^^ a ^^ d) = false → a = false ∧ b = false ∧ c = false ∧ d = false ∧ e = false := by decide
theorem dc_zero (A B : Nat → Nat) (hA : ∀ j, A j < 2 ^ 64) (hB : ∀ j, B j < 2 ^ 64) (h : ∀ j, j < 25 → thetaN A j = thetaN B j) (x z : Nat) (hx : x < 5) : dc A B x z = false := by
  have f : ∀ x, (dc A B x z ^^ dc A B (x + 1) z ^^ dc A B (x + 4) z) = false := fun x => by
    have := dc_pow A B hA hB h 6 x z
    rw [show x + 4 * 2 ^ 6 = x + 1 + 5 * 51 by omega, show x + 2 ^ 6 = x + 4 + 5 * 12 by omega, show z + 63 * 2 ^ 6 = z + 64 * 63 by omega, dc_xk, dc_xk, dc_z] at this
    exact this
  have f0 := f 0
  have f1 := f 1
  have f2 := f 2
  have f3 := f 3
  have f4 := f 4
  simp only [Nat.zero_add, Nat.reduceAdd] at f0 f1 f2 f3 f4
  rw [show (5 : Nat) = 0 + 5 from rfl, dc_x] at f1 f4
  rw [show (6 : Nat) = 1 + 5 from rfl, dc_x] at f2
  rw [show (7 : Nat) = 2 + 5 from rfl, dc_x] at f3
  rw [show (8 : Nat) = 3 + 5 from rfl, dc_x] at f4
  have g := five_zero _ _ _ _ _ f0 f1 f2 f3 f4
  match x, hx with
  | 0, _ => exact g.1
  | 1, _ => exact g.2.1
  | 2, _ => exact g.2.2.1
  | 3, _ => exact g.2.2.2.1
  | 4, _ => exact g.2.2.2.2
theorem theta_inj (A B : Nat → Nat) (hA : ∀ j, A j < 2 ^ 64) (hB : ∀ j, B j < 2 ^ 64) (h : ∀ j, j < 25 → thetaN A j = thetaN B j) : ∀ j, j < 25 → A j = B j := fun j hj =>
  eq_of_bits (hA j) (hB j) fun z hz => by
    have e := congrArg (fun n => Nat.testBit n z) (h j hj)
    simp only [theta_bit A hA _ _ hz, theta_bit B hB _ _ hz] at e
    have same : ∀ x y, cb A x y = cb B x y := fun x y => by
      have d := dc_zero A B hA hB h (x % 5) y (Nat.mod_lt _ (by omega))
      unfold dc at d
      have c : ∀ C : Nat → Nat, cb C (x % 5) y = cb C x y := fun C => by unfold cb; rw [Nat.mod_mod]
      rw [c A, c B] at d
      generalize cb A x y = p at *
      generalize cb B x y = q at *
      cases p <;> cases q <;> simp_all
    rw [same, same] at e
    generalize (A j).testBit z = p at *
    generalize (B j).testBit z = q at *
    generalize cb B (j + 4) z = r at *
    generalize cb B (j + 1) (z + 63) = s at *
    cases p <;> cases q <;> cases r <;> cases s <;> simp_all

theorem rnd_inj (A B : Nat → Nat) (hA : ∀ j, A j < 2 ^ 64) (hB : ∀ j, B j < 2 ^ 64) (c : Nat) (h : ∀ j, j < 25 → rndN A c j = rndN B c j) : ∀ j, j < 25 → A j = B j := by
  have tA := thetaN_lt A hA
  have tB := thetaN_lt B hB
  refine theta_inj A B hA hB (turn_inj _ _ tA tB (mix_inj _ _ (turnK_lt _ tA 24) (turnK_lt _ tB 24) fun j hj => ?_))
  have e := h j hj
  unfold rndN at e
  by_cases h0 : j = 0
  · subst h0
    rw [if_pos rfl, if_pos rfl] at e
    exact xor_cancel e
  · rwa [if_neg h0, if_neg h0] at e
theorem rndN_lt' (A : Nat → Nat) (hA : ∀ j, A j < 2 ^ 64) (c : Nat) (hc : c < 2 ^ 64) (j : Nat) : rndN A c j < 2 ^ 64 := by
  unfold rndN
  have h := mixN_lt _ (turnK_lt _ (thetaN_lt A hA) 24)
  split
  · exact Nat.xor_lt_two_pow (h 0) hc
  · exact h j
theorem fold_inj : ∀ (cs : List Nat) (A B : Nat → Nat), (∀ c, c ∈ cs → c < 2 ^ 64) → (∀ j, A j < 2 ^ 64) → (∀ j, B j < 2 ^ 64) → (∀ j, j < 25 → cs.foldl rndN A j = cs.foldl rndN B j) → ∀ j, j < 25 → A j = B j
  | [], _, _, _, _, _, h => h
  | c :: cs, A, B, hc, hA, hB, h => rnd_inj A B hA hB c (fold_inj cs _ _ (fun d hd => hc d (by simp [hd])) (rndN_lt' A hA c (hc c (by simp))) (rndN_lt' B hB c (hc c (by simp))) h)
theorem permN_inj (A B : Nat → Nat) (hA : ∀ j, A j < 2 ^ 64) (hB : ∀ j, B j < 2 ^ 64) (h : ∀ j, j < 25 → permN A j = permN B j) : ∀ j, j < 25 → A j = B j :=
  fold_inj rcL A B (by decide) hA hB h
/-- Lanes that are the same within their number have the same Permute. -/
theorem permN_congr (A B : Nat → Nat) (h : ∀ j, j < 25 → A j = B j) (j : Nat) (hj : j < 25) : permN A j = permN B j := by
  have e : l25 A = l25 B := by unfold l25; exact List.map_congr_left (fun i hi => h i (List.mem_range.1 hi))
  have e2 : l25 (permN A) = l25 (permN B) := by rw [← permL_eq, ← permL_eq, e]
  have e3 := congrArg (fun l : List Nat => l.getD j 0) e2
  have o : ∀ C : Nat → Nat, (l25 C).getD j 0 = C j := fun C => by unfold l25; rw [List.getD_eq_getElem?_getD, List.getElem?_map, List.getElem?_range hj]; rfl
  simpa only [o] using e3
end Go.Proofs.YtcjdcalfndicbaaDoor
