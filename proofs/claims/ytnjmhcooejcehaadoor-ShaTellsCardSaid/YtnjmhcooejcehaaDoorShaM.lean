/- SHA-256's words and rounds as numbers: as functions, and as lists to reckon with. -/
import Derived.Test.YtnjmhcooejcehaaDoorLawK
namespace Go.Proofs.YtnjmhcooejcehaaDoor

/-- A number of 32 bits whose bits stand s places lower. -/
def rr (x s : Nat) : Nat := x * 2 ^ (32 - s) % 2 ^ 32 ||| x / 2 ^ s
theorem rr_lt (x s : Nat) (hx : x < 2 ^ 32) : rr x s < 2 ^ 32 :=
  Nat.or_lt_two_pow (Nat.mod_lt _ (by decide)) (Nat.lt_of_le_of_lt (Nat.div_le_self _ _) hx)
theorem rr_bit (x s i : Nat) (hx : x < 2 ^ 32) (h0 : 0 < s) (hs : s < 32) (hi : i < 32) : (rr x s).testBit i = x.testBit ((i + s) % 32) := by
  unfold rr
  rw [Nat.testBit_or, Nat.testBit_mod_two_pow, Nat.testBit_div_two_pow, decide_eq_true hi, Bool.true_and, Nat.mul_comm, Nat.testBit_two_pow_mul]
  by_cases h : 32 - s ≤ i
  · rw [decide_eq_true h, Bool.true_and, show (i + s) % 32 = i - (32 - s) by omega]
    rw [Nat.testBit_lt_two_pow (x := x) (i := i + s) (Nat.lt_of_lt_of_le hx (Nat.pow_le_pow_right (by omega) (by omega)))]
    simp
  · rw [decide_eq_false h, Bool.false_and, Bool.false_or, Nat.mod_eq_of_lt (by omega)]
def lowA (x : Nat) : Nat := rr x 7 ^^^ rr x 18 ^^^ x / 2 ^ 3
def lowB (x : Nat) : Nat := rr x 17 ^^^ rr x 19 ^^^ x / 2 ^ 10
def bigE (x : Nat) : Nat := rr x 6 ^^^ rr x 11 ^^^ rr x 25
def bigA (x : Nat) : Nat := rr x 2 ^^^ rr x 13 ^^^ rr x 22
def chN (e f g : Nat) : Nat := (e &&& f) ^^^ ((4294967295 ^^^ e) &&& g)
def majN (a b c : Nat) : Nat := (a &&& b) ^^^ (a &&& c) ^^^ (b &&& c)
theorem div_lt32 (x s : Nat) (hx : x < 2 ^ 32) : x / 2 ^ s < 2 ^ 32 := Nat.lt_of_le_of_lt (Nat.div_le_self _ _) hx
theorem lowA_lt (x : Nat) (hx : x < 2 ^ 32) : lowA x < 2 ^ 32 := Nat.xor_lt_two_pow (Nat.xor_lt_two_pow (rr_lt _ _ hx) (rr_lt _ _ hx)) (div_lt32 _ _ hx)
theorem lowB_lt (x : Nat) (hx : x < 2 ^ 32) : lowB x < 2 ^ 32 := Nat.xor_lt_two_pow (Nat.xor_lt_two_pow (rr_lt _ _ hx) (rr_lt _ _ hx)) (div_lt32 _ _ hx)
theorem bigE_lt (x : Nat) (hx : x < 2 ^ 32) : bigE x < 2 ^ 32 := Nat.xor_lt_two_pow (Nat.xor_lt_two_pow (rr_lt _ _ hx) (rr_lt _ _ hx)) (rr_lt _ _ hx)
theorem bigA_lt (x : Nat) (hx : x < 2 ^ 32) : bigA x < 2 ^ 32 := Nat.xor_lt_two_pow (Nat.xor_lt_two_pow (rr_lt _ _ hx) (rr_lt _ _ hx)) (rr_lt _ _ hx)
theorem chN_lt (e f g : Nat) (he : e < 2 ^ 32) (hg : g < 2 ^ 32) : chN e f g < 2 ^ 32 :=
  Nat.xor_lt_two_pow (Nat.lt_of_le_of_lt Nat.and_le_left he) (Nat.and_lt_two_pow _ hg)
theorem majN_lt (a b c : Nat) (ha : a < 2 ^ 32) (hb : b < 2 ^ 32) : majN a b c < 2 ^ 32 :=
  Nat.xor_lt_two_pow (Nat.xor_lt_two_pow (Nat.lt_of_le_of_lt Nat.and_le_left ha) (Nat.lt_of_le_of_lt Nat.and_le_left ha)) (Nat.lt_of_le_of_lt Nat.and_le_left hb)
def tN (L : Nat → Nat) (ad : Nat) : Nat := (((L 7 + bigE (L 4)) % 2 ^ 32 + chN (L 4) (L 5) (L 6)) % 2 ^ 32 + ad) % 2 ^ 32
def uN (L : Nat → Nat) : Nat := (bigA (L 0) + majN (L 0) (L 1) (L 2)) % 2 ^ 32
/-- The letters behind a round. -/
def nextN (L : Nat → Nat) (ad j : Nat) : Nat := if j = 0 then (tN L ad + uN L) % 2 ^ 32 else if j = 4 then (L 3 + tN L ad) % 2 ^ 32 else L (j - 1)
theorem nextN_lt (L : Nat → Nat) (hL : ∀ j, L j < 2 ^ 32) (ad j : Nat) : nextN L ad j < 2 ^ 32 := by
  unfold nextN
  split
  · exact Nat.mod_lt _ (by decide)
  · split
    · exact Nat.mod_lt _ (by decide)
    · exact hL _
def kL : List Nat := [
  0x428a2f98, 0x71374491, 0xb5c0fbcf, 0xe9b5dba5, 0x3956c25b, 0x59f111f1, 0x923f82a4, 0xab1c5ed5,
  0xd807aa98, 0x12835b01, 0x243185be, 0x550c7dc3, 0x72be5d74, 0x80deb1fe, 0x9bdc06a7, 0xc19bf174,
  0xe49b69c1, 0xefbe4786, 0x0fc19dc6, 0x240ca1cc, 0x2de92c6f, 0x4a7484aa, 0x5cb0a9dc, 0x76f988da,
  0x983e5152, 0xa831c66d, 0xb00327c8, 0xbf597fc7, 0xc6e00bf3, 0xd5a79147, 0x06ca6351, 0x14292967,
  0x27b70a85, 0x2e1b2138, 0x4d2c6dfc, 0x53380d13, 0x650a7354, 0x766a0abb, 0x81c2c92e, 0x92722c85,
  0xa2bfe8a1, 0xa81a664b, 0xc24b8b70, 0xc76c51a3, 0xd192e819, 0xd6990624, 0xf40e3585, 0x106aa070,
  0x19a4c116, 0x1e376c08, 0x2748774c, 0x34b0bcb5, 0x391c0cb3, 0x4ed8aa4a, 0x5b9cca4f, 0x682e6ff3,
  0x748f82ee, 0x78a5636f, 0x84c87814, 0x8cc70208, 0x90befffa, 0xa4506ceb, 0xbef9a3f7, 0xc67178f2]
def hL : List Nat := [0x6a09e667, 0xbb67ae85, 0x3c6ef372, 0xa54ff53a, 0x510e527f, 0x9b05688c, 0x1f83d9ab, 0x5be0cd19]
def kN (i : Nat) : Nat := kL.getD i 0
def hN (i : Nat) : Nat := hL.getD i 0
theorem getD_lt {l : List Nat} {n : Nat} (h : ∀ x ∈ l, x < n) (hn : 0 < n) (i : Nat) : l.getD i 0 < n := by
  rw [List.getD_eq_getElem?_getD]
  cases hi : l[i]? with
  | none => exact hn
  | some x => exact h x (List.mem_of_getElem? hi)
theorem kN_lt (i : Nat) : kN i < 2 ^ 32 := getD_lt (by decide) (by decide) i
theorem hN_lt (i : Nat) : hN i < 2 ^ 32 := getD_lt (by decide) (by decide) i
/-- The letters behind k rounds, with a block's words. -/
def ltrK (H W : Nat → Nat) : Nat → Nat → Nat
  | 0 => H
  | k + 1 => nextN (ltrK H W k) ((kN k + W k) % 2 ^ 32)
theorem ltrK_lt (H W : Nat → Nat) (hH : ∀ j, H j < 2 ^ 32) : ∀ k j, ltrK H W k j < 2 ^ 32
  | 0, j => hH j
  | k + 1, j => nextN_lt _ (ltrK_lt H W hH k) _ _
def withN (H W : Nat → Nat) (j : Nat) : Nat := (H j + ltrK H W 64 j) % 2 ^ 32
theorem withN_lt (H W : Nat → Nat) (j : Nat) : withN H W j < 2 ^ 32 := Nat.mod_lt _ (by decide)
/-- A block's words behind k of its bytes. -/
def scK (D : Nat → Nat) : Nat → Nat → Nat
  | 0, _ => 0
  | k + 1, j => if j = k / 4 then (scK D k j * 256 % 2 ^ 32 ||| D k) else scK D k j
theorem scK_lt (D : Nat → Nat) (hD : ∀ j, D j < 256) : ∀ k j, scK D k j < 2 ^ 32
  | 0, _ => by unfold scK; decide
  | k + 1, j => by
    unfold scK
    split
    · exact Nat.or_lt_two_pow (Nat.mod_lt _ (by decide)) (Nat.lt_trans (hD k) (by decide))
    · exact scK_lt D hD k j
/-- The words, the newest one first, behind k of those that are made. -/
def newW (l : List Nat) : Nat := (((l.getD 15 0 + l.getD 6 0) % 2 ^ 32 + lowA (l.getD 14 0)) % 2 ^ 32 + lowB (l.getD 1 0)) % 2 ^ 32
def firstW (D : Nat → Nat) : List Nat := ((List.range 16).map fun j => scK D 64 j).reverse
def exL (D : Nat → Nat) : Nat → List Nat
  | 0 => firstW D
  | k + 1 => newW (exL D k) :: exL D k
theorem exL_len (D : Nat → Nat) : ∀ k, (exL D k).length = 16 + k
  | 0 => by simp [exL, firstW]
  | k + 1 => by rw [exL, List.length_cons, exL_len D k]; omega
/-- The word i of a block. -/
def wdN (D : Nat → Nat) (i : Nat) : Nat := (exL D 48).getD (63 - i) 0
theorem exL_le (D : Nat → Nat) (k i : Nat) (hi : i < 16 + k) : ∀ d, (exL D (k + d)).getD (15 + (k + d) - i) 0 = (exL D k).getD (15 + k - i) 0
  | 0 => rfl
  | d + 1 => by
    rw [← exL_le D k i hi d]
    show (newW (exL D (k + d)) :: exL D (k + d)).getD (15 + (k + d + 1) - i) 0 = _
    rw [show 15 + (k + d + 1) - i = (15 + (k + d) - i) + 1 by omega, List.getD_cons_succ]
theorem wdN_at (D : Nat → Nat) (k i : Nat) (hi : i < 16 + k) (hk : k ≤ 48) : wdN D i = (exL D k).getD (15 + k - i) 0 := by
  have h := exL_le D k i hi (48 - k)
  rw [show k + (48 - k) = 48 by omega, show 15 + 48 - i = 63 - i by omega] at h
  exact h
theorem wdN_low (D : Nat → Nat) (i : Nat) (hi : i < 16) : wdN D i = scK D 64 i := by
  rw [wdN_at D 0 i (by omega) (by omega)]
  rw [exL]
  unfold firstW
  rw [List.getD_eq_getElem?_getD, List.getElem?_reverse (by simp; omega), List.getElem?_map, List.length_map, List.length_range, show 16 - 1 - (15 + 0 - i) = i by omega, List.getElem?_range hi, Option.map_some, Option.getD_some]
theorem wdN_high (D : Nat → Nat) (i : Nat) (h0 : 16 ≤ i) (hi : i < 64) : wdN D i = (((wdN D (i - 16) + wdN D (i - 7)) % 2 ^ 32 + lowA (wdN D (i - 15))) % 2 ^ 32 + lowB (wdN D (i - 2))) % 2 ^ 32 := by
  obtain ⟨k, rfl⟩ : ∃ k, i = 16 + k := ⟨i - 16, by omega⟩
  rw [wdN_at D (k + 1) (16 + k) (by omega) (by omega), show 15 + (k + 1) - (16 + k) = 0 by omega, exL, List.getD_cons_zero]
  unfold newW
  rw [wdN_at D k (16 + k - 16) (by omega) (by omega), wdN_at D k (16 + k - 7) (by omega) (by omega), wdN_at D k (16 + k - 15) (by omega) (by omega), wdN_at D k (16 + k - 2) (by omega) (by omega),
    show 15 + k - (16 + k - 16) = 15 by omega, show 15 + k - (16 + k - 7) = 6 by omega, show 15 + k - (16 + k - 15) = 14 by omega, show 15 + k - (16 + k - 2) = 1 by omega]
theorem wdN_lt (D : Nat → Nat) (hD : ∀ j, D j < 256) (i : Nat) : wdN D i < 2 ^ 32 := by
  unfold wdN
  refine getD_lt ?_ (by decide) _
  have : ∀ k, ∀ x ∈ exL D k, x < 2 ^ 32 := fun k => by
    induction k with
    | zero =>
      intro x hx
      simp only [exL, firstW, List.mem_reverse, List.mem_map] at hx
      obtain ⟨j, _, rfl⟩ := hx
      exact scK_lt D hD 64 j
    | succ k ih =>
      intro x hx
      rcases List.mem_cons.1 hx with rfl | hx
      · exact Nat.mod_lt _ (by decide)
      · exact ih x hx
  exact this 48

/-! ### Rounds over lists, to reckon with -/
def rr1 (x s : Nat) : Nat := Nat.lor (Nat.mod (Nat.mul x (2 ^ (32 - s))) (2 ^ 32)) (Nat.div x (2 ^ s))
theorem rr1_eq (x s : Nat) : rr1 x s = rr x s := rfl
def l8 (A : Nat → Nat) : List Nat := (List.range 8).map A
theorem l8_eq (A : Nat → Nat) : l8 A = [A 0, A 1, A 2, A 3, A 4, A 5, A 6, A 7] := rfl
def add3 (x y : Nat) : Nat := Nat.mod (Nat.add x y) (2 ^ 32)
theorem add3_eq (x y : Nat) : add3 x y = (x + y) % 2 ^ 32 := rfl
def bE1 (e : Nat) : Nat := Nat.xor (Nat.xor (rr1 e 6) (rr1 e 11)) (rr1 e 25)
def bA1 (e : Nat) : Nat := Nat.xor (Nat.xor (rr1 e 2) (rr1 e 13)) (rr1 e 22)
def ch1 (e f g : Nat) : Nat := Nat.xor (Nat.land e f) (Nat.land (Nat.xor 4294967295 e) g)
def mj1 (a b c : Nat) : Nat := Nat.xor (Nat.xor (Nat.land a b) (Nat.land a c)) (Nat.land b c)
theorem bE1_eq (e : Nat) : bE1 e = bigE e := rfl
theorem bA1_eq (e : Nat) : bA1 e = bigA e := rfl
theorem ch1_eq (e f g : Nat) : ch1 e f g = chN e f g := rfl
theorem mj1_eq (e f g : Nat) : mj1 e f g = majN e f g := rfl
def rndL (l : List Nat) (ad : Nat) : List Nat :=
  match l with
  | [a, b, c, d, e, f, g, h] =>
    let t := add3 (add3 (add3 h (bE1 e)) (ch1 e f g)) ad
    [add3 t (add3 (bA1 a) (mj1 a b c)), a, b, c, add3 d t, e, f, g]
  | _ => []
theorem rndL_eq (A : Nat → Nat) (ad : Nat) : rndL (l8 A) ad = l8 (nextN A ad) := by
  rw [l8_eq, l8_eq]
  have h0 : nextN A ad 0 = (tN A ad + uN A) % 2 ^ 32 := if_pos rfl
  have h4 : nextN A ad 4 = (A 3 + tN A ad) % 2 ^ 32 := by unfold nextN; rw [if_neg (by decide), if_pos rfl]
  have hj : ∀ j, j ≠ 0 → j ≠ 4 → nextN A ad j = A (j - 1) := fun j h h' => by unfold nextN; rw [if_neg h, if_neg h']
  rw [h0, h4, hj 1 (by decide) (by decide), hj 2 (by decide) (by decide), hj 3 (by decide) (by decide), hj 5 (by decide) (by decide), hj 6 (by decide) (by decide), hj 7 (by decide) (by decide)]
  simp only [rndL, add3_eq, bE1_eq, bA1_eq, ch1_eq, mj1_eq, tN, uN]
/-- The letters behind k rounds, with so many constants and words. -/
def rndsL : List Nat → List Nat → List Nat → List Nat
  | l, k :: ks, w :: ws => rndsL (rndL l (add3 k w)) ks ws
  | l, _, _ => l
theorem rndsL_eq (H W : Nat → Nat) : ∀ (d k : Nat), k + d = 64 → rndsL (l8 (ltrK H W k)) (kL.drop k) ((List.range' k d).map W) = l8 (ltrK H W 64)
  | 0, k, h => by
    obtain rfl : k = 64 := by omega
    cases kL.drop 64 <;> rfl
  | d + 1, k, h => by
    have hk : k < kL.length := by show k < 64; omega
    rw [List.drop_eq_getElem_cons hk, List.range'_succ, List.map_cons, rndsL, rndL_eq]
    have : kL[k] = kN k := by unfold kN; rw [List.getD_eq_getElem?_getD, List.getElem?_eq_getElem hk]; rfl
    rw [this]
    exact rndsL_eq H W d (k + 1) (by omega)
theorem words_eq (D : Nat → Nat) : (List.range' 0 64).map (wdN D) = (exL D 48).reverse := by
  have hl := exL_len D 48
  refine List.ext_getElem? fun i => ?_
  rw [List.getElem?_map]
  rcases Nat.lt_or_ge i 64 with h | h
  · rw [List.getElem?_reverse (by omega), ← List.range_eq_range', List.getElem?_range h, hl]
    show some ((exL D 48).getD (63 - i) 0) = _
    rw [List.getD_eq_getElem?_getD, show 16 + 48 - 1 - i = 63 - i by omega, List.getElem?_eq_getElem (show 63 - i < (exL D 48).length by omega)]
    rfl
  · rw [List.getElem?_eq_none (by simp; omega), List.getElem?_eq_none (by simp; omega)]
    rfl
/-- The H behind one block, reckoned. -/
def oneL (D : Nat → Nat) : List Nat := rndsL hL kL (exL D 48).reverse
theorem oneL_eq (D : Nat → Nat) : oneL D = l8 (ltrK hN (wdN D) 64) := by
  have h := rndsL_eq hN (wdN D) 64 0 rfl
  rw [words_eq] at h
  exact h
def abcN (i : Nat) : Nat := [97, 98, 99, 128].getD i 0 + if i = 63 then 24 else 0
theorem t0 : Nat.beq ((oneL abcN).getD 0 0) ((0xba7816bf + 4294967296 - 0x6a09e667) % 4294967296) = true := by decide +kernel
end Go.Proofs.YtnjmhcooejcehaaDoor
