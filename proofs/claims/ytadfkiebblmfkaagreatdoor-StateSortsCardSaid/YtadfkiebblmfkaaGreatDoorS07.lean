import Derived.Test.YtadfkiebblmfkaaGreatDoorS06
import Derived.Test.YtadfkiebblmfkaaGreatDoorS01
import Derived.Maps.AppendAt
/- Raw numbers, two by two: how they lie in memory. Conditions: none. -/
namespace Go.Proofs.YtadfkiebblmfkaaGreatDoor
open Go Go.RowKit

/-- Pairs of numbers, one behind the other. -/
def RawAt (W : World) (v : Value) (zs : List (Int × Int)) : Prop :=
  ∃ a cap, v = .slice a zs.length cap ∧ zs.length ≤ cap ∧ cap ≤ 9223372036854775807 ∧ ∀ (i : Nat) (p : Int × Int), zs[i]? = some p → I64 p.1 ∧ I64 p.2 ∧ ∃ b, a = some b ∧ W.cell? (b.add (i * 2)) = some (.int .i64 p.1) ∧ W.cell? ((b.add (i * 2)).add 1) = some (.int .i64 p.2)
theorem Addr.add_add (b : Addr) (i j : Nat) : (b.add i).add j = b.add (i + j) := by
  unfold Addr.add
  by_cases hi : i = 0
  · subst hi; simp
  · by_cases hj : j = 0
    · subst hj; simp [hi]
    · simp only [hi, hj, if_false]
      rw [if_neg (by omega)]
      simp [Nat.add_assoc]
theorem RawAt.keep {W X : World} {v : Value} {zs : List (Int × Int)} (h : RawAt W v zs) (hk : ∀ (a : Addr) (u : Value), W.cell? a = some u → X.cell? a = some u) : RawAt X v zs := by
  obtain ⟨a, cap, h1, h2, h3, h4⟩ := h
  refine ⟨a, cap, h1, h2, h3, fun i p hp => ?_⟩
  obtain ⟨g1, g2, b, e, c0, c1⟩ := h4 i p hp
  exact ⟨g1, g2, b, e, hk _ _ c0, hk _ _ c1⟩
theorem cell_lt {W : World} {a : Addr} {u : Value} (h : W.cell? a = some u) : a.block < W.heap.size := by
  unfold World.cell? at h
  rcases Nat.lt_or_ge a.block W.heap.size with h' | h'
  · exact h'
  · rw [Array.getElem?_eq_none h'] at h
    cases h
theorem cell_below {W X : World} (hb : Below W.heap.size W X) (a : Addr) (u : Value) (h : W.cell? a = some u) : X.cell? a = some u := by
  exact (World.cell?_of_block (hb.block _ (cell_lt h))).trans h
theorem RawAt.later {W X : World} {v : Value} {zs : List (Int × Int)} (h : RawAt W v zs) (hb : Below W.heap.size W X) : RawAt X v zs := h.keep (cell_below hb)
/-- The first k of them. -/
theorem RawAt.take {W : World} {a : Option Addr} {n cap : Nat} {zs : List (Int × Int)} (h : RawAt W (.slice a n cap) zs) (k : Nat) (hk : k ≤ n) : RawAt W (.slice a k cap) (zs.take k) := by
  obtain ⟨a', cap', h1, h2, h3, h4⟩ := h
  injection h1 with e1 e2 e3
  subst e1 e3
  refine ⟨a, cap, by rw [List.length_take, Nat.min_eq_left (by omega)], by rw [List.length_take]; omega, h3, fun i p hp => ?_⟩
  rw [List.getElem?_take] at hp
  split at hp
  · exact h4 i p hp
  · cases hp
/-- Those behind the first k. -/
theorem RawAt.drop {W : World} {a : Option Addr} {n cap : Nat} {zs : List (Int × Int)} (h : RawAt W (.slice a n cap) zs) (k : Nat) (hk : k ≤ n) : RawAt W (.slice (if cap = k then a else a.map (·.add (k * 2))) (n - k) (cap - k)) (zs.drop k) := by
  obtain ⟨a', cap', h1, h2, h3, h4⟩ := h
  injection h1 with e1 e2 e3
  subst e1 e3
  refine ⟨_, _, by rw [List.length_drop, e2], by rw [List.length_drop]; omega, by omega, fun i p hp => ?_⟩
  rw [List.getElem?_drop] at hp
  have hlt := (List.getElem?_eq_some_iff.1 hp).1
  obtain ⟨g1, g2, b, e, c0, c1⟩ := h4 (k + i) p hp
  refine ⟨g1, g2, b.add (k * 2), ?_, ?_, ?_⟩
  · rw [if_neg (by omega), e]; rfl
  · rw [Addr.add_add, ← Nat.add_mul]; exact c0
  · rw [Addr.add_add] at c1
    rw [Addr.add_add, Addr.add_add, show k * 2 + (i * 2 + 1) = (k + i) * 2 + 1 by omega]; exact c1
theorem RawAt.len {W : World} {v : Value} {zs : List (Int × Int)} (h : RawAt W v zs) : zs.length ≤ 9223372036854775807 := by
  obtain ⟨a, cap, h1, h2, h3, h4⟩ := h
  omega
end Go.Proofs.YtadfkiebblmfkaaGreatDoor

/- Digits to the base 256, what is carried, and numbers made of digits: plain arithmetic. -/
namespace Go.Proofs.YtadfkiebblmfkaaGreatDoor

/-- Digit t of a number. -/
def dg (a t : Nat) : Nat := a / 256 ^ t % 256
theorem dg_lt (a t : Nat) : dg a t < 256 := Nat.mod_lt _ (by decide)
theorem dg_lim (a k i : Nat) (hk : k < 4) (hi : i < 8) : (lim a k / 256 ^ i) % 256 = (dg a (8 * k + i) : Int) := by
  unfold dg
  have h : ∀ x : Nat, ((x % 18446744073709551616 : Nat) : Int) / 256 ^ i % 256 = ((x / 256 ^ i % 256 : Nat) : Int) := by
    intro x
    have : i = 0 ∨ i = 1 ∨ i = 2 ∨ i = 3 ∨ i = 4 ∨ i = 5 ∨ i = 6 ∨ i = 7 := by omega
    rcases this with rfl | rfl | rfl | rfl | rfl | rfl | rfl | rfl <;> simp only [Nat.reducePow, Int.reducePow] <;> omega
  match k, hk with
  | 0, _ =>
    show ((a % 18446744073709551616 : Nat) : Int) / 256 ^ i % 256 = _
    rw [h a, Nat.mul_zero, Nat.zero_add]
  | 1, _ =>
    show ((a / 18446744073709551616 % 18446744073709551616 : Nat) : Int) / 256 ^ i % 256 = _
    rw [h, show (18446744073709551616 : Nat) = 256 ^ (8 * 1) by decide, Nat.div_div_eq_div_mul, ← Nat.pow_add]
  | 2, _ =>
    show ((a / 340282366920938463463374607431768211456 % 18446744073709551616 : Nat) : Int) / 256 ^ i % 256 = _
    rw [h, show (340282366920938463463374607431768211456 : Nat) = 256 ^ (8 * 2) by decide, Nat.div_div_eq_div_mul, ← Nat.pow_add]
  | 3, _ =>
    show ((a / 6277101735386680763835789423207666416102355444464034512896 % 18446744073709551616 : Nat) : Int) / 256 ^ i % 256 = _
    rw [h, show (6277101735386680763835789423207666416102355444464034512896 : Nat) = 256 ^ (8 * 3) by decide, Nat.div_div_eq_div_mul, ← Nat.pow_add]

theorem pow_le256 {m n : Nat} (h : m ≤ n) : (256 : Int) ^ m ≤ 256 ^ n := by
  have h1 : 256 ^ m ≤ 256 ^ n := Nat.pow_le_pow_right (by decide) h
  have h2 := Int.ofNat_le.2 h1
  rw [Int.natCast_pow, Int.natCast_pow] at h2
  exact h2
/-- The number of n digits, the lowest one first. -/
def valI (d : Nat → Int) : Nat → Int
  | 0 => 0
  | n + 1 => valI d n + d n * 256 ^ n
theorem valI_congr (d e : Nat → Int) : ∀ n, (∀ j, j < n → d j = e j) → valI d n = valI e n
  | 0, _ => rfl
  | n + 1, h => by rw [valI, valI, valI_congr d e n (fun j hj => h j (by omega)), h n (by omega)]
theorem valI_add (d : Nat → Int) (m : Nat) : ∀ n, valI d (m + n) = valI d m + valI (fun j => d (m + j)) n * 256 ^ m
  | 0 => by simp [valI]
  | n + 1 => by
    rw [← Nat.add_assoc, valI, valI, valI_add d m n, Int.pow_add, Int.add_mul, ← Int.add_assoc, Int.mul_assoc (d (m + n)), Int.mul_comm ((256 : Int) ^ m) (256 ^ n)]
theorem valI_sum (d e : Nat → Int) : ∀ n, valI (fun j => d j + e j) n = valI d n + valI e n
  | 0 => rfl
  | n + 1 => by rw [valI, valI, valI, valI_sum d e n, Int.add_mul]; omega
theorem valI_sub (d e : Nat → Int) : ∀ n, valI (fun j => d j - e j) n = valI d n - valI e n
  | 0 => rfl
  | n + 1 => by rw [valI, valI, valI, valI_sub d e n, Int.sub_mul]; omega
theorem valI_zero : ∀ n, valI (fun _ => 0) n = 0
  | 0 => rfl
  | n + 1 => by rw [valI, valI_zero n]; simp
theorem valI_set (d : Nat → Int) (k : Nat) (v : Int) : ∀ n, k < n → valI (fun j => if j = k then v else d j) n = valI d n + (v - d k) * 256 ^ k
  | 0, h => by omega
  | n + 1, h => by
    rw [valI, valI]
    by_cases e : n = k
    · subst e
      rw [valI_congr (fun j => if j = n then v else d j) d n (fun j hj => if_neg (by omega)), if_pos rfl, Int.sub_mul]
      omega
    · rw [valI_set d k v n (by omega), if_neg e]
      omega
theorem valI_dg (a : Nat) : ∀ n, valI (fun j => (dg a j : Int)) n = ((a % 256 ^ n : Nat) : Int)
  | 0 => by simp [valI, Nat.mod_one]
  | n + 1 => by
    rw [valI, valI_dg a n, Nat.pow_succ, Nat.mod_mul]
    unfold dg
    rw [Int.natCast_add, Int.natCast_mul, Int.natCast_pow, Int.mul_comm]
    rfl
theorem p256 : (256 : Int) ^ 32 = 115792089237316195423570985008687907853269984665640564039457584007913129639936 := by decide
theorem n256 : (256 : Nat) ^ 32 = 115792089237316195423570985008687907853269984665640564039457584007913129639936 := by decide
theorem valI_word (a : Nat) (ha : W256 a) : valI (fun j => (dg a j : Int)) 32 = (a : Int) := by
  rw [valI_dg, n256]
  unfold W256 at ha
  rw [Nat.mod_eq_of_lt ha]
theorem valI_bound (d : Nat → Int) (h : ∀ j, 0 ≤ d j ∧ d j < 256) : ∀ n, 0 ≤ valI d n ∧ valI d n < 256 ^ n
  | 0 => by simp [valI]
  | n + 1 => by
    obtain ⟨h1, h2⟩ := valI_bound d h n
    obtain ⟨h3, h4⟩ := h n
    have hp : (0 : Int) < 256 ^ n := Int.pow_pos (by decide)
    rw [valI, Int.pow_succ]
    generalize (256 : Int) ^ n = M at *
    have e1 : 0 ≤ d n * M := Int.mul_nonneg h3 (Int.le_of_lt hp)
    have e2 : (d n + 1) * M ≤ 256 * M := Int.mul_le_mul_of_nonneg_right (by omega) (Int.le_of_lt hp)
    rw [Int.add_mul] at e2
    constructor <;> omega

/-! ### Carried -/
def cyD (d : Nat → Int) : Nat → Int
  | 0 => 0
  | j + 1 => (d j + cyD d j) / 256
def rD (d : Nat → Int) (j : Nat) : Int := (d j + cyD d j) % 256
theorem rD_range (d : Nat → Int) (j : Nat) : 0 ≤ rD d j ∧ rD d j < 256 := by unfold rD; constructor <;> omega
theorem cyD_bound (d : Nat → Int) (h : ∀ j, -4194304 ≤ d j ∧ d j ≤ 4194304) : ∀ j, -4194304 ≤ cyD d j ∧ cyD d j ≤ 4194304
  | 0 => by simp [cyD]
  | j + 1 => by
    have h1 := h j
    have h2 := cyD_bound d h j
    unfold cyD
    constructor <;> omega
theorem carry_sum (d : Nat → Int) : ∀ n, valI (rD d) n + cyD d n * 256 ^ n = valI d n
  | 0 => by simp [valI, cyD]
  | n + 1 => by
    have ih := carry_sum d n
    have h : rD d n = d n + cyD d n - 256 * cyD d (n + 1) := by
      show (d n + cyD d n) % 256 = d n + cyD d n - 256 * ((d n + cyD d n) / 256)
      omega
    rw [valI, valI, h, ← ih, Int.pow_succ, Int.sub_mul, Int.add_mul]
    generalize (256 : Int) ^ n = M
    have e : cyD d (n + 1) * (M * 256) = 256 * cyD d (n + 1) * M := by
      rw [Int.mul_comm M 256, ← Int.mul_assoc, Int.mul_comm (cyD d (n + 1)) 256]
    rw [e]
    omega
/-- The number that carried digits tell. -/
theorem carried_num (d : Nat → Int) (N : Nat) (q : Int) (h : valI d 32 = (N : Int) + q * 115792089237316195423570985008687907853269984665640564039457584007913129639936) : (valI (rD d) 32).toNat = wmod N := by
  have h1 := carry_sum d 32
  obtain ⟨h2, h3⟩ := valI_bound (rD d) (rD_range d) 32
  rw [p256] at h1 h3
  unfold wmod
  generalize valI (rD d) 32 = v at *
  generalize cyD d 32 = c at *
  omega

/-! ### Made of digits -/
/-- Part p after m of its digits, from the highest one on. -/
def hor (d : Nat → Int) (p : Nat) : Nat → Int
  | 0 => 0
  | m + 1 => hor d p m * 256 + d (8 * p + 7 - m)
theorem hor_bound (d : Nat → Int) (p : Nat) (h : ∀ j, 0 ≤ d j ∧ d j < 256) : ∀ m, 0 ≤ hor d p m ∧ hor d p m < 256 ^ m
  | 0 => by simp [hor]
  | m + 1 => by
    obtain ⟨h1, h2⟩ := hor_bound d p h m
    obtain ⟨h3, h4⟩ := h (8 * p + 7 - m)
    rw [hor, Int.pow_succ]
    constructor <;> omega
theorem hor_none (d : Nat → Int) (p n : Nat) (hz : ∀ j, n ≤ j → d j = 0) : ∀ m, m ≤ 8 → n + m ≤ 8 * p + 8 → hor d p m = 0
  | 0, _, _ => rfl
  | m + 1, h, h2 => by rw [hor, hor_none d p n hz m (by omega) (by omega), hz _ (by omega)]; rfl
theorem hor_eight (d : Nat → Int) (p : Nat) : hor d p 8 = valI (fun j => d (8 * p + j)) 8 := by
  simp only [hor, valI, Nat.sub_zero, Int.pow_zero, Int.reducePow, Nat.reduceSub]
  rw [show 8 * p + 7 - 1 = 8 * p + 6 by omega, show 8 * p + 7 - 2 = 8 * p + 5 by omega, show 8 * p + 7 - 3 = 8 * p + 4 by omega, show 8 * p + 7 - 4 = 8 * p + 3 by omega, show 8 * p + 7 - 5 = 8 * p + 2 by omega, show 8 * p + 7 - 6 = 8 * p + 1 by omega, show 8 * p + 7 - 7 = 8 * p by omega]
  simp only [Nat.add_zero]
  omega
/-- The parts when the places from k on have been gone through. -/
def fdAt (d : Nat → Int) (k p : Nat) : Int := hor d p (min 8 (8 * p + 8 - k))
theorem fdAt_step (d : Nat → Int) (i : Nat) (p : Nat) (hp : p = i / 8) : fdAt d i = fun j => if j = p then fdAt d (i + 1) p * 256 + d i else fdAt d (i + 1) j := by
  funext j
  unfold fdAt
  by_cases h : j = p
  · subst h
    rw [if_pos rfl, show min 8 (8 * j + 8 - i) = (8 * j + 7 - i) + 1 by omega, show min 8 (8 * j + 8 - (i + 1)) = 8 * j + 7 - i by omega, hor, show 8 * j + 7 - (8 * j + 7 - i) = i by omega]
  · rw [if_neg h]
    congr 1
    omega
theorem fdAt_start (d : Nat → Int) (n : Nat) (hz : ∀ j, n ≤ j → d j = 0) (p : Nat) (hp : p < 4) : fdAt d (min n 32) p = 0 := by
  unfold fdAt
  by_cases h : n ≤ 8 * p + 8
  · by_cases h2 : min 8 (8 * p + 8 - min n 32) = 8
    · rw [h2]
      exact hor_none d p n hz 8 (by omega) (by omega)
    · exact hor_none d p n hz _ (by omega) (by omega)
  · rw [show min 8 (8 * p + 8 - min n 32) = 0 by omega]; rfl
theorem fdAt_u64 (d : Nat → Int) (h : ∀ j, 0 ≤ d j ∧ d j < 256) (k p : Nat) : U64 (fdAt d k p) := by
  unfold fdAt U64
  obtain ⟨h1, h2⟩ := hor_bound d p h (min 8 (8 * p + 8 - k))
  refine ⟨h1, Int.lt_of_lt_of_le h2 ?_⟩
  have : (256 : Int) ^ (min 8 (8 * p + 8 - k)) ≤ 256 ^ 8 := pow_le256 (by omega)
  exact this
theorem fdAt_room (d : Nat → Int) (h : ∀ j, 0 ≤ d j ∧ d j < 256) (i p : Nat) (hp : p = i / 8) : 0 ≤ fdAt d (i + 1) p ∧ fdAt d (i + 1) p < 72057594037927936 := by
  unfold fdAt
  obtain ⟨h1, h2⟩ := hor_bound d p h (min 8 (8 * p + 8 - (i + 1)))
  refine ⟨h1, Int.lt_of_lt_of_le h2 ?_⟩
  have : (256 : Int) ^ (min 8 (8 * p + 8 - (i + 1))) ≤ 256 ^ 7 := pow_le256 (by omega)
  exact this
theorem fd_parts (d : Nat → Int) (h : ∀ j, 0 ≤ d j ∧ d j < 256) : lim (valI d 32).toNat 0 = fdAt d 0 0 ∧ lim (valI d 32).toNat 1 = fdAt d 0 1 ∧ lim (valI d 32).toNat 2 = fdAt d 0 2 ∧ lim (valI d 32).toNat 3 = fdAt d 0 3 := by
  refine lim_num (fdAt d 0) _ (fdAt_u64 d h 0 0) (fdAt_u64 d h 0 1) (fdAt_u64 d h 0 2) (fdAt_u64 d h 0 3) ?_
  rw [Int.toNat_of_nonneg (valI_bound d h 32).1]
  have e0 : fdAt d 0 0 = valI (fun j => d (8 * 0 + j)) 8 := hor_eight d 0
  have e1 : fdAt d 0 1 = valI (fun j => d (8 * 1 + j)) 8 := hor_eight d 1
  have e2 : fdAt d 0 2 = valI (fun j => d (8 * 2 + j)) 8 := hor_eight d 2
  have e3 : fdAt d 0 3 = valI (fun j => d (8 * 3 + j)) 8 := hor_eight d 3
  have f1 := valI_add d 24 8
  have f2 := valI_add d 16 8
  have f3 := valI_add d 8 8
  have f4 : valI d 8 = fdAt d 0 0 := by
    rw [e0]; exact valI_congr _ _ 8 (fun j _ => by rw [Nat.mul_zero, Nat.zero_add])
  unfold num
  rw [show valI d 32 = valI d (24 + 8) from rfl, f1, show valI d 24 = valI d (16 + 8) from rfl, f2, show valI d 16 = valI d (8 + 8) from rfl, f3, f4, e1, e2, e3]
  rfl
theorem fd_low (d : Nat → Int) (h : ∀ j, 0 ≤ d j ∧ d j < 256) : W256 (valI d 32).toNat := by
  obtain ⟨h1, h2⟩ := valI_bound d h 32
  rw [p256] at h2
  unfold W256
  omega

/-! ### Products -/
theorem mul_end (x y i : Nat) (hy : W256 y) (hi : i ≤ 32) (M : Int) : ∃ q : Int, M * 256 ^ i * valI (fun j => (dg y j : Int)) (32 - i) = M * 256 ^ i * y + q * 115792089237316195423570985008687907853269984665640564039457584007913129639936 := by
  have h := valI_add (fun j => (dg y j : Int)) (32 - i) i
  rw [show 32 - i + i = 32 by omega, valI_word y hy] at h
  refine ⟨- (M * valI (fun j => (dg y (32 - i + j) : Int)) i), ?_⟩
  rw [h, Int.mul_add]
  have e : M * 256 ^ i * (valI (fun j => (dg y (32 - i + j) : Int)) i * 256 ^ (32 - i)) = M * valI (fun j => (dg y (32 - i + j) : Int)) i * 115792089237316195423570985008687907853269984665640564039457584007913129639936 := by
    rw [← p256, show (256 : Int) ^ 32 = 256 ^ i * 256 ^ (32 - i) by rw [← Int.pow_add]; congr 1; omega]
    generalize valI (fun j => (dg y (32 - i + j) : Int)) i = v
    generalize (256 : Int) ^ i = A
    generalize (256 : Int) ^ (32 - i) = B
    rw [Int.mul_assoc M A, ← Int.mul_assoc A v B, Int.mul_comm A v, Int.mul_assoc v A B, ← Int.mul_assoc M v]
  rw [e, Int.neg_mul]
  omega
end Go.Proofs.YtadfkiebblmfkaaGreatDoor

/- The document's own answer of layer 1: words of ints, their order, their digits, and words of digits. For every word. -/
namespace Go.Proofs.YtadfkiebblmfkaaGreatDoor
open Go Go.RowKit Go.Shelf
attribute [local go_sem] Oper.semAt_some Grows wide_fn

/-! ### Blocks of ints -/
theorem Arr4.mk0' (W : World) (t : TypeId) : Arr4 (W.alloc (.cells #[.int .u64 0, .int .u64 0, .int .u64 0, .int .u64 0] t)) W.heap.size t (fun _ => 0) := World.alloc_heap_new W _
theorem Arr4.later' {W W' : World} {B : Nat} {t : TypeId} {m : Nat → Int} (h : Arr4 W B t m) (hb : Below W.heap.size W W') : Arr4 W' B t m := h.below hb h.lt
theorem Arr4.same4 {W : World} {B : Nat} {t : TypeId} {m m' : Nat → Int} (h : Arr4 W B t m) (h0 : m 0 = m' 0) (h1 : m 1 = m' 1) (h2 : m 2 = m' 2) (h3 : m 3 = m' 3) : Arr4 W B t m' := by
  unfold Arr4 at *
  rw [h, h0, h1, h2, h3]
/-- Block g holds n ints. -/
def IntsAt (W : World) (g n : Nat) (d : Nat → Int) : Prop := ∃ cur, W.heap[g]? = some (.cells cur 3 (0, 0)) ∧ ∀ j, j < n → cur[j]? = some (.int .i64 (d j))
theorem IntsAt.lt {W : World} {g n : Nat} {d : Nat → Int} (h : IntsAt W g n d) : g < W.heap.size := by
  obtain ⟨cur, h1, _⟩ := h
  exact (Array.getElem?_eq_some_iff.1 h1).1
theorem IntsAt.cell {W : World} {g n : Nat} {d : Nat → Int} (h : IntsAt W g n d) {j : Nat} (hj : j < n) : W.cell? ⟨g, j, none⟩ = some (.int .i64 (d j)) := by
  obtain ⟨cur, h1, h2⟩ := h
  simp [World.cell?, h1, h2 j hj]
theorem IntsAt.frozen {W : World} {g n : Nat} {d : Nat → Int} (h : IntsAt W g n d) (j : Nat) : W.frozen? ⟨g, j, none⟩ = false := by
  obtain ⟨cur, h1, _⟩ := h
  simp [World.frozen?, h1]
theorem IntsAt.kept {W W' : World} {row : Option Nat} {g n : Nat} {d : Nat → Int} (h : IntsAt W g n d) (hg : W.grownBy W' row) (hne : some g ≠ row) : IntsAt W' g n d := by
  have hl := h.lt
  obtain ⟨cur, h1, h2⟩ := h
  exact ⟨cur, (hg.block g hl hne).trans h1, h2⟩
theorem IntsAt.below {W W' : World} {g n m : Nat} {d : Nat → Int} (h : IntsAt W g n d) (hb : Below m W W') (hlt : g < m) : IntsAt W' g n d := by
  obtain ⟨cur, h1, h2⟩ := h
  exact ⟨cur, (hb.block g hlt).trans h1, h2⟩
theorem IntsAt.later {W W' : World} {g n : Nat} {d : Nat → Int} (h : IntsAt W g n d) (hb : Below W.heap.size W W') : IntsAt W' g n d := h.below hb h.lt
theorem IntsAt.alloc {W : World} {g n : Nat} {d : Nat → Int} (h : IntsAt W g n d) (o : Obj) : IntsAt (W.alloc o) g n d := h.kept (World.grownBy_alloc W o none) (by simp)
theorem IntsAt.other {W : World} {g n : Nat} {d : Nat → Int} (h : IntsAt W g n d) {p : Addr} (hne : g ≠ p.block) (v : Value) : IntsAt (W.setCell p v) g n d := by
  obtain ⟨cur, h1, h2⟩ := h
  exact ⟨cur, (Below.heap_setCell W p v g hne).trans h1, h2⟩
theorem IntsAt.set {W : World} {g n : Nat} {d : Nat → Int} (h : IntsAt W g n d) {k : Nat} (hk : k < n) (v : Int) : IntsAt (W.setCell ⟨g, k, none⟩ (.int .i64 v)) g n (fun j => if j = k then v else d j) := by
  obtain ⟨cur, h1, h2⟩ := h
  obtain ⟨hlt, he⟩ := Array.getElem?_eq_some_iff.1 h1
  refine ⟨cur.setIfInBounds k (.int .i64 v), ?_, fun j hj => ?_⟩
  · show (W.heap.modify g _)[g]? = _
    rw [Array.getElem?_eq_getElem (by rw [Array.size_modify]; exact hlt), Array.getElem_modify_self, he]
    rfl
  · have hs : k < cur.size := (Array.getElem?_eq_some_iff.1 (h2 k hk)).1
    show (cur.setIfInBounds k (.int .i64 v))[j]? = some (.int .i64 (if j = k then v else d j))
    by_cases e : j = k
    · subst e
      rw [if_pos rfl, Array.getElem?_setIfInBounds_self_of_lt hs]
    · rw [if_neg e, Array.getElem?_setIfInBounds_ne (by omega)]
      exact h2 j hj
theorem IntsAt.congr {W : World} {g n : Nat} {d e : Nat → Int} (h : IntsAt W g n d) (he : ∀ j, j < n → d j = e j) : IntsAt W g n e := by
  obtain ⟨cur, h1, h2⟩ := h
  exact ⟨cur, h1, fun j hj => by rw [← he j hj]; exact h2 j hj⟩
theorem IntsAt.of_row {W : World} {base n g cap : Nat} {d : Nat → Int} {xs : List Value} (h : W.ownsRow base 3 1 (.slice (some ⟨g, 0, none⟩) n cap) n xs) (hx : ∀ j, j < n → xs[j]? = some (.int .i64 (d j))) : base ≤ g ∧ IntsAt W g n d := by
  rcases h.2 with ⟨h1, _⟩ | ⟨g', cap', cur, h1, hb, hg, _, _, _, ht⟩
  · cases h1
  · injection h1 with e1 _ _
    injection e1 with e2
    injection e2 with e3 _ _
    subst e3
    refine ⟨hb, cur, hg, fun j hj => ?_⟩
    have := hx j hj
    rw [← ht, List.getElem?_take] at this
    split at this
    · simpa using this
    · cases this
theorem cell_one (w : World) (x : Value) (t : TypeId) : ∀ j u, [x][j]? = some u → (w.alloc (.cells #[x] t)).cell? ((⟨w.heap.size, 0, none⟩ : Addr).add j) = some u := by
  intro j u hj
  match j, hj with
  | 0, hj =>
    simp at hj
    subst hj
    show (w.alloc (.cells #[x] t)).cell? ⟨w.heap.size, 0, none⟩ = some x
    simp only [World.cell?, show (w.alloc (.cells #[x] t)).heap[w.heap.size]? = _ from World.alloc_heap_new w _]
    rfl
  | j + 1, hj => simp at hj
theorem infoI : (Tryz.prog.info? 3).map (fun i => (i.zero, i.size, i.bytes)) = some (some (.int .i64 0), 1, 8) := by kernel_rfl
theorem row_below {w w' : World} {base : Nat} {e : TypeId} {size : Nat} {v : Value} {n : Nat} {xs : List Value} (h : w.ownsRow base e size v n xs) (hb : Below w.heap.size w w') : w'.ownsRow base e size v n xs :=
  h.kept (grown_of_below hb none) (by cases hv : v.ownBlock <;> simp)

/-- The same for a list of operations. -/
theorem wp_region_quietR {P : Program} {C : World → Prop} {id : Nat} {Q : Exit → Act → World → Prop} {a : Act} {w : World} {l : List Oper} (hm : P.follows .mixedOrders = true) (hB : Region.lexB .any l.toArray = true)
    (hC : C { w with drawn := w.drawn + 1 }) (h : wpQuiet P l.toArray C (fun a' => ∀ w', C w' → Q .normal a' w') l a) : (Code.region id l.toArray true).wp P Q a w :=
  wp_region_quiet (C := C) hm hB hC (by simpa using h)

/-! ### Digits -/
def dgsV (a n : Nat) : List Value := (List.range n).map fun j => Value.int .i64 (dg a j : Int)
theorem dgsV_succ (a n : Nat) : dgsV a (n + 1) = dgsV a n ++ [.int .i64 (dg a n : Int)] := by simp [dgsV, List.range_succ]
theorem dgsV_length (a n : Nat) : (dgsV a n).length = n := by simp [dgsV]
/-- A word's part behind q divisions by 256. -/
def dvAt (a p : Nat) : Nat → Int
  | 0 => lim a p
  | q + 1 => dvAt a p q / 256
theorem dvAt_eq (a p : Nat) : ∀ q, dvAt a p q = lim a p / 256 ^ q
  | 0 => by simp [dvAt]
  | q + 1 => by
    rw [dvAt, dvAt_eq a p q, Int.pow_succ, Int.ediv_ediv_of_nonneg (Int.le_of_lt (Int.pow_pos (by decide)))]
theorem dvAt_u64 (a p : Nat) : ∀ q, U64 (dvAt a p q)
  | 0 => lim_u64 a p
  | q + 1 => by have := dvAt_u64 a p q; unfold U64 at *; unfold dvAt; omega
theorem dvAt_digit (a p q : Nat) (hp : p < 4) (hq : q < 8) : dvAt a p q % 256 = (dg a (8 * p + q) : Int) := by rw [dvAt_eq, dg_lim a p q hp hq]

set_option maxRecDepth 100000 in
set_option maxHeartbeats 2000000 in
theorem digits_any (a : Nat) (w : World) : Calls Tryz.prog 138 #[wv a] w fun e w' => ∃ g cap, e = .returned (.slice (some ⟨g, 0, none⟩) 32 cap) ∧ w.heap.size ≤ g ∧ IntsAt w' g 32 (fun j => (dg a j : Int)) ∧ Below w.heap.size w w' := by
  have A0 := Arr4.word w 28 a
  have B0 := (Below.refl _ w).alloc (Nat.le_refl _) (.cells #[.int .u64 (lim a 0), .int .u64 (lim a 1), .int .u64 (lim a 2), .int .u64 (lim a 3)] 28)
  unfold wv
  go_enter Tryz.func138, Tryz.ntmps138
  go_wp2
  have R0 := World.ownsRow_nil (w.alloc (.cells #[.int .u64 (lim a 0), .int .u64 (lim a 1), .int .u64 (lim a 2), .int .u64 (lim a 3)] 28)) (w.heap.size + 1) 3 1
  have hs0 : w.heap.size + 1 ≤ (w.alloc (.cells #[.int .u64 (lim a 0), .int .u64 (lim a 1), .int .u64 (lim a 2), .int .u64 (lim a 3)] 28)).heap.size := by simp
  obtain ⟨W0, hW0⟩ : ∃ W0, w.alloc (.cells #[.int .u64 (lim a 0), .int .u64 (lim a 1), .int .u64 (lim a 2), .int .u64 (lim a 3)] 28) = W0 := ⟨_, rfl⟩
  rw [hW0] at A0 B0 R0 hs0 ⊢
  clear hW0
  go_loopw [3, 4] (fun t i wr => ∃ p : Nat, p ≤ 4 ∧ i = .int .i64 (p : Int) ∧ Arr4 wr w.heap.size 28 (lim a) ∧ wr.ownsRow (w.heap.size + 1) 3 1 t (8 * p) (dgsV a (8 * p)) ∧ Below w.heap.size w wr ∧ w.heap.size + 1 ≤ wr.heap.size) (fun _ i _ => 4 - (intOf i).toNat)
  case atStart => exact ⟨0, by omega, rfl, A0, R0, B0, hs0⟩
  case round =>
    obtain ⟨p, hp, rfl, aw, hown, hB, hsz⟩ := hrel
    clear A0 B0 R0 hs0
    by_cases hlt : p < 4
    · have hpI : (p : Int) < 4 := by omega
      have hp0 : (0 : Int) ≤ (p : Int) := by omega
      have cp := aw.cell hlt
      have HP := Lib.hid hlt
      clear hp hlt
      obtain ⟨wo, rfl⟩ : ∃ wo : World, wo = wr := ⟨_, rfl⟩
      go_wp2
      go_loopw [3, 5, 6] (fun t x k wr => ∃ q : Nat, q ≤ 8 ∧ k = .int .i64 (q : Int) ∧ x = .int .u64 (dvAt a p q) ∧ Arr4 wr w.heap.size 28 (lim a) ∧ wr.ownsRow (w.heap.size + 1) 3 1 t (8 * p + q) (dgsV a (8 * p + q)) ∧ Below w.heap.size w wr ∧ w.heap.size + 1 ≤ wr.heap.size) (fun _ _ k _ => 8 - (intOf k).toNat)
      case atStart => exact ⟨0, by omega, rfl, rfl, aw, hown, hB, hsz⟩
      case round =>
        obtain ⟨q, hq, rfl, rfl, aw, hown, hB, hsz⟩ := hrel
        by_cases hlt : q < 8
        · have hqI : (q : Int) < 8 := by omega
          have hq0 : (0 : Int) ≤ (q : Int) := by omega
          have hd := dvAt_digit a p q HP.out hlt
          have hu := dvAt_u64 a p q
          have hn : dvAt a p (q + 1) = dvAt a p q / 256 := rfl
          have HN := Lib.hid hn
          have HD := Lib.hid (dgsV_succ a (8 * p + q))
          have hb := dg_lt a (8 * p + q)
          have HQ := Lib.hid hlt
          have AW := Lib.hid aw
          have HO := Lib.hid hown
          have HB := Lib.hid hB
          have HZ := Lib.hid hsz
          obtain ⟨hu0, hu1⟩ := hu
          generalize dvAt a p q = y at *
          have e1 : y.tmod 256 = (dg a (8 * p + q) : Int) := by rw [Int.tmod_eq_emod_of_nonneg hu0, hd]
          have e2 : y.tdiv 256 = y / 256 := Int.tdiv_eq_ediv_of_nonneg hu0
          have hb0 : (0 : Int) ≤ (dg a (8 * p + q) : Int) := by omega
          have hb1 : (dg a (8 * p + q) : Int) < 256 := by omega
          have hy0 : 0 ≤ y / 256 := by omega
          have hy1 : y / 256 < 18446744073709551616 := by omega
          have hcap : 8 * p + q < 32 := by have := HP.out; omega
          generalize (dg a (8 * p + q) : Int) = b at *
          generalize hnE : 8 * p + q = n at *
          have HE := Lib.hid hnE
          clear hnE
          obtain ⟨i0, hi, hz0, hz1, hz2⟩ := info_parts infoI
          clear hq hlt hd hn hb aw hown hB hsz
          go_wp2_with (at_builtin; refine wpList_append_own _ rfl _ _ 170 rfl (w.heap.size + 1) 3 i0 (.int .i64 0) 1 8 Tryz.underlying170 hi hz0 hz1 hz2 rfl (by decide) _ _ _ rfl (HO.out.alloc _) ⟨wr.heap.size, 0, none⟩ 1 1 [.int .i64 b] rfl rfl (cell_one _ _ _) (by simp [Value.oneCell']) (by unfold maxLen; omega) (by omega) (by have := HZ.out; simp; omega) ?_; intro v' w3 hown' hgrow hnil)
          clear hi hz0 hz1 hz2
          go_wp2
          go_roundw
          case rel =>
            have hxs3 := hgrow.size
            have hltA := AW.out.lt
            have hzz := HZ.out
            refine ⟨q + 1, HQ.out, by simp, by rw [HN.out], ?_, ?_, ?_, by simp at hxs3; omega⟩
            · exact (AW.out.alloc _).kept hgrow (fun e => by have := (HO.out.alloc (.cells #[.int .i64 b] 3)).lt _ e.symm; omega)
            · rw [show 8 * p + (q + 1) = n + 1 by have := HE.out; omega, HD.out]; exact hown'
            · exact (HB.out.alloc (by omega) _).grown hgrow (by simp; omega) (fun j e => by have := (HO.out.alloc (.cells #[.int .i64 b] 3)).lt j e; omega)
          case measure => have := HQ.out; simp [intOf]; omega
        · obtain rfl : q = 8 := by omega
          have HO := Lib.hid hown
          clear hq hlt hown
          have HA := Lib.hid aw
          have HB := Lib.hid hB
          have HZ := Lib.hid hsz
          clear aw hB hsz
          go_wp2
          go_roundw
          case rel => exact ⟨p + 1, HP.out, by simp, HA.out, HO.out, HB.out, HZ.out⟩
          case measure => have := HP.out; simp [intOf]; omega
    · obtain rfl : p = 4 := by omega
      obtain ⟨g, cap, rfl⟩ := ownsRow_succ (k := 31) hown
      have hx := IntsAt.of_row (d := fun j => (dg a j : Int)) hown (fun j hj => by simp [dgsV, hj])
      have HX := Lib.hid hx
      have HB := Lib.hid hB
      clear hp hlt hown aw hB hsz hx
      go_wp2
      go_ret
      exact ⟨g, cap, rfl, by have := HX.out.1; omega, HX.out.2, HB.out⟩
end Go.Proofs.YtadfkiebblmfkaaGreatDoor

/- A word of digits, and digits carried: the document's own answer. For every row of digits. -/
namespace Go.Proofs.YtadfkiebblmfkaaGreatDoor
open Go Go.RowKit Go.Shelf
attribute [local go_sem] Oper.semAt_some Grows wide_fn

/-! ### A word of digits -/
/-! ### Carried -/
def carV (d : Nat → Int) (n : Nat) : List Value := (List.range n).map fun j => Value.int .i64 (rD d j)
theorem carV_succ (d : Nat → Int) (n : Nat) : carV d (n + 1) = carV d n ++ [.int .i64 (rD d n)] := by simp [carV, List.range_succ]

end Go.Proofs.YtadfkiebblmfkaaGreatDoor

/- Words of ints, and the order of words: the document's own answer. For every int and word. -/
namespace Go.Proofs.YtadfkiebblmfkaaGreatDoor
open Go Go.RowKit Go.Shelf
attribute [local go_sem] Oper.semAt_some Grows wide_fn

/-! ### Of -/
set_option maxRecDepth 100000 in
set_option maxHeartbeats 1000000 in
theorem refOf_ret (n : Int) (h : I64 n) : Ret Tryz.prog 29 #[.int .i64 n] (wv (ofN n)) := by
  intro w
  have hI := h
  unfold I64 at h
  by_cases hn : n < 0
  · rw [wv_of (of_neg n hI hn)]
    have hw : IntKind.u64.wrap n = 18446744073709551616 + n := by rw [IntKind.wrap_u64]; omega
    have h1 : -9223372036854775808 ≤ n := h.1
    obtain ⟨x, hx⟩ : ∃ x, x = 18446744073709551616 + n := ⟨_, rfl⟩
    rw [← hx] at hw ⊢
    have hx0 : 0 ≤ x := by omega
    have hx1 : x < 18446744073709551616 := by omega
    clear h hI hx
    go_enter Tryz.func29, Tryz.ntmps29
    go_wp2
    have A1 := (Arr4.mk0' w 28).alloc (.cells #[.int .u64 x, .int .u64 0, .int .u64 0, .int .u64 0] 28)
    have A2 := Arr4.new (w.alloc (.cells #[.int .u64 0, .int .u64 0, .int .u64 0, .int .u64 0] 28)) 28 x 0 0 0
    have B0 := ((Below.refl _ w).alloc (Nat.le_refl _) (.cells #[.int .u64 0, .int .u64 0, .int .u64 0, .int .u64 0] 28)).alloc (by simp) (.cells #[.int .u64 x, .int .u64 0, .int .u64 0, .int .u64 0] 28)
    rw [World.size_alloc] at A2
    obtain ⟨W0, hW0⟩ : ∃ W0, (w.alloc (.cells #[.int .u64 0, .int .u64 0, .int .u64 0, .int .u64 0] 28)).alloc (.cells #[.int .u64 x, .int .u64 0, .int .u64 0, .int .u64 0] 28) = W0 := ⟨_, rfl⟩
    rw [hW0] at A1 A2 B0 ⊢
    clear hW0
    go_loopw [4] (fun i wr => ∃ k : Nat, 1 ≤ k ∧ k ≤ 4 ∧ i = .int .i64 (k : Int) ∧ Arr4 wr w.heap.size 28 (fun _ => 0) ∧ Arr4 wr (w.heap.size + 1) 28 (fun j => if j = 0 then x else if j < k then 18446744073709551615 else 0) ∧ Below w.heap.size w wr) (fun i _ => 4 - (intOf i).toNat)
    case atStart => exact ⟨1, by omega, by omega, rfl, A1, A2.same4 rfl rfl rfl rfl, B0⟩
    case round =>
      obtain ⟨k, hk1, hk, rfl, a1, a2, hB⟩ := hrel
      clear A1 A2 B0
      by_cases hlt : k < 4
      · have hkI : (k : Int) < 4 := by omega
        have hk0 : (0 : Int) ≤ (k : Int) := by omega
        have fp := a2.frozen k
        have cp := a2.cell hlt
        have N1 := Lib.hid (a1.other (p := ⟨w.heap.size + 1, k, none⟩) (by simp) (.int .u64 18446744073709551615))
        have N2 := Lib.hid (a2.set hlt 18446744073709551615)
        have N3 := Lib.hid (hB.setCell (p := ⟨w.heap.size + 1, k, none⟩) (by simp) (.int .u64 18446744073709551615))
        have HK := Lib.hid (And.intro hk1 hlt)
        clear hk1 hk hlt a1 a2 hB
        go_wp2
        go_roundw
        case rel =>
          have hk := HK.out
          refine ⟨k + 1, by omega, by omega, by simp, N1.out, ?_, N3.out⟩
          have e : (fun j => if j = 0 then x else if j < k + 1 then (18446744073709551615 : Int) else 0) = (fun j => if j = k then 18446744073709551615 else if j = 0 then x else if j < k then 18446744073709551615 else 0) := by
            funext j
            by_cases e1 : j = k
            · rw [if_pos e1, if_neg (by omega), if_pos (by omega)]
            · rw [if_neg e1]
              by_cases e2 : j = 0
              · rw [if_pos e2, if_pos e2]
              · rw [if_neg e2, if_neg e2]
                by_cases e3 : j < k
                · rw [if_pos e3, if_pos (by omega)]
                · rw [if_neg e3, if_neg (by omega)]
          rw [e]
          exact N2.out
        case measure => have := HK.out; simp [intOf]; omega
      · obtain rfl : k = 4 := by omega
        have c0 : wr.cell? ⟨w.heap.size + 1, 0, none⟩ = some (.int .u64 x) := a2.cell (j := 0) (by omega)
        have c1 : wr.cell? ⟨w.heap.size + 1, 1, none⟩ = some (.int .u64 18446744073709551615) := a2.cell (j := 1) (by omega)
        have c2 : wr.cell? ⟨w.heap.size + 1, 2, none⟩ = some (.int .u64 18446744073709551615) := a2.cell (j := 2) (by omega)
        have c3 : wr.cell? ⟨w.heap.size + 1, 3, none⟩ = some (.int .u64 18446744073709551615) := a2.cell (j := 3) (by omega)
        have f0 := a1.frozen 0
        have f1 := a1.frozen 1
        have f2 := a1.frozen 2
        have f3 := a1.frozen 3
        have d0 := a1.cell (j := 0) (by omega)
        have d1 := a1.cell (j := 1) (by omega)
        have d2 := a1.cell (j := 2) (by omega)
        have d3 := a1.cell (j := 3) (by omega)
        have HA1 := Lib.hid a1
        have HB := Lib.hid hB
        clear hk1 hk hlt a1 a2 hB
        go_wp2
        refine bodyPost_ret (results_word rfl rfl (HA1.out.store (fun j => if j = 0 then x else 18446744073709551615))) rfl ⟨rfl, ?_⟩
        exact (((HB.out.setCell (p := ⟨w.heap.size, 0, none⟩) (by simp) _).setCell (p := ⟨w.heap.size, 1, none⟩) (by simp) _).setCell (p := ⟨w.heap.size, 2, none⟩) (by simp) _).setCell (p := ⟨w.heap.size, 3, none⟩) (by simp) _
  · rw [wv_of (of_pos n hI hn)]
    have hn0 : 0 ≤ n := by omega
    have hn1 : n ≤ 9223372036854775807 := h.2
    have hw : IntKind.u64.wrap n = n := by rw [IntKind.wrap_u64]; omega
    have hn2 : n < 18446744073709551616 := by omega
    clear h hI
    go_enter Tryz.func29, Tryz.ntmps29
    go_wp2
    refine bodyPost_ret (results_word rfl rfl ((Arr4.new w 28 n 0 0 0).alloc (.cells #[.int .u64 n, .int .u64 0, .int .u64 0, .int .u64 0] 28))) rfl ⟨rfl, ?_⟩
    exact ((Below.refl _ w).alloc (Nat.le_refl _) _).alloc (by simp) _

/-! ### The order -/
def cmR (a b : Nat) : Nat → Int
  | 0 => 0
  | k + 1 => cmpN a b k (cmR a b k)
theorem cmR_four (a b : Nat) (ha : W256 a) (hb : W256 b) : cmR a b 4 = wcmp a b := cmp_parts a b ha hb

set_option maxRecDepth 100000 in
set_option maxHeartbeats 2000000 in
theorem refCmp_ret (a b : Nat) (ha : W256 a) (hb : W256 b) : Ret Tryz.prog 55 #[wv a, wv b] (.int .i64 (wcmp a b)) := by
  intro w
  have HC := Lib.hid (cmR_four a b ha hb)
  have A1 := (Arr4.word w 28 a).alloc (.cells #[.int .u64 (lim b 0), .int .u64 (lim b 1), .int .u64 (lim b 2), .int .u64 (lim b 3)] 28)
  have A2 := Arr4.word (w.alloc (.cells #[.int .u64 (lim a 0), .int .u64 (lim a 1), .int .u64 (lim a 2), .int .u64 (lim a 3)] 28)) 28 b
  have B0 := ((Below.refl _ w).alloc (Nat.le_refl _) (.cells #[.int .u64 (lim a 0), .int .u64 (lim a 1), .int .u64 (lim a 2), .int .u64 (lim a 3)] 28)).alloc (by simp) (.cells #[.int .u64 (lim b 0), .int .u64 (lim b 1), .int .u64 (lim b 2), .int .u64 (lim b 3)] 28)
  rw [World.size_alloc] at A2
  unfold wv
  clear ha hb
  go_enter Tryz.func55, Tryz.ntmps55
  go_wp2
  obtain ⟨W0, hW0⟩ : ∃ W0, (w.alloc (.cells #[.int .u64 (lim a 0), .int .u64 (lim a 1), .int .u64 (lim a 2), .int .u64 (lim a 3)] 28)).alloc (.cells #[.int .u64 (lim b 0), .int .u64 (lim b 1), .int .u64 (lim b 2), .int .u64 (lim b 3)] 28) = W0 := ⟨_, rfl⟩
  rw [hW0] at A1 A2 B0 ⊢
  clear hW0
  go_loopw [5] (fun i wr => ∃ (z : Int) (k : Nat), i = .int .i64 z ∧ k ≤ 4 ∧ z = (k : Int) - 1 ∧ cmR a b k = wcmp a b ∧ Arr4 wr w.heap.size 28 (lim a) ∧ Arr4 wr (w.heap.size + 1) 28 (lim b) ∧ Below w.heap.size w wr) (fun i _ => (intOf i + 1).toNat)
  case atStart => exact ⟨3, 4, rfl, by omega, by omega, HC.out, A1, A2, B0⟩
  case round =>
    obtain ⟨z, k, rfl, hk, hz, hc, a1, a2, hB⟩ := hrel
    clear A1 A2 B0 HC
    by_cases hk0 : 0 < k
    · obtain ⟨i, rfl⟩ : ∃ i, k = i + 1 := ⟨k - 1, by omega⟩
      obtain rfl : z = (i : Int) := by omega
      have hi4 : i < 4 := by omega
      have hi0 : (0 : Int) ≤ (i : Int) := by omega
      have hiI : (i : Int) < 4 := by omega
      have hst : cmpO (cmR a b i) (lim a i) (lim b i) = wcmp a b := hc
      have HA1 := Lib.hid a1
      have HA2 := Lib.hid a2
      have HB := Lib.hid hB
      have HI := Lib.hid hi4
      have ca := a1.cell hi4
      have cb := a2.cell hi4
      have e1 : ∀ x : Ext wr, x.w.cell? ⟨w.heap.size, i, none⟩ = some (.int .u64 (lim a i)) := fun x => (HA1.out.later' x.below).cell HI.out
      have e2 : ∀ x : Ext wr, x.w.cell? ⟨w.heap.size + 1, i, none⟩ = some (.int .u64 (lim b i)) := fun x => (HA2.out.later' x.below).cell HI.out
      clear hk hz hk0 hc a1 a2 hB hi4 ca cb
      generalize lim a i = x at *
      generalize lim b i = y at *
      generalize hrr : cmR a b i = r at *
      have HRR := Lib.hid hrr
      clear hrr
      by_cases h1 : x < y
      · have hw : wcmp a b = -1 := by rw [← hst]; unfold cmpO; rw [if_pos h1]
        have HW := Lib.hid hw
        clear hst hw
        go_wp2
        refine wp_region_quietR (C := Grows wr) (by kernel_rfl) (by kernel_rfl) (grows_refl wr) ?_
        repeat (go_big_quiet_step (fail))
        refine wpQuiet_nil ?_
        rintro _ ⟨xx, rfl⟩
        go_wp2
        go_ret
        exact ⟨by rw [HW.out]; rfl, HB.out.trans (xx.below.mono HB.out.size)⟩
      · by_cases h2 : y < x
        · have hw : wcmp a b = 1 := by rw [← hst]; unfold cmpO; rw [if_neg h1, if_pos h2]
          have HW := Lib.hid hw
          clear hst hw
          go_wp2
          refine wp_region_quietR (C := Grows wr) (by kernel_rfl) (by kernel_rfl) (grows_refl wr) ?_
          repeat (go_big_quiet_step (fail))
          refine wpQuiet_nil ?_
          rintro _ ⟨xx, rfl⟩
          have hB1 := HB.out.trans (xx.below.mono HB.out.size)
          have e3 : ∀ x' : Ext xx.w, x'.w.cell? ⟨w.heap.size, i, none⟩ = some (.int .u64 x) := fun x' => (x'.cell (p := ⟨_, i, none⟩) (HA1.out.later' xx.below).lt).trans (e1 xx)
          have e4 : ∀ x' : Ext xx.w, x'.w.cell? ⟨w.heap.size + 1, i, none⟩ = some (.int .u64 y) := fun x' => (x'.cell (p := ⟨_, i, none⟩) (HA2.out.later' xx.below).lt).trans (e2 xx)
          have HB1 := Lib.hid hB1
          clear e1 e2 hB1
          generalize xx.w = w5 at *
          go_wp2
          refine wp_region_quietR (C := Grows w5) (by kernel_rfl) (by kernel_rfl) (grows_refl w5) ?_
          repeat (go_big_quiet_step (fail))
          refine wpQuiet_nil ?_
          rintro _ ⟨xy, rfl⟩
          go_wp2
          go_ret
          exact ⟨by rw [HW.out]; rfl, HB1.out.trans (xy.below.mono HB1.out.size)⟩
        · have hw : r = wcmp a b := by rw [← hst]; unfold cmpO; rw [if_neg h1, if_neg h2]
          have HW := Lib.hid (HRR.out.trans hw)
          clear hst hw
          go_wp2
          refine wp_region_quietR (C := Grows wr) (by kernel_rfl) (by kernel_rfl) (grows_refl wr) ?_
          repeat (go_big_quiet_step (fail))
          refine wpQuiet_nil ?_
          rintro _ ⟨xx, rfl⟩
          have hB1 := HB.out.trans (xx.below.mono HB.out.size)
          have N1 := HA1.out.later' xx.below
          have N2 := HA2.out.later' xx.below
          have e3 : ∀ x' : Ext xx.w, x'.w.cell? ⟨w.heap.size, i, none⟩ = some (.int .u64 x) := fun x' => (x'.cell (p := ⟨_, i, none⟩) N1.lt).trans (e1 xx)
          have e4 : ∀ x' : Ext xx.w, x'.w.cell? ⟨w.heap.size + 1, i, none⟩ = some (.int .u64 y) := fun x' => (x'.cell (p := ⟨_, i, none⟩) N2.lt).trans (e2 xx)
          have HB1 := Lib.hid hB1
          have HN1 := Lib.hid N1
          have HN2 := Lib.hid N2
          clear e1 e2 hB1 N1 N2
          generalize xx.w = w5 at *
          go_wp2
          refine wp_region_quietR (C := Grows w5) (by kernel_rfl) (by kernel_rfl) (grows_refl w5) ?_
          repeat (go_big_quiet_step (fail))
          refine wpQuiet_nil ?_
          rintro _ ⟨xy, rfl⟩
          have N5 := Lib.hid (HN1.out.later' xy.below)
          have N6 := Lib.hid (HN2.out.later' xy.below)
          have N7 := Lib.hid (HB1.out.trans (xy.below.mono HB1.out.size))
          go_wp2
          go_roundw
          case rel => exact ⟨(i : Int) - 1, i, by simp, by have := HI.out; omega, rfl, HW.out, N5.out, N6.out, N7.out⟩
          case measure => first | (simp [intOf]; done) | (simp [intOf]; omega)
    · obtain rfl : k = 0 := by omega
      obtain rfl : z = -1 := by omega
      have hw : wcmp a b = 0 := hc.symm
      have HW := Lib.hid hw
      have HB := Lib.hid hB
      clear hk hz hk0 hc a1 a2 hB hw
      go_wp2
      go_ret
      exact ⟨by rw [HW.out]; rfl, HB.out⟩
end Go.Proofs.YtadfkiebblmfkaaGreatDoor
