import Derived.Test.YtadfkiebblmfkaaGreatDoorS06
import Derived.Laws.Bits64
import Derived.Laws.Bits64b
/- Keccak's rounds over lanes as numbers: as functions, and as lists to reckon with. -/
namespace Go.Proofs.YtadfkiebblmfkaaGreatDoor

/-- A lane turned. -/
def rotl (x s : Nat) : Nat := x * 2 ^ s % 2 ^ 64 ||| x / 2 ^ (64 - s)
theorem rotl_lt (x s : Nat) (hx : x < 2 ^ 64) : rotl x s < 2 ^ 64 :=
  Nat.or_lt_two_pow (Nat.mod_lt _ (by decide)) (Nat.lt_of_le_of_lt (Nat.div_le_self _ _) hx)
theorem rotl_bit (x s i : Nat) (hx : x < 2 ^ 64) (hs : s < 64) (hi : i < 64) : (rotl x s).testBit i = x.testBit ((i + (64 - s)) % 64) := by
  unfold rotl
  rw [Nat.testBit_or, Nat.testBit_mod_two_pow, Nat.testBit_div_two_pow, decide_eq_true hi, Bool.true_and, Nat.mul_comm, Nat.testBit_two_pow_mul]
  by_cases h : s ≤ i
  · rw [decide_eq_true h, Bool.true_and, show (i + (64 - s)) % 64 = i - s by omega]
    rw [Nat.testBit_lt_two_pow (x := x) (i := i + (64 - s)) (Nat.lt_of_lt_of_le hx (Nat.pow_le_pow_right (by omega) (by omega)))]
    simp
  · rw [decide_eq_false h, Bool.false_and, Bool.false_or, Nat.mod_eq_of_lt (by omega)]
/-- The sums of the columns behind k places. -/
def colK (A : Nat → Nat) : Nat → Nat → Nat
  | 0, _ => 0
  | k + 1, j => if j = k % 5 then colK A k j ^^^ A k else colK A k j
theorem colK_lt (A : Nat → Nat) (hA : ∀ j, A j < 2 ^ 64) : ∀ k j, colK A k j < 2 ^ 64
  | 0, _ => by simp [colK]
  | k + 1, j => by
    unfold colK
    split
    · exact Nat.xor_lt_two_pow (colK_lt A hA k j) (hA k)
    · exact colK_lt A hA k j
def thetaN (A : Nat → Nat) (j : Nat) : Nat := A j ^^^ (colK A 25 ((j % 5 + 4) % 5) ^^^ rotl (colK A 25 ((j % 5 + 1) % 5)) 1)
theorem thetaN_lt (A : Nat → Nat) (hA : ∀ j, A j < 2 ^ 64) (j : Nat) : thetaN A j < 2 ^ 64 :=
  Nat.xor_lt_two_pow (hA j) (Nat.xor_lt_two_pow (colK_lt A hA _ _) (rotl_lt _ _ (colK_lt A hA _ _)))
/-- Where the walk is behind t steps. -/
def wx : Nat → Nat × Nat
  | 0 => (1, 0)
  | t + 1 => ((wx t).2, (2 * (wx t).1 + 3 * (wx t).2) % 5)
theorem wx_lt : ∀ t, (wx t).1 < 5 ∧ (wx t).2 < 5
  | 0 => by decide
  | t + 1 => ⟨(wx_lt t).2, Nat.mod_lt _ (by omega)⟩
def wl (t : Nat) : Nat := 5 * (wx t).2 + (wx t).1
def turnK (A : Nat → Nat) : Nat → Nat → Nat
  | 0, j => if j = 0 then A 0 else 0
  | k + 1, j => if j = wl (k + 1) then rotl (A (wl k)) ((k + 1) * (k + 2) / 2 % 64) else turnK A k j
theorem turnK_lt (A : Nat → Nat) (hA : ∀ j, A j < 2 ^ 64) : ∀ k j, turnK A k j < 2 ^ 64
  | 0, j => by unfold turnK; split; exact hA 0; decide
  | k + 1, j => by unfold turnK; split; exact rotl_lt _ _ (hA _); exact turnK_lt A hA k j
def mixN (A : Nat → Nat) (j : Nat) : Nat := A j ^^^ (A (5 * (j / 5) + (j % 5 + 2) % 5) &&& (18446744073709551615 ^^^ A (5 * (j / 5) + (j % 5 + 1) % 5)))
theorem mixN_lt (A : Nat → Nat) (hA : ∀ j, A j < 2 ^ 64) (j : Nat) : mixN A j < 2 ^ 64 :=
  Nat.xor_lt_two_pow (hA j) (Nat.and_lt_two_pow _ (Nat.xor_lt_two_pow (by decide) (hA _)))
def rcL : List Nat := [0x0000000000000001, 0x0000000000008082, 0x800000000000808a, 0x8000000080008000,
  0x000000000000808b, 0x0000000080000001, 0x8000000080008081, 0x8000000000008009,
  0x000000000000008a, 0x0000000000000088, 0x0000000080008009, 0x000000008000000a,
  0x000000008000808b, 0x800000000000008b, 0x8000000000008089, 0x8000000000008003,
  0x8000000000008002, 0x8000000000000080, 0x000000000000800a, 0x800000008000000a,
  0x8000000080008081, 0x8000000000008080, 0x0000000080000001, 0x8000000080008008]
def rndN (A : Nat → Nat) (c : Nat) (j : Nat) : Nat := if j = 0 then mixN (turnK (thetaN A) 24) 0 ^^^ c else mixN (turnK (thetaN A) 24) j
def permK (A : Nat → Nat) (k : Nat) : Nat → Nat := (rcL.take k).foldl rndN A
def permN (A : Nat → Nat) : Nat → Nat := permK A 24

/-! ### The same over lists, to reckon with -/
def l25 (A : Nat → Nat) : List Nat := (List.range 25).map A
def ofL (l : List Nat) (j : Nat) : Nat := l.getD j 0
def rot1 (x : Nat) (s : Nat) : Nat := Nat.lor (Nat.mod (Nat.mul x (Nat.pow 2 s)) (Nat.pow 2 64)) (Nat.div x (Nat.pow 2 (Nat.sub 64 s)))
theorem l25_eq (A : Nat → Nat) : l25 A = [A 0, A 1, A 2, A 3, A 4, A 5, A 6, A 7, A 8, A 9, A 10, A 11, A 12, A 13, A 14, A 15, A 16, A 17, A 18, A 19, A 20, A 21, A 22, A 23, A 24] := rfl
theorem col_0 (A : Nat → Nat) : colK A 25 0 = A 0 ^^^ A 5 ^^^ A 10 ^^^ A 15 ^^^ A 20 := by simp [colK]
theorem col_1 (A : Nat → Nat) : colK A 25 1 = A 1 ^^^ A 6 ^^^ A 11 ^^^ A 16 ^^^ A 21 := by simp [colK]
theorem col_2 (A : Nat → Nat) : colK A 25 2 = A 2 ^^^ A 7 ^^^ A 12 ^^^ A 17 ^^^ A 22 := by simp [colK]
theorem col_3 (A : Nat → Nat) : colK A 25 3 = A 3 ^^^ A 8 ^^^ A 13 ^^^ A 18 ^^^ A 23 := by simp [colK]
theorem col_4 (A : Nat → Nat) : colK A 25 4 = A 4 ^^^ A 9 ^^^ A 14 ^^^ A 19 ^^^ A 24 := by simp [colK]
theorem turn_0 (A : Nat → Nat) : turnK A 24 0 = A 0 := by simp [turnK, wl, wx]
theorem turn_1 (A : Nat → Nat) : turnK A 24 1 = rotl (A 6) 44 := by simp [turnK, wl, wx]
theorem turn_2 (A : Nat → Nat) : turnK A 24 2 = rotl (A 12) 43 := by simp [turnK, wl, wx]
theorem turn_3 (A : Nat → Nat) : turnK A 24 3 = rotl (A 18) 21 := by simp [turnK, wl, wx]
theorem turn_4 (A : Nat → Nat) : turnK A 24 4 = rotl (A 24) 14 := by simp [turnK, wl, wx]
theorem turn_5 (A : Nat → Nat) : turnK A 24 5 = rotl (A 3) 28 := by simp [turnK, wl, wx]
theorem turn_6 (A : Nat → Nat) : turnK A 24 6 = rotl (A 9) 20 := by simp [turnK, wl, wx]
theorem turn_7 (A : Nat → Nat) : turnK A 24 7 = rotl (A 10) 3 := by simp [turnK, wl, wx]
theorem turn_8 (A : Nat → Nat) : turnK A 24 8 = rotl (A 16) 45 := by simp [turnK, wl, wx]
theorem turn_9 (A : Nat → Nat) : turnK A 24 9 = rotl (A 22) 61 := by simp [turnK, wl, wx]
theorem turn_10 (A : Nat → Nat) : turnK A 24 10 = rotl (A 1) 1 := by simp [turnK, wl, wx]
theorem turn_11 (A : Nat → Nat) : turnK A 24 11 = rotl (A 7) 6 := by simp [turnK, wl, wx]
theorem turn_12 (A : Nat → Nat) : turnK A 24 12 = rotl (A 13) 25 := by simp [turnK, wl, wx]
theorem turn_13 (A : Nat → Nat) : turnK A 24 13 = rotl (A 19) 8 := by simp [turnK, wl, wx]
theorem turn_14 (A : Nat → Nat) : turnK A 24 14 = rotl (A 20) 18 := by simp [turnK, wl, wx]
theorem turn_15 (A : Nat → Nat) : turnK A 24 15 = rotl (A 4) 27 := by simp [turnK, wl, wx]
theorem turn_16 (A : Nat → Nat) : turnK A 24 16 = rotl (A 5) 36 := by simp [turnK, wl, wx]
theorem turn_17 (A : Nat → Nat) : turnK A 24 17 = rotl (A 11) 10 := by simp [turnK, wl, wx]
theorem turn_18 (A : Nat → Nat) : turnK A 24 18 = rotl (A 17) 15 := by simp [turnK, wl, wx]
theorem turn_19 (A : Nat → Nat) : turnK A 24 19 = rotl (A 23) 56 := by simp [turnK, wl, wx]
theorem turn_20 (A : Nat → Nat) : turnK A 24 20 = rotl (A 2) 62 := by simp [turnK, wl, wx]
theorem turn_21 (A : Nat → Nat) : turnK A 24 21 = rotl (A 8) 55 := by simp [turnK, wl, wx]
theorem turn_22 (A : Nat → Nat) : turnK A 24 22 = rotl (A 14) 39 := by simp [turnK, wl, wx]
theorem turn_23 (A : Nat → Nat) : turnK A 24 23 = rotl (A 15) 41 := by simp [turnK, wl, wx]
theorem turn_24 (A : Nat → Nat) : turnK A 24 24 = rotl (A 21) 2 := by simp [turnK, wl, wx]
def thL (l : List Nat) : List Nat :=
  match l with
  | [a0,a1,a2,a3,a4,a5,a6,a7,a8,a9,a10,a11,a12,a13,a14,a15,a16,a17,a18,a19,a20,a21,a22,a23,a24] =>
    let c0 := Nat.xor (Nat.xor (Nat.xor (Nat.xor a0 a5) a10) a15) a20
    let c1 := Nat.xor (Nat.xor (Nat.xor (Nat.xor a1 a6) a11) a16) a21
    let c2 := Nat.xor (Nat.xor (Nat.xor (Nat.xor a2 a7) a12) a17) a22
    let c3 := Nat.xor (Nat.xor (Nat.xor (Nat.xor a3 a8) a13) a18) a23
    let c4 := Nat.xor (Nat.xor (Nat.xor (Nat.xor a4 a9) a14) a19) a24
    let d0 := Nat.xor c4 (rot1 c1 1)
    let d1 := Nat.xor c0 (rot1 c2 1)
    let d2 := Nat.xor c1 (rot1 c3 1)
    let d3 := Nat.xor c2 (rot1 c4 1)
    let d4 := Nat.xor c3 (rot1 c0 1)
    [Nat.xor a0 d0, Nat.xor a1 d1, Nat.xor a2 d2, Nat.xor a3 d3, Nat.xor a4 d4, Nat.xor a5 d0, Nat.xor a6 d1, Nat.xor a7 d2, Nat.xor a8 d3, Nat.xor a9 d4, Nat.xor a10 d0, Nat.xor a11 d1, Nat.xor a12 d2, Nat.xor a13 d3, Nat.xor a14 d4, Nat.xor a15 d0, Nat.xor a16 d1, Nat.xor a17 d2, Nat.xor a18 d3, Nat.xor a19 d4, Nat.xor a20 d0, Nat.xor a21 d1, Nat.xor a22 d2, Nat.xor a23 d3, Nat.xor a24 d4]
  | _ => []
def tuL (l : List Nat) : List Nat :=
  match l with
  | [a0,a1,a2,a3,a4,a5,a6,a7,a8,a9,a10,a11,a12,a13,a14,a15,a16,a17,a18,a19,a20,a21,a22,a23,a24] =>
    [a0, rot1 a6 44, rot1 a12 43, rot1 a18 21, rot1 a24 14, rot1 a3 28, rot1 a9 20, rot1 a10 3, rot1 a16 45, rot1 a22 61, rot1 a1 1, rot1 a7 6, rot1 a13 25, rot1 a19 8, rot1 a20 18, rot1 a4 27, rot1 a5 36, rot1 a11 10, rot1 a17 15, rot1 a23 56, rot1 a2 62, rot1 a8 55, rot1 a14 39, rot1 a15 41, rot1 a21 2]
  | _ => []
def miL (l : List Nat) (c : Nat) : List Nat :=
  match l with
  | [a0,a1,a2,a3,a4,a5,a6,a7,a8,a9,a10,a11,a12,a13,a14,a15,a16,a17,a18,a19,a20,a21,a22,a23,a24] =>
    [Nat.xor (Nat.xor a0 (Nat.land a2 (Nat.xor 18446744073709551615 a1))) c, Nat.xor a1 (Nat.land a3 (Nat.xor 18446744073709551615 a2)), Nat.xor a2 (Nat.land a4 (Nat.xor 18446744073709551615 a3)), Nat.xor a3 (Nat.land a0 (Nat.xor 18446744073709551615 a4)), Nat.xor a4 (Nat.land a1 (Nat.xor 18446744073709551615 a0)), Nat.xor a5 (Nat.land a7 (Nat.xor 18446744073709551615 a6)), Nat.xor a6 (Nat.land a8 (Nat.xor 18446744073709551615 a7)), Nat.xor a7 (Nat.land a9 (Nat.xor 18446744073709551615 a8)), Nat.xor a8 (Nat.land a5 (Nat.xor 18446744073709551615 a9)), Nat.xor a9 (Nat.land a6 (Nat.xor 18446744073709551615 a5)), Nat.xor a10 (Nat.land a12 (Nat.xor 18446744073709551615 a11)), Nat.xor a11 (Nat.land a13 (Nat.xor 18446744073709551615 a12)), Nat.xor a12 (Nat.land a14 (Nat.xor 18446744073709551615 a13)), Nat.xor a13 (Nat.land a10 (Nat.xor 18446744073709551615 a14)), Nat.xor a14 (Nat.land a11 (Nat.xor 18446744073709551615 a10)), Nat.xor a15 (Nat.land a17 (Nat.xor 18446744073709551615 a16)), Nat.xor a16 (Nat.land a18 (Nat.xor 18446744073709551615 a17)), Nat.xor a17 (Nat.land a19 (Nat.xor 18446744073709551615 a18)), Nat.xor a18 (Nat.land a15 (Nat.xor 18446744073709551615 a19)), Nat.xor a19 (Nat.land a16 (Nat.xor 18446744073709551615 a15)), Nat.xor a20 (Nat.land a22 (Nat.xor 18446744073709551615 a21)), Nat.xor a21 (Nat.land a23 (Nat.xor 18446744073709551615 a22)), Nat.xor a22 (Nat.land a24 (Nat.xor 18446744073709551615 a23)), Nat.xor a23 (Nat.land a20 (Nat.xor 18446744073709551615 a24)), Nat.xor a24 (Nat.land a21 (Nat.xor 18446744073709551615 a20))]
  | _ => []
theorem rot1_eq (x s : Nat) : rot1 x s = rotl x s := rfl
theorem thL_eq (A : Nat → Nat) : thL (l25 A) = l25 (thetaN A) := by
  rw [l25_eq, l25_eq]
  simp only [thL, thetaN, rot1_eq, col_0, col_1, col_2, col_3, col_4, Nat.reduceMod, Nat.reduceAdd]
  rfl
theorem tuL_eq (A : Nat → Nat) : tuL (l25 A) = l25 (turnK A 24) := by
  rw [l25_eq, l25_eq]
  simp only [tuL, rot1_eq, turn_0, turn_1, turn_2, turn_3, turn_4, turn_5, turn_6, turn_7, turn_8, turn_9, turn_10, turn_11, turn_12, turn_13, turn_14, turn_15, turn_16, turn_17, turn_18, turn_19, turn_20, turn_21, turn_22, turn_23, turn_24]
theorem miL_eq (A : Nat → Nat) (c : Nat) : miL (l25 A) c = l25 (fun j => if j = 0 then mixN A 0 ^^^ c else mixN A j) := by
  rw [l25_eq, l25_eq]
  rfl
def roundL (l : List Nat) (c : Nat) : List Nat := miL (tuL (thL l)) c
theorem roundL_eq (A : Nat → Nat) (c : Nat) : roundL (l25 A) c = l25 (rndN A c) := by
  unfold roundL
  rw [thL_eq, tuL_eq, miL_eq]
  rfl
def permL (l : List Nat) : List Nat := rcL.foldl roundL l
theorem foldL_eq (A : Nat → Nat) : ∀ cs : List Nat, cs.foldl roundL (l25 A) = l25 (cs.foldl rndN A) := by
  intro cs
  induction cs generalizing A with
  | nil => rfl
  | cons c r ih => rw [List.foldl_cons, List.foldl_cons, roundL_eq, ih]
theorem permL_eq (A : Nat → Nat) : permL (l25 A) = l25 (permN A) := foldL_eq A rcL
theorem t0 : Nat.beq ((permL (List.replicate 25 0)).getD 0 0) 0xf1258f7940e1dde7 = true := by decide +kernel
end Go.Proofs.YtadfkiebblmfkaaGreatDoor

/- Lanes in blocks, and the small functions of package keccak: lane, beside, next, RotateLeft64. -/
namespace Go.Proofs.YtadfkiebblmfkaaGreatDoor
open Go Go.RowKit
attribute [local go_sem] Oper.semAt_some Grows wide_fn

/-- Numbers of 64 bits, as cells. -/
def luC (n : Nat) (A : Nat → Nat) : Array Value := ((List.range n).map fun i => Value.int .u64 ((A i : Nat) : Int)).toArray
theorem luC_size (n : Nat) (A : Nat → Nat) : (luC n A).size = n := by simp [luC]
theorem luC_get (n : Nat) (A : Nat → Nat) (j : Nat) (h : j < n) : (luC n A)[j]? = some (.int .u64 ((A j : Nat) : Int)) := by simp [luC, h]
theorem luC_congr (n : Nat) (A B : Nat → Nat) (h : ∀ j, j < n → A j = B j) : luC n A = luC n B := by
  unfold luC
  congr 1
  refine List.map_congr_left (fun i hi => ?_)
  rw [h i (List.mem_range.1 hi)]
theorem luC_set (n : Nat) (A B : Nat → Nat) (k v : Nat) (hB : ∀ j, j < n → B j = if j = k then v else A j) : (luC n A).setIfInBounds k (.int .u64 ((v : Nat) : Int)) = luC n B := by
  refine Array.ext (by simp [luC]) (fun i h1 h2 => ?_)
  have hi : i < n := by simpa [luC] using h2
  rw [Array.getElem_setIfInBounds (by simpa [luC] using hi)]
  simp only [luC, List.getElem_toArray, List.getElem_map, List.getElem_range]
  rw [hB i hi]
  by_cases e : k = i
  · rw [if_pos e, if_pos e.symm]
  · rw [if_neg e, if_neg (fun h => e h.symm)]

theorem lane_ret (x y : Int) (hx : 0 ≤ x ∧ x < 5) (hy : 0 ≤ y ∧ y < 5) : Ret Tryz.prog 133 #[.agg #[.int .u64 x, .int .u64 y]] (.int .u64 (5 * y + x)) := by
  intro w
  obtain ⟨x0, x1⟩ := hx
  obtain ⟨y0, y1⟩ := hy
  have L := Has.new w 164 #[.int .u64 x, .int .u64 y]
  have Q := (Below.refl w.heap.size w).alloc (Nat.le_refl _) (.cells #[.int .u64 x, .int .u64 y] 164)
  have k0 := L.cell 0 _ rfl
  have k1 := L.cell 1 _ rfl
  clear L
  go_enter Tryz.func133, Tryz.ntmps133
  go_wp2
  go_ret
  exact ⟨rfl, Q⟩

theorem results_place {fn : Func} {t : Tmp} {tmps : Array Value} {W : World} {B : Nat} {x y : Int} (h : fn.results = #[ResultVar.cell t 164]) (ht : tmps.getD t undef = .pointer (some ⟨B, 0, none⟩)) (hA : Has W B 164 #[.int .u64 x, .int .u64 y]) :
    (results fn tmps).run Tryz.prog W = .ok (.agg #[.int .u64 x, .int .u64 y]) W := by
  have e0 := hA.cell 0 _ rfl
  have e1 := hA.cell 1 _ rfl
  simp at ht
  simp [results, h, ht, go_sem, e0, e1]

theorem next_ret (x y : Int) (hx : 0 ≤ x ∧ x < 5) (hy : 0 ≤ y ∧ y < 5) : Ret Tryz.prog 137 #[.agg #[.int .u64 x, .int .u64 y]] (.agg #[.int .u64 y, .int .u64 ((2 * x + 3 * y) % 5)]) := by
  intro w
  obtain ⟨x0, x1⟩ := hx
  obtain ⟨y0, y1⟩ := hy
  have e := Int.tmod_eq_emod_of_nonneg (show 0 ≤ 2 * x + 3 * y by omega) (b := 5)
  have h0 := Int.emod_nonneg (2 * x + 3 * y) (show (5 : Int) ≠ 0 by omega)
  have h1 := Int.emod_lt_of_pos (2 * x + 3 * y) (show (0 : Int) < 5 by omega)
  have L := (Has.new w 164 #[.int .u64 x, .int .u64 y]).alloc (.cells #[.int .u64 0, .int .u64 0] 164)
  have R := Has.new (w.alloc (.cells #[.int .u64 x, .int .u64 y] 164)) 164 #[.int .u64 0, .int .u64 0]
  have R2 := Has.new (w.alloc (.cells #[.int .u64 x, .int .u64 y] 164)) 164 #[.int .u64 y, .int .u64 ((2 * x + 3 * y) % 5)]
  simp only [World.size_alloc] at R R2
  have HR := Lib.hid R2
  have HQ := Lib.hid (((Below.refl w.heap.size w).alloc (Nat.le_refl _) (.cells #[.int .u64 x, .int .u64 y] 164)).alloc (by simp) (.cells #[.int .u64 y, .int .u64 ((2 * x + 3 * y) % 5)] 164))
  have k0 := L.cell 0 _ rfl
  have k1 := L.cell 1 _ rfl
  have r0 := R.cell 0 _ rfl
  have r1 := R.cell 1 _ rfl
  have z0 := R.frozen 0
  have z1 := R.frozen 1
  clear L R R2
  go_enter Tryz.func137, Tryz.ntmps137
  go_wp2
  refine bodyPost_ret (results_place rfl rfl HR.out) rfl ⟨rfl, HQ.out⟩

def besI (x on : Int) : Int := if x + on < 5 then x + on else x + on - 5
theorem beside_ret (x y on : Int) (hx : 0 ≤ x ∧ x < 5) (ho : 0 ≤ on ∧ on < 5) : Ret Tryz.prog 134 #[.agg #[.int .u64 x, .int .u64 y], .int .u64 on] (.agg #[.int .u64 (besI x on), .int .u64 y]) := by
  intro w
  obtain ⟨x0, x1⟩ := hx
  obtain ⟨o0, o1⟩ := ho
  have L := (Has.new w 164 #[.int .u64 x, .int .u64 y]).alloc (.cells #[.int .u64 0, .int .u64 0] 164)
  have R := Has.new (w.alloc (.cells #[.int .u64 x, .int .u64 y] 164)) 164 #[.int .u64 0, .int .u64 0]
  have R2 := Has.new (w.alloc (.cells #[.int .u64 x, .int .u64 y] 164)) 164 #[.int .u64 (besI x on), .int .u64 y]
  simp only [World.size_alloc] at R R2
  have HR := Lib.hid R2
  have HQ := Lib.hid (((Below.refl w.heap.size w).alloc (Nat.le_refl _) (.cells #[.int .u64 x, .int .u64 y] 164)).alloc (by simp) (.cells #[.int .u64 (besI x on), .int .u64 y] 164))
  have k0 := L.cell 0 _ rfl
  have k1 := L.cell 1 _ rfl
  have r0 := R.cell 0 _ rfl
  have r1 := R.cell 1 _ rfl
  have z0 := R.frozen 0
  have z1 := R.frozen 1
  clear L R R2
  by_cases h : x + on < 5
  · have e : besI x on = x + on := if_pos h
    rw [e] at HR HQ ⊢
    go_enter Tryz.func134, Tryz.ntmps134
    go_wp2
    refine bodyPost_ret (results_place rfl rfl HR.out) rfl ⟨rfl, HQ.out⟩
  · have e : besI x on = x + on - 5 := if_neg h
    rw [e] at HR HQ ⊢
    go_enter Tryz.func134, Tryz.ntmps134
    go_wp2
    refine bodyPost_ret (results_place rfl rfl HR.out) rfl ⟨rfl, HQ.out⟩

theorem rot_walk (x k s : Int) (u v r : Int) (hs : bits .and .u64 k 63 = s) (hs0 : 0 ≤ s ∧ s < 64) (hk : 0 ≤ k ∧ k < 9223372036854775808) (hu : IntKind.u64.wrap (x * 2 ^ s.toNat) = u) (hv : x / 2 ^ (64 - s).toNat = v) (hr : bits .or .u64 u v = r) :
    Ret Tryz.prog 135 #[.int .u64 x, .int .i64 k] (.int .u64 r) := by
  refine Ret.of_same fun w => ?_
  obtain ⟨s0, s1⟩ := hs0
  obtain ⟨k0, k1⟩ := hk
  go_enter Tryz.func135, Tryz.ntmps135
  go_wp2
  go_ret
  exact ⟨rfl, rfl⟩
end Go.Proofs.YtadfkiebblmfkaaGreatDoor

/- The iterator over the places of lanes, and a lane turned. Conditions: none. -/
namespace Go.Proofs.YtadfkiebblmfkaaGreatDoor
open Go Go.RowKit Go.Shelf
attribute [local go_sem] Oper.semAt_some

theorem rot_ret (x k : Nat) (hx : x < 18446744073709551616) (hk : k < 4611686018427387904) : Ret Tryz.prog 135 #[.int .u64 (x : Int), .int .i64 (k : Int)] (.int .u64 ((rotl x (k % 64) : Nat) : Int)) := by
  have hs : bits .and .u64 (k : Int) 63 = ((k % 64 : Nat) : Int) := by
    rw [show (63 : Int) = ((63 : Nat) : Int) from rfl, bits_and_u64_nat k 63 (by omega) (by omega), show (63 : Nat) = 2 ^ 6 - 1 from rfl, Nat.and_two_pow_sub_one_eq_mod]
  have hlt : k % 64 < 64 := Nat.mod_lt _ (by omega)
  unfold rotl
  generalize k % 64 = s at *
  refine rot_walk (x : Int) (k : Int) (s : Int) ((x * 2 ^ s % 2 ^ 64 : Nat) : Int) ((x / 2 ^ (64 - s) : Nat) : Int) _ hs ⟨by omega, by omega⟩ ⟨by omega, by omega⟩ ?_ ?_ ?_
  · rw [IntKind.wrap_u64, Int.toNat_natCast]
    rw [Int.natCast_emod, Int.natCast_mul, Int.natCast_pow]
    rfl
  · rw [show (64 - (s : Int)).toNat = 64 - s by omega]
    rw [Int.natCast_ediv, Int.natCast_pow]
    rfl
  · exact bits_or_u64_nat _ _ (Nat.mod_lt _ (by decide)) (Nat.lt_of_le_of_lt (Nat.div_le_self _ _) hx)

/-- A place, as a value. -/
def plV (k : Nat) : Value := .agg #[.int .u64 ((k % 5 : Nat) : Int), .int .u64 ((k / 5 : Nat) : Int)]

set_option maxRecDepth 100000 in
set_option maxHeartbeats 2000000 in
theorem places_seq (n : Nat) (hn : 1 ≤ n) (Kp : World → World → Prop) (w : World) :
    SeqN Fence.wide n Tryz.prog 132 #[] (fun k => #[plV k]) Kp 25 w := by
  intro l J Jx W hW _ _ hY h0
  refine callsIn_of_wp Tryz.func132 rfl trivial ?_ rfl
  simp only [Tryz.ntmps132, List.size_toArray, List.length_cons, List.length_nil, Nat.reduceAdd, Nat.reduceSub, Array.replicate_succ, Array.replicate_zero, List.push_toArray, List.append_toArray, List.nil_append, List.cons_append]
  gi_wp2
  gi_loopw [4] (fun i wr => ∃ y : Nat, y ≤ 5 ∧ i = .int .u64 y ∧ J (5 * y) wr) (fun i _ => 5 - (intOf i).toNat)
  case atStart => exact ⟨0, Nat.zero_le _, rfl, h0⟩
  case round =>
    obtain ⟨y, hy, rfl, hJs⟩ := hrel
    by_cases hlt : y < 5
    · have hyI : (y : Int) < 5 := by omega
      gi_wp2
      gi_loopw [7] (fun i wr => ∃ x : Nat, x ≤ 5 ∧ i = .int .u64 x ∧ J (5 * y + x) wr) (fun i _ => 5 - (intOf i).toNat)
      case atStart => exact ⟨0, Nat.zero_le _, rfl, hJs⟩
      case round =>
        clear hJs
        obtain ⟨x, hx, rfl, hJs⟩ := hrel
        by_cases hlx : x < 5
        · have hxI : (x : Int) < 5 := by omega
          obtain ⟨fn, tmps, assign, body, hy, hR⟩ := hY (5 * y + x) _ (by omega) hJs
          have hp : plV (5 * y + x) = .agg #[.int .u64 (x : Int), .int .u64 (y : Int)] := by
            unfold plV
            rw [show (5 * y + x) % 5 = x by omega, show (5 * y + x) / 5 = y by omega]
          rw [hp] at hy
          clear hp
          gi_wp2
          refine hR.mono ?_
          rintro e W3 (⟨rfl, hJ3, _⟩ | ⟨rfl, hJx3⟩)
          · gi_wp2
            go_roundw
            case rel => exact ⟨x + 1, by omega, by simp, hJ3⟩
            case measure => simp [intOf]; omega
          · gi_wp2
            refine bodyPost_ret (results_none rfl _ _ _) rfl ?_
            exact ⟨⟨_, rfl⟩, .inr ⟨5 * y + x, by omega, hJx3⟩⟩
        · obtain rfl : x = 5 := by omega
          gi_wp2
          go_roundw
          case rel => exact ⟨y + 1, by omega, by simp, hJs⟩
          case measure => simp [intOf]; omega
    · obtain rfl : y = 5 := by omega
      gi_wp2
      go_end0
      exact ⟨⟨_, rfl⟩, .inl hJs⟩
end Go.Proofs.YtadfkiebblmfkaaGreatDoor
