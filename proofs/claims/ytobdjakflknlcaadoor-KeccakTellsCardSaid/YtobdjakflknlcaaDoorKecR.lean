/- Lanes to which bytes are added, lane by lane. -/
import Derived.Test.YtobdjakflknlcaaDoorKecQ
namespace Go.Proofs.YtobdjakflknlcaaDoor
open Go Go.RowKit Go.Shelf

/-- A lane to which the first t of its bytes are added. -/
def xr (A D : Nat → Nat) (j : Nat) : Nat → Nat
  | 0 => A j
  | t + 1 => xr A D j t ^^^ (D (8 * j + t) * 2 ^ (8 * t))
theorem absN_xr (A D : Nat → Nat) (j : Nat) : ∀ k, absN A D k j = xr A D j (min (k - 8 * j) 8)
  | 0 => by rw [Nat.zero_sub]; rfl
  | k + 1 => by
    show (if j = k / 8 then absN A D k j ^^^ (D k * 2 ^ (8 * (k % 8))) else absN A D k j) = _
    rw [absN_xr A D j k]
    by_cases h : j = k / 8
    · rw [if_pos h, show min (k - 8 * j) 8 = k % 8 by omega, show min (k + 1 - 8 * j) 8 = k % 8 + 1 by omega]
      show _ = xr A D j (k % 8) ^^^ (D (8 * j + k % 8) * 2 ^ (8 * (k % 8)))
      rw [show 8 * j + k % 8 = k by omega]
    · rw [if_neg h]
      congr 1
      omega
theorem absN_all (A D : Nat → Nat) (j : Nat) : absN A D 136 j = if j < 17 then xr A D j 8 else A j := by
  rw [absN_xr]
  split
  · rw [show min (136 - 8 * j) 8 = 8 by omega]
  · rw [show min (136 - 8 * j) 8 = 0 by omega]; rfl
theorem xr_congr (A B C D : Nat → Nat) (j : Nat) (h : A j = B j) (hj : j < 17) (hd : ∀ i, i < 136 → C i = D i) : ∀ t, t ≤ 8 → xr A C j t = xr B D j t
  | 0, _ => h
  | t + 1, ht => by
    show xr A C j t ^^^ _ = xr B D j t ^^^ _
    rw [xr_congr A B C D j h hj hd t (by omega), hd _ (by omega)]
theorem absN_zero (A D : Nat → Nat) (hd : ∀ i, i < 136 → D i = 0) : absN A D 136 = A := by
  have hz : ∀ j t, j < 17 → t ≤ 8 → xr A D j t = A j := fun j t hj => by
    induction t with
    | zero => intro _; rfl
    | succ t ih =>
      intro ht
      show xr A D j t ^^^ _ = _
      rw [ih (by omega), hd _ (by omega), Nat.zero_mul, Nat.xor_zero]
  funext j
  rw [absN_all]
  split
  · rename_i h; exact hz j 8 h (Nat.le_refl _)
  · rfl
end Go.Proofs.YtobdjakflknlcaaDoor
