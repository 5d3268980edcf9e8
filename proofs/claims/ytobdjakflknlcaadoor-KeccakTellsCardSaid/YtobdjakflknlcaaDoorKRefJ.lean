/- A lane's eight bytes as one number. -/
import Derived.Test.YtobdjakflknlcaaDoorKRefI
import Derived.Test.YtobdjakflknlcaaDoorKecR
namespace Go.Proofs.YtobdjakflknlcaaDoor

/-- The number of so many of a lane's bytes, the highest ones first. -/
def wdK (D : Nat → Nat) (i : Nat) : Nat → Nat
  | 0 => 0
  | c + 1 => 256 * wdK D i c + D (8 * i + (7 - c))
theorem wdK_lt (D : Nat → Nat) (hD : ∀ j, D j < 256) (i : Nat) : ∀ c, wdK D i c < 256 ^ c
  | 0 => by show 0 < 256 ^ 0; decide
  | c + 1 => by
    have h := wdK_lt D hD i c
    have h2 := hD (8 * i + (7 - c))
    rw [Nat.pow_succ]
    show 256 * wdK D i c + D (8 * i + (7 - c)) < 256 ^ c * 256
    omega
theorem xr_add (D : Nat → Nat) (hD : ∀ j, D j < 256) (i t : Nat) (h : xr (fun _ => 0) D i t < 2 ^ (8 * t)) : xr (fun _ => 0) D i (t + 1) = xr (fun _ => 0) D i t + D (8 * i + t) * 2 ^ (8 * t) ∧ xr (fun _ => 0) D i (t + 1) < 2 ^ (8 * (t + 1)) := by
  have e : xr (fun _ => 0) D i (t + 1) = xr (fun _ => 0) D i t + D (8 * i + t) * 2 ^ (8 * t) := by
    show xr (fun _ => 0) D i t ^^^ (D (8 * i + t) * 2 ^ (8 * t)) = _
    have h2 := Nat.two_pow_add_eq_or_of_lt h (D (8 * i + t))
    generalize D (8 * i + t) = d at *
    generalize xr (fun _ => 0) D i t = s at *
    rw [Nat.mul_comm d, Nat.add_comm s, h2]
    refine Nat.eq_of_testBit_eq fun z => ?_
    rw [Nat.testBit_or, Nat.testBit_xor, Nat.testBit_two_pow_mul]
    by_cases hz : 8 * t ≤ z
    · rw [Nat.testBit_lt_two_pow (Nat.lt_of_lt_of_le h (Nat.pow_le_pow_right (by omega) hz))]
      simp
    · rw [decide_eq_false hz, Bool.false_and, Bool.false_or, Bool.xor_false]
  refine ⟨e, ?_⟩
  rw [e, show 8 * (t + 1) = 8 + 8 * t by omega, Nat.pow_add]
  have := hD (8 * i + t)
  have h3 : (D (8 * i + t) + 1) * 2 ^ (8 * t) ≤ 2 ^ 8 * 2 ^ (8 * t) := Nat.mul_le_mul_right _ (by omega)
  rw [Nat.add_mul, Nat.one_mul] at h3
  omega
theorem xr_word (D : Nat → Nat) (hD : ∀ j, D j < 256) (i : Nat) : xr (fun _ => 0) D i 8 = wdK D i 8 := by
  obtain ⟨e0, h0⟩ := xr_add D hD i 0 (by show 0 < 2 ^ (8 * 0); decide)
  obtain ⟨e1, h1⟩ := xr_add D hD i 1 h0
  obtain ⟨e2, h2⟩ := xr_add D hD i 2 h1
  obtain ⟨e3, h3⟩ := xr_add D hD i 3 h2
  obtain ⟨e4, h4⟩ := xr_add D hD i 4 h3
  obtain ⟨e5, h5⟩ := xr_add D hD i 5 h4
  obtain ⟨e6, h6⟩ := xr_add D hD i 6 h5
  obtain ⟨e7, h7⟩ := xr_add D hD i 7 h6
  have z : xr (fun _ => 0) D i 0 = 0 := rfl
  rw [e7, e6, e5, e4, e3, e2, e1, e0, z]
  simp [wdK]
  omega
theorem xr_from (A D : Nat → Nat) (i : Nat) : ∀ t, xr A D i t = A i ^^^ xr (fun _ => 0) D i t
  | 0 => by show A i = A i ^^^ 0; rw [Nat.xor_zero]
  | t + 1 => by
    show xr A D i t ^^^ _ = A i ^^^ (xr (fun _ => 0) D i t ^^^ _)
    rw [xr_from A D i t, Nat.xor_assoc]
/-- Lanes to the first i of which their bytes are added. -/
def xoN (A D : Nat → Nat) (i j : Nat) : Nat := if j < i then A j ^^^ wdK D j 8 else A j
theorem xoN_all (A D : Nat → Nat) (hD : ∀ j, D j < 256) (j : Nat) : xoN A D 17 j = absN A D 136 j := by
  unfold xoN
  rw [absN_all, xr_from, xr_word D hD]
theorem xoN_set (A D : Nat → Nat) (i : Nat) : ∀ j, j < 25 → xoN A D (i + 1) j = if j = i then A i ^^^ wdK D i 8 else xoN A D i j := fun j _ => by
  unfold xoN
  by_cases e : j = i
  · rw [if_pos e, if_pos (by omega), e]
  · rw [if_neg e]
    by_cases h : j < i
    · rw [if_pos (by omega), if_pos h]
    · rw [if_neg (by omega), if_neg h]
end Go.Proofs.YtobdjakflknlcaaDoor
