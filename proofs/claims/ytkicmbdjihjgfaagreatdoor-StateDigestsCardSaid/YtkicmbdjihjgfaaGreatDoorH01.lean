/- Part. -/
import Derived.Lib.Hide
import Derived.StillTail
import Derived.Deep.Quiet
import Derived.Deep.QuietTactic
import Derived.BigQuiet
import Derived.TacticsIn
import Derived.OrdersIn
import Derived.RangeFuncCalls
import Derived.RangeFuncWrites
import Derived.Below
set_option maxRecDepth 100000
set_option maxHeartbeats 16000000
namespace Go.Proofs.YtkicmbdjihjgfaaGreatDoor
section
def lim (n : Nat) : Nat → Int
 | 0 => ((n % 18446744073709551616 : Nat) : Int)
 | 1 => ((n / 18446744073709551616 % 18446744073709551616 : Nat) : Int)
 | 2 => ((n / 340282366920938463463374607431768211456 % 18446744073709551616 : Nat) : Int)
 | _ => ((n / 6277101735386680763835789423207666416102355444464034512896 % 18446744073709551616 : Nat) : Int)
def U64 (x : Int) : Prop := 0 ≤ x ∧ x < 18446744073709551616
def W256 (n : Nat) : Prop := n < 115792089237316195423570985008687907853269984665640564039457584007913129639936
def num (z : Nat → Int) : Int := z 0 + z 1 * 18446744073709551616 + z 2 * 340282366920938463463374607431768211456 + z 3 * 6277101735386680763835789423207666416102355444464034512896
theorem lim_u64 (n k : Nat) : U64 (lim n k) := by
 unfold U64 lim
 split <;> constructor <;> omega
theorem lim_zero (k : Nat) : lim 0 k = 0 := by unfold lim; split <;> rfl
theorem num_lim (n : Nat) (h : W256 n) : num (lim n) = n := by
 unfold W256 at h
 have e1 : n / 340282366920938463463374607431768211456 = n / 18446744073709551616 / 18446744073709551616 := by rw [Nat.div_div_eq_div_mul]
 have e2 : n / 6277101735386680763835789423207666416102355444464034512896 = n / 18446744073709551616 / 18446744073709551616 / 18446744073709551616 := by rw [Nat.div_div_eq_div_mul, Nat.div_div_eq_div_mul]
 unfold num lim
 rw [e1, e2]
 have h4 : n / 18446744073709551616 / 18446744073709551616 / 18446744073709551616 < 18446744073709551616 := by rw [← e2]; exact Nat.div_lt_of_lt_mul h
 generalize h1 : n / 18446744073709551616 = q1 at *
 generalize h2 : q1 / 18446744073709551616 = q2 at *
 generalize h3 : q2 / 18446744073709551616 = q3 at *
 have k0 : n % 18446744073709551616 + 18446744073709551616 * q1 = n := by rw [← h1]; exact Nat.mod_add_div n _
 have k1 : q1 % 18446744073709551616 + 18446744073709551616 * q2 = q1 := by rw [← h2]; exact Nat.mod_add_div q1 _
 have k2 : q2 % 18446744073709551616 + 18446744073709551616 * q3 = q2 := by rw [← h3]; exact Nat.mod_add_div q2 _
 have k3 : q3 % 18446744073709551616 = q3 := Nat.mod_eq_of_lt h4
 rw [k3]
 generalize n % 18446744073709551616 = r0 at *
 generalize q1 % 18446744073709551616 = r1 at *
 generalize q2 % 18446744073709551616 = r2 at *
 clear h e1 e2 h1 h2 h3 h4 k3
 show (r0 : Int) + (r1 : Int) * 18446744073709551616 + (r2 : Int) * 340282366920938463463374607431768211456 + (q3 : Int) * 6277101735386680763835789423207666416102355444464034512896 = n
 omega
theorem modOf (r q n : Nat) (hr : r < 18446744073709551616) (h : r + 18446744073709551616 * q = n) : n % 18446744073709551616 = r ∧ n / 18446744073709551616 = q := by
 subst h
 exact ⟨by rw [Nat.add_mul_mod_self_left]; exact Nat.mod_eq_of_lt hr, by rw [Nat.add_mul_div_left _ _ (by decide), Nat.div_eq_of_lt hr, Nat.zero_add]⟩
theorem lim_num (z : Nat → Int) (n : Nat) (h0 : U64 (z 0)) (h1 : U64 (z 1)) (h2 : U64 (z 2)) (h3 : U64 (z 3)) (h : num z = n) : lim n 0 = z 0 ∧ lim n 1 = z 1 ∧ lim n 2 = z 2 ∧ lim n 3 = z 3 := by
 obtain ⟨z0, e0⟩ := Int.eq_ofNat_of_zero_le h0.1
 obtain ⟨z1, e1⟩ := Int.eq_ofNat_of_zero_le h1.1
 obtain ⟨z2, e2⟩ := Int.eq_ofNat_of_zero_le h2.1
 obtain ⟨z3, e3⟩ := Int.eq_ofNat_of_zero_le h3.1
 have b0 : z0 < 18446744073709551616 := by have := h0.2; rw [e0] at this; omega
 have b1 : z1 < 18446744073709551616 := by have := h1.2; rw [e1] at this; omega
 have b2 : z2 < 18446744073709551616 := by have := h2.2; rw [e2] at this; omega
 have b3 : z3 < 18446744073709551616 := by have := h3.2; rw [e3] at this; omega
 have hn : z0 + 18446744073709551616 * (z1 + 18446744073709551616 * (z2 + 18446744073709551616 * z3)) = n := by
  unfold num at h; rw [e0, e1, e2, e3] at h; omega
 obtain ⟨m0, d0⟩ := modOf _ _ _ b0 hn
 obtain ⟨m1, d1⟩ := modOf _ _ _ b1 rfl
 obtain ⟨m2, d2⟩ := modOf _ _ _ b2 rfl
 have f1 : n / 340282366920938463463374607431768211456 = n / 18446744073709551616 / 18446744073709551616 := by rw [Nat.div_div_eq_div_mul]
 have f2 : n / 6277101735386680763835789423207666416102355444464034512896 = n / 18446744073709551616 / 18446744073709551616 / 18446744073709551616 := by rw [Nat.div_div_eq_div_mul, Nat.div_div_eq_div_mul]
 simp only [lim]
 rw [f1, f2, d0, d1, d2, m0, m1, m2, Nat.mod_eq_of_lt b3, e0, e1, e2, e3]
 exact ⟨rfl, rfl, rfl, rfl⟩
theorem lim_ext {a b : Nat} (ha : W256 a) (hb : W256 b) (h : ∀ k, k < 4 → lim a k = lim b k) : a = b := by
 have e1 := num_lim a ha
 have e2 := num_lim b hb
 have : num (lim a) = num (lim b) := by unfold num; rw [h 0 (by omega), h 1 (by omega), h 2 (by omega), h 3 (by omega)]
 omega
def cmpO (l : Int) (x y : Int) : Int := if x < y then -1 else if y < x then 1 else l
def cmpN (a b : Nat) (k : Nat) (l : Int) : Int := cmpO l (lim a k) (lim b k)
def wcmp (a b : Nat) : Int := if a < b then -1 else if b < a then 1 else 0
theorem cmp_parts (a b : Nat) (ha : W256 a) (hb : W256 b) : cmpN a b 3 (cmpN a b 2 (cmpN a b 1 (cmpN a b 0 0))) = wcmp a b := by
 have ea := num_lim a ha
 have eb := num_lim b hb
 have a0 := lim_u64 a 0; have a1 := lim_u64 a 1; have a2 := lim_u64 a 2; have a3 := lim_u64 a 3
 have b0 := lim_u64 b 0; have b1 := lim_u64 b 1; have b2 := lim_u64 b 2; have b3 := lim_u64 b 3
 unfold num at *; unfold cmpN cmpO wcmp; unfold U64 at *
 generalize lim a 0 = x0 at *; generalize lim a 1 = x1 at *; generalize lim a 2 = x2 at *; generalize lim a 3 = x3 at *
 generalize lim b 0 = y0 at *; generalize lim b 1 = y1 at *; generalize lim b 2 = y2 at *; generalize lim b 3 = y3 at *
 by_cases h3 : x3 < y3
 ·rw [if_pos h3, if_pos (by omega)]
 ·by_cases h3' : y3 < x3
  ·rw [if_neg h3, if_pos h3', if_neg (by omega), if_pos (by omega)]
  ·obtain rfl : x3 = y3 := by omega
   rw [if_neg h3, if_neg h3]
   by_cases h2 : x2 < y2
   ·rw [if_pos h2, if_pos (by omega)]
   ·by_cases h2' : y2 < x2
    ·rw [if_neg h2, if_pos h2', if_neg (by omega), if_pos (by omega)]
    ·obtain rfl : x2 = y2 := by omega
     rw [if_neg h2, if_neg h2]
     by_cases h1 : x1 < y1
     ·rw [if_pos h1, if_pos (by omega)]
     ·by_cases h1' : y1 < x1
      ·rw [if_neg h1, if_pos h1', if_neg (by omega), if_pos (by omega)]
      ·obtain rfl : x1 = y1 := by omega
       rw [if_neg h1, if_neg h1]
       by_cases h0 : x0 < y0
       ·rw [if_pos h0, if_pos (by omega)]
       ·by_cases h0' : y0 < x0
        ·rw [if_neg h0, if_pos h0', if_neg (by omega), if_pos (by omega)]
        ·rw [if_neg h0, if_neg h0', if_neg (by omega), if_neg (by omega)]
abbrev Sl := Nat × Nat
def Rise (l : List Sl) : Prop := l.Pairwise (fun x y => x.1 < y.1)
def lk : List Sl → Nat → Option Nat
 | [], _ => none
 | x :: r, k => if x.1 = k then some x.2 else lk r k
def look (l : List Sl) (k : Nat) : Nat := (lk l k).getD 0
def Kept (l : List Sl) : Prop := Rise l ∧ ∀ x ∈ l, x.2 ≠ 0
theorem lk_none {l : List Sl} {k : Nat} (h : ∀ x ∈ l, x.1 ≠ k) : lk l k = none := by
 induction l with
 | nil => rfl
 | cons x r ih =>
  rw [lk, if_neg (h x (by simp))]
  exact ih (fun y hy => h y (by simp [hy]))
theorem lk_mem {l : List Sl} {k v : Nat} (h : lk l k = some v) : (k, v) ∈ l := by
 induction l with
 | nil => cases h
 | cons x r ih =>
  rw [lk] at h
  split at h
  ·rename_i e
   injection h with h
   subst e h
   simp
  ·exact List.mem_cons_of_mem _ (ih h)
theorem rise_lt {x : Sl} {r : List Sl} (h : Rise (x :: r)) {k : Nat} (hk : k ≤ x.1) : lk r k = none :=
 lk_none (fun y hy => by have := (List.pairwise_cons.1 h).1 y hy; omega)
theorem lk_ext : ∀ {a b : List Sl}, Rise a → Rise b → (∀ k, lk a k = lk b k) → a = b
 | [], [], _, _, _ => rfl
 | [], y :: b, _, _, h => by have := h y.1; rw [lk, lk, if_pos rfl] at this; cases this
 | x :: a, [], _, _, h => by have := h x.1; rw [lk, lk, if_pos rfl] at this; cases this
 | x :: a, y :: b, ha, hb, h => by
  have e1 : x.1 = y.1 := by
   rcases Nat.lt_trichotomy x.1 y.1 with hlt | he | hlt
   ·have := h x.1
    rw [lk, if_pos rfl, lk, if_neg (by omega), rise_lt hb (by omega)] at this
    cases this
   ·exact he
   ·have := h y.1
    rw [lk, if_neg (by omega), rise_lt ha (by omega), lk, if_pos rfl] at this
    cases this
  have e2 : x.2 = y.2 := by
   have := h x.1
   rw [lk, if_pos rfl, lk, if_pos e1.symm] at this
   exact Option.some.inj this
  have e3 : x = y := Prod.ext e1 e2
  subst e3
  congr 1
  refine lk_ext (List.pairwise_cons.1 ha).2 (List.pairwise_cons.1 hb).2 (fun k => ?_)
  by_cases hk : x.1 = k
  ·subst hk
   rw [rise_lt ha (Nat.le_refl _), rise_lt hb (Nat.le_refl _)]
  ·have := h k
   rw [lk, if_neg hk, lk, if_neg hk] at this
   exact this
theorem look_lk {l : List Sl} (h : Kept l) (k : Nat) : lk l k = if look l k = 0 then none else some (look l k) := by
 unfold look
 rcases hl : lk l k with _ | v
 ·rfl
 ·have := h.2 _ (lk_mem hl)
  simp at this ⊢
  exact this
theorem kept_ext {a b : List Sl} (ha : Kept a) (hb : Kept b) (h : ∀ k, look a k = look b k) : a = b :=
 lk_ext ha.1 hb.1 (fun k => by rw [look_lk ha, look_lk hb, h k])
structure Pr where
 key : Nat
 fst : Nat
 snd : Nat
 ins : Bool
def bothL : List Sl → List Sl → List Pr
 | [], [] => []
 | [], y :: b => ⟨y.1, 0, y.2, true⟩ :: bothL [] b
 | x :: a, [] => ⟨x.1, x.2, 0, false⟩ :: bothL a []
 | x :: a, y :: b => if x.1 < y.1 then ⟨x.1, x.2, 0, false⟩ :: bothL a (y :: b) else if y.1 < x.1 then ⟨y.1, 0, y.2, true⟩ :: bothL (x :: a) b else ⟨x.1, x.2, y.2, true⟩ :: bothL a b
termination_by a b => a.length + b.length
theorem bothL_len (a b : List Sl) : (bothL a b).length ≤ a.length + b.length := by
 fun_induction bothL a b with
 | case1 => simp
 | case2 y b ih => simp only [List.length_cons, List.length_nil] at *; omega
 | case3 x a ih => simp only [List.length_cons, List.length_nil] at *; omega
 | case4 x a y b h ih => simp only [List.length_cons] at *; omega
 | case5 x a y b h h' ih => simp only [List.length_cons] at *; omega
 | case6 x a y b h h' ih => simp only [List.length_cons] at *; omega
def listF (w : Pr → Option Nat) (l : List Pr) : List Sl := l.filterMap (fun p => (w p).map (fun v => (p.key, v)))
theorem bothL_key (a b : List Sl) : ∀ p ∈ bothL a b, (∃ x ∈ a, x.1 = p.key) ∨ ∃ y ∈ b, y.1 = p.key := by
 fun_induction bothL a b with
 | case1 => intro p hp; cases hp
 | case2 y b ih =>
  intro p hp
  rcases List.mem_cons.1 hp with rfl | hp
  ·exact .inr ⟨y, by simp, rfl⟩
  ·rcases ih p hp with ⟨x, hx, _⟩ | ⟨z, hz, e⟩
   ·cases hx
   ·exact .inr ⟨z, by simp [hz], e⟩
 | case3 x a ih =>
  intro p hp
  rcases List.mem_cons.1 hp with rfl | hp
  ·exact .inl ⟨x, by simp, rfl⟩
  ·rcases ih p hp with ⟨z, hz, e⟩ | ⟨z, hz, _⟩
   ·exact .inl ⟨z, by simp [hz], e⟩
   ·cases hz
 | case4 x a y b h ih =>
  intro p hp
  rcases List.mem_cons.1 hp with rfl | hp
  ·exact .inl ⟨x, by simp, rfl⟩
  ·rcases ih p hp with ⟨z, hz, e⟩ | ⟨z, hz, e⟩
   ·exact .inl ⟨z, by simp [hz], e⟩
   ·exact .inr ⟨z, hz, e⟩
 | case5 x a y b h h2 ih =>
  intro p hp
  rcases List.mem_cons.1 hp with rfl | hp
  ·exact .inr ⟨y, by simp, rfl⟩
  ·rcases ih p hp with ⟨z, hz, e⟩ | ⟨z, hz, e⟩
   ·exact .inl ⟨z, hz, e⟩
   ·exact .inr ⟨z, by simp [hz], e⟩
 | case6 x a y b h h2 ih =>
  intro p hp
  rcases List.mem_cons.1 hp with rfl | hp
  ·exact .inl ⟨x, by simp, rfl⟩
  ·rcases ih p hp with ⟨z, hz, e⟩ | ⟨z, hz, e⟩
   ·exact .inl ⟨z, by simp [hz], e⟩
   ·exact .inr ⟨z, by simp [hz], e⟩
theorem bothL_rise (a b : List Sl) (ha : Rise a) (hb : Rise b) : (bothL a b).Pairwise (fun p q => p.key < q.key) := by
 fun_induction bothL a b with
 | case1 => exact List.Pairwise.nil
 | case2 y b ih =>
  have h1 := List.pairwise_cons.1 hb
  refine List.pairwise_cons.2 ⟨fun p hp => ?_, ih ha h1.2⟩
  rcases bothL_key [] b p hp with ⟨x, hx, _⟩ | ⟨z, hz, e⟩
  ·cases hx
  ·have := h1.1 z hz; show y.1 < p.key; omega
 | case3 x a ih =>
  have h1 := List.pairwise_cons.1 ha
  refine List.pairwise_cons.2 ⟨fun p hp => ?_, ih h1.2 hb⟩
  rcases bothL_key a [] p hp with ⟨z, hz, e⟩ | ⟨z, hz, _⟩
  ·have := h1.1 z hz; show x.1 < p.key; omega
  ·cases hz
 | case4 x a y b h ih =>
  have h1 := List.pairwise_cons.1 ha
  have h2 := List.pairwise_cons.1 hb
  refine List.pairwise_cons.2 ⟨fun p hp => ?_, ih h1.2 hb⟩
  rcases bothL_key a (y :: b) p hp with ⟨z, hz, e⟩ | ⟨z, hz, e⟩
  ·have := h1.1 z hz; show x.1 < p.key; omega
  ·rcases List.mem_cons.1 hz with rfl | hz
   ·show x.1 < p.key; omega
   ·have := h2.1 z hz; show x.1 < p.key; omega
 | case5 x a y b h h' ih =>
  have h1 := List.pairwise_cons.1 ha
  have h2 := List.pairwise_cons.1 hb
  refine List.pairwise_cons.2 ⟨fun p hp => ?_, ih ha h2.2⟩
  rcases bothL_key (x :: a) b p hp with ⟨z, hz, e⟩ | ⟨z, hz, e⟩
  ·rcases List.mem_cons.1 hz with rfl | hz
   ·show y.1 < p.key; omega
   ·have := h1.1 z hz; show y.1 < p.key; omega
  ·have := h2.1 z hz; show y.1 < p.key; omega
 | case6 x a y b h h' ih =>
  have h1 := List.pairwise_cons.1 ha
  have h2 := List.pairwise_cons.1 hb
  refine List.pairwise_cons.2 ⟨fun p hp => ?_, ih h1.2 h2.2⟩
  rcases bothL_key a b p hp with ⟨z, hz, e⟩ | ⟨z, hz, e⟩
  ·have := h1.1 z hz; show x.1 < p.key; omega
  ·have := h2.1 z hz; show x.1 < p.key; omega
theorem listF_rise {w : Pr → Option Nat} {l : List Pr} (h : l.Pairwise (fun p q => p.key < q.key)) : Rise (listF w l) := by
 unfold Rise listF
 rw [List.pairwise_filterMap]
 refine h.imp (fun {p q} hpq x hx y hy => ?_)
 simp at hx hy
 obtain ⟨v, _, rfl⟩ := hx
 obtain ⟨u, _, rfl⟩ := hy
 exact hpq
def at2 (w : Pr → Option Nat) (k : Nat) : Option Nat → Option Nat → Option Nat
 | none, none => none
 | some v, none => w ⟨k, v, 0, false⟩
 | none, some u => w ⟨k, 0, u, true⟩
 | some v, some u => w ⟨k, v, u, true⟩
theorem lk_cons_listF (w : Pr → Option Nat) (p : Pr) (l : List Pr) (k : Nat) (hn : p.key = k → lk (listF w l) k = none) : lk (listF w (p :: l)) k = if p.key = k then w p else lk (listF w l) k := by
 unfold listF
 rw [List.filterMap_cons]
 rcases hw : w p with _ | v
 ·simp only [Option.map_none]
  split
  ·rename_i e; exact hn e
  ·rfl
 ·simp only [Option.map_some]
  rw [lk]
theorem lk_listF_none {w : Pr → Option Nat} {l : List Pr} {k : Nat} (h : ∀ p ∈ l, p.key ≠ k) : lk (listF w l) k = none := by
 refine lk_none (fun x hx => ?_)
 unfold listF at hx
 obtain ⟨p, hp, e⟩ := List.mem_filterMap.1 hx
 simp at e
 obtain ⟨v, _, rfl⟩ := e
 exact h p hp
theorem lk_both (w : Pr → Option Nat) (a b : List Sl) (ha : Rise a) (hb : Rise b) (k : Nat) : lk (listF w (bothL a b)) k = at2 w k (lk a k) (lk b k) := by
 have key : ∀ (p : Pr) (l : List Pr), (p :: l).Pairwise (fun p q => p.key < q.key) → p.key = k → lk (listF w l) k = none := fun p l h e =>
  lk_listF_none (fun q hq => by have := (List.pairwise_cons.1 h).1 q hq; omega)
 have hr := bothL_rise a b ha hb
 fun_induction bothL a b with
 | case1 => rfl
 | case2 y b ih =>
  rw [lk_cons_listF w _ _ k (key _ _ hr), ih ha (List.pairwise_cons.1 hb).2 (List.pairwise_cons.1 hr).2, lk, lk]
  by_cases e : y.1 = k
  ·simp only [e, if_true]; rfl
  ·simp only [e, if_false]
 | case3 x a ih =>
  rw [lk_cons_listF w _ _ k (key _ _ hr), ih (List.pairwise_cons.1 ha).2 hb (List.pairwise_cons.1 hr).2, lk, lk]
  by_cases e : x.1 = k
  ·simp only [e, if_true]; rfl
  ·simp only [e, if_false]
 | case4 x a y b h ih =>
  rw [lk_cons_listF w _ _ k (key _ _ hr), ih (List.pairwise_cons.1 ha).2 hb (List.pairwise_cons.1 hr).2]
  by_cases e : x.1 = k
  ·have e2 : lk (y :: b) k = none := by rw [lk, if_neg (by omega)]; exact rise_lt hb (by omega)
   rw [e2, lk, if_pos e, if_pos (show _ = k from e)]
   simp only [at2, e]
  ·rw [if_neg (show ¬ _ = k from e)]
   conv => rhs; rw [lk, if_neg e]
 | case5 x a y b h h' ih =>
  rw [lk_cons_listF w _ _ k (key _ _ hr), ih ha (List.pairwise_cons.1 hb).2 (List.pairwise_cons.1 hr).2]
  by_cases e : y.1 = k
  ·have e2 : lk (x :: a) k = none := by rw [lk, if_neg (by omega)]; exact rise_lt ha (by omega)
   rw [e2, lk, if_pos e, if_pos (show _ = k from e)]
   simp only [at2, e]
  ·rw [if_neg (show ¬ _ = k from e)]
   conv => rhs; rw [show lk (y :: b) k = lk b k by rw [lk, if_neg e]]
 | case6 x a y b h h' ih =>
  rw [lk_cons_listF w _ _ k (key _ _ hr), ih (List.pairwise_cons.1 ha).2 (List.pairwise_cons.1 hb).2 (List.pairwise_cons.1 hr).2]
  by_cases e : x.1 = k
  ·have e3 : y.1 = k := by omega
   rw [show lk (x :: a) k = some x.2 by rw [lk, if_pos e], show lk (y :: b) k = some y.2 by rw [lk, if_pos e3], if_pos (show _ = k from e)]
   simp only [at2, e]
  ·have e3 : ¬ y.1 = k := by omega
   rw [if_neg (show ¬ _ = k from e), show lk (x :: a) k = lk a k by rw [lk, if_neg e], show lk (y :: b) k = lk b k by rw [lk, if_neg e3]]
def behindF (p : Pr) : Option Nat := if (if p.ins = true then p.snd else p.fst) = 0 then none else some (if p.ins = true then p.snd else p.fst)
def mergeL (a p : List Sl) : List Sl := listF behindF (bothL a p)
theorem listF_len (w : Pr → Option Nat) (l : List Pr) : (listF w l).length ≤ l.length := List.length_filterMap_le _ _
theorem mergeL_kept {a p : List Sl} (ha : Rise a) (hp : Rise p) : Kept (mergeL a p) := by
 refine ⟨listF_rise (bothL_rise a p ha hp), fun x hx => ?_⟩
 unfold mergeL listF at hx
 obtain ⟨q, _, e⟩ := List.mem_filterMap.1 hx
 simp [behindF] at e
 obtain ⟨v, ⟨h1, h2⟩, rfl⟩ := e
 show v ≠ 0
 rw [← h2]; exact h1
theorem lk_merge {a p : List Sl} (ha : Kept a) (hp : Rise p) (k : Nat) : look (mergeL a p) k = match lk p k with | some v => v | none => look a k := by
 unfold look mergeL
 rw [lk_both _ _ _ ha.1 hp]
 rcases h1 : lk a k with _ | v <;> rcases h2 : lk p k with _ | u <;> simp [at2, behindF]
 ·split <;> simp_all
 ·split <;> simp_all
 ·split <;> simp_all
end
section
open Go Go.RowKit
section
variable {P : Program} {ops : Array Oper} {md : Region.Mode} {C : World → Prop}
def Free (F : Fence) : Prop := F = Fence.wide ∨ ∃ l, F = Fence.wide.inRound l
theorem wide_fn (f : FuncId) : Fence.wide.fn f = True := rfl
theorem free_wide : Free Fence.wide := .inl rfl
theorem free_round (l : Nat) : Free (Fence.wide.inRound l) := .inr ⟨l, rfl⟩
theorem Free.fn {F : Fence} (h : Free F) (f : FuncId) : F.fn f := by
 rcases h with rfl | ⟨l, rfl⟩ <;> exact trivial
theorem Free.depth {F : Fence} (h : Free F) : F.depth = none := by
 rcases h with rfl | ⟨l, rfl⟩ <;> rfl
theorem callsIn_free {F : Fence} (hF : Free F) {m : Nat} {f : FuncId} {args : Array Value} {w : World} {R : Ending → World → Prop} (h : Calls P f args w R) : CallsIn F m P f args w R := by
 rcases hF with rfl | ⟨l, rfl⟩
 ·exact callsIn_wide.2 h
 ·exact CallsIn.inRound l (callsIn_wide.2 h)
def noDefer (ops : List Oper) : Bool := ops.all fun o => match o.op with | .defer _ => false | _ => true
theorem noDefer_spec {l : List Oper} (h : noDefer l = true) : ∀ o ∈ l, ∀ c, o.op ≠ .defer c := by
 intro o ho c e
 have := List.all_eq_true.1 h o ho
 rw [e] at this
 cases this
theorem wpIn_of_quietF {F : Fence} {m : Nat} (hF : Free F) {o : Oper} (hnd : ∀ c, o.op ≠ .defer c) {a : Act} {K : Act → Prop} {K' : Act → World → Prop} {Q' : Exit → Act → World → Prop} {w : World} (hw : C w) (h : ∀ a w', C w' → K a → K' a w')
  (hh : o.quiet P a C K) : o.wpIn F m P a w K' Q' := by
 obtain ⟨v, h1, h2⟩ := hh
 have h3 := h1 w hw
 unfold Oper.quietAt at h3
 unfold Oper.wpIn
 refine ⟨fun f _ => hF.fn f, ?_⟩
 rw [Oper.semAt_eq _ _ _ hnd]
 generalize (execOp a.eval o).run P w = r at *
 cases r with
 | ok x w' =>
  cases x <;> simp only [Oper.quietUpon] at h3 <;> simp only [Oper.uponIn]
  case value u =>
   obtain ⟨e1, e2⟩ := h3
   rw [e1, e2]
   exact h _ _ hw h2
  case skip =>
   obtain ⟨e1, e2⟩ := h3
   rw [e1, ← e2]
   exact h _ _ hw h2
  case enter f args =>
   obtain ⟨e1, hc⟩ := h3
   rw [e1]
   refine ⟨fun hd => absurd hd (by rw [hF.depth]; simp), ?_⟩
   have hc' := hc.mono (R' := fun e w'' => e = .returned v ∧ C w'') fun _ _ h => h
   exact CallsIn.mono (callsIn_free hF hc') fun e w'' ⟨he, hw''⟩ => by subst he; exact h _ _ hw'' h2
 | halt x w' => simp only [Oper.quietUpon] at h3
def Ext (W : World) : Type := { w : World // Below W.heap.size W w }
instance extNonempty (W : World) : Nonempty (Ext W) := ⟨⟨W, Below.refl _ _⟩⟩
def Ext.w {W : World} (x : Ext W) : World := x.1
def Grows (W : World) (w : World) : Prop := ∃ x : Ext W, w = x.w
theorem grows_draw {W w : World} (h : Below W.heap.size W w) : Grows W { w with drawn := w.drawn + 1 } := ⟨⟨_, h.drew⟩, rfl⟩
theorem grows_refl (W : World) : Grows W { W with drawn := W.drawn + 1 } := grows_draw (Below.refl _ _)
theorem Ext.below {W : World} (x : Ext W) : Below W.heap.size W x.w := x.2
theorem Ext.cell {W : World} (x : Ext W) {p : Addr} (h : p.block < W.heap.size) : x.w.cell? p = W.cell? p := x.2.cell h
theorem Ext.frozen {W : World} (x : Ext W) {p : Addr} (h : p.block < W.heap.size) : x.w.frozen? p = W.frozen? p := x.2.frozen h
theorem Ext.keeps {W : World} (x : Ext W) (B : Nat) : KeepsFrom B W x.w := ⟨x.2.size, fun k _ _ h _ => (x.2.block k (Array.getElem?_eq_some_iff.1 h).1).trans h⟩
def Ret (P : Program) (f : FuncId) (args : Array Value) (v : Value) : Prop := ∀ w, Calls P f args w fun e w' => e = .returned v ∧ Below w.heap.size w w'
theorem Ret.of_same {P : Program} {f : FuncId} {args : Array Value} {v : Value} (h : ∀ w, Calls P f args w fun e w' => e = .returned v ∧ w = w') : Ret P f args v := fun w => (h w).mono fun _ _ ⟨he, hw⟩ => ⟨he, hw ▸ Below.refl _ _⟩
theorem Ret.at {P : Program} {f : FuncId} {args : Array Value} {v : Value} (h : Ret P f args v) {W : World} (x : Ext W) :
  Calls P f args x.w fun e w'' => e = .returned v ∧ ∃ y : Ext W, w'' = y.w :=
 (h x.w).mono fun _ w' ⟨he, hb⟩ => ⟨he, ⟨w', x.2.trans (hb.mono x.2.size)⟩, rfl⟩
end
end
end Go.Proofs.YtkicmbdjihjgfaaGreatDoor
