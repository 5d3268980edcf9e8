/- Part. -/
import Derived.Lib.Hide
import Derived.Shelf.Spec.BitsCarry
import Derived.Shelf.Bits.Mul64
import Derived.Test.YtahjgllnfbejmaaG02
import Derived.RangeFuncRecord
import Derived.Test.YtahjgllnfbejmaaG01
import Derived.RangeFuncNested
import Derived.RangeFuncBound
import Derived.RangeFuncCalls
import Derived.RangeFuncLeaves
import Derived.RangeFuncBox
import Derived.Laws.StructEq
import Derived.Laws.Cover2
import Derived.Lib.BytesEntry
import Derived.Lib.Bytealg
import Derived.WalkKit
import Derived.Deep.Quiet
import Derived.BigQuiet
import Derived.Deep.MidRow
import Derived.Deep.WholeRow
set_option maxRecDepth 100000
set_option maxHeartbeats 16000000
namespace Go.Proofs.Ytahjgllnfbejmaa
section
def lim (n : Nat) : Nat → Int
 | 0 => ((n % 18446744073709551616 : Nat) : Int)
 | 1 => ((n / 18446744073709551616 % 18446744073709551616 : Nat) : Int)
 | 2 => ((n / 340282366920938463463374607431768211456 % 18446744073709551616 : Nat) : Int)
 | _ => ((n / 6277101735386680763835789423207666416102355444464034512896 % 18446744073709551616 : Nat) : Int)
def U64 (x : Int) : Prop := 0 ≤ x ∧ x < 18446744073709551616
def W256 (n : Nat) : Prop := n < 115792089237316195423570985008687907853269984665640564039457584007913129639936
def num (z : Nat → Int) : Int := z 0 + z 1 * 18446744073709551616 + z 2 * 340282366920938463463374607431768211456 + z 3 * 6277101735386680763835789423207666416102355444464034512896
theorem lim_u64 (n k : Nat) : U64 (lim n k) := by
 unfold U64 lim
 split <;> constructor <;> omega
theorem num_lim (n : Nat) (h : W256 n) : num (lim n) = n := by
 unfold W256 at h
 have e1 : n / 340282366920938463463374607431768211456 = n / 18446744073709551616 / 18446744073709551616 := by rw [Nat.div_div_eq_div_mul]
 have e2 : n / 6277101735386680763835789423207666416102355444464034512896 = n / 18446744073709551616 / 18446744073709551616 / 18446744073709551616 := by rw [Nat.div_div_eq_div_mul, Nat.div_div_eq_div_mul]
 unfold num lim
 rw [e1, e2]
 have h4 : n / 18446744073709551616 / 18446744073709551616 / 18446744073709551616 < 18446744073709551616 := by rw [← e2]; exact Nat.div_lt_of_lt_mul h
 generalize h1 : n / 18446744073709551616 = q1 at *
 generalize h2 : q1 / 18446744073709551616 = q2 at *
 generalize h3 : q2 / 18446744073709551616 = q3 at *
 have k0 : n % 18446744073709551616 + 18446744073709551616 * q1 = n := by rw [← h1]; exact Nat.mod_add_div n _
 have k1 : q1 % 18446744073709551616 + 18446744073709551616 * q2 = q1 := by rw [← h2]; exact Nat.mod_add_div q1 _
 have k2 : q2 % 18446744073709551616 + 18446744073709551616 * q3 = q2 := by rw [← h3]; exact Nat.mod_add_div q2 _
 have k3 : q3 % 18446744073709551616 = q3 := Nat.mod_eq_of_lt h4
 rw [k3]
 generalize n % 18446744073709551616 = r0 at *
 generalize q1 % 18446744073709551616 = r1 at *
 generalize q2 % 18446744073709551616 = r2 at *
 clear h e1 e2 h1 h2 h3 h4 k3
 show (r0 : Int) + (r1 : Int) * 18446744073709551616 + (r2 : Int) * 340282366920938463463374607431768211456 + (q3 : Int) * 6277101735386680763835789423207666416102355444464034512896 = n
 omega
theorem modOf (r q n : Nat) (hr : r < 18446744073709551616) (h : r + 18446744073709551616 * q = n) : n % 18446744073709551616 = r ∧ n / 18446744073709551616 = q := by
 subst h
 exact ⟨by rw [Nat.add_mul_mod_self_left]; exact Nat.mod_eq_of_lt hr, by rw [Nat.add_mul_div_left _ _ (by decide), Nat.div_eq_of_lt hr, Nat.zero_add]⟩
theorem lim_num (z : Nat → Int) (n : Nat) (h0 : U64 (z 0)) (h1 : U64 (z 1)) (h2 : U64 (z 2)) (h3 : U64 (z 3)) (h : num z = n) : lim n 0 = z 0 ∧ lim n 1 = z 1 ∧ lim n 2 = z 2 ∧ lim n 3 = z 3 := by
 obtain ⟨z0, e0⟩ := Int.eq_ofNat_of_zero_le h0.1
 obtain ⟨z1, e1⟩ := Int.eq_ofNat_of_zero_le h1.1
 obtain ⟨z2, e2⟩ := Int.eq_ofNat_of_zero_le h2.1
 obtain ⟨z3, e3⟩ := Int.eq_ofNat_of_zero_le h3.1
 have b0 : z0 < 18446744073709551616 := by have := h0.2; rw [e0] at this; omega
 have b1 : z1 < 18446744073709551616 := by have := h1.2; rw [e1] at this; omega
 have b2 : z2 < 18446744073709551616 := by have := h2.2; rw [e2] at this; omega
 have b3 : z3 < 18446744073709551616 := by have := h3.2; rw [e3] at this; omega
 have hn : z0 + 18446744073709551616 * (z1 + 18446744073709551616 * (z2 + 18446744073709551616 * z3)) = n := by
  unfold num at h; rw [e0, e1, e2, e3] at h; omega
 obtain ⟨m0, d0⟩ := modOf _ _ _ b0 hn
 obtain ⟨m1, d1⟩ := modOf _ _ _ b1 rfl
 obtain ⟨m2, d2⟩ := modOf _ _ _ b2 rfl
 have f1 : n / 340282366920938463463374607431768211456 = n / 18446744073709551616 / 18446744073709551616 := by rw [Nat.div_div_eq_div_mul]
 have f2 : n / 6277101735386680763835789423207666416102355444464034512896 = n / 18446744073709551616 / 18446744073709551616 / 18446744073709551616 := by rw [Nat.div_div_eq_div_mul, Nat.div_div_eq_div_mul]
 simp only [lim]
 rw [f1, f2, d0, d1, d2, m0, m1, m2, Nat.mod_eq_of_lt b3, e0, e1, e2, e3]
 exact ⟨rfl, rfl, rfl, rfl⟩
theorem num_lt (z : Nat → Int) (h0 : U64 (z 0)) (h1 : U64 (z 1)) (h2 : U64 (z 2)) (h3 : U64 (z 3)) : 0 ≤ num z ∧ num z < 115792089237316195423570985008687907853269984665640564039457584007913129639936 := by
 unfold U64 at *; unfold num; constructor <;> omega
theorem lim_ext {a b : Nat} (ha : W256 a) (hb : W256 b) (h : ∀ k, k < 4 → lim a k = lim b k) : a = b := by
 have e1 := num_lim a ha
 have e2 := num_lim b hb
 have : num (lim a) = num (lim b) := by unfold num; rw [h 0 (by omega), h 1 (by omega), h 2 (by omega), h 3 (by omega)]
 omega
def cmpO (l : Int) (x y : Int) : Int := if x < y then -1 else if y < x then 1 else l
def cmpN (a b : Nat) (k : Nat) (l : Int) : Int := cmpO l (lim a k) (lim b k)
def wcmp (a b : Nat) : Int := if a < b then -1 else if b < a then 1 else 0
theorem cmp_parts (a b : Nat) (ha : W256 a) (hb : W256 b) : cmpN a b 3 (cmpN a b 2 (cmpN a b 1 (cmpN a b 0 0))) = wcmp a b := by
 have ea := num_lim a ha
 have eb := num_lim b hb
 have a0 := lim_u64 a 0; have a1 := lim_u64 a 1; have a2 := lim_u64 a 2; have a3 := lim_u64 a 3
 have b0 := lim_u64 b 0; have b1 := lim_u64 b 1; have b2 := lim_u64 b 2; have b3 := lim_u64 b 3
 unfold num at *; unfold cmpN cmpO wcmp; unfold U64 at *
 generalize lim a 0 = x0 at *; generalize lim a 1 = x1 at *; generalize lim a 2 = x2 at *; generalize lim a 3 = x3 at *
 generalize lim b 0 = y0 at *; generalize lim b 1 = y1 at *; generalize lim b 2 = y2 at *; generalize lim b 3 = y3 at *
 by_cases h3 : x3 < y3
 ·rw [if_pos h3, if_pos (by omega)]
 ·by_cases h3' : y3 < x3
  ·rw [if_neg h3, if_pos h3', if_neg (by omega), if_pos (by omega)]
  ·obtain rfl : x3 = y3 := by omega
   rw [if_neg h3, if_neg h3]
   by_cases h2 : x2 < y2
   ·rw [if_pos h2, if_pos (by omega)]
   ·by_cases h2' : y2 < x2
    ·rw [if_neg h2, if_pos h2', if_neg (by omega), if_pos (by omega)]
    ·obtain rfl : x2 = y2 := by omega
     rw [if_neg h2, if_neg h2]
     by_cases h1 : x1 < y1
     ·rw [if_pos h1, if_pos (by omega)]
     ·by_cases h1' : y1 < x1
      ·rw [if_neg h1, if_pos h1', if_neg (by omega), if_pos (by omega)]
      ·obtain rfl : x1 = y1 := by omega
       rw [if_neg h1, if_neg h1]
       by_cases h0 : x0 < y0
       ·rw [if_pos h0, if_pos (by omega)]
       ·by_cases h0' : y0 < x0
        ·rw [if_neg h0, if_pos h0', if_neg (by omega), if_pos (by omega)]
        ·rw [if_neg h0, if_neg h0', if_neg (by omega), if_neg (by omega)]
end
section
open Go Go.RowKit Go.Shelf
attribute [local go_sem] Oper.semAt_some Grows wide_fn
def wv (n : Nat) : Value := .agg #[.int .u64 (lim n 0), .int .u64 (lim n 1), .int .u64 (lim n 2), .int .u64 (lim n 3)]
theorem wv_of {n : Nat} {x0 x1 x2 x3 : Int} (h : lim n 0 = x0 ∧ lim n 1 = x1 ∧ lim n 2 = x2 ∧ lim n 3 = x3) : wv n = .agg #[.int .u64 x0, .int .u64 x1, .int .u64 x2, .int .u64 x3] := by
 obtain ⟨rfl, rfl, rfl, rfl⟩ := h; rfl
theorem Arr4.word (W : World) (t : TypeId) (n : Nat) : Arr4 (W.alloc (.cells #[.int .u64 (lim n 0), .int .u64 (lim n 1), .int .u64 (lim n 2), .int .u64 (lim n 3)] t)) W.heap.size t (lim n) := World.alloc_heap_new W _
theorem Arr4.store {W : World} {B : Nat} {t : TypeId} {m : Nat → Int} (h : Arr4 W B t m) (m' : Nat → Int) :
  Arr4 ((((W.setCell ⟨B, 0, none⟩ (.int .u64 (m' 0))).setCell ⟨B, 1, none⟩ (.int .u64 (m' 1))).setCell ⟨B, 2, none⟩ (.int .u64 (m' 2))).setCell ⟨B, 3, none⟩ (.int .u64 (m' 3))) B t m' := by
 have h := Arr4.set (Arr4.set (Arr4.set (Arr4.set h (k := 0) (by omega) (m' 0)) (k := 1) (by omega) (m' 1)) (k := 2) (by omega) (m' 2)) (k := 3) (by omega) (m' 3)
 exact h
theorem results_word {fn : Func} {t : Tmp} {tmps : Array Value} {W : World} {B : Nat} {m : Nat → Int} (h : fn.results = #[ResultVar.cell t 29]) (ht : tmps.getD t undef = .pointer (some ⟨B, 0, none⟩)) (hA : Arr4 W B 29 m) :
  (results fn tmps).run Try.prog W = .ok (.agg #[.int .u64 (m 0), .int .u64 (m 1), .int .u64 (m 2), .int .u64 (m 3)]) W := by
 have e0 := hA.cell (j := 0) (by omega)
 have e1 := hA.cell (j := 1) (by omega)
 have e2 := hA.cell (j := 2) (by omega)
 have e3 := hA.cell (j := 3) (by omega)
 simp at ht
 simp [results, h, ht, go_sem, e0, e1, e2, e3]
theorem compare_ret (x y : Int) : Ret Try.prog 45 #[.int .u64 x, .int .u64 y] (.int .i64 (cmpO 0 x y)) := by
 intro w
 by_cases h1 : x < y
 ·have e : cmpO 0 x y = -1 := by unfold cmpO; rw [if_pos h1]
  rw [e]; clear e
  go_enter Try.func45, Try.ntmps45
  go_wp2
  go_ret
  exact ⟨rfl, Below.refl _ _⟩
 ·by_cases h2 : y < x
  ·have e : cmpO 0 x y = 1 := by unfold cmpO; rw [if_neg h1, if_pos h2]
   rw [e]; clear e
   go_enter Try.func45, Try.ntmps45
   go_wp2
   go_ret
   exact ⟨rfl, Below.refl _ _⟩
  ·have e : cmpO 0 x y = 0 := by unfold cmpO; rw [if_neg h1, if_neg h2]
   rw [e]; clear e
   go_enter Try.func45, Try.ntmps45
   go_wp2
   go_ret
   exact ⟨rfl, Below.refl _ _⟩
def orOf (a b : Int) : Int := if a = 0 then b else a
theorem or_int (a b : Int) (g cap : Nat) (w : World) (h0 : w.cell? ⟨g, 0, none⟩ = some (.int .i64 a)) (h1 : w.cell? ⟨g, 1, none⟩ = some (.int .i64 b)) :
  Calls Try.prog 44 #[.slice (some ⟨g, 0, none⟩) 2 cap] w fun e w' => e = .returned (.int .i64 (orOf a b)) ∧ w = w' := by
 have hz : Hid (a = 0 → orOf a b = b) := fun h => by unfold orOf; rw [if_pos h]
 have hn : Hid (a ≠ 0 → orOf a b = a) := fun h => by unfold orOf; rw [if_neg h]
 go_enter Try.func44, Try.ntmps44
 go_wp2
 go_loop [8] (fun i => ∃ k : Nat, k ≤ 2 ∧ i = .int .i64 k ∧ (0 < k → a = 0) ∧ (1 < k → b = 0)) (fun i => 2 - (intOf i).toNat)
 case atStart => exact ⟨0, by omega, rfl, fun h => by omega, fun h => by omega⟩
 case round =>
  obtain ⟨k, hk, rfl, ha, hb⟩ := hrel
  by_cases k0 : k = 0
  ·subst k0
   clear ha hb
   by_cases e : a = 0
   ·have et : (a != 0) = false := by simp [e]
    have HE := Lib.hid e
    clear e
    go_wp2
    go_round
    case rel => exact ⟨1, by omega, by simp, fun _ => HE.out, fun h => by omega⟩
    case measure => simp [intOf]
   ·have et : (a != 0) = true := by simp [e]
    have HE := Lib.hid e
    clear e
    go_wp2
    go_ret
    exact ⟨by rw [hn.out HE.out]; rfl, rfl⟩
  ·by_cases k1 : k = 1
   ·subst k1
    have HA : Hid (a = 0) := ha (by omega)
    clear ha hb
    by_cases e : b = 0
    ·have et : (b != 0) = false := by simp [e]
     have HE := Lib.hid e
     clear e
     go_wp2
     go_round
     case rel => exact ⟨2, by omega, by simp, fun _ => HA.out, fun _ => HE.out⟩
     case measure => simp [intOf]
    ·have et : (b != 0) = true := by simp [e]
     have HE := Lib.hid e
     clear e
     go_wp2
     go_ret
     exact ⟨by rw [hz.out HA.out]; rfl, rfl⟩
   ·obtain rfl : k = 2 := by omega
    have HA : Hid (a = 0) := ha (by omega)
    have HB : Hid (b = 0) := hb (by omega)
    clear ha hb
    go_wp2
    go_ret
    exact ⟨by rw [hz.out HA.out, HB.out]; rfl, rfl⟩
theorem pair_ret (x y l : Int) : Ret Try.prog 43 #[.int .u64 x, .int .u64 y, .int .i64 l] (.tuple #[.int .u64 0, .int .i64 (orOf (cmpO 0 x y) l)]) := by
 intro w
 go_enter Try.func43, Try.ntmps43
 go_wp2_with fail
 refine (compare_ret x y w).mono ?_
 rintro e w1 ⟨rfl, hb1⟩
 go_wp2_with fail
 refine (or_int (cmpO 0 x y) l _ _ _ (by go_simp) (by go_simp)).mono ?_
 rintro e w2 ⟨rfl, rfl⟩
 go_wp2
 go_ret2
 exact ⟨rfl, hb1.alloc hb1.size _⟩
theorem orOf_cmp (x y l : Int) : orOf (cmpO 0 x y) l = cmpO l x y := by
 unfold orOf cmpO
 by_cases h1 : x < y
 ·simp [h1]
 ·by_cases h2 : y < x
  ·simp [h1, h2]
  ·simp [h1, h2]
theorem cmp_ret (a b : Nat) (ha : W256 a) (hb : W256 b) : Ret Try.prog 23 #[wv a, wv b] (.int .i64 (wcmp a b)) := by
 intro w
 have hJ := fun W => join_int (lim a) (lim b) (fun _ _ => 0) (cmpN a b) 0 (fun _ => True) trivial (fun _ _ _ _ => trivial)
  (fun k _ l _ => by have h := pair_ret (lim a k) (lim b k) l; rw [orOf_cmp] at h; exact h) W
 have hP := cmp_parts a b ha hb
 have hL : leftOf (cmpN a b) 0 [0, 1, 2, 3] = wcmp a b := hP
 rw [hL] at hJ
 have HJ := Lib.hid hJ
 clear hJ hP hL
 unfold wv
 go_enter Try.func23, Try.ntmps23
 go_wp2_with fail
 have A1 := (Arr4.word w 29 a).alloc (.cells #[.int .u64 (lim b 0), .int .u64 (lim b 1), .int .u64 (lim b 2), .int .u64 (lim b 3)] 29)
 have A2 := Arr4.word (w.alloc (.cells #[.int .u64 (lim a 0), .int .u64 (lim a 1), .int .u64 (lim a 2), .int .u64 (lim a 3)] 29)) 29 b
 have B0 := ((Below.refl _ w).alloc (Nat.le_refl _) (.cells #[.int .u64 (lim a 0), .int .u64 (lim a 1), .int .u64 (lim a 2), .int .u64 (lim a 3)] 29)).alloc (by simp) (.cells #[.int .u64 (lim b 0), .int .u64 (lim b 1), .int .u64 (lim b 2), .int .u64 (lim b 3)] 29)
 rw [World.size_alloc] at A2
 refine (HJ.out _).mono ?_
 rintro e w1 ⟨rfl, hb1⟩
 have BB := B0.trans (hb1.mono B0.size)
 have hz : w.heap.size ≤ w1.heap.size := BB.size
 clear A1 A2 B0 hb1 HJ
 go_wp2
 go_ret
 exact ⟨rfl, by (repeat (first | exact BB | refine Below.setCell ?_ (by first | omega | (simp; done) | (simp; omega)) _ | refine Below.alloc ?_ (by first | omega | (simp; done) | (simp; omega)) _ | refine Below.drew ?_))⟩
end
section
open Go Go.RowKit
theorem grown_of_below {w W : World} (h : Below w.heap.size w W) (row : Option Nat) : w.grownBy W row := ⟨h.os, h.tape, h.output, h.size, fun k hk _ => h.block k hk⟩
end
section
open Go Go.RowKit Go.Shelf
attribute [local go_sem] Oper.semAt_some
end
section
open Go Go.RowKit Go.Shelf
attribute [local go_sem] Oper.semAt_some Grows wide_fn
def I64 (n : Int) : Prop := -9223372036854775808 ≤ n ∧ n ≤ 9223372036854775807
def ofN (n : Int) : Nat := if n < 0 then (115792089237316195423570985008687907853269984665640564039457584007913129639936 + n).toNat else n.toNat
theorem of_neg (n : Int) (h : I64 n) (hn : n < 0) : lim (ofN n) 0 = 18446744073709551616 + n ∧ lim (ofN n) 1 = 18446744073709551615 ∧ lim (ofN n) 2 = 18446744073709551615 ∧ lim (ofN n) 3 = 18446744073709551615 := by
 unfold I64 at h
 refine lim_num (fun k => if k = 0 then 18446744073709551616 + n else 18446744073709551615) _ ?_ ?_ ?_ ?_ ?_
 ·unfold U64; simp; omega
 ·unfold U64; simp
 ·unfold U64; simp
 ·unfold U64; simp
 ·unfold num ofN; rw [if_pos hn]; simp; omega
theorem of_pos (n : Int) (h : I64 n) (hn : ¬ n < 0) : lim (ofN n) 0 = n ∧ lim (ofN n) 1 = 0 ∧ lim (ofN n) 2 = 0 ∧ lim (ofN n) 3 = 0 := by
 unfold I64 at h
 refine lim_num (fun k => if k = 0 then n else 0) _ ?_ ?_ ?_ ?_ ?_
 ·unfold U64; simp; omega
 ·unfold U64; simp
 ·unfold U64; simp
 ·unfold U64; simp
 ·unfold num ofN; rw [if_neg hn]; simp; omega
end
section
open Go Go.RowKit
theorem eq4 (a b c d a' b' c' d' : Int) (w : World) : (Op.equalIn 10000 29 (.agg #[.int .u64 a, .int .u64 b, .int .u64 c, .int .u64 d]) (.agg #[.int .u64 a', .int .u64 b', .int .u64 c', .int .u64 d'])).run Try.prog w = .ok (a == a' && b == b' && c == c' && d == d') w := by
 have u3 := Try.underlying27
 have a3 := Try.isAgg27
 have z3 := Try.sizeOf27
 rw [show (10000 : Nat) = 9999 + 1 from rfl, Op.equalIn]
 simp only [Sem.run_bind, run_underlying Try.underlying29, Result.andThen_ok]
 simp only [Std.Legacy.Range.forIn_eq_forIn_range', Std.Legacy.Range.size, Nat.sub_zero, Nat.add_sub_cancel, Nat.div_one, List.range'_succ, List.range'_zero, List.forIn_cons, List.forIn_nil]
 go_simp
 by_cases h1 : a = a' <;> by_cases h2 : b = b' <;> by_cases h3 : c = c' <;> by_cases h4 : d = d' <;> simp [h1, h2, h3, h4]
def Has (W : World) (B : Nat) (t : TypeId) (cs : Array Value) : Prop := W.heap[B]? = some (.cells cs t (0, 0))
theorem Has.lt {W : World} {B : Nat} {t : TypeId} {cs : Array Value} (h : Has W B t cs) : B < W.heap.size := (Array.getElem?_eq_some_iff.1 h).1
theorem Has.cell {W : World} {B : Nat} {t : TypeId} {cs : Array Value} (h : Has W B t cs) (j : Nat) (v : Value) (hj : cs[j]? = some v) : W.cell? ⟨B, j, none⟩ = some v := by
 unfold Has at h
 simp [World.cell?, h, hj]
theorem Has.frozen {W : World} {B : Nat} {t : TypeId} {cs : Array Value} (h : Has W B t cs) (j : Nat) : W.frozen? ⟨B, j, none⟩ = false := by
 unfold Has at h
 simp [World.frozen?, h]
theorem Has.new (W : World) (t : TypeId) (cs : Array Value) : Has (W.alloc (.cells cs t)) W.heap.size t cs := World.alloc_heap_new W _
theorem Has.below {W W' : World} {B n : Nat} {t : TypeId} {cs : Array Value} (h : Has W B t cs) (hb : Below n W W') (hn : B < n) : Has W' B t cs := (hb.block B hn).trans h
theorem Has.later {W W' : World} {B : Nat} {t : TypeId} {cs : Array Value} (h : Has W B t cs) (hb : Below W.heap.size W W') : Has W' B t cs := h.below hb h.lt
theorem Has.alloc {W : World} {B : Nat} {t : TypeId} {cs : Array Value} (h : Has W B t cs) (o : Obj) : Has (W.alloc o) B t cs := h.later ((Below.refl _ W).alloc (Nat.le_refl _) o)
theorem Has.other {W : World} {B : Nat} {t : TypeId} {cs : Array Value} (h : Has W B t cs) {p : Addr} (hne : B ≠ p.block) (v : Value) : Has (W.setCell p v) B t cs := (Below.heap_setCell W p v B hne).trans h
theorem Has.set {W : World} {B : Nat} {t : TypeId} {cs : Array Value} (h : Has W B t cs) (k : Nat) (v : Value) : Has (W.setCell ⟨B, k, none⟩ v) B t (cs.setIfInBounds k v) := by
 obtain ⟨hlt, he⟩ := Array.getElem?_eq_some_iff.1 h
 show (W.heap.modify B _)[B]? = _
 rw [Array.getElem?_eq_getElem (by rw [Array.size_modify]; exact hlt), Array.getElem_modify_self, he]
 rfl
theorem wp_region_quietL {P : Program} {C : World → Prop} {id : Nat} {Q : Exit → Act → World → Prop} {a : Act} {w : World} {l : List Oper} (hm : P.follows .mixedOrders = true) (hB : Region.lexB .any l.toArray = true)
  (hC : C { w with drawn := w.drawn + 1 }) (h : wpQuiet P l.toArray C (fun a' => ∀ w', C w' → Q .normal a' w') l a) : (Code.region id l.toArray true).wp P Q a w :=
 wp_region_quiet (C := C) hm hB hC (by simpa using h)
def cellsIf (b : Bool) (x y : Array Value) : Array Value := if b = true then x else y
theorem cellsIf_true (x y : Array Value) : cellsIf true x y = x := rfl
theorem cellsIf_false (x y : Array Value) : cellsIf false x y = y := rfl
theorem newA (w : World) (o : Obj) : Below w.heap.size w (w.alloc o) := (Below.refl w.heap.size w).alloc (Nat.le_refl _) o
theorem sT {α : Type} (l : List α) (i : Nat) (a : α) : l.toArray.setIfInBounds i a = (l.set i a).toArray := List.setIfInBounds_toArray l i a
theorem sS {α : Type} {x : α} {xs : List α} {i : Nat} {a : α} : (x :: xs).set (i + 1) a = x :: xs.set i a := List.set_cons_succ
theorem sZ {α : Type} {x : α} {xs : List α} {a : α} : (x :: xs).set 0 a = a :: xs := List.set_cons_zero
theorem hid {p : Prop} (h : p) : RowKit.Hid p := Lib.hid h
theorem newBox (w : World) (t : TypeId) (cs : Array Value) : ∃ V, w.alloc (.cells cs t) = V ∧ Has V w.heap.size t cs ∧ Below w.heap.size w V := ⟨_, rfl, Has.new w t cs, (Below.refl w.heap.size w).alloc (Nat.le_refl _) (.cells cs t)⟩
theorem newK0 (w : World) : ∃ V, w.alloc (.cells #[.int .u8 0, .int .u8 0, .int .u8 0, .int .u8 0, .int .u8 0, .int .u8 0, .int .u8 0, .int .u8 0, .int .u8 0, .int .u8 0, .int .u8 0, .int .u8 0, .int .u8 0, .int .u8 0, .int .u8 0, .int .u8 0, .int .u8 0, .int .u8 0, .int .u8 0, .int .u8 0, .bool false, .int .u64 0, .int .u64 0, .int .u64 0, .int .u64 0] 31) = V ∧ Has V w.heap.size 31 #[.int .u8 0, .int .u8 0, .int .u8 0, .int .u8 0, .int .u8 0, .int .u8 0, .int .u8 0, .int .u8 0, .int .u8 0, .int .u8 0, .int .u8 0, .int .u8 0, .int .u8 0, .int .u8 0, .int .u8 0, .int .u8 0, .int .u8 0, .int .u8 0, .int .u8 0, .int .u8 0, .bool false, .int .u64 0, .int .u64 0, .int .u64 0, .int .u64 0] ∧ Below w.heap.size w V := newBox w 31 #[.int .u8 0, .int .u8 0, .int .u8 0, .int .u8 0, .int .u8 0, .int .u8 0, .int .u8 0, .int .u8 0, .int .u8 0, .int .u8 0, .int .u8 0, .int .u8 0, .int .u8 0, .int .u8 0, .int .u8 0, .int .u8 0, .int .u8 0, .int .u8 0, .int .u8 0, .int .u8 0, .bool false, .int .u64 0, .int .u64 0, .int .u64 0, .int .u64 0]
end
section
open Go Go.RowKit
attribute [local go_sem] Oper.semAt_some Grows wide_fn
def adB (n i : Nat) : Nat := n / 256 ^ (19 - i) % 256
def adL (n : Nat) : List Value := (List.range 20).map fun i => .int .u8 ((adB n i : Nat) : Int)
theorem adL_len (n : Nat) : (adL n).length = 20 := by simp [adL]
def lowB : Nat → Nat → List UInt8
 | 0, _ => []
 | k + 1, n => UInt8.ofNat (n / 256 ^ k % 256) :: lowB k n
def acmp (a b : Nat) : Int := if a < b then -1 else if b < a then 1 else 0
theorem byte_lt (a b : Nat) (ha : a < 256) (hb : b < 256) : (UInt8.ofNat a < UInt8.ofNat b) ↔ a < b := by
 rw [UInt8.lt_iff_toNat_lt, UInt8.toNat_ofNat', UInt8.toNat_ofNat', Nat.mod_eq_of_lt ha, Nat.mod_eq_of_lt hb]
theorem split_at (k n : Nat) : n % 256 ^ (k + 1) = n / 256 ^ k % 256 * 256 ^ k + n % 256 ^ k := by
 rw [Nat.pow_succ, Nat.mod_mul, Nat.mul_comm (256 ^ k), Nat.add_comm]
theorem cmp_low : ∀ (k a b : Nat), Lib.compareBytes (lowB k a) (lowB k b) = acmp (a % 256 ^ k) (b % 256 ^ k)
 | 0, a, b => by simp [lowB, Lib.compareBytes, acmp, Nat.mod_one]
 | k + 1, a, b => by
  have ih := cmp_low k a b
  have ha : a / 256 ^ k % 256 < 256 := Nat.mod_lt _ (by decide)
  have hb : b / 256 ^ k % 256 < 256 := Nat.mod_lt _ (by decide)
  have h1 := byte_lt _ _ ha hb
  have h2 := byte_lt _ _ hb ha
  rw [lowB, lowB, Lib.compareBytes, ih, split_at, split_at]
  have hp : 0 < 256 ^ k := Nat.pow_pos (by decide)
  have la : a % 256 ^ k < 256 ^ k := Nat.mod_lt _ hp
  have lb : b % 256 ^ k < 256 ^ k := Nat.mod_lt _ hp
  generalize a / 256 ^ k % 256 = x at *
  generalize b / 256 ^ k % 256 = y at *
  generalize a % 256 ^ k = p at *
  generalize b % 256 ^ k = q at *
  generalize 256 ^ k = r at *
  unfold acmp
  by_cases hxy : x < y
  ·have : (x + 1) * r ≤ y * r := Nat.mul_le_mul_right r hxy
   rw [Nat.add_mul] at this
   rw [if_pos (h1.2 hxy), if_pos (by omega)]
  ·by_cases hyx : y < x
   ·have : (y + 1) * r ≤ x * r := Nat.mul_le_mul_right r hyx
    rw [Nat.add_mul] at this
    rw [if_neg (fun h => hxy (h1.1 h)), if_pos (h2.2 hyx), if_neg (by omega), if_pos (by omega)]
   ·obtain rfl : x = y := by omega
    rw [if_neg (fun h => hxy (h1.1 h)), if_neg (fun h => hyx (h2.1 h))]
    by_cases hpq : p < q
    ·rw [if_pos hpq, if_pos (by omega)]
    ·by_cases hqp : q < p
     ·rw [if_neg hpq, if_pos hqp, if_neg (by omega), if_pos (by omega)]
     ·rw [if_neg hpq, if_neg hqp, if_neg (by omega), if_neg (by omega)]
theorem lowB_len : ∀ (k n : Nat), (lowB k n).length = k
 | 0, _ => rfl
 | k + 1, n => by rw [lowB, List.length_cons, lowB_len k n]
theorem lowB_at : ∀ (k n j : Nat), j < k → (lowB k n)[j]? = some (UInt8.ofNat (n / 256 ^ (k - 1 - j) % 256))
 | 0, _, _, h => by omega
 | k + 1, n, 0, _ => by rw [lowB]; simp
 | k + 1, n, j + 1, h => by
  rw [lowB, List.getElem?_cons_succ, lowB_at k n j (by omega)]
  rw [show k - 1 - j = k + 1 - 1 - (j + 1) by omega]
def AdAt (W : World) (p : Addr) (n : Nat) : Prop := ∀ j : Nat, j < 20 → W.cell? (p.add j) = some (.int .u8 ((adB n j : Nat) : Int))
theorem AdAt.bytes {W : World} {p : Addr} {n : Nat} (h : AdAt W p n) : ∀ (j : Nat) (x : UInt8), (lowB 20 n)[j]? = some x → W.cell? (p.add j) = some (.int .u8 x.toNat) := fun j x hx => by
 have hj : j < 20 := by
  have := (List.getElem?_eq_some_iff.1 hx).1
  rwa [lowB_len] at this
 rw [lowB_at 20 n j hj] at hx
 injection hx with hx
 subst hx
 rw [h j hj]
 unfold adB
 rw [UInt8.toNat_ofNat', Nat.mod_eq_of_lt (Nat.mod_lt _ (by decide))]
theorem run_adBytes {W : World} {P : Program} {p : Addr} {a : Nat} (ha : AdAt W p a) : (Extern.Bytes.loadBytes p 20 .empty).run P W = .ok ⟨(lowB 20 a).toArray⟩ W := by
 have h := Lib.run_loadBytesX (P := P) W ((lowB 20 a).map fun b => (b.toNat : Int)) p .empty (fun j x hx => by
  rw [List.getElem?_map] at hx
  cases hb : (lowB 20 a)[j]? with
  | none => rw [hb] at hx; cases hx
  | some b =>
   rw [hb] at hx
   injection hx with hx
   subst hx
   exact ha.bytes j b hb)
 rw [List.length_map, lowB_len] at h
 rw [h]
 have e : Lib.bytesOf ((lowB 20 a).map fun b => (b.toNat : Int)) = lowB 20 a := by
  simp [Lib.bytesOf, Function.comp_def]
 rw [e]
 simp
theorem run_compare {W : World} {P : Program} {p q : Addr} {a b c d : Nat} (ha : AdAt W p a) (hb : AdAt W q b) (la : a < 256 ^ 20) (lb : b < 256 ^ 20) : (Extern.BytealgCompare.compare #[.slice (some p) 20 c, .slice (some q) 20 d]).run P W = .ok (.int .i64 (acmp a b)) W := by
 have h1 := run_adBytes (P := P) ha
 have h2 := run_adBytes (P := P) hb
 change Sem.run P (do pure (goInt (Extern.BytealgCompare.cmp (← Extern.Bytes.bytesOf (.slice (some p) 20 c)) (← Extern.Bytes.bytesOf (.slice (some q) 20 d))))) W = _
 simp only [Extern.Bytes.bytesOf, Sem.run_bind, Sem.run_pure, Result.andThen, h1, h2]
 rw [Lib.cmp_eq]
 have key := cmp_low 20 a b
 rw [Nat.mod_eq_of_lt la, Nat.mod_eq_of_lt lb] at key
 simp only [key]
 rfl
def adC (n : Nat) : Array Value := (adL n).toArray
theorem adL_at (n j : Nat) (h : j < 20) : (adL n)[j]? = some (.int .u8 ((adB n j : Nat) : Int)) := by simp [adL, h]
theorem add_lit (B o j : Nat) : (⟨B, o, none⟩ : Addr).add j = ⟨B, o + j, none⟩ := by unfold Addr.add; split <;> simp_all
theorem compare_any (W : World) (p q : Addr) (a b c d : Nat) (ha : AdAt W p a) (hb : AdAt W q b) (la : a < 256 ^ 20) (lb : b < 256 ^ 20) :
  Calls Try.prog 22 #[.slice (some p) 20 c, .slice (some q) 20 d] W fun e w' => e = .returned (.int .i64 (acmp a b)) ∧ W = w' := by
 have HR := hid (run_compare (P := Try.prog) (c := c) (d := d) ha hb la lb)
 clear ha hb la lb
 generalize acmp a b = r at *
 go_enter Try.func22, Try.ntmps22
 go_wp2
 rw [run_callFunc_extern Try.func41 (by kernel_rfl) (by kernel_rfl) (by kernel_rfl) (e := Extern.BytealgCompare.compare) (by kernel_rfl), HR.out]
 simp only [Result.andThen]
 rw [Oper.upon_value]
 go_wp2
 go_ret
 exact ⟨rfl, rfl⟩
theorem acmp_zero (a b : Nat) : acmp a b = 0 ↔ a = b := by
 unfold acmp
 split
 ·constructor <;> intro h <;> omega
 ·split
  ·constructor <;> intro h <;> omega
  ·constructor <;> intro h <;> omega
def eqA (a b : Nat) : Bool := (List.range 20).all fun j => adB a j == adB b j
theorem eqA_iff {a b : Nat} (ha : a < 256 ^ 20) (hb : b < 256 ^ 20) : eqA a b = decide (a = b) := by
 rw [Bool.eq_iff_iff, decide_eq_true_eq]
 unfold eqA
 rw [List.all_eq_true]
 constructor
 ·intro h
  have hl : lowB 20 a = lowB 20 b := by
   apply List.ext_getElem?
   intro j
   by_cases hj : j < 20
   ·rw [lowB_at 20 a j hj, lowB_at 20 b j hj]
    have e := h j (List.mem_range.2 hj)
    have e' : adB a j = adB b j := by simpa using e
    unfold adB at e'
    rw [show 20 - 1 - j = 19 - j by omega, e']
   ·rw [List.getElem?_eq_none (by rw [lowB_len]; omega), List.getElem?_eq_none (by rw [lowB_len]; omega)]
  have k1 := cmp_low 20 a b
  have k2 := cmp_low 20 b b
  rw [hl, k2] at k1
  rw [Nat.mod_eq_of_lt ha, Nat.mod_eq_of_lt hb] at k1
  rw [(acmp_zero b b).2 rfl] at k1
  exact (acmp_zero a b).1 k1.symm
 ·rintro rfl j _
  exact beq_self_eq_true _
theorem adC_get (n i : Nat) (h : i < 20) : (adC n)[i]? = some (.int .u8 ((adB n i : Nat) : Int)) := by simp [adC, adL_at n i h]
theorem part20 (n : Nat) (i : Nat) (hi : i < 20) (w : World) : (part 5 (adC n) i).run Try.prog w = .ok (.int .u8 ((adB n i : Nat) : Int)) w := by
 have a3 := Try.isAgg5
 have hg := adC_get n i hi
 unfold part
 simp [go_sem, a3, hg]
theorem equal_u8 (d : Nat) (x y : Int) (w : World) : (Op.equalIn (d + 1) 5 (.int .u8 x) (.int .u8 y)).run Try.prog w = .ok (x == y) w := by
 rw [Op.equalIn]
 simp only [Sem.run_bind, run_underlying Try.underlying5, Result.andThen_ok]
 simp [go_sem]
theorem wpList_load_known {P : Program} {ops : Array Oper} {rest : List Oper} {o : Oper} {a : Act} {w : World} {Q : Exit → Act → World → Prop} (hw : Region.wanted o (yielded ops a.tmps) = true) (ty : TypeId) (x : Operand) (ho : o.op = .load ty x) (p : Addr) (hx : a.eval x = .pointer (some p)) (v : Value) (hr : (loadVar ty p).run P w = .ok v w)
  (h : wpList P ops Q rest (a.put o.dst v) w) : wpList P ops Q (o :: rest) a w :=
 wpList_step fun _ hK => by
  rw [if_pos hw]
  unfold Oper.wp execOp
  simp only [ho, hx, Instr.loadAt, Instr.sureAddr, Sem.run_bind, Sem.run_pure, Result.andThen_ok, hr]
  exact hK _ _ h
theorem run_loadVar_at {P : Program} (w : World) (a : Addr) (ty : TypeId) (cs : List Value) (d : TypeDesc) (hc : ∀ (j : Nat) (v : Value), cs[j]? = some v → w.cell? (a.add j) = some v)
  (hu : P.underlying ty = some d) (hd : d.isRow = true) (hi : (P.info? ty).map (·.size) = some cs.length) :
  (loadVar ty a).run P w = .ok (.agg cs.toArray) w := by
 have hl : (loadCells a cs.length).run P w = .ok cs.toArray w := run_loadCells_list (P := P) w a cs hc
 cases hq : P.info? ty with
 | none => simp [hq] at hi
 | some i =>
  have hs : i.size = cs.length := by simpa [hq] using hi
  have hagg : (isAgg ty).run P w = .ok true w := by
   unfold isAgg
   rw [Sem.run_bind, run_underlying hu w]
   cases d <;> simp_all
  simp [loadVar, Sem.run_bind, hagg, sizeOf, typeInfo, hq, hs, hl]
theorem infoAd : (Try.prog.info? 26).map (·.size) = some 20 := by kernel_rfl
theorem wpQuiet_load {P : Program} {ops : Array Oper} {C : World → Prop} {rest : List Oper} {o : Oper} {a : Act} {Q : Act → Prop} (hw : Region.wanted o (yielded ops a.tmps) = true) (ty : TypeId) (x : Operand) (ho : o.op = .load ty x) (p : Addr) (hx : a.eval x = .pointer (some p)) (v : Value) (hr : ∀ w, C w → (loadVar ty p).run P w = .ok v w)
  (h : wpQuiet P ops C Q rest (a.put o.dst v)) : wpQuiet P ops C Q (o :: rest) a :=
 BigFrame.wpQuiet_want hw fun K hK => ⟨v, fun w hc => by
  unfold Oper.quietAt execOp
  simp only [ho, hx, Instr.loadAt, Instr.sureAddr, Sem.run_bind, Sem.run_pure, Result.andThen_ok, hr w hc]
  exact ⟨rfl, rfl⟩, hK _ h⟩
structure Ky where
 at_ : Nat
 slot : Bool
 key : Nat
 deriving DecidableEq, Inhabited
def kyL (k : Ky) : List Value := adL k.at_ ++ [.bool k.slot, .int .u64 (lim k.key 0), .int .u64 (lim k.key 1), .int .u64 (lim k.key 2), .int .u64 (lim k.key 3)]
def kyC (k : Ky) : Array Value := (kyL k).toArray
structure KyOk (k : Ky) : Prop where
 at_ : k.at_ < 256 ^ 20
 key : W256 k.key
theorem kyL_len (k : Ky) : (kyL k).length = 25 := by simp [kyL, adL_len]
theorem kyC_size (k : Ky) : (kyC k).size = 25 := by simp [kyC, kyL_len]
theorem kyL_more (k : Ky) (j : Nat) : (kyL k)[20 + j]? = [.bool k.slot, .int .u64 (lim k.key 0), .int .u64 (lim k.key 1), .int .u64 (lim k.key 2), .int .u64 (lim k.key 3)][j]? := by
 unfold kyL
 rw [List.getElem?_append_right (by rw [adL_len]; omega), adL_len, Nat.add_sub_cancel_left]
theorem kyC_more (k : Ky) (j : Nat) : (kyC k)[20 + j]? = [.bool k.slot, .int .u64 (lim k.key 0), .int .u64 (lim k.key 1), .int .u64 (lim k.key 2), .int .u64 (lim k.key 3)][j]? := by
 rw [← kyL_more k j]
 simp [kyC]
theorem kyL_at (k : Ky) (j : Nat) (h : j < 20) : (kyL k)[j]? = some (.int .u8 ((adB k.at_ j : Nat) : Int)) := by
 unfold kyL
 rw [List.getElem?_append_left (by rw [adL_len]; exact h)]
 simp [adL, h]
theorem kyL_one (k : Ky) : ∀ u ∈ kyL k, u.oneCell' = true := fun u hu => by
 unfold kyL adL at hu
 rcases List.mem_append.1 hu with h | h
 ·obtain ⟨i, _, rfl⟩ := List.mem_map.1 h
  rfl
 ·simp only [List.mem_cons, List.not_mem_nil, or_false] at h
  rcases h with rfl | rfl | rfl | rfl | rfl
  all_goals rfl
theorem infoKy : (Try.prog.info? 31).map (·.size) = some 25 := by kernel_rfl
theorem Has.ky {W : World} {B : Nat} {k : Ky} (h : Has W B 31 (kyC k)) : W.cell? ⟨B, 20, none⟩ = some (.bool k.slot) ∧ W.cell? ⟨B, 21, none⟩ = some (.int .u64 (lim k.key 0)) ∧ W.cell? ⟨B, 22, none⟩ = some (.int .u64 (lim k.key 1)) ∧ W.cell? ⟨B, 23, none⟩ = some (.int .u64 (lim k.key 2)) ∧ W.cell? ⟨B, 24, none⟩ = some (.int .u64 (lim k.key 3)) :=
 ⟨h.cell 20 _ (kyC_more k 0), h.cell 21 _ (kyC_more k 1), h.cell 22 _ (kyC_more k 2), h.cell 23 _ (kyC_more k 3), h.cell 24 _ (kyC_more k 4)⟩
theorem Has.kyAd {W : World} {B : Nat} {t : TypeId} {k : Ky} (h : Has W B t (kyC k)) : AdAt W ⟨B, 0, none⟩ k.at_ := fun j hj => by
 rw [add_lit, Nat.zero_add]
 exact h.cell j _ (by simp [kyC, kyL_at k j hj])
theorem Has.kyLoad {W : World} {B : Nat} {k : Ky} (h : Has W B 31 (kyC k)) : (loadVar 31 ⟨B, 0, none⟩).run Try.prog W = .ok (.agg (kyC k)) W :=
 run_loadVar_row _ _ _ _ _ (0, 0) _ h Try.underlying31 rfl (by rw [kyC_size]; exact infoKy)
theorem eqv_k (a b : Nat) (ha : W256 a) (hb : W256 b) : (lim a 0 == lim b 0 && lim a 1 == lim b 1 && lim a 2 == lim b 2 && lim a 3 == lim b 3) = decide (a = b) := by
 by_cases h : a = b
 ·subst h; simp
 ·rw [decide_eq_false h]
  refine Bool.eq_false_iff.2 fun e => h ?_
  simp only [Bool.and_eq_true, beq_iff_eq] at e
  exact lim_ext ha hb fun k hk => by
   obtain rfl | rfl | rfl | rfl : k = 0 ∨ k = 1 ∨ k = 2 ∨ k = 3 := by omega
   ·exact e.1.1.1
   ·exact e.1.1.2
   ·exact e.1.2
   ·exact e.2
def kcmp (a b : Ky) : Int := if acmp a.at_ b.at_ = 0 then (if a.slot = b.slot then wcmp a.key b.key else if a.slot = true then 1 else -1) else acmp a.at_ b.at_
theorem korder_any (W : World) (a b : Ky) (ha : KyOk a) (hb : KyOk b) :
  Calls Try.prog 8 #[.agg (kyC a), .agg (kyC b)] W fun e w' => e = .returned (.int .i64 (kcmp a b)) ∧ Below W.heap.size W w' := by
 have hmx : Try.prog.follows .mixedOrders = true := by kernel_rfl
 have K1 := (Has.new W 31 (kyC a)).alloc (.cells (kyC b) 31)
 have K2 := Has.new (W.alloc (.cells (kyC a) 31)) 31 (kyC b)
 simp only [World.size_alloc] at K2
 have q0 := (newA W (.cells (kyC a) 31)).alloc (by simp) (.cells (kyC b) 31)
 obtain ⟨V, hV⟩ : ∃ V, (W.alloc (.cells (kyC a) 31)).alloc (.cells (kyC b) 31) = V := ⟨_, rfl⟩
 rw [hV] at K1 K2 q0
 have HC := hid (fun z : Ext V => (show Calls Try.prog 22 #[.slice (some ⟨W.heap.size, 0, none⟩) 20 20, .slice (some ⟨W.heap.size + 1, 0, none⟩) 20 20] z.w fun e w' => e = .returned (.int .i64 (acmp a.at_ b.at_)) ∧ ∃ y : Ext V, w' = y.w from
  (compare_any z.w _ _ a.at_ b.at_ 20 20 (K1.later z.below).kyAd (K2.later z.below).kyAd ha.at_ hb.at_).mono fun _ _ ⟨h1, h2⟩ => ⟨h1, z, h2.symm⟩))
 have HW := hid (cmp_ret a.key b.key ha.key hb.key)
 have CA := hid (fun z : Ext V => (K1.later z.below).ky)
 have CB := hid (fun z : Ext V => (K2.later z.below).ky)
 have Q := hid q0
 obtain ⟨kv, hkv⟩ : ∃ kv, kcmp a b = kv := ⟨_, rfl⟩
 rw [hkv]
 unfold kcmp at hkv
 unfold wv at HW
 generalize acmp a.at_ b.at_ = r at *
 generalize wcmp a.key b.key = s at *
 generalize kyC a = cs at *
 generalize kyC b = ds at *
 clear q0 ha hb K1 K2
 obtain ⟨_, sa, ka⟩ := a
 obtain ⟨_, sb, kb⟩ := b
 simp only at CA CB HW hkv ⊢
 have HK := hid hkv
 clear hkv
 go_enter Try.func8, Try.ntmps8
 go_wp2_with fail
 refine wp_region_quietL (C := Grows V) hmx (by kernel_rfl) (grows_refl V) ?_
 repeat (go_big_quiet_step (first | (with_reducible exact HC.out _)))
 refine wpQuiet_nil ?_
 rintro _ ⟨z, rfl⟩
 have QE := hid (Q.out.trans (z.below.mono Q.out.size))
 obtain ⟨a0, a1, a2, a3, a4⟩ := CA.out z
 obtain ⟨b0, b1, b2, b3, b4⟩ := CB.out z
 by_cases hr : r = 0
 ·subst hr
  cases sa <;> cases sb
  ·go_wp2_with fail
   refine (HW.out _).mono ?_
   rintro e w1 ⟨rfl, hb1⟩
   have QF := hid (QE.out.trans (hb1.mono QE.out.size))
   go_wp2_with fail
   go_ret
   exact ⟨by rw [← HK.out]; rfl, QF.out⟩
  ·go_wp2_with fail
   go_ret
   exact ⟨by rw [← HK.out]; first | rfl | (rw [if_neg hr]; rfl), QE.out⟩
  ·go_wp2_with fail
   go_ret
   exact ⟨by rw [← HK.out]; first | rfl | (rw [if_neg hr]; rfl), QE.out⟩
  ·go_wp2_with fail
   refine (HW.out _).mono ?_
   rintro e w1 ⟨rfl, hb1⟩
   have QF := hid (QE.out.trans (hb1.mono QE.out.size))
   go_wp2_with fail
   go_ret
   exact ⟨by rw [← HK.out]; rfl, QF.out⟩
 ·go_wp2_with fail
  go_ret
  exact ⟨by rw [← HK.out]; first | rfl | (rw [if_neg hr]; rfl), QE.out⟩
end
section
open Go Go.RowKit
def RawAt (W : World) (v : Value) (zs : List (Int × Int)) : Prop :=
 ∃ a cap, v = .slice a zs.length cap ∧ zs.length ≤ cap ∧ cap ≤ 9223372036854775807 ∧ ∀ (i : Nat) (p : Int × Int), zs[i]? = some p → I64 p.1 ∧ I64 p.2 ∧ ∃ b, a = some b ∧ W.cell? (b.add (i * 2)) = some (.int .i64 p.1) ∧ W.cell? ((b.add (i * 2)).add 1) = some (.int .i64 p.2)
theorem Addr.add_add (b : Addr) (i j : Nat) : (b.add i).add j = b.add (i + j) := by
 unfold Addr.add
 by_cases hi : i = 0
 ·subst hi; simp
 ·by_cases hj : j = 0
  ·subst hj; simp [hi]
  ·simp only [hi, hj, if_false]
   rw [if_neg (by omega)]
   simp []
theorem RawAt.keep {W X : World} {v : Value} {zs : List (Int × Int)} (h : RawAt W v zs) (hk : ∀ (a : Addr) (u : Value), W.cell? a = some u → X.cell? a = some u) : RawAt X v zs := by
 obtain ⟨a, cap, h1, h2, h3, h4⟩ := h
 refine ⟨a, cap, h1, h2, h3, fun i p hp => ?_⟩
 obtain ⟨g1, g2, b, e, c0, c1⟩ := h4 i p hp
 exact ⟨g1, g2, b, e, hk _ _ c0, hk _ _ c1⟩
theorem cell_lt {W : World} {a : Addr} {u : Value} (h : W.cell? a = some u) : a.block < W.heap.size := by
 unfold World.cell? at h
 rcases Nat.lt_or_ge a.block W.heap.size with h' | h'
 ·exact h'
 ·rw [Array.getElem?_eq_none h'] at h
  cases h
theorem cell_below {W X : World} (hb : Below W.heap.size W X) (a : Addr) (u : Value) (h : W.cell? a = some u) : X.cell? a = some u := by
 exact (World.cell?_of_block (hb.block _ (cell_lt h))).trans h
theorem RawAt.later {W X : World} {v : Value} {zs : List (Int × Int)} (h : RawAt W v zs) (hb : Below W.heap.size W X) : RawAt X v zs := h.keep (cell_below hb)
end
section
open Go Go.RowKit
attribute [local go_sem] Oper.semAt_some Grows wide_fn
theorem Ext.atK {W : World} {z : Ext W} {P : Program} {f : FuncId} {args : Array Value} {v : Value} (h : Calls P f args z.w fun e w' => e = .returned v ∧ Below z.w.heap.size z.w w') : Calls P f args z.w fun e w' => e = .returned v ∧ ∃ x : Ext W, w' = x.w :=
 h.mono fun _ w' ⟨h1, h2⟩ => ⟨h1, ⟨w', z.below.trans (h2.mono z.below.size)⟩, rfl⟩
def KyIn (W : World) (p : Addr) (x : Ky) : Prop := ∀ (j : Nat) (u : Value), (kyL x)[j]? = some u → W.cell? (p.add j) = some u
theorem KyIn.later {W X : World} {p : Addr} {x : Ky} (h : KyIn W p x) (hb : Below W.heap.size W X) : KyIn X p x := fun j u hj => cell_below hb _ _ (h j u hj)
theorem KyIn.load {W : World} {p : Addr} {x : Ky} (h : KyIn W p x) : (loadVar 31 p).run Try.prog W = .ok (.agg (kyC x)) W :=
 run_loadVar_at W p _ (kyL x) _ h Try.underlying31 rfl (by rw [kyL_len]; exact infoKy)
def KeysAt (W : World) (v : Value) (l : List Ky) : Prop :=
 ∃ a cap, v = .slice a l.length cap ∧ l.length ≤ cap ∧ cap ≤ 9223372036854775807 ∧ (∀ x ∈ l, KyOk x) ∧ ∀ (i : Nat) (x : Ky), l[i]? = some x → ∃ b, a = some b ∧ KyIn W (b.add (i * 25)) x
theorem KeysAt.keep {W X : World} {v : Value} {l : List Ky} (h : KeysAt W v l) (hk : ∀ (a : Addr) (u : Value), W.cell? a = some u → X.cell? a = some u) : KeysAt X v l := by
 obtain ⟨a, cap, h1, h2, h3, h4, h5⟩ := h
 refine ⟨a, cap, h1, h2, h3, h4, fun i x hx => ?_⟩
 obtain ⟨b, e, hc⟩ := h5 i x hx
 exact ⟨b, e, fun j u hj => hk _ _ (hc j u hj)⟩
theorem KeysAt.later {W X : World} {v : Value} {l : List Ky} (h : KeysAt W v l) (hb : Below W.heap.size W X) : KeysAt X v l := h.keep (cell_below hb)
theorem KeysAt.nil (W : World) : KeysAt W (.slice none 0 0) [] := ⟨none, 0, rfl, by simp, by omega, (fun x hx => by cases hx), fun i x hx => by simp at hx⟩
theorem KeysAt.shape {W : World} {v : Value} {l : List Ky} (h : KeysAt W v l) : ∃ a cap, v = .slice a l.length cap ∧ l.length ≤ cap ∧ cap ≤ 9223372036854775807 := by
 obtain ⟨a, cap, h1, h2, h3, _⟩ := h
 exact ⟨a, cap, h1, h2, h3⟩
theorem KeysAt.all {W : World} {v : Value} {l : List Ky} (h : KeysAt W v l) : ∀ x ∈ l, KyOk x := by
 obtain ⟨a, cap, h1, h2, h3, h4, _⟩ := h
 exact h4
theorem KeysAt.ok {W : World} {v : Value} {l : List Ky} (h : KeysAt W v l) {i : Nat} {x : Ky} (hx : l[i]? = some x) : KyOk x := h.all x (List.mem_of_getElem? hx)
theorem KeysAt.at {W : World} {a : Option Addr} {n cap : Nat} {l : List Ky} (h : KeysAt W (.slice a n cap) l) {i : Nat} {x : Ky} (hx : l[i]? = some x) : ∃ b, a = some b ∧ KyIn W (b.add (i * 25)) x := by
 obtain ⟨a', cap', h1, h2, h3, h4, h5⟩ := h
 injection h1 with e1 e2 e3
 subst e1
 exact h5 i x hx
theorem KeysAt.in {W : World} {b : Addr} {n cap : Nat} {l : List Ky} (h : KeysAt W (.slice (some b) n cap) l) {i : Nat} {x : Ky} (hx : l[i]? = some x) : KyIn W (b.add (i * 25)) x := by
 obtain ⟨b', e, h⟩ := h.at hx
 injection e with e
 subst e
 exact h
theorem kcmp_zero {a b : Ky} : kcmp a b = 0 ↔ a = b := by
 unfold kcmp
 by_cases h : acmp a.at_ b.at_ = 0
 ·rw [if_pos h]
  have h1 := (acmp_zero _ _).1 h
  by_cases hs : a.slot = b.slot
  ·rw [if_pos hs]
   obtain ⟨a1, a2, a3⟩ := a
   obtain ⟨b1, b2, b3⟩ := b
   simp only at h1 hs ⊢
   subst h1 hs
   unfold wcmp
   constructor
   ·intro h
    split at h
    ·omega
    ·split at h
     ·omega
     ·rw [show a3 = b3 by omega]
   ·intro h
    injection h with _ _ h
    rw [if_neg (by omega), if_neg (by omega)]
  ·rw [if_neg hs]
   constructor
   ·intro h; split at h <;> omega
   ·intro h; subst h; exact absurd rfl hs
 ·rw [if_neg h]
  exact ⟨fun h' => absurd h' h, fun h' => by subst h'; exact absurd ((acmp_zero _ _).2 rfl) h⟩
def Kl (a b : Ky) : Prop := kcmp a b < 0
theorem acmp_lt {a b : Nat} : acmp a b < 0 ↔ a < b := by
 unfold acmp
 split
 ·exact ⟨fun _ => by omega, fun _ => by decide⟩
 ·split <;> exact ⟨fun h => by omega, fun h => by omega⟩
theorem wcmp_lt {a b : Nat} : wcmp a b < 0 ↔ a < b := by
 unfold wcmp
 repeat' split
 all_goals exact ⟨fun h => by omega, fun h => by omega⟩
theorem kl_iff {a b : Ky} : Kl a b ↔ a.at_ < b.at_ ∨ (a.at_ = b.at_ ∧ ((a.slot = false ∧ b.slot = true) ∨ (a.slot = b.slot ∧ a.key < b.key))) := by
 unfold Kl kcmp
 by_cases h : acmp a.at_ b.at_ = 0
 ·rw [if_pos h]
  have h1 := (acmp_zero _ _).1 h
  by_cases hs : a.slot = b.slot
  ·rw [if_pos hs, wcmp_lt]
   constructor
   ·intro h; exact .inr ⟨h1, .inr ⟨hs, h⟩⟩
   ·rintro (h | ⟨_, ⟨h, h'⟩ | ⟨_, h⟩⟩)
    ·omega
    ·rw [h, h'] at hs; cases hs
    ·exact h
  ·rw [if_neg hs]
   constructor
   ·intro h
    refine .inr ⟨h1, .inl ?_⟩
    cases ha : a.slot <;> cases hb : b.slot <;> simp_all
   ·rintro (h | ⟨_, ⟨h, h'⟩ | ⟨h, _⟩⟩)
    ·omega
    ·rw [h]; decide
    ·exact absurd h hs
 ·rw [if_neg h, acmp_lt]
  have h1 : ¬ a.at_ = b.at_ := fun e => h ((acmp_zero _ _).2 e)
  exact ⟨fun h => .inl h, fun h => by rcases h with h | h; exact h; exact absurd h.1 h1⟩
theorem Kl.trans {a b c : Ky} (h : Kl a b) (k : Kl b c) : Kl a c := by
 rw [kl_iff] at *
 rcases h with h | ⟨h, h' | h'⟩ <;> rcases k with k | ⟨k, k' | k'⟩
 ·exact .inl (by omega)
 ·exact .inl (by omega)
 ·exact .inl (by omega)
 ·exact .inl (by omega)
 ·rw [h'.2] at k'; cases k'.1
 ·exact .inr ⟨by omega, .inl ⟨h'.1, by rw [← k'.1]; exact h'.2⟩⟩
 ·exact .inl (by omega)
 ·exact .inr ⟨by omega, .inl ⟨by rw [h'.1]; exact k'.1, k'.2⟩⟩
 ·exact .inr ⟨by omega, .inr ⟨h'.1.trans k'.1, by omega⟩⟩
theorem Kl.irrefl (a : Ky) : ¬ Kl a a := fun h => by unfold Kl at h; rw [kcmp_zero.2 rfl] at h; omega
theorem kcmp_tri (a b : Ky) : (Kl a b ∧ kcmp a b = -1) ∨ (a = b ∧ kcmp a b = 0) ∨ (Kl b a ∧ kcmp a b = 1) := by
 have key : kcmp a b = -1 ∨ kcmp a b = 0 ∨ kcmp a b = 1 := by
  unfold kcmp acmp wcmp
  repeat' split
  all_goals omega
 rcases key with h | h | h
 ·exact .inl ⟨by unfold Kl; omega, h⟩
 ·exact .inr (.inl ⟨kcmp_zero.1 h, h⟩)
 ·refine .inr (.inr ⟨?_, h⟩)
  have hn : ¬ Kl a b := fun k => by unfold Kl at k; omega
  have he : ¬ a = b := fun e => by rw [kcmp_zero.2 e] at h; omega
  rw [kl_iff] at hn ⊢
  rcases Nat.lt_trichotomy a.at_ b.at_ with h1 | h1 | h1
  ·exact absurd (.inl h1) hn
  ·refine .inr ⟨h1.symm, ?_⟩
   cases ha : a.slot <;> cases hb : b.slot
   ·rcases Nat.lt_trichotomy a.key b.key with h2 | h2 | h2
    ·exact absurd (.inr ⟨h1, .inr ⟨by rw [ha, hb], h2⟩⟩) hn
    ·exact absurd (by obtain ⟨a1, a2, a3⟩ := a; obtain ⟨b1, b2, b3⟩ := b; simp only at h1 ha hb h2; subst h1 h2 ha hb; rfl) he
    ·exact .inr ⟨rfl, h2⟩
   ·exact absurd (.inr ⟨h1, .inl ⟨ha, hb⟩⟩) hn
   ·exact .inl ⟨rfl, rfl⟩
   ·rcases Nat.lt_trichotomy a.key b.key with h2 | h2 | h2
    ·exact absurd (.inr ⟨h1, .inr ⟨by rw [ha, hb], h2⟩⟩) hn
    ·exact absurd (by obtain ⟨a1, a2, a3⟩ := a; obtain ⟨b1, b2, b3⟩ := b; simp only at h1 ha hb h2; subst h1 h2 ha hb; rfl) he
    ·exact .inr ⟨rfl, h2⟩
  ·exact .inl h1
def Kup (l : List Ky) : Prop := l.Pairwise Kl
noncomputable def kupB (l : List Ky) : Bool := @decide (Kup l) (Classical.propDecidable _)
theorem kupB_iff (l : List Ky) : kupB l = true ↔ Kup l := by unfold kupB; exact @decide_eq_true_iff _ (Classical.propDecidable _)
theorem kupB_false {l : List Ky} (h : ¬ Kup l) : kupB l = false := by
 rcases hb : kupB l with _ | _
 ·rfl
 ·exact absurd ((kupB_iff l).1 hb) h
theorem kup_at {l : List Ky} : Kup l ↔ ∀ (j : Nat) (x y : Ky), l[j]? = some x → l[j + 1]? = some y → Kl x y := by
 constructor
 ·intro h j x y hx hy
  have := List.pairwise_iff_getElem.1 h j (j + 1) (List.getElem?_eq_some_iff.1 hx).1 (List.getElem?_eq_some_iff.1 hy).1 (by omega)
  rw [(List.getElem?_eq_some_iff.1 hx).2, (List.getElem?_eq_some_iff.1 hy).2] at this
  exact this
 ·intro h
  have key : ∀ (d i : Nat) (x y : Ky), l[i]? = some x → l[i + d + 1]? = some y → Kl x y := by
   intro d
   induction d with
   | zero => intro i x y hx hy; exact h i x y hx hy
   | succ d ih =>
    intro i x y hx hy
    obtain ⟨z, hz⟩ : ∃ z, l[i + d + 1]? = some z := ⟨_, List.getElem?_eq_getElem (by have := (List.getElem?_eq_some_iff.1 hy).1; omega)⟩
    exact (ih i x z hx hz).trans (h (i + d + 1) z y hz (by rw [← hy]; congr 1))
  refine List.pairwise_iff_getElem.2 (fun i j hi hj hij => ?_)
  have := key (j - i - 1) i l[i] l[j] (List.getElem?_eq_getElem hi) (by rw [show i + (j - i - 1) + 1 = j by omega]; exact List.getElem?_eq_getElem hj)
  exact this
def strayK (k : Ky) : Bool := !k.slot && decide (k.key ≠ 0)
attribute [local go_sem] eq4
theorem stray_anyK (W : World) (a : Ky) (ha : KyOk a) :
  Calls Try.prog 27 #[.agg (kyC a)] W fun e w' => e = .returned (.bool (strayK a)) ∧ Below W.heap.size W w' := by
 have K1 := Has.new W 31 (kyC a)
 have q0 := newA W (.cells (kyC a) 31)
 obtain ⟨V, hV⟩ : ∃ V, W.alloc (.cells (kyC a) 31) = V := ⟨_, rfl⟩
 rw [hV] at K1 q0
 obtain ⟨a0, a1, a2, a3, a4⟩ := K1.ky
 have Q := hid q0
 have hz : (lim a.key 0 == 0 && lim a.key 1 == 0 && lim a.key 2 == 0 && lim a.key 3 == 0) = decide (a.key = 0) := eqv_k a.key 0 ha.key (by unfold W256; omega)
 obtain ⟨kv, hkv⟩ : ∃ kv, strayK a = kv := ⟨_, rfl⟩
 rw [hkv]
 unfold strayK at hkv
 generalize kyC a = cs at *
 obtain ⟨_, sa, ka⟩ := a
 simp only at a0 a1 a2 a3 a4 hkv hz ⊢
 have HK := hid hkv
 have HZ := hid hz
 clear hkv q0 K1 ha hz
 cases sa
 ·go_enter Try.func27, Try.ntmps27
  go_wp2_with fail
  go_ret
  refine ⟨?_, Q.out⟩
  rw [← HK.out]
  rw [show decide (ka ≠ 0) = !decide (ka = 0) by simp, ← HZ.out]
  first | rfl | simp
 ·go_enter Try.func27, Try.ntmps27
  go_wp2_with fail
  go_ret
  exact ⟨by rw [← HK.out]; rfl, Q.out⟩
theorem long_any (W : World) (sv : Value) (l : List Ky) (hs : KeysAt W sv l) :
  Calls Try.prog 29 #[sv] W fun e w' => e = .returned (.bool (decide (200 < l.length))) ∧ Below W.heap.size W w' := by
 obtain ⟨a, cap, rfl, hnc, hcm⟩ := hs.shape
 clear hs
 generalize l.length = n at *
 have hd : decide ((200 : Int) < (n : Int)) = decide (200 < n) := by rw [decide_eq_decide]; omega
 rw [← hd]
 clear hd hnc hcm
 go_enter Try.func29, Try.ntmps29
 go_wp2_with fail
 go_ret
 exact ⟨rfl, Below.refl _ _⟩
theorem kcmp_ge (a b : Ky) : 0 ≤ kcmp a b ↔ ¬ Kl a b := by unfold Kl; omega
theorem krises_any (W : World) (sv : Value) (l : List Ky) (hs : KeysAt W sv l) :
  Calls Try.prog 53 #[sv, .func (.func 8) #[] #[]] W fun e w' => e = .returned (.bool (kupB l)) ∧ Below W.heap.size W w' := by
 have hmx : Try.prog.follows .mixedOrders = true := by kernel_rfl
 obtain ⟨a, cap, rfl, hnc, hcm⟩ := hs.shape
 have HS := hid hs
 obtain ⟨n, hn⟩ : ∃ n, l.length = n := ⟨_, rfl⟩
 rw [hn] at HS hnc ⊢
 have HN := hid hn
 have hlc := hid (Nat.le_trans hnc hcm)
 clear hs hnc hcm hn
 have hfin := hid (show ∀ X v, Below W.heap.size W X → kupB l = v → (Ending.returned (.bool v) = .returned (.bool (kupB l)) ∧ Below W.heap.size W X) from fun X v hX h => ⟨by rw [h], hX⟩)
 obtain ⟨Post, hPost⟩ : ∃ Post : Ending → World → Prop, (fun (e : Ending) (w' : World) => e = .returned (.bool (kupB l)) ∧ Below W.heap.size W w') = Post := ⟨_, rfl⟩
 replace hfin := hid (show ∀ X v, Below W.heap.size W X → kupB l = v → Post (.returned (.bool v)) X by rw [← hPost]; exact hfin.out)
 rw [hPost]
 clear hPost
 go_enter Try.func53, Try.ntmps53
 go_wp2_with fail
 go_loopw [5] (fun i wr => ∃ k : Nat, 1 ≤ k ∧ (k ≤ n ∨ k = 1) ∧ i = .int .i64 (k : Int) ∧ (∀ (j : Nat) (x y : Ky), j + 1 < k → l[j]? = some x → l[j + 1]? = some y → Kl x y) ∧ Below W.heap.size W wr) (fun i _ => n - (intOf i).toNat)
 case atStart => exact ⟨1, by omega, .inr rfl, rfl, fun j x y h => absurd h (by omega), Below.refl _ _⟩
 case round =>
  obtain ⟨k, hk1, hk, rfl, hlt, hq⟩ := hrel
  have HLT := hid hlt
  have HQ := hid hq
  clear hlt hq
  by_cases hkn : k < n
  ·have hknI : (k : Int) < (n : Int) := by omega
   have hk0 : (0 : Int) ≤ (k : Int) := by omega
   have hkb : (k : Int) ≤ 9223372036854775806 := by have := hlc.out; omega
   obtain ⟨m, hm⟩ : ∃ m, k - 1 = m := ⟨_, rfl⟩
   have hm1 : (k : Int) - 1 = (m : Int) := by omega
   have hm2 : (m : Int) < (n : Int) := by omega
   obtain ⟨x, hx⟩ : ∃ x, l[m]? = some x := ⟨_, List.getElem?_eq_getElem (by have := HN.out; omega)⟩
   obtain ⟨y, hy⟩ : ∃ y, l[k]? = some y := ⟨_, List.getElem?_eq_getElem (by have := HN.out; omega)⟩
   obtain ⟨b, rfl, ax⟩ := (HS.out.later HQ.out).at hx
   have ay := (HS.out.later HQ.out).in hy
   have LX := hid (show ∀ z : World, Grows wr z → (loadVar 31 (b.add (m * 25))).run Try.prog z = .ok (.agg (kyC x)) z from fun z hz => by obtain ⟨q, rfl⟩ := hz; exact (ax.later q.below).load)
   have LY := hid (show ∀ z : World, Grows wr z → (loadVar 31 (b.add (k * 25))).run Try.prog z = .ok (.agg (kyC y)) z from fun z hz => by obtain ⟨q, rfl⟩ := hz; exact (ay.later q.below).load)
   have K3 := hid (fun z : Ext wr => Ext.atK (korder_any z.w x y (HS.out.ok hx) (HS.out.ok hy)))
   have hcge := hid (kcmp_ge x y)
   generalize kcmp x y = c at *
   generalize kyC x = cx at *
   generalize kyC y = cy at *
   have HX := hid (And.intro hx hy)
   have HM := hid hm
   have HK := hid (And.intro hk1 hkn)
   clear hx hy hm hk1 hk hkn ax ay
   by_cases hc0 : 0 ≤ c
   ·go_wp2_with fail
    refine wp_region_quietL (C := Grows wr) hmx (by kernel_rfl) (grows_refl wr) ?_
    repeat (first | (with_reducible refine wpQuiet_load rfl 31 _ rfl _ rfl _ LX.out ?_; simp only [Act.put, sT, sS, sZ]) | (with_reducible refine wpQuiet_load rfl 31 _ rfl _ rfl _ LY.out ?_; simp only [Act.put, sT, sS, sZ]) | (go_big_quiet_step (first | (with_reducible exact K3.out _))))
    refine wpQuiet_nil ?_
    rintro _ ⟨z, rfl⟩
    have hno := hid (show kupB l = false from kupB_false (fun hr => by
     have h1 := kup_at.1 hr m x y HX.out.1 (by rw [show m + 1 = k by have := HM.out; have := HK.out; omega]; exact HX.out.2)
     exact hcge.out.1 hc0 h1))
    have HE := hid (HQ.out.trans (z.below.mono HQ.out.size))
    clear LX LY K3
    go_wp2_with fail
    exact hfin.out _ _ HE.out hno.out
   ·go_wp2_with fail
    refine wp_region_quietL (C := Grows wr) hmx (by kernel_rfl) (grows_refl wr) ?_
    repeat (first | (with_reducible refine wpQuiet_load rfl 31 _ rfl _ rfl _ LX.out ?_; simp only [Act.put, sT, sS, sZ]) | (with_reducible refine wpQuiet_load rfl 31 _ rfl _ rfl _ LY.out ?_; simp only [Act.put, sT, sS, sZ]) | (go_big_quiet_step (first | (with_reducible exact K3.out _))))
    refine wpQuiet_nil ?_
    rintro _ ⟨z, rfl⟩
    have HE := hid (HQ.out.trans (z.below.mono HQ.out.size))
    have hlt := hid (show Kl x y from Classical.byContradiction (fun h => by have := hcge.out.2 h; omega))
    clear LX LY K3
    go_wp2_with fail
    go_roundw
    case rel =>
     refine ⟨k + 1, by omega, .inl (by have := HK.out; omega), by simp, fun j x' y' hj h1 h2 => ?_, HE.out⟩
     by_cases hjk : j + 1 < k
     ·exact HLT.out j x' y' hjk h1 h2
     ·have hjk' : j = m := by have := HM.out; have := HK.out; omega
      subst hjk'
      rw [HX.out.1] at h1
      rw [show j + 1 = k by have := HM.out; have := HK.out; omega, HX.out.2] at h2
      injection h1 with h1
      injection h2 with h2
      subst h1 h2
      exact hlt.out
    case measure => have := HK.out; simp [intOf]; omega
  ·have hknI : ¬ (k : Int) < (n : Int) := by omega
   have hyes := hid (show kupB l = true from (kupB_iff l).2 (kup_at.2 (fun j x y hx hy => HLT.out j x y (by
    have := (List.getElem?_eq_some_iff.1 hy).1
    have := HN.out
    omega) hx hy)))
   clear hk hkn hk1
   go_wp2_with fail
   exact hfin.out _ _ HQ.out hyes.out
def idxK (p : Ky → Bool) (l : List Ky) : Int := if l.any p = true then (l.findIdx p : Int) else -1
theorem idxK_hit {p : Ky → Bool} {l : List Ky} {k : Nat} {x : Ky} (hx : l[k]? = some x) (hp : p x = true) (h : ∀ (j : Nat) (y : Ky), j < k → l[j]? = some y → p y = false) : idxK p l = (k : Int) := by
 have hk := (List.getElem?_eq_some_iff.1 hx).1
 have he := (List.getElem?_eq_some_iff.1 hx).2
 unfold idxK
 rw [if_pos (List.any_eq_true.2 ⟨x, List.mem_of_getElem? hx, hp⟩)]
 have : l.findIdx p = k := by
  rw [List.findIdx_eq hk]
  exact ⟨by rw [he]; exact hp, fun j hj => h j _ hj (List.getElem?_eq_getElem (by omega))⟩
 rw [this]
theorem idxK_no {p : Ky → Bool} {l : List Ky} (h : ∀ (j : Nat) (y : Ky), l[j]? = some y → p y = false) : idxK p l = -1 := by
 unfold idxK
 rw [if_neg]
 intro ha
 obtain ⟨x, hx, hp⟩ := List.any_eq_true.1 ha
 obtain ⟨j, hj⟩ := List.mem_iff_getElem?.1 hx
 rw [h j x hj] at hp
 cases hp
theorem idxK_ge (p : Ky → Bool) (l : List Ky) : decide (0 ≤ idxK p l) = l.any p := by
 unfold idxK
 by_cases h : l.any p = true
 ·rw [if_pos h, h]; exact decide_eq_true (by omega)
 ·rw [if_neg h, Bool.eq_false_iff.2 h]; rfl
theorem kindexf_any (W : World) (sv : Value) (l : List Ky) (hs : KeysAt W sv l) :
  Calls Try.prog 47 #[sv, .func (.func 27) #[] #[]] W fun e w' => e = .returned (.int .i64 (idxK strayK l)) ∧ Below W.heap.size W w' := by
 obtain ⟨a, cap, rfl, hnc, hcm⟩ := hs.shape
 have HS := hid hs
 obtain ⟨n, hn⟩ : ∃ n, l.length = n := ⟨_, rfl⟩
 rw [hn] at HS hnc ⊢
 have HN := hid hn
 have hlc := hid (Nat.le_trans hnc hcm)
 clear hs hnc hcm hn
 have hfin := hid (show ∀ X v, Below W.heap.size W X → idxK strayK l = v → (Ending.returned (.int .i64 v) = .returned (.int .i64 (idxK strayK l)) ∧ Below W.heap.size W X) from fun X v hX h => ⟨by rw [h], hX⟩)
 obtain ⟨Post, hPost⟩ : ∃ Post : Ending → World → Prop, (fun (e : Ending) (w' : World) => e = .returned (.int .i64 (idxK strayK l)) ∧ Below W.heap.size W w') = Post := ⟨_, rfl⟩
 replace hfin := hid (show ∀ X v, Below W.heap.size W X → idxK strayK l = v → Post (.returned (.int .i64 v)) X by rw [← hPost]; exact hfin.out)
 rw [hPost]
 clear hPost
 go_enter Try.func47, Try.ntmps47
 go_wp2_with fail
 go_loopw [8] (fun i wr => ∃ k : Nat, k ≤ n ∧ i = .int .i64 (k : Int) ∧ (∀ (j : Nat) (y : Ky), j < k → l[j]? = some y → strayK y = false) ∧ Below W.heap.size W wr) (fun i _ => n - (intOf i).toNat)
 case atStart => exact ⟨0, Nat.zero_le _, rfl, fun j x h => absurd h (by omega), Below.refl _ _⟩
 case round =>
  obtain ⟨k, hk, rfl, hlt, hq⟩ := hrel
  have HLT := hid hlt
  have HQ := hid hq
  clear hlt hq
  by_cases hkn : k < n
  ·have hknI : (k : Int) < (n : Int) := by omega
   have hk0 : (0 : Int) ≤ (k : Int) := by omega
   have hkb : (k : Int) ≤ 9223372036854775806 := by have := hlc.out; omega
   obtain ⟨x, hx⟩ : ∃ x, l[k]? = some x := ⟨_, List.getElem?_eq_getElem (by have := HN.out; omega)⟩
   obtain ⟨b, rfl, ax⟩ := (HS.out.later HQ.out).at hx
   have LX := hid ax.load
   have K3 := hid (stray_anyK wr x (HS.out.ok hx))
   have HX := hid hx
   have HK := hid hkn
   clear hx hk hkn ax
   generalize kyC x = cx at *
   cases hp : strayK x
   ·rw [hp] at K3
    have HP := hid hp
    clear hp
    go_wp2_with (first | (with_reducible refine wpList_load_known rfl _ (.tmp 14) rfl _ rfl _ LX.out ?_) | (go_at_call 27; refine K3.out.mono ?_; rintro e w1 ⟨rfl, hb1⟩))
    have HE := hid (HQ.out.trans (hb1.mono HQ.out.size))
    go_wp2_with fail
    go_roundw
    case rel =>
     refine ⟨k + 1, by have := HK.out; omega, by simp, fun j y hj hy => ?_, HE.out⟩
     by_cases hjk : j < k
     ·exact HLT.out j y hjk hy
     ·obtain rfl : j = k := by omega
      rw [HX.out] at hy
      injection hy with hy
      subst hy
      exact HP.out
    case measure => have := HK.out; simp [intOf]; omega
   ·rw [hp] at K3
    have HP := hid hp
    clear hp
    go_wp2_with (first | (with_reducible refine wpList_load_known rfl _ (.tmp 14) rfl _ rfl _ LX.out ?_) | (go_at_call 27; refine K3.out.mono ?_; rintro e w1 ⟨rfl, hb1⟩))
    have HE := hid (HQ.out.trans (hb1.mono HQ.out.size))
    go_wp2_with fail
    exact hfin.out _ _ HE.out (idxK_hit HX.out HP.out HLT.out)
  ·have hknI : ¬ (k : Int) < (n : Int) := by omega
   have hno := hid (show idxK strayK l = -1 from idxK_no (fun j y hy => HLT.out j y (by have := (List.getElem?_eq_some_iff.1 hy).1; have := HN.out; omega) hy))
   clear hk hkn
   go_wp2_with fail
   exact hfin.out _ _ HQ.out hno.out
theorem kcontf_any (W : World) (sv : Value) (l : List Ky) (hs : KeysAt W sv l) :
  Calls Try.prog 26 #[sv, .func (.func 27) #[] #[]] W fun e w' => e = .returned (.bool (l.any strayK)) ∧ Below W.heap.size W w' := by
 have HC := hid (kindexf_any W sv l hs)
 rw [← idxK_ge]
 obtain ⟨a, cap, rfl, _, _⟩ := hs.shape
 clear hs
 generalize idxK strayK l = r at *
 generalize l.length = n at *
 go_enter Try.func26, Try.ntmps26
 go_wp2_with fail
 refine HC.out.mono ?_
 rintro e w1 ⟨rfl, hb1⟩
 go_wp2_with fail
 go_ret
 exact ⟨rfl, hb1⟩
end
end Go.Proofs.Ytahjgllnfbejmaa
