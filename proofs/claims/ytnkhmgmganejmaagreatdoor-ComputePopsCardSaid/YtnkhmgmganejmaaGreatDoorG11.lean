/- Part. -/
import Derived.Lib.Strings
import Derived.Lib.Slices
import Derived.Lib.Small
import Derived.Lib.Walk
import Derived.Deep.Light
import Derived.Test.YtnkhmgmganejmaaGreatDoorG10
import Derived.Test.YtnkhmgmganejmaaGreatDoorG04
import Derived.Test.YtnkhmgmganejmaaGreatDoorG03
import Derived.Maps.AppendAt
import Derived.Laws.BitsAllLaws
set_option maxRecDepth 100000
set_option maxHeartbeats 16000000
namespace Go.Proofs.YtnkhmgmganejmaaGreatDoor
section
open Go Go.RowKit Go.Shelf
attribute [local go_sem] Oper.semAt_some Grows wide_fn
def Limbs (W : World) (B : Nat) (t : TypeId) (n : Nat) (m : Nat → Int) : Prop := ∃ cur, W.heap[B]? = some (.cells cur t (0, 0)) ∧ cur.size = n ∧ ∀ j, j < n → cur[j]? = some (.int .u64 (m j))
theorem Limbs.lt {W : World} {B n : Nat} {t : TypeId} {m : Nat → Int} (h : Limbs W B t n m) : B < W.heap.size := by
 obtain ⟨cur, h1, _⟩ := h
 exact (Array.getElem?_eq_some_iff.1 h1).1
theorem Limbs.cell {W : World} {B n : Nat} {t : TypeId} {m : Nat → Int} (h : Limbs W B t n m) {j : Nat} (hj : j < n) : W.cell? ⟨B, j, none⟩ = some (.int .u64 (m j)) := by
 obtain ⟨cur, h1, _, h2⟩ := h
 simp [World.cell?, h1, h2 j hj]
theorem Limbs.frozen {W : World} {B n : Nat} {t : TypeId} {m : Nat → Int} (h : Limbs W B t n m) (j : Nat) : W.frozen? ⟨B, j, none⟩ = false := by
 obtain ⟨cur, h1, _⟩ := h
 simp [World.frozen?, h1]
theorem Limbs.kept {W W' : World} {row : Option Nat} {B n : Nat} {t : TypeId} {m : Nat → Int} (h : Limbs W B t n m) (hg : W.grownBy W' row) (hne : some B ≠ row) : Limbs W' B t n m := by
 have hl := h.lt
 obtain ⟨cur, h1, h2⟩ := h
 exact ⟨cur, (hg.block B hl hne).trans h1, h2⟩
theorem Limbs.below {W W' : World} {B n k : Nat} {t : TypeId} {m : Nat → Int} (h : Limbs W B t n m) (hb : Below k W W') (hlt : B < k) : Limbs W' B t n m := by
 obtain ⟨cur, h1, h2⟩ := h
 exact ⟨cur, (hb.block B hlt).trans h1, h2⟩
theorem Limbs.later {W W' : World} {B n : Nat} {t : TypeId} {m : Nat → Int} (h : Limbs W B t n m) (hb : Below W.heap.size W W') : Limbs W' B t n m := h.below hb h.lt
theorem Limbs.alloc {W : World} {B n : Nat} {t : TypeId} {m : Nat → Int} (h : Limbs W B t n m) (o : Obj) : Limbs (W.alloc o) B t n m := h.kept (World.grownBy_alloc W o none) (by simp)
theorem Limbs.other {W : World} {B n : Nat} {t : TypeId} {m : Nat → Int} (h : Limbs W B t n m) {p : Addr} (hne : B ≠ p.block) (v : Value) : Limbs (W.setCell p v) B t n m := by
 obtain ⟨cur, h1, h2⟩ := h
 exact ⟨cur, (Below.heap_setCell W p v B hne).trans h1, h2⟩
theorem Limbs.set {W : World} {B n : Nat} {t : TypeId} {m : Nat → Int} (h : Limbs W B t n m) {k : Nat} (hk : k < n) (v : Int) : Limbs (W.setCell ⟨B, k, none⟩ (.int .u64 v)) B t n (fun j => if j = k then v else m j) := by
 obtain ⟨cur, h1, hs, h2⟩ := h
 obtain ⟨hlt, he⟩ := Array.getElem?_eq_some_iff.1 h1
 refine ⟨cur.setIfInBounds k (.int .u64 v), ?_, by simpa using hs, fun j hj => ?_⟩
 ·show (W.heap.modify B _)[B]? = _
  rw [Array.getElem?_eq_getElem (by rw [Array.size_modify]; exact hlt), Array.getElem_modify_self, he]
  rfl
 ·show (cur.setIfInBounds k (.int .u64 v))[j]? = some (.int .u64 (if j = k then v else m j))
  by_cases e : j = k
  ·subst e
   rw [if_pos rfl, Array.getElem?_setIfInBounds_self_of_lt (by omega)]
  ·rw [if_neg e, Array.getElem?_setIfInBounds_ne (by omega)]
   exact h2 j hj
theorem Limbs.congr {W : World} {B n : Nat} {t : TypeId} {m m' : Nat → Int} (h : Limbs W B t n m) (he : ∀ j, j < n → m j = m' j) : Limbs W B t n m' := by
 obtain ⟨cur, h1, hs, h2⟩ := h
 exact ⟨cur, h1, hs, fun j hj => by rw [← he j hj]; exact h2 j hj⟩
theorem Limbs.of4 {W : World} {B : Nat} {t : TypeId} {m : Nat → Int} (h : Arr4 W B t m) : Limbs W B t 4 m := ⟨_, h, rfl, fun j hj => by
 rcases (show j = 0 ∨ j = 1 ∨ j = 2 ∨ j = 3 by omega) with rfl | rfl | rfl | rfl <;> rfl⟩
theorem Limbs.to4 {W : World} {B : Nat} {t : TypeId} {m : Nat → Int} (h : Limbs W B t 4 m) : Arr4 W B t m := by
 obtain ⟨cur, h1, hs, h2⟩ := h
 unfold Arr4
 rw [h1]
 congr 2
 refine Array.ext (by rw [hs]; rfl) fun j hj hj' => ?_
 have h3 := h2 j (by omega)
 rw [Array.getElem?_eq_getElem hj] at h3
 rw [Option.some.inj h3]
 rcases (show j = 0 ∨ j = 1 ∨ j = 2 ∨ j = 3 by omega) with rfl | rfl | rfl | rfl <;> rfl
theorem tab8_size : (Lib.len8tab.size : Int) = 256 := by
 have : Lib.len8tab.size = 256 := by decide
 omega
theorem tab8_get (y : Int) (h : y.toNat < Lib.len8tab.size) : ((Lib.len8tab[y.toNat]'h).toNat : Int) = Lib.len8 y := by
 unfold Lib.len8
 rw [getElem?_pos Lib.len8tab y.toNat h]
 rfl
theorem wrap_two (k a b : Nat) (hk : k ≤ 56) (ha : a ≤ 8) (hb : b = k + a) : RowKit.wrap64 ((k : Int) + RowKit.wrap64 (a : Int)) = (b : Int) := by
 unfold RowKit.wrap64
 omega
theorem wrap_twice (a : Nat) (ha : a ≤ 8) : RowKit.wrap64 (RowKit.wrap64 (a : Int)) = (a : Int) := by
 unfold RowKit.wrap64
 omega
theorem wrap_once (a : Nat) (ha : a ≤ 8) : RowKit.wrap64 (a : Int) = (a : Int) := by
 unfold RowKit.wrap64
 omega
theorem len64_any (x : Int) (w : World) (h0 : 0 ≤ x) (h1 : x ≤ 18446744073709551615) :
  Calls Tryz.prog 165 #[.int .u64 x] w fun e w' => e = .returned (.int .i64 (Lib.bitLen x.toNat)) ∧ w' = w := by
 go_enter Tryz.func165, Tryz.ntmps165
 go_wp2
 all_goals first
  | (go_ret; refine ⟨congrArg Ending.returned (congrArg (Value.int IntKind.i64) ?_), rfl⟩; go_light)
  | (
    exfalso
    go_light
    have hs := tab8_size
    omega)
 all_goals first
  | (
    rw [tab8_get (x / 4294967296 / 65536 / 256) _, Lib.len8_of (x / 4294967296 / 65536 / 256) (by omega) (by omega)]
    have e : (x / 4294967296 / 65536 / 256).toNat = x.toNat / 72057594037927936 := by omega
    have l := Lib.bitLen_le8' (x / 4294967296 / 65536 / 256) (by omega) (by omega)
    have s := Lib.bitLen_shift56 x.toNat (by omega) (by omega)
    rw [e] at l ⊢
    exact wrap_two 56 _ _ (by decide) l s)
  | (
    rw [tab8_get (x / 4294967296 / 65536) _, Lib.len8_of (x / 4294967296 / 65536) (by omega) (by omega)]
    have e : (x / 4294967296 / 65536).toNat = x.toNat / 281474976710656 := by omega
    have l := Lib.bitLen_le8' (x / 4294967296 / 65536) (by omega) (by omega)
    have s := Lib.bitLen_shift48 x.toNat (by omega) (by omega)
    rw [e] at l ⊢
    exact wrap_two 48 _ _ (by decide) l s)
  | (
    rw [tab8_get (x / 4294967296 / 256) _, Lib.len8_of (x / 4294967296 / 256) (by omega) (by omega)]
    have e : (x / 4294967296 / 256).toNat = x.toNat / 1099511627776 := by omega
    have l := Lib.bitLen_le8' (x / 4294967296 / 256) (by omega) (by omega)
    have s := Lib.bitLen_shift40 x.toNat (by omega) (by omega)
    rw [e] at l ⊢
    exact wrap_two 40 _ _ (by decide) l s)
  | (
    rw [tab8_get (x / 4294967296) _, Lib.len8_of (x / 4294967296) (by omega) (by omega)]
    have e : (x / 4294967296).toNat = x.toNat / 4294967296 := by omega
    have l := Lib.bitLen_le8' (x / 4294967296) (by omega) (by omega)
    have s := Lib.bitLen_shift32 x.toNat (by omega) (by omega)
    rw [e] at l ⊢
    exact wrap_two 32 _ _ (by decide) l s)
  | (
    rw [tab8_get (x / 65536 / 256) _, Lib.len8_of (x / 65536 / 256) (by omega) (by omega)]
    have e : (x / 65536 / 256).toNat = x.toNat / 16777216 := by omega
    have l := Lib.bitLen_le8' (x / 65536 / 256) (by omega) (by omega)
    have s := Lib.bitLen_shift24 x.toNat (by omega) (by omega)
    rw [e] at l ⊢
    exact wrap_two 24 _ _ (by decide) l s)
  | (
    rw [tab8_get (x / 65536) _, Lib.len8_of (x / 65536) (by omega) (by omega)]
    have e : (x / 65536).toNat = x.toNat / 65536 := by omega
    have l := Lib.bitLen_le8' (x / 65536) (by omega) (by omega)
    have s := Lib.bitLen_shift16 x.toNat (by omega) (by omega)
    rw [e] at l ⊢
    exact wrap_two 16 _ _ (by decide) l s)
  | (
    rw [tab8_get (x / 256) _, Lib.len8_of (x / 256) (by omega) (by omega)]
    have e : (x / 256).toNat = x.toNat / 256 := by omega
    have l := Lib.bitLen_le8' (x / 256) (by omega) (by omega)
    have s := Lib.bitLen_shift8 x.toNat (by omega) (by omega)
    rw [e] at l ⊢
    exact wrap_two 8 _ _ (by decide) l s)
  | (
    rw [tab8_get x _, Lib.len8_of x (by omega) (by omega)]
    have l := Lib.bitLen_le8' x (by omega) (by omega)
    first | exact wrap_once _ l | exact wrap_twice _ l)
theorem part4_any (B p : Nat) (m : Nat → Int) (hp : p < 1152921504606846976) (w : World) (h : Limbs w B 129 4 m) :
  Calls Tryz.prog 178 #[.pointer (some ⟨B, 0, none⟩), .int .i64 (p : Int)] w fun e w' => e = .returned (.int .u64 (if p < 4 then m p else 0)) ∧ w = w' := by
 have hp0 : (0 : Int) ≤ (p : Int) := by omega
 have c : ∀ j, j < 4 → w.cell? ⟨B, j, none⟩ = some (.int .u64 (m j)) := fun j hj => h.cell hj
 have c0 := c 0 (by omega)
 have c1 := c 1 (by omega)
 have c2 := c 2 (by omega)
 have c3 := c 3 (by omega)
 have HC := Lib.hid c
 clear c
 by_cases hlt : p < 4
 ·rw [if_pos hlt]
  have cp := HC.out p hlt
  have hpI : (p : Int) < 4 := by omega
  have hpn : ¬ (4 : Int) ≤ (p : Int) := by omega
  clear h
  go_enter Tryz.func178, Tryz.ntmps178
  go_wp2
  go_ret
  exact ⟨rfl, rfl⟩
 ·rw [if_neg hlt]
  have hpn : (4 : Int) ≤ (p : Int) := by omega
  clear h
  go_enter Tryz.func178, Tryz.ntmps178
  go_wp2
  go_ret
  exact ⟨rfl, rfl⟩
theorem length4_any (B N : Nat) (m : Nat → Int) (hm : ∀ j, j < 4 → m j = ((N / 18446744073709551616 ^ j % 18446744073709551616 : Nat) : Int)) (hN : N < 18446744073709551616 ^ 4) (w : World) (h : Limbs w B 129 4 m) :
  Calls Tryz.prog 145 #[.pointer (some ⟨B, 0, none⟩)] w fun e w' => (∃ L : Nat, e = .returned (.int .i64 (L : Int)) ∧ LenOk N L ∧ L ≤ 256) ∧ w = w' := by
 have HC := Lib.hid (fun j hj => h.cell (j := j) hj)
 have HM := Lib.hid hm
 have HN := Lib.hid hN
 have c0 := HC.out 0 (by omega)
 have c1 := HC.out 1 (by omega)
 have c2 := HC.out 2 (by omega)
 have c3 := HC.out 3 (by omega)
 clear h hm hN
 go_enter Tryz.func145, Tryz.ntmps145
 go_wp2
 clear c0
 clear c1
 clear c2
 clear c3
 go_loop [3] (fun i => ∃ (z : Int) (q : Nat), i = .int .i64 z ∧ q ≤ 4 ∧ z = (q : Int) - 1 ∧ N < 18446744073709551616 ^ q) (fun i => (intOf i + 1).toNat)
 case atStart => exact ⟨_, 4, rfl, by omega, by omega, HN.out⟩
 case round =>
  obtain ⟨z, q, rfl, hq, hz, hlt⟩ := hrel
  by_cases hq0 : 0 < q
  ·obtain ⟨p, rfl⟩ : ∃ p, q = p + 1 := ⟨q - 1, by omega⟩
   obtain rfl : z = (p : Int) := by omega
   have hp : p < 4 := by omega
   have hp0 : (0 : Int) ≤ (p : Int) := by omega
   have hpI : (p : Int) < 4 := by omega
   have cp := HC.out p hp
   have mp := HM.out p hp
   have hx : N / 18446744073709551616 ^ p < 18446744073709551616 := by
    rw [Nat.div_lt_iff_lt_mul (Nat.pow_pos (by decide)), ← Nat.pow_succ']
    exact hlt
   rw [Nat.mod_eq_of_lt hx] at mp
   generalize hxe : N / 18446744073709551616 ^ p = x at *
   rw [mp] at cp
   have hx0 : (0 : Int) ≤ (x : Int) := by omega
   have hx1 : (x : Int) < 18446744073709551616 := by omega
   by_cases h0 : x = 0
   ·subst h0
    have HL : Hid (N < 18446744073709551616 ^ p) := by
     show _
     have := Nat.div_eq_zero_iff.1 hxe
     rcases this with h | h
     ·exact absurd h (Nat.ne_of_gt (Nat.pow_pos (by decide)))
     ·exact h
    have HP := Lib.hid hp
    clear hq hz hlt hq0 hp mp hx hxe
    go_wp2
    go_round
    case rel => exact ⟨(p : Int) - 1, p, by simp, by have := HP.out; omega, rfl, HL.out⟩
    case measure => first | (simp [intOf]; done) | (simp [intOf]; omega)
   ·have hxb : ((x : Int) != 0) = true := by simp; omega
    have HL := Lib.hid (lenOk_part N p x hx h0 hxe)
    have hb : Lib.bitLen x ≤ 64 := Lib.bitLen_le x 64 (by omega) hx
    have HP := Lib.hid hp
    have LL := len64_any (x : Int) w hx0 (by omega)
    rw [Int.toNat_natCast] at LL
    have HB := Lib.hid hb
    have b0 : (0 : Int) ≤ ((Lib.bitLen x : Nat) : Int) := by omega
    have b1 : ((Lib.bitLen x : Nat) : Int) ≤ 64 := by omega
    generalize Lib.bitLen x = lx at *
    clear hq hz hlt hq0 hp mp hx hxe h0 hb
    go_wp2_with fail
    refine LL.mono ?_
    rintro e w1 ⟨rfl, rfl⟩
    go_wp2
    go_ret
    refine ⟨⟨p * 64 + lx, ?_, HL.out, by have := HP.out; have := HB.out; omega⟩, rfl⟩
    simp
  ·obtain rfl : q = 0 := by omega
   obtain rfl : z = -1 := by omega
   have hN0 : N = 0 := by rw [Nat.pow_zero] at hlt; omega
   have HN0 := Lib.hid hN0
   clear hq hz hlt hq0 hN0
   go_wp2
   go_ret
   refine ⟨⟨0, rfl, by rw [HN0.out]; exact lenOk_zero, by omega⟩, rfl⟩
theorem part8_any (B p : Nat) (m : Nat → Int) (hp : p < 1152921504606846976) (w : World) (h : Limbs w B 143 8 m) :
  Calls Tryz.prog 182 #[.pointer (some ⟨B, 0, none⟩), .int .i64 (p : Int)] w fun e w' => e = .returned (.int .u64 (if p < 8 then m p else 0)) ∧ w = w' := by
 have hp0 : (0 : Int) ≤ (p : Int) := by omega
 have c : ∀ j, j < 8 → w.cell? ⟨B, j, none⟩ = some (.int .u64 (m j)) := fun j hj => h.cell hj
 have c0 := c 0 (by omega)
 have c1 := c 1 (by omega)
 have c2 := c 2 (by omega)
 have c3 := c 3 (by omega)
 have c4 := c 4 (by omega)
 have c5 := c 5 (by omega)
 have c6 := c 6 (by omega)
 have c7 := c 7 (by omega)
 have HC := Lib.hid c
 clear c
 by_cases hlt : p < 8
 ·rw [if_pos hlt]
  have cp := HC.out p hlt
  have hpI : (p : Int) < 8 := by omega
  have hpn : ¬ (8 : Int) ≤ (p : Int) := by omega
  clear h
  go_enter Tryz.func182, Tryz.ntmps182
  go_wp2
  go_ret
  exact ⟨rfl, rfl⟩
 ·rw [if_neg hlt]
  have hpn : (8 : Int) ≤ (p : Int) := by omega
  clear h
  go_enter Tryz.func182, Tryz.ntmps182
  go_wp2
  go_ret
  exact ⟨rfl, rfl⟩
theorem length8_any (B N : Nat) (m : Nat → Int) (hm : ∀ j, j < 8 → m j = ((N / 18446744073709551616 ^ j % 18446744073709551616 : Nat) : Int)) (hN : N < 18446744073709551616 ^ 8) (w : World) (h : Limbs w B 143 8 m) :
  Calls Tryz.prog 171 #[.pointer (some ⟨B, 0, none⟩)] w fun e w' => (∃ L : Nat, e = .returned (.int .i64 (L : Int)) ∧ LenOk N L ∧ L ≤ 512) ∧ w = w' := by
 have HC := Lib.hid (fun j hj => h.cell (j := j) hj)
 have HM := Lib.hid hm
 have HN := Lib.hid hN
 have c0 := HC.out 0 (by omega)
 have c1 := HC.out 1 (by omega)
 have c2 := HC.out 2 (by omega)
 have c3 := HC.out 3 (by omega)
 have c4 := HC.out 4 (by omega)
 have c5 := HC.out 5 (by omega)
 have c6 := HC.out 6 (by omega)
 have c7 := HC.out 7 (by omega)
 clear h hm hN
 go_enter Tryz.func171, Tryz.ntmps171
 go_wp2
 clear c0
 clear c1
 clear c2
 clear c3
 clear c4
 clear c5
 clear c6
 clear c7
 go_loop [3] (fun i => ∃ (z : Int) (q : Nat), i = .int .i64 z ∧ q ≤ 8 ∧ z = (q : Int) - 1 ∧ N < 18446744073709551616 ^ q) (fun i => (intOf i + 1).toNat)
 case atStart => exact ⟨_, 8, rfl, by omega, by omega, HN.out⟩
 case round =>
  obtain ⟨z, q, rfl, hq, hz, hlt⟩ := hrel
  by_cases hq0 : 0 < q
  ·obtain ⟨p, rfl⟩ : ∃ p, q = p + 1 := ⟨q - 1, by omega⟩
   obtain rfl : z = (p : Int) := by omega
   have hp : p < 8 := by omega
   have hp0 : (0 : Int) ≤ (p : Int) := by omega
   have hpI : (p : Int) < 8 := by omega
   have cp := HC.out p hp
   have mp := HM.out p hp
   have hx : N / 18446744073709551616 ^ p < 18446744073709551616 := by
    rw [Nat.div_lt_iff_lt_mul (Nat.pow_pos (by decide)), ← Nat.pow_succ']
    exact hlt
   rw [Nat.mod_eq_of_lt hx] at mp
   generalize hxe : N / 18446744073709551616 ^ p = x at *
   rw [mp] at cp
   have hx0 : (0 : Int) ≤ (x : Int) := by omega
   have hx1 : (x : Int) < 18446744073709551616 := by omega
   by_cases h0 : x = 0
   ·subst h0
    have HL : Hid (N < 18446744073709551616 ^ p) := by
     show _
     have := Nat.div_eq_zero_iff.1 hxe
     rcases this with h | h
     ·exact absurd h (Nat.ne_of_gt (Nat.pow_pos (by decide)))
     ·exact h
    have HP := Lib.hid hp
    clear hq hz hlt hq0 hp mp hx hxe
    go_wp2
    go_round
    case rel => exact ⟨(p : Int) - 1, p, by simp, by have := HP.out; omega, rfl, HL.out⟩
    case measure => first | (simp [intOf]; done) | (simp [intOf]; omega)
   ·have hxb : ((x : Int) != 0) = true := by simp; omega
    have HL := Lib.hid (lenOk_part N p x hx h0 hxe)
    have hb : Lib.bitLen x ≤ 64 := Lib.bitLen_le x 64 (by omega) hx
    have HP := Lib.hid hp
    have LL := len64_any (x : Int) w hx0 (by omega)
    rw [Int.toNat_natCast] at LL
    have HB := Lib.hid hb
    have b0 : (0 : Int) ≤ ((Lib.bitLen x : Nat) : Int) := by omega
    have b1 : ((Lib.bitLen x : Nat) : Int) ≤ 64 := by omega
    generalize Lib.bitLen x = lx at *
    clear hq hz hlt hq0 hp mp hx hxe h0 hb
    go_wp2_with fail
    refine LL.mono ?_
    rintro e w1 ⟨rfl, rfl⟩
    go_wp2
    go_ret
    refine ⟨⟨p * 64 + lx, ?_, HL.out, by have := HP.out; have := HB.out; omega⟩, rfl⟩
    simp
  ·obtain rfl : q = 0 := by omega
   obtain rfl : z = -1 := by omega
   have hN0 : N = 0 := by rw [Nat.pow_zero] at hlt; omega
   have HN0 := Lib.hid hN0
   clear hq hz hlt hq0 hN0
   go_wp2
   go_ret
   refine ⟨⟨0, rfl, by rw [HN0.out]; exact lenOk_zero, by omega⟩, rfl⟩
end
section
def valI (d : Nat → Int) : Nat → Int
 | 0 => 0
 | n + 1 => valI d n + d n * 256 ^ n
def hor (d : Nat → Int) (p : Nat) : Nat → Int
 | 0 => 0
 | m + 1 => hor d p m * 256 + d (8 * p + 7 - m)
end
section
open Go Go.RowKit Go.Shelf
attribute [local go_sem] Oper.semAt_some Grows wide_fn
theorem Arr4.mk0' (W : World) (t : TypeId) : Arr4 (W.alloc (.cells #[.int .u64 0, .int .u64 0, .int .u64 0, .int .u64 0] t)) W.heap.size t (fun _ => 0) := World.alloc_heap_new W _
theorem Arr4.later' {W W' : World} {B : Nat} {t : TypeId} {m : Nat → Int} (h : Arr4 W B t m) (hb : Below W.heap.size W W') : Arr4 W' B t m := h.below hb h.lt
theorem Arr4.same4 {W : World} {B : Nat} {t : TypeId} {m m' : Nat → Int} (h : Arr4 W B t m) (h0 : m 0 = m' 0) (h1 : m 1 = m' 1) (h2 : m 2 = m' 2) (h3 : m 3 = m' 3) : Arr4 W B t m' := by
 unfold Arr4 at *
 rw [h, h0, h1, h2, h3]
theorem wp_region_quietR {P : Program} {C : World → Prop} {id : Nat} {Q : Exit → Act → World → Prop} {a : Act} {w : World} {l : List Oper} (hm : P.follows .mixedOrders = true) (hB : Region.lexB .any l.toArray = true)
  (hC : C { w with drawn := w.drawn + 1 }) (h : wpQuiet P l.toArray C (fun a' => ∀ w', C w' → Q .normal a' w') l a) : (Code.region id l.toArray true).wp P Q a w :=
 wp_region_quiet (C := C) hm hB hC (by simpa using h)
theorem grown_ext {w W W' : World} {row : Option Nat} (h : w.grownBy W row) (hb : Below W.heap.size W W') : w.grownBy W' row := grown_then_below h hb
theorem bringDown_any (r b bit br bb : Nat) (hr : r < b) (hb : W256 b) (hbit : bit ≤ 1) (hne : br ≠ bb) (w : World) (hR : Arr4 w br 24 (lim r)) (hB : Arr4 w bb 24 (lim b)) :
  Calls Tryz.prog 163 #[.pointer (some ⟨br, 0, none⟩), .pointer (some ⟨bb, 0, none⟩), .int .u64 (bit : Int)] w fun e w' =>
   e = .returned (.bool (decide (b ≤ 2 * r + bit))) ∧ Arr4 w' br 24 (lim (bdR r b bit)) ∧ w.grownBy w' (some br) := by
 have hr' : W256 r := by unfold W256 at *; omega
 have HDBL := Lib.hid (dbl_all r bit hr' hbit).1
 have HSUB := Lib.hid (sub_all (wmod (2 * r + bit)) b (wmod_lt _) hb).1
 have HDB := Lib.hid (dcA_bit r bit hbit)
 have HSB := Lib.hid (sbA_bit (wmod (2 * r + bit)) b)
 have HSHORT := Lib.hid (fun h => bd_short r b bit hb hr hbit h)
 have HLONG := Lib.hid (fun h => bd_long r b bit hb hr hbit h)
 have hlB := hB.lt
 have G0 : w.grownBy w (some br) := grown_of_below (Below.refl _ w) _
 have hbit0 : (0 : Int) ≤ (bit : Int) := by omega
 have hbit1 : (bit : Int) ≤ 1 := by omega
 have hnb : some bb ≠ some br := fun e => hne (by injection e with e; exact e.symm)
 go_enter Tryz.func163, Tryz.ntmps163
 go_wp2
 go_loopw [7, 8, 15] (fun ov sh q wr => ∃ k : Nat, k ≤ 4 ∧ q = .int .i64 (k : Int) ∧ ov = .int .u64 (dcA r bit k) ∧ sh = .int .u64 (sbA (wmod (2 * r + bit)) b k) ∧ Arr4 wr br 24 (fun j => if j < k then lim (wmod (2 * r + bit)) j else lim r j) ∧ w.grownBy wr (some br)) (fun _ _ q _ => 4 - (intOf q).toNat)
 case atStart => exact ⟨0, by omega, rfl, rfl, rfl, hR.same4 rfl rfl rfl rfl, G0⟩
 case round =>
  obtain ⟨k, hk, rfl, rfl, rfl, aR, G⟩ := hrel
  clear hR G0
  have aB := hB.kept G hnb
  by_cases hlt : k < 4
  ·have hkI : (k : Int) < 4 := by omega
   have hk0 : (0 : Int) ≤ (k : Int) := by omega
   have cR := aR.cell hlt
   rw [if_neg (by omega)] at cR
   have cB := aB.cell hlt
   have hd := HDB.out k
   have hs := HSB.out k
   have uR := lim_u64 r k
   have uB := lim_u64 b k
   have hdl := HDBL.out k hlt
   have e1 : (lim r k + lim r k + dcA r bit k) % 18446744073709551616 = lim (wmod (2 * r + bit)) k := hdl
   have e2 : (lim r k + lim r k + dcA r bit k) / 18446744073709551616 = dcA r bit (k + 1) := rfl
   have A1 : ∀ W, (callFunc 136 #[.int .u64 (lim r k), .int .u64 (lim r k), .int .u64 (dcA r bit k)]).run Tryz.prog W = .ok (.value (.tuple #[.int .u64 (lim (wmod (2 * r + bit)) k), .int .u64 (dcA r bit (k + 1))])) W := fun W => by
    have h := run_addc (lim r k) (lim r k) (dcA r bit k) uR uR hd W
    rwa [e1, e2] at h
   have uT := lim_u64 (wmod (2 * r + bit)) k
   have e3 : (if lim (wmod (2 * r + bit)) k < lim b k + sbA (wmod (2 * r + bit)) b k then (1 : Int) else 0) = sbA (wmod (2 * r + bit)) b (k + 1) := rfl
   have S1 : ∀ W, (callFunc 139 #[.int .u64 (lim (wmod (2 * r + bit)) k), .int .u64 (lim b k), .int .u64 (sbA (wmod (2 * r + bit)) b k)]).run Tryz.prog W = .ok (.value (.tuple #[.int .u64 ((lim (wmod (2 * r + bit)) k - lim b k - sbA (wmod (2 * r + bit)) b k) % 18446744073709551616), .int .u64 (sbA (wmod (2 * r + bit)) b (k + 1))])) W := fun W => by
    have h := run_subc (lim (wmod (2 * r + bit)) k) (lim b k) (sbA (wmod (2 * r + bit)) b k) uT uB hs W
    rwa [e3] at h
   have HK := Lib.hid hlt
   have HAR := Lib.hid aR
   have HAB := Lib.hid aB
   have HG := Lib.hid G
   have hmx : Tryz.prog.follows .mixedOrders = true := by kernel_rfl
   have r1 : ∀ x : Ext wr, x.w.cell? ⟨br, k, none⟩ = some (.int .u64 (lim r k)) := fun x => (x.cell (p := ⟨br, k, none⟩) HAR.out.lt).trans cR
   clear hk hlt hd hs uR uB uT hdl e1 e2 e3 aR aB G
   generalize hRk : lim r k = rk at *
   generalize hTk : lim (wmod (2 * r + bit)) k = tk at *
   generalize hBk : lim b k = bk at *
   generalize hck : dcA r bit k = ck at *
   generalize hsk : sbA (wmod (2 * r + bit)) b k = sk at *
   generalize hck1 : dcA r bit (k + 1) = ck1 at *
   generalize hsk1 : sbA (wmod (2 * r + bit)) b (k + 1) = sk1 at *
   have HT := Lib.hid hTk
   have HBK := Lib.hid hBk
   have HC1 := Lib.hid hck1
   have HS1 := Lib.hid hsk1
   clear hRk hTk hBk hck hsk hck1 hsk1 cR cB
   go_wp2
   refine wp_region_quietR (C := Grows wr) (by kernel_rfl) (by kernel_rfl) (grows_refl wr) ?_
   repeat (go_big_quiet_step (fail))
   refine wpQuiet_nil ?_
   rintro _ ⟨x, rfl⟩
   have aR := HAR.out.later' x.below
   have aB := HAB.out.later' x.below
   have G := grown_ext HG.out x.below
   clear r1 HAR HAB HG
   generalize x.w = w1 at *
   have fR := aR.frozen k
   have cR := aR.cell HK.out
   rw [if_neg (by omega)] at cR
   have HAR := Lib.hid aR
   have HAB := Lib.hid aB
   have HG := Lib.hid G
   have r1 : ∀ x : Ext w1, x.w.cell? ⟨br, k, none⟩ = some (.int .u64 (lim r k)) := fun x => (x.cell (p := ⟨br, k, none⟩) HAR.out.lt).trans cR
   have f1 : ∀ x : Ext w1, x.w.frozen? ⟨br, k, none⟩ = false := fun x => (x.frozen (p := ⟨br, k, none⟩) HAR.out.lt).trans fR
   clear aR aB G fR cR
   go_wp2
   refine wp_region_mix (C := Grows w1) [some true, some true, some true, some true, some true, some true, some true, some true, some false, some true, some true, none, none] hmx (by kernel_rfl) (by kernel_rfl) (grows_refl w1) ?_
   simp only [headOf, tailOf]
   repeat (go_big_quiet_step (fail))
   refine wpQuiet_nil ?_
   rintro _ ⟨x, rfl⟩
   have aR := (HAR.out.later' x.below).set HK.out tk
   have aB := (HAB.out.later' x.below).other (p := ⟨br, k, none⟩) hne.symm (.int .u64 tk)
   have G := grown_set (grown_ext HG.out x.below) (p := ⟨br, k, none⟩) (.inl rfl) (.int .u64 tk)
   clear HAR HAB HG A1
   go_wp2
   rw [calmPost_normal]
   clear f1 r1
   obtain ⟨w2, hw2⟩ : ∃ w2, x.w.setCell ⟨br, k, none⟩ (.int .u64 tk) = w2 := ⟨_, rfl⟩
   rw [hw2] at aR aB G ⊢
   clear hw2
   have cR := aR.cell HK.out
   rw [if_pos rfl] at cR
   have cB := aB.cell HK.out
   rw [HBK.out] at cB
   have HAR := Lib.hid aR
   have HAB := Lib.hid aB
   have HG := Lib.hid G
   have r1 : ∀ x : Ext w2, x.w.cell? ⟨br, k, none⟩ = some (.int .u64 tk) := fun x => (x.cell (p := ⟨br, k, none⟩) HAR.out.lt).trans cR
   have r2 : ∀ x : Ext w2, x.w.cell? ⟨bb, k, none⟩ = some (.int .u64 bk) := fun x => (x.cell (p := ⟨bb, k, none⟩) HAB.out.lt).trans cB
   clear aR aB G cR cB
   go_wp2
   refine wp_region_quietR (C := Grows w2) (by kernel_rfl) (by kernel_rfl) (grows_refl w2) ?_
   repeat (go_big_quiet_step (fail))
   refine wpQuiet_nil ?_
   rintro _ ⟨x, rfl⟩
   have N1 := Lib.hid (HAR.out.later' x.below)
   have N2 := Lib.hid (grown_ext HG.out x.below)
   go_wp2
   go_roundw
   case rel =>
    refine ⟨k + 1, HK.out, by simp, by rw [HC1.out], by rw [HS1.out], ?_, N2.out⟩
    have e : (fun j => if j < k + 1 then lim (wmod (2 * r + bit)) j else lim r j) = (fun j => if j = k then tk else if j < k then lim (wmod (2 * r + bit)) j else lim r j) := by
     funext j
     by_cases h1 : j = k
     ·rw [if_pos h1, if_pos (by omega), h1, HT.out]
     ·rw [if_neg h1]
      by_cases h2 : j < k
      ·rw [if_pos h2, if_pos (by omega)]
      ·rw [if_neg h2, if_neg (by omega)]
    rw [e]
    exact N1.out
   case measure => have := HK.out; simp [intOf]; omega
  ·obtain rfl : k = 4 := by omega
   have aR := aR.same4 (m' := lim (wmod (2 * r + bit))) rfl rfl rfl rfl
   have HG := Lib.hid G
   have HAR := Lib.hid aR
   have HAB := Lib.hid aB
   have hd4 := HDB.out 4
   have hs4 := HSB.out 4
   unfold Bit at hd4 hs4
   obtain ⟨hd0, hd1⟩ := hd4
   obtain ⟨hs0, hs1⟩ := hs4
   clear hk hlt aR aB G
   by_cases hle : b ≤ 2 * r + bit
   ·obtain ⟨q1, q2⟩ := HLONG.out hle
    have HQ := Lib.hid q1
    have HLE := Lib.hid hle
    generalize dcA r bit 4 = c4 at *
    generalize sbA (wmod (2 * r + bit)) b 4 = s4 at *
    clear q1 hle
    obtain ⟨wo, rfl⟩ : ∃ wo : World, wo = wr := ⟨_, rfl⟩
    go_wp2
    go_loopw [8, 52] (fun sh q wr => ∃ k : Nat, k ≤ 4 ∧ q = .int .i64 (k : Int) ∧ sh = .int .u64 (sbA (wmod (2 * r + bit)) b k) ∧ Arr4 wr br 24 (fun j => if j < k then lim (bdR r b bit) j else lim (wmod (2 * r + bit)) j) ∧ Arr4 wr bb 24 (lim b) ∧ w.grownBy wr (some br)) (fun _ q _ => 4 - (intOf q).toNat)
    case atStart => exact ⟨0, by omega, rfl, rfl, HAR.out.same4 rfl rfl rfl rfl, HAB.out, HG.out⟩
    case round =>
     clear HAR HAB HG
     obtain ⟨k, hk, rfl, rfl, aR, aB, G⟩ := hrel
     by_cases hlt : k < 4
     ·have hkI : (k : Int) < 4 := by omega
      have hk0 : (0 : Int) ≤ (k : Int) := by omega
      have cR := aR.cell hlt
      rw [if_neg (by omega)] at cR
      have cB := aB.cell hlt
      have fR := aR.frozen k
      have hs := HSB.out k
      have uB := lim_u64 b k
      have uT := lim_u64 (wmod (2 * r + bit)) k
      have hsl := HSUB.out k hlt
      rw [HQ.out] at hsl
      have e1 : (lim (wmod (2 * r + bit)) k - lim b k - sbA (wmod (2 * r + bit)) b k) % 18446744073709551616 = lim (bdR r b bit) k := hsl
      have e3 : (if lim (wmod (2 * r + bit)) k < lim b k + sbA (wmod (2 * r + bit)) b k then (1 : Int) else 0) = sbA (wmod (2 * r + bit)) b (k + 1) := rfl
      have S1 : ∀ W, (callFunc 139 #[.int .u64 (lim (wmod (2 * r + bit)) k), .int .u64 (lim b k), .int .u64 (sbA (wmod (2 * r + bit)) b k)]).run Tryz.prog W = .ok (.value (.tuple #[.int .u64 (lim (bdR r b bit) k), .int .u64 (sbA (wmod (2 * r + bit)) b (k + 1))])) W := fun W => by
       have h := run_subc (lim (wmod (2 * r + bit)) k) (lim b k) (sbA (wmod (2 * r + bit)) b k) uT uB hs W
       rwa [e1, e3] at h
      have HK := Lib.hid hlt
      have HAR := Lib.hid aR
      have HAB := Lib.hid aB
      have HG := Lib.hid G
      have hmx : Tryz.prog.follows .mixedOrders = true := by kernel_rfl
      have r1 : ∀ x : Ext wr, x.w.cell? ⟨br, k, none⟩ = some (.int .u64 (lim (wmod (2 * r + bit)) k)) := fun x => (x.cell (p := ⟨br, k, none⟩) HAR.out.lt).trans cR
      clear hk hlt hs uB uT hsl e1 e3 aR aB G cR cB fR
      generalize hTk : lim (wmod (2 * r + bit)) k = tk at *
      generalize hBk : lim b k = bk at *
      generalize hsk : sbA (wmod (2 * r + bit)) b k = sk at *
      generalize hsk1 : sbA (wmod (2 * r + bit)) b (k + 1) = sk1 at *
      generalize hDk : lim (bdR r b bit) k = dk at *
      have HT := Lib.hid hTk
      have HBK := Lib.hid hBk
      have HS1 := Lib.hid hsk1
      have HD := Lib.hid hDk
      clear hTk hBk hsk hsk1 hDk
      go_wp2
      refine wp_region_quietR (C := Grows wr) (by kernel_rfl) (by kernel_rfl) (grows_refl wr) ?_
      repeat (go_big_quiet_step (fail))
      refine wpQuiet_nil ?_
      rintro _ ⟨x, rfl⟩
      have aR := HAR.out.later' x.below
      have aB := HAB.out.later' x.below
      have G := grown_ext HG.out x.below
      clear r1 HAR HAB HG
      generalize x.w = w1 at *
      have fR := aR.frozen k
      have cR := aR.cell HK.out
      rw [if_neg (by omega), HT.out] at cR
      have cB := aB.cell HK.out
      rw [HBK.out] at cB
      have HAR := Lib.hid aR
      have HAB := Lib.hid aB
      have HG := Lib.hid G
      have r1 : ∀ x : Ext w1, x.w.cell? ⟨br, k, none⟩ = some (.int .u64 tk) := fun x => (x.cell (p := ⟨br, k, none⟩) HAR.out.lt).trans cR
      have f1 : ∀ x : Ext w1, x.w.frozen? ⟨br, k, none⟩ = false := fun x => (x.frozen (p := ⟨br, k, none⟩) HAR.out.lt).trans fR
      have r2 : ∀ x : Ext w1, x.w.cell? ⟨bb, k, none⟩ = some (.int .u64 bk) := fun x => (x.cell (p := ⟨bb, k, none⟩) HAB.out.lt).trans cB
      clear aR aB G fR cR cB
      go_wp2
      refine wp_region_mix (C := Grows w1) [some true, some true, some true, some true, some true, some true, some true, some true, some true, some true, some true, some true, some false, some true, some true, none, none] hmx (by kernel_rfl) (by kernel_rfl) (grows_refl w1) ?_
      simp only [headOf, tailOf]
      repeat (go_big_quiet_step (fail))
      refine wpQuiet_nil ?_
      rintro _ ⟨x, rfl⟩
      have N1 := Lib.hid ((HAR.out.later' x.below).set HK.out dk)
      have N2 := Lib.hid ((HAB.out.later' x.below).other (p := ⟨br, k, none⟩) hne.symm (.int .u64 dk))
      have N3 := Lib.hid (grown_set (grown_ext HG.out x.below) (p := ⟨br, k, none⟩) (.inl rfl) (.int .u64 dk))
      clear r2 HAR HAB HG
      go_wp2
      rw [calmPost_normal]
      clear f1 r1
      go_wp2
      go_roundw
      case rel =>
       refine ⟨k + 1, HK.out, by simp, by rw [HS1.out], ?_, N2.out, N3.out⟩
       have e : (fun j => if j < k + 1 then lim (bdR r b bit) j else lim (wmod (2 * r + bit)) j) = (fun j => if j = k then dk else if j < k then lim (bdR r b bit) j else lim (wmod (2 * r + bit)) j) := by
        funext j
        by_cases h1 : j = k
        ·rw [if_pos h1, if_pos (by omega), h1, HD.out]
        ·rw [if_neg h1]
         by_cases h2 : j < k
         ·rw [if_pos h2, if_pos (by omega)]
         ·rw [if_neg h2, if_neg (by omega)]
       rw [e]
       exact N1.out
      case measure => have := HK.out; simp [intOf]; omega
     ·obtain rfl : k = 4 := by omega
      have N1 := Lib.hid (aR.same4 (m' := lim (bdR r b bit)) rfl rfl rfl rfl)
      have N2 := Lib.hid G
      clear hk hlt aR aB G
      go_wp2
      go_ret
      exact ⟨by rw [decide_eq_true HLE.out]; rfl, N1.out, N2.out⟩
   ·obtain ⟨q1, q2⟩ := HSHORT.out hle
    have HQ := Lib.hid q1
    have HLE := Lib.hid hle
    generalize dcA r bit 4 = c4 at *
    generalize sbA (wmod (2 * r + bit)) b 4 = s4 at *
    clear q1 hle
    go_wp2
    go_ret
    exact ⟨by rw [decide_eq_false HLE.out]; rfl, by rw [← HQ.out]; exact HAR.out, HG.out⟩
def limN (N j : Nat) : Nat := N / 18446744073709551616 ^ j % 18446744073709551616
theorem limN_lt (N j : Nat) : limN N j < 18446744073709551616 := Nat.mod_lt _ (by decide)
theorem limN_lim (N j : Nat) (hj : j < 4) : lim N j = (limN N j : Int) := by
 rcases (show j = 0 ∨ j = 1 ∨ j = 2 ∨ j = 3 by omega) with rfl | rfl | rfl | rfl
 ·show ((N % 18446744073709551616 : Nat) : Int) = _
  unfold limN
  rw [Nat.pow_zero, Nat.div_one]
 ·rfl
 ·rfl
 ·rfl
theorem limN_zero (N j k : Nat) (hN : N < 18446744073709551616 ^ k) (hj : k ≤ j) : limN N j = 0 := by
 unfold limN
 rw [Nat.div_eq_of_lt (Nat.lt_of_lt_of_le hN (Nat.pow_le_pow_right (by decide) hj))]
theorem or_apart (a b r : Nat) (ha : a < 2 ^ r) : Nat.lor a (b * 2 ^ r) = a + b * 2 ^ r := by
 have h := Nat.two_pow_add_eq_or_of_lt ha b
 rw [Nat.mul_comm b, Nat.add_comm a]
 show a ||| 2 ^ r * b = 2 ^ r * b + a
 rw [Nat.or_comm]
 exact h.symm
theorem limN_shift (N f r j : Nat) (hr : r < 64) : Nat.lor (limN N (f + j) / 2 ^ r) (limN N (f + j + 1) * 2 ^ (64 - r) % 18446744073709551616) = limN (N / 2 ^ (64 * f + r)) j := by
 have h64 : (18446744073709551616 : Nat) = 2 ^ 64 := by decide
 have hsplit : (2 : Nat) ^ 64 = 2 ^ r * 2 ^ (64 - r) := by rw [← Nat.pow_add]; congr 1; omega
 unfold limN
 have e1 : N / 18446744073709551616 ^ (f + j + 1) = N / 18446744073709551616 ^ (f + j) / 18446744073709551616 := by rw [Nat.pow_succ, Nat.div_div_eq_div_mul]
 have e2 : N / 2 ^ (64 * f + r) / 18446744073709551616 ^ j = N / 18446744073709551616 ^ (f + j) / 2 ^ r := by
  rw [Nat.div_div_eq_div_mul, Nat.div_div_eq_div_mul]
  congr 1
  rw [h64, ← Nat.pow_mul, ← Nat.pow_mul, ← Nat.pow_add, ← Nat.pow_add]
  congr 1
  rw [Nat.mul_add]
  omega
 rw [e1, e2]
 generalize N / 18446744073709551616 ^ (f + j) = M
 rw [h64, hsplit]
 have hA : 0 < 2 ^ r := Nat.pow_pos (by decide)
 have hB : 0 < 2 ^ (64 - r) := Nat.pow_pos (by decide)
 have e3 : M / (2 ^ r * 2 ^ (64 - r)) % (2 ^ r * 2 ^ (64 - r)) * 2 ^ (64 - r) % (2 ^ r * 2 ^ (64 - r)) = M / (2 ^ r * 2 ^ (64 - r)) % 2 ^ r * 2 ^ (64 - r) := by
  rw [Nat.mul_mod_mul_right, Nat.mod_mul_right_mod]
 have e4 : M % (2 ^ r * 2 ^ (64 - r)) / 2 ^ r = M / 2 ^ r % 2 ^ (64 - r) := Nat.mod_mul_right_div_self M (2 ^ r) (2 ^ (64 - r))
 rw [e3, e4, or_apart _ _ _ (Nat.mod_lt _ hB)]
 have e5 : M / 2 ^ r % (2 ^ r * 2 ^ (64 - r)) = M / 2 ^ r % 2 ^ (64 - r) + 2 ^ (64 - r) * (M / 2 ^ r / 2 ^ (64 - r) % 2 ^ r) := by
  rw [Nat.mul_comm (2 ^ r), Nat.mod_mul]
 rw [e5, Nat.div_div_eq_div_mul, Nat.mul_comm (M / (2 ^ r * 2 ^ (64 - r)) % 2 ^ r)]
theorem limN_wmod (M j : Nat) (hj : j < 4) : limN (wmod M) j = limN M j := by
 unfold limN wmod
 rw [show (115792089237316195423570985008687907853269984665640564039457584007913129639936 : Nat) = 18446744073709551616 ^ j * 18446744073709551616 ^ (4 - j) by rw [← Nat.pow_add, show j + (4 - j) = 4 by omega]]
 rw [Nat.mod_mul_right_div_self]
 rw [show 18446744073709551616 ^ (4 - j) = 18446744073709551616 * 18446744073709551616 ^ (3 - j) by rw [← Nat.pow_succ', show 4 - j = (3 - j) + 1 by omega], Nat.mod_mul_right_mod]
theorem above4_any (B N place : Nat) (hN : N < 18446744073709551616 ^ 4) (hpl : place ≤ 320) (w : World) (h : Limbs w B 129 4 (fun j => (limN N j : Int))) :
  Calls Tryz.prog 162 #[.pointer (some ⟨B, 0, none⟩), .int .i64 (place : Int)] w fun e w' => e = .returned (wv (wmod (N / 2 ^ place))) ∧ Below w.heap.size w w' := by
 obtain ⟨f, r, rfl, hr⟩ : ∃ f r, place = 64 * f + r ∧ r < 64 := ⟨place / 64, place % 64, by omega, by omega⟩
 have hV : Hid (∀ j, j < 4 → Nat.lor (limN N (f + j) / 2 ^ r) (limN N (f + j + 1) * 2 ^ (64 - r) % 18446744073709551616) = limN (wmod (N / 2 ^ (64 * f + r))) j) := fun j hj => by rw [limN_wmod _ j hj]; exact limN_shift N f r j hr
 obtain ⟨V, hVe⟩ : ∃ V, V = wmod (N / 2 ^ (64 * f + r)) := ⟨_, rfl⟩
 rw [← hVe] at hV ⊢
 clear hVe
 have HP : Hid (∀ (W : World) (p : Nat), p < 1152921504606846976 → Limbs W B 129 4 (fun j => (limN N j : Int)) → Calls Tryz.prog 178 #[.pointer (some ⟨B, 0, none⟩), .int .i64 (p : Int)] W fun e w' => e = .returned (.int .u64 (limN N p : Int)) ∧ W = w') := fun W p hp hL => by
  have h := part4_any B p (fun j => (limN N j : Int)) hp W hL
  have e : (if p < 4 then (limN N p : Int) else 0) = (limN N p : Int) := by
   by_cases hp4 : p < 4
   ·rw [if_pos hp4]
   ·rw [if_neg hp4, limN_zero N p 4 hN (by omega)]; rfl
  rw [e] at h
  exact h
 have q1 : ((64 * f + r : Nat) : Int).tdiv 64 = (f : Int) := by rw [Int.tdiv_eq_ediv_of_nonneg (by omega)]; omega
 have q2 : ((64 * f + r : Nat) : Int).tmod 64 = (r : Int) := by rw [Int.tmod_eq_emod_of_nonneg (by omega)]; omega
 have hp0 : (0 : Int) ≤ ((64 * f + r : Nat) : Int) := by omega
 have hp1 : ((64 * f + r : Nat) : Int) ≤ 320 := by omega
 have hf0 : (0 : Int) ≤ (f : Int) := by omega
 have hf1 : (f : Int) ≤ 5 := by omega
 have hr0 : (0 : Int) ≤ (r : Int) := by omega
 have hr1 : (r : Int) < 64 := by omega
 have HR := Lib.hid hr
 have HF : Hid (f ≤ 5) := by show f ≤ 5; omega
 have A1 := (Arr4.mk0' w 24).alloc (.cells #[.int .u64 0, .int .u64 0, .int .u64 0, .int .u64 0] 24)
 have A2 := Arr4.mk0' (w.alloc (.cells #[.int .u64 0, .int .u64 0, .int .u64 0, .int .u64 0] 24)) 24
 have X0 := (h.alloc (.cells #[.int .u64 0, .int .u64 0, .int .u64 0, .int .u64 0] 24)).alloc (.cells #[.int .u64 0, .int .u64 0, .int .u64 0, .int .u64 0] 24)
 have B0 := ((Below.refl _ w).alloc (Nat.le_refl _) (.cells #[.int .u64 0, .int .u64 0, .int .u64 0, .int .u64 0] 24)).alloc (by simp) (.cells #[.int .u64 0, .int .u64 0, .int .u64 0, .int .u64 0] 24)
 have hBl := h.lt
 rw [World.size_alloc] at A2
 clear h hpl hN hr
 generalize ((64 * f + r : Nat) : Int) = pl at *
 go_enter Tryz.func162, Tryz.ntmps162
 go_wp2
 obtain ⟨W0, hW0⟩ : ∃ W0, (w.alloc (.cells #[.int .u64 0, .int .u64 0, .int .u64 0, .int .u64 0] 24)).alloc (.cells #[.int .u64 0, .int .u64 0, .int .u64 0, .int .u64 0] 24) = W0 := ⟨_, rfl⟩
 rw [hW0] at A1 A2 X0 B0 ⊢
 clear hW0
 go_loopw [14] (fun q wr => ∃ i : Nat, i ≤ 4 ∧ q = .int .i64 (i : Int) ∧ Arr4 wr w.heap.size 24 (fun _ => 0) ∧ Arr4 wr (w.heap.size + 1) 24 (fun j => if j < i then (limN V j : Int) else 0) ∧ Limbs wr B 129 4 (fun j => (limN N j : Int)) ∧ Below w.heap.size w wr) (fun q _ => 4 - (intOf q).toNat)
 case atStart => exact ⟨0, by omega, rfl, A1, A2.same4 rfl rfl rfl rfl, X0, B0⟩
 case round =>
  obtain ⟨i, hi, rfl, a1, a2, xx, hB⟩ := hrel
  clear A1 A2 X0 B0
  by_cases hlt : i < 4
  ·have hiI : (i : Int) < 4 := by omega
   have hi0 : (0 : Int) ≤ (i : Int) := by omega
   have hv := hV.out i hlt
   have HA1 := Lib.hid a1
   have HA2 := Lib.hid a2
   have HX := Lib.hid xx
   have HB := Lib.hid hB
   have HI := Lib.hid hlt
   have hmx : Tryz.prog.follows .mixedOrders = true := by kernel_rfl
   have c2 := a2.cell hlt
   rw [if_neg (by omega)] at c2
   have f2 := a2.frozen i
   have ff := HF.out
   have P1 : ∀ x : Ext wr, Calls Tryz.prog 178 #[.pointer (some ⟨B, 0, none⟩), .int .i64 ((f : Int) + (i : Int))] x.w fun e w'' => e = .returned (.int .u64 (limN N (f + i) : Int)) ∧ ∃ y : Ext wr, w'' = y.w := fun x => by
    have h := HP.out x.w (f + i) (by omega) (HX.out.later x.below)
    rw [show ((f + i : Nat) : Int) = (f : Int) + (i : Int) by omega] at h
    exact h.mono fun e w' ⟨he, hw⟩ => ⟨he, x, hw.symm⟩
   have P2 : ∀ x : Ext wr, Calls Tryz.prog 178 #[.pointer (some ⟨B, 0, none⟩), .int .i64 ((f : Int) + (i : Int) + 1)] x.w fun e w'' => e = .returned (.int .u64 (limN N (f + i + 1) : Int)) ∧ ∃ y : Ext wr, w'' = y.w := fun x => by
    have h := HP.out x.w (f + i + 1) (by omega) (HX.out.later x.below)
    rw [show ((f + i + 1 : Nat) : Int) = (f : Int) + (i : Int) + 1 by omega] at h
    exact h.mono fun e w' ⟨he, hw⟩ => ⟨he, x, hw.symm⟩
   have r2 : ∀ x : Ext wr, x.w.cell? ⟨w.heap.size + 1, i, none⟩ = some (.int .u64 0) := fun x => (x.cell (p := ⟨_, i, none⟩) HA2.out.lt).trans c2
   have g2 : ∀ x : Ext wr, x.w.frozen? ⟨w.heap.size + 1, i, none⟩ = false := fun x => (x.frozen (p := ⟨_, i, none⟩) HA2.out.lt).trans f2
   have l1 := limN_lt N (f + i)
   have l2 := limN_lt N (f + i + 1)
   have l3 := limN_lt V i
   generalize limN N (f + i) = u1 at *
   generalize limN N (f + i + 1) = u2 at *
   generalize hue : limN V i = u3 at *
   have HU := Lib.hid hue
   have t1 : ((64 : Int) - (r : Int)).toNat = 64 - r := by omega
   have t2 : (0 : Int) ≤ (64 : Int) - (r : Int) := by omega
   have t3 : (64 : Int) - (r : Int) ≤ 64 := by omega
   have u10 : (0 : Int) ≤ (u1 : Int) := by omega
   have u11 : (u1 : Int) < 18446744073709551616 := by omega
   have u20 : (0 : Int) ≤ (u2 : Int) := by omega
   have u21 : (u2 : Int) < 18446744073709551616 := by omega
   have hor : bits .or .u64 ((u1 : Int) / 2 ^ r) (IntKind.u64.wrap ((u2 : Int) * 2 ^ (64 - r))) = (u3 : Int) := by
    have e1 : (u1 : Int) / 2 ^ r = ((u1 / 2 ^ r : Nat) : Int) := by rw [Int.natCast_ediv, Int.natCast_pow]; rfl
    have e2 : IntKind.u64.wrap ((u2 : Int) * 2 ^ (64 - r)) = ((u2 * 2 ^ (64 - r) % 18446744073709551616 : Nat) : Int) := by rw [IntKind.wrap_u64, Int.natCast_emod, Int.natCast_mul, Int.natCast_pow]; rfl
    rw [e1, e2]
    have b1 : u1 / 2 ^ r < 2 ^ 64 := Nat.lt_of_le_of_lt (Nat.div_le_self _ _) l1
    have b2 : u2 * 2 ^ (64 - r) % 18446744073709551616 < 2 ^ 64 := Nat.mod_lt _ (by decide)
    rw [← hv]
    generalize u1 / 2 ^ r = a at *
    generalize u2 * 2 ^ (64 - r) % 18446744073709551616 = b at *
    exact u64_or_nat a b b1 b2
   clear hi hlt a1 a2 xx hB c2 f2 ff l1 l2 l3 hue hv
   go_wp2
   refine wp_region_mix (C := Grows wr) [some true, some true, some true, some true, some true, some true, some true, some true, some true, some true, some true, some true, some true, some true, some true, some true, some true, some true, some true, none] hmx (by kernel_rfl) (by kernel_rfl) (grows_refl wr) ?_
   simp only [headOf, tailOf]
   repeat (go_big_quiet_step (first | (with_reducible exact P1 _) | (with_reducible exact P2 _)))
   refine wpQuiet_nil ?_
   rintro _ ⟨x, rfl⟩
   have N1 := Lib.hid ((HA1.out.later' x.below).other (p := ⟨w.heap.size + 1, i, none⟩) (by simp) (.int .u64 (u3 : Int)))
   have N2 := Lib.hid ((HA2.out.later' x.below).set HI.out (u3 : Int))
   have N3 := Lib.hid ((HX.out.later x.below).other (p := ⟨w.heap.size + 1, i, none⟩) (show B ≠ w.heap.size + 1 by omega) (.int .u64 (u3 : Int)))
   have N4 := Lib.hid ((HB.out.trans (x.below.mono HB.out.size)).setCell (p := ⟨w.heap.size + 1, i, none⟩) (by simp) (.int .u64 (u3 : Int)))
   go_wp2
   rw [calmPost_normal]
   go_wp2
   go_roundw
   case rel =>
    refine ⟨i + 1, HI.out, by simp, N1.out, ?_, N3.out, N4.out⟩
    have e : (fun j => if j < i + 1 then (limN V j : Int) else 0) = (fun j => if j = i then (u3 : Int) else if j < i then (limN V j : Int) else 0) := by
     funext j
     by_cases h1 : j = i
     ·rw [if_pos h1, if_pos (by omega), h1, HU.out]
     ·rw [if_neg h1]
      by_cases h2 : j < i
      ·rw [if_pos h2, if_pos (by omega)]
      ·rw [if_neg h2, if_neg (by omega)]
    rw [e]
    exact N2.out
   case measure => have := HI.out; simp [intOf]; omega
  ·obtain rfl : i = 4 := by omega
   have a2 := a2.same4 (m' := lim V) (limN_lim V 0 (by omega)).symm (limN_lim V 1 (by omega)).symm (limN_lim V 2 (by omega)).symm (limN_lim V 3 (by omega)).symm
   have HA1 := Lib.hid a1
   have HB := Lib.hid hB
   have c0 := a2.cell (j := 0) (by omega)
   have c1 := a2.cell (j := 1) (by omega)
   have c2 := a2.cell (j := 2) (by omega)
   have c3 := a2.cell (j := 3) (by omega)
   have f0 := a1.frozen 0
   have f1 := a1.frozen 1
   have f2 := a1.frozen 2
   have f3 := a1.frozen 3
   have d0 := a1.cell (j := 0) (by omega)
   have d1 := a1.cell (j := 1) (by omega)
   have d2 := a1.cell (j := 2) (by omega)
   have d3 := a1.cell (j := 3) (by omega)
   clear hi hlt a1 a2 xx hB HP hV
   go_wp2
   refine bodyPost_ret (results_word rfl rfl (HA1.out.store (lim V))) rfl ⟨rfl, ?_⟩
   exact (((HB.out.setCell (p := ⟨w.heap.size, 0, none⟩) (by simp) _).setCell (p := ⟨w.heap.size, 1, none⟩) (by simp) _).setCell (p := ⟨w.heap.size, 2, none⟩) (by simp) _).setCell (p := ⟨w.heap.size, 3, none⟩) (by simp) _
theorem above8_any (B N place : Nat) (hN : N < 18446744073709551616 ^ 8) (hpl : place ≤ 576) (w : World) (h : Limbs w B 143 8 (fun j => (limN N j : Int))) :
  Calls Tryz.prog 172 #[.pointer (some ⟨B, 0, none⟩), .int .i64 (place : Int)] w fun e w' => e = .returned (wv (wmod (N / 2 ^ place))) ∧ Below w.heap.size w w' := by
 obtain ⟨f, r, rfl, hr⟩ : ∃ f r, place = 64 * f + r ∧ r < 64 := ⟨place / 64, place % 64, by omega, by omega⟩
 have hV : Hid (∀ j, j < 4 → Nat.lor (limN N (f + j) / 2 ^ r) (limN N (f + j + 1) * 2 ^ (64 - r) % 18446744073709551616) = limN (wmod (N / 2 ^ (64 * f + r))) j) := fun j hj => by rw [limN_wmod _ j hj]; exact limN_shift N f r j hr
 obtain ⟨V, hVe⟩ : ∃ V, V = wmod (N / 2 ^ (64 * f + r)) := ⟨_, rfl⟩
 rw [← hVe] at hV ⊢
 clear hVe
 have HP : Hid (∀ (W : World) (p : Nat), p < 1152921504606846976 → Limbs W B 143 8 (fun j => (limN N j : Int)) → Calls Tryz.prog 182 #[.pointer (some ⟨B, 0, none⟩), .int .i64 (p : Int)] W fun e w' => e = .returned (.int .u64 (limN N p : Int)) ∧ W = w') := fun W p hp hL => by
  have h := part8_any B p (fun j => (limN N j : Int)) hp W hL
  have e : (if p < 8 then (limN N p : Int) else 0) = (limN N p : Int) := by
   by_cases hp4 : p < 8
   ·rw [if_pos hp4]
   ·rw [if_neg hp4, limN_zero N p 8 hN (by omega)]; rfl
  rw [e] at h
  exact h
 have q1 : ((64 * f + r : Nat) : Int).tdiv 64 = (f : Int) := by rw [Int.tdiv_eq_ediv_of_nonneg (by omega)]; omega
 have q2 : ((64 * f + r : Nat) : Int).tmod 64 = (r : Int) := by rw [Int.tmod_eq_emod_of_nonneg (by omega)]; omega
 have hp0 : (0 : Int) ≤ ((64 * f + r : Nat) : Int) := by omega
 have hp1 : ((64 * f + r : Nat) : Int) ≤ 576 := by omega
 have hf0 : (0 : Int) ≤ (f : Int) := by omega
 have hf1 : (f : Int) ≤ 9 := by omega
 have hr0 : (0 : Int) ≤ (r : Int) := by omega
 have hr1 : (r : Int) < 64 := by omega
 have HR := Lib.hid hr
 have HF : Hid (f ≤ 9) := by show f ≤ 9; omega
 have A1 := (Arr4.mk0' w 24).alloc (.cells #[.int .u64 0, .int .u64 0, .int .u64 0, .int .u64 0] 24)
 have A2 := Arr4.mk0' (w.alloc (.cells #[.int .u64 0, .int .u64 0, .int .u64 0, .int .u64 0] 24)) 24
 have X0 := (h.alloc (.cells #[.int .u64 0, .int .u64 0, .int .u64 0, .int .u64 0] 24)).alloc (.cells #[.int .u64 0, .int .u64 0, .int .u64 0, .int .u64 0] 24)
 have B0 := ((Below.refl _ w).alloc (Nat.le_refl _) (.cells #[.int .u64 0, .int .u64 0, .int .u64 0, .int .u64 0] 24)).alloc (by simp) (.cells #[.int .u64 0, .int .u64 0, .int .u64 0, .int .u64 0] 24)
 have hBl := h.lt
 rw [World.size_alloc] at A2
 clear h hpl hN hr
 generalize ((64 * f + r : Nat) : Int) = pl at *
 go_enter Tryz.func172, Tryz.ntmps172
 go_wp2
 obtain ⟨W0, hW0⟩ : ∃ W0, (w.alloc (.cells #[.int .u64 0, .int .u64 0, .int .u64 0, .int .u64 0] 24)).alloc (.cells #[.int .u64 0, .int .u64 0, .int .u64 0, .int .u64 0] 24) = W0 := ⟨_, rfl⟩
 rw [hW0] at A1 A2 X0 B0 ⊢
 clear hW0
 go_loopw [14] (fun q wr => ∃ i : Nat, i ≤ 4 ∧ q = .int .i64 (i : Int) ∧ Arr4 wr w.heap.size 24 (fun _ => 0) ∧ Arr4 wr (w.heap.size + 1) 24 (fun j => if j < i then (limN V j : Int) else 0) ∧ Limbs wr B 143 8 (fun j => (limN N j : Int)) ∧ Below w.heap.size w wr) (fun q _ => 4 - (intOf q).toNat)
 case atStart => exact ⟨0, by omega, rfl, A1, A2.same4 rfl rfl rfl rfl, X0, B0⟩
 case round =>
  obtain ⟨i, hi, rfl, a1, a2, xx, hB⟩ := hrel
  clear A1 A2 X0 B0
  by_cases hlt : i < 4
  ·have hiI : (i : Int) < 4 := by omega
   have hi0 : (0 : Int) ≤ (i : Int) := by omega
   have hv := hV.out i hlt
   have HA1 := Lib.hid a1
   have HA2 := Lib.hid a2
   have HX := Lib.hid xx
   have HB := Lib.hid hB
   have HI := Lib.hid hlt
   have hmx : Tryz.prog.follows .mixedOrders = true := by kernel_rfl
   have c2 := a2.cell hlt
   rw [if_neg (by omega)] at c2
   have f2 := a2.frozen i
   have ff := HF.out
   have P1 : ∀ x : Ext wr, Calls Tryz.prog 182 #[.pointer (some ⟨B, 0, none⟩), .int .i64 ((f : Int) + (i : Int))] x.w fun e w'' => e = .returned (.int .u64 (limN N (f + i) : Int)) ∧ ∃ y : Ext wr, w'' = y.w := fun x => by
    have h := HP.out x.w (f + i) (by omega) (HX.out.later x.below)
    rw [show ((f + i : Nat) : Int) = (f : Int) + (i : Int) by omega] at h
    exact h.mono fun e w' ⟨he, hw⟩ => ⟨he, x, hw.symm⟩
   have P2 : ∀ x : Ext wr, Calls Tryz.prog 182 #[.pointer (some ⟨B, 0, none⟩), .int .i64 ((f : Int) + (i : Int) + 1)] x.w fun e w'' => e = .returned (.int .u64 (limN N (f + i + 1) : Int)) ∧ ∃ y : Ext wr, w'' = y.w := fun x => by
    have h := HP.out x.w (f + i + 1) (by omega) (HX.out.later x.below)
    rw [show ((f + i + 1 : Nat) : Int) = (f : Int) + (i : Int) + 1 by omega] at h
    exact h.mono fun e w' ⟨he, hw⟩ => ⟨he, x, hw.symm⟩
   have r2 : ∀ x : Ext wr, x.w.cell? ⟨w.heap.size + 1, i, none⟩ = some (.int .u64 0) := fun x => (x.cell (p := ⟨_, i, none⟩) HA2.out.lt).trans c2
   have g2 : ∀ x : Ext wr, x.w.frozen? ⟨w.heap.size + 1, i, none⟩ = false := fun x => (x.frozen (p := ⟨_, i, none⟩) HA2.out.lt).trans f2
   have l1 := limN_lt N (f + i)
   have l2 := limN_lt N (f + i + 1)
   have l3 := limN_lt V i
   generalize limN N (f + i) = u1 at *
   generalize limN N (f + i + 1) = u2 at *
   generalize hue : limN V i = u3 at *
   have HU := Lib.hid hue
   have t1 : ((64 : Int) - (r : Int)).toNat = 64 - r := by omega
   have t2 : (0 : Int) ≤ (64 : Int) - (r : Int) := by omega
   have t3 : (64 : Int) - (r : Int) ≤ 64 := by omega
   have u10 : (0 : Int) ≤ (u1 : Int) := by omega
   have u11 : (u1 : Int) < 18446744073709551616 := by omega
   have u20 : (0 : Int) ≤ (u2 : Int) := by omega
   have u21 : (u2 : Int) < 18446744073709551616 := by omega
   have hor : bits .or .u64 ((u1 : Int) / 2 ^ r) (IntKind.u64.wrap ((u2 : Int) * 2 ^ (64 - r))) = (u3 : Int) := by
    have e1 : (u1 : Int) / 2 ^ r = ((u1 / 2 ^ r : Nat) : Int) := by rw [Int.natCast_ediv, Int.natCast_pow]; rfl
    have e2 : IntKind.u64.wrap ((u2 : Int) * 2 ^ (64 - r)) = ((u2 * 2 ^ (64 - r) % 18446744073709551616 : Nat) : Int) := by rw [IntKind.wrap_u64, Int.natCast_emod, Int.natCast_mul, Int.natCast_pow]; rfl
    rw [e1, e2]
    have b1 : u1 / 2 ^ r < 2 ^ 64 := Nat.lt_of_le_of_lt (Nat.div_le_self _ _) l1
    have b2 : u2 * 2 ^ (64 - r) % 18446744073709551616 < 2 ^ 64 := Nat.mod_lt _ (by decide)
    rw [← hv]
    generalize u1 / 2 ^ r = a at *
    generalize u2 * 2 ^ (64 - r) % 18446744073709551616 = b at *
    exact u64_or_nat a b b1 b2
   clear hi hlt a1 a2 xx hB c2 f2 ff l1 l2 l3 hue hv
   go_wp2
   refine wp_region_mix (C := Grows wr) [some true, some true, some true, some true, some true, some true, some true, some true, some true, some true, some true, some true, some true, some true, some true, some true, some true, some true, some true, none] hmx (by kernel_rfl) (by kernel_rfl) (grows_refl wr) ?_
   simp only [headOf, tailOf]
   repeat (go_big_quiet_step (first | (with_reducible exact P1 _) | (with_reducible exact P2 _)))
   refine wpQuiet_nil ?_
   rintro _ ⟨x, rfl⟩
   have N1 := Lib.hid ((HA1.out.later' x.below).other (p := ⟨w.heap.size + 1, i, none⟩) (by simp) (.int .u64 (u3 : Int)))
   have N2 := Lib.hid ((HA2.out.later' x.below).set HI.out (u3 : Int))
   have N3 := Lib.hid ((HX.out.later x.below).other (p := ⟨w.heap.size + 1, i, none⟩) (show B ≠ w.heap.size + 1 by omega) (.int .u64 (u3 : Int)))
   have N4 := Lib.hid ((HB.out.trans (x.below.mono HB.out.size)).setCell (p := ⟨w.heap.size + 1, i, none⟩) (by simp) (.int .u64 (u3 : Int)))
   go_wp2
   rw [calmPost_normal]
   go_wp2
   go_roundw
   case rel =>
    refine ⟨i + 1, HI.out, by simp, N1.out, ?_, N3.out, N4.out⟩
    have e : (fun j => if j < i + 1 then (limN V j : Int) else 0) = (fun j => if j = i then (u3 : Int) else if j < i then (limN V j : Int) else 0) := by
     funext j
     by_cases h1 : j = i
     ·rw [if_pos h1, if_pos (by omega), h1, HU.out]
     ·rw [if_neg h1]
      by_cases h2 : j < i
      ·rw [if_pos h2, if_pos (by omega)]
      ·rw [if_neg h2, if_neg (by omega)]
    rw [e]
    exact N2.out
   case measure => have := HI.out; simp [intOf]; omega
  ·obtain rfl : i = 4 := by omega
   have a2 := a2.same4 (m' := lim V) (limN_lim V 0 (by omega)).symm (limN_lim V 1 (by omega)).symm (limN_lim V 2 (by omega)).symm (limN_lim V 3 (by omega)).symm
   have HA1 := Lib.hid a1
   have HB := Lib.hid hB
   have c0 := a2.cell (j := 0) (by omega)
   have c1 := a2.cell (j := 1) (by omega)
   have c2 := a2.cell (j := 2) (by omega)
   have c3 := a2.cell (j := 3) (by omega)
   have f0 := a1.frozen 0
   have f1 := a1.frozen 1
   have f2 := a1.frozen 2
   have f3 := a1.frozen 3
   have d0 := a1.cell (j := 0) (by omega)
   have d1 := a1.cell (j := 1) (by omega)
   have d2 := a1.cell (j := 2) (by omega)
   have d3 := a1.cell (j := 3) (by omega)
   clear hi hlt a1 a2 xx hB HP hV
   go_wp2
   refine bodyPost_ret (results_word rfl rfl (HA1.out.store (lim V))) rfl ⟨rfl, ?_⟩
   exact (((HB.out.setCell (p := ⟨w.heap.size, 0, none⟩) (by simp) _).setCell (p := ⟨w.heap.size, 1, none⟩) (by simp) _).setCell (p := ⟨w.heap.size, 2, none⟩) (by simp) _).setCell (p := ⟨w.heap.size, 3, none⟩) (by simp) _
end
end Go.Proofs.YtnkhmgmganejmaaGreatDoor
