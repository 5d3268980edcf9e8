/- Numbers of four and of eight parts: a part, and the length. For every number. -/
import Derived.Test.YtnlcllhjhbaigaaDivM
import Derived.Test.YtnlcllhjhbaigaaWordE
import Derived.Lib.Strings
import Derived.Lib.Slices
import Derived.Lib.Small
import Derived.Lib.Walk
import Derived.Deep.Light
namespace Go.Proofs.Ytnlcllhjhbaigaa
open Go Go.RowKit Go.Shelf
attribute [local go_sem] Oper.semAt_some Grows wide_fn

/-! ### Blocks of parts -/
/-- Block B holds n parts. -/
def Limbs (W : World) (B : Nat) (t : TypeId) (n : Nat) (m : Nat → Int) : Prop := ∃ cur, W.heap[B]? = some (.cells cur t (0, 0)) ∧ cur.size = n ∧ ∀ j, j < n → cur[j]? = some (.int .u64 (m j))
theorem Limbs.lt {W : World} {B n : Nat} {t : TypeId} {m : Nat → Int} (h : Limbs W B t n m) : B < W.heap.size := by
  obtain ⟨cur, h1, _⟩ := h
  exact (Array.getElem?_eq_some_iff.1 h1).1
theorem Limbs.cell {W : World} {B n : Nat} {t : TypeId} {m : Nat → Int} (h : Limbs W B t n m) {j : Nat} (hj : j < n) : W.cell? ⟨B, j, none⟩ = some (.int .u64 (m j)) := by
  obtain ⟨cur, h1, _, h2⟩ := h
  simp [World.cell?, h1, h2 j hj]
theorem Limbs.frozen {W : World} {B n : Nat} {t : TypeId} {m : Nat → Int} (h : Limbs W B t n m) (j : Nat) : W.frozen? ⟨B, j, none⟩ = false := by
  obtain ⟨cur, h1, _⟩ := h
  simp [World.frozen?, h1]
theorem Limbs.kept {W W' : World} {row : Option Nat} {B n : Nat} {t : TypeId} {m : Nat → Int} (h : Limbs W B t n m) (hg : W.grownBy W' row) (hne : some B ≠ row) : Limbs W' B t n m := by
  have hl := h.lt
  obtain ⟨cur, h1, h2⟩ := h
  exact ⟨cur, (hg.block B hl hne).trans h1, h2⟩
theorem Limbs.below {W W' : World} {B n k : Nat} {t : TypeId} {m : Nat → Int} (h : Limbs W B t n m) (hb : Below k W W') (hlt : B < k) : Limbs W' B t n m := by
  obtain ⟨cur, h1, h2⟩ := h
  exact ⟨cur, (hb.block B hlt).trans h1, h2⟩
theorem Limbs.later {W W' : World} {B n : Nat} {t : TypeId} {m : Nat → Int} (h : Limbs W B t n m) (hb : Below W.heap.size W W') : Limbs W' B t n m := h.below hb h.lt
theorem Limbs.alloc {W : World} {B n : Nat} {t : TypeId} {m : Nat → Int} (h : Limbs W B t n m) (o : Obj) : Limbs (W.alloc o) B t n m := h.kept (World.grownBy_alloc W o none) (by simp)
theorem Limbs.other {W : World} {B n : Nat} {t : TypeId} {m : Nat → Int} (h : Limbs W B t n m) {p : Addr} (hne : B ≠ p.block) (v : Value) : Limbs (W.setCell p v) B t n m := by
  obtain ⟨cur, h1, h2⟩ := h
  exact ⟨cur, (Below.heap_setCell W p v B hne).trans h1, h2⟩
theorem Limbs.set {W : World} {B n : Nat} {t : TypeId} {m : Nat → Int} (h : Limbs W B t n m) {k : Nat} (hk : k < n) (v : Int) : Limbs (W.setCell ⟨B, k, none⟩ (.int .u64 v)) B t n (fun j => if j = k then v else m j) := by
  obtain ⟨cur, h1, hs, h2⟩ := h
  obtain ⟨hlt, he⟩ := Array.getElem?_eq_some_iff.1 h1
  refine ⟨cur.setIfInBounds k (.int .u64 v), ?_, by simpa using hs, fun j hj => ?_⟩
  · show (W.heap.modify B _)[B]? = _
    rw [Array.getElem?_eq_getElem (by rw [Array.size_modify]; exact hlt), Array.getElem_modify_self, he]
    rfl
  · show (cur.setIfInBounds k (.int .u64 v))[j]? = some (.int .u64 (if j = k then v else m j))
    by_cases e : j = k
    · subst e
      rw [if_pos rfl, Array.getElem?_setIfInBounds_self_of_lt (by omega)]
    · rw [if_neg e, Array.getElem?_setIfInBounds_ne (by omega)]
      exact h2 j hj
theorem Limbs.congr {W : World} {B n : Nat} {t : TypeId} {m m' : Nat → Int} (h : Limbs W B t n m) (he : ∀ j, j < n → m j = m' j) : Limbs W B t n m' := by
  obtain ⟨cur, h1, hs, h2⟩ := h
  exact ⟨cur, h1, hs, fun j hj => by rw [← he j hj]; exact h2 j hj⟩
theorem Limbs.of4 {W : World} {B : Nat} {t : TypeId} {m : Nat → Int} (h : Arr4 W B t m) : Limbs W B t 4 m := ⟨_, h, rfl, fun j hj => by
  rcases (show j = 0 ∨ j = 1 ∨ j = 2 ∨ j = 3 by omega) with rfl | rfl | rfl | rfl <;> rfl⟩
theorem Limbs.to4 {W : World} {B : Nat} {t : TypeId} {m : Nat → Int} (h : Limbs W B t 4 m) : Arr4 W B t m := by
  obtain ⟨cur, h1, hs, h2⟩ := h
  unfold Arr4
  rw [h1]
  congr 2
  refine Array.ext (by rw [hs]; rfl) fun j hj hj' => ?_
  have h3 := h2 j (by omega)
  rw [Array.getElem?_eq_getElem hj] at h3
  rw [Option.some.inj h3]
  rcases (show j = 0 ∨ j = 1 ∨ j = 2 ∨ j = 3 by omega) with rfl | rfl | rfl | rfl <;> rfl

/-! ### Len64 -/
set_option maxRecDepth 100000 in
theorem tab8_size : (Lib.len8tab.size : Int) = 256 := by
  have : Lib.len8tab.size = 256 := by decide
  omega
theorem tab8_get (y : Int) (h : y.toNat < Lib.len8tab.size) : ((Lib.len8tab[y.toNat]'h).toNat : Int) = Lib.len8 y := by
  unfold Lib.len8
  rw [getElem?_pos Lib.len8tab y.toNat h]
  rfl
theorem wrap_two (k a b : Nat) (hk : k ≤ 56) (ha : a ≤ 8) (hb : b = k + a) : RowKit.wrap64 ((k : Int) + RowKit.wrap64 (a : Int)) = (b : Int) := by
  unfold RowKit.wrap64
  omega
theorem wrap_twice (a : Nat) (ha : a ≤ 8) : RowKit.wrap64 (RowKit.wrap64 (a : Int)) = (a : Int) := by
  unfold RowKit.wrap64
  omega
theorem wrap_once (a : Nat) (ha : a ≤ 8) : RowKit.wrap64 (a : Int) = (a : Int) := by
  unfold RowKit.wrap64
  omega
set_option maxHeartbeats 4000000 in
set_option maxRecDepth 100000 in
theorem len64_any (x : Int) (w : World) (h0 : 0 ≤ x) (h1 : x ≤ 18446744073709551615) :
    Calls Try.prog 56 #[.int .u64 x] w fun e w' => e = .returned (.int .i64 (Lib.bitLen x.toNat)) ∧ w' = w := by
  go_enter Try.func56, Try.ntmps56
  go_wp2
  all_goals first
    | (go_ret; refine ⟨congrArg Ending.returned (congrArg (Value.int IntKind.i64) ?_), rfl⟩; go_light)
    | (exfalso
       go_light
       have hs := tab8_size
       omega)
  all_goals first
    | (rw [tab8_get (x / 4294967296 / 65536 / 256) _, Lib.len8_of (x / 4294967296 / 65536 / 256) (by omega) (by omega)]
       have e : (x / 4294967296 / 65536 / 256).toNat = x.toNat / 72057594037927936 := by omega
       have l := Lib.bitLen_le8' (x / 4294967296 / 65536 / 256) (by omega) (by omega)
       have s := Lib.bitLen_shift56 x.toNat (by omega) (by omega)
       rw [e] at l ⊢
       exact wrap_two 56 _ _ (by decide) l s)
    | (rw [tab8_get (x / 4294967296 / 65536) _, Lib.len8_of (x / 4294967296 / 65536) (by omega) (by omega)]
       have e : (x / 4294967296 / 65536).toNat = x.toNat / 281474976710656 := by omega
       have l := Lib.bitLen_le8' (x / 4294967296 / 65536) (by omega) (by omega)
       have s := Lib.bitLen_shift48 x.toNat (by omega) (by omega)
       rw [e] at l ⊢
       exact wrap_two 48 _ _ (by decide) l s)
    | (rw [tab8_get (x / 4294967296 / 256) _, Lib.len8_of (x / 4294967296 / 256) (by omega) (by omega)]
       have e : (x / 4294967296 / 256).toNat = x.toNat / 1099511627776 := by omega
       have l := Lib.bitLen_le8' (x / 4294967296 / 256) (by omega) (by omega)
       have s := Lib.bitLen_shift40 x.toNat (by omega) (by omega)
       rw [e] at l ⊢
       exact wrap_two 40 _ _ (by decide) l s)
    | (rw [tab8_get (x / 4294967296) _, Lib.len8_of (x / 4294967296) (by omega) (by omega)]
       have e : (x / 4294967296).toNat = x.toNat / 4294967296 := by omega
       have l := Lib.bitLen_le8' (x / 4294967296) (by omega) (by omega)
       have s := Lib.bitLen_shift32 x.toNat (by omega) (by omega)
       rw [e] at l ⊢
       exact wrap_two 32 _ _ (by decide) l s)
    | (rw [tab8_get (x / 65536 / 256) _, Lib.len8_of (x / 65536 / 256) (by omega) (by omega)]
       have e : (x / 65536 / 256).toNat = x.toNat / 16777216 := by omega
       have l := Lib.bitLen_le8' (x / 65536 / 256) (by omega) (by omega)
       have s := Lib.bitLen_shift24 x.toNat (by omega) (by omega)
       rw [e] at l ⊢
       exact wrap_two 24 _ _ (by decide) l s)
    | (rw [tab8_get (x / 65536) _, Lib.len8_of (x / 65536) (by omega) (by omega)]
       have e : (x / 65536).toNat = x.toNat / 65536 := by omega
       have l := Lib.bitLen_le8' (x / 65536) (by omega) (by omega)
       have s := Lib.bitLen_shift16 x.toNat (by omega) (by omega)
       rw [e] at l ⊢
       exact wrap_two 16 _ _ (by decide) l s)
    | (rw [tab8_get (x / 256) _, Lib.len8_of (x / 256) (by omega) (by omega)]
       have e : (x / 256).toNat = x.toNat / 256 := by omega
       have l := Lib.bitLen_le8' (x / 256) (by omega) (by omega)
       have s := Lib.bitLen_shift8 x.toNat (by omega) (by omega)
       rw [e] at l ⊢
       exact wrap_two 8 _ _ (by decide) l s)
    | (rw [tab8_get x _, Lib.len8_of x (by omega) (by omega)]
       have l := Lib.bitLen_le8' x (by omega) (by omega)
       first | exact wrap_once _ l | exact wrap_twice _ l)


/-! ### Numbers of 4 parts -/
set_option maxRecDepth 100000 in
set_option maxHeartbeats 1000000 in
theorem part4_any (B p : Nat) (m : Nat → Int) (hp : p < 1152921504606846976) (w : World) (h : Limbs w B 33 4 m) :
    Calls Try.prog 59 #[.pointer (some ⟨B, 0, none⟩), .int .i64 (p : Int)] w fun e w' => e = .returned (.int .u64 (if p < 4 then m p else 0)) ∧ w = w' := by
  have hp0 : (0 : Int) ≤ (p : Int) := by omega
  have c : ∀ j, j < 4 → w.cell? ⟨B, j, none⟩ = some (.int .u64 (m j)) := fun j hj => h.cell hj
  have c0 := c 0 (by omega)
  have c1 := c 1 (by omega)
  have c2 := c 2 (by omega)
  have c3 := c 3 (by omega)
  have HC := Lib.hid c
  clear c
  by_cases hlt : p < 4
  · rw [if_pos hlt]
    have cp := HC.out p hlt
    have hpI : (p : Int) < 4 := by omega
    have hpn : ¬ (4 : Int) ≤ (p : Int) := by omega
    clear h
    go_enter Try.func59, Try.ntmps59
    go_wp2
    go_ret
    exact ⟨rfl, rfl⟩
  · rw [if_neg hlt]
    have hpn : (4 : Int) ≤ (p : Int) := by omega
    clear h
    go_enter Try.func59, Try.ntmps59
    go_wp2
    go_ret
    exact ⟨rfl, rfl⟩

set_option maxRecDepth 100000 in
set_option maxHeartbeats 2000000 in
theorem length4_any (B N : Nat) (m : Nat → Int) (hm : ∀ j, j < 4 → m j = ((N / 18446744073709551616 ^ j % 18446744073709551616 : Nat) : Int)) (hN : N < 18446744073709551616 ^ 4) (w : World) (h : Limbs w B 33 4 m) :
    Calls Try.prog 39 #[.pointer (some ⟨B, 0, none⟩)] w fun e w' => (∃ L : Nat, e = .returned (.int .i64 (L : Int)) ∧ LenOk N L ∧ L ≤ 256) ∧ w = w' := by
  have HC := Lib.hid (fun j hj => h.cell (j := j) hj)
  have HM := Lib.hid hm
  have HN := Lib.hid hN
  have c0 := HC.out 0 (by omega)
  have c1 := HC.out 1 (by omega)
  have c2 := HC.out 2 (by omega)
  have c3 := HC.out 3 (by omega)
  clear h hm hN
  go_enter Try.func39, Try.ntmps39
  go_wp2
  clear c0
  clear c1
  clear c2
  clear c3
  go_loop [3] (fun i => ∃ (z : Int) (q : Nat), i = .int .i64 z ∧ q ≤ 4 ∧ z = (q : Int) - 1 ∧ N < 18446744073709551616 ^ q) (fun i => (intOf i + 1).toNat)
  case atStart => exact ⟨_, 4, rfl, by omega, by omega, HN.out⟩
  case round =>
    obtain ⟨z, q, rfl, hq, hz, hlt⟩ := hrel
    by_cases hq0 : 0 < q
    · obtain ⟨p, rfl⟩ : ∃ p, q = p + 1 := ⟨q - 1, by omega⟩
      obtain rfl : z = (p : Int) := by omega
      have hp : p < 4 := by omega
      have hp0 : (0 : Int) ≤ (p : Int) := by omega
      have hpI : (p : Int) < 4 := by omega
      have cp := HC.out p hp
      have mp := HM.out p hp
      have hx : N / 18446744073709551616 ^ p < 18446744073709551616 := by
        rw [Nat.div_lt_iff_lt_mul (Nat.pow_pos (by decide)), ← Nat.pow_succ']
        exact hlt
      rw [Nat.mod_eq_of_lt hx] at mp
      generalize hxe : N / 18446744073709551616 ^ p = x at *
      rw [mp] at cp
      have hx0 : (0 : Int) ≤ (x : Int) := by omega
      have hx1 : (x : Int) < 18446744073709551616 := by omega
      by_cases h0 : x = 0
      · subst h0
        have HL : Hid (N < 18446744073709551616 ^ p) := by
          show _
          have := Nat.div_eq_zero_iff.1 hxe
          rcases this with h | h
          · exact absurd h (Nat.ne_of_gt (Nat.pow_pos (by decide)))
          · exact h
        have HP := Lib.hid hp
        clear hq hz hlt hq0 hp mp hx hxe
        go_wp2
        go_round
        case rel => exact ⟨(p : Int) - 1, p, by simp, by have := HP.out; omega, rfl, HL.out⟩
        case measure => first | (simp [intOf]; done) | (simp [intOf]; omega)
      · have hxb : ((x : Int) != 0) = true := by simp; omega
        have HL := Lib.hid (lenOk_part N p x hx h0 hxe)
        have hb : Lib.bitLen x ≤ 64 := Lib.bitLen_le x 64 (by omega) hx
        have HP := Lib.hid hp
        have LL := len64_any (x : Int) w hx0 (by omega)
        rw [Int.toNat_natCast] at LL
        have HB := Lib.hid hb
        have b0 : (0 : Int) ≤ ((Lib.bitLen x : Nat) : Int) := by omega
        have b1 : ((Lib.bitLen x : Nat) : Int) ≤ 64 := by omega
        generalize Lib.bitLen x = lx at *
        clear hq hz hlt hq0 hp mp hx hxe h0 hb
        go_wp2_with fail
        refine LL.mono ?_
        rintro e w1 ⟨rfl, rfl⟩
        go_wp2
        go_ret
        refine ⟨⟨p * 64 + lx, ?_, HL.out, by have := HP.out; have := HB.out; omega⟩, rfl⟩
        simp
    · obtain rfl : q = 0 := by omega
      obtain rfl : z = -1 := by omega
      have hN0 : N = 0 := by rw [Nat.pow_zero] at hlt; omega
      have HN0 := Lib.hid hN0
      clear hq hz hlt hq0 hN0
      go_wp2
      go_ret
      refine ⟨⟨0, rfl, by rw [HN0.out]; exact lenOk_zero, by omega⟩, rfl⟩

/-! ### Numbers of 8 parts -/
set_option maxRecDepth 100000 in
set_option maxHeartbeats 1000000 in
theorem part8_any (B p : Nat) (m : Nat → Int) (hp : p < 1152921504606846976) (w : World) (h : Limbs w B 43 8 m) :
    Calls Try.prog 63 #[.pointer (some ⟨B, 0, none⟩), .int .i64 (p : Int)] w fun e w' => e = .returned (.int .u64 (if p < 8 then m p else 0)) ∧ w = w' := by
  have hp0 : (0 : Int) ≤ (p : Int) := by omega
  have c : ∀ j, j < 8 → w.cell? ⟨B, j, none⟩ = some (.int .u64 (m j)) := fun j hj => h.cell hj
  have c0 := c 0 (by omega)
  have c1 := c 1 (by omega)
  have c2 := c 2 (by omega)
  have c3 := c 3 (by omega)
  have c4 := c 4 (by omega)
  have c5 := c 5 (by omega)
  have c6 := c 6 (by omega)
  have c7 := c 7 (by omega)
  have HC := Lib.hid c
  clear c
  by_cases hlt : p < 8
  · rw [if_pos hlt]
    have cp := HC.out p hlt
    have hpI : (p : Int) < 8 := by omega
    have hpn : ¬ (8 : Int) ≤ (p : Int) := by omega
    clear h
    go_enter Try.func63, Try.ntmps63
    go_wp2
    go_ret
    exact ⟨rfl, rfl⟩
  · rw [if_neg hlt]
    have hpn : (8 : Int) ≤ (p : Int) := by omega
    clear h
    go_enter Try.func63, Try.ntmps63
    go_wp2
    go_ret
    exact ⟨rfl, rfl⟩

set_option maxRecDepth 100000 in
set_option maxHeartbeats 2000000 in
theorem length8_any (B N : Nat) (m : Nat → Int) (hm : ∀ j, j < 8 → m j = ((N / 18446744073709551616 ^ j % 18446744073709551616 : Nat) : Int)) (hN : N < 18446744073709551616 ^ 8) (w : World) (h : Limbs w B 43 8 m) :
    Calls Try.prog 47 #[.pointer (some ⟨B, 0, none⟩)] w fun e w' => (∃ L : Nat, e = .returned (.int .i64 (L : Int)) ∧ LenOk N L ∧ L ≤ 512) ∧ w = w' := by
  have HC := Lib.hid (fun j hj => h.cell (j := j) hj)
  have HM := Lib.hid hm
  have HN := Lib.hid hN
  have c0 := HC.out 0 (by omega)
  have c1 := HC.out 1 (by omega)
  have c2 := HC.out 2 (by omega)
  have c3 := HC.out 3 (by omega)
  have c4 := HC.out 4 (by omega)
  have c5 := HC.out 5 (by omega)
  have c6 := HC.out 6 (by omega)
  have c7 := HC.out 7 (by omega)
  clear h hm hN
  go_enter Try.func47, Try.ntmps47
  go_wp2
  clear c0
  clear c1
  clear c2
  clear c3
  clear c4
  clear c5
  clear c6
  clear c7
  go_loop [3] (fun i => ∃ (z : Int) (q : Nat), i = .int .i64 z ∧ q ≤ 8 ∧ z = (q : Int) - 1 ∧ N < 18446744073709551616 ^ q) (fun i => (intOf i + 1).toNat)
  case atStart => exact ⟨_, 8, rfl, by omega, by omega, HN.out⟩
  case round =>
    obtain ⟨z, q, rfl, hq, hz, hlt⟩ := hrel
    by_cases hq0 : 0 < q
    · obtain ⟨p, rfl⟩ : ∃ p, q = p + 1 := ⟨q - 1, by omega⟩
      obtain rfl : z = (p : Int) := by omega
      have hp : p < 8 := by omega
      have hp0 : (0 : Int) ≤ (p : Int) := by omega
      have hpI : (p : Int) < 8 := by omega
      have cp := HC.out p hp
      have mp := HM.out p hp
      have hx : N / 18446744073709551616 ^ p < 18446744073709551616 := by
        rw [Nat.div_lt_iff_lt_mul (Nat.pow_pos (by decide)), ← Nat.pow_succ']
        exact hlt
      rw [Nat.mod_eq_of_lt hx] at mp
      generalize hxe : N / 18446744073709551616 ^ p = x at *
      rw [mp] at cp
      have hx0 : (0 : Int) ≤ (x : Int) := by omega
      have hx1 : (x : Int) < 18446744073709551616 := by omega
      by_cases h0 : x = 0
      · subst h0
        have HL : Hid (N < 18446744073709551616 ^ p) := by
          show _
          have := Nat.div_eq_zero_iff.1 hxe
          rcases this with h | h
          · exact absurd h (Nat.ne_of_gt (Nat.pow_pos (by decide)))
          · exact h
        have HP := Lib.hid hp
        clear hq hz hlt hq0 hp mp hx hxe
        go_wp2
        go_round
        case rel => exact ⟨(p : Int) - 1, p, by simp, by have := HP.out; omega, rfl, HL.out⟩
        case measure => first | (simp [intOf]; done) | (simp [intOf]; omega)
      · have hxb : ((x : Int) != 0) = true := by simp; omega
        have HL := Lib.hid (lenOk_part N p x hx h0 hxe)
        have hb : Lib.bitLen x ≤ 64 := Lib.bitLen_le x 64 (by omega) hx
        have HP := Lib.hid hp
        have LL := len64_any (x : Int) w hx0 (by omega)
        rw [Int.toNat_natCast] at LL
        have HB := Lib.hid hb
        have b0 : (0 : Int) ≤ ((Lib.bitLen x : Nat) : Int) := by omega
        have b1 : ((Lib.bitLen x : Nat) : Int) ≤ 64 := by omega
        generalize Lib.bitLen x = lx at *
        clear hq hz hlt hq0 hp mp hx hxe h0 hb
        go_wp2_with fail
        refine LL.mono ?_
        rintro e w1 ⟨rfl, rfl⟩
        go_wp2
        go_ret
        refine ⟨⟨p * 64 + lx, ?_, HL.out, by have := HP.out; have := HB.out; omega⟩, rfl⟩
        simp
    · obtain rfl : q = 0 := by omega
      obtain rfl : z = -1 := by omega
      have hN0 : N = 0 := by rw [Nat.pow_zero] at hlt; omega
      have HN0 := Lib.hid hN0
      clear hq hz hlt hq0 hN0
      go_wp2
      go_ret
      refine ⟨⟨0, rfl, by rw [HN0.out]; exact lenOk_zero, by omega⟩, rfl⟩
end Go.Proofs.Ytnlcllhjhbaigaa
