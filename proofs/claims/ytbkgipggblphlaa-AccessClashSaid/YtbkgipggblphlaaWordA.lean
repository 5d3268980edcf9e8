/- Sums, differences and the order of words. For every word. -/
import Derived.Test.YtbkgipggblphlaaJoinI
import Derived.Test.YtbkgipggblphlaaMath
import Derived.Shelf.Spec.BitsCarry
import Derived.Shelf.Bits.Mul64
namespace Go.Proofs.Ytbkgipggblphlaa
open Go Go.RowKit Go.Shelf
attribute [local go_sem] Oper.semAt_some Grows wide_fn

/-- A word, by its number. -/
def wv (n : Nat) : Value := .agg #[.int .u64 (lim n 0), .int .u64 (lim n 1), .int .u64 (lim n 2), .int .u64 (lim n 3)]
theorem wv_of {n : Nat} {x0 x1 x2 x3 : Int} (h : lim n 0 = x0 ∧ lim n 1 = x1 ∧ lim n 2 = x2 ∧ lim n 3 = x3) : wv n = .agg #[.int .u64 x0, .int .u64 x1, .int .u64 x2, .int .u64 x3] := by
  obtain ⟨rfl, rfl, rfl, rfl⟩ := h; rfl

/-- What was there before reads as it did. -/
theorem bcell {W w1 : World} (hb : Below W.heap.size W w1) : (∀ b o, b < W.heap.size → w1.cell? ⟨b, o, none⟩ = W.cell? ⟨b, o, none⟩) ∧ (∀ b o, b < W.heap.size → w1.frozen? ⟨b, o, none⟩ = W.frozen? ⟨b, o, none⟩) :=
  ⟨fun b o h => hb.cell (p := ⟨b, o, none⟩) h, fun b o h => hb.frozen (p := ⟨b, o, none⟩) h⟩

/-- A new block that holds a word. -/
theorem Arr4.word (W : World) (t : TypeId) (n : Nat) : Arr4 (W.alloc (.cells #[.int .u64 (lim n 0), .int .u64 (lim n 1), .int .u64 (lim n 2), .int .u64 (lim n 3)] t)) W.heap.size t (lim n) := World.alloc_heap_new W _

theorem Arr4.store {W : World} {B : Nat} {t : TypeId} {m : Nat → Int} (h : Arr4 W B t m) (m' : Nat → Int) :
    Arr4 ((((W.setCell ⟨B, 0, none⟩ (.int .u64 (m' 0))).setCell ⟨B, 1, none⟩ (.int .u64 (m' 1))).setCell ⟨B, 2, none⟩ (.int .u64 (m' 2))).setCell ⟨B, 3, none⟩ (.int .u64 (m' 3))) B t m' := by
  have h := Arr4.set (Arr4.set (Arr4.set (Arr4.set h (k := 0) (by omega) (m' 0)) (k := 1) (by omega) (m' 1)) (k := 2) (by omega) (m' 2)) (k := 3) (by omega) (m' 3)
  exact h

/-- A word handed back out of its variable. -/
theorem results_word {fn : Func} {t : Tmp} {tmps : Array Value} {W : World} {B : Nat} {m : Nat → Int} (h : fn.results = #[ResultVar.cell t 29]) (ht : tmps.getD t undef = .pointer (some ⟨B, 0, none⟩)) (hA : Arr4 W B 29 m) :
    (results fn tmps).run Try.prog W = .ok (.agg #[.int .u64 (m 0), .int .u64 (m 1), .int .u64 (m 2), .int .u64 (m 3)]) W := by
  have e0 := hA.cell (j := 0) (by omega)
  have e1 := hA.cell (j := 1) (by omega)
  have e2 := hA.cell (j := 2) (by omega)
  have e3 := hA.cell (j := 3) (by omega)
  simp at ht
  simp [results, h, ht, go_sem, e0, e1, e2, e3]


/-! ### The order -/
set_option maxHeartbeats 1000000 in
theorem compare_ret (x y : Int) : Ret Try.prog 47 #[.int .u64 x, .int .u64 y] (.int .i64 (cmpO 0 x y)) := by
  intro w
  by_cases h1 : x < y
  · have e : cmpO 0 x y = -1 := by unfold cmpO; rw [if_pos h1]
    rw [e]; clear e
    go_enter Try.func47, Try.ntmps47
    go_wp2
    go_ret
    exact ⟨rfl, Below.refl _ _⟩
  · by_cases h2 : y < x
    · have e : cmpO 0 x y = 1 := by unfold cmpO; rw [if_neg h1, if_pos h2]
      rw [e]; clear e
      go_enter Try.func47, Try.ntmps47
      go_wp2
      go_ret
      exact ⟨rfl, Below.refl _ _⟩
    · have e : cmpO 0 x y = 0 := by unfold cmpO; rw [if_neg h1, if_neg h2]
      rw [e]; clear e
      go_enter Try.func47, Try.ntmps47
      go_wp2
      go_ret
      exact ⟨rfl, Below.refl _ _⟩

/-- The first one that is not 0, of two. -/
def orOf (a b : Int) : Int := if a = 0 then b else a
set_option maxHeartbeats 1000000 in
theorem or_int (a b : Int) (g cap : Nat) (w : World) (h0 : w.cell? ⟨g, 0, none⟩ = some (.int .i64 a)) (h1 : w.cell? ⟨g, 1, none⟩ = some (.int .i64 b)) :
    Calls Try.prog 46 #[.slice (some ⟨g, 0, none⟩) 2 cap] w fun e w' => e = .returned (.int .i64 (orOf a b)) ∧ w = w' := by
  have hz : Hid (a = 0 → orOf a b = b) := fun h => by unfold orOf; rw [if_pos h]
  have hn : Hid (a ≠ 0 → orOf a b = a) := fun h => by unfold orOf; rw [if_neg h]
  go_enter Try.func46, Try.ntmps46
  go_wp2
  go_loop [8] (fun i => ∃ k : Nat, k ≤ 2 ∧ i = .int .i64 k ∧ (0 < k → a = 0) ∧ (1 < k → b = 0)) (fun i => 2 - (intOf i).toNat)
  case atStart => exact ⟨0, by omega, rfl, fun h => by omega, fun h => by omega⟩
  case round =>
    obtain ⟨k, hk, rfl, ha, hb⟩ := hrel
    by_cases k0 : k = 0
    · subst k0
      clear ha hb
      by_cases e : a = 0
      · have et : (a != 0) = false := by simp [e]
        have HE := Lib.hid e
        clear e
        go_wp2
        go_round
        case rel => exact ⟨1, by omega, by simp, fun _ => HE.out, fun h => by omega⟩
        case measure => simp [intOf]
      · have et : (a != 0) = true := by simp [e]
        have HE := Lib.hid e
        clear e
        go_wp2
        go_ret
        exact ⟨by rw [hn.out HE.out]; rfl, rfl⟩
    · by_cases k1 : k = 1
      · subst k1
        have HA : Hid (a = 0) := ha (by omega)
        clear ha hb
        by_cases e : b = 0
        · have et : (b != 0) = false := by simp [e]
          have HE := Lib.hid e
          clear e
          go_wp2
          go_round
          case rel => exact ⟨2, by omega, by simp, fun _ => HA.out, fun _ => HE.out⟩
          case measure => simp [intOf]
        · have et : (b != 0) = true := by simp [e]
          have HE := Lib.hid e
          clear e
          go_wp2
          go_ret
          exact ⟨by rw [hz.out HA.out]; rfl, rfl⟩
      · obtain rfl : k = 2 := by omega
        have HA : Hid (a = 0) := ha (by omega)
        have HB : Hid (b = 0) := hb (by omega)
        clear ha hb
        go_wp2
        go_ret
        exact ⟨by rw [hz.out HA.out, HB.out]; rfl, rfl⟩

set_option maxHeartbeats 1000000 in
theorem pair_ret (x y l : Int) : Ret Try.prog 45 #[.int .u64 x, .int .u64 y, .int .i64 l] (.tuple #[.int .u64 0, .int .i64 (orOf (cmpO 0 x y) l)]) := by
  intro w
  go_enter Try.func45, Try.ntmps45
  go_wp2_with fail
  refine (compare_ret x y w).mono ?_
  rintro e w1 ⟨rfl, hb1⟩
  go_wp2_with fail
  refine (or_int (cmpO 0 x y) l _ _ _ (by go_simp) (by go_simp)).mono ?_
  rintro e w2 ⟨rfl, rfl⟩
  go_wp2
  go_ret2
  exact ⟨rfl, hb1.alloc hb1.size _⟩

theorem orOf_cmp (x y l : Int) : orOf (cmpO 0 x y) l = cmpO l x y := by
  unfold orOf cmpO
  by_cases h1 : x < y
  · simp [h1]
  · by_cases h2 : y < x
    · simp [h1, h2]
    · simp [h1, h2]

set_option maxRecDepth 100000 in
set_option maxHeartbeats 1000000 in
theorem cmp_ret (a b : Nat) (ha : W256 a) (hb : W256 b) : Ret Try.prog 25 #[wv a, wv b] (.int .i64 (wcmp a b)) := by
  intro w
  have hJ := fun W => join_int (lim a) (lim b) (fun _ _ => 0) (cmpN a b) 0 (fun _ => True) trivial (fun _ _ _ _ => trivial)
    (fun k _ l _ => by have h := pair_ret (lim a k) (lim b k) l; rw [orOf_cmp] at h; exact h) W
  have hP := cmp_parts a b ha hb
  have hL : leftOf (cmpN a b) 0 [0, 1, 2, 3] = wcmp a b := hP
  rw [hL] at hJ
  have HJ := Lib.hid hJ
  clear hJ hP hL
  unfold wv
  go_enter Try.func25, Try.ntmps25
  go_wp2_with fail
  have A1 := (Arr4.word w 29 a).alloc (.cells #[.int .u64 (lim b 0), .int .u64 (lim b 1), .int .u64 (lim b 2), .int .u64 (lim b 3)] 29)
  have A2 := Arr4.word (w.alloc (.cells #[.int .u64 (lim a 0), .int .u64 (lim a 1), .int .u64 (lim a 2), .int .u64 (lim a 3)] 29)) 29 b
  have B0 := ((Below.refl _ w).alloc (Nat.le_refl _) (.cells #[.int .u64 (lim a 0), .int .u64 (lim a 1), .int .u64 (lim a 2), .int .u64 (lim a 3)] 29)).alloc (by simp) (.cells #[.int .u64 (lim b 0), .int .u64 (lim b 1), .int .u64 (lim b 2), .int .u64 (lim b 3)] 29)
  rw [World.size_alloc] at A2
  refine (HJ.out _).mono ?_
  rintro e w1 ⟨rfl, hb1⟩
  have BB := B0.trans (hb1.mono B0.size)
  have hz : w.heap.size ≤ w1.heap.size := BB.size
  clear A1 A2 B0 hb1 HJ
  go_wp2
  go_ret
  exact ⟨rfl, by (repeat (first | exact BB | refine Below.setCell ?_ (by first | omega | (simp; done) | (simp; omega)) _ | refine Below.alloc ?_ (by first | omega | (simp; done) | (simp; omega)) _ | refine Below.drew ?_))⟩
end Go.Proofs.Ytbkgipggblphlaa
