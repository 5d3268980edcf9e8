/- Part. -/
import Derived.Test.YtlihnlkcgiopoaaDoorJ03
import Derived.Test.YtlihnlkcgiopoaaDoorJ04
set_option maxRecDepth 100000
set_option maxHeartbeats 16000000
namespace Go.Proofs.YtlihnlkcgiopoaaDoor
open Go Go.RowKit Go.Shelf
attribute [local go_sem] Oper.semAt_some Grows wide_fn eq4
theorem compareI_ret (x y : Int) : Ret Tryd.prog 40 #[.int .i64 x, .int .i64 y] (.int .i64 (cmpO 0 x y)) := by
 intro w
 by_cases h1 : x < y
 ·have e : cmpO 0 x y = -1 := by unfold cmpO; rw [if_pos h1]
  rw [e]; clear e
  go_enter Tryd.func40, Tryd.ntmps40
  go_wp2
  go_ret
  exact ⟨rfl, Below.refl _ _⟩
 ·by_cases h2 : y < x
  ·have e : cmpO 0 x y = 1 := by unfold cmpO; rw [if_neg h1, if_pos h2]
   rw [e]; clear e
   go_enter Tryd.func40, Tryd.ntmps40
   go_wp2
   go_ret
   exact ⟨rfl, Below.refl _ _⟩
  ·have e : cmpO 0 x y = 0 := by unfold cmpO; rw [if_neg h1, if_neg h2]
   rw [e]; clear e
   go_enter Tryd.func40, Tryd.ntmps40
   go_wp2
   go_ret
   exact ⟨rfl, Below.refl _ _⟩
theorem limI_lo (x a b c0 : Int) (g0 : c0 < 0) (h0 : Ret Tryd.prog 40 #[.int .i64 x, .int .i64 a] (.int .i64 c0)) :
  Ret Tryd.prog 39 #[.int .i64 x, .int .i64 a, .int .i64 b, .func (.func 40) #[] #[]] (.int .i64 a) := by
 intro w
 have Hh0 := hid h0
 clear h0
 go_enter Tryd.func39, Tryd.ntmps39
 go_wp2_with fail
 refine (Hh0.out _).mono ?_
 rintro e v1 ⟨rfl, q⟩
 have Q := q
 clear q
 go_wp2
 go_ret
 exact ⟨rfl, Q⟩
theorem limI_hi (x a b c0 c1 : Int) (g0 : ¬ c0 < 0) (g1 : 0 < c1) (h0 : Ret Tryd.prog 40 #[.int .i64 x, .int .i64 a] (.int .i64 c0)) (h1 : Ret Tryd.prog 40 #[.int .i64 x, .int .i64 b] (.int .i64 c1)) :
  Ret Tryd.prog 39 #[.int .i64 x, .int .i64 a, .int .i64 b, .func (.func 40) #[] #[]] (.int .i64 b) := by
 intro w
 have Hh0 := hid h0
 have Hh1 := hid h1
 clear h0 h1
 go_enter Tryd.func39, Tryd.ntmps39
 go_wp2_with fail
 refine (Hh0.out _).mono ?_
 rintro e v1 ⟨rfl, q⟩
 have Q := q
 clear q
 go_wp2_with fail
 refine (Hh1.out _).mono ?_
 rintro e v2 ⟨rfl, q⟩
 have Q := Q.trans (q.mono Q.size)
 clear q
 go_wp2
 go_ret
 exact ⟨rfl, Q⟩
theorem limI_in (x a b c0 c1 : Int) (g0 : ¬ c0 < 0) (g1 : ¬ 0 < c1) (h0 : Ret Tryd.prog 40 #[.int .i64 x, .int .i64 a] (.int .i64 c0)) (h1 : Ret Tryd.prog 40 #[.int .i64 x, .int .i64 b] (.int .i64 c1)) :
  Ret Tryd.prog 39 #[.int .i64 x, .int .i64 a, .int .i64 b, .func (.func 40) #[] #[]] (.int .i64 x) := by
 intro w
 have Hh0 := hid h0
 have Hh1 := hid h1
 clear h0 h1
 go_enter Tryd.func39, Tryd.ntmps39
 go_wp2_with fail
 refine (Hh0.out _).mono ?_
 rintro e v1 ⟨rfl, q⟩
 have Q := q
 clear q
 go_wp2_with fail
 refine (Hh1.out _).mono ?_
 rintro e v2 ⟨rfl, q⟩
 have Q := Q.trans (q.mono Q.size)
 clear q
 go_wp2
 go_ret
 exact ⟨rfl, Q⟩
theorem limI_ret (x a b : Int) : Ret Tryd.prog 39 #[.int .i64 x, .int .i64 a, .int .i64 b, .func (.func 40) #[] #[]] (.int .i64 (limI x a b)) := by
 unfold limI
 by_cases h0 : x < a
 ·rw [if_pos h0]
  exact limI_lo x a b _ (by unfold cmpO; rw [if_pos h0]; decide) (compareI_ret x a)
 ·have g0 : ¬ cmpO 0 x a < 0 := by unfold cmpO; rw [if_neg h0]; split <;> decide
  by_cases h1 : b < x
  ·rw [if_neg h0, if_pos h1]
   exact limI_hi x a b _ _ g0 (by unfold cmpO; rw [if_neg (by omega), if_pos h1]; decide) (compareI_ret x a) (compareI_ret x b)
  ·rw [if_neg h0, if_neg h1]
   exact limI_in x a b _ _ g0 (by unfold cmpO; split <;> (try split) <;> (first | decide | omega)) (compareI_ret x a) (compareI_ret x b)
theorem many_walk (n m : Int) (h0 : Ret Tryd.prog 39 #[.int .i64 n, .int .i64 0, .int .i64 1048576, .func (.func 40) #[] #[]] (.int .i64 m)) :
  Ret Tryd.prog 37 #[.int .i64 n] (.int .i64 m) := by
 intro w
 have Hh0 := hid h0
 clear h0
 go_enter Tryd.func37, Tryd.ntmps37
 go_wp2_with fail
 refine (Hh0.out _).mono ?_
 rintro e v1 ⟨rfl, q⟩
 have Q := q
 clear q
 go_wp2
 go_ret
 exact ⟨rfl, Q⟩
theorem many_ret (n : Int) : Ret Tryd.prog 37 #[.int .i64 n] (.int .i64 (manyN n)) := many_walk n _ (limI_ret n 0 1048576)
theorem words_walk (n m r : Int) (g0 : 0 ≤ m) (g1 : m ≤ 1048576) (e : (m + 32 - 1).tdiv 32 = r) (r0 : 0 ≤ r) (r1 : r ≤ 32768) (h0 : Ret Tryd.prog 37 #[.int .i64 n] (.int .i64 m)) :
  Ret Tryd.prog 35 #[.int .i64 n] (.int .i64 r) := by
 intro w
 have Hh0 := hid h0
 clear h0
 go_enter Tryd.func35, Tryd.ntmps35
 go_wp2_with fail
 refine (Hh0.out _).mono ?_
 rintro e v1 ⟨rfl, q⟩
 have Q := q
 clear q
 go_wp2
 go_ret
 exact ⟨rfl, Q⟩
theorem words_ret (n : Int) : Ret Tryd.prog 35 #[.int .i64 n] (.int .i64 (wordsN n)) := by
 have g := manyN_range n
 have r := wordsN_range n
 refine words_walk n _ _ g.1 g.2 ?_ r.1 r.2 (many_ret n)
 rw [Int.tdiv_eq_ediv_of_nonneg (by omega)]
 unfold wordsN
 congr 1
 omega
theorem copy_walk (n m : Int) (g0 : 0 ≤ m) (g1 : m ≤ 32768) (h0 : Ret Tryd.prog 35 #[.int .i64 n] (.int .i64 m)) :
  Ret Tryd.prog 11 #[.int .i64 n] (.int .i64 (3 * m)) := by
 intro w
 have Hh0 := hid h0
 clear h0
 go_enter Tryd.func11, Tryd.ntmps11
 go_wp2_with fail
 refine (Hh0.out _).mono ?_
 rintro e v1 ⟨rfl, q⟩
 have Q := q
 clear q
 go_wp2
 go_ret
 exact ⟨rfl, Q⟩
theorem copy_retG (n : Int) : Ret Tryd.prog 11 #[.int .i64 n] (.int .i64 (3 * wordsN n)) := copy_walk n _ (wordsN_range n).1 (wordsN_range n).2 (words_ret n)
theorem hash_walk (n m : Int) (g0 : 0 ≤ m) (g1 : m ≤ 32768) (h0 : Ret Tryd.prog 35 #[.int .i64 n] (.int .i64 m)) :
  Ret Tryd.prog 13 #[.int .i64 n] (.int .i64 (6 * m)) := by
 intro w
 have Hh0 := hid h0
 clear h0
 go_enter Tryd.func13, Tryd.ntmps13
 go_wp2_with fail
 refine (Hh0.out _).mono ?_
 rintro e v1 ⟨rfl, q⟩
 have Q := q
 clear q
 go_wp2
 go_ret
 exact ⟨rfl, Q⟩
theorem hash_retG (n : Int) : Ret Tryd.prog 13 #[.int .i64 n] (.int .i64 (6 * wordsN n)) := hash_walk n _ (wordsN_range n).1 (wordsN_range n).2 (words_ret n)
theorem log_walk (n m : Int) (g0 : 0 ≤ m) (g1 : m ≤ 1048576) (h0 : Ret Tryd.prog 37 #[.int .i64 n] (.int .i64 m)) :
  Ret Tryd.prog 15 #[.int .i64 n] (.int .i64 (8 * m)) := by
 intro w
 have Hh0 := hid h0
 clear h0
 go_enter Tryd.func15, Tryd.ntmps15
 go_wp2_with fail
 refine (Hh0.out _).mono ?_
 rintro e v1 ⟨rfl, q⟩
 have Q := q
 clear q
 go_wp2
 go_ret
 exact ⟨rfl, Q⟩
theorem log_retG (n : Int) : Ret Tryd.prog 15 #[.int .i64 n] (.int .i64 (8 * manyN n)) := log_walk n _ (manyN_range n).1 (manyN_range n).2 (many_ret n)
theorem init_no (n m : Int) (g0 : 0 ≤ m) (g1 : m ≤ 32768) (h0 : Ret Tryd.prog 35 #[.int .i64 n] (.int .i64 m)) :
  Ret Tryd.prog 17 #[.int .i64 n, .bool false] (.int .i64 (2 * m)) := by
 intro w
 have Hh0 := hid h0
 clear h0
 go_enter Tryd.func17, Tryd.ntmps17
 go_wp2_with fail
 refine (Hh0.out _).mono ?_
 rintro e v1 ⟨rfl, q⟩
 have Q := q
 clear q
 go_wp2
 go_ret
 exact ⟨rfl, Q⟩
theorem init_yes (n m : Int) (g0 : 0 ≤ m) (g1 : m ≤ 32768) (h0 : Ret Tryd.prog 35 #[.int .i64 n] (.int .i64 m)) (h1 : Ret Tryd.prog 13 #[.int .i64 n] (.int .i64 (6 * m))) :
  Ret Tryd.prog 17 #[.int .i64 n, .bool true] (.int .i64 (2 * m + 6 * m)) := by
 intro w
 have Hh0 := hid h0
 have Hh1 := hid h1
 clear h0 h1
 go_enter Tryd.func17, Tryd.ntmps17
 go_wp2_with fail
 refine (Hh0.out _).mono ?_
 rintro e v1 ⟨rfl, q⟩
 have Q := q
 clear q
 go_wp2_with fail
 refine (Hh1.out _).mono ?_
 rintro e v2 ⟨rfl, q⟩
 have Q := Q.trans (q.mono Q.size)
 clear q
 go_wp2
 go_ret
 exact ⟨rfl, Q⟩
theorem init_ret (n : Int) (s : Bool) : Ret Tryd.prog 17 #[.int .i64 n, .bool s] (.int .i64 (initN n s)) := by
 have g := wordsN_range n
 unfold initN
 cases s with
 | false => exact Ret.of_eq (init_no n _ g.1 g.2 (words_ret n)) rfl (by simp)
 | true => exact init_yes n _ g.1 g.2 (words_ret n) (hash_retG n)
theorem touch_ret (s t : Bool) : Ret Tryd.prog 29 #[.bool s, .bool t] (.int .i64 (touchN s t)) := by
 refine Ret.of_same fun w => ?_
 cases s <;> cases t <;>
 ·go_enter Tryd.func29, Tryd.ntmps29
  go_wp2
  go_ret
  exact ⟨rfl, rfl⟩
theorem first_nil (za : Nat → Int) (e : ((za 0 == 0) && (za 1 == 0) && (za 2 == 0) && (za 3 == 0)) = true) :
  Ret Tryd.prog 59 #[.agg #[.int .u64 (za 0), .int .u64 (za 1), .int .u64 (za 2), .int .u64 (za 3)]] (.int .i64 20000) := by
 intro w
 go_enter Tryd.func59, Tryd.ntmps59
 have LA := Has.new w 24 #[.int .u64 (za 0), .int .u64 (za 1), .int .u64 (za 2), .int .u64 (za 3)]
 have k1 := LA.cell 0 _ rfl
 have k2 := LA.cell 1 _ rfl
 have k3 := LA.cell 2 _ rfl
 have k4 := LA.cell 3 _ rfl
 have Q := (Below.refl w.heap.size w)
 have Q := Q.alloc Q.size (.cells #[.int .u64 (za 0), .int .u64 (za 1), .int .u64 (za 2), .int .u64 (za 3)] 24)
 go_wp2
 clear k1 k2 k3 k4
 obtain ⟨W1, hW1⟩ : ∃ W1, (w.alloc (.cells #[.int .u64 (za 0), .int .u64 (za 1), .int .u64 (za 2), .int .u64 (za 3)] 24)) = W1 := ⟨_, rfl⟩
 rw [hW1] at LA Q ⊢
 clear hW1
 go_ret
 exact ⟨rfl, Q⟩
theorem first_other (za : Nat → Int) (e : ((za 0 == 0) && (za 1 == 0) && (za 2 == 0) && (za 3 == 0)) = false) :
  Ret Tryd.prog 59 #[.agg #[.int .u64 (za 0), .int .u64 (za 1), .int .u64 (za 2), .int .u64 (za 3)]] (.int .i64 2900) := by
 intro w
 go_enter Tryd.func59, Tryd.ntmps59
 have LA := Has.new w 24 #[.int .u64 (za 0), .int .u64 (za 1), .int .u64 (za 2), .int .u64 (za 3)]
 have k1 := LA.cell 0 _ rfl
 have k2 := LA.cell 1 _ rfl
 have k3 := LA.cell 2 _ rfl
 have k4 := LA.cell 3 _ rfl
 have Q := (Below.refl w.heap.size w)
 have Q := Q.alloc Q.size (.cells #[.int .u64 (za 0), .int .u64 (za 1), .int .u64 (za 2), .int .u64 (za 3)] 24)
 go_wp2
 clear k1 k2 k3 k4
 obtain ⟨W1, hW1⟩ : ∃ W1, (w.alloc (.cells #[.int .u64 (za 0), .int .u64 (za 1), .int .u64 (za 2), .int .u64 (za 3)] 24)) = W1 := ⟨_, rfl⟩
 rw [hW1] at LA Q ⊢
 clear hW1
 go_ret
 exact ⟨rfl, Q⟩
theorem eqW (a b : Nat) (ha : W256 a) (hb : W256 b) : ((lim a 0 == lim b 0) && (lim a 1 == lim b 1) && (lim a 2 == lim b 2) && (lim a 3 == lim b 3)) = decide (a = b) := by
 by_cases h : a = b
 ·subst h; simp
 ·rw [decide_eq_false h]
  refine Bool.eq_false_iff.2 fun e => h ?_
  simp only [Bool.and_eq_true, beq_iff_eq] at e
  exact lim_ext ha hb fun k hk => by
   rcases (show k = 0 ∨ k = 1 ∨ k = 2 ∨ k = 3 by omega) with rfl | rfl | rfl | rfl
   ·exact e.1.1.1
   ·exact e.1.1.2
   ·exact e.1.2
   ·exact e.2
theorem eqW_t {a b : Nat} (ha : W256 a) (hb : W256 b) (h : a = b) : ((lim a 0 == lim b 0) && (lim a 1 == lim b 1) && (lim a 2 == lim b 2) && (lim a 3 == lim b 3)) = true := (eqW a b ha hb).trans (decide_eq_true h)
theorem eqW_f {a b : Nat} (ha : W256 a) (hb : W256 b) (h : a ≠ b) : ((lim a 0 == lim b 0) && (lim a 1 == lim b 1) && (lim a 2 == lim b 2) && (lim a 3 == lim b 3)) = false := (eqW a b ha hb).trans (decide_eq_false h)
theorem eqZ_t {a : Nat} (ha : W256 a) (h : a = 0) : ((lim a 0 == 0) && (lim a 1 == 0) && (lim a 2 == 0) && (lim a 3 == 0)) = true := by
 have e := eqW_t ha (show W256 0 by unfold W256; decide) h
 simp only [lim_zero] at e
 exact e
theorem eqZ_f {a : Nat} (ha : W256 a) (h : a ≠ 0) : ((lim a 0 == 0) && (lim a 1 == 0) && (lim a 2 == 0) && (lim a 3 == 0)) = false := by
 have e := eqW_f ha (show W256 0 by unfold W256; decide) h
 simp only [lim_zero] at e
 exact e
theorem first_ret (a : Nat) (ha : W256 a) : Ret Tryd.prog 59 #[wv a] (.int .i64 (firstN a)) := by
 unfold firstN
 by_cases h : a = 0
 ·rw [if_pos h]; exact first_nil _ (eqZ_t ha h)
 ·rw [if_neg h]; exact first_other _ (eqZ_f ha h)
theorem written_a (za zb zc : Nat → Int) (ecv : ((zb 0 == zc 0) && (zb 1 == zc 1) && (zb 2 == zc 2) && (zb 3 == zc 3)) = true) :
  Ret Tryd.prog 41 #[.agg #[.int .u64 (za 0), .int .u64 (za 1), .int .u64 (za 2), .int .u64 (za 3)], .agg #[.int .u64 (zb 0), .int .u64 (zb 1), .int .u64 (zb 2), .int .u64 (zb 3)], .agg #[.int .u64 (zc 0), .int .u64 (zc 1), .int .u64 (zc 2), .int .u64 (zc 3)]] (.int .i64 100) := by
 intro w
 go_enter Tryd.func41, Tryd.ntmps41
 have LA := Has.new w 24 #[.int .u64 (za 0), .int .u64 (za 1), .int .u64 (za 2), .int .u64 (za 3)]
 have k1 := LA.cell 0 _ rfl
 have k2 := LA.cell 1 _ rfl
 have k3 := LA.cell 2 _ rfl
 have k4 := LA.cell 3 _ rfl
 have LA := LA.alloc (.cells #[.int .u64 (zb 0), .int .u64 (zb 1), .int .u64 (zb 2), .int .u64 (zb 3)] 24)
 have LB := Has.new (w.alloc (.cells #[.int .u64 (za 0), .int .u64 (za 1), .int .u64 (za 2), .int .u64 (za 3)] 24)) 24 #[.int .u64 (zb 0), .int .u64 (zb 1), .int .u64 (zb 2), .int .u64 (zb 3)]
 simp only [World.size_alloc] at LB
 have k5 := LA.cell 0 _ rfl
 have k6 := LA.cell 1 _ rfl
 have k7 := LA.cell 2 _ rfl
 have k8 := LA.cell 3 _ rfl
 have k9 := LB.cell 0 _ rfl
 have k10 := LB.cell 1 _ rfl
 have k11 := LB.cell 2 _ rfl
 have k12 := LB.cell 3 _ rfl
 have LA := LA.alloc (.cells #[.int .u64 (zc 0), .int .u64 (zc 1), .int .u64 (zc 2), .int .u64 (zc 3)] 24)
 have LB := LB.alloc (.cells #[.int .u64 (zc 0), .int .u64 (zc 1), .int .u64 (zc 2), .int .u64 (zc 3)] 24)
 have LC := Has.new ((w.alloc (.cells #[.int .u64 (za 0), .int .u64 (za 1), .int .u64 (za 2), .int .u64 (za 3)] 24)).alloc (.cells #[.int .u64 (zb 0), .int .u64 (zb 1), .int .u64 (zb 2), .int .u64 (zb 3)] 24)) 24 #[.int .u64 (zc 0), .int .u64 (zc 1), .int .u64 (zc 2), .int .u64 (zc 3)]
 simp only [World.size_alloc] at LC
 have k13 := LA.cell 0 _ rfl
 have k14 := LA.cell 1 _ rfl
 have k15 := LA.cell 2 _ rfl
 have k16 := LA.cell 3 _ rfl
 have k17 := LB.cell 0 _ rfl
 have k18 := LB.cell 1 _ rfl
 have k19 := LB.cell 2 _ rfl
 have k20 := LB.cell 3 _ rfl
 have k21 := LC.cell 0 _ rfl
 have k22 := LC.cell 1 _ rfl
 have k23 := LC.cell 2 _ rfl
 have k24 := LC.cell 3 _ rfl
 have Q := (Below.refl w.heap.size w)
 have Q := Q.alloc Q.size (.cells #[.int .u64 (za 0), .int .u64 (za 1), .int .u64 (za 2), .int .u64 (za 3)] 24)
 have Q := Q.alloc Q.size (.cells #[.int .u64 (zb 0), .int .u64 (zb 1), .int .u64 (zb 2), .int .u64 (zb 3)] 24)
 have Q := Q.alloc Q.size (.cells #[.int .u64 (zc 0), .int .u64 (zc 1), .int .u64 (zc 2), .int .u64 (zc 3)] 24)
 go_wp2
 clear k1 k2 k3 k4 k5 k6 k7 k8 k9 k10 k11 k12 k13 k14 k15 k16 k17 k18 k19 k20 k21 k22 k23 k24
 obtain ⟨W1, hW1⟩ : ∃ W1, (((w.alloc (.cells #[.int .u64 (za 0), .int .u64 (za 1), .int .u64 (za 2), .int .u64 (za 3)] 24)).alloc (.cells #[.int .u64 (zb 0), .int .u64 (zb 1), .int .u64 (zb 2), .int .u64 (zb 3)] 24)).alloc (.cells #[.int .u64 (zc 0), .int .u64 (zc 1), .int .u64 (zc 2), .int .u64 (zc 3)] 24)) = W1 := ⟨_, rfl⟩
 rw [hW1] at LA LB LC Q ⊢
 clear hW1
 go_ret
 exact ⟨rfl, Q⟩
theorem written_b (za zb zc : Nat → Int) (ecv : ((zb 0 == zc 0) && (zb 1 == zc 1) && (zb 2 == zc 2) && (zb 3 == zc 3)) = false) (eoc : ((za 0 == zb 0) && (za 1 == zb 1) && (za 2 == zb 2) && (za 3 == zb 3)) = false) :
  Ret Tryd.prog 41 #[.agg #[.int .u64 (za 0), .int .u64 (za 1), .int .u64 (za 2), .int .u64 (za 3)], .agg #[.int .u64 (zb 0), .int .u64 (zb 1), .int .u64 (zb 2), .int .u64 (zb 3)], .agg #[.int .u64 (zc 0), .int .u64 (zc 1), .int .u64 (zc 2), .int .u64 (zc 3)]] (.int .i64 100) := by
 intro w
 go_enter Tryd.func41, Tryd.ntmps41
 have LA := Has.new w 24 #[.int .u64 (za 0), .int .u64 (za 1), .int .u64 (za 2), .int .u64 (za 3)]
 have k1 := LA.cell 0 _ rfl
 have k2 := LA.cell 1 _ rfl
 have k3 := LA.cell 2 _ rfl
 have k4 := LA.cell 3 _ rfl
 have LA := LA.alloc (.cells #[.int .u64 (zb 0), .int .u64 (zb 1), .int .u64 (zb 2), .int .u64 (zb 3)] 24)
 have LB := Has.new (w.alloc (.cells #[.int .u64 (za 0), .int .u64 (za 1), .int .u64 (za 2), .int .u64 (za 3)] 24)) 24 #[.int .u64 (zb 0), .int .u64 (zb 1), .int .u64 (zb 2), .int .u64 (zb 3)]
 simp only [World.size_alloc] at LB
 have k5 := LA.cell 0 _ rfl
 have k6 := LA.cell 1 _ rfl
 have k7 := LA.cell 2 _ rfl
 have k8 := LA.cell 3 _ rfl
 have k9 := LB.cell 0 _ rfl
 have k10 := LB.cell 1 _ rfl
 have k11 := LB.cell 2 _ rfl
 have k12 := LB.cell 3 _ rfl
 have LA := LA.alloc (.cells #[.int .u64 (zc 0), .int .u64 (zc 1), .int .u64 (zc 2), .int .u64 (zc 3)] 24)
 have LB := LB.alloc (.cells #[.int .u64 (zc 0), .int .u64 (zc 1), .int .u64 (zc 2), .int .u64 (zc 3)] 24)
 have LC := Has.new ((w.alloc (.cells #[.int .u64 (za 0), .int .u64 (za 1), .int .u64 (za 2), .int .u64 (za 3)] 24)).alloc (.cells #[.int .u64 (zb 0), .int .u64 (zb 1), .int .u64 (zb 2), .int .u64 (zb 3)] 24)) 24 #[.int .u64 (zc 0), .int .u64 (zc 1), .int .u64 (zc 2), .int .u64 (zc 3)]
 simp only [World.size_alloc] at LC
 have k13 := LA.cell 0 _ rfl
 have k14 := LA.cell 1 _ rfl
 have k15 := LA.cell 2 _ rfl
 have k16 := LA.cell 3 _ rfl
 have k17 := LB.cell 0 _ rfl
 have k18 := LB.cell 1 _ rfl
 have k19 := LB.cell 2 _ rfl
 have k20 := LB.cell 3 _ rfl
 have k21 := LC.cell 0 _ rfl
 have k22 := LC.cell 1 _ rfl
 have k23 := LC.cell 2 _ rfl
 have k24 := LC.cell 3 _ rfl
 have Q := (Below.refl w.heap.size w)
 have Q := Q.alloc Q.size (.cells #[.int .u64 (za 0), .int .u64 (za 1), .int .u64 (za 2), .int .u64 (za 3)] 24)
 have Q := Q.alloc Q.size (.cells #[.int .u64 (zb 0), .int .u64 (zb 1), .int .u64 (zb 2), .int .u64 (zb 3)] 24)
 have Q := Q.alloc Q.size (.cells #[.int .u64 (zc 0), .int .u64 (zc 1), .int .u64 (zc 2), .int .u64 (zc 3)] 24)
 go_wp2
 clear k1 k2 k3 k4 k5 k6 k7 k8 k9 k10 k11 k12 k13 k14 k15 k16 k17 k18 k19 k20 k21 k22 k23 k24
 obtain ⟨W1, hW1⟩ : ∃ W1, (((w.alloc (.cells #[.int .u64 (za 0), .int .u64 (za 1), .int .u64 (za 2), .int .u64 (za 3)] 24)).alloc (.cells #[.int .u64 (zb 0), .int .u64 (zb 1), .int .u64 (zb 2), .int .u64 (zb 3)] 24)).alloc (.cells #[.int .u64 (zc 0), .int .u64 (zc 1), .int .u64 (zc 2), .int .u64 (zc 3)] 24)) = W1 := ⟨_, rfl⟩
 rw [hW1] at LA LB LC Q ⊢
 clear hW1
 go_ret
 exact ⟨rfl, Q⟩
theorem written_c (za zb zc : Nat → Int) (f : Int) (ecv : ((zb 0 == zc 0) && (zb 1 == zc 1) && (zb 2 == zc 2) && (zb 3 == zc 3)) = false) (eoc : ((za 0 == zb 0) && (za 1 == zb 1) && (za 2 == zb 2) && (za 3 == zb 3)) = true) (h1 : Ret Tryd.prog 59 #[.agg #[.int .u64 (za 0), .int .u64 (za 1), .int .u64 (za 2), .int .u64 (za 3)]] (.int .i64 f)) :
  Ret Tryd.prog 41 #[.agg #[.int .u64 (za 0), .int .u64 (za 1), .int .u64 (za 2), .int .u64 (za 3)], .agg #[.int .u64 (zb 0), .int .u64 (zb 1), .int .u64 (zb 2), .int .u64 (zb 3)], .agg #[.int .u64 (zc 0), .int .u64 (zc 1), .int .u64 (zc 2), .int .u64 (zc 3)]] (.int .i64 f) := by
 intro w
 have Hh1 := hid h1
 clear h1
 go_enter Tryd.func41, Tryd.ntmps41
 have LA := Has.new w 24 #[.int .u64 (za 0), .int .u64 (za 1), .int .u64 (za 2), .int .u64 (za 3)]
 have k1 := LA.cell 0 _ rfl
 have k2 := LA.cell 1 _ rfl
 have k3 := LA.cell 2 _ rfl
 have k4 := LA.cell 3 _ rfl
 have LA := LA.alloc (.cells #[.int .u64 (zb 0), .int .u64 (zb 1), .int .u64 (zb 2), .int .u64 (zb 3)] 24)
 have LB := Has.new (w.alloc (.cells #[.int .u64 (za 0), .int .u64 (za 1), .int .u64 (za 2), .int .u64 (za 3)] 24)) 24 #[.int .u64 (zb 0), .int .u64 (zb 1), .int .u64 (zb 2), .int .u64 (zb 3)]
 simp only [World.size_alloc] at LB
 have k5 := LA.cell 0 _ rfl
 have k6 := LA.cell 1 _ rfl
 have k7 := LA.cell 2 _ rfl
 have k8 := LA.cell 3 _ rfl
 have k9 := LB.cell 0 _ rfl
 have k10 := LB.cell 1 _ rfl
 have k11 := LB.cell 2 _ rfl
 have k12 := LB.cell 3 _ rfl
 have LA := LA.alloc (.cells #[.int .u64 (zc 0), .int .u64 (zc 1), .int .u64 (zc 2), .int .u64 (zc 3)] 24)
 have LB := LB.alloc (.cells #[.int .u64 (zc 0), .int .u64 (zc 1), .int .u64 (zc 2), .int .u64 (zc 3)] 24)
 have LC := Has.new ((w.alloc (.cells #[.int .u64 (za 0), .int .u64 (za 1), .int .u64 (za 2), .int .u64 (za 3)] 24)).alloc (.cells #[.int .u64 (zb 0), .int .u64 (zb 1), .int .u64 (zb 2), .int .u64 (zb 3)] 24)) 24 #[.int .u64 (zc 0), .int .u64 (zc 1), .int .u64 (zc 2), .int .u64 (zc 3)]
 simp only [World.size_alloc] at LC
 have k13 := LA.cell 0 _ rfl
 have k14 := LA.cell 1 _ rfl
 have k15 := LA.cell 2 _ rfl
 have k16 := LA.cell 3 _ rfl
 have k17 := LB.cell 0 _ rfl
 have k18 := LB.cell 1 _ rfl
 have k19 := LB.cell 2 _ rfl
 have k20 := LB.cell 3 _ rfl
 have k21 := LC.cell 0 _ rfl
 have k22 := LC.cell 1 _ rfl
 have k23 := LC.cell 2 _ rfl
 have k24 := LC.cell 3 _ rfl
 have Q := (Below.refl w.heap.size w)
 have Q := Q.alloc Q.size (.cells #[.int .u64 (za 0), .int .u64 (za 1), .int .u64 (za 2), .int .u64 (za 3)] 24)
 have Q := Q.alloc Q.size (.cells #[.int .u64 (zb 0), .int .u64 (zb 1), .int .u64 (zb 2), .int .u64 (zb 3)] 24)
 have Q := Q.alloc Q.size (.cells #[.int .u64 (zc 0), .int .u64 (zc 1), .int .u64 (zc 2), .int .u64 (zc 3)] 24)
 go_wp2_with fail
 clear k1 k2 k3 k4 k5 k6 k7 k8 k9 k10 k11 k12 k13 k14 k15 k16 k17 k18 k19 k20 k21 k22 k23 k24
 obtain ⟨W1, hW1⟩ : ∃ W1, (((w.alloc (.cells #[.int .u64 (za 0), .int .u64 (za 1), .int .u64 (za 2), .int .u64 (za 3)] 24)).alloc (.cells #[.int .u64 (zb 0), .int .u64 (zb 1), .int .u64 (zb 2), .int .u64 (zb 3)] 24)).alloc (.cells #[.int .u64 (zc 0), .int .u64 (zc 1), .int .u64 (zc 2), .int .u64 (zc 3)] 24)) = W1 := ⟨_, rfl⟩
 rw [hW1] at LA LB LC Q ⊢
 clear hW1
 refine (Hh1.out _).mono ?_
 rintro e v25 ⟨rfl, q⟩
 have LA := LA.later q
 have LB := LB.later q
 have LC := LC.later q
 have Q := Q.trans (q.mono Q.size)
 clear q
 have k26 := LA.cell 0 _ rfl
 have k27 := LA.cell 1 _ rfl
 have k28 := LA.cell 2 _ rfl
 have k29 := LA.cell 3 _ rfl
 have k30 := LB.cell 0 _ rfl
 have k31 := LB.cell 1 _ rfl
 have k32 := LB.cell 2 _ rfl
 have k33 := LB.cell 3 _ rfl
 have k34 := LC.cell 0 _ rfl
 have k35 := LC.cell 1 _ rfl
 have k36 := LC.cell 2 _ rfl
 have k37 := LC.cell 3 _ rfl
 go_wp2
 clear k26 k27 k28 k29 k30 k31 k32 k33 k34 k35 k36 k37
 go_ret
 exact ⟨rfl, Q⟩
theorem cleared_a (za zb zc : Nat → Int) (eoz : ((za 0 == 0) && (za 1 == 0) && (za 2 == 0) && (za 3 == 0)) = true) :
  Ret Tryd.prog 60 #[.agg #[.int .u64 (za 0), .int .u64 (za 1), .int .u64 (za 2), .int .u64 (za 3)], .agg #[.int .u64 (zb 0), .int .u64 (zb 1), .int .u64 (zb 2), .int .u64 (zb 3)], .agg #[.int .u64 (zc 0), .int .u64 (zc 1), .int .u64 (zc 2), .int .u64 (zc 3)]] (.int .i64 0) := by
 intro w
 go_enter Tryd.func60, Tryd.ntmps60
 have LA := Has.new w 24 #[.int .u64 (za 0), .int .u64 (za 1), .int .u64 (za 2), .int .u64 (za 3)]
 have k1 := LA.cell 0 _ rfl
 have k2 := LA.cell 1 _ rfl
 have k3 := LA.cell 2 _ rfl
 have k4 := LA.cell 3 _ rfl
 have LA := LA.alloc (.cells #[.int .u64 (zb 0), .int .u64 (zb 1), .int .u64 (zb 2), .int .u64 (zb 3)] 24)
 have LB := Has.new (w.alloc (.cells #[.int .u64 (za 0), .int .u64 (za 1), .int .u64 (za 2), .int .u64 (za 3)] 24)) 24 #[.int .u64 (zb 0), .int .u64 (zb 1), .int .u64 (zb 2), .int .u64 (zb 3)]
 simp only [World.size_alloc] at LB
 have k5 := LA.cell 0 _ rfl
 have k6 := LA.cell 1 _ rfl
 have k7 := LA.cell 2 _ rfl
 have k8 := LA.cell 3 _ rfl
 have k9 := LB.cell 0 _ rfl
 have k10 := LB.cell 1 _ rfl
 have k11 := LB.cell 2 _ rfl
 have k12 := LB.cell 3 _ rfl
 have LA := LA.alloc (.cells #[.int .u64 (zc 0), .int .u64 (zc 1), .int .u64 (zc 2), .int .u64 (zc 3)] 24)
 have LB := LB.alloc (.cells #[.int .u64 (zc 0), .int .u64 (zc 1), .int .u64 (zc 2), .int .u64 (zc 3)] 24)
 have LC := Has.new ((w.alloc (.cells #[.int .u64 (za 0), .int .u64 (za 1), .int .u64 (za 2), .int .u64 (za 3)] 24)).alloc (.cells #[.int .u64 (zb 0), .int .u64 (zb 1), .int .u64 (zb 2), .int .u64 (zb 3)] 24)) 24 #[.int .u64 (zc 0), .int .u64 (zc 1), .int .u64 (zc 2), .int .u64 (zc 3)]
 simp only [World.size_alloc] at LC
 have k13 := LA.cell 0 _ rfl
 have k14 := LA.cell 1 _ rfl
 have k15 := LA.cell 2 _ rfl
 have k16 := LA.cell 3 _ rfl
 have k17 := LB.cell 0 _ rfl
 have k18 := LB.cell 1 _ rfl
 have k19 := LB.cell 2 _ rfl
 have k20 := LB.cell 3 _ rfl
 have k21 := LC.cell 0 _ rfl
 have k22 := LC.cell 1 _ rfl
 have k23 := LC.cell 2 _ rfl
 have k24 := LC.cell 3 _ rfl
 have LA := LA.alloc (.cells #[.int .u64 0, .int .u64 0, .int .u64 0, .int .u64 0] 24)
 have LB := LB.alloc (.cells #[.int .u64 0, .int .u64 0, .int .u64 0, .int .u64 0] 24)
 have LC := LC.alloc (.cells #[.int .u64 0, .int .u64 0, .int .u64 0, .int .u64 0] 24)
 have LN := Has.new (((w.alloc (.cells #[.int .u64 (za 0), .int .u64 (za 1), .int .u64 (za 2), .int .u64 (za 3)] 24)).alloc (.cells #[.int .u64 (zb 0), .int .u64 (zb 1), .int .u64 (zb 2), .int .u64 (zb 3)] 24)).alloc (.cells #[.int .u64 (zc 0), .int .u64 (zc 1), .int .u64 (zc 2), .int .u64 (zc 3)] 24)) 24 #[.int .u64 0, .int .u64 0, .int .u64 0, .int .u64 0]
 simp only [World.size_alloc] at LN
 have k25 := LA.cell 0 _ rfl
 have k26 := LA.cell 1 _ rfl
 have k27 := LA.cell 2 _ rfl
 have k28 := LA.cell 3 _ rfl
 have k29 := LB.cell 0 _ rfl
 have k30 := LB.cell 1 _ rfl
 have k31 := LB.cell 2 _ rfl
 have k32 := LB.cell 3 _ rfl
 have k33 := LC.cell 0 _ rfl
 have k34 := LC.cell 1 _ rfl
 have k35 := LC.cell 2 _ rfl
 have k36 := LC.cell 3 _ rfl
 have k37 := LN.cell 0 _ rfl
 have k38 := LN.cell 1 _ rfl
 have k39 := LN.cell 2 _ rfl
 have k40 := LN.cell 3 _ rfl
 have Q := (Below.refl w.heap.size w)
 have Q := Q.alloc Q.size (.cells #[.int .u64 (za 0), .int .u64 (za 1), .int .u64 (za 2), .int .u64 (za 3)] 24)
 have Q := Q.alloc Q.size (.cells #[.int .u64 (zb 0), .int .u64 (zb 1), .int .u64 (zb 2), .int .u64 (zb 3)] 24)
 have Q := Q.alloc Q.size (.cells #[.int .u64 (zc 0), .int .u64 (zc 1), .int .u64 (zc 2), .int .u64 (zc 3)] 24)
 have Q := Q.alloc Q.size (.cells #[.int .u64 0, .int .u64 0, .int .u64 0, .int .u64 0] 24)
 go_wp2
 clear k1 k2 k3 k4 k5 k6 k7 k8 k9 k10 k11 k12 k13 k14 k15 k16 k17 k18 k19 k20 k21 k22 k23 k24 k25 k26 k27 k28 k29 k30 k31 k32 k33 k34 k35 k36 k37 k38 k39 k40
 obtain ⟨W1, hW1⟩ : ∃ W1, ((((w.alloc (.cells #[.int .u64 (za 0), .int .u64 (za 1), .int .u64 (za 2), .int .u64 (za 3)] 24)).alloc (.cells #[.int .u64 (zb 0), .int .u64 (zb 1), .int .u64 (zb 2), .int .u64 (zb 3)] 24)).alloc (.cells #[.int .u64 (zc 0), .int .u64 (zc 1), .int .u64 (zc 2), .int .u64 (zc 3)] 24)).alloc (.cells #[.int .u64 0, .int .u64 0, .int .u64 0, .int .u64 0] 24)) = W1 := ⟨_, rfl⟩
 rw [hW1] at LA LB LC LN Q ⊢
 clear hW1
 go_ret
 exact ⟨rfl, Q⟩
theorem cleared_b (za zb zc : Nat → Int) (eoz : ((za 0 == 0) && (za 1 == 0) && (za 2 == 0) && (za 3 == 0)) = false) (ecz : ((zb 0 == 0) && (zb 1 == 0) && (zb 2 == 0) && (zb 3 == 0)) = true) :
  Ret Tryd.prog 60 #[.agg #[.int .u64 (za 0), .int .u64 (za 1), .int .u64 (za 2), .int .u64 (za 3)], .agg #[.int .u64 (zb 0), .int .u64 (zb 1), .int .u64 (zb 2), .int .u64 (zb 3)], .agg #[.int .u64 (zc 0), .int .u64 (zc 1), .int .u64 (zc 2), .int .u64 (zc 3)]] (.int .i64 (-4800)) := by
 intro w
 go_enter Tryd.func60, Tryd.ntmps60
 have LA := Has.new w 24 #[.int .u64 (za 0), .int .u64 (za 1), .int .u64 (za 2), .int .u64 (za 3)]
 have k1 := LA.cell 0 _ rfl
 have k2 := LA.cell 1 _ rfl
 have k3 := LA.cell 2 _ rfl
 have k4 := LA.cell 3 _ rfl
 have LA := LA.alloc (.cells #[.int .u64 (zb 0), .int .u64 (zb 1), .int .u64 (zb 2), .int .u64 (zb 3)] 24)
 have LB := Has.new (w.alloc (.cells #[.int .u64 (za 0), .int .u64 (za 1), .int .u64 (za 2), .int .u64 (za 3)] 24)) 24 #[.int .u64 (zb 0), .int .u64 (zb 1), .int .u64 (zb 2), .int .u64 (zb 3)]
 simp only [World.size_alloc] at LB
 have k5 := LA.cell 0 _ rfl
 have k6 := LA.cell 1 _ rfl
 have k7 := LA.cell 2 _ rfl
 have k8 := LA.cell 3 _ rfl
 have k9 := LB.cell 0 _ rfl
 have k10 := LB.cell 1 _ rfl
 have k11 := LB.cell 2 _ rfl
 have k12 := LB.cell 3 _ rfl
 have LA := LA.alloc (.cells #[.int .u64 (zc 0), .int .u64 (zc 1), .int .u64 (zc 2), .int .u64 (zc 3)] 24)
 have LB := LB.alloc (.cells #[.int .u64 (zc 0), .int .u64 (zc 1), .int .u64 (zc 2), .int .u64 (zc 3)] 24)
 have LC := Has.new ((w.alloc (.cells #[.int .u64 (za 0), .int .u64 (za 1), .int .u64 (za 2), .int .u64 (za 3)] 24)).alloc (.cells #[.int .u64 (zb 0), .int .u64 (zb 1), .int .u64 (zb 2), .int .u64 (zb 3)] 24)) 24 #[.int .u64 (zc 0), .int .u64 (zc 1), .int .u64 (zc 2), .int .u64 (zc 3)]
 simp only [World.size_alloc] at LC
 have k13 := LA.cell 0 _ rfl
 have k14 := LA.cell 1 _ rfl
 have k15 := LA.cell 2 _ rfl
 have k16 := LA.cell 3 _ rfl
 have k17 := LB.cell 0 _ rfl
 have k18 := LB.cell 1 _ rfl
 have k19 := LB.cell 2 _ rfl
 have k20 := LB.cell 3 _ rfl
 have k21 := LC.cell 0 _ rfl
 have k22 := LC.cell 1 _ rfl
 have k23 := LC.cell 2 _ rfl
 have k24 := LC.cell 3 _ rfl
 have LA := LA.alloc (.cells #[.int .u64 0, .int .u64 0, .int .u64 0, .int .u64 0] 24)
 have LB := LB.alloc (.cells #[.int .u64 0, .int .u64 0, .int .u64 0, .int .u64 0] 24)
 have LC := LC.alloc (.cells #[.int .u64 0, .int .u64 0, .int .u64 0, .int .u64 0] 24)
 have LN := Has.new (((w.alloc (.cells #[.int .u64 (za 0), .int .u64 (za 1), .int .u64 (za 2), .int .u64 (za 3)] 24)).alloc (.cells #[.int .u64 (zb 0), .int .u64 (zb 1), .int .u64 (zb 2), .int .u64 (zb 3)] 24)).alloc (.cells #[.int .u64 (zc 0), .int .u64 (zc 1), .int .u64 (zc 2), .int .u64 (zc 3)] 24)) 24 #[.int .u64 0, .int .u64 0, .int .u64 0, .int .u64 0]
 simp only [World.size_alloc] at LN
 have k25 := LA.cell 0 _ rfl
 have k26 := LA.cell 1 _ rfl
 have k27 := LA.cell 2 _ rfl
 have k28 := LA.cell 3 _ rfl
 have k29 := LB.cell 0 _ rfl
 have k30 := LB.cell 1 _ rfl
 have k31 := LB.cell 2 _ rfl
 have k32 := LB.cell 3 _ rfl
 have k33 := LC.cell 0 _ rfl
 have k34 := LC.cell 1 _ rfl
 have k35 := LC.cell 2 _ rfl
 have k36 := LC.cell 3 _ rfl
 have k37 := LN.cell 0 _ rfl
 have k38 := LN.cell 1 _ rfl
 have k39 := LN.cell 2 _ rfl
 have k40 := LN.cell 3 _ rfl
 have Q := (Below.refl w.heap.size w)
 have Q := Q.alloc Q.size (.cells #[.int .u64 (za 0), .int .u64 (za 1), .int .u64 (za 2), .int .u64 (za 3)] 24)
 have Q := Q.alloc Q.size (.cells #[.int .u64 (zb 0), .int .u64 (zb 1), .int .u64 (zb 2), .int .u64 (zb 3)] 24)
 have Q := Q.alloc Q.size (.cells #[.int .u64 (zc 0), .int .u64 (zc 1), .int .u64 (zc 2), .int .u64 (zc 3)] 24)
 have Q := Q.alloc Q.size (.cells #[.int .u64 0, .int .u64 0, .int .u64 0, .int .u64 0] 24)
 go_wp2
 clear k1 k2 k3 k4 k5 k6 k7 k8 k9 k10 k11 k12 k13 k14 k15 k16 k17 k18 k19 k20 k21 k22 k23 k24 k25 k26 k27 k28 k29 k30 k31 k32 k33 k34 k35 k36 k37 k38 k39 k40
 obtain ⟨W1, hW1⟩ : ∃ W1, ((((w.alloc (.cells #[.int .u64 (za 0), .int .u64 (za 1), .int .u64 (za 2), .int .u64 (za 3)] 24)).alloc (.cells #[.int .u64 (zb 0), .int .u64 (zb 1), .int .u64 (zb 2), .int .u64 (zb 3)] 24)).alloc (.cells #[.int .u64 (zc 0), .int .u64 (zc 1), .int .u64 (zc 2), .int .u64 (zc 3)] 24)).alloc (.cells #[.int .u64 0, .int .u64 0, .int .u64 0, .int .u64 0] 24)) = W1 := ⟨_, rfl⟩
 rw [hW1] at LA LB LC LN Q ⊢
 clear hW1
 go_ret
 exact ⟨rfl, Q⟩
theorem cleared_c (za zb zc : Nat → Int) (eoz : ((za 0 == 0) && (za 1 == 0) && (za 2 == 0) && (za 3 == 0)) = false) (ecz : ((zb 0 == 0) && (zb 1 == 0) && (zb 2 == 0) && (zb 3 == 0)) = false) (evz : ((zc 0 == 0) && (zc 1 == 0) && (zc 2 == 0) && (zc 3 == 0)) = true) :
  Ret Tryd.prog 60 #[.agg #[.int .u64 (za 0), .int .u64 (za 1), .int .u64 (za 2), .int .u64 (za 3)], .agg #[.int .u64 (zb 0), .int .u64 (zb 1), .int .u64 (zb 2), .int .u64 (zb 3)], .agg #[.int .u64 (zc 0), .int .u64 (zc 1), .int .u64 (zc 2), .int .u64 (zc 3)]] (.int .i64 4800) := by
 intro w
 go_enter Tryd.func60, Tryd.ntmps60
 have LA := Has.new w 24 #[.int .u64 (za 0), .int .u64 (za 1), .int .u64 (za 2), .int .u64 (za 3)]
 have k1 := LA.cell 0 _ rfl
 have k2 := LA.cell 1 _ rfl
 have k3 := LA.cell 2 _ rfl
 have k4 := LA.cell 3 _ rfl
 have LA := LA.alloc (.cells #[.int .u64 (zb 0), .int .u64 (zb 1), .int .u64 (zb 2), .int .u64 (zb 3)] 24)
 have LB := Has.new (w.alloc (.cells #[.int .u64 (za 0), .int .u64 (za 1), .int .u64 (za 2), .int .u64 (za 3)] 24)) 24 #[.int .u64 (zb 0), .int .u64 (zb 1), .int .u64 (zb 2), .int .u64 (zb 3)]
 simp only [World.size_alloc] at LB
 have k5 := LA.cell 0 _ rfl
 have k6 := LA.cell 1 _ rfl
 have k7 := LA.cell 2 _ rfl
 have k8 := LA.cell 3 _ rfl
 have k9 := LB.cell 0 _ rfl
 have k10 := LB.cell 1 _ rfl
 have k11 := LB.cell 2 _ rfl
 have k12 := LB.cell 3 _ rfl
 have LA := LA.alloc (.cells #[.int .u64 (zc 0), .int .u64 (zc 1), .int .u64 (zc 2), .int .u64 (zc 3)] 24)
 have LB := LB.alloc (.cells #[.int .u64 (zc 0), .int .u64 (zc 1), .int .u64 (zc 2), .int .u64 (zc 3)] 24)
 have LC := Has.new ((w.alloc (.cells #[.int .u64 (za 0), .int .u64 (za 1), .int .u64 (za 2), .int .u64 (za 3)] 24)).alloc (.cells #[.int .u64 (zb 0), .int .u64 (zb 1), .int .u64 (zb 2), .int .u64 (zb 3)] 24)) 24 #[.int .u64 (zc 0), .int .u64 (zc 1), .int .u64 (zc 2), .int .u64 (zc 3)]
 simp only [World.size_alloc] at LC
 have k13 := LA.cell 0 _ rfl
 have k14 := LA.cell 1 _ rfl
 have k15 := LA.cell 2 _ rfl
 have k16 := LA.cell 3 _ rfl
 have k17 := LB.cell 0 _ rfl
 have k18 := LB.cell 1 _ rfl
 have k19 := LB.cell 2 _ rfl
 have k20 := LB.cell 3 _ rfl
 have k21 := LC.cell 0 _ rfl
 have k22 := LC.cell 1 _ rfl
 have k23 := LC.cell 2 _ rfl
 have k24 := LC.cell 3 _ rfl
 have LA := LA.alloc (.cells #[.int .u64 0, .int .u64 0, .int .u64 0, .int .u64 0] 24)
 have LB := LB.alloc (.cells #[.int .u64 0, .int .u64 0, .int .u64 0, .int .u64 0] 24)
 have LC := LC.alloc (.cells #[.int .u64 0, .int .u64 0, .int .u64 0, .int .u64 0] 24)
 have LN := Has.new (((w.alloc (.cells #[.int .u64 (za 0), .int .u64 (za 1), .int .u64 (za 2), .int .u64 (za 3)] 24)).alloc (.cells #[.int .u64 (zb 0), .int .u64 (zb 1), .int .u64 (zb 2), .int .u64 (zb 3)] 24)).alloc (.cells #[.int .u64 (zc 0), .int .u64 (zc 1), .int .u64 (zc 2), .int .u64 (zc 3)] 24)) 24 #[.int .u64 0, .int .u64 0, .int .u64 0, .int .u64 0]
 simp only [World.size_alloc] at LN
 have k25 := LA.cell 0 _ rfl
 have k26 := LA.cell 1 _ rfl
 have k27 := LA.cell 2 _ rfl
 have k28 := LA.cell 3 _ rfl
 have k29 := LB.cell 0 _ rfl
 have k30 := LB.cell 1 _ rfl
 have k31 := LB.cell 2 _ rfl
 have k32 := LB.cell 3 _ rfl
 have k33 := LC.cell 0 _ rfl
 have k34 := LC.cell 1 _ rfl
 have k35 := LC.cell 2 _ rfl
 have k36 := LC.cell 3 _ rfl
 have k37 := LN.cell 0 _ rfl
 have k38 := LN.cell 1 _ rfl
 have k39 := LN.cell 2 _ rfl
 have k40 := LN.cell 3 _ rfl
 have Q := (Below.refl w.heap.size w)
 have Q := Q.alloc Q.size (.cells #[.int .u64 (za 0), .int .u64 (za 1), .int .u64 (za 2), .int .u64 (za 3)] 24)
 have Q := Q.alloc Q.size (.cells #[.int .u64 (zb 0), .int .u64 (zb 1), .int .u64 (zb 2), .int .u64 (zb 3)] 24)
 have Q := Q.alloc Q.size (.cells #[.int .u64 (zc 0), .int .u64 (zc 1), .int .u64 (zc 2), .int .u64 (zc 3)] 24)
 have Q := Q.alloc Q.size (.cells #[.int .u64 0, .int .u64 0, .int .u64 0, .int .u64 0] 24)
 go_wp2
 clear k1 k2 k3 k4 k5 k6 k7 k8 k9 k10 k11 k12 k13 k14 k15 k16 k17 k18 k19 k20 k21 k22 k23 k24 k25 k26 k27 k28 k29 k30 k31 k32 k33 k34 k35 k36 k37 k38 k39 k40
 obtain ⟨W1, hW1⟩ : ∃ W1, ((((w.alloc (.cells #[.int .u64 (za 0), .int .u64 (za 1), .int .u64 (za 2), .int .u64 (za 3)] 24)).alloc (.cells #[.int .u64 (zb 0), .int .u64 (zb 1), .int .u64 (zb 2), .int .u64 (zb 3)] 24)).alloc (.cells #[.int .u64 (zc 0), .int .u64 (zc 1), .int .u64 (zc 2), .int .u64 (zc 3)] 24)).alloc (.cells #[.int .u64 0, .int .u64 0, .int .u64 0, .int .u64 0] 24)) = W1 := ⟨_, rfl⟩
 rw [hW1] at LA LB LC LN Q ⊢
 clear hW1
 go_ret
 exact ⟨rfl, Q⟩
theorem cleared_d (za zb zc : Nat → Int) (eoz : ((za 0 == 0) && (za 1 == 0) && (za 2 == 0) && (za 3 == 0)) = false) (ecz : ((zb 0 == 0) && (zb 1 == 0) && (zb 2 == 0) && (zb 3 == 0)) = false) (evz : ((zc 0 == 0) && (zc 1 == 0) && (zc 2 == 0) && (zc 3 == 0)) = false) :
  Ret Tryd.prog 60 #[.agg #[.int .u64 (za 0), .int .u64 (za 1), .int .u64 (za 2), .int .u64 (za 3)], .agg #[.int .u64 (zb 0), .int .u64 (zb 1), .int .u64 (zb 2), .int .u64 (zb 3)], .agg #[.int .u64 (zc 0), .int .u64 (zc 1), .int .u64 (zc 2), .int .u64 (zc 3)]] (.int .i64 0) := by
 intro w
 go_enter Tryd.func60, Tryd.ntmps60
 have LA := Has.new w 24 #[.int .u64 (za 0), .int .u64 (za 1), .int .u64 (za 2), .int .u64 (za 3)]
 have k1 := LA.cell 0 _ rfl
 have k2 := LA.cell 1 _ rfl
 have k3 := LA.cell 2 _ rfl
 have k4 := LA.cell 3 _ rfl
 have LA := LA.alloc (.cells #[.int .u64 (zb 0), .int .u64 (zb 1), .int .u64 (zb 2), .int .u64 (zb 3)] 24)
 have LB := Has.new (w.alloc (.cells #[.int .u64 (za 0), .int .u64 (za 1), .int .u64 (za 2), .int .u64 (za 3)] 24)) 24 #[.int .u64 (zb 0), .int .u64 (zb 1), .int .u64 (zb 2), .int .u64 (zb 3)]
 simp only [World.size_alloc] at LB
 have k5 := LA.cell 0 _ rfl
 have k6 := LA.cell 1 _ rfl
 have k7 := LA.cell 2 _ rfl
 have k8 := LA.cell 3 _ rfl
 have k9 := LB.cell 0 _ rfl
 have k10 := LB.cell 1 _ rfl
 have k11 := LB.cell 2 _ rfl
 have k12 := LB.cell 3 _ rfl
 have LA := LA.alloc (.cells #[.int .u64 (zc 0), .int .u64 (zc 1), .int .u64 (zc 2), .int .u64 (zc 3)] 24)
 have LB := LB.alloc (.cells #[.int .u64 (zc 0), .int .u64 (zc 1), .int .u64 (zc 2), .int .u64 (zc 3)] 24)
 have LC := Has.new ((w.alloc (.cells #[.int .u64 (za 0), .int .u64 (za 1), .int .u64 (za 2), .int .u64 (za 3)] 24)).alloc (.cells #[.int .u64 (zb 0), .int .u64 (zb 1), .int .u64 (zb 2), .int .u64 (zb 3)] 24)) 24 #[.int .u64 (zc 0), .int .u64 (zc 1), .int .u64 (zc 2), .int .u64 (zc 3)]
 simp only [World.size_alloc] at LC
 have k13 := LA.cell 0 _ rfl
 have k14 := LA.cell 1 _ rfl
 have k15 := LA.cell 2 _ rfl
 have k16 := LA.cell 3 _ rfl
 have k17 := LB.cell 0 _ rfl
 have k18 := LB.cell 1 _ rfl
 have k19 := LB.cell 2 _ rfl
 have k20 := LB.cell 3 _ rfl
 have k21 := LC.cell 0 _ rfl
 have k22 := LC.cell 1 _ rfl
 have k23 := LC.cell 2 _ rfl
 have k24 := LC.cell 3 _ rfl
 have LA := LA.alloc (.cells #[.int .u64 0, .int .u64 0, .int .u64 0, .int .u64 0] 24)
 have LB := LB.alloc (.cells #[.int .u64 0, .int .u64 0, .int .u64 0, .int .u64 0] 24)
 have LC := LC.alloc (.cells #[.int .u64 0, .int .u64 0, .int .u64 0, .int .u64 0] 24)
 have LN := Has.new (((w.alloc (.cells #[.int .u64 (za 0), .int .u64 (za 1), .int .u64 (za 2), .int .u64 (za 3)] 24)).alloc (.cells #[.int .u64 (zb 0), .int .u64 (zb 1), .int .u64 (zb 2), .int .u64 (zb 3)] 24)).alloc (.cells #[.int .u64 (zc 0), .int .u64 (zc 1), .int .u64 (zc 2), .int .u64 (zc 3)] 24)) 24 #[.int .u64 0, .int .u64 0, .int .u64 0, .int .u64 0]
 simp only [World.size_alloc] at LN
 have k25 := LA.cell 0 _ rfl
 have k26 := LA.cell 1 _ rfl
 have k27 := LA.cell 2 _ rfl
 have k28 := LA.cell 3 _ rfl
 have k29 := LB.cell 0 _ rfl
 have k30 := LB.cell 1 _ rfl
 have k31 := LB.cell 2 _ rfl
 have k32 := LB.cell 3 _ rfl
 have k33 := LC.cell 0 _ rfl
 have k34 := LC.cell 1 _ rfl
 have k35 := LC.cell 2 _ rfl
 have k36 := LC.cell 3 _ rfl
 have k37 := LN.cell 0 _ rfl
 have k38 := LN.cell 1 _ rfl
 have k39 := LN.cell 2 _ rfl
 have k40 := LN.cell 3 _ rfl
 have Q := (Below.refl w.heap.size w)
 have Q := Q.alloc Q.size (.cells #[.int .u64 (za 0), .int .u64 (za 1), .int .u64 (za 2), .int .u64 (za 3)] 24)
 have Q := Q.alloc Q.size (.cells #[.int .u64 (zb 0), .int .u64 (zb 1), .int .u64 (zb 2), .int .u64 (zb 3)] 24)
 have Q := Q.alloc Q.size (.cells #[.int .u64 (zc 0), .int .u64 (zc 1), .int .u64 (zc 2), .int .u64 (zc 3)] 24)
 have Q := Q.alloc Q.size (.cells #[.int .u64 0, .int .u64 0, .int .u64 0, .int .u64 0] 24)
 go_wp2
 clear k1 k2 k3 k4 k5 k6 k7 k8 k9 k10 k11 k12 k13 k14 k15 k16 k17 k18 k19 k20 k21 k22 k23 k24 k25 k26 k27 k28 k29 k30 k31 k32 k33 k34 k35 k36 k37 k38 k39 k40
 obtain ⟨W1, hW1⟩ : ∃ W1, ((((w.alloc (.cells #[.int .u64 (za 0), .int .u64 (za 1), .int .u64 (za 2), .int .u64 (za 3)] 24)).alloc (.cells #[.int .u64 (zb 0), .int .u64 (zb 1), .int .u64 (zb 2), .int .u64 (zb 3)] 24)).alloc (.cells #[.int .u64 (zc 0), .int .u64 (zc 1), .int .u64 (zc 2), .int .u64 (zc 3)] 24)).alloc (.cells #[.int .u64 0, .int .u64 0, .int .u64 0, .int .u64 0] 24)) = W1 := ⟨_, rfl⟩
 rw [hW1] at LA LB LC LN Q ⊢
 clear hW1
 go_ret
 exact ⟨rfl, Q⟩
theorem restored_a (za zb zc : Nat → Int) (eoc : ((za 0 == zb 0) && (za 1 == zb 1) && (za 2 == zb 2) && (za 3 == zb 3)) = true) :
  Ret Tryd.prog 61 #[.agg #[.int .u64 (za 0), .int .u64 (za 1), .int .u64 (za 2), .int .u64 (za 3)], .agg #[.int .u64 (zb 0), .int .u64 (zb 1), .int .u64 (zb 2), .int .u64 (zb 3)], .agg #[.int .u64 (zc 0), .int .u64 (zc 1), .int .u64 (zc 2), .int .u64 (zc 3)]] (.int .i64 0) := by
 intro w
 go_enter Tryd.func61, Tryd.ntmps61
 have LA := Has.new w 24 #[.int .u64 (za 0), .int .u64 (za 1), .int .u64 (za 2), .int .u64 (za 3)]
 have k1 := LA.cell 0 _ rfl
 have k2 := LA.cell 1 _ rfl
 have k3 := LA.cell 2 _ rfl
 have k4 := LA.cell 3 _ rfl
 have LA := LA.alloc (.cells #[.int .u64 (zb 0), .int .u64 (zb 1), .int .u64 (zb 2), .int .u64 (zb 3)] 24)
 have LB := Has.new (w.alloc (.cells #[.int .u64 (za 0), .int .u64 (za 1), .int .u64 (za 2), .int .u64 (za 3)] 24)) 24 #[.int .u64 (zb 0), .int .u64 (zb 1), .int .u64 (zb 2), .int .u64 (zb 3)]
 simp only [World.size_alloc] at LB
 have k5 := LA.cell 0 _ rfl
 have k6 := LA.cell 1 _ rfl
 have k7 := LA.cell 2 _ rfl
 have k8 := LA.cell 3 _ rfl
 have k9 := LB.cell 0 _ rfl
 have k10 := LB.cell 1 _ rfl
 have k11 := LB.cell 2 _ rfl
 have k12 := LB.cell 3 _ rfl
 have LA := LA.alloc (.cells #[.int .u64 (zc 0), .int .u64 (zc 1), .int .u64 (zc 2), .int .u64 (zc 3)] 24)
 have LB := LB.alloc (.cells #[.int .u64 (zc 0), .int .u64 (zc 1), .int .u64 (zc 2), .int .u64 (zc 3)] 24)
 have LC := Has.new ((w.alloc (.cells #[.int .u64 (za 0), .int .u64 (za 1), .int .u64 (za 2), .int .u64 (za 3)] 24)).alloc (.cells #[.int .u64 (zb 0), .int .u64 (zb 1), .int .u64 (zb 2), .int .u64 (zb 3)] 24)) 24 #[.int .u64 (zc 0), .int .u64 (zc 1), .int .u64 (zc 2), .int .u64 (zc 3)]
 simp only [World.size_alloc] at LC
 have k13 := LA.cell 0 _ rfl
 have k14 := LA.cell 1 _ rfl
 have k15 := LA.cell 2 _ rfl
 have k16 := LA.cell 3 _ rfl
 have k17 := LB.cell 0 _ rfl
 have k18 := LB.cell 1 _ rfl
 have k19 := LB.cell 2 _ rfl
 have k20 := LB.cell 3 _ rfl
 have k21 := LC.cell 0 _ rfl
 have k22 := LC.cell 1 _ rfl
 have k23 := LC.cell 2 _ rfl
 have k24 := LC.cell 3 _ rfl
 have Q := (Below.refl w.heap.size w)
 have Q := Q.alloc Q.size (.cells #[.int .u64 (za 0), .int .u64 (za 1), .int .u64 (za 2), .int .u64 (za 3)] 24)
 have Q := Q.alloc Q.size (.cells #[.int .u64 (zb 0), .int .u64 (zb 1), .int .u64 (zb 2), .int .u64 (zb 3)] 24)
 have Q := Q.alloc Q.size (.cells #[.int .u64 (zc 0), .int .u64 (zc 1), .int .u64 (zc 2), .int .u64 (zc 3)] 24)
 go_wp2
 clear k1 k2 k3 k4 k5 k6 k7 k8 k9 k10 k11 k12 k13 k14 k15 k16 k17 k18 k19 k20 k21 k22 k23 k24
 obtain ⟨W1, hW1⟩ : ∃ W1, (((w.alloc (.cells #[.int .u64 (za 0), .int .u64 (za 1), .int .u64 (za 2), .int .u64 (za 3)] 24)).alloc (.cells #[.int .u64 (zb 0), .int .u64 (zb 1), .int .u64 (zb 2), .int .u64 (zb 3)] 24)).alloc (.cells #[.int .u64 (zc 0), .int .u64 (zc 1), .int .u64 (zc 2), .int .u64 (zc 3)] 24)) = W1 := ⟨_, rfl⟩
 rw [hW1] at LA LB LC Q ⊢
 clear hW1
 go_ret
 exact ⟨rfl, Q⟩
theorem restored_b (za zb zc : Nat → Int) (eoc : ((za 0 == zb 0) && (za 1 == zb 1) && (za 2 == zb 2) && (za 3 == zb 3)) = false) (eov : ((za 0 == zc 0) && (za 1 == zc 1) && (za 2 == zc 2) && (za 3 == zc 3)) = false) :
  Ret Tryd.prog 61 #[.agg #[.int .u64 (za 0), .int .u64 (za 1), .int .u64 (za 2), .int .u64 (za 3)], .agg #[.int .u64 (zb 0), .int .u64 (zb 1), .int .u64 (zb 2), .int .u64 (zb 3)], .agg #[.int .u64 (zc 0), .int .u64 (zc 1), .int .u64 (zc 2), .int .u64 (zc 3)]] (.int .i64 0) := by
 intro w
 go_enter Tryd.func61, Tryd.ntmps61
 have LA := Has.new w 24 #[.int .u64 (za 0), .int .u64 (za 1), .int .u64 (za 2), .int .u64 (za 3)]
 have k1 := LA.cell 0 _ rfl
 have k2 := LA.cell 1 _ rfl
 have k3 := LA.cell 2 _ rfl
 have k4 := LA.cell 3 _ rfl
 have LA := LA.alloc (.cells #[.int .u64 (zb 0), .int .u64 (zb 1), .int .u64 (zb 2), .int .u64 (zb 3)] 24)
 have LB := Has.new (w.alloc (.cells #[.int .u64 (za 0), .int .u64 (za 1), .int .u64 (za 2), .int .u64 (za 3)] 24)) 24 #[.int .u64 (zb 0), .int .u64 (zb 1), .int .u64 (zb 2), .int .u64 (zb 3)]
 simp only [World.size_alloc] at LB
 have k5 := LA.cell 0 _ rfl
 have k6 := LA.cell 1 _ rfl
 have k7 := LA.cell 2 _ rfl
 have k8 := LA.cell 3 _ rfl
 have k9 := LB.cell 0 _ rfl
 have k10 := LB.cell 1 _ rfl
 have k11 := LB.cell 2 _ rfl
 have k12 := LB.cell 3 _ rfl
 have LA := LA.alloc (.cells #[.int .u64 (zc 0), .int .u64 (zc 1), .int .u64 (zc 2), .int .u64 (zc 3)] 24)
 have LB := LB.alloc (.cells #[.int .u64 (zc 0), .int .u64 (zc 1), .int .u64 (zc 2), .int .u64 (zc 3)] 24)
 have LC := Has.new ((w.alloc (.cells #[.int .u64 (za 0), .int .u64 (za 1), .int .u64 (za 2), .int .u64 (za 3)] 24)).alloc (.cells #[.int .u64 (zb 0), .int .u64 (zb 1), .int .u64 (zb 2), .int .u64 (zb 3)] 24)) 24 #[.int .u64 (zc 0), .int .u64 (zc 1), .int .u64 (zc 2), .int .u64 (zc 3)]
 simp only [World.size_alloc] at LC
 have k13 := LA.cell 0 _ rfl
 have k14 := LA.cell 1 _ rfl
 have k15 := LA.cell 2 _ rfl
 have k16 := LA.cell 3 _ rfl
 have k17 := LB.cell 0 _ rfl
 have k18 := LB.cell 1 _ rfl
 have k19 := LB.cell 2 _ rfl
 have k20 := LB.cell 3 _ rfl
 have k21 := LC.cell 0 _ rfl
 have k22 := LC.cell 1 _ rfl
 have k23 := LC.cell 2 _ rfl
 have k24 := LC.cell 3 _ rfl
 have Q := (Below.refl w.heap.size w)
 have Q := Q.alloc Q.size (.cells #[.int .u64 (za 0), .int .u64 (za 1), .int .u64 (za 2), .int .u64 (za 3)] 24)
 have Q := Q.alloc Q.size (.cells #[.int .u64 (zb 0), .int .u64 (zb 1), .int .u64 (zb 2), .int .u64 (zb 3)] 24)
 have Q := Q.alloc Q.size (.cells #[.int .u64 (zc 0), .int .u64 (zc 1), .int .u64 (zc 2), .int .u64 (zc 3)] 24)
 go_wp2
 clear k1 k2 k3 k4 k5 k6 k7 k8 k9 k10 k11 k12 k13 k14 k15 k16 k17 k18 k19 k20 k21 k22 k23 k24
 obtain ⟨W1, hW1⟩ : ∃ W1, (((w.alloc (.cells #[.int .u64 (za 0), .int .u64 (za 1), .int .u64 (za 2), .int .u64 (za 3)] 24)).alloc (.cells #[.int .u64 (zb 0), .int .u64 (zb 1), .int .u64 (zb 2), .int .u64 (zb 3)] 24)).alloc (.cells #[.int .u64 (zc 0), .int .u64 (zc 1), .int .u64 (zc 2), .int .u64 (zc 3)] 24)) = W1 := ⟨_, rfl⟩
 rw [hW1] at LA LB LC Q ⊢
 clear hW1
 go_ret
 exact ⟨rfl, Q⟩
theorem restored_c (za zb zc : Nat → Int) (f : Int) (eoc : ((za 0 == zb 0) && (za 1 == zb 1) && (za 2 == zb 2) && (za 3 == zb 3)) = false) (eov : ((za 0 == zc 0) && (za 1 == zc 1) && (za 2 == zc 2) && (za 3 == zc 3)) = true) (g : f = 20000 ∨ f = 2900) (h1 : Ret Tryd.prog 59 #[.agg #[.int .u64 (za 0), .int .u64 (za 1), .int .u64 (za 2), .int .u64 (za 3)]] (.int .i64 f)) :
  Ret Tryd.prog 61 #[.agg #[.int .u64 (za 0), .int .u64 (za 1), .int .u64 (za 2), .int .u64 (za 3)], .agg #[.int .u64 (zb 0), .int .u64 (zb 1), .int .u64 (zb 2), .int .u64 (zb 3)], .agg #[.int .u64 (zc 0), .int .u64 (zc 1), .int .u64 (zc 2), .int .u64 (zc 3)]] (.int .i64 (f - 100)) := by
 intro w
 have g0 : 0 ≤ f := by omega
 have g1 : f ≤ 20000 := by omega
 clear g
 have Hh1 := hid h1
 clear h1
 go_enter Tryd.func61, Tryd.ntmps61
 have LA := Has.new w 24 #[.int .u64 (za 0), .int .u64 (za 1), .int .u64 (za 2), .int .u64 (za 3)]
 have k1 := LA.cell 0 _ rfl
 have k2 := LA.cell 1 _ rfl
 have k3 := LA.cell 2 _ rfl
 have k4 := LA.cell 3 _ rfl
 have LA := LA.alloc (.cells #[.int .u64 (zb 0), .int .u64 (zb 1), .int .u64 (zb 2), .int .u64 (zb 3)] 24)
 have LB := Has.new (w.alloc (.cells #[.int .u64 (za 0), .int .u64 (za 1), .int .u64 (za 2), .int .u64 (za 3)] 24)) 24 #[.int .u64 (zb 0), .int .u64 (zb 1), .int .u64 (zb 2), .int .u64 (zb 3)]
 simp only [World.size_alloc] at LB
 have k5 := LA.cell 0 _ rfl
 have k6 := LA.cell 1 _ rfl
 have k7 := LA.cell 2 _ rfl
 have k8 := LA.cell 3 _ rfl
 have k9 := LB.cell 0 _ rfl
 have k10 := LB.cell 1 _ rfl
 have k11 := LB.cell 2 _ rfl
 have k12 := LB.cell 3 _ rfl
 have LA := LA.alloc (.cells #[.int .u64 (zc 0), .int .u64 (zc 1), .int .u64 (zc 2), .int .u64 (zc 3)] 24)
 have LB := LB.alloc (.cells #[.int .u64 (zc 0), .int .u64 (zc 1), .int .u64 (zc 2), .int .u64 (zc 3)] 24)
 have LC := Has.new ((w.alloc (.cells #[.int .u64 (za 0), .int .u64 (za 1), .int .u64 (za 2), .int .u64 (za 3)] 24)).alloc (.cells #[.int .u64 (zb 0), .int .u64 (zb 1), .int .u64 (zb 2), .int .u64 (zb 3)] 24)) 24 #[.int .u64 (zc 0), .int .u64 (zc 1), .int .u64 (zc 2), .int .u64 (zc 3)]
 simp only [World.size_alloc] at LC
 have k13 := LA.cell 0 _ rfl
 have k14 := LA.cell 1 _ rfl
 have k15 := LA.cell 2 _ rfl
 have k16 := LA.cell 3 _ rfl
 have k17 := LB.cell 0 _ rfl
 have k18 := LB.cell 1 _ rfl
 have k19 := LB.cell 2 _ rfl
 have k20 := LB.cell 3 _ rfl
 have k21 := LC.cell 0 _ rfl
 have k22 := LC.cell 1 _ rfl
 have k23 := LC.cell 2 _ rfl
 have k24 := LC.cell 3 _ rfl
 have Q := (Below.refl w.heap.size w)
 have Q := Q.alloc Q.size (.cells #[.int .u64 (za 0), .int .u64 (za 1), .int .u64 (za 2), .int .u64 (za 3)] 24)
 have Q := Q.alloc Q.size (.cells #[.int .u64 (zb 0), .int .u64 (zb 1), .int .u64 (zb 2), .int .u64 (zb 3)] 24)
 have Q := Q.alloc Q.size (.cells #[.int .u64 (zc 0), .int .u64 (zc 1), .int .u64 (zc 2), .int .u64 (zc 3)] 24)
 go_wp2_with fail
 clear k1 k2 k3 k4 k5 k6 k7 k8 k9 k10 k11 k12 k13 k14 k15 k16 k17 k18 k19 k20 k21 k22 k23 k24
 obtain ⟨W1, hW1⟩ : ∃ W1, (((w.alloc (.cells #[.int .u64 (za 0), .int .u64 (za 1), .int .u64 (za 2), .int .u64 (za 3)] 24)).alloc (.cells #[.int .u64 (zb 0), .int .u64 (zb 1), .int .u64 (zb 2), .int .u64 (zb 3)] 24)).alloc (.cells #[.int .u64 (zc 0), .int .u64 (zc 1), .int .u64 (zc 2), .int .u64 (zc 3)] 24)) = W1 := ⟨_, rfl⟩
 rw [hW1] at LA LB LC Q ⊢
 clear hW1
 refine (Hh1.out _).mono ?_
 rintro e v25 ⟨rfl, q⟩
 have LA := LA.later q
 have LB := LB.later q
 have LC := LC.later q
 have Q := Q.trans (q.mono Q.size)
 clear q
 have k26 := LA.cell 0 _ rfl
 have k27 := LA.cell 1 _ rfl
 have k28 := LA.cell 2 _ rfl
 have k29 := LA.cell 3 _ rfl
 have k30 := LB.cell 0 _ rfl
 have k31 := LB.cell 1 _ rfl
 have k32 := LB.cell 2 _ rfl
 have k33 := LB.cell 3 _ rfl
 have k34 := LC.cell 0 _ rfl
 have k35 := LC.cell 1 _ rfl
 have k36 := LC.cell 2 _ rfl
 have k37 := LC.cell 3 _ rfl
 go_wp2
 clear k26 k27 k28 k29 k30 k31 k32 k33 k34 k35 k36 k37
 go_ret
 exact ⟨rfl, Q⟩
theorem refunded_a (za zb zc : Nat → Int) (ecv : ((zb 0 == zc 0) && (zb 1 == zc 1) && (zb 2 == zc 2) && (zb 3 == zc 3)) = true) :
  Ret Tryd.prog 42 #[.agg #[.int .u64 (za 0), .int .u64 (za 1), .int .u64 (za 2), .int .u64 (za 3)], .agg #[.int .u64 (zb 0), .int .u64 (zb 1), .int .u64 (zb 2), .int .u64 (zb 3)], .agg #[.int .u64 (zc 0), .int .u64 (zc 1), .int .u64 (zc 2), .int .u64 (zc 3)]] (.int .i64 0) := by
 intro w
 go_enter Tryd.func42, Tryd.ntmps42
 have LA := Has.new w 24 #[.int .u64 (za 0), .int .u64 (za 1), .int .u64 (za 2), .int .u64 (za 3)]
 have k1 := LA.cell 0 _ rfl
 have k2 := LA.cell 1 _ rfl
 have k3 := LA.cell 2 _ rfl
 have k4 := LA.cell 3 _ rfl
 have LA := LA.alloc (.cells #[.int .u64 (zb 0), .int .u64 (zb 1), .int .u64 (zb 2), .int .u64 (zb 3)] 24)
 have LB := Has.new (w.alloc (.cells #[.int .u64 (za 0), .int .u64 (za 1), .int .u64 (za 2), .int .u64 (za 3)] 24)) 24 #[.int .u64 (zb 0), .int .u64 (zb 1), .int .u64 (zb 2), .int .u64 (zb 3)]
 simp only [World.size_alloc] at LB
 have k5 := LA.cell 0 _ rfl
 have k6 := LA.cell 1 _ rfl
 have k7 := LA.cell 2 _ rfl
 have k8 := LA.cell 3 _ rfl
 have k9 := LB.cell 0 _ rfl
 have k10 := LB.cell 1 _ rfl
 have k11 := LB.cell 2 _ rfl
 have k12 := LB.cell 3 _ rfl
 have LA := LA.alloc (.cells #[.int .u64 (zc 0), .int .u64 (zc 1), .int .u64 (zc 2), .int .u64 (zc 3)] 24)
 have LB := LB.alloc (.cells #[.int .u64 (zc 0), .int .u64 (zc 1), .int .u64 (zc 2), .int .u64 (zc 3)] 24)
 have LC := Has.new ((w.alloc (.cells #[.int .u64 (za 0), .int .u64 (za 1), .int .u64 (za 2), .int .u64 (za 3)] 24)).alloc (.cells #[.int .u64 (zb 0), .int .u64 (zb 1), .int .u64 (zb 2), .int .u64 (zb 3)] 24)) 24 #[.int .u64 (zc 0), .int .u64 (zc 1), .int .u64 (zc 2), .int .u64 (zc 3)]
 simp only [World.size_alloc] at LC
 have k13 := LA.cell 0 _ rfl
 have k14 := LA.cell 1 _ rfl
 have k15 := LA.cell 2 _ rfl
 have k16 := LA.cell 3 _ rfl
 have k17 := LB.cell 0 _ rfl
 have k18 := LB.cell 1 _ rfl
 have k19 := LB.cell 2 _ rfl
 have k20 := LB.cell 3 _ rfl
 have k21 := LC.cell 0 _ rfl
 have k22 := LC.cell 1 _ rfl
 have k23 := LC.cell 2 _ rfl
 have k24 := LC.cell 3 _ rfl
 have Q := (Below.refl w.heap.size w)
 have Q := Q.alloc Q.size (.cells #[.int .u64 (za 0), .int .u64 (za 1), .int .u64 (za 2), .int .u64 (za 3)] 24)
 have Q := Q.alloc Q.size (.cells #[.int .u64 (zb 0), .int .u64 (zb 1), .int .u64 (zb 2), .int .u64 (zb 3)] 24)
 have Q := Q.alloc Q.size (.cells #[.int .u64 (zc 0), .int .u64 (zc 1), .int .u64 (zc 2), .int .u64 (zc 3)] 24)
 go_wp2
 clear k1 k2 k3 k4 k5 k6 k7 k8 k9 k10 k11 k12 k13 k14 k15 k16 k17 k18 k19 k20 k21 k22 k23 k24
 obtain ⟨W1, hW1⟩ : ∃ W1, (((w.alloc (.cells #[.int .u64 (za 0), .int .u64 (za 1), .int .u64 (za 2), .int .u64 (za 3)] 24)).alloc (.cells #[.int .u64 (zb 0), .int .u64 (zb 1), .int .u64 (zb 2), .int .u64 (zb 3)] 24)).alloc (.cells #[.int .u64 (zc 0), .int .u64 (zc 1), .int .u64 (zc 2), .int .u64 (zc 3)] 24)) = W1 := ⟨_, rfl⟩
 rw [hW1] at LA LB LC Q ⊢
 clear hW1
 go_ret
 exact ⟨rfl, Q⟩
theorem refunded_b (za zb zc : Nat → Int) (x y : Int) (ecv : ((zb 0 == zc 0) && (zb 1 == zc 1) && (zb 2 == zc 2) && (zb 3 == zc 3)) = false) (g0 : -4800 ≤ x) (g1 : x ≤ 4800) (g2 : 0 ≤ y) (g3 : y ≤ 20000) (h1 : Ret Tryd.prog 60 #[.agg #[.int .u64 (za 0), .int .u64 (za 1), .int .u64 (za 2), .int .u64 (za 3)], .agg #[.int .u64 (zb 0), .int .u64 (zb 1), .int .u64 (zb 2), .int .u64 (zb 3)], .agg #[.int .u64 (zc 0), .int .u64 (zc 1), .int .u64 (zc 2), .int .u64 (zc 3)]] (.int .i64 x)) (h2 : Ret Tryd.prog 61 #[.agg #[.int .u64 (za 0), .int .u64 (za 1), .int .u64 (za 2), .int .u64 (za 3)], .agg #[.int .u64 (zb 0), .int .u64 (zb 1), .int .u64 (zb 2), .int .u64 (zb 3)], .agg #[.int .u64 (zc 0), .int .u64 (zc 1), .int .u64 (zc 2), .int .u64 (zc 3)]] (.int .i64 y)) :
  Ret Tryd.prog 42 #[.agg #[.int .u64 (za 0), .int .u64 (za 1), .int .u64 (za 2), .int .u64 (za 3)], .agg #[.int .u64 (zb 0), .int .u64 (zb 1), .int .u64 (zb 2), .int .u64 (zb 3)], .agg #[.int .u64 (zc 0), .int .u64 (zc 1), .int .u64 (zc 2), .int .u64 (zc 3)]] (.int .i64 (x + y)) := by
 intro w
 have Hh1 := hid h1
 have Hh2 := hid h2
 clear h1 h2
 go_enter Tryd.func42, Tryd.ntmps42
 have LA := Has.new w 24 #[.int .u64 (za 0), .int .u64 (za 1), .int .u64 (za 2), .int .u64 (za 3)]
 have k1 := LA.cell 0 _ rfl
 have k2 := LA.cell 1 _ rfl
 have k3 := LA.cell 2 _ rfl
 have k4 := LA.cell 3 _ rfl
 have LA := LA.alloc (.cells #[.int .u64 (zb 0), .int .u64 (zb 1), .int .u64 (zb 2), .int .u64 (zb 3)] 24)
 have LB := Has.new (w.alloc (.cells #[.int .u64 (za 0), .int .u64 (za 1), .int .u64 (za 2), .int .u64 (za 3)] 24)) 24 #[.int .u64 (zb 0), .int .u64 (zb 1), .int .u64 (zb 2), .int .u64 (zb 3)]
 simp only [World.size_alloc] at LB
 have k5 := LA.cell 0 _ rfl
 have k6 := LA.cell 1 _ rfl
 have k7 := LA.cell 2 _ rfl
 have k8 := LA.cell 3 _ rfl
 have k9 := LB.cell 0 _ rfl
 have k10 := LB.cell 1 _ rfl
 have k11 := LB.cell 2 _ rfl
 have k12 := LB.cell 3 _ rfl
 have LA := LA.alloc (.cells #[.int .u64 (zc 0), .int .u64 (zc 1), .int .u64 (zc 2), .int .u64 (zc 3)] 24)
 have LB := LB.alloc (.cells #[.int .u64 (zc 0), .int .u64 (zc 1), .int .u64 (zc 2), .int .u64 (zc 3)] 24)
 have LC := Has.new ((w.alloc (.cells #[.int .u64 (za 0), .int .u64 (za 1), .int .u64 (za 2), .int .u64 (za 3)] 24)).alloc (.cells #[.int .u64 (zb 0), .int .u64 (zb 1), .int .u64 (zb 2), .int .u64 (zb 3)] 24)) 24 #[.int .u64 (zc 0), .int .u64 (zc 1), .int .u64 (zc 2), .int .u64 (zc 3)]
 simp only [World.size_alloc] at LC
 have k13 := LA.cell 0 _ rfl
 have k14 := LA.cell 1 _ rfl
 have k15 := LA.cell 2 _ rfl
 have k16 := LA.cell 3 _ rfl
 have k17 := LB.cell 0 _ rfl
 have k18 := LB.cell 1 _ rfl
 have k19 := LB.cell 2 _ rfl
 have k20 := LB.cell 3 _ rfl
 have k21 := LC.cell 0 _ rfl
 have k22 := LC.cell 1 _ rfl
 have k23 := LC.cell 2 _ rfl
 have k24 := LC.cell 3 _ rfl
 have Q := (Below.refl w.heap.size w)
 have Q := Q.alloc Q.size (.cells #[.int .u64 (za 0), .int .u64 (za 1), .int .u64 (za 2), .int .u64 (za 3)] 24)
 have Q := Q.alloc Q.size (.cells #[.int .u64 (zb 0), .int .u64 (zb 1), .int .u64 (zb 2), .int .u64 (zb 3)] 24)
 have Q := Q.alloc Q.size (.cells #[.int .u64 (zc 0), .int .u64 (zc 1), .int .u64 (zc 2), .int .u64 (zc 3)] 24)
 go_wp2_with fail
 clear k1 k2 k3 k4 k5 k6 k7 k8 k9 k10 k11 k12 k13 k14 k15 k16 k17 k18 k19 k20 k21 k22 k23 k24
 obtain ⟨W1, hW1⟩ : ∃ W1, (((w.alloc (.cells #[.int .u64 (za 0), .int .u64 (za 1), .int .u64 (za 2), .int .u64 (za 3)] 24)).alloc (.cells #[.int .u64 (zb 0), .int .u64 (zb 1), .int .u64 (zb 2), .int .u64 (zb 3)] 24)).alloc (.cells #[.int .u64 (zc 0), .int .u64 (zc 1), .int .u64 (zc 2), .int .u64 (zc 3)] 24)) = W1 := ⟨_, rfl⟩
 rw [hW1] at LA LB LC Q ⊢
 clear hW1
 have k25 : ∀ x : Ext W1, x.w.cell? ⟨w.heap.size, 0, none⟩ = some (.int .u64 (za 0)) := fun x => (LA.later x.below).cell 0 _ rfl
 have k26 : ∀ x : Ext W1, x.w.cell? ⟨w.heap.size, 1, none⟩ = some (.int .u64 (za 1)) := fun x => (LA.later x.below).cell 1 _ rfl
 have k27 : ∀ x : Ext W1, x.w.cell? ⟨w.heap.size, 2, none⟩ = some (.int .u64 (za 2)) := fun x => (LA.later x.below).cell 2 _ rfl
 have k28 : ∀ x : Ext W1, x.w.cell? ⟨w.heap.size, 3, none⟩ = some (.int .u64 (za 3)) := fun x => (LA.later x.below).cell 3 _ rfl
 have k29 : ∀ x : Ext W1, x.w.cell? ⟨w.heap.size + 1, 0, none⟩ = some (.int .u64 (zb 0)) := fun x => (LB.later x.below).cell 0 _ rfl
 have k30 : ∀ x : Ext W1, x.w.cell? ⟨w.heap.size + 1, 1, none⟩ = some (.int .u64 (zb 1)) := fun x => (LB.later x.below).cell 1 _ rfl
 have k31 : ∀ x : Ext W1, x.w.cell? ⟨w.heap.size + 1, 2, none⟩ = some (.int .u64 (zb 2)) := fun x => (LB.later x.below).cell 2 _ rfl
 have k32 : ∀ x : Ext W1, x.w.cell? ⟨w.heap.size + 1, 3, none⟩ = some (.int .u64 (zb 3)) := fun x => (LB.later x.below).cell 3 _ rfl
 have k33 : ∀ x : Ext W1, x.w.cell? ⟨w.heap.size + 1 + 1, 0, none⟩ = some (.int .u64 (zc 0)) := fun x => (LC.later x.below).cell 0 _ rfl
 have k34 : ∀ x : Ext W1, x.w.cell? ⟨w.heap.size + 1 + 1, 1, none⟩ = some (.int .u64 (zc 1)) := fun x => (LC.later x.below).cell 1 _ rfl
 have k35 : ∀ x : Ext W1, x.w.cell? ⟨w.heap.size + 1 + 1, 2, none⟩ = some (.int .u64 (zc 2)) := fun x => (LC.later x.below).cell 2 _ rfl
 have k36 : ∀ x : Ext W1, x.w.cell? ⟨w.heap.size + 1 + 1, 3, none⟩ = some (.int .u64 (zc 3)) := fun x => (LC.later x.below).cell 3 _ rfl
 clear LA LB LC
 have HQ := hid Q
 clear Q
 try simp only [List.append]
 refine wp_region_quick (C := Grows W1) (by kernel_rfl) (by kernel_rfl) (by kernel_rfl) (grows_refl W1) ?_
 repeat (go_big_quiet_step (first | (with_reducible exact Ret.at Hh1.out _) | (with_reducible exact Ret.at Hh2.out _)))
 refine wpQuiet_nil ?_
 rintro _ ⟨x, rfl⟩
 go_wp2
 go_ret
 exact ⟨rfl, HQ.out.trans (x.below.mono HQ.out.size)⟩
section
variable (o c v : Nat) (ho : W256 o) (hc : W256 c) (hv : W256 v)
include ho hc hv
theorem written_ret : Ret Tryd.prog 41 #[wv o, wv c, wv v] (.int .i64 (writtenN o c v)) := by
 unfold writtenN
 by_cases h1 : c = v
 ·rw [if_pos (.inl h1)]; exact written_a _ _ _ (eqW_t hc hv h1)
 ·by_cases h2 : o = c
  ·rw [if_neg (fun h => h.elim h1 (fun h => h h2))]; exact written_c _ _ _ _ (eqW_f hc hv h1) (eqW_t ho hc h2) (first_ret o ho)
  ·rw [if_pos (.inr h2)]; exact written_b _ _ _ (eqW_f hc hv h1) (eqW_f ho hc h2)
theorem cleared_ret : Ret Tryd.prog 60 #[wv o, wv c, wv v] (.int .i64 (clearedN o c v)) := by
 unfold clearedN
 by_cases h1 : o = 0
 ·rw [if_pos h1]; exact cleared_a _ _ _ (eqZ_t ho h1)
 ·rw [if_neg h1]
  by_cases h2 : c = 0
  ·rw [if_pos h2]; exact cleared_b _ _ _ (eqZ_f ho h1) (eqZ_t hc h2)
  ·rw [if_neg h2]
   by_cases h3 : v = 0
   ·rw [if_pos h3]; exact cleared_c _ _ _ (eqZ_f ho h1) (eqZ_f hc h2) (eqZ_t hv h3)
   ·rw [if_neg h3]; exact cleared_d _ _ _ (eqZ_f ho h1) (eqZ_f hc h2) (eqZ_f hv h3)
theorem restored_ret : Ret Tryd.prog 61 #[wv o, wv c, wv v] (.int .i64 (restoredN o c v)) := by
 unfold restoredN
 by_cases h1 : o = c
 ·rw [if_pos (.inl h1)]; exact restored_a _ _ _ (eqW_t ho hc h1)
 ·by_cases h2 : o = v
  ·rw [if_neg (fun h => h.elim h1 (fun h => h h2))]; exact restored_c _ _ _ _ (eqW_f ho hc h1) (eqW_t ho hv h2) (firstN_cases o) (first_ret o ho)
  ·rw [if_pos (.inr h2)]; exact restored_b _ _ _ (eqW_f ho hc h1) (eqW_f ho hv h2)
theorem refunded_ret : Ret Tryd.prog 42 #[wv o, wv c, wv v] (.int .i64 (refundedN o c v)) := by
 have h1 := cleared_ret o c v ho hc hv
 have h2 := restored_ret o c v ho hc hv
 have b1 : -4800 ≤ clearedN o c v ∧ clearedN o c v ≤ 4800 := by unfold clearedN; split <;> (try split) <;> (try split) <;> omega
 have b2 : 0 ≤ restoredN o c v ∧ restoredN o c v ≤ 20000 := by have := firstN_cases o; unfold restoredN; split <;> omega
 unfold refundedN
 by_cases h : c = v
 ·rw [if_pos h]; exact refunded_a _ _ _ (eqW_t hc hv h)
 ·rw [if_neg h]; exact refunded_b _ _ _ _ _ (eqW_f hc hv h) b1.1 b1.2 b2.1 b2.2 h1 h2
end
theorem store_warm (za zb zc : Nat → Int) (x y : Int) (_g0 : 100 ≤ x) (_g1 : x ≤ 20000) (h1 : Ret Tryd.prog 41 #[.agg #[.int .u64 (za 0), .int .u64 (za 1), .int .u64 (za 2), .int .u64 (za 3)], .agg #[.int .u64 (zb 0), .int .u64 (zb 1), .int .u64 (zb 2), .int .u64 (zb 3)], .agg #[.int .u64 (zc 0), .int .u64 (zc 1), .int .u64 (zc 2), .int .u64 (zc 3)]] (.int .i64 x)) (h2 : Ret Tryd.prog 42 #[.agg #[.int .u64 (za 0), .int .u64 (za 1), .int .u64 (za 2), .int .u64 (za 3)], .agg #[.int .u64 (zb 0), .int .u64 (zb 1), .int .u64 (zb 2), .int .u64 (zb 3)], .agg #[.int .u64 (zc 0), .int .u64 (zc 1), .int .u64 (zc 2), .int .u64 (zc 3)]] (.int .i64 y)) :
  Ret Tryd.prog 21 #[.agg #[.int .u64 (za 0), .int .u64 (za 1), .int .u64 (za 2), .int .u64 (za 3)], .agg #[.int .u64 (zb 0), .int .u64 (zb 1), .int .u64 (zb 2), .int .u64 (zb 3)], .agg #[.int .u64 (zc 0), .int .u64 (zc 1), .int .u64 (zc 2), .int .u64 (zc 3)], .bool true] (.tuple #[.int .i64 x, .int .i64 y]) := by
 intro w
 have Hh1 := hid h1
 have Hh2 := hid h2
 clear h1 h2
 go_enter Tryd.func21, Tryd.ntmps21
 have LA := Has.new w 24 #[.int .u64 (za 0), .int .u64 (za 1), .int .u64 (za 2), .int .u64 (za 3)]
 have k1 := LA.cell 0 _ rfl
 have k2 := LA.cell 1 _ rfl
 have k3 := LA.cell 2 _ rfl
 have k4 := LA.cell 3 _ rfl
 have LA := LA.alloc (.cells #[.int .u64 (zb 0), .int .u64 (zb 1), .int .u64 (zb 2), .int .u64 (zb 3)] 24)
 have LB := Has.new (w.alloc (.cells #[.int .u64 (za 0), .int .u64 (za 1), .int .u64 (za 2), .int .u64 (za 3)] 24)) 24 #[.int .u64 (zb 0), .int .u64 (zb 1), .int .u64 (zb 2), .int .u64 (zb 3)]
 simp only [World.size_alloc] at LB
 have k5 := LA.cell 0 _ rfl
 have k6 := LA.cell 1 _ rfl
 have k7 := LA.cell 2 _ rfl
 have k8 := LA.cell 3 _ rfl
 have k9 := LB.cell 0 _ rfl
 have k10 := LB.cell 1 _ rfl
 have k11 := LB.cell 2 _ rfl
 have k12 := LB.cell 3 _ rfl
 have LA := LA.alloc (.cells #[.int .u64 (zc 0), .int .u64 (zc 1), .int .u64 (zc 2), .int .u64 (zc 3)] 24)
 have LB := LB.alloc (.cells #[.int .u64 (zc 0), .int .u64 (zc 1), .int .u64 (zc 2), .int .u64 (zc 3)] 24)
 have LC := Has.new ((w.alloc (.cells #[.int .u64 (za 0), .int .u64 (za 1), .int .u64 (za 2), .int .u64 (za 3)] 24)).alloc (.cells #[.int .u64 (zb 0), .int .u64 (zb 1), .int .u64 (zb 2), .int .u64 (zb 3)] 24)) 24 #[.int .u64 (zc 0), .int .u64 (zc 1), .int .u64 (zc 2), .int .u64 (zc 3)]
 simp only [World.size_alloc] at LC
 have k13 := LA.cell 0 _ rfl
 have k14 := LA.cell 1 _ rfl
 have k15 := LA.cell 2 _ rfl
 have k16 := LA.cell 3 _ rfl
 have k17 := LB.cell 0 _ rfl
 have k18 := LB.cell 1 _ rfl
 have k19 := LB.cell 2 _ rfl
 have k20 := LB.cell 3 _ rfl
 have k21 := LC.cell 0 _ rfl
 have k22 := LC.cell 1 _ rfl
 have k23 := LC.cell 2 _ rfl
 have k24 := LC.cell 3 _ rfl
 have Q := (Below.refl w.heap.size w)
 have Q := Q.alloc Q.size (.cells #[.int .u64 (za 0), .int .u64 (za 1), .int .u64 (za 2), .int .u64 (za 3)] 24)
 have Q := Q.alloc Q.size (.cells #[.int .u64 (zb 0), .int .u64 (zb 1), .int .u64 (zb 2), .int .u64 (zb 3)] 24)
 have Q := Q.alloc Q.size (.cells #[.int .u64 (zc 0), .int .u64 (zc 1), .int .u64 (zc 2), .int .u64 (zc 3)] 24)
 go_wp2_with fail
 clear k1 k2 k3 k4 k5 k6 k7 k8 k9 k10 k11 k12 k13 k14 k15 k16 k17 k18 k19 k20 k21 k22 k23 k24
 obtain ⟨W1, hW1⟩ : ∃ W1, (((w.alloc (.cells #[.int .u64 (za 0), .int .u64 (za 1), .int .u64 (za 2), .int .u64 (za 3)] 24)).alloc (.cells #[.int .u64 (zb 0), .int .u64 (zb 1), .int .u64 (zb 2), .int .u64 (zb 3)] 24)).alloc (.cells #[.int .u64 (zc 0), .int .u64 (zc 1), .int .u64 (zc 2), .int .u64 (zc 3)] 24)) = W1 := ⟨_, rfl⟩
 rw [hW1] at LA LB LC Q ⊢
 clear hW1
 refine (Hh1.out _).mono ?_
 rintro e v25 ⟨rfl, q⟩
 have LA := LA.later q
 have LB := LB.later q
 have LC := LC.later q
 have Q := Q.trans (q.mono Q.size)
 clear q
 have k26 := LA.cell 0 _ rfl
 have k27 := LA.cell 1 _ rfl
 have k28 := LA.cell 2 _ rfl
 have k29 := LA.cell 3 _ rfl
 have k30 := LB.cell 0 _ rfl
 have k31 := LB.cell 1 _ rfl
 have k32 := LB.cell 2 _ rfl
 have k33 := LB.cell 3 _ rfl
 have k34 := LC.cell 0 _ rfl
 have k35 := LC.cell 1 _ rfl
 have k36 := LC.cell 2 _ rfl
 have k37 := LC.cell 3 _ rfl
 go_wp2_with fail
 clear k26 k27 k28 k29 k30 k31 k32 k33 k34 k35 k36 k37
 refine (Hh2.out _).mono ?_
 rintro e v38 ⟨rfl, q⟩
 have LA := LA.later q
 have LB := LB.later q
 have LC := LC.later q
 have Q := Q.trans (q.mono Q.size)
 clear q
 have k39 := LA.cell 0 _ rfl
 have k40 := LA.cell 1 _ rfl
 have k41 := LA.cell 2 _ rfl
 have k42 := LA.cell 3 _ rfl
 have k43 := LB.cell 0 _ rfl
 have k44 := LB.cell 1 _ rfl
 have k45 := LB.cell 2 _ rfl
 have k46 := LB.cell 3 _ rfl
 have k47 := LC.cell 0 _ rfl
 have k48 := LC.cell 1 _ rfl
 have k49 := LC.cell 2 _ rfl
 have k50 := LC.cell 3 _ rfl
 go_wp2
 clear k39 k40 k41 k42 k43 k44 k45 k46 k47 k48 k49 k50
 go_ret2
 exact ⟨rfl, Q⟩
theorem store_cold (za zb zc : Nat → Int) (x y : Int) (g0 : 100 ≤ x) (g1 : x ≤ 20000) (h1 : Ret Tryd.prog 41 #[.agg #[.int .u64 (za 0), .int .u64 (za 1), .int .u64 (za 2), .int .u64 (za 3)], .agg #[.int .u64 (zb 0), .int .u64 (zb 1), .int .u64 (zb 2), .int .u64 (zb 3)], .agg #[.int .u64 (zc 0), .int .u64 (zc 1), .int .u64 (zc 2), .int .u64 (zc 3)]] (.int .i64 x)) (h2 : Ret Tryd.prog 42 #[.agg #[.int .u64 (za 0), .int .u64 (za 1), .int .u64 (za 2), .int .u64 (za 3)], .agg #[.int .u64 (zb 0), .int .u64 (zb 1), .int .u64 (zb 2), .int .u64 (zb 3)], .agg #[.int .u64 (zc 0), .int .u64 (zc 1), .int .u64 (zc 2), .int .u64 (zc 3)]] (.int .i64 y)) :
  Ret Tryd.prog 21 #[.agg #[.int .u64 (za 0), .int .u64 (za 1), .int .u64 (za 2), .int .u64 (za 3)], .agg #[.int .u64 (zb 0), .int .u64 (zb 1), .int .u64 (zb 2), .int .u64 (zb 3)], .agg #[.int .u64 (zc 0), .int .u64 (zc 1), .int .u64 (zc 2), .int .u64 (zc 3)], .bool false] (.tuple #[.int .i64 (x + 2100), .int .i64 y]) := by
 intro w
 have Hh1 := hid h1
 have Hh2 := hid h2
 clear h1 h2
 go_enter Tryd.func21, Tryd.ntmps21
 have LA := Has.new w 24 #[.int .u64 (za 0), .int .u64 (za 1), .int .u64 (za 2), .int .u64 (za 3)]
 have k1 := LA.cell 0 _ rfl
 have k2 := LA.cell 1 _ rfl
 have k3 := LA.cell 2 _ rfl
 have k4 := LA.cell 3 _ rfl
 have LA := LA.alloc (.cells #[.int .u64 (zb 0), .int .u64 (zb 1), .int .u64 (zb 2), .int .u64 (zb 3)] 24)
 have LB := Has.new (w.alloc (.cells #[.int .u64 (za 0), .int .u64 (za 1), .int .u64 (za 2), .int .u64 (za 3)] 24)) 24 #[.int .u64 (zb 0), .int .u64 (zb 1), .int .u64 (zb 2), .int .u64 (zb 3)]
 simp only [World.size_alloc] at LB
 have k5 := LA.cell 0 _ rfl
 have k6 := LA.cell 1 _ rfl
 have k7 := LA.cell 2 _ rfl
 have k8 := LA.cell 3 _ rfl
 have k9 := LB.cell 0 _ rfl
 have k10 := LB.cell 1 _ rfl
 have k11 := LB.cell 2 _ rfl
 have k12 := LB.cell 3 _ rfl
 have LA := LA.alloc (.cells #[.int .u64 (zc 0), .int .u64 (zc 1), .int .u64 (zc 2), .int .u64 (zc 3)] 24)
 have LB := LB.alloc (.cells #[.int .u64 (zc 0), .int .u64 (zc 1), .int .u64 (zc 2), .int .u64 (zc 3)] 24)
 have LC := Has.new ((w.alloc (.cells #[.int .u64 (za 0), .int .u64 (za 1), .int .u64 (za 2), .int .u64 (za 3)] 24)).alloc (.cells #[.int .u64 (zb 0), .int .u64 (zb 1), .int .u64 (zb 2), .int .u64 (zb 3)] 24)) 24 #[.int .u64 (zc 0), .int .u64 (zc 1), .int .u64 (zc 2), .int .u64 (zc 3)]
 simp only [World.size_alloc] at LC
 have k13 := LA.cell 0 _ rfl
 have k14 := LA.cell 1 _ rfl
 have k15 := LA.cell 2 _ rfl
 have k16 := LA.cell 3 _ rfl
 have k17 := LB.cell 0 _ rfl
 have k18 := LB.cell 1 _ rfl
 have k19 := LB.cell 2 _ rfl
 have k20 := LB.cell 3 _ rfl
 have k21 := LC.cell 0 _ rfl
 have k22 := LC.cell 1 _ rfl
 have k23 := LC.cell 2 _ rfl
 have k24 := LC.cell 3 _ rfl
 have Q := (Below.refl w.heap.size w)
 have Q := Q.alloc Q.size (.cells #[.int .u64 (za 0), .int .u64 (za 1), .int .u64 (za 2), .int .u64 (za 3)] 24)
 have Q := Q.alloc Q.size (.cells #[.int .u64 (zb 0), .int .u64 (zb 1), .int .u64 (zb 2), .int .u64 (zb 3)] 24)
 have Q := Q.alloc Q.size (.cells #[.int .u64 (zc 0), .int .u64 (zc 1), .int .u64 (zc 2), .int .u64 (zc 3)] 24)
 go_wp2_with fail
 clear k1 k2 k3 k4 k5 k6 k7 k8 k9 k10 k11 k12 k13 k14 k15 k16 k17 k18 k19 k20 k21 k22 k23 k24
 obtain ⟨W1, hW1⟩ : ∃ W1, (((w.alloc (.cells #[.int .u64 (za 0), .int .u64 (za 1), .int .u64 (za 2), .int .u64 (za 3)] 24)).alloc (.cells #[.int .u64 (zb 0), .int .u64 (zb 1), .int .u64 (zb 2), .int .u64 (zb 3)] 24)).alloc (.cells #[.int .u64 (zc 0), .int .u64 (zc 1), .int .u64 (zc 2), .int .u64 (zc 3)] 24)) = W1 := ⟨_, rfl⟩
 rw [hW1] at LA LB LC Q ⊢
 clear hW1
 refine (Hh1.out _).mono ?_
 rintro e v25 ⟨rfl, q⟩
 have LA := LA.later q
 have LB := LB.later q
 have LC := LC.later q
 have Q := Q.trans (q.mono Q.size)
 clear q
 have k26 := LA.cell 0 _ rfl
 have k27 := LA.cell 1 _ rfl
 have k28 := LA.cell 2 _ rfl
 have k29 := LA.cell 3 _ rfl
 have k30 := LB.cell 0 _ rfl
 have k31 := LB.cell 1 _ rfl
 have k32 := LB.cell 2 _ rfl
 have k33 := LB.cell 3 _ rfl
 have k34 := LC.cell 0 _ rfl
 have k35 := LC.cell 1 _ rfl
 have k36 := LC.cell 2 _ rfl
 have k37 := LC.cell 3 _ rfl
 go_wp2_with fail
 clear k26 k27 k28 k29 k30 k31 k32 k33 k34 k35 k36 k37
 refine (Hh2.out _).mono ?_
 rintro e v38 ⟨rfl, q⟩
 have LA := LA.later q
 have LB := LB.later q
 have LC := LC.later q
 have Q := Q.trans (q.mono Q.size)
 clear q
 have k39 := LA.cell 0 _ rfl
 have k40 := LA.cell 1 _ rfl
 have k41 := LA.cell 2 _ rfl
 have k42 := LA.cell 3 _ rfl
 have k43 := LB.cell 0 _ rfl
 have k44 := LB.cell 1 _ rfl
 have k45 := LB.cell 2 _ rfl
 have k46 := LB.cell 3 _ rfl
 have k47 := LC.cell 0 _ rfl
 have k48 := LC.cell 1 _ rfl
 have k49 := LC.cell 2 _ rfl
 have k50 := LC.cell 3 _ rfl
 go_wp2
 clear k39 k40 k41 k42 k43 k44 k45 k46 k47 k48 k49 k50
 go_ret2
 exact ⟨rfl, Q⟩
theorem store_ret (o c v : Nat) (ho : W256 o) (hc : W256 c) (hv : W256 v) (t : Bool) : Ret Tryd.prog 21 #[wv o, wv c, wv v, .bool t] (storeV o c v t) := by
 have g := writtenN_range o c v
 unfold storeV costN
 cases t with
 | true => exact Ret.of_eq (store_warm _ _ _ _ _ g.1 g.2 (written_ret o c v ho hc hv) (refunded_ret o c v ho hc hv)) rfl (by simp)
 | false => exact store_cold _ _ _ _ _ g.1 g.2 (written_ret o c v ho hc hv) (refunded_ret o c v ho hc hv)
theorem calling_0  (h1 : Ret Tryd.prog 29 #[.bool false, .bool false] (.int .i64 2600)) :
  Ret Tryd.prog 43 #[.bool false, .bool false, .bool false] (.int .i64 2600) := by
 intro w
 have Hh1 := hid h1
 clear h1
 go_enter Tryd.func43, Tryd.ntmps43
 go_wp2_with fail
 refine (Hh1.out _).mono ?_
 rintro e v1 ⟨rfl, q⟩
 have Q := q
 clear q
 go_wp2
 go_ret
 exact ⟨rfl, Q⟩
theorem calling_1  (h1 : Ret Tryd.prog 29 #[.bool false, .bool false] (.int .i64 2600)) :
  Ret Tryd.prog 43 #[.bool false, .bool false, .bool true] (.int .i64 2600) := by
 intro w
 have Hh1 := hid h1
 clear h1
 go_enter Tryd.func43, Tryd.ntmps43
 go_wp2_with fail
 refine (Hh1.out _).mono ?_
 rintro e v1 ⟨rfl, q⟩
 have Q := q
 clear q
 go_wp2
 go_ret
 exact ⟨rfl, Q⟩
theorem calling_2  (h1 : Ret Tryd.prog 29 #[.bool false, .bool false] (.int .i64 2600)) :
  Ret Tryd.prog 43 #[.bool false, .bool true, .bool false] (.int .i64 11600) := by
 intro w
 have Hh1 := hid h1
 clear h1
 go_enter Tryd.func43, Tryd.ntmps43
 go_wp2_with fail
 refine (Hh1.out _).mono ?_
 rintro e v1 ⟨rfl, q⟩
 have Q := q
 clear q
 go_wp2
 go_ret
 exact ⟨rfl, Q⟩
theorem calling_3  (h1 : Ret Tryd.prog 29 #[.bool false, .bool false] (.int .i64 2600)) :
  Ret Tryd.prog 43 #[.bool false, .bool true, .bool true] (.int .i64 36600) := by
 intro w
 have Hh1 := hid h1
 clear h1
 go_enter Tryd.func43, Tryd.ntmps43
 go_wp2_with fail
 refine (Hh1.out _).mono ?_
 rintro e v1 ⟨rfl, q⟩
 have Q := q
 clear q
 go_wp2
 go_ret
 exact ⟨rfl, Q⟩
theorem calling_4  (h1 : Ret Tryd.prog 29 #[.bool false, .bool true] (.int .i64 100)) :
  Ret Tryd.prog 43 #[.bool true, .bool false, .bool false] (.int .i64 100) := by
 intro w
 have Hh1 := hid h1
 clear h1
 go_enter Tryd.func43, Tryd.ntmps43
 go_wp2_with fail
 refine (Hh1.out _).mono ?_
 rintro e v1 ⟨rfl, q⟩
 have Q := q
 clear q
 go_wp2
 go_ret
 exact ⟨rfl, Q⟩
theorem calling_5  (h1 : Ret Tryd.prog 29 #[.bool false, .bool true] (.int .i64 100)) :
  Ret Tryd.prog 43 #[.bool true, .bool false, .bool true] (.int .i64 100) := by
 intro w
 have Hh1 := hid h1
 clear h1
 go_enter Tryd.func43, Tryd.ntmps43
 go_wp2_with fail
 refine (Hh1.out _).mono ?_
 rintro e v1 ⟨rfl, q⟩
 have Q := q
 clear q
 go_wp2
 go_ret
 exact ⟨rfl, Q⟩
theorem calling_6  (h1 : Ret Tryd.prog 29 #[.bool false, .bool true] (.int .i64 100)) :
  Ret Tryd.prog 43 #[.bool true, .bool true, .bool false] (.int .i64 9100) := by
 intro w
 have Hh1 := hid h1
 clear h1
 go_enter Tryd.func43, Tryd.ntmps43
 go_wp2_with fail
 refine (Hh1.out _).mono ?_
 rintro e v1 ⟨rfl, q⟩
 have Q := q
 clear q
 go_wp2
 go_ret
 exact ⟨rfl, Q⟩
theorem calling_7  (h1 : Ret Tryd.prog 29 #[.bool false, .bool true] (.int .i64 100)) :
  Ret Tryd.prog 43 #[.bool true, .bool true, .bool true] (.int .i64 34100) := by
 intro w
 have Hh1 := hid h1
 clear h1
 go_enter Tryd.func43, Tryd.ntmps43
 go_wp2_with fail
 refine (Hh1.out _).mono ?_
 rintro e v1 ⟨rfl, q⟩
 have Q := q
 clear q
 go_wp2
 go_ret
 exact ⟨rfl, Q⟩
theorem calling_ret (a b c : Bool) : Ret Tryd.prog 43 #[.bool a, .bool b, .bool c] (.int .i64 (callingN a b c)) := by
 cases a <;> cases b <;> cases c
 ·exact calling_0 (touch_ret false false)
 ·exact calling_1 (touch_ret false false)
 ·exact calling_2 (touch_ret false false)
 ·exact calling_3 (touch_ret false false)
 ·exact calling_4 (touch_ret false true)
 ·exact calling_5 (touch_ret false true)
 ·exact calling_6 (touch_ret false true)
 ·exact calling_7 (touch_ret false true)
theorem back_pos (u r q m : Int) (g0 : 0 ≤ u) (e : wrap64 (u.tdiv 5) = q) (h1 : Ret Tryd.prog 39 #[.int .i64 r, .int .i64 0, .int .i64 q, .func (.func 40) #[] #[]] (.int .i64 m)) :
  Ret Tryd.prog 19 #[.int .i64 u, .int .i64 r] (.int .i64 m) := by
 intro w
 have Hh1 := hid h1
 clear h1
 go_enter Tryd.func19, Tryd.ntmps19
 go_wp2_with fail
 refine (Hh1.out _).mono ?_
 rintro e v1 ⟨rfl, q⟩
 have Q := q
 clear q
 go_wp2
 go_ret
 exact ⟨rfl, Q⟩
theorem back_neg (u r m : Int) (g0 : ¬ 0 ≤ u) (h1 : Ret Tryd.prog 39 #[.int .i64 r, .int .i64 0, .int .i64 0, .func (.func 40) #[] #[]] (.int .i64 m)) :
  Ret Tryd.prog 19 #[.int .i64 u, .int .i64 r] (.int .i64 m) := by
 intro w
 have Hh1 := hid h1
 clear h1
 go_enter Tryd.func19, Tryd.ntmps19
 go_wp2_with fail
 refine (Hh1.out _).mono ?_
 rintro e v1 ⟨rfl, q⟩
 have Q := q
 clear q
 go_wp2
 go_ret
 exact ⟨rfl, Q⟩
theorem back_ret (u r : Int) (hu : I64 u) : Ret Tryd.prog 19 #[.int .i64 u, .int .i64 r] (.int .i64 (backN u r)) := by
 unfold backN
 by_cases h : 0 ≤ u
 ·rw [if_neg (show ¬ u < 0 by omega)]
  unfold I64 at hu
  exact back_pos u r _ _ h (by rw [Int.tdiv_eq_ediv_of_nonneg h]; unfold wrap64; omega) (limI_ret r 0 (u / 5))
 ·rw [if_pos (show u < 0 by omega)]
  exact back_neg u r _ h (limI_ret r 0 0)
theorem limW_hi (za zm : Nat → Int) (c0 c1 : Int) (hc0 : ¬ c0 < 0) (hc1 : 0 < c1) (h1 : Ret Tryd.prog 65 #[.agg #[.int .u64 (za 0), .int .u64 (za 1), .int .u64 (za 2), .int .u64 (za 3)], .agg #[.int .u64 0, .int .u64 0, .int .u64 0, .int .u64 0]] (.int .i64 c0)) (h2 : Ret Tryd.prog 65 #[.agg #[.int .u64 (za 0), .int .u64 (za 1), .int .u64 (za 2), .int .u64 (za 3)], .agg #[.int .u64 (zm 0), .int .u64 (zm 1), .int .u64 (zm 2), .int .u64 (zm 3)]] (.int .i64 c1)) :
  Ret Tryd.prog 63 #[.agg #[.int .u64 (za 0), .int .u64 (za 1), .int .u64 (za 2), .int .u64 (za 3)], .agg #[.int .u64 0, .int .u64 0, .int .u64 0, .int .u64 0], .agg #[.int .u64 (zm 0), .int .u64 (zm 1), .int .u64 (zm 2), .int .u64 (zm 3)], .func (.func 65) #[] #[]] (.agg #[.int .u64 (zm 0), .int .u64 (zm 1), .int .u64 (zm 2), .int .u64 (zm 3)]) := by
 intro w
 have Hh1 := hid h1
 have Hh2 := hid h2
 clear h1 h2
 go_enter Tryd.func63, Tryd.ntmps63
 have LA := Has.new w 24 #[.int .u64 (za 0), .int .u64 (za 1), .int .u64 (za 2), .int .u64 (za 3)]
 have k1 := LA.cell 0 _ rfl
 have k2 := LA.cell 1 _ rfl
 have k3 := LA.cell 2 _ rfl
 have k4 := LA.cell 3 _ rfl
 have LA := LA.alloc (.cells #[.int .u64 0, .int .u64 0, .int .u64 0, .int .u64 0] 24)
 have LL := Has.new (w.alloc (.cells #[.int .u64 (za 0), .int .u64 (za 1), .int .u64 (za 2), .int .u64 (za 3)] 24)) 24 #[.int .u64 0, .int .u64 0, .int .u64 0, .int .u64 0]
 simp only [World.size_alloc] at LL
 have k5 := LA.cell 0 _ rfl
 have k6 := LA.cell 1 _ rfl
 have k7 := LA.cell 2 _ rfl
 have k8 := LA.cell 3 _ rfl
 have k9 := LL.cell 0 _ rfl
 have k10 := LL.cell 1 _ rfl
 have k11 := LL.cell 2 _ rfl
 have k12 := LL.cell 3 _ rfl
 have LA := LA.alloc (.cells #[.int .u64 (zm 0), .int .u64 (zm 1), .int .u64 (zm 2), .int .u64 (zm 3)] 24)
 have LL := LL.alloc (.cells #[.int .u64 (zm 0), .int .u64 (zm 1), .int .u64 (zm 2), .int .u64 (zm 3)] 24)
 have LM := Has.new ((w.alloc (.cells #[.int .u64 (za 0), .int .u64 (za 1), .int .u64 (za 2), .int .u64 (za 3)] 24)).alloc (.cells #[.int .u64 0, .int .u64 0, .int .u64 0, .int .u64 0] 24)) 24 #[.int .u64 (zm 0), .int .u64 (zm 1), .int .u64 (zm 2), .int .u64 (zm 3)]
 simp only [World.size_alloc] at LM
 have k13 := LA.cell 0 _ rfl
 have k14 := LA.cell 1 _ rfl
 have k15 := LA.cell 2 _ rfl
 have k16 := LA.cell 3 _ rfl
 have k17 := LL.cell 0 _ rfl
 have k18 := LL.cell 1 _ rfl
 have k19 := LL.cell 2 _ rfl
 have k20 := LL.cell 3 _ rfl
 have k21 := LM.cell 0 _ rfl
 have k22 := LM.cell 1 _ rfl
 have k23 := LM.cell 2 _ rfl
 have k24 := LM.cell 3 _ rfl
 have LA := LA.alloc (.cells #[.int .u64 0, .int .u64 0, .int .u64 0, .int .u64 0] 24)
 have LL := LL.alloc (.cells #[.int .u64 0, .int .u64 0, .int .u64 0, .int .u64 0] 24)
 have LM := LM.alloc (.cells #[.int .u64 0, .int .u64 0, .int .u64 0, .int .u64 0] 24)
 have LR := Has.new (((w.alloc (.cells #[.int .u64 (za 0), .int .u64 (za 1), .int .u64 (za 2), .int .u64 (za 3)] 24)).alloc (.cells #[.int .u64 0, .int .u64 0, .int .u64 0, .int .u64 0] 24)).alloc (.cells #[.int .u64 (zm 0), .int .u64 (zm 1), .int .u64 (zm 2), .int .u64 (zm 3)] 24)) 24 #[.int .u64 0, .int .u64 0, .int .u64 0, .int .u64 0]
 simp only [World.size_alloc] at LR
 have k25 := LA.cell 0 _ rfl
 have k26 := LA.cell 1 _ rfl
 have k27 := LA.cell 2 _ rfl
 have k28 := LA.cell 3 _ rfl
 have k29 := LL.cell 0 _ rfl
 have k30 := LL.cell 1 _ rfl
 have k31 := LL.cell 2 _ rfl
 have k32 := LL.cell 3 _ rfl
 have k33 := LM.cell 0 _ rfl
 have k34 := LM.cell 1 _ rfl
 have k35 := LM.cell 2 _ rfl
 have k36 := LM.cell 3 _ rfl
 have k37 := LR.cell 0 _ rfl
 have k38 := LR.cell 1 _ rfl
 have k39 := LR.cell 2 _ rfl
 have k40 := LR.cell 3 _ rfl
 have Q := (Below.refl w.heap.size w)
 have Q := Q.alloc Q.size (.cells #[.int .u64 (za 0), .int .u64 (za 1), .int .u64 (za 2), .int .u64 (za 3)] 24)
 have Q := Q.alloc Q.size (.cells #[.int .u64 0, .int .u64 0, .int .u64 0, .int .u64 0] 24)
 have Q := Q.alloc Q.size (.cells #[.int .u64 (zm 0), .int .u64 (zm 1), .int .u64 (zm 2), .int .u64 (zm 3)] 24)
 have Q := Q.alloc Q.size (.cells #[.int .u64 0, .int .u64 0, .int .u64 0, .int .u64 0] 24)
 go_wp2_with fail
 clear k1 k2 k3 k4 k5 k6 k7 k8 k9 k10 k11 k12 k13 k14 k15 k16 k17 k18 k19 k20 k21 k22 k23 k24 k25 k26 k27 k28 k29 k30 k31 k32 k33 k34 k35 k36 k37 k38 k39 k40
 obtain ⟨W1, hW1⟩ : ∃ W1, ((((w.alloc (.cells #[.int .u64 (za 0), .int .u64 (za 1), .int .u64 (za 2), .int .u64 (za 3)] 24)).alloc (.cells #[.int .u64 0, .int .u64 0, .int .u64 0, .int .u64 0] 24)).alloc (.cells #[.int .u64 (zm 0), .int .u64 (zm 1), .int .u64 (zm 2), .int .u64 (zm 3)] 24)).alloc (.cells #[.int .u64 0, .int .u64 0, .int .u64 0, .int .u64 0] 24)) = W1 := ⟨_, rfl⟩
 rw [hW1] at LA LL LM LR Q ⊢
 clear hW1
 refine (Hh1.out _).mono ?_
 rintro e v41 ⟨rfl, q⟩
 have LA := LA.later q
 have LL := LL.later q
 have LM := LM.later q
 have LR := LR.later q
 have Q := Q.trans (q.mono Q.size)
 clear q
 have k42 := LA.cell 0 _ rfl
 have k43 := LA.cell 1 _ rfl
 have k44 := LA.cell 2 _ rfl
 have k45 := LA.cell 3 _ rfl
 have k46 := LL.cell 0 _ rfl
 have k47 := LL.cell 1 _ rfl
 have k48 := LL.cell 2 _ rfl
 have k49 := LL.cell 3 _ rfl
 have k50 := LM.cell 0 _ rfl
 have k51 := LM.cell 1 _ rfl
 have k52 := LM.cell 2 _ rfl
 have k53 := LM.cell 3 _ rfl
 have k54 := LR.cell 0 _ rfl
 have k55 := LR.cell 1 _ rfl
 have k56 := LR.cell 2 _ rfl
 have k57 := LR.cell 3 _ rfl
 go_wp2_with fail
 clear k42 k43 k44 k45 k46 k47 k48 k49 k50 k51 k52 k53 k54 k55 k56 k57
 refine (Hh2.out _).mono ?_
 rintro e v58 ⟨rfl, q⟩
 have LA := LA.later q
 have LL := LL.later q
 have LM := LM.later q
 have LR := LR.later q
 have Q := Q.trans (q.mono Q.size)
 clear q
 have k59 := LA.cell 0 _ rfl
 have k60 := LA.cell 1 _ rfl
 have k61 := LA.cell 2 _ rfl
 have k62 := LA.cell 3 _ rfl
 have k63 := LL.cell 0 _ rfl
 have k64 := LL.cell 1 _ rfl
 have k65 := LL.cell 2 _ rfl
 have k66 := LL.cell 3 _ rfl
 have k67 := LM.cell 0 _ rfl
 have k68 := LM.cell 1 _ rfl
 have k69 := LM.cell 2 _ rfl
 have k70 := LM.cell 3 _ rfl
 have k71 := LR.cell 0 _ rfl
 have k72 := LR.cell 1 _ rfl
 have k73 := LR.cell 2 _ rfl
 have k74 := LR.cell 3 _ rfl
 have z0 := LR.frozen 0
 have z1 := LR.frozen 1
 have z2 := LR.frozen 2
 have z3 := LR.frozen 3
 have HR := hid (((((LR.set 0 (.int .u64 (zm 0))).set 1 (.int .u64 (zm 1))).set 2 (.int .u64 (zm 2))).set 3 (.int .u64 (zm 3))))
 have HQ := hid (((((Q.setCell (p := ⟨w.heap.size + 1 + 1 + 1, 0, none⟩) (show w.heap.size ≤ _ by simp; first | done | omega) (.int .u64 (zm 0))).setCell (p := ⟨w.heap.size + 1 + 1 + 1, 1, none⟩) (show w.heap.size ≤ _ by simp; first | done | omega) (.int .u64 (zm 1))).setCell (p := ⟨w.heap.size + 1 + 1 + 1, 2, none⟩) (show w.heap.size ≤ _ by simp; first | done | omega) (.int .u64 (zm 2))).setCell (p := ⟨w.heap.size + 1 + 1 + 1, 3, none⟩) (show w.heap.size ≤ _ by simp; first | done | omega) (.int .u64 (zm 3))))
 clear Q LA LL LM LR
 go_wp2
 refine bodyPost_ret (results_word (m := zm) rfl rfl HR.out) rfl ⟨rfl, HQ.out⟩
theorem limW_in (za zm : Nat → Int) (c0 c1 : Int) (hc0 : ¬ c0 < 0) (hc1 : ¬ 0 < c1) (h1 : Ret Tryd.prog 65 #[.agg #[.int .u64 (za 0), .int .u64 (za 1), .int .u64 (za 2), .int .u64 (za 3)], .agg #[.int .u64 0, .int .u64 0, .int .u64 0, .int .u64 0]] (.int .i64 c0)) (h2 : Ret Tryd.prog 65 #[.agg #[.int .u64 (za 0), .int .u64 (za 1), .int .u64 (za 2), .int .u64 (za 3)], .agg #[.int .u64 (zm 0), .int .u64 (zm 1), .int .u64 (zm 2), .int .u64 (zm 3)]] (.int .i64 c1)) :
  Ret Tryd.prog 63 #[.agg #[.int .u64 (za 0), .int .u64 (za 1), .int .u64 (za 2), .int .u64 (za 3)], .agg #[.int .u64 0, .int .u64 0, .int .u64 0, .int .u64 0], .agg #[.int .u64 (zm 0), .int .u64 (zm 1), .int .u64 (zm 2), .int .u64 (zm 3)], .func (.func 65) #[] #[]] (.agg #[.int .u64 (za 0), .int .u64 (za 1), .int .u64 (za 2), .int .u64 (za 3)]) := by
 intro w
 have Hh1 := hid h1
 have Hh2 := hid h2
 clear h1 h2
 go_enter Tryd.func63, Tryd.ntmps63
 have LA := Has.new w 24 #[.int .u64 (za 0), .int .u64 (za 1), .int .u64 (za 2), .int .u64 (za 3)]
 have k1 := LA.cell 0 _ rfl
 have k2 := LA.cell 1 _ rfl
 have k3 := LA.cell 2 _ rfl
 have k4 := LA.cell 3 _ rfl
 have LA := LA.alloc (.cells #[.int .u64 0, .int .u64 0, .int .u64 0, .int .u64 0] 24)
 have LL := Has.new (w.alloc (.cells #[.int .u64 (za 0), .int .u64 (za 1), .int .u64 (za 2), .int .u64 (za 3)] 24)) 24 #[.int .u64 0, .int .u64 0, .int .u64 0, .int .u64 0]
 simp only [World.size_alloc] at LL
 have k5 := LA.cell 0 _ rfl
 have k6 := LA.cell 1 _ rfl
 have k7 := LA.cell 2 _ rfl
 have k8 := LA.cell 3 _ rfl
 have k9 := LL.cell 0 _ rfl
 have k10 := LL.cell 1 _ rfl
 have k11 := LL.cell 2 _ rfl
 have k12 := LL.cell 3 _ rfl
 have LA := LA.alloc (.cells #[.int .u64 (zm 0), .int .u64 (zm 1), .int .u64 (zm 2), .int .u64 (zm 3)] 24)
 have LL := LL.alloc (.cells #[.int .u64 (zm 0), .int .u64 (zm 1), .int .u64 (zm 2), .int .u64 (zm 3)] 24)
 have LM := Has.new ((w.alloc (.cells #[.int .u64 (za 0), .int .u64 (za 1), .int .u64 (za 2), .int .u64 (za 3)] 24)).alloc (.cells #[.int .u64 0, .int .u64 0, .int .u64 0, .int .u64 0] 24)) 24 #[.int .u64 (zm 0), .int .u64 (zm 1), .int .u64 (zm 2), .int .u64 (zm 3)]
 simp only [World.size_alloc] at LM
 have k13 := LA.cell 0 _ rfl
 have k14 := LA.cell 1 _ rfl
 have k15 := LA.cell 2 _ rfl
 have k16 := LA.cell 3 _ rfl
 have k17 := LL.cell 0 _ rfl
 have k18 := LL.cell 1 _ rfl
 have k19 := LL.cell 2 _ rfl
 have k20 := LL.cell 3 _ rfl
 have k21 := LM.cell 0 _ rfl
 have k22 := LM.cell 1 _ rfl
 have k23 := LM.cell 2 _ rfl
 have k24 := LM.cell 3 _ rfl
 have LA := LA.alloc (.cells #[.int .u64 0, .int .u64 0, .int .u64 0, .int .u64 0] 24)
 have LL := LL.alloc (.cells #[.int .u64 0, .int .u64 0, .int .u64 0, .int .u64 0] 24)
 have LM := LM.alloc (.cells #[.int .u64 0, .int .u64 0, .int .u64 0, .int .u64 0] 24)
 have LR := Has.new (((w.alloc (.cells #[.int .u64 (za 0), .int .u64 (za 1), .int .u64 (za 2), .int .u64 (za 3)] 24)).alloc (.cells #[.int .u64 0, .int .u64 0, .int .u64 0, .int .u64 0] 24)).alloc (.cells #[.int .u64 (zm 0), .int .u64 (zm 1), .int .u64 (zm 2), .int .u64 (zm 3)] 24)) 24 #[.int .u64 0, .int .u64 0, .int .u64 0, .int .u64 0]
 simp only [World.size_alloc] at LR
 have k25 := LA.cell 0 _ rfl
 have k26 := LA.cell 1 _ rfl
 have k27 := LA.cell 2 _ rfl
 have k28 := LA.cell 3 _ rfl
 have k29 := LL.cell 0 _ rfl
 have k30 := LL.cell 1 _ rfl
 have k31 := LL.cell 2 _ rfl
 have k32 := LL.cell 3 _ rfl
 have k33 := LM.cell 0 _ rfl
 have k34 := LM.cell 1 _ rfl
 have k35 := LM.cell 2 _ rfl
 have k36 := LM.cell 3 _ rfl
 have k37 := LR.cell 0 _ rfl
 have k38 := LR.cell 1 _ rfl
 have k39 := LR.cell 2 _ rfl
 have k40 := LR.cell 3 _ rfl
 have Q := (Below.refl w.heap.size w)
 have Q := Q.alloc Q.size (.cells #[.int .u64 (za 0), .int .u64 (za 1), .int .u64 (za 2), .int .u64 (za 3)] 24)
 have Q := Q.alloc Q.size (.cells #[.int .u64 0, .int .u64 0, .int .u64 0, .int .u64 0] 24)
 have Q := Q.alloc Q.size (.cells #[.int .u64 (zm 0), .int .u64 (zm 1), .int .u64 (zm 2), .int .u64 (zm 3)] 24)
 have Q := Q.alloc Q.size (.cells #[.int .u64 0, .int .u64 0, .int .u64 0, .int .u64 0] 24)
 go_wp2_with fail
 clear k1 k2 k3 k4 k5 k6 k7 k8 k9 k10 k11 k12 k13 k14 k15 k16 k17 k18 k19 k20 k21 k22 k23 k24 k25 k26 k27 k28 k29 k30 k31 k32 k33 k34 k35 k36 k37 k38 k39 k40
 obtain ⟨W1, hW1⟩ : ∃ W1, ((((w.alloc (.cells #[.int .u64 (za 0), .int .u64 (za 1), .int .u64 (za 2), .int .u64 (za 3)] 24)).alloc (.cells #[.int .u64 0, .int .u64 0, .int .u64 0, .int .u64 0] 24)).alloc (.cells #[.int .u64 (zm 0), .int .u64 (zm 1), .int .u64 (zm 2), .int .u64 (zm 3)] 24)).alloc (.cells #[.int .u64 0, .int .u64 0, .int .u64 0, .int .u64 0] 24)) = W1 := ⟨_, rfl⟩
 rw [hW1] at LA LL LM LR Q ⊢
 clear hW1
 refine (Hh1.out _).mono ?_
 rintro e v41 ⟨rfl, q⟩
 have LA := LA.later q
 have LL := LL.later q
 have LM := LM.later q
 have LR := LR.later q
 have Q := Q.trans (q.mono Q.size)
 clear q
 have k42 := LA.cell 0 _ rfl
 have k43 := LA.cell 1 _ rfl
 have k44 := LA.cell 2 _ rfl
 have k45 := LA.cell 3 _ rfl
 have k46 := LL.cell 0 _ rfl
 have k47 := LL.cell 1 _ rfl
 have k48 := LL.cell 2 _ rfl
 have k49 := LL.cell 3 _ rfl
 have k50 := LM.cell 0 _ rfl
 have k51 := LM.cell 1 _ rfl
 have k52 := LM.cell 2 _ rfl
 have k53 := LM.cell 3 _ rfl
 have k54 := LR.cell 0 _ rfl
 have k55 := LR.cell 1 _ rfl
 have k56 := LR.cell 2 _ rfl
 have k57 := LR.cell 3 _ rfl
 go_wp2_with fail
 clear k42 k43 k44 k45 k46 k47 k48 k49 k50 k51 k52 k53 k54 k55 k56 k57
 refine (Hh2.out _).mono ?_
 rintro e v58 ⟨rfl, q⟩
 have LA := LA.later q
 have LL := LL.later q
 have LM := LM.later q
 have LR := LR.later q
 have Q := Q.trans (q.mono Q.size)
 clear q
 have k59 := LA.cell 0 _ rfl
 have k60 := LA.cell 1 _ rfl
 have k61 := LA.cell 2 _ rfl
 have k62 := LA.cell 3 _ rfl
 have k63 := LL.cell 0 _ rfl
 have k64 := LL.cell 1 _ rfl
 have k65 := LL.cell 2 _ rfl
 have k66 := LL.cell 3 _ rfl
 have k67 := LM.cell 0 _ rfl
 have k68 := LM.cell 1 _ rfl
 have k69 := LM.cell 2 _ rfl
 have k70 := LM.cell 3 _ rfl
 have k71 := LR.cell 0 _ rfl
 have k72 := LR.cell 1 _ rfl
 have k73 := LR.cell 2 _ rfl
 have k74 := LR.cell 3 _ rfl
 have z0 := LR.frozen 0
 have z1 := LR.frozen 1
 have z2 := LR.frozen 2
 have z3 := LR.frozen 3
 have HR := hid (((((LR.set 0 (.int .u64 (za 0))).set 1 (.int .u64 (za 1))).set 2 (.int .u64 (za 2))).set 3 (.int .u64 (za 3))))
 have HQ := hid (((((Q.setCell (p := ⟨w.heap.size + 1 + 1 + 1, 0, none⟩) (show w.heap.size ≤ _ by simp; first | done | omega) (.int .u64 (za 0))).setCell (p := ⟨w.heap.size + 1 + 1 + 1, 1, none⟩) (show w.heap.size ≤ _ by simp; first | done | omega) (.int .u64 (za 1))).setCell (p := ⟨w.heap.size + 1 + 1 + 1, 2, none⟩) (show w.heap.size ≤ _ by simp; first | done | omega) (.int .u64 (za 2))).setCell (p := ⟨w.heap.size + 1 + 1 + 1, 3, none⟩) (show w.heap.size ≤ _ by simp; first | done | omega) (.int .u64 (za 3))))
 clear Q LA LL LM LR
 go_wp2
 refine bodyPost_ret (results_word (m := za) rfl rfl HR.out) rfl ⟨rfl, HQ.out⟩
theorem limW_ret (a m : Nat) (ha : W256 a) (hm : W256 m) : Ret Tryd.prog 63 #[wv a, .agg #[.int .u64 0, .int .u64 0, .int .u64 0, .int .u64 0], wv m, .func (.func 65) #[] #[]] (wv (min a m)) := by
 have C0 := cmp_ret a 0 ha (by unfold W256; decide)
 have C1 := cmp_ret a m ha hm
 have h0 : ¬ wcmp a 0 < 0 := by unfold wcmp; rw [if_neg (by omega)]; split <;> decide
 by_cases h : a ≤ m
 ·rw [Nat.min_eq_left h]
  exact limW_in _ _ _ _ h0 (by unfold wcmp; split <;> (try split) <;> (first | decide | omega)) C0 C1
 ·rw [Nat.min_eq_right (by omega)]
  exact limW_hi _ _ _ _ h0 (by unfold wcmp; rw [if_neg (by omega), if_pos (by omega)]; decide) C0 C1
theorem numberG_walk (za zm zl : Nat → Int) (m n : Int) (b : Bool) (h1 : Ret Tryd.prog 64 #[.int .i64 m] (.agg #[.int .u64 (zm 0), .int .u64 (zm 1), .int .u64 (zm 2), .int .u64 (zm 3)])) (h2 : Ret Tryd.prog 63 #[.agg #[.int .u64 (za 0), .int .u64 (za 1), .int .u64 (za 2), .int .u64 (za 3)], .agg #[.int .u64 0, .int .u64 0, .int .u64 0, .int .u64 0], .agg #[.int .u64 (zm 0), .int .u64 (zm 1), .int .u64 (zm 2), .int .u64 (zm 3)], .func (.func 65) #[] #[]] (.agg #[.int .u64 (zl 0), .int .u64 (zl 1), .int .u64 (zl 2), .int .u64 (zl 3)])) (h3 : Ret Tryd.prog 62 #[.agg #[.int .u64 (zl 0), .int .u64 (zl 1), .int .u64 (zl 2), .int .u64 (zl 3)]] (.tuple #[.int .i64 n, .bool b])) :
  Ret Tryd.prog 44 #[.agg #[.int .u64 (za 0), .int .u64 (za 1), .int .u64 (za 2), .int .u64 (za 3)], .int .i64 m] (.int .i64 n) := by
 intro w
 have Hh1 := hid h1
 have Hh2 := hid h2
 have Hh3 := hid h3
 clear h1 h2 h3
 go_enter Tryd.func44, Tryd.ntmps44
 have LA := Has.new w 24 #[.int .u64 (za 0), .int .u64 (za 1), .int .u64 (za 2), .int .u64 (za 3)]
 have k1 := LA.cell 0 _ rfl
 have k2 := LA.cell 1 _ rfl
 have k3 := LA.cell 2 _ rfl
 have k4 := LA.cell 3 _ rfl
 have Q := (Below.refl w.heap.size w)
 have Q := Q.alloc Q.size (.cells #[.int .u64 (za 0), .int .u64 (za 1), .int .u64 (za 2), .int .u64 (za 3)] 24)
 go_wp2_with fail
 clear k1 k2 k3 k4
 obtain ⟨W1, hW1⟩ : ∃ W1, (w.alloc (.cells #[.int .u64 (za 0), .int .u64 (za 1), .int .u64 (za 2), .int .u64 (za 3)] 24)) = W1 := ⟨_, rfl⟩
 rw [hW1] at LA Q ⊢
 clear hW1
 have k5 : ∀ x : Ext W1, x.w.cell? ⟨w.heap.size, 0, none⟩ = some (.int .u64 (za 0)) := fun x => (LA.later x.below).cell 0 _ rfl
 have k6 : ∀ x : Ext W1, x.w.cell? ⟨w.heap.size, 1, none⟩ = some (.int .u64 (za 1)) := fun x => (LA.later x.below).cell 1 _ rfl
 have k7 : ∀ x : Ext W1, x.w.cell? ⟨w.heap.size, 2, none⟩ = some (.int .u64 (za 2)) := fun x => (LA.later x.below).cell 2 _ rfl
 have k8 : ∀ x : Ext W1, x.w.cell? ⟨w.heap.size, 3, none⟩ = some (.int .u64 (za 3)) := fun x => (LA.later x.below).cell 3 _ rfl
 clear LA
 have HQ := hid Q
 clear Q
 try simp only [List.append]
 refine wp_region_quick (C := Grows W1) (by kernel_rfl) (by kernel_rfl) (by kernel_rfl) (grows_refl W1) ?_
 repeat (go_big_quiet_step (first | (with_reducible exact Ret.at Hh1.out _) | (with_reducible exact Ret.at Hh2.out _) | (with_reducible exact Ret.at Hh3.out _)))
 refine wpQuiet_nil ?_
 rintro _ ⟨x, rfl⟩
 go_wp2
 go_ret
 exact ⟨rfl, HQ.out.trans (x.below.mono HQ.out.size)⟩
theorem number_retG (a m : Nat) (ha : W256 a) (hm : m ≤ 140737488355328000) : Ret Tryd.prog 44 #[wv a, .int .i64 (m : Int)] (.int .i64 ((min a m : Nat) : Int)) := by
 have h1 := of_ret (m : Int) (by unfold I64; omega)
 rw [ofN_nat m] at h1
 have hmw : W256 m := by unfold W256; omega
 have h2 := limW_ret a m ha hmw
 have hl : W256 (min a m) := by unfold W256 at *; omega
 have h3 := int_ret (min a m) hl
 have hle : min a m ≤ maxI := by unfold maxI; omega
 unfold intV at h3
 rw [if_pos hle] at h3
 exact numberG_walk _ _ _ _ _ _ h1 h2 h3
theorem call_less (za : Nat → Int) (l p : Int) (a b c : Bool) (g : l < p) (h1 : Ret Tryd.prog 43 #[.bool a, .bool b, .bool c] (.int .i64 p)) :
  Ret Tryd.prog 24 #[.int .i64 l, .agg #[.int .u64 (za 0), .int .u64 (za 1), .int .u64 (za 2), .int .u64 (za 3)], .bool a, .bool b, .bool c] (.tuple #[.int .i64 0, .int .i64 0, .bool false]) := by
 intro w
 have Hh1 := hid h1
 clear h1
 go_enter Tryd.func24, Tryd.ntmps24
 have LA := Has.new w 24 #[.int .u64 (za 0), .int .u64 (za 1), .int .u64 (za 2), .int .u64 (za 3)]
 have k1 := LA.cell 0 _ rfl
 have k2 := LA.cell 1 _ rfl
 have k3 := LA.cell 2 _ rfl
 have k4 := LA.cell 3 _ rfl
 have Q := (Below.refl w.heap.size w)
 have Q := Q.alloc Q.size (.cells #[.int .u64 (za 0), .int .u64 (za 1), .int .u64 (za 2), .int .u64 (za 3)] 24)
 go_wp2_with fail
 clear k1 k2 k3 k4
 obtain ⟨W1, hW1⟩ : ∃ W1, (w.alloc (.cells #[.int .u64 (za 0), .int .u64 (za 1), .int .u64 (za 2), .int .u64 (za 3)] 24)) = W1 := ⟨_, rfl⟩
 rw [hW1] at LA Q ⊢
 clear hW1
 refine (Hh1.out _).mono ?_
 rintro e v5 ⟨rfl, q⟩
 have LA := LA.later q
 have Q := Q.trans (q.mono Q.size)
 clear q
 have k6 := LA.cell 0 _ rfl
 have k7 := LA.cell 1 _ rfl
 have k8 := LA.cell 2 _ rfl
 have k9 := LA.cell 3 _ rfl
 go_wp2
 clear k6 k7 k8 k9
 go_ret3
 exact ⟨rfl, Q⟩
theorem call_great (za : Nat → Int) (l p : Int) (a b c : Bool) (g : ¬ l < p) (g2 : 9007199254740992 < l) (h1 : Ret Tryd.prog 43 #[.bool a, .bool b, .bool c] (.int .i64 p)) :
  Ret Tryd.prog 24 #[.int .i64 l, .agg #[.int .u64 (za 0), .int .u64 (za 1), .int .u64 (za 2), .int .u64 (za 3)], .bool a, .bool b, .bool c] (.tuple #[.int .i64 0, .int .i64 0, .bool false]) := by
 intro w
 have Hh1 := hid h1
 clear h1
 go_enter Tryd.func24, Tryd.ntmps24
 have LA := Has.new w 24 #[.int .u64 (za 0), .int .u64 (za 1), .int .u64 (za 2), .int .u64 (za 3)]
 have k1 := LA.cell 0 _ rfl
 have k2 := LA.cell 1 _ rfl
 have k3 := LA.cell 2 _ rfl
 have k4 := LA.cell 3 _ rfl
 have Q := (Below.refl w.heap.size w)
 have Q := Q.alloc Q.size (.cells #[.int .u64 (za 0), .int .u64 (za 1), .int .u64 (za 2), .int .u64 (za 3)] 24)
 go_wp2_with fail
 clear k1 k2 k3 k4
 obtain ⟨W1, hW1⟩ : ∃ W1, (w.alloc (.cells #[.int .u64 (za 0), .int .u64 (za 1), .int .u64 (za 2), .int .u64 (za 3)] 24)) = W1 := ⟨_, rfl⟩
 rw [hW1] at LA Q ⊢
 clear hW1
 refine (Hh1.out _).mono ?_
 rintro e v5 ⟨rfl, q⟩
 have LA := LA.later q
 have Q := Q.trans (q.mono Q.size)
 clear q
 have k6 := LA.cell 0 _ rfl
 have k7 := LA.cell 1 _ rfl
 have k8 := LA.cell 2 _ rfl
 have k9 := LA.cell 3 _ rfl
 go_wp2
 clear k6 k7 k8 k9
 go_ret3
 exact ⟨rfl, Q⟩
theorem call_false (za : Nat → Int) (l p n : Int) (a c : Bool) (g : ¬ l < p) (g2 : ¬ 9007199254740992 < l) (g3 : 0 ≤ p) (g4 : p ≤ 40000) (n0 : 0 ≤ n) (n1 : n ≤ 9007199254740992) (h1 : Ret Tryd.prog 43 #[.bool a, .bool false, .bool c] (.int .i64 p)) (h2 : Ret Tryd.prog 44 #[.agg #[.int .u64 (za 0), .int .u64 (za 1), .int .u64 (za 2), .int .u64 (za 3)], .int .i64 (l - p - (l - p) / 64)] (.int .i64 n)) :
  Ret Tryd.prog 24 #[.int .i64 l, .agg #[.int .u64 (za 0), .int .u64 (za 1), .int .u64 (za 2), .int .u64 (za 3)], .bool a, .bool false, .bool c] (.tuple #[.int .i64 (p + n), .int .i64 n, .bool true]) := by
 intro w
 have Hh1 := hid h1
 have Hh2 := hid h2
 clear h1 h2
 go_enter Tryd.func24, Tryd.ntmps24
 have LA := Has.new w 24 #[.int .u64 (za 0), .int .u64 (za 1), .int .u64 (za 2), .int .u64 (za 3)]
 have k1 := LA.cell 0 _ rfl
 have k2 := LA.cell 1 _ rfl
 have k3 := LA.cell 2 _ rfl
 have k4 := LA.cell 3 _ rfl
 have Q := (Below.refl w.heap.size w)
 have Q := Q.alloc Q.size (.cells #[.int .u64 (za 0), .int .u64 (za 1), .int .u64 (za 2), .int .u64 (za 3)] 24)
 go_wp2_with fail
 clear k1 k2 k3 k4
 obtain ⟨W1, hW1⟩ : ∃ W1, (w.alloc (.cells #[.int .u64 (za 0), .int .u64 (za 1), .int .u64 (za 2), .int .u64 (za 3)] 24)) = W1 := ⟨_, rfl⟩
 rw [hW1] at LA Q ⊢
 clear hW1
 refine (Hh1.out _).mono ?_
 rintro e v5 ⟨rfl, q⟩
 have LA := LA.later q
 have Q := Q.trans (q.mono Q.size)
 clear q
 have k6 := LA.cell 0 _ rfl
 have k7 := LA.cell 1 _ rfl
 have k8 := LA.cell 2 _ rfl
 have k9 := LA.cell 3 _ rfl
 go_wp2_with fail
 clear k6 k7 k8 k9
 refine (Hh2.out _).mono ?_
 rintro e v10 ⟨rfl, q⟩
 have LA := LA.later q
 have Q := Q.trans (q.mono Q.size)
 clear q
 have k11 := LA.cell 0 _ rfl
 have k12 := LA.cell 1 _ rfl
 have k13 := LA.cell 2 _ rfl
 have k14 := LA.cell 3 _ rfl
 go_wp2
 clear k11 k12 k13 k14
 go_ret3
 exact ⟨rfl, Q⟩
theorem call_true (za : Nat → Int) (l p n : Int) (a c : Bool) (g : ¬ l < p) (g2 : ¬ 9007199254740992 < l) (g3 : 0 ≤ p) (g4 : p ≤ 40000) (n0 : 0 ≤ n) (n1 : n ≤ 9007199254740992) (h1 : Ret Tryd.prog 43 #[.bool a, .bool true, .bool c] (.int .i64 p)) (h2 : Ret Tryd.prog 44 #[.agg #[.int .u64 (za 0), .int .u64 (za 1), .int .u64 (za 2), .int .u64 (za 3)], .int .i64 (l - p - (l - p) / 64)] (.int .i64 n)) :
  Ret Tryd.prog 24 #[.int .i64 l, .agg #[.int .u64 (za 0), .int .u64 (za 1), .int .u64 (za 2), .int .u64 (za 3)], .bool a, .bool true, .bool c] (.tuple #[.int .i64 (p + n), .int .i64 (n + 2300), .bool true]) := by
 intro w
 have Hh1 := hid h1
 have Hh2 := hid h2
 clear h1 h2
 go_enter Tryd.func24, Tryd.ntmps24
 have LA := Has.new w 24 #[.int .u64 (za 0), .int .u64 (za 1), .int .u64 (za 2), .int .u64 (za 3)]
 have k1 := LA.cell 0 _ rfl
 have k2 := LA.cell 1 _ rfl
 have k3 := LA.cell 2 _ rfl
 have k4 := LA.cell 3 _ rfl
 have Q := (Below.refl w.heap.size w)
 have Q := Q.alloc Q.size (.cells #[.int .u64 (za 0), .int .u64 (za 1), .int .u64 (za 2), .int .u64 (za 3)] 24)
 go_wp2_with fail
 clear k1 k2 k3 k4
 obtain ⟨W1, hW1⟩ : ∃ W1, (w.alloc (.cells #[.int .u64 (za 0), .int .u64 (za 1), .int .u64 (za 2), .int .u64 (za 3)] 24)) = W1 := ⟨_, rfl⟩
 rw [hW1] at LA Q ⊢
 clear hW1
 refine (Hh1.out _).mono ?_
 rintro e v5 ⟨rfl, q⟩
 have LA := LA.later q
 have Q := Q.trans (q.mono Q.size)
 clear q
 have k6 := LA.cell 0 _ rfl
 have k7 := LA.cell 1 _ rfl
 have k8 := LA.cell 2 _ rfl
 have k9 := LA.cell 3 _ rfl
 go_wp2_with fail
 clear k6 k7 k8 k9
 refine (Hh2.out _).mono ?_
 rintro e v10 ⟨rfl, q⟩
 have LA := LA.later q
 have Q := Q.trans (q.mono Q.size)
 clear q
 have k11 := LA.cell 0 _ rfl
 have k12 := LA.cell 1 _ rfl
 have k13 := LA.cell 2 _ rfl
 have k14 := LA.cell 3 _ rfl
 go_wp2
 clear k11 k12 k13 k14
 go_ret3
 exact ⟨rfl, Q⟩
theorem call_ret (l : Int) (x : Nat) (hx : W256 x) (a b c : Bool) : Ret Tryd.prog 24 #[.int .i64 l, wv x, .bool a, .bool b, .bool c] (callV l x a b c) := by
 have hp := calling_ret a b c
 have g := callingN_range a b c
 unfold callV
 by_cases h1 : l < callingN a b c
 ·rw [if_pos (.inl h1)]; exact call_less _ _ _ _ _ _ h1 hp
 ·by_cases h2 : 9007199254740992 < l
  ·rw [if_pos (.inr h2)]; exact call_great _ _ _ _ _ _ h1 h2 hp
  ·rw [if_neg (by omega)]
   unfold ownN mostN
   generalize callingN a b c = p at *
   obtain ⟨m, hm⟩ : ∃ m : Nat, l - p - (l - p) / 64 = (m : Int) := ⟨(l - p - (l - p) / 64).toNat, by omega⟩
   have hn := number_retG x m hx (by omega)
   rw [← hm] at hn
   rw [show (l - p - (l - p) / 64).toNat = m by omega]
   have n1 : min x m ≤ m := Nat.min_le_right _ _
   cases b with
   | false => exact Ret.of_eq (call_false _ l p _ a c h1 h2 (by omega) (by omega) (by omega) (by omega) hp hn) rfl (by simp)
   | true => exact call_true _ l p _ a c h1 h2 (by omega) (by omega) (by omega) (by omega) hp hn
end Go.Proofs.YtlihnlkcgiopoaaDoor
