/- Part. -/
import Derived.Test.YtlihnlkcgiopoaaDoorJ05
import Derived.Test.YtlihnlkcgiopoaaDoorJ06
set_option maxRecDepth 100000
set_option maxHeartbeats 16000000
namespace Go.Proofs.YtlihnlkcgiopoaaDoor
open Go Go.RowKit Go.Shelf
attribute [local go_sem] Oper.semAt_some Grows wide_fn eq4
theorem rmany_walk (n m r : Int) (h1 : (if 1048576 < n then 1048576 else n) = m) (h2 : (if 0 < m then m else 0) = r) :
  Ret Tryd.prog 38 #[.int .i64 n] (.int .i64 r) := by
 intro w
 go_enter Tryd.func38, Tryd.ntmps38
 go_wp2
 go_ret
 exact ⟨rfl, Below.refl _ _⟩
theorem rmany_ret (n : Int) : Ret Tryd.prog 38 #[.int .i64 n] (.int .i64 (manyN n)) :=
 rmany_walk n _ _ rfl (by unfold manyN limI; split <;> split <;> (try split) <;> omega)
theorem rwords_walk (n m r : Int) (g0 : 0 ≤ m) (g1 : m ≤ 1048576) (e : (m + 31).tdiv 32 = r) (r0 : 0 ≤ r) (r1 : r ≤ 32768) (h0 : Ret Tryd.prog 38 #[.int .i64 n] (.int .i64 m)) :
  Ret Tryd.prog 36 #[.int .i64 n] (.int .i64 r) := by
 intro w
 have Hh0 := hid h0
 clear h0
 go_enter Tryd.func36, Tryd.ntmps36
 go_wp2_with fail
 refine (Hh0.out _).mono ?_
 rintro e v1 ⟨rfl, q⟩
 have Q := q
 clear q
 go_wp2
 go_ret
 exact ⟨rfl, Q⟩
theorem rwords_ret (n : Int) : Ret Tryd.prog 36 #[.int .i64 n] (.int .i64 (wordsN n)) := by
 have g := manyN_range n
 have r := wordsN_range n
 refine rwords_walk n _ _ g.1 g.2 ?_ r.1 r.2 (rmany_ret n)
 rw [Int.tdiv_eq_ediv_of_nonneg (by omega)]
 rfl
theorem rcopy_walk (n m : Int) (g0 : 0 ≤ m) (g1 : m ≤ 32768) (h0 : Ret Tryd.prog 36 #[.int .i64 n] (.int .i64 m)) :
  Ret Tryd.prog 12 #[.int .i64 n] (.int .i64 (3 * m)) := by
 intro w
 have Hh0 := hid h0
 clear h0
 go_enter Tryd.func12, Tryd.ntmps12
 go_wp2_with fail
 refine (Hh0.out _).mono ?_
 rintro e v1 ⟨rfl, q⟩
 have Q := q
 clear q
 go_wp2
 go_ret
 exact ⟨rfl, Q⟩
theorem rcopy_retG (n : Int) : Ret Tryd.prog 12 #[.int .i64 n] (.int .i64 (3 * wordsN n)) := rcopy_walk n _ (wordsN_range n).1 (wordsN_range n).2 (rwords_ret n)
theorem rhash_walk (n m : Int) (g0 : 0 ≤ m) (g1 : m ≤ 32768) (h0 : Ret Tryd.prog 36 #[.int .i64 n] (.int .i64 m)) :
  Ret Tryd.prog 14 #[.int .i64 n] (.int .i64 (6 * m)) := by
 intro w
 have Hh0 := hid h0
 clear h0
 go_enter Tryd.func14, Tryd.ntmps14
 go_wp2_with fail
 refine (Hh0.out _).mono ?_
 rintro e v1 ⟨rfl, q⟩
 have Q := q
 clear q
 go_wp2
 go_ret
 exact ⟨rfl, Q⟩
theorem rhash_retG (n : Int) : Ret Tryd.prog 14 #[.int .i64 n] (.int .i64 (6 * wordsN n)) := rhash_walk n _ (wordsN_range n).1 (wordsN_range n).2 (rwords_ret n)
theorem rlog_walk (n m : Int) (g0 : 0 ≤ m) (g1 : m ≤ 1048576) (h0 : Ret Tryd.prog 38 #[.int .i64 n] (.int .i64 m)) :
  Ret Tryd.prog 16 #[.int .i64 n] (.int .i64 (8 * m)) := by
 intro w
 have Hh0 := hid h0
 clear h0
 go_enter Tryd.func16, Tryd.ntmps16
 go_wp2_with fail
 refine (Hh0.out _).mono ?_
 rintro e v1 ⟨rfl, q⟩
 have Q := q
 clear q
 go_wp2
 go_ret
 exact ⟨rfl, Q⟩
theorem rlog_retG (n : Int) : Ret Tryd.prog 16 #[.int .i64 n] (.int .i64 (8 * manyN n)) := rlog_walk n _ (manyN_range n).1 (manyN_range n).2 (rmany_ret n)
theorem rinit_false (n m : Int) (g0 : 0 ≤ m) (g1 : m ≤ 32768) (h0 : Ret Tryd.prog 36 #[.int .i64 n] (.int .i64 m)) :
  Ret Tryd.prog 18 #[.int .i64 n, .bool false] (.int .i64 (2 * m)) := by
 intro w
 have Hh0 := hid h0
 clear h0
 go_enter Tryd.func18, Tryd.ntmps18
 go_wp2_with fail
 refine (Hh0.out _).mono ?_
 rintro e v1 ⟨rfl, q⟩
 have Q := q
 clear q
 go_wp2
 go_ret
 exact ⟨rfl, Q⟩
theorem rinit_true (n m : Int) (g0 : 0 ≤ m) (g1 : m ≤ 32768) (h0 : Ret Tryd.prog 36 #[.int .i64 n] (.int .i64 m)) :
  Ret Tryd.prog 18 #[.int .i64 n, .bool true] (.int .i64 (8 * m)) := by
 intro w
 have Hh0 := hid h0
 clear h0
 go_enter Tryd.func18, Tryd.ntmps18
 go_wp2_with fail
 refine (Hh0.out _).mono ?_
 rintro e v1 ⟨rfl, q⟩
 have Q := q
 clear q
 go_wp2
 go_ret
 exact ⟨rfl, Q⟩
theorem rinit_ret (n : Int) (s : Bool) : Ret Tryd.prog 18 #[.int .i64 n, .bool s] (.int .i64 (initN n s)) := by
 have g := wordsN_range n
 unfold initN
 cases s with
 | false => exact Ret.of_eq (rinit_false n _ g.1 g.2 (rwords_ret n)) rfl (by simp)
 | true => exact Ret.of_eq (rinit_true n _ g.1 g.2 (rwords_ret n)) rfl (by simp; omega)
theorem rtouch_ret (s t : Bool) : Ret Tryd.prog 30 #[.bool s, .bool t] (.int .i64 (touchN s t)) := by
 refine Ret.of_same fun w => ?_
 cases s <;> cases t <;>
 ·go_enter Tryd.func30, Tryd.ntmps30
  go_wp2
  go_ret
  exact ⟨rfl, rfl⟩
theorem rback_walk (u r q m k : Int) (e : wrap64 (u.tdiv 5) = q) (h1 : (if q < r then q else r) = m) (h2 : (if 0 < m then m else 0) = k) :
  Ret Tryd.prog 20 #[.int .i64 u, .int .i64 r] (.int .i64 k) := by
 intro w
 go_enter Tryd.func20, Tryd.ntmps20
 go_wp2
 go_ret
 exact ⟨rfl, Below.refl _ _⟩
theorem rback_ret (u r : Int) (hu : I64 u) : Ret Tryd.prog 20 #[.int .i64 u, .int .i64 r] (.int .i64 (backN u r)) := by
 unfold I64 at hu
 obtain ⟨q, hq⟩ : ∃ q, wrap64 (u.tdiv 5) = q := ⟨_, rfl⟩
 have hneg : u < 0 → u.tdiv 5 = -((-u) / 5) := fun h => by rw [← Int.tdiv_eq_ediv_of_nonneg (show 0 ≤ -u by omega), Int.neg_tdiv, Int.neg_neg]
 have hb : -1844674407370955162 ≤ u.tdiv 5 ∧ u.tdiv 5 ≤ 1844674407370955162 := by
  by_cases h : u < 0
  ·rw [hneg h]; omega
  ·rw [Int.tdiv_eq_ediv_of_nonneg (by omega)]; omega
 have hw : wrap64 (u.tdiv 5) = u.tdiv 5 := by unfold wrap64; omega
 refine rback_walk u r q _ _ hq rfl ?_
 rw [← hq, hw]
 unfold backN limI
 by_cases h : u < 0
 ·rw [if_pos h]
  have : u.tdiv 5 ≤ 0 := by rw [hneg h]; omega
  split <;> split <;> (try split) <;> (try split) <;> omega
 ·rw [if_neg h, Int.tdiv_eq_ediv_of_nonneg (by omega)]
  split <;> split <;> (try split) <;> (try split) <;> omega
theorem rstore_a_false (za zb zc : Nat → Int) (cv : ((zb 0 == zc 0) && (zb 1 == zc 1) && (zb 2 == zc 2) && (zb 3 == zc 3)) = true) :
  Ret Tryd.prog 22 #[.agg #[.int .u64 (za 0), .int .u64 (za 1), .int .u64 (za 2), .int .u64 (za 3)], .agg #[.int .u64 (zb 0), .int .u64 (zb 1), .int .u64 (zb 2), .int .u64 (zb 3)], .agg #[.int .u64 (zc 0), .int .u64 (zc 1), .int .u64 (zc 2), .int .u64 (zc 3)], .bool false] (.tuple #[.int .i64 2200, .int .i64 0]) := by
 intro w
 go_enter Tryd.func22, Tryd.ntmps22
 have LA := Has.new w 24 #[.int .u64 (za 0), .int .u64 (za 1), .int .u64 (za 2), .int .u64 (za 3)]
 have k1 := LA.cell 0 _ rfl
 have k2 := LA.cell 1 _ rfl
 have k3 := LA.cell 2 _ rfl
 have k4 := LA.cell 3 _ rfl
 have LA := LA.alloc (.cells #[.int .u64 (zb 0), .int .u64 (zb 1), .int .u64 (zb 2), .int .u64 (zb 3)] 24)
 have LB := Has.new (w.alloc (.cells #[.int .u64 (za 0), .int .u64 (za 1), .int .u64 (za 2), .int .u64 (za 3)] 24)) 24 #[.int .u64 (zb 0), .int .u64 (zb 1), .int .u64 (zb 2), .int .u64 (zb 3)]
 simp only [World.size_alloc] at LB
 have k5 := LA.cell 0 _ rfl
 have k6 := LA.cell 1 _ rfl
 have k7 := LA.cell 2 _ rfl
 have k8 := LA.cell 3 _ rfl
 have k9 := LB.cell 0 _ rfl
 have k10 := LB.cell 1 _ rfl
 have k11 := LB.cell 2 _ rfl
 have k12 := LB.cell 3 _ rfl
 have LA := LA.alloc (.cells #[.int .u64 (zc 0), .int .u64 (zc 1), .int .u64 (zc 2), .int .u64 (zc 3)] 24)
 have LB := LB.alloc (.cells #[.int .u64 (zc 0), .int .u64 (zc 1), .int .u64 (zc 2), .int .u64 (zc 3)] 24)
 have LC := Has.new ((w.alloc (.cells #[.int .u64 (za 0), .int .u64 (za 1), .int .u64 (za 2), .int .u64 (za 3)] 24)).alloc (.cells #[.int .u64 (zb 0), .int .u64 (zb 1), .int .u64 (zb 2), .int .u64 (zb 3)] 24)) 24 #[.int .u64 (zc 0), .int .u64 (zc 1), .int .u64 (zc 2), .int .u64 (zc 3)]
 simp only [World.size_alloc] at LC
 have k13 := LA.cell 0 _ rfl
 have k14 := LA.cell 1 _ rfl
 have k15 := LA.cell 2 _ rfl
 have k16 := LA.cell 3 _ rfl
 have k17 := LB.cell 0 _ rfl
 have k18 := LB.cell 1 _ rfl
 have k19 := LB.cell 2 _ rfl
 have k20 := LB.cell 3 _ rfl
 have k21 := LC.cell 0 _ rfl
 have k22 := LC.cell 1 _ rfl
 have k23 := LC.cell 2 _ rfl
 have k24 := LC.cell 3 _ rfl
 have LA := LA.alloc (.cells #[.int .u64 0, .int .u64 0, .int .u64 0, .int .u64 0] 24)
 have LB := LB.alloc (.cells #[.int .u64 0, .int .u64 0, .int .u64 0, .int .u64 0] 24)
 have LC := LC.alloc (.cells #[.int .u64 0, .int .u64 0, .int .u64 0, .int .u64 0] 24)
 have LN := Has.new (((w.alloc (.cells #[.int .u64 (za 0), .int .u64 (za 1), .int .u64 (za 2), .int .u64 (za 3)] 24)).alloc (.cells #[.int .u64 (zb 0), .int .u64 (zb 1), .int .u64 (zb 2), .int .u64 (zb 3)] 24)).alloc (.cells #[.int .u64 (zc 0), .int .u64 (zc 1), .int .u64 (zc 2), .int .u64 (zc 3)] 24)) 24 #[.int .u64 0, .int .u64 0, .int .u64 0, .int .u64 0]
 simp only [World.size_alloc] at LN
 have k25 := LA.cell 0 _ rfl
 have k26 := LA.cell 1 _ rfl
 have k27 := LA.cell 2 _ rfl
 have k28 := LA.cell 3 _ rfl
 have k29 := LB.cell 0 _ rfl
 have k30 := LB.cell 1 _ rfl
 have k31 := LB.cell 2 _ rfl
 have k32 := LB.cell 3 _ rfl
 have k33 := LC.cell 0 _ rfl
 have k34 := LC.cell 1 _ rfl
 have k35 := LC.cell 2 _ rfl
 have k36 := LC.cell 3 _ rfl
 have k37 := LN.cell 0 _ rfl
 have k38 := LN.cell 1 _ rfl
 have k39 := LN.cell 2 _ rfl
 have k40 := LN.cell 3 _ rfl
 have Q := (Below.refl w.heap.size w)
 have Q := Q.alloc Q.size (.cells #[.int .u64 (za 0), .int .u64 (za 1), .int .u64 (za 2), .int .u64 (za 3)] 24)
 have Q := Q.alloc Q.size (.cells #[.int .u64 (zb 0), .int .u64 (zb 1), .int .u64 (zb 2), .int .u64 (zb 3)] 24)
 have Q := Q.alloc Q.size (.cells #[.int .u64 (zc 0), .int .u64 (zc 1), .int .u64 (zc 2), .int .u64 (zc 3)] 24)
 have Q := Q.alloc Q.size (.cells #[.int .u64 0, .int .u64 0, .int .u64 0, .int .u64 0] 24)
 go_wp2
 clear k1 k2 k3 k4 k5 k6 k7 k8 k9 k10 k11 k12 k13 k14 k15 k16 k17 k18 k19 k20 k21 k22 k23 k24 k25 k26 k27 k28 k29 k30 k31 k32 k33 k34 k35 k36 k37 k38 k39 k40
 obtain ⟨W1, hW1⟩ : ∃ W1, ((((w.alloc (.cells #[.int .u64 (za 0), .int .u64 (za 1), .int .u64 (za 2), .int .u64 (za 3)] 24)).alloc (.cells #[.int .u64 (zb 0), .int .u64 (zb 1), .int .u64 (zb 2), .int .u64 (zb 3)] 24)).alloc (.cells #[.int .u64 (zc 0), .int .u64 (zc 1), .int .u64 (zc 2), .int .u64 (zc 3)] 24)).alloc (.cells #[.int .u64 0, .int .u64 0, .int .u64 0, .int .u64 0] 24)) = W1 := ⟨_, rfl⟩
 rw [hW1] at LA LB LC LN Q ⊢
 clear hW1
 go_ret2
 exact ⟨rfl, Q⟩
theorem rstore_a_true (za zb zc : Nat → Int) (cv : ((zb 0 == zc 0) && (zb 1 == zc 1) && (zb 2 == zc 2) && (zb 3 == zc 3)) = true) :
  Ret Tryd.prog 22 #[.agg #[.int .u64 (za 0), .int .u64 (za 1), .int .u64 (za 2), .int .u64 (za 3)], .agg #[.int .u64 (zb 0), .int .u64 (zb 1), .int .u64 (zb 2), .int .u64 (zb 3)], .agg #[.int .u64 (zc 0), .int .u64 (zc 1), .int .u64 (zc 2), .int .u64 (zc 3)], .bool true] (.tuple #[.int .i64 100, .int .i64 0]) := by
 intro w
 go_enter Tryd.func22, Tryd.ntmps22
 have LA := Has.new w 24 #[.int .u64 (za 0), .int .u64 (za 1), .int .u64 (za 2), .int .u64 (za 3)]
 have k1 := LA.cell 0 _ rfl
 have k2 := LA.cell 1 _ rfl
 have k3 := LA.cell 2 _ rfl
 have k4 := LA.cell 3 _ rfl
 have LA := LA.alloc (.cells #[.int .u64 (zb 0), .int .u64 (zb 1), .int .u64 (zb 2), .int .u64 (zb 3)] 24)
 have LB := Has.new (w.alloc (.cells #[.int .u64 (za 0), .int .u64 (za 1), .int .u64 (za 2), .int .u64 (za 3)] 24)) 24 #[.int .u64 (zb 0), .int .u64 (zb 1), .int .u64 (zb 2), .int .u64 (zb 3)]
 simp only [World.size_alloc] at LB
 have k5 := LA.cell 0 _ rfl
 have k6 := LA.cell 1 _ rfl
 have k7 := LA.cell 2 _ rfl
 have k8 := LA.cell 3 _ rfl
 have k9 := LB.cell 0 _ rfl
 have k10 := LB.cell 1 _ rfl
 have k11 := LB.cell 2 _ rfl
 have k12 := LB.cell 3 _ rfl
 have LA := LA.alloc (.cells #[.int .u64 (zc 0), .int .u64 (zc 1), .int .u64 (zc 2), .int .u64 (zc 3)] 24)
 have LB := LB.alloc (.cells #[.int .u64 (zc 0), .int .u64 (zc 1), .int .u64 (zc 2), .int .u64 (zc 3)] 24)
 have LC := Has.new ((w.alloc (.cells #[.int .u64 (za 0), .int .u64 (za 1), .int .u64 (za 2), .int .u64 (za 3)] 24)).alloc (.cells #[.int .u64 (zb 0), .int .u64 (zb 1), .int .u64 (zb 2), .int .u64 (zb 3)] 24)) 24 #[.int .u64 (zc 0), .int .u64 (zc 1), .int .u64 (zc 2), .int .u64 (zc 3)]
 simp only [World.size_alloc] at LC
 have k13 := LA.cell 0 _ rfl
 have k14 := LA.cell 1 _ rfl
 have k15 := LA.cell 2 _ rfl
 have k16 := LA.cell 3 _ rfl
 have k17 := LB.cell 0 _ rfl
 have k18 := LB.cell 1 _ rfl
 have k19 := LB.cell 2 _ rfl
 have k20 := LB.cell 3 _ rfl
 have k21 := LC.cell 0 _ rfl
 have k22 := LC.cell 1 _ rfl
 have k23 := LC.cell 2 _ rfl
 have k24 := LC.cell 3 _ rfl
 have LA := LA.alloc (.cells #[.int .u64 0, .int .u64 0, .int .u64 0, .int .u64 0] 24)
 have LB := LB.alloc (.cells #[.int .u64 0, .int .u64 0, .int .u64 0, .int .u64 0] 24)
 have LC := LC.alloc (.cells #[.int .u64 0, .int .u64 0, .int .u64 0, .int .u64 0] 24)
 have LN := Has.new (((w.alloc (.cells #[.int .u64 (za 0), .int .u64 (za 1), .int .u64 (za 2), .int .u64 (za 3)] 24)).alloc (.cells #[.int .u64 (zb 0), .int .u64 (zb 1), .int .u64 (zb 2), .int .u64 (zb 3)] 24)).alloc (.cells #[.int .u64 (zc 0), .int .u64 (zc 1), .int .u64 (zc 2), .int .u64 (zc 3)] 24)) 24 #[.int .u64 0, .int .u64 0, .int .u64 0, .int .u64 0]
 simp only [World.size_alloc] at LN
 have k25 := LA.cell 0 _ rfl
 have k26 := LA.cell 1 _ rfl
 have k27 := LA.cell 2 _ rfl
 have k28 := LA.cell 3 _ rfl
 have k29 := LB.cell 0 _ rfl
 have k30 := LB.cell 1 _ rfl
 have k31 := LB.cell 2 _ rfl
 have k32 := LB.cell 3 _ rfl
 have k33 := LC.cell 0 _ rfl
 have k34 := LC.cell 1 _ rfl
 have k35 := LC.cell 2 _ rfl
 have k36 := LC.cell 3 _ rfl
 have k37 := LN.cell 0 _ rfl
 have k38 := LN.cell 1 _ rfl
 have k39 := LN.cell 2 _ rfl
 have k40 := LN.cell 3 _ rfl
 have Q := (Below.refl w.heap.size w)
 have Q := Q.alloc Q.size (.cells #[.int .u64 (za 0), .int .u64 (za 1), .int .u64 (za 2), .int .u64 (za 3)] 24)
 have Q := Q.alloc Q.size (.cells #[.int .u64 (zb 0), .int .u64 (zb 1), .int .u64 (zb 2), .int .u64 (zb 3)] 24)
 have Q := Q.alloc Q.size (.cells #[.int .u64 (zc 0), .int .u64 (zc 1), .int .u64 (zc 2), .int .u64 (zc 3)] 24)
 have Q := Q.alloc Q.size (.cells #[.int .u64 0, .int .u64 0, .int .u64 0, .int .u64 0] 24)
 go_wp2
 clear k1 k2 k3 k4 k5 k6 k7 k8 k9 k10 k11 k12 k13 k14 k15 k16 k17 k18 k19 k20 k21 k22 k23 k24 k25 k26 k27 k28 k29 k30 k31 k32 k33 k34 k35 k36 k37 k38 k39 k40
 obtain ⟨W1, hW1⟩ : ∃ W1, ((((w.alloc (.cells #[.int .u64 (za 0), .int .u64 (za 1), .int .u64 (za 2), .int .u64 (za 3)] 24)).alloc (.cells #[.int .u64 (zb 0), .int .u64 (zb 1), .int .u64 (zb 2), .int .u64 (zb 3)] 24)).alloc (.cells #[.int .u64 (zc 0), .int .u64 (zc 1), .int .u64 (zc 2), .int .u64 (zc 3)] 24)).alloc (.cells #[.int .u64 0, .int .u64 0, .int .u64 0, .int .u64 0] 24)) = W1 := ⟨_, rfl⟩
 rw [hW1] at LA LB LC LN Q ⊢
 clear hW1
 go_ret2
 exact ⟨rfl, Q⟩
theorem rstore_b_false (za zb zc : Nat → Int) (cv : ((zb 0 == zc 0) && (zb 1 == zc 1) && (zb 2 == zc 2) && (zb 3 == zc 3)) = false) (oc : ((za 0 == zb 0) && (za 1 == zb 1) && (za 2 == zb 2) && (za 3 == zb 3)) = true) (oz : ((za 0 == 0) && (za 1 == 0) && (za 2 == 0) && (za 3 == 0)) = true) :
  Ret Tryd.prog 22 #[.agg #[.int .u64 (za 0), .int .u64 (za 1), .int .u64 (za 2), .int .u64 (za 3)], .agg #[.int .u64 (zb 0), .int .u64 (zb 1), .int .u64 (zb 2), .int .u64 (zb 3)], .agg #[.int .u64 (zc 0), .int .u64 (zc 1), .int .u64 (zc 2), .int .u64 (zc 3)], .bool false] (.tuple #[.int .i64 22100, .int .i64 0]) := by
 intro w
 go_enter Tryd.func22, Tryd.ntmps22
 have LA := Has.new w 24 #[.int .u64 (za 0), .int .u64 (za 1), .int .u64 (za 2), .int .u64 (za 3)]
 have k1 := LA.cell 0 _ rfl
 have k2 := LA.cell 1 _ rfl
 have k3 := LA.cell 2 _ rfl
 have k4 := LA.cell 3 _ rfl
 have LA := LA.alloc (.cells #[.int .u64 (zb 0), .int .u64 (zb 1), .int .u64 (zb 2), .int .u64 (zb 3)] 24)
 have LB := Has.new (w.alloc (.cells #[.int .u64 (za 0), .int .u64 (za 1), .int .u64 (za 2), .int .u64 (za 3)] 24)) 24 #[.int .u64 (zb 0), .int .u64 (zb 1), .int .u64 (zb 2), .int .u64 (zb 3)]
 simp only [World.size_alloc] at LB
 have k5 := LA.cell 0 _ rfl
 have k6 := LA.cell 1 _ rfl
 have k7 := LA.cell 2 _ rfl
 have k8 := LA.cell 3 _ rfl
 have k9 := LB.cell 0 _ rfl
 have k10 := LB.cell 1 _ rfl
 have k11 := LB.cell 2 _ rfl
 have k12 := LB.cell 3 _ rfl
 have LA := LA.alloc (.cells #[.int .u64 (zc 0), .int .u64 (zc 1), .int .u64 (zc 2), .int .u64 (zc 3)] 24)
 have LB := LB.alloc (.cells #[.int .u64 (zc 0), .int .u64 (zc 1), .int .u64 (zc 2), .int .u64 (zc 3)] 24)
 have LC := Has.new ((w.alloc (.cells #[.int .u64 (za 0), .int .u64 (za 1), .int .u64 (za 2), .int .u64 (za 3)] 24)).alloc (.cells #[.int .u64 (zb 0), .int .u64 (zb 1), .int .u64 (zb 2), .int .u64 (zb 3)] 24)) 24 #[.int .u64 (zc 0), .int .u64 (zc 1), .int .u64 (zc 2), .int .u64 (zc 3)]
 simp only [World.size_alloc] at LC
 have k13 := LA.cell 0 _ rfl
 have k14 := LA.cell 1 _ rfl
 have k15 := LA.cell 2 _ rfl
 have k16 := LA.cell 3 _ rfl
 have k17 := LB.cell 0 _ rfl
 have k18 := LB.cell 1 _ rfl
 have k19 := LB.cell 2 _ rfl
 have k20 := LB.cell 3 _ rfl
 have k21 := LC.cell 0 _ rfl
 have k22 := LC.cell 1 _ rfl
 have k23 := LC.cell 2 _ rfl
 have k24 := LC.cell 3 _ rfl
 have LA := LA.alloc (.cells #[.int .u64 0, .int .u64 0, .int .u64 0, .int .u64 0] 24)
 have LB := LB.alloc (.cells #[.int .u64 0, .int .u64 0, .int .u64 0, .int .u64 0] 24)
 have LC := LC.alloc (.cells #[.int .u64 0, .int .u64 0, .int .u64 0, .int .u64 0] 24)
 have LN := Has.new (((w.alloc (.cells #[.int .u64 (za 0), .int .u64 (za 1), .int .u64 (za 2), .int .u64 (za 3)] 24)).alloc (.cells #[.int .u64 (zb 0), .int .u64 (zb 1), .int .u64 (zb 2), .int .u64 (zb 3)] 24)).alloc (.cells #[.int .u64 (zc 0), .int .u64 (zc 1), .int .u64 (zc 2), .int .u64 (zc 3)] 24)) 24 #[.int .u64 0, .int .u64 0, .int .u64 0, .int .u64 0]
 simp only [World.size_alloc] at LN
 have k25 := LA.cell 0 _ rfl
 have k26 := LA.cell 1 _ rfl
 have k27 := LA.cell 2 _ rfl
 have k28 := LA.cell 3 _ rfl
 have k29 := LB.cell 0 _ rfl
 have k30 := LB.cell 1 _ rfl
 have k31 := LB.cell 2 _ rfl
 have k32 := LB.cell 3 _ rfl
 have k33 := LC.cell 0 _ rfl
 have k34 := LC.cell 1 _ rfl
 have k35 := LC.cell 2 _ rfl
 have k36 := LC.cell 3 _ rfl
 have k37 := LN.cell 0 _ rfl
 have k38 := LN.cell 1 _ rfl
 have k39 := LN.cell 2 _ rfl
 have k40 := LN.cell 3 _ rfl
 have Q := (Below.refl w.heap.size w)
 have Q := Q.alloc Q.size (.cells #[.int .u64 (za 0), .int .u64 (za 1), .int .u64 (za 2), .int .u64 (za 3)] 24)
 have Q := Q.alloc Q.size (.cells #[.int .u64 (zb 0), .int .u64 (zb 1), .int .u64 (zb 2), .int .u64 (zb 3)] 24)
 have Q := Q.alloc Q.size (.cells #[.int .u64 (zc 0), .int .u64 (zc 1), .int .u64 (zc 2), .int .u64 (zc 3)] 24)
 have Q := Q.alloc Q.size (.cells #[.int .u64 0, .int .u64 0, .int .u64 0, .int .u64 0] 24)
 go_wp2
 clear k1 k2 k3 k4 k5 k6 k7 k8 k9 k10 k11 k12 k13 k14 k15 k16 k17 k18 k19 k20 k21 k22 k23 k24 k25 k26 k27 k28 k29 k30 k31 k32 k33 k34 k35 k36 k37 k38 k39 k40
 obtain ⟨W1, hW1⟩ : ∃ W1, ((((w.alloc (.cells #[.int .u64 (za 0), .int .u64 (za 1), .int .u64 (za 2), .int .u64 (za 3)] 24)).alloc (.cells #[.int .u64 (zb 0), .int .u64 (zb 1), .int .u64 (zb 2), .int .u64 (zb 3)] 24)).alloc (.cells #[.int .u64 (zc 0), .int .u64 (zc 1), .int .u64 (zc 2), .int .u64 (zc 3)] 24)).alloc (.cells #[.int .u64 0, .int .u64 0, .int .u64 0, .int .u64 0] 24)) = W1 := ⟨_, rfl⟩
 rw [hW1] at LA LB LC LN Q ⊢
 clear hW1
 go_ret2
 exact ⟨rfl, Q⟩
theorem rstore_b_true (za zb zc : Nat → Int) (cv : ((zb 0 == zc 0) && (zb 1 == zc 1) && (zb 2 == zc 2) && (zb 3 == zc 3)) = false) (oc : ((za 0 == zb 0) && (za 1 == zb 1) && (za 2 == zb 2) && (za 3 == zb 3)) = true) (oz : ((za 0 == 0) && (za 1 == 0) && (za 2 == 0) && (za 3 == 0)) = true) :
  Ret Tryd.prog 22 #[.agg #[.int .u64 (za 0), .int .u64 (za 1), .int .u64 (za 2), .int .u64 (za 3)], .agg #[.int .u64 (zb 0), .int .u64 (zb 1), .int .u64 (zb 2), .int .u64 (zb 3)], .agg #[.int .u64 (zc 0), .int .u64 (zc 1), .int .u64 (zc 2), .int .u64 (zc 3)], .bool true] (.tuple #[.int .i64 20000, .int .i64 0]) := by
 intro w
 go_enter Tryd.func22, Tryd.ntmps22
 have LA := Has.new w 24 #[.int .u64 (za 0), .int .u64 (za 1), .int .u64 (za 2), .int .u64 (za 3)]
 have k1 := LA.cell 0 _ rfl
 have k2 := LA.cell 1 _ rfl
 have k3 := LA.cell 2 _ rfl
 have k4 := LA.cell 3 _ rfl
 have LA := LA.alloc (.cells #[.int .u64 (zb 0), .int .u64 (zb 1), .int .u64 (zb 2), .int .u64 (zb 3)] 24)
 have LB := Has.new (w.alloc (.cells #[.int .u64 (za 0), .int .u64 (za 1), .int .u64 (za 2), .int .u64 (za 3)] 24)) 24 #[.int .u64 (zb 0), .int .u64 (zb 1), .int .u64 (zb 2), .int .u64 (zb 3)]
 simp only [World.size_alloc] at LB
 have k5 := LA.cell 0 _ rfl
 have k6 := LA.cell 1 _ rfl
 have k7 := LA.cell 2 _ rfl
 have k8 := LA.cell 3 _ rfl
 have k9 := LB.cell 0 _ rfl
 have k10 := LB.cell 1 _ rfl
 have k11 := LB.cell 2 _ rfl
 have k12 := LB.cell 3 _ rfl
 have LA := LA.alloc (.cells #[.int .u64 (zc 0), .int .u64 (zc 1), .int .u64 (zc 2), .int .u64 (zc 3)] 24)
 have LB := LB.alloc (.cells #[.int .u64 (zc 0), .int .u64 (zc 1), .int .u64 (zc 2), .int .u64 (zc 3)] 24)
 have LC := Has.new ((w.alloc (.cells #[.int .u64 (za 0), .int .u64 (za 1), .int .u64 (za 2), .int .u64 (za 3)] 24)).alloc (.cells #[.int .u64 (zb 0), .int .u64 (zb 1), .int .u64 (zb 2), .int .u64 (zb 3)] 24)) 24 #[.int .u64 (zc 0), .int .u64 (zc 1), .int .u64 (zc 2), .int .u64 (zc 3)]
 simp only [World.size_alloc] at LC
 have k13 := LA.cell 0 _ rfl
 have k14 := LA.cell 1 _ rfl
 have k15 := LA.cell 2 _ rfl
 have k16 := LA.cell 3 _ rfl
 have k17 := LB.cell 0 _ rfl
 have k18 := LB.cell 1 _ rfl
 have k19 := LB.cell 2 _ rfl
 have k20 := LB.cell 3 _ rfl
 have k21 := LC.cell 0 _ rfl
 have k22 := LC.cell 1 _ rfl
 have k23 := LC.cell 2 _ rfl
 have k24 := LC.cell 3 _ rfl
 have LA := LA.alloc (.cells #[.int .u64 0, .int .u64 0, .int .u64 0, .int .u64 0] 24)
 have LB := LB.alloc (.cells #[.int .u64 0, .int .u64 0, .int .u64 0, .int .u64 0] 24)
 have LC := LC.alloc (.cells #[.int .u64 0, .int .u64 0, .int .u64 0, .int .u64 0] 24)
 have LN := Has.new (((w.alloc (.cells #[.int .u64 (za 0), .int .u64 (za 1), .int .u64 (za 2), .int .u64 (za 3)] 24)).alloc (.cells #[.int .u64 (zb 0), .int .u64 (zb 1), .int .u64 (zb 2), .int .u64 (zb 3)] 24)).alloc (.cells #[.int .u64 (zc 0), .int .u64 (zc 1), .int .u64 (zc 2), .int .u64 (zc 3)] 24)) 24 #[.int .u64 0, .int .u64 0, .int .u64 0, .int .u64 0]
 simp only [World.size_alloc] at LN
 have k25 := LA.cell 0 _ rfl
 have k26 := LA.cell 1 _ rfl
 have k27 := LA.cell 2 _ rfl
 have k28 := LA.cell 3 _ rfl
 have k29 := LB.cell 0 _ rfl
 have k30 := LB.cell 1 _ rfl
 have k31 := LB.cell 2 _ rfl
 have k32 := LB.cell 3 _ rfl
 have k33 := LC.cell 0 _ rfl
 have k34 := LC.cell 1 _ rfl
 have k35 := LC.cell 2 _ rfl
 have k36 := LC.cell 3 _ rfl
 have k37 := LN.cell 0 _ rfl
 have k38 := LN.cell 1 _ rfl
 have k39 := LN.cell 2 _ rfl
 have k40 := LN.cell 3 _ rfl
 have Q := (Below.refl w.heap.size w)
 have Q := Q.alloc Q.size (.cells #[.int .u64 (za 0), .int .u64 (za 1), .int .u64 (za 2), .int .u64 (za 3)] 24)
 have Q := Q.alloc Q.size (.cells #[.int .u64 (zb 0), .int .u64 (zb 1), .int .u64 (zb 2), .int .u64 (zb 3)] 24)
 have Q := Q.alloc Q.size (.cells #[.int .u64 (zc 0), .int .u64 (zc 1), .int .u64 (zc 2), .int .u64 (zc 3)] 24)
 have Q := Q.alloc Q.size (.cells #[.int .u64 0, .int .u64 0, .int .u64 0, .int .u64 0] 24)
 go_wp2
 clear k1 k2 k3 k4 k5 k6 k7 k8 k9 k10 k11 k12 k13 k14 k15 k16 k17 k18 k19 k20 k21 k22 k23 k24 k25 k26 k27 k28 k29 k30 k31 k32 k33 k34 k35 k36 k37 k38 k39 k40
 obtain ⟨W1, hW1⟩ : ∃ W1, ((((w.alloc (.cells #[.int .u64 (za 0), .int .u64 (za 1), .int .u64 (za 2), .int .u64 (za 3)] 24)).alloc (.cells #[.int .u64 (zb 0), .int .u64 (zb 1), .int .u64 (zb 2), .int .u64 (zb 3)] 24)).alloc (.cells #[.int .u64 (zc 0), .int .u64 (zc 1), .int .u64 (zc 2), .int .u64 (zc 3)] 24)).alloc (.cells #[.int .u64 0, .int .u64 0, .int .u64 0, .int .u64 0] 24)) = W1 := ⟨_, rfl⟩
 rw [hW1] at LA LB LC LN Q ⊢
 clear hW1
 go_ret2
 exact ⟨rfl, Q⟩
theorem rstore_c_false (za zb zc : Nat → Int) (cv : ((zb 0 == zc 0) && (zb 1 == zc 1) && (zb 2 == zc 2) && (zb 3 == zc 3)) = false) (oc : ((za 0 == zb 0) && (za 1 == zb 1) && (za 2 == zb 2) && (za 3 == zb 3)) = true) (oz : ((za 0 == 0) && (za 1 == 0) && (za 2 == 0) && (za 3 == 0)) = false) (vz : ((zc 0 == 0) && (zc 1 == 0) && (zc 2 == 0) && (zc 3 == 0)) = true) :
  Ret Tryd.prog 22 #[.agg #[.int .u64 (za 0), .int .u64 (za 1), .int .u64 (za 2), .int .u64 (za 3)], .agg #[.int .u64 (zb 0), .int .u64 (zb 1), .int .u64 (zb 2), .int .u64 (zb 3)], .agg #[.int .u64 (zc 0), .int .u64 (zc 1), .int .u64 (zc 2), .int .u64 (zc 3)], .bool false] (.tuple #[.int .i64 5000, .int .i64 4800]) := by
 intro w
 go_enter Tryd.func22, Tryd.ntmps22
 have LA := Has.new w 24 #[.int .u64 (za 0), .int .u64 (za 1), .int .u64 (za 2), .int .u64 (za 3)]
 have k1 := LA.cell 0 _ rfl
 have k2 := LA.cell 1 _ rfl
 have k3 := LA.cell 2 _ rfl
 have k4 := LA.cell 3 _ rfl
 have LA := LA.alloc (.cells #[.int .u64 (zb 0), .int .u64 (zb 1), .int .u64 (zb 2), .int .u64 (zb 3)] 24)
 have LB := Has.new (w.alloc (.cells #[.int .u64 (za 0), .int .u64 (za 1), .int .u64 (za 2), .int .u64 (za 3)] 24)) 24 #[.int .u64 (zb 0), .int .u64 (zb 1), .int .u64 (zb 2), .int .u64 (zb 3)]
 simp only [World.size_alloc] at LB
 have k5 := LA.cell 0 _ rfl
 have k6 := LA.cell 1 _ rfl
 have k7 := LA.cell 2 _ rfl
 have k8 := LA.cell 3 _ rfl
 have k9 := LB.cell 0 _ rfl
 have k10 := LB.cell 1 _ rfl
 have k11 := LB.cell 2 _ rfl
 have k12 := LB.cell 3 _ rfl
 have LA := LA.alloc (.cells #[.int .u64 (zc 0), .int .u64 (zc 1), .int .u64 (zc 2), .int .u64 (zc 3)] 24)
 have LB := LB.alloc (.cells #[.int .u64 (zc 0), .int .u64 (zc 1), .int .u64 (zc 2), .int .u64 (zc 3)] 24)
 have LC := Has.new ((w.alloc (.cells #[.int .u64 (za 0), .int .u64 (za 1), .int .u64 (za 2), .int .u64 (za 3)] 24)).alloc (.cells #[.int .u64 (zb 0), .int .u64 (zb 1), .int .u64 (zb 2), .int .u64 (zb 3)] 24)) 24 #[.int .u64 (zc 0), .int .u64 (zc 1), .int .u64 (zc 2), .int .u64 (zc 3)]
 simp only [World.size_alloc] at LC
 have k13 := LA.cell 0 _ rfl
 have k14 := LA.cell 1 _ rfl
 have k15 := LA.cell 2 _ rfl
 have k16 := LA.cell 3 _ rfl
 have k17 := LB.cell 0 _ rfl
 have k18 := LB.cell 1 _ rfl
 have k19 := LB.cell 2 _ rfl
 have k20 := LB.cell 3 _ rfl
 have k21 := LC.cell 0 _ rfl
 have k22 := LC.cell 1 _ rfl
 have k23 := LC.cell 2 _ rfl
 have k24 := LC.cell 3 _ rfl
 have LA := LA.alloc (.cells #[.int .u64 0, .int .u64 0, .int .u64 0, .int .u64 0] 24)
 have LB := LB.alloc (.cells #[.int .u64 0, .int .u64 0, .int .u64 0, .int .u64 0] 24)
 have LC := LC.alloc (.cells #[.int .u64 0, .int .u64 0, .int .u64 0, .int .u64 0] 24)
 have LN := Has.new (((w.alloc (.cells #[.int .u64 (za 0), .int .u64 (za 1), .int .u64 (za 2), .int .u64 (za 3)] 24)).alloc (.cells #[.int .u64 (zb 0), .int .u64 (zb 1), .int .u64 (zb 2), .int .u64 (zb 3)] 24)).alloc (.cells #[.int .u64 (zc 0), .int .u64 (zc 1), .int .u64 (zc 2), .int .u64 (zc 3)] 24)) 24 #[.int .u64 0, .int .u64 0, .int .u64 0, .int .u64 0]
 simp only [World.size_alloc] at LN
 have k25 := LA.cell 0 _ rfl
 have k26 := LA.cell 1 _ rfl
 have k27 := LA.cell 2 _ rfl
 have k28 := LA.cell 3 _ rfl
 have k29 := LB.cell 0 _ rfl
 have k30 := LB.cell 1 _ rfl
 have k31 := LB.cell 2 _ rfl
 have k32 := LB.cell 3 _ rfl
 have k33 := LC.cell 0 _ rfl
 have k34 := LC.cell 1 _ rfl
 have k35 := LC.cell 2 _ rfl
 have k36 := LC.cell 3 _ rfl
 have k37 := LN.cell 0 _ rfl
 have k38 := LN.cell 1 _ rfl
 have k39 := LN.cell 2 _ rfl
 have k40 := LN.cell 3 _ rfl
 have Q := (Below.refl w.heap.size w)
 have Q := Q.alloc Q.size (.cells #[.int .u64 (za 0), .int .u64 (za 1), .int .u64 (za 2), .int .u64 (za 3)] 24)
 have Q := Q.alloc Q.size (.cells #[.int .u64 (zb 0), .int .u64 (zb 1), .int .u64 (zb 2), .int .u64 (zb 3)] 24)
 have Q := Q.alloc Q.size (.cells #[.int .u64 (zc 0), .int .u64 (zc 1), .int .u64 (zc 2), .int .u64 (zc 3)] 24)
 have Q := Q.alloc Q.size (.cells #[.int .u64 0, .int .u64 0, .int .u64 0, .int .u64 0] 24)
 go_wp2
 clear k1 k2 k3 k4 k5 k6 k7 k8 k9 k10 k11 k12 k13 k14 k15 k16 k17 k18 k19 k20 k21 k22 k23 k24 k25 k26 k27 k28 k29 k30 k31 k32 k33 k34 k35 k36 k37 k38 k39 k40
 obtain ⟨W1, hW1⟩ : ∃ W1, ((((w.alloc (.cells #[.int .u64 (za 0), .int .u64 (za 1), .int .u64 (za 2), .int .u64 (za 3)] 24)).alloc (.cells #[.int .u64 (zb 0), .int .u64 (zb 1), .int .u64 (zb 2), .int .u64 (zb 3)] 24)).alloc (.cells #[.int .u64 (zc 0), .int .u64 (zc 1), .int .u64 (zc 2), .int .u64 (zc 3)] 24)).alloc (.cells #[.int .u64 0, .int .u64 0, .int .u64 0, .int .u64 0] 24)) = W1 := ⟨_, rfl⟩
 rw [hW1] at LA LB LC LN Q ⊢
 clear hW1
 go_ret2
 exact ⟨rfl, Q⟩
theorem rstore_c_true (za zb zc : Nat → Int) (cv : ((zb 0 == zc 0) && (zb 1 == zc 1) && (zb 2 == zc 2) && (zb 3 == zc 3)) = false) (oc : ((za 0 == zb 0) && (za 1 == zb 1) && (za 2 == zb 2) && (za 3 == zb 3)) = true) (oz : ((za 0 == 0) && (za 1 == 0) && (za 2 == 0) && (za 3 == 0)) = false) (vz : ((zc 0 == 0) && (zc 1 == 0) && (zc 2 == 0) && (zc 3 == 0)) = true) :
  Ret Tryd.prog 22 #[.agg #[.int .u64 (za 0), .int .u64 (za 1), .int .u64 (za 2), .int .u64 (za 3)], .agg #[.int .u64 (zb 0), .int .u64 (zb 1), .int .u64 (zb 2), .int .u64 (zb 3)], .agg #[.int .u64 (zc 0), .int .u64 (zc 1), .int .u64 (zc 2), .int .u64 (zc 3)], .bool true] (.tuple #[.int .i64 2900, .int .i64 4800]) := by
 intro w
 go_enter Tryd.func22, Tryd.ntmps22
 have LA := Has.new w 24 #[.int .u64 (za 0), .int .u64 (za 1), .int .u64 (za 2), .int .u64 (za 3)]
 have k1 := LA.cell 0 _ rfl
 have k2 := LA.cell 1 _ rfl
 have k3 := LA.cell 2 _ rfl
 have k4 := LA.cell 3 _ rfl
 have LA := LA.alloc (.cells #[.int .u64 (zb 0), .int .u64 (zb 1), .int .u64 (zb 2), .int .u64 (zb 3)] 24)
 have LB := Has.new (w.alloc (.cells #[.int .u64 (za 0), .int .u64 (za 1), .int .u64 (za 2), .int .u64 (za 3)] 24)) 24 #[.int .u64 (zb 0), .int .u64 (zb 1), .int .u64 (zb 2), .int .u64 (zb 3)]
 simp only [World.size_alloc] at LB
 have k5 := LA.cell 0 _ rfl
 have k6 := LA.cell 1 _ rfl
 have k7 := LA.cell 2 _ rfl
 have k8 := LA.cell 3 _ rfl
 have k9 := LB.cell 0 _ rfl
 have k10 := LB.cell 1 _ rfl
 have k11 := LB.cell 2 _ rfl
 have k12 := LB.cell 3 _ rfl
 have LA := LA.alloc (.cells #[.int .u64 (zc 0), .int .u64 (zc 1), .int .u64 (zc 2), .int .u64 (zc 3)] 24)
 have LB := LB.alloc (.cells #[.int .u64 (zc 0), .int .u64 (zc 1), .int .u64 (zc 2), .int .u64 (zc 3)] 24)
 have LC := Has.new ((w.alloc (.cells #[.int .u64 (za 0), .int .u64 (za 1), .int .u64 (za 2), .int .u64 (za 3)] 24)).alloc (.cells #[.int .u64 (zb 0), .int .u64 (zb 1), .int .u64 (zb 2), .int .u64 (zb 3)] 24)) 24 #[.int .u64 (zc 0), .int .u64 (zc 1), .int .u64 (zc 2), .int .u64 (zc 3)]
 simp only [World.size_alloc] at LC
 have k13 := LA.cell 0 _ rfl
 have k14 := LA.cell 1 _ rfl
 have k15 := LA.cell 2 _ rfl
 have k16 := LA.cell 3 _ rfl
 have k17 := LB.cell 0 _ rfl
 have k18 := LB.cell 1 _ rfl
 have k19 := LB.cell 2 _ rfl
 have k20 := LB.cell 3 _ rfl
 have k21 := LC.cell 0 _ rfl
 have k22 := LC.cell 1 _ rfl
 have k23 := LC.cell 2 _ rfl
 have k24 := LC.cell 3 _ rfl
 have LA := LA.alloc (.cells #[.int .u64 0, .int .u64 0, .int .u64 0, .int .u64 0] 24)
 have LB := LB.alloc (.cells #[.int .u64 0, .int .u64 0, .int .u64 0, .int .u64 0] 24)
 have LC := LC.alloc (.cells #[.int .u64 0, .int .u64 0, .int .u64 0, .int .u64 0] 24)
 have LN := Has.new (((w.alloc (.cells #[.int .u64 (za 0), .int .u64 (za 1), .int .u64 (za 2), .int .u64 (za 3)] 24)).alloc (.cells #[.int .u64 (zb 0), .int .u64 (zb 1), .int .u64 (zb 2), .int .u64 (zb 3)] 24)).alloc (.cells #[.int .u64 (zc 0), .int .u64 (zc 1), .int .u64 (zc 2), .int .u64 (zc 3)] 24)) 24 #[.int .u64 0, .int .u64 0, .int .u64 0, .int .u64 0]
 simp only [World.size_alloc] at LN
 have k25 := LA.cell 0 _ rfl
 have k26 := LA.cell 1 _ rfl
 have k27 := LA.cell 2 _ rfl
 have k28 := LA.cell 3 _ rfl
 have k29 := LB.cell 0 _ rfl
 have k30 := LB.cell 1 _ rfl
 have k31 := LB.cell 2 _ rfl
 have k32 := LB.cell 3 _ rfl
 have k33 := LC.cell 0 _ rfl
 have k34 := LC.cell 1 _ rfl
 have k35 := LC.cell 2 _ rfl
 have k36 := LC.cell 3 _ rfl
 have k37 := LN.cell 0 _ rfl
 have k38 := LN.cell 1 _ rfl
 have k39 := LN.cell 2 _ rfl
 have k40 := LN.cell 3 _ rfl
 have Q := (Below.refl w.heap.size w)
 have Q := Q.alloc Q.size (.cells #[.int .u64 (za 0), .int .u64 (za 1), .int .u64 (za 2), .int .u64 (za 3)] 24)
 have Q := Q.alloc Q.size (.cells #[.int .u64 (zb 0), .int .u64 (zb 1), .int .u64 (zb 2), .int .u64 (zb 3)] 24)
 have Q := Q.alloc Q.size (.cells #[.int .u64 (zc 0), .int .u64 (zc 1), .int .u64 (zc 2), .int .u64 (zc 3)] 24)
 have Q := Q.alloc Q.size (.cells #[.int .u64 0, .int .u64 0, .int .u64 0, .int .u64 0] 24)
 go_wp2
 clear k1 k2 k3 k4 k5 k6 k7 k8 k9 k10 k11 k12 k13 k14 k15 k16 k17 k18 k19 k20 k21 k22 k23 k24 k25 k26 k27 k28 k29 k30 k31 k32 k33 k34 k35 k36 k37 k38 k39 k40
 obtain ⟨W1, hW1⟩ : ∃ W1, ((((w.alloc (.cells #[.int .u64 (za 0), .int .u64 (za 1), .int .u64 (za 2), .int .u64 (za 3)] 24)).alloc (.cells #[.int .u64 (zb 0), .int .u64 (zb 1), .int .u64 (zb 2), .int .u64 (zb 3)] 24)).alloc (.cells #[.int .u64 (zc 0), .int .u64 (zc 1), .int .u64 (zc 2), .int .u64 (zc 3)] 24)).alloc (.cells #[.int .u64 0, .int .u64 0, .int .u64 0, .int .u64 0] 24)) = W1 := ⟨_, rfl⟩
 rw [hW1] at LA LB LC LN Q ⊢
 clear hW1
 go_ret2
 exact ⟨rfl, Q⟩
theorem rstore_d_false (za zb zc : Nat → Int) (cv : ((zb 0 == zc 0) && (zb 1 == zc 1) && (zb 2 == zc 2) && (zb 3 == zc 3)) = false) (oc : ((za 0 == zb 0) && (za 1 == zb 1) && (za 2 == zb 2) && (za 3 == zb 3)) = true) (oz : ((za 0 == 0) && (za 1 == 0) && (za 2 == 0) && (za 3 == 0)) = false) (vz : ((zc 0 == 0) && (zc 1 == 0) && (zc 2 == 0) && (zc 3 == 0)) = false) :
  Ret Tryd.prog 22 #[.agg #[.int .u64 (za 0), .int .u64 (za 1), .int .u64 (za 2), .int .u64 (za 3)], .agg #[.int .u64 (zb 0), .int .u64 (zb 1), .int .u64 (zb 2), .int .u64 (zb 3)], .agg #[.int .u64 (zc 0), .int .u64 (zc 1), .int .u64 (zc 2), .int .u64 (zc 3)], .bool false] (.tuple #[.int .i64 5000, .int .i64 0]) := by
 intro w
 go_enter Tryd.func22, Tryd.ntmps22
 have LA := Has.new w 24 #[.int .u64 (za 0), .int .u64 (za 1), .int .u64 (za 2), .int .u64 (za 3)]
 have k1 := LA.cell 0 _ rfl
 have k2 := LA.cell 1 _ rfl
 have k3 := LA.cell 2 _ rfl
 have k4 := LA.cell 3 _ rfl
 have LA := LA.alloc (.cells #[.int .u64 (zb 0), .int .u64 (zb 1), .int .u64 (zb 2), .int .u64 (zb 3)] 24)
 have LB := Has.new (w.alloc (.cells #[.int .u64 (za 0), .int .u64 (za 1), .int .u64 (za 2), .int .u64 (za 3)] 24)) 24 #[.int .u64 (zb 0), .int .u64 (zb 1), .int .u64 (zb 2), .int .u64 (zb 3)]
 simp only [World.size_alloc] at LB
 have k5 := LA.cell 0 _ rfl
 have k6 := LA.cell 1 _ rfl
 have k7 := LA.cell 2 _ rfl
 have k8 := LA.cell 3 _ rfl
 have k9 := LB.cell 0 _ rfl
 have k10 := LB.cell 1 _ rfl
 have k11 := LB.cell 2 _ rfl
 have k12 := LB.cell 3 _ rfl
 have LA := LA.alloc (.cells #[.int .u64 (zc 0), .int .u64 (zc 1), .int .u64 (zc 2), .int .u64 (zc 3)] 24)
 have LB := LB.alloc (.cells #[.int .u64 (zc 0), .int .u64 (zc 1), .int .u64 (zc 2), .int .u64 (zc 3)] 24)
 have LC := Has.new ((w.alloc (.cells #[.int .u64 (za 0), .int .u64 (za 1), .int .u64 (za 2), .int .u64 (za 3)] 24)).alloc (.cells #[.int .u64 (zb 0), .int .u64 (zb 1), .int .u64 (zb 2), .int .u64 (zb 3)] 24)) 24 #[.int .u64 (zc 0), .int .u64 (zc 1), .int .u64 (zc 2), .int .u64 (zc 3)]
 simp only [World.size_alloc] at LC
 have k13 := LA.cell 0 _ rfl
 have k14 := LA.cell 1 _ rfl
 have k15 := LA.cell 2 _ rfl
 have k16 := LA.cell 3 _ rfl
 have k17 := LB.cell 0 _ rfl
 have k18 := LB.cell 1 _ rfl
 have k19 := LB.cell 2 _ rfl
 have k20 := LB.cell 3 _ rfl
 have k21 := LC.cell 0 _ rfl
 have k22 := LC.cell 1 _ rfl
 have k23 := LC.cell 2 _ rfl
 have k24 := LC.cell 3 _ rfl
 have LA := LA.alloc (.cells #[.int .u64 0, .int .u64 0, .int .u64 0, .int .u64 0] 24)
 have LB := LB.alloc (.cells #[.int .u64 0, .int .u64 0, .int .u64 0, .int .u64 0] 24)
 have LC := LC.alloc (.cells #[.int .u64 0, .int .u64 0, .int .u64 0, .int .u64 0] 24)
 have LN := Has.new (((w.alloc (.cells #[.int .u64 (za 0), .int .u64 (za 1), .int .u64 (za 2), .int .u64 (za 3)] 24)).alloc (.cells #[.int .u64 (zb 0), .int .u64 (zb 1), .int .u64 (zb 2), .int .u64 (zb 3)] 24)).alloc (.cells #[.int .u64 (zc 0), .int .u64 (zc 1), .int .u64 (zc 2), .int .u64 (zc 3)] 24)) 24 #[.int .u64 0, .int .u64 0, .int .u64 0, .int .u64 0]
 simp only [World.size_alloc] at LN
 have k25 := LA.cell 0 _ rfl
 have k26 := LA.cell 1 _ rfl
 have k27 := LA.cell 2 _ rfl
 have k28 := LA.cell 3 _ rfl
 have k29 := LB.cell 0 _ rfl
 have k30 := LB.cell 1 _ rfl
 have k31 := LB.cell 2 _ rfl
 have k32 := LB.cell 3 _ rfl
 have k33 := LC.cell 0 _ rfl
 have k34 := LC.cell 1 _ rfl
 have k35 := LC.cell 2 _ rfl
 have k36 := LC.cell 3 _ rfl
 have k37 := LN.cell 0 _ rfl
 have k38 := LN.cell 1 _ rfl
 have k39 := LN.cell 2 _ rfl
 have k40 := LN.cell 3 _ rfl
 have Q := (Below.refl w.heap.size w)
 have Q := Q.alloc Q.size (.cells #[.int .u64 (za 0), .int .u64 (za 1), .int .u64 (za 2), .int .u64 (za 3)] 24)
 have Q := Q.alloc Q.size (.cells #[.int .u64 (zb 0), .int .u64 (zb 1), .int .u64 (zb 2), .int .u64 (zb 3)] 24)
 have Q := Q.alloc Q.size (.cells #[.int .u64 (zc 0), .int .u64 (zc 1), .int .u64 (zc 2), .int .u64 (zc 3)] 24)
 have Q := Q.alloc Q.size (.cells #[.int .u64 0, .int .u64 0, .int .u64 0, .int .u64 0] 24)
 go_wp2
 clear k1 k2 k3 k4 k5 k6 k7 k8 k9 k10 k11 k12 k13 k14 k15 k16 k17 k18 k19 k20 k21 k22 k23 k24 k25 k26 k27 k28 k29 k30 k31 k32 k33 k34 k35 k36 k37 k38 k39 k40
 obtain ⟨W1, hW1⟩ : ∃ W1, ((((w.alloc (.cells #[.int .u64 (za 0), .int .u64 (za 1), .int .u64 (za 2), .int .u64 (za 3)] 24)).alloc (.cells #[.int .u64 (zb 0), .int .u64 (zb 1), .int .u64 (zb 2), .int .u64 (zb 3)] 24)).alloc (.cells #[.int .u64 (zc 0), .int .u64 (zc 1), .int .u64 (zc 2), .int .u64 (zc 3)] 24)).alloc (.cells #[.int .u64 0, .int .u64 0, .int .u64 0, .int .u64 0] 24)) = W1 := ⟨_, rfl⟩
 rw [hW1] at LA LB LC LN Q ⊢
 clear hW1
 go_ret2
 exact ⟨rfl, Q⟩
theorem rstore_d_true (za zb zc : Nat → Int) (cv : ((zb 0 == zc 0) && (zb 1 == zc 1) && (zb 2 == zc 2) && (zb 3 == zc 3)) = false) (oc : ((za 0 == zb 0) && (za 1 == zb 1) && (za 2 == zb 2) && (za 3 == zb 3)) = true) (oz : ((za 0 == 0) && (za 1 == 0) && (za 2 == 0) && (za 3 == 0)) = false) (vz : ((zc 0 == 0) && (zc 1 == 0) && (zc 2 == 0) && (zc 3 == 0)) = false) :
  Ret Tryd.prog 22 #[.agg #[.int .u64 (za 0), .int .u64 (za 1), .int .u64 (za 2), .int .u64 (za 3)], .agg #[.int .u64 (zb 0), .int .u64 (zb 1), .int .u64 (zb 2), .int .u64 (zb 3)], .agg #[.int .u64 (zc 0), .int .u64 (zc 1), .int .u64 (zc 2), .int .u64 (zc 3)], .bool true] (.tuple #[.int .i64 2900, .int .i64 0]) := by
 intro w
 go_enter Tryd.func22, Tryd.ntmps22
 have LA := Has.new w 24 #[.int .u64 (za 0), .int .u64 (za 1), .int .u64 (za 2), .int .u64 (za 3)]
 have k1 := LA.cell 0 _ rfl
 have k2 := LA.cell 1 _ rfl
 have k3 := LA.cell 2 _ rfl
 have k4 := LA.cell 3 _ rfl
 have LA := LA.alloc (.cells #[.int .u64 (zb 0), .int .u64 (zb 1), .int .u64 (zb 2), .int .u64 (zb 3)] 24)
 have LB := Has.new (w.alloc (.cells #[.int .u64 (za 0), .int .u64 (za 1), .int .u64 (za 2), .int .u64 (za 3)] 24)) 24 #[.int .u64 (zb 0), .int .u64 (zb 1), .int .u64 (zb 2), .int .u64 (zb 3)]
 simp only [World.size_alloc] at LB
 have k5 := LA.cell 0 _ rfl
 have k6 := LA.cell 1 _ rfl
 have k7 := LA.cell 2 _ rfl
 have k8 := LA.cell 3 _ rfl
 have k9 := LB.cell 0 _ rfl
 have k10 := LB.cell 1 _ rfl
 have k11 := LB.cell 2 _ rfl
 have k12 := LB.cell 3 _ rfl
 have LA := LA.alloc (.cells #[.int .u64 (zc 0), .int .u64 (zc 1), .int .u64 (zc 2), .int .u64 (zc 3)] 24)
 have LB := LB.alloc (.cells #[.int .u64 (zc 0), .int .u64 (zc 1), .int .u64 (zc 2), .int .u64 (zc 3)] 24)
 have LC := Has.new ((w.alloc (.cells #[.int .u64 (za 0), .int .u64 (za 1), .int .u64 (za 2), .int .u64 (za 3)] 24)).alloc (.cells #[.int .u64 (zb 0), .int .u64 (zb 1), .int .u64 (zb 2), .int .u64 (zb 3)] 24)) 24 #[.int .u64 (zc 0), .int .u64 (zc 1), .int .u64 (zc 2), .int .u64 (zc 3)]
 simp only [World.size_alloc] at LC
 have k13 := LA.cell 0 _ rfl
 have k14 := LA.cell 1 _ rfl
 have k15 := LA.cell 2 _ rfl
 have k16 := LA.cell 3 _ rfl
 have k17 := LB.cell 0 _ rfl
 have k18 := LB.cell 1 _ rfl
 have k19 := LB.cell 2 _ rfl
 have k20 := LB.cell 3 _ rfl
 have k21 := LC.cell 0 _ rfl
 have k22 := LC.cell 1 _ rfl
 have k23 := LC.cell 2 _ rfl
 have k24 := LC.cell 3 _ rfl
 have LA := LA.alloc (.cells #[.int .u64 0, .int .u64 0, .int .u64 0, .int .u64 0] 24)
 have LB := LB.alloc (.cells #[.int .u64 0, .int .u64 0, .int .u64 0, .int .u64 0] 24)
 have LC := LC.alloc (.cells #[.int .u64 0, .int .u64 0, .int .u64 0, .int .u64 0] 24)
 have LN := Has.new (((w.alloc (.cells #[.int .u64 (za 0), .int .u64 (za 1), .int .u64 (za 2), .int .u64 (za 3)] 24)).alloc (.cells #[.int .u64 (zb 0), .int .u64 (zb 1), .int .u64 (zb 2), .int .u64 (zb 3)] 24)).alloc (.cells #[.int .u64 (zc 0), .int .u64 (zc 1), .int .u64 (zc 2), .int .u64 (zc 3)] 24)) 24 #[.int .u64 0, .int .u64 0, .int .u64 0, .int .u64 0]
 simp only [World.size_alloc] at LN
 have k25 := LA.cell 0 _ rfl
 have k26 := LA.cell 1 _ rfl
 have k27 := LA.cell 2 _ rfl
 have k28 := LA.cell 3 _ rfl
 have k29 := LB.cell 0 _ rfl
 have k30 := LB.cell 1 _ rfl
 have k31 := LB.cell 2 _ rfl
 have k32 := LB.cell 3 _ rfl
 have k33 := LC.cell 0 _ rfl
 have k34 := LC.cell 1 _ rfl
 have k35 := LC.cell 2 _ rfl
 have k36 := LC.cell 3 _ rfl
 have k37 := LN.cell 0 _ rfl
 have k38 := LN.cell 1 _ rfl
 have k39 := LN.cell 2 _ rfl
 have k40 := LN.cell 3 _ rfl
 have Q := (Below.refl w.heap.size w)
 have Q := Q.alloc Q.size (.cells #[.int .u64 (za 0), .int .u64 (za 1), .int .u64 (za 2), .int .u64 (za 3)] 24)
 have Q := Q.alloc Q.size (.cells #[.int .u64 (zb 0), .int .u64 (zb 1), .int .u64 (zb 2), .int .u64 (zb 3)] 24)
 have Q := Q.alloc Q.size (.cells #[.int .u64 (zc 0), .int .u64 (zc 1), .int .u64 (zc 2), .int .u64 (zc 3)] 24)
 have Q := Q.alloc Q.size (.cells #[.int .u64 0, .int .u64 0, .int .u64 0, .int .u64 0] 24)
 go_wp2
 clear k1 k2 k3 k4 k5 k6 k7 k8 k9 k10 k11 k12 k13 k14 k15 k16 k17 k18 k19 k20 k21 k22 k23 k24 k25 k26 k27 k28 k29 k30 k31 k32 k33 k34 k35 k36 k37 k38 k39 k40
 obtain ⟨W1, hW1⟩ : ∃ W1, ((((w.alloc (.cells #[.int .u64 (za 0), .int .u64 (za 1), .int .u64 (za 2), .int .u64 (za 3)] 24)).alloc (.cells #[.int .u64 (zb 0), .int .u64 (zb 1), .int .u64 (zb 2), .int .u64 (zb 3)] 24)).alloc (.cells #[.int .u64 (zc 0), .int .u64 (zc 1), .int .u64 (zc 2), .int .u64 (zc 3)] 24)).alloc (.cells #[.int .u64 0, .int .u64 0, .int .u64 0, .int .u64 0] 24)) = W1 := ⟨_, rfl⟩
 rw [hW1] at LA LB LC LN Q ⊢
 clear hW1
 go_ret2
 exact ⟨rfl, Q⟩
theorem rstore_e_false (za zb zc : Nat → Int) (cv : ((zb 0 == zc 0) && (zb 1 == zc 1) && (zb 2 == zc 2) && (zb 3 == zc 3)) = false) (oc : ((za 0 == zb 0) && (za 1 == zb 1) && (za 2 == zb 2) && (za 3 == zb 3)) = false) (oz : ((za 0 == 0) && (za 1 == 0) && (za 2 == 0) && (za 3 == 0)) = true) (ov : ((za 0 == zc 0) && (za 1 == zc 1) && (za 2 == zc 2) && (za 3 == zc 3)) = true) :
  Ret Tryd.prog 22 #[.agg #[.int .u64 (za 0), .int .u64 (za 1), .int .u64 (za 2), .int .u64 (za 3)], .agg #[.int .u64 (zb 0), .int .u64 (zb 1), .int .u64 (zb 2), .int .u64 (zb 3)], .agg #[.int .u64 (zc 0), .int .u64 (zc 1), .int .u64 (zc 2), .int .u64 (zc 3)], .bool false] (.tuple #[.int .i64 2200, .int .i64 19900]) := by
 intro w
 go_enter Tryd.func22, Tryd.ntmps22
 have LA := Has.new w 24 #[.int .u64 (za 0), .int .u64 (za 1), .int .u64 (za 2), .int .u64 (za 3)]
 have k1 := LA.cell 0 _ rfl
 have k2 := LA.cell 1 _ rfl
 have k3 := LA.cell 2 _ rfl
 have k4 := LA.cell 3 _ rfl
 have LA := LA.alloc (.cells #[.int .u64 (zb 0), .int .u64 (zb 1), .int .u64 (zb 2), .int .u64 (zb 3)] 24)
 have LB := Has.new (w.alloc (.cells #[.int .u64 (za 0), .int .u64 (za 1), .int .u64 (za 2), .int .u64 (za 3)] 24)) 24 #[.int .u64 (zb 0), .int .u64 (zb 1), .int .u64 (zb 2), .int .u64 (zb 3)]
 simp only [World.size_alloc] at LB
 have k5 := LA.cell 0 _ rfl
 have k6 := LA.cell 1 _ rfl
 have k7 := LA.cell 2 _ rfl
 have k8 := LA.cell 3 _ rfl
 have k9 := LB.cell 0 _ rfl
 have k10 := LB.cell 1 _ rfl
 have k11 := LB.cell 2 _ rfl
 have k12 := LB.cell 3 _ rfl
 have LA := LA.alloc (.cells #[.int .u64 (zc 0), .int .u64 (zc 1), .int .u64 (zc 2), .int .u64 (zc 3)] 24)
 have LB := LB.alloc (.cells #[.int .u64 (zc 0), .int .u64 (zc 1), .int .u64 (zc 2), .int .u64 (zc 3)] 24)
 have LC := Has.new ((w.alloc (.cells #[.int .u64 (za 0), .int .u64 (za 1), .int .u64 (za 2), .int .u64 (za 3)] 24)).alloc (.cells #[.int .u64 (zb 0), .int .u64 (zb 1), .int .u64 (zb 2), .int .u64 (zb 3)] 24)) 24 #[.int .u64 (zc 0), .int .u64 (zc 1), .int .u64 (zc 2), .int .u64 (zc 3)]
 simp only [World.size_alloc] at LC
 have k13 := LA.cell 0 _ rfl
 have k14 := LA.cell 1 _ rfl
 have k15 := LA.cell 2 _ rfl
 have k16 := LA.cell 3 _ rfl
 have k17 := LB.cell 0 _ rfl
 have k18 := LB.cell 1 _ rfl
 have k19 := LB.cell 2 _ rfl
 have k20 := LB.cell 3 _ rfl
 have k21 := LC.cell 0 _ rfl
 have k22 := LC.cell 1 _ rfl
 have k23 := LC.cell 2 _ rfl
 have k24 := LC.cell 3 _ rfl
 have LA := LA.alloc (.cells #[.int .u64 0, .int .u64 0, .int .u64 0, .int .u64 0] 24)
 have LB := LB.alloc (.cells #[.int .u64 0, .int .u64 0, .int .u64 0, .int .u64 0] 24)
 have LC := LC.alloc (.cells #[.int .u64 0, .int .u64 0, .int .u64 0, .int .u64 0] 24)
 have LN := Has.new (((w.alloc (.cells #[.int .u64 (za 0), .int .u64 (za 1), .int .u64 (za 2), .int .u64 (za 3)] 24)).alloc (.cells #[.int .u64 (zb 0), .int .u64 (zb 1), .int .u64 (zb 2), .int .u64 (zb 3)] 24)).alloc (.cells #[.int .u64 (zc 0), .int .u64 (zc 1), .int .u64 (zc 2), .int .u64 (zc 3)] 24)) 24 #[.int .u64 0, .int .u64 0, .int .u64 0, .int .u64 0]
 simp only [World.size_alloc] at LN
 have k25 := LA.cell 0 _ rfl
 have k26 := LA.cell 1 _ rfl
 have k27 := LA.cell 2 _ rfl
 have k28 := LA.cell 3 _ rfl
 have k29 := LB.cell 0 _ rfl
 have k30 := LB.cell 1 _ rfl
 have k31 := LB.cell 2 _ rfl
 have k32 := LB.cell 3 _ rfl
 have k33 := LC.cell 0 _ rfl
 have k34 := LC.cell 1 _ rfl
 have k35 := LC.cell 2 _ rfl
 have k36 := LC.cell 3 _ rfl
 have k37 := LN.cell 0 _ rfl
 have k38 := LN.cell 1 _ rfl
 have k39 := LN.cell 2 _ rfl
 have k40 := LN.cell 3 _ rfl
 have Q := (Below.refl w.heap.size w)
 have Q := Q.alloc Q.size (.cells #[.int .u64 (za 0), .int .u64 (za 1), .int .u64 (za 2), .int .u64 (za 3)] 24)
 have Q := Q.alloc Q.size (.cells #[.int .u64 (zb 0), .int .u64 (zb 1), .int .u64 (zb 2), .int .u64 (zb 3)] 24)
 have Q := Q.alloc Q.size (.cells #[.int .u64 (zc 0), .int .u64 (zc 1), .int .u64 (zc 2), .int .u64 (zc 3)] 24)
 have Q := Q.alloc Q.size (.cells #[.int .u64 0, .int .u64 0, .int .u64 0, .int .u64 0] 24)
 go_wp2
 clear k1 k2 k3 k4 k5 k6 k7 k8 k9 k10 k11 k12 k13 k14 k15 k16 k17 k18 k19 k20 k21 k22 k23 k24 k25 k26 k27 k28 k29 k30 k31 k32 k33 k34 k35 k36 k37 k38 k39 k40
 obtain ⟨W1, hW1⟩ : ∃ W1, ((((w.alloc (.cells #[.int .u64 (za 0), .int .u64 (za 1), .int .u64 (za 2), .int .u64 (za 3)] 24)).alloc (.cells #[.int .u64 (zb 0), .int .u64 (zb 1), .int .u64 (zb 2), .int .u64 (zb 3)] 24)).alloc (.cells #[.int .u64 (zc 0), .int .u64 (zc 1), .int .u64 (zc 2), .int .u64 (zc 3)] 24)).alloc (.cells #[.int .u64 0, .int .u64 0, .int .u64 0, .int .u64 0] 24)) = W1 := ⟨_, rfl⟩
 rw [hW1] at LA LB LC LN Q ⊢
 clear hW1
 go_ret2
 exact ⟨rfl, Q⟩
theorem rstore_e_true (za zb zc : Nat → Int) (cv : ((zb 0 == zc 0) && (zb 1 == zc 1) && (zb 2 == zc 2) && (zb 3 == zc 3)) = false) (oc : ((za 0 == zb 0) && (za 1 == zb 1) && (za 2 == zb 2) && (za 3 == zb 3)) = false) (oz : ((za 0 == 0) && (za 1 == 0) && (za 2 == 0) && (za 3 == 0)) = true) (ov : ((za 0 == zc 0) && (za 1 == zc 1) && (za 2 == zc 2) && (za 3 == zc 3)) = true) :
  Ret Tryd.prog 22 #[.agg #[.int .u64 (za 0), .int .u64 (za 1), .int .u64 (za 2), .int .u64 (za 3)], .agg #[.int .u64 (zb 0), .int .u64 (zb 1), .int .u64 (zb 2), .int .u64 (zb 3)], .agg #[.int .u64 (zc 0), .int .u64 (zc 1), .int .u64 (zc 2), .int .u64 (zc 3)], .bool true] (.tuple #[.int .i64 100, .int .i64 19900]) := by
 intro w
 go_enter Tryd.func22, Tryd.ntmps22
 have LA := Has.new w 24 #[.int .u64 (za 0), .int .u64 (za 1), .int .u64 (za 2), .int .u64 (za 3)]
 have k1 := LA.cell 0 _ rfl
 have k2 := LA.cell 1 _ rfl
 have k3 := LA.cell 2 _ rfl
 have k4 := LA.cell 3 _ rfl
 have LA := LA.alloc (.cells #[.int .u64 (zb 0), .int .u64 (zb 1), .int .u64 (zb 2), .int .u64 (zb 3)] 24)
 have LB := Has.new (w.alloc (.cells #[.int .u64 (za 0), .int .u64 (za 1), .int .u64 (za 2), .int .u64 (za 3)] 24)) 24 #[.int .u64 (zb 0), .int .u64 (zb 1), .int .u64 (zb 2), .int .u64 (zb 3)]
 simp only [World.size_alloc] at LB
 have k5 := LA.cell 0 _ rfl
 have k6 := LA.cell 1 _ rfl
 have k7 := LA.cell 2 _ rfl
 have k8 := LA.cell 3 _ rfl
 have k9 := LB.cell 0 _ rfl
 have k10 := LB.cell 1 _ rfl
 have k11 := LB.cell 2 _ rfl
 have k12 := LB.cell 3 _ rfl
 have LA := LA.alloc (.cells #[.int .u64 (zc 0), .int .u64 (zc 1), .int .u64 (zc 2), .int .u64 (zc 3)] 24)
 have LB := LB.alloc (.cells #[.int .u64 (zc 0), .int .u64 (zc 1), .int .u64 (zc 2), .int .u64 (zc 3)] 24)
 have LC := Has.new ((w.alloc (.cells #[.int .u64 (za 0), .int .u64 (za 1), .int .u64 (za 2), .int .u64 (za 3)] 24)).alloc (.cells #[.int .u64 (zb 0), .int .u64 (zb 1), .int .u64 (zb 2), .int .u64 (zb 3)] 24)) 24 #[.int .u64 (zc 0), .int .u64 (zc 1), .int .u64 (zc 2), .int .u64 (zc 3)]
 simp only [World.size_alloc] at LC
 have k13 := LA.cell 0 _ rfl
 have k14 := LA.cell 1 _ rfl
 have k15 := LA.cell 2 _ rfl
 have k16 := LA.cell 3 _ rfl
 have k17 := LB.cell 0 _ rfl
 have k18 := LB.cell 1 _ rfl
 have k19 := LB.cell 2 _ rfl
 have k20 := LB.cell 3 _ rfl
 have k21 := LC.cell 0 _ rfl
 have k22 := LC.cell 1 _ rfl
 have k23 := LC.cell 2 _ rfl
 have k24 := LC.cell 3 _ rfl
 have LA := LA.alloc (.cells #[.int .u64 0, .int .u64 0, .int .u64 0, .int .u64 0] 24)
 have LB := LB.alloc (.cells #[.int .u64 0, .int .u64 0, .int .u64 0, .int .u64 0] 24)
 have LC := LC.alloc (.cells #[.int .u64 0, .int .u64 0, .int .u64 0, .int .u64 0] 24)
 have LN := Has.new (((w.alloc (.cells #[.int .u64 (za 0), .int .u64 (za 1), .int .u64 (za 2), .int .u64 (za 3)] 24)).alloc (.cells #[.int .u64 (zb 0), .int .u64 (zb 1), .int .u64 (zb 2), .int .u64 (zb 3)] 24)).alloc (.cells #[.int .u64 (zc 0), .int .u64 (zc 1), .int .u64 (zc 2), .int .u64 (zc 3)] 24)) 24 #[.int .u64 0, .int .u64 0, .int .u64 0, .int .u64 0]
 simp only [World.size_alloc] at LN
 have k25 := LA.cell 0 _ rfl
 have k26 := LA.cell 1 _ rfl
 have k27 := LA.cell 2 _ rfl
 have k28 := LA.cell 3 _ rfl
 have k29 := LB.cell 0 _ rfl
 have k30 := LB.cell 1 _ rfl
 have k31 := LB.cell 2 _ rfl
 have k32 := LB.cell 3 _ rfl
 have k33 := LC.cell 0 _ rfl
 have k34 := LC.cell 1 _ rfl
 have k35 := LC.cell 2 _ rfl
 have k36 := LC.cell 3 _ rfl
 have k37 := LN.cell 0 _ rfl
 have k38 := LN.cell 1 _ rfl
 have k39 := LN.cell 2 _ rfl
 have k40 := LN.cell 3 _ rfl
 have Q := (Below.refl w.heap.size w)
 have Q := Q.alloc Q.size (.cells #[.int .u64 (za 0), .int .u64 (za 1), .int .u64 (za 2), .int .u64 (za 3)] 24)
 have Q := Q.alloc Q.size (.cells #[.int .u64 (zb 0), .int .u64 (zb 1), .int .u64 (zb 2), .int .u64 (zb 3)] 24)
 have Q := Q.alloc Q.size (.cells #[.int .u64 (zc 0), .int .u64 (zc 1), .int .u64 (zc 2), .int .u64 (zc 3)] 24)
 have Q := Q.alloc Q.size (.cells #[.int .u64 0, .int .u64 0, .int .u64 0, .int .u64 0] 24)
 go_wp2
 clear k1 k2 k3 k4 k5 k6 k7 k8 k9 k10 k11 k12 k13 k14 k15 k16 k17 k18 k19 k20 k21 k22 k23 k24 k25 k26 k27 k28 k29 k30 k31 k32 k33 k34 k35 k36 k37 k38 k39 k40
 obtain ⟨W1, hW1⟩ : ∃ W1, ((((w.alloc (.cells #[.int .u64 (za 0), .int .u64 (za 1), .int .u64 (za 2), .int .u64 (za 3)] 24)).alloc (.cells #[.int .u64 (zb 0), .int .u64 (zb 1), .int .u64 (zb 2), .int .u64 (zb 3)] 24)).alloc (.cells #[.int .u64 (zc 0), .int .u64 (zc 1), .int .u64 (zc 2), .int .u64 (zc 3)] 24)).alloc (.cells #[.int .u64 0, .int .u64 0, .int .u64 0, .int .u64 0] 24)) = W1 := ⟨_, rfl⟩
 rw [hW1] at LA LB LC LN Q ⊢
 clear hW1
 go_ret2
 exact ⟨rfl, Q⟩
theorem rstore_f_false (za zb zc : Nat → Int) (cv : ((zb 0 == zc 0) && (zb 1 == zc 1) && (zb 2 == zc 2) && (zb 3 == zc 3)) = false) (oc : ((za 0 == zb 0) && (za 1 == zb 1) && (za 2 == zb 2) && (za 3 == zb 3)) = false) (oz : ((za 0 == 0) && (za 1 == 0) && (za 2 == 0) && (za 3 == 0)) = true) (ov : ((za 0 == zc 0) && (za 1 == zc 1) && (za 2 == zc 2) && (za 3 == zc 3)) = false) :
  Ret Tryd.prog 22 #[.agg #[.int .u64 (za 0), .int .u64 (za 1), .int .u64 (za 2), .int .u64 (za 3)], .agg #[.int .u64 (zb 0), .int .u64 (zb 1), .int .u64 (zb 2), .int .u64 (zb 3)], .agg #[.int .u64 (zc 0), .int .u64 (zc 1), .int .u64 (zc 2), .int .u64 (zc 3)], .bool false] (.tuple #[.int .i64 2200, .int .i64 0]) := by
 intro w
 go_enter Tryd.func22, Tryd.ntmps22
 have LA := Has.new w 24 #[.int .u64 (za 0), .int .u64 (za 1), .int .u64 (za 2), .int .u64 (za 3)]
 have k1 := LA.cell 0 _ rfl
 have k2 := LA.cell 1 _ rfl
 have k3 := LA.cell 2 _ rfl
 have k4 := LA.cell 3 _ rfl
 have LA := LA.alloc (.cells #[.int .u64 (zb 0), .int .u64 (zb 1), .int .u64 (zb 2), .int .u64 (zb 3)] 24)
 have LB := Has.new (w.alloc (.cells #[.int .u64 (za 0), .int .u64 (za 1), .int .u64 (za 2), .int .u64 (za 3)] 24)) 24 #[.int .u64 (zb 0), .int .u64 (zb 1), .int .u64 (zb 2), .int .u64 (zb 3)]
 simp only [World.size_alloc] at LB
 have k5 := LA.cell 0 _ rfl
 have k6 := LA.cell 1 _ rfl
 have k7 := LA.cell 2 _ rfl
 have k8 := LA.cell 3 _ rfl
 have k9 := LB.cell 0 _ rfl
 have k10 := LB.cell 1 _ rfl
 have k11 := LB.cell 2 _ rfl
 have k12 := LB.cell 3 _ rfl
 have LA := LA.alloc (.cells #[.int .u64 (zc 0), .int .u64 (zc 1), .int .u64 (zc 2), .int .u64 (zc 3)] 24)
 have LB := LB.alloc (.cells #[.int .u64 (zc 0), .int .u64 (zc 1), .int .u64 (zc 2), .int .u64 (zc 3)] 24)
 have LC := Has.new ((w.alloc (.cells #[.int .u64 (za 0), .int .u64 (za 1), .int .u64 (za 2), .int .u64 (za 3)] 24)).alloc (.cells #[.int .u64 (zb 0), .int .u64 (zb 1), .int .u64 (zb 2), .int .u64 (zb 3)] 24)) 24 #[.int .u64 (zc 0), .int .u64 (zc 1), .int .u64 (zc 2), .int .u64 (zc 3)]
 simp only [World.size_alloc] at LC
 have k13 := LA.cell 0 _ rfl
 have k14 := LA.cell 1 _ rfl
 have k15 := LA.cell 2 _ rfl
 have k16 := LA.cell 3 _ rfl
 have k17 := LB.cell 0 _ rfl
 have k18 := LB.cell 1 _ rfl
 have k19 := LB.cell 2 _ rfl
 have k20 := LB.cell 3 _ rfl
 have k21 := LC.cell 0 _ rfl
 have k22 := LC.cell 1 _ rfl
 have k23 := LC.cell 2 _ rfl
 have k24 := LC.cell 3 _ rfl
 have LA := LA.alloc (.cells #[.int .u64 0, .int .u64 0, .int .u64 0, .int .u64 0] 24)
 have LB := LB.alloc (.cells #[.int .u64 0, .int .u64 0, .int .u64 0, .int .u64 0] 24)
 have LC := LC.alloc (.cells #[.int .u64 0, .int .u64 0, .int .u64 0, .int .u64 0] 24)
 have LN := Has.new (((w.alloc (.cells #[.int .u64 (za 0), .int .u64 (za 1), .int .u64 (za 2), .int .u64 (za 3)] 24)).alloc (.cells #[.int .u64 (zb 0), .int .u64 (zb 1), .int .u64 (zb 2), .int .u64 (zb 3)] 24)).alloc (.cells #[.int .u64 (zc 0), .int .u64 (zc 1), .int .u64 (zc 2), .int .u64 (zc 3)] 24)) 24 #[.int .u64 0, .int .u64 0, .int .u64 0, .int .u64 0]
 simp only [World.size_alloc] at LN
 have k25 := LA.cell 0 _ rfl
 have k26 := LA.cell 1 _ rfl
 have k27 := LA.cell 2 _ rfl
 have k28 := LA.cell 3 _ rfl
 have k29 := LB.cell 0 _ rfl
 have k30 := LB.cell 1 _ rfl
 have k31 := LB.cell 2 _ rfl
 have k32 := LB.cell 3 _ rfl
 have k33 := LC.cell 0 _ rfl
 have k34 := LC.cell 1 _ rfl
 have k35 := LC.cell 2 _ rfl
 have k36 := LC.cell 3 _ rfl
 have k37 := LN.cell 0 _ rfl
 have k38 := LN.cell 1 _ rfl
 have k39 := LN.cell 2 _ rfl
 have k40 := LN.cell 3 _ rfl
 have Q := (Below.refl w.heap.size w)
 have Q := Q.alloc Q.size (.cells #[.int .u64 (za 0), .int .u64 (za 1), .int .u64 (za 2), .int .u64 (za 3)] 24)
 have Q := Q.alloc Q.size (.cells #[.int .u64 (zb 0), .int .u64 (zb 1), .int .u64 (zb 2), .int .u64 (zb 3)] 24)
 have Q := Q.alloc Q.size (.cells #[.int .u64 (zc 0), .int .u64 (zc 1), .int .u64 (zc 2), .int .u64 (zc 3)] 24)
 have Q := Q.alloc Q.size (.cells #[.int .u64 0, .int .u64 0, .int .u64 0, .int .u64 0] 24)
 go_wp2
 clear k1 k2 k3 k4 k5 k6 k7 k8 k9 k10 k11 k12 k13 k14 k15 k16 k17 k18 k19 k20 k21 k22 k23 k24 k25 k26 k27 k28 k29 k30 k31 k32 k33 k34 k35 k36 k37 k38 k39 k40
 obtain ⟨W1, hW1⟩ : ∃ W1, ((((w.alloc (.cells #[.int .u64 (za 0), .int .u64 (za 1), .int .u64 (za 2), .int .u64 (za 3)] 24)).alloc (.cells #[.int .u64 (zb 0), .int .u64 (zb 1), .int .u64 (zb 2), .int .u64 (zb 3)] 24)).alloc (.cells #[.int .u64 (zc 0), .int .u64 (zc 1), .int .u64 (zc 2), .int .u64 (zc 3)] 24)).alloc (.cells #[.int .u64 0, .int .u64 0, .int .u64 0, .int .u64 0] 24)) = W1 := ⟨_, rfl⟩
 rw [hW1] at LA LB LC LN Q ⊢
 clear hW1
 go_ret2
 exact ⟨rfl, Q⟩
theorem rstore_f_true (za zb zc : Nat → Int) (cv : ((zb 0 == zc 0) && (zb 1 == zc 1) && (zb 2 == zc 2) && (zb 3 == zc 3)) = false) (oc : ((za 0 == zb 0) && (za 1 == zb 1) && (za 2 == zb 2) && (za 3 == zb 3)) = false) (oz : ((za 0 == 0) && (za 1 == 0) && (za 2 == 0) && (za 3 == 0)) = true) (ov : ((za 0 == zc 0) && (za 1 == zc 1) && (za 2 == zc 2) && (za 3 == zc 3)) = false) :
  Ret Tryd.prog 22 #[.agg #[.int .u64 (za 0), .int .u64 (za 1), .int .u64 (za 2), .int .u64 (za 3)], .agg #[.int .u64 (zb 0), .int .u64 (zb 1), .int .u64 (zb 2), .int .u64 (zb 3)], .agg #[.int .u64 (zc 0), .int .u64 (zc 1), .int .u64 (zc 2), .int .u64 (zc 3)], .bool true] (.tuple #[.int .i64 100, .int .i64 0]) := by
 intro w
 go_enter Tryd.func22, Tryd.ntmps22
 have LA := Has.new w 24 #[.int .u64 (za 0), .int .u64 (za 1), .int .u64 (za 2), .int .u64 (za 3)]
 have k1 := LA.cell 0 _ rfl
 have k2 := LA.cell 1 _ rfl
 have k3 := LA.cell 2 _ rfl
 have k4 := LA.cell 3 _ rfl
 have LA := LA.alloc (.cells #[.int .u64 (zb 0), .int .u64 (zb 1), .int .u64 (zb 2), .int .u64 (zb 3)] 24)
 have LB := Has.new (w.alloc (.cells #[.int .u64 (za 0), .int .u64 (za 1), .int .u64 (za 2), .int .u64 (za 3)] 24)) 24 #[.int .u64 (zb 0), .int .u64 (zb 1), .int .u64 (zb 2), .int .u64 (zb 3)]
 simp only [World.size_alloc] at LB
 have k5 := LA.cell 0 _ rfl
 have k6 := LA.cell 1 _ rfl
 have k7 := LA.cell 2 _ rfl
 have k8 := LA.cell 3 _ rfl
 have k9 := LB.cell 0 _ rfl
 have k10 := LB.cell 1 _ rfl
 have k11 := LB.cell 2 _ rfl
 have k12 := LB.cell 3 _ rfl
 have LA := LA.alloc (.cells #[.int .u64 (zc 0), .int .u64 (zc 1), .int .u64 (zc 2), .int .u64 (zc 3)] 24)
 have LB := LB.alloc (.cells #[.int .u64 (zc 0), .int .u64 (zc 1), .int .u64 (zc 2), .int .u64 (zc 3)] 24)
 have LC := Has.new ((w.alloc (.cells #[.int .u64 (za 0), .int .u64 (za 1), .int .u64 (za 2), .int .u64 (za 3)] 24)).alloc (.cells #[.int .u64 (zb 0), .int .u64 (zb 1), .int .u64 (zb 2), .int .u64 (zb 3)] 24)) 24 #[.int .u64 (zc 0), .int .u64 (zc 1), .int .u64 (zc 2), .int .u64 (zc 3)]
 simp only [World.size_alloc] at LC
 have k13 := LA.cell 0 _ rfl
 have k14 := LA.cell 1 _ rfl
 have k15 := LA.cell 2 _ rfl
 have k16 := LA.cell 3 _ rfl
 have k17 := LB.cell 0 _ rfl
 have k18 := LB.cell 1 _ rfl
 have k19 := LB.cell 2 _ rfl
 have k20 := LB.cell 3 _ rfl
 have k21 := LC.cell 0 _ rfl
 have k22 := LC.cell 1 _ rfl
 have k23 := LC.cell 2 _ rfl
 have k24 := LC.cell 3 _ rfl
 have LA := LA.alloc (.cells #[.int .u64 0, .int .u64 0, .int .u64 0, .int .u64 0] 24)
 have LB := LB.alloc (.cells #[.int .u64 0, .int .u64 0, .int .u64 0, .int .u64 0] 24)
 have LC := LC.alloc (.cells #[.int .u64 0, .int .u64 0, .int .u64 0, .int .u64 0] 24)
 have LN := Has.new (((w.alloc (.cells #[.int .u64 (za 0), .int .u64 (za 1), .int .u64 (za 2), .int .u64 (za 3)] 24)).alloc (.cells #[.int .u64 (zb 0), .int .u64 (zb 1), .int .u64 (zb 2), .int .u64 (zb 3)] 24)).alloc (.cells #[.int .u64 (zc 0), .int .u64 (zc 1), .int .u64 (zc 2), .int .u64 (zc 3)] 24)) 24 #[.int .u64 0, .int .u64 0, .int .u64 0, .int .u64 0]
 simp only [World.size_alloc] at LN
 have k25 := LA.cell 0 _ rfl
 have k26 := LA.cell 1 _ rfl
 have k27 := LA.cell 2 _ rfl
 have k28 := LA.cell 3 _ rfl
 have k29 := LB.cell 0 _ rfl
 have k30 := LB.cell 1 _ rfl
 have k31 := LB.cell 2 _ rfl
 have k32 := LB.cell 3 _ rfl
 have k33 := LC.cell 0 _ rfl
 have k34 := LC.cell 1 _ rfl
 have k35 := LC.cell 2 _ rfl
 have k36 := LC.cell 3 _ rfl
 have k37 := LN.cell 0 _ rfl
 have k38 := LN.cell 1 _ rfl
 have k39 := LN.cell 2 _ rfl
 have k40 := LN.cell 3 _ rfl
 have Q := (Below.refl w.heap.size w)
 have Q := Q.alloc Q.size (.cells #[.int .u64 (za 0), .int .u64 (za 1), .int .u64 (za 2), .int .u64 (za 3)] 24)
 have Q := Q.alloc Q.size (.cells #[.int .u64 (zb 0), .int .u64 (zb 1), .int .u64 (zb 2), .int .u64 (zb 3)] 24)
 have Q := Q.alloc Q.size (.cells #[.int .u64 (zc 0), .int .u64 (zc 1), .int .u64 (zc 2), .int .u64 (zc 3)] 24)
 have Q := Q.alloc Q.size (.cells #[.int .u64 0, .int .u64 0, .int .u64 0, .int .u64 0] 24)
 go_wp2
 clear k1 k2 k3 k4 k5 k6 k7 k8 k9 k10 k11 k12 k13 k14 k15 k16 k17 k18 k19 k20 k21 k22 k23 k24 k25 k26 k27 k28 k29 k30 k31 k32 k33 k34 k35 k36 k37 k38 k39 k40
 obtain ⟨W1, hW1⟩ : ∃ W1, ((((w.alloc (.cells #[.int .u64 (za 0), .int .u64 (za 1), .int .u64 (za 2), .int .u64 (za 3)] 24)).alloc (.cells #[.int .u64 (zb 0), .int .u64 (zb 1), .int .u64 (zb 2), .int .u64 (zb 3)] 24)).alloc (.cells #[.int .u64 (zc 0), .int .u64 (zc 1), .int .u64 (zc 2), .int .u64 (zc 3)] 24)).alloc (.cells #[.int .u64 0, .int .u64 0, .int .u64 0, .int .u64 0] 24)) = W1 := ⟨_, rfl⟩
 rw [hW1] at LA LB LC LN Q ⊢
 clear hW1
 go_ret2
 exact ⟨rfl, Q⟩
theorem rstore_g_false (za zb zc : Nat → Int) (cv : ((zb 0 == zc 0) && (zb 1 == zc 1) && (zb 2 == zc 2) && (zb 3 == zc 3)) = false) (oc : ((za 0 == zb 0) && (za 1 == zb 1) && (za 2 == zb 2) && (za 3 == zb 3)) = false) (oz : ((za 0 == 0) && (za 1 == 0) && (za 2 == 0) && (za 3 == 0)) = false) (cz : ((zb 0 == 0) && (zb 1 == 0) && (zb 2 == 0) && (zb 3 == 0)) = true) (vz : ((zc 0 == 0) && (zc 1 == 0) && (zc 2 == 0) && (zc 3 == 0)) = false) (ov : ((za 0 == zc 0) && (za 1 == zc 1) && (za 2 == zc 2) && (za 3 == zc 3)) = true) :
  Ret Tryd.prog 22 #[.agg #[.int .u64 (za 0), .int .u64 (za 1), .int .u64 (za 2), .int .u64 (za 3)], .agg #[.int .u64 (zb 0), .int .u64 (zb 1), .int .u64 (zb 2), .int .u64 (zb 3)], .agg #[.int .u64 (zc 0), .int .u64 (zc 1), .int .u64 (zc 2), .int .u64 (zc 3)], .bool false] (.tuple #[.int .i64 2200, .int .i64 (-2000)]) := by
 intro w
 go_enter Tryd.func22, Tryd.ntmps22
 have LA := Has.new w 24 #[.int .u64 (za 0), .int .u64 (za 1), .int .u64 (za 2), .int .u64 (za 3)]
 have k1 := LA.cell 0 _ rfl
 have k2 := LA.cell 1 _ rfl
 have k3 := LA.cell 2 _ rfl
 have k4 := LA.cell 3 _ rfl
 have LA := LA.alloc (.cells #[.int .u64 (zb 0), .int .u64 (zb 1), .int .u64 (zb 2), .int .u64 (zb 3)] 24)
 have LB := Has.new (w.alloc (.cells #[.int .u64 (za 0), .int .u64 (za 1), .int .u64 (za 2), .int .u64 (za 3)] 24)) 24 #[.int .u64 (zb 0), .int .u64 (zb 1), .int .u64 (zb 2), .int .u64 (zb 3)]
 simp only [World.size_alloc] at LB
 have k5 := LA.cell 0 _ rfl
 have k6 := LA.cell 1 _ rfl
 have k7 := LA.cell 2 _ rfl
 have k8 := LA.cell 3 _ rfl
 have k9 := LB.cell 0 _ rfl
 have k10 := LB.cell 1 _ rfl
 have k11 := LB.cell 2 _ rfl
 have k12 := LB.cell 3 _ rfl
 have LA := LA.alloc (.cells #[.int .u64 (zc 0), .int .u64 (zc 1), .int .u64 (zc 2), .int .u64 (zc 3)] 24)
 have LB := LB.alloc (.cells #[.int .u64 (zc 0), .int .u64 (zc 1), .int .u64 (zc 2), .int .u64 (zc 3)] 24)
 have LC := Has.new ((w.alloc (.cells #[.int .u64 (za 0), .int .u64 (za 1), .int .u64 (za 2), .int .u64 (za 3)] 24)).alloc (.cells #[.int .u64 (zb 0), .int .u64 (zb 1), .int .u64 (zb 2), .int .u64 (zb 3)] 24)) 24 #[.int .u64 (zc 0), .int .u64 (zc 1), .int .u64 (zc 2), .int .u64 (zc 3)]
 simp only [World.size_alloc] at LC
 have k13 := LA.cell 0 _ rfl
 have k14 := LA.cell 1 _ rfl
 have k15 := LA.cell 2 _ rfl
 have k16 := LA.cell 3 _ rfl
 have k17 := LB.cell 0 _ rfl
 have k18 := LB.cell 1 _ rfl
 have k19 := LB.cell 2 _ rfl
 have k20 := LB.cell 3 _ rfl
 have k21 := LC.cell 0 _ rfl
 have k22 := LC.cell 1 _ rfl
 have k23 := LC.cell 2 _ rfl
 have k24 := LC.cell 3 _ rfl
 have LA := LA.alloc (.cells #[.int .u64 0, .int .u64 0, .int .u64 0, .int .u64 0] 24)
 have LB := LB.alloc (.cells #[.int .u64 0, .int .u64 0, .int .u64 0, .int .u64 0] 24)
 have LC := LC.alloc (.cells #[.int .u64 0, .int .u64 0, .int .u64 0, .int .u64 0] 24)
 have LN := Has.new (((w.alloc (.cells #[.int .u64 (za 0), .int .u64 (za 1), .int .u64 (za 2), .int .u64 (za 3)] 24)).alloc (.cells #[.int .u64 (zb 0), .int .u64 (zb 1), .int .u64 (zb 2), .int .u64 (zb 3)] 24)).alloc (.cells #[.int .u64 (zc 0), .int .u64 (zc 1), .int .u64 (zc 2), .int .u64 (zc 3)] 24)) 24 #[.int .u64 0, .int .u64 0, .int .u64 0, .int .u64 0]
 simp only [World.size_alloc] at LN
 have k25 := LA.cell 0 _ rfl
 have k26 := LA.cell 1 _ rfl
 have k27 := LA.cell 2 _ rfl
 have k28 := LA.cell 3 _ rfl
 have k29 := LB.cell 0 _ rfl
 have k30 := LB.cell 1 _ rfl
 have k31 := LB.cell 2 _ rfl
 have k32 := LB.cell 3 _ rfl
 have k33 := LC.cell 0 _ rfl
 have k34 := LC.cell 1 _ rfl
 have k35 := LC.cell 2 _ rfl
 have k36 := LC.cell 3 _ rfl
 have k37 := LN.cell 0 _ rfl
 have k38 := LN.cell 1 _ rfl
 have k39 := LN.cell 2 _ rfl
 have k40 := LN.cell 3 _ rfl
 have Q := (Below.refl w.heap.size w)
 have Q := Q.alloc Q.size (.cells #[.int .u64 (za 0), .int .u64 (za 1), .int .u64 (za 2), .int .u64 (za 3)] 24)
 have Q := Q.alloc Q.size (.cells #[.int .u64 (zb 0), .int .u64 (zb 1), .int .u64 (zb 2), .int .u64 (zb 3)] 24)
 have Q := Q.alloc Q.size (.cells #[.int .u64 (zc 0), .int .u64 (zc 1), .int .u64 (zc 2), .int .u64 (zc 3)] 24)
 have Q := Q.alloc Q.size (.cells #[.int .u64 0, .int .u64 0, .int .u64 0, .int .u64 0] 24)
 go_wp2
 clear k1 k2 k3 k4 k5 k6 k7 k8 k9 k10 k11 k12 k13 k14 k15 k16 k17 k18 k19 k20 k21 k22 k23 k24 k25 k26 k27 k28 k29 k30 k31 k32 k33 k34 k35 k36 k37 k38 k39 k40
 obtain ⟨W1, hW1⟩ : ∃ W1, ((((w.alloc (.cells #[.int .u64 (za 0), .int .u64 (za 1), .int .u64 (za 2), .int .u64 (za 3)] 24)).alloc (.cells #[.int .u64 (zb 0), .int .u64 (zb 1), .int .u64 (zb 2), .int .u64 (zb 3)] 24)).alloc (.cells #[.int .u64 (zc 0), .int .u64 (zc 1), .int .u64 (zc 2), .int .u64 (zc 3)] 24)).alloc (.cells #[.int .u64 0, .int .u64 0, .int .u64 0, .int .u64 0] 24)) = W1 := ⟨_, rfl⟩
 rw [hW1] at LA LB LC LN Q ⊢
 clear hW1
 go_ret2
 exact ⟨rfl, Q⟩
theorem rstore_g_true (za zb zc : Nat → Int) (cv : ((zb 0 == zc 0) && (zb 1 == zc 1) && (zb 2 == zc 2) && (zb 3 == zc 3)) = false) (oc : ((za 0 == zb 0) && (za 1 == zb 1) && (za 2 == zb 2) && (za 3 == zb 3)) = false) (oz : ((za 0 == 0) && (za 1 == 0) && (za 2 == 0) && (za 3 == 0)) = false) (cz : ((zb 0 == 0) && (zb 1 == 0) && (zb 2 == 0) && (zb 3 == 0)) = true) (vz : ((zc 0 == 0) && (zc 1 == 0) && (zc 2 == 0) && (zc 3 == 0)) = false) (ov : ((za 0 == zc 0) && (za 1 == zc 1) && (za 2 == zc 2) && (za 3 == zc 3)) = true) :
  Ret Tryd.prog 22 #[.agg #[.int .u64 (za 0), .int .u64 (za 1), .int .u64 (za 2), .int .u64 (za 3)], .agg #[.int .u64 (zb 0), .int .u64 (zb 1), .int .u64 (zb 2), .int .u64 (zb 3)], .agg #[.int .u64 (zc 0), .int .u64 (zc 1), .int .u64 (zc 2), .int .u64 (zc 3)], .bool true] (.tuple #[.int .i64 100, .int .i64 (-2000)]) := by
 intro w
 go_enter Tryd.func22, Tryd.ntmps22
 have LA := Has.new w 24 #[.int .u64 (za 0), .int .u64 (za 1), .int .u64 (za 2), .int .u64 (za 3)]
 have k1 := LA.cell 0 _ rfl
 have k2 := LA.cell 1 _ rfl
 have k3 := LA.cell 2 _ rfl
 have k4 := LA.cell 3 _ rfl
 have LA := LA.alloc (.cells #[.int .u64 (zb 0), .int .u64 (zb 1), .int .u64 (zb 2), .int .u64 (zb 3)] 24)
 have LB := Has.new (w.alloc (.cells #[.int .u64 (za 0), .int .u64 (za 1), .int .u64 (za 2), .int .u64 (za 3)] 24)) 24 #[.int .u64 (zb 0), .int .u64 (zb 1), .int .u64 (zb 2), .int .u64 (zb 3)]
 simp only [World.size_alloc] at LB
 have k5 := LA.cell 0 _ rfl
 have k6 := LA.cell 1 _ rfl
 have k7 := LA.cell 2 _ rfl
 have k8 := LA.cell 3 _ rfl
 have k9 := LB.cell 0 _ rfl
 have k10 := LB.cell 1 _ rfl
 have k11 := LB.cell 2 _ rfl
 have k12 := LB.cell 3 _ rfl
 have LA := LA.alloc (.cells #[.int .u64 (zc 0), .int .u64 (zc 1), .int .u64 (zc 2), .int .u64 (zc 3)] 24)
 have LB := LB.alloc (.cells #[.int .u64 (zc 0), .int .u64 (zc 1), .int .u64 (zc 2), .int .u64 (zc 3)] 24)
 have LC := Has.new ((w.alloc (.cells #[.int .u64 (za 0), .int .u64 (za 1), .int .u64 (za 2), .int .u64 (za 3)] 24)).alloc (.cells #[.int .u64 (zb 0), .int .u64 (zb 1), .int .u64 (zb 2), .int .u64 (zb 3)] 24)) 24 #[.int .u64 (zc 0), .int .u64 (zc 1), .int .u64 (zc 2), .int .u64 (zc 3)]
 simp only [World.size_alloc] at LC
 have k13 := LA.cell 0 _ rfl
 have k14 := LA.cell 1 _ rfl
 have k15 := LA.cell 2 _ rfl
 have k16 := LA.cell 3 _ rfl
 have k17 := LB.cell 0 _ rfl
 have k18 := LB.cell 1 _ rfl
 have k19 := LB.cell 2 _ rfl
 have k20 := LB.cell 3 _ rfl
 have k21 := LC.cell 0 _ rfl
 have k22 := LC.cell 1 _ rfl
 have k23 := LC.cell 2 _ rfl
 have k24 := LC.cell 3 _ rfl
 have LA := LA.alloc (.cells #[.int .u64 0, .int .u64 0, .int .u64 0, .int .u64 0] 24)
 have LB := LB.alloc (.cells #[.int .u64 0, .int .u64 0, .int .u64 0, .int .u64 0] 24)
 have LC := LC.alloc (.cells #[.int .u64 0, .int .u64 0, .int .u64 0, .int .u64 0] 24)
 have LN := Has.new (((w.alloc (.cells #[.int .u64 (za 0), .int .u64 (za 1), .int .u64 (za 2), .int .u64 (za 3)] 24)).alloc (.cells #[.int .u64 (zb 0), .int .u64 (zb 1), .int .u64 (zb 2), .int .u64 (zb 3)] 24)).alloc (.cells #[.int .u64 (zc 0), .int .u64 (zc 1), .int .u64 (zc 2), .int .u64 (zc 3)] 24)) 24 #[.int .u64 0, .int .u64 0, .int .u64 0, .int .u64 0]
 simp only [World.size_alloc] at LN
 have k25 := LA.cell 0 _ rfl
 have k26 := LA.cell 1 _ rfl
 have k27 := LA.cell 2 _ rfl
 have k28 := LA.cell 3 _ rfl
 have k29 := LB.cell 0 _ rfl
 have k30 := LB.cell 1 _ rfl
 have k31 := LB.cell 2 _ rfl
 have k32 := LB.cell 3 _ rfl
 have k33 := LC.cell 0 _ rfl
 have k34 := LC.cell 1 _ rfl
 have k35 := LC.cell 2 _ rfl
 have k36 := LC.cell 3 _ rfl
 have k37 := LN.cell 0 _ rfl
 have k38 := LN.cell 1 _ rfl
 have k39 := LN.cell 2 _ rfl
 have k40 := LN.cell 3 _ rfl
 have Q := (Below.refl w.heap.size w)
 have Q := Q.alloc Q.size (.cells #[.int .u64 (za 0), .int .u64 (za 1), .int .u64 (za 2), .int .u64 (za 3)] 24)
 have Q := Q.alloc Q.size (.cells #[.int .u64 (zb 0), .int .u64 (zb 1), .int .u64 (zb 2), .int .u64 (zb 3)] 24)
 have Q := Q.alloc Q.size (.cells #[.int .u64 (zc 0), .int .u64 (zc 1), .int .u64 (zc 2), .int .u64 (zc 3)] 24)
 have Q := Q.alloc Q.size (.cells #[.int .u64 0, .int .u64 0, .int .u64 0, .int .u64 0] 24)
 go_wp2
 clear k1 k2 k3 k4 k5 k6 k7 k8 k9 k10 k11 k12 k13 k14 k15 k16 k17 k18 k19 k20 k21 k22 k23 k24 k25 k26 k27 k28 k29 k30 k31 k32 k33 k34 k35 k36 k37 k38 k39 k40
 obtain ⟨W1, hW1⟩ : ∃ W1, ((((w.alloc (.cells #[.int .u64 (za 0), .int .u64 (za 1), .int .u64 (za 2), .int .u64 (za 3)] 24)).alloc (.cells #[.int .u64 (zb 0), .int .u64 (zb 1), .int .u64 (zb 2), .int .u64 (zb 3)] 24)).alloc (.cells #[.int .u64 (zc 0), .int .u64 (zc 1), .int .u64 (zc 2), .int .u64 (zc 3)] 24)).alloc (.cells #[.int .u64 0, .int .u64 0, .int .u64 0, .int .u64 0] 24)) = W1 := ⟨_, rfl⟩
 rw [hW1] at LA LB LC LN Q ⊢
 clear hW1
 go_ret2
 exact ⟨rfl, Q⟩
theorem rstore_h_false (za zb zc : Nat → Int) (cv : ((zb 0 == zc 0) && (zb 1 == zc 1) && (zb 2 == zc 2) && (zb 3 == zc 3)) = false) (oc : ((za 0 == zb 0) && (za 1 == zb 1) && (za 2 == zb 2) && (za 3 == zb 3)) = false) (oz : ((za 0 == 0) && (za 1 == 0) && (za 2 == 0) && (za 3 == 0)) = false) (cz : ((zb 0 == 0) && (zb 1 == 0) && (zb 2 == 0) && (zb 3 == 0)) = true) (vz : ((zc 0 == 0) && (zc 1 == 0) && (zc 2 == 0) && (zc 3 == 0)) = false) (ov : ((za 0 == zc 0) && (za 1 == zc 1) && (za 2 == zc 2) && (za 3 == zc 3)) = false) :
  Ret Tryd.prog 22 #[.agg #[.int .u64 (za 0), .int .u64 (za 1), .int .u64 (za 2), .int .u64 (za 3)], .agg #[.int .u64 (zb 0), .int .u64 (zb 1), .int .u64 (zb 2), .int .u64 (zb 3)], .agg #[.int .u64 (zc 0), .int .u64 (zc 1), .int .u64 (zc 2), .int .u64 (zc 3)], .bool false] (.tuple #[.int .i64 2200, .int .i64 (-4800)]) := by
 intro w
 go_enter Tryd.func22, Tryd.ntmps22
 have LA := Has.new w 24 #[.int .u64 (za 0), .int .u64 (za 1), .int .u64 (za 2), .int .u64 (za 3)]
 have k1 := LA.cell 0 _ rfl
 have k2 := LA.cell 1 _ rfl
 have k3 := LA.cell 2 _ rfl
 have k4 := LA.cell 3 _ rfl
 have LA := LA.alloc (.cells #[.int .u64 (zb 0), .int .u64 (zb 1), .int .u64 (zb 2), .int .u64 (zb 3)] 24)
 have LB := Has.new (w.alloc (.cells #[.int .u64 (za 0), .int .u64 (za 1), .int .u64 (za 2), .int .u64 (za 3)] 24)) 24 #[.int .u64 (zb 0), .int .u64 (zb 1), .int .u64 (zb 2), .int .u64 (zb 3)]
 simp only [World.size_alloc] at LB
 have k5 := LA.cell 0 _ rfl
 have k6 := LA.cell 1 _ rfl
 have k7 := LA.cell 2 _ rfl
 have k8 := LA.cell 3 _ rfl
 have k9 := LB.cell 0 _ rfl
 have k10 := LB.cell 1 _ rfl
 have k11 := LB.cell 2 _ rfl
 have k12 := LB.cell 3 _ rfl
 have LA := LA.alloc (.cells #[.int .u64 (zc 0), .int .u64 (zc 1), .int .u64 (zc 2), .int .u64 (zc 3)] 24)
 have LB := LB.alloc (.cells #[.int .u64 (zc 0), .int .u64 (zc 1), .int .u64 (zc 2), .int .u64 (zc 3)] 24)
 have LC := Has.new ((w.alloc (.cells #[.int .u64 (za 0), .int .u64 (za 1), .int .u64 (za 2), .int .u64 (za 3)] 24)).alloc (.cells #[.int .u64 (zb 0), .int .u64 (zb 1), .int .u64 (zb 2), .int .u64 (zb 3)] 24)) 24 #[.int .u64 (zc 0), .int .u64 (zc 1), .int .u64 (zc 2), .int .u64 (zc 3)]
 simp only [World.size_alloc] at LC
 have k13 := LA.cell 0 _ rfl
 have k14 := LA.cell 1 _ rfl
 have k15 := LA.cell 2 _ rfl
 have k16 := LA.cell 3 _ rfl
 have k17 := LB.cell 0 _ rfl
 have k18 := LB.cell 1 _ rfl
 have k19 := LB.cell 2 _ rfl
 have k20 := LB.cell 3 _ rfl
 have k21 := LC.cell 0 _ rfl
 have k22 := LC.cell 1 _ rfl
 have k23 := LC.cell 2 _ rfl
 have k24 := LC.cell 3 _ rfl
 have LA := LA.alloc (.cells #[.int .u64 0, .int .u64 0, .int .u64 0, .int .u64 0] 24)
 have LB := LB.alloc (.cells #[.int .u64 0, .int .u64 0, .int .u64 0, .int .u64 0] 24)
 have LC := LC.alloc (.cells #[.int .u64 0, .int .u64 0, .int .u64 0, .int .u64 0] 24)
 have LN := Has.new (((w.alloc (.cells #[.int .u64 (za 0), .int .u64 (za 1), .int .u64 (za 2), .int .u64 (za 3)] 24)).alloc (.cells #[.int .u64 (zb 0), .int .u64 (zb 1), .int .u64 (zb 2), .int .u64 (zb 3)] 24)).alloc (.cells #[.int .u64 (zc 0), .int .u64 (zc 1), .int .u64 (zc 2), .int .u64 (zc 3)] 24)) 24 #[.int .u64 0, .int .u64 0, .int .u64 0, .int .u64 0]
 simp only [World.size_alloc] at LN
 have k25 := LA.cell 0 _ rfl
 have k26 := LA.cell 1 _ rfl
 have k27 := LA.cell 2 _ rfl
 have k28 := LA.cell 3 _ rfl
 have k29 := LB.cell 0 _ rfl
 have k30 := LB.cell 1 _ rfl
 have k31 := LB.cell 2 _ rfl
 have k32 := LB.cell 3 _ rfl
 have k33 := LC.cell 0 _ rfl
 have k34 := LC.cell 1 _ rfl
 have k35 := LC.cell 2 _ rfl
 have k36 := LC.cell 3 _ rfl
 have k37 := LN.cell 0 _ rfl
 have k38 := LN.cell 1 _ rfl
 have k39 := LN.cell 2 _ rfl
 have k40 := LN.cell 3 _ rfl
 have Q := (Below.refl w.heap.size w)
 have Q := Q.alloc Q.size (.cells #[.int .u64 (za 0), .int .u64 (za 1), .int .u64 (za 2), .int .u64 (za 3)] 24)
 have Q := Q.alloc Q.size (.cells #[.int .u64 (zb 0), .int .u64 (zb 1), .int .u64 (zb 2), .int .u64 (zb 3)] 24)
 have Q := Q.alloc Q.size (.cells #[.int .u64 (zc 0), .int .u64 (zc 1), .int .u64 (zc 2), .int .u64 (zc 3)] 24)
 have Q := Q.alloc Q.size (.cells #[.int .u64 0, .int .u64 0, .int .u64 0, .int .u64 0] 24)
 go_wp2
 clear k1 k2 k3 k4 k5 k6 k7 k8 k9 k10 k11 k12 k13 k14 k15 k16 k17 k18 k19 k20 k21 k22 k23 k24 k25 k26 k27 k28 k29 k30 k31 k32 k33 k34 k35 k36 k37 k38 k39 k40
 obtain ⟨W1, hW1⟩ : ∃ W1, ((((w.alloc (.cells #[.int .u64 (za 0), .int .u64 (za 1), .int .u64 (za 2), .int .u64 (za 3)] 24)).alloc (.cells #[.int .u64 (zb 0), .int .u64 (zb 1), .int .u64 (zb 2), .int .u64 (zb 3)] 24)).alloc (.cells #[.int .u64 (zc 0), .int .u64 (zc 1), .int .u64 (zc 2), .int .u64 (zc 3)] 24)).alloc (.cells #[.int .u64 0, .int .u64 0, .int .u64 0, .int .u64 0] 24)) = W1 := ⟨_, rfl⟩
 rw [hW1] at LA LB LC LN Q ⊢
 clear hW1
 go_ret2
 exact ⟨rfl, Q⟩
theorem rstore_h_true (za zb zc : Nat → Int) (cv : ((zb 0 == zc 0) && (zb 1 == zc 1) && (zb 2 == zc 2) && (zb 3 == zc 3)) = false) (oc : ((za 0 == zb 0) && (za 1 == zb 1) && (za 2 == zb 2) && (za 3 == zb 3)) = false) (oz : ((za 0 == 0) && (za 1 == 0) && (za 2 == 0) && (za 3 == 0)) = false) (cz : ((zb 0 == 0) && (zb 1 == 0) && (zb 2 == 0) && (zb 3 == 0)) = true) (vz : ((zc 0 == 0) && (zc 1 == 0) && (zc 2 == 0) && (zc 3 == 0)) = false) (ov : ((za 0 == zc 0) && (za 1 == zc 1) && (za 2 == zc 2) && (za 3 == zc 3)) = false) :
  Ret Tryd.prog 22 #[.agg #[.int .u64 (za 0), .int .u64 (za 1), .int .u64 (za 2), .int .u64 (za 3)], .agg #[.int .u64 (zb 0), .int .u64 (zb 1), .int .u64 (zb 2), .int .u64 (zb 3)], .agg #[.int .u64 (zc 0), .int .u64 (zc 1), .int .u64 (zc 2), .int .u64 (zc 3)], .bool true] (.tuple #[.int .i64 100, .int .i64 (-4800)]) := by
 intro w
 go_enter Tryd.func22, Tryd.ntmps22
 have LA := Has.new w 24 #[.int .u64 (za 0), .int .u64 (za 1), .int .u64 (za 2), .int .u64 (za 3)]
 have k1 := LA.cell 0 _ rfl
 have k2 := LA.cell 1 _ rfl
 have k3 := LA.cell 2 _ rfl
 have k4 := LA.cell 3 _ rfl
 have LA := LA.alloc (.cells #[.int .u64 (zb 0), .int .u64 (zb 1), .int .u64 (zb 2), .int .u64 (zb 3)] 24)
 have LB := Has.new (w.alloc (.cells #[.int .u64 (za 0), .int .u64 (za 1), .int .u64 (za 2), .int .u64 (za 3)] 24)) 24 #[.int .u64 (zb 0), .int .u64 (zb 1), .int .u64 (zb 2), .int .u64 (zb 3)]
 simp only [World.size_alloc] at LB
 have k5 := LA.cell 0 _ rfl
 have k6 := LA.cell 1 _ rfl
 have k7 := LA.cell 2 _ rfl
 have k8 := LA.cell 3 _ rfl
 have k9 := LB.cell 0 _ rfl
 have k10 := LB.cell 1 _ rfl
 have k11 := LB.cell 2 _ rfl
 have k12 := LB.cell 3 _ rfl
 have LA := LA.alloc (.cells #[.int .u64 (zc 0), .int .u64 (zc 1), .int .u64 (zc 2), .int .u64 (zc 3)] 24)
 have LB := LB.alloc (.cells #[.int .u64 (zc 0), .int .u64 (zc 1), .int .u64 (zc 2), .int .u64 (zc 3)] 24)
 have LC := Has.new ((w.alloc (.cells #[.int .u64 (za 0), .int .u64 (za 1), .int .u64 (za 2), .int .u64 (za 3)] 24)).alloc (.cells #[.int .u64 (zb 0), .int .u64 (zb 1), .int .u64 (zb 2), .int .u64 (zb 3)] 24)) 24 #[.int .u64 (zc 0), .int .u64 (zc 1), .int .u64 (zc 2), .int .u64 (zc 3)]
 simp only [World.size_alloc] at LC
 have k13 := LA.cell 0 _ rfl
 have k14 := LA.cell 1 _ rfl
 have k15 := LA.cell 2 _ rfl
 have k16 := LA.cell 3 _ rfl
 have k17 := LB.cell 0 _ rfl
 have k18 := LB.cell 1 _ rfl
 have k19 := LB.cell 2 _ rfl
 have k20 := LB.cell 3 _ rfl
 have k21 := LC.cell 0 _ rfl
 have k22 := LC.cell 1 _ rfl
 have k23 := LC.cell 2 _ rfl
 have k24 := LC.cell 3 _ rfl
 have LA := LA.alloc (.cells #[.int .u64 0, .int .u64 0, .int .u64 0, .int .u64 0] 24)
 have LB := LB.alloc (.cells #[.int .u64 0, .int .u64 0, .int .u64 0, .int .u64 0] 24)
 have LC := LC.alloc (.cells #[.int .u64 0, .int .u64 0, .int .u64 0, .int .u64 0] 24)
 have LN := Has.new (((w.alloc (.cells #[.int .u64 (za 0), .int .u64 (za 1), .int .u64 (za 2), .int .u64 (za 3)] 24)).alloc (.cells #[.int .u64 (zb 0), .int .u64 (zb 1), .int .u64 (zb 2), .int .u64 (zb 3)] 24)).alloc (.cells #[.int .u64 (zc 0), .int .u64 (zc 1), .int .u64 (zc 2), .int .u64 (zc 3)] 24)) 24 #[.int .u64 0, .int .u64 0, .int .u64 0, .int .u64 0]
 simp only [World.size_alloc] at LN
 have k25 := LA.cell 0 _ rfl
 have k26 := LA.cell 1 _ rfl
 have k27 := LA.cell 2 _ rfl
 have k28 := LA.cell 3 _ rfl
 have k29 := LB.cell 0 _ rfl
 have k30 := LB.cell 1 _ rfl
 have k31 := LB.cell 2 _ rfl
 have k32 := LB.cell 3 _ rfl
 have k33 := LC.cell 0 _ rfl
 have k34 := LC.cell 1 _ rfl
 have k35 := LC.cell 2 _ rfl
 have k36 := LC.cell 3 _ rfl
 have k37 := LN.cell 0 _ rfl
 have k38 := LN.cell 1 _ rfl
 have k39 := LN.cell 2 _ rfl
 have k40 := LN.cell 3 _ rfl
 have Q := (Below.refl w.heap.size w)
 have Q := Q.alloc Q.size (.cells #[.int .u64 (za 0), .int .u64 (za 1), .int .u64 (za 2), .int .u64 (za 3)] 24)
 have Q := Q.alloc Q.size (.cells #[.int .u64 (zb 0), .int .u64 (zb 1), .int .u64 (zb 2), .int .u64 (zb 3)] 24)
 have Q := Q.alloc Q.size (.cells #[.int .u64 (zc 0), .int .u64 (zc 1), .int .u64 (zc 2), .int .u64 (zc 3)] 24)
 have Q := Q.alloc Q.size (.cells #[.int .u64 0, .int .u64 0, .int .u64 0, .int .u64 0] 24)
 go_wp2
 clear k1 k2 k3 k4 k5 k6 k7 k8 k9 k10 k11 k12 k13 k14 k15 k16 k17 k18 k19 k20 k21 k22 k23 k24 k25 k26 k27 k28 k29 k30 k31 k32 k33 k34 k35 k36 k37 k38 k39 k40
 obtain ⟨W1, hW1⟩ : ∃ W1, ((((w.alloc (.cells #[.int .u64 (za 0), .int .u64 (za 1), .int .u64 (za 2), .int .u64 (za 3)] 24)).alloc (.cells #[.int .u64 (zb 0), .int .u64 (zb 1), .int .u64 (zb 2), .int .u64 (zb 3)] 24)).alloc (.cells #[.int .u64 (zc 0), .int .u64 (zc 1), .int .u64 (zc 2), .int .u64 (zc 3)] 24)).alloc (.cells #[.int .u64 0, .int .u64 0, .int .u64 0, .int .u64 0] 24)) = W1 := ⟨_, rfl⟩
 rw [hW1] at LA LB LC LN Q ⊢
 clear hW1
 go_ret2
 exact ⟨rfl, Q⟩
theorem rstore_i_false (za zb zc : Nat → Int) (cv : ((zb 0 == zc 0) && (zb 1 == zc 1) && (zb 2 == zc 2) && (zb 3 == zc 3)) = false) (oc : ((za 0 == zb 0) && (za 1 == zb 1) && (za 2 == zb 2) && (za 3 == zb 3)) = false) (oz : ((za 0 == 0) && (za 1 == 0) && (za 2 == 0) && (za 3 == 0)) = false) (cz : ((zb 0 == 0) && (zb 1 == 0) && (zb 2 == 0) && (zb 3 == 0)) = false) (vz : ((zc 0 == 0) && (zc 1 == 0) && (zc 2 == 0) && (zc 3 == 0)) = true) (ov : ((za 0 == zc 0) && (za 1 == zc 1) && (za 2 == zc 2) && (za 3 == zc 3)) = false) :
  Ret Tryd.prog 22 #[.agg #[.int .u64 (za 0), .int .u64 (za 1), .int .u64 (za 2), .int .u64 (za 3)], .agg #[.int .u64 (zb 0), .int .u64 (zb 1), .int .u64 (zb 2), .int .u64 (zb 3)], .agg #[.int .u64 (zc 0), .int .u64 (zc 1), .int .u64 (zc 2), .int .u64 (zc 3)], .bool false] (.tuple #[.int .i64 2200, .int .i64 4800]) := by
 intro w
 go_enter Tryd.func22, Tryd.ntmps22
 have LA := Has.new w 24 #[.int .u64 (za 0), .int .u64 (za 1), .int .u64 (za 2), .int .u64 (za 3)]
 have k1 := LA.cell 0 _ rfl
 have k2 := LA.cell 1 _ rfl
 have k3 := LA.cell 2 _ rfl
 have k4 := LA.cell 3 _ rfl
 have LA := LA.alloc (.cells #[.int .u64 (zb 0), .int .u64 (zb 1), .int .u64 (zb 2), .int .u64 (zb 3)] 24)
 have LB := Has.new (w.alloc (.cells #[.int .u64 (za 0), .int .u64 (za 1), .int .u64 (za 2), .int .u64 (za 3)] 24)) 24 #[.int .u64 (zb 0), .int .u64 (zb 1), .int .u64 (zb 2), .int .u64 (zb 3)]
 simp only [World.size_alloc] at LB
 have k5 := LA.cell 0 _ rfl
 have k6 := LA.cell 1 _ rfl
 have k7 := LA.cell 2 _ rfl
 have k8 := LA.cell 3 _ rfl
 have k9 := LB.cell 0 _ rfl
 have k10 := LB.cell 1 _ rfl
 have k11 := LB.cell 2 _ rfl
 have k12 := LB.cell 3 _ rfl
 have LA := LA.alloc (.cells #[.int .u64 (zc 0), .int .u64 (zc 1), .int .u64 (zc 2), .int .u64 (zc 3)] 24)
 have LB := LB.alloc (.cells #[.int .u64 (zc 0), .int .u64 (zc 1), .int .u64 (zc 2), .int .u64 (zc 3)] 24)
 have LC := Has.new ((w.alloc (.cells #[.int .u64 (za 0), .int .u64 (za 1), .int .u64 (za 2), .int .u64 (za 3)] 24)).alloc (.cells #[.int .u64 (zb 0), .int .u64 (zb 1), .int .u64 (zb 2), .int .u64 (zb 3)] 24)) 24 #[.int .u64 (zc 0), .int .u64 (zc 1), .int .u64 (zc 2), .int .u64 (zc 3)]
 simp only [World.size_alloc] at LC
 have k13 := LA.cell 0 _ rfl
 have k14 := LA.cell 1 _ rfl
 have k15 := LA.cell 2 _ rfl
 have k16 := LA.cell 3 _ rfl
 have k17 := LB.cell 0 _ rfl
 have k18 := LB.cell 1 _ rfl
 have k19 := LB.cell 2 _ rfl
 have k20 := LB.cell 3 _ rfl
 have k21 := LC.cell 0 _ rfl
 have k22 := LC.cell 1 _ rfl
 have k23 := LC.cell 2 _ rfl
 have k24 := LC.cell 3 _ rfl
 have LA := LA.alloc (.cells #[.int .u64 0, .int .u64 0, .int .u64 0, .int .u64 0] 24)
 have LB := LB.alloc (.cells #[.int .u64 0, .int .u64 0, .int .u64 0, .int .u64 0] 24)
 have LC := LC.alloc (.cells #[.int .u64 0, .int .u64 0, .int .u64 0, .int .u64 0] 24)
 have LN := Has.new (((w.alloc (.cells #[.int .u64 (za 0), .int .u64 (za 1), .int .u64 (za 2), .int .u64 (za 3)] 24)).alloc (.cells #[.int .u64 (zb 0), .int .u64 (zb 1), .int .u64 (zb 2), .int .u64 (zb 3)] 24)).alloc (.cells #[.int .u64 (zc 0), .int .u64 (zc 1), .int .u64 (zc 2), .int .u64 (zc 3)] 24)) 24 #[.int .u64 0, .int .u64 0, .int .u64 0, .int .u64 0]
 simp only [World.size_alloc] at LN
 have k25 := LA.cell 0 _ rfl
 have k26 := LA.cell 1 _ rfl
 have k27 := LA.cell 2 _ rfl
 have k28 := LA.cell 3 _ rfl
 have k29 := LB.cell 0 _ rfl
 have k30 := LB.cell 1 _ rfl
 have k31 := LB.cell 2 _ rfl
 have k32 := LB.cell 3 _ rfl
 have k33 := LC.cell 0 _ rfl
 have k34 := LC.cell 1 _ rfl
 have k35 := LC.cell 2 _ rfl
 have k36 := LC.cell 3 _ rfl
 have k37 := LN.cell 0 _ rfl
 have k38 := LN.cell 1 _ rfl
 have k39 := LN.cell 2 _ rfl
 have k40 := LN.cell 3 _ rfl
 have Q := (Below.refl w.heap.size w)
 have Q := Q.alloc Q.size (.cells #[.int .u64 (za 0), .int .u64 (za 1), .int .u64 (za 2), .int .u64 (za 3)] 24)
 have Q := Q.alloc Q.size (.cells #[.int .u64 (zb 0), .int .u64 (zb 1), .int .u64 (zb 2), .int .u64 (zb 3)] 24)
 have Q := Q.alloc Q.size (.cells #[.int .u64 (zc 0), .int .u64 (zc 1), .int .u64 (zc 2), .int .u64 (zc 3)] 24)
 have Q := Q.alloc Q.size (.cells #[.int .u64 0, .int .u64 0, .int .u64 0, .int .u64 0] 24)
 go_wp2
 clear k1 k2 k3 k4 k5 k6 k7 k8 k9 k10 k11 k12 k13 k14 k15 k16 k17 k18 k19 k20 k21 k22 k23 k24 k25 k26 k27 k28 k29 k30 k31 k32 k33 k34 k35 k36 k37 k38 k39 k40
 obtain ⟨W1, hW1⟩ : ∃ W1, ((((w.alloc (.cells #[.int .u64 (za 0), .int .u64 (za 1), .int .u64 (za 2), .int .u64 (za 3)] 24)).alloc (.cells #[.int .u64 (zb 0), .int .u64 (zb 1), .int .u64 (zb 2), .int .u64 (zb 3)] 24)).alloc (.cells #[.int .u64 (zc 0), .int .u64 (zc 1), .int .u64 (zc 2), .int .u64 (zc 3)] 24)).alloc (.cells #[.int .u64 0, .int .u64 0, .int .u64 0, .int .u64 0] 24)) = W1 := ⟨_, rfl⟩
 rw [hW1] at LA LB LC LN Q ⊢
 clear hW1
 go_ret2
 exact ⟨rfl, Q⟩
theorem rstore_i_true (za zb zc : Nat → Int) (cv : ((zb 0 == zc 0) && (zb 1 == zc 1) && (zb 2 == zc 2) && (zb 3 == zc 3)) = false) (oc : ((za 0 == zb 0) && (za 1 == zb 1) && (za 2 == zb 2) && (za 3 == zb 3)) = false) (oz : ((za 0 == 0) && (za 1 == 0) && (za 2 == 0) && (za 3 == 0)) = false) (cz : ((zb 0 == 0) && (zb 1 == 0) && (zb 2 == 0) && (zb 3 == 0)) = false) (vz : ((zc 0 == 0) && (zc 1 == 0) && (zc 2 == 0) && (zc 3 == 0)) = true) (ov : ((za 0 == zc 0) && (za 1 == zc 1) && (za 2 == zc 2) && (za 3 == zc 3)) = false) :
  Ret Tryd.prog 22 #[.agg #[.int .u64 (za 0), .int .u64 (za 1), .int .u64 (za 2), .int .u64 (za 3)], .agg #[.int .u64 (zb 0), .int .u64 (zb 1), .int .u64 (zb 2), .int .u64 (zb 3)], .agg #[.int .u64 (zc 0), .int .u64 (zc 1), .int .u64 (zc 2), .int .u64 (zc 3)], .bool true] (.tuple #[.int .i64 100, .int .i64 4800]) := by
 intro w
 go_enter Tryd.func22, Tryd.ntmps22
 have LA := Has.new w 24 #[.int .u64 (za 0), .int .u64 (za 1), .int .u64 (za 2), .int .u64 (za 3)]
 have k1 := LA.cell 0 _ rfl
 have k2 := LA.cell 1 _ rfl
 have k3 := LA.cell 2 _ rfl
 have k4 := LA.cell 3 _ rfl
 have LA := LA.alloc (.cells #[.int .u64 (zb 0), .int .u64 (zb 1), .int .u64 (zb 2), .int .u64 (zb 3)] 24)
 have LB := Has.new (w.alloc (.cells #[.int .u64 (za 0), .int .u64 (za 1), .int .u64 (za 2), .int .u64 (za 3)] 24)) 24 #[.int .u64 (zb 0), .int .u64 (zb 1), .int .u64 (zb 2), .int .u64 (zb 3)]
 simp only [World.size_alloc] at LB
 have k5 := LA.cell 0 _ rfl
 have k6 := LA.cell 1 _ rfl
 have k7 := LA.cell 2 _ rfl
 have k8 := LA.cell 3 _ rfl
 have k9 := LB.cell 0 _ rfl
 have k10 := LB.cell 1 _ rfl
 have k11 := LB.cell 2 _ rfl
 have k12 := LB.cell 3 _ rfl
 have LA := LA.alloc (.cells #[.int .u64 (zc 0), .int .u64 (zc 1), .int .u64 (zc 2), .int .u64 (zc 3)] 24)
 have LB := LB.alloc (.cells #[.int .u64 (zc 0), .int .u64 (zc 1), .int .u64 (zc 2), .int .u64 (zc 3)] 24)
 have LC := Has.new ((w.alloc (.cells #[.int .u64 (za 0), .int .u64 (za 1), .int .u64 (za 2), .int .u64 (za 3)] 24)).alloc (.cells #[.int .u64 (zb 0), .int .u64 (zb 1), .int .u64 (zb 2), .int .u64 (zb 3)] 24)) 24 #[.int .u64 (zc 0), .int .u64 (zc 1), .int .u64 (zc 2), .int .u64 (zc 3)]
 simp only [World.size_alloc] at LC
 have k13 := LA.cell 0 _ rfl
 have k14 := LA.cell 1 _ rfl
 have k15 := LA.cell 2 _ rfl
 have k16 := LA.cell 3 _ rfl
 have k17 := LB.cell 0 _ rfl
 have k18 := LB.cell 1 _ rfl
 have k19 := LB.cell 2 _ rfl
 have k20 := LB.cell 3 _ rfl
 have k21 := LC.cell 0 _ rfl
 have k22 := LC.cell 1 _ rfl
 have k23 := LC.cell 2 _ rfl
 have k24 := LC.cell 3 _ rfl
 have LA := LA.alloc (.cells #[.int .u64 0, .int .u64 0, .int .u64 0, .int .u64 0] 24)
 have LB := LB.alloc (.cells #[.int .u64 0, .int .u64 0, .int .u64 0, .int .u64 0] 24)
 have LC := LC.alloc (.cells #[.int .u64 0, .int .u64 0, .int .u64 0, .int .u64 0] 24)
 have LN := Has.new (((w.alloc (.cells #[.int .u64 (za 0), .int .u64 (za 1), .int .u64 (za 2), .int .u64 (za 3)] 24)).alloc (.cells #[.int .u64 (zb 0), .int .u64 (zb 1), .int .u64 (zb 2), .int .u64 (zb 3)] 24)).alloc (.cells #[.int .u64 (zc 0), .int .u64 (zc 1), .int .u64 (zc 2), .int .u64 (zc 3)] 24)) 24 #[.int .u64 0, .int .u64 0, .int .u64 0, .int .u64 0]
 simp only [World.size_alloc] at LN
 have k25 := LA.cell 0 _ rfl
 have k26 := LA.cell 1 _ rfl
 have k27 := LA.cell 2 _ rfl
 have k28 := LA.cell 3 _ rfl
 have k29 := LB.cell 0 _ rfl
 have k30 := LB.cell 1 _ rfl
 have k31 := LB.cell 2 _ rfl
 have k32 := LB.cell 3 _ rfl
 have k33 := LC.cell 0 _ rfl
 have k34 := LC.cell 1 _ rfl
 have k35 := LC.cell 2 _ rfl
 have k36 := LC.cell 3 _ rfl
 have k37 := LN.cell 0 _ rfl
 have k38 := LN.cell 1 _ rfl
 have k39 := LN.cell 2 _ rfl
 have k40 := LN.cell 3 _ rfl
 have Q := (Below.refl w.heap.size w)
 have Q := Q.alloc Q.size (.cells #[.int .u64 (za 0), .int .u64 (za 1), .int .u64 (za 2), .int .u64 (za 3)] 24)
 have Q := Q.alloc Q.size (.cells #[.int .u64 (zb 0), .int .u64 (zb 1), .int .u64 (zb 2), .int .u64 (zb 3)] 24)
 have Q := Q.alloc Q.size (.cells #[.int .u64 (zc 0), .int .u64 (zc 1), .int .u64 (zc 2), .int .u64 (zc 3)] 24)
 have Q := Q.alloc Q.size (.cells #[.int .u64 0, .int .u64 0, .int .u64 0, .int .u64 0] 24)
 go_wp2
 clear k1 k2 k3 k4 k5 k6 k7 k8 k9 k10 k11 k12 k13 k14 k15 k16 k17 k18 k19 k20 k21 k22 k23 k24 k25 k26 k27 k28 k29 k30 k31 k32 k33 k34 k35 k36 k37 k38 k39 k40
 obtain ⟨W1, hW1⟩ : ∃ W1, ((((w.alloc (.cells #[.int .u64 (za 0), .int .u64 (za 1), .int .u64 (za 2), .int .u64 (za 3)] 24)).alloc (.cells #[.int .u64 (zb 0), .int .u64 (zb 1), .int .u64 (zb 2), .int .u64 (zb 3)] 24)).alloc (.cells #[.int .u64 (zc 0), .int .u64 (zc 1), .int .u64 (zc 2), .int .u64 (zc 3)] 24)).alloc (.cells #[.int .u64 0, .int .u64 0, .int .u64 0, .int .u64 0] 24)) = W1 := ⟨_, rfl⟩
 rw [hW1] at LA LB LC LN Q ⊢
 clear hW1
 go_ret2
 exact ⟨rfl, Q⟩
theorem rstore_j_false (za zb zc : Nat → Int) (cv : ((zb 0 == zc 0) && (zb 1 == zc 1) && (zb 2 == zc 2) && (zb 3 == zc 3)) = false) (oc : ((za 0 == zb 0) && (za 1 == zb 1) && (za 2 == zb 2) && (za 3 == zb 3)) = false) (oz : ((za 0 == 0) && (za 1 == 0) && (za 2 == 0) && (za 3 == 0)) = false) (cz : ((zb 0 == 0) && (zb 1 == 0) && (zb 2 == 0) && (zb 3 == 0)) = false) (vz : ((zc 0 == 0) && (zc 1 == 0) && (zc 2 == 0) && (zc 3 == 0)) = false) (ov : ((za 0 == zc 0) && (za 1 == zc 1) && (za 2 == zc 2) && (za 3 == zc 3)) = true) :
  Ret Tryd.prog 22 #[.agg #[.int .u64 (za 0), .int .u64 (za 1), .int .u64 (za 2), .int .u64 (za 3)], .agg #[.int .u64 (zb 0), .int .u64 (zb 1), .int .u64 (zb 2), .int .u64 (zb 3)], .agg #[.int .u64 (zc 0), .int .u64 (zc 1), .int .u64 (zc 2), .int .u64 (zc 3)], .bool false] (.tuple #[.int .i64 2200, .int .i64 2800]) := by
 intro w
 go_enter Tryd.func22, Tryd.ntmps22
 have LA := Has.new w 24 #[.int .u64 (za 0), .int .u64 (za 1), .int .u64 (za 2), .int .u64 (za 3)]
 have k1 := LA.cell 0 _ rfl
 have k2 := LA.cell 1 _ rfl
 have k3 := LA.cell 2 _ rfl
 have k4 := LA.cell 3 _ rfl
 have LA := LA.alloc (.cells #[.int .u64 (zb 0), .int .u64 (zb 1), .int .u64 (zb 2), .int .u64 (zb 3)] 24)
 have LB := Has.new (w.alloc (.cells #[.int .u64 (za 0), .int .u64 (za 1), .int .u64 (za 2), .int .u64 (za 3)] 24)) 24 #[.int .u64 (zb 0), .int .u64 (zb 1), .int .u64 (zb 2), .int .u64 (zb 3)]
 simp only [World.size_alloc] at LB
 have k5 := LA.cell 0 _ rfl
 have k6 := LA.cell 1 _ rfl
 have k7 := LA.cell 2 _ rfl
 have k8 := LA.cell 3 _ rfl
 have k9 := LB.cell 0 _ rfl
 have k10 := LB.cell 1 _ rfl
 have k11 := LB.cell 2 _ rfl
 have k12 := LB.cell 3 _ rfl
 have LA := LA.alloc (.cells #[.int .u64 (zc 0), .int .u64 (zc 1), .int .u64 (zc 2), .int .u64 (zc 3)] 24)
 have LB := LB.alloc (.cells #[.int .u64 (zc 0), .int .u64 (zc 1), .int .u64 (zc 2), .int .u64 (zc 3)] 24)
 have LC := Has.new ((w.alloc (.cells #[.int .u64 (za 0), .int .u64 (za 1), .int .u64 (za 2), .int .u64 (za 3)] 24)).alloc (.cells #[.int .u64 (zb 0), .int .u64 (zb 1), .int .u64 (zb 2), .int .u64 (zb 3)] 24)) 24 #[.int .u64 (zc 0), .int .u64 (zc 1), .int .u64 (zc 2), .int .u64 (zc 3)]
 simp only [World.size_alloc] at LC
 have k13 := LA.cell 0 _ rfl
 have k14 := LA.cell 1 _ rfl
 have k15 := LA.cell 2 _ rfl
 have k16 := LA.cell 3 _ rfl
 have k17 := LB.cell 0 _ rfl
 have k18 := LB.cell 1 _ rfl
 have k19 := LB.cell 2 _ rfl
 have k20 := LB.cell 3 _ rfl
 have k21 := LC.cell 0 _ rfl
 have k22 := LC.cell 1 _ rfl
 have k23 := LC.cell 2 _ rfl
 have k24 := LC.cell 3 _ rfl
 have LA := LA.alloc (.cells #[.int .u64 0, .int .u64 0, .int .u64 0, .int .u64 0] 24)
 have LB := LB.alloc (.cells #[.int .u64 0, .int .u64 0, .int .u64 0, .int .u64 0] 24)
 have LC := LC.alloc (.cells #[.int .u64 0, .int .u64 0, .int .u64 0, .int .u64 0] 24)
 have LN := Has.new (((w.alloc (.cells #[.int .u64 (za 0), .int .u64 (za 1), .int .u64 (za 2), .int .u64 (za 3)] 24)).alloc (.cells #[.int .u64 (zb 0), .int .u64 (zb 1), .int .u64 (zb 2), .int .u64 (zb 3)] 24)).alloc (.cells #[.int .u64 (zc 0), .int .u64 (zc 1), .int .u64 (zc 2), .int .u64 (zc 3)] 24)) 24 #[.int .u64 0, .int .u64 0, .int .u64 0, .int .u64 0]
 simp only [World.size_alloc] at LN
 have k25 := LA.cell 0 _ rfl
 have k26 := LA.cell 1 _ rfl
 have k27 := LA.cell 2 _ rfl
 have k28 := LA.cell 3 _ rfl
 have k29 := LB.cell 0 _ rfl
 have k30 := LB.cell 1 _ rfl
 have k31 := LB.cell 2 _ rfl
 have k32 := LB.cell 3 _ rfl
 have k33 := LC.cell 0 _ rfl
 have k34 := LC.cell 1 _ rfl
 have k35 := LC.cell 2 _ rfl
 have k36 := LC.cell 3 _ rfl
 have k37 := LN.cell 0 _ rfl
 have k38 := LN.cell 1 _ rfl
 have k39 := LN.cell 2 _ rfl
 have k40 := LN.cell 3 _ rfl
 have Q := (Below.refl w.heap.size w)
 have Q := Q.alloc Q.size (.cells #[.int .u64 (za 0), .int .u64 (za 1), .int .u64 (za 2), .int .u64 (za 3)] 24)
 have Q := Q.alloc Q.size (.cells #[.int .u64 (zb 0), .int .u64 (zb 1), .int .u64 (zb 2), .int .u64 (zb 3)] 24)
 have Q := Q.alloc Q.size (.cells #[.int .u64 (zc 0), .int .u64 (zc 1), .int .u64 (zc 2), .int .u64 (zc 3)] 24)
 have Q := Q.alloc Q.size (.cells #[.int .u64 0, .int .u64 0, .int .u64 0, .int .u64 0] 24)
 go_wp2
 clear k1 k2 k3 k4 k5 k6 k7 k8 k9 k10 k11 k12 k13 k14 k15 k16 k17 k18 k19 k20 k21 k22 k23 k24 k25 k26 k27 k28 k29 k30 k31 k32 k33 k34 k35 k36 k37 k38 k39 k40
 obtain ⟨W1, hW1⟩ : ∃ W1, ((((w.alloc (.cells #[.int .u64 (za 0), .int .u64 (za 1), .int .u64 (za 2), .int .u64 (za 3)] 24)).alloc (.cells #[.int .u64 (zb 0), .int .u64 (zb 1), .int .u64 (zb 2), .int .u64 (zb 3)] 24)).alloc (.cells #[.int .u64 (zc 0), .int .u64 (zc 1), .int .u64 (zc 2), .int .u64 (zc 3)] 24)).alloc (.cells #[.int .u64 0, .int .u64 0, .int .u64 0, .int .u64 0] 24)) = W1 := ⟨_, rfl⟩
 rw [hW1] at LA LB LC LN Q ⊢
 clear hW1
 go_ret2
 exact ⟨rfl, Q⟩
theorem rstore_j_true (za zb zc : Nat → Int) (cv : ((zb 0 == zc 0) && (zb 1 == zc 1) && (zb 2 == zc 2) && (zb 3 == zc 3)) = false) (oc : ((za 0 == zb 0) && (za 1 == zb 1) && (za 2 == zb 2) && (za 3 == zb 3)) = false) (oz : ((za 0 == 0) && (za 1 == 0) && (za 2 == 0) && (za 3 == 0)) = false) (cz : ((zb 0 == 0) && (zb 1 == 0) && (zb 2 == 0) && (zb 3 == 0)) = false) (vz : ((zc 0 == 0) && (zc 1 == 0) && (zc 2 == 0) && (zc 3 == 0)) = false) (ov : ((za 0 == zc 0) && (za 1 == zc 1) && (za 2 == zc 2) && (za 3 == zc 3)) = true) :
  Ret Tryd.prog 22 #[.agg #[.int .u64 (za 0), .int .u64 (za 1), .int .u64 (za 2), .int .u64 (za 3)], .agg #[.int .u64 (zb 0), .int .u64 (zb 1), .int .u64 (zb 2), .int .u64 (zb 3)], .agg #[.int .u64 (zc 0), .int .u64 (zc 1), .int .u64 (zc 2), .int .u64 (zc 3)], .bool true] (.tuple #[.int .i64 100, .int .i64 2800]) := by
 intro w
 go_enter Tryd.func22, Tryd.ntmps22
 have LA := Has.new w 24 #[.int .u64 (za 0), .int .u64 (za 1), .int .u64 (za 2), .int .u64 (za 3)]
 have k1 := LA.cell 0 _ rfl
 have k2 := LA.cell 1 _ rfl
 have k3 := LA.cell 2 _ rfl
 have k4 := LA.cell 3 _ rfl
 have LA := LA.alloc (.cells #[.int .u64 (zb 0), .int .u64 (zb 1), .int .u64 (zb 2), .int .u64 (zb 3)] 24)
 have LB := Has.new (w.alloc (.cells #[.int .u64 (za 0), .int .u64 (za 1), .int .u64 (za 2), .int .u64 (za 3)] 24)) 24 #[.int .u64 (zb 0), .int .u64 (zb 1), .int .u64 (zb 2), .int .u64 (zb 3)]
 simp only [World.size_alloc] at LB
 have k5 := LA.cell 0 _ rfl
 have k6 := LA.cell 1 _ rfl
 have k7 := LA.cell 2 _ rfl
 have k8 := LA.cell 3 _ rfl
 have k9 := LB.cell 0 _ rfl
 have k10 := LB.cell 1 _ rfl
 have k11 := LB.cell 2 _ rfl
 have k12 := LB.cell 3 _ rfl
 have LA := LA.alloc (.cells #[.int .u64 (zc 0), .int .u64 (zc 1), .int .u64 (zc 2), .int .u64 (zc 3)] 24)
 have LB := LB.alloc (.cells #[.int .u64 (zc 0), .int .u64 (zc 1), .int .u64 (zc 2), .int .u64 (zc 3)] 24)
 have LC := Has.new ((w.alloc (.cells #[.int .u64 (za 0), .int .u64 (za 1), .int .u64 (za 2), .int .u64 (za 3)] 24)).alloc (.cells #[.int .u64 (zb 0), .int .u64 (zb 1), .int .u64 (zb 2), .int .u64 (zb 3)] 24)) 24 #[.int .u64 (zc 0), .int .u64 (zc 1), .int .u64 (zc 2), .int .u64 (zc 3)]
 simp only [World.size_alloc] at LC
 have k13 := LA.cell 0 _ rfl
 have k14 := LA.cell 1 _ rfl
 have k15 := LA.cell 2 _ rfl
 have k16 := LA.cell 3 _ rfl
 have k17 := LB.cell 0 _ rfl
 have k18 := LB.cell 1 _ rfl
 have k19 := LB.cell 2 _ rfl
 have k20 := LB.cell 3 _ rfl
 have k21 := LC.cell 0 _ rfl
 have k22 := LC.cell 1 _ rfl
 have k23 := LC.cell 2 _ rfl
 have k24 := LC.cell 3 _ rfl
 have LA := LA.alloc (.cells #[.int .u64 0, .int .u64 0, .int .u64 0, .int .u64 0] 24)
 have LB := LB.alloc (.cells #[.int .u64 0, .int .u64 0, .int .u64 0, .int .u64 0] 24)
 have LC := LC.alloc (.cells #[.int .u64 0, .int .u64 0, .int .u64 0, .int .u64 0] 24)
 have LN := Has.new (((w.alloc (.cells #[.int .u64 (za 0), .int .u64 (za 1), .int .u64 (za 2), .int .u64 (za 3)] 24)).alloc (.cells #[.int .u64 (zb 0), .int .u64 (zb 1), .int .u64 (zb 2), .int .u64 (zb 3)] 24)).alloc (.cells #[.int .u64 (zc 0), .int .u64 (zc 1), .int .u64 (zc 2), .int .u64 (zc 3)] 24)) 24 #[.int .u64 0, .int .u64 0, .int .u64 0, .int .u64 0]
 simp only [World.size_alloc] at LN
 have k25 := LA.cell 0 _ rfl
 have k26 := LA.cell 1 _ rfl
 have k27 := LA.cell 2 _ rfl
 have k28 := LA.cell 3 _ rfl
 have k29 := LB.cell 0 _ rfl
 have k30 := LB.cell 1 _ rfl
 have k31 := LB.cell 2 _ rfl
 have k32 := LB.cell 3 _ rfl
 have k33 := LC.cell 0 _ rfl
 have k34 := LC.cell 1 _ rfl
 have k35 := LC.cell 2 _ rfl
 have k36 := LC.cell 3 _ rfl
 have k37 := LN.cell 0 _ rfl
 have k38 := LN.cell 1 _ rfl
 have k39 := LN.cell 2 _ rfl
 have k40 := LN.cell 3 _ rfl
 have Q := (Below.refl w.heap.size w)
 have Q := Q.alloc Q.size (.cells #[.int .u64 (za 0), .int .u64 (za 1), .int .u64 (za 2), .int .u64 (za 3)] 24)
 have Q := Q.alloc Q.size (.cells #[.int .u64 (zb 0), .int .u64 (zb 1), .int .u64 (zb 2), .int .u64 (zb 3)] 24)
 have Q := Q.alloc Q.size (.cells #[.int .u64 (zc 0), .int .u64 (zc 1), .int .u64 (zc 2), .int .u64 (zc 3)] 24)
 have Q := Q.alloc Q.size (.cells #[.int .u64 0, .int .u64 0, .int .u64 0, .int .u64 0] 24)
 go_wp2
 clear k1 k2 k3 k4 k5 k6 k7 k8 k9 k10 k11 k12 k13 k14 k15 k16 k17 k18 k19 k20 k21 k22 k23 k24 k25 k26 k27 k28 k29 k30 k31 k32 k33 k34 k35 k36 k37 k38 k39 k40
 obtain ⟨W1, hW1⟩ : ∃ W1, ((((w.alloc (.cells #[.int .u64 (za 0), .int .u64 (za 1), .int .u64 (za 2), .int .u64 (za 3)] 24)).alloc (.cells #[.int .u64 (zb 0), .int .u64 (zb 1), .int .u64 (zb 2), .int .u64 (zb 3)] 24)).alloc (.cells #[.int .u64 (zc 0), .int .u64 (zc 1), .int .u64 (zc 2), .int .u64 (zc 3)] 24)).alloc (.cells #[.int .u64 0, .int .u64 0, .int .u64 0, .int .u64 0] 24)) = W1 := ⟨_, rfl⟩
 rw [hW1] at LA LB LC LN Q ⊢
 clear hW1
 go_ret2
 exact ⟨rfl, Q⟩
theorem rstore_k_false (za zb zc : Nat → Int) (cv : ((zb 0 == zc 0) && (zb 1 == zc 1) && (zb 2 == zc 2) && (zb 3 == zc 3)) = false) (oc : ((za 0 == zb 0) && (za 1 == zb 1) && (za 2 == zb 2) && (za 3 == zb 3)) = false) (oz : ((za 0 == 0) && (za 1 == 0) && (za 2 == 0) && (za 3 == 0)) = false) (cz : ((zb 0 == 0) && (zb 1 == 0) && (zb 2 == 0) && (zb 3 == 0)) = false) (vz : ((zc 0 == 0) && (zc 1 == 0) && (zc 2 == 0) && (zc 3 == 0)) = false) (ov : ((za 0 == zc 0) && (za 1 == zc 1) && (za 2 == zc 2) && (za 3 == zc 3)) = false) :
  Ret Tryd.prog 22 #[.agg #[.int .u64 (za 0), .int .u64 (za 1), .int .u64 (za 2), .int .u64 (za 3)], .agg #[.int .u64 (zb 0), .int .u64 (zb 1), .int .u64 (zb 2), .int .u64 (zb 3)], .agg #[.int .u64 (zc 0), .int .u64 (zc 1), .int .u64 (zc 2), .int .u64 (zc 3)], .bool false] (.tuple #[.int .i64 2200, .int .i64 0]) := by
 intro w
 go_enter Tryd.func22, Tryd.ntmps22
 have LA := Has.new w 24 #[.int .u64 (za 0), .int .u64 (za 1), .int .u64 (za 2), .int .u64 (za 3)]
 have k1 := LA.cell 0 _ rfl
 have k2 := LA.cell 1 _ rfl
 have k3 := LA.cell 2 _ rfl
 have k4 := LA.cell 3 _ rfl
 have LA := LA.alloc (.cells #[.int .u64 (zb 0), .int .u64 (zb 1), .int .u64 (zb 2), .int .u64 (zb 3)] 24)
 have LB := Has.new (w.alloc (.cells #[.int .u64 (za 0), .int .u64 (za 1), .int .u64 (za 2), .int .u64 (za 3)] 24)) 24 #[.int .u64 (zb 0), .int .u64 (zb 1), .int .u64 (zb 2), .int .u64 (zb 3)]
 simp only [World.size_alloc] at LB
 have k5 := LA.cell 0 _ rfl
 have k6 := LA.cell 1 _ rfl
 have k7 := LA.cell 2 _ rfl
 have k8 := LA.cell 3 _ rfl
 have k9 := LB.cell 0 _ rfl
 have k10 := LB.cell 1 _ rfl
 have k11 := LB.cell 2 _ rfl
 have k12 := LB.cell 3 _ rfl
 have LA := LA.alloc (.cells #[.int .u64 (zc 0), .int .u64 (zc 1), .int .u64 (zc 2), .int .u64 (zc 3)] 24)
 have LB := LB.alloc (.cells #[.int .u64 (zc 0), .int .u64 (zc 1), .int .u64 (zc 2), .int .u64 (zc 3)] 24)
 have LC := Has.new ((w.alloc (.cells #[.int .u64 (za 0), .int .u64 (za 1), .int .u64 (za 2), .int .u64 (za 3)] 24)).alloc (.cells #[.int .u64 (zb 0), .int .u64 (zb 1), .int .u64 (zb 2), .int .u64 (zb 3)] 24)) 24 #[.int .u64 (zc 0), .int .u64 (zc 1), .int .u64 (zc 2), .int .u64 (zc 3)]
 simp only [World.size_alloc] at LC
 have k13 := LA.cell 0 _ rfl
 have k14 := LA.cell 1 _ rfl
 have k15 := LA.cell 2 _ rfl
 have k16 := LA.cell 3 _ rfl
 have k17 := LB.cell 0 _ rfl
 have k18 := LB.cell 1 _ rfl
 have k19 := LB.cell 2 _ rfl
 have k20 := LB.cell 3 _ rfl
 have k21 := LC.cell 0 _ rfl
 have k22 := LC.cell 1 _ rfl
 have k23 := LC.cell 2 _ rfl
 have k24 := LC.cell 3 _ rfl
 have LA := LA.alloc (.cells #[.int .u64 0, .int .u64 0, .int .u64 0, .int .u64 0] 24)
 have LB := LB.alloc (.cells #[.int .u64 0, .int .u64 0, .int .u64 0, .int .u64 0] 24)
 have LC := LC.alloc (.cells #[.int .u64 0, .int .u64 0, .int .u64 0, .int .u64 0] 24)
 have LN := Has.new (((w.alloc (.cells #[.int .u64 (za 0), .int .u64 (za 1), .int .u64 (za 2), .int .u64 (za 3)] 24)).alloc (.cells #[.int .u64 (zb 0), .int .u64 (zb 1), .int .u64 (zb 2), .int .u64 (zb 3)] 24)).alloc (.cells #[.int .u64 (zc 0), .int .u64 (zc 1), .int .u64 (zc 2), .int .u64 (zc 3)] 24)) 24 #[.int .u64 0, .int .u64 0, .int .u64 0, .int .u64 0]
 simp only [World.size_alloc] at LN
 have k25 := LA.cell 0 _ rfl
 have k26 := LA.cell 1 _ rfl
 have k27 := LA.cell 2 _ rfl
 have k28 := LA.cell 3 _ rfl
 have k29 := LB.cell 0 _ rfl
 have k30 := LB.cell 1 _ rfl
 have k31 := LB.cell 2 _ rfl
 have k32 := LB.cell 3 _ rfl
 have k33 := LC.cell 0 _ rfl
 have k34 := LC.cell 1 _ rfl
 have k35 := LC.cell 2 _ rfl
 have k36 := LC.cell 3 _ rfl
 have k37 := LN.cell 0 _ rfl
 have k38 := LN.cell 1 _ rfl
 have k39 := LN.cell 2 _ rfl
 have k40 := LN.cell 3 _ rfl
 have Q := (Below.refl w.heap.size w)
 have Q := Q.alloc Q.size (.cells #[.int .u64 (za 0), .int .u64 (za 1), .int .u64 (za 2), .int .u64 (za 3)] 24)
 have Q := Q.alloc Q.size (.cells #[.int .u64 (zb 0), .int .u64 (zb 1), .int .u64 (zb 2), .int .u64 (zb 3)] 24)
 have Q := Q.alloc Q.size (.cells #[.int .u64 (zc 0), .int .u64 (zc 1), .int .u64 (zc 2), .int .u64 (zc 3)] 24)
 have Q := Q.alloc Q.size (.cells #[.int .u64 0, .int .u64 0, .int .u64 0, .int .u64 0] 24)
 go_wp2
 clear k1 k2 k3 k4 k5 k6 k7 k8 k9 k10 k11 k12 k13 k14 k15 k16 k17 k18 k19 k20 k21 k22 k23 k24 k25 k26 k27 k28 k29 k30 k31 k32 k33 k34 k35 k36 k37 k38 k39 k40
 obtain ⟨W1, hW1⟩ : ∃ W1, ((((w.alloc (.cells #[.int .u64 (za 0), .int .u64 (za 1), .int .u64 (za 2), .int .u64 (za 3)] 24)).alloc (.cells #[.int .u64 (zb 0), .int .u64 (zb 1), .int .u64 (zb 2), .int .u64 (zb 3)] 24)).alloc (.cells #[.int .u64 (zc 0), .int .u64 (zc 1), .int .u64 (zc 2), .int .u64 (zc 3)] 24)).alloc (.cells #[.int .u64 0, .int .u64 0, .int .u64 0, .int .u64 0] 24)) = W1 := ⟨_, rfl⟩
 rw [hW1] at LA LB LC LN Q ⊢
 clear hW1
 go_ret2
 exact ⟨rfl, Q⟩
theorem rstore_k_true (za zb zc : Nat → Int) (cv : ((zb 0 == zc 0) && (zb 1 == zc 1) && (zb 2 == zc 2) && (zb 3 == zc 3)) = false) (oc : ((za 0 == zb 0) && (za 1 == zb 1) && (za 2 == zb 2) && (za 3 == zb 3)) = false) (oz : ((za 0 == 0) && (za 1 == 0) && (za 2 == 0) && (za 3 == 0)) = false) (cz : ((zb 0 == 0) && (zb 1 == 0) && (zb 2 == 0) && (zb 3 == 0)) = false) (vz : ((zc 0 == 0) && (zc 1 == 0) && (zc 2 == 0) && (zc 3 == 0)) = false) (ov : ((za 0 == zc 0) && (za 1 == zc 1) && (za 2 == zc 2) && (za 3 == zc 3)) = false) :
  Ret Tryd.prog 22 #[.agg #[.int .u64 (za 0), .int .u64 (za 1), .int .u64 (za 2), .int .u64 (za 3)], .agg #[.int .u64 (zb 0), .int .u64 (zb 1), .int .u64 (zb 2), .int .u64 (zb 3)], .agg #[.int .u64 (zc 0), .int .u64 (zc 1), .int .u64 (zc 2), .int .u64 (zc 3)], .bool true] (.tuple #[.int .i64 100, .int .i64 0]) := by
 intro w
 go_enter Tryd.func22, Tryd.ntmps22
 have LA := Has.new w 24 #[.int .u64 (za 0), .int .u64 (za 1), .int .u64 (za 2), .int .u64 (za 3)]
 have k1 := LA.cell 0 _ rfl
 have k2 := LA.cell 1 _ rfl
 have k3 := LA.cell 2 _ rfl
 have k4 := LA.cell 3 _ rfl
 have LA := LA.alloc (.cells #[.int .u64 (zb 0), .int .u64 (zb 1), .int .u64 (zb 2), .int .u64 (zb 3)] 24)
 have LB := Has.new (w.alloc (.cells #[.int .u64 (za 0), .int .u64 (za 1), .int .u64 (za 2), .int .u64 (za 3)] 24)) 24 #[.int .u64 (zb 0), .int .u64 (zb 1), .int .u64 (zb 2), .int .u64 (zb 3)]
 simp only [World.size_alloc] at LB
 have k5 := LA.cell 0 _ rfl
 have k6 := LA.cell 1 _ rfl
 have k7 := LA.cell 2 _ rfl
 have k8 := LA.cell 3 _ rfl
 have k9 := LB.cell 0 _ rfl
 have k10 := LB.cell 1 _ rfl
 have k11 := LB.cell 2 _ rfl
 have k12 := LB.cell 3 _ rfl
 have LA := LA.alloc (.cells #[.int .u64 (zc 0), .int .u64 (zc 1), .int .u64 (zc 2), .int .u64 (zc 3)] 24)
 have LB := LB.alloc (.cells #[.int .u64 (zc 0), .int .u64 (zc 1), .int .u64 (zc 2), .int .u64 (zc 3)] 24)
 have LC := Has.new ((w.alloc (.cells #[.int .u64 (za 0), .int .u64 (za 1), .int .u64 (za 2), .int .u64 (za 3)] 24)).alloc (.cells #[.int .u64 (zb 0), .int .u64 (zb 1), .int .u64 (zb 2), .int .u64 (zb 3)] 24)) 24 #[.int .u64 (zc 0), .int .u64 (zc 1), .int .u64 (zc 2), .int .u64 (zc 3)]
 simp only [World.size_alloc] at LC
 have k13 := LA.cell 0 _ rfl
 have k14 := LA.cell 1 _ rfl
 have k15 := LA.cell 2 _ rfl
 have k16 := LA.cell 3 _ rfl
 have k17 := LB.cell 0 _ rfl
 have k18 := LB.cell 1 _ rfl
 have k19 := LB.cell 2 _ rfl
 have k20 := LB.cell 3 _ rfl
 have k21 := LC.cell 0 _ rfl
 have k22 := LC.cell 1 _ rfl
 have k23 := LC.cell 2 _ rfl
 have k24 := LC.cell 3 _ rfl
 have LA := LA.alloc (.cells #[.int .u64 0, .int .u64 0, .int .u64 0, .int .u64 0] 24)
 have LB := LB.alloc (.cells #[.int .u64 0, .int .u64 0, .int .u64 0, .int .u64 0] 24)
 have LC := LC.alloc (.cells #[.int .u64 0, .int .u64 0, .int .u64 0, .int .u64 0] 24)
 have LN := Has.new (((w.alloc (.cells #[.int .u64 (za 0), .int .u64 (za 1), .int .u64 (za 2), .int .u64 (za 3)] 24)).alloc (.cells #[.int .u64 (zb 0), .int .u64 (zb 1), .int .u64 (zb 2), .int .u64 (zb 3)] 24)).alloc (.cells #[.int .u64 (zc 0), .int .u64 (zc 1), .int .u64 (zc 2), .int .u64 (zc 3)] 24)) 24 #[.int .u64 0, .int .u64 0, .int .u64 0, .int .u64 0]
 simp only [World.size_alloc] at LN
 have k25 := LA.cell 0 _ rfl
 have k26 := LA.cell 1 _ rfl
 have k27 := LA.cell 2 _ rfl
 have k28 := LA.cell 3 _ rfl
 have k29 := LB.cell 0 _ rfl
 have k30 := LB.cell 1 _ rfl
 have k31 := LB.cell 2 _ rfl
 have k32 := LB.cell 3 _ rfl
 have k33 := LC.cell 0 _ rfl
 have k34 := LC.cell 1 _ rfl
 have k35 := LC.cell 2 _ rfl
 have k36 := LC.cell 3 _ rfl
 have k37 := LN.cell 0 _ rfl
 have k38 := LN.cell 1 _ rfl
 have k39 := LN.cell 2 _ rfl
 have k40 := LN.cell 3 _ rfl
 have Q := (Below.refl w.heap.size w)
 have Q := Q.alloc Q.size (.cells #[.int .u64 (za 0), .int .u64 (za 1), .int .u64 (za 2), .int .u64 (za 3)] 24)
 have Q := Q.alloc Q.size (.cells #[.int .u64 (zb 0), .int .u64 (zb 1), .int .u64 (zb 2), .int .u64 (zb 3)] 24)
 have Q := Q.alloc Q.size (.cells #[.int .u64 (zc 0), .int .u64 (zc 1), .int .u64 (zc 2), .int .u64 (zc 3)] 24)
 have Q := Q.alloc Q.size (.cells #[.int .u64 0, .int .u64 0, .int .u64 0, .int .u64 0] 24)
 go_wp2
 clear k1 k2 k3 k4 k5 k6 k7 k8 k9 k10 k11 k12 k13 k14 k15 k16 k17 k18 k19 k20 k21 k22 k23 k24 k25 k26 k27 k28 k29 k30 k31 k32 k33 k34 k35 k36 k37 k38 k39 k40
 obtain ⟨W1, hW1⟩ : ∃ W1, ((((w.alloc (.cells #[.int .u64 (za 0), .int .u64 (za 1), .int .u64 (za 2), .int .u64 (za 3)] 24)).alloc (.cells #[.int .u64 (zb 0), .int .u64 (zb 1), .int .u64 (zb 2), .int .u64 (zb 3)] 24)).alloc (.cells #[.int .u64 (zc 0), .int .u64 (zc 1), .int .u64 (zc 2), .int .u64 (zc 3)] 24)).alloc (.cells #[.int .u64 0, .int .u64 0, .int .u64 0, .int .u64 0] 24)) = W1 := ⟨_, rfl⟩
 rw [hW1] at LA LB LC LN Q ⊢
 clear hW1
 go_ret2
 exact ⟨rfl, Q⟩
theorem storeV_eq {o c v : Nat} {K R : Int} (h1 : writtenN o c v = K) (h2 : refundedN o c v = R) (t : Bool) : storeV o c v t = .tuple #[.int .i64 (K + (if t then 0 else 2100)), .int .i64 R] := by unfold storeV costN; rw [h1, h2]
theorem rstore_leaf {o c v : Nat} {t : Bool} {x y : Value} (h0 : Ret Tryd.prog 22 #[wv o, wv c, wv v, .bool false] x) (h1 : Ret Tryd.prog 22 #[wv o, wv c, wv v, .bool true] y) (e0 : x = storeV o c v false) (e1 : y = storeV o c v true) : Ret Tryd.prog 22 #[wv o, wv c, wv v, .bool t] (storeV o c v t) := by
 cases t
 ·rw [← e0]; exact h0
 ·rw [← e1]; exact h1
theorem rstore_ret (o c v : Nat) (ho : W256 o) (hc : W256 c) (hv : W256 v) (t : Bool) : Ret Tryd.prog 22 #[wv o, wv c, wv v, .bool t] (storeV o c v t) := by
 by_cases h1 : c = v
 ·have e1 := eqW_t hc hv h1
  exact rstore_leaf (rstore_a_false _ _ _ e1) (rstore_a_true _ _ _ e1) (by rw [storeV_eq (K := 100) (R := 0) (by unfold writtenN firstN; repeat' split; all_goals omega) (by unfold refundedN clearedN restoredN firstN; repeat' split; all_goals omega)]; rfl) (by rw [storeV_eq (K := 100) (R := 0) (by unfold writtenN firstN; repeat' split; all_goals omega) (by unfold refundedN clearedN restoredN firstN; repeat' split; all_goals omega)]; rfl)
 ·have e1 := eqW_f hc hv h1
  by_cases h2 : o = c
  ·have e2 := eqW_t ho hc h2
   by_cases h3 : o = 0
   ·have e3 := eqZ_t ho h3
    exact rstore_leaf (rstore_b_false _ _ _ e1 e2 e3) (rstore_b_true _ _ _ e1 e2 e3) (by rw [storeV_eq (K := 20000) (R := 0) (by unfold writtenN firstN; repeat' split; all_goals omega) (by unfold refundedN clearedN restoredN firstN; repeat' split; all_goals omega)]; rfl) (by rw [storeV_eq (K := 20000) (R := 0) (by unfold writtenN firstN; repeat' split; all_goals omega) (by unfold refundedN clearedN restoredN firstN; repeat' split; all_goals omega)]; rfl)
   ·have e3 := eqZ_f ho h3
    by_cases h4 : v = 0
    ·have e4 := eqZ_t hv h4
     exact rstore_leaf (rstore_c_false _ _ _ e1 e2 e3 e4) (rstore_c_true _ _ _ e1 e2 e3 e4) (by rw [storeV_eq (K := 2900) (R := 4800) (by unfold writtenN firstN; repeat' split; all_goals omega) (by unfold refundedN clearedN restoredN firstN; repeat' split; all_goals omega)]; rfl) (by rw [storeV_eq (K := 2900) (R := 4800) (by unfold writtenN firstN; repeat' split; all_goals omega) (by unfold refundedN clearedN restoredN firstN; repeat' split; all_goals omega)]; rfl)
    ·have e4 := eqZ_f hv h4
     exact rstore_leaf (rstore_d_false _ _ _ e1 e2 e3 e4) (rstore_d_true _ _ _ e1 e2 e3 e4) (by rw [storeV_eq (K := 2900) (R := 0) (by unfold writtenN firstN; repeat' split; all_goals omega) (by unfold refundedN clearedN restoredN firstN; repeat' split; all_goals omega)]; rfl) (by rw [storeV_eq (K := 2900) (R := 0) (by unfold writtenN firstN; repeat' split; all_goals omega) (by unfold refundedN clearedN restoredN firstN; repeat' split; all_goals omega)]; rfl)
  ·have e2 := eqW_f ho hc h2
   by_cases h3 : o = 0
   ·have e3 := eqZ_t ho h3
    by_cases h4 : o = v
    ·have e4 := eqW_t ho hv h4
     exact rstore_leaf (rstore_e_false _ _ _ e1 e2 e3 e4) (rstore_e_true _ _ _ e1 e2 e3 e4) (by rw [storeV_eq (K := 100) (R := 19900) (by unfold writtenN firstN; repeat' split; all_goals omega) (by unfold refundedN clearedN restoredN firstN; repeat' split; all_goals omega)]; rfl) (by rw [storeV_eq (K := 100) (R := 19900) (by unfold writtenN firstN; repeat' split; all_goals omega) (by unfold refundedN clearedN restoredN firstN; repeat' split; all_goals omega)]; rfl)
    ·have e4 := eqW_f ho hv h4
     exact rstore_leaf (rstore_f_false _ _ _ e1 e2 e3 e4) (rstore_f_true _ _ _ e1 e2 e3 e4) (by rw [storeV_eq (K := 100) (R := 0) (by unfold writtenN firstN; repeat' split; all_goals omega) (by unfold refundedN clearedN restoredN firstN; repeat' split; all_goals omega)]; rfl) (by rw [storeV_eq (K := 100) (R := 0) (by unfold writtenN firstN; repeat' split; all_goals omega) (by unfold refundedN clearedN restoredN firstN; repeat' split; all_goals omega)]; rfl)
   ·have e3 := eqZ_f ho h3
    by_cases h5 : c = 0
    ·have e5 := eqZ_t hc h5
     have h6 : v ≠ 0 := fun e => h1 (h5.trans e.symm)
     have e6 := eqZ_f hv h6
     by_cases h4 : o = v
     ·have e4 := eqW_t ho hv h4
      exact rstore_leaf (rstore_g_false _ _ _ e1 e2 e3 e5 e6 e4) (rstore_g_true _ _ _ e1 e2 e3 e5 e6 e4) (by rw [storeV_eq (K := 100) (R := -2000) (by unfold writtenN firstN; repeat' split; all_goals omega) (by unfold refundedN clearedN restoredN firstN; repeat' split; all_goals omega)]; rfl) (by rw [storeV_eq (K := 100) (R := -2000) (by unfold writtenN firstN; repeat' split; all_goals omega) (by unfold refundedN clearedN restoredN firstN; repeat' split; all_goals omega)]; rfl)
     ·have e4 := eqW_f ho hv h4
      exact rstore_leaf (rstore_h_false _ _ _ e1 e2 e3 e5 e6 e4) (rstore_h_true _ _ _ e1 e2 e3 e5 e6 e4) (by rw [storeV_eq (K := 100) (R := -4800) (by unfold writtenN firstN; repeat' split; all_goals omega) (by unfold refundedN clearedN restoredN firstN; repeat' split; all_goals omega)]; rfl) (by rw [storeV_eq (K := 100) (R := -4800) (by unfold writtenN firstN; repeat' split; all_goals omega) (by unfold refundedN clearedN restoredN firstN; repeat' split; all_goals omega)]; rfl)
    ·have e5 := eqZ_f hc h5
     by_cases h6 : v = 0
     ·have e6 := eqZ_t hv h6
      have h4 : o ≠ v := fun e => h3 (e.trans h6)
      have e4 := eqW_f ho hv h4
      exact rstore_leaf (rstore_i_false _ _ _ e1 e2 e3 e5 e6 e4) (rstore_i_true _ _ _ e1 e2 e3 e5 e6 e4) (by rw [storeV_eq (K := 100) (R := 4800) (by unfold writtenN firstN; repeat' split; all_goals omega) (by unfold refundedN clearedN restoredN firstN; repeat' split; all_goals omega)]; rfl) (by rw [storeV_eq (K := 100) (R := 4800) (by unfold writtenN firstN; repeat' split; all_goals omega) (by unfold refundedN clearedN restoredN firstN; repeat' split; all_goals omega)]; rfl)
     ·have e6 := eqZ_f hv h6
      by_cases h4 : o = v
      ·have e4 := eqW_t ho hv h4
       exact rstore_leaf (rstore_j_false _ _ _ e1 e2 e3 e5 e6 e4) (rstore_j_true _ _ _ e1 e2 e3 e5 e6 e4) (by rw [storeV_eq (K := 100) (R := 2800) (by unfold writtenN firstN; repeat' split; all_goals omega) (by unfold refundedN clearedN restoredN firstN; repeat' split; all_goals omega)]; rfl) (by rw [storeV_eq (K := 100) (R := 2800) (by unfold writtenN firstN; repeat' split; all_goals omega) (by unfold refundedN clearedN restoredN firstN; repeat' split; all_goals omega)]; rfl)
      ·have e4 := eqW_f ho hv h4
       exact rstore_leaf (rstore_k_false _ _ _ e1 e2 e3 e5 e6 e4) (rstore_k_true _ _ _ e1 e2 e3 e5 e6 e4) (by rw [storeV_eq (K := 100) (R := 0) (by unfold writtenN firstN; repeat' split; all_goals omega) (by unfold refundedN clearedN restoredN firstN; repeat' split; all_goals omega)]; rfl) (by rw [storeV_eq (K := 100) (R := 0) (by unfold writtenN firstN; repeat' split; all_goals omega) (by unfold refundedN clearedN restoredN firstN; repeat' split; all_goals omega)]; rfl)
theorem rcall_less0 (za : Nat → Int) (l p _n _m : Int) (a c : Bool) (_q0 : 100 ≤ p) (_q1 : p ≤ 2600) (h1 : Ret Tryd.prog 30 #[.bool false, .bool a] (.int .i64 p)) (g : l < p) :
  Ret Tryd.prog 25 #[.int .i64 l, .agg #[.int .u64 (za 0), .int .u64 (za 1), .int .u64 (za 2), .int .u64 (za 3)], .bool a, .bool false, .bool c] (.tuple #[.int .i64 0, .int .i64 0, .bool false]) := by
 intro w
 have Hh1 := hid h1
 clear h1
 go_enter Tryd.func25, Tryd.ntmps25
 have LA := Has.new w 24 #[.int .u64 (za 0), .int .u64 (za 1), .int .u64 (za 2), .int .u64 (za 3)]
 have k1 := LA.cell 0 _ rfl
 have k2 := LA.cell 1 _ rfl
 have k3 := LA.cell 2 _ rfl
 have k4 := LA.cell 3 _ rfl
 have Q := (Below.refl w.heap.size w)
 have Q := Q.alloc Q.size (.cells #[.int .u64 (za 0), .int .u64 (za 1), .int .u64 (za 2), .int .u64 (za 3)] 24)
 go_wp2_with fail
 clear k1 k2 k3 k4
 obtain ⟨W1, hW1⟩ : ∃ W1, (w.alloc (.cells #[.int .u64 (za 0), .int .u64 (za 1), .int .u64 (za 2), .int .u64 (za 3)] 24)) = W1 := ⟨_, rfl⟩
 rw [hW1] at LA Q ⊢
 clear hW1
 refine (Hh1.out _).mono ?_
 rintro e v5 ⟨rfl, q⟩
 have LA := LA.later q
 have Q := Q.trans (q.mono Q.size)
 clear q
 have k6 := LA.cell 0 _ rfl
 have k7 := LA.cell 1 _ rfl
 have k8 := LA.cell 2 _ rfl
 have k9 := LA.cell 3 _ rfl
 go_wp2
 clear k6 k7 k8 k9
 go_ret3
 exact ⟨rfl, Q⟩
theorem rcall_great0 (za : Nat → Int) (l p _n _m : Int) (a c : Bool) (_q0 : 100 ≤ p) (_q1 : p ≤ 2600) (h1 : Ret Tryd.prog 30 #[.bool false, .bool a] (.int .i64 p)) (g : ¬ l < p) (g1 : ¬ l < 0) (g2 : 9007199254740992 < l) :
  Ret Tryd.prog 25 #[.int .i64 l, .agg #[.int .u64 (za 0), .int .u64 (za 1), .int .u64 (za 2), .int .u64 (za 3)], .bool a, .bool false, .bool c] (.tuple #[.int .i64 0, .int .i64 0, .bool false]) := by
 intro w
 have Hh1 := hid h1
 clear h1
 go_enter Tryd.func25, Tryd.ntmps25
 have LA := Has.new w 24 #[.int .u64 (za 0), .int .u64 (za 1), .int .u64 (za 2), .int .u64 (za 3)]
 have k1 := LA.cell 0 _ rfl
 have k2 := LA.cell 1 _ rfl
 have k3 := LA.cell 2 _ rfl
 have k4 := LA.cell 3 _ rfl
 have Q := (Below.refl w.heap.size w)
 have Q := Q.alloc Q.size (.cells #[.int .u64 (za 0), .int .u64 (za 1), .int .u64 (za 2), .int .u64 (za 3)] 24)
 go_wp2_with fail
 clear k1 k2 k3 k4
 obtain ⟨W1, hW1⟩ : ∃ W1, (w.alloc (.cells #[.int .u64 (za 0), .int .u64 (za 1), .int .u64 (za 2), .int .u64 (za 3)] 24)) = W1 := ⟨_, rfl⟩
 rw [hW1] at LA Q ⊢
 clear hW1
 refine (Hh1.out _).mono ?_
 rintro e v5 ⟨rfl, q⟩
 have LA := LA.later q
 have Q := Q.trans (q.mono Q.size)
 clear q
 have k6 := LA.cell 0 _ rfl
 have k7 := LA.cell 1 _ rfl
 have k8 := LA.cell 2 _ rfl
 have k9 := LA.cell 3 _ rfl
 go_wp2
 clear k6 k7 k8 k9
 go_ret3
 exact ⟨rfl, Q⟩
theorem rcall_none0 (za : Nat → Int) (l p n m : Int) (a c : Bool) (q0 : 100 ≤ p) (q1 : p ≤ 2600) (h1 : Ret Tryd.prog 30 #[.bool false, .bool a] (.int .i64 p)) (g : ¬ l < p) (g1 : ¬ l < 0) (g2 : ¬ 9007199254740992 < l) (mm : l - p - (l - p) / 64 = m) (m0 : 0 ≤ m) (m1 : m ≤ 9007199254740992) (h2 : Ret Tryd.prog 45 #[.agg #[.int .u64 (za 0), .int .u64 (za 1), .int .u64 (za 2), .int .u64 (za 3)]] (.tuple #[.int .i64 n, .bool false])) :
  Ret Tryd.prog 25 #[.int .i64 l, .agg #[.int .u64 (za 0), .int .u64 (za 1), .int .u64 (za 2), .int .u64 (za 3)], .bool a, .bool false, .bool c] (.tuple #[.int .i64 (p + m), .int .i64 m, .bool true]) := by
 intro w
 have Hh1 := hid h1
 have Hh2 := hid h2
 clear h1 h2
 go_enter Tryd.func25, Tryd.ntmps25
 have LA := Has.new w 24 #[.int .u64 (za 0), .int .u64 (za 1), .int .u64 (za 2), .int .u64 (za 3)]
 have k1 := LA.cell 0 _ rfl
 have k2 := LA.cell 1 _ rfl
 have k3 := LA.cell 2 _ rfl
 have k4 := LA.cell 3 _ rfl
 have Q := (Below.refl w.heap.size w)
 have Q := Q.alloc Q.size (.cells #[.int .u64 (za 0), .int .u64 (za 1), .int .u64 (za 2), .int .u64 (za 3)] 24)
 go_wp2_with fail
 clear k1 k2 k3 k4
 obtain ⟨W1, hW1⟩ : ∃ W1, (w.alloc (.cells #[.int .u64 (za 0), .int .u64 (za 1), .int .u64 (za 2), .int .u64 (za 3)] 24)) = W1 := ⟨_, rfl⟩
 rw [hW1] at LA Q ⊢
 clear hW1
 refine (Hh1.out _).mono ?_
 rintro e v5 ⟨rfl, q⟩
 have LA := LA.later q
 have Q := Q.trans (q.mono Q.size)
 clear q
 have k6 := LA.cell 0 _ rfl
 have k7 := LA.cell 1 _ rfl
 have k8 := LA.cell 2 _ rfl
 have k9 := LA.cell 3 _ rfl
 go_wp2_with fail
 clear k6 k7 k8 k9
 refine (Hh2.out _).mono ?_
 rintro e v10 ⟨rfl, q⟩
 have LA := LA.later q
 have Q := Q.trans (q.mono Q.size)
 clear q
 have k11 := LA.cell 0 _ rfl
 have k12 := LA.cell 1 _ rfl
 have k13 := LA.cell 2 _ rfl
 have k14 := LA.cell 3 _ rfl
 go_wp2
 clear k11 k12 k13 k14
 go_ret3
 exact ⟨rfl, Q⟩
theorem rcall_more0 (za : Nat → Int) (l p n m : Int) (a c : Bool) (q0 : 100 ≤ p) (q1 : p ≤ 2600) (h1 : Ret Tryd.prog 30 #[.bool false, .bool a] (.int .i64 p)) (g : ¬ l < p) (g1 : ¬ l < 0) (g2 : ¬ 9007199254740992 < l) (mm : l - p - (l - p) / 64 = m) (m0 : 0 ≤ m) (m1 : m ≤ 9007199254740992) (c0 : m < n) (h2 : Ret Tryd.prog 45 #[.agg #[.int .u64 (za 0), .int .u64 (za 1), .int .u64 (za 2), .int .u64 (za 3)]] (.tuple #[.int .i64 n, .bool true])) :
  Ret Tryd.prog 25 #[.int .i64 l, .agg #[.int .u64 (za 0), .int .u64 (za 1), .int .u64 (za 2), .int .u64 (za 3)], .bool a, .bool false, .bool c] (.tuple #[.int .i64 (p + m), .int .i64 m, .bool true]) := by
 intro w
 have Hh1 := hid h1
 have Hh2 := hid h2
 clear h1 h2
 go_enter Tryd.func25, Tryd.ntmps25
 have LA := Has.new w 24 #[.int .u64 (za 0), .int .u64 (za 1), .int .u64 (za 2), .int .u64 (za 3)]
 have k1 := LA.cell 0 _ rfl
 have k2 := LA.cell 1 _ rfl
 have k3 := LA.cell 2 _ rfl
 have k4 := LA.cell 3 _ rfl
 have Q := (Below.refl w.heap.size w)
 have Q := Q.alloc Q.size (.cells #[.int .u64 (za 0), .int .u64 (za 1), .int .u64 (za 2), .int .u64 (za 3)] 24)
 go_wp2_with fail
 clear k1 k2 k3 k4
 obtain ⟨W1, hW1⟩ : ∃ W1, (w.alloc (.cells #[.int .u64 (za 0), .int .u64 (za 1), .int .u64 (za 2), .int .u64 (za 3)] 24)) = W1 := ⟨_, rfl⟩
 rw [hW1] at LA Q ⊢
 clear hW1
 refine (Hh1.out _).mono ?_
 rintro e v5 ⟨rfl, q⟩
 have LA := LA.later q
 have Q := Q.trans (q.mono Q.size)
 clear q
 have k6 := LA.cell 0 _ rfl
 have k7 := LA.cell 1 _ rfl
 have k8 := LA.cell 2 _ rfl
 have k9 := LA.cell 3 _ rfl
 go_wp2_with fail
 clear k6 k7 k8 k9
 refine (Hh2.out _).mono ?_
 rintro e v10 ⟨rfl, q⟩
 have LA := LA.later q
 have Q := Q.trans (q.mono Q.size)
 clear q
 have k11 := LA.cell 0 _ rfl
 have k12 := LA.cell 1 _ rfl
 have k13 := LA.cell 2 _ rfl
 have k14 := LA.cell 3 _ rfl
 go_wp2
 clear k11 k12 k13 k14
 go_ret3
 exact ⟨rfl, Q⟩
theorem rcall_fits0 (za : Nat → Int) (l p n m : Int) (a c : Bool) (q0 : 100 ≤ p) (q1 : p ≤ 2600) (h1 : Ret Tryd.prog 30 #[.bool false, .bool a] (.int .i64 p)) (g : ¬ l < p) (g1 : ¬ l < 0) (g2 : ¬ 9007199254740992 < l) (mm : l - p - (l - p) / 64 = m) (m0 : 0 ≤ m) (m1 : m ≤ 9007199254740992) (c0 : ¬ m < n) (c1 : 0 ≤ n) (c2 : n ≤ 9007199254740992) (h2 : Ret Tryd.prog 45 #[.agg #[.int .u64 (za 0), .int .u64 (za 1), .int .u64 (za 2), .int .u64 (za 3)]] (.tuple #[.int .i64 n, .bool true])) :
  Ret Tryd.prog 25 #[.int .i64 l, .agg #[.int .u64 (za 0), .int .u64 (za 1), .int .u64 (za 2), .int .u64 (za 3)], .bool a, .bool false, .bool c] (.tuple #[.int .i64 (p + n), .int .i64 n, .bool true]) := by
 intro w
 have Hh1 := hid h1
 have Hh2 := hid h2
 clear h1 h2
 go_enter Tryd.func25, Tryd.ntmps25
 have LA := Has.new w 24 #[.int .u64 (za 0), .int .u64 (za 1), .int .u64 (za 2), .int .u64 (za 3)]
 have k1 := LA.cell 0 _ rfl
 have k2 := LA.cell 1 _ rfl
 have k3 := LA.cell 2 _ rfl
 have k4 := LA.cell 3 _ rfl
 have Q := (Below.refl w.heap.size w)
 have Q := Q.alloc Q.size (.cells #[.int .u64 (za 0), .int .u64 (za 1), .int .u64 (za 2), .int .u64 (za 3)] 24)
 go_wp2_with fail
 clear k1 k2 k3 k4
 obtain ⟨W1, hW1⟩ : ∃ W1, (w.alloc (.cells #[.int .u64 (za 0), .int .u64 (za 1), .int .u64 (za 2), .int .u64 (za 3)] 24)) = W1 := ⟨_, rfl⟩
 rw [hW1] at LA Q ⊢
 clear hW1
 refine (Hh1.out _).mono ?_
 rintro e v5 ⟨rfl, q⟩
 have LA := LA.later q
 have Q := Q.trans (q.mono Q.size)
 clear q
 have k6 := LA.cell 0 _ rfl
 have k7 := LA.cell 1 _ rfl
 have k8 := LA.cell 2 _ rfl
 have k9 := LA.cell 3 _ rfl
 go_wp2_with fail
 clear k6 k7 k8 k9
 refine (Hh2.out _).mono ?_
 rintro e v10 ⟨rfl, q⟩
 have LA := LA.later q
 have Q := Q.trans (q.mono Q.size)
 clear q
 have k11 := LA.cell 0 _ rfl
 have k12 := LA.cell 1 _ rfl
 have k13 := LA.cell 2 _ rfl
 have k14 := LA.cell 3 _ rfl
 go_wp2
 clear k11 k12 k13 k14
 go_ret3
 exact ⟨rfl, Q⟩
theorem rcall_less1 (za : Nat → Int) (l p _n _m : Int) (a _c : Bool) (q0 : 100 ≤ p) (q1 : p ≤ 2600) (h1 : Ret Tryd.prog 30 #[.bool false, .bool a] (.int .i64 p)) (g : l < (p + 9000)) :
  Ret Tryd.prog 25 #[.int .i64 l, .agg #[.int .u64 (za 0), .int .u64 (za 1), .int .u64 (za 2), .int .u64 (za 3)], .bool a, .bool true, .bool false] (.tuple #[.int .i64 0, .int .i64 0, .bool false]) := by
 intro w
 have Hh1 := hid h1
 clear h1
 go_enter Tryd.func25, Tryd.ntmps25
 have LA := Has.new w 24 #[.int .u64 (za 0), .int .u64 (za 1), .int .u64 (za 2), .int .u64 (za 3)]
 have k1 := LA.cell 0 _ rfl
 have k2 := LA.cell 1 _ rfl
 have k3 := LA.cell 2 _ rfl
 have k4 := LA.cell 3 _ rfl
 have Q := (Below.refl w.heap.size w)
 have Q := Q.alloc Q.size (.cells #[.int .u64 (za 0), .int .u64 (za 1), .int .u64 (za 2), .int .u64 (za 3)] 24)
 go_wp2_with fail
 clear k1 k2 k3 k4
 obtain ⟨W1, hW1⟩ : ∃ W1, (w.alloc (.cells #[.int .u64 (za 0), .int .u64 (za 1), .int .u64 (za 2), .int .u64 (za 3)] 24)) = W1 := ⟨_, rfl⟩
 rw [hW1] at LA Q ⊢
 clear hW1
 refine (Hh1.out _).mono ?_
 rintro e v5 ⟨rfl, q⟩
 have LA := LA.later q
 have Q := Q.trans (q.mono Q.size)
 clear q
 have k6 := LA.cell 0 _ rfl
 have k7 := LA.cell 1 _ rfl
 have k8 := LA.cell 2 _ rfl
 have k9 := LA.cell 3 _ rfl
 go_wp2
 clear k6 k7 k8 k9
 go_ret3
 exact ⟨rfl, Q⟩
theorem rcall_great1 (za : Nat → Int) (l p _n _m : Int) (a _c : Bool) (q0 : 100 ≤ p) (q1 : p ≤ 2600) (h1 : Ret Tryd.prog 30 #[.bool false, .bool a] (.int .i64 p)) (g : ¬ l < (p + 9000)) (g1 : ¬ l < 0) (g2 : 9007199254740992 < l) :
  Ret Tryd.prog 25 #[.int .i64 l, .agg #[.int .u64 (za 0), .int .u64 (za 1), .int .u64 (za 2), .int .u64 (za 3)], .bool a, .bool true, .bool false] (.tuple #[.int .i64 0, .int .i64 0, .bool false]) := by
 intro w
 have Hh1 := hid h1
 clear h1
 go_enter Tryd.func25, Tryd.ntmps25
 have LA := Has.new w 24 #[.int .u64 (za 0), .int .u64 (za 1), .int .u64 (za 2), .int .u64 (za 3)]
 have k1 := LA.cell 0 _ rfl
 have k2 := LA.cell 1 _ rfl
 have k3 := LA.cell 2 _ rfl
 have k4 := LA.cell 3 _ rfl
 have Q := (Below.refl w.heap.size w)
 have Q := Q.alloc Q.size (.cells #[.int .u64 (za 0), .int .u64 (za 1), .int .u64 (za 2), .int .u64 (za 3)] 24)
 go_wp2_with fail
 clear k1 k2 k3 k4
 obtain ⟨W1, hW1⟩ : ∃ W1, (w.alloc (.cells #[.int .u64 (za 0), .int .u64 (za 1), .int .u64 (za 2), .int .u64 (za 3)] 24)) = W1 := ⟨_, rfl⟩
 rw [hW1] at LA Q ⊢
 clear hW1
 refine (Hh1.out _).mono ?_
 rintro e v5 ⟨rfl, q⟩
 have LA := LA.later q
 have Q := Q.trans (q.mono Q.size)
 clear q
 have k6 := LA.cell 0 _ rfl
 have k7 := LA.cell 1 _ rfl
 have k8 := LA.cell 2 _ rfl
 have k9 := LA.cell 3 _ rfl
 go_wp2
 clear k6 k7 k8 k9
 go_ret3
 exact ⟨rfl, Q⟩
theorem rcall_none1 (za : Nat → Int) (l p n m : Int) (a _c : Bool) (q0 : 100 ≤ p) (q1 : p ≤ 2600) (h1 : Ret Tryd.prog 30 #[.bool false, .bool a] (.int .i64 p)) (g : ¬ l < (p + 9000)) (g1 : ¬ l < 0) (g2 : ¬ 9007199254740992 < l) (mm : l - (p + 9000) - (l - (p + 9000)) / 64 = m) (m0 : 0 ≤ m) (m1 : m ≤ 9007199254740992) (h2 : Ret Tryd.prog 45 #[.agg #[.int .u64 (za 0), .int .u64 (za 1), .int .u64 (za 2), .int .u64 (za 3)]] (.tuple #[.int .i64 n, .bool false])) :
  Ret Tryd.prog 25 #[.int .i64 l, .agg #[.int .u64 (za 0), .int .u64 (za 1), .int .u64 (za 2), .int .u64 (za 3)], .bool a, .bool true, .bool false] (.tuple #[.int .i64 ((p + 9000) + m), .int .i64 (m + 2300), .bool true]) := by
 intro w
 have Hh1 := hid h1
 have Hh2 := hid h2
 clear h1 h2
 go_enter Tryd.func25, Tryd.ntmps25
 have LA := Has.new w 24 #[.int .u64 (za 0), .int .u64 (za 1), .int .u64 (za 2), .int .u64 (za 3)]
 have k1 := LA.cell 0 _ rfl
 have k2 := LA.cell 1 _ rfl
 have k3 := LA.cell 2 _ rfl
 have k4 := LA.cell 3 _ rfl
 have Q := (Below.refl w.heap.size w)
 have Q := Q.alloc Q.size (.cells #[.int .u64 (za 0), .int .u64 (za 1), .int .u64 (za 2), .int .u64 (za 3)] 24)
 go_wp2_with fail
 clear k1 k2 k3 k4
 obtain ⟨W1, hW1⟩ : ∃ W1, (w.alloc (.cells #[.int .u64 (za 0), .int .u64 (za 1), .int .u64 (za 2), .int .u64 (za 3)] 24)) = W1 := ⟨_, rfl⟩
 rw [hW1] at LA Q ⊢
 clear hW1
 refine (Hh1.out _).mono ?_
 rintro e v5 ⟨rfl, q⟩
 have LA := LA.later q
 have Q := Q.trans (q.mono Q.size)
 clear q
 have k6 := LA.cell 0 _ rfl
 have k7 := LA.cell 1 _ rfl
 have k8 := LA.cell 2 _ rfl
 have k9 := LA.cell 3 _ rfl
 go_wp2_with fail
 clear k6 k7 k8 k9
 refine (Hh2.out _).mono ?_
 rintro e v10 ⟨rfl, q⟩
 have LA := LA.later q
 have Q := Q.trans (q.mono Q.size)
 clear q
 have k11 := LA.cell 0 _ rfl
 have k12 := LA.cell 1 _ rfl
 have k13 := LA.cell 2 _ rfl
 have k14 := LA.cell 3 _ rfl
 go_wp2
 clear k11 k12 k13 k14
 go_ret3
 exact ⟨rfl, Q⟩
theorem rcall_more1 (za : Nat → Int) (l p n m : Int) (a _c : Bool) (q0 : 100 ≤ p) (q1 : p ≤ 2600) (h1 : Ret Tryd.prog 30 #[.bool false, .bool a] (.int .i64 p)) (g : ¬ l < (p + 9000)) (g1 : ¬ l < 0) (g2 : ¬ 9007199254740992 < l) (mm : l - (p + 9000) - (l - (p + 9000)) / 64 = m) (m0 : 0 ≤ m) (m1 : m ≤ 9007199254740992) (c0 : m < n) (h2 : Ret Tryd.prog 45 #[.agg #[.int .u64 (za 0), .int .u64 (za 1), .int .u64 (za 2), .int .u64 (za 3)]] (.tuple #[.int .i64 n, .bool true])) :
  Ret Tryd.prog 25 #[.int .i64 l, .agg #[.int .u64 (za 0), .int .u64 (za 1), .int .u64 (za 2), .int .u64 (za 3)], .bool a, .bool true, .bool false] (.tuple #[.int .i64 ((p + 9000) + m), .int .i64 (m + 2300), .bool true]) := by
 intro w
 have Hh1 := hid h1
 have Hh2 := hid h2
 clear h1 h2
 go_enter Tryd.func25, Tryd.ntmps25
 have LA := Has.new w 24 #[.int .u64 (za 0), .int .u64 (za 1), .int .u64 (za 2), .int .u64 (za 3)]
 have k1 := LA.cell 0 _ rfl
 have k2 := LA.cell 1 _ rfl
 have k3 := LA.cell 2 _ rfl
 have k4 := LA.cell 3 _ rfl
 have Q := (Below.refl w.heap.size w)
 have Q := Q.alloc Q.size (.cells #[.int .u64 (za 0), .int .u64 (za 1), .int .u64 (za 2), .int .u64 (za 3)] 24)
 go_wp2_with fail
 clear k1 k2 k3 k4
 obtain ⟨W1, hW1⟩ : ∃ W1, (w.alloc (.cells #[.int .u64 (za 0), .int .u64 (za 1), .int .u64 (za 2), .int .u64 (za 3)] 24)) = W1 := ⟨_, rfl⟩
 rw [hW1] at LA Q ⊢
 clear hW1
 refine (Hh1.out _).mono ?_
 rintro e v5 ⟨rfl, q⟩
 have LA := LA.later q
 have Q := Q.trans (q.mono Q.size)
 clear q
 have k6 := LA.cell 0 _ rfl
 have k7 := LA.cell 1 _ rfl
 have k8 := LA.cell 2 _ rfl
 have k9 := LA.cell 3 _ rfl
 go_wp2_with fail
 clear k6 k7 k8 k9
 refine (Hh2.out _).mono ?_
 rintro e v10 ⟨rfl, q⟩
 have LA := LA.later q
 have Q := Q.trans (q.mono Q.size)
 clear q
 have k11 := LA.cell 0 _ rfl
 have k12 := LA.cell 1 _ rfl
 have k13 := LA.cell 2 _ rfl
 have k14 := LA.cell 3 _ rfl
 go_wp2
 clear k11 k12 k13 k14
 go_ret3
 exact ⟨rfl, Q⟩
theorem rcall_fits1 (za : Nat → Int) (l p n m : Int) (a _c : Bool) (q0 : 100 ≤ p) (q1 : p ≤ 2600) (h1 : Ret Tryd.prog 30 #[.bool false, .bool a] (.int .i64 p)) (g : ¬ l < (p + 9000)) (g1 : ¬ l < 0) (g2 : ¬ 9007199254740992 < l) (mm : l - (p + 9000) - (l - (p + 9000)) / 64 = m) (m0 : 0 ≤ m) (m1 : m ≤ 9007199254740992) (c0 : ¬ m < n) (c1 : 0 ≤ n) (c2 : n ≤ 9007199254740992) (h2 : Ret Tryd.prog 45 #[.agg #[.int .u64 (za 0), .int .u64 (za 1), .int .u64 (za 2), .int .u64 (za 3)]] (.tuple #[.int .i64 n, .bool true])) :
  Ret Tryd.prog 25 #[.int .i64 l, .agg #[.int .u64 (za 0), .int .u64 (za 1), .int .u64 (za 2), .int .u64 (za 3)], .bool a, .bool true, .bool false] (.tuple #[.int .i64 ((p + 9000) + n), .int .i64 (n + 2300), .bool true]) := by
 intro w
 have Hh1 := hid h1
 have Hh2 := hid h2
 clear h1 h2
 go_enter Tryd.func25, Tryd.ntmps25
 have LA := Has.new w 24 #[.int .u64 (za 0), .int .u64 (za 1), .int .u64 (za 2), .int .u64 (za 3)]
 have k1 := LA.cell 0 _ rfl
 have k2 := LA.cell 1 _ rfl
 have k3 := LA.cell 2 _ rfl
 have k4 := LA.cell 3 _ rfl
 have Q := (Below.refl w.heap.size w)
 have Q := Q.alloc Q.size (.cells #[.int .u64 (za 0), .int .u64 (za 1), .int .u64 (za 2), .int .u64 (za 3)] 24)
 go_wp2_with fail
 clear k1 k2 k3 k4
 obtain ⟨W1, hW1⟩ : ∃ W1, (w.alloc (.cells #[.int .u64 (za 0), .int .u64 (za 1), .int .u64 (za 2), .int .u64 (za 3)] 24)) = W1 := ⟨_, rfl⟩
 rw [hW1] at LA Q ⊢
 clear hW1
 refine (Hh1.out _).mono ?_
 rintro e v5 ⟨rfl, q⟩
 have LA := LA.later q
 have Q := Q.trans (q.mono Q.size)
 clear q
 have k6 := LA.cell 0 _ rfl
 have k7 := LA.cell 1 _ rfl
 have k8 := LA.cell 2 _ rfl
 have k9 := LA.cell 3 _ rfl
 go_wp2_with fail
 clear k6 k7 k8 k9
 refine (Hh2.out _).mono ?_
 rintro e v10 ⟨rfl, q⟩
 have LA := LA.later q
 have Q := Q.trans (q.mono Q.size)
 clear q
 have k11 := LA.cell 0 _ rfl
 have k12 := LA.cell 1 _ rfl
 have k13 := LA.cell 2 _ rfl
 have k14 := LA.cell 3 _ rfl
 go_wp2
 clear k11 k12 k13 k14
 go_ret3
 exact ⟨rfl, Q⟩
theorem rcall_less2 (za : Nat → Int) (l p _n _m : Int) (a _c : Bool) (q0 : 100 ≤ p) (q1 : p ≤ 2600) (h1 : Ret Tryd.prog 30 #[.bool false, .bool a] (.int .i64 p)) (g : l < (p + 9000 + 25000)) :
  Ret Tryd.prog 25 #[.int .i64 l, .agg #[.int .u64 (za 0), .int .u64 (za 1), .int .u64 (za 2), .int .u64 (za 3)], .bool a, .bool true, .bool true] (.tuple #[.int .i64 0, .int .i64 0, .bool false]) := by
 intro w
 have Hh1 := hid h1
 clear h1
 go_enter Tryd.func25, Tryd.ntmps25
 have LA := Has.new w 24 #[.int .u64 (za 0), .int .u64 (za 1), .int .u64 (za 2), .int .u64 (za 3)]
 have k1 := LA.cell 0 _ rfl
 have k2 := LA.cell 1 _ rfl
 have k3 := LA.cell 2 _ rfl
 have k4 := LA.cell 3 _ rfl
 have Q := (Below.refl w.heap.size w)
 have Q := Q.alloc Q.size (.cells #[.int .u64 (za 0), .int .u64 (za 1), .int .u64 (za 2), .int .u64 (za 3)] 24)
 go_wp2_with fail
 clear k1 k2 k3 k4
 obtain ⟨W1, hW1⟩ : ∃ W1, (w.alloc (.cells #[.int .u64 (za 0), .int .u64 (za 1), .int .u64 (za 2), .int .u64 (za 3)] 24)) = W1 := ⟨_, rfl⟩
 rw [hW1] at LA Q ⊢
 clear hW1
 refine (Hh1.out _).mono ?_
 rintro e v5 ⟨rfl, q⟩
 have LA := LA.later q
 have Q := Q.trans (q.mono Q.size)
 clear q
 have k6 := LA.cell 0 _ rfl
 have k7 := LA.cell 1 _ rfl
 have k8 := LA.cell 2 _ rfl
 have k9 := LA.cell 3 _ rfl
 go_wp2
 clear k6 k7 k8 k9
 go_ret3
 exact ⟨rfl, Q⟩
theorem rcall_great2 (za : Nat → Int) (l p _n _m : Int) (a _c : Bool) (q0 : 100 ≤ p) (q1 : p ≤ 2600) (h1 : Ret Tryd.prog 30 #[.bool false, .bool a] (.int .i64 p)) (g : ¬ l < (p + 9000 + 25000)) (g1 : ¬ l < 0) (g2 : 9007199254740992 < l) :
  Ret Tryd.prog 25 #[.int .i64 l, .agg #[.int .u64 (za 0), .int .u64 (za 1), .int .u64 (za 2), .int .u64 (za 3)], .bool a, .bool true, .bool true] (.tuple #[.int .i64 0, .int .i64 0, .bool false]) := by
 intro w
 have Hh1 := hid h1
 clear h1
 go_enter Tryd.func25, Tryd.ntmps25
 have LA := Has.new w 24 #[.int .u64 (za 0), .int .u64 (za 1), .int .u64 (za 2), .int .u64 (za 3)]
 have k1 := LA.cell 0 _ rfl
 have k2 := LA.cell 1 _ rfl
 have k3 := LA.cell 2 _ rfl
 have k4 := LA.cell 3 _ rfl
 have Q := (Below.refl w.heap.size w)
 have Q := Q.alloc Q.size (.cells #[.int .u64 (za 0), .int .u64 (za 1), .int .u64 (za 2), .int .u64 (za 3)] 24)
 go_wp2_with fail
 clear k1 k2 k3 k4
 obtain ⟨W1, hW1⟩ : ∃ W1, (w.alloc (.cells #[.int .u64 (za 0), .int .u64 (za 1), .int .u64 (za 2), .int .u64 (za 3)] 24)) = W1 := ⟨_, rfl⟩
 rw [hW1] at LA Q ⊢
 clear hW1
 refine (Hh1.out _).mono ?_
 rintro e v5 ⟨rfl, q⟩
 have LA := LA.later q
 have Q := Q.trans (q.mono Q.size)
 clear q
 have k6 := LA.cell 0 _ rfl
 have k7 := LA.cell 1 _ rfl
 have k8 := LA.cell 2 _ rfl
 have k9 := LA.cell 3 _ rfl
 go_wp2
 clear k6 k7 k8 k9
 go_ret3
 exact ⟨rfl, Q⟩
theorem rcall_none2 (za : Nat → Int) (l p n m : Int) (a _c : Bool) (q0 : 100 ≤ p) (q1 : p ≤ 2600) (h1 : Ret Tryd.prog 30 #[.bool false, .bool a] (.int .i64 p)) (g : ¬ l < (p + 9000 + 25000)) (g1 : ¬ l < 0) (g2 : ¬ 9007199254740992 < l) (mm : l - (p + 9000 + 25000) - (l - (p + 9000 + 25000)) / 64 = m) (m0 : 0 ≤ m) (m1 : m ≤ 9007199254740992) (h2 : Ret Tryd.prog 45 #[.agg #[.int .u64 (za 0), .int .u64 (za 1), .int .u64 (za 2), .int .u64 (za 3)]] (.tuple #[.int .i64 n, .bool false])) :
  Ret Tryd.prog 25 #[.int .i64 l, .agg #[.int .u64 (za 0), .int .u64 (za 1), .int .u64 (za 2), .int .u64 (za 3)], .bool a, .bool true, .bool true] (.tuple #[.int .i64 ((p + 9000 + 25000) + m), .int .i64 (m + 2300), .bool true]) := by
 intro w
 have Hh1 := hid h1
 have Hh2 := hid h2
 clear h1 h2
 go_enter Tryd.func25, Tryd.ntmps25
 have LA := Has.new w 24 #[.int .u64 (za 0), .int .u64 (za 1), .int .u64 (za 2), .int .u64 (za 3)]
 have k1 := LA.cell 0 _ rfl
 have k2 := LA.cell 1 _ rfl
 have k3 := LA.cell 2 _ rfl
 have k4 := LA.cell 3 _ rfl
 have Q := (Below.refl w.heap.size w)
 have Q := Q.alloc Q.size (.cells #[.int .u64 (za 0), .int .u64 (za 1), .int .u64 (za 2), .int .u64 (za 3)] 24)
 go_wp2_with fail
 clear k1 k2 k3 k4
 obtain ⟨W1, hW1⟩ : ∃ W1, (w.alloc (.cells #[.int .u64 (za 0), .int .u64 (za 1), .int .u64 (za 2), .int .u64 (za 3)] 24)) = W1 := ⟨_, rfl⟩
 rw [hW1] at LA Q ⊢
 clear hW1
 refine (Hh1.out _).mono ?_
 rintro e v5 ⟨rfl, q⟩
 have LA := LA.later q
 have Q := Q.trans (q.mono Q.size)
 clear q
 have k6 := LA.cell 0 _ rfl
 have k7 := LA.cell 1 _ rfl
 have k8 := LA.cell 2 _ rfl
 have k9 := LA.cell 3 _ rfl
 go_wp2_with fail
 clear k6 k7 k8 k9
 refine (Hh2.out _).mono ?_
 rintro e v10 ⟨rfl, q⟩
 have LA := LA.later q
 have Q := Q.trans (q.mono Q.size)
 clear q
 have k11 := LA.cell 0 _ rfl
 have k12 := LA.cell 1 _ rfl
 have k13 := LA.cell 2 _ rfl
 have k14 := LA.cell 3 _ rfl
 go_wp2
 clear k11 k12 k13 k14
 go_ret3
 exact ⟨rfl, Q⟩
theorem rcall_more2 (za : Nat → Int) (l p n m : Int) (a _c : Bool) (q0 : 100 ≤ p) (q1 : p ≤ 2600) (h1 : Ret Tryd.prog 30 #[.bool false, .bool a] (.int .i64 p)) (g : ¬ l < (p + 9000 + 25000)) (g1 : ¬ l < 0) (g2 : ¬ 9007199254740992 < l) (mm : l - (p + 9000 + 25000) - (l - (p + 9000 + 25000)) / 64 = m) (m0 : 0 ≤ m) (m1 : m ≤ 9007199254740992) (c0 : m < n) (h2 : Ret Tryd.prog 45 #[.agg #[.int .u64 (za 0), .int .u64 (za 1), .int .u64 (za 2), .int .u64 (za 3)]] (.tuple #[.int .i64 n, .bool true])) :
  Ret Tryd.prog 25 #[.int .i64 l, .agg #[.int .u64 (za 0), .int .u64 (za 1), .int .u64 (za 2), .int .u64 (za 3)], .bool a, .bool true, .bool true] (.tuple #[.int .i64 ((p + 9000 + 25000) + m), .int .i64 (m + 2300), .bool true]) := by
 intro w
 have Hh1 := hid h1
 have Hh2 := hid h2
 clear h1 h2
 go_enter Tryd.func25, Tryd.ntmps25
 have LA := Has.new w 24 #[.int .u64 (za 0), .int .u64 (za 1), .int .u64 (za 2), .int .u64 (za 3)]
 have k1 := LA.cell 0 _ rfl
 have k2 := LA.cell 1 _ rfl
 have k3 := LA.cell 2 _ rfl
 have k4 := LA.cell 3 _ rfl
 have Q := (Below.refl w.heap.size w)
 have Q := Q.alloc Q.size (.cells #[.int .u64 (za 0), .int .u64 (za 1), .int .u64 (za 2), .int .u64 (za 3)] 24)
 go_wp2_with fail
 clear k1 k2 k3 k4
 obtain ⟨W1, hW1⟩ : ∃ W1, (w.alloc (.cells #[.int .u64 (za 0), .int .u64 (za 1), .int .u64 (za 2), .int .u64 (za 3)] 24)) = W1 := ⟨_, rfl⟩
 rw [hW1] at LA Q ⊢
 clear hW1
 refine (Hh1.out _).mono ?_
 rintro e v5 ⟨rfl, q⟩
 have LA := LA.later q
 have Q := Q.trans (q.mono Q.size)
 clear q
 have k6 := LA.cell 0 _ rfl
 have k7 := LA.cell 1 _ rfl
 have k8 := LA.cell 2 _ rfl
 have k9 := LA.cell 3 _ rfl
 go_wp2_with fail
 clear k6 k7 k8 k9
 refine (Hh2.out _).mono ?_
 rintro e v10 ⟨rfl, q⟩
 have LA := LA.later q
 have Q := Q.trans (q.mono Q.size)
 clear q
 have k11 := LA.cell 0 _ rfl
 have k12 := LA.cell 1 _ rfl
 have k13 := LA.cell 2 _ rfl
 have k14 := LA.cell 3 _ rfl
 go_wp2
 clear k11 k12 k13 k14
 go_ret3
 exact ⟨rfl, Q⟩
theorem rcall_fits2 (za : Nat → Int) (l p n m : Int) (a _c : Bool) (q0 : 100 ≤ p) (q1 : p ≤ 2600) (h1 : Ret Tryd.prog 30 #[.bool false, .bool a] (.int .i64 p)) (g : ¬ l < (p + 9000 + 25000)) (g1 : ¬ l < 0) (g2 : ¬ 9007199254740992 < l) (mm : l - (p + 9000 + 25000) - (l - (p + 9000 + 25000)) / 64 = m) (m0 : 0 ≤ m) (m1 : m ≤ 9007199254740992) (c0 : ¬ m < n) (c1 : 0 ≤ n) (c2 : n ≤ 9007199254740992) (h2 : Ret Tryd.prog 45 #[.agg #[.int .u64 (za 0), .int .u64 (za 1), .int .u64 (za 2), .int .u64 (za 3)]] (.tuple #[.int .i64 n, .bool true])) :
  Ret Tryd.prog 25 #[.int .i64 l, .agg #[.int .u64 (za 0), .int .u64 (za 1), .int .u64 (za 2), .int .u64 (za 3)], .bool a, .bool true, .bool true] (.tuple #[.int .i64 ((p + 9000 + 25000) + n), .int .i64 (n + 2300), .bool true]) := by
 intro w
 have Hh1 := hid h1
 have Hh2 := hid h2
 clear h1 h2
 go_enter Tryd.func25, Tryd.ntmps25
 have LA := Has.new w 24 #[.int .u64 (za 0), .int .u64 (za 1), .int .u64 (za 2), .int .u64 (za 3)]
 have k1 := LA.cell 0 _ rfl
 have k2 := LA.cell 1 _ rfl
 have k3 := LA.cell 2 _ rfl
 have k4 := LA.cell 3 _ rfl
 have Q := (Below.refl w.heap.size w)
 have Q := Q.alloc Q.size (.cells #[.int .u64 (za 0), .int .u64 (za 1), .int .u64 (za 2), .int .u64 (za 3)] 24)
 go_wp2_with fail
 clear k1 k2 k3 k4
 obtain ⟨W1, hW1⟩ : ∃ W1, (w.alloc (.cells #[.int .u64 (za 0), .int .u64 (za 1), .int .u64 (za 2), .int .u64 (za 3)] 24)) = W1 := ⟨_, rfl⟩
 rw [hW1] at LA Q ⊢
 clear hW1
 refine (Hh1.out _).mono ?_
 rintro e v5 ⟨rfl, q⟩
 have LA := LA.later q
 have Q := Q.trans (q.mono Q.size)
 clear q
 have k6 := LA.cell 0 _ rfl
 have k7 := LA.cell 1 _ rfl
 have k8 := LA.cell 2 _ rfl
 have k9 := LA.cell 3 _ rfl
 go_wp2_with fail
 clear k6 k7 k8 k9
 refine (Hh2.out _).mono ?_
 rintro e v10 ⟨rfl, q⟩
 have LA := LA.later q
 have Q := Q.trans (q.mono Q.size)
 clear q
 have k11 := LA.cell 0 _ rfl
 have k12 := LA.cell 1 _ rfl
 have k13 := LA.cell 2 _ rfl
 have k14 := LA.cell 3 _ rfl
 go_wp2
 clear k11 k12 k13 k14
 go_ret3
 exact ⟨rfl, Q⟩
section
variable (l : Int) (x : Nat) (hx : W256 x) (a : Bool)
include hx
theorem rInt_small (h : x ≤ maxI) : Ret Tryd.prog 45 #[wv x] (.tuple #[.int .i64 (x : Int), .bool true]) := by
 have h3 := refInt_ret x hx
 unfold intV at h3
 rwa [if_pos h] at h3
theorem rInt_great (h : ¬ x ≤ maxI) : Ret Tryd.prog 45 #[wv x] (.tuple #[.int .i64 0, .bool false]) := by
 have h3 := refInt_ret x hx
 unfold intV at h3
 rwa [if_neg h] at h3
theorem rcall_ret0 (c : Bool) : Ret Tryd.prog 25 #[.int .i64 l, wv x, .bool a, .bool false, .bool c] (callV l x a false c) := by
 have hp := rtouch_ret false a
 have hc : callingN a false c = touchN false a + 0 := by cases a <;> cases c <;> rfl
 have q0 : 100 ≤ touchN false a ∧ touchN false a ≤ 2600 := by cases a <;> decide
 unfold callV
 rw [hc]
 generalize touchN false a = p at *
 rw [Int.add_zero]
 by_cases h1 : l < p
 ·rw [if_pos (.inl h1)]; exact rcall_less0 _ l p 0 0 a c q0.1 q0.2 hp h1
 ·by_cases h2 : 9007199254740992 < l
  ·rw [if_pos (.inr h2)]; exact rcall_great0 _ l p 0 0 a c q0.1 q0.2 hp h1 (by omega) h2
  ·rw [if_neg (by omega)]
   have mt : ((mostN (l - p)).toNat : Int) = l - p - (l - p) / 64 := by unfold mostN; omega
   unfold ownN
   generalize (mostN (l - p)).toNat = mm at *
   by_cases h3 : x ≤ maxI
   ·have hi := rInt_small x hx h3
    by_cases h4 : mm < x
    ·rw [show min x mm = mm by omega]
     exact Ret.of_eq (rcall_more0 _ l p x mm a c q0.1 q0.2 hp h1 (by omega) h2 mt.symm (by omega) (by omega) (by omega) hi) rfl (by simp)
    ·rw [show min x mm = x by omega]
     exact Ret.of_eq (rcall_fits0 _ l p x mm a c q0.1 q0.2 hp h1 (by omega) h2 mt.symm (by omega) (by omega) (by omega) (by omega) (by omega) hi) rfl (by simp)
   ·have hi := rInt_great x hx h3
    rw [show min x mm = mm by have : ¬ x ≤ maxI := h3; unfold maxI at this; omega]
    exact Ret.of_eq (rcall_none0 _ l p 0 mm a c q0.1 q0.2 hp h1 (by omega) h2 mt.symm (by omega) (by omega) hi) rfl (by simp)
theorem rcall_ret1 (c : Bool) : Ret Tryd.prog 25 #[.int .i64 l, wv x, .bool a, .bool true, .bool false] (callV l x a true false) := by
 have hp := rtouch_ret false a
 have hc : callingN a true false = touchN false a + 9000 := by cases a <;> rfl
 have q0 : 100 ≤ touchN false a ∧ touchN false a ≤ 2600 := by cases a <;> decide
 unfold callV
 rw [hc]
 generalize touchN false a = p at *
 skip
 by_cases h1 : l < (p + 9000)
 ·rw [if_pos (.inl h1)]; exact rcall_less1 _ l p 0 0 a c q0.1 q0.2 hp h1
 ·by_cases h2 : 9007199254740992 < l
  ·rw [if_pos (.inr h2)]; exact rcall_great1 _ l p 0 0 a c q0.1 q0.2 hp h1 (by omega) h2
  ·rw [if_neg (by omega)]
   have mt : ((mostN (l - (p + 9000))).toNat : Int) = l - (p + 9000) - (l - (p + 9000)) / 64 := by unfold mostN; omega
   unfold ownN
   generalize (mostN (l - (p + 9000))).toNat = mm at *
   by_cases h3 : x ≤ maxI
   ·have hi := rInt_small x hx h3
    by_cases h4 : mm < x
    ·rw [show min x mm = mm by omega]
     exact Ret.of_eq (rcall_more1 _ l p x mm a c q0.1 q0.2 hp h1 (by omega) h2 mt.symm (by omega) (by omega) (by omega) hi) rfl (by simp)
    ·rw [show min x mm = x by omega]
     exact Ret.of_eq (rcall_fits1 _ l p x mm a c q0.1 q0.2 hp h1 (by omega) h2 mt.symm (by omega) (by omega) (by omega) (by omega) (by omega) hi) rfl (by simp)
   ·have hi := rInt_great x hx h3
    rw [show min x mm = mm by have : ¬ x ≤ maxI := h3; unfold maxI at this; omega]
    exact Ret.of_eq (rcall_none1 _ l p 0 mm a c q0.1 q0.2 hp h1 (by omega) h2 mt.symm (by omega) (by omega) hi) rfl (by simp)
theorem rcall_ret2 (c : Bool) : Ret Tryd.prog 25 #[.int .i64 l, wv x, .bool a, .bool true, .bool true] (callV l x a true true) := by
 have hp := rtouch_ret false a
 have hc : callingN a true true = touchN false a + 34000 := by cases a <;> rfl
 have q0 : 100 ≤ touchN false a ∧ touchN false a ≤ 2600 := by cases a <;> decide
 unfold callV
 rw [hc]
 generalize touchN false a = p at *
 rw [show p + 34000 = p + 9000 + 25000 by omega]
 by_cases h1 : l < (p + 9000 + 25000)
 ·rw [if_pos (.inl h1)]; exact rcall_less2 _ l p 0 0 a c q0.1 q0.2 hp h1
 ·by_cases h2 : 9007199254740992 < l
  ·rw [if_pos (.inr h2)]; exact rcall_great2 _ l p 0 0 a c q0.1 q0.2 hp h1 (by omega) h2
  ·rw [if_neg (by omega)]
   have mt : ((mostN (l - (p + 9000 + 25000))).toNat : Int) = l - (p + 9000 + 25000) - (l - (p + 9000 + 25000)) / 64 := by unfold mostN; omega
   unfold ownN
   generalize (mostN (l - (p + 9000 + 25000))).toNat = mm at *
   by_cases h3 : x ≤ maxI
   ·have hi := rInt_small x hx h3
    by_cases h4 : mm < x
    ·rw [show min x mm = mm by omega]
     exact Ret.of_eq (rcall_more2 _ l p x mm a c q0.1 q0.2 hp h1 (by omega) h2 mt.symm (by omega) (by omega) (by omega) hi) rfl (by simp)
    ·rw [show min x mm = x by omega]
     exact Ret.of_eq (rcall_fits2 _ l p x mm a c q0.1 q0.2 hp h1 (by omega) h2 mt.symm (by omega) (by omega) (by omega) (by omega) (by omega) hi) rfl (by simp)
   ·have hi := rInt_great x hx h3
    rw [show min x mm = mm by have : ¬ x ≤ maxI := h3; unfold maxI at this; omega]
    exact Ret.of_eq (rcall_none2 _ l p 0 mm a c q0.1 q0.2 hp h1 (by omega) h2 mt.symm (by omega) (by omega) hi) rfl (by simp)
theorem rcall_ret (b c : Bool) : Ret Tryd.prog 25 #[.int .i64 l, wv x, .bool a, .bool b, .bool c] (callV l x a b c) := by
 cases b
 ·exact rcall_ret0 l x hx a c
 ·cases c
  ·exact rcall_ret1 l x hx a false
  ·exact rcall_ret2 l x hx a true
end
end Go.Proofs.YtlihnlkcgiopoaaDoor
