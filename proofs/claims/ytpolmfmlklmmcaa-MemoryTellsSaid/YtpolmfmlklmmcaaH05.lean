/- Part. -/
import Derived.Test.YtpolmfmlklmmcaaH04
import Derived.Shelf.Strings.Builder2
import Derived.Shelf.Strings.BuilderK
import Derived.Shelf.LaysM
import Derived.Shelf.Strconv.Clone
import Derived.Test.YtpolmfmlklmmcaaProg
set_option maxRecDepth 100000
set_option maxHeartbeats 16000000
namespace Go.Proofs.Ytpolmfmlklmmcaa
section
open Go Go.RowKit Go.Shelf
attribute [local go_sem] Oper.semAt_some Grows wide_fn eq4
theorem compareI_ret (x y : Int) : Ret Try.prog 32 #[.int .i64 x, .int .i64 y] (.int .i64 (cmpO 0 x y)) := by
 intro w
 by_cases h1 : x < y
 ·have e : cmpO 0 x y = -1 := by unfold cmpO; rw [if_pos h1]
  rw [e]; clear e
  go_enter Try.func32, Try.ntmps32
  go_wp2
  go_ret
  exact ⟨rfl, Below.refl _ _⟩
 ·by_cases h2 : y < x
  ·have e : cmpO 0 x y = 1 := by unfold cmpO; rw [if_neg h1, if_pos h2]
   rw [e]; clear e
   go_enter Try.func32, Try.ntmps32
   go_wp2
   go_ret
   exact ⟨rfl, Below.refl _ _⟩
  ·have e : cmpO 0 x y = 0 := by unfold cmpO; rw [if_neg h1, if_neg h2]
   rw [e]; clear e
   go_enter Try.func32, Try.ntmps32
   go_wp2
   go_ret
   exact ⟨rfl, Below.refl _ _⟩
def limV (x m : Int) : Int := if x < 0 then 0 else if m < x then m else x
def limB (x m : Int) : Bool := decide (0 ≤ x ∧ x ≤ m)
theorem limI_walk (x m c0 c1 r : Int) (b : Bool) (h0 : Ret Try.prog 32 #[.int .i64 x, .int .i64 0] (.int .i64 c0)) (h1 : Ret Try.prog 32 #[.int .i64 x, .int .i64 m] (.int .i64 c1))
  (hc : (c0 < 0 ∧ r = 0 ∧ b = false) ∨ (¬ c0 < 0 ∧ 0 < c1 ∧ r = m ∧ b = false) ∨ (¬ c0 < 0 ∧ ¬ 0 < c1 ∧ r = x ∧ b = true)) :
  Ret Try.prog 31 #[.int .i64 x, .int .i64 m, .func (.func 32) #[] #[]] (.tuple #[.int .i64 r, .bool b]) := by
 intro w
 have H0 := hid h0
 have H1 := hid h1
 clear h0 h1
 obtain ⟨a, rfl, rfl⟩ | ⟨a, a2, rfl, rfl⟩ | ⟨a, a2, rfl, rfl⟩ := hc
 ·go_enter Try.func31, Try.ntmps31
  go_wp2_with fail
  refine (H0.out _).mono ?_
  rintro e w1 ⟨rfl, q1⟩
  go_wp2
  go_ret2
  exact ⟨rfl, q1⟩
 ·go_enter Try.func31, Try.ntmps31
  go_wp2_with fail
  refine (H0.out _).mono ?_
  rintro e w1 ⟨rfl, q1⟩
  go_wp2_with fail
  refine (H1.out _).mono ?_
  rintro e w2 ⟨rfl, q2⟩
  go_wp2
  go_ret2
  exact ⟨rfl, q1.trans (q2.mono q1.size)⟩
 ·go_enter Try.func31, Try.ntmps31
  go_wp2_with fail
  refine (H0.out _).mono ?_
  rintro e w1 ⟨rfl, q1⟩
  go_wp2_with fail
  refine (H1.out _).mono ?_
  rintro e w2 ⟨rfl, q2⟩
  go_wp2
  go_ret2
  exact ⟨rfl, q1.trans (q2.mono q1.size)⟩
theorem limI_ret (x m : Int) : Ret Try.prog 31 #[.int .i64 x, .int .i64 m, .func (.func 32) #[] #[]] (.tuple #[.int .i64 (limV x m), .bool (limB x m)]) := by
 refine limI_walk x m _ _ _ _ (compareI_ret x 0) (compareI_ret x m) ?_
 unfold limV limB cmpO
 by_cases h0 : x < 0
 ·exact .inl ⟨by rw [if_pos h0]; decide, by rw [if_pos h0], by simp; omega⟩
 ·refine .inr ?_
  by_cases h1 : m < x
  ·exact .inl ⟨by rw [if_neg h0]; split <;> decide, by rw [if_neg (by omega), if_pos h1]; decide, by rw [if_neg h0, if_pos h1], by simp; omega⟩
  ·exact .inr ⟨by rw [if_neg h0]; split <;> decide, by split <;> (try split) <;> (first | decide | omega), by rw [if_neg h0, if_neg h1], by simp; omega⟩
theorem limW_in (za zm : Nat → Int) (c0 c1 : Int) (hc0 : ¬ c0 < 0) (hc1 : ¬ 0 < c1) (h1 : Ret Try.prog 51 #[.agg #[.int .u64 (za 0), .int .u64 (za 1), .int .u64 (za 2), .int .u64 (za 3)], .agg #[.int .u64 0, .int .u64 0, .int .u64 0, .int .u64 0]] (.int .i64 c0)) (h2 : Ret Try.prog 51 #[.agg #[.int .u64 (za 0), .int .u64 (za 1), .int .u64 (za 2), .int .u64 (za 3)], .agg #[.int .u64 (zm 0), .int .u64 (zm 1), .int .u64 (zm 2), .int .u64 (zm 3)]] (.int .i64 c1)) :
  Ret Try.prog 49 #[.agg #[.int .u64 (za 0), .int .u64 (za 1), .int .u64 (za 2), .int .u64 (za 3)], .agg #[.int .u64 (zm 0), .int .u64 (zm 1), .int .u64 (zm 2), .int .u64 (zm 3)], .func (.func 51) #[] #[]] (.tuple #[.agg #[.int .u64 (za 0), .int .u64 (za 1), .int .u64 (za 2), .int .u64 (za 3)], .bool true]) := by
 intro w
 have Hh1 := hid h1
 have Hh2 := hid h2
 clear h1 h2
 go_enter Try.func49, Try.ntmps49
 have LA := Has.new w 24 #[.int .u64 (za 0), .int .u64 (za 1), .int .u64 (za 2), .int .u64 (za 3)]
 have k1 := LA.cell 0 _ rfl
 have k2 := LA.cell 1 _ rfl
 have k3 := LA.cell 2 _ rfl
 have k4 := LA.cell 3 _ rfl
 have LA := LA.alloc (.cells #[.int .u64 (zm 0), .int .u64 (zm 1), .int .u64 (zm 2), .int .u64 (zm 3)] 24)
 have LM := Has.new (w.alloc (.cells #[.int .u64 (za 0), .int .u64 (za 1), .int .u64 (za 2), .int .u64 (za 3)] 24)) 24 #[.int .u64 (zm 0), .int .u64 (zm 1), .int .u64 (zm 2), .int .u64 (zm 3)]
 simp only [World.size_alloc] at LM
 have k5 := LA.cell 0 _ rfl
 have k6 := LA.cell 1 _ rfl
 have k7 := LA.cell 2 _ rfl
 have k8 := LA.cell 3 _ rfl
 have k9 := LM.cell 0 _ rfl
 have k10 := LM.cell 1 _ rfl
 have k11 := LM.cell 2 _ rfl
 have k12 := LM.cell 3 _ rfl
 have LA := LA.alloc (.cells #[.int .u64 0, .int .u64 0, .int .u64 0, .int .u64 0] 24)
 have LM := LM.alloc (.cells #[.int .u64 0, .int .u64 0, .int .u64 0, .int .u64 0] 24)
 have LR := Has.new ((w.alloc (.cells #[.int .u64 (za 0), .int .u64 (za 1), .int .u64 (za 2), .int .u64 (za 3)] 24)).alloc (.cells #[.int .u64 (zm 0), .int .u64 (zm 1), .int .u64 (zm 2), .int .u64 (zm 3)] 24)) 24 #[.int .u64 0, .int .u64 0, .int .u64 0, .int .u64 0]
 simp only [World.size_alloc] at LR
 have k13 := LA.cell 0 _ rfl
 have k14 := LA.cell 1 _ rfl
 have k15 := LA.cell 2 _ rfl
 have k16 := LA.cell 3 _ rfl
 have k17 := LM.cell 0 _ rfl
 have k18 := LM.cell 1 _ rfl
 have k19 := LM.cell 2 _ rfl
 have k20 := LM.cell 3 _ rfl
 have k21 := LR.cell 0 _ rfl
 have k22 := LR.cell 1 _ rfl
 have k23 := LR.cell 2 _ rfl
 have k24 := LR.cell 3 _ rfl
 have LA := LA.alloc (.cells #[.int .u64 0, .int .u64 0, .int .u64 0, .int .u64 0] 24)
 have LM := LM.alloc (.cells #[.int .u64 0, .int .u64 0, .int .u64 0, .int .u64 0] 24)
 have LR := LR.alloc (.cells #[.int .u64 0, .int .u64 0, .int .u64 0, .int .u64 0] 24)
 have LO := Has.new (((w.alloc (.cells #[.int .u64 (za 0), .int .u64 (za 1), .int .u64 (za 2), .int .u64 (za 3)] 24)).alloc (.cells #[.int .u64 (zm 0), .int .u64 (zm 1), .int .u64 (zm 2), .int .u64 (zm 3)] 24)).alloc (.cells #[.int .u64 0, .int .u64 0, .int .u64 0, .int .u64 0] 24)) 24 #[.int .u64 0, .int .u64 0, .int .u64 0, .int .u64 0]
 simp only [World.size_alloc] at LO
 have k25 := LA.cell 0 _ rfl
 have k26 := LA.cell 1 _ rfl
 have k27 := LA.cell 2 _ rfl
 have k28 := LA.cell 3 _ rfl
 have k29 := LM.cell 0 _ rfl
 have k30 := LM.cell 1 _ rfl
 have k31 := LM.cell 2 _ rfl
 have k32 := LM.cell 3 _ rfl
 have k33 := LR.cell 0 _ rfl
 have k34 := LR.cell 1 _ rfl
 have k35 := LR.cell 2 _ rfl
 have k36 := LR.cell 3 _ rfl
 have k37 := LO.cell 0 _ rfl
 have k38 := LO.cell 1 _ rfl
 have k39 := LO.cell 2 _ rfl
 have k40 := LO.cell 3 _ rfl
 have Q := (Below.refl w.heap.size w)
 have Q := Q.alloc Q.size (.cells #[.int .u64 (za 0), .int .u64 (za 1), .int .u64 (za 2), .int .u64 (za 3)] 24)
 have Q := Q.alloc Q.size (.cells #[.int .u64 (zm 0), .int .u64 (zm 1), .int .u64 (zm 2), .int .u64 (zm 3)] 24)
 have Q := Q.alloc Q.size (.cells #[.int .u64 0, .int .u64 0, .int .u64 0, .int .u64 0] 24)
 have Q := Q.alloc Q.size (.cells #[.int .u64 0, .int .u64 0, .int .u64 0, .int .u64 0] 24)
 go_wp2_with fail
 clear k1 k2 k3 k4 k5 k6 k7 k8 k9 k10 k11 k12 k13 k14 k15 k16 k17 k18 k19 k20 k21 k22 k23 k24 k25 k26 k27 k28 k29 k30 k31 k32 k33 k34 k35 k36 k37 k38 k39 k40
 obtain ⟨W1, hW1⟩ : ∃ W1, ((((w.alloc (.cells #[.int .u64 (za 0), .int .u64 (za 1), .int .u64 (za 2), .int .u64 (za 3)] 24)).alloc (.cells #[.int .u64 (zm 0), .int .u64 (zm 1), .int .u64 (zm 2), .int .u64 (zm 3)] 24)).alloc (.cells #[.int .u64 0, .int .u64 0, .int .u64 0, .int .u64 0] 24)).alloc (.cells #[.int .u64 0, .int .u64 0, .int .u64 0, .int .u64 0] 24)) = W1 := ⟨_, rfl⟩
 rw [hW1] at LA LM LR LO Q ⊢
 clear hW1
 refine (Hh1.out _).mono ?_
 rintro e v41 ⟨rfl, q⟩
 have LA := LA.later q
 have LM := LM.later q
 have LR := LR.later q
 have LO := LO.later q
 have Q := Q.trans (q.mono Q.size)
 clear q
 have k42 := LA.cell 0 _ rfl
 have k43 := LA.cell 1 _ rfl
 have k44 := LA.cell 2 _ rfl
 have k45 := LA.cell 3 _ rfl
 have k46 := LM.cell 0 _ rfl
 have k47 := LM.cell 1 _ rfl
 have k48 := LM.cell 2 _ rfl
 have k49 := LM.cell 3 _ rfl
 have k50 := LR.cell 0 _ rfl
 have k51 := LR.cell 1 _ rfl
 have k52 := LR.cell 2 _ rfl
 have k53 := LR.cell 3 _ rfl
 have k54 := LO.cell 0 _ rfl
 have k55 := LO.cell 1 _ rfl
 have k56 := LO.cell 2 _ rfl
 have k57 := LO.cell 3 _ rfl
 go_wp2_with fail
 clear k42 k43 k44 k45 k46 k47 k48 k49 k50 k51 k52 k53 k54 k55 k56 k57
 refine (Hh2.out _).mono ?_
 rintro e v58 ⟨rfl, q⟩
 have LA := LA.later q
 have LM := LM.later q
 have LR := LR.later q
 have LO := LO.later q
 have Q := Q.trans (q.mono Q.size)
 clear q
 have k59 := LA.cell 0 _ rfl
 have k60 := LA.cell 1 _ rfl
 have k61 := LA.cell 2 _ rfl
 have k62 := LA.cell 3 _ rfl
 have k63 := LM.cell 0 _ rfl
 have k64 := LM.cell 1 _ rfl
 have k65 := LM.cell 2 _ rfl
 have k66 := LM.cell 3 _ rfl
 have k67 := LR.cell 0 _ rfl
 have k68 := LR.cell 1 _ rfl
 have k69 := LR.cell 2 _ rfl
 have k70 := LR.cell 3 _ rfl
 have k71 := LO.cell 0 _ rfl
 have k72 := LO.cell 1 _ rfl
 have k73 := LO.cell 2 _ rfl
 have k74 := LO.cell 3 _ rfl
 have z0 := LR.frozen 0
 have z1 := LR.frozen 1
 have z2 := LR.frozen 2
 have z3 := LR.frozen 3
 have HR := hid (((((LR.set 0 (.int .u64 (za 0))).set 1 (.int .u64 (za 1))).set 2 (.int .u64 (za 2))).set 3 (.int .u64 (za 3))))
 have HQ := hid (((((Q.setCell (p := ⟨w.heap.size + 1 + 1, 0, none⟩) (show w.heap.size ≤ _ by simp; first | done | omega) (.int .u64 (za 0))).setCell (p := ⟨w.heap.size + 1 + 1, 1, none⟩) (show w.heap.size ≤ _ by simp; first | done | omega) (.int .u64 (za 1))).setCell (p := ⟨w.heap.size + 1 + 1, 2, none⟩) (show w.heap.size ≤ _ by simp; first | done | omega) (.int .u64 (za 2))).setCell (p := ⟨w.heap.size + 1 + 1, 3, none⟩) (show w.heap.size ≤ _ by simp; first | done | omega) (.int .u64 (za 3))))
 clear Q LA LM LR LO
 go_wp2
 refine bodyPost_ret (results_wordE (m := za) rfl rfl HR.out) rfl ⟨rfl, HQ.out⟩
theorem limW_out (za zm : Nat → Int) (c0 c1 : Int) (hc0 : ¬ c0 < 0) (hc1 : 0 < c1) (h1 : Ret Try.prog 51 #[.agg #[.int .u64 (za 0), .int .u64 (za 1), .int .u64 (za 2), .int .u64 (za 3)], .agg #[.int .u64 0, .int .u64 0, .int .u64 0, .int .u64 0]] (.int .i64 c0)) (h2 : Ret Try.prog 51 #[.agg #[.int .u64 (za 0), .int .u64 (za 1), .int .u64 (za 2), .int .u64 (za 3)], .agg #[.int .u64 (zm 0), .int .u64 (zm 1), .int .u64 (zm 2), .int .u64 (zm 3)]] (.int .i64 c1)) :
  Ret Try.prog 49 #[.agg #[.int .u64 (za 0), .int .u64 (za 1), .int .u64 (za 2), .int .u64 (za 3)], .agg #[.int .u64 (zm 0), .int .u64 (zm 1), .int .u64 (zm 2), .int .u64 (zm 3)], .func (.func 51) #[] #[]] (.tuple #[.agg #[.int .u64 (zm 0), .int .u64 (zm 1), .int .u64 (zm 2), .int .u64 (zm 3)], .bool false]) := by
 intro w
 have Hh1 := hid h1
 have Hh2 := hid h2
 clear h1 h2
 go_enter Try.func49, Try.ntmps49
 have LA := Has.new w 24 #[.int .u64 (za 0), .int .u64 (za 1), .int .u64 (za 2), .int .u64 (za 3)]
 have k1 := LA.cell 0 _ rfl
 have k2 := LA.cell 1 _ rfl
 have k3 := LA.cell 2 _ rfl
 have k4 := LA.cell 3 _ rfl
 have LA := LA.alloc (.cells #[.int .u64 (zm 0), .int .u64 (zm 1), .int .u64 (zm 2), .int .u64 (zm 3)] 24)
 have LM := Has.new (w.alloc (.cells #[.int .u64 (za 0), .int .u64 (za 1), .int .u64 (za 2), .int .u64 (za 3)] 24)) 24 #[.int .u64 (zm 0), .int .u64 (zm 1), .int .u64 (zm 2), .int .u64 (zm 3)]
 simp only [World.size_alloc] at LM
 have k5 := LA.cell 0 _ rfl
 have k6 := LA.cell 1 _ rfl
 have k7 := LA.cell 2 _ rfl
 have k8 := LA.cell 3 _ rfl
 have k9 := LM.cell 0 _ rfl
 have k10 := LM.cell 1 _ rfl
 have k11 := LM.cell 2 _ rfl
 have k12 := LM.cell 3 _ rfl
 have LA := LA.alloc (.cells #[.int .u64 0, .int .u64 0, .int .u64 0, .int .u64 0] 24)
 have LM := LM.alloc (.cells #[.int .u64 0, .int .u64 0, .int .u64 0, .int .u64 0] 24)
 have LR := Has.new ((w.alloc (.cells #[.int .u64 (za 0), .int .u64 (za 1), .int .u64 (za 2), .int .u64 (za 3)] 24)).alloc (.cells #[.int .u64 (zm 0), .int .u64 (zm 1), .int .u64 (zm 2), .int .u64 (zm 3)] 24)) 24 #[.int .u64 0, .int .u64 0, .int .u64 0, .int .u64 0]
 simp only [World.size_alloc] at LR
 have k13 := LA.cell 0 _ rfl
 have k14 := LA.cell 1 _ rfl
 have k15 := LA.cell 2 _ rfl
 have k16 := LA.cell 3 _ rfl
 have k17 := LM.cell 0 _ rfl
 have k18 := LM.cell 1 _ rfl
 have k19 := LM.cell 2 _ rfl
 have k20 := LM.cell 3 _ rfl
 have k21 := LR.cell 0 _ rfl
 have k22 := LR.cell 1 _ rfl
 have k23 := LR.cell 2 _ rfl
 have k24 := LR.cell 3 _ rfl
 have LA := LA.alloc (.cells #[.int .u64 0, .int .u64 0, .int .u64 0, .int .u64 0] 24)
 have LM := LM.alloc (.cells #[.int .u64 0, .int .u64 0, .int .u64 0, .int .u64 0] 24)
 have LR := LR.alloc (.cells #[.int .u64 0, .int .u64 0, .int .u64 0, .int .u64 0] 24)
 have LO := Has.new (((w.alloc (.cells #[.int .u64 (za 0), .int .u64 (za 1), .int .u64 (za 2), .int .u64 (za 3)] 24)).alloc (.cells #[.int .u64 (zm 0), .int .u64 (zm 1), .int .u64 (zm 2), .int .u64 (zm 3)] 24)).alloc (.cells #[.int .u64 0, .int .u64 0, .int .u64 0, .int .u64 0] 24)) 24 #[.int .u64 0, .int .u64 0, .int .u64 0, .int .u64 0]
 simp only [World.size_alloc] at LO
 have k25 := LA.cell 0 _ rfl
 have k26 := LA.cell 1 _ rfl
 have k27 := LA.cell 2 _ rfl
 have k28 := LA.cell 3 _ rfl
 have k29 := LM.cell 0 _ rfl
 have k30 := LM.cell 1 _ rfl
 have k31 := LM.cell 2 _ rfl
 have k32 := LM.cell 3 _ rfl
 have k33 := LR.cell 0 _ rfl
 have k34 := LR.cell 1 _ rfl
 have k35 := LR.cell 2 _ rfl
 have k36 := LR.cell 3 _ rfl
 have k37 := LO.cell 0 _ rfl
 have k38 := LO.cell 1 _ rfl
 have k39 := LO.cell 2 _ rfl
 have k40 := LO.cell 3 _ rfl
 have Q := (Below.refl w.heap.size w)
 have Q := Q.alloc Q.size (.cells #[.int .u64 (za 0), .int .u64 (za 1), .int .u64 (za 2), .int .u64 (za 3)] 24)
 have Q := Q.alloc Q.size (.cells #[.int .u64 (zm 0), .int .u64 (zm 1), .int .u64 (zm 2), .int .u64 (zm 3)] 24)
 have Q := Q.alloc Q.size (.cells #[.int .u64 0, .int .u64 0, .int .u64 0, .int .u64 0] 24)
 have Q := Q.alloc Q.size (.cells #[.int .u64 0, .int .u64 0, .int .u64 0, .int .u64 0] 24)
 go_wp2_with fail
 clear k1 k2 k3 k4 k5 k6 k7 k8 k9 k10 k11 k12 k13 k14 k15 k16 k17 k18 k19 k20 k21 k22 k23 k24 k25 k26 k27 k28 k29 k30 k31 k32 k33 k34 k35 k36 k37 k38 k39 k40
 obtain ⟨W1, hW1⟩ : ∃ W1, ((((w.alloc (.cells #[.int .u64 (za 0), .int .u64 (za 1), .int .u64 (za 2), .int .u64 (za 3)] 24)).alloc (.cells #[.int .u64 (zm 0), .int .u64 (zm 1), .int .u64 (zm 2), .int .u64 (zm 3)] 24)).alloc (.cells #[.int .u64 0, .int .u64 0, .int .u64 0, .int .u64 0] 24)).alloc (.cells #[.int .u64 0, .int .u64 0, .int .u64 0, .int .u64 0] 24)) = W1 := ⟨_, rfl⟩
 rw [hW1] at LA LM LR LO Q ⊢
 clear hW1
 refine (Hh1.out _).mono ?_
 rintro e v41 ⟨rfl, q⟩
 have LA := LA.later q
 have LM := LM.later q
 have LR := LR.later q
 have LO := LO.later q
 have Q := Q.trans (q.mono Q.size)
 clear q
 have k42 := LA.cell 0 _ rfl
 have k43 := LA.cell 1 _ rfl
 have k44 := LA.cell 2 _ rfl
 have k45 := LA.cell 3 _ rfl
 have k46 := LM.cell 0 _ rfl
 have k47 := LM.cell 1 _ rfl
 have k48 := LM.cell 2 _ rfl
 have k49 := LM.cell 3 _ rfl
 have k50 := LR.cell 0 _ rfl
 have k51 := LR.cell 1 _ rfl
 have k52 := LR.cell 2 _ rfl
 have k53 := LR.cell 3 _ rfl
 have k54 := LO.cell 0 _ rfl
 have k55 := LO.cell 1 _ rfl
 have k56 := LO.cell 2 _ rfl
 have k57 := LO.cell 3 _ rfl
 go_wp2_with fail
 clear k42 k43 k44 k45 k46 k47 k48 k49 k50 k51 k52 k53 k54 k55 k56 k57
 refine (Hh2.out _).mono ?_
 rintro e v58 ⟨rfl, q⟩
 have LA := LA.later q
 have LM := LM.later q
 have LR := LR.later q
 have LO := LO.later q
 have Q := Q.trans (q.mono Q.size)
 clear q
 have k59 := LA.cell 0 _ rfl
 have k60 := LA.cell 1 _ rfl
 have k61 := LA.cell 2 _ rfl
 have k62 := LA.cell 3 _ rfl
 have k63 := LM.cell 0 _ rfl
 have k64 := LM.cell 1 _ rfl
 have k65 := LM.cell 2 _ rfl
 have k66 := LM.cell 3 _ rfl
 have k67 := LR.cell 0 _ rfl
 have k68 := LR.cell 1 _ rfl
 have k69 := LR.cell 2 _ rfl
 have k70 := LR.cell 3 _ rfl
 have k71 := LO.cell 0 _ rfl
 have k72 := LO.cell 1 _ rfl
 have k73 := LO.cell 2 _ rfl
 have k74 := LO.cell 3 _ rfl
 have z0 := LR.frozen 0
 have z1 := LR.frozen 1
 have z2 := LR.frozen 2
 have z3 := LR.frozen 3
 have HR := hid (((((LR.set 0 (.int .u64 (zm 0))).set 1 (.int .u64 (zm 1))).set 2 (.int .u64 (zm 2))).set 3 (.int .u64 (zm 3))))
 have HQ := hid (((((Q.setCell (p := ⟨w.heap.size + 1 + 1, 0, none⟩) (show w.heap.size ≤ _ by simp; first | done | omega) (.int .u64 (zm 0))).setCell (p := ⟨w.heap.size + 1 + 1, 1, none⟩) (show w.heap.size ≤ _ by simp; first | done | omega) (.int .u64 (zm 1))).setCell (p := ⟨w.heap.size + 1 + 1, 2, none⟩) (show w.heap.size ≤ _ by simp; first | done | omega) (.int .u64 (zm 2))).setCell (p := ⟨w.heap.size + 1 + 1, 3, none⟩) (show w.heap.size ≤ _ by simp; first | done | omega) (.int .u64 (zm 3))))
 clear Q LA LM LR LO
 go_wp2
 refine bodyPost_ret (results_wordE (m := zm) rfl rfl HR.out) rfl ⟨rfl, HQ.out⟩
theorem limW_ret (a m : Nat) (ha : W256 a) (hm : W256 m) : Ret Try.prog 49 #[wv a, wv m, .func (.func 51) #[] #[]] (.tuple #[wv (min a m), .bool (decide (a ≤ m))]) := by
 have C0 := cmp_ret a 0 ha (by unfold W256; decide)
 have C1 := cmp_ret a m ha hm
 have h0 : ¬ wcmp a 0 < 0 := by unfold wcmp; rw [if_neg (by omega)]; split <;> decide
 by_cases h : a ≤ m
 ·rw [Nat.min_eq_left h, decide_eq_true h]
  exact limW_in _ _ _ _ h0 (by unfold wcmp; split <;> (try split) <;> (first | decide | omega)) C0 C1
 ·rw [Nat.min_eq_right (by omega), decide_eq_false h]
  exact limW_out _ _ _ _ h0 (by unfold wcmp; rw [if_neg (by omega), if_pos (by omega)]; decide) C0 C1
theorem number_walk (za zm zl : Nat → Int) (m n : Int) (b : Bool) (h1 : Ret Try.prog 50 #[.int .i64 m] (.agg #[.int .u64 (zm 0), .int .u64 (zm 1), .int .u64 (zm 2), .int .u64 (zm 3)])) (h2 : Ret Try.prog 49 #[.agg #[.int .u64 (za 0), .int .u64 (za 1), .int .u64 (za 2), .int .u64 (za 3)], .agg #[.int .u64 (zm 0), .int .u64 (zm 1), .int .u64 (zm 2), .int .u64 (zm 3)], .func (.func 51) #[] #[]] (.tuple #[.agg #[.int .u64 (zl 0), .int .u64 (zl 1), .int .u64 (zl 2), .int .u64 (zl 3)], .bool b])) (h3 : Ret Try.prog 52 #[.agg #[.int .u64 (zl 0), .int .u64 (zl 1), .int .u64 (zl 2), .int .u64 (zl 3)]] (.tuple #[.int .i64 n, .bool true])) :
  Ret Try.prog 34 #[.agg #[.int .u64 (za 0), .int .u64 (za 1), .int .u64 (za 2), .int .u64 (za 3)], .int .i64 m] (.int .i64 n) := by
 intro w
 have Hh1 := hid h1
 have Hh2 := hid h2
 have Hh3 := hid h3
 clear h1 h2 h3
 go_enter Try.func34, Try.ntmps34
 have LA := Has.new w 24 #[.int .u64 (za 0), .int .u64 (za 1), .int .u64 (za 2), .int .u64 (za 3)]
 have k1 := LA.cell 0 _ rfl
 have k2 := LA.cell 1 _ rfl
 have k3 := LA.cell 2 _ rfl
 have k4 := LA.cell 3 _ rfl
 have Q := (Below.refl w.heap.size w)
 have Q := Q.alloc Q.size (.cells #[.int .u64 (za 0), .int .u64 (za 1), .int .u64 (za 2), .int .u64 (za 3)] 24)
 go_wp2_with fail
 clear k1 k2 k3 k4
 obtain ⟨W1, hW1⟩ : ∃ W1, (w.alloc (.cells #[.int .u64 (za 0), .int .u64 (za 1), .int .u64 (za 2), .int .u64 (za 3)] 24)) = W1 := ⟨_, rfl⟩
 rw [hW1] at LA Q ⊢
 clear hW1
 have k5 : ∀ x : Ext W1, x.w.cell? ⟨w.heap.size, 0, none⟩ = some (.int .u64 (za 0)) := fun x => (LA.later x.below).cell 0 _ rfl
 have k6 : ∀ x : Ext W1, x.w.cell? ⟨w.heap.size, 1, none⟩ = some (.int .u64 (za 1)) := fun x => (LA.later x.below).cell 1 _ rfl
 have k7 : ∀ x : Ext W1, x.w.cell? ⟨w.heap.size, 2, none⟩ = some (.int .u64 (za 2)) := fun x => (LA.later x.below).cell 2 _ rfl
 have k8 : ∀ x : Ext W1, x.w.cell? ⟨w.heap.size, 3, none⟩ = some (.int .u64 (za 3)) := fun x => (LA.later x.below).cell 3 _ rfl
 have hmx : Try.prog.follows .mixedOrders = true := by kernel_rfl
 refine wp_region_mix (C := Grows W1) [some true, some true, some true, some true, some true, some true, some false, none] hmx (by kernel_rfl) (by kernel_rfl) (grows_refl W1) ?_
 simp only [headOf, tailOf]
 repeat (go_big_quiet_step (first | (with_reducible exact Ret.at Hh1.out _) | (with_reducible exact Ret.at Hh2.out _)))
 refine wpQuiet_nil ?_
 rintro _ ⟨x, rfl⟩
 clear k5 k6 k7 k8
 have LA := LA.later x.below
 have Q := Q.trans (x.below.mono Q.size)
 have z0 := LA.frozen 0
 have z1 := LA.frozen 1
 have z2 := LA.frozen 2
 have z3 := LA.frozen 3
 have k0 := LA.cell 0 _ rfl
 have k1 := LA.cell 1 _ rfl
 have k2 := LA.cell 2 _ rfl
 have k3 := LA.cell 3 _ rfl
 have L2 := ((((LA.set 0 (.int .u64 (zl 0))).set 1 (.int .u64 (zl 1))).set 2 (.int .u64 (zl 2))).set 3 (.int .u64 (zl 3)))
 have Q2 := ((((Q.setCell (p := ⟨w.heap.size, 0, none⟩) (Nat.le_refl _) (.int .u64 (zl 0))).setCell (p := ⟨w.heap.size, 1, none⟩) (Nat.le_refl _) (.int .u64 (zl 1))).setCell (p := ⟨w.heap.size, 2, none⟩) (Nat.le_refl _) (.int .u64 (zl 2))).setCell (p := ⟨w.heap.size, 3, none⟩) (Nat.le_refl _) (.int .u64 (zl 3)))
 have d0 := L2.cell 0 (.int .u64 (zl 0)) rfl
 have d1 := L2.cell 1 (.int .u64 (zl 1)) rfl
 have d2 := L2.cell 2 (.int .u64 (zl 2)) rfl
 have d3 := L2.cell 3 (.int .u64 (zl 3)) rfl
 have HQ := hid Q2
 clear L2 Q2 LA Q
 go_wp2
 rw [calmPost_normal]
 go_wp2_with fail
 refine (Hh3.out _).mono ?_
 rintro e w2 ⟨rfl, q⟩
 go_wp2
 go_ret
 exact ⟨rfl, HQ.out.trans (q.mono HQ.out.size)⟩
theorem eqvM (a b : Nat) (ha : W256 a) (hb : W256 b) : (lim a 0 == lim b 0 && lim a 1 == lim b 1 && lim a 2 == lim b 2 && lim a 3 == lim b 3) = decide (a = b) := by
 by_cases h : a = b
 ·subst h; simp
 ·rw [decide_eq_false h]
  refine Bool.eq_false_iff.2 fun e => h ?_
  simp only [Bool.and_eq_true, beq_iff_eq] at e
  exact lim_ext ha hb fun k hk => by
   rcases (show k = 0 ∨ k = 1 ∨ k = 2 ∨ k = 3 by omega) with rfl | rfl | rfl | rfl
   ·exact e.1.1.1
   ·exact e.1.1.2
   ·exact e.1.2
   ·exact e.2
theorem number_ret (a m : Nat) (ha : W256 a) (hm : m ≤ 140737488355328) : Ret Try.prog 34 #[wv a, .int .i64 (m : Int)] (.int .i64 ((min a m : Nat) : Int)) := by
 have hI : I64 (m : Int) := by unfold I64; omega
 have e : ofN (m : Int) = m := ofN_nat m
 have h1 := of_ret (m : Int) hI
 rw [e] at h1
 have hmw : W256 m := by unfold W256; omega
 have h2 := limW_ret a m ha hmw
 have hl : W256 (min a m) := by unfold W256 at *; omega
 have h3 := int_ret (min a m) hl
 have hle : min a m ≤ maxI := by unfold maxI; omega
 unfold intV at h3
 rw [if_pos hle] at h3
 exact number_walk _ _ _ _ _ _ h1 h2 h3
theorem roundedUp_ret (b : Nat) (hb : b ≤ 4611686018427387904) : Ret Try.prog 33 #[.int .i64 (b : Int)] (.int .i64 (((b + 31) / 32 : Nat) : Int)) := by
 refine Ret.of_same fun w => ?_
 have e : ((b : Int) + 32 - 1).tdiv 32 = (((b + 31) / 32 : Nat) : Int) := by
  rw [Int.tdiv_eq_ediv_of_nonneg (by omega)]; omega
 have b1 : (0 : Int) ≤ (((b + 31) / 32 : Nat) : Int) := by omega
 have b2 : (((b + 31) / 32 : Nat) : Int) ≤ 4611686018427387904 := by omega
 generalize (((b + 31) / 32 : Nat) : Int) = r at *
 go_enter Try.func33, Try.ntmps33
 go_wp2
 go_ret
 exact ⟨rfl, rfl⟩
def mayB (m : ByteArray) : Bool := decide (m.size ≤ 1048576) && decide (m.size % 32 = 0)
theorem may_ret (m : ByteArray) (hm : m.size ≤ 140737488355328) : Ret Try.prog 36 #[.string m] (.bool (mayB m)) := by
 refine Ret.of_same fun w => ?_
 have e : (m.size : Int).tmod 32 = ((m.size % 32 : Nat) : Int) := by
  rw [Int.tmod_eq_emod_of_nonneg (by omega)]; omega
 have b1 : (0 : Int) ≤ ((m.size % 32 : Nat) : Int) := by omega
 have b2 : ((m.size % 32 : Nat) : Int) ≤ 31 := by omega
 by_cases h1 : m.size ≤ 1048576
 ·have hI : (m.size : Int) ≤ 1048576 := by omega
  by_cases h2 : m.size % 32 = 0
  ·have ev : mayB m = true := by unfold mayB; rw [decide_eq_true h1, decide_eq_true h2]; rfl
   rw [ev]
   have h3 : ((m.size % 32 : Nat) : Int) = 0 := by omega
   rw [h3] at e
   clear ev h2 h3 b1 b2 h1
   go_enter Try.func36, Try.ntmps36
   go_wp2
   go_ret
   exact ⟨rfl, rfl⟩
  ·have ev : mayB m = false := by unfold mayB; rw [decide_eq_true h1, decide_eq_false h2]; rfl
   rw [ev]
   have h3 : ((m.size % 32 : Nat) : Int) ≠ 0 := by omega
   have h4 : (((m.size % 32 : Nat) : Int) == 0) = false := by simpa using h3
   generalize ((m.size % 32 : Nat) : Int) = r at *
   clear ev h2 h1
   go_enter Try.func36, Try.ntmps36
   go_wp2
   go_ret
   exact ⟨rfl, rfl⟩
 ·have ev : mayB m = false := by unfold mayB; rw [decide_eq_false h1]; rfl
  rw [ev]
  have hI : ¬ (m.size : Int) ≤ 1048576 := by omega
  clear ev h1 b1 b2 e
  go_enter Try.func36, Try.ntmps36
  go_wp2
  go_ret
  exact ⟨rfl, rfl⟩
def thereB (m : ByteArray) (k n : Int) : Bool := mayB m && decide (0 ≤ k ∧ 0 ≤ n ∧ k + n ≤ (m.size : Int))
theorem limB_true {x m : Int} (h : limB x m = true) : 0 ≤ x ∧ x ≤ m := by unfold limB at h; simpa using h
theorem limB_false {x m : Int} (h : limB x m = false) : ¬ (0 ≤ x ∧ x ≤ m) := by unfold limB at h; simpa using h
theorem there_ret (m : ByteArray) (hm : m.size ≤ 140737488355328) (k n : Int) : Ret Try.prog 40 #[.string m, .int .i64 k, .int .i64 n] (.bool (thereB m k n)) := by
 intro w
 have H0 := hid (limI_ret n (m.size : Int))
 have H1 := hid (limI_ret k ((m.size : Int) - n))
 have HM := hid (may_ret m hm)
 cases h0 : limB n (m.size : Int) with
 | false =>
  have ev : thereB m k n = false := by
   have := limB_false h0
   unfold thereB; rw [decide_eq_false (by omega), Bool.and_false]
  rw [ev]
  rw [h0] at H0
  generalize limV n (m.size : Int) = v0 at *
  clear ev h0 H1 HM
  go_enter Try.func40, Try.ntmps40
  go_wp2_with fail
  refine (H0.out _).mono ?_
  rintro e w1 ⟨rfl, q1⟩
  go_wp2
  go_ret
  exact ⟨rfl, q1⟩
 | true =>
  have h0' := limB_true h0
  have hb1 : (m.size : Int) - n ≤ 140737488355328 := by omega
  have hb0 : 0 ≤ (m.size : Int) - n := by omega
  cases h1 : limB k ((m.size : Int) - n) with
  | false =>
   have ev : thereB m k n = false := by
    have := limB_false h1
    unfold thereB; rw [decide_eq_false (by omega), Bool.and_false]
   rw [ev]
   rw [h0] at H0
   rw [h1] at H1
   generalize limV n (m.size : Int) = v0 at *
   generalize limV k ((m.size : Int) - n) = v1 at *
   clear ev h0 h1 HM h0'
   go_enter Try.func40, Try.ntmps40
   go_wp2_with fail
   refine (H0.out _).mono ?_
   rintro e w1 ⟨rfl, q1⟩
   go_wp2_with fail
   refine (H1.out _).mono ?_
   rintro e w2 ⟨rfl, q2⟩
   go_wp2
   go_ret
   exact ⟨rfl, q1.trans (q2.mono q1.size)⟩
  | true =>
   have ev : thereB m k n = mayB m := by
    have := limB_true h1
    unfold thereB; rw [decide_eq_true (by omega), Bool.and_true]
   rw [ev]
   rw [h0] at H0
   rw [h1] at H1
   generalize limV n (m.size : Int) = v0 at *
   generalize limV k ((m.size : Int) - n) = v1 at *
   generalize mayB m = bm at *
   clear ev h0 h1 h0'
   go_enter Try.func40, Try.ntmps40
   go_wp2_with fail
   refine (H0.out _).mono ?_
   rintro e w1 ⟨rfl, q1⟩
   go_wp2_with fail
   refine (H1.out _).mono ?_
   rintro e w2 ⟨rfl, q2⟩
   go_wp2_with fail
   refine (HM.out _).mono ?_
   rintro e w3 ⟨rfl, q3⟩
   have q12 := q1.trans (q2.mono q1.size)
   go_wp2
   go_ret
   exact ⟨rfl, q12.trans (q3.mono q12.size)⟩
def costN (n : Int) : Int := 3 * limV n 32768 + limV n 32768 * limV n 32768 / 512
theorem limV_range (x m : Int) (hm : 0 ≤ m) : 0 ≤ limV x m ∧ limV x m ≤ m := by unfold limV; split <;> (try split) <;> omega
theorem cost_ret (n : Int) : Ret Try.prog 9 #[.int .i64 n] (.int .i64 (costN n)) := by
 intro w
 have H0 := hid (limI_ret n 32768)
 unfold costN
 obtain ⟨g0, g1⟩ := limV_range n 32768 (by decide)
 generalize limV n 32768 = v at *
 generalize limB n 32768 = b at *
 have m0 : 0 ≤ v * v := Int.mul_nonneg g0 g0
 have m1 : v * v ≤ 32768 * 32768 := Int.mul_le_mul g1 g1 g0 (by decide)
 have e : (v * v).tdiv 512 = v * v / 512 := Int.tdiv_eq_ediv_of_nonneg m0
 obtain ⟨vv, hvv⟩ : ∃ vv, v * v = vv := ⟨_, rfl⟩
 rw [hvv] at e m0 m1 ⊢
 have e1 : wrap64 (v * v) = vv := by rw [hvv]; unfold wrap64; omega
 have d0 : 0 ≤ vv / 512 := by omega
 have d1 : vv / 512 ≤ 2097152 := by omega
 clear hvv
 generalize vv / 512 = q at *
 go_enter Try.func9, Try.ntmps9
 go_wp2_with fail
 refine (H0.out _).mono ?_
 rintro e w1 ⟨rfl, q1⟩
 go_wp2
 go_ret
 exact ⟨rfl, q1⟩
theorem need_none (za : Nat → Int)  :
  Ret Try.prog 13 #[.agg #[.int .u64 (za 0), .int .u64 (za 1), .int .u64 (za 2), .int .u64 (za 3)], .agg #[.int .u64 0, .int .u64 0, .int .u64 0, .int .u64 0]] (.tuple #[.int .i64 0, .bool true]) := by
 intro w
 go_enter Try.func13, Try.ntmps13
 have LA := Has.new w 24 #[.int .u64 (za 0), .int .u64 (za 1), .int .u64 (za 2), .int .u64 (za 3)]
 have k1 := LA.cell 0 _ rfl
 have k2 := LA.cell 1 _ rfl
 have k3 := LA.cell 2 _ rfl
 have k4 := LA.cell 3 _ rfl
 have LA := LA.alloc (.cells #[.int .u64 0, .int .u64 0, .int .u64 0, .int .u64 0] 24)
 have LN := Has.new (w.alloc (.cells #[.int .u64 (za 0), .int .u64 (za 1), .int .u64 (za 2), .int .u64 (za 3)] 24)) 24 #[.int .u64 0, .int .u64 0, .int .u64 0, .int .u64 0]
 simp only [World.size_alloc] at LN
 have k5 := LA.cell 0 _ rfl
 have k6 := LA.cell 1 _ rfl
 have k7 := LA.cell 2 _ rfl
 have k8 := LA.cell 3 _ rfl
 have k9 := LN.cell 0 _ rfl
 have k10 := LN.cell 1 _ rfl
 have k11 := LN.cell 2 _ rfl
 have k12 := LN.cell 3 _ rfl
 have Q := (Below.refl w.heap.size w)
 have Q := Q.alloc Q.size (.cells #[.int .u64 (za 0), .int .u64 (za 1), .int .u64 (za 2), .int .u64 (za 3)] 24)
 have Q := Q.alloc Q.size (.cells #[.int .u64 0, .int .u64 0, .int .u64 0, .int .u64 0] 24)
 go_wp2_with fail
 clear k1 k2 k3 k4 k5 k6 k7 k8 k9 k10 k11 k12
 obtain ⟨W1, hW1⟩ : ∃ W1, ((w.alloc (.cells #[.int .u64 (za 0), .int .u64 (za 1), .int .u64 (za 2), .int .u64 (za 3)] 24)).alloc (.cells #[.int .u64 0, .int .u64 0, .int .u64 0, .int .u64 0] 24)) = W1 := ⟨_, rfl⟩
 rw [hW1] at LA LN Q ⊢
 clear hW1
 go_ret2
 exact ⟨rfl, Q⟩
theorem need_fits (za zn : Nat → Int) (x y r : Int) (hz : ((zn 0 == 0) && (zn 1 == 0) && (zn 2 == 0) && (zn 3 == 0)) = false) (hc : ¬ 32768 < r) (hx : 0 ≤ x) (hy : 0 ≤ y) (hx1 : x ≤ 1048577) (hy1 : y ≤ 1048577) (h1 : Ret Try.prog 34 #[.agg #[.int .u64 (za 0), .int .u64 (za 1), .int .u64 (za 2), .int .u64 (za 3)], .int .i64 1048577] (.int .i64 x)) (h2 : Ret Try.prog 34 #[.agg #[.int .u64 (zn 0), .int .u64 (zn 1), .int .u64 (zn 2), .int .u64 (zn 3)], .int .i64 1048577] (.int .i64 y)) (h3 : Ret Try.prog 33 #[.int .i64 (x + y)] (.int .i64 r)) :
  Ret Try.prog 13 #[.agg #[.int .u64 (za 0), .int .u64 (za 1), .int .u64 (za 2), .int .u64 (za 3)], .agg #[.int .u64 (zn 0), .int .u64 (zn 1), .int .u64 (zn 2), .int .u64 (zn 3)]] (.tuple #[.int .i64 r, .bool true]) := by
 intro w
 have Hh1 := hid h1
 have Hh2 := hid h2
 have Hh3 := hid h3
 clear h1 h2 h3
 go_enter Try.func13, Try.ntmps13
 have LA := Has.new w 24 #[.int .u64 (za 0), .int .u64 (za 1), .int .u64 (za 2), .int .u64 (za 3)]
 have k1 := LA.cell 0 _ rfl
 have k2 := LA.cell 1 _ rfl
 have k3 := LA.cell 2 _ rfl
 have k4 := LA.cell 3 _ rfl
 have LA := LA.alloc (.cells #[.int .u64 (zn 0), .int .u64 (zn 1), .int .u64 (zn 2), .int .u64 (zn 3)] 24)
 have LN := Has.new (w.alloc (.cells #[.int .u64 (za 0), .int .u64 (za 1), .int .u64 (za 2), .int .u64 (za 3)] 24)) 24 #[.int .u64 (zn 0), .int .u64 (zn 1), .int .u64 (zn 2), .int .u64 (zn 3)]
 simp only [World.size_alloc] at LN
 have k5 := LA.cell 0 _ rfl
 have k6 := LA.cell 1 _ rfl
 have k7 := LA.cell 2 _ rfl
 have k8 := LA.cell 3 _ rfl
 have k9 := LN.cell 0 _ rfl
 have k10 := LN.cell 1 _ rfl
 have k11 := LN.cell 2 _ rfl
 have k12 := LN.cell 3 _ rfl
 have Q := (Below.refl w.heap.size w)
 have Q := Q.alloc Q.size (.cells #[.int .u64 (za 0), .int .u64 (za 1), .int .u64 (za 2), .int .u64 (za 3)] 24)
 have Q := Q.alloc Q.size (.cells #[.int .u64 (zn 0), .int .u64 (zn 1), .int .u64 (zn 2), .int .u64 (zn 3)] 24)
 go_wp2_with fail
 clear k1 k2 k3 k4 k5 k6 k7 k8 k9 k10 k11 k12
 obtain ⟨W1, hW1⟩ : ∃ W1, ((w.alloc (.cells #[.int .u64 (za 0), .int .u64 (za 1), .int .u64 (za 2), .int .u64 (za 3)] 24)).alloc (.cells #[.int .u64 (zn 0), .int .u64 (zn 1), .int .u64 (zn 2), .int .u64 (zn 3)] 24)) = W1 := ⟨_, rfl⟩
 rw [hW1] at LA LN Q ⊢
 clear hW1
 have k13 : ∀ x : Ext W1, x.w.cell? ⟨w.heap.size, 0, none⟩ = some (.int .u64 (za 0)) := fun x => (LA.later x.below).cell 0 _ rfl
 have k14 : ∀ x : Ext W1, x.w.cell? ⟨w.heap.size, 1, none⟩ = some (.int .u64 (za 1)) := fun x => (LA.later x.below).cell 1 _ rfl
 have k15 : ∀ x : Ext W1, x.w.cell? ⟨w.heap.size, 2, none⟩ = some (.int .u64 (za 2)) := fun x => (LA.later x.below).cell 2 _ rfl
 have k16 : ∀ x : Ext W1, x.w.cell? ⟨w.heap.size, 3, none⟩ = some (.int .u64 (za 3)) := fun x => (LA.later x.below).cell 3 _ rfl
 have k17 : ∀ x : Ext W1, x.w.cell? ⟨w.heap.size + 1, 0, none⟩ = some (.int .u64 (zn 0)) := fun x => (LN.later x.below).cell 0 _ rfl
 have k18 : ∀ x : Ext W1, x.w.cell? ⟨w.heap.size + 1, 1, none⟩ = some (.int .u64 (zn 1)) := fun x => (LN.later x.below).cell 1 _ rfl
 have k19 : ∀ x : Ext W1, x.w.cell? ⟨w.heap.size + 1, 2, none⟩ = some (.int .u64 (zn 2)) := fun x => (LN.later x.below).cell 2 _ rfl
 have k20 : ∀ x : Ext W1, x.w.cell? ⟨w.heap.size + 1, 3, none⟩ = some (.int .u64 (zn 3)) := fun x => (LN.later x.below).cell 3 _ rfl
 have HQ := hid Q
 clear Q LA LN
 refine wp_region_quick (C := Grows W1) (by kernel_rfl) (by kernel_rfl) (by kernel_rfl) (grows_refl W1) ?_
 repeat (go_big_quiet_step (first | (with_reducible exact Ret.at Hh1.out _) | (with_reducible exact Ret.at Hh2.out _) | (with_reducible exact Ret.at Hh3.out _)))
 refine wpQuiet_nil ?_
 rintro _ ⟨x, rfl⟩
 go_wp2
 go_ret2
 exact ⟨rfl, HQ.out.trans (x.below.mono HQ.out.size)⟩
theorem need_not (za zn : Nat → Int) (x y r : Int) (hz : ((zn 0 == 0) && (zn 1 == 0) && (zn 2 == 0) && (zn 3 == 0)) = false) (hc : 32768 < r) (hx : 0 ≤ x) (hy : 0 ≤ y) (hx1 : x ≤ 1048577) (hy1 : y ≤ 1048577) (h1 : Ret Try.prog 34 #[.agg #[.int .u64 (za 0), .int .u64 (za 1), .int .u64 (za 2), .int .u64 (za 3)], .int .i64 1048577] (.int .i64 x)) (h2 : Ret Try.prog 34 #[.agg #[.int .u64 (zn 0), .int .u64 (zn 1), .int .u64 (zn 2), .int .u64 (zn 3)], .int .i64 1048577] (.int .i64 y)) (h3 : Ret Try.prog 33 #[.int .i64 (x + y)] (.int .i64 r)) :
  Ret Try.prog 13 #[.agg #[.int .u64 (za 0), .int .u64 (za 1), .int .u64 (za 2), .int .u64 (za 3)], .agg #[.int .u64 (zn 0), .int .u64 (zn 1), .int .u64 (zn 2), .int .u64 (zn 3)]] (.tuple #[.int .i64 0, .bool false]) := by
 intro w
 have Hh1 := hid h1
 have Hh2 := hid h2
 have Hh3 := hid h3
 clear h1 h2 h3
 go_enter Try.func13, Try.ntmps13
 have LA := Has.new w 24 #[.int .u64 (za 0), .int .u64 (za 1), .int .u64 (za 2), .int .u64 (za 3)]
 have k1 := LA.cell 0 _ rfl
 have k2 := LA.cell 1 _ rfl
 have k3 := LA.cell 2 _ rfl
 have k4 := LA.cell 3 _ rfl
 have LA := LA.alloc (.cells #[.int .u64 (zn 0), .int .u64 (zn 1), .int .u64 (zn 2), .int .u64 (zn 3)] 24)
 have LN := Has.new (w.alloc (.cells #[.int .u64 (za 0), .int .u64 (za 1), .int .u64 (za 2), .int .u64 (za 3)] 24)) 24 #[.int .u64 (zn 0), .int .u64 (zn 1), .int .u64 (zn 2), .int .u64 (zn 3)]
 simp only [World.size_alloc] at LN
 have k5 := LA.cell 0 _ rfl
 have k6 := LA.cell 1 _ rfl
 have k7 := LA.cell 2 _ rfl
 have k8 := LA.cell 3 _ rfl
 have k9 := LN.cell 0 _ rfl
 have k10 := LN.cell 1 _ rfl
 have k11 := LN.cell 2 _ rfl
 have k12 := LN.cell 3 _ rfl
 have Q := (Below.refl w.heap.size w)
 have Q := Q.alloc Q.size (.cells #[.int .u64 (za 0), .int .u64 (za 1), .int .u64 (za 2), .int .u64 (za 3)] 24)
 have Q := Q.alloc Q.size (.cells #[.int .u64 (zn 0), .int .u64 (zn 1), .int .u64 (zn 2), .int .u64 (zn 3)] 24)
 go_wp2_with fail
 clear k1 k2 k3 k4 k5 k6 k7 k8 k9 k10 k11 k12
 obtain ⟨W1, hW1⟩ : ∃ W1, ((w.alloc (.cells #[.int .u64 (za 0), .int .u64 (za 1), .int .u64 (za 2), .int .u64 (za 3)] 24)).alloc (.cells #[.int .u64 (zn 0), .int .u64 (zn 1), .int .u64 (zn 2), .int .u64 (zn 3)] 24)) = W1 := ⟨_, rfl⟩
 rw [hW1] at LA LN Q ⊢
 clear hW1
 have k13 : ∀ x : Ext W1, x.w.cell? ⟨w.heap.size, 0, none⟩ = some (.int .u64 (za 0)) := fun x => (LA.later x.below).cell 0 _ rfl
 have k14 : ∀ x : Ext W1, x.w.cell? ⟨w.heap.size, 1, none⟩ = some (.int .u64 (za 1)) := fun x => (LA.later x.below).cell 1 _ rfl
 have k15 : ∀ x : Ext W1, x.w.cell? ⟨w.heap.size, 2, none⟩ = some (.int .u64 (za 2)) := fun x => (LA.later x.below).cell 2 _ rfl
 have k16 : ∀ x : Ext W1, x.w.cell? ⟨w.heap.size, 3, none⟩ = some (.int .u64 (za 3)) := fun x => (LA.later x.below).cell 3 _ rfl
 have k17 : ∀ x : Ext W1, x.w.cell? ⟨w.heap.size + 1, 0, none⟩ = some (.int .u64 (zn 0)) := fun x => (LN.later x.below).cell 0 _ rfl
 have k18 : ∀ x : Ext W1, x.w.cell? ⟨w.heap.size + 1, 1, none⟩ = some (.int .u64 (zn 1)) := fun x => (LN.later x.below).cell 1 _ rfl
 have k19 : ∀ x : Ext W1, x.w.cell? ⟨w.heap.size + 1, 2, none⟩ = some (.int .u64 (zn 2)) := fun x => (LN.later x.below).cell 2 _ rfl
 have k20 : ∀ x : Ext W1, x.w.cell? ⟨w.heap.size + 1, 3, none⟩ = some (.int .u64 (zn 3)) := fun x => (LN.later x.below).cell 3 _ rfl
 have HQ := hid Q
 clear Q LA LN
 refine wp_region_quick (C := Grows W1) (by kernel_rfl) (by kernel_rfl) (by kernel_rfl) (grows_refl W1) ?_
 repeat (go_big_quiet_step (first | (with_reducible exact Ret.at Hh1.out _) | (with_reducible exact Ret.at Hh2.out _) | (with_reducible exact Ret.at Hh3.out _)))
 refine wpQuiet_nil ?_
 rintro _ ⟨x, rfl⟩
 go_wp2
 go_ret2
 exact ⟨rfl, HQ.out.trans (x.below.mono HQ.out.size)⟩
def needV (a n : Nat) : Value := if n = 0 then .tuple #[.int .i64 0, .bool true] else if a + n ≤ 1048576 then .tuple #[.int .i64 (((a + n + 31) / 32 : Nat) : Int), .bool true] else .tuple #[.int .i64 0, .bool false]
theorem need_ret (a n : Nat) (ha : W256 a) (hn : W256 n) : Ret Try.prog 13 #[wv a, wv n] (needV a n) := by
 unfold needV
 by_cases h0 : n = 0
 ·subst h0
  rw [if_pos rfl]
  exact need_none _
 ·rw [if_neg h0]
  have hz : ((lim n 0 == 0) && (lim n 1 == 0) && (lim n 2 == 0) && (lim n 3 == 0)) = false := by
   have h := eqvM n 0 hn (by unfold W256; omega)
   simp only [lim_zero] at h
   rw [h]; exact decide_eq_false h0
  have h1 := number_ret a 1048577 ha (by decide)
  have h2 := number_ret n 1048577 hn (by decide)
  have h3 := roundedUp_ret (min a 1048577 + min n 1048577) (by omega)
  rw [Int.natCast_add] at h3
  by_cases h : a + n ≤ 1048576
  ·rw [if_pos h]
   have e : (min a 1048577 + min n 1048577 + 31) / 32 = (a + n + 31) / 32 := by rw [Nat.min_eq_left (by omega), Nat.min_eq_left (by omega)]
   rw [e] at h3
   exact need_fits _ _ _ _ _ hz (by omega) (by omega) (by omega) (by omega) (by omega) h1 h2 h3
  ·rw [if_neg h]
   exact need_not _ _ _ _ _ hz (by omega) (by omega) (by omega) (by omega) (by omega) h1 h2 h3
end
section
open Go Go.Shelf Go.RowKit
def layGrow_ren : Go.Shelf.Ren := ⟨fun | 165 => 53 | 240 => 66 | 241 => 67 | 276 => 73 | 277 => 74 | n => n, fun | 0 => 0 | 3 => 3 | 4 => 4 | 5 => 5 | 9 => 9 | 20 => 20 | 37 => 58 | 70 => 67 | 72 => 69 | 164 => 99 | n => n, fun n => n⟩
theorem layGrow : Go.Proofs.Lays.n165 Try.prog layGrow_ren := {
 mixed := by kernel_rfl,
 f165 := Try.func53.trans (congrArg some (by kernel_rfl)),
 f240 := Try.func66.trans (congrArg some (by kernel_rfl)),
 f241 := Try.func67.trans (congrArg some (by kernel_rfl)),
 f276 := Try.func73.trans (congrArg some (by kernel_rfl)),
 f277 := Try.func74.trans (congrArg some (by kernel_rfl)),
 t0 := Try.underlying0,
 a0 := Try.isAgg0,
 z0 := Try.sizeOf0,
 v0 := Try.zeroValue0,
 t3 := Try.underlying3,
 a3 := Try.isAgg3,
 z3 := Try.sizeOf3,
 v3 := Try.zeroValue3,
 t4 := Try.underlying4,
 a4 := Try.isAgg4,
 z4 := Try.sizeOf4,
 v4 := Try.zeroValue4,
 t9 := Try.underlying9,
 a9 := Try.isAgg9,
 z9 := Try.sizeOf9,
 v9 := Try.zeroValue9,
 t20 := Try.underlying20,
 a20 := Try.isAgg20,
 z20 := Try.sizeOf20,
 v20 := Try.zeroValue20,
 t37 := Try.underlying58,
 a37 := Try.isAgg58,
 z37 := Try.sizeOf58,
 v37 := Try.zeroValue58,
 t70 := Try.underlying67,
 a70 := Try.isAgg67,
 z70 := Try.sizeOf67,
 v70 := Try.zeroValue67,
 t72 := Try.underlying69,
 a72 := Try.isAgg69,
 z72 := Try.sizeOf69,
 v72 := Try.zeroValue69,
 t164 := Try.underlying99,
 a164 := Try.isAgg99,
 z164 := Try.sizeOf99,
 v164 := Try.zeroValue99 }
theorem layGrowX : Builder.Extra Try.prog layGrow_ren := {
 sizeBuilder := by kernel_rfl
 liesBuilder := by kernel_rfl
 t5 := Try.underlying5
 a5 := Try.isAgg5
 z5 := Try.sizeOf5
 v5 := Try.zeroValue5
 infoByte := by kernel_rfl
 cellsByte := by kernel_rfl
 sizeByte := by kernel_rfl
 neB5 := by decide }
def layWrite_ren : Go.Shelf.Ren := ⟨fun | 166 => 54 | 240 => 66 | 276 => 73 | n => n, fun | 0 => 0 | 3 => 3 | 4 => 4 | 5 => 5 | 9 => 9 | 20 => 20 | 37 => 58 | 70 => 67 | 72 => 69 | 75 => 72 | 80 => 75 | 164 => 99 | n => n, fun n => n⟩
theorem layWrite : Go.Proofs.Lays.n166 Try.prog layWrite_ren := {
 mixed := by kernel_rfl,
 f166 := Try.func54.trans (congrArg some (by kernel_rfl)),
 f240 := Try.func66.trans (congrArg some (by kernel_rfl)),
 f276 := Try.func73.trans (congrArg some (by kernel_rfl)),
 t0 := Try.underlying0,
 a0 := Try.isAgg0,
 z0 := Try.sizeOf0,
 v0 := Try.zeroValue0,
 t3 := Try.underlying3,
 a3 := Try.isAgg3,
 z3 := Try.sizeOf3,
 v3 := Try.zeroValue3,
 t4 := Try.underlying4,
 a4 := Try.isAgg4,
 z4 := Try.sizeOf4,
 v4 := Try.zeroValue4,
 t9 := Try.underlying9,
 a9 := Try.isAgg9,
 z9 := Try.sizeOf9,
 v9 := Try.zeroValue9,
 t20 := Try.underlying20,
 a20 := Try.isAgg20,
 z20 := Try.sizeOf20,
 v20 := Try.zeroValue20,
 t37 := Try.underlying58,
 a37 := Try.isAgg58,
 z37 := Try.sizeOf58,
 v37 := Try.zeroValue58,
 t70 := Try.underlying67,
 a70 := Try.isAgg67,
 z70 := Try.sizeOf67,
 v70 := Try.zeroValue67,
 t72 := Try.underlying69,
 a72 := Try.isAgg69,
 z72 := Try.sizeOf69,
 v72 := Try.zeroValue69,
 t75 := Try.underlying72,
 a75 := Try.isAgg72,
 z75 := Try.sizeOf72,
 v75 := Try.zeroValue72,
 t164 := Try.underlying99,
 a164 := Try.isAgg99,
 z164 := Try.sizeOf99,
 v164 := Try.zeroValue99 }
theorem layWriteX : Builder.Extra Try.prog layWrite_ren := {
 sizeBuilder := by kernel_rfl
 liesBuilder := by kernel_rfl
 t5 := Try.underlying5
 a5 := Try.isAgg5
 z5 := Try.sizeOf5
 v5 := Try.zeroValue5
 infoByte := by kernel_rfl
 cellsByte := by kernel_rfl
 sizeByte := by kernel_rfl
 neB5 := by decide }
def layString_ren : Go.Shelf.Ren := ⟨fun | 169 => 55 | n => n, fun | 0 => 0 | 3 => 3 | 5 => 5 | 9 => 9 | 37 => 58 | 70 => 67 | 72 => 69 | 127 => 90 | n => n, fun n => n⟩
theorem layString : Go.Proofs.Lays.n169 Try.prog layString_ren := {
 mixed := by kernel_rfl,
 f169 := Try.func55.trans (congrArg some (by kernel_rfl)),
 t0 := Try.underlying0,
 a0 := Try.isAgg0,
 z0 := Try.sizeOf0,
 v0 := Try.zeroValue0,
 t3 := Try.underlying3,
 a3 := Try.isAgg3,
 z3 := Try.sizeOf3,
 v3 := Try.zeroValue3,
 t9 := Try.underlying9,
 a9 := Try.isAgg9,
 z9 := Try.sizeOf9,
 v9 := Try.zeroValue9,
 t37 := Try.underlying58,
 a37 := Try.isAgg58,
 z37 := Try.sizeOf58,
 v37 := Try.zeroValue58,
 t70 := Try.underlying67,
 a70 := Try.isAgg67,
 z70 := Try.sizeOf67,
 v70 := Try.zeroValue67,
 t72 := Try.underlying69,
 a72 := Try.isAgg69,
 z72 := Try.sizeOf69,
 v72 := Try.zeroValue69,
 t127 := Try.underlying90,
 a127 := Try.isAgg90,
 z127 := Try.sizeOf90,
 v127 := Try.zeroValue90 }
theorem layStringX : Builder.Extra Try.prog layString_ren := {
 sizeBuilder := by kernel_rfl
 liesBuilder := by kernel_rfl
 t5 := Try.underlying5
 a5 := Try.isAgg5
 z5 := Try.sizeOf5
 v5 := Try.zeroValue5
 infoByte := by kernel_rfl
 cellsByte := by kernel_rfl
 sizeByte := by kernel_rfl
 neB5 := by decide }
def layClone_ren : Go.Shelf.Ren := ⟨fun | 316 => 61 | n => n, fun | 0 => 0 | 3 => 3 | 4 => 4 | 5 => 5 | 9 => 9 | 37 => 58 | 127 => 90 | n => n, fun n => n⟩
theorem layClone : Go.Proofs.LaysM.n316 Try.prog layClone_ren := {
 mixed := by kernel_rfl,
 f316 := Try.func61.trans (congrArg some (by kernel_rfl)),
 t0 := Try.underlying0,
 a0 := Try.isAgg0,
 z0 := Try.sizeOf0,
 v0 := Try.zeroValue0,
 t3 := Try.underlying3,
 a3 := Try.isAgg3,
 z3 := Try.sizeOf3,
 v3 := Try.zeroValue3,
 t4 := Try.underlying4,
 a4 := Try.isAgg4,
 z4 := Try.sizeOf4,
 v4 := Try.zeroValue4,
 t9 := Try.underlying9,
 a9 := Try.isAgg9,
 z9 := Try.sizeOf9,
 v9 := Try.zeroValue9,
 t37 := Try.underlying58,
 a37 := Try.isAgg58,
 z37 := Try.sizeOf58,
 v37 := Try.zeroValue58,
 t127 := Try.underlying90,
 a127 := Try.isAgg90,
 z127 := Try.sizeOf90,
 v127 := Try.zeroValue90,
 t5 := Try.underlying5,
 a5 := Try.isAgg5,
 z5 := Try.sizeOf5,
 v5 := Try.zeroValue5,
 i0 := by kernel_rfl,
 i3 := by kernel_rfl,
 i4 := by kernel_rfl,
 i5 := by kernel_rfl,
 i9 := by kernel_rfl,
 i37 := by kernel_rfl,
 i127 := by kernel_rfl }
theorem grow_fresh (B b n : Nat) (w : World) (hB : B ≤ b) (hbk : w.heap[b]? = some (.cells #[.pointer none, .slice none 0 0] 69 (0, 0))) (hBw : B ≤ w.heap.size) (hn : n ≤ 281474976710656) :
  Calls Try.prog 53 #[.pointer (some ⟨b, 0, none⟩), .int .i64 n] w fun e w' => e = .returned (.tuple #[]) ∧ (Lib.BuilderAt 69 5 B b (.pointer (some ⟨b, 0, none⟩)) [] w' ∧ Below B w w') := Any.Builder_Grow_fresh layGrow layGrowX B b n w hB hbk hBw hn
theorem writeString_k (B b : Nat) (bs : List Value) (s : ByteArray) (w : World) (h : Lib.IsBuilderF 69 5 B b bs w) (hlen : bs.length + s.size ≤ 140737488355328) (hBw : B ≤ w.heap.size) :
  Calls Try.prog 54 #[.pointer (some ⟨b, 0, none⟩), .string s] w fun e w' => e = .returned (.tuple #[.int .i64 s.size, .nilIface]) ∧ (Lib.BuilderAtF 69 5 B b (.pointer (some ⟨b, 0, none⟩)) (bs ++ Lib.strCells s) w' ∧ Below B w w' ∧ Lib.OthersKept 5 (some b) w w') := Any.Builder_WriteString_k layWrite layWriteX B b bs s w h hlen hBw
theorem string_any_k (B b : Nat) (l : List UInt8) (w : World) (h : Lib.IsBuilderF 69 5 B b (Lib.byteCells l) w) (hBw : B ≤ w.heap.size) :
  Calls Try.prog 55 #[.pointer (some ⟨b, 0, none⟩)] w fun e w' => e = .returned (.string ⟨l.toArray⟩) ∧ (Lib.IsBuilderF 69 5 B b (Lib.byteCells l) w' ∧ Below B w w' ∧ Lib.OthersKept 5 (some b) w w') := Any.Builder_String_any_k layString layStringX B b l w h hBw
theorem clone_any (s : ByteArray) (w : World) (hlim : s.size ≤ 281474976710656) :
  Calls Try.prog 61 #[.string s] w fun e w' => e = .returned (.string s) ∧ Below w.heap.size w w' := Any.stringslite_Clone layClone s w hlim
end
section
open Go Go.RowKit Go.Shelf
attribute [local go_sem] Oper.semAt_some wide_fn
def catL : List ByteArray → List UInt8
 | [] => []
 | p :: r => p.data.toList ++ catL r
def pieceAt (ps : List ByteArray) (k : Nat) : ByteArray := ps.getD k ⟨#[]⟩
theorem catL_append : ∀ a b : List ByteArray, catL (a ++ b) = catL a ++ catL b
 | [], b => rfl
 | p :: r, b => by simp [catL, catL_append r b]
theorem catL_take (ps : List ByteArray) (k : Nat) (hk : k < ps.length) : catL (ps.take (k + 1)) = catL (ps.take k) ++ (pieceAt ps k).data.toList := by
 unfold pieceAt
 rw [List.take_add_one, catL_append, List.getD_eq_getElem?_getD, List.getElem?_eq_getElem hk]
 simp [catL]
theorem catL_take_le (ps : List ByteArray) (k : Nat) : (catL (ps.take k)).length ≤ (catL ps).length := by
 have h := congrArg (fun l => (catL l).length) (List.take_append_drop k ps)
 simp only [catL_append, List.length_append] at h
 omega
theorem builder_own {T e : TypeId} {n b : Nat} {bs : List Value} {X Y : World} {row : Option Nat} (h : Lib.IsBuilderF T e n b bs X) (hg : X.grownBy Y row) (hr : ∀ r, row = some r → ∃ o : Obj, X.heap[r]? = some o ∧ o.isCells = false) : Lib.IsBuilderF T e n b bs Y := by
 have key : ∀ (k : Nat) (c : Array Value) (t : TypeId) (fz : Nat × Nat), X.heap[k]? = some (.cells c t fz) → Y.heap[k]? = some (.cells c t fz) := fun k c t fz hk => by
  refine (hg.block k (Array.getElem?_eq_some_iff.1 hk).1 (fun e => ?_)).trans hk
  obtain ⟨o, ho, hc⟩ := hr k e.symm
  rw [hk] at ho
  cases ho
  cases hc
 have go : ∀ p, Lib.BuilderAtF T e n b p bs X → Lib.BuilderAtF T e n b p bs Y := fun p ⟨hB, v, hb, ⟨hl, hv⟩, hne⟩ =>
  ⟨hB, v, key _ _ _ _ hb, ⟨hl, hv.imp id (fun ⟨g, cap, cur, fz, e1, e2, e3, e4⟩ => ⟨g, cap, cur, fz, e1, e2, key _ _ _ _ e3, e4⟩)⟩, hne⟩
 exact h.imp (go _) (go _)
def JoSt (w : World) (ps : List ByteArray) (k : Nat) (W : World) : Prop :=
 Lib.IsBuilderF 69 5 w.heap.size w.heap.size (Lib.byteCells (catL (ps.take k))) W ∧ Below w.heap.size w W
theorem JoSt.own (w : World) (ps : List ByteArray) (B : Nat) (hB : w.heap.size ≤ B) : OwnFrom B (fun k W => JoSt w ps k W) := by
 rintro k X Y row ⟨h1, h2⟩ hg hr
 exact ⟨builder_own h1 hg (fun r e => (hr r e).2), ownFrom_below (β := Unit) (Nat.le_refl _) hB () X Y row h2 hg hr⟩
theorem builder_lt {T e : TypeId} {n b : Nat} {bs : List Value} {X : World} (h : Lib.IsBuilderF T e n b bs X) : ∃ c, X.heap[b]? = some (.cells c T (0, 0)) := by
 rcases h with ⟨_, v, hb, _⟩ | ⟨_, v, hb, _⟩
 ·exact ⟨_, hb⟩
 ·exact ⟨_, hb⟩
theorem others_walk {e : TypeId} {T : TypeId} {b : Nat} {W W' : World} (h : Lib.OthersKept e (some b) W W') {c : Array Value} (hb : W.heap[b]? = some (.cells c T (0, 0))) (k : Nat) (o : Obj) (hk : W.heap[k]? = some o) (ho : o.isCells = false) : W'.heap[k]? = some o := by
 refine h k o hk (fun e => ?_) (fun c fz e => ?_)
 ·cases e
  rw [hb] at hk
  cases hk
  cases ho
 ·subst e
  cases ho
theorem joined_any (ps : List ByteArray) (n : Nat) (hn : n ≤ 281474976710656) (hlen : (catL ps).length ≤ 140737488355328) (gf : Nat) (lb : Array Value) (eg : ∀ args w, (callFunc gf args).run Try.prog w = .ok (.enter gf args) w) (w : World)
  (hseq : ∀ W, Below w.heap.size w W → SeqN Fence.wide 3 Try.prog gf lb (fun k => #[.string (pieceAt ps k)]) (Below w.heap.size) ps.length W) :
  Calls Try.prog 37 #[.int .i64 (n : Int), .func (.func gf) #[] lb] w fun e w' => e = .returned (.string ⟨(catL ps).toArray⟩) ∧ Below w.heap.size w w' := by
 have h1 : 1 ≤ 4 := by omega
 refine (callsIn_wide (n := 4)).1 ?_
 refine callsIn_of_wp_marks Try.func37 rfl trivial ?_ rfl
 simp only [Try.ntmps37, List.size_toArray, List.length_cons, List.length_nil, Nat.reduceAdd, Nat.reduceSub, Array.replicate_succ, Array.replicate_zero, List.push_toArray, List.append_toArray, List.nil_append, List.cons_append]
 have HS := hid hseq
 have HEG := hid eg
 clear hseq eg
 gi_wp2_with (gi_at_call 53; refine (callsIn_free free_wide (grow_fresh w.heap.size w.heap.size n _ (Nat.le_refl _) (World.alloc_heap_new w _) (by simp) hn)).mono ?_; rintro e w1 ⟨rfl, hB1, q1⟩)
 have hb0 : Below w.heap.size w w1 := ((Below.refl _ w).alloc (Nat.le_refl _) _).trans q1
 have hsz := hb0.size
 have hJ0 : JoSt w ps 0 w1 := ⟨Lib.IsBuilderF.of (.inr hB1), hb0⟩
 clear q1 hB1
 refine wpIn_rangeFunc_N1 rfl h1 (gf := gf) (lb := lb) rfl trivial HEG.out
  (HS.out w1 hb0) (fun h k => h.trans k) (fun W => Below.refl _ W) (fun W l o o' hl ho hc hw => belowK_b (w := w) (Nat.le_refl _) W l o o' (by omega) ho hc hw) (fun _ _ => rfl)
  (fun k W => JoSt w ps k W) (fun _ _ _ => False)
  (JoSt.own w ps _ hsz) (fun _ => fun _ _ _ _ h => h.elim) hJ0
  (fun k => { tmps := #[.int .i64 (n : Int), .func (.func gf) #[] lb, undef, undef, .string ⟨#[]⟩, .pointer (some ⟨w.heap.size, 0, none⟩), .string (pieceAt ps k), .int .i64 (n : Int), .tuple #[], .func (.func gf) #[] lb, .string (pieceAt ps k), undef, undef, undef], defers := [] }) ?assign ?body ?done ?stop
 case assign =>
  intro l k W K _ hK
  gi_wp2
  exact hK
 case body =>
  rintro l k W _ hkN ⟨hI, hB⟩
  have hlen1 : (Lib.byteCells (catL (ps.take k))).length + (pieceAt ps k).size ≤ 140737488355328 := by
   have h1 := catL_take_le ps (k + 1)
   rw [catL_take ps k hkN, List.length_append] at h1
   rw [Lib.byteCells_length]
   have h2 : (pieceAt ps k).data.toList.length = (pieceAt ps k).size := by simp
   omega
  obtain ⟨c, hbk⟩ := builder_lt hI
  have HW := hid (writeString_k _ _ _ _ W hI hlen1 hB.size)
  have HT := hid (catL_take ps k hkN)
  have HB := hid hB
  have HC := hid hbk
  clear hlen1 hI hB hJ0 hbk
  generalize pieceAt ps k = s at *
  gi_wp2_with (gi_at_call 54; refine (callsIn_free (free_round l) HW.out).mono ?_; rintro e w2 ⟨rfl, b2, q2, o2⟩)
  refine ⟨⟨q2.size, fun i o _ hi ho => others_walk o2 HC.out i o hi ho⟩, q2, ⟨?_, HB.out.trans q2⟩⟩
  rw [HT.out, Lib.byteCells_append]
  exact .inr b2
 case done =>
  rintro D W hD ⟨hI, hB⟩ hK
  rw [List.take_length] at hI
  obtain ⟨c, hbk⟩ := builder_lt hI
  have HW := hid (string_any_k _ _ _ W hI hB.size)
  have HB := hid hB
  have HK := hid hK
  have HC := hid hbk
  clear hI hB hK hJ0 hbk
  gi_wp2_with (gi_at_call 55; refine (callsIn_free free_wide HW.out).mono ?_; rintro e w2 ⟨rfl, b2, q2, o2⟩)
  have hK' := others_walk o2 HC.out D _ HK.out rfl
  refine ⟨by simp, .inl ⟨_, _, rfl, run_takeDeferred hK', ?_⟩⟩
  exact ⟨_, (by simp [results, Try.f37, go_sem]), rfl, (HB.out.trans q2).trans (belowK_b (w := w) (Nat.le_refl _) _ D _ _ (by omega) hK' rfl rfl)⟩
 case stop =>
  rintro D c k W hD hkN h hK
  exact h.elim
end
end Go.Proofs.Ytpolmfmlklmmcaa
