/- Remainders of sums and products. -/
import Derived.Test.YtchgpakkmddceaaDivAwake
namespace Go.Proofs.Ytchgpakkmddceaa
open Go Go.RowKit
attribute [local go_sem] Oper.semAt_some Grows wide_fn eq4

set_option maxRecDepth 100000 in
set_option maxHeartbeats 4000000 in
theorem sums_walk (zA zB zN zS zP zU zV zT zK zM zO : Nat → Int) (h1 : Ret Try.prog 27 #[.int .i64 1] (.agg #[.int .u64 1, .int .u64 0, .int .u64 0, .int .u64 0])) (h2 : Ret Try.prog 18 #[.agg #[.int .u64 (zA 0), .int .u64 (zA 1), .int .u64 (zA 2), .int .u64 (zA 3)], .agg #[.int .u64 (zB 0), .int .u64 (zB 1), .int .u64 (zB 2), .int .u64 (zB 3)], .agg #[.int .u64 (zN 0), .int .u64 (zN 1), .int .u64 (zN 2), .int .u64 (zN 3)]] (.agg #[.int .u64 (zS 0), .int .u64 (zS 1), .int .u64 (zS 2), .int .u64 (zS 3)])) (h3 : Ret Try.prog 20 #[.agg #[.int .u64 (zA 0), .int .u64 (zA 1), .int .u64 (zA 2), .int .u64 (zA 3)], .agg #[.int .u64 (zB 0), .int .u64 (zB 1), .int .u64 (zB 2), .int .u64 (zB 3)], .agg #[.int .u64 (zN 0), .int .u64 (zN 1), .int .u64 (zN 2), .int .u64 (zN 3)]] (.agg #[.int .u64 (zP 0), .int .u64 (zP 1), .int .u64 (zP 2), .int .u64 (zP 3)])) (h4 : Ret Try.prog 18 #[.agg #[.int .u64 (zB 0), .int .u64 (zB 1), .int .u64 (zB 2), .int .u64 (zB 3)], .agg #[.int .u64 (zA 0), .int .u64 (zA 1), .int .u64 (zA 2), .int .u64 (zA 3)], .agg #[.int .u64 (zN 0), .int .u64 (zN 1), .int .u64 (zN 2), .int .u64 (zN 3)]] (.agg #[.int .u64 (zS 0), .int .u64 (zS 1), .int .u64 (zS 2), .int .u64 (zS 3)])) (h5 : Ret Try.prog 20 #[.agg #[.int .u64 (zB 0), .int .u64 (zB 1), .int .u64 (zB 2), .int .u64 (zB 3)], .agg #[.int .u64 (zA 0), .int .u64 (zA 1), .int .u64 (zA 2), .int .u64 (zA 3)], .agg #[.int .u64 (zN 0), .int .u64 (zN 1), .int .u64 (zN 2), .int .u64 (zN 3)]] (.agg #[.int .u64 (zP 0), .int .u64 (zP 1), .int .u64 (zP 2), .int .u64 (zP 3)])) (h6 : Ret Try.prog 18 #[.agg #[.int .u64 (zA 0), .int .u64 (zA 1), .int .u64 0, .int .u64 0], .agg #[.int .u64 (zB 0), .int .u64 (zB 1), .int .u64 0, .int .u64 0], .agg #[.int .u64 (zN 0), .int .u64 (zN 1), .int .u64 (zN 2), .int .u64 (zN 3)]] (.agg #[.int .u64 (zU 0), .int .u64 (zU 1), .int .u64 (zU 2), .int .u64 (zU 3)])) (h7 : Ret Try.prog 24 #[.agg #[.int .u64 (zA 0), .int .u64 (zA 1), .int .u64 0, .int .u64 0], .agg #[.int .u64 (zB 0), .int .u64 (zB 1), .int .u64 0, .int .u64 0]] (.agg #[.int .u64 (zV 0), .int .u64 (zV 1), .int .u64 (zV 2), .int .u64 (zV 3)])) (h8 : Ret Try.prog 12 #[.agg #[.int .u64 (zV 0), .int .u64 (zV 1), .int .u64 (zV 2), .int .u64 (zV 3)], .agg #[.int .u64 (zN 0), .int .u64 (zN 1), .int .u64 (zN 2), .int .u64 (zN 3)]] (.agg #[.int .u64 (zU 0), .int .u64 (zU 1), .int .u64 (zU 2), .int .u64 (zU 3)])) (h9 : Ret Try.prog 20 #[.agg #[.int .u64 (zA 0), .int .u64 (zA 1), .int .u64 0, .int .u64 0], .agg #[.int .u64 (zB 0), .int .u64 (zB 1), .int .u64 0, .int .u64 0], .agg #[.int .u64 (zN 0), .int .u64 (zN 1), .int .u64 (zN 2), .int .u64 (zN 3)]] (.agg #[.int .u64 (zT 0), .int .u64 (zT 1), .int .u64 (zT 2), .int .u64 (zT 3)])) (h10 : Ret Try.prog 25 #[.agg #[.int .u64 (zA 0), .int .u64 (zA 1), .int .u64 0, .int .u64 0], .agg #[.int .u64 (zB 0), .int .u64 (zB 1), .int .u64 0, .int .u64 0]] (.agg #[.int .u64 (zK 0), .int .u64 (zK 1), .int .u64 (zK 2), .int .u64 (zK 3)])) (h11 : Ret Try.prog 12 #[.agg #[.int .u64 (zK 0), .int .u64 (zK 1), .int .u64 (zK 2), .int .u64 (zK 3)], .agg #[.int .u64 (zN 0), .int .u64 (zN 1), .int .u64 (zN 2), .int .u64 (zN 3)]] (.agg #[.int .u64 (zT 0), .int .u64 (zT 1), .int .u64 (zT 2), .int .u64 (zT 3)])) (h12 : Ret Try.prog 12 #[.agg #[.int .u64 (zS 0), .int .u64 (zS 1), .int .u64 (zS 2), .int .u64 (zS 3)], .agg #[.int .u64 (zN 0), .int .u64 (zN 1), .int .u64 (zN 2), .int .u64 (zN 3)]] (.agg #[.int .u64 (zS 0), .int .u64 (zS 1), .int .u64 (zS 2), .int .u64 (zS 3)])) (h13 : Ret Try.prog 12 #[.agg #[.int .u64 (zP 0), .int .u64 (zP 1), .int .u64 (zP 2), .int .u64 (zP 3)], .agg #[.int .u64 (zN 0), .int .u64 (zN 1), .int .u64 (zN 2), .int .u64 (zN 3)]] (.agg #[.int .u64 (zP 0), .int .u64 (zP 1), .int .u64 (zP 2), .int .u64 (zP 3)])) (h14 : Ret Try.prog 20 #[.agg #[.int .u64 (zA 0), .int .u64 (zA 1), .int .u64 (zA 2), .int .u64 (zA 3)], .agg #[.int .u64 1, .int .u64 0, .int .u64 0, .int .u64 0], .agg #[.int .u64 (zN 0), .int .u64 (zN 1), .int .u64 (zN 2), .int .u64 (zN 3)]] (.agg #[.int .u64 (zM 0), .int .u64 (zM 1), .int .u64 (zM 2), .int .u64 (zM 3)])) (h15 : Ret Try.prog 12 #[.agg #[.int .u64 (zA 0), .int .u64 (zA 1), .int .u64 (zA 2), .int .u64 (zA 3)], .agg #[.int .u64 (zN 0), .int .u64 (zN 1), .int .u64 (zN 2), .int .u64 (zN 3)]] (.agg #[.int .u64 (zM 0), .int .u64 (zM 1), .int .u64 (zM 2), .int .u64 (zM 3)])) (h16 : Ret Try.prog 18 #[.agg #[.int .u64 (zA 0), .int .u64 (zA 1), .int .u64 (zA 2), .int .u64 (zA 3)], .agg #[.int .u64 0, .int .u64 0, .int .u64 0, .int .u64 0], .agg #[.int .u64 (zN 0), .int .u64 (zN 1), .int .u64 (zN 2), .int .u64 (zN 3)]] (.agg #[.int .u64 (zM 0), .int .u64 (zM 1), .int .u64 (zM 2), .int .u64 (zM 3)])) (h17 : Ret Try.prog 12 #[.agg #[.int .u64 (zB 0), .int .u64 (zB 1), .int .u64 (zB 2), .int .u64 (zB 3)], .agg #[.int .u64 (zN 0), .int .u64 (zN 1), .int .u64 (zN 2), .int .u64 (zN 3)]] (.agg #[.int .u64 (zO 0), .int .u64 (zO 1), .int .u64 (zO 2), .int .u64 (zO 3)])) (h18 : Ret Try.prog 20 #[.agg #[.int .u64 (zM 0), .int .u64 (zM 1), .int .u64 (zM 2), .int .u64 (zM 3)], .agg #[.int .u64 (zO 0), .int .u64 (zO 1), .int .u64 (zO 2), .int .u64 (zO 3)], .agg #[.int .u64 (zN 0), .int .u64 (zN 1), .int .u64 (zN 2), .int .u64 (zN 3)]] (.agg #[.int .u64 (zP 0), .int .u64 (zP 1), .int .u64 (zP 2), .int .u64 (zP 3)])) :
    Ret Try.prog 5 #[.agg #[.int .u64 (zA 0), .int .u64 (zA 1), .int .u64 (zA 2), .int .u64 (zA 3)], .agg #[.int .u64 (zB 0), .int .u64 (zB 1), .int .u64 (zB 2), .int .u64 (zB 3)], .agg #[.int .u64 (zN 0), .int .u64 (zN 1), .int .u64 (zN 2), .int .u64 (zN 3)]] (.bool true) := by
  intro w
  have k0 := awake_ret
  have Hh1 := Lib.hid h1
  have Hh2 := Lib.hid h2
  have Hh3 := Lib.hid h3
  have Hh4 := Lib.hid h4
  have Hh5 := Lib.hid h5
  have Hh6 := Lib.hid h6
  have Hh7 := Lib.hid h7
  have Hh8 := Lib.hid h8
  have Hh9 := Lib.hid h9
  have Hh10 := Lib.hid h10
  have Hh11 := Lib.hid h11
  have Hh12 := Lib.hid h12
  have Hh13 := Lib.hid h13
  have Hh14 := Lib.hid h14
  have Hh15 := Lib.hid h15
  have Hh16 := Lib.hid h16
  have Hh17 := Lib.hid h17
  have Hh18 := Lib.hid h18
  have Hk0 := Lib.hid k0
  clear h1 h2 h3 h4 h5 h6 h7 h8 h9 h10 h11 h12 h13 h14 h15 h16 h17 h18 k0
  go_enter Try.func5, Try.ntmps5
  have LA := Has.new w 24 #[.int .u64 (zA 0), .int .u64 (zA 1), .int .u64 (zA 2), .int .u64 (zA 3)]
  have k1 := LA.cell 0 _ rfl
  have k2 := LA.cell 1 _ rfl
  have k3 := LA.cell 2 _ rfl
  have k4 := LA.cell 3 _ rfl
  have LA := LA.alloc (.cells #[.int .u64 (zB 0), .int .u64 (zB 1), .int .u64 (zB 2), .int .u64 (zB 3)] 24)
  have LB := Has.new (w.alloc (.cells #[.int .u64 (zA 0), .int .u64 (zA 1), .int .u64 (zA 2), .int .u64 (zA 3)] 24)) 24 #[.int .u64 (zB 0), .int .u64 (zB 1), .int .u64 (zB 2), .int .u64 (zB 3)]
  simp only [World.size_alloc] at LB
  have k5 := LA.cell 0 _ rfl
  have k6 := LA.cell 1 _ rfl
  have k7 := LA.cell 2 _ rfl
  have k8 := LA.cell 3 _ rfl
  have k9 := LB.cell 0 _ rfl
  have k10 := LB.cell 1 _ rfl
  have k11 := LB.cell 2 _ rfl
  have k12 := LB.cell 3 _ rfl
  have LA := LA.alloc (.cells #[.int .u64 (zN 0), .int .u64 (zN 1), .int .u64 (zN 2), .int .u64 (zN 3)] 24)
  have LB := LB.alloc (.cells #[.int .u64 (zN 0), .int .u64 (zN 1), .int .u64 (zN 2), .int .u64 (zN 3)] 24)
  have LN := Has.new ((w.alloc (.cells #[.int .u64 (zA 0), .int .u64 (zA 1), .int .u64 (zA 2), .int .u64 (zA 3)] 24)).alloc (.cells #[.int .u64 (zB 0), .int .u64 (zB 1), .int .u64 (zB 2), .int .u64 (zB 3)] 24)) 24 #[.int .u64 (zN 0), .int .u64 (zN 1), .int .u64 (zN 2), .int .u64 (zN 3)]
  simp only [World.size_alloc] at LN
  have k13 := LA.cell 0 _ rfl
  have k14 := LA.cell 1 _ rfl
  have k15 := LA.cell 2 _ rfl
  have k16 := LA.cell 3 _ rfl
  have k17 := LB.cell 0 _ rfl
  have k18 := LB.cell 1 _ rfl
  have k19 := LB.cell 2 _ rfl
  have k20 := LB.cell 3 _ rfl
  have k21 := LN.cell 0 _ rfl
  have k22 := LN.cell 1 _ rfl
  have k23 := LN.cell 2 _ rfl
  have k24 := LN.cell 3 _ rfl
  have Q := (Below.refl w.heap.size w)
  have Q := Q.alloc Q.size (.cells #[.int .u64 (zA 0), .int .u64 (zA 1), .int .u64 (zA 2), .int .u64 (zA 3)] 24)
  have Q := Q.alloc Q.size (.cells #[.int .u64 (zB 0), .int .u64 (zB 1), .int .u64 (zB 2), .int .u64 (zB 3)] 24)
  have Q := Q.alloc Q.size (.cells #[.int .u64 (zN 0), .int .u64 (zN 1), .int .u64 (zN 2), .int .u64 (zN 3)] 24)
  go_wp2_with fail
  clear k1 k2 k3 k4 k5 k6 k7 k8 k9 k10 k11 k12 k13 k14 k15 k16 k17 k18 k19 k20 k21 k22 k23 k24
  obtain ⟨W1, hW1⟩ : ∃ W1, (((w.alloc (.cells #[.int .u64 (zA 0), .int .u64 (zA 1), .int .u64 (zA 2), .int .u64 (zA 3)] 24)).alloc (.cells #[.int .u64 (zB 0), .int .u64 (zB 1), .int .u64 (zB 2), .int .u64 (zB 3)] 24)).alloc (.cells #[.int .u64 (zN 0), .int .u64 (zN 1), .int .u64 (zN 2), .int .u64 (zN 3)] 24)) = W1 := ⟨_, rfl⟩
  rw [hW1] at LA LB LN Q ⊢
  clear hW1
  refine (Hk0.out _).mono ?_
  rintro e v25 ⟨rfl, q⟩
  have LA := LA.later q
  have LB := LB.later q
  have LN := LN.later q
  have Q := Q.trans (q.mono Q.size)
  clear q
  have k26 := LA.cell 0 _ rfl
  have k27 := LA.cell 1 _ rfl
  have k28 := LA.cell 2 _ rfl
  have k29 := LA.cell 3 _ rfl
  have k30 := LB.cell 0 _ rfl
  have k31 := LB.cell 1 _ rfl
  have k32 := LB.cell 2 _ rfl
  have k33 := LB.cell 3 _ rfl
  have k34 := LN.cell 0 _ rfl
  have k35 := LN.cell 1 _ rfl
  have k36 := LN.cell 2 _ rfl
  have k37 := LN.cell 3 _ rfl
  have LA := LA.alloc (.cells #[.int .u64 (zA 0), .int .u64 (zA 1), .int .u64 0, .int .u64 0] 24)
  have LB := LB.alloc (.cells #[.int .u64 (zA 0), .int .u64 (zA 1), .int .u64 0, .int .u64 0] 24)
  have LN := LN.alloc (.cells #[.int .u64 (zA 0), .int .u64 (zA 1), .int .u64 0, .int .u64 0] 24)
  have LX := Has.new v25 24 #[.int .u64 (zA 0), .int .u64 (zA 1), .int .u64 0, .int .u64 0]
  have k38 := LA.cell 0 _ rfl
  have k39 := LA.cell 1 _ rfl
  have k40 := LA.cell 2 _ rfl
  have k41 := LA.cell 3 _ rfl
  have k42 := LB.cell 0 _ rfl
  have k43 := LB.cell 1 _ rfl
  have k44 := LB.cell 2 _ rfl
  have k45 := LB.cell 3 _ rfl
  have k46 := LN.cell 0 _ rfl
  have k47 := LN.cell 1 _ rfl
  have k48 := LN.cell 2 _ rfl
  have k49 := LN.cell 3 _ rfl
  have k50 := LX.cell 0 _ rfl
  have k51 := LX.cell 1 _ rfl
  have k52 := LX.cell 2 _ rfl
  have k53 := LX.cell 3 _ rfl
  have LA := LA.alloc (.cells #[.int .u64 (zB 0), .int .u64 (zB 1), .int .u64 0, .int .u64 0] 24)
  have LB := LB.alloc (.cells #[.int .u64 (zB 0), .int .u64 (zB 1), .int .u64 0, .int .u64 0] 24)
  have LN := LN.alloc (.cells #[.int .u64 (zB 0), .int .u64 (zB 1), .int .u64 0, .int .u64 0] 24)
  have LX := LX.alloc (.cells #[.int .u64 (zB 0), .int .u64 (zB 1), .int .u64 0, .int .u64 0] 24)
  have LY := Has.new (v25.alloc (.cells #[.int .u64 (zA 0), .int .u64 (zA 1), .int .u64 0, .int .u64 0] 24)) 24 #[.int .u64 (zB 0), .int .u64 (zB 1), .int .u64 0, .int .u64 0]
  simp only [World.size_alloc] at LY
  have k54 := LA.cell 0 _ rfl
  have k55 := LA.cell 1 _ rfl
  have k56 := LA.cell 2 _ rfl
  have k57 := LA.cell 3 _ rfl
  have k58 := LB.cell 0 _ rfl
  have k59 := LB.cell 1 _ rfl
  have k60 := LB.cell 2 _ rfl
  have k61 := LB.cell 3 _ rfl
  have k62 := LN.cell 0 _ rfl
  have k63 := LN.cell 1 _ rfl
  have k64 := LN.cell 2 _ rfl
  have k65 := LN.cell 3 _ rfl
  have k66 := LX.cell 0 _ rfl
  have k67 := LX.cell 1 _ rfl
  have k68 := LX.cell 2 _ rfl
  have k69 := LX.cell 3 _ rfl
  have k70 := LY.cell 0 _ rfl
  have k71 := LY.cell 1 _ rfl
  have k72 := LY.cell 2 _ rfl
  have k73 := LY.cell 3 _ rfl
  have Q := Q.alloc Q.size (.cells #[.int .u64 (zA 0), .int .u64 (zA 1), .int .u64 0, .int .u64 0] 24)
  have Q := Q.alloc Q.size (.cells #[.int .u64 (zB 0), .int .u64 (zB 1), .int .u64 0, .int .u64 0] 24)
  go_wp2_with fail
  clear k26 k27 k28 k29 k30 k31 k32 k33 k34 k35 k36 k37 k38 k39 k40 k41 k42 k43 k44 k45 k46 k47 k48 k49 k50 k51 k52 k53 k54 k55 k56 k57 k58 k59 k60 k61 k62 k63 k64 k65 k66 k67 k68 k69 k70 k71 k72 k73
  obtain ⟨W2, hW2⟩ : ∃ W2, ((v25.alloc (.cells #[.int .u64 (zA 0), .int .u64 (zA 1), .int .u64 0, .int .u64 0] 24)).alloc (.cells #[.int .u64 (zB 0), .int .u64 (zB 1), .int .u64 0, .int .u64 0] 24)) = W2 := ⟨_, rfl⟩
  rw [hW2] at LA LB LN LX LY Q ⊢
  clear hW2
  generalize v25.heap.size = b2 at *
  refine (Hh1.out _).mono ?_
  rintro e v74 ⟨rfl, q⟩
  have LA := LA.later q
  have LB := LB.later q
  have LN := LN.later q
  have LX := LX.later q
  have LY := LY.later q
  have Q := Q.trans (q.mono Q.size)
  clear q
  have k75 := LA.cell 0 _ rfl
  have k76 := LA.cell 1 _ rfl
  have k77 := LA.cell 2 _ rfl
  have k78 := LA.cell 3 _ rfl
  have k79 := LB.cell 0 _ rfl
  have k80 := LB.cell 1 _ rfl
  have k81 := LB.cell 2 _ rfl
  have k82 := LB.cell 3 _ rfl
  have k83 := LN.cell 0 _ rfl
  have k84 := LN.cell 1 _ rfl
  have k85 := LN.cell 2 _ rfl
  have k86 := LN.cell 3 _ rfl
  have k87 := LX.cell 0 _ rfl
  have k88 := LX.cell 1 _ rfl
  have k89 := LX.cell 2 _ rfl
  have k90 := LX.cell 3 _ rfl
  have k91 := LY.cell 0 _ rfl
  have k92 := LY.cell 1 _ rfl
  have k93 := LY.cell 2 _ rfl
  have k94 := LY.cell 3 _ rfl
  have LA := LA.alloc (.cells #[.int .u64 1, .int .u64 0, .int .u64 0, .int .u64 0] 24)
  have LB := LB.alloc (.cells #[.int .u64 1, .int .u64 0, .int .u64 0, .int .u64 0] 24)
  have LN := LN.alloc (.cells #[.int .u64 1, .int .u64 0, .int .u64 0, .int .u64 0] 24)
  have LX := LX.alloc (.cells #[.int .u64 1, .int .u64 0, .int .u64 0, .int .u64 0] 24)
  have LY := LY.alloc (.cells #[.int .u64 1, .int .u64 0, .int .u64 0, .int .u64 0] 24)
  have LE := Has.new v74 24 #[.int .u64 1, .int .u64 0, .int .u64 0, .int .u64 0]
  have k95 := LA.cell 0 _ rfl
  have k96 := LA.cell 1 _ rfl
  have k97 := LA.cell 2 _ rfl
  have k98 := LA.cell 3 _ rfl
  have k99 := LB.cell 0 _ rfl
  have k100 := LB.cell 1 _ rfl
  have k101 := LB.cell 2 _ rfl
  have k102 := LB.cell 3 _ rfl
  have k103 := LN.cell 0 _ rfl
  have k104 := LN.cell 1 _ rfl
  have k105 := LN.cell 2 _ rfl
  have k106 := LN.cell 3 _ rfl
  have k107 := LX.cell 0 _ rfl
  have k108 := LX.cell 1 _ rfl
  have k109 := LX.cell 2 _ rfl
  have k110 := LX.cell 3 _ rfl
  have k111 := LY.cell 0 _ rfl
  have k112 := LY.cell 1 _ rfl
  have k113 := LY.cell 2 _ rfl
  have k114 := LY.cell 3 _ rfl
  have k115 := LE.cell 0 _ rfl
  have k116 := LE.cell 1 _ rfl
  have k117 := LE.cell 2 _ rfl
  have k118 := LE.cell 3 _ rfl
  have Q := Q.alloc Q.size (.cells #[.int .u64 1, .int .u64 0, .int .u64 0, .int .u64 0] 24)
  go_wp2_with fail
  clear k75 k76 k77 k78 k79 k80 k81 k82 k83 k84 k85 k86 k87 k88 k89 k90 k91 k92 k93 k94 k95 k96 k97 k98 k99 k100 k101 k102 k103 k104 k105 k106 k107 k108 k109 k110 k111 k112 k113 k114 k115 k116 k117 k118
  obtain ⟨W3, hW3⟩ : ∃ W3, (v74.alloc (.cells #[.int .u64 1, .int .u64 0, .int .u64 0, .int .u64 0] 24)) = W3 := ⟨_, rfl⟩
  rw [hW3] at LA LB LN LX LY LE Q ⊢
  clear hW3
  generalize v74.heap.size = b3 at *
  refine (Hh2.out _).mono ?_
  rintro e v119 ⟨rfl, q⟩
  have LA := LA.later q
  have LB := LB.later q
  have LN := LN.later q
  have LX := LX.later q
  have LY := LY.later q
  have LE := LE.later q
  have Q := Q.trans (q.mono Q.size)
  clear q
  have k120 := LA.cell 0 _ rfl
  have k121 := LA.cell 1 _ rfl
  have k122 := LA.cell 2 _ rfl
  have k123 := LA.cell 3 _ rfl
  have k124 := LB.cell 0 _ rfl
  have k125 := LB.cell 1 _ rfl
  have k126 := LB.cell 2 _ rfl
  have k127 := LB.cell 3 _ rfl
  have k128 := LN.cell 0 _ rfl
  have k129 := LN.cell 1 _ rfl
  have k130 := LN.cell 2 _ rfl
  have k131 := LN.cell 3 _ rfl
  have k132 := LX.cell 0 _ rfl
  have k133 := LX.cell 1 _ rfl
  have k134 := LX.cell 2 _ rfl
  have k135 := LX.cell 3 _ rfl
  have k136 := LY.cell 0 _ rfl
  have k137 := LY.cell 1 _ rfl
  have k138 := LY.cell 2 _ rfl
  have k139 := LY.cell 3 _ rfl
  have k140 := LE.cell 0 _ rfl
  have k141 := LE.cell 1 _ rfl
  have k142 := LE.cell 2 _ rfl
  have k143 := LE.cell 3 _ rfl
  have LA := LA.alloc (.cells #[.int .u64 (zS 0), .int .u64 (zS 1), .int .u64 (zS 2), .int .u64 (zS 3)] 24)
  have LB := LB.alloc (.cells #[.int .u64 (zS 0), .int .u64 (zS 1), .int .u64 (zS 2), .int .u64 (zS 3)] 24)
  have LN := LN.alloc (.cells #[.int .u64 (zS 0), .int .u64 (zS 1), .int .u64 (zS 2), .int .u64 (zS 3)] 24)
  have LX := LX.alloc (.cells #[.int .u64 (zS 0), .int .u64 (zS 1), .int .u64 (zS 2), .int .u64 (zS 3)] 24)
  have LY := LY.alloc (.cells #[.int .u64 (zS 0), .int .u64 (zS 1), .int .u64 (zS 2), .int .u64 (zS 3)] 24)
  have LE := LE.alloc (.cells #[.int .u64 (zS 0), .int .u64 (zS 1), .int .u64 (zS 2), .int .u64 (zS 3)] 24)
  have LS := Has.new v119 24 #[.int .u64 (zS 0), .int .u64 (zS 1), .int .u64 (zS 2), .int .u64 (zS 3)]
  have k144 := LA.cell 0 _ rfl
  have k145 := LA.cell 1 _ rfl
  have k146 := LA.cell 2 _ rfl
  have k147 := LA.cell 3 _ rfl
  have k148 := LB.cell 0 _ rfl
  have k149 := LB.cell 1 _ rfl
  have k150 := LB.cell 2 _ rfl
  have k151 := LB.cell 3 _ rfl
  have k152 := LN.cell 0 _ rfl
  have k153 := LN.cell 1 _ rfl
  have k154 := LN.cell 2 _ rfl
  have k155 := LN.cell 3 _ rfl
  have k156 := LX.cell 0 _ rfl
  have k157 := LX.cell 1 _ rfl
  have k158 := LX.cell 2 _ rfl
  have k159 := LX.cell 3 _ rfl
  have k160 := LY.cell 0 _ rfl
  have k161 := LY.cell 1 _ rfl
  have k162 := LY.cell 2 _ rfl
  have k163 := LY.cell 3 _ rfl
  have k164 := LE.cell 0 _ rfl
  have k165 := LE.cell 1 _ rfl
  have k166 := LE.cell 2 _ rfl
  have k167 := LE.cell 3 _ rfl
  have k168 := LS.cell 0 _ rfl
  have k169 := LS.cell 1 _ rfl
  have k170 := LS.cell 2 _ rfl
  have k171 := LS.cell 3 _ rfl
  have Q := Q.alloc Q.size (.cells #[.int .u64 (zS 0), .int .u64 (zS 1), .int .u64 (zS 2), .int .u64 (zS 3)] 24)
  go_wp2_with fail
  clear k120 k121 k122 k123 k124 k125 k126 k127 k128 k129 k130 k131 k132 k133 k134 k135 k136 k137 k138 k139 k140 k141 k142 k143 k144 k145 k146 k147 k148 k149 k150 k151 k152 k153 k154 k155 k156 k157 k158 k159 k160 k161 k162 k163 k164 k165 k166 k167 k168 k169 k170 k171
  obtain ⟨W4, hW4⟩ : ∃ W4, (v119.alloc (.cells #[.int .u64 (zS 0), .int .u64 (zS 1), .int .u64 (zS 2), .int .u64 (zS 3)] 24)) = W4 := ⟨_, rfl⟩
  rw [hW4] at LA LB LN LX LY LE LS Q ⊢
  clear hW4
  generalize v119.heap.size = b4 at *
  refine (Hh3.out _).mono ?_
  rintro e v172 ⟨rfl, q⟩
  have LA := LA.later q
  have LB := LB.later q
  have LN := LN.later q
  have LX := LX.later q
  have LY := LY.later q
  have LE := LE.later q
  have LS := LS.later q
  have Q := Q.trans (q.mono Q.size)
  clear q
  have k173 := LA.cell 0 _ rfl
  have k174 := LA.cell 1 _ rfl
  have k175 := LA.cell 2 _ rfl
  have k176 := LA.cell 3 _ rfl
  have k177 := LB.cell 0 _ rfl
  have k178 := LB.cell 1 _ rfl
  have k179 := LB.cell 2 _ rfl
  have k180 := LB.cell 3 _ rfl
  have k181 := LN.cell 0 _ rfl
  have k182 := LN.cell 1 _ rfl
  have k183 := LN.cell 2 _ rfl
  have k184 := LN.cell 3 _ rfl
  have k185 := LX.cell 0 _ rfl
  have k186 := LX.cell 1 _ rfl
  have k187 := LX.cell 2 _ rfl
  have k188 := LX.cell 3 _ rfl
  have k189 := LY.cell 0 _ rfl
  have k190 := LY.cell 1 _ rfl
  have k191 := LY.cell 2 _ rfl
  have k192 := LY.cell 3 _ rfl
  have k193 := LE.cell 0 _ rfl
  have k194 := LE.cell 1 _ rfl
  have k195 := LE.cell 2 _ rfl
  have k196 := LE.cell 3 _ rfl
  have k197 := LS.cell 0 _ rfl
  have k198 := LS.cell 1 _ rfl
  have k199 := LS.cell 2 _ rfl
  have k200 := LS.cell 3 _ rfl
  have LA := LA.alloc (.cells #[.int .u64 (zP 0), .int .u64 (zP 1), .int .u64 (zP 2), .int .u64 (zP 3)] 24)
  have LB := LB.alloc (.cells #[.int .u64 (zP 0), .int .u64 (zP 1), .int .u64 (zP 2), .int .u64 (zP 3)] 24)
  have LN := LN.alloc (.cells #[.int .u64 (zP 0), .int .u64 (zP 1), .int .u64 (zP 2), .int .u64 (zP 3)] 24)
  have LX := LX.alloc (.cells #[.int .u64 (zP 0), .int .u64 (zP 1), .int .u64 (zP 2), .int .u64 (zP 3)] 24)
  have LY := LY.alloc (.cells #[.int .u64 (zP 0), .int .u64 (zP 1), .int .u64 (zP 2), .int .u64 (zP 3)] 24)
  have LE := LE.alloc (.cells #[.int .u64 (zP 0), .int .u64 (zP 1), .int .u64 (zP 2), .int .u64 (zP 3)] 24)
  have LS := LS.alloc (.cells #[.int .u64 (zP 0), .int .u64 (zP 1), .int .u64 (zP 2), .int .u64 (zP 3)] 24)
  have LP := Has.new v172 24 #[.int .u64 (zP 0), .int .u64 (zP 1), .int .u64 (zP 2), .int .u64 (zP 3)]
  have k201 := LA.cell 0 _ rfl
  have k202 := LA.cell 1 _ rfl
  have k203 := LA.cell 2 _ rfl
  have k204 := LA.cell 3 _ rfl
  have k205 := LB.cell 0 _ rfl
  have k206 := LB.cell 1 _ rfl
  have k207 := LB.cell 2 _ rfl
  have k208 := LB.cell 3 _ rfl
  have k209 := LN.cell 0 _ rfl
  have k210 := LN.cell 1 _ rfl
  have k211 := LN.cell 2 _ rfl
  have k212 := LN.cell 3 _ rfl
  have k213 := LX.cell 0 _ rfl
  have k214 := LX.cell 1 _ rfl
  have k215 := LX.cell 2 _ rfl
  have k216 := LX.cell 3 _ rfl
  have k217 := LY.cell 0 _ rfl
  have k218 := LY.cell 1 _ rfl
  have k219 := LY.cell 2 _ rfl
  have k220 := LY.cell 3 _ rfl
  have k221 := LE.cell 0 _ rfl
  have k222 := LE.cell 1 _ rfl
  have k223 := LE.cell 2 _ rfl
  have k224 := LE.cell 3 _ rfl
  have k225 := LS.cell 0 _ rfl
  have k226 := LS.cell 1 _ rfl
  have k227 := LS.cell 2 _ rfl
  have k228 := LS.cell 3 _ rfl
  have k229 := LP.cell 0 _ rfl
  have k230 := LP.cell 1 _ rfl
  have k231 := LP.cell 2 _ rfl
  have k232 := LP.cell 3 _ rfl
  have Q := Q.alloc Q.size (.cells #[.int .u64 (zP 0), .int .u64 (zP 1), .int .u64 (zP 2), .int .u64 (zP 3)] 24)
  go_wp2_with fail
  clear k173 k174 k175 k176 k177 k178 k179 k180 k181 k182 k183 k184 k185 k186 k187 k188 k189 k190 k191 k192 k193 k194 k195 k196 k197 k198 k199 k200 k201 k202 k203 k204 k205 k206 k207 k208 k209 k210 k211 k212 k213 k214 k215 k216 k217 k218 k219 k220 k221 k222 k223 k224 k225 k226 k227 k228 k229 k230 k231 k232
  obtain ⟨W5, hW5⟩ : ∃ W5, (v172.alloc (.cells #[.int .u64 (zP 0), .int .u64 (zP 1), .int .u64 (zP 2), .int .u64 (zP 3)] 24)) = W5 := ⟨_, rfl⟩
  rw [hW5] at LA LB LN LX LY LE LS LP Q ⊢
  clear hW5
  generalize v172.heap.size = b5 at *
  have k233 : ∀ x : Ext W5, x.w.cell? ⟨w.heap.size, 0, none⟩ = some (.int .u64 (zA 0)) := fun x => (LA.later x.below).cell 0 _ rfl
  have k234 : ∀ x : Ext W5, x.w.cell? ⟨w.heap.size, 1, none⟩ = some (.int .u64 (zA 1)) := fun x => (LA.later x.below).cell 1 _ rfl
  have k235 : ∀ x : Ext W5, x.w.cell? ⟨w.heap.size, 2, none⟩ = some (.int .u64 (zA 2)) := fun x => (LA.later x.below).cell 2 _ rfl
  have k236 : ∀ x : Ext W5, x.w.cell? ⟨w.heap.size, 3, none⟩ = some (.int .u64 (zA 3)) := fun x => (LA.later x.below).cell 3 _ rfl
  have k237 : ∀ x : Ext W5, x.w.cell? ⟨w.heap.size + 1, 0, none⟩ = some (.int .u64 (zB 0)) := fun x => (LB.later x.below).cell 0 _ rfl
  have k238 : ∀ x : Ext W5, x.w.cell? ⟨w.heap.size + 1, 1, none⟩ = some (.int .u64 (zB 1)) := fun x => (LB.later x.below).cell 1 _ rfl
  have k239 : ∀ x : Ext W5, x.w.cell? ⟨w.heap.size + 1, 2, none⟩ = some (.int .u64 (zB 2)) := fun x => (LB.later x.below).cell 2 _ rfl
  have k240 : ∀ x : Ext W5, x.w.cell? ⟨w.heap.size + 1, 3, none⟩ = some (.int .u64 (zB 3)) := fun x => (LB.later x.below).cell 3 _ rfl
  have k241 : ∀ x : Ext W5, x.w.cell? ⟨w.heap.size + 1 + 1, 0, none⟩ = some (.int .u64 (zN 0)) := fun x => (LN.later x.below).cell 0 _ rfl
  have k242 : ∀ x : Ext W5, x.w.cell? ⟨w.heap.size + 1 + 1, 1, none⟩ = some (.int .u64 (zN 1)) := fun x => (LN.later x.below).cell 1 _ rfl
  have k243 : ∀ x : Ext W5, x.w.cell? ⟨w.heap.size + 1 + 1, 2, none⟩ = some (.int .u64 (zN 2)) := fun x => (LN.later x.below).cell 2 _ rfl
  have k244 : ∀ x : Ext W5, x.w.cell? ⟨w.heap.size + 1 + 1, 3, none⟩ = some (.int .u64 (zN 3)) := fun x => (LN.later x.below).cell 3 _ rfl
  have k245 : ∀ x : Ext W5, x.w.cell? ⟨b2, 0, none⟩ = some (.int .u64 (zA 0)) := fun x => (LX.later x.below).cell 0 _ rfl
  have k246 : ∀ x : Ext W5, x.w.cell? ⟨b2, 1, none⟩ = some (.int .u64 (zA 1)) := fun x => (LX.later x.below).cell 1 _ rfl
  have k247 : ∀ x : Ext W5, x.w.cell? ⟨b2, 2, none⟩ = some (.int .u64 0) := fun x => (LX.later x.below).cell 2 _ rfl
  have k248 : ∀ x : Ext W5, x.w.cell? ⟨b2, 3, none⟩ = some (.int .u64 0) := fun x => (LX.later x.below).cell 3 _ rfl
  have k249 : ∀ x : Ext W5, x.w.cell? ⟨b2 + 1, 0, none⟩ = some (.int .u64 (zB 0)) := fun x => (LY.later x.below).cell 0 _ rfl
  have k250 : ∀ x : Ext W5, x.w.cell? ⟨b2 + 1, 1, none⟩ = some (.int .u64 (zB 1)) := fun x => (LY.later x.below).cell 1 _ rfl
  have k251 : ∀ x : Ext W5, x.w.cell? ⟨b2 + 1, 2, none⟩ = some (.int .u64 0) := fun x => (LY.later x.below).cell 2 _ rfl
  have k252 : ∀ x : Ext W5, x.w.cell? ⟨b2 + 1, 3, none⟩ = some (.int .u64 0) := fun x => (LY.later x.below).cell 3 _ rfl
  have k253 : ∀ x : Ext W5, x.w.cell? ⟨b3, 0, none⟩ = some (.int .u64 1) := fun x => (LE.later x.below).cell 0 _ rfl
  have k254 : ∀ x : Ext W5, x.w.cell? ⟨b3, 1, none⟩ = some (.int .u64 0) := fun x => (LE.later x.below).cell 1 _ rfl
  have k255 : ∀ x : Ext W5, x.w.cell? ⟨b3, 2, none⟩ = some (.int .u64 0) := fun x => (LE.later x.below).cell 2 _ rfl
  have k256 : ∀ x : Ext W5, x.w.cell? ⟨b3, 3, none⟩ = some (.int .u64 0) := fun x => (LE.later x.below).cell 3 _ rfl
  have k257 : ∀ x : Ext W5, x.w.cell? ⟨b4, 0, none⟩ = some (.int .u64 (zS 0)) := fun x => (LS.later x.below).cell 0 _ rfl
  have k258 : ∀ x : Ext W5, x.w.cell? ⟨b4, 1, none⟩ = some (.int .u64 (zS 1)) := fun x => (LS.later x.below).cell 1 _ rfl
  have k259 : ∀ x : Ext W5, x.w.cell? ⟨b4, 2, none⟩ = some (.int .u64 (zS 2)) := fun x => (LS.later x.below).cell 2 _ rfl
  have k260 : ∀ x : Ext W5, x.w.cell? ⟨b4, 3, none⟩ = some (.int .u64 (zS 3)) := fun x => (LS.later x.below).cell 3 _ rfl
  have k261 : ∀ x : Ext W5, x.w.cell? ⟨b5, 0, none⟩ = some (.int .u64 (zP 0)) := fun x => (LP.later x.below).cell 0 _ rfl
  have k262 : ∀ x : Ext W5, x.w.cell? ⟨b5, 1, none⟩ = some (.int .u64 (zP 1)) := fun x => (LP.later x.below).cell 1 _ rfl
  have k263 : ∀ x : Ext W5, x.w.cell? ⟨b5, 2, none⟩ = some (.int .u64 (zP 2)) := fun x => (LP.later x.below).cell 2 _ rfl
  have k264 : ∀ x : Ext W5, x.w.cell? ⟨b5, 3, none⟩ = some (.int .u64 (zP 3)) := fun x => (LP.later x.below).cell 3 _ rfl
  clear LA LB LN LX LY LE LS LP
  have HQ := Lib.hid Q
  clear Q
  try simp only [List.append]
  refine wp_region_quick (C := Grows W5) (by kernel_rfl) (by kernel_rfl) (by kernel_rfl) (grows_refl W5) ?_
  repeat (go_big_quiet_step (first | (with_reducible exact Ret.at Hh4.out _) | (with_reducible exact Ret.at Hh5.out _) | (with_reducible exact Ret.at Hh6.out _) | (with_reducible exact Ret.at Hh7.out _) | (with_reducible exact Ret.at Hh8.out _) | (with_reducible exact Ret.at Hh9.out _) | (with_reducible exact Ret.at Hh10.out _) | (with_reducible exact Ret.at Hh11.out _) | (with_reducible exact Ret.at Hh12.out _) | (with_reducible exact Ret.at Hh13.out _) | (with_reducible exact Ret.at Hh14.out _) | (with_reducible exact Ret.at Hh15.out _) | (with_reducible exact Ret.at Hh16.out _) | (with_reducible exact Ret.at Hh17.out _) | (with_reducible exact Ret.at Hh18.out _)))
  refine wpQuiet_nil ?_
  rintro _ ⟨x, rfl⟩
  go_wp2
  go_ret
  exact ⟨rfl, HQ.out.trans (x.below.mono HQ.out.size)⟩
end Go.Proofs.Ytchgpakkmddceaa
