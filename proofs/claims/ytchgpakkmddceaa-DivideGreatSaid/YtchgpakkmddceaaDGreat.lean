/- What is multiplied is divided again. -/
import Derived.Test.YtchgpakkmddceaaDivAwake
namespace Go.Proofs.Ytchgpakkmddceaa
open Go Go.RowKit
attribute [local go_sem] Oper.semAt_some Grows wide_fn eq4

set_option maxRecDepth 100000 in
set_option maxHeartbeats 4000000 in
theorem great_zero (a0 a1 c0 c1 : Int) (h1 : Ret Try.prog 25 #[.agg #[.int .u64 a0, .int .u64 a1, .int .u64 0, .int .u64 0], .agg #[.int .u64 0, .int .u64 0, .int .u64 0, .int .u64 0]] (.agg #[.int .u64 0, .int .u64 0, .int .u64 0, .int .u64 0])) (h2 : Ret Try.prog 10 #[.agg #[.int .u64 0, .int .u64 0, .int .u64 0, .int .u64 0], .agg #[.int .u64 0, .int .u64 0, .int .u64 0, .int .u64 0]] (.agg #[.int .u64 0, .int .u64 0, .int .u64 0, .int .u64 0])) :
    Ret Try.prog 8 #[.agg #[.int .u64 a0, .int .u64 a1], .agg #[.int .u64 0, .int .u64 0], .agg #[.int .u64 c0, .int .u64 c1]] (.bool true) := by
  intro w
  have k0 := awake_ret
  have Hh1 := Lib.hid h1
  have Hh2 := Lib.hid h2
  have Hk0 := Lib.hid k0
  clear h1 h2 k0
  go_enter Try.func8, Try.ntmps8
  have LA := Has.new w 37 #[.int .u64 a0, .int .u64 a1]
  have k1 := LA.cell 0 _ rfl
  have k2 := LA.cell 1 _ rfl
  have LA := LA.alloc (.cells #[.int .u64 0, .int .u64 0] 37)
  have LB := Has.new (w.alloc (.cells #[.int .u64 a0, .int .u64 a1] 37)) 37 #[.int .u64 0, .int .u64 0]
  simp only [World.size_alloc] at LB
  have k3 := LA.cell 0 _ rfl
  have k4 := LA.cell 1 _ rfl
  have k5 := LB.cell 0 _ rfl
  have k6 := LB.cell 1 _ rfl
  have LA := LA.alloc (.cells #[.int .u64 c0, .int .u64 c1] 37)
  have LB := LB.alloc (.cells #[.int .u64 c0, .int .u64 c1] 37)
  have LC := Has.new ((w.alloc (.cells #[.int .u64 a0, .int .u64 a1] 37)).alloc (.cells #[.int .u64 0, .int .u64 0] 37)) 37 #[.int .u64 c0, .int .u64 c1]
  simp only [World.size_alloc] at LC
  have k7 := LA.cell 0 _ rfl
  have k8 := LA.cell 1 _ rfl
  have k9 := LB.cell 0 _ rfl
  have k10 := LB.cell 1 _ rfl
  have k11 := LC.cell 0 _ rfl
  have k12 := LC.cell 1 _ rfl
  have Q := (Below.refl w.heap.size w)
  have Q := Q.alloc Q.size (.cells #[.int .u64 a0, .int .u64 a1] 37)
  have Q := Q.alloc Q.size (.cells #[.int .u64 0, .int .u64 0] 37)
  have Q := Q.alloc Q.size (.cells #[.int .u64 c0, .int .u64 c1] 37)
  go_wp2_with fail
  clear k1 k2 k3 k4 k5 k6 k7 k8 k9 k10 k11 k12
  obtain ⟨W1, hW1⟩ : ∃ W1, (((w.alloc (.cells #[.int .u64 a0, .int .u64 a1] 37)).alloc (.cells #[.int .u64 0, .int .u64 0] 37)).alloc (.cells #[.int .u64 c0, .int .u64 c1] 37)) = W1 := ⟨_, rfl⟩
  rw [hW1] at LA LB LC Q ⊢
  clear hW1
  refine (Hk0.out _).mono ?_
  rintro e v13 ⟨rfl, q⟩
  have LA := LA.later q
  have LB := LB.later q
  have LC := LC.later q
  have Q := Q.trans (q.mono Q.size)
  clear q
  have k14 := LA.cell 0 _ rfl
  have k15 := LA.cell 1 _ rfl
  have k16 := LB.cell 0 _ rfl
  have k17 := LB.cell 1 _ rfl
  have k18 := LC.cell 0 _ rfl
  have k19 := LC.cell 1 _ rfl
  have LA := LA.alloc (.cells #[.int .u64 a0, .int .u64 a1, .int .u64 0, .int .u64 0] 24)
  have LB := LB.alloc (.cells #[.int .u64 a0, .int .u64 a1, .int .u64 0, .int .u64 0] 24)
  have LC := LC.alloc (.cells #[.int .u64 a0, .int .u64 a1, .int .u64 0, .int .u64 0] 24)
  have LX := Has.new v13 24 #[.int .u64 a0, .int .u64 a1, .int .u64 0, .int .u64 0]
  have k20 := LA.cell 0 _ rfl
  have k21 := LA.cell 1 _ rfl
  have k22 := LB.cell 0 _ rfl
  have k23 := LB.cell 1 _ rfl
  have k24 := LC.cell 0 _ rfl
  have k25 := LC.cell 1 _ rfl
  have k26 := LX.cell 0 _ rfl
  have k27 := LX.cell 1 _ rfl
  have k28 := LX.cell 2 _ rfl
  have k29 := LX.cell 3 _ rfl
  have LA := LA.alloc (.cells #[.int .u64 0, .int .u64 0, .int .u64 0, .int .u64 0] 24)
  have LB := LB.alloc (.cells #[.int .u64 0, .int .u64 0, .int .u64 0, .int .u64 0] 24)
  have LC := LC.alloc (.cells #[.int .u64 0, .int .u64 0, .int .u64 0, .int .u64 0] 24)
  have LX := LX.alloc (.cells #[.int .u64 0, .int .u64 0, .int .u64 0, .int .u64 0] 24)
  have LY := Has.new (v13.alloc (.cells #[.int .u64 a0, .int .u64 a1, .int .u64 0, .int .u64 0] 24)) 24 #[.int .u64 0, .int .u64 0, .int .u64 0, .int .u64 0]
  simp only [World.size_alloc] at LY
  have k30 := LA.cell 0 _ rfl
  have k31 := LA.cell 1 _ rfl
  have k32 := LB.cell 0 _ rfl
  have k33 := LB.cell 1 _ rfl
  have k34 := LC.cell 0 _ rfl
  have k35 := LC.cell 1 _ rfl
  have k36 := LX.cell 0 _ rfl
  have k37 := LX.cell 1 _ rfl
  have k38 := LX.cell 2 _ rfl
  have k39 := LX.cell 3 _ rfl
  have k40 := LY.cell 0 _ rfl
  have k41 := LY.cell 1 _ rfl
  have k42 := LY.cell 2 _ rfl
  have k43 := LY.cell 3 _ rfl
  have LA := LA.alloc (.cells #[.int .u64 c0, .int .u64 c1, .int .u64 0, .int .u64 0] 24)
  have LB := LB.alloc (.cells #[.int .u64 c0, .int .u64 c1, .int .u64 0, .int .u64 0] 24)
  have LC := LC.alloc (.cells #[.int .u64 c0, .int .u64 c1, .int .u64 0, .int .u64 0] 24)
  have LX := LX.alloc (.cells #[.int .u64 c0, .int .u64 c1, .int .u64 0, .int .u64 0] 24)
  have LY := LY.alloc (.cells #[.int .u64 c0, .int .u64 c1, .int .u64 0, .int .u64 0] 24)
  have LZ := Has.new ((v13.alloc (.cells #[.int .u64 a0, .int .u64 a1, .int .u64 0, .int .u64 0] 24)).alloc (.cells #[.int .u64 0, .int .u64 0, .int .u64 0, .int .u64 0] 24)) 24 #[.int .u64 c0, .int .u64 c1, .int .u64 0, .int .u64 0]
  simp only [World.size_alloc] at LZ
  have k44 := LA.cell 0 _ rfl
  have k45 := LA.cell 1 _ rfl
  have k46 := LB.cell 0 _ rfl
  have k47 := LB.cell 1 _ rfl
  have k48 := LC.cell 0 _ rfl
  have k49 := LC.cell 1 _ rfl
  have k50 := LX.cell 0 _ rfl
  have k51 := LX.cell 1 _ rfl
  have k52 := LX.cell 2 _ rfl
  have k53 := LX.cell 3 _ rfl
  have k54 := LY.cell 0 _ rfl
  have k55 := LY.cell 1 _ rfl
  have k56 := LY.cell 2 _ rfl
  have k57 := LY.cell 3 _ rfl
  have k58 := LZ.cell 0 _ rfl
  have k59 := LZ.cell 1 _ rfl
  have k60 := LZ.cell 2 _ rfl
  have k61 := LZ.cell 3 _ rfl
  have Q := Q.alloc Q.size (.cells #[.int .u64 a0, .int .u64 a1, .int .u64 0, .int .u64 0] 24)
  have Q := Q.alloc Q.size (.cells #[.int .u64 0, .int .u64 0, .int .u64 0, .int .u64 0] 24)
  have Q := Q.alloc Q.size (.cells #[.int .u64 c0, .int .u64 c1, .int .u64 0, .int .u64 0] 24)
  go_wp2_with fail
  clear k14 k15 k16 k17 k18 k19 k20 k21 k22 k23 k24 k25 k26 k27 k28 k29 k30 k31 k32 k33 k34 k35 k36 k37 k38 k39 k40 k41 k42 k43 k44 k45 k46 k47 k48 k49 k50 k51 k52 k53 k54 k55 k56 k57 k58 k59 k60 k61
  obtain ⟨W2, hW2⟩ : ∃ W2, (((v13.alloc (.cells #[.int .u64 a0, .int .u64 a1, .int .u64 0, .int .u64 0] 24)).alloc (.cells #[.int .u64 0, .int .u64 0, .int .u64 0, .int .u64 0] 24)).alloc (.cells #[.int .u64 c0, .int .u64 c1, .int .u64 0, .int .u64 0] 24)) = W2 := ⟨_, rfl⟩
  rw [hW2] at LA LB LC LX LY LZ Q ⊢
  clear hW2
  generalize v13.heap.size = b2 at *
  refine (Hh1.out _).mono ?_
  rintro e v62 ⟨rfl, q⟩
  have LA := LA.later q
  have LB := LB.later q
  have LC := LC.later q
  have LX := LX.later q
  have LY := LY.later q
  have LZ := LZ.later q
  have Q := Q.trans (q.mono Q.size)
  clear q
  have k63 := LA.cell 0 _ rfl
  have k64 := LA.cell 1 _ rfl
  have k65 := LB.cell 0 _ rfl
  have k66 := LB.cell 1 _ rfl
  have k67 := LC.cell 0 _ rfl
  have k68 := LC.cell 1 _ rfl
  have k69 := LX.cell 0 _ rfl
  have k70 := LX.cell 1 _ rfl
  have k71 := LX.cell 2 _ rfl
  have k72 := LX.cell 3 _ rfl
  have k73 := LY.cell 0 _ rfl
  have k74 := LY.cell 1 _ rfl
  have k75 := LY.cell 2 _ rfl
  have k76 := LY.cell 3 _ rfl
  have k77 := LZ.cell 0 _ rfl
  have k78 := LZ.cell 1 _ rfl
  have k79 := LZ.cell 2 _ rfl
  have k80 := LZ.cell 3 _ rfl
  have LA := LA.alloc (.cells #[.int .u64 0, .int .u64 0, .int .u64 0, .int .u64 0] 24)
  have LB := LB.alloc (.cells #[.int .u64 0, .int .u64 0, .int .u64 0, .int .u64 0] 24)
  have LC := LC.alloc (.cells #[.int .u64 0, .int .u64 0, .int .u64 0, .int .u64 0] 24)
  have LX := LX.alloc (.cells #[.int .u64 0, .int .u64 0, .int .u64 0, .int .u64 0] 24)
  have LY := LY.alloc (.cells #[.int .u64 0, .int .u64 0, .int .u64 0, .int .u64 0] 24)
  have LZ := LZ.alloc (.cells #[.int .u64 0, .int .u64 0, .int .u64 0, .int .u64 0] 24)
  have LP := Has.new v62 24 #[.int .u64 0, .int .u64 0, .int .u64 0, .int .u64 0]
  have k81 := LA.cell 0 _ rfl
  have k82 := LA.cell 1 _ rfl
  have k83 := LB.cell 0 _ rfl
  have k84 := LB.cell 1 _ rfl
  have k85 := LC.cell 0 _ rfl
  have k86 := LC.cell 1 _ rfl
  have k87 := LX.cell 0 _ rfl
  have k88 := LX.cell 1 _ rfl
  have k89 := LX.cell 2 _ rfl
  have k90 := LX.cell 3 _ rfl
  have k91 := LY.cell 0 _ rfl
  have k92 := LY.cell 1 _ rfl
  have k93 := LY.cell 2 _ rfl
  have k94 := LY.cell 3 _ rfl
  have k95 := LZ.cell 0 _ rfl
  have k96 := LZ.cell 1 _ rfl
  have k97 := LZ.cell 2 _ rfl
  have k98 := LZ.cell 3 _ rfl
  have k99 := LP.cell 0 _ rfl
  have k100 := LP.cell 1 _ rfl
  have k101 := LP.cell 2 _ rfl
  have k102 := LP.cell 3 _ rfl
  have Q := Q.alloc Q.size (.cells #[.int .u64 0, .int .u64 0, .int .u64 0, .int .u64 0] 24)
  go_wp2_with fail
  clear k63 k64 k65 k66 k67 k68 k69 k70 k71 k72 k73 k74 k75 k76 k77 k78 k79 k80 k81 k82 k83 k84 k85 k86 k87 k88 k89 k90 k91 k92 k93 k94 k95 k96 k97 k98 k99 k100 k101 k102
  obtain ⟨W3, hW3⟩ : ∃ W3, (v62.alloc (.cells #[.int .u64 0, .int .u64 0, .int .u64 0, .int .u64 0] 24)) = W3 := ⟨_, rfl⟩
  rw [hW3] at LA LB LC LX LY LZ LP Q ⊢
  clear hW3
  generalize v62.heap.size = b3 at *
  refine (Hh2.out _).mono ?_
  rintro e v103 ⟨rfl, q⟩
  have LA := LA.later q
  have LB := LB.later q
  have LC := LC.later q
  have LX := LX.later q
  have LY := LY.later q
  have LZ := LZ.later q
  have LP := LP.later q
  have Q := Q.trans (q.mono Q.size)
  clear q
  have k104 := LA.cell 0 _ rfl
  have k105 := LA.cell 1 _ rfl
  have k106 := LB.cell 0 _ rfl
  have k107 := LB.cell 1 _ rfl
  have k108 := LC.cell 0 _ rfl
  have k109 := LC.cell 1 _ rfl
  have k110 := LX.cell 0 _ rfl
  have k111 := LX.cell 1 _ rfl
  have k112 := LX.cell 2 _ rfl
  have k113 := LX.cell 3 _ rfl
  have k114 := LY.cell 0 _ rfl
  have k115 := LY.cell 1 _ rfl
  have k116 := LY.cell 2 _ rfl
  have k117 := LY.cell 3 _ rfl
  have k118 := LZ.cell 0 _ rfl
  have k119 := LZ.cell 1 _ rfl
  have k120 := LZ.cell 2 _ rfl
  have k121 := LZ.cell 3 _ rfl
  have k122 := LP.cell 0 _ rfl
  have k123 := LP.cell 1 _ rfl
  have k124 := LP.cell 2 _ rfl
  have k125 := LP.cell 3 _ rfl
  go_wp2
  clear k104 k105 k106 k107 k108 k109 k110 k111 k112 k113 k114 k115 k116 k117 k118 k119 k120 k121 k122 k123 k124 k125
  go_ret
  exact ⟨rfl, Q⟩

set_option maxRecDepth 100000 in
set_option maxHeartbeats 4000000 in
theorem great_walk (a0 a1 b0 b1 c0 c1 : Int) (zP zR zS : Nat → Int) (hne : (b0 == 0 && b1 == 0) = false) (h1 : Ret Try.prog 25 #[.agg #[.int .u64 a0, .int .u64 a1, .int .u64 0, .int .u64 0], .agg #[.int .u64 b0, .int .u64 b1, .int .u64 0, .int .u64 0]] (.agg #[.int .u64 (zP 0), .int .u64 (zP 1), .int .u64 (zP 2), .int .u64 (zP 3)])) (h2 : Ret Try.prog 12 #[.agg #[.int .u64 c0, .int .u64 c1, .int .u64 0, .int .u64 0], .agg #[.int .u64 b0, .int .u64 b1, .int .u64 0, .int .u64 0]] (.agg #[.int .u64 (zR 0), .int .u64 (zR 1), .int .u64 (zR 2), .int .u64 (zR 3)])) (h3 : Ret Try.prog 24 #[.agg #[.int .u64 (zP 0), .int .u64 (zP 1), .int .u64 (zP 2), .int .u64 (zP 3)], .agg #[.int .u64 (zR 0), .int .u64 (zR 1), .int .u64 (zR 2), .int .u64 (zR 3)]] (.agg #[.int .u64 (zS 0), .int .u64 (zS 1), .int .u64 (zS 2), .int .u64 (zS 3)])) (h4 : Ret Try.prog 10 #[.agg #[.int .u64 (zS 0), .int .u64 (zS 1), .int .u64 (zS 2), .int .u64 (zS 3)], .agg #[.int .u64 b0, .int .u64 b1, .int .u64 0, .int .u64 0]] (.agg #[.int .u64 a0, .int .u64 a1, .int .u64 0, .int .u64 0])) (k : Int) (hk : 0 ≤ k) (h5 : Ret Try.prog 26 #[.agg #[.int .u64 (zS 0), .int .u64 (zS 1), .int .u64 (zS 2), .int .u64 (zS 3)], .agg #[.int .u64 (zP 0), .int .u64 (zP 1), .int .u64 (zP 2), .int .u64 (zP 3)]] (.int .i64 k)) (h6 : Ret Try.prog 10 #[.agg #[.int .u64 (zP 0), .int .u64 (zP 1), .int .u64 (zP 2), .int .u64 (zP 3)], .agg #[.int .u64 b0, .int .u64 b1, .int .u64 0, .int .u64 0]] (.agg #[.int .u64 a0, .int .u64 a1, .int .u64 0, .int .u64 0])) (h7 : Ret Try.prog 12 #[.agg #[.int .u64 (zP 0), .int .u64 (zP 1), .int .u64 (zP 2), .int .u64 (zP 3)], .agg #[.int .u64 b0, .int .u64 b1, .int .u64 0, .int .u64 0]] (.agg #[.int .u64 0, .int .u64 0, .int .u64 0, .int .u64 0])) (h8 : Ret Try.prog 12 #[.agg #[.int .u64 (zS 0), .int .u64 (zS 1), .int .u64 (zS 2), .int .u64 (zS 3)], .agg #[.int .u64 b0, .int .u64 b1, .int .u64 0, .int .u64 0]] (.agg #[.int .u64 (zR 0), .int .u64 (zR 1), .int .u64 (zR 2), .int .u64 (zR 3)])) (h9 : Ret Try.prog 20 #[.agg #[.int .u64 a0, .int .u64 a1, .int .u64 0, .int .u64 0], .agg #[.int .u64 b0, .int .u64 b1, .int .u64 0, .int .u64 0], .agg #[.int .u64 b0, .int .u64 b1, .int .u64 0, .int .u64 0]] (.agg #[.int .u64 0, .int .u64 0, .int .u64 0, .int .u64 0])) :
    Ret Try.prog 8 #[.agg #[.int .u64 a0, .int .u64 a1], .agg #[.int .u64 b0, .int .u64 b1], .agg #[.int .u64 c0, .int .u64 c1]] (.bool true) := by
  intro w
  have k0 := awake_ret
  have hk' : ¬ k < 0 := by omega
  have Hh1 := Lib.hid h1
  have Hh2 := Lib.hid h2
  have Hh3 := Lib.hid h3
  have Hh4 := Lib.hid h4
  have Hh5 := Lib.hid h5
  have Hh6 := Lib.hid h6
  have Hh7 := Lib.hid h7
  have Hh8 := Lib.hid h8
  have Hh9 := Lib.hid h9
  have Hk0 := Lib.hid k0
  clear h1 h2 h3 h4 h5 h6 h7 h8 h9 k0
  go_enter Try.func8, Try.ntmps8
  have LA := Has.new w 37 #[.int .u64 a0, .int .u64 a1]
  have k1 := LA.cell 0 _ rfl
  have k2 := LA.cell 1 _ rfl
  have LA := LA.alloc (.cells #[.int .u64 b0, .int .u64 b1] 37)
  have LB := Has.new (w.alloc (.cells #[.int .u64 a0, .int .u64 a1] 37)) 37 #[.int .u64 b0, .int .u64 b1]
  simp only [World.size_alloc] at LB
  have k3 := LA.cell 0 _ rfl
  have k4 := LA.cell 1 _ rfl
  have k5 := LB.cell 0 _ rfl
  have k6 := LB.cell 1 _ rfl
  have LA := LA.alloc (.cells #[.int .u64 c0, .int .u64 c1] 37)
  have LB := LB.alloc (.cells #[.int .u64 c0, .int .u64 c1] 37)
  have LC := Has.new ((w.alloc (.cells #[.int .u64 a0, .int .u64 a1] 37)).alloc (.cells #[.int .u64 b0, .int .u64 b1] 37)) 37 #[.int .u64 c0, .int .u64 c1]
  simp only [World.size_alloc] at LC
  have k7 := LA.cell 0 _ rfl
  have k8 := LA.cell 1 _ rfl
  have k9 := LB.cell 0 _ rfl
  have k10 := LB.cell 1 _ rfl
  have k11 := LC.cell 0 _ rfl
  have k12 := LC.cell 1 _ rfl
  have Q := (Below.refl w.heap.size w)
  have Q := Q.alloc Q.size (.cells #[.int .u64 a0, .int .u64 a1] 37)
  have Q := Q.alloc Q.size (.cells #[.int .u64 b0, .int .u64 b1] 37)
  have Q := Q.alloc Q.size (.cells #[.int .u64 c0, .int .u64 c1] 37)
  go_wp2_with fail
  clear k1 k2 k3 k4 k5 k6 k7 k8 k9 k10 k11 k12
  obtain ⟨W1, hW1⟩ : ∃ W1, (((w.alloc (.cells #[.int .u64 a0, .int .u64 a1] 37)).alloc (.cells #[.int .u64 b0, .int .u64 b1] 37)).alloc (.cells #[.int .u64 c0, .int .u64 c1] 37)) = W1 := ⟨_, rfl⟩
  rw [hW1] at LA LB LC Q ⊢
  clear hW1
  refine (Hk0.out _).mono ?_
  rintro e v13 ⟨rfl, q⟩
  have LA := LA.later q
  have LB := LB.later q
  have LC := LC.later q
  have Q := Q.trans (q.mono Q.size)
  clear q
  have k14 := LA.cell 0 _ rfl
  have k15 := LA.cell 1 _ rfl
  have k16 := LB.cell 0 _ rfl
  have k17 := LB.cell 1 _ rfl
  have k18 := LC.cell 0 _ rfl
  have k19 := LC.cell 1 _ rfl
  have LA := LA.alloc (.cells #[.int .u64 a0, .int .u64 a1, .int .u64 0, .int .u64 0] 24)
  have LB := LB.alloc (.cells #[.int .u64 a0, .int .u64 a1, .int .u64 0, .int .u64 0] 24)
  have LC := LC.alloc (.cells #[.int .u64 a0, .int .u64 a1, .int .u64 0, .int .u64 0] 24)
  have LX := Has.new v13 24 #[.int .u64 a0, .int .u64 a1, .int .u64 0, .int .u64 0]
  have k20 := LA.cell 0 _ rfl
  have k21 := LA.cell 1 _ rfl
  have k22 := LB.cell 0 _ rfl
  have k23 := LB.cell 1 _ rfl
  have k24 := LC.cell 0 _ rfl
  have k25 := LC.cell 1 _ rfl
  have k26 := LX.cell 0 _ rfl
  have k27 := LX.cell 1 _ rfl
  have k28 := LX.cell 2 _ rfl
  have k29 := LX.cell 3 _ rfl
  have LA := LA.alloc (.cells #[.int .u64 b0, .int .u64 b1, .int .u64 0, .int .u64 0] 24)
  have LB := LB.alloc (.cells #[.int .u64 b0, .int .u64 b1, .int .u64 0, .int .u64 0] 24)
  have LC := LC.alloc (.cells #[.int .u64 b0, .int .u64 b1, .int .u64 0, .int .u64 0] 24)
  have LX := LX.alloc (.cells #[.int .u64 b0, .int .u64 b1, .int .u64 0, .int .u64 0] 24)
  have LY := Has.new (v13.alloc (.cells #[.int .u64 a0, .int .u64 a1, .int .u64 0, .int .u64 0] 24)) 24 #[.int .u64 b0, .int .u64 b1, .int .u64 0, .int .u64 0]
  simp only [World.size_alloc] at LY
  have k30 := LA.cell 0 _ rfl
  have k31 := LA.cell 1 _ rfl
  have k32 := LB.cell 0 _ rfl
  have k33 := LB.cell 1 _ rfl
  have k34 := LC.cell 0 _ rfl
  have k35 := LC.cell 1 _ rfl
  have k36 := LX.cell 0 _ rfl
  have k37 := LX.cell 1 _ rfl
  have k38 := LX.cell 2 _ rfl
  have k39 := LX.cell 3 _ rfl
  have k40 := LY.cell 0 _ rfl
  have k41 := LY.cell 1 _ rfl
  have k42 := LY.cell 2 _ rfl
  have k43 := LY.cell 3 _ rfl
  have LA := LA.alloc (.cells #[.int .u64 c0, .int .u64 c1, .int .u64 0, .int .u64 0] 24)
  have LB := LB.alloc (.cells #[.int .u64 c0, .int .u64 c1, .int .u64 0, .int .u64 0] 24)
  have LC := LC.alloc (.cells #[.int .u64 c0, .int .u64 c1, .int .u64 0, .int .u64 0] 24)
  have LX := LX.alloc (.cells #[.int .u64 c0, .int .u64 c1, .int .u64 0, .int .u64 0] 24)
  have LY := LY.alloc (.cells #[.int .u64 c0, .int .u64 c1, .int .u64 0, .int .u64 0] 24)
  have LZ := Has.new ((v13.alloc (.cells #[.int .u64 a0, .int .u64 a1, .int .u64 0, .int .u64 0] 24)).alloc (.cells #[.int .u64 b0, .int .u64 b1, .int .u64 0, .int .u64 0] 24)) 24 #[.int .u64 c0, .int .u64 c1, .int .u64 0, .int .u64 0]
  simp only [World.size_alloc] at LZ
  have k44 := LA.cell 0 _ rfl
  have k45 := LA.cell 1 _ rfl
  have k46 := LB.cell 0 _ rfl
  have k47 := LB.cell 1 _ rfl
  have k48 := LC.cell 0 _ rfl
  have k49 := LC.cell 1 _ rfl
  have k50 := LX.cell 0 _ rfl
  have k51 := LX.cell 1 _ rfl
  have k52 := LX.cell 2 _ rfl
  have k53 := LX.cell 3 _ rfl
  have k54 := LY.cell 0 _ rfl
  have k55 := LY.cell 1 _ rfl
  have k56 := LY.cell 2 _ rfl
  have k57 := LY.cell 3 _ rfl
  have k58 := LZ.cell 0 _ rfl
  have k59 := LZ.cell 1 _ rfl
  have k60 := LZ.cell 2 _ rfl
  have k61 := LZ.cell 3 _ rfl
  have Q := Q.alloc Q.size (.cells #[.int .u64 a0, .int .u64 a1, .int .u64 0, .int .u64 0] 24)
  have Q := Q.alloc Q.size (.cells #[.int .u64 b0, .int .u64 b1, .int .u64 0, .int .u64 0] 24)
  have Q := Q.alloc Q.size (.cells #[.int .u64 c0, .int .u64 c1, .int .u64 0, .int .u64 0] 24)
  go_wp2_with fail
  clear k14 k15 k16 k17 k18 k19 k20 k21 k22 k23 k24 k25 k26 k27 k28 k29 k30 k31 k32 k33 k34 k35 k36 k37 k38 k39 k40 k41 k42 k43 k44 k45 k46 k47 k48 k49 k50 k51 k52 k53 k54 k55 k56 k57 k58 k59 k60 k61
  obtain ⟨W2, hW2⟩ : ∃ W2, (((v13.alloc (.cells #[.int .u64 a0, .int .u64 a1, .int .u64 0, .int .u64 0] 24)).alloc (.cells #[.int .u64 b0, .int .u64 b1, .int .u64 0, .int .u64 0] 24)).alloc (.cells #[.int .u64 c0, .int .u64 c1, .int .u64 0, .int .u64 0] 24)) = W2 := ⟨_, rfl⟩
  rw [hW2] at LA LB LC LX LY LZ Q ⊢
  clear hW2
  generalize v13.heap.size = b2 at *
  refine (Hh1.out _).mono ?_
  rintro e v62 ⟨rfl, q⟩
  have LA := LA.later q
  have LB := LB.later q
  have LC := LC.later q
  have LX := LX.later q
  have LY := LY.later q
  have LZ := LZ.later q
  have Q := Q.trans (q.mono Q.size)
  clear q
  have k63 := LA.cell 0 _ rfl
  have k64 := LA.cell 1 _ rfl
  have k65 := LB.cell 0 _ rfl
  have k66 := LB.cell 1 _ rfl
  have k67 := LC.cell 0 _ rfl
  have k68 := LC.cell 1 _ rfl
  have k69 := LX.cell 0 _ rfl
  have k70 := LX.cell 1 _ rfl
  have k71 := LX.cell 2 _ rfl
  have k72 := LX.cell 3 _ rfl
  have k73 := LY.cell 0 _ rfl
  have k74 := LY.cell 1 _ rfl
  have k75 := LY.cell 2 _ rfl
  have k76 := LY.cell 3 _ rfl
  have k77 := LZ.cell 0 _ rfl
  have k78 := LZ.cell 1 _ rfl
  have k79 := LZ.cell 2 _ rfl
  have k80 := LZ.cell 3 _ rfl
  have LA := LA.alloc (.cells #[.int .u64 (zP 0), .int .u64 (zP 1), .int .u64 (zP 2), .int .u64 (zP 3)] 24)
  have LB := LB.alloc (.cells #[.int .u64 (zP 0), .int .u64 (zP 1), .int .u64 (zP 2), .int .u64 (zP 3)] 24)
  have LC := LC.alloc (.cells #[.int .u64 (zP 0), .int .u64 (zP 1), .int .u64 (zP 2), .int .u64 (zP 3)] 24)
  have LX := LX.alloc (.cells #[.int .u64 (zP 0), .int .u64 (zP 1), .int .u64 (zP 2), .int .u64 (zP 3)] 24)
  have LY := LY.alloc (.cells #[.int .u64 (zP 0), .int .u64 (zP 1), .int .u64 (zP 2), .int .u64 (zP 3)] 24)
  have LZ := LZ.alloc (.cells #[.int .u64 (zP 0), .int .u64 (zP 1), .int .u64 (zP 2), .int .u64 (zP 3)] 24)
  have LP := Has.new v62 24 #[.int .u64 (zP 0), .int .u64 (zP 1), .int .u64 (zP 2), .int .u64 (zP 3)]
  have k81 := LA.cell 0 _ rfl
  have k82 := LA.cell 1 _ rfl
  have k83 := LB.cell 0 _ rfl
  have k84 := LB.cell 1 _ rfl
  have k85 := LC.cell 0 _ rfl
  have k86 := LC.cell 1 _ rfl
  have k87 := LX.cell 0 _ rfl
  have k88 := LX.cell 1 _ rfl
  have k89 := LX.cell 2 _ rfl
  have k90 := LX.cell 3 _ rfl
  have k91 := LY.cell 0 _ rfl
  have k92 := LY.cell 1 _ rfl
  have k93 := LY.cell 2 _ rfl
  have k94 := LY.cell 3 _ rfl
  have k95 := LZ.cell 0 _ rfl
  have k96 := LZ.cell 1 _ rfl
  have k97 := LZ.cell 2 _ rfl
  have k98 := LZ.cell 3 _ rfl
  have k99 := LP.cell 0 _ rfl
  have k100 := LP.cell 1 _ rfl
  have k101 := LP.cell 2 _ rfl
  have k102 := LP.cell 3 _ rfl
  have Q := Q.alloc Q.size (.cells #[.int .u64 (zP 0), .int .u64 (zP 1), .int .u64 (zP 2), .int .u64 (zP 3)] 24)
  go_wp2_with fail
  clear k63 k64 k65 k66 k67 k68 k69 k70 k71 k72 k73 k74 k75 k76 k77 k78 k79 k80 k81 k82 k83 k84 k85 k86 k87 k88 k89 k90 k91 k92 k93 k94 k95 k96 k97 k98 k99 k100 k101 k102
  obtain ⟨W3, hW3⟩ : ∃ W3, (v62.alloc (.cells #[.int .u64 (zP 0), .int .u64 (zP 1), .int .u64 (zP 2), .int .u64 (zP 3)] 24)) = W3 := ⟨_, rfl⟩
  rw [hW3] at LA LB LC LX LY LZ LP Q ⊢
  clear hW3
  generalize v62.heap.size = b3 at *
  refine (Hh2.out _).mono ?_
  rintro e v103 ⟨rfl, q⟩
  have LA := LA.later q
  have LB := LB.later q
  have LC := LC.later q
  have LX := LX.later q
  have LY := LY.later q
  have LZ := LZ.later q
  have LP := LP.later q
  have Q := Q.trans (q.mono Q.size)
  clear q
  have k104 := LA.cell 0 _ rfl
  have k105 := LA.cell 1 _ rfl
  have k106 := LB.cell 0 _ rfl
  have k107 := LB.cell 1 _ rfl
  have k108 := LC.cell 0 _ rfl
  have k109 := LC.cell 1 _ rfl
  have k110 := LX.cell 0 _ rfl
  have k111 := LX.cell 1 _ rfl
  have k112 := LX.cell 2 _ rfl
  have k113 := LX.cell 3 _ rfl
  have k114 := LY.cell 0 _ rfl
  have k115 := LY.cell 1 _ rfl
  have k116 := LY.cell 2 _ rfl
  have k117 := LY.cell 3 _ rfl
  have k118 := LZ.cell 0 _ rfl
  have k119 := LZ.cell 1 _ rfl
  have k120 := LZ.cell 2 _ rfl
  have k121 := LZ.cell 3 _ rfl
  have k122 := LP.cell 0 _ rfl
  have k123 := LP.cell 1 _ rfl
  have k124 := LP.cell 2 _ rfl
  have k125 := LP.cell 3 _ rfl
  have LA := LA.alloc (.cells #[.int .u64 (zR 0), .int .u64 (zR 1), .int .u64 (zR 2), .int .u64 (zR 3)] 24)
  have LB := LB.alloc (.cells #[.int .u64 (zR 0), .int .u64 (zR 1), .int .u64 (zR 2), .int .u64 (zR 3)] 24)
  have LC := LC.alloc (.cells #[.int .u64 (zR 0), .int .u64 (zR 1), .int .u64 (zR 2), .int .u64 (zR 3)] 24)
  have LX := LX.alloc (.cells #[.int .u64 (zR 0), .int .u64 (zR 1), .int .u64 (zR 2), .int .u64 (zR 3)] 24)
  have LY := LY.alloc (.cells #[.int .u64 (zR 0), .int .u64 (zR 1), .int .u64 (zR 2), .int .u64 (zR 3)] 24)
  have LZ := LZ.alloc (.cells #[.int .u64 (zR 0), .int .u64 (zR 1), .int .u64 (zR 2), .int .u64 (zR 3)] 24)
  have LP := LP.alloc (.cells #[.int .u64 (zR 0), .int .u64 (zR 1), .int .u64 (zR 2), .int .u64 (zR 3)] 24)
  have LR := Has.new v103 24 #[.int .u64 (zR 0), .int .u64 (zR 1), .int .u64 (zR 2), .int .u64 (zR 3)]
  have k126 := LA.cell 0 _ rfl
  have k127 := LA.cell 1 _ rfl
  have k128 := LB.cell 0 _ rfl
  have k129 := LB.cell 1 _ rfl
  have k130 := LC.cell 0 _ rfl
  have k131 := LC.cell 1 _ rfl
  have k132 := LX.cell 0 _ rfl
  have k133 := LX.cell 1 _ rfl
  have k134 := LX.cell 2 _ rfl
  have k135 := LX.cell 3 _ rfl
  have k136 := LY.cell 0 _ rfl
  have k137 := LY.cell 1 _ rfl
  have k138 := LY.cell 2 _ rfl
  have k139 := LY.cell 3 _ rfl
  have k140 := LZ.cell 0 _ rfl
  have k141 := LZ.cell 1 _ rfl
  have k142 := LZ.cell 2 _ rfl
  have k143 := LZ.cell 3 _ rfl
  have k144 := LP.cell 0 _ rfl
  have k145 := LP.cell 1 _ rfl
  have k146 := LP.cell 2 _ rfl
  have k147 := LP.cell 3 _ rfl
  have k148 := LR.cell 0 _ rfl
  have k149 := LR.cell 1 _ rfl
  have k150 := LR.cell 2 _ rfl
  have k151 := LR.cell 3 _ rfl
  have Q := Q.alloc Q.size (.cells #[.int .u64 (zR 0), .int .u64 (zR 1), .int .u64 (zR 2), .int .u64 (zR 3)] 24)
  go_wp2_with fail
  clear k104 k105 k106 k107 k108 k109 k110 k111 k112 k113 k114 k115 k116 k117 k118 k119 k120 k121 k122 k123 k124 k125 k126 k127 k128 k129 k130 k131 k132 k133 k134 k135 k136 k137 k138 k139 k140 k141 k142 k143 k144 k145 k146 k147 k148 k149 k150 k151
  obtain ⟨W4, hW4⟩ : ∃ W4, (v103.alloc (.cells #[.int .u64 (zR 0), .int .u64 (zR 1), .int .u64 (zR 2), .int .u64 (zR 3)] 24)) = W4 := ⟨_, rfl⟩
  rw [hW4] at LA LB LC LX LY LZ LP LR Q ⊢
  clear hW4
  generalize v103.heap.size = b4 at *
  refine (Hh3.out _).mono ?_
  rintro e v152 ⟨rfl, q⟩
  have LA := LA.later q
  have LB := LB.later q
  have LC := LC.later q
  have LX := LX.later q
  have LY := LY.later q
  have LZ := LZ.later q
  have LP := LP.later q
  have LR := LR.later q
  have Q := Q.trans (q.mono Q.size)
  clear q
  have k153 := LA.cell 0 _ rfl
  have k154 := LA.cell 1 _ rfl
  have k155 := LB.cell 0 _ rfl
  have k156 := LB.cell 1 _ rfl
  have k157 := LC.cell 0 _ rfl
  have k158 := LC.cell 1 _ rfl
  have k159 := LX.cell 0 _ rfl
  have k160 := LX.cell 1 _ rfl
  have k161 := LX.cell 2 _ rfl
  have k162 := LX.cell 3 _ rfl
  have k163 := LY.cell 0 _ rfl
  have k164 := LY.cell 1 _ rfl
  have k165 := LY.cell 2 _ rfl
  have k166 := LY.cell 3 _ rfl
  have k167 := LZ.cell 0 _ rfl
  have k168 := LZ.cell 1 _ rfl
  have k169 := LZ.cell 2 _ rfl
  have k170 := LZ.cell 3 _ rfl
  have k171 := LP.cell 0 _ rfl
  have k172 := LP.cell 1 _ rfl
  have k173 := LP.cell 2 _ rfl
  have k174 := LP.cell 3 _ rfl
  have k175 := LR.cell 0 _ rfl
  have k176 := LR.cell 1 _ rfl
  have k177 := LR.cell 2 _ rfl
  have k178 := LR.cell 3 _ rfl
  have LA := LA.alloc (.cells #[.int .u64 (zS 0), .int .u64 (zS 1), .int .u64 (zS 2), .int .u64 (zS 3)] 24)
  have LB := LB.alloc (.cells #[.int .u64 (zS 0), .int .u64 (zS 1), .int .u64 (zS 2), .int .u64 (zS 3)] 24)
  have LC := LC.alloc (.cells #[.int .u64 (zS 0), .int .u64 (zS 1), .int .u64 (zS 2), .int .u64 (zS 3)] 24)
  have LX := LX.alloc (.cells #[.int .u64 (zS 0), .int .u64 (zS 1), .int .u64 (zS 2), .int .u64 (zS 3)] 24)
  have LY := LY.alloc (.cells #[.int .u64 (zS 0), .int .u64 (zS 1), .int .u64 (zS 2), .int .u64 (zS 3)] 24)
  have LZ := LZ.alloc (.cells #[.int .u64 (zS 0), .int .u64 (zS 1), .int .u64 (zS 2), .int .u64 (zS 3)] 24)
  have LP := LP.alloc (.cells #[.int .u64 (zS 0), .int .u64 (zS 1), .int .u64 (zS 2), .int .u64 (zS 3)] 24)
  have LR := LR.alloc (.cells #[.int .u64 (zS 0), .int .u64 (zS 1), .int .u64 (zS 2), .int .u64 (zS 3)] 24)
  have LS := Has.new v152 24 #[.int .u64 (zS 0), .int .u64 (zS 1), .int .u64 (zS 2), .int .u64 (zS 3)]
  have k179 := LA.cell 0 _ rfl
  have k180 := LA.cell 1 _ rfl
  have k181 := LB.cell 0 _ rfl
  have k182 := LB.cell 1 _ rfl
  have k183 := LC.cell 0 _ rfl
  have k184 := LC.cell 1 _ rfl
  have k185 := LX.cell 0 _ rfl
  have k186 := LX.cell 1 _ rfl
  have k187 := LX.cell 2 _ rfl
  have k188 := LX.cell 3 _ rfl
  have k189 := LY.cell 0 _ rfl
  have k190 := LY.cell 1 _ rfl
  have k191 := LY.cell 2 _ rfl
  have k192 := LY.cell 3 _ rfl
  have k193 := LZ.cell 0 _ rfl
  have k194 := LZ.cell 1 _ rfl
  have k195 := LZ.cell 2 _ rfl
  have k196 := LZ.cell 3 _ rfl
  have k197 := LP.cell 0 _ rfl
  have k198 := LP.cell 1 _ rfl
  have k199 := LP.cell 2 _ rfl
  have k200 := LP.cell 3 _ rfl
  have k201 := LR.cell 0 _ rfl
  have k202 := LR.cell 1 _ rfl
  have k203 := LR.cell 2 _ rfl
  have k204 := LR.cell 3 _ rfl
  have k205 := LS.cell 0 _ rfl
  have k206 := LS.cell 1 _ rfl
  have k207 := LS.cell 2 _ rfl
  have k208 := LS.cell 3 _ rfl
  have Q := Q.alloc Q.size (.cells #[.int .u64 (zS 0), .int .u64 (zS 1), .int .u64 (zS 2), .int .u64 (zS 3)] 24)
  go_wp2_with fail
  clear k153 k154 k155 k156 k157 k158 k159 k160 k161 k162 k163 k164 k165 k166 k167 k168 k169 k170 k171 k172 k173 k174 k175 k176 k177 k178 k179 k180 k181 k182 k183 k184 k185 k186 k187 k188 k189 k190 k191 k192 k193 k194 k195 k196 k197 k198 k199 k200 k201 k202 k203 k204 k205 k206 k207 k208
  obtain ⟨W5, hW5⟩ : ∃ W5, (v152.alloc (.cells #[.int .u64 (zS 0), .int .u64 (zS 1), .int .u64 (zS 2), .int .u64 (zS 3)] 24)) = W5 := ⟨_, rfl⟩
  rw [hW5] at LA LB LC LX LY LZ LP LR LS Q ⊢
  clear hW5
  generalize v152.heap.size = b5 at *
  refine (Hh4.out _).mono ?_
  rintro e v209 ⟨rfl, q⟩
  have LA := LA.later q
  have LB := LB.later q
  have LC := LC.later q
  have LX := LX.later q
  have LY := LY.later q
  have LZ := LZ.later q
  have LP := LP.later q
  have LR := LR.later q
  have LS := LS.later q
  have Q := Q.trans (q.mono Q.size)
  clear q
  have k210 := LA.cell 0 _ rfl
  have k211 := LA.cell 1 _ rfl
  have k212 := LB.cell 0 _ rfl
  have k213 := LB.cell 1 _ rfl
  have k214 := LC.cell 0 _ rfl
  have k215 := LC.cell 1 _ rfl
  have k216 := LX.cell 0 _ rfl
  have k217 := LX.cell 1 _ rfl
  have k218 := LX.cell 2 _ rfl
  have k219 := LX.cell 3 _ rfl
  have k220 := LY.cell 0 _ rfl
  have k221 := LY.cell 1 _ rfl
  have k222 := LY.cell 2 _ rfl
  have k223 := LY.cell 3 _ rfl
  have k224 := LZ.cell 0 _ rfl
  have k225 := LZ.cell 1 _ rfl
  have k226 := LZ.cell 2 _ rfl
  have k227 := LZ.cell 3 _ rfl
  have k228 := LP.cell 0 _ rfl
  have k229 := LP.cell 1 _ rfl
  have k230 := LP.cell 2 _ rfl
  have k231 := LP.cell 3 _ rfl
  have k232 := LR.cell 0 _ rfl
  have k233 := LR.cell 1 _ rfl
  have k234 := LR.cell 2 _ rfl
  have k235 := LR.cell 3 _ rfl
  have k236 := LS.cell 0 _ rfl
  have k237 := LS.cell 1 _ rfl
  have k238 := LS.cell 2 _ rfl
  have k239 := LS.cell 3 _ rfl
  have LA := LA.alloc (.cells #[.int .u64 a0, .int .u64 a1, .int .u64 0, .int .u64 0] 24)
  have LB := LB.alloc (.cells #[.int .u64 a0, .int .u64 a1, .int .u64 0, .int .u64 0] 24)
  have LC := LC.alloc (.cells #[.int .u64 a0, .int .u64 a1, .int .u64 0, .int .u64 0] 24)
  have LX := LX.alloc (.cells #[.int .u64 a0, .int .u64 a1, .int .u64 0, .int .u64 0] 24)
  have LY := LY.alloc (.cells #[.int .u64 a0, .int .u64 a1, .int .u64 0, .int .u64 0] 24)
  have LZ := LZ.alloc (.cells #[.int .u64 a0, .int .u64 a1, .int .u64 0, .int .u64 0] 24)
  have LP := LP.alloc (.cells #[.int .u64 a0, .int .u64 a1, .int .u64 0, .int .u64 0] 24)
  have LR := LR.alloc (.cells #[.int .u64 a0, .int .u64 a1, .int .u64 0, .int .u64 0] 24)
  have LS := LS.alloc (.cells #[.int .u64 a0, .int .u64 a1, .int .u64 0, .int .u64 0] 24)
  have LK := Has.new v209 24 #[.int .u64 a0, .int .u64 a1, .int .u64 0, .int .u64 0]
  have k240 := LA.cell 0 _ rfl
  have k241 := LA.cell 1 _ rfl
  have k242 := LB.cell 0 _ rfl
  have k243 := LB.cell 1 _ rfl
  have k244 := LC.cell 0 _ rfl
  have k245 := LC.cell 1 _ rfl
  have k246 := LX.cell 0 _ rfl
  have k247 := LX.cell 1 _ rfl
  have k248 := LX.cell 2 _ rfl
  have k249 := LX.cell 3 _ rfl
  have k250 := LY.cell 0 _ rfl
  have k251 := LY.cell 1 _ rfl
  have k252 := LY.cell 2 _ rfl
  have k253 := LY.cell 3 _ rfl
  have k254 := LZ.cell 0 _ rfl
  have k255 := LZ.cell 1 _ rfl
  have k256 := LZ.cell 2 _ rfl
  have k257 := LZ.cell 3 _ rfl
  have k258 := LP.cell 0 _ rfl
  have k259 := LP.cell 1 _ rfl
  have k260 := LP.cell 2 _ rfl
  have k261 := LP.cell 3 _ rfl
  have k262 := LR.cell 0 _ rfl
  have k263 := LR.cell 1 _ rfl
  have k264 := LR.cell 2 _ rfl
  have k265 := LR.cell 3 _ rfl
  have k266 := LS.cell 0 _ rfl
  have k267 := LS.cell 1 _ rfl
  have k268 := LS.cell 2 _ rfl
  have k269 := LS.cell 3 _ rfl
  have k270 := LK.cell 0 _ rfl
  have k271 := LK.cell 1 _ rfl
  have k272 := LK.cell 2 _ rfl
  have k273 := LK.cell 3 _ rfl
  have Q := Q.alloc Q.size (.cells #[.int .u64 a0, .int .u64 a1, .int .u64 0, .int .u64 0] 24)
  go_wp2_with fail
  clear k210 k211 k212 k213 k214 k215 k216 k217 k218 k219 k220 k221 k222 k223 k224 k225 k226 k227 k228 k229 k230 k231 k232 k233 k234 k235 k236 k237 k238 k239 k240 k241 k242 k243 k244 k245 k246 k247 k248 k249 k250 k251 k252 k253 k254 k255 k256 k257 k258 k259 k260 k261 k262 k263 k264 k265 k266 k267 k268 k269 k270 k271 k272 k273
  obtain ⟨W6, hW6⟩ : ∃ W6, (v209.alloc (.cells #[.int .u64 a0, .int .u64 a1, .int .u64 0, .int .u64 0] 24)) = W6 := ⟨_, rfl⟩
  rw [hW6] at LA LB LC LX LY LZ LP LR LS LK Q ⊢
  clear hW6
  generalize v209.heap.size = b6 at *
  refine (Hh5.out _).mono ?_
  rintro e v274 ⟨rfl, q⟩
  have LA := LA.later q
  have LB := LB.later q
  have LC := LC.later q
  have LX := LX.later q
  have LY := LY.later q
  have LZ := LZ.later q
  have LP := LP.later q
  have LR := LR.later q
  have LS := LS.later q
  have LK := LK.later q
  have Q := Q.trans (q.mono Q.size)
  clear q
  have k275 := LA.cell 0 _ rfl
  have k276 := LA.cell 1 _ rfl
  have k277 := LB.cell 0 _ rfl
  have k278 := LB.cell 1 _ rfl
  have k279 := LC.cell 0 _ rfl
  have k280 := LC.cell 1 _ rfl
  have k281 := LX.cell 0 _ rfl
  have k282 := LX.cell 1 _ rfl
  have k283 := LX.cell 2 _ rfl
  have k284 := LX.cell 3 _ rfl
  have k285 := LY.cell 0 _ rfl
  have k286 := LY.cell 1 _ rfl
  have k287 := LY.cell 2 _ rfl
  have k288 := LY.cell 3 _ rfl
  have k289 := LZ.cell 0 _ rfl
  have k290 := LZ.cell 1 _ rfl
  have k291 := LZ.cell 2 _ rfl
  have k292 := LZ.cell 3 _ rfl
  have k293 := LP.cell 0 _ rfl
  have k294 := LP.cell 1 _ rfl
  have k295 := LP.cell 2 _ rfl
  have k296 := LP.cell 3 _ rfl
  have k297 := LR.cell 0 _ rfl
  have k298 := LR.cell 1 _ rfl
  have k299 := LR.cell 2 _ rfl
  have k300 := LR.cell 3 _ rfl
  have k301 := LS.cell 0 _ rfl
  have k302 := LS.cell 1 _ rfl
  have k303 := LS.cell 2 _ rfl
  have k304 := LS.cell 3 _ rfl
  have k305 := LK.cell 0 _ rfl
  have k306 := LK.cell 1 _ rfl
  have k307 := LK.cell 2 _ rfl
  have k308 := LK.cell 3 _ rfl
  go_wp2_with fail
  clear k275 k276 k277 k278 k279 k280 k281 k282 k283 k284 k285 k286 k287 k288 k289 k290 k291 k292 k293 k294 k295 k296 k297 k298 k299 k300 k301 k302 k303 k304 k305 k306 k307 k308
  have k309 : ∀ x : Ext v274, x.w.cell? ⟨w.heap.size, 0, none⟩ = some (.int .u64 a0) := fun x => (LA.later x.below).cell 0 _ rfl
  have k310 : ∀ x : Ext v274, x.w.cell? ⟨w.heap.size, 1, none⟩ = some (.int .u64 a1) := fun x => (LA.later x.below).cell 1 _ rfl
  have k311 : ∀ x : Ext v274, x.w.cell? ⟨w.heap.size + 1, 0, none⟩ = some (.int .u64 b0) := fun x => (LB.later x.below).cell 0 _ rfl
  have k312 : ∀ x : Ext v274, x.w.cell? ⟨w.heap.size + 1, 1, none⟩ = some (.int .u64 b1) := fun x => (LB.later x.below).cell 1 _ rfl
  have k313 : ∀ x : Ext v274, x.w.cell? ⟨w.heap.size + 1 + 1, 0, none⟩ = some (.int .u64 c0) := fun x => (LC.later x.below).cell 0 _ rfl
  have k314 : ∀ x : Ext v274, x.w.cell? ⟨w.heap.size + 1 + 1, 1, none⟩ = some (.int .u64 c1) := fun x => (LC.later x.below).cell 1 _ rfl
  have k315 : ∀ x : Ext v274, x.w.cell? ⟨b2, 0, none⟩ = some (.int .u64 a0) := fun x => (LX.later x.below).cell 0 _ rfl
  have k316 : ∀ x : Ext v274, x.w.cell? ⟨b2, 1, none⟩ = some (.int .u64 a1) := fun x => (LX.later x.below).cell 1 _ rfl
  have k317 : ∀ x : Ext v274, x.w.cell? ⟨b2, 2, none⟩ = some (.int .u64 0) := fun x => (LX.later x.below).cell 2 _ rfl
  have k318 : ∀ x : Ext v274, x.w.cell? ⟨b2, 3, none⟩ = some (.int .u64 0) := fun x => (LX.later x.below).cell 3 _ rfl
  have k319 : ∀ x : Ext v274, x.w.cell? ⟨b2 + 1, 0, none⟩ = some (.int .u64 b0) := fun x => (LY.later x.below).cell 0 _ rfl
  have k320 : ∀ x : Ext v274, x.w.cell? ⟨b2 + 1, 1, none⟩ = some (.int .u64 b1) := fun x => (LY.later x.below).cell 1 _ rfl
  have k321 : ∀ x : Ext v274, x.w.cell? ⟨b2 + 1, 2, none⟩ = some (.int .u64 0) := fun x => (LY.later x.below).cell 2 _ rfl
  have k322 : ∀ x : Ext v274, x.w.cell? ⟨b2 + 1, 3, none⟩ = some (.int .u64 0) := fun x => (LY.later x.below).cell 3 _ rfl
  have k323 : ∀ x : Ext v274, x.w.cell? ⟨b2 + 1 + 1, 0, none⟩ = some (.int .u64 c0) := fun x => (LZ.later x.below).cell 0 _ rfl
  have k324 : ∀ x : Ext v274, x.w.cell? ⟨b2 + 1 + 1, 1, none⟩ = some (.int .u64 c1) := fun x => (LZ.later x.below).cell 1 _ rfl
  have k325 : ∀ x : Ext v274, x.w.cell? ⟨b2 + 1 + 1, 2, none⟩ = some (.int .u64 0) := fun x => (LZ.later x.below).cell 2 _ rfl
  have k326 : ∀ x : Ext v274, x.w.cell? ⟨b2 + 1 + 1, 3, none⟩ = some (.int .u64 0) := fun x => (LZ.later x.below).cell 3 _ rfl
  have k327 : ∀ x : Ext v274, x.w.cell? ⟨b3, 0, none⟩ = some (.int .u64 (zP 0)) := fun x => (LP.later x.below).cell 0 _ rfl
  have k328 : ∀ x : Ext v274, x.w.cell? ⟨b3, 1, none⟩ = some (.int .u64 (zP 1)) := fun x => (LP.later x.below).cell 1 _ rfl
  have k329 : ∀ x : Ext v274, x.w.cell? ⟨b3, 2, none⟩ = some (.int .u64 (zP 2)) := fun x => (LP.later x.below).cell 2 _ rfl
  have k330 : ∀ x : Ext v274, x.w.cell? ⟨b3, 3, none⟩ = some (.int .u64 (zP 3)) := fun x => (LP.later x.below).cell 3 _ rfl
  have k331 : ∀ x : Ext v274, x.w.cell? ⟨b4, 0, none⟩ = some (.int .u64 (zR 0)) := fun x => (LR.later x.below).cell 0 _ rfl
  have k332 : ∀ x : Ext v274, x.w.cell? ⟨b4, 1, none⟩ = some (.int .u64 (zR 1)) := fun x => (LR.later x.below).cell 1 _ rfl
  have k333 : ∀ x : Ext v274, x.w.cell? ⟨b4, 2, none⟩ = some (.int .u64 (zR 2)) := fun x => (LR.later x.below).cell 2 _ rfl
  have k334 : ∀ x : Ext v274, x.w.cell? ⟨b4, 3, none⟩ = some (.int .u64 (zR 3)) := fun x => (LR.later x.below).cell 3 _ rfl
  have k335 : ∀ x : Ext v274, x.w.cell? ⟨b5, 0, none⟩ = some (.int .u64 (zS 0)) := fun x => (LS.later x.below).cell 0 _ rfl
  have k336 : ∀ x : Ext v274, x.w.cell? ⟨b5, 1, none⟩ = some (.int .u64 (zS 1)) := fun x => (LS.later x.below).cell 1 _ rfl
  have k337 : ∀ x : Ext v274, x.w.cell? ⟨b5, 2, none⟩ = some (.int .u64 (zS 2)) := fun x => (LS.later x.below).cell 2 _ rfl
  have k338 : ∀ x : Ext v274, x.w.cell? ⟨b5, 3, none⟩ = some (.int .u64 (zS 3)) := fun x => (LS.later x.below).cell 3 _ rfl
  have k339 : ∀ x : Ext v274, x.w.cell? ⟨b6, 0, none⟩ = some (.int .u64 a0) := fun x => (LK.later x.below).cell 0 _ rfl
  have k340 : ∀ x : Ext v274, x.w.cell? ⟨b6, 1, none⟩ = some (.int .u64 a1) := fun x => (LK.later x.below).cell 1 _ rfl
  have k341 : ∀ x : Ext v274, x.w.cell? ⟨b6, 2, none⟩ = some (.int .u64 0) := fun x => (LK.later x.below).cell 2 _ rfl
  have k342 : ∀ x : Ext v274, x.w.cell? ⟨b6, 3, none⟩ = some (.int .u64 0) := fun x => (LK.later x.below).cell 3 _ rfl
  clear LA LB LC LX LY LZ LP LR LS LK
  have HQ := Lib.hid Q
  clear Q
  have hd : decide (k < 0) = false := decide_eq_false (by omega)
  simp only [hd]
  try simp only [List.append]
  refine wp_region_quick (C := Grows v274) (by kernel_rfl) (by kernel_rfl) (by kernel_rfl) (grows_refl v274) ?_
  repeat (go_big_quiet_step (first | (with_reducible exact Ret.at Hh6.out _) | (with_reducible exact Ret.at Hh7.out _) | (with_reducible exact Ret.at Hh8.out _) | (with_reducible exact Ret.at Hh9.out _)))
  refine wpQuiet_nil ?_
  rintro _ ⟨x, rfl⟩
  go_wp2
  go_ret
  exact ⟨rfl, HQ.out.trans (x.below.mono HQ.out.size)⟩
end Go.Proofs.Ytchgpakkmddceaa
