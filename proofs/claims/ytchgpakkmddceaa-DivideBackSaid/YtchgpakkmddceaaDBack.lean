/- Quotients and remainders, and what they come to. -/
import Derived.Test.YtchgpakkmddceaaDivAwake
namespace Go.Proofs.Ytchgpakkmddceaa
open Go Go.RowKit
attribute [local go_sem] Oper.semAt_some Grows wide_fn eq4

set_option maxRecDepth 100000 in
set_option maxHeartbeats 4000000 in
theorem back_zero (zA : Nat → Int) (h1 : Ret Try.prog 10 #[.agg #[.int .u64 (zA 0), .int .u64 (zA 1), .int .u64 (zA 2), .int .u64 (zA 3)], .agg #[.int .u64 0, .int .u64 0, .int .u64 0, .int .u64 0]] (.agg #[.int .u64 0, .int .u64 0, .int .u64 0, .int .u64 0])) (h2 : Ret Try.prog 12 #[.agg #[.int .u64 (zA 0), .int .u64 (zA 1), .int .u64 (zA 2), .int .u64 (zA 3)], .agg #[.int .u64 0, .int .u64 0, .int .u64 0, .int .u64 0]] (.agg #[.int .u64 0, .int .u64 0, .int .u64 0, .int .u64 0])) (h3 : Ret Try.prog 14 #[.agg #[.int .u64 (zA 0), .int .u64 (zA 1), .int .u64 (zA 2), .int .u64 (zA 3)], .agg #[.int .u64 0, .int .u64 0, .int .u64 0, .int .u64 0]] (.agg #[.int .u64 0, .int .u64 0, .int .u64 0, .int .u64 0])) (h4 : Ret Try.prog 16 #[.agg #[.int .u64 (zA 0), .int .u64 (zA 1), .int .u64 (zA 2), .int .u64 (zA 3)], .agg #[.int .u64 0, .int .u64 0, .int .u64 0, .int .u64 0]] (.agg #[.int .u64 0, .int .u64 0, .int .u64 0, .int .u64 0])) :
    Ret Try.prog 4 #[.agg #[.int .u64 (zA 0), .int .u64 (zA 1), .int .u64 (zA 2), .int .u64 (zA 3)], .agg #[.int .u64 0, .int .u64 0, .int .u64 0, .int .u64 0]] (.bool true) := by
  intro w
  have k0 := awake_ret
  have Hh1 := Lib.hid h1
  have Hh2 := Lib.hid h2
  have Hh3 := Lib.hid h3
  have Hh4 := Lib.hid h4
  have Hk0 := Lib.hid k0
  clear h1 h2 h3 h4 k0
  go_enter Try.func4, Try.ntmps4
  have LA := Has.new w 24 #[.int .u64 (zA 0), .int .u64 (zA 1), .int .u64 (zA 2), .int .u64 (zA 3)]
  have k1 := LA.cell 0 _ rfl
  have k2 := LA.cell 1 _ rfl
  have k3 := LA.cell 2 _ rfl
  have k4 := LA.cell 3 _ rfl
  have LA := LA.alloc (.cells #[.int .u64 0, .int .u64 0, .int .u64 0, .int .u64 0] 24)
  have LB := Has.new (w.alloc (.cells #[.int .u64 (zA 0), .int .u64 (zA 1), .int .u64 (zA 2), .int .u64 (zA 3)] 24)) 24 #[.int .u64 0, .int .u64 0, .int .u64 0, .int .u64 0]
  simp only [World.size_alloc] at LB
  have k5 := LA.cell 0 _ rfl
  have k6 := LA.cell 1 _ rfl
  have k7 := LA.cell 2 _ rfl
  have k8 := LA.cell 3 _ rfl
  have k9 := LB.cell 0 _ rfl
  have k10 := LB.cell 1 _ rfl
  have k11 := LB.cell 2 _ rfl
  have k12 := LB.cell 3 _ rfl
  have Q := (Below.refl w.heap.size w)
  have Q := Q.alloc Q.size (.cells #[.int .u64 (zA 0), .int .u64 (zA 1), .int .u64 (zA 2), .int .u64 (zA 3)] 24)
  have Q := Q.alloc Q.size (.cells #[.int .u64 0, .int .u64 0, .int .u64 0, .int .u64 0] 24)
  go_wp2_with fail
  clear k1 k2 k3 k4 k5 k6 k7 k8 k9 k10 k11 k12
  obtain ⟨W1, hW1⟩ : ∃ W1, ((w.alloc (.cells #[.int .u64 (zA 0), .int .u64 (zA 1), .int .u64 (zA 2), .int .u64 (zA 3)] 24)).alloc (.cells #[.int .u64 0, .int .u64 0, .int .u64 0, .int .u64 0] 24)) = W1 := ⟨_, rfl⟩
  rw [hW1] at LA LB Q ⊢
  clear hW1
  refine (Hk0.out _).mono ?_
  rintro e v13 ⟨rfl, q⟩
  have LA := LA.later q
  have LB := LB.later q
  have Q := Q.trans (q.mono Q.size)
  clear q
  have k14 := LA.cell 0 _ rfl
  have k15 := LA.cell 1 _ rfl
  have k16 := LA.cell 2 _ rfl
  have k17 := LA.cell 3 _ rfl
  have k18 := LB.cell 0 _ rfl
  have k19 := LB.cell 1 _ rfl
  have k20 := LB.cell 2 _ rfl
  have k21 := LB.cell 3 _ rfl
  go_wp2_with fail
  clear k14 k15 k16 k17 k18 k19 k20 k21
  refine (Hh1.out _).mono ?_
  rintro e v22 ⟨rfl, q⟩
  have LA := LA.later q
  have LB := LB.later q
  have Q := Q.trans (q.mono Q.size)
  clear q
  have k23 := LA.cell 0 _ rfl
  have k24 := LA.cell 1 _ rfl
  have k25 := LA.cell 2 _ rfl
  have k26 := LA.cell 3 _ rfl
  have k27 := LB.cell 0 _ rfl
  have k28 := LB.cell 1 _ rfl
  have k29 := LB.cell 2 _ rfl
  have k30 := LB.cell 3 _ rfl
  have LA := LA.alloc (.cells #[.int .u64 0, .int .u64 0, .int .u64 0, .int .u64 0] 24)
  have LB := LB.alloc (.cells #[.int .u64 0, .int .u64 0, .int .u64 0, .int .u64 0] 24)
  have LQ := Has.new v22 24 #[.int .u64 0, .int .u64 0, .int .u64 0, .int .u64 0]
  have k31 := LA.cell 0 _ rfl
  have k32 := LA.cell 1 _ rfl
  have k33 := LA.cell 2 _ rfl
  have k34 := LA.cell 3 _ rfl
  have k35 := LB.cell 0 _ rfl
  have k36 := LB.cell 1 _ rfl
  have k37 := LB.cell 2 _ rfl
  have k38 := LB.cell 3 _ rfl
  have k39 := LQ.cell 0 _ rfl
  have k40 := LQ.cell 1 _ rfl
  have k41 := LQ.cell 2 _ rfl
  have k42 := LQ.cell 3 _ rfl
  have Q := Q.alloc Q.size (.cells #[.int .u64 0, .int .u64 0, .int .u64 0, .int .u64 0] 24)
  go_wp2_with fail
  clear k23 k24 k25 k26 k27 k28 k29 k30 k31 k32 k33 k34 k35 k36 k37 k38 k39 k40 k41 k42
  obtain ⟨W2, hW2⟩ : ∃ W2, (v22.alloc (.cells #[.int .u64 0, .int .u64 0, .int .u64 0, .int .u64 0] 24)) = W2 := ⟨_, rfl⟩
  rw [hW2] at LA LB LQ Q ⊢
  clear hW2
  generalize v22.heap.size = b2 at *
  refine (Hh2.out _).mono ?_
  rintro e v43 ⟨rfl, q⟩
  have LA := LA.later q
  have LB := LB.later q
  have LQ := LQ.later q
  have Q := Q.trans (q.mono Q.size)
  clear q
  have k44 := LA.cell 0 _ rfl
  have k45 := LA.cell 1 _ rfl
  have k46 := LA.cell 2 _ rfl
  have k47 := LA.cell 3 _ rfl
  have k48 := LB.cell 0 _ rfl
  have k49 := LB.cell 1 _ rfl
  have k50 := LB.cell 2 _ rfl
  have k51 := LB.cell 3 _ rfl
  have k52 := LQ.cell 0 _ rfl
  have k53 := LQ.cell 1 _ rfl
  have k54 := LQ.cell 2 _ rfl
  have k55 := LQ.cell 3 _ rfl
  have LA := LA.alloc (.cells #[.int .u64 0, .int .u64 0, .int .u64 0, .int .u64 0] 24)
  have LB := LB.alloc (.cells #[.int .u64 0, .int .u64 0, .int .u64 0, .int .u64 0] 24)
  have LQ := LQ.alloc (.cells #[.int .u64 0, .int .u64 0, .int .u64 0, .int .u64 0] 24)
  have LR := Has.new v43 24 #[.int .u64 0, .int .u64 0, .int .u64 0, .int .u64 0]
  have k56 := LA.cell 0 _ rfl
  have k57 := LA.cell 1 _ rfl
  have k58 := LA.cell 2 _ rfl
  have k59 := LA.cell 3 _ rfl
  have k60 := LB.cell 0 _ rfl
  have k61 := LB.cell 1 _ rfl
  have k62 := LB.cell 2 _ rfl
  have k63 := LB.cell 3 _ rfl
  have k64 := LQ.cell 0 _ rfl
  have k65 := LQ.cell 1 _ rfl
  have k66 := LQ.cell 2 _ rfl
  have k67 := LQ.cell 3 _ rfl
  have k68 := LR.cell 0 _ rfl
  have k69 := LR.cell 1 _ rfl
  have k70 := LR.cell 2 _ rfl
  have k71 := LR.cell 3 _ rfl
  have Q := Q.alloc Q.size (.cells #[.int .u64 0, .int .u64 0, .int .u64 0, .int .u64 0] 24)
  go_wp2_with fail
  clear k44 k45 k46 k47 k48 k49 k50 k51 k52 k53 k54 k55 k56 k57 k58 k59 k60 k61 k62 k63 k64 k65 k66 k67 k68 k69 k70 k71
  obtain ⟨W3, hW3⟩ : ∃ W3, (v43.alloc (.cells #[.int .u64 0, .int .u64 0, .int .u64 0, .int .u64 0] 24)) = W3 := ⟨_, rfl⟩
  rw [hW3] at LA LB LQ LR Q ⊢
  clear hW3
  generalize v43.heap.size = b3 at *
  refine (Hh3.out _).mono ?_
  rintro e v72 ⟨rfl, q⟩
  have LA := LA.later q
  have LB := LB.later q
  have LQ := LQ.later q
  have LR := LR.later q
  have Q := Q.trans (q.mono Q.size)
  clear q
  have k73 := LA.cell 0 _ rfl
  have k74 := LA.cell 1 _ rfl
  have k75 := LA.cell 2 _ rfl
  have k76 := LA.cell 3 _ rfl
  have k77 := LB.cell 0 _ rfl
  have k78 := LB.cell 1 _ rfl
  have k79 := LB.cell 2 _ rfl
  have k80 := LB.cell 3 _ rfl
  have k81 := LQ.cell 0 _ rfl
  have k82 := LQ.cell 1 _ rfl
  have k83 := LQ.cell 2 _ rfl
  have k84 := LQ.cell 3 _ rfl
  have k85 := LR.cell 0 _ rfl
  have k86 := LR.cell 1 _ rfl
  have k87 := LR.cell 2 _ rfl
  have k88 := LR.cell 3 _ rfl
  have LA := LA.alloc (.cells #[.int .u64 0, .int .u64 0, .int .u64 0, .int .u64 0] 24)
  have LB := LB.alloc (.cells #[.int .u64 0, .int .u64 0, .int .u64 0, .int .u64 0] 24)
  have LQ := LQ.alloc (.cells #[.int .u64 0, .int .u64 0, .int .u64 0, .int .u64 0] 24)
  have LR := LR.alloc (.cells #[.int .u64 0, .int .u64 0, .int .u64 0, .int .u64 0] 24)
  have LS := Has.new v72 24 #[.int .u64 0, .int .u64 0, .int .u64 0, .int .u64 0]
  have k89 := LA.cell 0 _ rfl
  have k90 := LA.cell 1 _ rfl
  have k91 := LA.cell 2 _ rfl
  have k92 := LA.cell 3 _ rfl
  have k93 := LB.cell 0 _ rfl
  have k94 := LB.cell 1 _ rfl
  have k95 := LB.cell 2 _ rfl
  have k96 := LB.cell 3 _ rfl
  have k97 := LQ.cell 0 _ rfl
  have k98 := LQ.cell 1 _ rfl
  have k99 := LQ.cell 2 _ rfl
  have k100 := LQ.cell 3 _ rfl
  have k101 := LR.cell 0 _ rfl
  have k102 := LR.cell 1 _ rfl
  have k103 := LR.cell 2 _ rfl
  have k104 := LR.cell 3 _ rfl
  have k105 := LS.cell 0 _ rfl
  have k106 := LS.cell 1 _ rfl
  have k107 := LS.cell 2 _ rfl
  have k108 := LS.cell 3 _ rfl
  have Q := Q.alloc Q.size (.cells #[.int .u64 0, .int .u64 0, .int .u64 0, .int .u64 0] 24)
  go_wp2_with fail
  clear k73 k74 k75 k76 k77 k78 k79 k80 k81 k82 k83 k84 k85 k86 k87 k88 k89 k90 k91 k92 k93 k94 k95 k96 k97 k98 k99 k100 k101 k102 k103 k104 k105 k106 k107 k108
  obtain ⟨W4, hW4⟩ : ∃ W4, (v72.alloc (.cells #[.int .u64 0, .int .u64 0, .int .u64 0, .int .u64 0] 24)) = W4 := ⟨_, rfl⟩
  rw [hW4] at LA LB LQ LR LS Q ⊢
  clear hW4
  generalize v72.heap.size = b4 at *
  refine (Hh4.out _).mono ?_
  rintro e v109 ⟨rfl, q⟩
  have LA := LA.later q
  have LB := LB.later q
  have LQ := LQ.later q
  have LR := LR.later q
  have LS := LS.later q
  have Q := Q.trans (q.mono Q.size)
  clear q
  have k110 := LA.cell 0 _ rfl
  have k111 := LA.cell 1 _ rfl
  have k112 := LA.cell 2 _ rfl
  have k113 := LA.cell 3 _ rfl
  have k114 := LB.cell 0 _ rfl
  have k115 := LB.cell 1 _ rfl
  have k116 := LB.cell 2 _ rfl
  have k117 := LB.cell 3 _ rfl
  have k118 := LQ.cell 0 _ rfl
  have k119 := LQ.cell 1 _ rfl
  have k120 := LQ.cell 2 _ rfl
  have k121 := LQ.cell 3 _ rfl
  have k122 := LR.cell 0 _ rfl
  have k123 := LR.cell 1 _ rfl
  have k124 := LR.cell 2 _ rfl
  have k125 := LR.cell 3 _ rfl
  have k126 := LS.cell 0 _ rfl
  have k127 := LS.cell 1 _ rfl
  have k128 := LS.cell 2 _ rfl
  have k129 := LS.cell 3 _ rfl
  have LA := LA.alloc (.cells #[.int .u64 0, .int .u64 0, .int .u64 0, .int .u64 0] 24)
  have LB := LB.alloc (.cells #[.int .u64 0, .int .u64 0, .int .u64 0, .int .u64 0] 24)
  have LQ := LQ.alloc (.cells #[.int .u64 0, .int .u64 0, .int .u64 0, .int .u64 0] 24)
  have LR := LR.alloc (.cells #[.int .u64 0, .int .u64 0, .int .u64 0, .int .u64 0] 24)
  have LS := LS.alloc (.cells #[.int .u64 0, .int .u64 0, .int .u64 0, .int .u64 0] 24)
  have LT := Has.new v109 24 #[.int .u64 0, .int .u64 0, .int .u64 0, .int .u64 0]
  have k130 := LA.cell 0 _ rfl
  have k131 := LA.cell 1 _ rfl
  have k132 := LA.cell 2 _ rfl
  have k133 := LA.cell 3 _ rfl
  have k134 := LB.cell 0 _ rfl
  have k135 := LB.cell 1 _ rfl
  have k136 := LB.cell 2 _ rfl
  have k137 := LB.cell 3 _ rfl
  have k138 := LQ.cell 0 _ rfl
  have k139 := LQ.cell 1 _ rfl
  have k140 := LQ.cell 2 _ rfl
  have k141 := LQ.cell 3 _ rfl
  have k142 := LR.cell 0 _ rfl
  have k143 := LR.cell 1 _ rfl
  have k144 := LR.cell 2 _ rfl
  have k145 := LR.cell 3 _ rfl
  have k146 := LS.cell 0 _ rfl
  have k147 := LS.cell 1 _ rfl
  have k148 := LS.cell 2 _ rfl
  have k149 := LS.cell 3 _ rfl
  have k150 := LT.cell 0 _ rfl
  have k151 := LT.cell 1 _ rfl
  have k152 := LT.cell 2 _ rfl
  have k153 := LT.cell 3 _ rfl
  have LA := LA.alloc (.cells #[.int .u64 0, .int .u64 0, .int .u64 0, .int .u64 0] 24)
  have LB := LB.alloc (.cells #[.int .u64 0, .int .u64 0, .int .u64 0, .int .u64 0] 24)
  have LQ := LQ.alloc (.cells #[.int .u64 0, .int .u64 0, .int .u64 0, .int .u64 0] 24)
  have LR := LR.alloc (.cells #[.int .u64 0, .int .u64 0, .int .u64 0, .int .u64 0] 24)
  have LS := LS.alloc (.cells #[.int .u64 0, .int .u64 0, .int .u64 0, .int .u64 0] 24)
  have LT := LT.alloc (.cells #[.int .u64 0, .int .u64 0, .int .u64 0, .int .u64 0] 24)
  have LN := Has.new (v109.alloc (.cells #[.int .u64 0, .int .u64 0, .int .u64 0, .int .u64 0] 24)) 24 #[.int .u64 0, .int .u64 0, .int .u64 0, .int .u64 0]
  simp only [World.size_alloc] at LN
  have k154 := LA.cell 0 _ rfl
  have k155 := LA.cell 1 _ rfl
  have k156 := LA.cell 2 _ rfl
  have k157 := LA.cell 3 _ rfl
  have k158 := LB.cell 0 _ rfl
  have k159 := LB.cell 1 _ rfl
  have k160 := LB.cell 2 _ rfl
  have k161 := LB.cell 3 _ rfl
  have k162 := LQ.cell 0 _ rfl
  have k163 := LQ.cell 1 _ rfl
  have k164 := LQ.cell 2 _ rfl
  have k165 := LQ.cell 3 _ rfl
  have k166 := LR.cell 0 _ rfl
  have k167 := LR.cell 1 _ rfl
  have k168 := LR.cell 2 _ rfl
  have k169 := LR.cell 3 _ rfl
  have k170 := LS.cell 0 _ rfl
  have k171 := LS.cell 1 _ rfl
  have k172 := LS.cell 2 _ rfl
  have k173 := LS.cell 3 _ rfl
  have k174 := LT.cell 0 _ rfl
  have k175 := LT.cell 1 _ rfl
  have k176 := LT.cell 2 _ rfl
  have k177 := LT.cell 3 _ rfl
  have k178 := LN.cell 0 _ rfl
  have k179 := LN.cell 1 _ rfl
  have k180 := LN.cell 2 _ rfl
  have k181 := LN.cell 3 _ rfl
  have Q := Q.alloc Q.size (.cells #[.int .u64 0, .int .u64 0, .int .u64 0, .int .u64 0] 24)
  have Q := Q.alloc Q.size (.cells #[.int .u64 0, .int .u64 0, .int .u64 0, .int .u64 0] 24)
  go_wp2
  clear k110 k111 k112 k113 k114 k115 k116 k117 k118 k119 k120 k121 k122 k123 k124 k125 k126 k127 k128 k129 k130 k131 k132 k133 k134 k135 k136 k137 k138 k139 k140 k141 k142 k143 k144 k145 k146 k147 k148 k149 k150 k151 k152 k153 k154 k155 k156 k157 k158 k159 k160 k161 k162 k163 k164 k165 k166 k167 k168 k169 k170 k171 k172 k173 k174 k175 k176 k177 k178 k179 k180 k181
  obtain ⟨W5, hW5⟩ : ∃ W5, ((v109.alloc (.cells #[.int .u64 0, .int .u64 0, .int .u64 0, .int .u64 0] 24)).alloc (.cells #[.int .u64 0, .int .u64 0, .int .u64 0, .int .u64 0] 24)) = W5 := ⟨_, rfl⟩
  rw [hW5] at LA LB LQ LR LS LT LN Q ⊢
  clear hW5
  generalize v109.heap.size = b5 at *
  go_ret
  exact ⟨rfl, Q⟩

set_option maxRecDepth 100000 in
set_option maxHeartbeats 4000000 in
theorem back_walk (zA zB zQ zR zS zT zM zN : Nat → Int) (hne : (zB 0 == 0 && zB 1 == 0 && zB 2 == 0 && zB 3 == 0) = false) (h1 : Ret Try.prog 10 #[.agg #[.int .u64 (zA 0), .int .u64 (zA 1), .int .u64 (zA 2), .int .u64 (zA 3)], .agg #[.int .u64 (zB 0), .int .u64 (zB 1), .int .u64 (zB 2), .int .u64 (zB 3)]] (.agg #[.int .u64 (zQ 0), .int .u64 (zQ 1), .int .u64 (zQ 2), .int .u64 (zQ 3)])) (h2 : Ret Try.prog 12 #[.agg #[.int .u64 (zA 0), .int .u64 (zA 1), .int .u64 (zA 2), .int .u64 (zA 3)], .agg #[.int .u64 (zB 0), .int .u64 (zB 1), .int .u64 (zB 2), .int .u64 (zB 3)]] (.agg #[.int .u64 (zR 0), .int .u64 (zR 1), .int .u64 (zR 2), .int .u64 (zR 3)])) (h3 : Ret Try.prog 14 #[.agg #[.int .u64 (zA 0), .int .u64 (zA 1), .int .u64 (zA 2), .int .u64 (zA 3)], .agg #[.int .u64 (zB 0), .int .u64 (zB 1), .int .u64 (zB 2), .int .u64 (zB 3)]] (.agg #[.int .u64 (zS 0), .int .u64 (zS 1), .int .u64 (zS 2), .int .u64 (zS 3)])) (h4 : Ret Try.prog 16 #[.agg #[.int .u64 (zA 0), .int .u64 (zA 1), .int .u64 (zA 2), .int .u64 (zA 3)], .agg #[.int .u64 (zB 0), .int .u64 (zB 1), .int .u64 (zB 2), .int .u64 (zB 3)]] (.agg #[.int .u64 (zT 0), .int .u64 (zT 1), .int .u64 (zT 2), .int .u64 (zT 3)])) (h5 : Ret Try.prog 25 #[.agg #[.int .u64 (zQ 0), .int .u64 (zQ 1), .int .u64 (zQ 2), .int .u64 (zQ 3)], .agg #[.int .u64 (zB 0), .int .u64 (zB 1), .int .u64 (zB 2), .int .u64 (zB 3)]] (.agg #[.int .u64 (zM 0), .int .u64 (zM 1), .int .u64 (zM 2), .int .u64 (zM 3)])) (h6 : Ret Try.prog 24 #[.agg #[.int .u64 (zM 0), .int .u64 (zM 1), .int .u64 (zM 2), .int .u64 (zM 3)], .agg #[.int .u64 (zR 0), .int .u64 (zR 1), .int .u64 (zR 2), .int .u64 (zR 3)]] (.agg #[.int .u64 (zA 0), .int .u64 (zA 1), .int .u64 (zA 2), .int .u64 (zA 3)])) (c1 c2 : Int) (hc1 : c1 < 0) (hc2 : c2 ≤ 0) (h7 : Ret Try.prog 26 #[.agg #[.int .u64 (zR 0), .int .u64 (zR 1), .int .u64 (zR 2), .int .u64 (zR 3)], .agg #[.int .u64 (zB 0), .int .u64 (zB 1), .int .u64 (zB 2), .int .u64 (zB 3)]] (.int .i64 c1)) (h8 : Ret Try.prog 26 #[.agg #[.int .u64 (zQ 0), .int .u64 (zQ 1), .int .u64 (zQ 2), .int .u64 (zQ 3)], .agg #[.int .u64 (zA 0), .int .u64 (zA 1), .int .u64 (zA 2), .int .u64 (zA 3)]] (.int .i64 c2)) (h9 : Ret Try.prog 25 #[.agg #[.int .u64 (zS 0), .int .u64 (zS 1), .int .u64 (zS 2), .int .u64 (zS 3)], .agg #[.int .u64 (zB 0), .int .u64 (zB 1), .int .u64 (zB 2), .int .u64 (zB 3)]] (.agg #[.int .u64 (zN 0), .int .u64 (zN 1), .int .u64 (zN 2), .int .u64 (zN 3)])) (h10 : Ret Try.prog 24 #[.agg #[.int .u64 (zN 0), .int .u64 (zN 1), .int .u64 (zN 2), .int .u64 (zN 3)], .agg #[.int .u64 (zT 0), .int .u64 (zT 1), .int .u64 (zT 2), .int .u64 (zT 3)]] (.agg #[.int .u64 (zA 0), .int .u64 (zA 1), .int .u64 (zA 2), .int .u64 (zA 3)])) (hs : (zT 0 == 0 && zT 1 == 0 && zT 2 == 0 && zT 3 == 0) = true ∨ (zT 0 == 0 && zT 1 == 0 && zT 2 == 0 && zT 3 == 0) = false ∧ (decide (9223372036854775808 ≤ zT 3) == decide (9223372036854775808 ≤ zA 3)) = true) :
    Ret Try.prog 4 #[.agg #[.int .u64 (zA 0), .int .u64 (zA 1), .int .u64 (zA 2), .int .u64 (zA 3)], .agg #[.int .u64 (zB 0), .int .u64 (zB 1), .int .u64 (zB 2), .int .u64 (zB 3)]] (.bool true) := by
  intro w
  have k0 := awake_ret
  have HS := Lib.hid hs
  clear hs
  have HN := Lib.hid hne
  clear hne
  have Hh1 := Lib.hid h1
  have Hh2 := Lib.hid h2
  have Hh3 := Lib.hid h3
  have Hh4 := Lib.hid h4
  have Hh5 := Lib.hid h5
  have Hh6 := Lib.hid h6
  have Hh7 := Lib.hid h7
  have Hh8 := Lib.hid h8
  have Hh9 := Lib.hid h9
  have Hh10 := Lib.hid h10
  have Hk0 := Lib.hid k0
  clear h1 h2 h3 h4 h5 h6 h7 h8 h9 h10 k0
  go_enter Try.func4, Try.ntmps4
  have LA := Has.new w 24 #[.int .u64 (zA 0), .int .u64 (zA 1), .int .u64 (zA 2), .int .u64 (zA 3)]
  have k1 := LA.cell 0 _ rfl
  have k2 := LA.cell 1 _ rfl
  have k3 := LA.cell 2 _ rfl
  have k4 := LA.cell 3 _ rfl
  have LA := LA.alloc (.cells #[.int .u64 (zB 0), .int .u64 (zB 1), .int .u64 (zB 2), .int .u64 (zB 3)] 24)
  have LB := Has.new (w.alloc (.cells #[.int .u64 (zA 0), .int .u64 (zA 1), .int .u64 (zA 2), .int .u64 (zA 3)] 24)) 24 #[.int .u64 (zB 0), .int .u64 (zB 1), .int .u64 (zB 2), .int .u64 (zB 3)]
  simp only [World.size_alloc] at LB
  have k5 := LA.cell 0 _ rfl
  have k6 := LA.cell 1 _ rfl
  have k7 := LA.cell 2 _ rfl
  have k8 := LA.cell 3 _ rfl
  have k9 := LB.cell 0 _ rfl
  have k10 := LB.cell 1 _ rfl
  have k11 := LB.cell 2 _ rfl
  have k12 := LB.cell 3 _ rfl
  have Q := (Below.refl w.heap.size w)
  have Q := Q.alloc Q.size (.cells #[.int .u64 (zA 0), .int .u64 (zA 1), .int .u64 (zA 2), .int .u64 (zA 3)] 24)
  have Q := Q.alloc Q.size (.cells #[.int .u64 (zB 0), .int .u64 (zB 1), .int .u64 (zB 2), .int .u64 (zB 3)] 24)
  go_wp2_with fail
  clear k1 k2 k3 k4 k5 k6 k7 k8 k9 k10 k11 k12
  obtain ⟨W1, hW1⟩ : ∃ W1, ((w.alloc (.cells #[.int .u64 (zA 0), .int .u64 (zA 1), .int .u64 (zA 2), .int .u64 (zA 3)] 24)).alloc (.cells #[.int .u64 (zB 0), .int .u64 (zB 1), .int .u64 (zB 2), .int .u64 (zB 3)] 24)) = W1 := ⟨_, rfl⟩
  rw [hW1] at LA LB Q ⊢
  clear hW1
  refine (Hk0.out _).mono ?_
  rintro e v13 ⟨rfl, q⟩
  have LA := LA.later q
  have LB := LB.later q
  have Q := Q.trans (q.mono Q.size)
  clear q
  have k14 := LA.cell 0 _ rfl
  have k15 := LA.cell 1 _ rfl
  have k16 := LA.cell 2 _ rfl
  have k17 := LA.cell 3 _ rfl
  have k18 := LB.cell 0 _ rfl
  have k19 := LB.cell 1 _ rfl
  have k20 := LB.cell 2 _ rfl
  have k21 := LB.cell 3 _ rfl
  go_wp2_with fail
  clear k14 k15 k16 k17 k18 k19 k20 k21
  refine (Hh1.out _).mono ?_
  rintro e v22 ⟨rfl, q⟩
  have LA := LA.later q
  have LB := LB.later q
  have Q := Q.trans (q.mono Q.size)
  clear q
  have k23 := LA.cell 0 _ rfl
  have k24 := LA.cell 1 _ rfl
  have k25 := LA.cell 2 _ rfl
  have k26 := LA.cell 3 _ rfl
  have k27 := LB.cell 0 _ rfl
  have k28 := LB.cell 1 _ rfl
  have k29 := LB.cell 2 _ rfl
  have k30 := LB.cell 3 _ rfl
  have LA := LA.alloc (.cells #[.int .u64 (zQ 0), .int .u64 (zQ 1), .int .u64 (zQ 2), .int .u64 (zQ 3)] 24)
  have LB := LB.alloc (.cells #[.int .u64 (zQ 0), .int .u64 (zQ 1), .int .u64 (zQ 2), .int .u64 (zQ 3)] 24)
  have LQ := Has.new v22 24 #[.int .u64 (zQ 0), .int .u64 (zQ 1), .int .u64 (zQ 2), .int .u64 (zQ 3)]
  have k31 := LA.cell 0 _ rfl
  have k32 := LA.cell 1 _ rfl
  have k33 := LA.cell 2 _ rfl
  have k34 := LA.cell 3 _ rfl
  have k35 := LB.cell 0 _ rfl
  have k36 := LB.cell 1 _ rfl
  have k37 := LB.cell 2 _ rfl
  have k38 := LB.cell 3 _ rfl
  have k39 := LQ.cell 0 _ rfl
  have k40 := LQ.cell 1 _ rfl
  have k41 := LQ.cell 2 _ rfl
  have k42 := LQ.cell 3 _ rfl
  have Q := Q.alloc Q.size (.cells #[.int .u64 (zQ 0), .int .u64 (zQ 1), .int .u64 (zQ 2), .int .u64 (zQ 3)] 24)
  go_wp2_with fail
  clear k23 k24 k25 k26 k27 k28 k29 k30 k31 k32 k33 k34 k35 k36 k37 k38 k39 k40 k41 k42
  obtain ⟨W2, hW2⟩ : ∃ W2, (v22.alloc (.cells #[.int .u64 (zQ 0), .int .u64 (zQ 1), .int .u64 (zQ 2), .int .u64 (zQ 3)] 24)) = W2 := ⟨_, rfl⟩
  rw [hW2] at LA LB LQ Q ⊢
  clear hW2
  generalize v22.heap.size = b2 at *
  refine (Hh2.out _).mono ?_
  rintro e v43 ⟨rfl, q⟩
  have LA := LA.later q
  have LB := LB.later q
  have LQ := LQ.later q
  have Q := Q.trans (q.mono Q.size)
  clear q
  have k44 := LA.cell 0 _ rfl
  have k45 := LA.cell 1 _ rfl
  have k46 := LA.cell 2 _ rfl
  have k47 := LA.cell 3 _ rfl
  have k48 := LB.cell 0 _ rfl
  have k49 := LB.cell 1 _ rfl
  have k50 := LB.cell 2 _ rfl
  have k51 := LB.cell 3 _ rfl
  have LA := LA.alloc (.cells #[.int .u64 (zR 0), .int .u64 (zR 1), .int .u64 (zR 2), .int .u64 (zR 3)] 24)
  have LB := LB.alloc (.cells #[.int .u64 (zR 0), .int .u64 (zR 1), .int .u64 (zR 2), .int .u64 (zR 3)] 24)
  have LQ := LQ.alloc (.cells #[.int .u64 (zR 0), .int .u64 (zR 1), .int .u64 (zR 2), .int .u64 (zR 3)] 24)
  have LR := Has.new v43 24 #[.int .u64 (zR 0), .int .u64 (zR 1), .int .u64 (zR 2), .int .u64 (zR 3)]
  have k52 := LA.cell 0 _ rfl
  have k53 := LA.cell 1 _ rfl
  have k54 := LA.cell 2 _ rfl
  have k55 := LA.cell 3 _ rfl
  have k56 := LB.cell 0 _ rfl
  have k57 := LB.cell 1 _ rfl
  have k58 := LB.cell 2 _ rfl
  have k59 := LB.cell 3 _ rfl
  have k60 := LR.cell 0 _ rfl
  have k61 := LR.cell 1 _ rfl
  have k62 := LR.cell 2 _ rfl
  have k63 := LR.cell 3 _ rfl
  have Q := Q.alloc Q.size (.cells #[.int .u64 (zR 0), .int .u64 (zR 1), .int .u64 (zR 2), .int .u64 (zR 3)] 24)
  go_wp2_with fail
  clear k44 k45 k46 k47 k48 k49 k50 k51 k52 k53 k54 k55 k56 k57 k58 k59 k60 k61 k62 k63
  obtain ⟨W3, hW3⟩ : ∃ W3, (v43.alloc (.cells #[.int .u64 (zR 0), .int .u64 (zR 1), .int .u64 (zR 2), .int .u64 (zR 3)] 24)) = W3 := ⟨_, rfl⟩
  rw [hW3] at LA LB LQ LR Q ⊢
  clear hW3
  generalize v43.heap.size = b3 at *
  refine (Hh3.out _).mono ?_
  rintro e v64 ⟨rfl, q⟩
  have LA := LA.later q
  have LB := LB.later q
  have LQ := LQ.later q
  have LR := LR.later q
  have Q := Q.trans (q.mono Q.size)
  clear q
  have k65 := LA.cell 0 _ rfl
  have k66 := LA.cell 1 _ rfl
  have k67 := LA.cell 2 _ rfl
  have k68 := LA.cell 3 _ rfl
  have k69 := LB.cell 0 _ rfl
  have k70 := LB.cell 1 _ rfl
  have k71 := LB.cell 2 _ rfl
  have k72 := LB.cell 3 _ rfl
  have LA := LA.alloc (.cells #[.int .u64 (zS 0), .int .u64 (zS 1), .int .u64 (zS 2), .int .u64 (zS 3)] 24)
  have LB := LB.alloc (.cells #[.int .u64 (zS 0), .int .u64 (zS 1), .int .u64 (zS 2), .int .u64 (zS 3)] 24)
  have LQ := LQ.alloc (.cells #[.int .u64 (zS 0), .int .u64 (zS 1), .int .u64 (zS 2), .int .u64 (zS 3)] 24)
  have LR := LR.alloc (.cells #[.int .u64 (zS 0), .int .u64 (zS 1), .int .u64 (zS 2), .int .u64 (zS 3)] 24)
  have LS := Has.new v64 24 #[.int .u64 (zS 0), .int .u64 (zS 1), .int .u64 (zS 2), .int .u64 (zS 3)]
  have k73 := LA.cell 0 _ rfl
  have k74 := LA.cell 1 _ rfl
  have k75 := LA.cell 2 _ rfl
  have k76 := LA.cell 3 _ rfl
  have k77 := LB.cell 0 _ rfl
  have k78 := LB.cell 1 _ rfl
  have k79 := LB.cell 2 _ rfl
  have k80 := LB.cell 3 _ rfl
  have k81 := LS.cell 0 _ rfl
  have k82 := LS.cell 1 _ rfl
  have k83 := LS.cell 2 _ rfl
  have k84 := LS.cell 3 _ rfl
  have Q := Q.alloc Q.size (.cells #[.int .u64 (zS 0), .int .u64 (zS 1), .int .u64 (zS 2), .int .u64 (zS 3)] 24)
  go_wp2_with fail
  clear k65 k66 k67 k68 k69 k70 k71 k72 k73 k74 k75 k76 k77 k78 k79 k80 k81 k82 k83 k84
  obtain ⟨W4, hW4⟩ : ∃ W4, (v64.alloc (.cells #[.int .u64 (zS 0), .int .u64 (zS 1), .int .u64 (zS 2), .int .u64 (zS 3)] 24)) = W4 := ⟨_, rfl⟩
  rw [hW4] at LA LB LQ LR LS Q ⊢
  clear hW4
  generalize v64.heap.size = b4 at *
  refine (Hh4.out _).mono ?_
  rintro e v85 ⟨rfl, q⟩
  have LA := LA.later q
  have LB := LB.later q
  have LQ := LQ.later q
  have LR := LR.later q
  have LS := LS.later q
  have Q := Q.trans (q.mono Q.size)
  clear q
  have hne := HN.out
  rcases HS.out with hs | ⟨hs, ht⟩
  · clear HN HS
    have k86 := LA.cell 0 _ rfl
    have k87 := LA.cell 1 _ rfl
    have k88 := LA.cell 2 _ rfl
    have k89 := LA.cell 3 _ rfl
    have k90 := LB.cell 0 _ rfl
    have k91 := LB.cell 1 _ rfl
    have k92 := LB.cell 2 _ rfl
    have k93 := LB.cell 3 _ rfl
    have k94 := LQ.cell 0 _ rfl
    have k95 := LQ.cell 1 _ rfl
    have k96 := LQ.cell 2 _ rfl
    have k97 := LQ.cell 3 _ rfl
    have k98 := LR.cell 0 _ rfl
    have k99 := LR.cell 1 _ rfl
    have k100 := LR.cell 2 _ rfl
    have k101 := LR.cell 3 _ rfl
    have k102 := LS.cell 0 _ rfl
    have k103 := LS.cell 1 _ rfl
    have k104 := LS.cell 2 _ rfl
    have k105 := LS.cell 3 _ rfl
    have LA := LA.alloc (.cells #[.int .u64 (zT 0), .int .u64 (zT 1), .int .u64 (zT 2), .int .u64 (zT 3)] 24)
    have LB := LB.alloc (.cells #[.int .u64 (zT 0), .int .u64 (zT 1), .int .u64 (zT 2), .int .u64 (zT 3)] 24)
    have LQ := LQ.alloc (.cells #[.int .u64 (zT 0), .int .u64 (zT 1), .int .u64 (zT 2), .int .u64 (zT 3)] 24)
    have LR := LR.alloc (.cells #[.int .u64 (zT 0), .int .u64 (zT 1), .int .u64 (zT 2), .int .u64 (zT 3)] 24)
    have LS := LS.alloc (.cells #[.int .u64 (zT 0), .int .u64 (zT 1), .int .u64 (zT 2), .int .u64 (zT 3)] 24)
    have LT := Has.new v85 24 #[.int .u64 (zT 0), .int .u64 (zT 1), .int .u64 (zT 2), .int .u64 (zT 3)]
    have k106 := LA.cell 0 _ rfl
    have k107 := LA.cell 1 _ rfl
    have k108 := LA.cell 2 _ rfl
    have k109 := LA.cell 3 _ rfl
    have k110 := LB.cell 0 _ rfl
    have k111 := LB.cell 1 _ rfl
    have k112 := LB.cell 2 _ rfl
    have k113 := LB.cell 3 _ rfl
    have k114 := LQ.cell 0 _ rfl
    have k115 := LQ.cell 1 _ rfl
    have k116 := LQ.cell 2 _ rfl
    have k117 := LQ.cell 3 _ rfl
    have k118 := LR.cell 0 _ rfl
    have k119 := LR.cell 1 _ rfl
    have k120 := LR.cell 2 _ rfl
    have k121 := LR.cell 3 _ rfl
    have k122 := LS.cell 0 _ rfl
    have k123 := LS.cell 1 _ rfl
    have k124 := LS.cell 2 _ rfl
    have k125 := LS.cell 3 _ rfl
    have k126 := LT.cell 0 _ rfl
    have k127 := LT.cell 1 _ rfl
    have k128 := LT.cell 2 _ rfl
    have k129 := LT.cell 3 _ rfl
    have LA := LA.alloc (.cells #[.int .u64 0, .int .u64 0, .int .u64 0, .int .u64 0] 24)
    have LB := LB.alloc (.cells #[.int .u64 0, .int .u64 0, .int .u64 0, .int .u64 0] 24)
    have LQ := LQ.alloc (.cells #[.int .u64 0, .int .u64 0, .int .u64 0, .int .u64 0] 24)
    have LR := LR.alloc (.cells #[.int .u64 0, .int .u64 0, .int .u64 0, .int .u64 0] 24)
    have LS := LS.alloc (.cells #[.int .u64 0, .int .u64 0, .int .u64 0, .int .u64 0] 24)
    have LT := LT.alloc (.cells #[.int .u64 0, .int .u64 0, .int .u64 0, .int .u64 0] 24)
    have LN := Has.new (v85.alloc (.cells #[.int .u64 (zT 0), .int .u64 (zT 1), .int .u64 (zT 2), .int .u64 (zT 3)] 24)) 24 #[.int .u64 0, .int .u64 0, .int .u64 0, .int .u64 0]
    simp only [World.size_alloc] at LN
    have k130 := LA.cell 0 _ rfl
    have k131 := LA.cell 1 _ rfl
    have k132 := LA.cell 2 _ rfl
    have k133 := LA.cell 3 _ rfl
    have k134 := LB.cell 0 _ rfl
    have k135 := LB.cell 1 _ rfl
    have k136 := LB.cell 2 _ rfl
    have k137 := LB.cell 3 _ rfl
    have k138 := LQ.cell 0 _ rfl
    have k139 := LQ.cell 1 _ rfl
    have k140 := LQ.cell 2 _ rfl
    have k141 := LQ.cell 3 _ rfl
    have k142 := LR.cell 0 _ rfl
    have k143 := LR.cell 1 _ rfl
    have k144 := LR.cell 2 _ rfl
    have k145 := LR.cell 3 _ rfl
    have k146 := LS.cell 0 _ rfl
    have k147 := LS.cell 1 _ rfl
    have k148 := LS.cell 2 _ rfl
    have k149 := LS.cell 3 _ rfl
    have k150 := LT.cell 0 _ rfl
    have k151 := LT.cell 1 _ rfl
    have k152 := LT.cell 2 _ rfl
    have k153 := LT.cell 3 _ rfl
    have k154 := LN.cell 0 _ rfl
    have k155 := LN.cell 1 _ rfl
    have k156 := LN.cell 2 _ rfl
    have k157 := LN.cell 3 _ rfl
    have Q := Q.alloc Q.size (.cells #[.int .u64 (zT 0), .int .u64 (zT 1), .int .u64 (zT 2), .int .u64 (zT 3)] 24)
    have Q := Q.alloc Q.size (.cells #[.int .u64 0, .int .u64 0, .int .u64 0, .int .u64 0] 24)
    go_wp2_with fail
    clear k86 k87 k88 k89 k90 k91 k92 k93 k94 k95 k96 k97 k98 k99 k100 k101 k102 k103 k104 k105 k106 k107 k108 k109 k110 k111 k112 k113 k114 k115 k116 k117 k118 k119 k120 k121 k122 k123 k124 k125 k126 k127 k128 k129 k130 k131 k132 k133 k134 k135 k136 k137 k138 k139 k140 k141 k142 k143 k144 k145 k146 k147 k148 k149 k150 k151 k152 k153 k154 k155 k156 k157
    obtain ⟨W5, hW5⟩ : ∃ W5, ((v85.alloc (.cells #[.int .u64 (zT 0), .int .u64 (zT 1), .int .u64 (zT 2), .int .u64 (zT 3)] 24)).alloc (.cells #[.int .u64 0, .int .u64 0, .int .u64 0, .int .u64 0] 24)) = W5 := ⟨_, rfl⟩
    rw [hW5] at LA LB LQ LR LS LT LN Q ⊢
    clear hW5
    generalize v85.heap.size = b5 at *
    have k158 : ∀ x : Ext W5, x.w.cell? ⟨w.heap.size, 0, none⟩ = some (.int .u64 (zA 0)) := fun x => (LA.later x.below).cell 0 _ rfl
    have k159 : ∀ x : Ext W5, x.w.cell? ⟨w.heap.size, 1, none⟩ = some (.int .u64 (zA 1)) := fun x => (LA.later x.below).cell 1 _ rfl
    have k160 : ∀ x : Ext W5, x.w.cell? ⟨w.heap.size, 2, none⟩ = some (.int .u64 (zA 2)) := fun x => (LA.later x.below).cell 2 _ rfl
    have k161 : ∀ x : Ext W5, x.w.cell? ⟨w.heap.size, 3, none⟩ = some (.int .u64 (zA 3)) := fun x => (LA.later x.below).cell 3 _ rfl
    have k162 : ∀ x : Ext W5, x.w.cell? ⟨w.heap.size + 1, 0, none⟩ = some (.int .u64 (zB 0)) := fun x => (LB.later x.below).cell 0 _ rfl
    have k163 : ∀ x : Ext W5, x.w.cell? ⟨w.heap.size + 1, 1, none⟩ = some (.int .u64 (zB 1)) := fun x => (LB.later x.below).cell 1 _ rfl
    have k164 : ∀ x : Ext W5, x.w.cell? ⟨w.heap.size + 1, 2, none⟩ = some (.int .u64 (zB 2)) := fun x => (LB.later x.below).cell 2 _ rfl
    have k165 : ∀ x : Ext W5, x.w.cell? ⟨w.heap.size + 1, 3, none⟩ = some (.int .u64 (zB 3)) := fun x => (LB.later x.below).cell 3 _ rfl
    have k166 : ∀ x : Ext W5, x.w.cell? ⟨b2, 0, none⟩ = some (.int .u64 (zQ 0)) := fun x => (LQ.later x.below).cell 0 _ rfl
    have k167 : ∀ x : Ext W5, x.w.cell? ⟨b2, 1, none⟩ = some (.int .u64 (zQ 1)) := fun x => (LQ.later x.below).cell 1 _ rfl
    have k168 : ∀ x : Ext W5, x.w.cell? ⟨b2, 2, none⟩ = some (.int .u64 (zQ 2)) := fun x => (LQ.later x.below).cell 2 _ rfl
    have k169 : ∀ x : Ext W5, x.w.cell? ⟨b2, 3, none⟩ = some (.int .u64 (zQ 3)) := fun x => (LQ.later x.below).cell 3 _ rfl
    have k170 : ∀ x : Ext W5, x.w.cell? ⟨b3, 0, none⟩ = some (.int .u64 (zR 0)) := fun x => (LR.later x.below).cell 0 _ rfl
    have k171 : ∀ x : Ext W5, x.w.cell? ⟨b3, 1, none⟩ = some (.int .u64 (zR 1)) := fun x => (LR.later x.below).cell 1 _ rfl
    have k172 : ∀ x : Ext W5, x.w.cell? ⟨b3, 2, none⟩ = some (.int .u64 (zR 2)) := fun x => (LR.later x.below).cell 2 _ rfl
    have k173 : ∀ x : Ext W5, x.w.cell? ⟨b3, 3, none⟩ = some (.int .u64 (zR 3)) := fun x => (LR.later x.below).cell 3 _ rfl
    have k174 : ∀ x : Ext W5, x.w.cell? ⟨b4, 0, none⟩ = some (.int .u64 (zS 0)) := fun x => (LS.later x.below).cell 0 _ rfl
    have k175 : ∀ x : Ext W5, x.w.cell? ⟨b4, 1, none⟩ = some (.int .u64 (zS 1)) := fun x => (LS.later x.below).cell 1 _ rfl
    have k176 : ∀ x : Ext W5, x.w.cell? ⟨b4, 2, none⟩ = some (.int .u64 (zS 2)) := fun x => (LS.later x.below).cell 2 _ rfl
    have k177 : ∀ x : Ext W5, x.w.cell? ⟨b4, 3, none⟩ = some (.int .u64 (zS 3)) := fun x => (LS.later x.below).cell 3 _ rfl
    have k178 : ∀ x : Ext W5, x.w.cell? ⟨b5, 0, none⟩ = some (.int .u64 (zT 0)) := fun x => (LT.later x.below).cell 0 _ rfl
    have k179 : ∀ x : Ext W5, x.w.cell? ⟨b5, 1, none⟩ = some (.int .u64 (zT 1)) := fun x => (LT.later x.below).cell 1 _ rfl
    have k180 : ∀ x : Ext W5, x.w.cell? ⟨b5, 2, none⟩ = some (.int .u64 (zT 2)) := fun x => (LT.later x.below).cell 2 _ rfl
    have k181 : ∀ x : Ext W5, x.w.cell? ⟨b5, 3, none⟩ = some (.int .u64 (zT 3)) := fun x => (LT.later x.below).cell 3 _ rfl
    have k182 : ∀ x : Ext W5, x.w.cell? ⟨b5 + 1, 0, none⟩ = some (.int .u64 0) := fun x => (LN.later x.below).cell 0 _ rfl
    have k183 : ∀ x : Ext W5, x.w.cell? ⟨b5 + 1, 1, none⟩ = some (.int .u64 0) := fun x => (LN.later x.below).cell 1 _ rfl
    have k184 : ∀ x : Ext W5, x.w.cell? ⟨b5 + 1, 2, none⟩ = some (.int .u64 0) := fun x => (LN.later x.below).cell 2 _ rfl
    have k185 : ∀ x : Ext W5, x.w.cell? ⟨b5 + 1, 3, none⟩ = some (.int .u64 0) := fun x => (LN.later x.below).cell 3 _ rfl
    clear LA LB LQ LR LS LT LN
    have HQ := Lib.hid Q
    clear Q
    try simp only [List.append]
    refine wp_region_quick (C := Grows W5) (by kernel_rfl) (by kernel_rfl) (by kernel_rfl) (grows_refl W5) ?_
    repeat (go_big_quiet_step (first | (with_reducible exact Ret.at Hh5.out _) | (with_reducible exact Ret.at Hh6.out _) | (with_reducible exact Ret.at Hh7.out _) | (with_reducible exact Ret.at Hh8.out _) | (with_reducible exact Ret.at Hh9.out _) | (with_reducible exact Ret.at Hh10.out _)))
    refine wpQuiet_nil ?_
    rintro _ ⟨x, rfl⟩
    go_wp2
    go_ret
    exact ⟨rfl, HQ.out.trans (x.below.mono HQ.out.size)⟩
  · clear HN HS
    have k86 := LA.cell 0 _ rfl
    have k87 := LA.cell 1 _ rfl
    have k88 := LA.cell 2 _ rfl
    have k89 := LA.cell 3 _ rfl
    have k90 := LB.cell 0 _ rfl
    have k91 := LB.cell 1 _ rfl
    have k92 := LB.cell 2 _ rfl
    have k93 := LB.cell 3 _ rfl
    have k94 := LQ.cell 0 _ rfl
    have k95 := LQ.cell 1 _ rfl
    have k96 := LQ.cell 2 _ rfl
    have k97 := LQ.cell 3 _ rfl
    have k98 := LR.cell 0 _ rfl
    have k99 := LR.cell 1 _ rfl
    have k100 := LR.cell 2 _ rfl
    have k101 := LR.cell 3 _ rfl
    have k102 := LS.cell 0 _ rfl
    have k103 := LS.cell 1 _ rfl
    have k104 := LS.cell 2 _ rfl
    have k105 := LS.cell 3 _ rfl
    have LA := LA.alloc (.cells #[.int .u64 (zT 0), .int .u64 (zT 1), .int .u64 (zT 2), .int .u64 (zT 3)] 24)
    have LB := LB.alloc (.cells #[.int .u64 (zT 0), .int .u64 (zT 1), .int .u64 (zT 2), .int .u64 (zT 3)] 24)
    have LQ := LQ.alloc (.cells #[.int .u64 (zT 0), .int .u64 (zT 1), .int .u64 (zT 2), .int .u64 (zT 3)] 24)
    have LR := LR.alloc (.cells #[.int .u64 (zT 0), .int .u64 (zT 1), .int .u64 (zT 2), .int .u64 (zT 3)] 24)
    have LS := LS.alloc (.cells #[.int .u64 (zT 0), .int .u64 (zT 1), .int .u64 (zT 2), .int .u64 (zT 3)] 24)
    have LT := Has.new v85 24 #[.int .u64 (zT 0), .int .u64 (zT 1), .int .u64 (zT 2), .int .u64 (zT 3)]
    have k106 := LA.cell 0 _ rfl
    have k107 := LA.cell 1 _ rfl
    have k108 := LA.cell 2 _ rfl
    have k109 := LA.cell 3 _ rfl
    have k110 := LB.cell 0 _ rfl
    have k111 := LB.cell 1 _ rfl
    have k112 := LB.cell 2 _ rfl
    have k113 := LB.cell 3 _ rfl
    have k114 := LQ.cell 0 _ rfl
    have k115 := LQ.cell 1 _ rfl
    have k116 := LQ.cell 2 _ rfl
    have k117 := LQ.cell 3 _ rfl
    have k118 := LR.cell 0 _ rfl
    have k119 := LR.cell 1 _ rfl
    have k120 := LR.cell 2 _ rfl
    have k121 := LR.cell 3 _ rfl
    have k122 := LS.cell 0 _ rfl
    have k123 := LS.cell 1 _ rfl
    have k124 := LS.cell 2 _ rfl
    have k125 := LS.cell 3 _ rfl
    have k126 := LT.cell 0 _ rfl
    have k127 := LT.cell 1 _ rfl
    have k128 := LT.cell 2 _ rfl
    have k129 := LT.cell 3 _ rfl
    have LA := LA.alloc (.cells #[.int .u64 0, .int .u64 0, .int .u64 0, .int .u64 0] 24)
    have LB := LB.alloc (.cells #[.int .u64 0, .int .u64 0, .int .u64 0, .int .u64 0] 24)
    have LQ := LQ.alloc (.cells #[.int .u64 0, .int .u64 0, .int .u64 0, .int .u64 0] 24)
    have LR := LR.alloc (.cells #[.int .u64 0, .int .u64 0, .int .u64 0, .int .u64 0] 24)
    have LS := LS.alloc (.cells #[.int .u64 0, .int .u64 0, .int .u64 0, .int .u64 0] 24)
    have LT := LT.alloc (.cells #[.int .u64 0, .int .u64 0, .int .u64 0, .int .u64 0] 24)
    have LN := Has.new (v85.alloc (.cells #[.int .u64 (zT 0), .int .u64 (zT 1), .int .u64 (zT 2), .int .u64 (zT 3)] 24)) 24 #[.int .u64 0, .int .u64 0, .int .u64 0, .int .u64 0]
    simp only [World.size_alloc] at LN
    have k130 := LA.cell 0 _ rfl
    have k131 := LA.cell 1 _ rfl
    have k132 := LA.cell 2 _ rfl
    have k133 := LA.cell 3 _ rfl
    have k134 := LB.cell 0 _ rfl
    have k135 := LB.cell 1 _ rfl
    have k136 := LB.cell 2 _ rfl
    have k137 := LB.cell 3 _ rfl
    have k138 := LQ.cell 0 _ rfl
    have k139 := LQ.cell 1 _ rfl
    have k140 := LQ.cell 2 _ rfl
    have k141 := LQ.cell 3 _ rfl
    have k142 := LR.cell 0 _ rfl
    have k143 := LR.cell 1 _ rfl
    have k144 := LR.cell 2 _ rfl
    have k145 := LR.cell 3 _ rfl
    have k146 := LS.cell 0 _ rfl
    have k147 := LS.cell 1 _ rfl
    have k148 := LS.cell 2 _ rfl
    have k149 := LS.cell 3 _ rfl
    have k150 := LT.cell 0 _ rfl
    have k151 := LT.cell 1 _ rfl
    have k152 := LT.cell 2 _ rfl
    have k153 := LT.cell 3 _ rfl
    have k154 := LN.cell 0 _ rfl
    have k155 := LN.cell 1 _ rfl
    have k156 := LN.cell 2 _ rfl
    have k157 := LN.cell 3 _ rfl
    have Q := Q.alloc Q.size (.cells #[.int .u64 (zT 0), .int .u64 (zT 1), .int .u64 (zT 2), .int .u64 (zT 3)] 24)
    have Q := Q.alloc Q.size (.cells #[.int .u64 0, .int .u64 0, .int .u64 0, .int .u64 0] 24)
    go_wp2_with fail
    clear k86 k87 k88 k89 k90 k91 k92 k93 k94 k95 k96 k97 k98 k99 k100 k101 k102 k103 k104 k105 k106 k107 k108 k109 k110 k111 k112 k113 k114 k115 k116 k117 k118 k119 k120 k121 k122 k123 k124 k125 k126 k127 k128 k129 k130 k131 k132 k133 k134 k135 k136 k137 k138 k139 k140 k141 k142 k143 k144 k145 k146 k147 k148 k149 k150 k151 k152 k153 k154 k155 k156 k157
    obtain ⟨W5, hW5⟩ : ∃ W5, ((v85.alloc (.cells #[.int .u64 (zT 0), .int .u64 (zT 1), .int .u64 (zT 2), .int .u64 (zT 3)] 24)).alloc (.cells #[.int .u64 0, .int .u64 0, .int .u64 0, .int .u64 0] 24)) = W5 := ⟨_, rfl⟩
    rw [hW5] at LA LB LQ LR LS LT LN Q ⊢
    clear hW5
    generalize v85.heap.size = b5 at *
    have k158 : ∀ x : Ext W5, x.w.cell? ⟨w.heap.size, 0, none⟩ = some (.int .u64 (zA 0)) := fun x => (LA.later x.below).cell 0 _ rfl
    have k159 : ∀ x : Ext W5, x.w.cell? ⟨w.heap.size, 1, none⟩ = some (.int .u64 (zA 1)) := fun x => (LA.later x.below).cell 1 _ rfl
    have k160 : ∀ x : Ext W5, x.w.cell? ⟨w.heap.size, 2, none⟩ = some (.int .u64 (zA 2)) := fun x => (LA.later x.below).cell 2 _ rfl
    have k161 : ∀ x : Ext W5, x.w.cell? ⟨w.heap.size, 3, none⟩ = some (.int .u64 (zA 3)) := fun x => (LA.later x.below).cell 3 _ rfl
    have k162 : ∀ x : Ext W5, x.w.cell? ⟨w.heap.size + 1, 0, none⟩ = some (.int .u64 (zB 0)) := fun x => (LB.later x.below).cell 0 _ rfl
    have k163 : ∀ x : Ext W5, x.w.cell? ⟨w.heap.size + 1, 1, none⟩ = some (.int .u64 (zB 1)) := fun x => (LB.later x.below).cell 1 _ rfl
    have k164 : ∀ x : Ext W5, x.w.cell? ⟨w.heap.size + 1, 2, none⟩ = some (.int .u64 (zB 2)) := fun x => (LB.later x.below).cell 2 _ rfl
    have k165 : ∀ x : Ext W5, x.w.cell? ⟨w.heap.size + 1, 3, none⟩ = some (.int .u64 (zB 3)) := fun x => (LB.later x.below).cell 3 _ rfl
    have k166 : ∀ x : Ext W5, x.w.cell? ⟨b2, 0, none⟩ = some (.int .u64 (zQ 0)) := fun x => (LQ.later x.below).cell 0 _ rfl
    have k167 : ∀ x : Ext W5, x.w.cell? ⟨b2, 1, none⟩ = some (.int .u64 (zQ 1)) := fun x => (LQ.later x.below).cell 1 _ rfl
    have k168 : ∀ x : Ext W5, x.w.cell? ⟨b2, 2, none⟩ = some (.int .u64 (zQ 2)) := fun x => (LQ.later x.below).cell 2 _ rfl
    have k169 : ∀ x : Ext W5, x.w.cell? ⟨b2, 3, none⟩ = some (.int .u64 (zQ 3)) := fun x => (LQ.later x.below).cell 3 _ rfl
    have k170 : ∀ x : Ext W5, x.w.cell? ⟨b3, 0, none⟩ = some (.int .u64 (zR 0)) := fun x => (LR.later x.below).cell 0 _ rfl
    have k171 : ∀ x : Ext W5, x.w.cell? ⟨b3, 1, none⟩ = some (.int .u64 (zR 1)) := fun x => (LR.later x.below).cell 1 _ rfl
    have k172 : ∀ x : Ext W5, x.w.cell? ⟨b3, 2, none⟩ = some (.int .u64 (zR 2)) := fun x => (LR.later x.below).cell 2 _ rfl
    have k173 : ∀ x : Ext W5, x.w.cell? ⟨b3, 3, none⟩ = some (.int .u64 (zR 3)) := fun x => (LR.later x.below).cell 3 _ rfl
    have k174 : ∀ x : Ext W5, x.w.cell? ⟨b4, 0, none⟩ = some (.int .u64 (zS 0)) := fun x => (LS.later x.below).cell 0 _ rfl
    have k175 : ∀ x : Ext W5, x.w.cell? ⟨b4, 1, none⟩ = some (.int .u64 (zS 1)) := fun x => (LS.later x.below).cell 1 _ rfl
    have k176 : ∀ x : Ext W5, x.w.cell? ⟨b4, 2, none⟩ = some (.int .u64 (zS 2)) := fun x => (LS.later x.below).cell 2 _ rfl
    have k177 : ∀ x : Ext W5, x.w.cell? ⟨b4, 3, none⟩ = some (.int .u64 (zS 3)) := fun x => (LS.later x.below).cell 3 _ rfl
    have k178 : ∀ x : Ext W5, x.w.cell? ⟨b5, 0, none⟩ = some (.int .u64 (zT 0)) := fun x => (LT.later x.below).cell 0 _ rfl
    have k179 : ∀ x : Ext W5, x.w.cell? ⟨b5, 1, none⟩ = some (.int .u64 (zT 1)) := fun x => (LT.later x.below).cell 1 _ rfl
    have k180 : ∀ x : Ext W5, x.w.cell? ⟨b5, 2, none⟩ = some (.int .u64 (zT 2)) := fun x => (LT.later x.below).cell 2 _ rfl
    have k181 : ∀ x : Ext W5, x.w.cell? ⟨b5, 3, none⟩ = some (.int .u64 (zT 3)) := fun x => (LT.later x.below).cell 3 _ rfl
    have k182 : ∀ x : Ext W5, x.w.cell? ⟨b5 + 1, 0, none⟩ = some (.int .u64 0) := fun x => (LN.later x.below).cell 0 _ rfl
    have k183 : ∀ x : Ext W5, x.w.cell? ⟨b5 + 1, 1, none⟩ = some (.int .u64 0) := fun x => (LN.later x.below).cell 1 _ rfl
    have k184 : ∀ x : Ext W5, x.w.cell? ⟨b5 + 1, 2, none⟩ = some (.int .u64 0) := fun x => (LN.later x.below).cell 2 _ rfl
    have k185 : ∀ x : Ext W5, x.w.cell? ⟨b5 + 1, 3, none⟩ = some (.int .u64 0) := fun x => (LN.later x.below).cell 3 _ rfl
    clear LA LB LQ LR LS LT LN
    have HQ := Lib.hid Q
    clear Q
    try simp only [List.append]
    refine wp_region_quick (C := Grows W5) (by kernel_rfl) (by kernel_rfl) (by kernel_rfl) (grows_refl W5) ?_
    repeat (go_big_quiet_step (first | (with_reducible exact Ret.at Hh5.out _) | (with_reducible exact Ret.at Hh6.out _) | (with_reducible exact Ret.at Hh7.out _) | (with_reducible exact Ret.at Hh8.out _) | (with_reducible exact Ret.at Hh9.out _) | (with_reducible exact Ret.at Hh10.out _)))
    refine wpQuiet_nil ?_
    rintro _ ⟨x, rfl⟩
    go_wp2
    go_ret
    exact ⟨rfl, HQ.out.trans (x.below.mono HQ.out.size)⟩
end Go.Proofs.Ytchgpakkmddceaa
