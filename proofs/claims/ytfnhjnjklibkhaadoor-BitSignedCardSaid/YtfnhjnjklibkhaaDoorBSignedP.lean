/- The order of signed words, and shifts with the sign. -/
import Derived.Test.YtfnhjnjklibkhaaDoorBitAwake
namespace Go.Proofs.YtfnhjnjklibkhaaDoor
open Go Go.RowKit
attribute [local go_sem] Oper.semAt_some Grows wide_fn eq4

set_option maxRecDepth 100000 in
set_option maxHeartbeats 4000000 in
theorem signed_pos (zA zB zK zX zM zR zU zV zS zN : Nat → Int) (k n c : Int) (hd : decide (9223372036854775808 ≤ zA 3) = false) (o1 : Ret Tryd.prog 21 #[.int .i64 k] (.agg #[.int .u64 (zK 0), .int .u64 (zK 1), .int .u64 (zK 2), .int .u64 (zK 3)])) (s1 : RetT Tryd.prog 27 #[.agg #[.int .u64 (zK 0), .int .u64 (zK 1), .int .u64 (zK 2), .int .u64 (zK 3)], .agg #[.int .u64 (zA 0), .int .u64 (zA 1), .int .u64 (zA 2), .int .u64 (zA 3)]] (.agg #[.int .u64 (zX 0), .int .u64 (zX 1), .int .u64 (zX 2), .int .u64 (zX 3)])) (n1 : Ret Tryd.prog 17 #[.agg #[.int .u64 0, .int .u64 0, .int .u64 0, .int .u64 0]] (.agg #[.int .u64 (zM 0), .int .u64 (zM 1), .int .u64 (zM 2), .int .u64 (zM 3)])) (h1 : RetT Tryd.prog 25 #[.agg #[.int .u64 (zK 0), .int .u64 (zK 1), .int .u64 (zK 2), .int .u64 (zK 3)], .agg #[.int .u64 (zM 0), .int .u64 (zM 1), .int .u64 (zM 2), .int .u64 (zM 3)]] (.agg #[.int .u64 (zR 0), .int .u64 (zR 1), .int .u64 (zR 2), .int .u64 (zR 3)])) (l1 : Ret Tryd.prog 19 #[.agg #[.int .u64 (zA 0), .int .u64 (zA 1), .int .u64 (zA 2), .int .u64 (zA 3)], .agg #[.int .u64 (zB 0), .int .u64 (zB 1), .int .u64 (zB 2), .int .u64 (zB 3)]] (.bool (decide (c < 0)))) (x1 : Ret Tryd.prog 15 #[.agg #[.int .u64 (zA 0), .int .u64 (zA 1), .int .u64 (zA 2), .int .u64 (zA 3)], .agg #[.int .u64 0, .int .u64 0, .int .u64 0, .int .u64 9223372036854775808]] (.agg #[.int .u64 (zU 0), .int .u64 (zU 1), .int .u64 (zU 2), .int .u64 (zU 3)])) (x2 : Ret Tryd.prog 15 #[.agg #[.int .u64 (zB 0), .int .u64 (zB 1), .int .u64 (zB 2), .int .u64 (zB 3)], .agg #[.int .u64 0, .int .u64 0, .int .u64 0, .int .u64 9223372036854775808]] (.agg #[.int .u64 (zV 0), .int .u64 (zV 1), .int .u64 (zV 2), .int .u64 (zV 3)])) (c1 : Ret Tryd.prog 37 #[.agg #[.int .u64 (zU 0), .int .u64 (zU 1), .int .u64 (zU 2), .int .u64 (zU 3)], .agg #[.int .u64 (zV 0), .int .u64 (zV 1), .int .u64 (zV 2), .int .u64 (zV 3)]] (.int .i64 c)) (o2 : Ret Tryd.prog 21 #[.int .i64 31] (.agg #[.int .u64 31, .int .u64 0, .int .u64 0, .int .u64 0])) (g1 : RetT Tryd.prog 31 #[.agg #[.int .u64 31, .int .u64 0, .int .u64 0, .int .u64 0], .agg #[.int .u64 (zA 0), .int .u64 (zA 1), .int .u64 (zA 2), .int .u64 (zA 3)]] (.agg #[.int .u64 (zA 0), .int .u64 (zA 1), .int .u64 (zA 2), .int .u64 (zA 3)])) (l2 : Ret Tryd.prog 19 #[.agg #[.int .u64 (zA 0), .int .u64 (zA 1), .int .u64 (zA 2), .int .u64 (zA 3)], .agg #[.int .u64 0, .int .u64 0, .int .u64 0, .int .u64 0]] (.bool false)) (p : Ret Tryd.prog 22 #[.int .i64 n, .int .i64 256] (.int .i64 k)) (h2 : RetT Tryd.prog 25 #[.agg #[.int .u64 (zK 0), .int .u64 (zK 1), .int .u64 (zK 2), .int .u64 (zK 3)], .agg #[.int .u64 (zA 0), .int .u64 (zA 1), .int .u64 (zA 2), .int .u64 (zA 3)]] (.agg #[.int .u64 (zX 0), .int .u64 (zX 1), .int .u64 (zX 2), .int .u64 (zX 3)])) :
    RetT Tryd.prog 8 #[.agg #[.int .u64 (zA 0), .int .u64 (zA 1), .int .u64 (zA 2), .int .u64 (zA 3)], .agg #[.int .u64 (zB 0), .int .u64 (zB 1), .int .u64 (zB 2), .int .u64 (zB 3)], .int .i64 n] (.bool true) := by
  intro w HT
  have k0 := awake_ret
  have Ho1 := Lib.hid o1
  have Hs1 := Lib.hid s1
  have Hn1 := Lib.hid n1
  have Hh1 := Lib.hid h1
  have Hl1 := Lib.hid l1
  have Hx1 := Lib.hid x1
  have Hx2 := Lib.hid x2
  have Hc1 := Lib.hid c1
  have Ho2 := Lib.hid o2
  have Hg1 := Lib.hid g1
  have Hl2 := Lib.hid l2
  have Hp := Lib.hid p
  have Hh2 := Lib.hid h2
  have Hk0 := Lib.hid k0
  clear o1 s1 n1 h1 l1 x1 x2 c1 o2 g1 l2 p h2 k0
  go_enter Tryd.func8, Tryd.ntmps8
  have LA := Has.new w 24 #[.int .u64 (zA 0), .int .u64 (zA 1), .int .u64 (zA 2), .int .u64 (zA 3)]
  have k1 := LA.cell 0 _ rfl
  have k2 := LA.cell 1 _ rfl
  have k3 := LA.cell 2 _ rfl
  have k4 := LA.cell 3 _ rfl
  have LA := LA.alloc (.cells #[.int .u64 (zB 0), .int .u64 (zB 1), .int .u64 (zB 2), .int .u64 (zB 3)] 24)
  have LB := Has.new (w.alloc (.cells #[.int .u64 (zA 0), .int .u64 (zA 1), .int .u64 (zA 2), .int .u64 (zA 3)] 24)) 24 #[.int .u64 (zB 0), .int .u64 (zB 1), .int .u64 (zB 2), .int .u64 (zB 3)]
  simp only [World.size_alloc] at LB
  have k5 := LA.cell 0 _ rfl
  have k6 := LA.cell 1 _ rfl
  have k7 := LA.cell 2 _ rfl
  have k8 := LA.cell 3 _ rfl
  have k9 := LB.cell 0 _ rfl
  have k10 := LB.cell 1 _ rfl
  have k11 := LB.cell 2 _ rfl
  have k12 := LB.cell 3 _ rfl
  have Q := (Below.refl w.heap.size w)
  have Q := Q.alloc Q.size (.cells #[.int .u64 (zA 0), .int .u64 (zA 1), .int .u64 (zA 2), .int .u64 (zA 3)] 24)
  have HT := HT.alloc (.cells #[.int .u64 (zA 0), .int .u64 (zA 1), .int .u64 (zA 2), .int .u64 (zA 3)] 24)
  have Q := Q.alloc Q.size (.cells #[.int .u64 (zB 0), .int .u64 (zB 1), .int .u64 (zB 2), .int .u64 (zB 3)] 24)
  have HT := HT.alloc (.cells #[.int .u64 (zB 0), .int .u64 (zB 1), .int .u64 (zB 2), .int .u64 (zB 3)] 24)
  go_wp2_with fail
  clear k1 k2 k3 k4 k5 k6 k7 k8 k9 k10 k11 k12
  obtain ⟨W1, hW1⟩ : ∃ W1, ((w.alloc (.cells #[.int .u64 (zA 0), .int .u64 (zA 1), .int .u64 (zA 2), .int .u64 (zA 3)] 24)).alloc (.cells #[.int .u64 (zB 0), .int .u64 (zB 1), .int .u64 (zB 2), .int .u64 (zB 3)] 24)) = W1 := ⟨_, rfl⟩
  rw [hW1] at LA LB Q HT ⊢
  clear hW1
  refine (Hk0.out _ HT).mono ?_
  rintro e v13 ⟨rfl, q⟩
  have HT := HT.later q
  have LA := LA.later q
  have LB := LB.later q
  have Q := Q.trans (q.mono Q.size)
  clear q
  have k14 := LA.cell 0 _ rfl
  have k15 := LA.cell 1 _ rfl
  have k16 := LA.cell 2 _ rfl
  have k17 := LA.cell 3 _ rfl
  have k18 := LB.cell 0 _ rfl
  have k19 := LB.cell 1 _ rfl
  have k20 := LB.cell 2 _ rfl
  have k21 := LB.cell 3 _ rfl
  have LA := LA.alloc (.cells #[.int .u64 0, .int .u64 0, .int .u64 0, .int .u64 9223372036854775808] 24)
  have LB := LB.alloc (.cells #[.int .u64 0, .int .u64 0, .int .u64 0, .int .u64 9223372036854775808] 24)
  have LT := Has.new v13 24 #[.int .u64 0, .int .u64 0, .int .u64 0, .int .u64 9223372036854775808]
  have k22 := LA.cell 0 _ rfl
  have k23 := LA.cell 1 _ rfl
  have k24 := LA.cell 2 _ rfl
  have k25 := LA.cell 3 _ rfl
  have k26 := LB.cell 0 _ rfl
  have k27 := LB.cell 1 _ rfl
  have k28 := LB.cell 2 _ rfl
  have k29 := LB.cell 3 _ rfl
  have k30 := LT.cell 0 _ rfl
  have k31 := LT.cell 1 _ rfl
  have k32 := LT.cell 2 _ rfl
  have k33 := LT.cell 3 _ rfl
  have Q := Q.alloc Q.size (.cells #[.int .u64 0, .int .u64 0, .int .u64 0, .int .u64 9223372036854775808] 24)
  have HT := HT.alloc (.cells #[.int .u64 0, .int .u64 0, .int .u64 0, .int .u64 9223372036854775808] 24)
  go_wp2_with fail
  clear k14 k15 k16 k17 k18 k19 k20 k21 k22 k23 k24 k25 k26 k27 k28 k29 k30 k31 k32 k33
  obtain ⟨W2, hW2⟩ : ∃ W2, (v13.alloc (.cells #[.int .u64 0, .int .u64 0, .int .u64 0, .int .u64 9223372036854775808] 24)) = W2 := ⟨_, rfl⟩
  rw [hW2] at LA LB LT Q HT ⊢
  clear hW2
  generalize v13.heap.size = b2 at *
  refine (Hp.out _).mono ?_
  rintro e v34 ⟨rfl, q⟩
  have HT := HT.later q
  have LA := LA.later q
  have LB := LB.later q
  have LT := LT.later q
  have Q := Q.trans (q.mono Q.size)
  clear q
  have k35 := LA.cell 0 _ rfl
  have k36 := LA.cell 1 _ rfl
  have k37 := LA.cell 2 _ rfl
  have k38 := LA.cell 3 _ rfl
  have k39 := LB.cell 0 _ rfl
  have k40 := LB.cell 1 _ rfl
  have k41 := LB.cell 2 _ rfl
  have k42 := LB.cell 3 _ rfl
  have k43 := LT.cell 0 _ rfl
  have k44 := LT.cell 1 _ rfl
  have k45 := LT.cell 2 _ rfl
  have k46 := LT.cell 3 _ rfl
  go_wp2_with fail
  clear k35 k36 k37 k38 k39 k40 k41 k42 k43 k44 k45 k46
  refine (Ho1.out _).mono ?_
  rintro e v47 ⟨rfl, q⟩
  have HT := HT.later q
  have LA := LA.later q
  have LB := LB.later q
  have LT := LT.later q
  have Q := Q.trans (q.mono Q.size)
  clear q
  have k48 := LA.cell 0 _ rfl
  have k49 := LA.cell 1 _ rfl
  have k50 := LA.cell 2 _ rfl
  have k51 := LA.cell 3 _ rfl
  have k52 := LB.cell 0 _ rfl
  have k53 := LB.cell 1 _ rfl
  have k54 := LB.cell 2 _ rfl
  have k55 := LB.cell 3 _ rfl
  have k56 := LT.cell 0 _ rfl
  have k57 := LT.cell 1 _ rfl
  have k58 := LT.cell 2 _ rfl
  have k59 := LT.cell 3 _ rfl
  have LA := LA.alloc (.cells #[.int .u64 (zK 0), .int .u64 (zK 1), .int .u64 (zK 2), .int .u64 (zK 3)] 24)
  have LB := LB.alloc (.cells #[.int .u64 (zK 0), .int .u64 (zK 1), .int .u64 (zK 2), .int .u64 (zK 3)] 24)
  have LT := LT.alloc (.cells #[.int .u64 (zK 0), .int .u64 (zK 1), .int .u64 (zK 2), .int .u64 (zK 3)] 24)
  have LK := Has.new v47 24 #[.int .u64 (zK 0), .int .u64 (zK 1), .int .u64 (zK 2), .int .u64 (zK 3)]
  have k60 := LA.cell 0 _ rfl
  have k61 := LA.cell 1 _ rfl
  have k62 := LA.cell 2 _ rfl
  have k63 := LA.cell 3 _ rfl
  have k64 := LB.cell 0 _ rfl
  have k65 := LB.cell 1 _ rfl
  have k66 := LB.cell 2 _ rfl
  have k67 := LB.cell 3 _ rfl
  have k68 := LT.cell 0 _ rfl
  have k69 := LT.cell 1 _ rfl
  have k70 := LT.cell 2 _ rfl
  have k71 := LT.cell 3 _ rfl
  have k72 := LK.cell 0 _ rfl
  have k73 := LK.cell 1 _ rfl
  have k74 := LK.cell 2 _ rfl
  have k75 := LK.cell 3 _ rfl
  have Q := Q.alloc Q.size (.cells #[.int .u64 (zK 0), .int .u64 (zK 1), .int .u64 (zK 2), .int .u64 (zK 3)] 24)
  have HT := HT.alloc (.cells #[.int .u64 (zK 0), .int .u64 (zK 1), .int .u64 (zK 2), .int .u64 (zK 3)] 24)
  go_wp2_with fail
  clear k48 k49 k50 k51 k52 k53 k54 k55 k56 k57 k58 k59 k60 k61 k62 k63 k64 k65 k66 k67 k68 k69 k70 k71 k72 k73 k74 k75
  obtain ⟨W3, hW3⟩ : ∃ W3, (v47.alloc (.cells #[.int .u64 (zK 0), .int .u64 (zK 1), .int .u64 (zK 2), .int .u64 (zK 3)] 24)) = W3 := ⟨_, rfl⟩
  rw [hW3] at LA LB LT LK Q HT ⊢
  clear hW3
  generalize v47.heap.size = b3 at *
  refine (Hs1.out _ HT).mono ?_
  rintro e v76 ⟨rfl, q⟩
  have HT := HT.later q
  have LA := LA.later q
  have LB := LB.later q
  have LT := LT.later q
  have LK := LK.later q
  have Q := Q.trans (q.mono Q.size)
  clear q
  have k77 := LA.cell 0 _ rfl
  have k78 := LA.cell 1 _ rfl
  have k79 := LA.cell 2 _ rfl
  have k80 := LA.cell 3 _ rfl
  have k81 := LB.cell 0 _ rfl
  have k82 := LB.cell 1 _ rfl
  have k83 := LB.cell 2 _ rfl
  have k84 := LB.cell 3 _ rfl
  have k85 := LT.cell 0 _ rfl
  have k86 := LT.cell 1 _ rfl
  have k87 := LT.cell 2 _ rfl
  have k88 := LT.cell 3 _ rfl
  have k89 := LK.cell 0 _ rfl
  have k90 := LK.cell 1 _ rfl
  have k91 := LK.cell 2 _ rfl
  have k92 := LK.cell 3 _ rfl
  have LA := LA.alloc (.cells #[.int .u64 (zX 0), .int .u64 (zX 1), .int .u64 (zX 2), .int .u64 (zX 3)] 24)
  have LB := LB.alloc (.cells #[.int .u64 (zX 0), .int .u64 (zX 1), .int .u64 (zX 2), .int .u64 (zX 3)] 24)
  have LT := LT.alloc (.cells #[.int .u64 (zX 0), .int .u64 (zX 1), .int .u64 (zX 2), .int .u64 (zX 3)] 24)
  have LK := LK.alloc (.cells #[.int .u64 (zX 0), .int .u64 (zX 1), .int .u64 (zX 2), .int .u64 (zX 3)] 24)
  have LX := Has.new v76 24 #[.int .u64 (zX 0), .int .u64 (zX 1), .int .u64 (zX 2), .int .u64 (zX 3)]
  have k93 := LA.cell 0 _ rfl
  have k94 := LA.cell 1 _ rfl
  have k95 := LA.cell 2 _ rfl
  have k96 := LA.cell 3 _ rfl
  have k97 := LB.cell 0 _ rfl
  have k98 := LB.cell 1 _ rfl
  have k99 := LB.cell 2 _ rfl
  have k100 := LB.cell 3 _ rfl
  have k101 := LT.cell 0 _ rfl
  have k102 := LT.cell 1 _ rfl
  have k103 := LT.cell 2 _ rfl
  have k104 := LT.cell 3 _ rfl
  have k105 := LK.cell 0 _ rfl
  have k106 := LK.cell 1 _ rfl
  have k107 := LK.cell 2 _ rfl
  have k108 := LK.cell 3 _ rfl
  have k109 := LX.cell 0 _ rfl
  have k110 := LX.cell 1 _ rfl
  have k111 := LX.cell 2 _ rfl
  have k112 := LX.cell 3 _ rfl
  have Q := Q.alloc Q.size (.cells #[.int .u64 (zX 0), .int .u64 (zX 1), .int .u64 (zX 2), .int .u64 (zX 3)] 24)
  have HT := HT.alloc (.cells #[.int .u64 (zX 0), .int .u64 (zX 1), .int .u64 (zX 2), .int .u64 (zX 3)] 24)
  go_wp2_with fail
  clear k77 k78 k79 k80 k81 k82 k83 k84 k85 k86 k87 k88 k89 k90 k91 k92 k93 k94 k95 k96 k97 k98 k99 k100 k101 k102 k103 k104 k105 k106 k107 k108 k109 k110 k111 k112
  obtain ⟨W4, hW4⟩ : ∃ W4, (v76.alloc (.cells #[.int .u64 (zX 0), .int .u64 (zX 1), .int .u64 (zX 2), .int .u64 (zX 3)] 24)) = W4 := ⟨_, rfl⟩
  rw [hW4] at LA LB LT LK LX Q HT ⊢
  clear hW4
  generalize v76.heap.size = b4 at *
  refine wp_region_ghost [some (.agg #[.int .u64 (zK 0), .int .u64 (zK 1), .int .u64 (zK 2), .int .u64 (zK 3)]), some (.agg #[.int .u64 0, .int .u64 0, .int .u64 0, .int .u64 0]), some (.agg #[.int .u64 (zM 0), .int .u64 (zM 1), .int .u64 (zM 2), .int .u64 (zM 3)]), some (.agg #[.int .u64 (zR 0), .int .u64 (zR 1), .int .u64 (zR 2), .int .u64 (zR 3)]), none, none] [[], [], [1], [0, 1, 2], [], [0, 1, 2, 3, 4]] (fun f g w' => Below W4.heap.size W4 w' ∧ (f 4 = true → ∃ B, g 4 = .pointer (some ⟨B, 0, none⟩) ∧ W4.heap.size ≤ B ∧ Has w' B 24 (cellsIf (f 5) #[.int .u64 (zR 0), .int .u64 (zR 1), .int .u64 (zR 2), .int .u64 (zR 3)] #[.int .u64 0, .int .u64 0, .int .u64 0, .int .u64 0])))
    (by kernel_rfl) (by kernel_rfl) (by kernel_rfl) ?_ ?_ ?_ ?_
  · rintro f g wa wb ⟨h1, h2⟩ hb
    exact ⟨h1.trans (hb.mono h1.size), fun h => let ⟨B, e, hB, hL⟩ := h2 h; ⟨B, e, hB, hL.later hb⟩⟩
  · intro f f' g g' wa h
    have ha := h 4 rfl
    have hs := h 5 rfl
    simp only [ha.1, ha.2, hs.1]
    exact id
  · exact ⟨(Below.refl _ _).drew, by simp⟩
  rintro f g y113 ⟨h1, h2⟩ Dn
  have LA := LA.later h1
  have LB := LB.later h1
  have LT := LT.later h1
  have LK := LK.later h1
  have LX := LX.later h1
  have HT := HT.later h1
  have k114 := LA.cell 0 _ rfl
  have k115 := LA.cell 1 _ rfl
  have k116 := LA.cell 2 _ rfl
  have k117 := LA.cell 3 _ rfl
  have k118 := LB.cell 0 _ rfl
  have k119 := LB.cell 1 _ rfl
  have k120 := LB.cell 2 _ rfl
  have k121 := LB.cell 3 _ rfl
  have k122 := LT.cell 0 _ rfl
  have k123 := LT.cell 1 _ rfl
  have k124 := LT.cell 2 _ rfl
  have k125 := LT.cell 3 _ rfl
  have k126 := LK.cell 0 _ rfl
  have k127 := LK.cell 1 _ rfl
  have k128 := LK.cell 2 _ rfl
  have k129 := LK.cell 3 _ rfl
  have k130 := LX.cell 0 _ rfl
  have k131 := LX.cell 1 _ rfl
  have k132 := LX.cell 2 _ rfl
  have k133 := LX.cell 3 _ rfl
  refine GW.known _ rfl (fun hd hf => ?_) ?_
  · go_wp2
    exact ⟨rfl, rfl, Below.refl _ _⟩
  simp only [Act.put, List.setIfInBounds_toArray, List.set_cons_succ, List.set_cons_zero]
  refine GW.known _ rfl (fun hd hf => ?_) ?_
  · go_wp2
    exact ⟨rfl, rfl, Below.refl _ _⟩
  simp only [Act.put, List.setIfInBounds_toArray, List.set_cons_succ, List.set_cons_zero]
  refine GW.known _ rfl (fun hd hf => ?_) ?_
  · go_wp2_with fail
    refine (Hn1.out _).mono ?_
    rintro e u ⟨rfl, hb⟩
    go_wp2
    exact ⟨rfl, rfl, hb⟩
  simp only [Act.put, List.setIfInBounds_toArray, List.set_cons_succ, List.set_cons_zero]
  refine GW.known _ rfl (fun hd hf => ?_) ?_
  · go_wp2_with fail
    refine (Hh1.out _ HT).mono ?_
    rintro e u ⟨rfl, hb⟩
    go_wp2
    exact ⟨rfl, rfl, hb⟩
  simp only [Act.put, List.setIfInBounds_toArray, List.set_cons_succ, List.set_cons_zero]
  refine GW.open rfl (fun hd hf => ?_) ?_
  · have fs : f 5 = false := by
      cases h : f 5 with
      | false => rfl
      | true => have := Dn 5 h 4 (by decide); rw [hf] at this; cases this
    have fu : upd f 4 true 5 = false := (upd_ne f true (show (5 : Nat) ≠ 4 by decide)).trans fs
    go_wp2
    refine ⟨rfl, h1.alloc h1.size _, fun _ => ⟨_, rfl, h1.size, ?_⟩⟩
    show Has _ _ 24 (cellsIf (upd f 4 true 5) #[.int .u64 (zR 0), .int .u64 (zR 1), .int .u64 (zR 2), .int .u64 (zR 3)] #[.int .u64 0, .int .u64 0, .int .u64 0, .int .u64 0])
    rw [fu, cellsIf_false]
    exact Has.new _ _ _
  simp only [Act.put, List.setIfInBounds_toArray, List.set_cons_succ, List.set_cons_zero]
  refine GW.open rfl (fun hd hf => ?_) ?_
  · obtain ⟨B, eB, hB, LB⟩ := h2 (hd 4 (by decide))
    rw [hf, cellsIf_false] at LB
    rw [eB]
    have c0 := LB.cell 0 _ rfl
    have z0 := LB.frozen 0
    have c1 := LB.cell 1 _ rfl
    have z1 := LB.frozen 1
    have c2 := LB.cell 2 _ rfl
    have z2 := LB.frozen 2
    have c3 := LB.cell 3 _ rfl
    have z3 := LB.frozen 3
    go_wp2
    refine ⟨rfl, ((((h1.setCell (p := ⟨B, 0, none⟩) hB (.int .u64 (zR 0))).setCell (p := ⟨B, 1, none⟩) hB (.int .u64 (zR 1))).setCell (p := ⟨B, 2, none⟩) hB (.int .u64 (zR 2))).setCell (p := ⟨B, 3, none⟩) hB (.int .u64 (zR 3))), fun _ => ⟨B, eB, hB, ?_⟩⟩
    show Has _ B 24 (cellsIf (upd f 5 true 5) #[.int .u64 (zR 0), .int .u64 (zR 1), .int .u64 (zR 2), .int .u64 (zR 3)] #[.int .u64 0, .int .u64 0, .int .u64 0, .int .u64 0])
    rw [upd_self, cellsIf_true]
    exact ((((LB.set 0 (.int .u64 (zR 0))).set 1 (.int .u64 (zR 1))).set 2 (.int .u64 (zR 2))).set 3 (.int .u64 (zR 3)))
  simp only [Act.put, List.setIfInBounds_toArray, List.set_cons_succ, List.set_cons_zero]
  refine GW.nil (fun hall => ?_)
  obtain ⟨b113, eB, hB, LR⟩ := h2 (hall 4 (by omega))
  rw [hall 5 (by omega), cellsIf_true] at LR
  have Q := Q.trans (h1.mono Q.size)
  clear h2 Dn hall k114 k115 k116 k117 k118 k119 k120 k121 k122 k123 k124 k125 k126 k127 k128 k129 k130 k131 k132 k133
  rw [eB]
  clear eB hB h1
  have k134 := LA.cell 0 _ rfl
  have k135 := LA.cell 1 _ rfl
  have k136 := LA.cell 2 _ rfl
  have k137 := LA.cell 3 _ rfl
  have k138 := LB.cell 0 _ rfl
  have k139 := LB.cell 1 _ rfl
  have k140 := LB.cell 2 _ rfl
  have k141 := LB.cell 3 _ rfl
  have k142 := LT.cell 0 _ rfl
  have k143 := LT.cell 1 _ rfl
  have k144 := LT.cell 2 _ rfl
  have k145 := LT.cell 3 _ rfl
  have k146 := LK.cell 0 _ rfl
  have k147 := LK.cell 1 _ rfl
  have k148 := LK.cell 2 _ rfl
  have k149 := LK.cell 3 _ rfl
  have k150 := LX.cell 0 _ rfl
  have k151 := LX.cell 1 _ rfl
  have k152 := LX.cell 2 _ rfl
  have k153 := LX.cell 3 _ rfl
  have k154 := LR.cell 0 _ rfl
  have k155 := LR.cell 1 _ rfl
  have k156 := LR.cell 2 _ rfl
  have k157 := LR.cell 3 _ rfl
  go_wp2_with fail
  clear k134 k135 k136 k137 k138 k139 k140 k141 k142 k143 k144 k145 k146 k147 k148 k149 k150 k151 k152 k153 k154 k155 k156 k157
  have k158 : ∀ x : Ext y113, x.w.cell? ⟨w.heap.size, 0, none⟩ = some (.int .u64 (zA 0)) := fun x => (LA.later x.below).cell 0 _ rfl
  have k159 : ∀ x : Ext y113, x.w.cell? ⟨w.heap.size, 1, none⟩ = some (.int .u64 (zA 1)) := fun x => (LA.later x.below).cell 1 _ rfl
  have k160 : ∀ x : Ext y113, x.w.cell? ⟨w.heap.size, 2, none⟩ = some (.int .u64 (zA 2)) := fun x => (LA.later x.below).cell 2 _ rfl
  have k161 : ∀ x : Ext y113, x.w.cell? ⟨w.heap.size, 3, none⟩ = some (.int .u64 (zA 3)) := fun x => (LA.later x.below).cell 3 _ rfl
  have k162 : ∀ x : Ext y113, x.w.cell? ⟨w.heap.size + 1, 0, none⟩ = some (.int .u64 (zB 0)) := fun x => (LB.later x.below).cell 0 _ rfl
  have k163 : ∀ x : Ext y113, x.w.cell? ⟨w.heap.size + 1, 1, none⟩ = some (.int .u64 (zB 1)) := fun x => (LB.later x.below).cell 1 _ rfl
  have k164 : ∀ x : Ext y113, x.w.cell? ⟨w.heap.size + 1, 2, none⟩ = some (.int .u64 (zB 2)) := fun x => (LB.later x.below).cell 2 _ rfl
  have k165 : ∀ x : Ext y113, x.w.cell? ⟨w.heap.size + 1, 3, none⟩ = some (.int .u64 (zB 3)) := fun x => (LB.later x.below).cell 3 _ rfl
  have k166 : ∀ x : Ext y113, x.w.cell? ⟨b2, 0, none⟩ = some (.int .u64 0) := fun x => (LT.later x.below).cell 0 _ rfl
  have k167 : ∀ x : Ext y113, x.w.cell? ⟨b2, 1, none⟩ = some (.int .u64 0) := fun x => (LT.later x.below).cell 1 _ rfl
  have k168 : ∀ x : Ext y113, x.w.cell? ⟨b2, 2, none⟩ = some (.int .u64 0) := fun x => (LT.later x.below).cell 2 _ rfl
  have k169 : ∀ x : Ext y113, x.w.cell? ⟨b2, 3, none⟩ = some (.int .u64 9223372036854775808) := fun x => (LT.later x.below).cell 3 _ rfl
  have k170 : ∀ x : Ext y113, x.w.cell? ⟨b3, 0, none⟩ = some (.int .u64 (zK 0)) := fun x => (LK.later x.below).cell 0 _ rfl
  have k171 : ∀ x : Ext y113, x.w.cell? ⟨b3, 1, none⟩ = some (.int .u64 (zK 1)) := fun x => (LK.later x.below).cell 1 _ rfl
  have k172 : ∀ x : Ext y113, x.w.cell? ⟨b3, 2, none⟩ = some (.int .u64 (zK 2)) := fun x => (LK.later x.below).cell 2 _ rfl
  have k173 : ∀ x : Ext y113, x.w.cell? ⟨b3, 3, none⟩ = some (.int .u64 (zK 3)) := fun x => (LK.later x.below).cell 3 _ rfl
  have k174 : ∀ x : Ext y113, x.w.cell? ⟨b4, 0, none⟩ = some (.int .u64 (zX 0)) := fun x => (LX.later x.below).cell 0 _ rfl
  have k175 : ∀ x : Ext y113, x.w.cell? ⟨b4, 1, none⟩ = some (.int .u64 (zX 1)) := fun x => (LX.later x.below).cell 1 _ rfl
  have k176 : ∀ x : Ext y113, x.w.cell? ⟨b4, 2, none⟩ = some (.int .u64 (zX 2)) := fun x => (LX.later x.below).cell 2 _ rfl
  have k177 : ∀ x : Ext y113, x.w.cell? ⟨b4, 3, none⟩ = some (.int .u64 (zX 3)) := fun x => (LX.later x.below).cell 3 _ rfl
  have k178 : ∀ x : Ext y113, x.w.cell? ⟨b113, 0, none⟩ = some (.int .u64 (zR 0)) := fun x => (LR.later x.below).cell 0 _ rfl
  have k179 : ∀ x : Ext y113, x.w.cell? ⟨b113, 1, none⟩ = some (.int .u64 (zR 1)) := fun x => (LR.later x.below).cell 1 _ rfl
  have k180 : ∀ x : Ext y113, x.w.cell? ⟨b113, 2, none⟩ = some (.int .u64 (zR 2)) := fun x => (LR.later x.below).cell 2 _ rfl
  have k181 : ∀ x : Ext y113, x.w.cell? ⟨b113, 3, none⟩ = some (.int .u64 (zR 3)) := fun x => (LR.later x.below).cell 3 _ rfl
  clear LA LB LT LK LX LR
  have HQ := Lib.hid Q
  clear Q
  try simp only [List.append]
  refine wp_region_quick (C := Grows y113) (by kernel_rfl) (by kernel_rfl) (by kernel_rfl) (grows_refl y113) ?_
  repeat (go_big_quiet_step (first | (with_reducible exact Ret.at Hl1.out _) | (with_reducible exact Ret.at Hx1.out _) | (with_reducible exact Ret.at Hx2.out _) | (with_reducible exact Ret.at Hc1.out _) | (with_reducible exact Ret.at Ho2.out _) | (with_reducible exact RetT.at Hg1.out HT _) | (with_reducible exact Ret.at Hl2.out _) | (with_reducible exact RetT.at Hh2.out HT _)))
  refine wpQuiet_nil ?_
  rintro _ ⟨x, rfl⟩
  go_wp2
  go_ret
  exact ⟨rfl, HQ.out.trans (x.below.mono HQ.out.size)⟩
end Go.Proofs.YtfnhjnjklibkhaaDoor
