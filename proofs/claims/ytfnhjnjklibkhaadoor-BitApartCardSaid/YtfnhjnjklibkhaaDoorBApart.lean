/- And and Or, and Xor and And twice, come to the sum. -/
import Derived.Test.YtfnhjnjklibkhaaDoorBitAwake
namespace Go.Proofs.YtfnhjnjklibkhaaDoor
open Go Go.RowKit
attribute [local go_sem] Oper.semAt_some Grows wide_fn eq4

set_option maxRecDepth 100000 in
set_option maxHeartbeats 4000000 in
theorem apart_walk (zA zB zS zC zO zX zD zN zM : Nat → Int) (s1 : Ret Tryd.prog 38 #[.agg #[.int .u64 (zA 0), .int .u64 (zA 1), .int .u64 (zA 2), .int .u64 (zA 3)], .agg #[.int .u64 (zB 0), .int .u64 (zB 1), .int .u64 (zB 2), .int .u64 (zB 3)]] (.agg #[.int .u64 (zS 0), .int .u64 (zS 1), .int .u64 (zS 2), .int .u64 (zS 3)])) (a1 : Ret Tryd.prog 11 #[.agg #[.int .u64 (zA 0), .int .u64 (zA 1), .int .u64 (zA 2), .int .u64 (zA 3)], .agg #[.int .u64 (zB 0), .int .u64 (zB 1), .int .u64 (zB 2), .int .u64 (zB 3)]] (.agg #[.int .u64 (zC 0), .int .u64 (zC 1), .int .u64 (zC 2), .int .u64 (zC 3)])) (o1 : Ret Tryd.prog 13 #[.agg #[.int .u64 (zA 0), .int .u64 (zA 1), .int .u64 (zA 2), .int .u64 (zA 3)], .agg #[.int .u64 (zB 0), .int .u64 (zB 1), .int .u64 (zB 2), .int .u64 (zB 3)]] (.agg #[.int .u64 (zO 0), .int .u64 (zO 1), .int .u64 (zO 2), .int .u64 (zO 3)])) (s2 : Ret Tryd.prog 38 #[.agg #[.int .u64 (zC 0), .int .u64 (zC 1), .int .u64 (zC 2), .int .u64 (zC 3)], .agg #[.int .u64 (zO 0), .int .u64 (zO 1), .int .u64 (zO 2), .int .u64 (zO 3)]] (.agg #[.int .u64 (zS 0), .int .u64 (zS 1), .int .u64 (zS 2), .int .u64 (zS 3)])) (x1 : Ret Tryd.prog 15 #[.agg #[.int .u64 (zA 0), .int .u64 (zA 1), .int .u64 (zA 2), .int .u64 (zA 3)], .agg #[.int .u64 (zB 0), .int .u64 (zB 1), .int .u64 (zB 2), .int .u64 (zB 3)]] (.agg #[.int .u64 (zX 0), .int .u64 (zX 1), .int .u64 (zX 2), .int .u64 (zX 3)])) (s3 : Ret Tryd.prog 38 #[.agg #[.int .u64 (zC 0), .int .u64 (zC 1), .int .u64 (zC 2), .int .u64 (zC 3)], .agg #[.int .u64 (zC 0), .int .u64 (zC 1), .int .u64 (zC 2), .int .u64 (zC 3)]] (.agg #[.int .u64 (zD 0), .int .u64 (zD 1), .int .u64 (zD 2), .int .u64 (zD 3)])) (s4 : Ret Tryd.prog 38 #[.agg #[.int .u64 (zX 0), .int .u64 (zX 1), .int .u64 (zX 2), .int .u64 (zX 3)], .agg #[.int .u64 (zD 0), .int .u64 (zD 1), .int .u64 (zD 2), .int .u64 (zD 3)]] (.agg #[.int .u64 (zS 0), .int .u64 (zS 1), .int .u64 (zS 2), .int .u64 (zS 3)])) (n1 : Ret Tryd.prog 17 #[.agg #[.int .u64 (zA 0), .int .u64 (zA 1), .int .u64 (zA 2), .int .u64 (zA 3)]] (.agg #[.int .u64 (zN 0), .int .u64 (zN 1), .int .u64 (zN 2), .int .u64 (zN 3)])) (s5 : Ret Tryd.prog 38 #[.agg #[.int .u64 (zN 0), .int .u64 (zN 1), .int .u64 (zN 2), .int .u64 (zN 3)], .agg #[.int .u64 1, .int .u64 0, .int .u64 0, .int .u64 0]] (.agg #[.int .u64 (zM 0), .int .u64 (zM 1), .int .u64 (zM 2), .int .u64 (zM 3)])) (d1 : Ret Tryd.prog 39 #[.agg #[.int .u64 0, .int .u64 0, .int .u64 0, .int .u64 0], .agg #[.int .u64 (zA 0), .int .u64 (zA 1), .int .u64 (zA 2), .int .u64 (zA 3)]] (.agg #[.int .u64 (zM 0), .int .u64 (zM 1), .int .u64 (zM 2), .int .u64 (zM 3)])) :
    RetT Tryd.prog 9 #[.agg #[.int .u64 (zA 0), .int .u64 (zA 1), .int .u64 (zA 2), .int .u64 (zA 3)], .agg #[.int .u64 (zB 0), .int .u64 (zB 1), .int .u64 (zB 2), .int .u64 (zB 3)]] (.bool true) := by
  intro w HT
  have k0 := awake_ret
  have Hs1 := Lib.hid s1
  have Ha1 := Lib.hid a1
  have Ho1 := Lib.hid o1
  have Hs2 := Lib.hid s2
  have Hx1 := Lib.hid x1
  have Hs3 := Lib.hid s3
  have Hs4 := Lib.hid s4
  have Hn1 := Lib.hid n1
  have Hs5 := Lib.hid s5
  have Hd1 := Lib.hid d1
  have Hk0 := Lib.hid k0
  clear s1 a1 o1 s2 x1 s3 s4 n1 s5 d1 k0
  go_enter Tryd.func9, Tryd.ntmps9
  have LA := Has.new w 24 #[.int .u64 (zA 0), .int .u64 (zA 1), .int .u64 (zA 2), .int .u64 (zA 3)]
  have k1 := LA.cell 0 _ rfl
  have k2 := LA.cell 1 _ rfl
  have k3 := LA.cell 2 _ rfl
  have k4 := LA.cell 3 _ rfl
  have LA := LA.alloc (.cells #[.int .u64 (zB 0), .int .u64 (zB 1), .int .u64 (zB 2), .int .u64 (zB 3)] 24)
  have LB := Has.new (w.alloc (.cells #[.int .u64 (zA 0), .int .u64 (zA 1), .int .u64 (zA 2), .int .u64 (zA 3)] 24)) 24 #[.int .u64 (zB 0), .int .u64 (zB 1), .int .u64 (zB 2), .int .u64 (zB 3)]
  simp only [World.size_alloc] at LB
  have k5 := LA.cell 0 _ rfl
  have k6 := LA.cell 1 _ rfl
  have k7 := LA.cell 2 _ rfl
  have k8 := LA.cell 3 _ rfl
  have k9 := LB.cell 0 _ rfl
  have k10 := LB.cell 1 _ rfl
  have k11 := LB.cell 2 _ rfl
  have k12 := LB.cell 3 _ rfl
  have Q := (Below.refl w.heap.size w)
  have Q := Q.alloc Q.size (.cells #[.int .u64 (zA 0), .int .u64 (zA 1), .int .u64 (zA 2), .int .u64 (zA 3)] 24)
  have HT := HT.alloc (.cells #[.int .u64 (zA 0), .int .u64 (zA 1), .int .u64 (zA 2), .int .u64 (zA 3)] 24)
  have Q := Q.alloc Q.size (.cells #[.int .u64 (zB 0), .int .u64 (zB 1), .int .u64 (zB 2), .int .u64 (zB 3)] 24)
  have HT := HT.alloc (.cells #[.int .u64 (zB 0), .int .u64 (zB 1), .int .u64 (zB 2), .int .u64 (zB 3)] 24)
  go_wp2_with fail
  clear k1 k2 k3 k4 k5 k6 k7 k8 k9 k10 k11 k12
  obtain ⟨W1, hW1⟩ : ∃ W1, ((w.alloc (.cells #[.int .u64 (zA 0), .int .u64 (zA 1), .int .u64 (zA 2), .int .u64 (zA 3)] 24)).alloc (.cells #[.int .u64 (zB 0), .int .u64 (zB 1), .int .u64 (zB 2), .int .u64 (zB 3)] 24)) = W1 := ⟨_, rfl⟩
  rw [hW1] at LA LB Q HT ⊢
  clear hW1
  refine (Hk0.out _ HT).mono ?_
  rintro e v13 ⟨rfl, q⟩
  have HT := HT.later q
  have LA := LA.later q
  have LB := LB.later q
  have Q := Q.trans (q.mono Q.size)
  clear q
  have k14 := LA.cell 0 _ rfl
  have k15 := LA.cell 1 _ rfl
  have k16 := LA.cell 2 _ rfl
  have k17 := LA.cell 3 _ rfl
  have k18 := LB.cell 0 _ rfl
  have k19 := LB.cell 1 _ rfl
  have k20 := LB.cell 2 _ rfl
  have k21 := LB.cell 3 _ rfl
  go_wp2_with fail
  clear k14 k15 k16 k17 k18 k19 k20 k21
  refine (Hs1.out _).mono ?_
  rintro e v22 ⟨rfl, q⟩
  have HT := HT.later q
  have LA := LA.later q
  have LB := LB.later q
  have Q := Q.trans (q.mono Q.size)
  clear q
  have k23 := LA.cell 0 _ rfl
  have k24 := LA.cell 1 _ rfl
  have k25 := LA.cell 2 _ rfl
  have k26 := LA.cell 3 _ rfl
  have k27 := LB.cell 0 _ rfl
  have k28 := LB.cell 1 _ rfl
  have k29 := LB.cell 2 _ rfl
  have k30 := LB.cell 3 _ rfl
  have LA := LA.alloc (.cells #[.int .u64 (zS 0), .int .u64 (zS 1), .int .u64 (zS 2), .int .u64 (zS 3)] 24)
  have LB := LB.alloc (.cells #[.int .u64 (zS 0), .int .u64 (zS 1), .int .u64 (zS 2), .int .u64 (zS 3)] 24)
  have LS := Has.new v22 24 #[.int .u64 (zS 0), .int .u64 (zS 1), .int .u64 (zS 2), .int .u64 (zS 3)]
  have k31 := LA.cell 0 _ rfl
  have k32 := LA.cell 1 _ rfl
  have k33 := LA.cell 2 _ rfl
  have k34 := LA.cell 3 _ rfl
  have k35 := LB.cell 0 _ rfl
  have k36 := LB.cell 1 _ rfl
  have k37 := LB.cell 2 _ rfl
  have k38 := LB.cell 3 _ rfl
  have k39 := LS.cell 0 _ rfl
  have k40 := LS.cell 1 _ rfl
  have k41 := LS.cell 2 _ rfl
  have k42 := LS.cell 3 _ rfl
  have Q := Q.alloc Q.size (.cells #[.int .u64 (zS 0), .int .u64 (zS 1), .int .u64 (zS 2), .int .u64 (zS 3)] 24)
  have HT := HT.alloc (.cells #[.int .u64 (zS 0), .int .u64 (zS 1), .int .u64 (zS 2), .int .u64 (zS 3)] 24)
  go_wp2_with fail
  clear k23 k24 k25 k26 k27 k28 k29 k30 k31 k32 k33 k34 k35 k36 k37 k38 k39 k40 k41 k42
  obtain ⟨W2, hW2⟩ : ∃ W2, (v22.alloc (.cells #[.int .u64 (zS 0), .int .u64 (zS 1), .int .u64 (zS 2), .int .u64 (zS 3)] 24)) = W2 := ⟨_, rfl⟩
  rw [hW2] at LA LB LS Q HT ⊢
  clear hW2
  generalize v22.heap.size = b2 at *
  refine (Ha1.out _).mono ?_
  rintro e v43 ⟨rfl, q⟩
  have HT := HT.later q
  have LA := LA.later q
  have LB := LB.later q
  have LS := LS.later q
  have Q := Q.trans (q.mono Q.size)
  clear q
  have k44 := LA.cell 0 _ rfl
  have k45 := LA.cell 1 _ rfl
  have k46 := LA.cell 2 _ rfl
  have k47 := LA.cell 3 _ rfl
  have k48 := LB.cell 0 _ rfl
  have k49 := LB.cell 1 _ rfl
  have k50 := LB.cell 2 _ rfl
  have k51 := LB.cell 3 _ rfl
  have k52 := LS.cell 0 _ rfl
  have k53 := LS.cell 1 _ rfl
  have k54 := LS.cell 2 _ rfl
  have k55 := LS.cell 3 _ rfl
  have LA := LA.alloc (.cells #[.int .u64 (zC 0), .int .u64 (zC 1), .int .u64 (zC 2), .int .u64 (zC 3)] 24)
  have LB := LB.alloc (.cells #[.int .u64 (zC 0), .int .u64 (zC 1), .int .u64 (zC 2), .int .u64 (zC 3)] 24)
  have LS := LS.alloc (.cells #[.int .u64 (zC 0), .int .u64 (zC 1), .int .u64 (zC 2), .int .u64 (zC 3)] 24)
  have LC := Has.new v43 24 #[.int .u64 (zC 0), .int .u64 (zC 1), .int .u64 (zC 2), .int .u64 (zC 3)]
  have k56 := LA.cell 0 _ rfl
  have k57 := LA.cell 1 _ rfl
  have k58 := LA.cell 2 _ rfl
  have k59 := LA.cell 3 _ rfl
  have k60 := LB.cell 0 _ rfl
  have k61 := LB.cell 1 _ rfl
  have k62 := LB.cell 2 _ rfl
  have k63 := LB.cell 3 _ rfl
  have k64 := LS.cell 0 _ rfl
  have k65 := LS.cell 1 _ rfl
  have k66 := LS.cell 2 _ rfl
  have k67 := LS.cell 3 _ rfl
  have k68 := LC.cell 0 _ rfl
  have k69 := LC.cell 1 _ rfl
  have k70 := LC.cell 2 _ rfl
  have k71 := LC.cell 3 _ rfl
  have Q := Q.alloc Q.size (.cells #[.int .u64 (zC 0), .int .u64 (zC 1), .int .u64 (zC 2), .int .u64 (zC 3)] 24)
  have HT := HT.alloc (.cells #[.int .u64 (zC 0), .int .u64 (zC 1), .int .u64 (zC 2), .int .u64 (zC 3)] 24)
  go_wp2_with fail
  clear k44 k45 k46 k47 k48 k49 k50 k51 k52 k53 k54 k55 k56 k57 k58 k59 k60 k61 k62 k63 k64 k65 k66 k67 k68 k69 k70 k71
  obtain ⟨W3, hW3⟩ : ∃ W3, (v43.alloc (.cells #[.int .u64 (zC 0), .int .u64 (zC 1), .int .u64 (zC 2), .int .u64 (zC 3)] 24)) = W3 := ⟨_, rfl⟩
  rw [hW3] at LA LB LS LC Q HT ⊢
  clear hW3
  generalize v43.heap.size = b3 at *
  have k72 : ∀ x : Ext W3, x.w.cell? ⟨w.heap.size, 0, none⟩ = some (.int .u64 (zA 0)) := fun x => (LA.later x.below).cell 0 _ rfl
  have k73 : ∀ x : Ext W3, x.w.cell? ⟨w.heap.size, 1, none⟩ = some (.int .u64 (zA 1)) := fun x => (LA.later x.below).cell 1 _ rfl
  have k74 : ∀ x : Ext W3, x.w.cell? ⟨w.heap.size, 2, none⟩ = some (.int .u64 (zA 2)) := fun x => (LA.later x.below).cell 2 _ rfl
  have k75 : ∀ x : Ext W3, x.w.cell? ⟨w.heap.size, 3, none⟩ = some (.int .u64 (zA 3)) := fun x => (LA.later x.below).cell 3 _ rfl
  have k76 : ∀ x : Ext W3, x.w.cell? ⟨w.heap.size + 1, 0, none⟩ = some (.int .u64 (zB 0)) := fun x => (LB.later x.below).cell 0 _ rfl
  have k77 : ∀ x : Ext W3, x.w.cell? ⟨w.heap.size + 1, 1, none⟩ = some (.int .u64 (zB 1)) := fun x => (LB.later x.below).cell 1 _ rfl
  have k78 : ∀ x : Ext W3, x.w.cell? ⟨w.heap.size + 1, 2, none⟩ = some (.int .u64 (zB 2)) := fun x => (LB.later x.below).cell 2 _ rfl
  have k79 : ∀ x : Ext W3, x.w.cell? ⟨w.heap.size + 1, 3, none⟩ = some (.int .u64 (zB 3)) := fun x => (LB.later x.below).cell 3 _ rfl
  have k80 : ∀ x : Ext W3, x.w.cell? ⟨b2, 0, none⟩ = some (.int .u64 (zS 0)) := fun x => (LS.later x.below).cell 0 _ rfl
  have k81 : ∀ x : Ext W3, x.w.cell? ⟨b2, 1, none⟩ = some (.int .u64 (zS 1)) := fun x => (LS.later x.below).cell 1 _ rfl
  have k82 : ∀ x : Ext W3, x.w.cell? ⟨b2, 2, none⟩ = some (.int .u64 (zS 2)) := fun x => (LS.later x.below).cell 2 _ rfl
  have k83 : ∀ x : Ext W3, x.w.cell? ⟨b2, 3, none⟩ = some (.int .u64 (zS 3)) := fun x => (LS.later x.below).cell 3 _ rfl
  have k84 : ∀ x : Ext W3, x.w.cell? ⟨b3, 0, none⟩ = some (.int .u64 (zC 0)) := fun x => (LC.later x.below).cell 0 _ rfl
  have k85 : ∀ x : Ext W3, x.w.cell? ⟨b3, 1, none⟩ = some (.int .u64 (zC 1)) := fun x => (LC.later x.below).cell 1 _ rfl
  have k86 : ∀ x : Ext W3, x.w.cell? ⟨b3, 2, none⟩ = some (.int .u64 (zC 2)) := fun x => (LC.later x.below).cell 2 _ rfl
  have k87 : ∀ x : Ext W3, x.w.cell? ⟨b3, 3, none⟩ = some (.int .u64 (zC 3)) := fun x => (LC.later x.below).cell 3 _ rfl
  clear LA LB LS LC
  have HQ := Lib.hid Q
  clear Q
  try simp only [List.append]
  refine wp_region_quick (C := Grows W3) (by kernel_rfl) (by kernel_rfl) (by kernel_rfl) (grows_refl W3) ?_
  repeat (go_big_quiet_step (first | (with_reducible exact Ret.at Ho1.out _) | (with_reducible exact Ret.at Hs2.out _) | (with_reducible exact Ret.at Hx1.out _) | (with_reducible exact Ret.at Hs3.out _) | (with_reducible exact Ret.at Hs4.out _) | (with_reducible exact Ret.at Hn1.out _) | (with_reducible exact Ret.at Hs5.out _) | (with_reducible exact Ret.at Hd1.out _)))
  refine wpQuiet_nil ?_
  rintro _ ⟨x, rfl⟩
  go_wp2
  go_ret
  exact ⟨rfl, HQ.out.trans (x.below.mono HQ.out.size)⟩
end Go.Proofs.YtfnhjnjklibkhaaDoor
