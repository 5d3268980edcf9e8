/- Not, And, Or and Xor of words. -/
import Derived.Test.YtfnhjnjklibkhaaDoorBitAwake
namespace Go.Proofs.YtfnhjnjklibkhaaDoor
open Go Go.RowKit
attribute [local go_sem] Oper.semAt_some Grows wide_fn eq4

set_option maxRecDepth 100000 in
set_option maxHeartbeats 4000000 in
theorem logic_walk (zA zB zK zNA zNB zC zD zX zO zE zF zG zU zV : Nat → Int) (n1 : Ret Tryd.prog 17 #[.agg #[.int .u64 (zA 0), .int .u64 (zA 1), .int .u64 (zA 2), .int .u64 (zA 3)]] (.agg #[.int .u64 (zNA 0), .int .u64 (zNA 1), .int .u64 (zNA 2), .int .u64 (zNA 3)])) (n2 : Ret Tryd.prog 17 #[.agg #[.int .u64 (zNA 0), .int .u64 (zNA 1), .int .u64 (zNA 2), .int .u64 (zNA 3)]] (.agg #[.int .u64 (zA 0), .int .u64 (zA 1), .int .u64 (zA 2), .int .u64 (zA 3)])) (a1 : Ret Tryd.prog 11 #[.agg #[.int .u64 (zA 0), .int .u64 (zA 1), .int .u64 (zA 2), .int .u64 (zA 3)], .agg #[.int .u64 (zB 0), .int .u64 (zB 1), .int .u64 (zB 2), .int .u64 (zB 3)]] (.agg #[.int .u64 (zC 0), .int .u64 (zC 1), .int .u64 (zC 2), .int .u64 (zC 3)])) (n3 : Ret Tryd.prog 17 #[.agg #[.int .u64 (zC 0), .int .u64 (zC 1), .int .u64 (zC 2), .int .u64 (zC 3)]] (.agg #[.int .u64 (zD 0), .int .u64 (zD 1), .int .u64 (zD 2), .int .u64 (zD 3)])) (n4 : Ret Tryd.prog 17 #[.agg #[.int .u64 (zB 0), .int .u64 (zB 1), .int .u64 (zB 2), .int .u64 (zB 3)]] (.agg #[.int .u64 (zNB 0), .int .u64 (zNB 1), .int .u64 (zNB 2), .int .u64 (zNB 3)])) (o1 : Ret Tryd.prog 13 #[.agg #[.int .u64 (zNA 0), .int .u64 (zNA 1), .int .u64 (zNA 2), .int .u64 (zNA 3)], .agg #[.int .u64 (zNB 0), .int .u64 (zNB 1), .int .u64 (zNB 2), .int .u64 (zNB 3)]] (.agg #[.int .u64 (zD 0), .int .u64 (zD 1), .int .u64 (zD 2), .int .u64 (zD 3)])) (x1 : Ret Tryd.prog 15 #[.agg #[.int .u64 (zA 0), .int .u64 (zA 1), .int .u64 (zA 2), .int .u64 (zA 3)], .agg #[.int .u64 (zB 0), .int .u64 (zB 1), .int .u64 (zB 2), .int .u64 (zB 3)]] (.agg #[.int .u64 (zX 0), .int .u64 (zX 1), .int .u64 (zX 2), .int .u64 (zX 3)])) (x2 : Ret Tryd.prog 15 #[.agg #[.int .u64 (zX 0), .int .u64 (zX 1), .int .u64 (zX 2), .int .u64 (zX 3)], .agg #[.int .u64 (zB 0), .int .u64 (zB 1), .int .u64 (zB 2), .int .u64 (zB 3)]] (.agg #[.int .u64 (zA 0), .int .u64 (zA 1), .int .u64 (zA 2), .int .u64 (zA 3)])) (o2 : Ret Tryd.prog 13 #[.agg #[.int .u64 (zA 0), .int .u64 (zA 1), .int .u64 (zA 2), .int .u64 (zA 3)], .agg #[.int .u64 (zB 0), .int .u64 (zB 1), .int .u64 (zB 2), .int .u64 (zB 3)]] (.agg #[.int .u64 (zO 0), .int .u64 (zO 1), .int .u64 (zO 2), .int .u64 (zO 3)])) (a2 : Ret Tryd.prog 11 #[.agg #[.int .u64 (zA 0), .int .u64 (zA 1), .int .u64 (zA 2), .int .u64 (zA 3)], .agg #[.int .u64 (zO 0), .int .u64 (zO 1), .int .u64 (zO 2), .int .u64 (zO 3)]] (.agg #[.int .u64 (zA 0), .int .u64 (zA 1), .int .u64 (zA 2), .int .u64 (zA 3)])) (o3 : Ret Tryd.prog 13 #[.agg #[.int .u64 (zA 0), .int .u64 (zA 1), .int .u64 (zA 2), .int .u64 (zA 3)], .agg #[.int .u64 (zC 0), .int .u64 (zC 1), .int .u64 (zC 2), .int .u64 (zC 3)]] (.agg #[.int .u64 (zA 0), .int .u64 (zA 1), .int .u64 (zA 2), .int .u64 (zA 3)])) (o4 : Ret Tryd.prog 13 #[.agg #[.int .u64 (zB 0), .int .u64 (zB 1), .int .u64 (zB 2), .int .u64 (zB 3)], .agg #[.int .u64 (zK 0), .int .u64 (zK 1), .int .u64 (zK 2), .int .u64 (zK 3)]] (.agg #[.int .u64 (zE 0), .int .u64 (zE 1), .int .u64 (zE 2), .int .u64 (zE 3)])) (a3 : Ret Tryd.prog 11 #[.agg #[.int .u64 (zA 0), .int .u64 (zA 1), .int .u64 (zA 2), .int .u64 (zA 3)], .agg #[.int .u64 (zE 0), .int .u64 (zE 1), .int .u64 (zE 2), .int .u64 (zE 3)]] (.agg #[.int .u64 (zF 0), .int .u64 (zF 1), .int .u64 (zF 2), .int .u64 (zF 3)])) (a4 : Ret Tryd.prog 11 #[.agg #[.int .u64 (zA 0), .int .u64 (zA 1), .int .u64 (zA 2), .int .u64 (zA 3)], .agg #[.int .u64 (zK 0), .int .u64 (zK 1), .int .u64 (zK 2), .int .u64 (zK 3)]] (.agg #[.int .u64 (zG 0), .int .u64 (zG 1), .int .u64 (zG 2), .int .u64 (zG 3)])) (o5 : Ret Tryd.prog 13 #[.agg #[.int .u64 (zC 0), .int .u64 (zC 1), .int .u64 (zC 2), .int .u64 (zC 3)], .agg #[.int .u64 (zG 0), .int .u64 (zG 1), .int .u64 (zG 2), .int .u64 (zG 3)]] (.agg #[.int .u64 (zF 0), .int .u64 (zF 1), .int .u64 (zF 2), .int .u64 (zF 3)])) (a5 : Ret Tryd.prog 11 #[.agg #[.int .u64 (zA 0), .int .u64 (zA 1), .int .u64 (zA 2), .int .u64 (zA 3)], .agg #[.int .u64 (zNB 0), .int .u64 (zNB 1), .int .u64 (zNB 2), .int .u64 (zNB 3)]] (.agg #[.int .u64 (zU 0), .int .u64 (zU 1), .int .u64 (zU 2), .int .u64 (zU 3)])) (a6 : Ret Tryd.prog 11 #[.agg #[.int .u64 (zB 0), .int .u64 (zB 1), .int .u64 (zB 2), .int .u64 (zB 3)], .agg #[.int .u64 (zNA 0), .int .u64 (zNA 1), .int .u64 (zNA 2), .int .u64 (zNA 3)]] (.agg #[.int .u64 (zV 0), .int .u64 (zV 1), .int .u64 (zV 2), .int .u64 (zV 3)])) (o6 : Ret Tryd.prog 13 #[.agg #[.int .u64 (zU 0), .int .u64 (zU 1), .int .u64 (zU 2), .int .u64 (zU 3)], .agg #[.int .u64 (zV 0), .int .u64 (zV 1), .int .u64 (zV 2), .int .u64 (zV 3)]] (.agg #[.int .u64 (zX 0), .int .u64 (zX 1), .int .u64 (zX 2), .int .u64 (zX 3)])) :
    RetT Tryd.prog 4 #[.agg #[.int .u64 (zA 0), .int .u64 (zA 1), .int .u64 (zA 2), .int .u64 (zA 3)], .agg #[.int .u64 (zB 0), .int .u64 (zB 1), .int .u64 (zB 2), .int .u64 (zB 3)], .agg #[.int .u64 (zK 0), .int .u64 (zK 1), .int .u64 (zK 2), .int .u64 (zK 3)]] (.bool true) := by
  intro w HT
  have k0 := awake_ret
  have Hn1 := Lib.hid n1
  have Hn2 := Lib.hid n2
  have Ha1 := Lib.hid a1
  have Hn3 := Lib.hid n3
  have Hn4 := Lib.hid n4
  have Ho1 := Lib.hid o1
  have Hx1 := Lib.hid x1
  have Hx2 := Lib.hid x2
  have Ho2 := Lib.hid o2
  have Ha2 := Lib.hid a2
  have Ho3 := Lib.hid o3
  have Ho4 := Lib.hid o4
  have Ha3 := Lib.hid a3
  have Ha4 := Lib.hid a4
  have Ho5 := Lib.hid o5
  have Ha5 := Lib.hid a5
  have Ha6 := Lib.hid a6
  have Ho6 := Lib.hid o6
  have Hk0 := Lib.hid k0
  clear n1 n2 a1 n3 n4 o1 x1 x2 o2 a2 o3 o4 a3 a4 o5 a5 a6 o6 k0
  go_enter Tryd.func4, Tryd.ntmps4
  have LA := Has.new w 24 #[.int .u64 (zA 0), .int .u64 (zA 1), .int .u64 (zA 2), .int .u64 (zA 3)]
  have k1 := LA.cell 0 _ rfl
  have k2 := LA.cell 1 _ rfl
  have k3 := LA.cell 2 _ rfl
  have k4 := LA.cell 3 _ rfl
  have LA := LA.alloc (.cells #[.int .u64 (zB 0), .int .u64 (zB 1), .int .u64 (zB 2), .int .u64 (zB 3)] 24)
  have LB := Has.new (w.alloc (.cells #[.int .u64 (zA 0), .int .u64 (zA 1), .int .u64 (zA 2), .int .u64 (zA 3)] 24)) 24 #[.int .u64 (zB 0), .int .u64 (zB 1), .int .u64 (zB 2), .int .u64 (zB 3)]
  simp only [World.size_alloc] at LB
  have k5 := LA.cell 0 _ rfl
  have k6 := LA.cell 1 _ rfl
  have k7 := LA.cell 2 _ rfl
  have k8 := LA.cell 3 _ rfl
  have k9 := LB.cell 0 _ rfl
  have k10 := LB.cell 1 _ rfl
  have k11 := LB.cell 2 _ rfl
  have k12 := LB.cell 3 _ rfl
  have LA := LA.alloc (.cells #[.int .u64 (zK 0), .int .u64 (zK 1), .int .u64 (zK 2), .int .u64 (zK 3)] 24)
  have LB := LB.alloc (.cells #[.int .u64 (zK 0), .int .u64 (zK 1), .int .u64 (zK 2), .int .u64 (zK 3)] 24)
  have LK := Has.new ((w.alloc (.cells #[.int .u64 (zA 0), .int .u64 (zA 1), .int .u64 (zA 2), .int .u64 (zA 3)] 24)).alloc (.cells #[.int .u64 (zB 0), .int .u64 (zB 1), .int .u64 (zB 2), .int .u64 (zB 3)] 24)) 24 #[.int .u64 (zK 0), .int .u64 (zK 1), .int .u64 (zK 2), .int .u64 (zK 3)]
  simp only [World.size_alloc] at LK
  have k13 := LA.cell 0 _ rfl
  have k14 := LA.cell 1 _ rfl
  have k15 := LA.cell 2 _ rfl
  have k16 := LA.cell 3 _ rfl
  have k17 := LB.cell 0 _ rfl
  have k18 := LB.cell 1 _ rfl
  have k19 := LB.cell 2 _ rfl
  have k20 := LB.cell 3 _ rfl
  have k21 := LK.cell 0 _ rfl
  have k22 := LK.cell 1 _ rfl
  have k23 := LK.cell 2 _ rfl
  have k24 := LK.cell 3 _ rfl
  have Q := (Below.refl w.heap.size w)
  have Q := Q.alloc Q.size (.cells #[.int .u64 (zA 0), .int .u64 (zA 1), .int .u64 (zA 2), .int .u64 (zA 3)] 24)
  have HT := HT.alloc (.cells #[.int .u64 (zA 0), .int .u64 (zA 1), .int .u64 (zA 2), .int .u64 (zA 3)] 24)
  have Q := Q.alloc Q.size (.cells #[.int .u64 (zB 0), .int .u64 (zB 1), .int .u64 (zB 2), .int .u64 (zB 3)] 24)
  have HT := HT.alloc (.cells #[.int .u64 (zB 0), .int .u64 (zB 1), .int .u64 (zB 2), .int .u64 (zB 3)] 24)
  have Q := Q.alloc Q.size (.cells #[.int .u64 (zK 0), .int .u64 (zK 1), .int .u64 (zK 2), .int .u64 (zK 3)] 24)
  have HT := HT.alloc (.cells #[.int .u64 (zK 0), .int .u64 (zK 1), .int .u64 (zK 2), .int .u64 (zK 3)] 24)
  go_wp2_with fail
  clear k1 k2 k3 k4 k5 k6 k7 k8 k9 k10 k11 k12 k13 k14 k15 k16 k17 k18 k19 k20 k21 k22 k23 k24
  obtain ⟨W1, hW1⟩ : ∃ W1, (((w.alloc (.cells #[.int .u64 (zA 0), .int .u64 (zA 1), .int .u64 (zA 2), .int .u64 (zA 3)] 24)).alloc (.cells #[.int .u64 (zB 0), .int .u64 (zB 1), .int .u64 (zB 2), .int .u64 (zB 3)] 24)).alloc (.cells #[.int .u64 (zK 0), .int .u64 (zK 1), .int .u64 (zK 2), .int .u64 (zK 3)] 24)) = W1 := ⟨_, rfl⟩
  rw [hW1] at LA LB LK Q HT ⊢
  clear hW1
  refine (Hk0.out _ HT).mono ?_
  rintro e v25 ⟨rfl, q⟩
  have HT := HT.later q
  have LA := LA.later q
  have LB := LB.later q
  have LK := LK.later q
  have Q := Q.trans (q.mono Q.size)
  clear q
  have k26 := LA.cell 0 _ rfl
  have k27 := LA.cell 1 _ rfl
  have k28 := LA.cell 2 _ rfl
  have k29 := LA.cell 3 _ rfl
  have k30 := LB.cell 0 _ rfl
  have k31 := LB.cell 1 _ rfl
  have k32 := LB.cell 2 _ rfl
  have k33 := LB.cell 3 _ rfl
  have k34 := LK.cell 0 _ rfl
  have k35 := LK.cell 1 _ rfl
  have k36 := LK.cell 2 _ rfl
  have k37 := LK.cell 3 _ rfl
  go_wp2_with fail
  clear k26 k27 k28 k29 k30 k31 k32 k33 k34 k35 k36 k37
  have k38 : ∀ x : Ext v25, x.w.cell? ⟨w.heap.size, 0, none⟩ = some (.int .u64 (zA 0)) := fun x => (LA.later x.below).cell 0 _ rfl
  have k39 : ∀ x : Ext v25, x.w.cell? ⟨w.heap.size, 1, none⟩ = some (.int .u64 (zA 1)) := fun x => (LA.later x.below).cell 1 _ rfl
  have k40 : ∀ x : Ext v25, x.w.cell? ⟨w.heap.size, 2, none⟩ = some (.int .u64 (zA 2)) := fun x => (LA.later x.below).cell 2 _ rfl
  have k41 : ∀ x : Ext v25, x.w.cell? ⟨w.heap.size, 3, none⟩ = some (.int .u64 (zA 3)) := fun x => (LA.later x.below).cell 3 _ rfl
  have k42 : ∀ x : Ext v25, x.w.cell? ⟨w.heap.size + 1, 0, none⟩ = some (.int .u64 (zB 0)) := fun x => (LB.later x.below).cell 0 _ rfl
  have k43 : ∀ x : Ext v25, x.w.cell? ⟨w.heap.size + 1, 1, none⟩ = some (.int .u64 (zB 1)) := fun x => (LB.later x.below).cell 1 _ rfl
  have k44 : ∀ x : Ext v25, x.w.cell? ⟨w.heap.size + 1, 2, none⟩ = some (.int .u64 (zB 2)) := fun x => (LB.later x.below).cell 2 _ rfl
  have k45 : ∀ x : Ext v25, x.w.cell? ⟨w.heap.size + 1, 3, none⟩ = some (.int .u64 (zB 3)) := fun x => (LB.later x.below).cell 3 _ rfl
  have k46 : ∀ x : Ext v25, x.w.cell? ⟨w.heap.size + 1 + 1, 0, none⟩ = some (.int .u64 (zK 0)) := fun x => (LK.later x.below).cell 0 _ rfl
  have k47 : ∀ x : Ext v25, x.w.cell? ⟨w.heap.size + 1 + 1, 1, none⟩ = some (.int .u64 (zK 1)) := fun x => (LK.later x.below).cell 1 _ rfl
  have k48 : ∀ x : Ext v25, x.w.cell? ⟨w.heap.size + 1 + 1, 2, none⟩ = some (.int .u64 (zK 2)) := fun x => (LK.later x.below).cell 2 _ rfl
  have k49 : ∀ x : Ext v25, x.w.cell? ⟨w.heap.size + 1 + 1, 3, none⟩ = some (.int .u64 (zK 3)) := fun x => (LK.later x.below).cell 3 _ rfl
  clear LA LB LK
  have HQ := Lib.hid Q
  clear Q
  try simp only [List.append]
  refine wp_region_quick (C := Grows v25) (by kernel_rfl) (by kernel_rfl) (by kernel_rfl) (grows_refl v25) ?_
  repeat (go_big_quiet_step (first | (with_reducible exact Ret.at Hn1.out _) | (with_reducible exact Ret.at Hn2.out _) | (with_reducible exact Ret.at Ha1.out _) | (with_reducible exact Ret.at Hn3.out _) | (with_reducible exact Ret.at Hn4.out _) | (with_reducible exact Ret.at Ho1.out _) | (with_reducible exact Ret.at Hx1.out _) | (with_reducible exact Ret.at Hx2.out _) | (with_reducible exact Ret.at Ho2.out _) | (with_reducible exact Ret.at Ha2.out _) | (with_reducible exact Ret.at Ho3.out _) | (with_reducible exact Ret.at Ho4.out _) | (with_reducible exact Ret.at Ha3.out _) | (with_reducible exact Ret.at Ha4.out _) | (with_reducible exact Ret.at Ho5.out _) | (with_reducible exact Ret.at Ha5.out _) | (with_reducible exact Ret.at Ha6.out _) | (with_reducible exact Ret.at Ho6.out _)))
  refine wpQuiet_nil ?_
  rintro _ ⟨x, rfl⟩
  go_wp2
  go_ret
  exact ⟨rfl, HQ.out.trans (x.below.mono HQ.out.size)⟩
end Go.Proofs.YtfnhjnjklibkhaaDoor
